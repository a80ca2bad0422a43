/- dom's copied: a list in new memory. -/
import Derived.Test.YtllimmmgjpnhkaaCopyA
import Derived.Laws.CopyOwn
set_option linter.unusedVariables false
namespace Go.Proofs.Ytllimmmgjpnhkaa
open Go.Deep (BT)
open Go.RowKit M

/-- a slice whose elements' cells are these, wherever they lie -/
structure RowOn (w : World) (v : Value) (n size : Nat) (row : List Value) : Prop where
  len : row.length = n * size
  one : ∀ u ∈ row, u.oneCell' = true
  at' : ∃ a cap, v = .slice a n cap ∧ n ≤ cap ∧ cap ≤ maxLen ∧ (n = 0 ∨ ∃ ad, a = some ad ∧ ∀ j u, row[j]? = some u → w.cell? (ad.add j) = some u)

theorem RowOn.nothing (w : World) (size : Nat) : RowOn w (.slice none 0 0) 0 size [] := ⟨by simp, by simp, none, 0, rfl, Nat.le_refl _, Nat.zero_le _, .inl rfl⟩

/-- what the call owns is such a slice -/
theorem RowOn.own {w : World} {B : Nat} {e : TypeId} {size : Nat} {v : Value} {n : Nat} {row : List Value} (h : w.ownsRow B e size v n row) (h1 : ∀ u ∈ row, u.oneCell' = true) : RowOn w v n size row := by
  refine ⟨h.1, h1, ?_⟩
  rcases h.2 with ⟨rfl, h0⟩ | ⟨g, cap, cur, rfl, hg, hh, hc1, hc2, hs, ht⟩
  · exact ⟨none, 0, by rw [h0], by omega, Nat.zero_le _, .inl h0⟩
  · exact ⟨_, cap, rfl, hc1, hc2, .inr ⟨_, rfl, fun j u hu => h.cells (g := g) rfl j u hu⟩⟩

/-- 'copy' of a whole row onto one that is as long -/
theorem run_copy_whole {P : Program} (w : World) (dT sT ty elem : TypeId) (g dCap n size : Nat) (a : Addr) (sCap : Nat) (cur : Array Value) (t : TypeId) (cs : List Value)
    (hu : P.underlying dT = some (.slice elem)) (hs : (P.info? elem).map (·.size) = some size) (hg : w.heap[g]? = some (.cells cur t (0, 0))) (hn : cs.length = n * size)
    (hsrc : ∀ j v, cs[j]? = some v → w.cell? (a.add j) = some v) (hfit : cur.size = cs.length) (h1 : ∀ v ∈ cs, v.oneCell' = true) :
    (Builtin.copy_ #[dT, sT] ty #[.slice (some ⟨g, 0, none⟩) n dCap, .slice (some a) n sCap]).run P w = .ok (goInt n) (w.setRow g cs.toArray) := by
  have hl := run_loadCells_list (P := P) w a cs hsrc
  have hst := run_storeCells_at P g 0 t cs 0 cur w hg (by omega) h1
  have e : (cur.toList.take (0 + 0) ++ cs ++ cur.toList.drop (0 + 0 + cs.length)).toArray = cs.toArray := by
    rw [List.drop_eq_nil_of_le (by simp [hfit])]; simp
  rw [e] at hst
  cases hq : P.info? elem with
  | none => simp [hq] at hs
  | some i =>
    have hi : i.size = size := by simpa [hq] using hs
    simp [Builtin.copy_, run_underlying hu, Builtin.lenOf, Builtin.firstCells, sizeOf, typeInfo, hq, hi, ← hn, hl, hst]

theorem infoI : (Try.prog.info? 3).map (fun i => (i.zero, i.size, i.bytes)) = some (some (.int .i64 0), 1, 8) := by kernel_rfl
theorem infoAt : (Try.prog.info? 97).map (fun i => (i.zero, i.size, i.bytes)) = some (some (.agg #[.string ⟨#[]⟩, .string ⟨#[]⟩]), 2, 32) := by kernel_rfl

/-- a new row behind a whole copy -/
theorem whole_own {w w1 : World} {e : TypeId} {size n : Nat} {xs row : List Value} (hown : w1.ownsRow w.heap.size e size (.slice (some ⟨w.heap.size, 0, none⟩) n n) n xs) (hg : w.grownBy w1 none) (hl : row.length = n * size) :
    ∃ cur, w1.heap[w.heap.size]? = some (.cells cur e (0, 0)) ∧ cur.size = row.length ∧ (w1.setRow w.heap.size row.toArray).ownsRow w.heap.size e size (.slice (some ⟨w.heap.size, 0, none⟩) n n) n row ∧ Below w.heap.size w (w1.setRow w.heap.size row.toArray) := by
  rcases hown.2 with ⟨h, _⟩ | ⟨g, cap, cur, h, hg0, hh, hc1, hc2, hs, ht⟩
  · cases h
  · cases h
    refine ⟨cur, hh, by rw [hs, hl], ⟨hl, .inr ⟨_, n, row.toArray, rfl, Nat.le_refl _, setRow_heap _ _ _ _ _ _ hh, Nat.le_refl _, hc2, by simp [hl], ?_⟩⟩, below_setRow ((Below.refl _ _).grown hg (Nat.le_refl _) (fun k e => by cases e)) (Nat.le_refl _) _⟩
    rw [List.take_of_length_le (by simp [hl])]

set_option maxRecDepth 20000 in
set_option maxHeartbeats 1000000 in
theorem copiedI_any (n : Nat) (row : List Value) (v : Value) (w : World) (h : RowOn w v n 1 row) (hm : n ≤ 1000000) :
    Calls Try.prog 71 #[v] w fun e w' => ∃ v', e = .returned v' ∧ w'.ownsRow w.heap.size 3 1 v' n row ∧ Below w.heap.size w w' := by
  obtain ⟨i0, hii, hz0, hz1, hz2⟩ := info_parts infoI
  have hsz : (Try.prog.info? 3).map (·.size) = some 1 := by rw [hii]; simp [hz1]
  obtain ⟨hl, h1, a, cap, rfl, hc1, hc2, hat⟩ := h
  by_cases h0 : n = 0
  · subst h0
    obtain rfl : row = [] := List.eq_nil_of_length_eq_zero (by omega)
    go_enter Try.func71, Try.ntmps71
    go_wp2
    go_ret
    exact ⟨_, rfl, World.ownsRow_nil _ _ _ _, Below.refl _ _⟩
  · obtain ⟨ad, rfl, hc⟩ := hat.resolve_left h0
    have hne : ((n : Int) == 0) = false := by simpa using h0
    have HC : Fact (∀ j u, row[j]? = some u → w.cell? (ad.add j) = some u) := ⟨hc⟩
    have HO : Fact (∀ u ∈ row, u.oneCell' = true) := ⟨h1⟩
    have HL : Fact (row.length = n * 1) := ⟨hl⟩
    have HN : Fact (n ≠ 0) := ⟨h0⟩
    have HI : Fact ((Try.prog.info? 3).map (·.size) = some 1) := ⟨hsz⟩
    clear hat hc h1 hl hsz
    have tok1 : True := trivial
    go_enter Try.func71, Try.ntmps71
    go_wp2_with (first
      | (at_make; have _t := tok1; refine wpList_make_full _ rfl (.tmp 8) (.tmp 8) 41 rfl w.heap.size 3 i0 (.int .i64 0) 1 Try.underlying41 hii hz0 hz1 .i64 .i64 (n : Int) (n : Int) n rfl rfl rfl rfl (by rw [hz2]; omega) (by unfold maxLen; omega) (Nat.le_refl _) ?_; intro w1 hown hgrow; obtain ⟨cur, hh, hs, hA, hB⟩ := whole_own hown hgrow HL.out; have HH := Fact.mk hh; have HS := Fact.mk hs; have HA := Fact.mk hA; have HB := Fact.mk hB; have hr := (run_copy_whole (P := Try.prog) w1 41 41 3 3 w.heap.size n n 1 ad cap cur 3 row Try.underlying41 HI.out hh HL.out (fun j u hu => hgrow.cell (HC.out j u hu) (by simp)) hs HO.out); clear hown hgrow hh hs hA hB tok1 _t))
    go_ret
    exact ⟨_, rfl, HA.out, HB.out⟩

set_option maxRecDepth 20000 in
set_option maxHeartbeats 1000000 in
theorem copiedA_any (n : Nat) (row : List Value) (v : Value) (w : World) (h : RowOn w v n 2 row) (hm : n ≤ 1000000) :
    Calls Try.prog 104 #[v] w fun e w' => ∃ v', e = .returned v' ∧ w'.ownsRow w.heap.size 97 2 v' n row ∧ Below w.heap.size w w' := by
  obtain ⟨i0, hii, hz0, hz1, hz2⟩ := info_parts infoAt
  have hsz : (Try.prog.info? 97).map (·.size) = some 2 := by rw [hii]; simp [hz1]
  obtain ⟨hl, h1, a, cap, rfl, hc1, hc2, hat⟩ := h
  by_cases h0 : n = 0
  · subst h0
    obtain rfl : row = [] := List.eq_nil_of_length_eq_zero (by omega)
    go_enter Try.func104, Try.ntmps104
    go_wp2
    go_ret
    exact ⟨_, rfl, World.ownsRow_nil _ _ _ _, Below.refl _ _⟩
  · obtain ⟨ad, rfl, hc⟩ := hat.resolve_left h0
    have hne : ((n : Int) == 0) = false := by simpa using h0
    have HC : Fact (∀ j u, row[j]? = some u → w.cell? (ad.add j) = some u) := ⟨hc⟩
    have HO : Fact (∀ u ∈ row, u.oneCell' = true) := ⟨h1⟩
    have HL : Fact (row.length = n * 2) := ⟨hl⟩
    have HN : Fact (n ≠ 0) := ⟨h0⟩
    have HI : Fact ((Try.prog.info? 97).map (·.size) = some 2) := ⟨hsz⟩
    clear hat hc h1 hl hsz
    have tok1 : True := trivial
    go_enter Try.func104, Try.ntmps104
    go_wp2_with (first
      | (at_make; have _t := tok1; refine wpList_make_full _ rfl (.tmp 8) (.tmp 8) 22 rfl w.heap.size 97 i0 (.agg #[.string ⟨#[]⟩, .string ⟨#[]⟩]) 2 Try.underlying22 hii hz0 hz1 .i64 .i64 (n : Int) (n : Int) n rfl rfl rfl rfl (by rw [hz2]; omega) (by unfold maxLen; omega) (Nat.le_refl _) ?_; intro w1 hown hgrow; obtain ⟨cur, hh, hs, hA, hB⟩ := whole_own hown hgrow HL.out; have HH := Fact.mk hh; have HS := Fact.mk hs; have HA := Fact.mk hA; have HB := Fact.mk hB; have hr := (run_copy_whole (P := Try.prog) w1 22 22 3 97 w.heap.size n n 2 ad cap cur 97 row Try.underlying22 HI.out hh HL.out (fun j u hu => hgrow.cell (HC.out j u hu) (by simp)) hs HO.out); clear hown hgrow hh hs hA hB tok1 _t))
    go_ret
    exact ⟨_, rfl, HA.out, HB.out⟩
end Go.Proofs.Ytllimmmgjpnhkaa
