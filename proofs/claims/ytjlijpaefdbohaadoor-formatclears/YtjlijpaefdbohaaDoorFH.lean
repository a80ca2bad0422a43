/- Entries: copied; keyOf. -/
import Derived.Test.YtjlijpaefdbohaaDoorFG
import Derived.Laws.Rows
import Derived.Laws.Tables
set_option linter.unusedVariables false
namespace Go.Proofs.YtjlijpaefdbohaaDoor
open Go.RowKit

/-- a slice whose elements' cells are these, wherever they lie -/
structure RowOn (w : World) (v : Value) (n size : Nat) (row : List Value) : Prop where
  len : row.length = n * size
  one : ∀ u ∈ row, u.oneCell' = true
  at' : ∃ a cap, v = .slice a n cap ∧ n ≤ cap ∧ cap ≤ maxLen ∧ (n = 0 ∨ ∃ ad, a = some ad ∧ ∀ j u, row[j]? = some u → w.cell? (ad.add j) = some u)
theorem RowOn.nothing (w : World) (size : Nat) : RowOn w (.slice none 0 0) 0 size [] := ⟨by simp, by simp, none, 0, rfl, Nat.le_refl _, Nat.zero_le _, .inl rfl⟩
theorem RowOn.own {w : World} {B : Nat} {e : TypeId} {size : Nat} {v : Value} {n : Nat} {row : List Value} (h : w.ownsRow B e size v n row) (h1 : ∀ u ∈ row, u.oneCell' = true) : RowOn w v n size row := by
  refine ⟨h.1, h1, ?_⟩
  rcases h.2 with ⟨rfl, h0⟩ | ⟨g, cap, cur, rfl, hg, hh, hc1, hc2, hs, ht⟩
  · exact ⟨none, 0, by rw [h0], by omega, Nat.zero_le _, .inl h0⟩
  · exact ⟨_, cap, rfl, hc1, hc2, .inr ⟨_, rfl, fun j u hu => h.cells (g := g) rfl j u hu⟩⟩
theorem RowOn.kept {w w' : World} {v : Value} {n size : Nat} {row : List Value} (h : RowOn w v n size row) (hg : w.grownBy w' none) : RowOn w' v n size row := by
  refine ⟨h.len, h.one, ?_⟩
  obtain ⟨a, cap, e, h1, h2, h3⟩ := h.at'
  refine ⟨a, cap, e, h1, h2, ?_⟩
  rcases h3 with h3 | ⟨ad, ea, hc⟩
  · exact .inl h3
  · exact .inr ⟨ad, ea, fun j u hu => hg.cell (hc j u hu) (by simp)⟩
theorem grown_below {w w' : World} (h : Below w.heap.size w w') : w.grownBy w' none := ⟨h.os, h.tape, h.output, h.size, fun k hk _ => h.block k hk⟩
theorem RowOn.below {w w' : World} {v : Value} {n size : Nat} {row : List Value} (h : RowOn w v n size row) (hb : Below w.heap.size w w') : RowOn w' v n size row := h.kept (grown_below hb)

theorem infoAt : (Tryd.prog.info? 53).map (fun i => (i.zero, i.size, i.bytes)) = some (some (.agg #[.string ⟨#[]⟩, .string ⟨#[]⟩]), 2, 32) := by kernel_rfl
abbrev enV (id : Int) (nm : ByteArray) (av : Value) : Value := .agg #[.int .i64 id, .string nm, av]

theorem three_new {w W : World} {t : TypeId} {u0 u1 u2 v0 v1 v2 : Value} {t2 : TypeId} (hW : (w.alloc (.cells #[u0, u1, u2] t)).alloc (.cells #[v0, v1, v2] t2) = W) :
    W.heap.size = w.heap.size + 2 ∧ Below w.heap.size w W ∧ w.grownBy W none ∧ W.heap[w.heap.size]? = some (.cells #[u0, u1, u2] t) ∧ W.heap[w.heap.size + 1]? = some (.cells #[v0, v1, v2] t2) := by
  subst hW
  refine ⟨by simp, ((Below.refl _ _).alloc (Nat.le_refl _) _).alloc (by simp) _, (World.grownBy_alloc w _ none).trans (World.grownBy_alloc _ _ none), ?_, ?_⟩
  · rw [Below.heap_alloc _ _ _ (by simp)]; exact heap_alloc_new w _
  · have := heap_alloc_new (w.alloc (.cells #[u0, u1, u2] t)) (.cells #[v0, v1, v2] t2)
    rw [World.size_alloc] at this
    exact this
theorem three_at {w : World} {b : Nat} {t : TypeId} {u0 u1 u2 : Value} (h : w.heap[b]? = some (.cells #[u0, u1, u2] t)) :
    w.cell? ⟨b, 0, none⟩ = some u0 ∧ w.cell? ⟨b, 1, none⟩ = some u1 ∧ w.cell? ⟨b, 2, none⟩ = some u2 ∧ (∀ o, w.frozen? ⟨b, o, none⟩ = false) := by
  simp [World.cell?, World.frozen?, h]
theorem set_heap {w : World} {B i : Nat} {cur : Array Value} {t : TypeId} {v : Value} (h : w.heap[B]? = some (.cells cur t)) : (w.setCell ⟨B, i, none⟩ v).heap[B]? = some (.cells (cur.setIfInBounds i v) t) := by
  simp only [World.setCell, Array.getElem?_modify, h]
  simp

set_option maxRecDepth 20000 in
set_option maxHeartbeats 1000000 in
theorem copied_any (id : Int) (nm : ByteArray) (ats : List (ByteArray × ByteArray)) (av : Value) (w : World) (h : RowOn w av ats.length 2 (rowA ats)) (hm : ats.length ≤ 1000000) :
    Calls Tryd.prog 37 #[enV id nm av] w fun e w' => ∃ av', e = .returned (enV id nm av') ∧ w'.ownsRow w.heap.size 53 2 av' ats.length (rowA ats) ∧ Below w.heap.size w w' := by
  obtain ⟨i0, hii, hz0, hz1, hz2⟩ := info_parts infoAt
  obtain ⟨hl, h1, a, cap, rfl, hc1, hc2, hat⟩ := h
  obtain ⟨W, hW⟩ : ∃ W, (w.alloc (.cells #[.int .i64 id, .string nm, .slice a ats.length cap] 36)).alloc (.cells #[.int .i64 0, .string ⟨#[]⟩, .slice none 0 0] 36) = W := ⟨_, rfl⟩
  obtain ⟨hz, hB, hgr, c0, c1⟩ := three_new hW
  have hap : ∃ v' w1, (Builtin.append_ #[29, 29] 29 #[.slice none 0 0, .slice a ats.length cap]).run Tryd.prog W = .ok v' w1 ∧ w1.ownsRow W.heap.size 53 2 v' ats.length (rowA ats) ∧ W.grownBy w1 none := by
    by_cases h0 : ats.length = 0
    · have hr : (Builtin.append_ #[29, 29] 29 #[.slice none 0 0, .slice a 0 cap]).run Tryd.prog W = .ok (.slice none 0 0) W := by
        cases a <;> simp [Builtin.append_, run_underlying Tryd.underlying29, sizeOf, typeInfo, hii, Builtin.lenOf, Builtin.firstCells, loadCells, loadCellsFrom]
      rw [h0]
      have : ats = [] := List.eq_nil_of_length_eq_zero h0
      subst this
      exact ⟨_, _, hr, World.ownsRow_nil _ _ _ _, ⟨rfl, rfl, rfl, Nat.le_refl _, fun _ _ _ => rfl⟩⟩
    · obtain ⟨ad, rfl, hc⟩ := hat.resolve_left h0
      obtain ⟨v', w1, hr, hown, hgrow, _⟩ := run_append_own (P := Tryd.prog) W W.heap.size 29 29 53 i0 (.agg #[.string ⟨#[]⟩, .string ⟨#[]⟩]) 2 32 Tryd.underlying29 hii hz0 hz1 hz2 rfl (by decide) (.slice none 0 0) 0 [] (World.ownsRow_nil _ _ _ _) ad ats.length cap (rowA ats) hl (fun j u hu => hgr.cell (hc j u hu) (by simp)) h1 (by unfold maxLen; omega) (by omega) (Nat.le_refl _)
      rw [Nat.zero_add, List.nil_append] at hown
      exact ⟨v', w1, hr, hown, hgrow⟩
  obtain ⟨v', w1, hr, hown, hgrow⟩ := hap
  obtain ⟨va, vc, ev, hv1, hv2⟩ := own_val hown
  subst ev
  have HR := Fact.mk hr
  have HZ := Fact.mk hz
  have d0 : w1.heap[w.heap.size]? = some (.cells #[.int .i64 id, .string nm, .slice a ats.length cap] 36) := by rw [hgrow.block _ (by omega) (by simp)]; exact c0
  have d1 : w1.heap[w.heap.size + 1]? = some (.cells #[.int .i64 0, .string ⟨#[]⟩, .slice none 0 0] 36) := by rw [hgrow.block _ (by omega) (by simp)]; exact c1
  obtain ⟨q0, q1, q2, qf⟩ := three_at c0
  obtain ⟨x0, x1, x2, xf⟩ := three_at d0
  obtain ⟨y0, y1, y2, yf⟩ := three_at d1
  have f2 := xf 2
  have g0 := yf 0
  have g1 := yf 1
  have g2 := yf 2
  obtain ⟨w2, hw2⟩ : ∃ w2, (((w1.setCell ⟨w.heap.size, 2, none⟩ (.slice va ats.length vc)).setCell ⟨w.heap.size + 1, 0, none⟩ (.int .i64 id)).setCell ⟨w.heap.size + 1, 1, none⟩ (.string nm)).setCell ⟨w.heap.size + 1, 2, none⟩ (.slice va ats.length vc) = w2 := ⟨_, rfl⟩
  have hfin : w2.heap[w.heap.size + 1]? = some (.cells #[.int .i64 id, .string nm, .slice va ats.length vc] 36) := by
    have e0 : (w1.setCell ⟨w.heap.size, 2, none⟩ (.slice va ats.length vc)).heap[w.heap.size + 1]? = some (.cells #[.int .i64 0, .string ⟨#[]⟩, .slice none 0 0] 36) := by
      rw [Below.heap_setCell w1 ⟨w.heap.size, 2, none⟩ (.slice va ats.length vc) (w.heap.size + 1) (by show w.heap.size + 1 ≠ w.heap.size; omega)]; exact d1
    have e1 := set_heap (i := 2) (v := .slice va ats.length vc) (set_heap (i := 1) (v := .string nm) (set_heap (i := 0) (v := .int .i64 id) e0))
    rw [hw2] at e1
    exact e1
  have hoth : ∀ k, k ≠ w.heap.size → k ≠ w.heap.size + 1 → w2.heap[k]? = w1.heap[k]? := fun k k1 k2 => by
    rw [← hw2, Below.heap_setCell _ _ _ _ k2, Below.heap_setCell _ _ _ _ k2, Below.heap_setCell _ _ _ _ k2, Below.heap_setCell _ _ _ _ k1]
  have HB : Fact (Below w.heap.size w w2) := ⟨⟨by rw [← hw2]; exact hgrow.os.trans hB.os, by rw [← hw2]; exact hgrow.tape.trans hB.tape, by rw [← hw2]; exact hgrow.output.trans hB.output, by rw [← hw2]; have := hgrow.size; simp [World.setCell]; omega, fun k hk => by
    rw [hoth k (by omega) (by omega), hgrow.block k (by omega) (by simp)]; exact hB.block k hk⟩⟩
  have HO : Fact (w2.ownsRow w.heap.size 53 2 (.slice va ats.length vc) ats.length (rowA ats)) := ⟨by
    refine ⟨hown.1, ?_⟩
    rcases hown.2 with h0 | ⟨g, cp, cur, e1, e2, e3, e4⟩
    · exact .inl h0
    · exact .inr ⟨g, cp, cur, e1, by omega, (hoth g (by omega) (by omega)).trans e3, e4⟩⟩
  obtain ⟨z0, z1, z2, zf⟩ := three_at hfin
  have HW := Fact.mk hW
  have HW2 := Fact.mk hw2
  generalize ats.length = n at *
  clear hfin hoth hw2 hW hown hgrow hr hat hl h1 c0 c1 d0 d1 hz hB hgr xf yf qf zf hii hz0 hz1 hz2 hc1 hc2 hv1 hv2
  go_enter Tryd.func37, Tryd.ntmps37
  go_wp2_with (at_builtin; rw [HW.out]; refine wpList_append_said _ rfl _ (.tmp 4) 29 29 rfl 29 rfl _ _ rfl rfl HR.out ?_)
  rw [HW2.out]
  refine bodyPost_ret (v := .agg #[.int .i64 id, .string nm, .slice va n vc]) (by simp [results, Tryd.f37, go_sem, z0, z1, z2]) rfl ?_
  exact ⟨_, rfl, HO.out, HB.out⟩
end Go.Proofs.YtjlijpaefdbohaaDoor
