/- slices.Insert of one item. -/
import Derived.Test.YtjlijpaefdbohaaDoorFA
set_option linter.unusedVariables false
namespace Go.Proofs.YtjlijpaefdbohaaDoor
open Go.RowKit

theorem own_val {w : World} {B : Nat} {e : TypeId} {size : Nat} {v : Value} {n : Nat} {row : List Value} (h : w.ownsRow B e size v n row) : ∃ a cap, v = .slice a n cap ∧ n ≤ cap ∧ cap ≤ maxLen := by
  rcases h.2 with ⟨rfl, h0⟩ | ⟨g, cap, cur, rfl, hg, hh, hc1, hc2, hs, ht⟩
  · exact ⟨none, 0, by rw [h0], by omega, Nat.zero_le _⟩
  · exact ⟨_, cap, rfl, hc1, hc2⟩
theorem own_get {w : World} {B : Nat} {e : TypeId} {size : Nat} {v : Value} {n : Nat} {row : List Value} (h : w.ownsRow B e size v n row) (h0 : 0 < n) : ∃ g cap, v = .slice (some ⟨g, 0, none⟩) n cap ∧ n ≤ cap ∧ cap ≤ maxLen ∧ B ≤ g ∧ g < w.heap.size ∧ (∀ j u, row[j]? = some u → w.cell? ⟨g, j, none⟩ = some u) ∧ (∀ o, w.frozen? ⟨g, o, none⟩ = false) := by
  rcases h.2 with ⟨rfl, h1⟩ | ⟨g, cap, cur, rfl, hg, hh, hc1, hc2, hs, ht⟩
  · omega
  · refine ⟨g, cap, rfl, hc1, hc2, hg, (Array.getElem?_eq_some_iff.1 hh).1, fun j u hu => ?_, fun o => by simp [World.frozen?, hh]⟩
    have := h.cells (g := g) rfl j u hu
    rw [add_cell, Nat.zero_add] at this
    exact this
theorem own_below {w w' : World} {B n : Nat} {e : TypeId} {size : Nat} {u : Value} {m : Nat} {xs : List Value} (ho : w.ownsRow B e size u m xs) (hb : Below n w w') (hn : w.heap.size ≤ n) : w'.ownsRow B e size u m xs := by
  refine ⟨ho.1, ?_⟩
  rcases ho.2 with h0 | ⟨g, cap, cur, h1, h2, h3, h4⟩
  · exact .inl h0
  · exact .inr ⟨g, cap, cur, h1, h2, (hb.block g (by have := (Array.getElem?_eq_some_iff.1 h3).1; omega)).trans h3, h4⟩
theorem own_base {w : World} {B B' : Nat} {e : TypeId} {size : Nat} {u : Value} {m : Nat} {xs : List Value} (ho : w.ownsRow B e size u m xs) (hB : B' ≤ B) : w.ownsRow B' e size u m xs := by
  refine ⟨ho.1, ?_⟩
  rcases ho.2 with h0 | ⟨g, cap, cur, h1, h2, h3, h4⟩
  · exact .inl h0
  · exact .inr ⟨g, cap, cur, h1, by omega, h3, h4⟩
/-- append whose run is known -/
theorem wpList_append_said {P : Program} (w : World) {ops : Array Oper} {rest : List Oper} {o : Oper} {a : Act} {Q : Exit → Act → World → Prop} (hgd : o.guard = none) (s x : Operand) (t t' : TypeId)
    (ho : o.op = .call { callee := .builtin .append, args := #[s, x], argTypes := #[t, t'] }) (ty : TypeId) (hty : o.type = ty) (v u : Value) (hs : a.eval s = v) (hx : a.eval x = u) {v' : Value} {w' : World}
    (hr : (Builtin.append_ #[t, t'] ty #[v, u]).run P w = .ok v' w') (h : wpList P ops Q rest (a.put o.dst v') w') : wpList P ops Q (o :: rest) a w := by
  subst hty
  refine wpList_plain hgd fun K hK => ?_
  unfold Oper.wp execOp
  simp only [ho, resolve, invoke, builtin, Sem.run_bind, Sem.run_pure, Result.andThen_ok, List.map_toArray, List.map_cons, List.map_nil, hs, hx, hr]
  exact hK _ _ h
/-- .. and copy -/
theorem wpList_copy_said {P : Program} (w : World) {ops : Array Oper} {rest : List Oper} {o : Oper} {a : Act} {Q : Exit → Act → World → Prop} (hgd : o.guard = none) (d s : Operand) (t t' : TypeId)
    (ho : o.op = .call { callee := .builtin .copy, args := #[d, s], argTypes := #[t, t'] }) (v u : Value) (hd : a.eval d = v) (hs : a.eval s = u) {v' : Value} {w' : World}
    (hr : (Builtin.copy_ #[t, t'] o.type #[v, u]).run P w = .ok v' w') (h : wpList P ops Q rest (a.put o.dst v') w') : wpList P ops Q (o :: rest) a w := by
  refine wpList_plain hgd fun K hK => ?_
  unfold Oper.wp execOp
  simp only [ho, resolve, invoke, builtin, Sem.run_bind, Sem.run_pure, Result.andThen_ok, List.map_toArray, List.map_cons, List.map_nil, hd, hs, hr]
  exact hK _ _ h

theorem infoT : (Tryd.prog.info? 68).map (fun i => (i.zero, i.size, i.bytes)) = some (some (.agg #[.int .i64 0, .string ⟨#[]⟩, .slice none 0 0, .bool false, .int .i64 0]), 5, 64) := by kernel_rfl
theorem cells_of {w : World} {g : Nat} {cs : List Value} {t : TypeId} (h : w.heap[g]? = some (.cells cs.toArray t (0, 0))) (j : Nat) (u : Value) (hu : cs[j]? = some u) : w.cell? ((⟨g, 0, none⟩ : Addr).add j) = some u := by
  rw [add_cell]
  simp [World.cell?, h, hu]

set_option maxRecDepth 20000 in
set_option maxHeartbeats 2000000 in
theorem insert_end (w : World) (B : Nat) (v : Value) (n vb : Nat) (R cx : List Value) (h : w.ownsRow B 68 5 v n R) (hv : w.heap[vb]? = some (.cells cx.toArray 68 (0, 0))) (hl : cx.length = 5) (h1 : ∀ u ∈ cx, u.oneCell' = true)
    (hm : n ≤ 1000000) (hB : B ≤ w.heap.size) :
    Calls Tryd.prog 44 #[v, .int .i64 n, .slice (some ⟨vb, 0, none⟩) 1 1] w fun e w' => ∃ v', e = .returned v' ∧ w'.ownsRow B 68 5 v' (n + 1) (R ++ cx) ∧ w.grownBy w' v.ownBlock ∧ (v'.ownBlock = v.ownBlock ∨ v'.ownBlock = some w.heap.size) := by
  obtain ⟨i0, hii, hz0, hz1, hz2⟩ := info_parts infoT
  obtain ⟨a, cap, ev, hc1, hc2⟩ := own_val h
  obtain ⟨v', w1, hr, hown, hgrow, _, hblk⟩ := run_append_own_at (P := Tryd.prog) w B 63 63 68 i0 (.agg #[.int .i64 0, .string ⟨#[]⟩, .slice none 0 0, .bool false, .int .i64 0]) 5 64 Tryd.underlying63 hii hz0 hz1 hz2 rfl (by decide) v n R h ⟨vb, 0, none⟩ 1 1 cx (by omega) (cells_of hv) h1 (by unfold maxLen; omega) (by omega) hB
  have HG := Fact.mk hgrow
  have HO := Fact.mk hown
  have HB := Fact.mk hblk
  have HR := Fact.mk hr
  have hn0 : (0 : Int) ≤ (n : Int) := by omega
  unfold maxLen at hc2
  clear h hown hgrow hblk hr hv h1 hl hii hz0 hz1 hz2
  subst ev
  go_enter Tryd.func44, Tryd.ntmps44
  by_cases hcc : cap = n
  · subst hcc
    go_wp2_with (at_builtin; refine wpList_append_said _ rfl (.tmp 23) (.tmp 24) 63 63 rfl 63 rfl _ _ rfl rfl HR.out ?_)
    go_ret
    exact ⟨_, rfl, HO.out, HG.out, HB.out⟩
  · go_wp2_with (at_builtin; refine wpList_append_said _ rfl (.tmp 23) (.tmp 24) 63 63 rfl 63 rfl _ _ rfl rfl HR.out ?_)
    go_ret
    exact ⟨_, rfl, HO.out, HG.out, HB.out⟩
end Go.Proofs.YtjlijpaefdbohaaDoor
