/- putIn at the end of a list. -/
import Derived.Test.YtllimmmgjpnhkaaDomW
set_option linter.unusedVariables false
namespace Go.Proofs.Ytllimmmgjpnhkaa
open Go.Deep (BT)
open Go.RowKit M

theorem set_same {w : World} {g n : Nat} {v : Value} (h : w.cell? ⟨g, n, none⟩ = some v) : w.setCell ⟨g, n, none⟩ v = w := by
  simp only [World.cell?] at h
  cases hg : w.heap[g]? with
  | none => rw [hg] at h; cases h
  | some o =>
    rw [hg] at h
    cases o with
    | cells cur t fz =>
      have hc : cur[n]? = some v := h
      rw [setCell_eq_setRow w g n cur t fz v hg]
      have e : cur.setIfInBounds n v = cur := by
        apply Array.ext_getElem?
        intro i
        rw [Array.getElem?_setIfInBounds]
        split
        · next e => subst e; split <;> simp_all
        · rfl
      rw [e, setRow_self w g cur t fz hg]
    | _ => cases h

/-- append whose run is known -/
theorem wpList_append_said {P : Program} (w : World) {ops : Array Oper} {rest : List Oper} {o : Oper} {a : Act} {Q : Exit → Act → World → Prop} (hgd : o.guard = none) (s x : Operand) (t : TypeId)
    (ho : o.op = .call { callee := .builtin .append, args := #[s, x], argTypes := #[t, t] }) (ty : TypeId) (hty : o.type = ty) (v u : Value) (hs : a.eval s = v) (hx : a.eval x = u) {v' : Value} {w' : World}
    (hr : (Builtin.append_ #[t, t] ty #[v, u]).run P w = .ok v' w') (h : wpList P ops Q rest (a.put o.dst v') w') : wpList P ops Q (o :: rest) a w := by
  subst hty
  refine wpList_plain hgd fun K hK => ?_
  unfold Oper.wp execOp
  simp only [ho, resolve, invoke, builtin, Sem.run_bind, Sem.run_pure, Result.andThen_ok, List.map_toArray, List.map_cons, List.map_nil, hs, hx, hr]
  exact hK _ _ h

set_option maxRecDepth 20000 in
set_option maxHeartbeats 2000000 in
theorem putIn_end (l : List Int) (x : Int) (n B : Nat) (v : Value) (w : World) (hn : l.length = n) (h : w.ownsRow B 3 1 v n (rowI l)) (hm : n ≤ 1000000) (hB : B ≤ w.heap.size) :
    Calls Try.prog 94 #[v, .int .i64 n, .int .i64 x] w fun e w' => ∃ v', e = .returned v' ∧ w'.ownsRow B 3 1 v' (n + 1) (rowI (l ++ [x])) ∧ w.grownBy w' v.ownBlock ∧ (v'.ownBlock = v.ownBlock ∨ ∃ g, v'.ownBlock = some g ∧ w.heap.size ≤ g) := by
  obtain ⟨i0, hii, hz0, hz1, hz2⟩ := info_parts infoI
  obtain ⟨a, cap, ev, _⟩ := own_val h
  have hA : (w.alloc (.cells #[.int .i64 x] 3)).ownsRow B 3 1 v n (rowI l) := own_below h ((Below.refl w.heap.size w).alloc (Nat.le_refl _) _) (Nat.le_refl _)
  obtain ⟨v', w1, hr, hown, hgrow, _, hblk⟩ := run_append_own_at (P := Try.prog) (w.alloc (.cells #[.int .i64 x] 3)) B 41 41 3 i0 (.int .i64 0) 1 8 Try.underlying41 hii hz0 hz1 hz2 rfl (by decide) v n (rowI l) hA ⟨w.heap.size, 0, none⟩ 1 1 [.int .i64 x] rfl
    (fun j u hu => by
      have hj : j = 0 := by have := (List.getElem?_eq_some_iff.1 hu).1; simp at this; exact this
      subst hj
      simp at hu
      subst hu
      have e9 := World.alloc_heap_new w (.cells #[.int .i64 x] 3)
      rw [add_cell]
      simp only [World.cell?, Nat.add_zero, e9]
      rfl) (by simp [Value.oneCell']) (by unfold maxLen; omega) (by omega) (by simp; omega)
  subst ev
  obtain ⟨g, cap', rfl, q1, q2, q3, q4, hat, hfz⟩ := own_get hown (by omega)
  have hlast : w1.cell? ⟨g, n, none⟩ = some (.int .i64 x) := hat n _ (by rw [List.getElem?_append_right (by simp [rowI, hn])]; simp [rowI, hn])
  have hfn := hfz n
  have HG := Fact.mk ((World.grownBy_alloc w (.cells #[.int .i64 x] 3) (Value.slice a n cap).ownBlock).trans hgrow)
  have HO := Fact.mk hown
  have HB := Fact.mk hblk
  have HS := Fact.mk hlast
  have HC : Fact (∀ (d e : Option Addr) (dc ec : Nat), (Builtin.copy_ #[41, 41] 3 #[.slice d 0 dc, .slice e 1 ec]).run Try.prog w1.drew = .ok (goInt 0) w1.drew) := ⟨fun d e dc ec => run_copy_none _ _ _ _ 3 _ _ _ _ _ _ Try.underlying41 (by rw [hii]; simp [hz1]) rfl⟩
  clear h hA hown hgrow hblk hat hfz
  go_enter Try.func94, Try.ntmps94
  have HR := Fact.mk hr
  clear hr
  go_wp2_with (at_builtin; refine wpList_append_said _ rfl (.tmp 7) (.tmp 9) 41 rfl 41 rfl _ _ rfl rfl HR.out ?_; clear HR)
  have j1 : (0 : Int) ≤ (n : Int) := by omega
  have e1 : rowI (l ++ [x]) = rowI l ++ [.int .i64 x] := by simp [rowI]
  have E1 := Fact.mk e1
  clear e1
  by_cases hcc : cap' = n + 1
  · subst hcc
    have hc1 := HC.out (some ⟨g, 0, none⟩) (some ⟨g, n, none⟩) 0 1
    go_region
    go_wp2
    rw [set_same HS.out]
    go_ret
    refine ⟨_, rfl, by rw [E1.out]; exact HO.out, by obtain ⟨a, b, c, d, e⟩ := HG.out; exact ⟨a, b, c, d, e⟩, ?_⟩
    rcases HB.out with e | e
    · exact .inl e
    · exact .inr ⟨_, e, by simp⟩
  · have hc1 := HC.out (some ⟨g, n + 1, none⟩) (some ⟨g, n, none⟩) (cap' - (n + 1)) (cap' - n)
    go_region
    go_wp2
    rw [set_same HS.out]
    go_ret
    refine ⟨_, rfl, by rw [E1.out]; exact HO.out, by obtain ⟨a, b, c, d, e⟩ := HG.out; exact ⟨a, b, c, d, e⟩, ?_⟩
    rcases HB.out with e | e
    · exact .inl e
    · exact .inr ⟨_, e, by simp⟩
end Go.Proofs.Ytllimmmgjpnhkaa
