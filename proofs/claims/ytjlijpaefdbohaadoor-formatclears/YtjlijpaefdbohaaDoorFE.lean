/- slices.Insert at any place; slices.Delete of one item. -/
import Derived.Test.YtjlijpaefdbohaaDoorFD
import Derived.Deep.RegionLaw
set_option linter.unusedVariables false
namespace Go.Proofs.YtjlijpaefdbohaaDoor
open Go.RowKit

theorem insert_any (w : World) (B : Nat) (v : Value) (n i vb : Nat) (R cx : List Value) (h : w.ownsRow B 68 5 v n R) (hi : i ≤ n) (hv : w.heap[vb]? = some (.cells cx.toArray 68 (0, 0))) (hl : cx.length = 5) (h1 : ∀ u ∈ cx, u.oneCell' = true)
    (hR : ∀ u ∈ R, u.oneCell' = true) (hm : n ≤ 1000000) (hB : B ≤ w.heap.size) (hne : v.ownBlock ≠ some vb) :
    Calls Tryd.prog 44 #[v, .int .i64 i, .slice (some ⟨vb, 0, none⟩) 1 1] w fun e w' => ∃ v', e = .returned v' ∧ w'.ownsRow B 68 5 v' (n + 1) (R.take (i * 5) ++ cx ++ R.drop (i * 5)) ∧ w.grownBy w' v.ownBlock ∧ (v'.ownBlock = v.ownBlock ∨ v'.ownBlock = some w.heap.size) := by
  by_cases he : i = n
  · subst he
    have e1 : R.take (i * 5) = R := List.take_of_length_le (by rw [h.1]; omega)
    have e2 : R.drop (i * 5) = [] := List.drop_eq_nil_of_le (by rw [h.1]; omega)
    rw [e1, e2, List.append_nil]
    exact insert_end w B v i vb R cx h hv hl h1 hm hB
  · rcases h.2 with ⟨rfl, h0⟩ | ⟨g, cap, cur, rfl, hg, hh, hc1, hc2, hs, ht⟩
    · omega
    · by_cases hc : n + 1 ≤ cap
      · refine (insert_room w B g cap i cur n vb R cx hh hg hc hc2 hs ht (by omega) hv hl h1 hR hm (fun e => hne (by rw [e]; rfl))).mono ?_
        rintro e w' ⟨rfl, ho, hgr⟩
        exact ⟨_, rfl, ho, hgr, .inl rfl⟩
      · obtain rfl : cap = n := by omega
        refine (insert_grow w B g i cur cap vb R cx hh hB hs ht (by omega) hv hl h1 hR hm).mono ?_
        rintro e w' ⟨cap', rfl, ho, hgr⟩
        exact ⟨_, rfl, ho, ⟨hgr.os, hgr.tape, hgr.output, hgr.size, fun k hk _ => hgr.block k hk (by simp)⟩, .inr rfl⟩

theorem run_clear_one {P : Program} (w : World) (t e ty : TypeId) (z : Value) (ht : P.underlying t = some (.slice e)) (hv : ∀ w, (zeroValue e).run P w = .ok z w) (h1 : ∀ u ∈ z.cells.toList, u.oneCell' = true) (g o c : Nat) (cur : Array Value) (t' : TypeId) (hg : w.heap[g]? = some (.cells cur t' (0, 0))) (hfit : o + z.cells.size ≤ cur.size) :
    (Builtin.clear_ #[t] ty #[.slice (some ⟨g, o, none⟩) 1 c]).run P w = .ok (.tuple #[]) (w.setRow g (cur.toList.take o ++ z.cells.toList ++ cur.toList.drop (o + z.cells.toList.length)).toArray) := by
  have hzc : (Builtin.zeroCells z.cells 1).toList = z.cells.toList := by
    simp only [Builtin.zeroCells]
    apply List.ext_getElem
    · simp
    · intro i h1 h2
      simp at h1 h2
      simp [Nat.mod_eq_of_lt h2, h2]
  have hst := run_storeCells_at P g o t' z.cells.toList 0 cur w hg (by simpa using hfit) h1
  simp only [Nat.add_zero] at hst
  simp [Builtin.clear_, run_underlying ht, hv, hzc, hst]

theorem wp_append_known {P : Program} {Q : Exit → Act → World → Prop} {o : Oper} {a : Act} {w : World} {K : Act → World → Prop} {s y : Operand} {t : TypeId} {v x v' : Value} {w' : World} (ho : o.op = .call { callee := .builtin .append, args := #[s, y], argTypes := #[t, t] })
    (hs : a.eval s = v) (hx : a.eval y = x) (hr : (Builtin.append_ #[t, t] o.type #[v, x]).run P w = .ok v' w') (h : K (a.put o.dst v') w') : o.wp P a w K Q := by
  unfold Oper.wp execOp
  simp only [ho, resolve, invoke, builtin, Sem.run_bind, Sem.run_pure, Result.andThen_ok, List.map_toArray, List.map_cons, List.map_nil, hs, hx, hr]
  exact h

theorem zeroT (w : World) : (zeroValue 68).run Tryd.prog w = .ok (.agg #[.int .i64 0, .string ⟨#[]⟩, .slice none 0 0, .bool false, .int .i64 0]) w := by
  obtain ⟨i0, hii, hz0, hz1, hz2⟩ := info_parts infoT
  simp [zeroValue, typeInfo, hii, hz0]

theorem del_row (C R Z : List Value) (n cap i : Nat) (hC : C.length = cap * 5) (ht : C.take ((n + 1) * 5) = R) (hi : i ≤ n) (hcap : n + 1 ≤ cap) (hl : Z.length = 5) :
    (R.drop ((i + 1) * 5)).length = (n - i) * 5 ∧
    (C.take (i * 5) ++ R.drop ((i + 1) * 5) ++ C.drop (i * 5 + (R.drop ((i + 1) * 5)).length)).length = cap * 5 ∧
    ((C.take (i * 5) ++ R.drop ((i + 1) * 5) ++ C.drop (i * 5 + (R.drop ((i + 1) * 5)).length)).take (n * 5) ++ Z ++ (C.take (i * 5) ++ R.drop ((i + 1) * 5) ++ C.drop (i * 5 + (R.drop ((i + 1) * 5)).length)).drop (n * 5 + Z.length)).length = cap * 5 ∧
    ((C.take (i * 5) ++ R.drop ((i + 1) * 5) ++ C.drop (i * 5 + (R.drop ((i + 1) * 5)).length)).take (n * 5) ++ Z ++ (C.take (i * 5) ++ R.drop ((i + 1) * 5) ++ C.drop (i * 5 + (R.drop ((i + 1) * 5)).length)).drop (n * 5 + Z.length)).take (n * 5) = R.take (i * 5) ++ R.drop ((i + 1) * 5) := by
  have hRl : R.length = (n + 1) * 5 := by rw [← ht, List.length_take, hC]; omega
  have e0 : (R.drop ((i + 1) * 5)).length = (n - i) * 5 := by rw [List.length_drop, hRl]; omega
  have e1 : C.take (i * 5) = R.take (i * 5) := by rw [← ht, List.take_take]; congr 1; omega
  have e5 : (R.take (i * 5)).length = i * 5 := by rw [List.length_take, hRl]; omega
  rw [e1]
  have e2 : (R.take (i * 5) ++ R.drop ((i + 1) * 5) ++ C.drop (i * 5 + (R.drop ((i + 1) * 5)).length)).take (n * 5) = R.take (i * 5) ++ R.drop ((i + 1) * 5) := by
    rw [List.take_append_of_le_length (by simp only [List.length_append]; omega), List.take_of_length_le (by simp only [List.length_append]; omega)]
  refine ⟨e0, ?_, ?_, ?_⟩
  · simp only [List.length_append, List.length_drop, e5, e0, hC] at e0 ⊢; omega
  · rw [e2]; simp only [List.length_append, List.length_drop, e5, e0, hC] at e0 ⊢; omega
  · rw [e2, List.append_assoc, List.take_append_of_le_length (by simp only [List.length_append]; omega), List.take_of_length_le (by simp only [List.length_append]; omega)]

set_option maxRecDepth 20000 in
set_option maxHeartbeats 1000000 in
theorem delete_any (w : World) (B g cap i : Nat) (cur : Array Value) (n : Nat) (R : List Value) (hg : w.heap[g]? = some (.cells cur 68 (0, 0))) (hB : B ≤ g) (hcap : n + 1 ≤ cap) (hcm : cap ≤ maxLen) (hcs : cur.size = cap * 5) (ht : cur.toList.take ((n + 1) * 5) = R) (hi : i ≤ n)
    (hR : ∀ u ∈ R, u.oneCell' = true) (hm : n ≤ 1000000) :
    Calls Tryd.prog 46 #[.slice (some ⟨g, 0, none⟩) (n + 1) cap, .int .i64 i, .int .i64 ((i : Int) + 1)] w fun e w' => e = .returned (.slice (some ⟨g, 0, none⟩) n cap) ∧ w'.ownsRow B 68 5 (.slice (some ⟨g, 0, none⟩) n cap) n (R.take (i * 5) ++ R.drop ((i + 1) * 5)) ∧ w.grownBy w' (some g) := by
  unfold maxLen at hcm
  obtain ⟨i0, hii, hz0, hz1, hz2⟩ := info_parts infoT
  obtain ⟨Z, hZ⟩ : ∃ Z, (Value.agg #[.int .i64 0, .string ⟨#[]⟩, .slice none 0 0, .bool false, .int .i64 0]).cells.toList = Z := ⟨_, rfl⟩
  have hZl : Z.length = 5 := by rw [← hZ]; rfl
  obtain ⟨e0, e1, e2, e3⟩ := del_row cur.toList R Z n cap i (by simpa using hcs) ht hi hcap hZl
  obtain ⟨C1, hC1⟩ : ∃ C1, C1 = cur.toList.take (i * 5) ++ R.drop ((i + 1) * 5) ++ cur.toList.drop (i * 5 + (R.drop ((i + 1) * 5)).length) := ⟨_, rfl⟩
  rw [← hC1] at e1 e2 e3
  obtain ⟨C2, hC2⟩ : ∃ C2, C1.take (n * 5) ++ Z ++ C1.drop (n * 5 + Z.length) = C2 := ⟨_, rfl⟩
  rw [hC2] at e2 e3
  have hap : ∀ ty a c, (0 < n - i → a = ⟨g, (i + 1) * 5, none⟩) → (Builtin.append_ #[63, 63] ty #[.slice (some ⟨g, 0, none⟩) i cap, .slice (some a) (n - i) c]).run Tryd.prog w.drew = .ok (.slice (some ⟨g, 0, none⟩) n cap) (w.drew.setRow g C1.toArray) := fun ty a c ha => by
    have := run_append_room (P := Tryd.prog) w.drew 63 ty 68 i0 Tryd.underlying63 hii g i cap cur hg a (n - i) c (R.drop ((i + 1) * 5)) (by rw [hz1]; exact e0)
      (fun j u hu => by
        have hj := (List.getElem?_eq_some_iff.1 hu).1
        rw [ha (by omega), add_cell]
        rw [List.getElem?_drop] at hu
        have e : cur.toList[(i + 1) * 5 + j]? = some u := by
          have hj : (i + 1) * 5 + j < (n + 1) * 5 := by omega
          rw [← ht, List.getElem?_take, if_pos hj] at hu
          exact hu
        show w.cell? _ = _
        simp only [World.cell?, hg]
        simpa using e) (fun u hu => hR u (List.mem_of_mem_drop hu)) (by omega) (by rw [hz1]; omega)
    rw [this, hz1, hC1, show i + (n - i) = n by omega]
  obtain ⟨W1, hW1⟩ : ∃ W1, W1 = w.drew.setRow g C1.toArray := ⟨_, rfl⟩
  rw [← hW1] at hap
  have hg1 : W1.heap[g]? = some (.cells C1.toArray 68 (0, 0)) := by rw [hW1]; exact setRow_heap _ _ _ _ _ _ hg
  have hcl : ∀ ty c, (Builtin.clear_ #[63] ty #[.slice (some ⟨g, n * 5, none⟩) 1 c]).run Tryd.prog W1 = .ok (.tuple #[]) (W1.setRow g C2.toArray) := fun ty c => by
    have := run_clear_one (P := Tryd.prog) W1 63 68 ty (.agg #[.int .i64 0, .string ⟨#[]⟩, .slice none 0 0, .bool false, .int .i64 0]) Tryd.underlying63 zeroT (by decide) g (n * 5) c C1.toArray 68 hg1 (by rw [show (Value.agg #[.int .i64 0, .string ⟨#[]⟩, .slice none 0 0, .bool false, .int .i64 0]).cells.size = 5 from rfl]; simp only [List.size_toArray]; omega)
    rw [this, hZ, ← hC2]
  have HE : Fact ((W1.setRow g C2.toArray).ownsRow B 68 5 (.slice (some ⟨g, 0, none⟩) n cap) n (R.take (i * 5) ++ R.drop ((i + 1) * 5))) := ⟨by
    refine ⟨?_, .inr ⟨g, cap, _, rfl, hB, setRow_heap _ _ _ _ _ _ hg1, by omega, by unfold maxLen; omega, by simpa using e2, by simpa using e3⟩⟩
    rw [← e3, List.length_take, e2]; omega⟩
  have HG : Fact (w.grownBy (W1.setRow g C2.toArray) (some g)) := ⟨by
    refine ⟨by rw [hW1]; rfl, by rw [hW1]; rfl, by rw [hW1]; rfl, by rw [hW1]; simp [World.setRow], fun k hk hne => ?_⟩
    have hkg : k ≠ g := fun e => hne (by rw [e])
    rw [heap_setRow_other _ _ _ _ hkg, hW1, heap_setRow_other _ _ _ _ hkg]; rfl⟩
  clear e0 e1 e2 e3 hC1 hC2 hW1 hg1 hg ht hcs hR hii hz0 hz1 hz2 hZ hZl
  have hb1 : (0 : Int) ≤ (i : Int) + 1 := by omega
  have hb2 : ¬ (cap = i) := by omega
  have hb5 : (i : Int) ≤ (n : Int) + 1 := by omega
  have hb6 : (i : Int) ≤ (n : Int) := by omega
  have hb7 : (i : Int) + 1 ≤ (n : Int) + 1 := by omega
  have hb8 : ¬ (n + 1 = i) := by omega
  have hb9 : ¬ (cap = n) := by omega
  have hb10 : (i : Int) ≤ (cap : Int) := by omega
  by_cases hcc : cap = i + 1
  · obtain rfl : n = i := by omega
    subst hcc
    have hap0 := hap 63 ⟨g, 0, none⟩ 0 (fun h => by omega)
    rw [Nat.sub_self] at hap0
    have HAP := Fact.mk hap0
    clear hap hap0 hb10
    have hb10 : (n : Int) ≤ (n : Int) + 1 := by omega
    go_enter Tryd.func46, Tryd.ntmps46
    go_wp2
    go_region_law (refine wp_append_known (s := .tmp 22) (y := .tmp 25) (t := 63) rfl (by simp [Act.eval]; rfl) (by simp [Act.eval]; rfl) HAP.out ?_)
    go_wp2
    go_ret
    exact ⟨rfl, HE.out, HG.out⟩
  · have HAP := Fact.mk (hap 63 ⟨g, (i + 1) * 5, none⟩ (cap - (i + 1)) (fun h => rfl))
    clear hap
    go_enter Tryd.func46, Tryd.ntmps46
    go_wp2
    go_region_law (refine wp_append_known (s := .tmp 22) (y := .tmp 25) (t := 63) rfl (by simp [Act.eval]; rfl) (by simp [Act.eval]; rfl) HAP.out ?_)
    go_wp2
    go_ret
    exact ⟨rfl, HE.out, HG.out⟩
end Go.Proofs.YtjlijpaefdbohaaDoor
