/- slices.Insert of one item in the midst. -/
import Derived.Test.YtjlijpaefdbohaaDoorFB
import Derived.Shelf.Spec.SlicesInsert
set_option linter.unusedVariables false
namespace Go.Proofs.YtjlijpaefdbohaaDoor
open Go.RowKit

theorem run_over (w : World) (vb g x n cap lb cb : Nat) (cur : Array Value) (cx : List Value) (hv : w.heap[vb]? = some (.cells cx.toArray 68 (0, 0))) (hl : cx.length = 5) (hg : w.heap[g]? = some (.cells cur 68 (0, 0))) (hc : cur.size ≠ 0) (hne : vb ≠ g) :
    (callFunc 51 #[.slice (some ⟨vb, 0, none⟩) 1 1, .slice (some ⟨g, x, none⟩) lb cb]).run Tryd.prog w = .ok (.value (.bool false)) w := by
  obtain ⟨i0, hii, hz0, hz1, hz2⟩ := info_parts infoT
  rw [run_callFunc_extern Tryd.func51 (by kernel_rfl) (by kernel_rfl) (by kernel_rfl) (e := Extern.SlicesOverlaps.overlaps #[63, 63] #[4]) (by kernel_rfl),
    Lib.run_overlaps_apart w 63 4 68 Tryd.underlying63 5 (fun w => by simp [sizeOf, typeInfo, hii, hz1]) ⟨vb, 0, none⟩ ⟨g, x, none⟩ 1 1 lb cb hne 68 68 5 cur.size (by simp [World.shape?, hv, hl]) (by simp [World.shape?, hg]) hc (by simp [World.frozen?, hv]) (by simp [World.frozen?, hv])]
  rfl

/-- a row shifted by one item, and the item put in -/
theorem shift_row (C R cx : List Value) (n cap i : Nat) (hC : C.length = cap * 5) (ht : C.take (n * 5) = R) (hi : i < n) (hcap : n + 1 ≤ cap) (hl : cx.length = 5) :
    (R.drop (i * 5)).length = (n - i) * 5 ∧
    (C.take ((i + 1) * 5) ++ R.drop (i * 5) ++ C.drop ((i + 1) * 5 + (R.drop (i * 5)).length)).length = cap * 5 ∧
    ((C.take ((i + 1) * 5) ++ R.drop (i * 5) ++ C.drop ((i + 1) * 5 + (R.drop (i * 5)).length)).take (i * 5) ++ cx ++ (C.take ((i + 1) * 5) ++ R.drop (i * 5) ++ C.drop ((i + 1) * 5 + (R.drop (i * 5)).length)).drop (i * 5 + cx.length)).length = cap * 5 ∧
    ((C.take ((i + 1) * 5) ++ R.drop (i * 5) ++ C.drop ((i + 1) * 5 + (R.drop (i * 5)).length)).take (i * 5) ++ cx ++ (C.take ((i + 1) * 5) ++ R.drop (i * 5) ++ C.drop ((i + 1) * 5 + (R.drop (i * 5)).length)).drop (i * 5 + cx.length)).take ((n + 1) * 5) = R.take (i * 5) ++ cx ++ R.drop (i * 5) := by
  have hRl : R.length = n * 5 := by rw [← ht, List.length_take, hC]; omega
  have e0 : (R.drop (i * 5)).length = (n - i) * 5 := by rw [List.length_drop, hRl]; omega
  have e1 : (C.take ((i + 1) * 5)).length = (i + 1) * 5 := by rw [List.length_take, hC]; omega
  have e2 : (C.take ((i + 1) * 5) ++ R.drop (i * 5) ++ C.drop ((i + 1) * 5 + (R.drop (i * 5)).length)).take (i * 5) = R.take (i * 5) := by
    rw [List.append_assoc, List.take_append_of_le_length (by omega), List.take_take, ← ht, List.take_take]
    congr 1
    omega
  have e3 : (C.take ((i + 1) * 5) ++ R.drop (i * 5) ++ C.drop ((i + 1) * 5 + (R.drop (i * 5)).length)).drop (i * 5 + cx.length) = R.drop (i * 5) ++ C.drop ((i + 1) * 5 + (R.drop (i * 5)).length) := by
    rw [List.append_assoc, show i * 5 + cx.length = (C.take ((i + 1) * 5)).length by omega, List.drop_left]
  have e5 : (R.take (i * 5)).length = i * 5 := by rw [List.length_take, hRl]; omega
  refine ⟨e0, ?_, ?_, ?_⟩
  · simp only [List.length_append, e1, e0, List.length_drop, hC]; omega
  · rw [e2, e3]
    simp only [List.length_append, e5, e0, List.length_drop, hC]; omega
  · rw [e2, e3, ← List.append_assoc, List.take_append_of_le_length (by simp only [List.length_append, e5, e0, hl]; omega), List.take_of_length_le (by simp only [List.length_append, e5, e0, hl]; omega)]

theorem heap_setRow_other (w : World) (g k : Nat) (c : Array Value) (h : k ≠ g) : (w.setRow g c).heap[k]? = w.heap[k]? := by
  simp [World.setRow, Array.getElem?_modify, h.symm]

set_option maxRecDepth 20000 in
set_option maxHeartbeats 2000000 in
theorem insert_room (w : World) (B g cap i : Nat) (cur : Array Value) (n vb : Nat) (R cx : List Value) (hg : w.heap[g]? = some (.cells cur 68 (0, 0))) (hB : B ≤ g) (hcap : n + 1 ≤ cap) (hcm : cap ≤ maxLen) (hcs : cur.size = cap * 5) (ht : cur.toList.take (n * 5) = R) (hi : i < n)
    (hv : w.heap[vb]? = some (.cells cx.toArray 68 (0, 0))) (hl : cx.length = 5) (h1 : ∀ u ∈ cx, u.oneCell' = true) (hR : ∀ u ∈ R, u.oneCell' = true) (hm : n ≤ 1000000) (hne : vb ≠ g) :
    Calls Tryd.prog 44 #[.slice (some ⟨g, 0, none⟩) n cap, .int .i64 i, .slice (some ⟨vb, 0, none⟩) 1 1] w fun e w' => e = .returned (.slice (some ⟨g, 0, none⟩) (n + 1) cap) ∧ w'.ownsRow B 68 5 (.slice (some ⟨g, 0, none⟩) (n + 1) cap) (n + 1) (R.take (i * 5) ++ cx ++ R.drop (i * 5)) ∧ w.grownBy w' (some g) := by
  have hov := fun x lb cb => run_over w vb g x n cap lb cb cur cx hv hl hg (by omega) hne
  unfold maxLen at hcm
  have hz2 : ¬ ((i : Int) = (n : Int)) := by omega
  have hw1 : IntKind.i64.wrap ((i : Int) + 1) = (i : Int) + 1 := by rw [IntKind.wrap_i64]; omega
  have hb1 : (0 : Int) ≤ (i : Int) + 1 := by omega
  have hb2 : ¬ (cap = i + 1) := by omega
  have hb4 : ¬ (cap = i) := by omega
  have hb5 : (i : Int) ≤ (n : Int) := by omega
  have hb6 : (i : Int) ≤ (n : Int) + 1 := by omega
  have hb7 : (i : Int) + 1 ≤ (n : Int) + 1 := by omega
  have mixed : Tryd.prog.follows Departure.mixedOrders = true := by kernel_rfl
  obtain ⟨e0, e1, e2, e3⟩ := shift_row cur.toList R cx n cap i (by simpa using hcs) ht hi hcap hl
  obtain ⟨C1, hC1⟩ : ∃ C1, C1 = cur.toList.take ((i + 1) * 5) ++ R.drop (i * 5) ++ cur.toList.drop ((i + 1) * 5 + (R.drop (i * 5)).length) := ⟨_, rfl⟩
  rw [← hC1] at e1 e2 e3
  have hsz : (Tryd.prog.info? 68).map (·.size) = some 5 := by
    obtain ⟨i0, hii, hz0, hz1, hz2⟩ := info_parts infoT
    rw [hii]; simp [hz1]
  have hcp1 : ∀ ty dc sc, (Builtin.copy_ #[63, 63] ty #[.slice (some ⟨g, (i + 1) * 5, none⟩) (n - i) dc, .slice (some ⟨g, i * 5, none⟩) (n + 1 - i) sc]).run Tryd.prog w.drew = .ok (goInt (n - i : Nat)) (w.drew.setRow g C1.toArray) := fun ty dc sc => by
    rw [hC1]
    exact run_copy_at w.drew _ _ ty 68 g ((i + 1) * 5) (n - i) dc (n + 1 - i) sc (n - i) 5 ⟨g, i * 5, none⟩ cur 68 (R.drop (i * 5)) Tryd.underlying63 hsz hg (by simp only [Nat.min_def]; split <;> omega) e0
      (fun j u hu => by
        rw [add_cell]
        have e : cur.toList[i * 5 + j]? = some u := by
          rw [List.getElem?_drop] at hu
          have hj : i * 5 + j < n * 5 := by have := (List.getElem?_eq_some_iff.1 hu).1; rw [← ht, List.length_take] at this; omega
          rw [← ht, List.getElem?_take, if_pos hj] at hu
          exact hu
        show w.cell? _ = _
        simp only [World.cell?, hg]
        simpa using e) (by rw [e0, hcs]; omega) (fun u hu => hR u (List.mem_of_mem_drop hu))
  obtain ⟨W1, hW1⟩ : ∃ W1, W1 = w.drew.setRow g C1.toArray := ⟨_, rfl⟩
  rw [← hW1] at hcp1
  have hg1 : W1.heap[g]? = some (.cells C1.toArray 68 (0, 0)) := by rw [hW1]; exact setRow_heap _ _ _ _ _ _ hg
  have hv1 : W1.heap[vb]? = some (.cells cx.toArray 68 (0, 0)) := by rw [hW1, heap_setRow_other _ _ _ _ hne]; exact hv
  obtain ⟨C2, hC2⟩ : ∃ C2, C1.take (i * 5) ++ cx ++ C1.drop (i * 5 + cx.length) = C2 := ⟨_, rfl⟩
  rw [hC2] at e2 e3
  have hcp2 : ∀ ty dc, (Builtin.copy_ #[63, 63] ty #[.slice (some ⟨g, i * 5, none⟩) (n + 1 - i) dc, .slice (some ⟨vb, 0, none⟩) 1 1]).run Tryd.prog W1 = .ok (goInt (1 : Nat)) (W1.setRow g C2.toArray) := fun ty dc => by
    rw [← hC2]
    exact run_copy_at W1 _ _ ty 68 g (i * 5) (n + 1 - i) dc 1 1 1 5 ⟨vb, 0, none⟩ C1.toArray 68 cx Tryd.underlying63 hsz hg1 (by simp only [Nat.min_def]; split <;> omega) (by omega)
      (cells_of hv1) (by simp only [List.size_toArray]; omega) h1
  have HE : Fact ((W1.setRow g C2.toArray).ownsRow B 68 5 (.slice (some ⟨g, 0, none⟩) (n + 1) cap) (n + 1) (R.take (i * 5) ++ cx ++ R.drop (i * 5))) := ⟨by
    refine ⟨?_, .inr ⟨g, cap, _, rfl, hB, setRow_heap _ _ _ _ _ _ hg1, by omega, by unfold maxLen; omega, by simpa using e2, by simpa using e3⟩⟩
    rw [← e3, List.length_take, e2]; omega⟩
  have HG : Fact (w.grownBy (W1.setRow g C2.toArray) (some g)) := ⟨by
    refine ⟨by rw [hW1]; rfl, by rw [hW1]; rfl, by rw [hW1]; rfl, by rw [hW1]; simp [World.setRow], fun k hk hne => ?_⟩
    have hkg : k ≠ g := fun e => hne (by rw [e])
    rw [heap_setRow_other _ _ _ _ hkg, hW1, heap_setRow_other _ _ _ _ hkg]; rfl⟩
  clear e0 e1 e2 e3 hC2 hC1 hW1 hg1 hv1 hg hv ht hcs hl h1 hR
  go_enter Tryd.func44, Tryd.ntmps44
  go_wp2_with (simp only [hov])
  have hcp1' := hcp1 3 (cap - (i + 1)) (cap - i)
  go_region
  go_wp2_with (at_builtin; refine wpList_copy_said _ rfl _ _ 63 63 rfl _ _ rfl rfl (hcp2 _ _) ?_)
  go_ret
  exact ⟨rfl, HE.out, HG.out⟩
end Go.Proofs.YtjlijpaefdbohaaDoor
