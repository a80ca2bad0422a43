/- slices.Insert of one item in the midst of a row without room. -/
import Derived.Test.YtjlijpaefdbohaaDoorFC
set_option linter.unusedVariables false
namespace Go.Proofs.YtjlijpaefdbohaaDoor
open Go.RowKit

theorem zero5 (z : Array Value) (k : Nat) : (Builtin.zeroCells z k).toList.length = k * z.size := by simp [Builtin.zeroCells]
/-- a new row that begins with the old one's head, the item put in, the rest put behind it -/
theorem grow_row (R cx Z : List Value) (n i q : Nat) (hR : R.length = n * 5) (hi : i < n) (hl : cx.length = 5) (hZ : Z.length = (n + 1 - i) * 5 + q) :
    (R.take (i * 5)).length = i * 5 ∧ (R.drop (i * 5)).length = (n - i) * 5 ∧
    (((R.take (i * 5) ++ Z).take (i * 5) ++ cx ++ (R.take (i * 5) ++ Z).drop (i * 5 + cx.length)).length = (n + 1) * 5 + q) ∧
    ((((R.take (i * 5) ++ Z).take (i * 5) ++ cx ++ (R.take (i * 5) ++ Z).drop (i * 5 + cx.length)).take ((i + 1) * 5) ++ R.drop (i * 5) ++ ((R.take (i * 5) ++ Z).take (i * 5) ++ cx ++ (R.take (i * 5) ++ Z).drop (i * 5 + cx.length)).drop ((i + 1) * 5 + (R.drop (i * 5)).length)).length = (n + 1) * 5 + q) ∧
    (((R.take (i * 5) ++ Z).take (i * 5) ++ cx ++ (R.take (i * 5) ++ Z).drop (i * 5 + cx.length)).take ((i + 1) * 5) ++ R.drop (i * 5) ++ ((R.take (i * 5) ++ Z).take (i * 5) ++ cx ++ (R.take (i * 5) ++ Z).drop (i * 5 + cx.length)).drop ((i + 1) * 5 + (R.drop (i * 5)).length)).take ((n + 1) * 5) = R.take (i * 5) ++ cx ++ R.drop (i * 5) := by
  have e5 : (R.take (i * 5)).length = i * 5 := by rw [List.length_take, hR]; omega
  have e0 : (R.drop (i * 5)).length = (n - i) * 5 := by rw [List.length_drop, hR]; omega
  have e1 : (R.take (i * 5) ++ Z).take (i * 5) = R.take (i * 5) := by rw [List.take_append_of_le_length (by omega), List.take_take]; simp
  have e2 : ((R.take (i * 5) ++ Z).take (i * 5) ++ cx ++ (R.take (i * 5) ++ Z).drop (i * 5 + cx.length)).take ((i + 1) * 5) = R.take (i * 5) ++ cx := by
    rw [e1, List.take_append_of_le_length (by simp only [List.length_append]; omega), List.take_of_length_le (by simp only [List.length_append]; omega)]
  have e3 : ((R.take (i * 5) ++ Z).take (i * 5) ++ cx ++ (R.take (i * 5) ++ Z).drop (i * 5 + cx.length)).length = (n + 1) * 5 + q := by
    rw [e1]; simp only [List.length_append, List.length_drop]; omega
  refine ⟨e5, e0, e3, ?_, ?_⟩
  · rw [e2]; simp only [List.length_append, List.length_drop, e1] at e3 ⊢; omega
  · rw [e2, List.take_append_of_le_length (by simp only [List.length_append]; omega), List.take_of_length_le (by simp only [List.length_append]; omega)]

set_option maxRecDepth 20000 in
set_option maxHeartbeats 2000000 in
theorem insert_grow (w : World) (B g i : Nat) (cur : Array Value) (n vb : Nat) (R cx : List Value) (hg : w.heap[g]? = some (.cells cur 68 (0, 0))) (hB : B ≤ w.heap.size) (hcs : cur.size = n * 5) (ht : cur.toList.take (n * 5) = R) (hi : i < n)
    (hv : w.heap[vb]? = some (.cells cx.toArray 68 (0, 0))) (hl : cx.length = 5) (h1 : ∀ u ∈ cx, u.oneCell' = true) (hR : ∀ u ∈ R, u.oneCell' = true) (hm : n ≤ 1000000) :
    Calls Tryd.prog 44 #[.slice (some ⟨g, 0, none⟩) n n, .int .i64 i, .slice (some ⟨vb, 0, none⟩) 1 1] w fun e w' => ∃ cap, e = .returned (.slice (some ⟨w.heap.size, 0, none⟩) (n + 1) cap) ∧ w'.ownsRow B 68 5 (.slice (some ⟨w.heap.size, 0, none⟩) (n + 1) cap) (n + 1) (R.take (i * 5) ++ cx ++ R.drop (i * 5)) ∧ w.grownBy w' none := by
  obtain ⟨i0, hii, hz0, hz1, hz2⟩ := info_parts infoT
  have hsz : (Tryd.prog.info? 68).map (·.size) = some 5 := by rw [hii]; simp [hz1]
  have hRl : R.length = n * 5 := by rw [← ht, List.length_take]; simp; omega
  have hcell : ∀ j u, R[j]? = some u → w.cell? ⟨g, j, none⟩ = some u := fun j u hu => by
    have hj : j < n * 5 := by have := (List.getElem?_eq_some_iff.1 hu).1; omega
    rw [← ht, List.getElem?_take, if_pos hj] at hu
    simp only [World.cell?, hg]
    simpa using hu
  have hold : (Builtin.firstCells i0.size i (.slice (some ⟨g, 0, none⟩) i n)).run Tryd.prog w.drew = .ok (R.take (i * 5)).toArray w.drew := by
    rw [hz1]
    exact run_firstCells_some w.drew 5 i ⟨g, 0, none⟩ i n (R.take (i * 5)) (by rw [List.length_take]; omega) (fun j u hu => by
      rw [add_cell, Nat.zero_add]
      rw [List.getElem?_take] at hu
      split at hu
      · exact hcell j u hu
      · cases hu)
  have hap := fun ty => Lib.run_append_grow_zeros (P := Tryd.prog) w 63 3 ty 68 i0 (.agg #[.int .i64 0, .string ⟨#[]⟩, .slice none 0 0, .bool false, .int .i64 0]) .i64 .i64 Tryd.underlying63 Tryd.underlying3 hii hz0 (some ⟨g, 0, none⟩) i n (R.take (i * 5)) hold (n + 1 - i) (by omega) (by rw [hz1]; omega) (by omega) (by omega) (by rw [hz2]; omega) (by rw [hz2, show i + (n + 1 - i) = n + 1 by omega]; exact growslice_fits (by omega) (by omega))
  rw [show i + (n + 1 - i) = n + 1 by omega] at hap
  have ecast : ((n + 1 - i : Nat) : Int) = (n : Int) + 1 - (i : Int) := by omega
  rw [ecast] at hap
  clear ecast
  obtain ⟨cap, hcap⟩ : ∃ cap, grownCap w (n + 1) n 68 = cap := ⟨_, rfl⟩
  have hge := grownCap_ge w (n + 1) n 68
  have hle := grownCap_le_maxLen w (n + 1) n 68 (by unfold maxLen; omega)
  rw [hcap] at hap hge hle
  obtain ⟨Z, hZ⟩ : ∃ Z, (Builtin.zeroCells (Value.agg #[.int .i64 0, .string ⟨#[]⟩, .slice none 0 0, .bool false, .int .i64 0]).cells (n + 1 - i)).toList ++ (Builtin.zeroCells (Value.agg #[.int .i64 0, .string ⟨#[]⟩, .slice none 0 0, .bool false, .int .i64 0]).cells (cap - (n + 1))).toList = Z := ⟨_, rfl⟩
  have hZl : Z.length = (n + 1 - i) * 5 + (cap - (n + 1)) * 5 := by
    rw [← hZ, List.length_append, zero5, zero5]; rfl
  have hrow : (R.take (i * 5)).toArray ++ Builtin.zeroCells (Value.agg #[.int .i64 0, .string ⟨#[]⟩, .slice none 0 0, .bool false, .int .i64 0]).cells (n + 1 - i) ++ Builtin.zeroCells (Value.agg #[.int .i64 0, .string ⟨#[]⟩, .slice none 0 0, .bool false, .int .i64 0]).cells (cap - (n + 1)) = (R.take (i * 5) ++ Z).toArray := by
    rw [← hZ]; apply Array.ext'; simp
  rw [hrow] at hap
  clear hrow hZ hcap hold
  obtain ⟨q0, q1, q2, q3, q4⟩ := grow_row R cx Z n i ((cap - (n + 1)) * 5) hRl hi hl hZl
  have hcc : (n + 1) * 5 + (cap - (n + 1)) * 5 = cap * 5 := by omega
  rw [hcc] at q2 q3
  obtain ⟨C0, hC0⟩ : ∃ C0, R.take (i * 5) ++ Z = C0 := ⟨_, rfl⟩
  rw [hC0] at hap q2 q3 q4
  obtain ⟨C1, hC1⟩ : ∃ C1, C0.take (i * 5) ++ cx ++ C0.drop (i * 5 + cx.length) = C1 := ⟨_, rfl⟩
  have hC0l : C0.length = cap * 5 := by rw [← hC0, List.length_append]; omega
  rw [hC1] at q2 q3 q4
  obtain ⟨W0, hW0⟩ : ∃ W0, w.drew.alloc (.cells C0.toArray 68) = W0 := ⟨_, rfl⟩
  rw [hW0] at hap
  have hg0 : W0.heap[w.heap.size]? = some (.cells C0.toArray 68 (0, 0)) := by rw [← hW0]; exact heap_alloc_new w.drew _
  have hold0 : ∀ k, k < w.heap.size → W0.heap[k]? = w.heap[k]? := fun k hk => by rw [← hW0]; exact Below.heap_alloc w.drew _ k hk
  have hvs : vb < w.heap.size := (Array.getElem?_eq_some_iff.1 hv).1
  have hgs : g < w.heap.size := (Array.getElem?_eq_some_iff.1 hg).1
  have hcp1 : ∀ ty dc, (Builtin.copy_ #[63, 63] ty #[.slice (some ⟨w.heap.size, i * 5, none⟩) (n + 1 - i) dc, .slice (some ⟨vb, 0, none⟩) 1 1]).run Tryd.prog W0 = .ok (goInt (1 : Nat)) (W0.setRow w.heap.size C1.toArray) := fun ty dc => by
    rw [← hC1]
    exact run_copy_at W0 _ _ ty 68 w.heap.size (i * 5) (n + 1 - i) dc 1 1 1 5 ⟨vb, 0, none⟩ C0.toArray 68 cx Tryd.underlying63 hsz hg0 (by simp only [Nat.min_def]; split <;> omega) (by omega)
      (cells_of ((hold0 vb hvs).trans hv)) (by simp only [List.size_toArray]; omega) h1
  obtain ⟨W1, hW1⟩ : ∃ W1, W1 = W0.setRow w.heap.size C1.toArray := ⟨_, rfl⟩
  rw [← hW1] at hcp1
  have hg1 : W1.heap[w.heap.size]? = some (.cells C1.toArray 68 (0, 0)) := by rw [hW1]; exact setRow_heap _ _ _ _ _ _ hg0
  have hold1 : ∀ k, k < w.heap.size → W1.heap[k]? = w.heap[k]? := fun k hk => by rw [hW1, heap_setRow_other _ _ _ _ (by omega)]; exact hold0 k hk
  obtain ⟨C2, hC2⟩ : ∃ C2, C1.take ((i + 1) * 5) ++ R.drop (i * 5) ++ C1.drop ((i + 1) * 5 + (R.drop (i * 5)).length) = C2 := ⟨_, rfl⟩
  rw [hC2] at q3 q4
  have hcp2 : ∀ ty dc sc, (Builtin.copy_ #[63, 63] ty #[.slice (some ⟨w.heap.size, (i + 1) * 5, none⟩) (n - i) dc, .slice (some ⟨g, i * 5, none⟩) (n - i) sc]).run Tryd.prog W1.drew = .ok (goInt (n - i : Nat)) (W1.drew.setRow w.heap.size C2.toArray) := fun ty dc sc => by
    rw [← hC2]
    exact run_copy_at W1.drew _ _ ty 68 w.heap.size ((i + 1) * 5) (n - i) dc (n - i) sc (n - i) 5 ⟨g, i * 5, none⟩ C1.toArray 68 (R.drop (i * 5)) Tryd.underlying63 hsz hg1 (by simp only [Nat.min_def]; split <;> omega) q1
      (fun j u hu => by
        rw [add_cell]
        rw [List.getElem?_drop] at hu
        exact (World.cell?_of_block (w := w) (a := ⟨g, i * 5 + j, none⟩) (hold1 g hgs)).trans (hcell _ _ hu)) (by simp only [List.size_toArray]; omega) (fun u hu => hR u (List.mem_of_mem_drop hu))
  have HE : Fact ((W1.drew.setRow w.heap.size C2.toArray).ownsRow B 68 5 (.slice (some ⟨w.heap.size, 0, none⟩) (n + 1) cap) (n + 1) (R.take (i * 5) ++ cx ++ R.drop (i * 5))) := ⟨by
    refine ⟨?_, .inr ⟨w.heap.size, cap, _, rfl, hB, setRow_heap _ _ _ _ _ _ hg1, by omega, hle, by simpa using q3, by simpa using q4⟩⟩
    simp only [List.length_append]; omega⟩
  have HG : Fact (w.grownBy (W1.drew.setRow w.heap.size C2.toArray) none) := ⟨by
    refine ⟨by rw [hW1, ← hW0]; rfl, by rw [hW1, ← hW0]; rfl, by rw [hW1, ← hW0]; rfl, by rw [hW1, ← hW0]; simp [World.setRow], fun k hk hne => ?_⟩
    rw [heap_setRow_other _ _ _ _ (by omega)]; exact hold1 k hk⟩
  have hz3 : ¬ ((i : Int) = (n : Int)) := by omega
  have hw1 : IntKind.i64.wrap ((i : Int) + 1) = (i : Int) + 1 := by rw [IntKind.wrap_i64]; omega
  have hb1 : (0 : Int) ≤ (i : Int) + 1 := by omega
  have hb4 : ¬ (n = i) := by omega
  have hb2 : ¬ (cap = i) := by omega
  have hb3 : ¬ (cap = i + 1) := by omega
  have hb5 : (i : Int) ≤ (n : Int) := by omega
  have hb6 : (i : Int) ≤ (n : Int) + 1 := by omega
  have hb7 : (i : Int) + 1 ≤ (n : Int) + 1 := by omega
  have hge' : n + 1 ≤ cap := hge
  have hle' : cap ≤ 9223372036854775807 := hle
  have HAP := Fact.mk hap
  clear q0 q1 q2 q3 q4 hC0 hC1 hC2 hW0 hW1 hg0 hg1 hold0 hold1 hg hv ht hcs hl h1 hR hap hcell hRl hZl hC0l hge hle hii hz0 hz1 hz2 hsz hcc
  go_enter Tryd.func44, Tryd.ntmps44
  go_wp2_with (first
    | (at_builtin; refine wpList_append_said _ rfl (.tmp 34) (.tmp 39) 63 3 rfl 63 rfl _ _ rfl rfl (HAP.out _) ?_)
    | (at_builtin; refine wpList_copy_said _ rfl (.tmp 43) (.tmp 44) 63 63 rfl _ _ rfl rfl (hcp1 _ _) ?_))
  have hcp2' := hcp2 3 (cap - (i + 1)) (n - i)
  go_region
  go_wp2
  go_ret
  exact ⟨_, rfl, HE.out, HG.out⟩
end Go.Proofs.YtjlijpaefdbohaaDoor
