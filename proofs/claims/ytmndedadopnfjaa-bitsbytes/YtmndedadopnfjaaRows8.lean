/- Two rows of eight bytes that are the same are the same by the program too, and what stays while the law BitsBytes runs: no condition. -/
import Derived.Test.YtmndedadopnfjaaCalls2
import Derived.Deep.RegionHeld3
import Derived.ChangeKeysEq
namespace Go.Proofs.Ytmndedadopnfjaa
open Go.ChangeShapes Go.WideShapes Go.ChangeAt Go.RowKit M
theorem Try.cells5 : Try.prog.cellsOf 5 = 1 := by kernel_rfl
theorem Try.plain5 : Try.prog.plainKey 5 = true := by kernel_rfl
theorem Try.there5 : (Try.prog.info? 5).isSome = true := by kernel_rfl
theorem items_self (w : World) (xs : Array Value) : ∀ is : List Nat, (∀ j ∈ is, ∃ a : Int, xs[j * 1]? = some (.int .u8 a)) → (Op.eqItems 9999 5 1 xs xs is).run Try.prog w = .ok true w
  | [], _ => by simp [Op.eqItems]
  | j :: is, h => by
    obtain ⟨a, ha⟩ := h j (by simp)
    simp only [Op.eqItems, Sem.run_bind]
    rw [run_part_plain w Try.plain5 ha]
    simp only [Result.andThen_ok]
    rw [run_part_plain w Try.plain5 ha]
    simp only [Result.andThen_ok]
    rw [run_equalIn_int w 9998 5 .u8 .u8 a a Try.underlying5]
    simp only [Result.andThen_ok, beq_self_eq_true, Bool.not_true, Bool.false_eq_true, if_false]
    exact items_self w xs is (fun i hi => h i (by simp [hi]))
theorem eq8 (b0 b1 b2 b3 b4 b5 b6 b7 : Int) (w : World) :
    (Op.equalIn 10000 23 (.agg #[.int .u8 b0, .int .u8 b1, .int .u8 b2, .int .u8 b3, .int .u8 b4, .int .u8 b5, .int .u8 b6, .int .u8 b7]) (.agg #[.int .u8 b0, .int .u8 b1, .int .u8 b2, .int .u8 b3, .int .u8 b4, .int .u8 b5, .int .u8 b6, .int .u8 b7])).run Try.prog w = .ok true w := by
  obtain ⟨i, hi⟩ := Option.isSome_iff_exists.1 Try.there5
  rw [run_equalIn_array w 9999 _ _ Try.underlying23 hi, Try.cells5]
  refine items_self w _ [0, 1, 2, 3, 4, 5, 6, 7] fun j hj => ?_
  simp only [List.mem_cons, List.not_mem_nil, or_false] at hj
  rcases hj with h | h | h | h | h | h | h | h <;> subst h <;> exact ⟨_, rfl⟩
/-- what stays while the law's last statement runs: two rows of bytes, and all that was there before the call -/
theorem keep2 {w W w' : World} {B : Nat} {xs ys : Array Value} (hb : Below W.heap.size W w')
    (h : (Below w.heap.size w W ∧ w.heap.size ≤ B ∧ B + 1 < W.heap.size) ∧ (∀ i, W.cell? ⟨B, i, none⟩ = xs[i]?) ∧ (∀ i, W.cell? ⟨B + 1, i, none⟩ = ys[i]?)) :
    (Below w.heap.size w w' ∧ w.heap.size ≤ B ∧ B + 1 < w'.heap.size) ∧ (∀ i, w'.cell? ⟨B, i, none⟩ = xs[i]?) ∧ (∀ i, w'.cell? ⟨B + 1, i, none⟩ = ys[i]?) := by
  obtain ⟨⟨h1, h2, h3⟩, h4, h5⟩ := h
  have hs := hb.size
  refine ⟨⟨h1.trans (hb.mono (by omega)), h2, by omega⟩, fun i => ?_, fun i => ?_⟩
  · rw [hb.cell (p := ⟨B, i, none⟩) (by show B < _; omega)]; exact h4 i
  · rw [hb.cell (p := ⟨B + 1, i, none⟩) (by show B + 1 < _; omega)]; exact h5 i
theorem start2 {w w1 w2 : World} {xs ys : Array Value} (hb1 : Below w.heap.size w w1) (hb2 : Below ((w1.alloc (.cells xs 23)).alloc (.cells ys 23)).heap.size ((w1.alloc (.cells xs 23)).alloc (.cells ys 23)) w2) :
    (Below w.heap.size w w2.drew ∧ w.heap.size ≤ w1.heap.size ∧ w1.heap.size + 1 < w2.drew.heap.size) ∧ (∀ i, w2.drew.cell? ⟨w1.heap.size, i, none⟩ = xs[i]?) ∧ (∀ i, w2.drew.cell? ⟨w1.heap.size + 1, i, none⟩ = ys[i]?) := by
  have hz : ((w1.alloc (.cells xs 23)).alloc (.cells ys 23)).heap.size = w1.heap.size + 2 := by simp
  have hs := hb1.size
  have h0 : Below w.heap.size w ((w1.alloc (.cells xs 23)).alloc (.cells ys 23)) := (hb1.alloc hs _).alloc (by simp; omega) _
  refine keep2 (W := ((w1.alloc (.cells xs 23)).alloc (.cells ys 23))) hb2.drew ⟨⟨h0, hs, by omega⟩, fun i => ?_, fun i => ?_⟩
  · rw [World.cell?_alloc_past _ _ _ (by simp), World.cell?_alloc_at _ _ _ _ rfl]
  · rw [World.cell?_alloc_at _ _ _ _ (by simp)]
end Go.Proofs.Ytmndedadopnfjaa
