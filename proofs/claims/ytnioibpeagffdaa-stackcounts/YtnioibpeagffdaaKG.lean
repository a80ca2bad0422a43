/- Is, of any sort. -/
import Derived.Test.YtnioibpeagffdaaKE
import Derived.Test.YtnioibpeagffdaaKF
set_option linter.unusedVariables false
namespace Go.Proofs.Ytnioibpeagffdaa
open Go.RowKit Go.Shelf

theorem sortL_big (n : Nat) (h : 9 ≤ n) : sortL n = [] := by
  obtain ⟨m, rfl⟩ : ∃ m, n = m + 9 := ⟨n - 9, by omega⟩
  rfl
theorem is_any (x : ByteArray) (k : Int) (w : World) (B : Bool) (hV : Fact (isB x k = B)) :
    Calls Try.prog 10 #[.string x, .int .i64 k] w fun e w' => e = .returned (.bool B) ∧ Below w.heap.size w w' := by
  by_cases h : 0 < k ∧ k < 9
  · obtain ⟨j, rfl⟩ : ∃ j : Nat, k = j := ⟨k.toNat, by omega⟩
    exact is_in x j (by omega) (by omega) w B ⟨by have := hV.out; unfold isB at this; simpa using this⟩
  · have hf : B = false := by
      rw [← hV.out]
      unfold isB
      by_cases h0 : 0 < k
      · rw [sortL_big _ (by omega)]; rfl
      · rw [show k.toNat = 0 by omega]; rfl
    subst hf
    exact is_out x k h w
end Go.Proofs.Ytnioibpeagffdaa
