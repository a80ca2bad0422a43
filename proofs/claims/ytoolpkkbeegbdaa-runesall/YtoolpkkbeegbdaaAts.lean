/- The contracts of Valid, Clean and Lower with their answers named. -/
import Derived.Test.YtoolpkkbeegbdaaAwake
namespace Go.Proofs.Ytoolpkkbeegbdaa
open Go.RowKit M

theorem valid_at (s : ByteArray) (b : Bool) (h : Fact (V s.data.toList = b)) (w : World) : Calls Try.prog 10 #[.string s] w fun e w' => e = .returned (.bool b) ∧ Below w.heap.size w w' := by
  have := valid_any s w
  rw [h.out] at this
  exact this
theorem clean_at (s T : ByteArray) (h : Fact ((⟨(C false s.data.toList).toArray⟩ : ByteArray) = T)) (hs : Fact (s.size ≤ 20000)) (w : World) : Calls Try.prog 12 #[.string s] w fun e w' => e = .returned (.string T) ∧ Below w.heap.size w w' := by
  have := clean_any s w hs.out
  rw [h.out] at this
  exact this
theorem lower_at (s T : ByteArray) (h : Fact ((⟨(L s.data.toList).toArray⟩ : ByteArray) = T)) (hs : Fact (s.size ≤ 20000)) (w : World) : Calls Try.prog 14 #[.string s] w fun e w' => e = .returned (.string T) ∧ Below w.heap.size w w' := by
  have := lower_any s w (by have := hs.out; omega)
  rw [h.out] at this
  exact this
theorem byte_at (s : ByteArray) (k : Nat) (h : k < s.size) : s.data.toList[k]? = some (s[k]'h) := by
  rw [List.getElem?_eq_getElem (by rw [← Lib.size_eq]; exact h)]
  rfl
end Go.Proofs.Ytoolpkkbeegbdaa
