/- What cmp.Compare, cmp.Or and compareAttrs answer. -/
import Derived.Test.YtjjkidenlgghkaaAwake
import Derived.Test.YtjjkidenlgghkaaOrder
import Derived.Deep.RegionHeld3
set_option linter.unusedVariables false
namespace Go.Proofs.Ytjjkidenlgghkaa
open Go.Deep (BT)
open Go.RowKit M

theorem less_cl : ∀ x y : List UInt8, Op.bytesLess x y = decide (cl x y = -1)
  | [], [] => rfl
  | [], _ :: _ => rfl
  | _ :: _, [] => rfl
  | a :: x, b :: y => by
    have ih := less_cl x y
    rw [Op.bytesLess, ih]
    show _ = decide (orI (ci a.toNat b.toNat) (cl x y) = -1)
    have h1 : decide (a < b) = decide ((a.toNat : Int) < b.toNat) := decide_eq_decide.2 (by rw [UInt8.lt_iff_toNat_lt]; omega)
    have h2 : (a == b) = decide ((a.toNat : Int) = b.toNat) := by
      rw [Bool.eq_iff_iff, beq_iff_eq, decide_eq_true_eq]
      constructor
      · intro h; rw [h]
      · intro h; exact UInt8.toNat_inj.1 (by omega)
    rw [h1, h2]
    rcases ci_cases a.toNat b.toNat with ⟨h, e⟩ | ⟨h, e⟩ | ⟨h, e⟩
    · rw [e, decide_eq_true h]; rfl
    · rw [e, decide_eq_false (by omega), decide_eq_false (by omega)]; rfl
    · rw [e, decide_eq_false (by omega), decide_eq_true h]; rfl
theorem eq_cl (x y : List UInt8) : (x == y) = decide (cl x y = 0) := by
  rw [Bool.eq_iff_iff, beq_iff_eq, decide_eq_true_eq, cl_zero]

theorem toList_data (a : ByteArray) : a.toList = a.data.toList := Lib.toList_data a

def orL : List Int → Int
  | [] => 0
  | z :: zs => orI z (orL zs)

end Go.Proofs.Ytjjkidenlgghkaa
