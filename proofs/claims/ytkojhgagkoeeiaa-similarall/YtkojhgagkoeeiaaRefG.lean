/- The chapter's own sign, by the order's functions. -/
import Derived.Test.YtkojhgagkoeeiaaRefN
set_option linter.unusedVariables false
namespace Go.Proofs.Ytkojhgagkoeeiaa
open Go.Deep (BT)
open Go.RowKit M

def sg (p q : Bool) : Int := if p then -1 else if q then 1 else 0
theorem sign_at (p q : Bool) (C : Int) (h : Fact (sg p q = C)) (w : World) : Calls Try.prog 57 #[.bool p, .bool q] w fun e w' => e = .returned (.int .i64 C) ∧ w' = w := by
  rw [← h.out]; exact sign_any p q w
theorem sg_ci (a b : Int) : sg (decide (a < b)) (decide (b < a)) = ci a b := by
  unfold sg ci
  simp only [decide_eq_true_eq]
theorem sg_cl (x y : List UInt8) : sg (Op.bytesLess x y) (Op.bytesLess y x) = cl x y := by
  rw [less_cl, less_cl, cl_neg x y]
  unfold sg
  simp only [decide_eq_true_eq]
  rcases (cl_sg x y).h with h | h | h <;> rw [h] <;> rfl
theorem sg_cs (a b : ByteArray) : sg (Op.bytesLess a.toList b.toList) (Op.bytesLess b.toList a.toList) = cs a b := by
  rw [sg_cl]; unfold cs; rw [toList_data, toList_data]
/-- as the walk writes 'above': neither below nor the same -/
theorem sg_gt (a b : ByteArray) : sg (Op.bytesLess a.toList b.toList) (!Op.bytesLess a.toList b.toList && !(a.toList == b.toList)) = cs a b := by
  rw [less_cl, eq_cl]
  unfold sg cs
  rw [← toList_data, ← toList_data]
  rcases (cl_sg a.toList b.toList).h with h | h | h <;> rw [h] <;> rfl
end Go.Proofs.Ytkojhgagkoeeiaa
