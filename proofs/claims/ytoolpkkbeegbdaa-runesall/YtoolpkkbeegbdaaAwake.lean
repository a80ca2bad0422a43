/- The document's example holds: awake answers true. -/
import Derived.Test.YtoolpkkbeegbdaaClean
import Derived.Test.YtoolpkkbeegbdaaLower
namespace Go.Proofs.Ytoolpkkbeegbdaa
open Go.RowKit M

theorem ex_clean : C false [97, 13, 10, 98] = [97, 10, 98] := by kernel_rfl
theorem ex_lower : L [97, 66] = [97, 98] := by kernel_rfl
theorem ex_valid : V [195, 159] = true := by kernel_rfl
theorem ex_not : V [255] = false := by kernel_rfl

theorem clean_ex (w : World) : Calls Try.prog 12 #[.string ⟨#[97, 13, 10, 98]⟩] w fun e w' => e = .returned (.string ⟨#[97, 10, 98]⟩) ∧ Below w.heap.size w w' := by
  have h := clean_any ⟨#[97, 13, 10, 98]⟩ w (by decide)
  rw [show (⟨#[97, 13, 10, 98]⟩ : ByteArray).data.toList = [97, 13, 10, 98] from rfl, ex_clean] at h
  exact h
theorem lower_ex (w : World) : Calls Try.prog 14 #[.string ⟨#[97, 66]⟩] w fun e w' => e = .returned (.string ⟨#[97, 98]⟩) ∧ Below w.heap.size w w' := by
  have h := lower_any ⟨#[97, 66]⟩ w (by decide)
  rw [show (⟨#[97, 66]⟩ : ByteArray).data.toList = [97, 66] from rfl, ex_lower] at h
  exact h
theorem valid_ex (w : World) : Calls Try.prog 10 #[.string ⟨#[195, 159]⟩] w fun e w' => e = .returned (.bool true) ∧ Below w.heap.size w w' := by
  have h := valid_any ⟨#[195, 159]⟩ w
  rw [show (⟨#[195, 159]⟩ : ByteArray).data.toList = [195, 159] from rfl, ex_valid] at h
  exact h
theorem not_ex (w : World) : Calls Try.prog 10 #[.string ⟨#[255]⟩] w fun e w' => e = .returned (.bool false) ∧ Below w.heap.size w w' := by
  have h := valid_any ⟨#[255]⟩ w
  rw [show (⟨#[255]⟩ : ByteArray).data.toList = [255] from rfl, ex_not] at h
  exact h

theorem awake_true (w : World) : Calls Try.prog 9 #[] w fun e w' => e = .returned (.bool true) ∧ Below w.heap.size w w' := by
  have tok1 : True := trivial
  go_enter Try.func9, Try.ntmps9
  go_wp2_with (first
    | (go_at_call 12; refine (clean_ex _).mono ?_; rintro e w1 ⟨rfl, hb1⟩)
    | (go_at_call 14; refine (lower_ex _).mono ?_; rintro e w2 ⟨rfl, hb2⟩)
    | (go_at_call 10; have _t := tok1; refine (valid_ex _).mono ?_; rintro e w3 ⟨rfl, hb3⟩; clear tok1 _t)
    | (go_at_call 10; refine (not_ex _).mono ?_; rintro e w4 ⟨rfl, hb4⟩))
  go_ret
  exact ⟨rfl, ((hb1.trans (hb2.mono hb1.size)).trans (hb3.mono (Nat.le_trans hb1.size hb2.size))).trans (hb4.mono (Nat.le_trans hb1.size (Nat.le_trans hb2.size hb3.size)))⟩
end Go.Proofs.Ytoolpkkbeegbdaa
