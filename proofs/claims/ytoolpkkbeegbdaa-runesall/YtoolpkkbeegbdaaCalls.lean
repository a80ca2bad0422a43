/- What Put, HasPrefix, cleanRune, Blank and Letter answer, as contracts. -/
import Derived.Test.YtoolpkkbeegbdaaRows
import Derived.Test.YtoolpkkbeegbdaaTexts
import Derived.WalkKit
import Derived.Laws.BytesArg
import Derived.Lib.AppendStr
import Derived.Lib.OthersKept
import Derived.Lib.Strings
import Derived.Deep.QuietTactic
namespace Go.Proofs.Ytoolpkkbeegbdaa
open Go.RowKit M

structure Fact (p : Prop) : Prop where
  out : p

theorem put_any (r : Int) (w : World) : Calls Try.prog 16 #[.int .i32 r] w fun e w' => e = .returned (.string (Utf8.encode r)) ∧ w' = w := by
  go_enter Try.func16, Try.ntmps16
  go_wp2
  go_ret
  exact ⟨rfl, rfl⟩

theorem cleanRune_any (r : Nat) (w : World) : Calls Try.prog 25 #[.int .i32 r] w fun e w' => e = .returned (.int .i32 (cz r : Nat)) ∧ w' = w := by
  unfold cz
  by_cases h0 : r = 0
  · subst h0
    go_enter Try.func25, Try.ntmps25
    go_wp2
    go_ret
    exact ⟨rfl, rfl⟩
  by_cases h1 : r = 13
  · subst h1
    go_enter Try.func25, Try.ntmps25
    go_wp2
    go_ret
    exact ⟨rfl, rfl⟩
  rw [if_neg h0, if_neg h1]
  go_enter Try.func25, Try.ntmps25
  go_wp2
  all_goals go_ret
  all_goals exact ⟨rfl, rfl⟩

theorem cleanRune_at (r : Nat) (x : Int) (h : x = r) (w : World) : Calls Try.prog 25 #[.int .i32 x] w fun e w' => e = .returned (.int .i32 (cz r : Nat)) ∧ w' = w := by
  subst h
  exact cleanRune_any r w

theorem put_at (x : Int) (E : ByteArray) (h : Fact (Utf8.encode x = E)) (w : World) : Calls Try.prog 16 #[.int .i32 x] w fun e w' => e = .returned (.string E) ∧ w' = w := by
  have := put_any x w
  rw [h.out] at this
  exact this

theorem en_def (r : Int) : (Utf8.encode r).data.toList = en r := rfl

theorem ret_bool {a b : Bool} (h : a = b) : Ending.returned (.bool a) = .returned (.bool b) := by rw [h]
theorem ret_str {a b : ByteArray} (h : a = b) : Ending.returned (.string a) = .returned (.string b) := by rw [h]

/-- four bytes are blank -/
def blank (c : Nat) : Bool := decide (c = 9 ∨ c = 10 ∨ c = 12 ∨ c = 32)
def letter (c : Nat) : Bool := decide ((97 ≤ c ∧ c ≤ 122) ∨ (65 ≤ c ∧ c ≤ 90))

theorem blank_any (c : Nat) (w : World) : Calls Try.prog 18 #[.int .u8 c] w fun e w' => e = .returned (.bool (blank c)) ∧ w' = w := by
  go_enter Try.func18, Try.ntmps18
  go_wp2
  all_goals (go_ret; exact ⟨ret_bool (by rw [Bool.eq_iff_iff]; simp [blank]; omega), rfl⟩)

theorem letter_any (c : Nat) (w : World) : Calls Try.prog 20 #[.int .u8 c] w fun e w' => e = .returned (.bool (letter c)) ∧ w' = w := by
  go_enter Try.func20, Try.ntmps20
  go_wp2
  all_goals (go_ret; exact ⟨ret_bool (by rw [Bool.eq_iff_iff]; simp [letter]; omega), rfl⟩)

theorem pre_hit (s p : ByteArray) (_ : p.size ≤ s.size) : ((s.extract 0 p.size).toList == p.toList) = decide (p.data.toList <+: s.data.toList) := by
  rw [Bool.eq_iff_iff, beq_iff_eq, decide_eq_true_eq, Lib.extract_toList, Lib.toList_data, List.drop_zero, Nat.sub_zero]
  have e : p.size = p.data.toList.length := Lib.size_eq p
  rw [e, List.prefix_iff_eq_take]
  exact eq_comm
theorem pre_miss (s p : ByteArray) (h : ¬ p.size ≤ s.size) : false = decide (p.data.toList <+: s.data.toList) := by
  symm
  apply decide_eq_false
  intro hp
  have := hp.length_le
  apply h
  rw [Lib.size_eq, Lib.size_eq]
  exact this

theorem hasPrefix_in (s p : ByteArray) (w : World) : Calls Try.prog 26 #[.string s, .string p] w fun e w' => e = .returned (.bool (decide (p.data.toList <+: s.data.toList))) ∧ w' = w := by
  go_enter Try.func26, Try.ntmps26
  go_wp2
  · go_ret
    exact ⟨ret_bool (pre_hit s p (by assumption)), rfl⟩
  · go_ret
    exact ⟨ret_bool (pre_miss s p (by assumption)), rfl⟩
theorem hasPrefix_any (s p : ByteArray) (w : World) : Calls Try.prog 23 #[.string s, .string p] w fun e w' => e = .returned (.bool (decide (p.data.toList <+: s.data.toList))) ∧ w' = w := by
  go_enter Try.func23, Try.ntmps23
  go_wp2_with (go_at_call 26; refine (hasPrefix_in _ _ _).mono ?_; rintro e w1 ⟨rfl, rfl⟩)
  go_ret
  exact ⟨rfl, rfl⟩
end Go.Proofs.Ytoolpkkbeegbdaa
