/- What each small function of the program answers (turning about, halves, mixing, signs, places): for numbers within their kinds the call returns that number and leaves the world as it was. -/
import Derived.Test.YtmndedadopnfjabRows
import Derived.Test.YtmndedadopnfjabMath
import Derived.WalkKit
import Derived.ProofKit
import Derived.OpenShut
import Derived.WalkSpells
import Derived.WalkLawsBesides
namespace Go.Proofs.Ytmndedadopnfjab
open Go.ChangeShapes Go.WideShapes Go.ChangeAt Go.RowKit M
theorem ret_int {k : IntKind} {a b : Int} (h : a = b) : Ending.returned (.int k a) = .returned (.int k b) := by rw [h]
theorem ret_bool {a b : Bool} (h : a = b) : Ending.returned (.bool a) = .returned (.bool b) := by rw [h]
set_option maxHeartbeats 400000 in
theorem turn_any (v n : Int) (w : World) (hu : IsU v) :
    Calls Try.prog 4 #[.int .u64 v, .int .i64 n] w fun e w' => e = .returned (.int .u64 (tn v n)) ∧ w' = w := by
  obtain ⟨x, hx, HD⟩ : ∃ x : BitVec 64, up x = v ∧ Hid (dn v = x) := ⟨dn v, up_dn v hu.lo hu.hi, rfl⟩
  subst hx
  obtain ⟨k, hk, hr, hl⟩ : ∃ k : Nat, bits .and .u64 (IntKind.u64.wrap n) 63 = (k : Int) ∧ Hid (rot x n = x.rotateLeft k) ∧ k < 64 := ⟨(n % 64).toNat, by rw [and63]; omega, rfl, by omega⟩
  have hs : IntKind.u64.wrap (64 - (k : Int)) = ((64 - k : Nat) : Int) := by rw [IntKind.wrap_u64]; omega
  have a1 := shl_up x k (by omega)
  have a2 := shr_up x (64 - k) (by omega)
  rw [Nat.min_eq_left (by omega)] at a1 a2
  have a3 := bits_or (x <<< k) (x >>> (64 - k))
  rw [rot_or x k hl] at a3
  go_enter Try.func4, Try.ntmps4
  go_wp2
  go_ret
  exact ⟨ret_int (by unfold tn; rw [HD.out, hr.out]), rfl⟩
theorem join_any (a b : Int) (w : World) (a0 : 0 ≤ a) (a1 : a < 4294967296) (b0 : 0 ≤ b) (b1 : b < 4294967296) :
    Calls Try.prog 7 #[.int .u32 a, .int .u32 b] w fun e w' => e = .returned (.int .u64 (a * 4294967296 + b)) ∧ w' = w := by
  go_enter Try.func7, Try.ntmps7
  go_wp2
  go_ret
  exact ⟨ret_int (bits_join .u64 64 (by decide) (fun m a b => by rw [IntKind.wrap_u64]; omega) 32 (a * 4294967296) b (by omega) (by omega) (by omega) b0 b1 (by omega)), rfl⟩
theorem cut_any (n : Int) (w : World) :
    Calls Try.prog 8 #[.int .i64 n] w fun e w' => e = .returned (.int .i64 (ct n)) ∧ w' = w := by
  go_enter Try.func8, Try.ntmps8
  go_wp2
  all_goals (go_ret; exact ⟨ret_int (by unfold ct; split <;> (try split) <;> omega), rfl⟩)
theorem signed_any (v n : Int) (w : World) (hu : IsU v) :
    Calls Try.prog 6 #[.int .u64 v, .int .i64 n] w fun e w' => e = .returned (.int .i64 (sg v n)) ∧ w' = w := by
  obtain ⟨x, hx, HX⟩ : ∃ x : BitVec 64, up x = v ∧ Hid (dn v = x) := ⟨dn v, up_dn v hu.lo hu.hi, rfl⟩
  subst hx
  have c0 := ct_lo n
  have c1 := ct_hi n
  obtain ⟨k, hk, hr, hl⟩ : ∃ k : Nat, IntKind.u64.wrap (64 - ct n) = (k : Int) ∧ Hid (k = 64 - (ct n).toNat) ∧ k < 64 := ⟨64 - (ct n).toNat, by rw [IntKind.wrap_u64]; omega, rfl, by omega⟩
  go_enter Try.func6, Try.ntmps6
  go_wp2_with (go_at_call 8; refine (cut_any _ _).mono ?_; rintro e w' ⟨rfl, rfl⟩)
  go_ret
  refine ⟨ret_int ?_, rfl⟩
  have hq := sg_run x k (by omega)
  rw [IntKind.wrap_i64] at hq
  unfold sg
  rw [HX.out, ← hr.out, ← hq]
  simp only [wrap64]
theorem turn_val (v n r : Int) (w : World) (hu : IsU v) (h : tn v n = r) :
    Calls Try.prog 4 #[.int .u64 v, .int .i64 n] w fun e w' => e = .returned (.int .u64 r) ∧ w' = w := by
  rw [← h]; exact turn_any v n w hu
theorem signed_val (v n r : Int) (w : World) (hu : IsU v) (h : sg v n = r) :
    Calls Try.prog 6 #[.int .u64 v, .int .i64 n] w fun e w' => e = .returned (.int .i64 r) ∧ w' = w := by
  rw [← h]; exact signed_any v n w hu
theorem awake_any (w : World) :
    Calls Try.prog 5 #[] w fun e w' => e = .returned (.bool true) ∧ w' = w := by
  have t1 : tn 1 (-1) = 9223372036854775808 := by decide
  have t2 : sg 255 8 = -1 := by decide
  go_enter Try.func5, Try.ntmps5
  go_wp2_with (first | (go_at_call 4; refine (turn_val 1 (-1) 9223372036854775808 _ ⟨by decide, by decide⟩ t1).mono ?_; rintro e w' ⟨rfl, rfl⟩) | (go_at_call 6; refine (signed_val 255 8 (-1) _ ⟨by decide, by decide⟩ t2).mono ?_; rintro e w' ⟨rfl, rfl⟩) | (go_at_call 7; refine (join_any 1 2 _ (by decide) (by decide) (by decide) (by decide)).mono ?_; rintro e w' ⟨rfl, rfl⟩))
  go_ret
  exact ⟨rfl, rfl⟩
theorem wf_u64 {a : Int} (h : (Lit.int .u64 a).wf = true) : IsU a := by
  have := bounds_u64 h
  exact ⟨by omega, by omega⟩
end Go.Proofs.Ytmndedadopnfjab
