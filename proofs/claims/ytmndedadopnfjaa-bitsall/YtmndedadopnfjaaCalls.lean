/- What each small function of the program answers (turning about, halves, mixing, signs, places): for numbers within their kinds the call returns that number and leaves the world as it was. -/
import Derived.Test.YtmndedadopnfjaaRows
import Derived.Test.YtmndedadopnfjaaMath
import Derived.WalkKit
import Derived.ProofKit
import Derived.OpenShut
import Derived.WalkSpells
import Derived.WalkLawsBesides
namespace Go.Proofs.Ytmndedadopnfjaa
open Go.ChangeShapes Go.WideShapes Go.ChangeAt Go.RowKit M
theorem ret_int {k : IntKind} {a b : Int} (h : a = b) : Ending.returned (.int k a) = .returned (.int k b) := by rw [h]
theorem ret_bool {a b : Bool} (h : a = b) : Ending.returned (.bool a) = .returned (.bool b) := by rw [h]
set_option maxHeartbeats 400000 in
theorem turn_any (v n : Int) (w : World) (hu : IsU v) :
    Calls Try.prog 10 #[.int .u64 v, .int .i64 n] w fun e w' => e = .returned (.int .u64 (tn v n)) ∧ w' = w := by
  obtain ⟨x, hx, HD⟩ : ∃ x : BitVec 64, up x = v ∧ Hid (dn v = x) := ⟨dn v, up_dn v hu.lo hu.hi, rfl⟩
  subst hx
  obtain ⟨k, hk, hr, hl⟩ : ∃ k : Nat, bits .and .u64 (IntKind.u64.wrap n) 63 = (k : Int) ∧ Hid (rot x n = x.rotateLeft k) ∧ k < 64 := ⟨(n % 64).toNat, by rw [and63]; omega, rfl, by omega⟩
  have hs : IntKind.u64.wrap (64 - (k : Int)) = ((64 - k : Nat) : Int) := by rw [IntKind.wrap_u64]; omega
  have a1 := shl_up x k (by omega)
  have a2 := shr_up x (64 - k) (by omega)
  rw [Nat.min_eq_left (by omega)] at a1 a2
  have a3 := bits_or (x <<< k) (x >>> (64 - k))
  rw [rot_or x k hl] at a3
  go_enter Try.func10, Try.ntmps10
  go_wp2
  go_ret
  exact ⟨ret_int (by unfold tn; rw [HD.out, hr.out]), rfl⟩
theorem low_any (v : Int) (w : World) :
    Calls Try.prog 18 #[.int .u64 v] w fun e w' => e = .returned (.int .u32 (v % 4294967296)) ∧ w' = w := by
  go_enter Try.func18, Try.ntmps18
  go_wp2
  go_ret
  exact ⟨ret_int (IntKind.wrap_u32 _), rfl⟩
theorem high_any (v : Int) (w : World) (hu : IsU v) :
    Calls Try.prog 19 #[.int .u64 v] w fun e w' => e = .returned (.int .u32 (v / 4294967296)) ∧ w' = w := by
  obtain ⟨h0, h1⟩ := hu
  go_enter Try.func19, Try.ntmps19
  go_wp2
  go_ret
  exact ⟨ret_int (by omega), rfl⟩
theorem join_any (a b : Int) (w : World) (a0 : 0 ≤ a) (a1 : a < 4294967296) (b0 : 0 ≤ b) (b1 : b < 4294967296) :
    Calls Try.prog 22 #[.int .u32 a, .int .u32 b] w fun e w' => e = .returned (.int .u64 (a * 4294967296 + b)) ∧ w' = w := by
  go_enter Try.func22, Try.ntmps22
  go_wp2
  go_ret
  exact ⟨ret_int (bits_join .u64 64 (by decide) (fun m a b => by rw [IntKind.wrap_u64]; omega) 32 (a * 4294967296) b (by omega) (by omega) (by omega) b0 b1 (by omega)), rfl⟩
theorem mix_any (h v : Int) (w : World) (hh : IsU h) (hu : IsU v) :
    Calls Try.prog 12 #[.int .u64 h, .int .u64 v] w fun e w' => e = .returned (.int .u64 (mx h v)) ∧ w' = w := by
  obtain ⟨x, hx, HX⟩ : ∃ x : BitVec 64, up x = h ∧ Hid (dn h = x) := ⟨dn h, up_dn h hh.lo hh.hi, rfl⟩
  obtain ⟨y, hy, HY⟩ : ∃ y : BitVec 64, up y = v ∧ Hid (dn v = y) := ⟨dn v, up_dn v hu.lo hu.hi, rfl⟩
  subst hx hy
  have a1 := bits_xor x y
  have a2 := mul_up (x ^^^ y)
  have a4 := bits_xor ((x ^^^ y) * mixC) (((x ^^^ y) * mixC) >>> 29)
  rw [← shr29] at a4
  go_enter Try.func12, Try.ntmps12
  go_wp2_with (go_at_call 10; refine (turn_any _ _ _ (up_u _)).mono ?_; rintro e w' ⟨rfl, rfl⟩)
  go_ret
  refine ⟨ret_int ?_, ?_⟩
  · unfold tn mx mxB; rw [dn_up, HX.out, HY.out]
  · rfl
theorem cut_any (n : Int) (w : World) :
    Calls Try.prog 24 #[.int .i64 n] w fun e w' => e = .returned (.int .i64 (ct n)) ∧ w' = w := by
  go_enter Try.func24, Try.ntmps24
  go_wp2
  all_goals (go_ret; exact ⟨ret_int (by unfold ct; split <;> (try split) <;> omega), rfl⟩)
theorem signed_any (v n : Int) (w : World) (hu : IsU v) :
    Calls Try.prog 14 #[.int .u64 v, .int .i64 n] w fun e w' => e = .returned (.int .i64 (sg v n)) ∧ w' = w := by
  obtain ⟨x, hx, HX⟩ : ∃ x : BitVec 64, up x = v ∧ Hid (dn v = x) := ⟨dn v, up_dn v hu.lo hu.hi, rfl⟩
  subst hx
  have c0 := ct_lo n
  have c1 := ct_hi n
  obtain ⟨k, hk, hr, hl⟩ : ∃ k : Nat, IntKind.u64.wrap (64 - ct n) = (k : Int) ∧ Hid (k = 64 - (ct n).toNat) ∧ k < 64 := ⟨64 - (ct n).toNat, by rw [IntKind.wrap_u64]; omega, rfl, by omega⟩
  go_enter Try.func14, Try.ntmps14
  go_wp2_with (go_at_call 24; refine (cut_any _ _).mono ?_; rintro e w' ⟨rfl, rfl⟩)
  go_ret
  refine ⟨ret_int ?_, rfl⟩
  have hq := sg_run x k (by omega)
  rw [IntKind.wrap_i64] at hq
  unfold sg
  rw [HX.out, ← hr.out, ← hq]
  simp only [wrap64]
theorem place_any (v n : Int) (w : World) (n0 : 0 < n) (n1 : n < 9223372036854775808) :
    Calls Try.prog 21 #[.int .i64 v, .int .i64 n] w fun e w' => e = .returned (.int .i64 (v % n)) ∧ w' = w := by
  go_enter Try.func21, Try.ntmps21
  go_wp2
  all_goals (go_ret; refine ⟨ret_int ?_, rfl⟩)
  · rename_i h
    have e := place_neg v n n0 h
    have := Int.emod_nonneg v (show n ≠ 0 by omega)
    have := Int.emod_lt_of_pos v n0
    rw [e]; unfold wrap64; omega
  · rename_i h
    exact place_pos v n h
theorem turn_val (v n r : Int) (w : World) (hu : IsU v) (h : tn v n = r) :
    Calls Try.prog 10 #[.int .u64 v, .int .i64 n] w fun e w' => e = .returned (.int .u64 r) ∧ w' = w := by
  rw [← h]; exact turn_any v n w hu
theorem signed_val (v n r : Int) (w : World) (hu : IsU v) (h : sg v n = r) :
    Calls Try.prog 14 #[.int .u64 v, .int .i64 n] w fun e w' => e = .returned (.int .i64 r) ∧ w' = w := by
  rw [← h]; exact signed_any v n w hu
theorem awake_any (w : World) :
    Calls Try.prog 20 #[] w fun e w' => e = .returned (.bool true) ∧ w' = w := by
  have t1 : tn 1 (-1) = 9223372036854775808 := by decide
  have t2 : sg 255 8 = -1 := by decide
  go_enter Try.func20, Try.ntmps20
  go_wp2_with (first | (go_at_call 10; refine (turn_val 1 (-1) 9223372036854775808 _ ⟨by decide, by decide⟩ t1).mono ?_; rintro e w' ⟨rfl, rfl⟩) | (go_at_call 14; refine (signed_val 255 8 (-1) _ ⟨by decide, by decide⟩ t2).mono ?_; rintro e w' ⟨rfl, rfl⟩) | (go_at_call 22; refine (join_any 1 2 _ (by decide) (by decide) (by decide) (by decide)).mono ?_; rintro e w' ⟨rfl, rfl⟩))
  go_ret
  exact ⟨rfl, rfl⟩
theorem halves_any (v : Int) (w : World) (hu : IsU v) :
    Calls Try.prog 22 #[.int .u32 (v / 4294967296), .int .u32 (v % 4294967296)] w fun e w' => e = .returned (.int .u64 v) ∧ w' = w := by
  obtain ⟨h0, h1⟩ := hu
  have e : v / 4294967296 * 4294967296 + v % 4294967296 = v := by omega
  have h := join_any (v / 4294967296) (v % 4294967296) w (by omega) (by omega) (by omega) (by omega)
  rwa [e] at h
theorem wf_u64 {a : Int} (h : (Lit.int .u64 a).wf = true) : IsU a := by
  have := bounds_u64 h
  exact ⟨by omega, by omega⟩
end Go.Proofs.Ytmndedadopnfjaa
