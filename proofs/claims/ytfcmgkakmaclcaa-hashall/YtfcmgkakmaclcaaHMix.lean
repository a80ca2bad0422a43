/- Turn, Mix, Of of eight bytes, and the document's own Turn and Mix: for numbers within their kinds each call returns that number. -/
import Derived.Test.YtfcmgkakmaclcaaRows
import Derived.Test.YtfcmgkakmaclcaaHMath
import Derived.WalkKit
import Derived.ProofKit
import Derived.OpenShut
import Derived.WalkSpells
import Derived.WalkLawsBesides
import Derived.Handy
import Derived.Below
set_option linter.unusedVariables false
namespace Go.Proofs.Ytfcmgkakmaclcaa.Bt
open Go.ChangeShapes Go.WideShapes Go.ChangeAt Go.RowKit
theorem ret_int {k : IntKind} {a b : Int} (h : a = b) : Ending.returned (.int k a) = .returned (.int k b) := by rw [h]
set_option maxHeartbeats 400000 in
theorem turn_any (v n : Int) (w : World) (hu : IsU v) :
    Calls Try.prog 38 #[.int .u64 v, .int .i64 n] w fun e w' => e = .returned (.int .u64 (tn v n)) ∧ w' = w := by
  obtain ⟨x, hx, HD⟩ : ∃ x : BitVec 64, up x = v ∧ Hid (dn v = x) := ⟨dn v, up_dn v hu.lo hu.hi, rfl⟩
  subst hx
  obtain ⟨k, hk, hr, hl⟩ : ∃ k : Nat, bits .and .u64 (IntKind.u64.wrap n) 63 = (k : Int) ∧ Hid (rot x n = x.rotateLeft k) ∧ k < 64 := ⟨(n % 64).toNat, by rw [and63]; omega, rfl, by omega⟩
  have hs : IntKind.u64.wrap (64 - (k : Int)) = ((64 - k : Nat) : Int) := by rw [IntKind.wrap_u64]; omega
  have a1 := shl_up x k (by omega)
  have a2 := shr_up x (64 - k) (by omega)
  rw [Nat.min_eq_left (by omega)] at a1 a2
  have a3 := bits_or (x <<< k) (x >>> (64 - k))
  rw [rot_or x k hl] at a3
  go_enter Try.func38, Try.ntmps38
  go_wp2
  go_ret
  exact ⟨ret_int (by unfold tn; rw [HD.out, hr.out]), rfl⟩
theorem mix_any (h v : Int) (w : World) (hh : IsU h) (hu : IsU v) :
    Calls Try.prog 26 #[.int .u64 h, .int .u64 v] w fun e w' => e = .returned (.int .u64 (mx h v)) ∧ w' = w := by
  obtain ⟨x, hx, HX⟩ : ∃ x : BitVec 64, up x = h ∧ Hid (dn h = x) := ⟨dn h, up_dn h hh.lo hh.hi, rfl⟩
  obtain ⟨y, hy, HY⟩ : ∃ y : BitVec 64, up y = v ∧ Hid (dn v = y) := ⟨dn v, up_dn v hu.lo hu.hi, rfl⟩
  subst hx hy
  have a1 := bits_xor x y
  have a2 := mul_up (x ^^^ y)
  have a4 := bits_xor ((x ^^^ y) * mixC) (((x ^^^ y) * mixC) >>> 29)
  rw [← shr29] at a4
  go_enter Try.func26, Try.ntmps26
  go_wp2_with (go_at_call 38; refine (turn_any _ _ _ (up_u _)).mono ?_; rintro e w' ⟨rfl, rfl⟩)
  go_ret
  refine ⟨ret_int ?_, ?_⟩
  · unfold tn mx mxB; rw [dn_up, HX.out, HY.out]
  · rfl
/-- a number that a byte holds -/
structure IsB (b : Int) : Prop where
  lo : 0 ≤ b
  hi : b < 256
set_option maxHeartbeats 1000000 in
theorem of_any (b0 b1 b2 b3 b4 b5 b6 b7 r : Int) (w : World) (i0 : IsB b0) (i1 : IsB b1) (i2 : IsB b2) (i3 : IsB b3) (i4 : IsB b4) (i5 : IsB b5) (i6 : IsB b6) (i7 : IsB b7) (hr : sum8 b0 b1 b2 b3 b4 b5 b6 b7 = r) :
    Calls Try.prog 27 #[.agg #[.int .u8 b0, .int .u8 b1, .int .u8 b2, .int .u8 b3, .int .u8 b4, .int .u8 b5, .int .u8 b6, .int .u8 b7]] w fun e w' => e = .returned (.int .u64 r) ∧ Below w.heap.size w w' := by
  have l0 := And.intro i0.lo i0.hi
  have l1 := And.intro i1.lo i1.hi
  have l2 := And.intro i2.lo i2.hi
  have l3 := And.intro i3.lo i3.hi
  have l4 := And.intro i4.lo i4.hi
  have l5 := And.intro i5.lo i5.hi
  have l6 := And.intro i6.lo i6.hi
  have l7 := And.intro i7.lo i7.hi
  have HR : Hid (sum8 b0 b1 b2 b3 b4 b5 b6 b7 = r) := hr
  clear hr i0 i1 i2 i3 i4 i5 i6 i7
  go_enter Try.func27, Try.ntmps27
  go_wp2
  go_rounds 9
  go_ret
  exact ⟨ret_int (by rw [← HR.out]; exact or_chain b0 b1 b2 b3 b4 b5 b6 b7 l0 l1 l2 l3 l4 l5 l6 l7), (Below.refl _ _).alloc (Nat.le_refl _) _⟩
theorem bit_any (x : BitVec 64) (i : Nat) (w : World) (hi : i < 64) :
    Calls Try.prog 45 #[.int .u64 (up x), .int .i64 i] w fun e w' => e = .returned (.int .u64 (up (b1 x i))) ∧ w' = w := by
  have a1 := and_b1 x i (by omega)
  go_enter Try.func45, Try.ntmps45
  go_wp2
  go_ret
  exact ⟨rfl, rfl⟩
theorem val_int {k : IntKind} {a b : Int} (h : a = b) : Value.int k a = .int k b := by rw [h]
set_option maxHeartbeats 400000 in
theorem refturn_pos (x : BitVec 64) (n : Int) (w : World) (hn : 0 ≤ n.tmod 64) :
    Calls Try.prog 39 #[.int .u64 (up x), .int .i64 n] w fun e w' => e = .returned (.int .u64 (up (rot x n))) ∧ w' = w := by
  have e := place_pos n 64 hn
  obtain ⟨k, hk, hl, HK⟩ : ∃ k : Nat, n.tmod 64 = (k : Int) ∧ k < 64 ∧ Hid (k = (n % 64).toNat) := ⟨(n % 64).toNat, by omega, by omega, rfl⟩
  clear e hn
  go_enter Try.func39, Try.ntmps39
  go_wp2
  go_loop [6, 7] (fun a i => ∃ j : Nat, j ≤ 64 ∧ i = .int .i64 j ∧ a = .int .u64 (up (acc x (fun i => i) (fun i => (i + k) % 64) j))) (fun _ i => 64 - (intOf i).toNat)
  case atStart => exact ⟨0, by omega, rfl, rfl⟩
  case round =>
    obtain ⟨j, hj, rfl, rfl⟩ := hrel
    by_cases hlt : j < 64
    · go_wp2_with (go_at_call 45; refine (bit_any _ _ _ hlt).mono ?_; rintro e w' ⟨rfl, rfl⟩)
      go_round
      case rel => exact ⟨j + 1, by omega, by go_num, val_int (acc_run x (fun i => i) (fun i => (i + k) % 64) j (by show (j + k) % 64 ≤ 64; omega))⟩
      case measure => simp [intOf]; omega
    · obtain rfl : j = 64 := by omega
      go_wp2
      go_ret
      exact ⟨ret_int (by rw [HK.out, acc_turn]), rfl⟩
set_option maxHeartbeats 400000 in
theorem refturn_neg (x : BitVec 64) (n : Int) (w : World) (hn : n.tmod 64 < 0) :
    Calls Try.prog 39 #[.int .u64 (up x), .int .i64 n] w fun e w' => e = .returned (.int .u64 (up (rot x n))) ∧ w' = w := by
  have e := place_neg n 64 (by decide) hn
  obtain ⟨t, ht, k, hk, hl, hneg, HK⟩ : ∃ t : Int, n.tmod 64 = t ∧ ∃ k : Nat, t + 64 = (k : Int) ∧ k < 64 ∧ t < 0 ∧ Hid (k = (n % 64).toNat) := ⟨_, rfl, (n % 64).toNat, by omega, by omega, hn, rfl⟩
  clear e hn
  go_enter Try.func39, Try.ntmps39
  go_wp2
  go_loop [6, 7] (fun a i => ∃ j : Nat, j ≤ 64 ∧ i = .int .i64 j ∧ a = .int .u64 (up (acc x (fun i => i) (fun i => (i + k) % 64) j))) (fun _ i => 64 - (intOf i).toNat)
  case atStart => exact ⟨0, by omega, rfl, rfl⟩
  case round =>
    obtain ⟨j, hj, rfl, rfl⟩ := hrel
    by_cases hlt : j < 64
    · go_wp2_with (go_at_call 45; refine (bit_any _ _ _ hlt).mono ?_; rintro e w' ⟨rfl, rfl⟩)
      go_round
      case rel => exact ⟨j + 1, by omega, by go_num, val_int (acc_run x (fun i => i) (fun i => (i + k) % 64) j (by show (j + k) % 64 ≤ 64; omega))⟩
      case measure => simp [intOf]; omega
    · obtain rfl : j = 64 := by omega
      go_wp2
      go_ret
      exact ⟨ret_int (by rw [HK.out, acc_turn]), rfl⟩
theorem refturn_any (v n : Int) (w : World) (hu : IsU v) :
    Calls Try.prog 39 #[.int .u64 v, .int .i64 n] w fun e w' => e = .returned (.int .u64 (tn v n)) ∧ w' = w := by
  have h : tn v n = up (rot (dn v) n) := rfl
  have e := up_dn v hu.lo hu.hi
  by_cases hn : n.tmod 64 < 0
  · have := refturn_neg (dn v) n w hn
    rwa [e, ← h] at this
  · have := refturn_pos (dn v) n w (by omega)
    rwa [e, ← h] at this
theorem refmix_any (h v : Int) (w : World) (hh : IsU h) (hu : IsU v) :
    Calls Try.prog 28 #[.int .u64 h, .int .u64 v] w fun e w' => e = .returned (.int .u64 (mx h v)) ∧ w' = w := by
  obtain ⟨x, hx, HX⟩ : ∃ x : BitVec 64, up x = h ∧ Hid (dn h = x) := ⟨dn h, up_dn h hh.lo hh.hi, rfl⟩
  obtain ⟨y, hy, HY⟩ : ∃ y : BitVec 64, up y = v ∧ Hid (dn v = y) := ⟨dn v, up_dn v hu.lo hu.hi, rfl⟩
  subst hx hy
  have a1 := bits_xor x y
  have a2 := mul_up (x ^^^ y)
  have a4 := bits_xor ((x ^^^ y) * mixC) (((x ^^^ y) * mixC) >>> 29)
  rw [← shr29] at a4
  go_enter Try.func28, Try.ntmps28
  go_wp2_with (go_at_call 39; refine (refturn_any _ _ _ (up_u _)).mono ?_; rintro e w' ⟨rfl, rfl⟩)
  go_ret
  refine ⟨ret_int ?_, ?_⟩
  · unfold tn mx mxB; rw [dn_up, HX.out, HY.out]
  · rfl
end Go.Proofs.Ytfcmgkakmaclcaa.Bt
