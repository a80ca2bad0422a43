/- The law BitsSigns returns true for every two numbers: a number that has room with its sign comes back, and one bit more than that turns the sign. No condition. -/
import Derived.Test.YtmndedadopnfjaaRows
import Derived.WalkKit
import Derived.ProofKit
import Derived.OpenShut
import Derived.Test.YtmndedadopnfjaaCalls
namespace Go.Proofs.Ytmndedadopnfjaa.bitsSigns
open Go.ChangeShapes Go.WideShapes Go.ChangeAt Go.RowKit M
set_option linter.unusedVariables false      -- a walk need not use every 'w<i>' (that an integer argument fits its kind)

theorem signed_conv (x n r : Int) (w : World) (h : sg x n = r) :
    Calls Try.prog 14 #[.int .u64 (IntKind.u64.wrap x), .int .i64 n] w fun e w' => e = .returned (.int .i64 r) ∧ w' = w := by
  have e : sg (IntKind.u64.wrap x) n = r := by rw [← h]; unfold sg; rw [wrap_up, dn_up]
  rw [← e]; exact signed_any _ n w (by rw [wrap_up]; exact up_u _)
theorem sg_top (m k : Int) (h1 : 1 ≤ k) (h2 : k ≤ 63) (hm : m = 2 ^ (k - 1).toNat) : sg m k = -m := by
  have e : sg m k = sg (-m) k := by
    unfold sg sgB
    congr 2
    have hc : ct k = k := by unfold ct; rw [if_neg (by omega), if_neg (by omega)]
    rw [hc]
    apply BitVec.eq_of_toNat_eq
    have hq : (m - -m) * 2 ^ (64 - k.toNat) = 18446744073709551616 := by
      subst hm
      rw [show (2 : Int) ^ (k - 1).toNat - -2 ^ (k - 1).toNat = 2 ^ (k - 1).toNat * 2 ^ 1 by omega, Int.mul_assoc, ← Int.pow_add, ← Int.pow_add, show (k - 1).toNat + (1 + (64 - k.toNat)) = 64 by omega]; decide
    have key : ∀ t : Int, dn t <<< (64 - k.toNat) = dn (t * 2 ^ (64 - k.toNat)) := by
      intro t
      unfold dn
      rw [BitVec.shiftLeft_eq_mul_twoPow, BitVec.ofInt_mul]
      congr 1
      apply BitVec.eq_of_toNat_eq
      rw [BitVec.toNat_twoPow, BitVec.toNat_ofInt]
      have : ((2 : Int) ^ (64 - k.toNat)) = ((2 ^ (64 - k.toNat) : Nat) : Int) := by simp
      rw [this]; omega
    rw [key, key]
    unfold dn
    rw [BitVec.toNat_ofInt, BitVec.toNat_ofInt]
    have : m * 2 ^ (64 - k.toNat) = -m * 2 ^ (64 - k.toNat) + 18446744073709551616 := by rw [← hq]; rw [Int.sub_mul]; omega
    rw [this]; omega
  rw [e]
  have hp : (0 : Int) < 2 ^ (k - 1).toNat := Int.pow_pos (by decide)
  exact sg_val (-m) k h1 (by omega) (by omega) (by omega)
set_option maxHeartbeats 400000 in
theorem signs_walk (a0 : Int) (a1 : Int) (w : World) :
    Calls Try.prog 6 #[.int .i64 a0, .int .i64 a1] w fun e w' => e = .returned (.bool true) ∧ w' = w := by
  obtain ⟨j, hj, hj1⟩ : ∃ j : Nat, a1 % 62 = (j : Int) ∧ j < 62 := ⟨(a1 % 62).toNat, by omega, by omega⟩
  obtain ⟨m, hm, m0, m1⟩ : ∃ m : Int, Hid (m = 2 ^ j) ∧ 1 ≤ m ∧ m ≤ 2305843009213693952 :=
    ⟨2 ^ j, rfl, Int.pow_pos (by decide), by
      have h1 := Nat.pow_le_pow_right (show 0 < 2 by decide) (show j ≤ 61 by omega)
      have h2 : (2 : Int) ^ j = ((2 ^ j : Nat) : Int) := by simp
      omega⟩
  have q1 : wrap64 ((2 : Int) ^ j) = m := by rw [← hm.out]; unfold wrap64; omega
  have q2 : wrap64 ((2 : Int) ^ (1 + j - 1)) = m := by rw [show 1 + j - 1 = j by omega]; exact q1
  have z0 := Int.emod_nonneg a0 (show 2 * m ≠ 0 by omega)
  have z1 := Int.emod_lt_of_pos a0 (show 0 < 2 * m by omega)
  have s1 : sg (a0 % (2 * m) - m) (1 + ↑j) = a0 % (2 * m) - m := sg_val _ _ (by omega) (by omega) (by rw [show (1 + (j : Int) - 1).toNat = j by omega, ← hm.out]; omega) (by rw [show (1 + (j : Int) - 1).toNat = j by omega, ← hm.out]; omega)
  have s2 : sg m (1 + ↑j) = -m := sg_top _ _ (by omega) (by omega) (by rw [show (1 + (j : Int) - 1).toNat = j by omega]; exact hm.out)
  have s3 : sg (a0 % (2 * m) - m) 64 = a0 % (2 * m) - m := sg_val _ _ (by omega) (by omega) (by simp; omega) (by simp; omega)
  have tok1 : True := trivial
  have tok2 : True := trivial
  go_enter Try.func6, Try.ntmps6
  go_wp2_with (first | (go_at_call 21; refine (place_any _ _ _ (by first | decide | omega) (by first | decide | omega)).mono ?_; rintro e w' ⟨rfl, rfl⟩) | (go_at_call 14; have _t := tok1; refine (signed_conv _ _ _ _ s1).mono ?_; rintro e w' ⟨rfl, rfl⟩; clear tok1 _t) | (go_at_call 14; have _t := tok2; refine (signed_val _ _ _ _ ⟨by omega, by omega⟩ s2).mono ?_; rintro e w' ⟨rfl, rfl⟩; clear tok2 _t) | (go_at_call 14; refine (signed_conv _ _ _ _ s3).mono ?_; rintro e w' ⟨rfl, rfl⟩) | (go_at_call 20; refine (awake_any _).mono ?_; rintro e w' ⟨rfl, rfl⟩))
  go_ret
  exact ⟨rfl, rfl⟩

theorem own : ownKnob Try.prog.godebug = none := by kernel_rfl

theorem walk (a0 : Int) (a1 : Int) (w0 : (Lit.int .i64 a0).wf = true) (w1 : (Lit.int .i64 a1).wf = true) (w : World) :
    Calls Try.prog 6 #[.int .i64 a0, .int .i64 a1] w fun e w' => e = .returned (.bool true) ∧ Grown w w' := by
  exact (signs_walk a0 a1 w).mono fun e w' h => ⟨h.1, by rw [h.2]; exact Grown.refl _⟩

set_option maxRecDepth 100000 in
theorem lifted (os : Os) (started : os.Started) (H : Type) (enc : TypeId × Value → H) :
    ReturnsInHanded {} Try.checked os 6 .any (Rows.bitsSignsSpec.pre6 enc Try.prog Try.f6 Rows.bitsSignsRow.domain false) (Rows.bitsSignsSpec.post enc Try.prog Try.f6 false true false false) := by
  refine returnsInHanded_of_change (C := Try.checked) own started (by kernel_rfl) Try.func6
    (ChangeSpec.witness6 (enc := enc) (C := Try.checked) false ⟨#[], #[.int .i64 0, .int .i64 0], []⟩ 8 (by kernel_rfl) (by kernel_rfl) (by kernel_rfl) (by kernel_rfl)) ?_
  intro W base args ds gs before hval0 hW hcnd _
  have hval : ∀ (j : Nat) t v, Try.f6.params[j]? = some t → args[j]? = some v → Value.okWide Try.prog W .any base t v := hval0
  have hW' := hW
  obtain ⟨p, q, hA0, hV, rfl, hfz, hnd⟩ := hW
  have hA : DataW.TrodAll enc Try.prog W 0 (fun _ => true) true Try.f6.params.toList args.toList ds p := hA0
  rw [Try.params6] at hA hval
  obtain ⟨v0, vs0, d0, ds0, p0, q0, hargs, rfl, rfl, h0, r0⟩ := trodAll_cons hA
  obtain ⟨v1, vs1, d1, ds1, p1, q1, rfl, rfl, rfl, h1, r1⟩ := trodAll_cons r0
  obtain ⟨rfl, rfl, rfl⟩ := trodAll_nil r1
  obtain rfl : args = #[v0, v1] := by cases args; simp_all
  obtain ⟨rfl, rfl⟩ := trodVars_none hV
  obtain ⟨a0, rfl, rfl, rfl, w0⟩ := open_int Try.underlying3 (hval 0 3 v0 rfl rfl) h0
  obtain ⟨a1, rfl, rfl, rfl, w1⟩ := open_int Try.underlying3 (hval 1 3 v1 rfl rfl) h1
  clear hA0 hval0
  simp only [List.append_nil] at hW'
  refine (walk a0 a1 w0 w1 W).mono fun e W' ⟨he, hg⟩ => ?_
  subst he
  exact ⟨_, rfl, post_of_same (pa := []) (pv := []) hW' (fun _ _ _ => (trodAll_cons_mk (shut_bool Try.underlying4 _) trodAll_mk0)) (fun sp _ => (trodAll_cons_mk (shut_int Try.underlying3 w0) (trodAll_cons_mk (shut_int Try.underlying3 w1) trodAll_mk0))) (fun _ _ => rfl) rfl
    (hg.frame _) hg.2.1 (ok_one (by kernel_rfl) rfl (okWide_bool_mk Try.underlying4 _))⟩

theorem over : Rows.bitsSignsRow.holds Try.pinned (OpenSpec.ofChange Rows.bitsSignsSpec) :=
  OpenClaim.holds_of_wide 6 Try.f6 rfl rfl rfl rfl rfl rfl rfl ⟨rfl, rfl, rfl, rfl, rfl⟩ rfl rfl rfl rfl rfl (by kernel_rfl) Try.func6 (by kernel_rfl)
    (of_decide_eq_true (by kernel_rfl)) (by unfold Func.isWrapper; first | (rw [if_pos (by decide +kernel)]; kernel_rfl) | (rw [if_neg (by decide +kernel)]; exact ⟨rfl, rfl⟩))
    (fun os started H enc _ => lifted os started H enc)

theorem proved : Rows.BitsSignsSaid :=
  over
end Go.Proofs.Ytmndedadopnfjaa.bitsSigns
namespace Go.Proofs.Ytmndedadopnfjaa
/-- the given statement -/
theorem bitsSigns_holds : Rows.BitsSignsSaid :=
  bitsSigns.proved
#print axioms bitsSigns_holds
end Go.Proofs.Ytmndedadopnfjaa
