/- The law BitsEnds, which takes nothing, returns true: the ends of all numbers with a sign, of every count of bits, and of turning one bit about. No condition. -/
import Derived.Test.YtmndedadopnfjaaRows
import Derived.WalkKit
import Derived.ProofKit
import Derived.OpenShut
import Derived.Test.YtmndedadopnfjaaCalls
namespace Go.Proofs.Ytmndedadopnfjaa.bitsEnds
open Go.ChangeShapes Go.WideShapes Go.ChangeAt Go.RowKit M
set_option linter.unusedVariables false      -- a walk need not use every 'w<i>' (that an integer argument fits its kind)

theorem ends_tab : ∀ j : Fin 64, sg (2 ^ j.val) (j.val + 1) = -2 ^ j.val ∧ sg (2 ^ j.val - 1) (j.val + 1) = 2 ^ j.val - 1 ∧ sg 18446744073709551615 (j.val + 1) = -1 ∧ tn 1 (j.val + 1) = 2 ^ ((j.val + 1) % 64) := by
  decide +kernel
set_option maxHeartbeats 800000 in
theorem ends_walk (w : World) :
    Calls Try.prog 8 #[] w fun e w' => e = .returned (.bool true) ∧ w' = w := by
  go_enter Try.func8, Try.ntmps8
  go_wp2
  go_loop [1] (fun t => ∃ j : Nat, j ≤ 64 ∧ t = .int .i64 (↑j + 1)) (fun t => 65 - (intOf t).toNat)
  case atStart => exact ⟨0, by omega, rfl⟩
  case round =>
    obtain ⟨j, hj, rfl⟩ := hrel
    by_cases hlt : j < 64
    · obtain ⟨m, hm, m0, m1⟩ : ∃ m : Int, Hid (m = 2 ^ j) ∧ 1 ≤ m ∧ m ≤ 9223372036854775808 :=
        ⟨2 ^ j, rfl, Int.pow_pos (by decide), by
          have h1 := Nat.pow_le_pow_right (show 0 < 2 by decide) (show j ≤ 63 by omega)
          have h2 : (2 : Int) ^ j = ((2 ^ j : Nat) : Int) := by simp
          omega⟩
      obtain ⟨t1, t2, t3, t4⟩ := ends_tab ⟨j, hlt⟩
      simp only at t1 t2 t3 t4
      rw [← hm.out] at t1 t2
      have q1 : IntKind.u64.wrap ((2 : Int) ^ j) = m := by rw [← hm.out, IntKind.wrap_u64]; omega
      have q3 : IntKind.u64.wrap ((2 : Int) ^ ((j + 1) % 64)) = 2 ^ ((j + 1) % 64) := by
        rw [IntKind.wrap_u64]
        have h1 := Nat.pow_le_pow_right (show 0 < 2 by decide) (show (j + 1) % 64 ≤ 63 by omega)
        have h2 : (2 : Int) ^ ((j + 1) % 64) = ((2 ^ ((j + 1) % 64) : Nat) : Int) := by simp
        have h3 : (0 : Int) < 2 ^ ((j + 1) % 64) := Int.pow_pos (by decide)
        omega
      have q4 : decide (m ≤ 0) = false := decide_eq_false (by omega)
      have tok1 : True := trivial
      have tok2 : True := trivial
      go_wp2_with (first | (go_at_call 14; have _t := tok1; refine (signed_val _ _ _ _ ⟨by omega, by omega⟩ t1).mono ?_; rintro e w' ⟨rfl, rfl⟩; clear tok1 _t) | (go_at_call 14; have _t := tok2; refine (signed_val _ _ _ _ ⟨by omega, by omega⟩ t2).mono ?_; rintro e w' ⟨rfl, rfl⟩; clear tok2 _t) | (go_at_call 14; refine (signed_val _ _ _ _ ⟨by decide, by decide⟩ t3).mono ?_; rintro e w' ⟨rfl, rfl⟩) | (go_at_call 10; refine (turn_val _ _ _ _ ⟨by decide, by decide⟩ t4).mono ?_; rintro e w' ⟨rfl, rfl⟩))
      go_round
      case rel => exact ⟨j + 1, by omega, by go_num⟩
      case measure => simp [intOf]; omega
    · have hj : j = 64 := by omega
      subst hj
      have tok1 : True := trivial
      have p1 : sg 3 0 = -1 := by decide
      have p2 : sg 9223372036854775808 99 = -9223372036854775808 := by decide
      have p3 : tn 5 0 = 5 := by decide
      go_wp2_with (first | (go_at_call 14; have _t := tok1; refine (signed_val _ _ _ _ ⟨by decide, by decide⟩ p1).mono ?_; rintro e w' ⟨rfl, rfl⟩; clear tok1 _t) | (go_at_call 14; refine (signed_val _ _ _ _ ⟨by decide, by decide⟩ p2).mono ?_; rintro e w' ⟨rfl, rfl⟩) | (go_at_call 10; refine (turn_val _ _ _ _ ⟨by decide, by decide⟩ p3).mono ?_; rintro e w' ⟨rfl, rfl⟩) | (go_at_call 18; refine (low_any _ _).mono ?_; rintro e w' ⟨rfl, rfl⟩) | (go_at_call 19; refine (high_any _ _ ⟨by decide, by decide⟩).mono ?_; rintro e w' ⟨rfl, rfl⟩)  | (go_at_call 20; refine (awake_any _).mono ?_; rintro e w' ⟨rfl, rfl⟩))
      go_ret
      exact ⟨rfl, rfl⟩

theorem own : ownKnob Try.prog.godebug = none := by kernel_rfl

theorem walk  (w : World) :
    Calls Try.prog 8 #[] w fun e w' => e = .returned (.bool true) ∧ Grown w w' := by
  exact (ends_walk w).mono fun e w' h => ⟨h.1, by rw [h.2]; exact Grown.refl _⟩

set_option maxRecDepth 100000 in
theorem lifted (os : Os) (started : os.Started) (H : Type) (enc : TypeId × Value → H) :
    ReturnsInHanded {} Try.checked os 8 .any (Rows.bitsEndsSpec.pre6 enc Try.prog Try.f8 Rows.bitsEndsRow.domain false) (Rows.bitsEndsSpec.post enc Try.prog Try.f8 false true false false) := by
  refine returnsInHanded_of_change (C := Try.checked) own started (by kernel_rfl) Try.func8
    (ChangeSpec.witness6 (enc := enc) (C := Try.checked) false ⟨#[], #[], []⟩ 8 (by kernel_rfl) (by kernel_rfl) (by kernel_rfl) (by kernel_rfl)) ?_
  intro W base args ds gs before hval0 hW hcnd _
  have hval : ∀ (j : Nat) t v, Try.f8.params[j]? = some t → args[j]? = some v → Value.okWide Try.prog W .any base t v := hval0
  have hW' := hW
  obtain ⟨p, q, hA0, hV, rfl, hfz, hnd⟩ := hW
  have hA : DataW.TrodAll enc Try.prog W 0 (fun _ => true) true Try.f8.params.toList args.toList ds p := hA0
  rw [Try.params8] at hA hval
  obtain ⟨rfl, rfl, rfl⟩ := trodAll_none hA
  obtain ⟨rfl, rfl⟩ := trodVars_none hV
  clear hA0 hval0
  simp only [List.append_nil] at hW'
  refine (walk  W).mono fun e W' ⟨he, hg⟩ => ?_
  subst he
  exact ⟨_, rfl, post_of_same (pa := []) (pv := []) hW' (fun _ _ _ => (trodAll_cons_mk (shut_bool Try.underlying4 _) trodAll_mk0)) (fun sp _ => rfl) (fun _ _ => rfl) rfl
    (hg.frame _) hg.2.1 (ok_one (by kernel_rfl) rfl (okWide_bool_mk Try.underlying4 _))⟩

theorem over : Rows.bitsEndsRow.holds Try.pinned (OpenSpec.ofChange Rows.bitsEndsSpec) :=
  OpenClaim.holds_of_wide 8 Try.f8 rfl rfl rfl rfl rfl rfl rfl ⟨rfl, rfl, rfl, rfl, rfl⟩ rfl rfl rfl rfl rfl (by kernel_rfl) Try.func8 (by kernel_rfl)
    (of_decide_eq_true (by kernel_rfl)) (by unfold Func.isWrapper; first | (rw [if_pos (by decide +kernel)]; kernel_rfl) | (rw [if_neg (by decide +kernel)]; exact ⟨rfl, rfl⟩))
    (fun os started H enc _ => lifted os started H enc)

theorem proved : Rows.BitsEndsSaid :=
  over
end Go.Proofs.Ytmndedadopnfjaa.bitsEnds
namespace Go.Proofs.Ytmndedadopnfjaa
/-- the given statement -/
theorem bitsEnds_holds : Rows.BitsEndsSaid :=
  bitsEnds.proved
#print axioms bitsEnds_holds
end Go.Proofs.Ytmndedadopnfjaa
