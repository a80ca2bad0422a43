/- TreeLimits, walked: as many nodes, as deep, as may be, and one more. -/
import Derived.Test.YtblgjmohcdioeaaDeep
set_option linter.unusedVariables false
namespace Go.Proofs.Ytblgjmohcdioeaa
open Go.Deep (BT)
open Go.RowKit M

theorem lm1 : treeOK rootN (wideF 299) = true := by kernel_rfl
theorem lm2 : treeOK rootN (wideF 300) = false := by kernel_rfl
theorem lm3 : treeOK rootN (chainF 59) = true := by kernel_rfl
theorem lm4 : treeOK rootN (chainF 60) = false := by kernel_rfl
theorem lm5 : (chainF 19).depth + 1 = 20 := by kernel_rfl
theorem ld1 : (wideF 299).depth = 1 := by kernel_rfl
theorem ld2 : (wideF 300).depth = 1 := by kernel_rfl
theorem ld3 : (chainF 59).depth = 59 := by kernel_rfl
theorem ld4 : (chainF 60).depth = 60 := by kernel_rfl

set_option maxRecDepth 20000 in
set_option maxHeartbeats 2000000 in
theorem limits_walk (w : World) : Calls Try.prog 7 #[] w fun e w' => e = .returned (.bool true) ∧ Below w.heap.size w w' := by
  have E1 : Fact (treeOK rootN (wideF 299) = true ∧ (wideF 299).depth + 2 ≤ 1000000) := ⟨lm1, by rw [ld1]; omega⟩
  have E2 : Fact (treeOK rootN (wideF 300) = false ∧ (wideF 300).depth + 2 ≤ 1000000) := ⟨lm2, by rw [ld2]; omega⟩
  have E3 : Fact (treeOK rootN (chainF 59) = true ∧ (chainF 59).depth + 2 ≤ 1000000) := ⟨lm3, by rw [ld3]; omega⟩
  have E4 : Fact (treeOK rootN (chainF 60) = false ∧ (chainF 60).depth + 2 ≤ 1000000) := ⟨lm4, by rw [ld4]; omega⟩
  have E5 : Fact ((chainF 19).depth + 1 = 20 ∧ (chainF 19).depth + 2 ≤ 1000000) := ⟨lm5, by have := lm5; omega⟩
  have t1 : True := trivial
  have t2 : True := trivial
  have t3 : True := trivial
  have t4 : True := trivial
  have t5 : True := trivial
  have t6 : True := trivial
  go_enter Try.func7, Try.ntmps7
  go_wp2_with (first
    | (go_at_call 30; have _t := t1; refine (wide_any 300 (by decide) (by decide) _).mono ?_; rintro e w1 ⟨kv1, rfl, l1, b1⟩; clear t1 _t; have L1 := Fact.mk l1; have B1 := Fact.mk b1; clear l1 b1)
    | (go_at_call 14; have _t := t2; refine (check_at true ⟨E1.out.1⟩ E1.out.2 L1.out (Nat.le_refl _)).mono ?_; rintro e w2 ⟨rfl, b2⟩; clear t2 _t; have B2 := Fact.mk (B1.out.trans (b2.mono B1.out.size)); clear b2)
    | (go_at_call 30; refine (wide_any 301 (by decide) (by decide) _).mono ?_; rintro e w3 ⟨kv3, rfl, l3, b3⟩; have L3 := Fact.mk l3; have B3 := Fact.mk (B2.out.trans (b3.mono B2.out.size)); clear l3 b3)
    | (go_at_call 14; have _t := t3; refine (check_at false ⟨E2.out.1⟩ E2.out.2 L3.out (Nat.le_refl _)).mono ?_; rintro e w4 ⟨rfl, b4⟩; clear t3 _t; have B4 := Fact.mk (B3.out.trans (b4.mono B3.out.size)); clear b4)
    | (go_at_call 31; have _t := t4; refine (deep_any 60 (by decide) (by decide) _).mono ?_; rintro e w5 ⟨kv5, rfl, l5, b5⟩; clear t4 _t; have L5 := Fact.mk l5; have B5 := Fact.mk (B4.out.trans (b5.mono B4.out.size)); clear l5 b5)
    | (go_at_call 14; have _t := t5; refine (check_at true ⟨E3.out.1⟩ E3.out.2 L5.out (Nat.le_refl _)).mono ?_; rintro e w6 ⟨rfl, b6⟩; clear t5 _t; have B6 := Fact.mk (B5.out.trans (b6.mono B5.out.size)); clear b6)
    | (go_at_call 31; have _t := t6; refine (deep_any 61 (by decide) (by decide) _).mono ?_; rintro e w7 ⟨kv7, rfl, l7, b7⟩; clear t6 _t; have L7 := Fact.mk l7; have B7 := Fact.mk (B6.out.trans (b7.mono B6.out.size)); clear l7 b7)
    | (go_at_call 14; refine (check_at false ⟨E4.out.1⟩ E4.out.2 L7.out (Nat.le_refl _)).mono ?_; rintro e w8 ⟨rfl, b8⟩; have B8 := Fact.mk (B7.out.trans (b8.mono B7.out.size)); clear b8)
    | (go_at_call 31; refine (deep_any 20 (by decide) (by decide) _).mono ?_; rintro e w9 ⟨kv9, rfl, l9, b9⟩; have L9 := Fact.mk l9; have B9 := Fact.mk (B8.out.trans (b9.mono B8.out.size)); clear l9 b9)
    | (go_at_call 20; refine (depth_at 20 ⟨E5.out.1⟩ E5.out.2 L9.out (Nat.le_refl _)).mono ?_; rintro e w10 ⟨rfl, b10⟩; have B10 := Fact.mk (B9.out.trans (b10.mono B9.out.size)); clear b10)
    | (go_at_call 10; refine (awake_true _).mono ?_; rintro e w11 ⟨rfl, b11⟩; have B11 := Fact.mk (B10.out.trans (b11.mono B10.out.size)); clear b11))
  go_ret
  exact ⟨rfl, B11.out⟩
end Go.Proofs.Ytblgjmohcdioeaa
