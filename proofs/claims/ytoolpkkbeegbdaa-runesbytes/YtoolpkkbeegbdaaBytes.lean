/- RunesBytes returns true: four bytes are Blank, 52 a Letter; 12 is Blank, 13 and 11 are not. A closed statement: no condition. -/
import Derived.Test.YtoolpkkbeegbdaaRows
import Derived.WalkKit
import Derived.ProofKit
import Derived.OpenShut
import Derived.Test.YtoolpkkbeegbdaaAwake
import Derived.ShutString
namespace Go.Proofs.Ytoolpkkbeegbdaa.runesBytes
open Go.ChangeShapes Go.WideShapes Go.ChangeAt Go.RowKit M
open Go.ChangeMaps (open_string shut_string)
set_option linter.unusedVariables false      -- a walk need not use every 'w<i>' (that an integer argument fits its kind)

/-- how many bytes below k are blank; are letters -/
def cb : Nat → Nat
  | 0 => 0
  | k + 1 => cb k + (if blank k = true then 1 else 0)
def cc : Nat → Nat
  | 0 => 0
  | k + 1 => cc k + (if letter k = true then 1 else 0)
theorem cb_le : ∀ k, cb k ≤ k
  | 0 => Nat.le_refl _
  | k + 1 => by have := cb_le k; unfold cb; split <;> omega
theorem cc_le : ∀ k, cc k ≤ k
  | 0 => Nat.le_refl _
  | k + 1 => by have := cc_le k; unfold cc; split <;> omega
theorem cb_all : cb 256 = 4 := by kernel_rfl
theorem cc_all : cc 256 = 52 := by kernel_rfl
theorem blank_at (k : Nat) (x : Int) (b : Bool) (h : x = k) (hb : blank k = b) (w : World) : Calls Try.prog 18 #[.int .u8 x] w fun e w' => e = .returned (.bool b) ∧ w' = w := by
  subst h
  subst hb
  exact blank_any k w
theorem letter_at (k : Nat) (x : Int) (b : Bool) (h : x = k) (hb : letter k = b) (w : World) : Calls Try.prog 20 #[.int .u8 x] w fun e w' => e = .returned (.bool b) ∧ w' = w := by
  subst h
  subst hb
  exact letter_any k w
theorem blank12 (w : World) : Calls Try.prog 18 #[.int .u8 12] w fun e w' => e = .returned (.bool true) ∧ w' = w := blank_at 12 12 true rfl rfl w
theorem blank13 (w : World) : Calls Try.prog 18 #[.int .u8 13] w fun e w' => e = .returned (.bool false) ∧ w' = w := blank_at 13 13 false rfl rfl w
theorem blank11 (w : World) : Calls Try.prog 18 #[.int .u8 11] w fun e w' => e = .returned (.bool false) ∧ w' = w := blank_at 11 11 false rfl rfl w

set_option maxRecDepth 20000 in
set_option maxHeartbeats 1000000 in
theorem bytes_walk (w : World) : Calls Try.prog 8 #[] w fun e w' => e = .returned (.bool true) ∧ Below w.heap.size w w' := by
  go_enter Try.func8, Try.ntmps8
  go_wp2
  go_loop [1, 2, 3] (fun a b i => ∃ k : Nat, k ≤ 256 ∧ i = .int .i64 k ∧ a = .int .i64 (cb k : Nat) ∧ b = .int .i64 (cc k : Nat)) (fun _ _ i => 256 - (intOf i).toNat)
  case atStart => exact ⟨0, by omega, rfl, rfl, rfl⟩
  case round =>
    obtain ⟨k, hk, rfl, rfl, rfl⟩ := hrel
    by_cases hlt : k < 256
    · have h1 := cb_le k
      have h2 := cc_le k
      have e1 : cb (k + 1) = cb k + (if blank k = true then 1 else 0) := rfl
      have e2 : cc (k + 1) = cc k + (if letter k = true then 1 else 0) := rfl
      obtain ⟨x, hx⟩ : ∃ x, cb k = x := ⟨_, rfl⟩
      obtain ⟨y, hy⟩ : ∃ y, cc k = y := ⟨_, rfl⟩
      rw [hx] at h1 e1
      rw [hy] at h2 e2
      rw [hx, hy]
      clear hx hy
      cases hB : blank k <;> cases hL : letter k <;> rw [hB] at e1 <;> rw [hL] at e2 <;> simp only [if_true, Bool.false_eq_true, if_false, Nat.add_zero] at e1 e2
      all_goals
        have E1 := Fact.mk e1
        have E2 := Fact.mk e2
        have HB := Fact.mk hB
        have HL := Fact.mk hL
        clear e1 e2 hB hL
        go_wp2_with (first | (go_at_call 18; refine (blank_at k _ _ (by omega) HB.out _).mono ?_; rintro e w1 ⟨rfl, rfl⟩) | (go_at_call 20; refine (letter_at k _ _ (by omega) HL.out _).mono ?_; rintro e w1 ⟨rfl, rfl⟩))
        go_round
        case rel => exact ⟨k + 1, by omega, by go_num, by (rw [E1.out]; try go_num), by (rw [E2.out]; try go_num)⟩
        case measure => simp [intOf]; omega
    · have hk2 : k = 256 := by omega
      subst hk2
      rw [cb_all, cc_all]
      have tok1 : True := trivial
      have tok2 : True := trivial
      go_wp2_with (first
        | (go_at_call 18; have _t := tok1; refine (blank12 _).mono ?_; rintro e w1 ⟨rfl, rfl⟩; clear tok1 _t)
        | (go_at_call 18; have _t := tok2; refine (blank13 _).mono ?_; rintro e w1 ⟨rfl, rfl⟩; clear tok2 _t)
        | (go_at_call 18; refine (blank11 _).mono ?_; rintro e w1 ⟨rfl, rfl⟩)
        | (go_at_call 9; refine (awake_true _).mono ?_; rintro e w1 ⟨rfl, hb⟩))
      go_ret
      exact ⟨rfl, hb⟩

theorem own : ownKnob Try.prog.godebug = none := by kernel_rfl

theorem walk  (w : World) :
    Calls Try.prog 8 #[] w fun e w' => e = .returned (.bool true) ∧ Below w.heap.size w w' := by
  exact bytes_walk w

set_option maxRecDepth 100000 in
theorem lifted (os : Os) (started : os.Started) (H : Type) (enc : TypeId × Value → H) :
    ReturnsInHanded {} Try.checked os 8 .any (Rows.runesBytesSpec.pre6 enc Try.prog Try.f8 Rows.runesBytesRow.domain false) (Rows.runesBytesSpec.post enc Try.prog Try.f8 false true false false) := by
  refine returnsInHanded_of_change (C := Try.checked) own started (by kernel_rfl) Try.func8
    (ChangeSpec.witness6 (enc := enc) (C := Try.checked) false ⟨#[], #[], []⟩ 8 (by kernel_rfl) (by kernel_rfl) (by kernel_rfl) (by kernel_rfl)) ?_
  intro W base args ds gs before hval0 hW hcnd _
  have hval : ∀ (j : Nat) t v, Try.f8.params[j]? = some t → args[j]? = some v → Value.okWide Try.prog W .any base t v := hval0
  have hW' := hW
  obtain ⟨p, q, hA0, hV, rfl, hfz, hnd⟩ := hW
  have hA : DataW.TrodAll enc Try.prog W 0 (fun _ => true) true Try.f8.params.toList args.toList ds p := hA0
  rw [Try.params8] at hA hval
  obtain ⟨rfl, rfl, rfl⟩ := trodAll_none hA
  obtain ⟨rfl, rfl⟩ := trodVars_none hV
  clear hA0 hval0
  simp only [List.append_nil] at hW'
  refine (walk  W).mono fun e W' ⟨he, bel⟩ => ?_
  subst he
  exact ⟨_, rfl, _, _, _, [], _, [], hW', trodAll_mk1 (shut_bool Try.underlying4 _), rfl, rfl, bel.frame _, fun h => by cases h⟩

theorem over : Rows.runesBytesRow.holds Try.pinned (OpenSpec.ofChange Rows.runesBytesSpec) :=
  OpenClaim.holds_of_wide 8 Try.f8 rfl rfl rfl rfl rfl rfl rfl ⟨rfl, rfl, rfl, rfl, rfl⟩ rfl rfl rfl rfl rfl (by kernel_rfl) Try.func8 (by kernel_rfl)
    (of_decide_eq_true (by kernel_rfl)) (by unfold Func.isWrapper; first | (rw [if_pos (by decide +kernel)]; kernel_rfl) | (rw [if_neg (by decide +kernel)]; exact ⟨rfl, rfl⟩))
    (fun os started H enc _ => lifted os started H enc)

theorem proved : Rows.RunesBytesSaid :=
  over
end Go.Proofs.Ytoolpkkbeegbdaa.runesBytes
namespace Go.Proofs.Ytoolpkkbeegbdaa
/-- the given statement -/
theorem runesBytes_holds : Rows.RunesBytesSaid :=
  runesBytes.proved
#print axioms runesBytes_holds
end Go.Proofs.Ytoolpkkbeegbdaa
