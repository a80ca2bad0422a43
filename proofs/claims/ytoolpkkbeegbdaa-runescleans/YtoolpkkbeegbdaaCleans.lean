/- RunesCleans returns true at every text: Clean is Valid, Clean again is the same, it has no byte 0 or 13, and at most three times the length. No condition. -/
import Derived.Test.YtoolpkkbeegbdaaRows
import Derived.WalkKit
import Derived.ProofKit
import Derived.OpenShut
import Derived.Test.YtoolpkkbeegbdaaAts
import Derived.ShutString
namespace Go.Proofs.Ytoolpkkbeegbdaa.runesCleans
open Go.ChangeShapes Go.WideShapes Go.ChangeAt Go.RowKit M
open Go.ChangeMaps (open_string shut_string)
set_option linter.unusedVariables false      -- a walk need not use every 'w<i>' (that an integer argument fits its kind)

/-- what is told of T, a text cleaned -/
structure IsClean (s T : ByteArray) : Prop where
  eq : (⟨(C false s.data.toList).toArray⟩ : ByteArray) = T
theorem IsClean.data {s T : ByteArray} (h : IsClean s T) : T.data.toList = C false s.data.toList := by rw [← h.eq]
theorem IsClean.size {s T : ByteArray} (h : IsClean s T) : T.size ≤ 3 * s.size := by rw [Lib.size_eq, h.data, Lib.size_eq s]; exact C_len _ _
theorem IsClean.again {s T : ByteArray} (h : IsClean s T) : (⟨(C false T.data.toList).toArray⟩ : ByteArray) = T := by rw [h.data, C_again, h.eq]
theorem IsClean.valid {s T : ByteArray} (h : IsClean s T) : V T.data.toList = true := by rw [h.data]; exact C_valid _ _
theorem IsClean.at {s T : ByteArray} (h : IsClean s T) (k : Nat) (hk : k < T.size) : ¬ ((T[k]'hk).toNat : Int) = 0 ∧ ¬ ((T[k]'hk).toNat : Int) = 13 := by
  have hm : (T[k]'hk) ∈ C false s.data.toList := by
    rw [← h.data]
    exact List.mem_of_getElem? (byte_at T k hk)
  obtain ⟨h0, h1⟩ := C_no _ _ _ hm
  constructor
  · intro e
    exact h0 (UInt8.toNat.inj (by rw [show (0 : UInt8).toNat = 0 from rfl]; omega))
  · intro e
    exact h1 (UInt8.toNat.inj (by rw [show (13 : UInt8).toNat = 13 from rfl]; omega))

set_option maxRecDepth 20000 in
set_option maxHeartbeats 1000000 in
theorem cleans_walk (s : ByteArray) (w : World) : Calls Try.prog 4 #[.string s] w fun e w' => e = .returned (.bool true) ∧ Below w.heap.size w w' := by
  by_cases hbig : 3000 < s.size
  · go_enter Try.func4, Try.ntmps4
    go_wp2_with (go_at_call 9; refine (awake_true _).mono ?_; rintro e w5 ⟨rfl, hb5⟩)
    go_ret
    exact ⟨rfl, hb5⟩
  obtain ⟨T, hT⟩ : ∃ T, IsClean s T := ⟨_, ⟨rfl⟩⟩
  have hsz := hT.size
  have HS : Fact (s.size ≤ 20000) := ⟨by omega⟩
  have HT : Fact (T.size ≤ 20000) := ⟨by omega⟩
  have F1 := Fact.mk hT.eq
  have F2 := Fact.mk hT.again
  have F3 := Fact.mk hT.valid
  have tok1 : True := trivial
  go_enter Try.func4, Try.ntmps4
  go_wp2_with (go_at_call 12; have _t := tok1; refine (clean_at s T F1 HS _).mono ?_; rintro e w1 ⟨rfl, hb1⟩; clear tok1 _t)
  go_loop [4] (fun i => ∃ k : Nat, i = .int .i64 k ∧ k ≤ T.size) (fun i => T.size - (intOf i).toNat)
  case atStart => exact ⟨0, rfl, Nat.zero_le _⟩
  case round =>
    obtain ⟨k, rfl, hk⟩ := hrel
    by_cases hlt : k < T.size
    · obtain ⟨h0, h13⟩ := hT.at k hlt
      have b0 := beq_eq_false_iff_ne.2 h0
      have b13 := beq_eq_false_iff_ne.2 h13
      go_wp2
      go_round
      case rel => exact ⟨k + 1, by go_num, by omega⟩
      case measure => simp [intOf]; omega
    · go_wp2_with (first
        | (go_at_call 10; refine (valid_at T true F3 _).mono ?_; rintro e w3 ⟨rfl, hb3⟩)
        | (go_at_call 12; refine (clean_at T T F2 HT _).mono ?_; rintro e w4 ⟨rfl, hb4⟩)
        | (go_at_call 9; refine (awake_true _).mono ?_; rintro e w5 ⟨rfl, hb5⟩))
      go_ret
      have s3 := Nat.le_trans hb1.size hb3.size
      exact ⟨rfl, ((hb1.trans (hb3.mono hb1.size)).trans (hb4.mono s3)).trans (hb5.mono (Nat.le_trans s3 hb4.size))⟩

theorem own : ownKnob Try.prog.godebug = none := by kernel_rfl

theorem walk (a0 : ByteArray) (w0 : a0.size ≤ maxLen) (w : World) :
    Calls Try.prog 4 #[.string a0] w fun e w' => e = .returned (.bool true) ∧ Below w.heap.size w w' := by
  exact cleans_walk a0 w

set_option maxRecDepth 100000 in
theorem lifted (os : Os) (started : os.Started) (H : Type) (enc : TypeId × Value → H) :
    ReturnsInHanded {} Try.checked os 4 .any (Rows.runesCleansSpec.pre6 enc Try.prog Try.f4 Rows.runesCleansRow.domain false) (Rows.runesCleansSpec.post enc Try.prog Try.f4 false true false false) := by
  refine returnsInHanded_of_change (C := Try.checked) own started (by kernel_rfl) Try.func4
    (ChangeSpec.witness6 (enc := enc) (C := Try.checked) false ⟨#[], #[.string ByteArray.empty], []⟩ 8 (by kernel_rfl) (by kernel_rfl) (by kernel_rfl) (by kernel_rfl)) ?_
  intro W base args ds gs before hval0 hW hcnd _
  have hval : ∀ (j : Nat) t v, Try.f4.params[j]? = some t → args[j]? = some v → Value.okWide Try.prog W .any base t v := hval0
  have hW' := hW
  obtain ⟨p, q, hA0, hV, rfl, hfz, hnd⟩ := hW
  have hA : DataW.TrodAll enc Try.prog W 0 (fun _ => true) true Try.f4.params.toList args.toList ds p := hA0
  rw [Try.params4] at hA hval
  obtain ⟨v0, vs0, d0, ds0, p0, q0, hargs, rfl, rfl, h0, r0⟩ := trodAll_cons hA
  obtain ⟨rfl, rfl, rfl⟩ := trodAll_nil r0
  obtain rfl : args = #[v0] := by cases args; simp_all
  obtain ⟨rfl, rfl⟩ := trodVars_none hV
  obtain ⟨a0, rfl, rfl, rfl, w0⟩ := open_string Try.underlying9 (hval 0 9 v0 rfl rfl) h0
  clear hA0 hval0
  simp only [List.append_nil] at hW'
  refine (walk a0 w0 W).mono fun e W' ⟨he, bel⟩ => ?_
  subst he
  exact ⟨_, rfl, _, _, _, [], _, [], hW', trodAll_mk1 (shut_bool Try.underlying4 _), (trodAll_cons_mk (shut_string Try.underlying9 w0) trodAll_mk0), rfl, bel.frame _, fun h => by cases h⟩

theorem over : Rows.runesCleansRow.holds Try.pinned (OpenSpec.ofChange Rows.runesCleansSpec) :=
  OpenClaim.holds_of_wide 4 Try.f4 rfl rfl rfl rfl rfl rfl rfl ⟨rfl, rfl, rfl, rfl, rfl⟩ rfl rfl rfl rfl rfl (by kernel_rfl) Try.func4 (by kernel_rfl)
    (of_decide_eq_true (by kernel_rfl)) (by unfold Func.isWrapper; first | (rw [if_pos (by decide +kernel)]; kernel_rfl) | (rw [if_neg (by decide +kernel)]; exact ⟨rfl, rfl⟩))
    (fun os started H enc _ => lifted os started H enc)

theorem proved : Rows.RunesCleansSaid :=
  over
end Go.Proofs.Ytoolpkkbeegbdaa.runesCleans
namespace Go.Proofs.Ytoolpkkbeegbdaa
/-- the given statement -/
theorem runesCleans_holds : Rows.RunesCleansSaid :=
  runesCleans.proved
#print axioms runesCleans_holds
end Go.Proofs.Ytoolpkkbeegbdaa
