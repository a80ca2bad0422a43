/- RunesLowers returns true at every text, whatever its length: Lower is as long, Lower again is the same, nothing but A to Z turns, Valid says of it what it said. No condition. -/
import Derived.Test.YtoolpkkbeegbdaaRows
import Derived.WalkKit
import Derived.ProofKit
import Derived.OpenShut
import Derived.Test.YtoolpkkbeegbdaaAwake
import Derived.ShutString
namespace Go.Proofs.Ytoolpkkbeegbdaa.runesLowers
open Go.ChangeShapes Go.WideShapes Go.ChangeAt Go.RowKit M
open Go.ChangeMaps (open_string shut_string)
set_option linter.unusedVariables false      -- a walk need not use every 'w<i>' (that an integer argument fits its kind)

theorem lower_at (s T : ByteArray) (h : Fact ((⟨(L s.data.toList).toArray⟩ : ByteArray) = T)) (hs : Fact (s.size ≤ maxLen)) (w : World) : Calls Try.prog 14 #[.string s] w fun e w' => e = .returned (.string T) ∧ Below w.heap.size w w' := by
  have := lower_any s w (by have := hs.out; unfold maxLen at this; omega)
  rw [h.out] at this
  exact this
theorem valid_at (s : ByteArray) (b : Bool) (h : Fact (V s.data.toList = b)) (w : World) : Calls Try.prog 10 #[.string s] w fun e w' => e = .returned (.bool b) ∧ Below w.heap.size w w' := by
  have := valid_any s w
  rw [h.out] at this
  exact this
theorem lw_lw (b : UInt8) : lw (lw b) = lw b := by
  by_cases h : 65 ≤ b.toNat ∧ b.toNat ≤ 90
  · have h2 : (lw b).toNat = b.toNat + 32 := by
      have := lw_hit b (by omega) (by omega)
      omega
    have h3 : ¬ (65 ≤ (lw b).toNat ∧ (lw b).toNat ≤ 90) := by omega
    show (if 65 ≤ (lw b).toNat ∧ (lw b).toNat ≤ 90 then lw b + 32 else lw b) = lw b
    rw [if_neg h3]
  · have h2 : lw b = b := by unfold lw; rw [if_neg h]
    rw [h2, h2]
theorem L_L (l : List UInt8) : L (L l) = L l := by
  unfold L
  rw [List.map_map]
  apply List.map_congr_left
  intro b _
  exact lw_lw b
/-- what is told of T, a text's lower case -/
structure IsLow (s T : ByteArray) : Prop where
  eq : (⟨(L s.data.toList).toArray⟩ : ByteArray) = T
theorem IsLow.data {s T : ByteArray} (h : IsLow s T) : T.data.toList = L s.data.toList := by rw [← h.eq]
theorem IsLow.size {s T : ByteArray} (h : IsLow s T) : T.size = s.size := by rw [Lib.size_eq, h.data, Lib.size_eq s]; unfold L; rw [List.length_map]
theorem IsLow.again {s T : ByteArray} (h : IsLow s T) : (⟨(L T.data.toList).toArray⟩ : ByteArray) = T := by rw [h.data, L_L, h.eq]
theorem IsLow.at {s T : ByteArray} (h : IsLow s T) (k : Nat) (h1 : k < s.size) (h2 : k < T.size) : T[k]'h2 = lw (s[k]'h1) := by
  have e1 : T.data.toList[k]? = some (T[k]'h2) := by
    rw [List.getElem?_eq_getElem (by rw [← Lib.size_eq]; exact h2)]
    rfl
  have e2 : s.data.toList[k]? = some (s[k]'h1) := by
    rw [List.getElem?_eq_getElem (by rw [← Lib.size_eq]; exact h1)]
    rfl
  rw [h.data] at e1
  unfold L at e1
  rw [List.getElem?_map, e2] at e1
  exact (Option.some.inj e1).symm

set_option maxRecDepth 20000 in
set_option maxHeartbeats 1000000 in
theorem lowers_walk (s : ByteArray) (hs : s.size ≤ maxLen) (w : World) : Calls Try.prog 7 #[.string s] w fun e w' => e = .returned (.bool true) ∧ Below w.heap.size w w' := by
  obtain ⟨T, hT⟩ : ∃ T, IsLow s T := ⟨_, ⟨rfl⟩⟩
  have hsz := hT.size
  have HS := Fact.mk hs
  have HT : Fact (T.size ≤ maxLen) := ⟨by rw [hsz]; exact hs⟩
  have F1 := Fact.mk hT.eq
  have F2 := Fact.mk hT.again
  obtain ⟨b, hb⟩ : ∃ b, Fact (V s.data.toList = b) := ⟨_, ⟨rfl⟩⟩
  have hb2 : Fact (V T.data.toList = b) := ⟨by rw [hT.data, V_lower, hb.out]⟩
  have h63 : s.size ≤ 9223372036854775807 := by unfold maxLen at hs; omega
  clear hs
  have tok1 : True := trivial
  go_enter Try.func7, Try.ntmps7
  go_wp2_with (first
    | (go_at_call 14; have _t := tok1; refine (lower_at s T F1 HS _).mono ?_; rintro e w1 ⟨rfl, hb1⟩; clear tok1 _t)
    | (go_at_call 14; refine (lower_at T T F2 HT _).mono ?_; rintro e w2 ⟨rfl, hbb⟩))
  have hbw : Below w.heap.size w w2 := hb1.trans (hbb.mono hb1.size)
  clear hb1 hbb F1 F2 HS HT
  go_loopw [4] (fun i wx => ∃ k : Nat, i = .int .i64 k ∧ k ≤ s.size ∧ Below w.heap.size w wx) (fun i _ => s.size - (intOf i).toNat)
  case atStart => exact ⟨0, rfl, Nat.zero_le _, hbw⟩
  case round =>
    obtain ⟨k, rfl, hk, hbr⟩ := hrel
    by_cases hlt : k < s.size
    · have hlt2 : k < T.size := by omega
      have hat := congrArg UInt8.toNat (hT.at k hlt hlt2)
      obtain ⟨x, hx⟩ : ∃ x, (s[k]'hlt).toNat = x := ⟨_, rfl⟩
      have hx2 : x < 256 := by rw [← hx]; exact (s[k]'hlt).toNat_lt
      by_cases hup : 65 ≤ x ∧ x ≤ 90
      · have hy : (T[k]'hlt2).toNat = x + 32 := by
          have := lw_hit (s[k]'hlt) (by omega) (by omega)
          omega
        obtain ⟨hu1, hu2⟩ := hup
        have hwr : IntKind.u8.wrap ((x : Int) + 32) = (x : Int) + 32 := by unfold IntKind.wrap; simp [IntKind.bits, IntKind.signed]; omega
        have hd : decide ((x : Int) ≤ 90) = true := decide_eq_true (by omega)
        clear hat
        go_wp2
        go_region
        go_wp2
        go_roundw
        case rel => exact ⟨k + 1, by go_num, by omega, hbr.drew⟩
        case measure => simp [intOf]; omega
      · have hy : (T[k]'hlt2).toNat = x := by
          rw [hat, ← hx]
          congr 1
          unfold lw
          rw [if_neg (by omega)]
        clear hat
        by_cases hu1 : 65 ≤ x
        · have hu2 : 90 < x := by omega
          have hd : decide ((x : Int) ≤ 90) = false := decide_eq_false (by omega)
          go_wp2
          go_region
          go_wp2
          go_roundw
          case rel => exact ⟨k + 1, by go_num, by omega, hbr.drew⟩
          case measure => simp [intOf]; omega
        · go_wp2
          go_region
          go_wp2
          go_roundw
          case rel => exact ⟨k + 1, by go_num, by omega, hbr.drew⟩
          case measure => simp [intOf]; omega
    · clear hT hsz
      have tok2 : True := trivial
      go_wp2_with (first
        | (go_at_call 10; have _t := tok2; refine (valid_at T b hb2 _).mono ?_; rintro e w3 ⟨rfl, hb3⟩; clear tok2 _t)
        | (go_at_call 10; refine (valid_at s b hb _).mono ?_; rintro e w4 ⟨rfl, hb4⟩)
        | (go_at_call 9; refine (awake_true _).mono ?_; rintro e w5 ⟨rfl, hb5⟩))
      go_ret
      have s3 := Nat.le_trans hbr.size hb3.size
      exact ⟨rfl, ((hbr.trans (hb3.mono hbr.size)).trans (hb4.mono s3)).trans (hb5.mono (Nat.le_trans s3 hb4.size))⟩

theorem own : ownKnob Try.prog.godebug = none := by kernel_rfl

theorem walk (a0 : ByteArray) (w0 : a0.size ≤ maxLen) (w : World) :
    Calls Try.prog 7 #[.string a0] w fun e w' => e = .returned (.bool true) ∧ Below w.heap.size w w' := by
  exact lowers_walk a0 w0 w

set_option maxRecDepth 100000 in
theorem lifted (os : Os) (started : os.Started) (H : Type) (enc : TypeId × Value → H) :
    ReturnsInHanded {} Try.checked os 7 .any (Rows.runesLowersSpec.pre6 enc Try.prog Try.f7 Rows.runesLowersRow.domain false) (Rows.runesLowersSpec.post enc Try.prog Try.f7 false true false false) := by
  refine returnsInHanded_of_change (C := Try.checked) own started (by kernel_rfl) Try.func7
    (ChangeSpec.witness6 (enc := enc) (C := Try.checked) false ⟨#[], #[.string ByteArray.empty], []⟩ 8 (by kernel_rfl) (by kernel_rfl) (by kernel_rfl) (by kernel_rfl)) ?_
  intro W base args ds gs before hval0 hW hcnd _
  have hval : ∀ (j : Nat) t v, Try.f7.params[j]? = some t → args[j]? = some v → Value.okWide Try.prog W .any base t v := hval0
  have hW' := hW
  obtain ⟨p, q, hA0, hV, rfl, hfz, hnd⟩ := hW
  have hA : DataW.TrodAll enc Try.prog W 0 (fun _ => true) true Try.f7.params.toList args.toList ds p := hA0
  rw [Try.params7] at hA hval
  obtain ⟨v0, vs0, d0, ds0, p0, q0, hargs, rfl, rfl, h0, r0⟩ := trodAll_cons hA
  obtain ⟨rfl, rfl, rfl⟩ := trodAll_nil r0
  obtain rfl : args = #[v0] := by cases args; simp_all
  obtain ⟨rfl, rfl⟩ := trodVars_none hV
  obtain ⟨a0, rfl, rfl, rfl, w0⟩ := open_string Try.underlying9 (hval 0 9 v0 rfl rfl) h0
  clear hA0 hval0
  simp only [List.append_nil] at hW'
  refine (walk a0 w0 W).mono fun e W' ⟨he, bel⟩ => ?_
  subst he
  exact ⟨_, rfl, _, _, _, [], _, [], hW', trodAll_mk1 (shut_bool Try.underlying4 _), (trodAll_cons_mk (shut_string Try.underlying9 w0) trodAll_mk0), rfl, bel.frame _, fun h => by cases h⟩

theorem over : Rows.runesLowersRow.holds Try.pinned (OpenSpec.ofChange Rows.runesLowersSpec) :=
  OpenClaim.holds_of_wide 7 Try.f7 rfl rfl rfl rfl rfl rfl rfl ⟨rfl, rfl, rfl, rfl, rfl⟩ rfl rfl rfl rfl rfl (by kernel_rfl) Try.func7 (by kernel_rfl)
    (of_decide_eq_true (by kernel_rfl)) (by unfold Func.isWrapper; first | (rw [if_pos (by decide +kernel)]; kernel_rfl) | (rw [if_neg (by decide +kernel)]; exact ⟨rfl, rfl⟩))
    (fun os started H enc _ => lifted os started H enc)

theorem proved : Rows.RunesLowersSaid :=
  over
end Go.Proofs.Ytoolpkkbeegbdaa.runesLowers
namespace Go.Proofs.Ytoolpkkbeegbdaa
/-- the given statement -/
theorem runesLowers_holds : Rows.RunesLowersSaid :=
  runesLowers.proved
#print axioms runesLowers_holds
end Go.Proofs.Ytoolpkkbeegbdaa
