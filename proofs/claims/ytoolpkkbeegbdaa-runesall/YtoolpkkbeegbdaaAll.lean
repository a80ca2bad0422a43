/- RunesAll returns true at every text, rune and byte: Valid, Clean, Lower, Put, Blank and Letter answer as the document works them out. No condition. -/
import Derived.Test.YtoolpkkbeegbdaaRows
import Derived.WalkKit
import Derived.ProofKit
import Derived.OpenShut
import Derived.Test.YtoolpkkbeegbdaaRefs
import Derived.Test.YtoolpkkbeegbdaaRefW
import Derived.ShutString
namespace Go.Proofs.Ytoolpkkbeegbdaa.runesAll
open Go.ChangeShapes Go.WideShapes Go.ChangeAt Go.RowKit M
open Go.ChangeMaps (open_string shut_string)
set_option linter.unusedVariables false      -- a walk need not use every 'w<i>' (that an integer argument fits its kind)

theorem refValid_at (s : ByteArray) (b : Bool) (h : Fact (V s.data.toList = b)) (hs : Fact (s.size ≤ 20000)) (w : World) : Calls Try.prog 11 #[.string s] w fun e w' => e = .returned (.bool b) ∧ w' = w := by
  have := refValid_any s w hs.out
  rw [h.out] at this
  exact this
theorem refClean_at (s T : ByteArray) (h : Fact ((⟨(C false s.data.toList).toArray⟩ : ByteArray) = T)) (hs : Fact (s.size ≤ 20000)) (w : World) : Calls Try.prog 13 #[.string s] w fun e w' => e = .returned (.string T) ∧ w' = w := by
  have := refClean_any s w hs.out
  rw [h.out] at this
  exact this
theorem refLower_at (s T : ByteArray) (h : Fact ((⟨(L s.data.toList).toArray⟩ : ByteArray) = T)) (hs : Fact (s.size ≤ 20000)) (w : World) : Calls Try.prog 15 #[.string s] w fun e w' => e = .returned (.string T) ∧ Below w.heap.size w w' := by
  have := refLower_any s w hs.out
  rw [h.out] at this
  exact this
theorem refPut_at (r : Int) (E : ByteArray) (h : Fact (Utf8.encode r = E)) (hr : Fact (-2147483648 ≤ r ∧ r ≤ 2147483647)) (w : World) : Calls Try.prog 17 #[.int .i32 r] w fun e w' => e = .returned (.string E) ∧ Below w.heap.size w w' := by
  have := refPut_any r w hr.out.1 hr.out.2
  rw [h.out] at this
  exact this
theorem blank_b (c : Nat) (b : Bool) (h : Fact (blank c = b)) (w : World) : Calls Try.prog 18 #[.int .u8 c] w fun e w' => e = .returned (.bool b) ∧ w' = w := by
  have := blank_any c w
  rw [h.out] at this
  exact this
theorem refBlank_b (c : Nat) (b : Bool) (h : Fact (blank c = b)) (w : World) : Calls Try.prog 19 #[.int .u8 c] w fun e w' => e = .returned (.bool b) ∧ w' = w := by
  have := refBlank_any c w
  rw [h.out] at this
  exact this
theorem letter_b (c : Nat) (b : Bool) (h : Fact (letter c = b)) (w : World) : Calls Try.prog 20 #[.int .u8 c] w fun e w' => e = .returned (.bool b) ∧ w' = w := by
  have := letter_any c w
  rw [h.out] at this
  exact this
theorem refLetter_b (c : Nat) (b : Bool) (h : Fact (letter c = b)) (w : World) : Calls Try.prog 21 #[.int .u8 c] w fun e w' => e = .returned (.bool b) ∧ w' = w := by
  have := refLetter_any c w
  rw [h.out] at this
  exact this

set_option maxRecDepth 20000 in
set_option maxHeartbeats 1000000 in
theorem all_walk (s : ByteArray) (r : Int) (c : Nat) (hr : Fact (-2147483648 ≤ r ∧ r ≤ 2147483647)) (w : World) : Calls Try.prog 3 #[.string s, .int .i32 r, .int .u8 c] w fun e w' => e = .returned (.bool true) ∧ Below w.heap.size w w' := by
  by_cases hbig : 3000 < s.size
  · go_enter Try.func3, Try.ntmps3
    go_wp2_with (go_at_call 9; refine (awake_true _).mono ?_; rintro e w5 ⟨rfl, hb5⟩)
    go_ret
    exact ⟨rfl, hb5⟩
  have HS : Fact (s.size ≤ 20000) := ⟨by omega⟩
  obtain ⟨v, hv⟩ : ∃ b, Fact (V s.data.toList = b) := ⟨_, ⟨rfl⟩⟩
  obtain ⟨T, hT⟩ : ∃ T, Fact ((⟨(C false s.data.toList).toArray⟩ : ByteArray) = T) := ⟨_, ⟨rfl⟩⟩
  obtain ⟨U, hU⟩ : ∃ T, Fact ((⟨(L s.data.toList).toArray⟩ : ByteArray) = T) := ⟨_, ⟨rfl⟩⟩
  obtain ⟨E, hE⟩ : ∃ E, Fact (Utf8.encode r = E) := ⟨_, ⟨rfl⟩⟩
  obtain ⟨b, hb⟩ : ∃ b, Fact (blank c = b) := ⟨_, ⟨rfl⟩⟩
  obtain ⟨l, hl⟩ : ∃ l, Fact (letter c = l) := ⟨_, ⟨rfl⟩⟩
  go_enter Try.func3, Try.ntmps3
  go_wp2_with (first
    | (go_at_call 10; refine (valid_at s v hv _).mono ?_; rintro e w1 ⟨rfl, hb1⟩)
    | (go_at_call 11; refine (refValid_at s v hv HS _).mono ?_; rintro e x1 ⟨rfl, rfl⟩)
    | (go_at_call 12; refine (clean_at s T hT HS _).mono ?_; rintro e w2 ⟨rfl, hb2⟩)
    | (go_at_call 13; refine (refClean_at s T hT HS _).mono ?_; rintro e x2 ⟨rfl, rfl⟩)
    | (go_at_call 14; refine (lower_at s U hU HS _).mono ?_; rintro e w3 ⟨rfl, hb3⟩)
    | (go_at_call 15; refine (refLower_at s U hU HS _).mono ?_; rintro e w4 ⟨rfl, hb4⟩)
    | (go_at_call 16; refine (put_at r E hE _).mono ?_; rintro e x3 ⟨rfl, rfl⟩)
    | (go_at_call 17; refine (refPut_at r E hE hr _).mono ?_; rintro e w5 ⟨rfl, hb5⟩)
    | (go_at_call 18; refine (blank_b c b hb _).mono ?_; rintro e x4 ⟨rfl, rfl⟩)
    | (go_at_call 19; refine (refBlank_b c b hb _).mono ?_; rintro e x5 ⟨rfl, rfl⟩)
    | (go_at_call 20; refine (letter_b c l hl _).mono ?_; rintro e x6 ⟨rfl, rfl⟩)
    | (go_at_call 21; refine (refLetter_b c l hl _).mono ?_; rintro e x7 ⟨rfl, rfl⟩)
    | (go_at_call 9; refine (awake_true _).mono ?_; rintro e w6 ⟨rfl, hb6⟩))
  go_ret
  have q2 := hb1.trans (hb2.mono hb1.size)
  have q3 := q2.trans (hb3.mono q2.size)
  have q4 := q3.trans (hb4.mono q3.size)
  have q5 := q4.trans (hb5.mono q4.size)
  exact ⟨rfl, q5.trans (hb6.mono q5.size)⟩

theorem own : ownKnob Try.prog.godebug = none := by kernel_rfl

theorem walk (a0 : ByteArray) (a1 : Int) (a2 : Int) (w0 : a0.size ≤ maxLen) (w1 : (Lit.int .i32 a1).wf = true) (w2 : (Lit.int .u8 a2).wf = true) (w : World) :
    Calls Try.prog 3 #[.string a0, .int .i32 a1, .int .u8 a2] w fun e w' => e = .returned (.bool true) ∧ Below w.heap.size w w' := by
  obtain ⟨c1, c2⟩ := bounds_u8 w2
  obtain ⟨c, rfl⟩ : ∃ c : Nat, a2 = c := ⟨a2.toNat, by omega⟩
  exact all_walk a0 a1 c ⟨bounds_i32 w1⟩ w

set_option maxRecDepth 100000 in
theorem lifted (os : Os) (started : os.Started) (H : Type) (enc : TypeId × Value → H) :
    ReturnsInHanded {} Try.checked os 3 .any (Rows.runesAllSpec.pre6 enc Try.prog Try.f3 Rows.runesAllRow.domain false) (Rows.runesAllSpec.post enc Try.prog Try.f3 false true false false) := by
  refine returnsInHanded_of_change (C := Try.checked) own started (by kernel_rfl) Try.func3
    (ChangeSpec.witness6 (enc := enc) (C := Try.checked) false ⟨#[], #[.string ByteArray.empty, .int .i32 0, .int .u8 0], []⟩ 8 (by kernel_rfl) (by kernel_rfl) (by kernel_rfl) (by kernel_rfl)) ?_
  intro W base args ds gs before hval0 hW hcnd _
  have hval : ∀ (j : Nat) t v, Try.f3.params[j]? = some t → args[j]? = some v → Value.okWide Try.prog W .any base t v := hval0
  have hW' := hW
  obtain ⟨p, q, hA0, hV, rfl, hfz, hnd⟩ := hW
  have hA : DataW.TrodAll enc Try.prog W 0 (fun _ => true) true Try.f3.params.toList args.toList ds p := hA0
  rw [Try.params3] at hA hval
  obtain ⟨v0, vs0, d0, ds0, p0, q0, hargs, rfl, rfl, h0, r0⟩ := trodAll_cons hA
  obtain ⟨v1, vs1, d1, ds1, p1, q1, rfl, rfl, rfl, h1, r1⟩ := trodAll_cons r0
  obtain ⟨v2, vs2, d2, ds2, p2, q2, rfl, rfl, rfl, h2, r2⟩ := trodAll_cons r1
  obtain ⟨rfl, rfl, rfl⟩ := trodAll_nil r2
  obtain rfl : args = #[v0, v1, v2] := by cases args; simp_all
  obtain ⟨rfl, rfl⟩ := trodVars_none hV
  obtain ⟨a0, rfl, rfl, rfl, w0⟩ := open_string Try.underlying9 (hval 0 9 v0 rfl rfl) h0
  obtain ⟨a1, rfl, rfl, rfl, w1⟩ := open_int Try.underlying21 (hval 1 21 v1 rfl rfl) h1
  obtain ⟨a2, rfl, rfl, rfl, w2⟩ := open_int Try.underlying5 (hval 2 5 v2 rfl rfl) h2
  clear hA0 hval0
  simp only [List.append_nil] at hW'
  refine (walk a0 a1 a2 w0 w1 w2 W).mono fun e W' ⟨he, bel⟩ => ?_
  subst he
  exact ⟨_, rfl, _, _, _, [], _, [], hW', trodAll_mk1 (shut_bool Try.underlying4 _), (trodAll_cons_mk (shut_string Try.underlying9 w0) (trodAll_cons_mk (shut_int Try.underlying21 w1) (trodAll_cons_mk (shut_int Try.underlying5 w2) trodAll_mk0))), rfl, bel.frame _, fun h => by cases h⟩

theorem over : Rows.runesAllRow.holds Try.pinned (OpenSpec.ofChange Rows.runesAllSpec) :=
  OpenClaim.holds_of_wide 3 Try.f3 rfl rfl rfl rfl rfl rfl rfl ⟨rfl, rfl, rfl, rfl, rfl⟩ rfl rfl rfl rfl rfl (by kernel_rfl) Try.func3 (by kernel_rfl)
    (of_decide_eq_true (by kernel_rfl)) (by unfold Func.isWrapper; first | (rw [if_pos (by decide +kernel)]; kernel_rfl) | (rw [if_neg (by decide +kernel)]; exact ⟨rfl, rfl⟩))
    (fun os started H enc _ => lifted os started H enc)

theorem proved : Rows.RunesAllSaid :=
  over
end Go.Proofs.Ytoolpkkbeegbdaa.runesAll
namespace Go.Proofs.Ytoolpkkbeegbdaa
/-- the given statement -/
theorem runesAll_holds : Rows.RunesAllSaid :=
  runesAll.proved
#print axioms runesAll_holds
end Go.Proofs.Ytoolpkkbeegbdaa
