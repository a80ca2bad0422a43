/- RunesParts returns true at every two texts: of two, the first one right and not ending with a byte 13, Clean and Lower of both one behind the other are those of each, one behind the other. No condition. -/
import Derived.Test.YtoolpkkbeegbdaaRows
import Derived.WalkKit
import Derived.ProofKit
import Derived.OpenShut
import Derived.Test.YtoolpkkbeegbdaaAts
import Derived.ShutString
namespace Go.Proofs.Ytoolpkkbeegbdaa.runesParts
open Go.ChangeShapes Go.WideShapes Go.ChangeAt Go.RowKit M
open Go.ChangeMaps (open_string shut_string)
set_option linter.unusedVariables false      -- a walk need not use every 'w<i>' (that an integer argument fits its kind)

theorem data_add (a b : ByteArray) : (a ++ b).data.toList = a.data.toList ++ b.data.toList := by rw [ByteArray.data_append, Array.toList_append]
theorem mk_add (x y : List UInt8) : (⟨(x ++ y).toArray⟩ : ByteArray) = ⟨x.toArray⟩ ++ ⟨y.toArray⟩ := by
  apply ByteArray.ext
  rw [ByteArray.data_append]
  simp
/-- what is told of two texts: A, B cleaned, E, F in lower case -/
structure IsTwo (a b A B E F : ByteArray) : Prop where
  ca : (⟨(C false a.data.toList).toArray⟩ : ByteArray) = A
  cb : (⟨(C false b.data.toList).toArray⟩ : ByteArray) = B
  la : (⟨(L a.data.toList).toArray⟩ : ByteArray) = E
  lb : (⟨(L b.data.toList).toArray⟩ : ByteArray) = F
theorem IsTwo.cab {a b A B E F : ByteArray} (h : IsTwo a b A B E F) (hv : V a.data.toList = true) (hl : a.data.toList.getLast? ≠ some 13) : (⟨(C false (a ++ b).data.toList).toArray⟩ : ByteArray) = A ++ B := by
  rw [data_add, C_parts _ _ hv hl, mk_add, h.ca, h.cb]
theorem IsTwo.lab {a b A B E F : ByteArray} (h : IsTwo a b A B E F) : (⟨(L (a ++ b).data.toList).toArray⟩ : ByteArray) = E ++ F := by
  have e : L (a.data.toList ++ b.data.toList) = L a.data.toList ++ L b.data.toList := List.map_append
  rw [data_add, e, mk_add, h.la, h.lb]
theorem IsTwo.sizes {a b A B E F : ByteArray} (h : IsTwo a b A B E F) : A.size ≤ 3 * a.size ∧ B.size ≤ 3 * b.size ∧ E.size = a.size ∧ F.size = b.size := by
  have e1 : A.data.toList = C false a.data.toList := by rw [← h.ca]
  have e2 : B.data.toList = C false b.data.toList := by rw [← h.cb]
  have e3 : E.data.toList = L a.data.toList := by rw [← h.la]
  have e4 : F.data.toList = L b.data.toList := by rw [← h.lb]
  rw [Lib.size_eq A, Lib.size_eq B, Lib.size_eq E, Lib.size_eq F, Lib.size_eq a, Lib.size_eq b, e1, e2, e3, e4]
  refine ⟨C_len _ _, C_len _ _, ?_, ?_⟩
  · unfold L; rw [List.length_map]
  · unfold L; rw [List.length_map]
theorem last_of (a : ByteArray) (h : a.size - 1 < a.size) : a.data.toList.getLast? = some (a[a.size - 1]'h) := by
  rw [List.getLast?_eq_getElem?, ← Lib.size_eq]
  exact byte_at a _ h
theorem last_no (a : ByteArray) (h : a.size - 1 < a.size) (h13 : ¬ ((a[a.size - 1]'h).toNat : Int) = 13) : a.data.toList.getLast? ≠ some 13 := by
  rw [last_of a h]
  intro e
  rw [Option.some.inj e] at h13
  exact h13 rfl
theorem last_nil (a : ByteArray) (h : a.size = 0) : a.data.toList.getLast? ≠ some 13 := by
  have e : a.data.toList = [] := List.eq_nil_of_length_eq_zero (by rw [← Lib.size_eq]; exact h)
  rw [e]
  intro h; cases h

set_option maxRecDepth 20000 in
set_option maxHeartbeats 1000000 in
theorem parts_early (a b : ByteArray) (w : World) (h : 2000 < a.size ∨ 2000 < b.size) : Calls Try.prog 5 #[.string a, .string b] w fun e w' => e = .returned (.bool true) ∧ Below w.heap.size w w' := by
  by_cases ha : 2000 < a.size
  · go_enter Try.func5, Try.ntmps5
    go_wp2_with (go_at_call 9; refine (awake_true _).mono ?_; rintro e w5 ⟨rfl, hb5⟩)
    go_ret
    exact ⟨rfl, hb5⟩
  · have hb : 2000 < b.size := by omega
    go_enter Try.func5, Try.ntmps5
    go_wp2_with (go_at_call 9; refine (awake_true _).mono ?_; rintro e w5 ⟨rfl, hb5⟩)
    go_ret
    exact ⟨rfl, hb5⟩

set_option maxRecDepth 20000 in
set_option maxHeartbeats 1000000 in
theorem parts_not (a b : ByteArray) (w : World) (ha : ¬ 2000 < a.size) (hb : ¬ 2000 < b.size) (hv : Fact (V a.data.toList = false)) : Calls Try.prog 5 #[.string a, .string b] w fun e w' => e = .returned (.bool true) ∧ Below w.heap.size w w' := by
  go_enter Try.func5, Try.ntmps5
  go_wp2_with (first
    | (go_at_call 10; refine (valid_at a false hv _).mono ?_; rintro e w1 ⟨rfl, hb1⟩)
    | (go_at_call 9; refine (awake_true _).mono ?_; rintro e w5 ⟨rfl, hb5⟩))
  go_ret
  exact ⟨rfl, hb1.trans (hb5.mono hb1.size)⟩

set_option maxRecDepth 20000 in
set_option maxHeartbeats 1000000 in
theorem parts_thirteen (a b : ByteArray) (w : World) (ha : ¬ 2000 < a.size) (hb : ¬ 2000 < b.size) (hv : Fact (V a.data.toList = true)) (h0 : 0 < a.size) (hlt : a.size - 1 < a.size) (h13 : ((a[a.size - 1]'hlt).toNat : Int) = 13) (hne : ¬ a.toList = []) (hie : a.toList.isEmpty = false) :
    Calls Try.prog 5 #[.string a, .string b] w fun e w' => e = .returned (.bool true) ∧ Below w.heap.size w w' := by
  go_enter Try.func5, Try.ntmps5
  go_wp2_with (first
    | (go_at_call 10; refine (valid_at a true hv _).mono ?_; rintro e w1 ⟨rfl, hb1⟩)
    | (go_at_call 9; refine (awake_true _).mono ?_; rintro e w5 ⟨rfl, hb5⟩))
  go_ret
  exact ⟨rfl, hb1.trans (hb5.mono hb1.size)⟩

theorem list_ne {a : ByteArray} (h : 0 < a.size) : ¬ a.toList = [] := by
  intro e
  rw [Lib.toList_data] at e
  have := congrArg List.length e
  rw [← Lib.size_eq] at this
  simp only [List.length_nil] at this
  omega
theorem list_nil {a : ByteArray} (h : ¬ 0 < a.size) : a.toList = [] := by
  rw [Lib.toList_data]
  exact List.eq_nil_of_length_eq_zero (by rw [← Lib.size_eq]; omega)

set_option maxRecDepth 20000 in
set_option maxHeartbeats 1000000 in
theorem parts_both (a b A B E F : ByteArray) (w : World) (ha : ¬ 2000 < a.size) (hb : ¬ 2000 < b.size) (hv : Fact (V a.data.toList = true)) (hI : IsTwo a b A B E F)
    (hl : (a.toList = [] ∧ a.toList.isEmpty = true) ∨ (¬ a.toList = [] ∧ a.toList.isEmpty = false ∧ 0 < a.size ∧ ∃ hlt : a.size - 1 < a.size, ¬ ((a[a.size - 1]'hlt).toNat : Int) = 13 ∧ (((a[a.size - 1]'hlt).toNat : Int) == 13) = false)) (hla : Fact (a.data.toList.getLast? ≠ some 13)) :
    Calls Try.prog 5 #[.string a, .string b] w fun e w' => e = .returned (.bool true) ∧ Below w.heap.size w w' := by
  have F1 := Fact.mk (hI.cab hv.out hla.out)
  have F2 := Fact.mk hI.ca
  have F3 := Fact.mk hI.cb
  have F4 := Fact.mk hI.lab
  have F5 := Fact.mk hI.la
  have F6 := Fact.mk hI.lb
  obtain ⟨z1, z2, z3, z4⟩ := hI.sizes
  have S1 : Fact ((a ++ b).size ≤ 20000) := ⟨by rw [ByteArray.size_append]; omega⟩
  have S2 : Fact (a.size ≤ 20000) := ⟨by omega⟩
  have S3 : Fact (b.size ≤ 20000) := ⟨by omega⟩
  clear hI hla
  have tok1 : True := trivial
  have tok2 : True := trivial
  have tok3 : True := trivial
  have tok4 : True := trivial
  rcases hl with ⟨hl1, hl2⟩ | ⟨hl1, hl2, hl3, hlt, hl4, hl5⟩
  all_goals
    go_enter Try.func5, Try.ntmps5
    go_wp2_with (first
      | (go_at_call 10; refine (valid_at a true hv _).mono ?_; rintro e w1 ⟨rfl, hb1⟩)
      | (go_at_call 12; have _t := tok1; refine (clean_at _ _ F1 S1 _).mono ?_; rintro e w2 ⟨rfl, hb2⟩; clear tok1 _t)
      | (go_at_call 12; have _t := tok2; refine (clean_at _ _ F2 S2 _).mono ?_; rintro e w3 ⟨rfl, hb3⟩; clear tok2 _t)
      | (go_at_call 12; refine (clean_at _ _ F3 S3 _).mono ?_; rintro e w4 ⟨rfl, hb4⟩)
      | (go_at_call 14; have _t := tok3; refine (lower_at _ _ F4 S1 _).mono ?_; rintro e w5 ⟨rfl, hb5⟩; clear tok3 _t)
      | (go_at_call 14; have _t := tok4; refine (lower_at _ _ F5 S2 _).mono ?_; rintro e w6 ⟨rfl, hb6⟩; clear tok4 _t)
      | (go_at_call 14; refine (lower_at _ _ F6 S3 _).mono ?_; rintro e w7 ⟨rfl, hb7⟩)
      | (go_at_call 9; refine (awake_true _).mono ?_; rintro e w8 ⟨rfl, hb8⟩))
    go_ret
    have q2 := hb1.trans (hb2.mono hb1.size)
    have q3 := q2.trans (hb3.mono q2.size)
    have q4 := q3.trans (hb4.mono q3.size)
    have q5 := q4.trans (hb5.mono q4.size)
    have q6 := q5.trans (hb6.mono q5.size)
    have q7 := q6.trans (hb7.mono q6.size)
    exact ⟨rfl, q7.trans (hb8.mono q7.size)⟩

theorem parts_walk (a b : ByteArray) (w : World) : Calls Try.prog 5 #[.string a, .string b] w fun e w' => e = .returned (.bool true) ∧ Below w.heap.size w w' := by
  by_cases ha : 2000 < a.size
  · exact parts_early a b w (.inl ha)
  by_cases hb : 2000 < b.size
  · exact parts_early a b w (.inr hb)
  cases hv : V a.data.toList
  · exact parts_not a b w ha hb ⟨hv⟩
  by_cases h0 : 0 < a.size
  · have hlt : a.size - 1 < a.size := by omega
    have hne := list_ne h0
    have hie : a.toList.isEmpty = false := by rw [List.isEmpty_eq_false_iff]; exact hne
    by_cases h13 : ((a[a.size - 1]'hlt).toNat : Int) = 13
    · exact parts_thirteen a b w ha hb ⟨hv⟩ h0 hlt h13 hne hie
    · exact parts_both a b _ _ _ _ w ha hb ⟨hv⟩ ⟨rfl, rfl, rfl, rfl⟩ (.inr ⟨hne, hie, h0, hlt, h13, beq_eq_false_iff_ne.2 h13⟩) ⟨last_no a hlt h13⟩
  · have e := list_nil h0
    exact parts_both a b _ _ _ _ w ha hb ⟨hv⟩ ⟨rfl, rfl, rfl, rfl⟩ (.inl ⟨e, by rw [e]; rfl⟩) ⟨last_nil a (by omega)⟩

theorem own : ownKnob Try.prog.godebug = none := by kernel_rfl

theorem walk (a0 : ByteArray) (a1 : ByteArray) (w0 : a0.size ≤ maxLen) (w1 : a1.size ≤ maxLen) (w : World) :
    Calls Try.prog 5 #[.string a0, .string a1] w fun e w' => e = .returned (.bool true) ∧ Below w.heap.size w w' := by
  exact parts_walk a0 a1 w

set_option maxRecDepth 100000 in
theorem lifted (os : Os) (started : os.Started) (H : Type) (enc : TypeId × Value → H) :
    ReturnsInHanded {} Try.checked os 5 .any (Rows.runesPartsSpec.pre6 enc Try.prog Try.f5 Rows.runesPartsRow.domain false) (Rows.runesPartsSpec.post enc Try.prog Try.f5 false true false false) := by
  refine returnsInHanded_of_change (C := Try.checked) own started (by kernel_rfl) Try.func5
    (ChangeSpec.witness6 (enc := enc) (C := Try.checked) false ⟨#[], #[.string ByteArray.empty, .string ByteArray.empty], []⟩ 8 (by kernel_rfl) (by kernel_rfl) (by kernel_rfl) (by kernel_rfl)) ?_
  intro W base args ds gs before hval0 hW hcnd _
  have hval : ∀ (j : Nat) t v, Try.f5.params[j]? = some t → args[j]? = some v → Value.okWide Try.prog W .any base t v := hval0
  have hW' := hW
  obtain ⟨p, q, hA0, hV, rfl, hfz, hnd⟩ := hW
  have hA : DataW.TrodAll enc Try.prog W 0 (fun _ => true) true Try.f5.params.toList args.toList ds p := hA0
  rw [Try.params5] at hA hval
  obtain ⟨v0, vs0, d0, ds0, p0, q0, hargs, rfl, rfl, h0, r0⟩ := trodAll_cons hA
  obtain ⟨v1, vs1, d1, ds1, p1, q1, rfl, rfl, rfl, h1, r1⟩ := trodAll_cons r0
  obtain ⟨rfl, rfl, rfl⟩ := trodAll_nil r1
  obtain rfl : args = #[v0, v1] := by cases args; simp_all
  obtain ⟨rfl, rfl⟩ := trodVars_none hV
  obtain ⟨a0, rfl, rfl, rfl, w0⟩ := open_string Try.underlying9 (hval 0 9 v0 rfl rfl) h0
  obtain ⟨a1, rfl, rfl, rfl, w1⟩ := open_string Try.underlying9 (hval 1 9 v1 rfl rfl) h1
  clear hA0 hval0
  simp only [List.append_nil] at hW'
  refine (walk a0 a1 w0 w1 W).mono fun e W' ⟨he, bel⟩ => ?_
  subst he
  exact ⟨_, rfl, _, _, _, [], _, [], hW', trodAll_mk1 (shut_bool Try.underlying4 _), (trodAll_cons_mk (shut_string Try.underlying9 w0) (trodAll_cons_mk (shut_string Try.underlying9 w1) trodAll_mk0)), rfl, bel.frame _, fun h => by cases h⟩

theorem over : Rows.runesPartsRow.holds Try.pinned (OpenSpec.ofChange Rows.runesPartsSpec) :=
  OpenClaim.holds_of_wide 5 Try.f5 rfl rfl rfl rfl rfl rfl rfl ⟨rfl, rfl, rfl, rfl, rfl⟩ rfl rfl rfl rfl rfl (by kernel_rfl) Try.func5 (by kernel_rfl)
    (of_decide_eq_true (by kernel_rfl)) (by unfold Func.isWrapper; first | (rw [if_pos (by decide +kernel)]; kernel_rfl) | (rw [if_neg (by decide +kernel)]; exact ⟨rfl, rfl⟩))
    (fun os started H enc _ => lifted os started H enc)

theorem proved : Rows.RunesPartsSaid :=
  over
end Go.Proofs.Ytoolpkkbeegbdaa.runesParts
namespace Go.Proofs.Ytoolpkkbeegbdaa
/-- the given statement -/
theorem runesParts_holds : Rows.RunesPartsSaid :=
  runesParts.proved
#print axioms runesParts_holds
end Go.Proofs.Ytoolpkkbeegbdaa
