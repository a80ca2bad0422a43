/- The walk of CharrefAll: it returns true. -/
import Derived.Test.YtlelnjheocbmnaaDoorRE
set_option linter.unusedVariables false
namespace Go.Proofs.YtlelnjheocbmnaaDoor
open Go.RowKit M

theorem rescape_at (s T : ByteArray) (attr : Bool) (hs : s.size ≤ 3000) (hT : Fact (escB attr s.data.toList = T.data.toList)) (w : World) :
    Calls Tryd.prog 14 #[.string s, .bool attr] w fun e w' => e = .returned (.string T) ∧ w' = w := by
  cases attr
  · have := rescape_false s hs w
    rw [hT.out] at this
    exact this
  · have := rescape_true s hs w
    rw [hT.out] at this
    exact this
theorem rdecode_at (s T : ByteArray) (attr : Bool) (hs : s.size ≤ 3000) (hT : Fact (decB attr s.data.toList = T.data.toList)) (w : World) :
    Calls Tryd.prog 12 #[.string s, .bool attr] w fun e w' => e = .returned (.string T) ∧ Below w.heap.size w w' := by
  have := rdecode_any s attr hs w
  rw [hT.out] at this
  exact this
set_option maxRecDepth 20000 in
set_option maxHeartbeats 2000000 in
theorem all_walk (s : ByteArray) (a : Int) (attr : Bool) (w : World) (hw : Met w) :
    Calls Tryd.prog 3 #[.string s, .int .i64 a, .bool attr] w fun e w' => e = .returned (.bool true) ∧ Below w.heap.size w w' := by
  have HW := Fact.mk hw
  clear hw
  by_cases hz : 3000 < s.size
  · go_enter Tryd.func3, Tryd.ntmps3
    go_wp2_with (go_at_call 8; refine (awake9_true _ HW.out).mono ?_; rintro e w5 ⟨rfl, hb5⟩)
    go_ret
    exact ⟨rfl, hb5⟩
  · have hs3 : s.size ≤ 3000 := by omega
    have hsm : IsSm s.size := ⟨by omega⟩
    have hs2 : s.size ≤ 20000 := by omega
    obtain ⟨T, N, hT⟩ : ∃ (T : ByteArray) (N : Nat), Fact (refA s.data.toList a attr = (T.data.toList, N)) := ⟨⟨(refA s.data.toList a attr).1.toArray⟩, _, ⟨rfl⟩⟩
    obtain ⟨D, hD⟩ : ∃ D : ByteArray, Fact (decB attr s.data.toList = D.data.toList) := ⟨⟨(decB attr s.data.toList).toArray⟩, ⟨rfl⟩⟩
    obtain ⟨E, hE⟩ : ∃ E : ByteArray, Fact (escB attr s.data.toList = E.data.toList) := ⟨⟨(escB attr s.data.toList).toArray⟩, ⟨rfl⟩⟩
    have b1 : (T.toList == T.toList) = true := beq_self_eq_true _
    have b2 : ((N : Int) == (N : Int)) = true := beq_self_eq_true _
    have b3 : (D.toList == D.toList) = true := beq_self_eq_true _
    have b4 : (E.toList == E.toList) = true := beq_self_eq_true _
    go_enter Tryd.func3, Tryd.ntmps3
    go_wp2_with (first
      | (go_at_call 9; refine (ref_any s T a N attr hsm hT _ HW.out.laid).mono ?_; rintro e w1 ⟨rfl, hb1⟩; have H1 := Fact.mk (HW.out.below hb1))
      | (go_at_call 10; refine (rref_any s T a N attr hsm hT _).mono ?_; rintro e w2 ⟨rfl, hb2⟩; have H2 := Fact.mk (H1.out.below hb2); have q2 := hb1.trans (hb2.mono hb1.size))
      | (go_at_call 11; refine (decode_at s D attr hsm hD _ H2.out).mono ?_; rintro e w3 ⟨rfl, hb3⟩; have H3 := Fact.mk (H2.out.below hb3); have q3 := q2.trans (hb3.mono q2.size))
      | (go_at_call 12; refine (rdecode_at s D attr hs3 hD _).mono ?_; rintro e w4 ⟨rfl, hb4⟩; have H4 := Fact.mk (H3.out.below hb4); have q4 := q3.trans (hb4.mono q3.size))
      | (go_at_call 13; refine (escape_at s E attr hs2 hE _ H4.out).mono ?_; rintro e w5 ⟨rfl, hb5⟩; have H5 := Fact.mk (H4.out.below hb5); have q5 := q4.trans (hb5.mono q4.size))
      | (go_at_call 14; refine (rescape_at s E attr hs3 hE _).mono ?_; rintro e w6 ⟨rfl, h6⟩; have h6' := h6.symm; subst h6'; clear h6)
      | (go_at_call 8; refine (awake9_true _ H5.out).mono ?_; rintro e w7 ⟨rfl, hb7⟩))
    go_ret
    exact ⟨rfl, q5.trans (hb7.mono q5.size)⟩
end Go.Proofs.YtlelnjheocbmnaaDoor
