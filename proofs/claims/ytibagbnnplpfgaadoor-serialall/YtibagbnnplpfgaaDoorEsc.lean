/- Escape of charref. -/
import Derived.Test.YtibagbnnplpfgaaDoorRepl
set_option linter.unusedVariables false
namespace Go.Proofs.YtibagbnnplpfgaaDoor
open Go.RowKit M

theorem put_at (r : Int) (E : ByteArray) (hE : Fact (Utf8.encode r = E)) (w : World) : Calls Tryd.prog 51 #[.int .i32 r] w fun e w' => e = .returned (.string E) ∧ w' = w := by
  have h : Calls Tryd.prog 51 #[.int .i32 r] w fun e w' => e = .returned (.string (Utf8.encode r)) ∧ w' = w := by
    go_enter Tryd.func51, Tryd.ntmps51
    go_wp2
    go_ret
    exact ⟨rfl, rfl⟩
  rw [hE.out] at h
  exact h
theorem rep_is (old new : List UInt8) (s : ByteArray) (n : Nat) (ho : old ≠ []) (hn : new.length ≤ 6) (hs : s.size ≤ n) : ∃ T : ByteArray, Fact (repK old new s.data.toList = T.data.toList) ∧ T.size ≤ 6 * n := by
  refine ⟨⟨(repK old new s.data.toList).toArray⟩, ⟨rfl⟩, ?_⟩
  have := repK_len (new := new) ho hn s.data.toList.length s.data.toList (Nat.le_refl _)
  rw [← Lib.size_eq] at this
  rw [Lib.size_eq]
  have e : (⟨(repK old new s.data.toList).toArray⟩ : ByteArray).data.toList = repK old new s.data.toList := rfl
  rw [e]
  omega
theorem enc_sp : Fact (Utf8.encode 160 = ⟨#[194, 160]⟩) := ⟨by kernel_rfl⟩
set_option maxRecDepth 20000 in
set_option maxHeartbeats 2000000 in
theorem escape_any (s : ByteArray) (attr : Bool) (hs : s.size ≤ 20000) (w : World) (hw : Met w) :
    Calls Tryd.prog 45 #[.string s, .bool attr] w fun e w' => e = .returned (.string ⟨(escB attr s.data.toList).toArray⟩) ∧ Below w.heap.size w w' := by
  have HW := Fact.mk hw
  clear hw
  obtain ⟨T1, h1, z1⟩ := rep_is [38] amp s _ (by simp) (by decide) hs
  obtain ⟨T2, h2, z2⟩ := rep_is [194, 160] nbsp T1 _ (by simp) (by decide) z1
  obtain ⟨T3, h3, z3⟩ := rep_is [60] lt' T2 _ (by simp) (by decide) z2
  obtain ⟨T4, h4, z4⟩ := rep_is [62] gt' T3 _ (by simp) (by decide) z3
  obtain ⟨T5, h5, z5⟩ := rep_is [34] quot T4 _ (by simp) (by decide) z4
  have e4 : T4.data.toList = rep1 62 gt' (rep1 60 lt' (rep2 (rep1 38 amp s.data.toList))) := by
    rw [← h4.out, rep1_eq, ← h3.out, rep1_eq, ← h2.out, ← h1.out, rep1_eq]
    rfl
  have tok1 : True := trivial
  have tok2 : True := trivial
  have tok3 : True := trivial
  have tok4 : True := trivial
  cases attr
  · have hfin : Fact (T4 = ⟨(escB false s.data.toList).toArray⟩) := ⟨by
      rw [← escP_eq false _ _ (Nat.le_refl _)]
      exact (ba_eq (by rw [e4]; rfl)).symm⟩
    clear e4
    go_enter Tryd.func45, Tryd.ntmps45
    go_wp2_with (first
      | (go_at_call 51; refine (put_at 160 _ enc_sp _).mono ?_; rintro e w9 ⟨rfl, h9⟩; have h9' := h9.symm; subst h9'; clear h9)
      | (go_at_call 50; have _t := tok1; refine (replaceAll_any s ⟨#[38]⟩ ⟨#[38, 97, 109, 112, 59]⟩ T1 (by omega) (by decide) (by decide) (by decide) h1 _ HW.out).mono ?_; rintro e w1 ⟨rfl, hb1⟩; clear tok1 _t; have H1 := Fact.mk (HW.out.below hb1))
      | (go_at_call 50; have _t := tok2; refine (replaceAll_any T1 ⟨#[194, 160]⟩ ⟨#[38, 110, 98, 115, 112, 59]⟩ T2 (by omega) (by decide) (by decide) (by decide) h2 _ H1.out).mono ?_; rintro e w2 ⟨rfl, hb2⟩; clear tok2 _t; have H2 := Fact.mk (H1.out.below hb2); have q2 := hb1.trans (hb2.mono hb1.size))
      | (go_at_call 50; have _t := tok3; refine (replaceAll_any T2 ⟨#[60]⟩ ⟨#[38, 108, 116, 59]⟩ T3 (by omega) (by decide) (by decide) (by decide) h3 _ H2.out).mono ?_; rintro e w3 ⟨rfl, hb3⟩; clear tok3 _t; have H3 := Fact.mk (H2.out.below hb3); have q3 := q2.trans (hb3.mono q2.size))
      | (go_at_call 50; refine (replaceAll_any T3 ⟨#[62]⟩ ⟨#[38, 103, 116, 59]⟩ T4 (by omega) (by decide) (by decide) (by decide) h4 _ H3.out).mono ?_; rintro e w4 ⟨rfl, hb4⟩; have q4 := q3.trans (hb4.mono q3.size)))
    go_ret
    exact ⟨by rw [← hfin.out]; rfl, q4⟩
  · have hfin : Fact (T5 = ⟨(escB true s.data.toList).toArray⟩) := ⟨by
      rw [← escP_eq true _ _ (Nat.le_refl _)]
      refine (ba_eq ?_).symm
      rw [← h5.out, rep1_eq, e4]
      rfl⟩
    clear e4
    go_enter Tryd.func45, Tryd.ntmps45
    go_wp2_with (first
      | (go_at_call 51; refine (put_at 160 _ enc_sp _).mono ?_; rintro e w9 ⟨rfl, h9⟩; have h9' := h9.symm; subst h9'; clear h9)
      | (go_at_call 50; have _t := tok1; refine (replaceAll_any s ⟨#[38]⟩ ⟨#[38, 97, 109, 112, 59]⟩ T1 (by omega) (by decide) (by decide) (by decide) h1 _ HW.out).mono ?_; rintro e w1 ⟨rfl, hb1⟩; clear tok1 _t; have H1 := Fact.mk (HW.out.below hb1))
      | (go_at_call 50; have _t := tok2; refine (replaceAll_any T1 ⟨#[194, 160]⟩ ⟨#[38, 110, 98, 115, 112, 59]⟩ T2 (by omega) (by decide) (by decide) (by decide) h2 _ H1.out).mono ?_; rintro e w2 ⟨rfl, hb2⟩; clear tok2 _t; have H2 := Fact.mk (H1.out.below hb2); have q2 := hb1.trans (hb2.mono hb1.size))
      | (go_at_call 50; have _t := tok3; refine (replaceAll_any T2 ⟨#[60]⟩ ⟨#[38, 108, 116, 59]⟩ T3 (by omega) (by decide) (by decide) (by decide) h3 _ H2.out).mono ?_; rintro e w3 ⟨rfl, hb3⟩; clear tok3 _t; have H3 := Fact.mk (H2.out.below hb3); have q3 := q2.trans (hb3.mono q2.size))
      | (go_at_call 50; have _t := tok4; refine (replaceAll_any T3 ⟨#[62]⟩ ⟨#[38, 103, 116, 59]⟩ T4 (by omega) (by decide) (by decide) (by decide) h4 _ H3.out).mono ?_; rintro e w4 ⟨rfl, hb4⟩; clear tok4 _t; have H4 := Fact.mk (H3.out.below hb4); have q4 := q3.trans (hb4.mono q3.size))
      | (go_at_call 50; refine (replaceAll_any T4 ⟨#[34]⟩ ⟨#[38, 113, 117, 111, 116, 59]⟩ T5 (by omega) (by decide) (by decide) (by decide) h5 _ H4.out).mono ?_; rintro e w5 ⟨rfl, hb5⟩; have q5 := q4.trans (hb5.mono q4.size)))
    go_ret
    exact ⟨by rw [← hfin.out]; rfl, q5⟩
theorem escape_at (s T : ByteArray) (attr : Bool) (hs : s.size ≤ 20000) (hT : Fact (escB attr s.data.toList = T.data.toList)) (w : World) (hw : Met w) :
    Calls Tryd.prog 45 #[.string s, .bool attr] w fun e w' => e = .returned (.string T) ∧ Below w.heap.size w w' := by
  have := escape_any s attr hs w hw
  rw [hT.out] at this
  exact this
end Go.Proofs.YtibagbnnplpfgaaDoor
