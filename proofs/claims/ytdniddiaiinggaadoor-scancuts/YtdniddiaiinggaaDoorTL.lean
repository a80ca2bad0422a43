/- opened: what it answers. -/
import Derived.Test.YtdniddiaiinggaaDoorTK
set_option linter.unusedVariables false
namespace Go.Proofs.YtdniddiaiinggaaDoor
open Go.RowKit M

/-- what is up to a greater sign, from a place on -/
def BogR (l : List UInt8) (k : Nat) (t : Tk) (E : Nat) (ok : Bool) : Prop := t.Is 4 [] (sub l k (spE (fun x => x != 62) l k)) [] false ∧ E = min (spE (fun x => x != 62) l k + 1) l.length ∧ ok = true
/-- what stands at a sign of a tag -/
def OpR (l : List UInt8) (k : Nat) (t : Tk) (E : Nat) (ok : Bool) : Prop :=
  if ltrAt l (k + 1) = true then TagR l (k + 1) 1 t E ok
  else if ([60, 47].isPrefixOf (l.drop k) && ltrAt l (k + 2)) = true then TagR l (k + 2) 2 t E ok
  else if [60, 47, 62].isPrefixOf (l.drop k) = true then t.Is 0 [] [] [] false ∧ E = k + 3 ∧ ok = false
  else if [60, 33, 45, 45].isPrefixOf (l.drop k) = true then ∃ T, CmT l (k + 4) T E ∧ t.Is 4 [] T [] false ∧ ok = true
  else if [60, 33, 100, 111, 99, 116, 121, 112, 101].isPrefixOf (lwL (l.drop k)) = true then t.Is 5 (dcN l (k + 9)) [] [] false ∧ E = dcE l (k + 9) ∧ ok = true
  else if ([60, 33].isPrefixOf (l.drop k) || ([60, 47].isPrefixOf (l.drop k) && !(l.drop k == [60, 47]))) = true then BogR l (k + 2) t E ok
  else if [60, 63].isPrefixOf (l.drop k) = true then BogR l (k + 1) t E ok
  else t.Is 3 [] [60] [] false ∧ E = k + 1 ∧ ok = true
theorem pre_room {p : List UInt8} {s : ByteArray} {k : Nat} (h : p.isPrefixOf (s.data.toList.drop k) = true) (hk : k ≤ s.size) : k + p.length ≤ s.size := by
  have := pre_len h
  rw [List.length_drop, ← Lib.size_eq] at this
  omega
theorem pre_room2 {p : List UInt8} {s : ByteArray} {k : Nat} (h : p.isPrefixOf (lwL (s.data.toList.drop k)) = true) (hk : k ≤ s.size) : k + p.length ≤ s.size := by
  have := pre_len h
  rw [lwL_len, List.length_drop, ← Lib.size_eq] at this
  omega
/-- what opened asks of the text behind -/
structure OpF (l : List UInt8) (k : Nat) (L1 P1 L2 P2 P3 D P4 Q5 P6 : Bool) : Prop where
  l1 : ltrAt l (k + 1) = L1
  p1 : [60, 47].isPrefixOf (l.drop k) = P1
  l2 : ltrAt l (k + 2) = L2
  p2 : [60, 47, 62].isPrefixOf (l.drop k) = P2
  p3 : [60, 33, 45, 45].isPrefixOf (l.drop k) = P3
  d : [60, 33, 100, 111, 99, 116, 121, 112, 101].isPrefixOf (lwL (l.drop k)) = D
  p4 : [60, 33].isPrefixOf (l.drop k) = P4
  q5 : (l.drop k == [60, 47]) = Q5
  p6 : [60, 63].isPrefixOf (l.drop k) = P6
theorem OpF.op {l : List UInt8} {k : Nat} {L1 P1 L2 P2 P3 D P4 Q5 P6 : Bool} (h : OpF l k L1 P1 L2 P2 P3 D P4 Q5 P6) {t : Tk} {E : Nat} {ok : Bool}
    (hh : if L1 = true then TagR l (k + 1) 1 t E ok
      else if (P1 && L2) = true then TagR l (k + 2) 2 t E ok
      else if P2 = true then t.Is 0 [] [] [] false ∧ E = k + 3 ∧ ok = false
      else if P3 = true then ∃ T, CmT l (k + 4) T E ∧ t.Is 4 [] T [] false ∧ ok = true
      else if D = true then t.Is 5 (dcN l (k + 9)) [] [] false ∧ E = dcE l (k + 9) ∧ ok = true
      else if (P4 || (P1 && !Q5)) = true then BogR l (k + 2) t E ok
      else if P6 = true then BogR l (k + 1) t E ok
      else t.Is 3 [] [60] [] false ∧ E = k + 1 ∧ ok = true) : OpR l k t E ok := by
  obtain ⟨rfl, rfl, rfl, rfl, rfl, rfl, rfl, rfl, rfl⟩ := h
  exact hh
theorem TokOut.drew {w w' : World} {t : Tk} {E : Nat} {ok : Bool} {e : Ending} (h : TokOut w t E ok e w') : TokOut w t E ok e w'.drew := by
  obtain ⟨v, h1, h2, h3⟩ := h
  exact ⟨v, h1, h2, h3.drew⟩
theorem call_tag (s : ByteArray) (a : Int) (k : Nat) (kd : Int) (ha : a = k) (hs : IsSm s.size) (hk : k ≤ s.size) (w : World) (hl : Laid w) :
    Calls Tryd.prog 58 #[.string s, .int .i64 a, .int .i64 kd] w fun e w' => ∃ (t : Tk) (E : Nat) (ok : Bool), TagR s.data.toList k kd t E ok ∧ TokOut w t E ok e w' := by
  subst ha
  exact tag_out s k kd hs hk w hl
theorem call_comment (s : ByteArray) (a : Int) (k : Nat) (ha : a = k) (hs : IsSm s.size) (hk : k ≤ s.size) (w : World) :
    Calls Tryd.prog 60 #[.string s, .int .i64 a] w fun e w' => ∃ (T : ByteArray) (E : Nat), CmT s.data.toList k T.data.toList E ∧ TokOut w ⟨4, ⟨#[]⟩, T, [], false⟩ E true e w' := by
  subst ha
  exact comment_any s k hs hk w
theorem call_doctype (s : ByteArray) (a : Int) (k : Nat) (ha : a = k) (hs : IsSm s.size) (hk : k ≤ s.size) (w : World) :
    Calls Tryd.prog 61 #[.string s, .int .i64 a] w fun e w' => ∃ (N : ByteArray) (E : Nat), (dcN s.data.toList k = N.data.toList ∧ dcE s.data.toList k = E) ∧ TokOut w ⟨5, N, ⟨#[]⟩, [], false⟩ E true e w' := by
  subst ha
  refine (doctype_any s (tx (dcN s.data.toList k)) k _ hs hk ⟨rfl⟩ ⟨rfl⟩ w).mono fun e w' h => ?_
  exact ⟨_, _, ⟨rfl, rfl⟩, h⟩
set_option maxRecDepth 20000 in
set_option maxHeartbeats 4000000 in
theorem opened_w1 (s : ByteArray) (k : Nat) (hs : IsSm s.size) (hk : k < s.size) (P1 L2 P2 P3 D P4 Q5 P6 : Bool) (HF : OpF s.data.toList k true P1 L2 P2 P3 D P4 Q5 P6) (w : World) (hl : Laid w) :
    Calls Tryd.prog 43 #[.string s, .int .i64 k] w fun e w' => ∃ (t : Tk) (E : Nat) (ok : Bool), OpR s.data.toList k t E ok ∧ TokOut w t E ok e w' := by
  have HL := Fact.mk hl
  clear hl
  have hsz := hs.le
  have h0 : (0 : Int) ≤ k := by omega
  have h1 : (k : Int) ≤ s.size := by omega
  obtain ⟨R, hR⟩ : ∃ R : ByteArray, s.extract k s.size = R := ⟨_, rfl⟩
  have hRd : R.data.toList = s.data.toList.drop k := by rw [← hR]; exact drop_data s k
  have hRm : IsSm R.size := by rw [← hR]; exact sub_sm s _ _ hs
  have fl1 := Fact.mk HF.l1
  have fl2 := Fact.mk HF.l2
  have fp1 : Fact ((⟨#[60, 47]⟩ : ByteArray).data.toList.isPrefixOf R.data.toList = P1) := ⟨by rw [hRd]; exact HF.p1⟩
  have fp2 : Fact ((⟨#[60, 47, 62]⟩ : ByteArray).data.toList.isPrefixOf R.data.toList = P2) := ⟨by rw [hRd]; exact HF.p2⟩
  have fp3 : Fact ((⟨#[60, 33, 45, 45]⟩ : ByteArray).data.toList.isPrefixOf R.data.toList = P3) := ⟨by rw [hRd]; exact HF.p3⟩
  have fd : Fact ((⟨#[60, 33, 100, 111, 99, 116, 121, 112, 101]⟩ : ByteArray).data.toList.isPrefixOf (lwL R.data.toList) = D) := ⟨by rw [hRd]; exact HF.d⟩
  have fp4 : Fact ((⟨#[60, 33]⟩ : ByteArray).data.toList.isPrefixOf R.data.toList = P4) := ⟨by rw [hRd]; exact HF.p4⟩
  have fq5 : (R.toList == [60, 47]) = Q5 := by rw [Lib.toList_data, hRd]; exact HF.q5
  have fp6 : Fact ((⟨#[60, 63]⟩ : ByteArray).data.toList.isPrefixOf R.data.toList = P6) := ⟨by rw [hRd]; exact HF.p6⟩
  have hw1 : wrap64 ((k : Int) + 1) = (k : Int) + 1 := wrap_ok (m := k + 1) rfl ⟨by omega⟩
  have hw11 : wrap64 ((k : Int) + 1 + 1) = (k : Int) + 1 + 1 := wrap_ok (m := k + 2) (by push_cast; omega) ⟨by omega⟩
  have hw2 : wrap64 ((k : Int) + 2) = (k : Int) + 2 := wrap_ok (m := k + 2) rfl ⟨by omega⟩
  have hw3 : wrap64 ((k : Int) + 3) = (k : Int) + 3 := wrap_ok (m := k + 3) rfl ⟨by omega⟩
  have hw4 : wrap64 ((k : Int) + 4) = (k : Int) + 4 := wrap_ok (m := k + 4) rfl ⟨by omega⟩
  have hw9 : wrap64 ((k : Int) + 9) = (k : Int) + 9 := wrap_ok (m := k + 9) rfl ⟨by omega⟩
  have tokA : True := trivial
  have tokB : True := trivial
  have tokC : True := trivial
  have tokD : True := trivial
  have tokE : True := trivial
  have tokF : True := trivial
  have HFF := Fact.mk HF
  clear HF hRd
  have hroom : k + 1 ≤ s.size := hk
  go_enter Tryd.func43, Tryd.ntmps43
  go_wp2_with (first
    | (have _t := tokA; go_at_call 57; refine (letterAt_at s _ (k + 1) (by first | rfl | omega) _ fl1 _).mono ?_; rintro e w1 ⟨rfl, rfl⟩; clear tokA _t)
    | (have _t := tokB; go_at_call 59; refine (prefix_any R ⟨#[60, 47]⟩ _ fp1 _).mono ?_; rintro e w1 ⟨rfl, rfl⟩; clear tokB _t)
    | (go_at_call 57; refine (letterAt_at s _ (k + 2) (by first | rfl | omega) _ fl2 _).mono ?_; rintro e w1 ⟨rfl, rfl⟩)
    | (have _t := tokC; go_at_call 59; refine (prefix_any R ⟨#[60, 47, 62]⟩ _ fp2 _).mono ?_; rintro e w1 ⟨rfl, rfl⟩; clear tokC _t)
    | (have _t := tokD; go_at_call 59; refine (prefix_any R ⟨#[60, 33, 45, 45]⟩ _ fp3 _).mono ?_; rintro e w1 ⟨rfl, rfl⟩; clear tokD _t)
    | (go_at_call 55; refine (begins_any R ⟨#[60, 33, 100, 111, 99, 116, 121, 112, 101]⟩ _ fd hRm _).mono ?_; rintro e w3 ⟨rfl, hb3⟩; have F3 := Fact.mk ((Five.new w _ _ _ _ _ _).keep hb3); have HB3 := Fact.mk ((bl1 w _).trans (hb3.mono (bl1 w _).size)); obtain ⟨c0, c1, c2, c3, c4, fz⟩ := F3.out; clear hb3)
    | (have _t := tokE; go_at_call 59; refine (prefix_any R ⟨#[60, 33]⟩ _ fp4 _).mono ?_; rintro e w1 ⟨rfl, rfl⟩; clear tokE _t)
    | (have _t := tokF; go_at_call 59; refine (prefix_any R ⟨#[60, 47]⟩ _ fp1 _).mono ?_; rintro e w1 ⟨rfl, rfl⟩; clear tokF _t)
    | (go_at_call 59; refine (prefix_any R ⟨#[60, 63]⟩ _ fp6 _).mono ?_; rintro e w1 ⟨rfl, rfl⟩)
    | (go_at_call 58; refine (call_tag s _ (k + 1) 1 (by first | rfl | omega) hs hroom _ (HL.out.since (bl1 w _))).mono ?_; rintro e w2 ⟨⟨kd, N, X, AA, r⟩, E, ok, hTR, v, rfl, hrow, hb2⟩; have HTR := Fact.mk hTR; have F5 := Fact.mk ((Five.new w _ _ _ _ _ _).keep hb2); have HB := Fact.mk ((bl1 w _).trans (hb2.mono (bl1 w _).size)); obtain ⟨c0, c1, c2, c3, c4, fz⟩ := F5.out; have hv : ∃ a n cap, v = .slice a n cap := (by rcases hrow.2 with ⟨rfl, _⟩ | ⟨g, cap, cur, rfl, _⟩ <;> exact ⟨_, _, _, rfl⟩); obtain ⟨va, vn, vc, rfl⟩ := hv; have HRW := Fact.mk hrow; clear hb2 hTR hrow))
  refine bodyPost_ret (results_tk 4 5 6 rfl rfl rfl rfl (F5.out.put (.int .i64 kd) (.string N) (.string X) (.slice va vn vc) (.bool r))) rfl ?_
  exact ⟨⟨kd, N, X, AA, r⟩, E, ok, HFF.out.op HTR.out, tok_end ⟨kd, N, X, AA, r⟩ E ok (.slice va vn vc) F5.out HB.out (by simp) HRW.out⟩
set_option maxRecDepth 20000 in
set_option maxHeartbeats 4000000 in
theorem opened_w2 (s : ByteArray) (k : Nat) (hs : IsSm s.size) (hk : k < s.size) (P2 P3 D P4 Q5 P6 : Bool) (HF : OpF s.data.toList k false true true P2 P3 D P4 Q5 P6) (w : World) (hl : Laid w) :
    Calls Tryd.prog 43 #[.string s, .int .i64 k] w fun e w' => ∃ (t : Tk) (E : Nat) (ok : Bool), OpR s.data.toList k t E ok ∧ TokOut w t E ok e w' := by
  have HL := Fact.mk hl
  clear hl
  have hsz := hs.le
  have h0 : (0 : Int) ≤ k := by omega
  have h1 : (k : Int) ≤ s.size := by omega
  obtain ⟨R, hR⟩ : ∃ R : ByteArray, s.extract k s.size = R := ⟨_, rfl⟩
  have hRd : R.data.toList = s.data.toList.drop k := by rw [← hR]; exact drop_data s k
  have hRm : IsSm R.size := by rw [← hR]; exact sub_sm s _ _ hs
  have fl1 := Fact.mk HF.l1
  have fl2 := Fact.mk HF.l2
  have fp1 : Fact ((⟨#[60, 47]⟩ : ByteArray).data.toList.isPrefixOf R.data.toList = true) := ⟨by rw [hRd]; exact HF.p1⟩
  have fp2 : Fact ((⟨#[60, 47, 62]⟩ : ByteArray).data.toList.isPrefixOf R.data.toList = P2) := ⟨by rw [hRd]; exact HF.p2⟩
  have fp3 : Fact ((⟨#[60, 33, 45, 45]⟩ : ByteArray).data.toList.isPrefixOf R.data.toList = P3) := ⟨by rw [hRd]; exact HF.p3⟩
  have fd : Fact ((⟨#[60, 33, 100, 111, 99, 116, 121, 112, 101]⟩ : ByteArray).data.toList.isPrefixOf (lwL R.data.toList) = D) := ⟨by rw [hRd]; exact HF.d⟩
  have fp4 : Fact ((⟨#[60, 33]⟩ : ByteArray).data.toList.isPrefixOf R.data.toList = P4) := ⟨by rw [hRd]; exact HF.p4⟩
  have fq5 : (R.toList == [60, 47]) = Q5 := by rw [Lib.toList_data, hRd]; exact HF.q5
  have fp6 : Fact ((⟨#[60, 63]⟩ : ByteArray).data.toList.isPrefixOf R.data.toList = P6) := ⟨by rw [hRd]; exact HF.p6⟩
  have hw1 : wrap64 ((k : Int) + 1) = (k : Int) + 1 := wrap_ok (m := k + 1) rfl ⟨by omega⟩
  have hw11 : wrap64 ((k : Int) + 1 + 1) = (k : Int) + 1 + 1 := wrap_ok (m := k + 2) (by push_cast; omega) ⟨by omega⟩
  have hw2 : wrap64 ((k : Int) + 2) = (k : Int) + 2 := wrap_ok (m := k + 2) rfl ⟨by omega⟩
  have hw3 : wrap64 ((k : Int) + 3) = (k : Int) + 3 := wrap_ok (m := k + 3) rfl ⟨by omega⟩
  have hw4 : wrap64 ((k : Int) + 4) = (k : Int) + 4 := wrap_ok (m := k + 4) rfl ⟨by omega⟩
  have hw9 : wrap64 ((k : Int) + 9) = (k : Int) + 9 := wrap_ok (m := k + 9) rfl ⟨by omega⟩
  have tokA : True := trivial
  have tokB : True := trivial
  have tokC : True := trivial
  have tokD : True := trivial
  have tokE : True := trivial
  have tokF : True := trivial
  have HFF := Fact.mk HF
  clear HF hRd
  have hroom : k + 2 ≤ s.size := pre_room HFF.out.p1 (Nat.le_of_lt hk)
  go_enter Tryd.func43, Tryd.ntmps43
  go_wp2_with (first
    | (have _t := tokA; go_at_call 57; refine (letterAt_at s _ (k + 1) (by first | rfl | omega) _ fl1 _).mono ?_; rintro e w1 ⟨rfl, rfl⟩; clear tokA _t)
    | (have _t := tokB; go_at_call 59; refine (prefix_any R ⟨#[60, 47]⟩ _ fp1 _).mono ?_; rintro e w1 ⟨rfl, rfl⟩; clear tokB _t)
    | (go_at_call 57; refine (letterAt_at s _ (k + 2) (by first | rfl | omega) _ fl2 _).mono ?_; rintro e w1 ⟨rfl, rfl⟩)
    | (have _t := tokC; go_at_call 59; refine (prefix_any R ⟨#[60, 47, 62]⟩ _ fp2 _).mono ?_; rintro e w1 ⟨rfl, rfl⟩; clear tokC _t)
    | (have _t := tokD; go_at_call 59; refine (prefix_any R ⟨#[60, 33, 45, 45]⟩ _ fp3 _).mono ?_; rintro e w1 ⟨rfl, rfl⟩; clear tokD _t)
    | (go_at_call 55; refine (begins_any R ⟨#[60, 33, 100, 111, 99, 116, 121, 112, 101]⟩ _ fd hRm _).mono ?_; rintro e w3 ⟨rfl, hb3⟩; have F3 := Fact.mk ((Five.new w _ _ _ _ _ _).keep hb3); have HB3 := Fact.mk ((bl1 w _).trans (hb3.mono (bl1 w _).size)); obtain ⟨c0, c1, c2, c3, c4, fz⟩ := F3.out; clear hb3)
    | (have _t := tokE; go_at_call 59; refine (prefix_any R ⟨#[60, 33]⟩ _ fp4 _).mono ?_; rintro e w1 ⟨rfl, rfl⟩; clear tokE _t)
    | (have _t := tokF; go_at_call 59; refine (prefix_any R ⟨#[60, 47]⟩ _ fp1 _).mono ?_; rintro e w1 ⟨rfl, rfl⟩; clear tokF _t)
    | (go_at_call 59; refine (prefix_any R ⟨#[60, 63]⟩ _ fp6 _).mono ?_; rintro e w1 ⟨rfl, rfl⟩)
    | (go_at_call 58; refine (call_tag s _ (k + 2) 2 (by first | rfl | omega) hs hroom _ (HL.out.since (bl1 w _))).mono ?_; rintro e w2 ⟨⟨kd, N, X, AA, r⟩, E, ok, hTR, v, rfl, hrow, hb2⟩; have HTR := Fact.mk hTR; have F5 := Fact.mk ((Five.new w _ _ _ _ _ _).keep hb2); have HB := Fact.mk ((bl1 w _).trans (hb2.mono (bl1 w _).size)); obtain ⟨c0, c1, c2, c3, c4, fz⟩ := F5.out; have hv : ∃ a n cap, v = .slice a n cap := (by rcases hrow.2 with ⟨rfl, _⟩ | ⟨g, cap, cur, rfl, _⟩ <;> exact ⟨_, _, _, rfl⟩); obtain ⟨va, vn, vc, rfl⟩ := hv; have HRW := Fact.mk hrow; clear hb2 hTR hrow))
  refine bodyPost_ret (results_tk 4 5 6 rfl rfl rfl rfl (F5.out.put (.int .i64 kd) (.string N) (.string X) (.slice va vn vc) (.bool r))) rfl ?_
  exact ⟨⟨kd, N, X, AA, r⟩, E, ok, HFF.out.op HTR.out, tok_end ⟨kd, N, X, AA, r⟩ E ok (.slice va vn vc) F5.out HB.out (by simp) HRW.out⟩
set_option maxRecDepth 20000 in
set_option maxHeartbeats 4000000 in
theorem opened_w3a (s : ByteArray) (k : Nat) (hs : IsSm s.size) (hk : k < s.size) (L2 P3 D P4 Q5 P6 : Bool) (HF : OpF s.data.toList k false false L2 true P3 D P4 Q5 P6) (w : World) (hl : Laid w) :
    Calls Tryd.prog 43 #[.string s, .int .i64 k] w fun e w' => ∃ (t : Tk) (E : Nat) (ok : Bool), OpR s.data.toList k t E ok ∧ TokOut w t E ok e w' := by
  have HL := Fact.mk hl
  clear hl
  have hsz := hs.le
  have h0 : (0 : Int) ≤ k := by omega
  have h1 : (k : Int) ≤ s.size := by omega
  obtain ⟨R, hR⟩ : ∃ R : ByteArray, s.extract k s.size = R := ⟨_, rfl⟩
  have hRd : R.data.toList = s.data.toList.drop k := by rw [← hR]; exact drop_data s k
  have hRm : IsSm R.size := by rw [← hR]; exact sub_sm s _ _ hs
  have fl1 := Fact.mk HF.l1
  have fl2 := Fact.mk HF.l2
  have fp1 : Fact ((⟨#[60, 47]⟩ : ByteArray).data.toList.isPrefixOf R.data.toList = false) := ⟨by rw [hRd]; exact HF.p1⟩
  have fp2 : Fact ((⟨#[60, 47, 62]⟩ : ByteArray).data.toList.isPrefixOf R.data.toList = true) := ⟨by rw [hRd]; exact HF.p2⟩
  have fp3 : Fact ((⟨#[60, 33, 45, 45]⟩ : ByteArray).data.toList.isPrefixOf R.data.toList = P3) := ⟨by rw [hRd]; exact HF.p3⟩
  have fd : Fact ((⟨#[60, 33, 100, 111, 99, 116, 121, 112, 101]⟩ : ByteArray).data.toList.isPrefixOf (lwL R.data.toList) = D) := ⟨by rw [hRd]; exact HF.d⟩
  have fp4 : Fact ((⟨#[60, 33]⟩ : ByteArray).data.toList.isPrefixOf R.data.toList = P4) := ⟨by rw [hRd]; exact HF.p4⟩
  have fq5 : (R.toList == [60, 47]) = Q5 := by rw [Lib.toList_data, hRd]; exact HF.q5
  have fp6 : Fact ((⟨#[60, 63]⟩ : ByteArray).data.toList.isPrefixOf R.data.toList = P6) := ⟨by rw [hRd]; exact HF.p6⟩
  have hw1 : wrap64 ((k : Int) + 1) = (k : Int) + 1 := wrap_ok (m := k + 1) rfl ⟨by omega⟩
  have hw11 : wrap64 ((k : Int) + 1 + 1) = (k : Int) + 1 + 1 := wrap_ok (m := k + 2) (by push_cast; omega) ⟨by omega⟩
  have hw2 : wrap64 ((k : Int) + 2) = (k : Int) + 2 := wrap_ok (m := k + 2) rfl ⟨by omega⟩
  have hw3 : wrap64 ((k : Int) + 3) = (k : Int) + 3 := wrap_ok (m := k + 3) rfl ⟨by omega⟩
  have hw4 : wrap64 ((k : Int) + 4) = (k : Int) + 4 := wrap_ok (m := k + 4) rfl ⟨by omega⟩
  have hw9 : wrap64 ((k : Int) + 9) = (k : Int) + 9 := wrap_ok (m := k + 9) rfl ⟨by omega⟩
  have tokA : True := trivial
  have tokB : True := trivial
  have tokC : True := trivial
  have tokD : True := trivial
  have tokE : True := trivial
  have tokF : True := trivial
  have HFF := Fact.mk HF
  clear HF hRd
  go_enter Tryd.func43, Tryd.ntmps43
  go_wp2_with (first
    | (have _t := tokA; go_at_call 57; refine (letterAt_at s _ (k + 1) (by first | rfl | omega) _ fl1 _).mono ?_; rintro e w1 ⟨rfl, rfl⟩; clear tokA _t)
    | (have _t := tokB; go_at_call 59; refine (prefix_any R ⟨#[60, 47]⟩ _ fp1 _).mono ?_; rintro e w1 ⟨rfl, rfl⟩; clear tokB _t)
    | (go_at_call 57; refine (letterAt_at s _ (k + 2) (by first | rfl | omega) _ fl2 _).mono ?_; rintro e w1 ⟨rfl, rfl⟩)
    | (have _t := tokC; go_at_call 59; refine (prefix_any R ⟨#[60, 47, 62]⟩ _ fp2 _).mono ?_; rintro e w1 ⟨rfl, rfl⟩; clear tokC _t)
    | (have _t := tokD; go_at_call 59; refine (prefix_any R ⟨#[60, 33, 45, 45]⟩ _ fp3 _).mono ?_; rintro e w1 ⟨rfl, rfl⟩; clear tokD _t)
    | (go_at_call 55; refine (begins_any R ⟨#[60, 33, 100, 111, 99, 116, 121, 112, 101]⟩ _ fd hRm _).mono ?_; rintro e w3 ⟨rfl, hb3⟩; have F3 := Fact.mk ((Five.new w _ _ _ _ _ _).keep hb3); have HB3 := Fact.mk ((bl1 w _).trans (hb3.mono (bl1 w _).size)); obtain ⟨c0, c1, c2, c3, c4, fz⟩ := F3.out; clear hb3)
    | (have _t := tokE; go_at_call 59; refine (prefix_any R ⟨#[60, 33]⟩ _ fp4 _).mono ?_; rintro e w1 ⟨rfl, rfl⟩; clear tokE _t)
    | (have _t := tokF; go_at_call 59; refine (prefix_any R ⟨#[60, 47]⟩ _ fp1 _).mono ?_; rintro e w1 ⟨rfl, rfl⟩; clear tokF _t)
    | (go_at_call 59; refine (prefix_any R ⟨#[60, 63]⟩ _ fp6 _).mono ?_; rintro e w1 ⟨rfl, rfl⟩))
  refine bodyPost_ret (v := .tuple #[tokV 0 ⟨#[]⟩ ⟨#[]⟩ (.slice none 0 0) false, .int .i64 ((k + 3 : Nat) : Int), .bool false]) (by simp [results, Tryd.f43, go_sem]) rfl ?_
  exact ⟨⟨0, ⟨#[]⟩, ⟨#[]⟩, [], false⟩, k + 3, false, HFF.out.op ⟨⟨rfl, rfl, rfl, rfl, rfl⟩, rfl, rfl⟩, .slice none 0 0, rfl, no_row _ _, bl1 w _⟩
set_option maxRecDepth 20000 in
set_option maxHeartbeats 4000000 in
theorem opened_w4a (s : ByteArray) (k : Nat) (hs : IsSm s.size) (hk : k < s.size) (L2 D P4 Q5 P6 : Bool) (HF : OpF s.data.toList k false false L2 false true D P4 Q5 P6) (w : World) (hl : Laid w) :
    Calls Tryd.prog 43 #[.string s, .int .i64 k] w fun e w' => ∃ (t : Tk) (E : Nat) (ok : Bool), OpR s.data.toList k t E ok ∧ TokOut w t E ok e w' := by
  have HL := Fact.mk hl
  clear hl
  have hsz := hs.le
  have h0 : (0 : Int) ≤ k := by omega
  have h1 : (k : Int) ≤ s.size := by omega
  obtain ⟨R, hR⟩ : ∃ R : ByteArray, s.extract k s.size = R := ⟨_, rfl⟩
  have hRd : R.data.toList = s.data.toList.drop k := by rw [← hR]; exact drop_data s k
  have hRm : IsSm R.size := by rw [← hR]; exact sub_sm s _ _ hs
  have fl1 := Fact.mk HF.l1
  have fl2 := Fact.mk HF.l2
  have fp1 : Fact ((⟨#[60, 47]⟩ : ByteArray).data.toList.isPrefixOf R.data.toList = false) := ⟨by rw [hRd]; exact HF.p1⟩
  have fp2 : Fact ((⟨#[60, 47, 62]⟩ : ByteArray).data.toList.isPrefixOf R.data.toList = false) := ⟨by rw [hRd]; exact HF.p2⟩
  have fp3 : Fact ((⟨#[60, 33, 45, 45]⟩ : ByteArray).data.toList.isPrefixOf R.data.toList = true) := ⟨by rw [hRd]; exact HF.p3⟩
  have fd : Fact ((⟨#[60, 33, 100, 111, 99, 116, 121, 112, 101]⟩ : ByteArray).data.toList.isPrefixOf (lwL R.data.toList) = D) := ⟨by rw [hRd]; exact HF.d⟩
  have fp4 : Fact ((⟨#[60, 33]⟩ : ByteArray).data.toList.isPrefixOf R.data.toList = P4) := ⟨by rw [hRd]; exact HF.p4⟩
  have fq5 : (R.toList == [60, 47]) = Q5 := by rw [Lib.toList_data, hRd]; exact HF.q5
  have fp6 : Fact ((⟨#[60, 63]⟩ : ByteArray).data.toList.isPrefixOf R.data.toList = P6) := ⟨by rw [hRd]; exact HF.p6⟩
  have hw1 : wrap64 ((k : Int) + 1) = (k : Int) + 1 := wrap_ok (m := k + 1) rfl ⟨by omega⟩
  have hw11 : wrap64 ((k : Int) + 1 + 1) = (k : Int) + 1 + 1 := wrap_ok (m := k + 2) (by push_cast; omega) ⟨by omega⟩
  have hw2 : wrap64 ((k : Int) + 2) = (k : Int) + 2 := wrap_ok (m := k + 2) rfl ⟨by omega⟩
  have hw3 : wrap64 ((k : Int) + 3) = (k : Int) + 3 := wrap_ok (m := k + 3) rfl ⟨by omega⟩
  have hw4 : wrap64 ((k : Int) + 4) = (k : Int) + 4 := wrap_ok (m := k + 4) rfl ⟨by omega⟩
  have hw9 : wrap64 ((k : Int) + 9) = (k : Int) + 9 := wrap_ok (m := k + 9) rfl ⟨by omega⟩
  have tokA : True := trivial
  have tokB : True := trivial
  have tokC : True := trivial
  have tokD : True := trivial
  have tokE : True := trivial
  have tokF : True := trivial
  have HFF := Fact.mk HF
  clear HF hRd
  have hroom : k + 4 ≤ s.size := pre_room HFF.out.p3 (Nat.le_of_lt hk)
  go_enter Tryd.func43, Tryd.ntmps43
  go_wp2_with (first
    | (have _t := tokA; go_at_call 57; refine (letterAt_at s _ (k + 1) (by first | rfl | omega) _ fl1 _).mono ?_; rintro e w1 ⟨rfl, rfl⟩; clear tokA _t)
    | (have _t := tokB; go_at_call 59; refine (prefix_any R ⟨#[60, 47]⟩ _ fp1 _).mono ?_; rintro e w1 ⟨rfl, rfl⟩; clear tokB _t)
    | (go_at_call 57; refine (letterAt_at s _ (k + 2) (by first | rfl | omega) _ fl2 _).mono ?_; rintro e w1 ⟨rfl, rfl⟩)
    | (have _t := tokC; go_at_call 59; refine (prefix_any R ⟨#[60, 47, 62]⟩ _ fp2 _).mono ?_; rintro e w1 ⟨rfl, rfl⟩; clear tokC _t)
    | (have _t := tokD; go_at_call 59; refine (prefix_any R ⟨#[60, 33, 45, 45]⟩ _ fp3 _).mono ?_; rintro e w1 ⟨rfl, rfl⟩; clear tokD _t)
    | (go_at_call 55; refine (begins_any R ⟨#[60, 33, 100, 111, 99, 116, 121, 112, 101]⟩ _ fd hRm _).mono ?_; rintro e w3 ⟨rfl, hb3⟩; have F3 := Fact.mk ((Five.new w _ _ _ _ _ _).keep hb3); have HB3 := Fact.mk ((bl1 w _).trans (hb3.mono (bl1 w _).size)); obtain ⟨c0, c1, c2, c3, c4, fz⟩ := F3.out; clear hb3)
    | (have _t := tokE; go_at_call 59; refine (prefix_any R ⟨#[60, 33]⟩ _ fp4 _).mono ?_; rintro e w1 ⟨rfl, rfl⟩; clear tokE _t)
    | (have _t := tokF; go_at_call 59; refine (prefix_any R ⟨#[60, 47]⟩ _ fp1 _).mono ?_; rintro e w1 ⟨rfl, rfl⟩; clear tokF _t)
    | (go_at_call 59; refine (prefix_any R ⟨#[60, 63]⟩ _ fp6 _).mono ?_; rintro e w1 ⟨rfl, rfl⟩)
    | (go_at_call 60; refine (call_comment s _ (k + 4) (by first | rfl | omega) hs hroom _).mono ?_; rintro e w2 ⟨T, E, hC, v, rfl, hrow, hb2⟩; have HC := Fact.mk hC; have F5 := Fact.mk ((Five.new w _ _ _ _ _ _).keep hb2); have HB := Fact.mk ((bl1 w _).trans (hb2.mono (bl1 w _).size)); obtain ⟨c0, c1, c2, c3, c4, fz⟩ := F5.out; have hv : ∃ a n cap, v = .slice a n cap := (by rcases hrow.2 with ⟨rfl, _⟩ | ⟨g, cap, cur, rfl, _⟩ <;> exact ⟨_, _, _, rfl⟩); obtain ⟨va, vn, vc, rfl⟩ := hv; have HRW := Fact.mk hrow; clear hb2 hC hrow))
  refine bodyPost_ret (results_tk 4 5 6 rfl rfl rfl rfl (F5.out.put (.int .i64 4) (.string ⟨#[]⟩) (.string T) (.slice va vn vc) (.bool false))) rfl ?_
  exact ⟨⟨4, ⟨#[]⟩, T, [], false⟩, E, true, HFF.out.op ⟨_, HC.out, ⟨rfl, rfl, rfl, rfl, rfl⟩, rfl⟩, tok_end ⟨4, ⟨#[]⟩, T, [], false⟩ E true (.slice va vn vc) F5.out HB.out (by simp) HRW.out⟩
set_option maxRecDepth 20000 in
set_option maxHeartbeats 4000000 in
theorem opened_w5a (s : ByteArray) (k : Nat) (hs : IsSm s.size) (hk : k < s.size) (L2 P4 Q5 P6 : Bool) (HF : OpF s.data.toList k false false L2 false false true P4 Q5 P6) (w : World) (hl : Laid w) :
    Calls Tryd.prog 43 #[.string s, .int .i64 k] w fun e w' => ∃ (t : Tk) (E : Nat) (ok : Bool), OpR s.data.toList k t E ok ∧ TokOut w t E ok e w' := by
  have HL := Fact.mk hl
  clear hl
  have hsz := hs.le
  have h0 : (0 : Int) ≤ k := by omega
  have h1 : (k : Int) ≤ s.size := by omega
  obtain ⟨R, hR⟩ : ∃ R : ByteArray, s.extract k s.size = R := ⟨_, rfl⟩
  have hRd : R.data.toList = s.data.toList.drop k := by rw [← hR]; exact drop_data s k
  have hRm : IsSm R.size := by rw [← hR]; exact sub_sm s _ _ hs
  have fl1 := Fact.mk HF.l1
  have fl2 := Fact.mk HF.l2
  have fp1 : Fact ((⟨#[60, 47]⟩ : ByteArray).data.toList.isPrefixOf R.data.toList = false) := ⟨by rw [hRd]; exact HF.p1⟩
  have fp2 : Fact ((⟨#[60, 47, 62]⟩ : ByteArray).data.toList.isPrefixOf R.data.toList = false) := ⟨by rw [hRd]; exact HF.p2⟩
  have fp3 : Fact ((⟨#[60, 33, 45, 45]⟩ : ByteArray).data.toList.isPrefixOf R.data.toList = false) := ⟨by rw [hRd]; exact HF.p3⟩
  have fd : Fact ((⟨#[60, 33, 100, 111, 99, 116, 121, 112, 101]⟩ : ByteArray).data.toList.isPrefixOf (lwL R.data.toList) = true) := ⟨by rw [hRd]; exact HF.d⟩
  have fp4 : Fact ((⟨#[60, 33]⟩ : ByteArray).data.toList.isPrefixOf R.data.toList = P4) := ⟨by rw [hRd]; exact HF.p4⟩
  have fq5 : (R.toList == [60, 47]) = Q5 := by rw [Lib.toList_data, hRd]; exact HF.q5
  have fp6 : Fact ((⟨#[60, 63]⟩ : ByteArray).data.toList.isPrefixOf R.data.toList = P6) := ⟨by rw [hRd]; exact HF.p6⟩
  have hw1 : wrap64 ((k : Int) + 1) = (k : Int) + 1 := wrap_ok (m := k + 1) rfl ⟨by omega⟩
  have hw11 : wrap64 ((k : Int) + 1 + 1) = (k : Int) + 1 + 1 := wrap_ok (m := k + 2) (by push_cast; omega) ⟨by omega⟩
  have hw2 : wrap64 ((k : Int) + 2) = (k : Int) + 2 := wrap_ok (m := k + 2) rfl ⟨by omega⟩
  have hw3 : wrap64 ((k : Int) + 3) = (k : Int) + 3 := wrap_ok (m := k + 3) rfl ⟨by omega⟩
  have hw4 : wrap64 ((k : Int) + 4) = (k : Int) + 4 := wrap_ok (m := k + 4) rfl ⟨by omega⟩
  have hw9 : wrap64 ((k : Int) + 9) = (k : Int) + 9 := wrap_ok (m := k + 9) rfl ⟨by omega⟩
  have tokA : True := trivial
  have tokB : True := trivial
  have tokC : True := trivial
  have tokD : True := trivial
  have tokE : True := trivial
  have tokF : True := trivial
  have HFF := Fact.mk HF
  clear HF hRd
  have hroom : k + 9 ≤ s.size := pre_room2 HFF.out.d (Nat.le_of_lt hk)
  go_enter Tryd.func43, Tryd.ntmps43
  go_wp2_with (first
    | (have _t := tokA; go_at_call 57; refine (letterAt_at s _ (k + 1) (by first | rfl | omega) _ fl1 _).mono ?_; rintro e w1 ⟨rfl, rfl⟩; clear tokA _t)
    | (have _t := tokB; go_at_call 59; refine (prefix_any R ⟨#[60, 47]⟩ _ fp1 _).mono ?_; rintro e w1 ⟨rfl, rfl⟩; clear tokB _t)
    | (go_at_call 57; refine (letterAt_at s _ (k + 2) (by first | rfl | omega) _ fl2 _).mono ?_; rintro e w1 ⟨rfl, rfl⟩)
    | (have _t := tokC; go_at_call 59; refine (prefix_any R ⟨#[60, 47, 62]⟩ _ fp2 _).mono ?_; rintro e w1 ⟨rfl, rfl⟩; clear tokC _t)
    | (have _t := tokD; go_at_call 59; refine (prefix_any R ⟨#[60, 33, 45, 45]⟩ _ fp3 _).mono ?_; rintro e w1 ⟨rfl, rfl⟩; clear tokD _t)
    | (go_at_call 55; refine (begins_any R ⟨#[60, 33, 100, 111, 99, 116, 121, 112, 101]⟩ _ fd hRm _).mono ?_; rintro e w3 ⟨rfl, hb3⟩; have F3 := Fact.mk ((Five.new w _ _ _ _ _ _).keep hb3); have HB3 := Fact.mk ((bl1 w _).trans (hb3.mono (bl1 w _).size)); obtain ⟨c0, c1, c2, c3, c4, fz⟩ := F3.out; clear hb3)
    | (have _t := tokE; go_at_call 59; refine (prefix_any R ⟨#[60, 33]⟩ _ fp4 _).mono ?_; rintro e w1 ⟨rfl, rfl⟩; clear tokE _t)
    | (have _t := tokF; go_at_call 59; refine (prefix_any R ⟨#[60, 47]⟩ _ fp1 _).mono ?_; rintro e w1 ⟨rfl, rfl⟩; clear tokF _t)
    | (go_at_call 59; refine (prefix_any R ⟨#[60, 63]⟩ _ fp6 _).mono ?_; rintro e w1 ⟨rfl, rfl⟩)
    | (go_at_call 61; refine (call_doctype s _ (k + 9) (by first | rfl | omega) hs hroom _).mono ?_; rintro e w2 ⟨N, E, hC, v, rfl, hrow, hb2⟩; have HC := Fact.mk hC; have F5 := Fact.mk (F3.out.keep hb2); have HB := Fact.mk (HB3.out.trans (hb2.mono HB3.out.size)); obtain ⟨c0, c1, c2, c3, c4, fz⟩ := F5.out; have hv : ∃ a n cap, v = .slice a n cap := (by rcases hrow.2 with ⟨rfl, _⟩ | ⟨g, cap, cur, rfl, _⟩ <;> exact ⟨_, _, _, rfl⟩); obtain ⟨va, vn, vc, rfl⟩ := hv; have HRW := Fact.mk hrow; clear hb2 hC hrow))
  refine bodyPost_ret (results_tk 4 5 6 rfl rfl rfl rfl (F5.out.put (.int .i64 5) (.string N) (.string ⟨#[]⟩) (.slice va vn vc) (.bool false))) rfl ?_
  exact ⟨⟨5, N, ⟨#[]⟩, [], false⟩, E, true, HFF.out.op ⟨⟨rfl, HC.out.1.symm, rfl, rfl, rfl⟩, HC.out.2.symm, rfl⟩, tok_end ⟨5, N, ⟨#[]⟩, [], false⟩ E true (.slice va vn vc) F5.out HB.out F3.out.lt HRW.out⟩
set_option maxRecDepth 20000 in
set_option maxHeartbeats 4000000 in
theorem opened_w6a (s : ByteArray) (k : Nat) (hs : IsSm s.size) (hk : k < s.size) (L2 Q5 P6 : Bool) (HF : OpF s.data.toList k false false L2 false false false true Q5 P6) (w : World) (hl : Laid w) :
    Calls Tryd.prog 43 #[.string s, .int .i64 k] w fun e w' => ∃ (t : Tk) (E : Nat) (ok : Bool), OpR s.data.toList k t E ok ∧ TokOut w t E ok e w' := by
  have HL := Fact.mk hl
  clear hl
  have hsz := hs.le
  have h0 : (0 : Int) ≤ k := by omega
  have h1 : (k : Int) ≤ s.size := by omega
  obtain ⟨R, hR⟩ : ∃ R : ByteArray, s.extract k s.size = R := ⟨_, rfl⟩
  have hRd : R.data.toList = s.data.toList.drop k := by rw [← hR]; exact drop_data s k
  have hRm : IsSm R.size := by rw [← hR]; exact sub_sm s _ _ hs
  have fl1 := Fact.mk HF.l1
  have fl2 := Fact.mk HF.l2
  have fp1 : Fact ((⟨#[60, 47]⟩ : ByteArray).data.toList.isPrefixOf R.data.toList = false) := ⟨by rw [hRd]; exact HF.p1⟩
  have fp2 : Fact ((⟨#[60, 47, 62]⟩ : ByteArray).data.toList.isPrefixOf R.data.toList = false) := ⟨by rw [hRd]; exact HF.p2⟩
  have fp3 : Fact ((⟨#[60, 33, 45, 45]⟩ : ByteArray).data.toList.isPrefixOf R.data.toList = false) := ⟨by rw [hRd]; exact HF.p3⟩
  have fd : Fact ((⟨#[60, 33, 100, 111, 99, 116, 121, 112, 101]⟩ : ByteArray).data.toList.isPrefixOf (lwL R.data.toList) = false) := ⟨by rw [hRd]; exact HF.d⟩
  have fp4 : Fact ((⟨#[60, 33]⟩ : ByteArray).data.toList.isPrefixOf R.data.toList = true) := ⟨by rw [hRd]; exact HF.p4⟩
  have fq5 : (R.toList == [60, 47]) = Q5 := by rw [Lib.toList_data, hRd]; exact HF.q5
  have fp6 : Fact ((⟨#[60, 63]⟩ : ByteArray).data.toList.isPrefixOf R.data.toList = P6) := ⟨by rw [hRd]; exact HF.p6⟩
  have hw1 : wrap64 ((k : Int) + 1) = (k : Int) + 1 := wrap_ok (m := k + 1) rfl ⟨by omega⟩
  have hw11 : wrap64 ((k : Int) + 1 + 1) = (k : Int) + 1 + 1 := wrap_ok (m := k + 2) (by push_cast; omega) ⟨by omega⟩
  have hw2 : wrap64 ((k : Int) + 2) = (k : Int) + 2 := wrap_ok (m := k + 2) rfl ⟨by omega⟩
  have hw3 : wrap64 ((k : Int) + 3) = (k : Int) + 3 := wrap_ok (m := k + 3) rfl ⟨by omega⟩
  have hw4 : wrap64 ((k : Int) + 4) = (k : Int) + 4 := wrap_ok (m := k + 4) rfl ⟨by omega⟩
  have hw9 : wrap64 ((k : Int) + 9) = (k : Int) + 9 := wrap_ok (m := k + 9) rfl ⟨by omega⟩
  have tokA : True := trivial
  have tokB : True := trivial
  have tokC : True := trivial
  have tokD : True := trivial
  have tokE : True := trivial
  have tokF : True := trivial
  have HFF := Fact.mk HF
  clear HF hRd
  have hroom0 : k + 2 ≤ s.size := pre_room HFF.out.p4 (Nat.le_of_lt hk)
  obtain ⟨K, hK⟩ : ∃ K, k + 2 = K := ⟨_, rfl⟩
  have HK := Fact.mk hK
  have hroom : K ≤ s.size := by omega
  obtain ⟨U, hU⟩ : ∃ U, Fact (spE (fun x => x != (62 : UInt8)) s.data.toList K = U) := ⟨_, ⟨rfl⟩⟩
  have hKU : K ≤ U := by rw [← hU.out]; exact spE_ge _ _ _
  have hUle : U ≤ s.size := by rw [← hU.out, Lib.size_eq]; exact spE_le _ (by rw [← Lib.size_eq]; exact hroom)
  obtain ⟨P, hP⟩ : ∃ P, Fact (min (U + 1) s.size = P) := ⟨_, ⟨rfl⟩⟩
  obtain ⟨S2, hS2⟩ : ∃ S2 : ByteArray, s.extract K U = S2 := ⟨_, rfl⟩
  have HB0 : Fact (∀ t, t = (⟨4, ⟨#[]⟩, S2, [], false⟩ : Tk) → BogR s.data.toList (k + 2) t P true) := ⟨fun t ht => by
    subst ht
    unfold BogR
    rw [HK.out, hU.out]
    exact ⟨⟨rfl, rfl, by rw [← hS2]; exact sub_data s _ _ hKU, rfl, rfl⟩, by rw [← hP.out, ← Lib.size_eq], rfl⟩⟩
  have b1 : (K : Int) ≤ U := by omega
  have b2 : (U : Int) ≤ s.size := by omega
  have b0 : (0 : Int) ≤ K := by omega
  have e1 : (k : Int) + 2 = K := by omega
  have e2 : (k : Int) + 1 + 1 = K := by omega
  go_enter Tryd.func43, Tryd.ntmps43
  go_wp2_with (first
    | (have _t := tokA; go_at_call 57; refine (letterAt_at s _ (k + 1) (by first | rfl | omega) _ fl1 _).mono ?_; rintro e w1 ⟨rfl, rfl⟩; clear tokA _t)
    | (have _t := tokB; go_at_call 59; refine (prefix_any R ⟨#[60, 47]⟩ _ fp1 _).mono ?_; rintro e w1 ⟨rfl, rfl⟩; clear tokB _t)
    | (go_at_call 57; refine (letterAt_at s _ (k + 2) (by first | rfl | omega) _ fl2 _).mono ?_; rintro e w1 ⟨rfl, rfl⟩)
    | (have _t := tokC; go_at_call 59; refine (prefix_any R ⟨#[60, 47, 62]⟩ _ fp2 _).mono ?_; rintro e w1 ⟨rfl, rfl⟩; clear tokC _t)
    | (have _t := tokD; go_at_call 59; refine (prefix_any R ⟨#[60, 33, 45, 45]⟩ _ fp3 _).mono ?_; rintro e w1 ⟨rfl, rfl⟩; clear tokD _t)
    | (go_at_call 55; refine (begins_any R ⟨#[60, 33, 100, 111, 99, 116, 121, 112, 101]⟩ _ fd hRm _).mono ?_; rintro e w3 ⟨rfl, hb3⟩; have F3 := Fact.mk ((Five.new w _ _ _ _ _ _).keep hb3); have HB3 := Fact.mk ((bl1 w _).trans (hb3.mono (bl1 w _).size)); obtain ⟨c0, c1, c2, c3, c4, fz⟩ := F3.out; clear hb3)
    | (have _t := tokE; go_at_call 59; refine (prefix_any R ⟨#[60, 33]⟩ _ fp4 _).mono ?_; rintro e w1 ⟨rfl, rfl⟩; clear tokE _t)
    | (have _t := tokF; go_at_call 59; refine (prefix_any R ⟨#[60, 47]⟩ _ fp1 _).mono ?_; rintro e w1 ⟨rfl, rfl⟩; clear tokF _t)
    | (go_at_call 59; refine (prefix_any R ⟨#[60, 63]⟩ _ fp6 _).mono ?_; rintro e w1 ⟨rfl, rfl⟩)
    | (go_at_call 54; refine (upTo_at s _ _ K U 62 (by first | rfl | omega) rfl hs hroom hU _).mono ?_; rintro e w4 ⟨rfl, rfl⟩))
  go_region_held3 (fun _ => True) (exact trivial) (first | (go_at_call 62; refine (past_any s U P hs hUle hP _).mono ?_; rintro e w9 ⟨rfl, rfl⟩))
  all_goals
    go_wp2_with fail
    refine bodyPost_ret (results_tk 4 5 6 rfl rfl rfl rfl (F3.out.put (.int .i64 4) (.string ⟨#[]⟩) (.string S2) (.slice none 0 0) (.bool false)).drew) rfl ?_
    exact ⟨⟨4, ⟨#[]⟩, S2, [], false⟩, P, true, HFF.out.op (HB0.out _ rfl), (tok_end ⟨4, ⟨#[]⟩, S2, [], false⟩ P true (.slice none 0 0) F3.out HB3.out (Nat.lt_succ_self _) (no_row _ _)).drew⟩
set_option maxRecDepth 20000 in
set_option maxHeartbeats 4000000 in
theorem opened_w7a (s : ByteArray) (k : Nat) (hs : IsSm s.size) (hk : k < s.size) (L2 Q5 : Bool) (HF : OpF s.data.toList k false false L2 false false false false Q5 true) (w : World) (hl : Laid w) :
    Calls Tryd.prog 43 #[.string s, .int .i64 k] w fun e w' => ∃ (t : Tk) (E : Nat) (ok : Bool), OpR s.data.toList k t E ok ∧ TokOut w t E ok e w' := by
  have HL := Fact.mk hl
  clear hl
  have hsz := hs.le
  have h0 : (0 : Int) ≤ k := by omega
  have h1 : (k : Int) ≤ s.size := by omega
  obtain ⟨R, hR⟩ : ∃ R : ByteArray, s.extract k s.size = R := ⟨_, rfl⟩
  have hRd : R.data.toList = s.data.toList.drop k := by rw [← hR]; exact drop_data s k
  have hRm : IsSm R.size := by rw [← hR]; exact sub_sm s _ _ hs
  have fl1 := Fact.mk HF.l1
  have fl2 := Fact.mk HF.l2
  have fp1 : Fact ((⟨#[60, 47]⟩ : ByteArray).data.toList.isPrefixOf R.data.toList = false) := ⟨by rw [hRd]; exact HF.p1⟩
  have fp2 : Fact ((⟨#[60, 47, 62]⟩ : ByteArray).data.toList.isPrefixOf R.data.toList = false) := ⟨by rw [hRd]; exact HF.p2⟩
  have fp3 : Fact ((⟨#[60, 33, 45, 45]⟩ : ByteArray).data.toList.isPrefixOf R.data.toList = false) := ⟨by rw [hRd]; exact HF.p3⟩
  have fd : Fact ((⟨#[60, 33, 100, 111, 99, 116, 121, 112, 101]⟩ : ByteArray).data.toList.isPrefixOf (lwL R.data.toList) = false) := ⟨by rw [hRd]; exact HF.d⟩
  have fp4 : Fact ((⟨#[60, 33]⟩ : ByteArray).data.toList.isPrefixOf R.data.toList = false) := ⟨by rw [hRd]; exact HF.p4⟩
  have fq5 : (R.toList == [60, 47]) = Q5 := by rw [Lib.toList_data, hRd]; exact HF.q5
  have fp6 : Fact ((⟨#[60, 63]⟩ : ByteArray).data.toList.isPrefixOf R.data.toList = true) := ⟨by rw [hRd]; exact HF.p6⟩
  have hw1 : wrap64 ((k : Int) + 1) = (k : Int) + 1 := wrap_ok (m := k + 1) rfl ⟨by omega⟩
  have hw11 : wrap64 ((k : Int) + 1 + 1) = (k : Int) + 1 + 1 := wrap_ok (m := k + 2) (by push_cast; omega) ⟨by omega⟩
  have hw2 : wrap64 ((k : Int) + 2) = (k : Int) + 2 := wrap_ok (m := k + 2) rfl ⟨by omega⟩
  have hw3 : wrap64 ((k : Int) + 3) = (k : Int) + 3 := wrap_ok (m := k + 3) rfl ⟨by omega⟩
  have hw4 : wrap64 ((k : Int) + 4) = (k : Int) + 4 := wrap_ok (m := k + 4) rfl ⟨by omega⟩
  have hw9 : wrap64 ((k : Int) + 9) = (k : Int) + 9 := wrap_ok (m := k + 9) rfl ⟨by omega⟩
  have tokA : True := trivial
  have tokB : True := trivial
  have tokC : True := trivial
  have tokD : True := trivial
  have tokE : True := trivial
  have tokF : True := trivial
  have HFF := Fact.mk HF
  clear HF hRd
  have hroom0 : k + 1 ≤ s.size := hk
  obtain ⟨K, hK⟩ : ∃ K, k + 1 = K := ⟨_, rfl⟩
  have HK := Fact.mk hK
  have hroom : K ≤ s.size := by omega
  obtain ⟨U, hU⟩ : ∃ U, Fact (spE (fun x => x != (62 : UInt8)) s.data.toList K = U) := ⟨_, ⟨rfl⟩⟩
  have hKU : K ≤ U := by rw [← hU.out]; exact spE_ge _ _ _
  have hUle : U ≤ s.size := by rw [← hU.out, Lib.size_eq]; exact spE_le _ (by rw [← Lib.size_eq]; exact hroom)
  obtain ⟨P, hP⟩ : ∃ P, Fact (min (U + 1) s.size = P) := ⟨_, ⟨rfl⟩⟩
  obtain ⟨S2, hS2⟩ : ∃ S2 : ByteArray, s.extract K U = S2 := ⟨_, rfl⟩
  have HB0 : Fact (∀ t, t = (⟨4, ⟨#[]⟩, S2, [], false⟩ : Tk) → BogR s.data.toList (k + 1) t P true) := ⟨fun t ht => by
    subst ht
    unfold BogR
    rw [HK.out, hU.out]
    exact ⟨⟨rfl, rfl, by rw [← hS2]; exact sub_data s _ _ hKU, rfl, rfl⟩, by rw [← hP.out, ← Lib.size_eq], rfl⟩⟩
  have b1 : (K : Int) ≤ U := by omega
  have b2 : (U : Int) ≤ s.size := by omega
  have b0 : (0 : Int) ≤ K := by omega
  have e1 : (k : Int) + 1 = K := by omega
  go_enter Tryd.func43, Tryd.ntmps43
  go_wp2_with (first
    | (have _t := tokA; go_at_call 57; refine (letterAt_at s _ (k + 1) (by first | rfl | omega) _ fl1 _).mono ?_; rintro e w1 ⟨rfl, rfl⟩; clear tokA _t)
    | (have _t := tokB; go_at_call 59; refine (prefix_any R ⟨#[60, 47]⟩ _ fp1 _).mono ?_; rintro e w1 ⟨rfl, rfl⟩; clear tokB _t)
    | (go_at_call 57; refine (letterAt_at s _ (k + 2) (by first | rfl | omega) _ fl2 _).mono ?_; rintro e w1 ⟨rfl, rfl⟩)
    | (have _t := tokC; go_at_call 59; refine (prefix_any R ⟨#[60, 47, 62]⟩ _ fp2 _).mono ?_; rintro e w1 ⟨rfl, rfl⟩; clear tokC _t)
    | (have _t := tokD; go_at_call 59; refine (prefix_any R ⟨#[60, 33, 45, 45]⟩ _ fp3 _).mono ?_; rintro e w1 ⟨rfl, rfl⟩; clear tokD _t)
    | (go_at_call 55; refine (begins_any R ⟨#[60, 33, 100, 111, 99, 116, 121, 112, 101]⟩ _ fd hRm _).mono ?_; rintro e w3 ⟨rfl, hb3⟩; have F3 := Fact.mk ((Five.new w _ _ _ _ _ _).keep hb3); have HB3 := Fact.mk ((bl1 w _).trans (hb3.mono (bl1 w _).size)); obtain ⟨c0, c1, c2, c3, c4, fz⟩ := F3.out; clear hb3)
    | (have _t := tokE; go_at_call 59; refine (prefix_any R ⟨#[60, 33]⟩ _ fp4 _).mono ?_; rintro e w1 ⟨rfl, rfl⟩; clear tokE _t)
    | (have _t := tokF; go_at_call 59; refine (prefix_any R ⟨#[60, 47]⟩ _ fp1 _).mono ?_; rintro e w1 ⟨rfl, rfl⟩; clear tokF _t)
    | (go_at_call 59; refine (prefix_any R ⟨#[60, 63]⟩ _ fp6 _).mono ?_; rintro e w1 ⟨rfl, rfl⟩)
    | (go_at_call 54; refine (upTo_at s _ _ K U 62 (by first | rfl | omega) rfl hs hroom hU _).mono ?_; rintro e w4 ⟨rfl, rfl⟩))
  go_region_held3 (fun _ => True) (exact trivial) (first | (go_at_call 62; refine (past_any s U P hs hUle hP _).mono ?_; rintro e w9 ⟨rfl, rfl⟩))
  all_goals
    go_wp2_with fail
    refine bodyPost_ret (results_tk 4 5 6 rfl rfl rfl rfl (F3.out.put (.int .i64 4) (.string ⟨#[]⟩) (.string S2) (.slice none 0 0) (.bool false)).drew) rfl ?_
    exact ⟨⟨4, ⟨#[]⟩, S2, [], false⟩, P, true, HFF.out.op (HB0.out _ rfl), (tok_end ⟨4, ⟨#[]⟩, S2, [], false⟩ P true (.slice none 0 0) F3.out HB3.out (Nat.lt_succ_self _) (no_row _ _)).drew⟩
set_option maxRecDepth 20000 in
set_option maxHeartbeats 4000000 in
theorem opened_w8a (s : ByteArray) (k : Nat) (hs : IsSm s.size) (hk : k < s.size) (L2 Q5 : Bool) (HF : OpF s.data.toList k false false L2 false false false false Q5 false) (w : World) (hl : Laid w) :
    Calls Tryd.prog 43 #[.string s, .int .i64 k] w fun e w' => ∃ (t : Tk) (E : Nat) (ok : Bool), OpR s.data.toList k t E ok ∧ TokOut w t E ok e w' := by
  have HL := Fact.mk hl
  clear hl
  have hsz := hs.le
  have h0 : (0 : Int) ≤ k := by omega
  have h1 : (k : Int) ≤ s.size := by omega
  obtain ⟨R, hR⟩ : ∃ R : ByteArray, s.extract k s.size = R := ⟨_, rfl⟩
  have hRd : R.data.toList = s.data.toList.drop k := by rw [← hR]; exact drop_data s k
  have hRm : IsSm R.size := by rw [← hR]; exact sub_sm s _ _ hs
  have fl1 := Fact.mk HF.l1
  have fl2 := Fact.mk HF.l2
  have fp1 : Fact ((⟨#[60, 47]⟩ : ByteArray).data.toList.isPrefixOf R.data.toList = false) := ⟨by rw [hRd]; exact HF.p1⟩
  have fp2 : Fact ((⟨#[60, 47, 62]⟩ : ByteArray).data.toList.isPrefixOf R.data.toList = false) := ⟨by rw [hRd]; exact HF.p2⟩
  have fp3 : Fact ((⟨#[60, 33, 45, 45]⟩ : ByteArray).data.toList.isPrefixOf R.data.toList = false) := ⟨by rw [hRd]; exact HF.p3⟩
  have fd : Fact ((⟨#[60, 33, 100, 111, 99, 116, 121, 112, 101]⟩ : ByteArray).data.toList.isPrefixOf (lwL R.data.toList) = false) := ⟨by rw [hRd]; exact HF.d⟩
  have fp4 : Fact ((⟨#[60, 33]⟩ : ByteArray).data.toList.isPrefixOf R.data.toList = false) := ⟨by rw [hRd]; exact HF.p4⟩
  have fq5 : (R.toList == [60, 47]) = Q5 := by rw [Lib.toList_data, hRd]; exact HF.q5
  have fp6 : Fact ((⟨#[60, 63]⟩ : ByteArray).data.toList.isPrefixOf R.data.toList = false) := ⟨by rw [hRd]; exact HF.p6⟩
  have hw1 : wrap64 ((k : Int) + 1) = (k : Int) + 1 := wrap_ok (m := k + 1) rfl ⟨by omega⟩
  have hw11 : wrap64 ((k : Int) + 1 + 1) = (k : Int) + 1 + 1 := wrap_ok (m := k + 2) (by push_cast; omega) ⟨by omega⟩
  have hw2 : wrap64 ((k : Int) + 2) = (k : Int) + 2 := wrap_ok (m := k + 2) rfl ⟨by omega⟩
  have hw3 : wrap64 ((k : Int) + 3) = (k : Int) + 3 := wrap_ok (m := k + 3) rfl ⟨by omega⟩
  have hw4 : wrap64 ((k : Int) + 4) = (k : Int) + 4 := wrap_ok (m := k + 4) rfl ⟨by omega⟩
  have hw9 : wrap64 ((k : Int) + 9) = (k : Int) + 9 := wrap_ok (m := k + 9) rfl ⟨by omega⟩
  have tokA : True := trivial
  have tokB : True := trivial
  have tokC : True := trivial
  have tokD : True := trivial
  have tokE : True := trivial
  have tokF : True := trivial
  have HFF := Fact.mk HF
  clear HF hRd
  go_enter Tryd.func43, Tryd.ntmps43
  go_wp2_with (first
    | (have _t := tokA; go_at_call 57; refine (letterAt_at s _ (k + 1) (by first | rfl | omega) _ fl1 _).mono ?_; rintro e w1 ⟨rfl, rfl⟩; clear tokA _t)
    | (have _t := tokB; go_at_call 59; refine (prefix_any R ⟨#[60, 47]⟩ _ fp1 _).mono ?_; rintro e w1 ⟨rfl, rfl⟩; clear tokB _t)
    | (go_at_call 57; refine (letterAt_at s _ (k + 2) (by first | rfl | omega) _ fl2 _).mono ?_; rintro e w1 ⟨rfl, rfl⟩)
    | (have _t := tokC; go_at_call 59; refine (prefix_any R ⟨#[60, 47, 62]⟩ _ fp2 _).mono ?_; rintro e w1 ⟨rfl, rfl⟩; clear tokC _t)
    | (have _t := tokD; go_at_call 59; refine (prefix_any R ⟨#[60, 33, 45, 45]⟩ _ fp3 _).mono ?_; rintro e w1 ⟨rfl, rfl⟩; clear tokD _t)
    | (go_at_call 55; refine (begins_any R ⟨#[60, 33, 100, 111, 99, 116, 121, 112, 101]⟩ _ fd hRm _).mono ?_; rintro e w3 ⟨rfl, hb3⟩; have F3 := Fact.mk ((Five.new w _ _ _ _ _ _).keep hb3); have HB3 := Fact.mk ((bl1 w _).trans (hb3.mono (bl1 w _).size)); obtain ⟨c0, c1, c2, c3, c4, fz⟩ := F3.out; clear hb3)
    | (have _t := tokE; go_at_call 59; refine (prefix_any R ⟨#[60, 33]⟩ _ fp4 _).mono ?_; rintro e w1 ⟨rfl, rfl⟩; clear tokE _t)
    | (have _t := tokF; go_at_call 59; refine (prefix_any R ⟨#[60, 47]⟩ _ fp1 _).mono ?_; rintro e w1 ⟨rfl, rfl⟩; clear tokF _t)
    | (go_at_call 59; refine (prefix_any R ⟨#[60, 63]⟩ _ fp6 _).mono ?_; rintro e w1 ⟨rfl, rfl⟩))
  refine bodyPost_ret (results_tk 4 5 6 rfl rfl rfl rfl (F3.out.put (.int .i64 3) (.string ⟨#[]⟩) (.string ⟨#[60]⟩) (.slice none 0 0) (.bool false))) rfl ?_
  exact ⟨⟨3, ⟨#[]⟩, ⟨#[60]⟩, [], false⟩, k + 1, true, HFF.out.op ⟨⟨rfl, rfl, rfl, rfl, rfl⟩, rfl, rfl⟩, tok_end ⟨3, ⟨#[]⟩, ⟨#[60]⟩, [], false⟩ (k + 1) true (.slice none 0 0) F3.out HB3.out (Nat.lt_succ_self _) (no_row _ _)⟩
set_option maxRecDepth 20000 in
set_option maxHeartbeats 4000000 in
theorem opened_w3b (s : ByteArray) (k : Nat) (hs : IsSm s.size) (hk : k < s.size) (P3 D P4 Q5 P6 : Bool) (HF : OpF s.data.toList k false true false true P3 D P4 Q5 P6) (w : World) (hl : Laid w) :
    Calls Tryd.prog 43 #[.string s, .int .i64 k] w fun e w' => ∃ (t : Tk) (E : Nat) (ok : Bool), OpR s.data.toList k t E ok ∧ TokOut w t E ok e w' := by
  have HL := Fact.mk hl
  clear hl
  have hsz := hs.le
  have h0 : (0 : Int) ≤ k := by omega
  have h1 : (k : Int) ≤ s.size := by omega
  obtain ⟨R, hR⟩ : ∃ R : ByteArray, s.extract k s.size = R := ⟨_, rfl⟩
  have hRd : R.data.toList = s.data.toList.drop k := by rw [← hR]; exact drop_data s k
  have hRm : IsSm R.size := by rw [← hR]; exact sub_sm s _ _ hs
  have fl1 := Fact.mk HF.l1
  have fl2 := Fact.mk HF.l2
  have fp1 : Fact ((⟨#[60, 47]⟩ : ByteArray).data.toList.isPrefixOf R.data.toList = true) := ⟨by rw [hRd]; exact HF.p1⟩
  have fp2 : Fact ((⟨#[60, 47, 62]⟩ : ByteArray).data.toList.isPrefixOf R.data.toList = true) := ⟨by rw [hRd]; exact HF.p2⟩
  have fp3 : Fact ((⟨#[60, 33, 45, 45]⟩ : ByteArray).data.toList.isPrefixOf R.data.toList = P3) := ⟨by rw [hRd]; exact HF.p3⟩
  have fd : Fact ((⟨#[60, 33, 100, 111, 99, 116, 121, 112, 101]⟩ : ByteArray).data.toList.isPrefixOf (lwL R.data.toList) = D) := ⟨by rw [hRd]; exact HF.d⟩
  have fp4 : Fact ((⟨#[60, 33]⟩ : ByteArray).data.toList.isPrefixOf R.data.toList = P4) := ⟨by rw [hRd]; exact HF.p4⟩
  have fq5 : (R.toList == [60, 47]) = Q5 := by rw [Lib.toList_data, hRd]; exact HF.q5
  have fp6 : Fact ((⟨#[60, 63]⟩ : ByteArray).data.toList.isPrefixOf R.data.toList = P6) := ⟨by rw [hRd]; exact HF.p6⟩
  have hw1 : wrap64 ((k : Int) + 1) = (k : Int) + 1 := wrap_ok (m := k + 1) rfl ⟨by omega⟩
  have hw11 : wrap64 ((k : Int) + 1 + 1) = (k : Int) + 1 + 1 := wrap_ok (m := k + 2) (by push_cast; omega) ⟨by omega⟩
  have hw2 : wrap64 ((k : Int) + 2) = (k : Int) + 2 := wrap_ok (m := k + 2) rfl ⟨by omega⟩
  have hw3 : wrap64 ((k : Int) + 3) = (k : Int) + 3 := wrap_ok (m := k + 3) rfl ⟨by omega⟩
  have hw4 : wrap64 ((k : Int) + 4) = (k : Int) + 4 := wrap_ok (m := k + 4) rfl ⟨by omega⟩
  have hw9 : wrap64 ((k : Int) + 9) = (k : Int) + 9 := wrap_ok (m := k + 9) rfl ⟨by omega⟩
  have tokA : True := trivial
  have tokB : True := trivial
  have tokC : True := trivial
  have tokD : True := trivial
  have tokE : True := trivial
  have tokF : True := trivial
  have HFF := Fact.mk HF
  clear HF hRd
  go_enter Tryd.func43, Tryd.ntmps43
  go_wp2_with (first
    | (have _t := tokA; go_at_call 57; refine (letterAt_at s _ (k + 1) (by first | rfl | omega) _ fl1 _).mono ?_; rintro e w1 ⟨rfl, rfl⟩; clear tokA _t)
    | (have _t := tokB; go_at_call 59; refine (prefix_any R ⟨#[60, 47]⟩ _ fp1 _).mono ?_; rintro e w1 ⟨rfl, rfl⟩; clear tokB _t)
    | (go_at_call 57; refine (letterAt_at s _ (k + 2) (by first | rfl | omega) _ fl2 _).mono ?_; rintro e w1 ⟨rfl, rfl⟩)
    | (have _t := tokC; go_at_call 59; refine (prefix_any R ⟨#[60, 47, 62]⟩ _ fp2 _).mono ?_; rintro e w1 ⟨rfl, rfl⟩; clear tokC _t)
    | (have _t := tokD; go_at_call 59; refine (prefix_any R ⟨#[60, 33, 45, 45]⟩ _ fp3 _).mono ?_; rintro e w1 ⟨rfl, rfl⟩; clear tokD _t)
    | (go_at_call 55; refine (begins_any R ⟨#[60, 33, 100, 111, 99, 116, 121, 112, 101]⟩ _ fd hRm _).mono ?_; rintro e w3 ⟨rfl, hb3⟩; have F3 := Fact.mk ((Five.new w _ _ _ _ _ _).keep hb3); have HB3 := Fact.mk ((bl1 w _).trans (hb3.mono (bl1 w _).size)); obtain ⟨c0, c1, c2, c3, c4, fz⟩ := F3.out; clear hb3)
    | (have _t := tokE; go_at_call 59; refine (prefix_any R ⟨#[60, 33]⟩ _ fp4 _).mono ?_; rintro e w1 ⟨rfl, rfl⟩; clear tokE _t)
    | (have _t := tokF; go_at_call 59; refine (prefix_any R ⟨#[60, 47]⟩ _ fp1 _).mono ?_; rintro e w1 ⟨rfl, rfl⟩; clear tokF _t)
    | (go_at_call 59; refine (prefix_any R ⟨#[60, 63]⟩ _ fp6 _).mono ?_; rintro e w1 ⟨rfl, rfl⟩))
  refine bodyPost_ret (v := .tuple #[tokV 0 ⟨#[]⟩ ⟨#[]⟩ (.slice none 0 0) false, .int .i64 ((k + 3 : Nat) : Int), .bool false]) (by simp [results, Tryd.f43, go_sem]) rfl ?_
  exact ⟨⟨0, ⟨#[]⟩, ⟨#[]⟩, [], false⟩, k + 3, false, HFF.out.op ⟨⟨rfl, rfl, rfl, rfl, rfl⟩, rfl, rfl⟩, .slice none 0 0, rfl, no_row _ _, bl1 w _⟩
set_option maxRecDepth 20000 in
set_option maxHeartbeats 4000000 in
theorem opened_w4b (s : ByteArray) (k : Nat) (hs : IsSm s.size) (hk : k < s.size) (D P4 Q5 P6 : Bool) (HF : OpF s.data.toList k false true false false true D P4 Q5 P6) (w : World) (hl : Laid w) :
    Calls Tryd.prog 43 #[.string s, .int .i64 k] w fun e w' => ∃ (t : Tk) (E : Nat) (ok : Bool), OpR s.data.toList k t E ok ∧ TokOut w t E ok e w' := by
  have HL := Fact.mk hl
  clear hl
  have hsz := hs.le
  have h0 : (0 : Int) ≤ k := by omega
  have h1 : (k : Int) ≤ s.size := by omega
  obtain ⟨R, hR⟩ : ∃ R : ByteArray, s.extract k s.size = R := ⟨_, rfl⟩
  have hRd : R.data.toList = s.data.toList.drop k := by rw [← hR]; exact drop_data s k
  have hRm : IsSm R.size := by rw [← hR]; exact sub_sm s _ _ hs
  have fl1 := Fact.mk HF.l1
  have fl2 := Fact.mk HF.l2
  have fp1 : Fact ((⟨#[60, 47]⟩ : ByteArray).data.toList.isPrefixOf R.data.toList = true) := ⟨by rw [hRd]; exact HF.p1⟩
  have fp2 : Fact ((⟨#[60, 47, 62]⟩ : ByteArray).data.toList.isPrefixOf R.data.toList = false) := ⟨by rw [hRd]; exact HF.p2⟩
  have fp3 : Fact ((⟨#[60, 33, 45, 45]⟩ : ByteArray).data.toList.isPrefixOf R.data.toList = true) := ⟨by rw [hRd]; exact HF.p3⟩
  have fd : Fact ((⟨#[60, 33, 100, 111, 99, 116, 121, 112, 101]⟩ : ByteArray).data.toList.isPrefixOf (lwL R.data.toList) = D) := ⟨by rw [hRd]; exact HF.d⟩
  have fp4 : Fact ((⟨#[60, 33]⟩ : ByteArray).data.toList.isPrefixOf R.data.toList = P4) := ⟨by rw [hRd]; exact HF.p4⟩
  have fq5 : (R.toList == [60, 47]) = Q5 := by rw [Lib.toList_data, hRd]; exact HF.q5
  have fp6 : Fact ((⟨#[60, 63]⟩ : ByteArray).data.toList.isPrefixOf R.data.toList = P6) := ⟨by rw [hRd]; exact HF.p6⟩
  have hw1 : wrap64 ((k : Int) + 1) = (k : Int) + 1 := wrap_ok (m := k + 1) rfl ⟨by omega⟩
  have hw11 : wrap64 ((k : Int) + 1 + 1) = (k : Int) + 1 + 1 := wrap_ok (m := k + 2) (by push_cast; omega) ⟨by omega⟩
  have hw2 : wrap64 ((k : Int) + 2) = (k : Int) + 2 := wrap_ok (m := k + 2) rfl ⟨by omega⟩
  have hw3 : wrap64 ((k : Int) + 3) = (k : Int) + 3 := wrap_ok (m := k + 3) rfl ⟨by omega⟩
  have hw4 : wrap64 ((k : Int) + 4) = (k : Int) + 4 := wrap_ok (m := k + 4) rfl ⟨by omega⟩
  have hw9 : wrap64 ((k : Int) + 9) = (k : Int) + 9 := wrap_ok (m := k + 9) rfl ⟨by omega⟩
  have tokA : True := trivial
  have tokB : True := trivial
  have tokC : True := trivial
  have tokD : True := trivial
  have tokE : True := trivial
  have tokF : True := trivial
  have HFF := Fact.mk HF
  clear HF hRd
  have hroom : k + 4 ≤ s.size := pre_room HFF.out.p3 (Nat.le_of_lt hk)
  go_enter Tryd.func43, Tryd.ntmps43
  go_wp2_with (first
    | (have _t := tokA; go_at_call 57; refine (letterAt_at s _ (k + 1) (by first | rfl | omega) _ fl1 _).mono ?_; rintro e w1 ⟨rfl, rfl⟩; clear tokA _t)
    | (have _t := tokB; go_at_call 59; refine (prefix_any R ⟨#[60, 47]⟩ _ fp1 _).mono ?_; rintro e w1 ⟨rfl, rfl⟩; clear tokB _t)
    | (go_at_call 57; refine (letterAt_at s _ (k + 2) (by first | rfl | omega) _ fl2 _).mono ?_; rintro e w1 ⟨rfl, rfl⟩)
    | (have _t := tokC; go_at_call 59; refine (prefix_any R ⟨#[60, 47, 62]⟩ _ fp2 _).mono ?_; rintro e w1 ⟨rfl, rfl⟩; clear tokC _t)
    | (have _t := tokD; go_at_call 59; refine (prefix_any R ⟨#[60, 33, 45, 45]⟩ _ fp3 _).mono ?_; rintro e w1 ⟨rfl, rfl⟩; clear tokD _t)
    | (go_at_call 55; refine (begins_any R ⟨#[60, 33, 100, 111, 99, 116, 121, 112, 101]⟩ _ fd hRm _).mono ?_; rintro e w3 ⟨rfl, hb3⟩; have F3 := Fact.mk ((Five.new w _ _ _ _ _ _).keep hb3); have HB3 := Fact.mk ((bl1 w _).trans (hb3.mono (bl1 w _).size)); obtain ⟨c0, c1, c2, c3, c4, fz⟩ := F3.out; clear hb3)
    | (have _t := tokE; go_at_call 59; refine (prefix_any R ⟨#[60, 33]⟩ _ fp4 _).mono ?_; rintro e w1 ⟨rfl, rfl⟩; clear tokE _t)
    | (have _t := tokF; go_at_call 59; refine (prefix_any R ⟨#[60, 47]⟩ _ fp1 _).mono ?_; rintro e w1 ⟨rfl, rfl⟩; clear tokF _t)
    | (go_at_call 59; refine (prefix_any R ⟨#[60, 63]⟩ _ fp6 _).mono ?_; rintro e w1 ⟨rfl, rfl⟩)
    | (go_at_call 60; refine (call_comment s _ (k + 4) (by first | rfl | omega) hs hroom _).mono ?_; rintro e w2 ⟨T, E, hC, v, rfl, hrow, hb2⟩; have HC := Fact.mk hC; have F5 := Fact.mk ((Five.new w _ _ _ _ _ _).keep hb2); have HB := Fact.mk ((bl1 w _).trans (hb2.mono (bl1 w _).size)); obtain ⟨c0, c1, c2, c3, c4, fz⟩ := F5.out; have hv : ∃ a n cap, v = .slice a n cap := (by rcases hrow.2 with ⟨rfl, _⟩ | ⟨g, cap, cur, rfl, _⟩ <;> exact ⟨_, _, _, rfl⟩); obtain ⟨va, vn, vc, rfl⟩ := hv; have HRW := Fact.mk hrow; clear hb2 hC hrow))
  refine bodyPost_ret (results_tk 4 5 6 rfl rfl rfl rfl (F5.out.put (.int .i64 4) (.string ⟨#[]⟩) (.string T) (.slice va vn vc) (.bool false))) rfl ?_
  exact ⟨⟨4, ⟨#[]⟩, T, [], false⟩, E, true, HFF.out.op ⟨_, HC.out, ⟨rfl, rfl, rfl, rfl, rfl⟩, rfl⟩, tok_end ⟨4, ⟨#[]⟩, T, [], false⟩ E true (.slice va vn vc) F5.out HB.out (by simp) HRW.out⟩
set_option maxRecDepth 20000 in
set_option maxHeartbeats 4000000 in
theorem opened_w5b (s : ByteArray) (k : Nat) (hs : IsSm s.size) (hk : k < s.size) (P4 Q5 P6 : Bool) (HF : OpF s.data.toList k false true false false false true P4 Q5 P6) (w : World) (hl : Laid w) :
    Calls Tryd.prog 43 #[.string s, .int .i64 k] w fun e w' => ∃ (t : Tk) (E : Nat) (ok : Bool), OpR s.data.toList k t E ok ∧ TokOut w t E ok e w' := by
  have HL := Fact.mk hl
  clear hl
  have hsz := hs.le
  have h0 : (0 : Int) ≤ k := by omega
  have h1 : (k : Int) ≤ s.size := by omega
  obtain ⟨R, hR⟩ : ∃ R : ByteArray, s.extract k s.size = R := ⟨_, rfl⟩
  have hRd : R.data.toList = s.data.toList.drop k := by rw [← hR]; exact drop_data s k
  have hRm : IsSm R.size := by rw [← hR]; exact sub_sm s _ _ hs
  have fl1 := Fact.mk HF.l1
  have fl2 := Fact.mk HF.l2
  have fp1 : Fact ((⟨#[60, 47]⟩ : ByteArray).data.toList.isPrefixOf R.data.toList = true) := ⟨by rw [hRd]; exact HF.p1⟩
  have fp2 : Fact ((⟨#[60, 47, 62]⟩ : ByteArray).data.toList.isPrefixOf R.data.toList = false) := ⟨by rw [hRd]; exact HF.p2⟩
  have fp3 : Fact ((⟨#[60, 33, 45, 45]⟩ : ByteArray).data.toList.isPrefixOf R.data.toList = false) := ⟨by rw [hRd]; exact HF.p3⟩
  have fd : Fact ((⟨#[60, 33, 100, 111, 99, 116, 121, 112, 101]⟩ : ByteArray).data.toList.isPrefixOf (lwL R.data.toList) = true) := ⟨by rw [hRd]; exact HF.d⟩
  have fp4 : Fact ((⟨#[60, 33]⟩ : ByteArray).data.toList.isPrefixOf R.data.toList = P4) := ⟨by rw [hRd]; exact HF.p4⟩
  have fq5 : (R.toList == [60, 47]) = Q5 := by rw [Lib.toList_data, hRd]; exact HF.q5
  have fp6 : Fact ((⟨#[60, 63]⟩ : ByteArray).data.toList.isPrefixOf R.data.toList = P6) := ⟨by rw [hRd]; exact HF.p6⟩
  have hw1 : wrap64 ((k : Int) + 1) = (k : Int) + 1 := wrap_ok (m := k + 1) rfl ⟨by omega⟩
  have hw11 : wrap64 ((k : Int) + 1 + 1) = (k : Int) + 1 + 1 := wrap_ok (m := k + 2) (by push_cast; omega) ⟨by omega⟩
  have hw2 : wrap64 ((k : Int) + 2) = (k : Int) + 2 := wrap_ok (m := k + 2) rfl ⟨by omega⟩
  have hw3 : wrap64 ((k : Int) + 3) = (k : Int) + 3 := wrap_ok (m := k + 3) rfl ⟨by omega⟩
  have hw4 : wrap64 ((k : Int) + 4) = (k : Int) + 4 := wrap_ok (m := k + 4) rfl ⟨by omega⟩
  have hw9 : wrap64 ((k : Int) + 9) = (k : Int) + 9 := wrap_ok (m := k + 9) rfl ⟨by omega⟩
  have tokA : True := trivial
  have tokB : True := trivial
  have tokC : True := trivial
  have tokD : True := trivial
  have tokE : True := trivial
  have tokF : True := trivial
  have HFF := Fact.mk HF
  clear HF hRd
  have hroom : k + 9 ≤ s.size := pre_room2 HFF.out.d (Nat.le_of_lt hk)
  go_enter Tryd.func43, Tryd.ntmps43
  go_wp2_with (first
    | (have _t := tokA; go_at_call 57; refine (letterAt_at s _ (k + 1) (by first | rfl | omega) _ fl1 _).mono ?_; rintro e w1 ⟨rfl, rfl⟩; clear tokA _t)
    | (have _t := tokB; go_at_call 59; refine (prefix_any R ⟨#[60, 47]⟩ _ fp1 _).mono ?_; rintro e w1 ⟨rfl, rfl⟩; clear tokB _t)
    | (go_at_call 57; refine (letterAt_at s _ (k + 2) (by first | rfl | omega) _ fl2 _).mono ?_; rintro e w1 ⟨rfl, rfl⟩)
    | (have _t := tokC; go_at_call 59; refine (prefix_any R ⟨#[60, 47, 62]⟩ _ fp2 _).mono ?_; rintro e w1 ⟨rfl, rfl⟩; clear tokC _t)
    | (have _t := tokD; go_at_call 59; refine (prefix_any R ⟨#[60, 33, 45, 45]⟩ _ fp3 _).mono ?_; rintro e w1 ⟨rfl, rfl⟩; clear tokD _t)
    | (go_at_call 55; refine (begins_any R ⟨#[60, 33, 100, 111, 99, 116, 121, 112, 101]⟩ _ fd hRm _).mono ?_; rintro e w3 ⟨rfl, hb3⟩; have F3 := Fact.mk ((Five.new w _ _ _ _ _ _).keep hb3); have HB3 := Fact.mk ((bl1 w _).trans (hb3.mono (bl1 w _).size)); obtain ⟨c0, c1, c2, c3, c4, fz⟩ := F3.out; clear hb3)
    | (have _t := tokE; go_at_call 59; refine (prefix_any R ⟨#[60, 33]⟩ _ fp4 _).mono ?_; rintro e w1 ⟨rfl, rfl⟩; clear tokE _t)
    | (have _t := tokF; go_at_call 59; refine (prefix_any R ⟨#[60, 47]⟩ _ fp1 _).mono ?_; rintro e w1 ⟨rfl, rfl⟩; clear tokF _t)
    | (go_at_call 59; refine (prefix_any R ⟨#[60, 63]⟩ _ fp6 _).mono ?_; rintro e w1 ⟨rfl, rfl⟩)
    | (go_at_call 61; refine (call_doctype s _ (k + 9) (by first | rfl | omega) hs hroom _).mono ?_; rintro e w2 ⟨N, E, hC, v, rfl, hrow, hb2⟩; have HC := Fact.mk hC; have F5 := Fact.mk (F3.out.keep hb2); have HB := Fact.mk (HB3.out.trans (hb2.mono HB3.out.size)); obtain ⟨c0, c1, c2, c3, c4, fz⟩ := F5.out; have hv : ∃ a n cap, v = .slice a n cap := (by rcases hrow.2 with ⟨rfl, _⟩ | ⟨g, cap, cur, rfl, _⟩ <;> exact ⟨_, _, _, rfl⟩); obtain ⟨va, vn, vc, rfl⟩ := hv; have HRW := Fact.mk hrow; clear hb2 hC hrow))
  refine bodyPost_ret (results_tk 4 5 6 rfl rfl rfl rfl (F5.out.put (.int .i64 5) (.string N) (.string ⟨#[]⟩) (.slice va vn vc) (.bool false))) rfl ?_
  exact ⟨⟨5, N, ⟨#[]⟩, [], false⟩, E, true, HFF.out.op ⟨⟨rfl, HC.out.1.symm, rfl, rfl, rfl⟩, HC.out.2.symm, rfl⟩, tok_end ⟨5, N, ⟨#[]⟩, [], false⟩ E true (.slice va vn vc) F5.out HB.out F3.out.lt HRW.out⟩
set_option maxRecDepth 20000 in
set_option maxHeartbeats 4000000 in
theorem opened_w6b (s : ByteArray) (k : Nat) (hs : IsSm s.size) (hk : k < s.size) (Q5 P6 : Bool) (HF : OpF s.data.toList k false true false false false false true Q5 P6) (w : World) (hl : Laid w) :
    Calls Tryd.prog 43 #[.string s, .int .i64 k] w fun e w' => ∃ (t : Tk) (E : Nat) (ok : Bool), OpR s.data.toList k t E ok ∧ TokOut w t E ok e w' := by
  have HL := Fact.mk hl
  clear hl
  have hsz := hs.le
  have h0 : (0 : Int) ≤ k := by omega
  have h1 : (k : Int) ≤ s.size := by omega
  obtain ⟨R, hR⟩ : ∃ R : ByteArray, s.extract k s.size = R := ⟨_, rfl⟩
  have hRd : R.data.toList = s.data.toList.drop k := by rw [← hR]; exact drop_data s k
  have hRm : IsSm R.size := by rw [← hR]; exact sub_sm s _ _ hs
  have fl1 := Fact.mk HF.l1
  have fl2 := Fact.mk HF.l2
  have fp1 : Fact ((⟨#[60, 47]⟩ : ByteArray).data.toList.isPrefixOf R.data.toList = true) := ⟨by rw [hRd]; exact HF.p1⟩
  have fp2 : Fact ((⟨#[60, 47, 62]⟩ : ByteArray).data.toList.isPrefixOf R.data.toList = false) := ⟨by rw [hRd]; exact HF.p2⟩
  have fp3 : Fact ((⟨#[60, 33, 45, 45]⟩ : ByteArray).data.toList.isPrefixOf R.data.toList = false) := ⟨by rw [hRd]; exact HF.p3⟩
  have fd : Fact ((⟨#[60, 33, 100, 111, 99, 116, 121, 112, 101]⟩ : ByteArray).data.toList.isPrefixOf (lwL R.data.toList) = false) := ⟨by rw [hRd]; exact HF.d⟩
  have fp4 : Fact ((⟨#[60, 33]⟩ : ByteArray).data.toList.isPrefixOf R.data.toList = true) := ⟨by rw [hRd]; exact HF.p4⟩
  have fq5 : (R.toList == [60, 47]) = Q5 := by rw [Lib.toList_data, hRd]; exact HF.q5
  have fp6 : Fact ((⟨#[60, 63]⟩ : ByteArray).data.toList.isPrefixOf R.data.toList = P6) := ⟨by rw [hRd]; exact HF.p6⟩
  have hw1 : wrap64 ((k : Int) + 1) = (k : Int) + 1 := wrap_ok (m := k + 1) rfl ⟨by omega⟩
  have hw11 : wrap64 ((k : Int) + 1 + 1) = (k : Int) + 1 + 1 := wrap_ok (m := k + 2) (by push_cast; omega) ⟨by omega⟩
  have hw2 : wrap64 ((k : Int) + 2) = (k : Int) + 2 := wrap_ok (m := k + 2) rfl ⟨by omega⟩
  have hw3 : wrap64 ((k : Int) + 3) = (k : Int) + 3 := wrap_ok (m := k + 3) rfl ⟨by omega⟩
  have hw4 : wrap64 ((k : Int) + 4) = (k : Int) + 4 := wrap_ok (m := k + 4) rfl ⟨by omega⟩
  have hw9 : wrap64 ((k : Int) + 9) = (k : Int) + 9 := wrap_ok (m := k + 9) rfl ⟨by omega⟩
  have tokA : True := trivial
  have tokB : True := trivial
  have tokC : True := trivial
  have tokD : True := trivial
  have tokE : True := trivial
  have tokF : True := trivial
  have HFF := Fact.mk HF
  clear HF hRd
  have hroom0 : k + 2 ≤ s.size := pre_room HFF.out.p4 (Nat.le_of_lt hk)
  obtain ⟨K, hK⟩ : ∃ K, k + 2 = K := ⟨_, rfl⟩
  have HK := Fact.mk hK
  have hroom : K ≤ s.size := by omega
  obtain ⟨U, hU⟩ : ∃ U, Fact (spE (fun x => x != (62 : UInt8)) s.data.toList K = U) := ⟨_, ⟨rfl⟩⟩
  have hKU : K ≤ U := by rw [← hU.out]; exact spE_ge _ _ _
  have hUle : U ≤ s.size := by rw [← hU.out, Lib.size_eq]; exact spE_le _ (by rw [← Lib.size_eq]; exact hroom)
  obtain ⟨P, hP⟩ : ∃ P, Fact (min (U + 1) s.size = P) := ⟨_, ⟨rfl⟩⟩
  obtain ⟨S2, hS2⟩ : ∃ S2 : ByteArray, s.extract K U = S2 := ⟨_, rfl⟩
  have HB0 : Fact (∀ t, t = (⟨4, ⟨#[]⟩, S2, [], false⟩ : Tk) → BogR s.data.toList (k + 2) t P true) := ⟨fun t ht => by
    subst ht
    unfold BogR
    rw [HK.out, hU.out]
    exact ⟨⟨rfl, rfl, by rw [← hS2]; exact sub_data s _ _ hKU, rfl, rfl⟩, by rw [← hP.out, ← Lib.size_eq], rfl⟩⟩
  have b1 : (K : Int) ≤ U := by omega
  have b2 : (U : Int) ≤ s.size := by omega
  have b0 : (0 : Int) ≤ K := by omega
  have e1 : (k : Int) + 2 = K := by omega
  have e2 : (k : Int) + 1 + 1 = K := by omega
  go_enter Tryd.func43, Tryd.ntmps43
  go_wp2_with (first
    | (have _t := tokA; go_at_call 57; refine (letterAt_at s _ (k + 1) (by first | rfl | omega) _ fl1 _).mono ?_; rintro e w1 ⟨rfl, rfl⟩; clear tokA _t)
    | (have _t := tokB; go_at_call 59; refine (prefix_any R ⟨#[60, 47]⟩ _ fp1 _).mono ?_; rintro e w1 ⟨rfl, rfl⟩; clear tokB _t)
    | (go_at_call 57; refine (letterAt_at s _ (k + 2) (by first | rfl | omega) _ fl2 _).mono ?_; rintro e w1 ⟨rfl, rfl⟩)
    | (have _t := tokC; go_at_call 59; refine (prefix_any R ⟨#[60, 47, 62]⟩ _ fp2 _).mono ?_; rintro e w1 ⟨rfl, rfl⟩; clear tokC _t)
    | (have _t := tokD; go_at_call 59; refine (prefix_any R ⟨#[60, 33, 45, 45]⟩ _ fp3 _).mono ?_; rintro e w1 ⟨rfl, rfl⟩; clear tokD _t)
    | (go_at_call 55; refine (begins_any R ⟨#[60, 33, 100, 111, 99, 116, 121, 112, 101]⟩ _ fd hRm _).mono ?_; rintro e w3 ⟨rfl, hb3⟩; have F3 := Fact.mk ((Five.new w _ _ _ _ _ _).keep hb3); have HB3 := Fact.mk ((bl1 w _).trans (hb3.mono (bl1 w _).size)); obtain ⟨c0, c1, c2, c3, c4, fz⟩ := F3.out; clear hb3)
    | (have _t := tokE; go_at_call 59; refine (prefix_any R ⟨#[60, 33]⟩ _ fp4 _).mono ?_; rintro e w1 ⟨rfl, rfl⟩; clear tokE _t)
    | (have _t := tokF; go_at_call 59; refine (prefix_any R ⟨#[60, 47]⟩ _ fp1 _).mono ?_; rintro e w1 ⟨rfl, rfl⟩; clear tokF _t)
    | (go_at_call 59; refine (prefix_any R ⟨#[60, 63]⟩ _ fp6 _).mono ?_; rintro e w1 ⟨rfl, rfl⟩)
    | (go_at_call 54; refine (upTo_at s _ _ K U 62 (by first | rfl | omega) rfl hs hroom hU _).mono ?_; rintro e w4 ⟨rfl, rfl⟩))
  go_region_held3 (fun _ => True) (exact trivial) (first | (go_at_call 62; refine (past_any s U P hs hUle hP _).mono ?_; rintro e w9 ⟨rfl, rfl⟩))
  all_goals
    go_wp2_with fail
    refine bodyPost_ret (results_tk 4 5 6 rfl rfl rfl rfl (F3.out.put (.int .i64 4) (.string ⟨#[]⟩) (.string S2) (.slice none 0 0) (.bool false)).drew) rfl ?_
    exact ⟨⟨4, ⟨#[]⟩, S2, [], false⟩, P, true, HFF.out.op (HB0.out _ rfl), (tok_end ⟨4, ⟨#[]⟩, S2, [], false⟩ P true (.slice none 0 0) F3.out HB3.out (Nat.lt_succ_self _) (no_row _ _)).drew⟩
set_option maxRecDepth 20000 in
set_option maxHeartbeats 4000000 in
theorem opened_w6c (s : ByteArray) (k : Nat) (hs : IsSm s.size) (hk : k < s.size) (P6 : Bool) (HF : OpF s.data.toList k false true false false false false false false P6) (w : World) (hl : Laid w) :
    Calls Tryd.prog 43 #[.string s, .int .i64 k] w fun e w' => ∃ (t : Tk) (E : Nat) (ok : Bool), OpR s.data.toList k t E ok ∧ TokOut w t E ok e w' := by
  have HL := Fact.mk hl
  clear hl
  have hsz := hs.le
  have h0 : (0 : Int) ≤ k := by omega
  have h1 : (k : Int) ≤ s.size := by omega
  obtain ⟨R, hR⟩ : ∃ R : ByteArray, s.extract k s.size = R := ⟨_, rfl⟩
  have hRd : R.data.toList = s.data.toList.drop k := by rw [← hR]; exact drop_data s k
  have hRm : IsSm R.size := by rw [← hR]; exact sub_sm s _ _ hs
  have fl1 := Fact.mk HF.l1
  have fl2 := Fact.mk HF.l2
  have fp1 : Fact ((⟨#[60, 47]⟩ : ByteArray).data.toList.isPrefixOf R.data.toList = true) := ⟨by rw [hRd]; exact HF.p1⟩
  have fp2 : Fact ((⟨#[60, 47, 62]⟩ : ByteArray).data.toList.isPrefixOf R.data.toList = false) := ⟨by rw [hRd]; exact HF.p2⟩
  have fp3 : Fact ((⟨#[60, 33, 45, 45]⟩ : ByteArray).data.toList.isPrefixOf R.data.toList = false) := ⟨by rw [hRd]; exact HF.p3⟩
  have fd : Fact ((⟨#[60, 33, 100, 111, 99, 116, 121, 112, 101]⟩ : ByteArray).data.toList.isPrefixOf (lwL R.data.toList) = false) := ⟨by rw [hRd]; exact HF.d⟩
  have fp4 : Fact ((⟨#[60, 33]⟩ : ByteArray).data.toList.isPrefixOf R.data.toList = false) := ⟨by rw [hRd]; exact HF.p4⟩
  have fq5 : (R.toList == [60, 47]) = false := by rw [Lib.toList_data, hRd]; exact HF.q5
  have fp6 : Fact ((⟨#[60, 63]⟩ : ByteArray).data.toList.isPrefixOf R.data.toList = P6) := ⟨by rw [hRd]; exact HF.p6⟩
  have hw1 : wrap64 ((k : Int) + 1) = (k : Int) + 1 := wrap_ok (m := k + 1) rfl ⟨by omega⟩
  have hw11 : wrap64 ((k : Int) + 1 + 1) = (k : Int) + 1 + 1 := wrap_ok (m := k + 2) (by push_cast; omega) ⟨by omega⟩
  have hw2 : wrap64 ((k : Int) + 2) = (k : Int) + 2 := wrap_ok (m := k + 2) rfl ⟨by omega⟩
  have hw3 : wrap64 ((k : Int) + 3) = (k : Int) + 3 := wrap_ok (m := k + 3) rfl ⟨by omega⟩
  have hw4 : wrap64 ((k : Int) + 4) = (k : Int) + 4 := wrap_ok (m := k + 4) rfl ⟨by omega⟩
  have hw9 : wrap64 ((k : Int) + 9) = (k : Int) + 9 := wrap_ok (m := k + 9) rfl ⟨by omega⟩
  have tokA : True := trivial
  have tokB : True := trivial
  have tokC : True := trivial
  have tokD : True := trivial
  have tokE : True := trivial
  have tokF : True := trivial
  have HFF := Fact.mk HF
  clear HF hRd
  have hroom0 : k + 2 ≤ s.size := pre_room HFF.out.p1 (Nat.le_of_lt hk)
  obtain ⟨K, hK⟩ : ∃ K, k + 2 = K := ⟨_, rfl⟩
  have HK := Fact.mk hK
  have hroom : K ≤ s.size := by omega
  obtain ⟨U, hU⟩ : ∃ U, Fact (spE (fun x => x != (62 : UInt8)) s.data.toList K = U) := ⟨_, ⟨rfl⟩⟩
  have hKU : K ≤ U := by rw [← hU.out]; exact spE_ge _ _ _
  have hUle : U ≤ s.size := by rw [← hU.out, Lib.size_eq]; exact spE_le _ (by rw [← Lib.size_eq]; exact hroom)
  obtain ⟨P, hP⟩ : ∃ P, Fact (min (U + 1) s.size = P) := ⟨_, ⟨rfl⟩⟩
  obtain ⟨S2, hS2⟩ : ∃ S2 : ByteArray, s.extract K U = S2 := ⟨_, rfl⟩
  have HB0 : Fact (∀ t, t = (⟨4, ⟨#[]⟩, S2, [], false⟩ : Tk) → BogR s.data.toList (k + 2) t P true) := ⟨fun t ht => by
    subst ht
    unfold BogR
    rw [HK.out, hU.out]
    exact ⟨⟨rfl, rfl, by rw [← hS2]; exact sub_data s _ _ hKU, rfl, rfl⟩, by rw [← hP.out, ← Lib.size_eq], rfl⟩⟩
  have b1 : (K : Int) ≤ U := by omega
  have b2 : (U : Int) ≤ s.size := by omega
  have b0 : (0 : Int) ≤ K := by omega
  have e1 : (k : Int) + 2 = K := by omega
  have e2 : (k : Int) + 1 + 1 = K := by omega
  go_enter Tryd.func43, Tryd.ntmps43
  go_wp2_with (first
    | (have _t := tokA; go_at_call 57; refine (letterAt_at s _ (k + 1) (by first | rfl | omega) _ fl1 _).mono ?_; rintro e w1 ⟨rfl, rfl⟩; clear tokA _t)
    | (have _t := tokB; go_at_call 59; refine (prefix_any R ⟨#[60, 47]⟩ _ fp1 _).mono ?_; rintro e w1 ⟨rfl, rfl⟩; clear tokB _t)
    | (go_at_call 57; refine (letterAt_at s _ (k + 2) (by first | rfl | omega) _ fl2 _).mono ?_; rintro e w1 ⟨rfl, rfl⟩)
    | (have _t := tokC; go_at_call 59; refine (prefix_any R ⟨#[60, 47, 62]⟩ _ fp2 _).mono ?_; rintro e w1 ⟨rfl, rfl⟩; clear tokC _t)
    | (have _t := tokD; go_at_call 59; refine (prefix_any R ⟨#[60, 33, 45, 45]⟩ _ fp3 _).mono ?_; rintro e w1 ⟨rfl, rfl⟩; clear tokD _t)
    | (go_at_call 55; refine (begins_any R ⟨#[60, 33, 100, 111, 99, 116, 121, 112, 101]⟩ _ fd hRm _).mono ?_; rintro e w3 ⟨rfl, hb3⟩; have F3 := Fact.mk ((Five.new w _ _ _ _ _ _).keep hb3); have HB3 := Fact.mk ((bl1 w _).trans (hb3.mono (bl1 w _).size)); obtain ⟨c0, c1, c2, c3, c4, fz⟩ := F3.out; clear hb3)
    | (have _t := tokE; go_at_call 59; refine (prefix_any R ⟨#[60, 33]⟩ _ fp4 _).mono ?_; rintro e w1 ⟨rfl, rfl⟩; clear tokE _t)
    | (have _t := tokF; go_at_call 59; refine (prefix_any R ⟨#[60, 47]⟩ _ fp1 _).mono ?_; rintro e w1 ⟨rfl, rfl⟩; clear tokF _t)
    | (go_at_call 59; refine (prefix_any R ⟨#[60, 63]⟩ _ fp6 _).mono ?_; rintro e w1 ⟨rfl, rfl⟩)
    | (go_at_call 54; refine (upTo_at s _ _ K U 62 (by first | rfl | omega) rfl hs hroom hU _).mono ?_; rintro e w4 ⟨rfl, rfl⟩))
  go_region_held3 (fun _ => True) (exact trivial) (first | (go_at_call 62; refine (past_any s U P hs hUle hP _).mono ?_; rintro e w9 ⟨rfl, rfl⟩))
  all_goals
    go_wp2_with fail
    refine bodyPost_ret (results_tk 4 5 6 rfl rfl rfl rfl (F3.out.put (.int .i64 4) (.string ⟨#[]⟩) (.string S2) (.slice none 0 0) (.bool false)).drew) rfl ?_
    exact ⟨⟨4, ⟨#[]⟩, S2, [], false⟩, P, true, HFF.out.op (HB0.out _ rfl), (tok_end ⟨4, ⟨#[]⟩, S2, [], false⟩ P true (.slice none 0 0) F3.out HB3.out (Nat.lt_succ_self _) (no_row _ _)).drew⟩
set_option maxRecDepth 20000 in
set_option maxHeartbeats 4000000 in
theorem opened_w7b (s : ByteArray) (k : Nat) (hs : IsSm s.size) (hk : k < s.size) (HF : OpF s.data.toList k false true false false false false false true true) (w : World) (hl : Laid w) :
    Calls Tryd.prog 43 #[.string s, .int .i64 k] w fun e w' => ∃ (t : Tk) (E : Nat) (ok : Bool), OpR s.data.toList k t E ok ∧ TokOut w t E ok e w' := by
  have HL := Fact.mk hl
  clear hl
  have hsz := hs.le
  have h0 : (0 : Int) ≤ k := by omega
  have h1 : (k : Int) ≤ s.size := by omega
  obtain ⟨R, hR⟩ : ∃ R : ByteArray, s.extract k s.size = R := ⟨_, rfl⟩
  have hRd : R.data.toList = s.data.toList.drop k := by rw [← hR]; exact drop_data s k
  have hRm : IsSm R.size := by rw [← hR]; exact sub_sm s _ _ hs
  have fl1 := Fact.mk HF.l1
  have fl2 := Fact.mk HF.l2
  have fp1 : Fact ((⟨#[60, 47]⟩ : ByteArray).data.toList.isPrefixOf R.data.toList = true) := ⟨by rw [hRd]; exact HF.p1⟩
  have fp2 : Fact ((⟨#[60, 47, 62]⟩ : ByteArray).data.toList.isPrefixOf R.data.toList = false) := ⟨by rw [hRd]; exact HF.p2⟩
  have fp3 : Fact ((⟨#[60, 33, 45, 45]⟩ : ByteArray).data.toList.isPrefixOf R.data.toList = false) := ⟨by rw [hRd]; exact HF.p3⟩
  have fd : Fact ((⟨#[60, 33, 100, 111, 99, 116, 121, 112, 101]⟩ : ByteArray).data.toList.isPrefixOf (lwL R.data.toList) = false) := ⟨by rw [hRd]; exact HF.d⟩
  have fp4 : Fact ((⟨#[60, 33]⟩ : ByteArray).data.toList.isPrefixOf R.data.toList = false) := ⟨by rw [hRd]; exact HF.p4⟩
  have fq5 : (R.toList == [60, 47]) = true := by rw [Lib.toList_data, hRd]; exact HF.q5
  have fp6 : Fact ((⟨#[60, 63]⟩ : ByteArray).data.toList.isPrefixOf R.data.toList = true) := ⟨by rw [hRd]; exact HF.p6⟩
  have hw1 : wrap64 ((k : Int) + 1) = (k : Int) + 1 := wrap_ok (m := k + 1) rfl ⟨by omega⟩
  have hw11 : wrap64 ((k : Int) + 1 + 1) = (k : Int) + 1 + 1 := wrap_ok (m := k + 2) (by push_cast; omega) ⟨by omega⟩
  have hw2 : wrap64 ((k : Int) + 2) = (k : Int) + 2 := wrap_ok (m := k + 2) rfl ⟨by omega⟩
  have hw3 : wrap64 ((k : Int) + 3) = (k : Int) + 3 := wrap_ok (m := k + 3) rfl ⟨by omega⟩
  have hw4 : wrap64 ((k : Int) + 4) = (k : Int) + 4 := wrap_ok (m := k + 4) rfl ⟨by omega⟩
  have hw9 : wrap64 ((k : Int) + 9) = (k : Int) + 9 := wrap_ok (m := k + 9) rfl ⟨by omega⟩
  have tokA : True := trivial
  have tokB : True := trivial
  have tokC : True := trivial
  have tokD : True := trivial
  have tokE : True := trivial
  have tokF : True := trivial
  have HFF := Fact.mk HF
  clear HF hRd
  have hroom0 : k + 1 ≤ s.size := hk
  obtain ⟨K, hK⟩ : ∃ K, k + 1 = K := ⟨_, rfl⟩
  have HK := Fact.mk hK
  have hroom : K ≤ s.size := by omega
  obtain ⟨U, hU⟩ : ∃ U, Fact (spE (fun x => x != (62 : UInt8)) s.data.toList K = U) := ⟨_, ⟨rfl⟩⟩
  have hKU : K ≤ U := by rw [← hU.out]; exact spE_ge _ _ _
  have hUle : U ≤ s.size := by rw [← hU.out, Lib.size_eq]; exact spE_le _ (by rw [← Lib.size_eq]; exact hroom)
  obtain ⟨P, hP⟩ : ∃ P, Fact (min (U + 1) s.size = P) := ⟨_, ⟨rfl⟩⟩
  obtain ⟨S2, hS2⟩ : ∃ S2 : ByteArray, s.extract K U = S2 := ⟨_, rfl⟩
  have HB0 : Fact (∀ t, t = (⟨4, ⟨#[]⟩, S2, [], false⟩ : Tk) → BogR s.data.toList (k + 1) t P true) := ⟨fun t ht => by
    subst ht
    unfold BogR
    rw [HK.out, hU.out]
    exact ⟨⟨rfl, rfl, by rw [← hS2]; exact sub_data s _ _ hKU, rfl, rfl⟩, by rw [← hP.out, ← Lib.size_eq], rfl⟩⟩
  have b1 : (K : Int) ≤ U := by omega
  have b2 : (U : Int) ≤ s.size := by omega
  have b0 : (0 : Int) ≤ K := by omega
  have e1 : (k : Int) + 1 = K := by omega
  go_enter Tryd.func43, Tryd.ntmps43
  go_wp2_with (first
    | (have _t := tokA; go_at_call 57; refine (letterAt_at s _ (k + 1) (by first | rfl | omega) _ fl1 _).mono ?_; rintro e w1 ⟨rfl, rfl⟩; clear tokA _t)
    | (have _t := tokB; go_at_call 59; refine (prefix_any R ⟨#[60, 47]⟩ _ fp1 _).mono ?_; rintro e w1 ⟨rfl, rfl⟩; clear tokB _t)
    | (go_at_call 57; refine (letterAt_at s _ (k + 2) (by first | rfl | omega) _ fl2 _).mono ?_; rintro e w1 ⟨rfl, rfl⟩)
    | (have _t := tokC; go_at_call 59; refine (prefix_any R ⟨#[60, 47, 62]⟩ _ fp2 _).mono ?_; rintro e w1 ⟨rfl, rfl⟩; clear tokC _t)
    | (have _t := tokD; go_at_call 59; refine (prefix_any R ⟨#[60, 33, 45, 45]⟩ _ fp3 _).mono ?_; rintro e w1 ⟨rfl, rfl⟩; clear tokD _t)
    | (go_at_call 55; refine (begins_any R ⟨#[60, 33, 100, 111, 99, 116, 121, 112, 101]⟩ _ fd hRm _).mono ?_; rintro e w3 ⟨rfl, hb3⟩; have F3 := Fact.mk ((Five.new w _ _ _ _ _ _).keep hb3); have HB3 := Fact.mk ((bl1 w _).trans (hb3.mono (bl1 w _).size)); obtain ⟨c0, c1, c2, c3, c4, fz⟩ := F3.out; clear hb3)
    | (have _t := tokE; go_at_call 59; refine (prefix_any R ⟨#[60, 33]⟩ _ fp4 _).mono ?_; rintro e w1 ⟨rfl, rfl⟩; clear tokE _t)
    | (have _t := tokF; go_at_call 59; refine (prefix_any R ⟨#[60, 47]⟩ _ fp1 _).mono ?_; rintro e w1 ⟨rfl, rfl⟩; clear tokF _t)
    | (go_at_call 59; refine (prefix_any R ⟨#[60, 63]⟩ _ fp6 _).mono ?_; rintro e w1 ⟨rfl, rfl⟩)
    | (go_at_call 54; refine (upTo_at s _ _ K U 62 (by first | rfl | omega) rfl hs hroom hU _).mono ?_; rintro e w4 ⟨rfl, rfl⟩))
  go_region_held3 (fun _ => True) (exact trivial) (first | (go_at_call 62; refine (past_any s U P hs hUle hP _).mono ?_; rintro e w9 ⟨rfl, rfl⟩))
  all_goals
    go_wp2_with fail
    refine bodyPost_ret (results_tk 4 5 6 rfl rfl rfl rfl (F3.out.put (.int .i64 4) (.string ⟨#[]⟩) (.string S2) (.slice none 0 0) (.bool false)).drew) rfl ?_
    exact ⟨⟨4, ⟨#[]⟩, S2, [], false⟩, P, true, HFF.out.op (HB0.out _ rfl), (tok_end ⟨4, ⟨#[]⟩, S2, [], false⟩ P true (.slice none 0 0) F3.out HB3.out (Nat.lt_succ_self _) (no_row _ _)).drew⟩
set_option maxRecDepth 20000 in
set_option maxHeartbeats 4000000 in
theorem opened_w8b (s : ByteArray) (k : Nat) (hs : IsSm s.size) (hk : k < s.size) (HF : OpF s.data.toList k false true false false false false false true false) (w : World) (hl : Laid w) :
    Calls Tryd.prog 43 #[.string s, .int .i64 k] w fun e w' => ∃ (t : Tk) (E : Nat) (ok : Bool), OpR s.data.toList k t E ok ∧ TokOut w t E ok e w' := by
  have HL := Fact.mk hl
  clear hl
  have hsz := hs.le
  have h0 : (0 : Int) ≤ k := by omega
  have h1 : (k : Int) ≤ s.size := by omega
  obtain ⟨R, hR⟩ : ∃ R : ByteArray, s.extract k s.size = R := ⟨_, rfl⟩
  have hRd : R.data.toList = s.data.toList.drop k := by rw [← hR]; exact drop_data s k
  have hRm : IsSm R.size := by rw [← hR]; exact sub_sm s _ _ hs
  have fl1 := Fact.mk HF.l1
  have fl2 := Fact.mk HF.l2
  have fp1 : Fact ((⟨#[60, 47]⟩ : ByteArray).data.toList.isPrefixOf R.data.toList = true) := ⟨by rw [hRd]; exact HF.p1⟩
  have fp2 : Fact ((⟨#[60, 47, 62]⟩ : ByteArray).data.toList.isPrefixOf R.data.toList = false) := ⟨by rw [hRd]; exact HF.p2⟩
  have fp3 : Fact ((⟨#[60, 33, 45, 45]⟩ : ByteArray).data.toList.isPrefixOf R.data.toList = false) := ⟨by rw [hRd]; exact HF.p3⟩
  have fd : Fact ((⟨#[60, 33, 100, 111, 99, 116, 121, 112, 101]⟩ : ByteArray).data.toList.isPrefixOf (lwL R.data.toList) = false) := ⟨by rw [hRd]; exact HF.d⟩
  have fp4 : Fact ((⟨#[60, 33]⟩ : ByteArray).data.toList.isPrefixOf R.data.toList = false) := ⟨by rw [hRd]; exact HF.p4⟩
  have fq5 : (R.toList == [60, 47]) = true := by rw [Lib.toList_data, hRd]; exact HF.q5
  have fp6 : Fact ((⟨#[60, 63]⟩ : ByteArray).data.toList.isPrefixOf R.data.toList = false) := ⟨by rw [hRd]; exact HF.p6⟩
  have hw1 : wrap64 ((k : Int) + 1) = (k : Int) + 1 := wrap_ok (m := k + 1) rfl ⟨by omega⟩
  have hw11 : wrap64 ((k : Int) + 1 + 1) = (k : Int) + 1 + 1 := wrap_ok (m := k + 2) (by push_cast; omega) ⟨by omega⟩
  have hw2 : wrap64 ((k : Int) + 2) = (k : Int) + 2 := wrap_ok (m := k + 2) rfl ⟨by omega⟩
  have hw3 : wrap64 ((k : Int) + 3) = (k : Int) + 3 := wrap_ok (m := k + 3) rfl ⟨by omega⟩
  have hw4 : wrap64 ((k : Int) + 4) = (k : Int) + 4 := wrap_ok (m := k + 4) rfl ⟨by omega⟩
  have hw9 : wrap64 ((k : Int) + 9) = (k : Int) + 9 := wrap_ok (m := k + 9) rfl ⟨by omega⟩
  have tokA : True := trivial
  have tokB : True := trivial
  have tokC : True := trivial
  have tokD : True := trivial
  have tokE : True := trivial
  have tokF : True := trivial
  have HFF := Fact.mk HF
  clear HF hRd
  go_enter Tryd.func43, Tryd.ntmps43
  go_wp2_with (first
    | (have _t := tokA; go_at_call 57; refine (letterAt_at s _ (k + 1) (by first | rfl | omega) _ fl1 _).mono ?_; rintro e w1 ⟨rfl, rfl⟩; clear tokA _t)
    | (have _t := tokB; go_at_call 59; refine (prefix_any R ⟨#[60, 47]⟩ _ fp1 _).mono ?_; rintro e w1 ⟨rfl, rfl⟩; clear tokB _t)
    | (go_at_call 57; refine (letterAt_at s _ (k + 2) (by first | rfl | omega) _ fl2 _).mono ?_; rintro e w1 ⟨rfl, rfl⟩)
    | (have _t := tokC; go_at_call 59; refine (prefix_any R ⟨#[60, 47, 62]⟩ _ fp2 _).mono ?_; rintro e w1 ⟨rfl, rfl⟩; clear tokC _t)
    | (have _t := tokD; go_at_call 59; refine (prefix_any R ⟨#[60, 33, 45, 45]⟩ _ fp3 _).mono ?_; rintro e w1 ⟨rfl, rfl⟩; clear tokD _t)
    | (go_at_call 55; refine (begins_any R ⟨#[60, 33, 100, 111, 99, 116, 121, 112, 101]⟩ _ fd hRm _).mono ?_; rintro e w3 ⟨rfl, hb3⟩; have F3 := Fact.mk ((Five.new w _ _ _ _ _ _).keep hb3); have HB3 := Fact.mk ((bl1 w _).trans (hb3.mono (bl1 w _).size)); obtain ⟨c0, c1, c2, c3, c4, fz⟩ := F3.out; clear hb3)
    | (have _t := tokE; go_at_call 59; refine (prefix_any R ⟨#[60, 33]⟩ _ fp4 _).mono ?_; rintro e w1 ⟨rfl, rfl⟩; clear tokE _t)
    | (have _t := tokF; go_at_call 59; refine (prefix_any R ⟨#[60, 47]⟩ _ fp1 _).mono ?_; rintro e w1 ⟨rfl, rfl⟩; clear tokF _t)
    | (go_at_call 59; refine (prefix_any R ⟨#[60, 63]⟩ _ fp6 _).mono ?_; rintro e w1 ⟨rfl, rfl⟩))
  refine bodyPost_ret (results_tk 4 5 6 rfl rfl rfl rfl (F3.out.put (.int .i64 3) (.string ⟨#[]⟩) (.string ⟨#[60]⟩) (.slice none 0 0) (.bool false))) rfl ?_
  exact ⟨⟨3, ⟨#[]⟩, ⟨#[60]⟩, [], false⟩, k + 1, true, HFF.out.op ⟨⟨rfl, rfl, rfl, rfl, rfl⟩, rfl, rfl⟩, tok_end ⟨3, ⟨#[]⟩, ⟨#[60]⟩, [], false⟩ (k + 1) true (.slice none 0 0) F3.out HB3.out (Nat.lt_succ_self _) (no_row _ _)⟩
theorem opened_any (s : ByteArray) (k : Nat) (hs : IsSm s.size) (hk : k < s.size) (w : World) (hl : Laid w) :
    Calls Tryd.prog 43 #[.string s, .int .i64 k] w fun e w' => ∃ (t : Tk) (E : Nat) (ok : Bool), OpR s.data.toList k t E ok ∧ TokOut w t E ok e w' := by
  obtain ⟨L1, P1, L2, P2, P3, D, P4, Q5, P6, h⟩ : ∃ L1 P1 L2 P2 P3 D P4 Q5 P6, OpF s.data.toList k L1 P1 L2 P2 P3 D P4 Q5 P6 := ⟨_, _, _, _, _, _, _, _, _, ⟨rfl, rfl, rfl, rfl, rfl, rfl, rfl, rfl, rfl⟩⟩
  cases L1
  · cases P1
    · cases P2
      · cases P3
        · cases D
          · cases P4
            · cases P6
              · exact opened_w8a s k hs hk _ _ h w hl
              · exact opened_w7a s k hs hk _ _ h w hl
            · exact opened_w6a s k hs hk _ _ _ h w hl
          · exact opened_w5a s k hs hk _ _ _ _ h w hl
        · exact opened_w4a s k hs hk _ _ _ _ _ h w hl
      · exact opened_w3a s k hs hk _ _ _ _ _ _ h w hl
    · cases L2
      · cases P2
        · cases P3
          · cases D
            · cases P4
              · cases Q5
                · exact opened_w6c s k hs hk _ h w hl
                · cases P6
                  · exact opened_w8b s k hs hk  h w hl
                  · exact opened_w7b s k hs hk  h w hl
              · exact opened_w6b s k hs hk _ _ h w hl
            · exact opened_w5b s k hs hk _ _ _ h w hl
          · exact opened_w4b s k hs hk _ _ _ _ h w hl
        · exact opened_w3b s k hs hk _ _ _ _ _ h w hl
      · exact opened_w2 s k hs hk _ _ _ _ _ _ h w hl
  · exact opened_w1 s k hs hk _ _ _ _ _ _ _ _ h w hl
end Go.Proofs.YtdniddiaiinggaaDoor
