/- Next: what it answers. -/
import Derived.Test.YtdniddiaiinggaaDoorTL
set_option linter.unusedVariables false
namespace Go.Proofs.YtdniddiaiinggaaDoor
open Go.RowKit M

/-- what stands at a place, no raw element being open -/
def NxN (l : List UInt8) (k : Nat) (t : Tk) (E : Nat) (ok : Bool) : Prop :=
  if bAt l k = 60 then OpR l k t E ok else t.Is 3 [] (decB false (sub l k (spE (txP (blk (bAt l k))) l k))) [] false ∧ E = spE (txP (blk (bAt l k))) l k ∧ ok = true
/-- what stands at a place -/
def NxR (l : List UInt8) (k : Nat) (raw : List UInt8) (t : Tk) (E : Nat) (ok : Bool) : Prop :=
  if raw = [] then NxN l k t E ok
  else ∃ B, IsFirst (fun j => endT (lwL raw) (l.drop j)) l.length k B ∧ if k < B then t.Is 3 [] (rawX (sub l k B) raw) [] true ∧ E = B ∧ ok = true else NxN l k t E ok
set_option maxRecDepth 20000 in
set_option maxHeartbeats 1000000 in
theorem next_out (s raw : ByteArray) (a : Int) (ha : a < 0 ∨ (s.size : Int) ≤ a) (w : World) : Calls Tryd.prog 31 #[.string s, .int .i64 a, .string raw] w fun e w' => TokOut w ⟨6, ⟨#[]⟩, ⟨#[]⟩, [], false⟩ s.size true e w' := by
  by_cases h : a < 0
  · have q1 : decide (a < 0) = true := decide_eq_true h
    clear ha
    go_enter Tryd.func31, Tryd.ntmps31
    go_wp2_with fail
    refine bodyPost_ret (v := .tuple #[tokV 6 ⟨#[]⟩ ⟨#[]⟩ (.slice none 0 0) false, .int .i64 s.size, .bool true]) (by simp [results, Tryd.f31, go_sem]) rfl ?_
    exact ⟨.slice none 0 0, rfl, no_row _ _, bl1 w _⟩
  · have q1 : decide (a < 0) = false := decide_eq_false h
    have h2 : (s.size : Int) ≤ a := by omega
    have q2 : decide ((s.size : Int) ≤ a) = true := decide_eq_true h2
    clear ha
    go_enter Tryd.func31, Tryd.ntmps31
    go_wp2_with fail
    refine bodyPost_ret (v := .tuple #[tokV 6 ⟨#[]⟩ ⟨#[]⟩ (.slice none 0 0) false, .int .i64 s.size, .bool true]) (by simp [results, Tryd.f31, go_sem]) rfl ?_
    exact ⟨.slice none 0 0, rfl, no_row _ _, bl1 w _⟩
set_option maxRecDepth 20000 in
set_option maxHeartbeats 2000000 in
theorem next_a (s raw : ByteArray) (k : Nat) (hs : IsSm s.size) (hr : IsSm raw.size) (hk : k < s.size) (hraw : raw.data.toList = [])  (c60 : bAt s.data.toList k = 60) (w : World) (hl : Laid w) :
    Calls Tryd.prog 31 #[.string s, .int .i64 k, .string raw] w fun e w' => ∃ (t : Tk) (E : Nat) (ok : Bool), NxR s.data.toList k raw.data.toList t E ok ∧ TokOut w t E ok e w' := by
  have HL := Fact.mk hl
  clear hl
  have hsz := hs.le
  have h0 : (0 : Int) ≤ k := by omega
  have h1 : (k : Int) < s.size := by omega
  have q1 : decide ((k : Int) < 0) = false := decide_eq_false (by omega)
  have q2 : decide ((s.size : Int) ≤ k) = false := decide_eq_false (by omega)
  have q2n : decide (s.size ≤ k) = false := decide_eq_false (by omega)
  obtain ⟨c, hc⟩ : ∃ c, bAt s.data.toList k = c := ⟨_, rfl⟩
  have hcc : s[k] = c := by rw [← byte_at s k hk]; exact hc
  have er : raw = ⟨#[]⟩ := tx_ext hraw
  subst er
  have HN : Fact (∀ t E ok, NxN s.data.toList k t E ok → NxR s.data.toList k [] t E ok) := ⟨fun t E ok h => by unfold NxR; rw [if_pos rfl]; exact h⟩
  rw [hc] at c60
  have q5 : ((c.toNat : Int) == 60) = true := by rw [c60]; rfl
  have C60 : Fact (bAt s.data.toList k = 60) := ⟨by rw [hc]; exact c60⟩
  clear hc c60
  go_enter Tryd.func31, Tryd.ntmps31
  go_wp2_with (first | (go_at_call 43; refine (opened_any s k hs hk _ (HL.out.since (bl1 w _))).mono ?_; rintro e w2 ⟨⟨kd, N, X, AA, r⟩, E, ok, hTR, v, rfl, hrow, hb2⟩; have HTR := Fact.mk hTR; have F5 := Fact.mk ((Five.new w _ _ _ _ _ _).keep hb2); have HB := Fact.mk ((bl1 w _).trans (hb2.mono (bl1 w _).size)); have HLT : w.heap.size < (w.alloc (.cells #[.int .i64 0, .string ⟨#[]⟩, .string ⟨#[]⟩, .slice none 0 0, .bool false] 27)).heap.size := (by simp); have HLF := Fact.mk HLT; clear HLT; obtain ⟨c0, c1, c2, c3, c4, fz⟩ := F5.out; have hv : ∃ a n cap, v = .slice a n cap := (by rcases hrow.2 with ⟨rfl, _⟩ | ⟨g, cap, cur, rfl, _⟩ <;> exact ⟨_, _, _, rfl⟩); obtain ⟨va, vn, vc, rfl⟩ := hv; have HRW := Fact.mk hrow; clear hb2 hTR hrow))
  refine bodyPost_ret (results_tk 6 7 8 rfl rfl rfl rfl (F5.out.put (.int .i64 kd) (.string N) (.string X) (.slice va vn vc) (.bool r))) rfl ?_
  exact ⟨⟨kd, N, X, AA, r⟩, E, ok, HN.out _ _ _ (by unfold NxN; rw [if_pos C60.out]; exact HTR.out), tok_end ⟨kd, N, X, AA, r⟩ E ok (.slice va vn vc) F5.out HB.out HLF.out HRW.out⟩
set_option maxRecDepth 20000 in
set_option maxHeartbeats 2000000 in
theorem next_b (s raw : ByteArray) (k : Nat) (hs : IsSm s.size) (hr : IsSm raw.size) (hk : k < s.size) (hraw : raw.data.toList = [])  (c60 : bAt s.data.toList k ≠ 60) (w : World) (hl : Laid w) :
    Calls Tryd.prog 31 #[.string s, .int .i64 k, .string raw] w fun e w' => ∃ (t : Tk) (E : Nat) (ok : Bool), NxR s.data.toList k raw.data.toList t E ok ∧ TokOut w t E ok e w' := by
  have HL := Fact.mk hl
  clear hl
  have hsz := hs.le
  have h0 : (0 : Int) ≤ k := by omega
  have h1 : (k : Int) < s.size := by omega
  have q1 : decide ((k : Int) < 0) = false := decide_eq_false (by omega)
  have q2 : decide ((s.size : Int) ≤ k) = false := decide_eq_false (by omega)
  have q2n : decide (s.size ≤ k) = false := decide_eq_false (by omega)
  obtain ⟨c, hc⟩ : ∃ c, bAt s.data.toList k = c := ⟨_, rfl⟩
  have hcc : s[k] = c := by rw [← byte_at s k hk]; exact hc
  have er : raw = ⟨#[]⟩ := tx_ext hraw
  subst er
  have HN : Fact (∀ t E ok, NxN s.data.toList k t E ok → NxR s.data.toList k [] t E ok) := ⟨fun t E ok h => by unfold NxR; rw [if_pos rfl]; exact h⟩
  rw [hc] at c60
  have q5 : ((c.toNat : Int) == 60) = false := u8_ne (by decide) c60
  obtain ⟨x, hx⟩ : ∃ x, Fact (blk (bAt s.data.toList k) = x) := ⟨_, ⟨rfl⟩⟩
  obtain ⟨E, hE⟩ : ∃ E, Fact (spE (txP x) s.data.toList k = E) := ⟨_, ⟨rfl⟩⟩
  have hg : k ≤ E := by rw [← hE.out]; exact spE_ge _ _ _
  have hle : E ≤ s.size := by rw [← hE.out, Lib.size_eq]; exact spE_le _ (by rw [← Lib.size_eq]; exact Nat.le_of_lt hk)
  obtain ⟨S1, hS1⟩ : ∃ S1 : ByteArray, s.extract k E = S1 := ⟨_, rfl⟩
  have hS1m : IsSm S1.size := by rw [← hS1]; exact sub_sm s _ _ hs
  obtain ⟨D, hD⟩ : ∃ D : ByteArray, Fact (decB false S1.data.toList = D.data.toList) := ⟨tx _, ⟨rfl⟩⟩
  have HX : Fact (NxN s.data.toList k ⟨3, ⟨#[]⟩, D, [], false⟩ E true) := ⟨by
    unfold NxN
    rw [if_neg (by rw [hc]; exact c60), hx.out, hE.out]
    exact ⟨⟨rfl, rfl, by rw [← hD.out, ← hS1, sub_data s _ _ hg], rfl, rfl⟩, rfl, rfl⟩⟩
  have g1 : (k : Int) ≤ E := by omega
  have g2 : (E : Int) ≤ s.size := by omega
  clear hc
  go_enter Tryd.func31, Tryd.ntmps31
  go_wp2_with (first | (go_at_call 44; refine (textEnd_any s k E x hs hk hx hE _).mono ?_; rintro e w4 ⟨rfl, rfl⟩) | (go_at_call 45; refine (decode_at S1 D false hS1m hD _ (HL.out.since (bl1 w _))).mono ?_; rintro e w5 ⟨rfl, hb5⟩; have F5 := Fact.mk ((Five.new w _ _ _ _ _ _).keep hb5); have HB := Fact.mk ((bl1 w _).trans (hb5.mono (bl1 w _).size)); obtain ⟨c0, c1, c2, c3, c4, fz⟩ := F5.out; clear hb5))
  refine bodyPost_ret (results_tk 6 7 8 rfl rfl rfl rfl (F5.out.put (.int .i64 3) (.string ⟨#[]⟩) (.string D) (.slice none 0 0) (.bool false))) rfl ?_
  exact ⟨⟨3, ⟨#[]⟩, D, [], false⟩, E, true, HN.out _ _ _ HX.out, tok_end ⟨3, ⟨#[]⟩, D, [], false⟩ E true (.slice none 0 0) F5.out HB.out (Nat.lt_succ_self _) (no_row _ _)⟩
set_option maxRecDepth 20000 in
set_option maxHeartbeats 2000000 in
theorem next_c (s raw : ByteArray) (k : Nat) (hs : IsSm s.size) (hr : IsSm raw.size) (hk : k < s.size) (hraw : raw.data.toList ≠ [])  (c60 : bAt s.data.toList k = 60) (w : World) (hl : Laid w) :
    Calls Tryd.prog 31 #[.string s, .int .i64 k, .string raw] w fun e w' => ∃ (t : Tk) (E : Nat) (ok : Bool), NxR s.data.toList k raw.data.toList t E ok ∧ TokOut w t E ok e w' := by
  have HL := Fact.mk hl
  clear hl
  have hsz := hs.le
  have h0 : (0 : Int) ≤ k := by omega
  have h1 : (k : Int) < s.size := by omega
  have q1 : decide ((k : Int) < 0) = false := decide_eq_false (by omega)
  have q2 : decide ((s.size : Int) ≤ k) = false := decide_eq_false (by omega)
  have q2n : decide (s.size ≤ k) = false := decide_eq_false (by omega)
  obtain ⟨c, hc⟩ : ∃ c, bAt s.data.toList k = c := ⟨_, rfl⟩
  have hcc : s[k] = c := by rw [← byte_at s k hk]; exact hc
  have q3 : (raw.toList == []) = false := by
    rw [Lib.toList_data, beq_eq_false_iff_ne]
    exact hraw
  obtain ⟨T, hT⟩ : ∃ T : ByteArray, Fact (lwL raw.data.toList = T.data.toList) := ⟨tx _, ⟨rfl⟩⟩
  obtain ⟨M2, hM2⟩ : ∃ M2 : ByteArray, (⟨#[60, 47]⟩ : ByteArray) ++ T = M2 := ⟨_, rfl⟩
  rw [hc] at c60
  have q5 : ((c.toNat : Int) == 60) = true := by rw [c60]; rfl
  have C60 : Fact (bAt s.data.toList k = 60) := ⟨by rw [hc]; exact c60⟩
  clear hc c60
  go_enter Tryd.func31, Tryd.ntmps31
  go_wp2_with (first | (go_at_call 41; refine (rawEnd_any s raw T M2 k hs hr (Nat.le_of_lt hk) hT hM2 _).mono ?_; rintro e w1 ⟨B, rfl, hF, hb1⟩; have HF := Fact.mk hF; have F1 := Fact.mk ((Five.new w _ _ _ _ _ _).keep hb1); have HB1 := Fact.mk ((bl1 w _).trans (hb1.mono (bl1 w _).size)); clear hb1 hF; have hBg := HF.out.ge; have hBle := HF.out.le; obtain ⟨S9, hS9⟩ : ∃ S9 : ByteArray, s.extract k B = S9 := ⟨_, rfl⟩; have hS9m : IsSm S9.size := (by rw [← hS9]; exact sub_sm s _ _ hs); obtain ⟨X9, hX9⟩ : ∃ X9 : ByteArray, Fact (rawX S9.data.toList raw.data.toList = X9.data.toList) := ⟨tx _, ⟨rfl⟩⟩; have HS9 : Fact (S9.data.toList = sub s.data.toList k B) := ⟨by rw [← hS9]; exact sub_data s _ _ hBg⟩; have b1 : (k : Int) ≤ B := (by omega); have b2 : (B : Int) ≤ s.size := (by omega); obtain ⟨d0, d1, d2, d3, d4, dz⟩ := F1.out; obtain ⟨qB, hqB⟩ : ∃ q : Bool, decide (k < B) = q := ⟨_, rfl⟩; have hqI : decide ((k : Int) < B) = qB := (by rw [← hqB]; simp); cases qB) | (go_at_call 42; refine (rawText_any S9 raw X9 hS9m hX9 _ (HL.out.since HB1.out)).mono ?_; rintro e w6 ⟨rfl, hb6⟩; have F6 := Fact.mk (F1.out.keep hb6); have HB6 := Fact.mk (HB1.out.trans (hb6.mono HB1.out.size)); obtain ⟨e0, e1, e2, e3, e4, ez⟩ := F6.out; clear hb6) | (go_at_call 43; refine (opened_any s k hs hk _ (HL.out.since HB1.out)).mono ?_; rintro e w2 ⟨⟨kd, N, X, AA, r⟩, E, ok, hTR, v, rfl, hrow, hb2⟩; have HTR := Fact.mk hTR; have F5 := Fact.mk (F1.out.keep hb2); have HB := Fact.mk (HB1.out.trans (hb2.mono HB1.out.size)); have HLF := Fact.mk F1.out.lt; obtain ⟨c0, c1, c2, c3, c4, fz⟩ := F5.out; have hv : ∃ a n cap, v = .slice a n cap := (by rcases hrow.2 with ⟨rfl, _⟩ | ⟨g, cap, cur, rfl, _⟩ <;> exact ⟨_, _, _, rfl⟩); obtain ⟨va, vn, vc, rfl⟩ := hv; have HRW := Fact.mk hrow; clear hb2 hTR hrow))
  · have HN : Fact (∀ t E ok, NxN s.data.toList k t E ok → NxR s.data.toList k raw.data.toList t E ok) := ⟨fun t E ok h => by
      unfold NxR
      rw [if_neg hraw]
      refine ⟨B, by rw [hT.out, ← Lib.size_eq]; exact HF.out, ?_⟩
      rw [if_neg (of_decide_eq_false hqB)]
      exact h⟩
    refine bodyPost_ret (results_tk 6 7 8 rfl rfl rfl rfl (F5.out.put (.int .i64 kd) (.string N) (.string X) (.slice va vn vc) (.bool r))) rfl ?_
    exact ⟨⟨kd, N, X, AA, r⟩, E, ok, HN.out _ _ _ (by unfold NxN; rw [if_pos C60.out]; exact HTR.out), tok_end ⟨kd, N, X, AA, r⟩ E ok (.slice va vn vc) F5.out HB.out HLF.out HRW.out⟩
  · refine bodyPost_ret (results_tk 6 7 8 rfl rfl rfl rfl (F6.out.put (.int .i64 3) (.string ⟨#[]⟩) (.string X9) (.slice none 0 0) (.bool true))) rfl ?_
    refine ⟨⟨3, ⟨#[]⟩, X9, [], true⟩, B, true, ?_, tok_end ⟨3, ⟨#[]⟩, X9, [], true⟩ B true (.slice none 0 0) F6.out HB6.out (Nat.lt_succ_self _) (no_row _ _)⟩
    unfold NxR
    rw [if_neg hraw]
    refine ⟨B, by rw [hT.out, ← Lib.size_eq]; exact HF.out, ?_⟩
    rw [if_pos (of_decide_eq_true hqB)]
    exact ⟨⟨rfl, rfl, by rw [← hX9.out, HS9.out], rfl, rfl⟩, rfl, rfl⟩
set_option maxRecDepth 20000 in
set_option maxHeartbeats 2000000 in
theorem next_d (s raw : ByteArray) (k : Nat) (hs : IsSm s.size) (hr : IsSm raw.size) (hk : k < s.size) (hraw : raw.data.toList ≠ [])  (c60 : bAt s.data.toList k ≠ 60) (w : World) (hl : Laid w) :
    Calls Tryd.prog 31 #[.string s, .int .i64 k, .string raw] w fun e w' => ∃ (t : Tk) (E : Nat) (ok : Bool), NxR s.data.toList k raw.data.toList t E ok ∧ TokOut w t E ok e w' := by
  have HL := Fact.mk hl
  clear hl
  have hsz := hs.le
  have h0 : (0 : Int) ≤ k := by omega
  have h1 : (k : Int) < s.size := by omega
  have q1 : decide ((k : Int) < 0) = false := decide_eq_false (by omega)
  have q2 : decide ((s.size : Int) ≤ k) = false := decide_eq_false (by omega)
  have q2n : decide (s.size ≤ k) = false := decide_eq_false (by omega)
  obtain ⟨c, hc⟩ : ∃ c, bAt s.data.toList k = c := ⟨_, rfl⟩
  have hcc : s[k] = c := by rw [← byte_at s k hk]; exact hc
  have q3 : (raw.toList == []) = false := by
    rw [Lib.toList_data, beq_eq_false_iff_ne]
    exact hraw
  obtain ⟨T, hT⟩ : ∃ T : ByteArray, Fact (lwL raw.data.toList = T.data.toList) := ⟨tx _, ⟨rfl⟩⟩
  obtain ⟨M2, hM2⟩ : ∃ M2 : ByteArray, (⟨#[60, 47]⟩ : ByteArray) ++ T = M2 := ⟨_, rfl⟩
  rw [hc] at c60
  have q5 : ((c.toNat : Int) == 60) = false := u8_ne (by decide) c60
  obtain ⟨x, hx⟩ : ∃ x, Fact (blk (bAt s.data.toList k) = x) := ⟨_, ⟨rfl⟩⟩
  obtain ⟨E, hE⟩ : ∃ E, Fact (spE (txP x) s.data.toList k = E) := ⟨_, ⟨rfl⟩⟩
  have hg : k ≤ E := by rw [← hE.out]; exact spE_ge _ _ _
  have hle : E ≤ s.size := by rw [← hE.out, Lib.size_eq]; exact spE_le _ (by rw [← Lib.size_eq]; exact Nat.le_of_lt hk)
  obtain ⟨S1, hS1⟩ : ∃ S1 : ByteArray, s.extract k E = S1 := ⟨_, rfl⟩
  have hS1m : IsSm S1.size := by rw [← hS1]; exact sub_sm s _ _ hs
  obtain ⟨D, hD⟩ : ∃ D : ByteArray, Fact (decB false S1.data.toList = D.data.toList) := ⟨tx _, ⟨rfl⟩⟩
  have HX : Fact (NxN s.data.toList k ⟨3, ⟨#[]⟩, D, [], false⟩ E true) := ⟨by
    unfold NxN
    rw [if_neg (by rw [hc]; exact c60), hx.out, hE.out]
    exact ⟨⟨rfl, rfl, by rw [← hD.out, ← hS1, sub_data s _ _ hg], rfl, rfl⟩, rfl, rfl⟩⟩
  have g1 : (k : Int) ≤ E := by omega
  have g2 : (E : Int) ≤ s.size := by omega
  clear hc
  go_enter Tryd.func31, Tryd.ntmps31
  go_wp2_with (first | (go_at_call 41; refine (rawEnd_any s raw T M2 k hs hr (Nat.le_of_lt hk) hT hM2 _).mono ?_; rintro e w1 ⟨B, rfl, hF, hb1⟩; have HF := Fact.mk hF; have F1 := Fact.mk ((Five.new w _ _ _ _ _ _).keep hb1); have HB1 := Fact.mk ((bl1 w _).trans (hb1.mono (bl1 w _).size)); clear hb1 hF; have hBg := HF.out.ge; have hBle := HF.out.le; obtain ⟨S9, hS9⟩ : ∃ S9 : ByteArray, s.extract k B = S9 := ⟨_, rfl⟩; have hS9m : IsSm S9.size := (by rw [← hS9]; exact sub_sm s _ _ hs); obtain ⟨X9, hX9⟩ : ∃ X9 : ByteArray, Fact (rawX S9.data.toList raw.data.toList = X9.data.toList) := ⟨tx _, ⟨rfl⟩⟩; have HS9 : Fact (S9.data.toList = sub s.data.toList k B) := ⟨by rw [← hS9]; exact sub_data s _ _ hBg⟩; have b1 : (k : Int) ≤ B := (by omega); have b2 : (B : Int) ≤ s.size := (by omega); obtain ⟨d0, d1, d2, d3, d4, dz⟩ := F1.out; obtain ⟨qB, hqB⟩ : ∃ q : Bool, decide (k < B) = q := ⟨_, rfl⟩; have hqI : decide ((k : Int) < B) = qB := (by rw [← hqB]; simp); cases qB) | (go_at_call 42; refine (rawText_any S9 raw X9 hS9m hX9 _ (HL.out.since HB1.out)).mono ?_; rintro e w6 ⟨rfl, hb6⟩; have F6 := Fact.mk (F1.out.keep hb6); have HB6 := Fact.mk (HB1.out.trans (hb6.mono HB1.out.size)); obtain ⟨e0, e1, e2, e3, e4, ez⟩ := F6.out; clear hb6) | (go_at_call 44; refine (textEnd_any s k E x hs hk hx hE _).mono ?_; rintro e w4 ⟨rfl, rfl⟩) | (go_at_call 45; refine (decode_at S1 D false hS1m hD _ (HL.out.since HB1.out)).mono ?_; rintro e w5 ⟨rfl, hb5⟩; have F5 := Fact.mk (F1.out.keep hb5); have HB := Fact.mk (HB1.out.trans (hb5.mono HB1.out.size)); obtain ⟨c0, c1, c2, c3, c4, fz⟩ := F5.out; clear hb5))
  · have HN : Fact (∀ t E ok, NxN s.data.toList k t E ok → NxR s.data.toList k raw.data.toList t E ok) := ⟨fun t E ok h => by
      unfold NxR
      rw [if_neg hraw]
      refine ⟨B, by rw [hT.out, ← Lib.size_eq]; exact HF.out, ?_⟩
      rw [if_neg (of_decide_eq_false hqB)]
      exact h⟩
    refine bodyPost_ret (results_tk 6 7 8 rfl rfl rfl rfl (F5.out.put (.int .i64 3) (.string ⟨#[]⟩) (.string D) (.slice none 0 0) (.bool false))) rfl ?_
    exact ⟨⟨3, ⟨#[]⟩, D, [], false⟩, E, true, HN.out _ _ _ HX.out, tok_end ⟨3, ⟨#[]⟩, D, [], false⟩ E true (.slice none 0 0) F5.out HB.out (Nat.lt_succ_self _) (no_row _ _)⟩
  · refine bodyPost_ret (results_tk 6 7 8 rfl rfl rfl rfl (F6.out.put (.int .i64 3) (.string ⟨#[]⟩) (.string X9) (.slice none 0 0) (.bool true))) rfl ?_
    refine ⟨⟨3, ⟨#[]⟩, X9, [], true⟩, B, true, ?_, tok_end ⟨3, ⟨#[]⟩, X9, [], true⟩ B true (.slice none 0 0) F6.out HB6.out (Nat.lt_succ_self _) (no_row _ _)⟩
    unfold NxR
    rw [if_neg hraw]
    refine ⟨B, by rw [hT.out, ← Lib.size_eq]; exact HF.out, ?_⟩
    rw [if_pos (of_decide_eq_true hqB)]
    exact ⟨⟨rfl, rfl, by rw [← hX9.out, HS9.out], rfl, rfl⟩, rfl, rfl⟩
theorem next_any (s raw : ByteArray) (k : Nat) (hs : IsSm s.size) (hr : IsSm raw.size) (hk : k < s.size) (w : World) (hl : Laid w) :
    Calls Tryd.prog 31 #[.string s, .int .i64 k, .string raw] w fun e w' => ∃ (t : Tk) (E : Nat) (ok : Bool), NxR s.data.toList k raw.data.toList t E ok ∧ TokOut w t E ok e w' := by
  by_cases h : raw.data.toList = []
  · by_cases c : bAt s.data.toList k = 60
    · exact next_a s raw k hs hr hk h c w hl
    · exact next_b s raw k hs hr hk h c w hl
  · by_cases c : bAt s.data.toList k = 60
    · exact next_c s raw k hs hr hk h c w hl
    · exact next_d s raw k hs hr hk h c w hl
end Go.Proofs.YtdniddiaiinggaaDoor
