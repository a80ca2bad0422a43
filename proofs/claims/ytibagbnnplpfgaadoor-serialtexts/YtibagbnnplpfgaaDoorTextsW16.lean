/- SerialTexts, walked: a text is escaped, but in a raw element; a comment is as it is. -/
import Derived.Test.YtibagbnnplpfgaaDoorSm
import Derived.Test.YtibagbnnplpfgaaDoorREsc
import Derived.Test.YtibagbnnplpfgaaDoorNext
set_option linter.unusedVariables false
set_option linter.unusedSimpArgs false
namespace Go.Proofs.YtibagbnnplpfgaaDoor
open Go.Deep (BT)
open Go.RowKit M

theorem src_open {d : Nd} {k : M.F} (h : d.k = 2) (hv : isB d.n 1 = false) : srcB d k = fltP (tagP d) ++ (fltP (pcs (rawN d.n.data.toList == 2) k) ++ ((⟨#[60, 47]⟩ : ByteArray) ++ d.n ++ ⟨#[62]⟩).data.toList) := by
  have h1 : opn d = true := by unfold opn; rw [h, hv]; rfl
  have h2 : insK d = true := by unfold insK; rw [h1, Bool.or_true]
  have h3 : begP d false = tagP d := by rw [begP, if_neg (by omega), if_neg (by omega), if_neg (by omega), if_pos h]
  have h4 : insR d = (rawN d.n.data.toList == 2) := by unfold insR; rw [h1, Bool.true_and]
  have h5 : insE d = (⟨#[60, 47]⟩ : ByteArray) ++ d.n ++ ⟨#[62]⟩ := by unfold insE; rw [h1, if_pos rfl]
  unfold srcB
  rw [pcs, h2, if_pos rfl, h3, h4, h5, fltP_append, fltP_append, fltP_cons]
  simp [pcs, fltP_nil]
abbrev txN (s : ByteArray) : Nd := ⟨3, ⟨#[]⟩, s, []⟩
abbrev elR (R : ByteArray) : Nd := ⟨2, R, ⟨#[]⟩, []⟩
theorem pcs_txN (raw : Bool) (s : ByteArray) : fltP (pcs raw (.cons (txN s) .nil .nil)) = if raw = true then s.data.toList else escB false s.data.toList := by
  have h1 : opn (txN s) = false := rfl
  have h2 : insK (txN s) = false := rfl
  have h5 : insE (txN s) = ⟨#[]⟩ := rfl
  rw [pcs, h2, h5]
  cases raw <;> simp [begP, pcs, fltP_cons, fltP_nil, escS_data]
theorem src_elR (R s : ByteArray) (hv : isB R 1 = false) (b : Bool) (hb : (rawN R.data.toList == 2) = b) (E : ByteArray) (hE : (if b = true then s.data.toList else escB false s.data.toList) = E.data.toList) :
    srcB (elR R) (.cons (txN s) .nil .nil) = ([60] ++ R.data.toList ++ [62]) ++ E.data.toList ++ ([60, 47] ++ R.data.toList ++ [62]) := by
  rw [src_open rfl hv]
  show fltP (tagP (elR R)) ++ (fltP (pcs (rawN R.data.toList == 2) _) ++ _) = _
  rw [hb, pcs_txN, hE, app_data, app_data]
  simp [tagP, attP, fltP_cons, fltP_nil]
theorem tr_el (w : World) (R s : ByteArray) (hm : Met w) (T : ByteArray) (hR : R.size ≤ 200) (hs : s.size ≤ 6000) (hT : srcB (elR R) (.cons (txN s) .nil .nil) = T.data.toList) :
    TrT (w.alloc (.cells #[.int .i64 3, .string ⟨#[]⟩, .string s, .slice none 0 0, .slice none 0 0] 25)) 2 R ⟨#[]⟩ [] (.cons (txN s) .nil .nil) (.slice none 0 0) (.slice (some ⟨w.heap.size, 0, none⟩) 1 1) T := by
  have hc : ∀ i v, (#[.int .i64 3, .string ⟨#[]⟩, .string s, .slice none 0 0, .slice none 0 0] : Array Value)[i]? = some v → (w.alloc (.cells #[.int .i64 3, .string ⟨#[]⟩, .string s, .slice none 0 0, .slice none 0 0] 25)).cell? ⟨w.heap.size, i, none⟩ = some v := fun i v h => (World.cell?_alloc_new w _ _ i).trans h
  refine ⟨⟨AS.nothing, ?_⟩, (Nat.le_of_ble_eq_true rfl), (Nat.le_of_ble_eq_true rfl), ⟨⟨(Nat.le_of_ble_eq_true rfl), hR, (Nat.le_of_ble_eq_true rfl), fun p hp => by cases hp⟩, ⟨⟨(Nat.le_of_ble_eq_true rfl), (Nat.le_of_ble_eq_true rfl), hs, fun p hp => by cases hp⟩, trivial, trivial⟩, trivial⟩, hT, hm.below ((Below.refl _ w).alloc (Nat.le_refl _) _)⟩
  exact ⟨_, _, rfl, Nat.le_refl _, by unfold maxLen; omega, .inr ⟨w.heap.size, 0, rfl, by simp, ⟨⟨.slice none 0 0, none, 0, hc 0 _ rfl, hc 1 _ rfl, hc 2 _ rfl, hc 3 _ rfl, hc 4 _ rfl, AS.nothing, Nat.le_refl _, by unfold maxLen; omega, .inl rfl⟩, trivial⟩⟩⟩
theorem tr_cm {w : World} (s T : ByteArray) (hm : Met w) (hs : s.size ≤ 6000) (hT : [60, 33, 45, 45] ++ s.data.toList ++ [45, 45, 62] = T.data.toList) : TrT w 4 ⟨#[]⟩ s [] .nil (.slice none 0 0) (.slice none 0 0) T := by
  refine ⟨lies_bare _ _ _ _, by decide, by decide, ⟨⟨(Nat.le_of_ble_eq_true rfl), (Nat.le_of_ble_eq_true rfl), hs, fun p hp => by cases hp⟩, trivial, trivial⟩, ?_, hm⟩
  rw [← hT]
  have h2 : insK (⟨4, ⟨#[]⟩, s, []⟩ : Nd) = false := rfl
  have h5 : insE (⟨4, ⟨#[]⟩, s, []⟩ : Nd) = ⟨#[]⟩ := rfl
  unfold srcB
  rw [pcs, h2, h5]
  simp [begP, pcs, fltP_cons, fltP_nil]
theorem ex16c : srcB ⟨5, ⟨#[120]⟩, ⟨#[]⟩, []⟩ .nil = (⟨#[60, 33, 68, 79, 67, 84, 89, 80, 69, 32, 120, 62]⟩ : ByteArray).data.toList := by kernel_rfl
theorem tr_dt {w : World} (hm : Met w) : TrT w 5 ⟨#[120]⟩ ⟨#[]⟩ [] .nil (.slice none 0 0) (.slice none 0 0) ⟨#[60, 33, 68, 79, 67, 84, 89, 80, 69, 32, 120, 62]⟩ :=
  ⟨lies_bare _ _ _ _, by decide, by decide, ⟨⟨by decide, by decide, by decide, fun p hp => by cases hp⟩, trivial, trivial⟩, ex16c, hm⟩
theorem raw_name (q : Nat) (hq : q < 6) : ∃ R : ByteArray, Fact (isB R 1 = false) ∧ Fact ((rawN R.data.toList == 2) = true) ∧ R.size ≤ 10 ∧
    ∀ W : World, (Instr.index 39 (.agg #[.string ⟨#[115, 116, 121, 108, 101]⟩, .string ⟨#[115, 99, 114, 105, 112, 116]⟩, .string ⟨#[120, 109, 112]⟩, .string ⟨#[105, 102, 114, 97, 109, 101]⟩, .string ⟨#[110, 111, 101, 109, 98, 101, 100]⟩, .string ⟨#[110, 111, 102, 114, 97, 109, 101, 115]⟩]) (.int .i64 q)).run Tryd.prog W = .ok (.string R) W := by
  rcases (by omega : q = 0 ∨ q = 1 ∨ q = 2 ∨ q = 3 ∨ q = 4 ∨ q = 5) with rfl | rfl | rfl | rfl | rfl | rfl
  · exact ⟨⟨#[115, 116, 121, 108, 101]⟩, ⟨by kernel_rfl⟩, ⟨by kernel_rfl⟩, by decide, fun W => by simp [Instr.index, go_sem]⟩
  · exact ⟨⟨#[115, 99, 114, 105, 112, 116]⟩, ⟨by kernel_rfl⟩, ⟨by kernel_rfl⟩, by decide, fun W => by simp [Instr.index, go_sem]⟩
  · exact ⟨⟨#[120, 109, 112]⟩, ⟨by kernel_rfl⟩, ⟨by kernel_rfl⟩, by decide, fun W => by simp [Instr.index, go_sem]⟩
  · exact ⟨⟨#[105, 102, 114, 97, 109, 101]⟩, ⟨by kernel_rfl⟩, ⟨by kernel_rfl⟩, by decide, fun W => by simp [Instr.index, go_sem]⟩
  · exact ⟨⟨#[110, 111, 101, 109, 98, 101, 100]⟩, ⟨by kernel_rfl⟩, ⟨by kernel_rfl⟩, by decide, fun W => by simp [Instr.index, go_sem]⟩
  · exact ⟨⟨#[110, 111, 102, 114, 97, 109, 101, 115]⟩, ⟨by kernel_rfl⟩, ⟨by kernel_rfl⟩, by decide, fun W => by simp [Instr.index, go_sem]⟩
theorem title_ok : isB ⟨#[116, 105, 116, 108, 101]⟩ 1 = false ∧ (rawN (⟨#[116, 105, 116, 108, 101]⟩ : ByteArray).data.toList == 2) = false := ⟨by kernel_rfl, by kernel_rfl⟩
theorem cat (a b : ByteArray) : ∃ T : ByteArray, a ++ b = T ∧ T.size = a.size + b.size ∧ T.data.toList = a.data.toList ++ b.data.toList := ⟨_, rfl, ByteArray.size_append, app_data a b⟩
theorem pl_ex (v : Int) (n : Nat) (h : 0 < n) : ∃ q : Nat, Fact (pl v n = q) ∧ q < n := by
  exact ⟨pl v n, ⟨rfl⟩, pl_lt v n h⟩

set_option maxRecDepth 20000 in
set_option maxHeartbeats 4000000 in
theorem texts_walk (s : ByteArray) (v : Int) (w : World) (hm : Met w) :
    Calls Tryd.prog 7 #[.string s, .int .i64 v] w fun e w' => e = .returned (.bool true) ∧ Below w.heap.size w w' := by
  have HM := Fact.mk hm
  clear hm
  by_cases hs : 1000 < s.size
  · have hsI : (1000 : Int) < s.size := by omega
    go_enter Tryd.func7, Tryd.ntmps7
    go_wp2_with (go_at_call 10; refine (awake16_true _ HM.out).mono ?_; rintro e w9 ⟨rfl, hb9⟩)
    go_ret
    exact ⟨rfl, hb9⟩
  · have hsI : ¬ (1000 : Int) < s.size := by omega
    obtain ⟨q, hq, hq6⟩ := pl_ex v 6 (by decide)
    obtain ⟨R, hRv, hRr, hR10, hidx⟩ := raw_name q hq6
    obtain ⟨E, hE⟩ : ∃ E, escS false s = E := ⟨_, rfl⟩
    have hEd : escB false s.data.toList = E.data.toList := by rw [← hE]; rfl
    have hEz : E.size ≤ 6000 := by have := escS_len false s; rw [hE] at this; omega
    have HRE : Fact ((⟨(escB false s.data.toList).toArray⟩ : ByteArray) = E) := ⟨hE⟩
    obtain ⟨A1, hA1, zA1, dA1⟩ := cat ⟨#[60, 116, 105, 116, 108, 101, 62]⟩ E
    obtain ⟨A2, hA2, zA2, dA2⟩ := cat A1 ⟨#[60, 47, 116, 105, 116, 108, 101, 62]⟩
    obtain ⟨B1, hB1, zB1, dB1⟩ := cat ⟨#[60]⟩ R
    obtain ⟨B2, hB2, zB2, dB2⟩ := cat B1 ⟨#[62]⟩
    obtain ⟨B3, hB3, zB3, dB3⟩ := cat B2 s
    obtain ⟨B4, hB4, zB4, dB4⟩ := cat B3 ⟨#[60, 47]⟩
    obtain ⟨B5, hB5, zB5, dB5⟩ := cat B4 R
    obtain ⟨B6, hB6, zB6, dB6⟩ := cat B5 ⟨#[62]⟩
    obtain ⟨C1, hC1, zC1, dC1⟩ := cat ⟨#[60, 33, 45, 45]⟩ s
    obtain ⟨C2, hC2, zC2, dC2⟩ := cat C1 ⟨#[45, 45, 62]⟩
    have y1 : (⟨#[60, 116, 105, 116, 108, 101, 62]⟩ : ByteArray).size = 7 := rfl
    have y2 : (⟨#[60, 47, 116, 105, 116, 108, 101, 62]⟩ : ByteArray).size = 8 := rfl
    have y3 : (⟨#[60]⟩ : ByteArray).size = 1 := rfl
    have y4 : (⟨#[62]⟩ : ByteArray).size = 1 := rfl
    have y5 : (⟨#[60, 47]⟩ : ByteArray).size = 2 := rfl
    have y6 : (⟨#[60, 33, 45, 45]⟩ : ByteArray).size = 4 := rfl
    have y7 : (⟨#[45, 45, 62]⟩ : ByteArray).size = 3 := rfl
    have r1 := fun w => add_at _ _ _ hA1 (by omega) w
    have r2 := fun w => add_at _ _ _ hA2 (by omega) w
    have r3 := fun w => add_at _ _ _ hB1 (by omega) w
    have r4 := fun w => add_at _ _ _ hB2 (by omega) w
    have r5 := fun w => add_at _ _ _ hB3 (by omega) w
    have r6 := fun w => add_at _ _ _ hB4 (by omega) w
    have r7 := fun w => add_at _ _ _ hB5 (by omega) w
    have r8 := fun w => add_at _ _ _ hB6 (by omega) w
    have r9 := fun w => add_at _ _ _ hC1 (by omega) w
    have r10 := fun w => add_at _ _ _ hC2 (by omega) w
    have HA : Fact (srcB (elR ⟨#[116, 105, 116, 108, 101]⟩) (.cons (txN s) .nil .nil) = A2.data.toList) := ⟨by
      rw [src_elR _ s title_ok.1 false title_ok.2 E hEd, dA2, dA1]; rfl⟩
    have HB : Fact (srcB (elR R) (.cons (txN s) .nil .nil) = B6.data.toList) := ⟨by
      rw [src_elR _ s hRv.out true hRr.out s rfl, dB6, dB5, dB4, dB3, dB2, dB1]; simp⟩
    have HC : Fact ([60, 33, 45, 45] ++ s.data.toList ++ [45, 45, 62] = C2.data.toList) := ⟨by rw [dC2, dC1]⟩
    have eA : (A2.toList == A2.toList) = true := beq_self_eq_true _
    have eB : (B6.toList == B6.toList) = true := beq_self_eq_true _
    have eC : (C2.toList == C2.toList) = true := beq_self_eq_true _
    have hsz : s.size ≤ 6000 := by omega
    have hRz : R.size ≤ 200 := by omega
    have hre := fun w => rescape_false s hsz w
    rw [HRE.out] at hre
    have HRESC := Fact.mk hre
    clear hre
    have HSZ := Fact.mk hsz
    have HRZ := Fact.mk hRz
    obtain ⟨Wa, hWa⟩ : ∃ Wa, w.alloc (.cells #[.int .i64 3, .string ⟨#[]⟩, .string s, .slice none 0 0, .slice none 0 0] 25) = Wa := ⟨_, rfl⟩
    have hba : Below w.heap.size w Wa := by rw [← hWa]; exact (Below.refl _ w).alloc (Nat.le_refl _) _
    have hza : Wa.heap.size = w.heap.size + 1 := by rw [← hWa]; simp
    have hbx : ∀ i u, (#[.int .i64 3, .string ⟨#[]⟩, .string s, .slice none 0 0, .slice none 0 0] : Array Value)[i]? = some u → Wa.cell? ⟨w.heap.size, i, none⟩ = some u := fun i u h => by
      rw [← hWa]; exact (World.cell?_alloc_new w _ _ i).trans h
    have HMA : Fact (Met Wa) := ⟨HM.out.below hba⟩
    have HT1 := Fact.mk (tr_el Wa ⟨#[116, 105, 116, 108, 101]⟩ s HMA.out A2 (by decide) hsz HA.out)
    rw [hza] at HT1
    have hBX : ∀ W', Below (w.heap.size + 1) Wa W' → Fact (∀ i u, (#[.int .i64 3, .string ⟨#[]⟩, .string s, .slice none 0 0, .slice none 0 0] : Array Value)[i]? = some u → W'.cell? ⟨w.heap.size, i, none⟩ = some u) := fun W' h => ⟨fun i u hu => (h.cell (p := ⟨w.heap.size, i, none⟩) (Nat.lt_succ_self _)).trans (hbx i u hu)⟩
    have HBX := Fact.mk hBX
    have HWA := Fact.mk hWa
    have HBA := Fact.mk hba
    have hB1' : Below (Wa.alloc (.cells #[.int .i64 3, .string ⟨#[]⟩, .string s, .slice none 0 0, .slice none 0 0] 25)).heap.size (Wa.alloc (.cells #[.int .i64 3, .string ⟨#[]⟩, .string s, .slice none 0 0, .slice none 0 0] 25)) (Wa.alloc (.cells #[.int .i64 3, .string ⟨#[]⟩, .string s, .slice none 0 0, .slice none 0 0] 25)) ∧ True := ⟨Below.refl _ _, trivial⟩
    have HB1' := Fact.mk hB1'
    have b0 := hbx 0 _ rfl
    have b1 := hbx 1 _ rfl
    have b2 := hbx 2 _ rfl
    have b3 := hbx 3 _ rfl
    have b4 := hbx 4 _ rfl
    clear hA1 hA2 hB1 hB2 hB3 hB4 hB5 hB6 hC1 hC2 zA1 zA2 zB1 zB2 zB3 zB4 zB5 zB6 zC1 zC2 dA1 dA2 dB1 dB2 dB3 dB4 dB5 dB6 dC1 dC2 hE hEd hEz y1 y2 y3 y4 y5 y6 y7 hsz hRz hR10 hWa hba hbx hBX hB1' hs hq6
    have tok1 : True := trivial
    have tok2 : True := trivial
    have tok3 : True := trivial
    go_enter Tryd.func7, Tryd.ntmps7
    go_wp2_with (go_at_call 20; refine (place_at v 6 q hq _ (by decide) (by decide)).mono ?_; rintro e w4 ⟨rfl, hw4⟩; have hw5 := hw4.symm; subst hw5; clear hw4)
    rw [HWA.out]
    go_wp2_with (first
      | (go_at_call 13; have _t := tok1; with_reducible refine (text_l HT1.out HB1'.out).mono ?_; rintro e w1 ⟨rfl, hb1⟩; clear tok1 _t b0 b1 b2 b3 b4; have HL1 : Fact (Below (w.heap.size + 1) Wa w1) := ⟨((Below.refl _ Wa).alloc (by omega) _).trans (hb1.mono (by simp; omega))⟩; have HW1 : Fact (Below w.heap.size w w1) := ⟨HBA.out.trans (HL1.out.mono (by omega))⟩; have c0 := (HBX.out w1 HL1.out).out 0 _ rfl; have c1 := (HBX.out w1 HL1.out).out 1 _ rfl; have c2 := (HBX.out w1 HL1.out).out 2 _ rfl; have c3 := (HBX.out w1 HL1.out).out 3 _ rfl; have c4 := (HBX.out w1 HL1.out).out 4 _ rfl; have HT2 := Fact.mk (tr_el w1 R s (HM.out.below HW1.out) B6 HRZ.out HSZ.out HB.out); have hB2 : Below (w1.alloc (.cells #[.int .i64 3, .string ⟨#[]⟩, .string s, .slice none 0 0, .slice none 0 0] 25)).heap.size (w1.alloc (.cells #[.int .i64 3, .string ⟨#[]⟩, .string s, .slice none 0 0, .slice none 0 0] 25)) (w1.alloc (.cells #[.int .i64 3, .string ⟨#[]⟩, .string s, .slice none 0 0, .slice none 0 0] 25)) ∧ True := ⟨Below.refl _ _, trivial⟩; have HB2 := Fact.mk hB2; clear hB2 hb1)
      | (go_at_call 13; have _t := tok2; with_reducible refine (text_l HT2.out HB2.out).mono ?_; rintro e w2 ⟨rfl, hb2⟩; clear tok2 _t c0 c1 c2 c3 c4; have HW2 : Fact (Below w.heap.size w w2) := ⟨(HW1.out.alloc HW1.out.size _).trans (hb2.mono (by have := HW1.out.size; simp; omega))⟩; have HT3 := Fact.mk (tr_cm (w := w2) s C2 (HM.out.below HW2.out) HSZ.out HC.out); have hB3 : Below w2.heap.size w2 w2 ∧ True := ⟨Below.refl _ _, trivial⟩; have HB3 := Fact.mk hB3; clear hB3 hb2)
      | (go_at_call 13; have _t := tok3; with_reducible refine (text_l HT3.out HB3.out).mono ?_; rintro e w3 ⟨rfl, hb3⟩; clear tok3 _t; have HW3 : Fact (Below w.heap.size w w3) := ⟨HW2.out.trans (hb3.mono HW2.out.size)⟩; have HT4 := Fact.mk (tr_dt (w := w3) (HM.out.below HW3.out)); have hB4 : Below w3.heap.size w3 w3 ∧ True := ⟨Below.refl _ _, trivial⟩; have HB4 := Fact.mk hB4; clear hB4 hb3)
      | (go_at_call 21; with_reducible refine (HRESC.out _).mono ?_; rintro e wq ⟨rfl, hwq⟩; have hwq' := hwq.symm; subst hwq'; clear hwq)
      | (go_at_call 13; with_reducible refine (text_l HT4.out HB4.out).mono ?_; rintro e w4 ⟨rfl, hb4⟩; have HW4 : Fact (Below w.heap.size w w4) := ⟨HW3.out.trans (hb4.mono HW3.out.size)⟩; clear hb4)
      | (go_at_call 10; with_reducible refine (awake_l HM.out ⟨HW4.out, trivial⟩).mono ?_; rintro e w5 ⟨rfl, hb5⟩))
    go_ret
    exact ⟨rfl, HW4.out.trans (hb5.mono HW4.out.size)⟩
end Go.Proofs.YtibagbnnplpfgaaDoor
