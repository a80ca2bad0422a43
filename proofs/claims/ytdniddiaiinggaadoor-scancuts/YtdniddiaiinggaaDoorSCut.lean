/- The walk of ScanCuts: it returns true. -/
import Derived.Test.YtdniddiaiinggaaDoorWG
set_option linter.unusedVariables false
set_option linter.unusedSimpArgs false
namespace Go.Proofs.YtdniddiaiinggaaDoor
open Go.RowKit M

theorem bel2 {w a b : World} (h : Fact (Below w.heap.size w a)) (k : Below a.heap.size a b) : Fact (Below w.heap.size w b) := ⟨h.out.trans (k.mono h.out.size)⟩
theorem tok_split {A B C : List Tk} {n : Nat} (h : A = B ++ C) (hn : B.length = n) {j : Nat} (hj : j < A.length) : ∃ t, A[j]? = some t ∧ (j < n → B[j]? = some t) ∧ (n ≤ j → C[j - n]? = some t) := by
  subst h
  refine ⟨_, List.getElem?_eq_getElem hj, fun h1 => ?_, fun h1 => ?_⟩
  · rw [← List.getElem?_eq_getElem hj, List.getElem?_append_left (by omega)]
  · rw [← List.getElem?_eq_getElem hj, List.getElem?_append_right (by omega), hn]
theorem last_of {l : List Tk} {m : Nat} (h : l.length = m + 1) {t : Tk} (ht : l[m]? = some t) : l.getLast? = some t := by
  rw [List.getLast?_eq_getElem?, h]; exact ht

set_option maxRecDepth 20000 in
set_option maxHeartbeats 1000000 in
theorem cuts_big (a b : ByteArray) (h : 1500 < a.size ∨ 1500 < b.size) (w : World) (hl : Laid w) : Calls Tryd.prog 4 #[.string a, .string b] w fun e w' => e = .returned (.bool true) ∧ Below w.heap.size w w' := by
  have HA := Fact.mk (awake11_true w hl)
  by_cases ha : 1500 < a.size
  · have q1 : decide ((1500 : Int) < a.size) = true := decide_eq_true (by omega)
    have q1' : (1500 : Int) < a.size := by omega
    clear h
    go_enter Tryd.func4, Tryd.ntmps4
    go_wp2_with (go_at_call 8; refine HA.out.mono ?_; rintro e w1 ⟨rfl, hb⟩)
    go_ret
    exact ⟨rfl, hb⟩
  · have q1 : decide ((1500 : Int) < a.size) = false := decide_eq_false (by omega)
    have q1' : ¬ (1500 : Int) < a.size := by omega
    have hb : 1500 < b.size := h.resolve_left ha
    have q2 : decide ((1500 : Int) < b.size) = true := decide_eq_true (by omega)
    have q2' : (1500 : Int) < b.size := by omega
    clear h ha
    go_enter Tryd.func4, Tryd.ntmps4
    go_wp2_with (go_at_call 8; refine HA.out.mono ?_; rintro e w1 ⟨rfl, hb⟩)
    go_ret
    exact ⟨rfl, hb⟩

set_option maxRecDepth 20000 in
set_option maxHeartbeats 8000000 in
theorem sccuts_walk (a b : ByteArray) (w : World) (hl : Laid w) : Calls Tryd.prog 4 #[.string a, .string b] w fun e w' => e = .returned (.bool true) ∧ Below w.heap.size w w' := by
  by_cases hbig : 1500 < a.size ∨ 1500 < b.size
  · exact cuts_big a b hbig w hl
  have ha : a.size ≤ 1500 := by omega
  have hb : b.size ≤ 1500 := by omega
  have q1 : decide ((1500 : Int) < a.size) = false := decide_eq_false (by omega)
  have q1' : ¬ (1500 : Int) < a.size := by omega
  have q2 : decide ((1500 : Int) < b.size) = false := decide_eq_false (by omega)
  have q2' : ¬ (1500 : Int) < b.size := by omega
  have HL := Fact.mk hl
  clear hl hbig
  obtain ⟨S1, hS1⟩ : ∃ A : ByteArray, a ++ ⟨#[60, 47, 98, 62]⟩ = A := ⟨_, rfl⟩
  obtain ⟨S2, hS2⟩ : ∃ A : ByteArray, S1 ++ b = A := ⟨_, rfl⟩
  have z4 : (⟨#[60, 47, 98, 62]⟩ : ByteArray).size = 4 := rfl
  have sS1 : S1.size ≤ 1504 := by rw [← hS1, size_app]; omega
  have sS2 : S2.size ≤ 3004 := by rw [← hS2, size_app]; omega
  have r1 := add_at a ⟨#[60, 47, 98, 62]⟩ S1 hS1 (by omega)
  have r2 := add_at S1 b S2 hS2 (by omega)
  obtain ⟨α, hα⟩ : ∃ l, U.C false a.data.toList = l := ⟨_, rfl⟩
  obtain ⟨β, hβ⟩ : ∃ l, U.C false b.data.toList = l := ⟨_, rfl⟩
  have HC1 : Fact (U.C false S1.data.toList = α ++ cut4) := ⟨by
    rw [← hS1, data_app, ← hα]
    have := C_cut a.data.toList []
    rw [List.append_nil, U.C_nil, List.append_nil] at this
    exact this⟩
  have HC2 : Fact (U.C false S2.data.toList = (α ++ cut4) ++ β) := ⟨by
    rw [← hS2, ← hS1, data_app, data_app, ← hα, ← hβ, List.append_assoc, List.append_assoc]
    exact C_cut a.data.toList b.data.toList⟩
  have HCa := Fact.mk hα
  have HCb := Fact.mk hβ
  have HS1 := Fact.mk sS1
  have HS2 := Fact.mk sS2
  have Ha := Fact.mk ha
  have Hb := Fact.mk hb
  clear hS1 hS2 z4 hα hβ sS1 sS2 ha hb
  go_enter Tryd.func4, Tryd.ntmps4
  go_wp2_with fail
  refine (all_any S1 (by have := HS1.out; omega) _ HL.out).mono ?_
  rintro e w1 ⟨v1, tr1, x1, its1, rfl, R1⟩
  obtain ⟨g1, p1, ev, G1'⟩ := R1.got
  subst ev
  have RR1 := Fact.mk R1
  have B1 : Fact (Below w.heap.size w w1) := ⟨R1.below⟩
  have G1 := Fact.mk G1'
  clear R1 G1'
  go_wp2_with fail
  refine (all_any b (by have := Hb.out; omega) _ (HL.out.since B1.out)).mono ?_
  rintro e w2 ⟨v2, tr2, x2, its2, rfl, R2⟩
  obtain ⟨g2, p2, ev, G2'⟩ := R2.got
  subst ev
  have RR2 := Fact.mk R2
  have B2 := bel2 B1 R2.below
  have G1b := Fact.mk (G1.out.keep R2.below)
  have G2 := Fact.mk G2'
  clear R2 G2'
  go_wp2_with fail
  refine (all_any S2 (by have := HS2.out; omega) _ (HL.out.since B2.out)).mono ?_
  rintro e w3 ⟨v3, tr3, x3, its3, rfl, R3⟩
  obtain ⟨g3, p3, ev, G3'⟩ := R3.got
  subst ev
  have RR3 := Fact.mk R3
  have B3 := bel2 B2 R3.below
  have G1c := Fact.mk (G1b.out.keep R3.below)
  have G2c := Fact.mk (G2.out.keep R3.below)
  have G3 := Fact.mk G3'
  clear R3 G3' r1 r2
  have n1s : its1.length + 1 ≤ 100000 := by
    have h1 := sayd_len tr1
    have h2 := (TrR.len tr1 RR1.out.trs.pre RR1.out.no6)
    have h3 : its1.length = (sayd tr1).length := by rw [← RR1.out.map, List.length_map]
    have h4 := U.C_len S1.data.toList false
    rw [← Lib.size_eq] at h4
    have := HS1.out
    omega
  have n2s : its2.length + 1 ≤ 100000 := by
    have h1 := sayd_len tr2
    have h2 := (TrR.len tr2 RR2.out.trs.pre RR2.out.no6)
    have h3 : its2.length = (sayd tr2).length := by rw [← RR2.out.map, List.length_map]
    have h4 := U.C_len b.data.toList false
    rw [← Lib.size_eq] at h4
    have := Hb.out
    omega
  obtain ⟨n, hn⟩ : ∃ n, its1.length = n := ⟨_, rfl⟩
  obtain ⟨l1, hl1⟩ : ∃ l, its1.length + 1 = l := ⟨_, rfl⟩
  obtain ⟨l2, hl2⟩ : ∃ l, its2.length + 1 = l := ⟨_, rfl⟩
  obtain ⟨l3, hl3⟩ : ∃ l, its3.length + 1 = l := ⟨_, rfl⟩
  rw [hl1] at G1 G1b G1c ⊢
  rw [hl2] at G2 G2c ⊢
  rw [hl3] at G3 ⊢
  have w1n : wrap64 ((l1 : Int) - 1) = (n : Int) := by unfold wrap64; omega
  have HN := Fact.mk hn
  have HL1 := Fact.mk hl1
  have HL2 := Fact.mk hl2
  have HL3 := Fact.mk hl3
  have HNS := Fact.mk n1s
  have HNS2 := Fact.mk n2s
  have HA := Fact.mk (fun W (h : Below w.heap.size w W) => awake11_true W (HL.out.since h))
  clear hl1 hl2 hl3 n1s n2s
  by_cases hn0 : n < 1
  · have d1 : decide ((n : Int) < 1) = true := decide_eq_true (by omega)
    have d2 : (n : Int) < 1 := by omega
    clear hn
    go_wp2_with (go_at_call 8; refine (HA.out _ B3.out).mono ?_; rintro e w4 ⟨rfl, hb4⟩; have B4 := bel2 B3 hb4; clear hb4)
    go_ret
    exact ⟨rfl, B4.out⟩
  obtain ⟨m, hm⟩ : ∃ m, n = m + 1 := ⟨n - 1, by omega⟩
  have HM := Fact.mk hm
  have d1 : decide ((n : Int) < 1) = false := decide_eq_false (by omega)
  have d2 : ¬ (n : Int) < 1 := by omega
  have w2n : wrap64 ((n : Int) - 1) = (m : Int) := by have := HNS.out; unfold wrap64; omega
  clear hn hn0 hm
  go_wp2_with fail
  refine (all_any a (by have := Ha.out; omega) _ (HL.out.since B3.out)).mono ?_
  rintro e w4 ⟨v4, tr4, x4, its4, rfl, R4⟩
  obtain ⟨g4, p4, ev, G4'⟩ := R4.got
  subst ev
  have RR4 := Fact.mk R4
  have B4 := bel2 B3 R4.below
  have G1d := Fact.mk (G1c.out.keep R4.below)
  have G2d := Fact.mk (G2c.out.keep R4.below)
  have G3d := Fact.mk (G3.out.keep R4.below)
  clear R4 G4' G1 G1b G1c G2 G2c G3
  obtain ⟨l4, hl4⟩ : ∃ l, its4.length + 1 = l := ⟨_, rfl⟩
  rw [hl4]
  have HL4 := Fact.mk hl4
  clear hl4
  by_cases c1 : n ≠ l4
  · have e1 : ((n : Int) != (l4 : Int)) = true := by simp; omega
    clear c1
    go_wp2_with (go_at_call 8; refine (HA.out _ B4.out).mono ?_; rintro e w5 ⟨rfl, hb5⟩; have B5 := bel2 B4 hb5; clear hb5)
    go_ret
    exact ⟨rfl, B5.out⟩
  have c1 : n = l4 := Decidable.of_not_not c1
  have e1 : ((n : Int) != (l4 : Int)) = false := by simp; omega
  have HC4 := Fact.mk c1
  clear c1
  have hmap1 : its1.map (·.1) = sayd tr1 := RR1.out.map
  obtain ⟨t, ht⟩ : ∃ t, (sayd tr1)[m]? = some t := ⟨_, List.getElem?_eq_getElem (by rw [← hmap1, List.length_map, HN.out, HM.out]; omega)⟩
  have hT1 := RR1.out.tok
  obtain ⟨va, vc, TC⟩ := G1d.out.tk (j := m) (t := t) (by rw [hT1, List.getElem?_append_left (by rw [← hmap1, List.length_map, HN.out, HM.out]; omega)]; exact ht)
  have y0 := TC.c0
  have y1 := TC.c1
  have HTt := Fact.mk ht
  have HMP1 := Fact.mk hmap1
  have HT1 := Fact.mk hT1
  have i1 : (m : Int) < l1 := by have := HL1.out; have := HN.out; have := HM.out; omega
  have i2 : (0 : Int) ≤ m := Int.natCast_nonneg _
  clear TC ht hmap1 hT1
  obtain ⟨kd, hkd⟩ : ∃ kd, t.kd = kd := ⟨_, rfl⟩
  obtain ⟨NN, hNN⟩ : ∃ NN, t.n = NN := ⟨_, rfl⟩
  rw [hkd] at y0
  rw [hNN] at y1
  have HKD := Fact.mk hkd
  clear hkd hNN
  by_cases c2 : kd ≠ 2
  · have e2 : (kd != 2) = true := by simp [c2]
    have e2b : (kd == 2) = false := beq_eq_false_iff_ne.2 c2
    clear c2
    go_wp2_with (go_at_call 8; refine (HA.out _ B4.out).mono ?_; rintro e w5 ⟨rfl, hb5⟩; have B5 := bel2 B4 hb5; clear hb5)
    go_ret
    exact ⟨rfl, B5.out⟩
  have c2 : kd = 2 := Decidable.of_not_not c2
  have e2 : (kd != 2) = false := by simp [c2]
  have e2b : (kd == 2) = true := by rw [c2]; rfl
  have HK2 : Fact (t.kd = 2) := ⟨HKD.out.trans c2⟩
  clear c2
  cases c3 : (NN.toList == [98])
  · go_wp2_with (go_at_call 8; refine (HA.out _ B4.out).mono ?_; rintro e w5 ⟨rfl, hb5⟩; have B5 := bel2 B4 hb5; clear hb5)
    go_ret
    exact ⟨rfl, B5.out⟩
  have hto : TkAt w4 g1 (sayd tr1) := by
    intro j t' hj
    obtain ⟨va', vc', TC'⟩ := G1d.out.tk (j := j) (t := t') (by
      rw [HT1.out, List.getElem?_append_left (List.getElem?_eq_some_iff.1 hj).1]; exact hj)
    exact ⟨TC'.c0, TC'.c1⟩
  have hlen1 : (sayd tr1).length = n := by rw [← HMP1.out, List.length_map]; exact HN.out
  have i3 : (n : Int) ≤ p1 := by have := G1d.out.cp; have := HL1.out; have := HN.out; omega
  have i3n : n ≤ p1 := by omega
  have i4 : (0 : Int) ≤ n := Int.natCast_nonneg _
  have hopen := fun B hB => open_any (sayd tr1) g1 p1 n w4 hlen1 (by have := HNS.out; have := HN.out; omega) hto B hB
  have HO := Fact.mk hopen
  have HLEN := Fact.mk hlen1
  clear hopen hto hlen1
  cases c4 : (rawT (sayd tr1) == [])
  · have HO1 := Fact.mk (HO.out true ⟨by rw [c4]; rfl⟩)
    clear HO c4
    go_wp2_with (first | (go_at_call 11; refine HO1.out.mono ?_; rintro e w5 ⟨rfl, h9⟩; have h9' := h9.symm; subst h9'; clear h9) | (go_at_call 8; refine (HA.out _ B4.out).mono ?_; rintro e w6 ⟨rfl, hb5⟩; have B5 := bel2 B4 hb5; clear hb5))
    go_ret
    exact ⟨rfl, B5.out⟩
  have HO1 := Fact.mk (HO.out false ⟨by rw [c4]; rfl⟩)
  have hr0 : rawT (sayd tr1) = [] := by simpa using c4
  have hmain : sayd tr3 = sayd tr1 ++ sayd tr2 := by
    have h1 := RR1.out.trs.f
    have h2 := RR2.out.trs.f
    have h3 := RR3.out.trs.f
    have h4 := RR4.out.trs.f
    rw [HC1.out] at h1
    rw [HCb.out] at h2
    rw [HC2.out] at h3
    rw [HCa.out] at h4
    refine cuts_main h1 RR1.out.six RR1.out.no6 h4 RR4.out.six RR4.out.no6 h2 RR2.out.six RR2.out.no6 h3 RR3.out.six RR3.out.no6 ?_ ⟨t, last_of (by rw [HLEN.out]; exact HM.out) HTt.out, HK2.out⟩ hr0
    have h5 : (sayd tr4).length = its4.length := by rw [← RR4.out.map, List.length_map]
    have := HLEN.out
    have := HC4.out
    have := HL4.out
    omega
  have hsplit : (its3 ++ [(endTk, Value.slice none 0 0)]).map (·.1) = its1.map (·.1) ++ (its2 ++ [(endTk, Value.slice none 0 0)]).map (·.1) := by
    rw [RR3.out.tok, RR2.out.tok, HMP1.out, hmain, List.append_assoc]
  have hl3 : l3 = n + l2 := by
    have := congrArg List.length hsplit
    rw [List.length_append] at this
    simp only [List.length_map, List.length_append, List.length_singleton] at this
    have := HL3.out
    have := HL2.out
    have := HN.out
    omega
  have HSP := Fact.mk hsplit
  have HL32 := Fact.mk hl3
  have w3n : wrap64 ((n : Int) + (l2 : Int)) = (l3 : Int) := by have := HNS.out; have := HNS2.out; have := HN.out; have := HL2.out; unfold wrap64; omega
  have e5 : ((l3 : Int) != (l3 : Int)) = false := by simp
  clear hmain hr0 c4 HO hsplit hl3
  go_wp2_with (first | (go_at_call 11; refine HO1.out.mono ?_; rintro e w5 ⟨rfl, h9⟩; have h9' := h9.symm; subst h9'; clear h9))
  try simp only [w3n]
  clear w1n w2n w3n e1 e2 e2b c3 d1 d2 y0 y1 e5
  have HB4' := B4
  go_loopw [9] (fun iv wx => ∃ j : Nat, iv = .int .i64 j ∧ j ≤ l3 ∧ Fact (Below w4.heap.size w4 wx)) (fun iv _ => l3 - (intOf iv).toNat)
  case atStart => exact ⟨0, rfl, Nat.zero_le _, ⟨Below.refl _ _⟩⟩
  case round =>
    rename World => wx
    obtain ⟨j, rfl, hj, hbx⟩ := hrel
    by_cases hlt : j < l3
    · obtain ⟨t3, ht3, hB, hC⟩ := tok_split (n := n) HSP.out (by rw [List.length_map]; exact HN.out) (j := j) (by rw [List.length_map]; have := G3d.out.len; omega)
      obtain ⟨kd, N, X, AA, r⟩ := t3
      obtain ⟨va, vc, TZ⟩ := G3d.out.tk (j := j) (t := ⟨kd, N, X, AA, r⟩) ht3
      have TZ' := (TZ.keep hbx.out).keep (Below.refl wx.heap.size wx).drew
      have a1 : (j : Int) < l3 := by omega
      have a2 : decide ((j : Int) < l3) = true := decide_eq_true a1
      have a2n : decide (j < l3) = true := decide_eq_true hlt
      have a3 : (0 : Int) ≤ j := Int.natCast_nonneg _
      have HW := Fact.mk (wrap_ok (n := (j : Int) + 1) (m := j + 1) rfl ⟨by have := HNS.out; have := HNS2.out; have := HN.out; have := HL2.out; have := HL32.out; omega⟩)
      by_cases hjn : j < n
      · obtain ⟨vb, vd, TX⟩ := G1d.out.tk (j := j) (t := ⟨kd, N, X, AA, r⟩) (by rw [List.map_append, List.getElem?_append_left (by rw [List.length_map, HN.out]; exact hjn)]; exact hB hjn)
        have a4 : (j : Int) < l1 := by have := HL1.out; have := HN.out; omega
        have d5 : decide ((j : Int) < n) = true := decide_eq_true (by omega)
        have d5' : (j : Int) < n := by omega
        have d6 : decide ((n : Int) ≤ j) = false := decide_eq_false (by omega)
        have d6' : ¬ (n : Int) ≤ j := by omega
        have d5n : decide (j < n) = true := decide_eq_true (by omega)
        have d6n : decide (n ≤ j) = false := decide_eq_false (by omega)
        have TX' := (TX.keep hbx.out).keep (Below.refl wx.heap.size wx).drew
        obtain ⟨m, hm⟩ : ∃ m, AA.length = m := ⟨_, rfl⟩
        dsimp only at TZ' TX'
        rw [hm] at TZ' TX'
        have hcall := sameToken_eq kd N X r AA va vb vc vd m hm TZ'.sm wx.drew TZ'.lies TX'.lies
        have HCALL := Fact.mk hcall
        have hS0 : (fun w' => Below w4.heap.size w4 w' ∧ (w'.cell? ⟨g3, j * 5, none⟩ = some (.int .i64 kd) ∧ w'.cell? ⟨g3, j * 5 + 1, none⟩ = some (.string N) ∧ w'.cell? ⟨g3, j * 5 + 2, none⟩ = some (.string X) ∧ w'.cell? ⟨g3, j * 5 + 3, none⟩ = some (.slice va m vc) ∧ w'.cell? ⟨g3, j * 5 + 4, none⟩ = some (.bool r)) ∧ (w'.cell? ⟨g1, j * 5, none⟩ = some (.int .i64 kd) ∧ w'.cell? ⟨g1, j * 5 + 1, none⟩ = some (.string N) ∧ w'.cell? ⟨g1, j * 5 + 2, none⟩ = some (.string X) ∧ w'.cell? ⟨g1, j * 5 + 3, none⟩ = some (.slice vb m vd) ∧ w'.cell? ⟨g1, j * 5 + 4, none⟩ = some (.bool r))) wx.drew := TZ'.two TX' hbx.out.drew
        have HTZ := Fact.mk TZ'
        have HTX := Fact.mk TX'
        clear TX TZ TX' TZ' hcall hm hB hC ht3
        have HS0 := Fact.mk hS0
        clear hS0
        go_wp2_with fail
        have hS0 := HS0.out
        refine wp_region_held_drew (S := (fun w' => Below w4.heap.size w4 w' ∧ (w'.cell? ⟨g3, j * 5, none⟩ = some (.int .i64 kd) ∧ w'.cell? ⟨g3, j * 5 + 1, none⟩ = some (.string N) ∧ w'.cell? ⟨g3, j * 5 + 2, none⟩ = some (.string X) ∧ w'.cell? ⟨g3, j * 5 + 3, none⟩ = some (.slice va m vc) ∧ w'.cell? ⟨g3, j * 5 + 4, none⟩ = some (.bool r)) ∧ (w'.cell? ⟨g1, j * 5, none⟩ = some (.int .i64 kd) ∧ w'.cell? ⟨g1, j * 5 + 1, none⟩ = some (.string N) ∧ w'.cell? ⟨g1, j * 5 + 2, none⟩ = some (.string X) ∧ w'.cell? ⟨g1, j * 5 + 3, none⟩ = some (.slice vb m vd) ∧ w'.cell? ⟨g1, j * 5 + 4, none⟩ = some (.bool r)))) (by kernel_rfl) hS0 (fun _ => ?_)
        refine wpAnyH_take (i := 0) (v := ?v0n1) rfl (by kernel_rfl) (by kernel_rfl) (by kernel_rfl) (fun _ _ _ h => h) (Or.inl ⟨by rfl, ?hy0n1⟩) hS0 ?rr0n1
        case hy0n1 =>
          intro w hSw
          go_simp
          try with_reducible rfl
        try simp only [Act.put, List.getElem_toArray, List.getElem_cons_succ, List.getElem_cons_zero, List.setIfInBounds_toArray, List.set_cons_zero, List.set_cons_succ]
        refine wpAnyH_take (i := 1) (v := ?v1n2) rfl (by kernel_rfl) (by kernel_rfl) (by kernel_rfl) (fun _ _ _ h => h) (Or.inl ⟨by rfl, ?hy1n2⟩) hS0 ?rr1n2
        case hy1n2 =>
          intro w hSw
          go_simp
          try with_reducible rfl
        try simp only [Act.put, List.getElem_toArray, List.getElem_cons_succ, List.getElem_cons_zero, List.setIfInBounds_toArray, List.set_cons_zero, List.set_cons_succ]
        refine wpAnyH_take (i := 2) (v := ?v2n3) rfl (by kernel_rfl) (by kernel_rfl) (by kernel_rfl) (fun _ _ _ h => h) (Or.inl ⟨by rfl, ?hy2n3⟩) hS0 ?rr2n3
        case hy2n3 =>
          intro w hSw
          go_simp
          try with_reducible rfl
        try simp only [Act.put, List.getElem_toArray, List.getElem_cons_succ, List.getElem_cons_zero, List.setIfInBounds_toArray, List.set_cons_zero, List.set_cons_succ]
        refine wpAnyH_take (i := 3) (v := ?v3n4) rfl (by kernel_rfl) (by kernel_rfl) (by kernel_rfl) (fun _ _ _ h => h) (Or.inl ⟨by rfl, ?hy3n4⟩) hS0 ?rr3n4
        case hy3n4 =>
          intro w hSw
          go_simp
          try with_reducible rfl
        try simp only [Act.put, List.getElem_toArray, List.getElem_cons_succ, List.getElem_cons_zero, List.setIfInBounds_toArray, List.set_cons_zero, List.set_cons_succ]
        refine wpAnyH_take (i := 4) (v := ?v4n5) rfl (by kernel_rfl) (by kernel_rfl) (by kernel_rfl) (fun _ _ _ h => h) (Or.inl ⟨by rfl, ?hy4n5⟩) hS0 ?rr4n5
        case hy4n5 =>
          intro w hSw
          go_simp
          try with_reducible rfl
        try simp only [Act.put, List.getElem_toArray, List.getElem_cons_succ, List.getElem_cons_zero, List.setIfInBounds_toArray, List.set_cons_zero, List.set_cons_succ]
        refine wpAnyH_take (i := 5) (v := ?v5n6) rfl (by kernel_rfl) (by kernel_rfl) (by kernel_rfl) (fun _ _ _ h => h) (Or.inl ⟨by rfl, ?hy5n6⟩) hS0 ?rr5n6
        case hy5n6 =>
          intro w hSw
          go_simp
          try with_reducible rfl
        try simp only [Act.put, List.getElem_toArray, List.getElem_cons_succ, List.getElem_cons_zero, List.setIfInBounds_toArray, List.set_cons_zero, List.set_cons_succ]
        refine wpAnyH_take (i := 6) (v := ?v6n7) rfl (by kernel_rfl) (by kernel_rfl) (by kernel_rfl) (fun _ _ _ h => h) (Or.inl ⟨by rfl, ?hy6n7⟩) hS0 ?rr6n7
        case hy6n7 =>
          intro w hSw
          go_simp
          try with_reducible rfl
        try simp only [Act.put, List.getElem_toArray, List.getElem_cons_succ, List.getElem_cons_zero, List.setIfInBounds_toArray, List.set_cons_zero, List.set_cons_succ]
        refine wpAnyH_take (i := 7) (v := ?v7n8) rfl (by kernel_rfl) (by kernel_rfl) (by kernel_rfl) (fun _ _ _ h => h) (Or.inl ⟨by rfl, ?hy7n8⟩) hS0 ?rr7n8
        case hy7n8 =>
          intro w hSw
          go_simp
          try with_reducible rfl
        try simp only [Act.put, List.getElem_toArray, List.getElem_cons_succ, List.getElem_cons_zero, List.setIfInBounds_toArray, List.set_cons_zero, List.set_cons_succ]
        refine wpAnyH_take (i := 8) (v := ?v8n9) rfl (by kernel_rfl) (by kernel_rfl) (by kernel_rfl) (fun _ _ _ h => h) (Or.inl ⟨by rfl, ?hy8n9⟩) hS0 ?rr8n9
        case hy8n9 =>
          intro w hSw
          go_simp
          try with_reducible rfl
        try simp only [Act.put, List.getElem_toArray, List.getElem_cons_succ, List.getElem_cons_zero, List.setIfInBounds_toArray, List.set_cons_zero, List.set_cons_succ]
        refine wpAnyH_take (i := 9) (v := ?v9n10) rfl (by kernel_rfl) (by kernel_rfl) (by kernel_rfl) (fun _ _ _ h => h) (Or.inl ⟨by rfl, ?hy9n10⟩) hS0 ?rr9n10
        case hy9n10 =>
          intro w hSw
          go_simp
          try with_reducible rfl
        try simp only [Act.put, List.getElem_toArray, List.getElem_cons_succ, List.getElem_cons_zero, List.setIfInBounds_toArray, List.set_cons_zero, List.set_cons_succ]
        refine wpAnyH_take (i := 10) (v := ?v10n11) rfl (by kernel_rfl) (by kernel_rfl) (by kernel_rfl) (fun _ _ _ h => h) (Or.inl ⟨by rfl, ?hy10n11⟩) hS0 ?rr10n11
        case hy10n11 =>
          intro w hSw
          go_simp
          try with_reducible rfl
        try simp only [Act.put, List.getElem_toArray, List.getElem_cons_succ, List.getElem_cons_zero, List.setIfInBounds_toArray, List.set_cons_zero, List.set_cons_succ]
        refine wpAnyH_take (i := 11) (v := ?v11n12) rfl (by kernel_rfl) (by kernel_rfl) (by kernel_rfl) (fun _ _ _ h => h) (Or.inl ⟨by rfl, ?hy11n12⟩) hS0 ?rr11n12
        case hy11n12 =>
          intro w hSw
          go_simp
          try with_reducible rfl
        try simp only [Act.put, List.getElem_toArray, List.getElem_cons_succ, List.getElem_cons_zero, List.setIfInBounds_toArray, List.set_cons_zero, List.set_cons_succ]
        refine wpAnyH_ready (rs := [12]) (by kernel_rfl) (by simp) ?_
        refine AllReadyH.cons rfl (fun K hK => ?_) AllReadyH.nil
        go_simp
        refine HCALL.out.mono ?_
        rintro e w5 ⟨rfl, hb5⟩
        have hS5 : (fun w' => Below w4.heap.size w4 w' ∧ (w'.cell? ⟨g3, j * 5, none⟩ = some (.int .i64 kd) ∧ w'.cell? ⟨g3, j * 5 + 1, none⟩ = some (.string N) ∧ w'.cell? ⟨g3, j * 5 + 2, none⟩ = some (.string X) ∧ w'.cell? ⟨g3, j * 5 + 3, none⟩ = some (.slice va m vc) ∧ w'.cell? ⟨g3, j * 5 + 4, none⟩ = some (.bool r)) ∧ (w'.cell? ⟨g1, j * 5, none⟩ = some (.int .i64 kd) ∧ w'.cell? ⟨g1, j * 5 + 1, none⟩ = some (.string N) ∧ w'.cell? ⟨g1, j * 5 + 2, none⟩ = some (.string X) ∧ w'.cell? ⟨g1, j * 5 + 3, none⟩ = some (.slice vb m vd) ∧ w'.cell? ⟨g1, j * 5 + 4, none⟩ = some (.bool r))) w5 := (HTZ.out.keep hb5).two (HTX.out.keep hb5) (hbx.out.drew.trans (hb5.mono hbx.out.size))
        refine hK.out _ _ hS5 (fun _ => ?_)
        clear hK K
        refine wpAnyH_take (i := 13) (v := ?v13n13) rfl (by kernel_rfl) (by kernel_rfl) (by kernel_rfl) (fun _ _ _ h => h) (Or.inl ⟨by rfl, ?hy13n13⟩) hS5 ?rr13n13
        case hy13n13 =>
          intro w hSw
          go_simp
          try with_reducible rfl
        try simp only [Act.put, List.getElem_toArray, List.getElem_cons_succ, List.getElem_cons_zero, List.setIfInBounds_toArray, List.set_cons_zero, List.set_cons_succ]
        refine wpAnyH_take (i := 14) (v := ?v14n14) rfl (by kernel_rfl) (by kernel_rfl) (by kernel_rfl) (fun _ _ _ h => h) (Or.inl ⟨by rfl, ?hy14n14⟩) hS5 ?rr14n14
        case hy14n14 =>
          intro w hSw
          go_simp
          try with_reducible rfl
        try simp only [Act.put, List.getElem_toArray, List.getElem_cons_succ, List.getElem_cons_zero, List.setIfInBounds_toArray, List.set_cons_zero, List.set_cons_succ]
        refine wpAnyH_take (i := 15) (v := ?v15n15) rfl (by kernel_rfl) (by kernel_rfl) (by kernel_rfl) (fun _ _ _ h => h) (Or.inl ⟨by rfl, ?hy15n15⟩) hS5 ?rr15n15
        case hy15n15 =>
          intro w hSw
          go_simp
          try with_reducible rfl
        try simp only [Act.put, List.getElem_toArray, List.getElem_cons_succ, List.getElem_cons_zero, List.setIfInBounds_toArray, List.set_cons_zero, List.set_cons_succ]
        refine wpAnyH_take (i := 16) (v := ?v16n16) rfl (by kernel_rfl) (by kernel_rfl) (by kernel_rfl) (fun _ _ _ h => h) (Or.inl ⟨by rfl, ?hy16n16⟩) hS5 ?rr16n16
        case hy16n16 =>
          intro w hSw
          go_simp
          try with_reducible rfl
        try simp only [Act.put, List.getElem_toArray, List.getElem_cons_succ, List.getElem_cons_zero, List.setIfInBounds_toArray, List.set_cons_zero, List.set_cons_succ]
        refine wpAnyH_take (i := 17) (v := ?v17n17) rfl (by kernel_rfl) (by kernel_rfl) (by kernel_rfl) (fun _ _ _ h => h) (Or.inl ⟨by rfl, ?hy17n17⟩) hS5 ?rr17n17
        case hy17n17 =>
          intro w hSw
          go_simp
          try with_reducible rfl
        try simp only [Act.put, List.getElem_toArray, List.getElem_cons_succ, List.getElem_cons_zero, List.setIfInBounds_toArray, List.set_cons_zero, List.set_cons_succ]
        refine wpAnyH_take (i := 18) (v := ?v18n18) rfl (by kernel_rfl) (by kernel_rfl) (by kernel_rfl) (fun _ _ _ h => h) (Or.inl ⟨by rfl, ?hy18n18⟩) hS5 ?rr18n18
        case hy18n18 =>
          intro w hSw
          go_simp
          try with_reducible rfl
        try simp only [Act.put, List.getElem_toArray, List.getElem_cons_succ, List.getElem_cons_zero, List.setIfInBounds_toArray, List.set_cons_zero, List.set_cons_succ]
        refine wpAnyH_take (i := 19) (v := ?v19n19) rfl (by kernel_rfl) (by kernel_rfl) (by kernel_rfl) (fun _ _ _ h => h) (Or.inl ⟨by rfl, ?hy19n19⟩) hS5 ?rr19n19
        case hy19n19 =>
          intro w hSw
          go_simp
          try with_reducible rfl
        try simp only [Act.put, List.getElem_toArray, List.getElem_cons_succ, List.getElem_cons_zero, List.setIfInBounds_toArray, List.set_cons_zero, List.set_cons_succ]
        refine wpAnyH_take (i := 20) (v := undef) rfl (by kernel_rfl) (by kernel_rfl) (by kernel_rfl) (fun _ _ _ h => h) (Or.inr ⟨by rfl, rfl⟩) hS5 ?_
        try simp only [Act.put, List.getElem_toArray, List.getElem_cons_succ, List.getElem_cons_zero, List.setIfInBounds_toArray, List.set_cons_zero, List.set_cons_succ]
        refine wpAnyH_take (i := 21) (v := undef) rfl (by kernel_rfl) (by kernel_rfl) (by kernel_rfl) (fun _ _ _ h => h) (Or.inr ⟨by rfl, rfl⟩) hS5 ?_
        try simp only [Act.put, List.getElem_toArray, List.getElem_cons_succ, List.getElem_cons_zero, List.setIfInBounds_toArray, List.set_cons_zero, List.set_cons_succ]
        refine wpAnyH_take (i := 22) (v := undef) rfl (by kernel_rfl) (by kernel_rfl) (by kernel_rfl) (fun _ _ _ h => h) (Or.inr ⟨by rfl, rfl⟩) hS5 ?_
        try simp only [Act.put, List.getElem_toArray, List.getElem_cons_succ, List.getElem_cons_zero, List.setIfInBounds_toArray, List.set_cons_zero, List.set_cons_succ]
        refine wpAnyH_take (i := 23) (v := undef) rfl (by kernel_rfl) (by kernel_rfl) (by kernel_rfl) (fun _ _ _ h => h) (Or.inr ⟨by rfl, rfl⟩) hS5 ?_
        try simp only [Act.put, List.getElem_toArray, List.getElem_cons_succ, List.getElem_cons_zero, List.setIfInBounds_toArray, List.set_cons_zero, List.set_cons_succ]
        refine wpAnyH_take (i := 24) (v := undef) rfl (by kernel_rfl) (by kernel_rfl) (by kernel_rfl) (fun _ _ _ h => h) (Or.inr ⟨by rfl, rfl⟩) hS5 ?_
        try simp only [Act.put, List.getElem_toArray, List.getElem_cons_succ, List.getElem_cons_zero, List.setIfInBounds_toArray, List.set_cons_zero, List.set_cons_succ]
        refine wpAnyH_take (i := 25) (v := undef) rfl (by kernel_rfl) (by kernel_rfl) (by kernel_rfl) (fun _ _ _ h => h) (Or.inr ⟨by rfl, rfl⟩) hS5 ?_
        try simp only [Act.put, List.getElem_toArray, List.getElem_cons_succ, List.getElem_cons_zero, List.setIfInBounds_toArray, List.set_cons_zero, List.set_cons_succ]
        refine wpAnyH_take (i := 26) (v := undef) rfl (by kernel_rfl) (by kernel_rfl) (by kernel_rfl) (fun _ _ _ h => h) (Or.inr ⟨by rfl, rfl⟩) hS5 ?_
        try simp only [Act.put, List.getElem_toArray, List.getElem_cons_succ, List.getElem_cons_zero, List.setIfInBounds_toArray, List.set_cons_zero, List.set_cons_succ]
        refine wpAnyH_take (i := 27) (v := undef) rfl (by kernel_rfl) (by kernel_rfl) (by kernel_rfl) (fun _ _ _ h => h) (Or.inr ⟨by rfl, rfl⟩) hS5 ?_
        try simp only [Act.put, List.getElem_toArray, List.getElem_cons_succ, List.getElem_cons_zero, List.setIfInBounds_toArray, List.set_cons_zero, List.set_cons_succ]
        refine wpAnyH_take (i := 28) (v := undef) rfl (by kernel_rfl) (by kernel_rfl) (by kernel_rfl) (fun _ _ _ h => h) (Or.inr ⟨by rfl, rfl⟩) hS5 ?_
        try simp only [Act.put, List.getElem_toArray, List.getElem_cons_succ, List.getElem_cons_zero, List.setIfInBounds_toArray, List.set_cons_zero, List.set_cons_succ]
        refine wpAnyH_take (i := 29) (v := undef) rfl (by kernel_rfl) (by kernel_rfl) (by kernel_rfl) (fun _ _ _ h => h) (Or.inr ⟨by rfl, rfl⟩) hS5 ?_
        try simp only [Act.put, List.getElem_toArray, List.getElem_cons_succ, List.getElem_cons_zero, List.setIfInBounds_toArray, List.set_cons_zero, List.set_cons_succ]
        refine wpAnyH_take (i := 30) (v := undef) rfl (by kernel_rfl) (by kernel_rfl) (by kernel_rfl) (fun _ _ _ h => h) (Or.inr ⟨by rfl, rfl⟩) hS5 ?_
        try simp only [Act.put, List.getElem_toArray, List.getElem_cons_succ, List.getElem_cons_zero, List.setIfInBounds_toArray, List.set_cons_zero, List.set_cons_succ]
        refine wpAnyH_take (i := 31) (v := undef) rfl (by kernel_rfl) (by kernel_rfl) (by kernel_rfl) (fun _ _ _ h => h) (Or.inr ⟨by rfl, rfl⟩) hS5 ?_
        try simp only [Act.put, List.getElem_toArray, List.getElem_cons_succ, List.getElem_cons_zero, List.setIfInBounds_toArray, List.set_cons_zero, List.set_cons_succ]
        refine wpAnyH_take (i := 32) (v := ?v32n20) rfl (by kernel_rfl) (by kernel_rfl) (by kernel_rfl) (fun _ _ _ h => h) (Or.inl ⟨by rfl, ?hy32n20⟩) hS5 ?rr32n20
        case hy32n20 =>
          intro w hSw
          go_simp
          try with_reducible rfl
        try simp only [Act.put, List.getElem_toArray, List.getElem_cons_succ, List.getElem_cons_zero, List.setIfInBounds_toArray, List.set_cons_zero, List.set_cons_succ]
        refine wpAnyH_take (i := 33) (v := ?v33n21) rfl (by kernel_rfl) (by kernel_rfl) (by kernel_rfl) (fun _ _ _ h => h) (Or.inl ⟨by rfl, ?hy33n21⟩) hS5 ?rr33n21
        case hy33n21 =>
          intro w hSw
          go_simp
          try with_reducible rfl
        try simp only [Act.put, List.getElem_toArray, List.getElem_cons_succ, List.getElem_cons_zero, List.setIfInBounds_toArray, List.set_cons_zero, List.set_cons_succ]
        refine wpAnyH_done (by kernel_rfl) ?_ _
        have HB5 : Fact (Below w4.heap.size w4 w5) := ⟨hS5.1⟩
        clear hS5 hS0 HS0
        go_wp2_with fail
        go_roundw
        case rel => exact ⟨j + 1, by (first | exact int_eq HW.out | exact int_eq rfl), by omega, HB5⟩
        case measure => simp only [HW.out]; exact meas_to hlt (Nat.lt_succ_self _)
      · obtain ⟨d, hd⟩ : ∃ d, j - n = d := ⟨_, rfl⟩
        have hC' := hC (by omega)
        rw [hd] at hC'
        obtain ⟨vb, vd, TX⟩ := G2d.out.tk (j := d) (t := ⟨kd, N, X, AA, r⟩) hC'
        have w5n : wrap64 ((j : Int) - (n : Int)) = (d : Int) := by have := HNS.out; have := HNS2.out; have := HN.out; have := HL2.out; have := HL32.out; unfold wrap64; omega
        have a4 : (d : Int) < l2 := by have := HL32.out; omega
        have w5k : IntKind.i64.wrap ((j : Int) - (n : Int)) = (d : Int) := by
          rw [show (j : Int) - (n : Int) = (d : Int) by omega]
          exact IntWalk.i64_in _ ⟨by omega, by have := HNS2.out; have := HL2.out; omega⟩
        have a4' : (0 : Int) ≤ d := Int.natCast_nonneg _
        have d5 : decide ((j : Int) < n) = false := decide_eq_false (by omega)
        have d5' : ¬ (j : Int) < n := by omega
        have d6 : decide ((n : Int) ≤ j) = true := decide_eq_true (by omega)
        have d6' : (n : Int) ≤ j := by omega
        have d5n : decide (j < n) = false := decide_eq_false (by omega)
        have d6n : decide (n ≤ j) = true := decide_eq_true (by omega)
        have TX' := (TX.keep hbx.out).keep (Below.refl wx.heap.size wx).drew
        clear hC' hd
        obtain ⟨m, hm⟩ : ∃ m, AA.length = m := ⟨_, rfl⟩
        dsimp only at TZ' TX'
        rw [hm] at TZ' TX'
        have hcall := sameToken_eq kd N X r AA va vb vc vd m hm TZ'.sm wx.drew TZ'.lies TX'.lies
        have HCALL := Fact.mk hcall
        have hS0 : (fun w' => Below w4.heap.size w4 w' ∧ (w'.cell? ⟨g3, j * 5, none⟩ = some (.int .i64 kd) ∧ w'.cell? ⟨g3, j * 5 + 1, none⟩ = some (.string N) ∧ w'.cell? ⟨g3, j * 5 + 2, none⟩ = some (.string X) ∧ w'.cell? ⟨g3, j * 5 + 3, none⟩ = some (.slice va m vc) ∧ w'.cell? ⟨g3, j * 5 + 4, none⟩ = some (.bool r)) ∧ (w'.cell? ⟨g2, d * 5, none⟩ = some (.int .i64 kd) ∧ w'.cell? ⟨g2, d * 5 + 1, none⟩ = some (.string N) ∧ w'.cell? ⟨g2, d * 5 + 2, none⟩ = some (.string X) ∧ w'.cell? ⟨g2, d * 5 + 3, none⟩ = some (.slice vb m vd) ∧ w'.cell? ⟨g2, d * 5 + 4, none⟩ = some (.bool r))) wx.drew := TZ'.two TX' hbx.out.drew
        have HTZ := Fact.mk TZ'
        have HTX := Fact.mk TX'
        clear TX TZ TX' TZ' hcall hm hB hC ht3
        have HS0 := Fact.mk hS0
        clear hS0
        go_wp2_with fail
        have hS0 := HS0.out
        refine wp_region_held_drew (S := (fun w' => Below w4.heap.size w4 w' ∧ (w'.cell? ⟨g3, j * 5, none⟩ = some (.int .i64 kd) ∧ w'.cell? ⟨g3, j * 5 + 1, none⟩ = some (.string N) ∧ w'.cell? ⟨g3, j * 5 + 2, none⟩ = some (.string X) ∧ w'.cell? ⟨g3, j * 5 + 3, none⟩ = some (.slice va m vc) ∧ w'.cell? ⟨g3, j * 5 + 4, none⟩ = some (.bool r)) ∧ (w'.cell? ⟨g2, d * 5, none⟩ = some (.int .i64 kd) ∧ w'.cell? ⟨g2, d * 5 + 1, none⟩ = some (.string N) ∧ w'.cell? ⟨g2, d * 5 + 2, none⟩ = some (.string X) ∧ w'.cell? ⟨g2, d * 5 + 3, none⟩ = some (.slice vb m vd) ∧ w'.cell? ⟨g2, d * 5 + 4, none⟩ = some (.bool r)))) (by kernel_rfl) hS0 (fun _ => ?_)
        refine wpAnyH_take (i := 0) (v := ?v0n22) rfl (by kernel_rfl) (by kernel_rfl) (by kernel_rfl) (fun _ _ _ h => h) (Or.inl ⟨by rfl, ?hy0n22⟩) hS0 ?rr0n22
        case hy0n22 =>
          intro w hSw
          go_simp
          try with_reducible rfl
        try simp only [Act.put, List.getElem_toArray, List.getElem_cons_succ, List.getElem_cons_zero, List.setIfInBounds_toArray, List.set_cons_zero, List.set_cons_succ]
        refine wpAnyH_take (i := 1) (v := ?v1n23) rfl (by kernel_rfl) (by kernel_rfl) (by kernel_rfl) (fun _ _ _ h => h) (Or.inl ⟨by rfl, ?hy1n23⟩) hS0 ?rr1n23
        case hy1n23 =>
          intro w hSw
          go_simp
          try with_reducible rfl
        try simp only [Act.put, List.getElem_toArray, List.getElem_cons_succ, List.getElem_cons_zero, List.setIfInBounds_toArray, List.set_cons_zero, List.set_cons_succ]
        refine wpAnyH_take (i := 2) (v := ?v2n24) rfl (by kernel_rfl) (by kernel_rfl) (by kernel_rfl) (fun _ _ _ h => h) (Or.inl ⟨by rfl, ?hy2n24⟩) hS0 ?rr2n24
        case hy2n24 =>
          intro w hSw
          go_simp
          try with_reducible rfl
        try simp only [Act.put, List.getElem_toArray, List.getElem_cons_succ, List.getElem_cons_zero, List.setIfInBounds_toArray, List.set_cons_zero, List.set_cons_succ]
        refine wpAnyH_take (i := 3) (v := ?v3n25) rfl (by kernel_rfl) (by kernel_rfl) (by kernel_rfl) (fun _ _ _ h => h) (Or.inl ⟨by rfl, ?hy3n25⟩) hS0 ?rr3n25
        case hy3n25 =>
          intro w hSw
          go_simp
          try with_reducible rfl
        try simp only [Act.put, List.getElem_toArray, List.getElem_cons_succ, List.getElem_cons_zero, List.setIfInBounds_toArray, List.set_cons_zero, List.set_cons_succ]
        refine wpAnyH_take (i := 4) (v := undef) rfl (by kernel_rfl) (by kernel_rfl) (by kernel_rfl) (fun _ _ _ h => h) (Or.inr ⟨by rfl, rfl⟩) hS0 ?_
        try simp only [Act.put, List.getElem_toArray, List.getElem_cons_succ, List.getElem_cons_zero, List.setIfInBounds_toArray, List.set_cons_zero, List.set_cons_succ]
        refine wpAnyH_take (i := 5) (v := undef) rfl (by kernel_rfl) (by kernel_rfl) (by kernel_rfl) (fun _ _ _ h => h) (Or.inr ⟨by rfl, rfl⟩) hS0 ?_
        try simp only [Act.put, List.getElem_toArray, List.getElem_cons_succ, List.getElem_cons_zero, List.setIfInBounds_toArray, List.set_cons_zero, List.set_cons_succ]
        refine wpAnyH_take (i := 6) (v := undef) rfl (by kernel_rfl) (by kernel_rfl) (by kernel_rfl) (fun _ _ _ h => h) (Or.inr ⟨by rfl, rfl⟩) hS0 ?_
        try simp only [Act.put, List.getElem_toArray, List.getElem_cons_succ, List.getElem_cons_zero, List.setIfInBounds_toArray, List.set_cons_zero, List.set_cons_succ]
        refine wpAnyH_take (i := 7) (v := undef) rfl (by kernel_rfl) (by kernel_rfl) (by kernel_rfl) (fun _ _ _ h => h) (Or.inr ⟨by rfl, rfl⟩) hS0 ?_
        try simp only [Act.put, List.getElem_toArray, List.getElem_cons_succ, List.getElem_cons_zero, List.setIfInBounds_toArray, List.set_cons_zero, List.set_cons_succ]
        refine wpAnyH_take (i := 8) (v := undef) rfl (by kernel_rfl) (by kernel_rfl) (by kernel_rfl) (fun _ _ _ h => h) (Or.inr ⟨by rfl, rfl⟩) hS0 ?_
        try simp only [Act.put, List.getElem_toArray, List.getElem_cons_succ, List.getElem_cons_zero, List.setIfInBounds_toArray, List.set_cons_zero, List.set_cons_succ]
        refine wpAnyH_take (i := 9) (v := undef) rfl (by kernel_rfl) (by kernel_rfl) (by kernel_rfl) (fun _ _ _ h => h) (Or.inr ⟨by rfl, rfl⟩) hS0 ?_
        try simp only [Act.put, List.getElem_toArray, List.getElem_cons_succ, List.getElem_cons_zero, List.setIfInBounds_toArray, List.set_cons_zero, List.set_cons_succ]
        refine wpAnyH_take (i := 10) (v := undef) rfl (by kernel_rfl) (by kernel_rfl) (by kernel_rfl) (fun _ _ _ h => h) (Or.inr ⟨by rfl, rfl⟩) hS0 ?_
        try simp only [Act.put, List.getElem_toArray, List.getElem_cons_succ, List.getElem_cons_zero, List.setIfInBounds_toArray, List.set_cons_zero, List.set_cons_succ]
        refine wpAnyH_take (i := 11) (v := undef) rfl (by kernel_rfl) (by kernel_rfl) (by kernel_rfl) (fun _ _ _ h => h) (Or.inr ⟨by rfl, rfl⟩) hS0 ?_
        try simp only [Act.put, List.getElem_toArray, List.getElem_cons_succ, List.getElem_cons_zero, List.setIfInBounds_toArray, List.set_cons_zero, List.set_cons_succ]
        refine wpAnyH_take (i := 12) (v := undef) rfl (by kernel_rfl) (by kernel_rfl) (by kernel_rfl) (fun _ _ _ h => h) (Or.inr ⟨by rfl, rfl⟩) hS0 ?_
        try simp only [Act.put, List.getElem_toArray, List.getElem_cons_succ, List.getElem_cons_zero, List.setIfInBounds_toArray, List.set_cons_zero, List.set_cons_succ]
        refine wpAnyH_take (i := 13) (v := undef) rfl (by kernel_rfl) (by kernel_rfl) (by kernel_rfl) (fun _ _ _ h => h) (Or.inr ⟨by rfl, rfl⟩) hS0 ?_
        try simp only [Act.put, List.getElem_toArray, List.getElem_cons_succ, List.getElem_cons_zero, List.setIfInBounds_toArray, List.set_cons_zero, List.set_cons_succ]
        refine wpAnyH_take (i := 14) (v := ?v14n26) rfl (by kernel_rfl) (by kernel_rfl) (by kernel_rfl) (fun _ _ _ h => h) (Or.inl ⟨by rfl, ?hy14n26⟩) hS0 ?rr14n26
        case hy14n26 =>
          intro w hSw
          go_simp
          try with_reducible rfl
        try simp only [Act.put, List.getElem_toArray, List.getElem_cons_succ, List.getElem_cons_zero, List.setIfInBounds_toArray, List.set_cons_zero, List.set_cons_succ]
        refine wpAnyH_take (i := 15) (v := ?v15n27) rfl (by kernel_rfl) (by kernel_rfl) (by kernel_rfl) (fun _ _ _ h => h) (Or.inl ⟨by rfl, ?hy15n27⟩) hS0 ?rr15n27
        case hy15n27 =>
          intro w hSw
          go_simp
          try with_reducible rfl
        try simp only [Act.put, List.getElem_toArray, List.getElem_cons_succ, List.getElem_cons_zero, List.setIfInBounds_toArray, List.set_cons_zero, List.set_cons_succ]
        refine wpAnyH_take (i := 16) (v := ?v16n28) rfl (by kernel_rfl) (by kernel_rfl) (by kernel_rfl) (fun _ _ _ h => h) (Or.inl ⟨by rfl, ?hy16n28⟩) hS0 ?rr16n28
        case hy16n28 =>
          intro w hSw
          go_simp
          try with_reducible rfl
        try simp only [Act.put, List.getElem_toArray, List.getElem_cons_succ, List.getElem_cons_zero, List.setIfInBounds_toArray, List.set_cons_zero, List.set_cons_succ]
        refine wpAnyH_take (i := 17) (v := ?v17n29) rfl (by kernel_rfl) (by kernel_rfl) (by kernel_rfl) (fun _ _ _ h => h) (Or.inl ⟨by rfl, ?hy17n29⟩) hS0 ?rr17n29
        case hy17n29 =>
          intro w hSw
          go_simp
          try with_reducible rfl
        try simp only [Act.put, List.getElem_toArray, List.getElem_cons_succ, List.getElem_cons_zero, List.setIfInBounds_toArray, List.set_cons_zero, List.set_cons_succ]
        refine wpAnyH_take (i := 18) (v := ?v18n30) rfl (by kernel_rfl) (by kernel_rfl) (by kernel_rfl) (fun _ _ _ h => h) (Or.inl ⟨by rfl, ?hy18n30⟩) hS0 ?rr18n30
        case hy18n30 =>
          intro w hSw
          go_simp
          try with_reducible rfl
        try simp only [Act.put, List.getElem_toArray, List.getElem_cons_succ, List.getElem_cons_zero, List.setIfInBounds_toArray, List.set_cons_zero, List.set_cons_succ]
        refine wpAnyH_take (i := 19) (v := ?v19n31) rfl (by kernel_rfl) (by kernel_rfl) (by kernel_rfl) (fun _ _ _ h => h) (Or.inl ⟨by rfl, ?hy19n31⟩) hS0 ?rr19n31
        case hy19n31 =>
          intro w hSw
          go_simp
          try with_reducible rfl
        try simp only [Act.put, List.getElem_toArray, List.getElem_cons_succ, List.getElem_cons_zero, List.setIfInBounds_toArray, List.set_cons_zero, List.set_cons_succ]
        refine wpAnyH_take (i := 20) (v := ?v20n32) rfl (by kernel_rfl) (by kernel_rfl) (by kernel_rfl) (fun _ _ _ h => h) (Or.inl ⟨by rfl, ?hy20n32⟩) hS0 ?rr20n32
        case hy20n32 =>
          intro w hSw
          go_simp
          try with_reducible rfl
        try simp only [Act.put, List.getElem_toArray, List.getElem_cons_succ, List.getElem_cons_zero, List.setIfInBounds_toArray, List.set_cons_zero, List.set_cons_succ]
        refine wpAnyH_take (i := 21) (v := ?v21n33) rfl (by kernel_rfl) (by kernel_rfl) (by kernel_rfl) (fun _ _ _ h => h) (Or.inl ⟨by rfl, ?hy21n33⟩) hS0 ?rr21n33
        case hy21n33 =>
          intro w hSw
          go_simp
          try with_reducible rfl
        try simp only [Act.put, List.getElem_toArray, List.getElem_cons_succ, List.getElem_cons_zero, List.setIfInBounds_toArray, List.set_cons_zero, List.set_cons_succ]
        refine wpAnyH_take (i := 22) (v := ?v22n34) rfl (by kernel_rfl) (by kernel_rfl) (by kernel_rfl) (fun _ _ _ h => h) (Or.inl ⟨by rfl, ?hy22n34⟩) hS0 ?rr22n34
        case hy22n34 =>
          intro w hSw
          go_simp
          try with_reducible rfl
        try simp only [Act.put, List.getElem_toArray, List.getElem_cons_succ, List.getElem_cons_zero, List.setIfInBounds_toArray, List.set_cons_zero, List.set_cons_succ]
        refine wpAnyH_take (i := 23) (v := ?v23n35) rfl (by kernel_rfl) (by kernel_rfl) (by kernel_rfl) (fun _ _ _ h => h) (Or.inl ⟨by rfl, ?hy23n35⟩) hS0 ?rr23n35
        case hy23n35 =>
          intro w hSw
          go_simp
          try with_reducible rfl
        try simp only [Act.put, List.getElem_toArray, List.getElem_cons_succ, List.getElem_cons_zero, List.setIfInBounds_toArray, List.set_cons_zero, List.set_cons_succ]
        refine wpAnyH_take (i := 24) (v := ?v24n36) rfl (by kernel_rfl) (by kernel_rfl) (by kernel_rfl) (fun _ _ _ h => h) (Or.inl ⟨by rfl, ?hy24n36⟩) hS0 ?rr24n36
        case hy24n36 =>
          intro w hSw
          go_simp
          try with_reducible rfl
        try simp only [Act.put, List.getElem_toArray, List.getElem_cons_succ, List.getElem_cons_zero, List.setIfInBounds_toArray, List.set_cons_zero, List.set_cons_succ]
        refine wpAnyH_take (i := 25) (v := ?v25n37) rfl (by kernel_rfl) (by kernel_rfl) (by kernel_rfl) (fun _ _ _ h => h) (Or.inl ⟨by rfl, ?hy25n37⟩) hS0 ?rr25n37
        case hy25n37 =>
          intro w hSw
          go_simp
          try with_reducible rfl
        try simp only [Act.put, List.getElem_toArray, List.getElem_cons_succ, List.getElem_cons_zero, List.setIfInBounds_toArray, List.set_cons_zero, List.set_cons_succ]
        refine wpAnyH_take (i := 26) (v := ?v26n38) rfl (by kernel_rfl) (by kernel_rfl) (by kernel_rfl) (fun _ _ _ h => h) (Or.inl ⟨by rfl, ?hy26n38⟩) hS0 ?rr26n38
        case hy26n38 =>
          intro w hSw
          go_simp
          try with_reducible rfl
        try simp only [Act.put, List.getElem_toArray, List.getElem_cons_succ, List.getElem_cons_zero, List.setIfInBounds_toArray, List.set_cons_zero, List.set_cons_succ]
        refine wpAnyH_take (i := 27) (v := ?v27n39) rfl (by kernel_rfl) (by kernel_rfl) (by kernel_rfl) (fun _ _ _ h => h) (Or.inl ⟨by rfl, ?hy27n39⟩) hS0 ?rr27n39
        case hy27n39 =>
          intro w hSw
          go_simp
          try with_reducible rfl
        try simp only [Act.put, List.getElem_toArray, List.getElem_cons_succ, List.getElem_cons_zero, List.setIfInBounds_toArray, List.set_cons_zero, List.set_cons_succ]
        refine wpAnyH_take (i := 28) (v := ?v28n40) rfl (by kernel_rfl) (by kernel_rfl) (by kernel_rfl) (fun _ _ _ h => h) (Or.inl ⟨by rfl, ?hy28n40⟩) hS0 ?rr28n40
        case hy28n40 =>
          intro w hSw
          go_simp
          try with_reducible rfl
        try simp only [Act.put, List.getElem_toArray, List.getElem_cons_succ, List.getElem_cons_zero, List.setIfInBounds_toArray, List.set_cons_zero, List.set_cons_succ]
        refine wpAnyH_take (i := 29) (v := ?v29n41) rfl (by kernel_rfl) (by kernel_rfl) (by kernel_rfl) (fun _ _ _ h => h) (Or.inl ⟨by rfl, ?hy29n41⟩) hS0 ?rr29n41
        case hy29n41 =>
          intro w hSw
          go_simp
          try with_reducible rfl
        try simp only [Act.put, List.getElem_toArray, List.getElem_cons_succ, List.getElem_cons_zero, List.setIfInBounds_toArray, List.set_cons_zero, List.set_cons_succ]
        refine wpAnyH_ready (rs := [30]) (by kernel_rfl) (by simp) ?_
        refine AllReadyH.cons rfl (fun K hK => ?_) AllReadyH.nil
        go_simp
        refine HCALL.out.mono ?_
        rintro e w5 ⟨rfl, hb5⟩
        have hS5 : (fun w' => Below w4.heap.size w4 w' ∧ (w'.cell? ⟨g3, j * 5, none⟩ = some (.int .i64 kd) ∧ w'.cell? ⟨g3, j * 5 + 1, none⟩ = some (.string N) ∧ w'.cell? ⟨g3, j * 5 + 2, none⟩ = some (.string X) ∧ w'.cell? ⟨g3, j * 5 + 3, none⟩ = some (.slice va m vc) ∧ w'.cell? ⟨g3, j * 5 + 4, none⟩ = some (.bool r)) ∧ (w'.cell? ⟨g2, d * 5, none⟩ = some (.int .i64 kd) ∧ w'.cell? ⟨g2, d * 5 + 1, none⟩ = some (.string N) ∧ w'.cell? ⟨g2, d * 5 + 2, none⟩ = some (.string X) ∧ w'.cell? ⟨g2, d * 5 + 3, none⟩ = some (.slice vb m vd) ∧ w'.cell? ⟨g2, d * 5 + 4, none⟩ = some (.bool r))) w5 := (HTZ.out.keep hb5).two (HTX.out.keep hb5) (hbx.out.drew.trans (hb5.mono hbx.out.size))
        refine hK.out _ _ hS5 (fun _ => ?_)
        clear hK K
        refine wpAnyH_take (i := 31) (v := ?v31n42) rfl (by kernel_rfl) (by kernel_rfl) (by kernel_rfl) (fun _ _ _ h => h) (Or.inl ⟨by rfl, ?hy31n42⟩) hS5 ?rr31n42
        case hy31n42 =>
          intro w hSw
          go_simp
          try with_reducible rfl
        try simp only [Act.put, List.getElem_toArray, List.getElem_cons_succ, List.getElem_cons_zero, List.setIfInBounds_toArray, List.set_cons_zero, List.set_cons_succ]
        refine wpAnyH_take (i := 32) (v := ?v32n43) rfl (by kernel_rfl) (by kernel_rfl) (by kernel_rfl) (fun _ _ _ h => h) (Or.inl ⟨by rfl, ?hy32n43⟩) hS5 ?rr32n43
        case hy32n43 =>
          intro w hSw
          go_simp
          try with_reducible rfl
        try simp only [Act.put, List.getElem_toArray, List.getElem_cons_succ, List.getElem_cons_zero, List.setIfInBounds_toArray, List.set_cons_zero, List.set_cons_succ]
        refine wpAnyH_take (i := 33) (v := ?v33n44) rfl (by kernel_rfl) (by kernel_rfl) (by kernel_rfl) (fun _ _ _ h => h) (Or.inl ⟨by rfl, ?hy33n44⟩) hS5 ?rr33n44
        case hy33n44 =>
          intro w hSw
          go_simp
          try with_reducible rfl
        try simp only [Act.put, List.getElem_toArray, List.getElem_cons_succ, List.getElem_cons_zero, List.setIfInBounds_toArray, List.set_cons_zero, List.set_cons_succ]
        refine wpAnyH_done (by kernel_rfl) ?_ _
        have HB5 : Fact (Below w4.heap.size w4 w5) := ⟨hS5.1⟩
        clear hS5 hS0 HS0
        go_wp2_with fail
        go_roundw
        case rel => exact ⟨j + 1, by (first | exact int_eq HW.out | exact int_eq rfl), by omega, HB5⟩
        case measure => simp only [HW.out]; exact meas_to hlt (Nat.lt_succ_self _)
    · have a1 : ¬ (j : Int) < l3 := by omega
      have a2 : decide ((j : Int) < l3) = false := decide_eq_false a1
      have a2n : decide (j < l3) = false := decide_eq_false hlt
      have B6 := bel2 B4 hbx.out
      go_wp2_with (go_at_call 8; refine (HA.out _ B6.out).mono ?_; rintro e w6 ⟨rfl, hb6⟩; have B7 := bel2 B6 hb6; clear hb6)
      go_ret
      exact ⟨rfl, B7.out⟩
end Go.Proofs.YtdniddiaiinggaaDoor
