/- ScanRaws. -/
import Derived.Test.YtdniddiaiinggaaDoorSR0
import Derived.Test.YtdniddiaiinggaaDoorTQ
set_option linter.unusedVariables false
namespace Go.Proofs.YtdniddiaiinggaaDoor
open Go.RowKit M

def rn8 : Nat → ByteArray
  | 0 => ⟨#[116, 105, 116, 108, 101]⟩
  | 1 => ⟨#[116, 101, 120, 116, 97, 114, 101, 97]⟩
  | 2 => ⟨#[115, 116, 121, 108, 101]⟩
  | 3 => ⟨#[115, 99, 114, 105, 112, 116]⟩
  | 4 => ⟨#[120, 109, 112]⟩
  | 5 => ⟨#[105, 102, 114, 97, 109, 101]⟩
  | 6 => ⟨#[110, 111, 101, 109, 98, 101, 100]⟩
  | _ => ⟨#[110, 111, 102, 114, 97, 109, 101, 115]⟩
theorem eight8 {j : Nat} (h : (j : Int) < 8) : j = 0 ∨ j = 1 ∨ j = 2 ∨ j = 3 ∨ j = 4 ∨ j = 5 ∨ j = 6 ∨ j = 7 := by omega
theorem rn8_ok {p : Nat} (h : (p : Int) < 8) : (rn8 p).data.toList ∈ nms8 ∧ (rn8 p).size ≤ 8 := by
  rcases eight8 h with rfl | rfl | rfl | rfl | rfl | rfl | rfl | rfl <;> exact ⟨by simp [rn8, nms8], by decide⟩
theorem rn8_index {p : Nat} (h : (p : Int) < 8) (w : World) : (Instr.index 41 (.agg #[.string ⟨#[116, 105, 116, 108, 101]⟩, .string ⟨#[116, 101, 120, 116, 97, 114, 101, 97]⟩, .string ⟨#[115, 116, 121, 108, 101]⟩, .string ⟨#[115, 99, 114, 105, 112, 116]⟩, .string ⟨#[120, 109, 112]⟩, .string ⟨#[105, 102, 114, 97, 109, 101]⟩, .string ⟨#[110, 111, 101, 109, 98, 101, 100]⟩, .string ⟨#[110, 111, 102, 114, 97, 109, 101, 115]⟩]) (.int .i64 p)).run Tryd.prog w = .ok (.string (rn8 p)) w := by
  rcases eight8 h with rfl | rfl | rfl | rfl | rfl | rfl | rfl | rfl <;> kernel_rfl
/-- what the tokens of such a source say where they are read -/
theorem raws_read {w w' : World} {S N : ByteArray} {k : Nat} {v : Value} {tr : List Pc} {x : Pc} {its : List (Tk × Value)} (hm : N.data.toList ∈ nms8) (hk : k < 10) (hS : S.data.toList = srcR N.data.toList k) (h : AllR w (U.C false S.data.toList) w' v tr x its) :
    ∃ g cap at_, at_ = (if 0 < k then 2 else 1) ∧ v = .slice (some ⟨g, 0, none⟩) (at_ + 3) cap ∧ w'.cell? ⟨g, 0, none⟩ = some (.int .i64 1) ∧ w'.cell? ⟨g, 1, none⟩ = some (.string N) ∧
      w'.cell? ⟨g, at_ * 5, none⟩ = some (.int .i64 2) ∧ w'.cell? ⟨g, at_ * 5 + 1, none⟩ = some (.string N) ∧ w'.cell? ⟨g, (at_ + 1) * 5, none⟩ = some (.int .i64 1) ∧ w'.cell? ⟨g, (at_ + 1) * 5 + 1, none⟩ = some (.string ⟨#[98]⟩) ∧
      (0 < k → ∃ X : ByteArray, w'.cell? ⟨g, 5, none⟩ = some (.int .i64 3) ∧ w'.cell? ⟨g, 5 + 4, none⟩ = some (.bool true) ∧ w'.cell? ⟨g, 5 + 2, none⟩ = some (.string X) ∧ X.size = 8 * k) := by
  have hb := h.trs
  rw [hS, srcR_clean hm hk] at hb
  obtain ⟨hl, t0, t1, t2, t3⟩ := raws_toks hm hk hb h.six h.no6
  have hil : its.length = (if 0 < k then 2 else 1) + 2 := by rw [← hl, ← h.map, List.length_map]
  obtain ⟨g, cap, rfl, hg1, hg2, hg3, hc⟩ := h.toks.read (by simp)
  have hat : ∀ j t, (sayd tr)[j]? = some t → w'.cell? ⟨g, j * 5, none⟩ = some (.int .i64 t.kd) ∧ w'.cell? ⟨g, j * 5 + 1, none⟩ = some (.string t.n) ∧ w'.cell? ⟨g, j * 5 + 2, none⟩ = some (.string t.x) ∧ w'.cell? ⟨g, j * 5 + 4, none⟩ = some (.bool t.raw) := by
    intro j t hj
    rw [← h.map, List.getElem?_map] at hj
    cases hi : its[j]? with
    | none => rw [hi] at hj; cases hj
    | some p =>
      rw [hi] at hj
      have e : p.1 = t := Option.some.inj hj
      have := hc j p (by rw [List.getElem?_append_left (List.getElem?_eq_some_iff.1 hi).1]; exact hi)
      rw [e] at this
      exact ⟨this.1, this.2.1, this.2.2.1, this.2.2.2.2⟩
  obtain ⟨y0, e0, k0, n0⟩ := t0
  obtain ⟨y2, e2, k2, n2⟩ := t2
  obtain ⟨y3, e3, k3, n3⟩ := t3
  have z0 := hat _ _ e0
  have z2 := hat _ _ e2
  have z3 := hat _ _ e3
  rw [k0, tx_ext n0] at z0
  rw [k2, tx_ext n2] at z2
  have en3 : y3.n = ⟨#[98]⟩ := tx_ext n3
  rw [k3, en3] at z3
  refine ⟨g, cap, _, rfl, by rw [List.length_append, List.length_singleton, hil], by simpa using z0.1, by simpa using z0.2.1, z2.1, z2.2.1, z3.1, z3.2.1, fun h0 => ?_⟩
  obtain ⟨y1, e1, k1, r1, x1⟩ := t1 h0
  have z1 := hat _ _ e1
  rw [k1, r1] at z1
  exact ⟨y1.x, by simpa using z1.1, by simpa using z1.2.2.2, by simpa using z1.2.2.1, by rw [Lib.size_eq]; exact x1⟩
set_option maxRecDepth 20000 in
set_option maxHeartbeats 4000000 in
theorem scraws_walk (which n : Int) (w : World) (hl : Laid w) : Calls Tryd.prog 7 #[.int .i64 which, .int .i64 n] w fun e w' => e = .returned (.bool true) ∧ Below w.heap.size w w' := by
  have HL := Fact.mk hl
  clear hl
  obtain ⟨p, hp, cp⟩ := place_gen which 8 (by decide) (by decide)
  obtain ⟨k, hk, ck⟩ := place_gen n 10 (by decide) (by decide)
  have CP := Fact.mk cp
  have CK := Fact.mk ck
  clear cp ck
  have iN := rn8_index hp
  have n1 := rn8_ok hp
  obtain ⟨N, hN⟩ : ∃ N, rn8 p = N := ⟨_, rfl⟩
  rw [hN] at iN n1
  have hp0 : (0 : Int) ≤ p := by omega
  have N1 := Fact.mk n1
  have nsz := n1.2
  have HK := Fact.mk hk
  clear n1 hN
  obtain ⟨A1, hA1⟩ : ∃ A : ByteArray, (⟨#[60]⟩ : ByteArray) ++ N = A := ⟨_, rfl⟩
  obtain ⟨A2, hA2⟩ : ∃ A : ByteArray, A1 ++ ⟨#[62]⟩ = A := ⟨_, rfl⟩
  have sA1 : A1.size ≤ 9 := by rw [← hA1, size_app]; have : (⟨#[60]⟩ : ByteArray).size = 1 := rfl; omega
  have sA2 : A2.size ≤ 10 := by rw [← hA2, size_app]; have : (⟨#[62]⟩ : ByteArray).size = 1 := rfl; omega
  have r1 := add_at ⟨#[60]⟩ N A1 hA1 (by have : (⟨#[60]⟩ : ByteArray).size = 1 := rfl; omega)
  have r2 := add_at A1 ⟨#[62]⟩ A2 hA2 (by have : (⟨#[62]⟩ : ByteArray).size = 1 := rfl; omega)
  have HA : Fact (A2.data.toList = (60 :: N.data.toList) ++ [62]) := ⟨by rw [← hA2, ← hA1, data_app, data_app]; rfl⟩
  clear hA1 hA2
  go_enter Tryd.func7, Tryd.ntmps7
  go_wp2_with (first | (go_at_call 15; with_reducible refine (CP.out _).mono ?_; rintro e w1 ⟨rfl, h9⟩; have h9' := h9.symm; subst h9'; clear h9) | (go_at_call 15; with_reducible refine (CK.out _).mono ?_; rintro e w1 ⟨rfl, h9⟩; have h9' := h9.symm; subst h9'; clear h9))
  clear r1 r2 iN
  go_loopw [6, 8] (fun t i wx => ∃ (T : ByteArray) (j : Nat), t = .string T ∧ i = .int .i64 j ∧ j ≤ k ∧ T.data.toList = A2.data.toList ++ rep8 j ∧ Below w.heap.size w wx) (fun _ i _ => k - (intOf i).toNat)
  case atStart => exact ⟨A2, 0, rfl, rfl, Nat.zero_le _, by simp [rep8], Below.refl _ _⟩
  case round =>
    obtain ⟨T, j, rfl, rfl, hj, hT, hb⟩ := hrel
    have sT : T.size ≤ 90 := by rw [Lib.size_eq, hT, List.length_append, rep8_len, ← Lib.size_eq]; omega
    have HT := Fact.mk hT
    have HB := Fact.mk hb
    clear hT hb
    by_cases hlt : j < k
    · have q1 : decide ((j : Int) < k) = true := decide_eq_true (by omega)
      have q1n : decide (j < k) = true := decide_eq_true hlt
      have hw1 : wrap64 ((j : Int) + 1) = ((j + 1 : Nat) : Int) := wrap_ok rfl ⟨by omega⟩
      obtain ⟨T2, hT2⟩ : ∃ A : ByteArray, T ++ ⟨#[60, 98, 62, 120, 60, 47, 105, 62]⟩ = A := ⟨_, rfl⟩
      have r3 := add_at T ⟨#[60, 98, 62, 120, 60, 47, 105, 62]⟩ T2 hT2 (by have : (⟨#[60, 98, 62, 120, 60, 47, 105, 62]⟩ : ByteArray).size = 8 := rfl; omega)
      have HT2 := Fact.mk hT2
      clear hT2
      go_wp2_with fail
      go_roundw
      case rel => exact ⟨T2, j + 1, rfl, by (first | exact int_eq rfl | exact int_eq hw1), hlt, by rw [← HT2.out, data_app, HT.out, rep8, List.append_assoc], HB.out⟩
      case measure => first | exact meas_to hlt (Nat.lt_succ_self _) | (simp [intOf]; omega) | (simp only [hw1]; exact meas_to hlt (Nat.lt_succ_self _))
    · have ej : j = k := by omega
      subst ej
      have q1 : decide ((j : Int) < j) = false := decide_eq_false (by omega)
      have q1n : decide (j < j) = false := decide_eq_false (by omega)
      obtain ⟨B1, hB1⟩ : ∃ A : ByteArray, T ++ ⟨#[60, 47]⟩ = A := ⟨_, rfl⟩
      obtain ⟨B2, hB2⟩ : ∃ A : ByteArray, B1 ++ N = A := ⟨_, rfl⟩
      obtain ⟨S, hS⟩ : ∃ A : ByteArray, B2 ++ ⟨#[62, 60, 98, 62]⟩ = A := ⟨_, rfl⟩
      have z2 : (⟨#[60, 47]⟩ : ByteArray).size = 2 := rfl
      have z4 : (⟨#[62, 60, 98, 62]⟩ : ByteArray).size = 4 := rfl
      have sB1 : B1.size ≤ 92 := by rw [← hB1, size_app]; omega
      have sB2 : B2.size ≤ 100 := by rw [← hB2, size_app]; omega
      have sS : S.size ≤ 104 := by rw [← hS, size_app]; omega
      have r3 := add_at T ⟨#[60, 47]⟩ B1 hB1 (by omega)
      have r4 := add_at B1 N B2 hB2 (by omega)
      have r5 := add_at B2 ⟨#[62, 60, 98, 62]⟩ S hS (by omega)
      have HS : Fact (S.data.toList = srcR N.data.toList j) := ⟨by rw [← hS, ← hB2, ← hB1, data_app, data_app, data_app, HT.out, HA.out]; rfl⟩
      have hj10 : j < 10 := by omega
      have HLR := Fact.mk (HL.out.since HB.out)
      have qN : (N.toList == N.toList) = true := beq_self_eq_true _
      clear hB1 hB2 hS z2 z4 HT HA
      by_cases hk0 : 0 < j
      · have q2 : decide ((0 : Int) < j) = true := decide_eq_true (by omega)
        have q2n : decide (0 < j) = true := decide_eq_true hk0
        have q3 : ((j : Int) == 0) = false := by rw [beq_eq_false_iff_ne]; omega
        have hw8 : wrap64 (8 * (j : Int)) = 8 * (j : Int) := by unfold wrap64; omega
        go_wp2_with (first | (go_at_call 9; refine (all_any S (by omega) _ HLR.out).mono ?_; rintro e w2 ⟨v, tr, x, its, rfl, hR⟩; obtain ⟨g, cap, a, ea, ev, c0, c1, c2, c3, c4, c5, hX⟩ := raws_read N1.out.1 hj10 HS.out hR; obtain ⟨X, d0, d1, d2, hXs⟩ := hX hk0; rw [if_pos hk0] at ea; subst ea; subst ev; have HBA := Fact.mk (HB.out.trans (hR.below.mono HB.out.size)); have qX : ((X.size : Int) == 8 * (j : Int)) = true := (by rw [beq_iff_eq]; omega); clear hR hX) | (go_at_call 8; refine (awake11_true _ (HL.out.since HBA.out)).mono ?_; rintro e w3 ⟨rfl, hb3⟩))
        go_ret
        exact ⟨rfl, HBA.out.trans (hb3.mono HBA.out.size)⟩
      · have q2 : decide ((0 : Int) < j) = false := decide_eq_false (by omega)
        have q2n : decide (0 < j) = false := decide_eq_false hk0
        have q3 : ((j : Int) == 0) = true := by rw [beq_iff_eq]; omega
        go_wp2_with (first | (go_at_call 9; refine (all_any S (by omega) _ HLR.out).mono ?_; rintro e w2 ⟨v, tr, x, its, rfl, hR⟩; obtain ⟨g, cap, a, ea, ev, c0, c1, c2, c3, c4, c5, hX⟩ := raws_read N1.out.1 hj10 HS.out hR; rw [if_neg hk0] at ea; subst ea; subst ev; have HBA := Fact.mk (HB.out.trans (hR.below.mono HB.out.size)); clear hR hX) | (go_at_call 8; refine (awake11_true _ (HL.out.since HBA.out)).mono ?_; rintro e w3 ⟨rfl, hb3⟩))
        go_ret
        exact ⟨rfl, HBA.out.trans (hb3.mono HBA.out.size)⟩
end Go.Proofs.YtdniddiaiinggaaDoor
