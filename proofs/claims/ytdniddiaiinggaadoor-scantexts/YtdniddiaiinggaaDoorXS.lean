/- ScanTexts. -/
import Derived.Test.YtdniddiaiinggaaDoorXT
import Derived.Test.YtdniddiaiinggaaDoorXD
import Derived.Test.YtdniddiaiinggaaDoorVW
set_option linter.unusedVariables false
namespace Go.Proofs.YtdniddiaiinggaaDoor
open Go.RowKit M

def rt4 : Nat → ByteArray
  | 0 => ⟨#[38, 97, 109, 112, 59]⟩
  | 1 => ⟨#[38, 35, 54, 53, 59]⟩
  | 2 => ⟨#[38, 108, 116, 59]⟩
  | _ => ⟨#[38, 110, 98, 115, 112, 59]⟩
theorem four4 {j : Nat} (h : (j : Int) < 4) : j = 0 ∨ j = 1 ∨ j = 2 ∨ j = 3 := by omega
theorem rt4_eq {p : Nat} (h : (p : Int) < 4) : (rt4 p).data.toList = rf4 p := by
  rcases four4 h with rfl | rfl | rfl | rfl <;> rfl
theorem rt4_index {p : Nat} (h : (p : Int) < 4) (w : World) : (Instr.index 37 (.agg #[.string ⟨#[38, 97, 109, 112, 59]⟩, .string ⟨#[38, 35, 54, 53, 59]⟩, .string ⟨#[38, 108, 116, 59]⟩, .string ⟨#[38, 110, 98, 115, 112, 59]⟩]) (.int .i64 p)).run Tryd.prog w = .ok (.string (rt4 p)) w := by
  rcases four4 h with rfl | rfl | rfl | rfl <;> kernel_rfl
/-- what All says of such a source -/
structure TxR (its : List (Tk × Value)) (D : List UInt8) : Prop where
  three : ∀ p ∈ its, p.1.kd = 3
  all : (its.map (·.1)).flatMap (fun t => t.x.data.toList) = D
theorem AllR.txt {w w' : World} {a b r : List UInt8} {S : ByteArray} {v : Value} {tr : List Pc} {x : Pc} {its : List (Tk × Value)} (hS : S.data.toList = ((a ++ [32]) ++ r ++ [32]) ++ b) (ha : Pl a) (hb : Pl b) (hr : Rf1 r) (hc : ∀ c ∈ r, 32 ≤ c.toNat ∧ c.toNat < 128 ∧ c ≠ 60) (h : AllR w (U.C false S.data.toList) w' v tr x its) : TxR its (decB false (U.C false S.data.toList)) := by
  have hx := tx_clean ha hb hr hc
  rw [← hS] at hx
  obtain ⟨h1, h2⟩ := hx.all h.six tr 0 (Or.inl (Nat.zero_le _)) (Nat.zero_le _) h.trs.f h.no6
  rw [← h.map] at h1 h2
  exact ⟨fun p hp => h1 p.1 (List.mem_map_of_mem hp), h2⟩
def catT (its : List (Tk × Value)) : List UInt8 := (its.map (·.1)).flatMap (fun t => t.x.data.toList)
theorem catT_take {its : List (Tk × Value)} {j : Nat} {p : Tk × Value} (h : its[j]? = some p) : catT (its.take (j + 1)) = catT (its.take j) ++ p.1.x.data.toList := by
  unfold catT
  rw [List.take_add_one, h]
  simp
theorem catT_le (its : List (Tk × Value)) (j : Nat) : (catT (its.take j)).length ≤ (catT its).length := by
  have e : catT its = catT (its.take j) ++ catT (its.drop j) := by
    unfold catT
    rw [← List.flatMap_append, ← List.map_append, List.take_append_drop]
  rw [e, List.length_append]
  exact Nat.le_add_right _ _
/-- the bytes looked at so far are neither sign -/
structure Seen (a b : ByteArray) (i : Nat) : Prop where
  no : ∀ j, j < i → bAt (a.data.toList ++ b.data.toList) j ≠ 60 ∧ bAt (a.data.toList ++ b.data.toList) j ≠ 38
theorem Seen.next {a b : ByteArray} {i : Nat} (h : Seen a b i) (h1 : bAt (a.data.toList ++ b.data.toList) i ≠ 60) (h2 : bAt (a.data.toList ++ b.data.toList) i ≠ 38) : Seen a b (i + 1) := ⟨fun j hj => by
  rcases Nat.lt_or_eq_of_le (Nat.le_of_lt_succ hj) with h3 | h3
  · exact h.no j h3
  · rw [h3]; exact ⟨h1, h2⟩⟩
theorem Seen.pl {a b : ByteArray} {i : Nat} (h : Seen a b i) (hi : a.size + b.size ≤ i) : Pl a.data.toList ∧ Pl b.data.toList := by
  have : Pl (a.data.toList ++ b.data.toList) := fun c hc => by
    obtain ⟨j, hj, e⟩ := List.getElem_of_mem hc
    have := h.no j (by rw [List.length_append, ← Lib.size_eq, ← Lib.size_eq] at hj; omega)
    rw [bAt_in hj, e] at this
    exact this
  exact this.app
theorem wrap_small {j m : Nat} (h : j < m + 1) (hm : m ≤ 4000) : wrap64 ((j : Int) + 1) = ((j + 1 : Nat) : Int) := wrap_ok rfl ⟨by omega⟩
set_option maxRecDepth 20000 in
set_option maxHeartbeats 4000000 in
theorem sctexts_walk (a b : ByteArray) (n : Int) (w : World) (hl : Laid w) : Calls Tryd.prog 6 #[.string a, .string b, .int .i64 n] w fun e w' => e = .returned (.bool true) ∧ Below w.heap.size w w' := by
  have HL := Fact.mk hl
  clear hl
  by_cases h1 : 500 < a.size
  · have i1 : (500 : Int) < a.size := by omega
    have q1 : decide ((500 : Int) < a.size) = true := decide_eq_true i1
    go_enter Tryd.func6, Tryd.ntmps6
    go_wp2_with (go_at_call 8; refine (awake11_true _ HL.out).mono ?_; rintro e w1 ⟨rfl, hb1⟩)
    go_ret
    exact ⟨rfl, hb1⟩
  have q1 : decide ((500 : Int) < a.size) = false := decide_eq_false (by omega)
  have q1n : decide (500 < a.size) = false := decide_eq_false h1
  by_cases h2 : 500 < b.size
  · have i2 : (500 : Int) < b.size := by omega
    have q2 : decide ((500 : Int) < b.size) = true := decide_eq_true i2
    go_enter Tryd.func6, Tryd.ntmps6
    go_wp2_with (go_at_call 8; refine (awake11_true _ HL.out).mono ?_; rintro e w1 ⟨rfl, hb1⟩)
    go_ret
    exact ⟨rfl, hb1⟩
  have q2 : decide ((500 : Int) < b.size) = false := decide_eq_false (by omega)
  have q2n : decide (500 < b.size) = false := decide_eq_false h2
  have za : a.size ≤ 500 := by omega
  have zb : b.size ≤ 500 := by omega
  have hwab : wrap64 ((a.size : Int) + b.size) = (a.size : Int) + b.size := by unfold wrap64; omega
  clear h1 h2
  go_enter Tryd.func6, Tryd.ntmps6
  go_wp2_with fail
  go_loopw [7] (fun i wx => ∃ k : Nat, i = .int .i64 k ∧ k ≤ a.size + b.size ∧ Below w.heap.size w wx ∧ Seen a b k) (fun i _ => a.size + b.size - (intOf i).toNat)
  case atStart => exact ⟨0, rfl, Nat.zero_le _, Below.refl _ _, ⟨fun j hj => by omega⟩⟩
  case round =>
    obtain ⟨k, rfl, hk, hb, hs⟩ := hrel
    have HB := Fact.mk hb
    have HS := Fact.mk hs
    clear hb hs
    by_cases hlt : k < a.size + b.size
    · obtain ⟨c, hc⟩ : ∃ c, bAt (a.data.toList ++ b.data.toList) k = c := ⟨_, rfl⟩
      have i3 : (k : Int) < (a.size : Int) + b.size := by omega
      have q3 : decide ((k : Int) < (a.size : Int) + b.size) = true := decide_eq_true i3
      have hw1 : wrap64 ((k : Int) + 1) = ((k + 1 : Nat) : Int) := wrap_ok rfl ⟨by omega⟩
      have k0 : (0 : Int) ≤ k := by omega
      have hbs : (c = 60 ∨ c = 38) ∨ ((((c.toNat : Int) == 60) = false ∧ ((c.toNat : Int) == 38) = false) ∧ Seen a b (k + 1)) := by
        by_cases e1 : c = 60
        · exact Or.inl (Or.inl e1)
        · by_cases e2 : c = 38
          · exact Or.inl (Or.inr e2)
          · exact Or.inr ⟨⟨u8_ne (by decide) e1, u8_ne (by decide) e2⟩, HS.out.next (by rw [hc]; exact e1) (by rw [hc]; exact e2)⟩
      by_cases hka : k < a.size
      · have i4 : (k : Int) < a.size := by omega
        have q4 : decide ((k : Int) < a.size) = true := decide_eq_true i4
        have q4n : decide (k < a.size) = true := decide_eq_true hka
        have hcc : a[k] = c := by
          rw [← hc, ← byte_at a k hka]
          rw [bAt_in (by rw [← Lib.size_eq]; exact hka), bAt_in (by rw [List.length_append, ← Lib.size_eq]; omega)]
          exact (List.getElem_append_left _).symm
        clear hc
        rcases hbs with (rfl | rfl) | ⟨⟨q5, q6⟩, hs2⟩
        · go_wp2_with (go_at_call 8; refine (awake11_true _ (HL.out.since HB.out)).mono ?_; rintro e w3 ⟨rfl, hb3⟩)
          go_ret
          exact ⟨rfl, HB.out.trans (hb3.mono HB.out.size)⟩
        · go_wp2_with (go_at_call 8; refine (awake11_true _ (HL.out.since HB.out)).mono ?_; rintro e w3 ⟨rfl, hb3⟩)
          go_ret
          exact ⟨rfl, HB.out.trans (hb3.mono HB.out.size)⟩
        · have HS2 := Fact.mk hs2
          clear hs2
          go_wp2_with fail
          go_roundw
          case rel => exact ⟨k + 1, by (first | exact int_eq rfl | exact int_eq hw1), hlt, HB.out, HS2.out⟩
          case measure => first | exact meas_to hlt (Nat.lt_succ_self _) | (simp only [hw1]; exact meas_to hlt (Nat.lt_succ_self _))
      · obtain ⟨k2, hk2⟩ : ∃ k2, k = a.size + k2 := ⟨k - a.size, by omega⟩
        have q4 : decide ((k : Int) < a.size) = false := decide_eq_false (by omega)
        have q4n : decide (k < a.size) = false := decide_eq_false hka
        have hk2b : k2 < b.size := by omega
        have hcc : b[k2] = c := by
          rw [← hc, ← byte_at b k2 hk2b, hk2, Lib.size_eq a]
          unfold bAt
          simp [List.getD, List.getElem?_append_right]
        have hcc2 : ∀ h : k - a.size < b.size, b[k - a.size]'h = c := by
          intro h
          rw [← hcc]
          congr 1
          omega
        have hw2 : wrap64 ((k : Int) - a.size) = (k : Int) - a.size := by unfold wrap64; omega
        have hw3 : ((k : Int) - a.size).toNat = k - a.size := by omega
        have i7 : (0 : Int) ≤ (k : Int) - a.size := by omega
        have i8 : (k : Int) - a.size < b.size := by omega
        have i9 : k - a.size < b.size := by omega
        have i5 : (0 : Int) ≤ k2 := by omega
        have i6 : (k2 : Int) < b.size := by omega
        clear hc hk2
        rcases hbs with (rfl | rfl) | ⟨⟨q5, q6⟩, hs2⟩
        · go_wp2_with (go_at_call 8; refine (awake11_true _ (HL.out.since HB.out)).mono ?_; rintro e w3 ⟨rfl, hb3⟩)
          go_ret
          exact ⟨rfl, HB.out.trans (hb3.mono HB.out.size)⟩
        · go_wp2_with (go_at_call 8; refine (awake11_true _ (HL.out.since HB.out)).mono ?_; rintro e w3 ⟨rfl, hb3⟩)
          go_ret
          exact ⟨rfl, HB.out.trans (hb3.mono HB.out.size)⟩
        · have HS2 := Fact.mk hs2
          clear hs2
          go_wp2_with fail
          go_roundw
          case rel => exact ⟨k + 1, by (first | exact int_eq rfl | exact int_eq hw1), hlt, HB.out, HS2.out⟩
          case measure => first | exact meas_to hlt (Nat.lt_succ_self _) | (simp only [hw1]; exact meas_to hlt (Nat.lt_succ_self _))
    · have hpl := HS.out.pl (by omega)
      have q3 : decide ((k : Int) < (a.size : Int) + b.size) = false := decide_eq_false (by omega)
      obtain ⟨p, hp, cp⟩ := place_gen n 4 (by decide) (by decide)
      have CP := Fact.mk cp
      have iR := rt4_index hp
      have hr := rf4_ok hp
      rw [← rt4_eq hp] at hr
      obtain ⟨R, hRd⟩ : ∃ R, rt4 p = R := ⟨_, rfl⟩
      rw [hRd] at iR hr
      have zR : R.size ≤ 6 := by rw [Lib.size_eq]; exact hr.2.1
      have HRf := Fact.mk hr
      have HPL := Fact.mk hpl
      have hp0 : (0 : Int) ≤ p := by omega
      clear cp hr hRd hpl
      obtain ⟨B1, hB1⟩ : ∃ A : ByteArray, a ++ ⟨#[32]⟩ = A := ⟨_, rfl⟩
      obtain ⟨B2, hB2⟩ : ∃ A : ByteArray, B1 ++ R = A := ⟨_, rfl⟩
      obtain ⟨B3, hB3⟩ : ∃ A : ByteArray, B2 ++ ⟨#[32]⟩ = A := ⟨_, rfl⟩
      obtain ⟨S, hS⟩ : ∃ A : ByteArray, B3 ++ b = A := ⟨_, rfl⟩
      have z1 : (⟨#[32]⟩ : ByteArray).size = 1 := rfl
      have sB1 : B1.size ≤ 501 := by rw [← hB1, size_app]; omega
      have sB2 : B2.size ≤ 507 := by rw [← hB2, size_app]; omega
      have sB3 : B3.size ≤ 508 := by rw [← hB3, size_app]; omega
      have sS : S.size ≤ 1008 := by rw [← hS, size_app]; omega
      have r1 := add_at a ⟨#[32]⟩ B1 hB1 (by omega)
      have r2 := add_at B1 R B2 hB2 (by omega)
      have r3 := add_at B2 ⟨#[32]⟩ B3 hB3 (by omega)
      have r4 := add_at B3 b S hS (by omega)
      have HSd : Fact (S.data.toList = ((a.data.toList ++ [32]) ++ R.data.toList ++ [32]) ++ b.data.toList) := ⟨by rw [← hS, ← hB3, ← hB2, ← hB1, data_app, data_app, data_app, data_app]⟩
      clear hB1 hB2 hB3 hS z1 HS
      have HLR := Fact.mk (HL.out.since HB.out)
      obtain ⟨CL, hCL⟩ : ∃ A : ByteArray, (⟨(U.C false S.data.toList).toArray⟩ : ByteArray) = A := ⟨_, rfl⟩
      have hCd : U.C false S.data.toList = CL.data.toList := by rw [← hCL]
      have zC : CL.size ≤ 4000 := by
        have := U.C_len S.data.toList false
        rw [hCd, ← Lib.size_eq, ← Lib.size_eq] at this
        omega
      obtain ⟨DD, hDD⟩ : ∃ A : ByteArray, (⟨(decB false CL.data.toList).toArray⟩ : ByteArray) = A := ⟨_, rfl⟩
      have hDd : decB false CL.data.toList = DD.data.toList := by rw [← hDD]
      have zD : DD.size ≤ 32000 := by
        have := decB_len false _ CL.data.toList (Nat.le_refl _)
        rw [hDd, ← Lib.size_eq, ← Lib.size_eq] at this
        omega
      have HCL := Fact.mk hCL
      have HCD := Fact.mk hCd
      have HDD := Fact.mk hDD
      have HDd := Fact.mk hDd
      clear hCL hCd hDD hDd
      go_wp2_with (first | (go_at_call 15; with_reducible refine (CP.out _).mono ?_; rintro e w1 ⟨rfl, h9⟩; have h9' := h9.symm; subst h9'; clear h9) | (go_at_call 9; refine (all_any S (by omega) _ HLR.out).mono ?_; rintro e w2 ⟨v, tr, x, its, rfl, hR⟩; have HX := Fact.mk (hR.txt HSd.out HPL.out.1 HPL.out.2 HRf.out.1 HRf.out.2.2); have HB2 := Fact.mk (HB.out.trans (hR.below.mono HB.out.size)); obtain ⟨g, cap, ev, hg1, hg2, hg3, hc⟩ := hR.toks.read (by simp); obtain ⟨m, hm⟩ : ∃ m, its.length = m := ⟨_, rfl⟩; rw [List.length_append, List.length_singleton, hm] at ev; subst ev; have hml : m ≤ 4000 := (by have h1 := congrArg List.length hR.map; rw [List.length_map] at h1; have h2 := sayd_len tr; have h3 := TrR.len tr hR.trs.pre hR.no6; rw [HCD.out, ← Lib.size_eq] at h3; omega); have HM := Fact.mk hm; have HC := Fact.mk hc; clear hR hc hm hg3))
      have HX2 : Fact (catT its = DD.data.toList) := ⟨by have := HX.out.all; rw [HCD.out, HDd.out] at this; exact this⟩
      clear r1 r2 r3 r4 iR
      go_loopw [11, 13] (fun t i wx => ∃ (T : ByteArray) (j : Nat), t = .string T ∧ i = .int .i64 j ∧ j ≤ m + 1 ∧ T.data.toList = catT (its.take j) ∧ Below w2.heap.size w2 wx) (fun _ i _ => m + 1 - (intOf i).toNat)
      case atStart => exact ⟨⟨#[]⟩, 0, rfl, rfl, Nat.zero_le _, by simp [catT], Below.refl _ _⟩
      case round =>
        obtain ⟨T, j, rfl, rfl, hj, hT, hb9⟩ := hrel
        have zT : T.size ≤ 32000 := by
          rw [Lib.size_eq, hT]
          refine Nat.le_trans (catT_le its j) ?_
          rw [HX2.out, ← Lib.size_eq]
          exact zD
        have HT := Fact.mk hT
        have HB9 := Fact.mk hb9
        clear hT hb9
        by_cases hjm : j < m + 1
        · have i3 : (j : Int) < (m : Int) + 1 := by omega
          have q7 : decide ((j : Int) < (m : Int) + 1) = true := decide_eq_true i3
          have q7n : decide (j < m + 1) = true := decide_eq_true hjm
          have HW1 := Fact.mk (wrap_small hjm hml)
          have j0 : (0 : Int) ≤ j := Int.natCast_nonneg j
          have kp : ∀ {o : Nat} {u : Value}, w2.cell? ⟨g, o, none⟩ = some u → wr.cell? ⟨g, o, none⟩ = some u := fun h => (HB9.out.cell (p := ⟨g, _, none⟩) hg2).trans h
          by_cases hj2 : j < m
          · obtain ⟨y, hy⟩ : ∃ y, its[j]? = some y := ⟨its[j]'(by rw [HM.out]; exact hj2), List.getElem?_eq_getElem _⟩
            have hcs := HC.out j y (by rw [List.getElem?_append_left (by rw [HM.out]; exact hj2)]; exact hy)
            have h3 := HX.out.three y (List.mem_of_getElem? hy)
            have hct := catT_take hy
            obtain ⟨⟨kd, N, X, AA, r⟩, av⟩ := y
            dsimp only at hcs h3 hct
            subst h3
            have c0 := kp hcs.1
            have c2 := kp hcs.2.2.1
            obtain ⟨T2, hT2⟩ : ∃ A : ByteArray, T ++ X = A := ⟨_, rfl⟩
            have zX : X.size ≤ 32000 := by
              have h1 : X.data.toList.length ≤ (catT (its.take (j + 1))).length := by rw [hct, List.length_append]; omega
              have h2 := catT_le its (j + 1)
              rw [HX2.out, ← Lib.size_eq] at h2
              rw [Lib.size_eq]
              omega
            have r5 := add_at T X T2 hT2 (by omega)
            have HT2 : Fact (T2.data.toList = catT (its.take (j + 1))) := ⟨by rw [← hT2, data_app, HT.out, hct]⟩
            clear hcs hct hT2 hy kp
            have hw1 := HW1.out
            go_wp2_with fail
            go_roundw
            case rel => exact ⟨T2, j + 1, rfl, int_eq HW1.out, hjm, HT2.out, HB9.out⟩
            case measure =>
              simp only [HW1.out]
              exact meas_to hjm (Nat.lt_succ_self _)
          · have ej : j = m := by omega
            have hcs := HC.out j (endTk, .slice none 0 0) (by rw [List.getElem?_append_right (by rw [HM.out]; omega), HM.out, ej, Nat.sub_self]; rfl)
            obtain ⟨kd, hkd⟩ : ∃ kd : Int, kd = 6 := ⟨_, rfl⟩
            have c0 : wr.cell? ⟨g, j * 5, none⟩ = some (.int .i64 kd) := by rw [hkd]; exact kp hcs.1
            have q3k : (kd == 3) = false := by rw [hkd]; rfl
            have q6k : (kd == 6) = true := by rw [hkd]; rfl
            clear hkd
            have HT2 : Fact (T.data.toList = catT (its.take (j + 1))) := ⟨by rw [HT.out, List.take_of_length_le (by rw [HM.out]; omega), List.take_of_length_le (by rw [HM.out]; omega)]⟩
            clear hcs kp ej hj2
            have hw1 := HW1.out
            go_wp2_with fail
            go_roundw
            case rel => exact ⟨T, j + 1, rfl, int_eq HW1.out, hjm, HT2.out, HB9.out⟩
            case measure =>
              simp only [HW1.out]
              exact meas_to hjm (Nat.lt_succ_self _)
        · have q7 : decide ((j : Int) < (m : Int) + 1) = false := decide_eq_false (by omega)
          have q7n : decide (j < m + 1) = false := decide_eq_false hjm
          have eT : T = DD := tx_ext (by rw [HT.out, List.take_of_length_le (by rw [HM.out]; omega), HX2.out])
          subst eT
          have qE : (T.toList == T.toList) = true := beq_self_eq_true _
          have hBw := HB2.out.trans (HB9.out.mono HB2.out.size)
          have HBw := Fact.mk hBw
          clear hBw
          go_wp2_with (first | (go_at_call 17; refine (V4.refClean_any S _ (by omega)).mono ?_; rintro e w3 ⟨rfl, h9⟩; have h9' := h9.symm; subst h9'; clear h9; rw [HCL.out]) | (go_at_call 16; refine (rdecode_any CL false zC _).mono ?_; rintro e w4 ⟨rfl, hb4⟩; rw [HDD.out]; have HB4 := Fact.mk (HBw.out.trans (hb4.mono HBw.out.size)); clear hb4) | (go_at_call 8; refine (awake11_true _ (HL.out.since HB4.out)).mono ?_; rintro e w5 ⟨rfl, hb5⟩))
          go_ret
          exact ⟨rfl, HB4.out.trans (hb5.mono HB4.out.size)⟩
end Go.Proofs.YtdniddiaiinggaaDoor
