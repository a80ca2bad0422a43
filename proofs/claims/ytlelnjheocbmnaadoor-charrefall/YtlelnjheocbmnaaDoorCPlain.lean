/- The walk of CharrefPlain: it returns true. -/
import Derived.Test.YtlelnjheocbmnaaDoorCNumM
set_option linter.unusedVariables false
namespace Go.Proofs.YtlelnjheocbmnaaDoor
open Go.RowKit M

set_option maxRecDepth 20000 in
set_option maxHeartbeats 2000000 in
theorem plain_early (a b : ByteArray) (n : Int) (w : World) (hw : Met w) (hz : 1000 < a.size ∨ 1000 < b.size) :
    Calls Tryd.prog 5 #[.string a, .string b, .int .i64 n] w fun e w' => e = .returned (.bool true) ∧ Below w.heap.size w w' := by
  have HW := Fact.mk hw
  clear hw
  by_cases ha : 1000 < a.size
  · clear hz
    go_enter Tryd.func5, Tryd.ntmps5
    go_wp2_with (go_at_call 8; refine (awake9_true _ HW.out).mono ?_; rintro e w5 ⟨rfl, hb5⟩)
    go_ret
    exact ⟨rfl, hb5⟩
  · have hb : 1000 < b.size := by omega
    clear hz
    go_enter Tryd.func5, Tryd.ntmps5
    go_wp2_with (go_at_call 8; refine (awake9_true _ HW.out).mono ?_; rintro e w5 ⟨rfl, hb5⟩)
    go_ret
    exact ⟨rfl, hb5⟩

theorem code_own {k : Nat} (h : 256 ≤ k) (h2 : k ≤ 60000) (h3 : ¬ (55296 ≤ k ∧ k ≤ 57343)) : codeB ((min k 1114112 : Nat) : Int) = k := by
  have e : min k 1114112 = k := by omega
  rw [e]
  exact code_self (by omega) (by omega)
def cmin (n : Nat) : Int := codeB ((min n 1114112 : Nat) : Int)
theorem en_same {x : Int} {E : List UInt8} {k : Nat} (h : x = (k : Int)) (hE : en (k : Int) = E) : en x = E := by
  subst h
  exact hE
theorem dec_mid {A B D : List UInt8} (ha : ∀ x ∈ A, x ≠ 38) (hb : ∀ x ∈ B, x ≠ 38) (hD : ∀ c ∈ D, dgt c < 10) (hD0 : D ≠ []) : decB false (A ++ (38 :: 35 :: (D ++ 59 :: B))) = A ++ (en (cmin (val 10 D 0)) ++ B) := by
  rw [dec_app false _ _ ha, dec_ten false hD0 hD, dec_self false _ hb]
  rfl
/-- what the law asks of its texts -/
structure PlainIs (a b D E : ByteArray) : Prop where
  one : decB false a.data.toList = a.data.toList
  two : decB false (a ++ ⟨#[38, 35]⟩ ++ D ++ ⟨#[59]⟩ ++ b).data.toList = (a ++ E ++ b).data.toList
  three : decB true (a ++ ⟨#[38, 108, 116, 59]⟩ ++ b).data.toList = (a ++ ⟨#[60]⟩ ++ b).data.toList
theorem en_is {r : Int} {E : ByteArray} (hE : Utf8.encode r = E) : en r = E.data.toList := by
  subst hE
  rfl
theorem plain_is {a b D E : ByteArray} {k : Nat} (hE : Utf8.encode (k : Int) = E) (ha : ∀ x ∈ a.data.toList, x ≠ 38) (hb : ∀ x ∈ b.data.toList, x ≠ 38) (hD : Dig 10 k D.data.toList 0) (hD0 : 0 < D.size) (h : 256 ≤ k) (h2 : k ≤ 60000) (h3 : ¬ (55296 ≤ k ∧ k ≤ 57343)) : PlainIs a b D E := by
  have hen := en_is hE
  refine ⟨dec_self false _ ha, ?_, ?_⟩
  · have l1 : (⟨#[38, 35]⟩ : ByteArray).data.toList = [38, 35] := rfl
    have l2 : (⟨#[59]⟩ : ByteArray).data.toList = [59] := rfl
    rw [app_data, app_data, app_data, app_data, app_data, app_data, l1, l2]
    have e : a.data.toList ++ ([38, 35] : List UInt8) ++ D.data.toList ++ [59] ++ b.data.toList = a.data.toList ++ (38 :: 35 :: (D.data.toList ++ 59 :: b.data.toList)) := by simp
    have hc : cmin (val 10 D.data.toList 0) = (k : Int) := (congrArg cmin hD.num).trans (code_own h h2 h3)
    rw [e, dec_mid ha hb hD.all (ne_nil hD0), en_same hc hen, List.append_assoc]
  · have l1 : (⟨#[38, 108, 116, 59]⟩ : ByteArray).data.toList = lt' := rfl
    have l2 : (⟨#[60]⟩ : ByteArray).data.toList = [60] := rfl
    rw [app_data, app_data, app_data, app_data, l1, l2, List.append_assoc, dec_app true _ _ ha, dec_lt, dec_self true _ hb]
    simp
theorem app_all {a b : ByteArray} (h : ∀ j (hj : j < (a ++ b).size), (a ++ b)[j] ≠ 38) : (∀ x ∈ a.data.toList, x ≠ 38) ∧ (∀ x ∈ b.data.toList, x ≠ 38) := by
  have h1 := all_upto (s := a ++ b) (p := fun x => x ≠ 38) h
  rw [app_data] at h1
  exact ⟨fun x hx => h1 x (List.mem_append_left _ hx), fun x hx => h1 x (List.mem_append_right _ hx)⟩
theorem wrap_256 {j k : Nat} (h : 256 + j = k) (hj : j < 50000) : wrap64 (256 + (j : Int)) = (k : Int) := by
  rw [IntWalk.wrap64_in _ ⟨by omega, by omega⟩]; omega
theorem wrap_two {a b : Nat} (ha : a ≤ 1000) (hb : b ≤ 1000) : wrap64 ((a : Int) + (b : Int)) = ((a + b : Nat) : Int) := by
  rw [IntWalk.wrap64_in _ ⟨by omega, by omega⟩]; omega
theorem i32_k {k : Nat} (h : k ≤ 60000) : IntKind.i32.wrap (k : Int) = k := by simp [IntKind.wrap, IntKind.bits, IntKind.signed]; omega

set_option maxRecDepth 20000 in
set_option maxHeartbeats 4000000 in
theorem plain_main (a b : ByteArray) (n : Int) (w : World) (hw : Met w) (ha : ¬ 1000 < a.size) (hb : ¬ 1000 < b.size) :
    Calls Tryd.prog 5 #[.string a, .string b, .int .i64 n] w fun e w' => e = .returned (.bool true) ∧ Below w.heap.size w w' := by
  have HW := Fact.mk hw
  clear hw
  have ha' : a.size ≤ 1000 := by omega
  have hb' : b.size ≤ 1000 := by omega
  have HA := Fact.mk ha'
  have HB := Fact.mk hb'
  obtain ⟨AB, hAB⟩ : ∃ AB : ByteArray, a ++ b = AB := ⟨_, rfl⟩
  obtain ⟨N, hN⟩ : ∃ N, a.size + b.size = N := ⟨_, rfl⟩
  have hABs : AB.size = N := by rw [← hAB, ByteArray.size_append]; exact hN
  have r0 := fun w => add_at a b AB hAB (by omega) w
  have hw0 : wrap64 ((a.size : Int) + (b.size : Int)) = (N : Int) := by rw [← hN]; exact wrap_two ha' hb'
  obtain ⟨j, hj, hpj⟩ := place_gen n 50000 (by decide) (by decide)
  obtain ⟨k, hk⟩ : ∃ k, 256 + j = k := ⟨_, rfl⟩
  have hwk := wrap_256 hk (by omega)
  obtain ⟨E, hE⟩ : ∃ E, Fact (Utf8.encode (k : Int) = E) := ⟨_, ⟨rfl⟩⟩
  have hEs : E.size ≤ 4 := by rw [← hE.out]; exact enc_size _
  have HK : Fact (256 ≤ k ∧ k ≤ 60000) := ⟨by omega⟩
  have HAB := Fact.mk hAB
  have HN := Fact.mk hABs
  have HS := Fact.mk hN
  clear hj hk ha' hb' hAB hABs hN hw0
  have tok1 : True := trivial
  have tok2 : True := trivial
  go_enter Tryd.func5, Tryd.ntmps5
  go_wp2_with fail
  clear ha hb
  go_loop [7] (fun i => ∃ q : Nat, i = .int .i64 q ∧ q ≤ N ∧ Fact (∀ p (h : p < AB.size), p < q → AB[p] ≠ 38)) (fun i => N - (intOf i).toNat)
  case atStart => exact ⟨0, rfl, Nat.zero_le _, ⟨fun p _ h => absurd h (Nat.not_lt_zero _)⟩⟩
  case round =>
    obtain ⟨q, rfl, hq, hall⟩ := hrel
    by_cases hlt : q < N
    · have hqI : (q : Int) < (a.size : Int) + (b.size : Int) := by have := HS.out; omega
      have hq0 : (0 : Int) ≤ q := by omega
      have hqA : q < AB.size := by rw [HN.out]; exact hlt
      have hqB : (q : Int) < AB.size := by omega
      obtain ⟨c, hc⟩ : ∃ c, AB[q] = c := ⟨_, rfl⟩
      by_cases h1 : c = 38
      · have q1 : ((c.toNat : Int) == 38) = true := by rw [h1]; rfl
        clear h1
        go_wp2_with (go_at_call 8; refine (awake9_true _ HW.out).mono ?_; rintro e w5 ⟨rfl, hb5⟩)
        go_ret
        exact ⟨rfl, hb5⟩
      have q1 : ((c.toNat : Int) == 38) = false := u8_ne (k := 38) (by decide) h1
      have hall2 : Fact (∀ p (h : p < AB.size), p < q + 1 → AB[p] ≠ 38) := ⟨fun p h hp => by
        by_cases e : p = q
        · subst e
          rw [hc]
          exact h1
        · exact hall.out p h (by omega)⟩
      have A9 : Fact (wrap64 ((q : Int) + 1) = ((q + 1 : Nat) : Int)) := ⟨wrap_ok rfl ⟨by have := HA.out; have := HB.out; have := HS.out; omega⟩⟩
      clear h1 hall
      go_wp2_with fail
      go_round
      case rel => exact ⟨q + 1, by (first | rfl | exact int_eq A9.out), Nat.succ_le_of_lt hlt, hall2⟩
      case measure => first | exact meas_up hlt | (rw [A9.out]; exact meas_up hlt)
    · have hqI : (a.size : Int) + (b.size : Int) ≤ q := by have := HS.out; omega
      have hqB : decide ((q : Int) < (a.size : Int) + (b.size : Int)) = false := decide_eq_false (by omega)
      have hall3 : ∀ p (h : p < (a ++ b).size), (a ++ b)[p] ≠ 38 := by
        rw [HAB.out]
        exact fun p h => hall.out p h (by have := HN.out; omega)
      have HP := Fact.mk (app_all hall3)
      clear hall hall3 hlt
      by_cases hsur : 55296 ≤ k ∧ k ≤ 57343
      · have c1 : decide ((55296 : Int) ≤ k) = true := decide_eq_true (by omega)
        have c2 : decide ((k : Int) ≤ 57343) = true := decide_eq_true (by omega)
        clear hqI
        go_wp2_with (first
          | (go_at_call 15; refine (hpj _).mono ?_; rintro e w1 ⟨rfl, rfl⟩)
          | (go_at_call 8; refine (awake9_true _ HW.out).mono ?_; rintro e w5 ⟨rfl, hb5⟩))
        go_ret
        exact ⟨rfl, hb5⟩
      · have hsB : (decide ((55296 : Int) ≤ k) && decide ((k : Int) ≤ 57343)) = false := by
          rw [Bool.and_eq_false_iff, decide_eq_false_iff_not, decide_eq_false_iff_not]
          omega
        have hcs : decide ((55296 : Int) ≤ k) = false ∨ (decide ((55296 : Int) ≤ k) = true ∧ decide ((k : Int) ≤ 57343) = false) := by
          rw [Bool.and_eq_false_iff] at hsB
          cases h : decide ((55296 : Int) ≤ k)
          · exact .inl rfl
          · exact .inr ⟨rfl, hsB.resolve_left (by rw [h]; decide)⟩
        clear hsB
        have HU := Fact.mk hsur
        clear hsur hqI
        rcases hcs with c1 | ⟨c1, c2⟩
        all_goals
          go_wp2_with (go_at_call 15; refine (hpj _).mono ?_; rintro e w1 ⟨rfl, rfl⟩)
          go_loop [9, 10] (fun d v => ∃ (D : ByteArray) (m : Nat), d = .string D ∧ v = .int .i64 m ∧ Fact (Dig 10 k D.data.toList m ∧ (0 < m ∨ 0 < D.size))) (fun d v => 2 * (intOf v).toNat + emp d)
          case atStart => exact ⟨⟨#[]⟩, k, rfl, by (first | exact int_eq hwk | rfl), ⟨dig_start 10 k, .inl (Nat.lt_of_lt_of_le (by decide) HK.out.1)⟩⟩
          case round =>
            obtain ⟨D, m, rfl, rfl, hD⟩ := hrel
            have hDl : D.size + m ≤ k + 1 := by rw [Lib.size_eq]; exact hD.out.1.len
            by_cases hm0 : 0 < m
            · obtain ⟨q, hq⟩ : ∃ q, m % 10 = q := ⟨_, rfl⟩
              obtain ⟨m2, hm2⟩ : ∃ m2, m / 10 = m2 := ⟨_, rfl⟩
              have hq10 : q < 10 := by omega
              obtain ⟨C, hC, hCl⟩ := cut_at ⟨#[48, 49, 50, 51, 52, 53, 54, 55, 56, 57]⟩ q hq10
              have a1 : (m : Int) % 10 = q := by omega
              have a2 : (m : Int) / 10 = m2 := by omega
              have a3 : (m : Int).tmod 10 = q := by rw [Int.tmod_eq_emod_of_nonneg (by omega)]; exact a1
              have a4 : (m : Int).tdiv 10 = m2 := by rw [Int.tdiv_eq_ediv_of_nonneg (by omega)]; exact a2
              clear a1 a2
              have A9 : Fact (wrap64 (m2 : Int) = (m2 : Int)) := ⟨wrap_ok rfl ⟨by have := HK.out; omega⟩⟩
              have a7 : wrap64 ((q : Int) + 1) = (q : Int) + 1 := wrap_ok (m := q + 1) rfl ⟨by omega⟩
              have hsl := fun w => slice_at ⟨#[48, 49, 50, 51, 52, 53, 54, 55, 56, 57]⟩ q hq10 (by decide) C hC w
              clear hC
              have hC1 := size_one hCl.out
              have hkk : k + 1 ≤ 100000000 := by have := HK.out; omega
              obtain ⟨D2, hD2⟩ : ∃ D2 : ByteArray, C ++ D = D2 := ⟨_, rfl⟩
              have radd := fun w => add_at C D D2 hD2 (by rw [hC1, Nat.add_comm]; exact Nat.le_trans (Nat.succ_le_succ (Nat.le_trans (Nat.le_add_right _ _) hDl)) (by have := HK.out; omega)) w
              have hD2s : 0 < D2.size := by rw [← hD2, ByteArray.size_append, hC1, Nat.add_comm]; exact Nat.succ_pos _
              have hst : Fact (Dig 10 k D2.data.toList m2 ∧ (0 < m2 ∨ 0 < D2.size)) := ⟨by
                refine ⟨?_, .inr hD2s⟩
                rw [← hD2, join_one hCl.out, ← hm2]
                refine dig_step (by decide) hD.out.1 ?_ (.inl hm0)
                rw [hq]; exact tab10 q hq10⟩
              have HM := Fact.mk (meas_dig (D := D) (D2 := D2) (.inl hm2) (.inl hm0) hD2s)
              have hmI : (0 : Int) < m := Int.ofNat_lt.2 hm0
              clear hD hD2s hq hm2 hDl hq10 hm0 hkk hC1
              go_wp2_with fail
              go_round
              case rel => exact ⟨D2, m2, rfl, int_eq A9.out, hst⟩
              case measure => rw [A9.out]; exact HM.out
            · have hm : m = 0 := by omega
              subst hm
              have hP := plain_is hE.out HP.out.1 HP.out.2 hD.out.1 (hD.out.2.resolve_left (Nat.lt_irrefl 0)) HK.out.1 HK.out.2 HU.out
              have hDz : D.size ≤ 60001 := by
                have h1 := HK.out
                omega
              obtain ⟨A1, hA1⟩ : ∃ A : ByteArray, a ++ (⟨#[38, 35]⟩ : ByteArray) = A := ⟨_, rfl⟩
              obtain ⟨A2, hA2⟩ : ∃ A : ByteArray, A1 ++ D = A := ⟨_, rfl⟩
              obtain ⟨A3, hA3⟩ : ∃ A : ByteArray, A2 ++ (⟨#[59]⟩ : ByteArray) = A := ⟨_, rfl⟩
              obtain ⟨A4, hA4⟩ : ∃ A : ByteArray, A3 ++ b = A := ⟨_, rfl⟩
              obtain ⟨B1, hB1⟩ : ∃ A : ByteArray, a ++ E = A := ⟨_, rfl⟩
              obtain ⟨B2, hB2⟩ : ∃ A : ByteArray, B1 ++ b = A := ⟨_, rfl⟩
              obtain ⟨C1, hC1⟩ : ∃ A : ByteArray, a ++ (⟨#[38, 108, 116, 59]⟩ : ByteArray) = A := ⟨_, rfl⟩
              obtain ⟨C2, hC2⟩ : ∃ A : ByteArray, C1 ++ b = A := ⟨_, rfl⟩
              obtain ⟨D1, hD1⟩ : ∃ A : ByteArray, a ++ (⟨#[60]⟩ : ByteArray) = A := ⟨_, rfl⟩
              obtain ⟨D2, hD2⟩ : ∃ A : ByteArray, D1 ++ b = A := ⟨_, rfl⟩
              have zA1 := size_add hA1 HA.out (show _ ≤ 2 from Nat.le_refl _)
              have zA2 := size_add hA2 zA1 hDz
              have zA3 := size_add hA3 zA2 (show _ ≤ 1 from Nat.le_refl _)
              have zA4 := size_add hA4 zA3 HB.out
              have zB1 := size_add hB1 HA.out hEs
              have zC1 := size_add hC1 HA.out (show _ ≤ 4 from Nat.le_refl _)
              have zC2 := size_add hC2 zC1 HB.out
              have zD1 := size_add hD1 HA.out (show _ ≤ 1 from Nat.le_refl _)
              have r1 := fun w => add_at a ⟨#[38, 35]⟩ A1 hA1 (Nat.le_trans (Nat.add_le_add HA.out (show _ ≤ 2 from Nat.le_refl _)) (by decide)) w
              have r2 := fun w => add_at A1 D A2 hA2 (Nat.le_trans (Nat.add_le_add zA1 hDz) (by decide)) w
              have r3 := fun w => add_at A2 ⟨#[59]⟩ A3 hA3 (Nat.le_trans (Nat.add_le_add zA2 (show _ ≤ 1 from Nat.le_refl _)) (by decide)) w
              have r4 := fun w => add_at A3 b A4 hA4 (Nat.le_trans (Nat.add_le_add zA3 HB.out) (by decide)) w
              have r5 := fun w => add_at a E B1 hB1 (Nat.le_trans (Nat.add_le_add HA.out hEs) (by decide)) w
              have r6 := fun w => add_at B1 b B2 hB2 (Nat.le_trans (Nat.add_le_add zB1 HB.out) (by decide)) w
              have r7 := fun w => add_at a ⟨#[38, 108, 116, 59]⟩ C1 hC1 (Nat.le_trans (Nat.add_le_add HA.out (show _ ≤ 4 from Nat.le_refl _)) (by decide)) w
              have r8 := fun w => add_at C1 b C2 hC2 (Nat.le_trans (Nat.add_le_add zC1 HB.out) (by decide)) w
              have r9 := fun w => add_at a ⟨#[60]⟩ D1 hD1 (Nat.le_trans (Nat.add_le_add HA.out (show _ ≤ 1 from Nat.le_refl _)) (by decide)) w
              have r10 := fun w => add_at D1 b D2 hD2 (Nat.le_trans (Nat.add_le_add zD1 HB.out) (by decide)) w
              have F1 : Fact (decB false a.data.toList = a.data.toList) := ⟨hP.one⟩
              have F2 : Fact (decB false A4.data.toList = B2.data.toList) := ⟨by rw [← hA4, ← hA3, ← hA2, ← hA1, ← hB2, ← hB1]; exact hP.two⟩
              have F3 : Fact (decB true C2.data.toList = D2.data.toList) := ⟨by rw [← hC2, ← hC1, ← hD2, ← hD1]; exact hP.three⟩
              have s1 : IsSm a.size := ⟨Nat.le_trans HA.out (by decide)⟩
              have s2 : IsSm A4.size := ⟨Nat.le_trans zA4 (by decide)⟩
              have s3 : IsSm C2.size := ⟨Nat.le_trans zC2 (by decide)⟩
              have hi32 : IntKind.i32.wrap (k : Int) = k := i32_k HK.out.2
              have hEq := hE.out
              have b1 : (a.toList == a.toList) = true := beq_self_eq_true _
              have b2 : (B2.toList == B2.toList) = true := beq_self_eq_true _
              have b3 : (D2.toList == D2.toList) = true := beq_self_eq_true _
              clear hDl hDz zA1 zA2 zA3 zA4 zB1 zC1 zC2 zD1 hA1 hA2 hA3 hA4 hB1 hB2 hC1 hC2 hD1 hD2 hP hD hEs hm0
              go_wp2_with (first
                | (go_at_call 11; have _t := tok1; refine (decode_at a a false s1 F1 _ HW.out).mono ?_; rintro e w2 ⟨rfl, hb2⟩; clear tok1 _t; have H2 := Fact.mk (HW.out.below hb2))
                | (go_at_call 11; have _t := tok2; refine (decode_at A4 B2 false s2 F2 _ H2.out).mono ?_; rintro e w3 ⟨rfl, hb3⟩; clear tok2 _t; have H3 := Fact.mk (H2.out.below hb3); have q3 := hb2.trans (hb3.mono hb2.size))
                | (go_at_call 11; refine (decode_at C2 D2 true s3 F3 _ H3.out).mono ?_; rintro e w4 ⟨rfl, hb4⟩; have H4 := Fact.mk (H3.out.below hb4); have q4 := q3.trans (hb4.mono q3.size))
                | (go_at_call 8; refine (awake9_true _ H4.out).mono ?_; rintro e w5 ⟨rfl, hb5⟩))
              go_ret
              exact ⟨rfl, q4.trans (hb5.mono q4.size)⟩
theorem plain_walk (a b : ByteArray) (n : Int) (w : World) (hw : Met w) :
    Calls Tryd.prog 5 #[.string a, .string b, .int .i64 n] w fun e w' => e = .returned (.bool true) ∧ Below w.heap.size w w' := by
  by_cases h : 1000 < a.size ∨ 1000 < b.size
  · exact plain_early a b n w hw h
  · exact plain_main a b n w hw (fun h1 => h (.inl h1)) (fun h1 => h (.inr h1))
end Go.Proofs.YtlelnjheocbmnaaDoor
