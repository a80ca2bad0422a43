/- The walk of CharrefNumbers: it returns true. -/
import Derived.Test.YtlelnjheocbmnaaDoorCNumM
set_option linter.unusedVariables false
namespace Go.Proofs.YtlelnjheocbmnaaDoor
open Go.RowKit M

set_option maxRecDepth 20000 in
set_option maxHeartbeats 4000000 in
theorem nums_walk (n z : Int) (w : World) (hw : Met w) :
    Calls Tryd.prog 6 #[.int .i64 n, .int .i64 z] w fun e w' => e = .returned (.bool true) ∧ Below w.heap.size w w' := by
  have HW := Fact.mk hw
  clear hw
  obtain ⟨k, hk, hpk⟩ := place_gen n 1179648 (by decide) (by decide)
  obtain ⟨j, hj, hpj⟩ := place_gen z 10 (by decide) (by decide)
  have HK1 : Fact (k + 1 ≤ 100000000) := ⟨by omega⟩
  have hj0 : (0 : Int) ≤ j := by omega
  have hj9 : (j : Int) ≤ 9 := by omega
  obtain ⟨Z, hZ, hZl⟩ := zeros_cut j (by omega)
  have hZs : Z.size ≤ 9 := by rw [Lib.size_eq, hZl.out, List.length_replicate]; omega
  have tok1 : True := trivial
  have tok2 : True := trivial
  have tok3 : True := trivial
  go_enter Tryd.func6, Tryd.ntmps6
  go_wp2_with (first
    | (go_at_call 15; have _t := tok1; refine (hpk _).mono ?_; rintro e w1 ⟨rfl, rfl⟩; clear tok1 _t)
    | (go_at_call 15; refine (hpj _).mono ?_; rintro e w1 ⟨rfl, rfl⟩))
  go_loop [7, 10] (fun d v => ∃ (D : ByteArray) (m : Nat), d = .string D ∧ v = .int .i64 m ∧ Fact (Dig 10 k D.data.toList m)) (fun d v => 2 * (intOf v).toNat + emp d)
  case atStart => exact ⟨⟨#[]⟩, k, rfl, rfl, ⟨dig_start 10 k⟩⟩
  case round =>
    obtain ⟨D, m, rfl, rfl, hD⟩ := hrel
    have hDl : D.size + m ≤ k + 1 := by rw [Lib.size_eq]; exact hD.out.len
    by_cases hgo : 0 < m ∨ D.size = 0
    · obtain ⟨q, hq⟩ : ∃ q, m % 10 = q := ⟨_, rfl⟩
      obtain ⟨m2, hm2⟩ : ∃ m2, m / 10 = m2 := ⟨_, rfl⟩
      have hq10 : q < 10 := by omega
      obtain ⟨C, hC, hCl⟩ := cut_at ⟨#[48, 49, 50, 51, 52, 53, 54, 55, 56, 57]⟩ q hq10
      have a1 : (m : Int) % 10 = q := by omega
      have a2 : (m : Int) / 10 = m2 := by omega
      have a3 : (m : Int).tmod 10 = q := by rw [Int.tmod_eq_emod_of_nonneg (by omega)]; exact a1
      have a4 : (m : Int).tdiv 10 = m2 := by rw [Int.tdiv_eq_ediv_of_nonneg (by omega)]; exact a2
      clear a1 a2
      have A9 : Fact (wrap64 (m2 : Int) = (m2 : Int)) := ⟨wrap_ok rfl ⟨by omega⟩⟩
      have a5 : (q : Int) + 1 ≤ 10 := by omega
      have a6 : (0 : Int) ≤ q := by omega
      have a7 : wrap64 ((q : Int) + 1) = (q : Int) + 1 := wrap_ok (m := q + 1) rfl ⟨by omega⟩
      have hsl := fun w => slice_at ⟨#[48, 49, 50, 51, 52, 53, 54, 55, 56, 57]⟩ q hq10 (by decide) C hC w
      clear hC
      have hC1 := size_one hCl.out
      have hsz : ¬ 9223372036854775807 < C.size + D.size := sum_ok hC1 (Nat.le_trans (Nat.le_add_right _ _) hDl) HK1.out
      have hD2z : C.size + D.size = D.size + 1 := by rw [hC1, Nat.add_comm]
      clear hC1
      obtain ⟨D2, hD2⟩ : ∃ D2 : ByteArray, C ++ D = D2 := ⟨_, rfl⟩
      have hst : Fact (Dig 10 k D2.data.toList m2) := ⟨by
        rw [← hD2, join_one hCl.out, ← hm2]
        refine dig_step (by decide) hD.out ?_ ?_
        · rw [hq]; exact tab10 q hq10
        · rcases hgo with h | h
          · exact .inl h
          · exact .inr (List.eq_nil_of_length_eq_zero (by rw [← Lib.size_eq]; exact h))⟩
      have hD2s : 0 < D2.size := by rw [← hD2, ByteArray.size_append, hD2z]; exact Nat.succ_pos _
      clear hD2z
      have HM := Fact.mk (meas_dig (.inl hm2) hgo hD2s)
      clear hD hD2s
      by_cases hm0 : 0 < m
      · have hmI : (0 : Int) < m := Int.ofNat_lt.2 hm0
        clear hgo hq hm2
        go_wp2_with fail
        go_round
        case rel => exact ⟨D2, m2, rfl, int_eq A9.out, hst⟩
        case measure => rw [A9.out]; exact HM.out
      · have hmI : (m : Int) ≤ 0 := Int.ofNat_le.2 (Nat.le_of_not_lt hm0)
        have hmB : decide ((0 : Int) < m) = false := decide_eq_false (Int.not_lt.2 hmI)
        have hDe : D = ⟨#[]⟩ := (ba_eq (l := []) (List.eq_nil_of_length_eq_zero (by rw [← Lib.size_eq]; exact hgo.resolve_left hm0)).symm).symm
        clear hgo hq hm2
        subst hDe
        go_wp2_with fail
        go_round
        case rel => exact ⟨D2, m2, rfl, int_eq A9.out, hst⟩
        case measure => rw [A9.out]; exact HM.out
    · have hm0 : m = 0 := by omega
      have hDs : 0 < D.size := by omega
      subst hm0
      have hDne : (D.toList == ([] : List UInt8)) = false := by
        rw [beq_eq_false_iff_ne, Lib.toList_data]
        exact ne_nil hDs
      clear hgo hDl
      have H1 := Fact.mk hDs
      clear hDs
      go_wp2_with fail
      go_loop [8, 9, 11] (fun h u v => ∃ (H U : ByteArray) (m : Nat), h = .string H ∧ u = .string U ∧ v = .int .i64 m ∧ Fact (Dig 16 k H.data.toList m ∧ Dig 16 k U.data.toList m ∧ H.size = U.size)) (fun h _ v => 2 * (intOf v).toNat + emp h)
      case atStart => exact ⟨⟨#[]⟩, ⟨#[]⟩, k, rfl, rfl, rfl, ⟨dig_start 16 k, dig_start 16 k, rfl⟩⟩
      case round =>
        obtain ⟨H, U, m, rfl, rfl, rfl, hHU⟩ := hrel
        have hHl : H.size + m ≤ k + 1 := by rw [Lib.size_eq]; exact hHU.out.1.len
        have hUl : U.size + m ≤ k + 1 := by rw [Lib.size_eq]; exact hHU.out.2.1.len
        by_cases hgo : 0 < m ∨ H.size = 0
        · obtain ⟨q, hq⟩ : ∃ q, m % 16 = q := ⟨_, rfl⟩
          obtain ⟨m2, hm2⟩ : ∃ m2, m / 16 = m2 := ⟨_, rfl⟩
          have hq16 : q < 16 := by omega
          obtain ⟨C, hC, hCl⟩ := cut_at ⟨#[48, 49, 50, 51, 52, 53, 54, 55, 56, 57, 97, 98, 99, 100, 101, 102]⟩ q hq16
          obtain ⟨C', hC', hCl'⟩ := cut_at ⟨#[48, 49, 50, 51, 52, 53, 54, 55, 56, 57, 65, 66, 67, 68, 69, 70]⟩ q hq16
          have a1 : (m : Int) % 16 = q := by omega
          have a2 : (m : Int) / 16 = m2 := by omega
          have a3 : (m : Int).tmod 16 = q := by rw [Int.tmod_eq_emod_of_nonneg (by omega)]; exact a1
          have a4 : (m : Int).tdiv 16 = m2 := by rw [Int.tdiv_eq_ediv_of_nonneg (by omega)]; exact a2
          clear a1 a2
          have A9 : Fact (wrap64 (m2 : Int) = (m2 : Int)) := ⟨wrap_ok rfl ⟨by omega⟩⟩
          have a5 : (q : Int) + 1 ≤ 16 := by omega
          have a6 : (0 : Int) ≤ q := by omega
          have a7 : wrap64 ((q : Int) + 1) = (q : Int) + 1 := wrap_ok (m := q + 1) rfl ⟨by omega⟩
          have hsl := fun w => slice_at ⟨#[48, 49, 50, 51, 52, 53, 54, 55, 56, 57, 97, 98, 99, 100, 101, 102]⟩ q hq16 (by decide) C hC w
          have hsl' := fun w => slice_at ⟨#[48, 49, 50, 51, 52, 53, 54, 55, 56, 57, 65, 66, 67, 68, 69, 70]⟩ q hq16 (by decide) C' hC' w
          clear hC hC'
          have hC1 := size_one hCl.out
          have hC1' := size_one hCl'.out
          have hsz : ¬ 9223372036854775807 < C.size + H.size := sum_ok hC1 (Nat.le_trans (Nat.le_add_right _ _) hHl) HK1.out
          have hsz' : ¬ 9223372036854775807 < C'.size + U.size := sum_ok hC1' (Nat.le_trans (Nat.le_add_right _ _) hUl) HK1.out
          have hz1 : C.size + H.size = H.size + 1 := by rw [hC1, Nat.add_comm]
          have hz2 : C'.size + U.size = U.size + 1 := by rw [hC1', Nat.add_comm]
          clear hC1 hC1'
          obtain ⟨H2, hH2⟩ : ∃ D2 : ByteArray, C ++ H = D2 := ⟨_, rfl⟩
          obtain ⟨U2, hU2⟩ : ∃ D2 : ByteArray, C' ++ U = D2 := ⟨_, rfl⟩
          have hH2s : 0 < H2.size := by rw [← hH2, ByteArray.size_append, hz1]; exact Nat.succ_pos _
          have hst : Fact (Dig 16 k H2.data.toList m2 ∧ Dig 16 k U2.data.toList m2 ∧ H2.size = U2.size) := ⟨by
            refine ⟨?_, ?_, ?_⟩
            · rw [← hH2, join_one hCl.out, ← hm2]
              refine dig_step (by decide) hHU.out.1 ?_ ?_
              · rw [hq]; exact tabL q hq16
              · rcases hgo with h | h
                · exact .inl h
                · exact .inr (List.eq_nil_of_length_eq_zero (by rw [← Lib.size_eq]; exact h))
            · rw [← hU2, join_one hCl'.out, ← hm2]
              refine dig_step (by decide) hHU.out.2.1 ?_ ?_
              · rw [hq]; exact tabU q hq16
              · rcases hgo with h | h
                · exact .inl h
                · exact .inr (List.eq_nil_of_length_eq_zero (by rw [← Lib.size_eq, ← hHU.out.2.2]; exact h))
            · rw [← hH2, ← hU2, ByteArray.size_append, ByteArray.size_append, hz1, hz2, hHU.out.2.2]⟩
          clear hz1 hz2
          have HM := Fact.mk (meas_dig (.inr hm2) hgo hH2s)
          clear hH2s
          by_cases hm0 : 0 < m
          · have hmI : (0 : Int) < m := Int.ofNat_lt.2 hm0
            clear hgo hq hm2 hHU hk hj hj0 hj9 hZs hHl hUl hm0 hq16 a5 a6
            go_wp2_with fail
            go_round
            case rel => exact ⟨H2, U2, m2, rfl, rfl, int_eq A9.out, hst⟩
            case measure => rw [A9.out]; exact HM.out
          · have hmI : (m : Int) ≤ 0 := Int.ofNat_le.2 (Nat.le_of_not_lt hm0)
            have hmB : decide ((0 : Int) < m) = false := decide_eq_false (Int.not_lt.2 hmI)
            have hDe : H = ⟨#[]⟩ := (ba_eq (l := []) (List.eq_nil_of_length_eq_zero (by rw [← Lib.size_eq]; exact hgo.resolve_left hm0)).symm).symm
            clear hgo hq hm2 hHU
            subst hDe
            go_wp2_with fail
            go_round
            case rel => exact ⟨H2, U2, m2, rfl, rfl, int_eq A9.out, hst⟩
            case measure => rw [A9.out]; exact HM.out
        · have hm0 : m = 0 := by omega
          have hHs : 0 < H.size := by omega
          subst hm0
          have hHne : (H.toList == ([] : List UInt8)) = false := by
            rw [beq_eq_false_iff_ne, Lib.toList_data]
            exact ne_nil hHs
          obtain ⟨T, N1, N2, N3, hT⟩ := three_of (U := U) hZl.out hD.out hHU.out.1 hHU.out.2.1 H1.out hHs (by rw [← hHU.out.2.2]; exact hHs)
          have hDz : D.size ≤ 1179649 := by
            have h1 := hD.out.len
            rw [← Lib.size_eq] at h1
            omega
          have hHz : H.size ≤ 1179649 := by omega
          have hUz : U.size ≤ 1179649 := by omega
          obtain ⟨A1, hA1⟩ : ∃ A : ByteArray, (⟨#[38, 35]⟩ : ByteArray) ++ Z = A := ⟨_, rfl⟩
          obtain ⟨A2, hA2⟩ : ∃ A : ByteArray, A1 ++ D = A := ⟨_, rfl⟩
          obtain ⟨A3, hA3⟩ : ∃ A : ByteArray, A2 ++ (⟨#[59]⟩ : ByteArray) = A := ⟨_, rfl⟩
          obtain ⟨B1, hB1⟩ : ∃ A : ByteArray, (⟨#[38, 35, 120]⟩ : ByteArray) ++ Z = A := ⟨_, rfl⟩
          obtain ⟨B2, hB2⟩ : ∃ A : ByteArray, B1 ++ H = A := ⟨_, rfl⟩
          obtain ⟨B3, hB3⟩ : ∃ A : ByteArray, B2 ++ (⟨#[59]⟩ : ByteArray) = A := ⟨_, rfl⟩
          obtain ⟨C1, hC1⟩ : ∃ A : ByteArray, (⟨#[38, 35, 88]⟩ : ByteArray) ++ U = A := ⟨_, rfl⟩
          have zA1 := size_add hA1 (show _ ≤ 2 from Nat.le_refl _) hZs
          have zA2 := size_add hA2 zA1 hDz
          have zA3 := size_add hA3 zA2 (show _ ≤ 1 from Nat.le_refl _)
          have zB1 := size_add hB1 (show _ ≤ 3 from Nat.le_refl _) hZs
          have zB2 := size_add hB2 zB1 hHz
          have zB3 := size_add hB3 zB2 (show _ ≤ 1 from Nat.le_refl _)
          have zC1 := size_add hC1 (show _ ≤ 3 from Nat.le_refl _) hUz
          have r1 := fun w => add_at ⟨#[38, 35]⟩ Z A1 hA1 (Nat.le_trans (Nat.add_le_add (show _ ≤ 2 from Nat.le_refl _) hZs) (by decide)) w
          have r2 := fun w => add_at A1 D A2 hA2 (Nat.le_trans (Nat.add_le_add zA1 hDz) (by decide)) w
          have r3 := fun w => add_at A2 ⟨#[59]⟩ A3 hA3 (Nat.le_trans (Nat.add_le_add zA2 (show _ ≤ 1 from Nat.le_refl _)) (by decide)) w
          have r4 := fun w => add_at ⟨#[38, 35, 120]⟩ Z B1 hB1 (Nat.le_trans (Nat.add_le_add (show _ ≤ 3 from Nat.le_refl _) hZs) (by decide)) w
          have r5 := fun w => add_at B1 H B2 hB2 (Nat.le_trans (Nat.add_le_add zB1 hHz) (by decide)) w
          have r6 := fun w => add_at B2 ⟨#[59]⟩ B3 hB3 (Nat.le_trans (Nat.add_le_add zB2 (show _ ≤ 1 from Nat.le_refl _)) (by decide)) w
          have r7 := fun w => add_at ⟨#[38, 35, 88]⟩ U C1 hC1 (Nat.le_trans (Nat.add_le_add (show _ ≤ 3 from Nat.le_refl _) hUz) (by decide)) w
          have F1 : Fact (refA A3.data.toList 0 false = (T.data.toList, N1)) := ⟨by rw [← hA3, ← hA2, ← hA1]; exact hT.one⟩
          have F2 : Fact (refA B3.data.toList 0 true = (T.data.toList, N2)) := ⟨by rw [← hB3, ← hB2, ← hB1]; exact hT.two⟩
          have F3 : Fact (refA C1.data.toList 0 false = (T.data.toList, N3)) := ⟨by rw [← hC1]; exact hT.three⟩
          have s1 : IsSm A3.size := ⟨Nat.le_trans zA3 (by decide)⟩
          have s2 : IsSm B3.size := ⟨Nat.le_trans zB3 (by decide)⟩
          have s3 : IsSm C1.size := ⟨Nat.le_trans zC1 (by decide)⟩
          obtain ⟨e1, k1, k2⟩ := wrap_three hT.len1 hZs hDz
          obtain ⟨e2, k3, k4⟩ := wrap_four hT.len2 hZs hHz
          have k5 := wrap_u hT.len3 hUz
          have b0 : (T.toList == T.toList) = true := beq_self_eq_true _
          have b1 : ((N1 : Int) == (N1 : Int)) = true := beq_self_eq_true _
          have b2 : ((N2 : Int) == (N2 : Int)) = true := beq_self_eq_true _
          have b3 : ((N3 : Int) == (N3 : Int)) = true := beq_self_eq_true _
          have b4 : (T.toList == ([] : List UInt8)) = false := by
            rw [beq_eq_false_iff_ne, Lib.toList_data]
            exact ne_nil hT.some
          have b5 : (T.toList != ([] : List UInt8)) = true := by rw [bne, b4]; rfl
          clear hgo hHl hUl hDz hHz hUz hZs zA1 zA2 zA3 zB1 zB2 zB3 zC1 hA1 hA2 hA3 hB1 hB2 hB3 hC1 hT hk hj hj0 hj9 hHs hHU hZ hZl hD H1 HK1 hDne
          have HN := Fact.mk hHne
          go_wp2_with (first
            | (go_at_call 9; have _t := tok2; refine (ref_any A3 T 0 N1 false s1 F1 _ HW.out.laid).mono ?_; rintro e w2 ⟨rfl, hb2⟩; clear tok2 _t; have H2 := Fact.mk (HW.out.below hb2))
            | (go_at_call 9; have _t := tok3; refine (ref_any B3 T 0 N2 true s2 F2 _ H2.out.laid).mono ?_; rintro e w3 ⟨rfl, hb3⟩; clear tok3 _t; have H3 := Fact.mk (H2.out.below hb3); have q3 := hb2.trans (hb3.mono hb2.size))
            | (go_at_call 9; refine (ref_any C1 T 0 N3 false s3 F3 _ H3.out.laid).mono ?_; rintro e w4 ⟨rfl, hb4⟩; have H4 := Fact.mk (H3.out.below hb4); have q4 := q3.trans (hb4.mono q3.size))
            | (go_at_call 8; refine (awake9_true _ H4.out).mono ?_; rintro e w5 ⟨rfl, hb5⟩))
          go_ret
          exact ⟨rfl, q4.trans (hb5.mono q4.size)⟩
end Go.Proofs.YtlelnjheocbmnaaDoor
