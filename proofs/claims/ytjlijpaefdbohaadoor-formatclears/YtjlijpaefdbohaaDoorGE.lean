/- FormatPuts: the walk. -/
import Derived.Test.YtjlijpaefdbohaaDoorGS
set_option linter.unusedVariables false
set_option linter.unusedSimpArgs false
namespace Go.Proofs.YtjlijpaefdbohaaDoor
open Go.RowKit

theorem is_lit (x : Int) (h : -1000000 ≤ x ∧ x ≤ 1000000) : Is64 x := ⟨WalkArith.wf_i64 (by omega)⟩
set_option maxRecDepth 20000 in
set_option maxHeartbeats 2000000 in
theorem puts_walk (n a : Int) (w : World) : Calls Tryd.prog 6 #[.int .i64 n, .int .i64 a] w fun e w' => e = .returned (.bool true) ∧ Below w.heap.size w w' := by
  have HNEW := Fact.mk (st_new w)
  obtain ⟨k, hk, HK⟩ : ∃ k : Nat, k < 12 ∧ Fact (∀ w', Calls Tryd.prog 9 #[.int .i64 n, .int .i64 12] w' fun e w'' => e = .returned (.int .i64 (k : Int)) ∧ w'' = w') := ⟨pl n 12, pl_lt n 12 (by omega), ⟨fun w' => place_pl n 12 w' (by omega) (by omega)⟩⟩
  obtain ⟨p, hp, HP⟩ : ∃ p : Nat, p ≤ k ∧ Fact (∀ w', Calls Tryd.prog 9 #[.int .i64 a, .int .i64 ((k : Int) + 1)] w' fun e w'' => e = .returned (.int .i64 (p : Int)) ∧ w'' = w') := ⟨pl a (k + 1), by have := pl_lt a (k + 1) (by omega); omega, ⟨fun w' => by have := place_pl a (k + 1) w' (by omega) (by omega); rw [show ((k + 1 : Nat) : Int) = (k : Int) + 1 by omega] at this; exact this⟩⟩
  go_enter Tryd.func6, Tryd.ntmps6
  go_wp2_with (first
    | (go_at_call 7; refine HNEW.out.mono ?_; rintro e w1 ⟨rfl, hs⟩; have HS1 := Fact.mk hs; clear hs HNEW)
    | (go_at_call 9; refine (HK.out _).mono ?_; rintro e w2 ⟨rfl, e2⟩; have e2' := e2.symm; subst e2'))
  clear HK
  go_loopw [7] (fun i wx => ∃ j : Nat, j ≤ k ∧ i = .int .i64 ((j : Int) + 1) ∧ Fact (∃ L, St w wx L (2 * j) ∧ Row L j)) (fun i _ => k + 2 - (intOf i).toNat)
  case atStart => exact ⟨0, Nat.zero_le _, rfl, ⟨[], HS1.out, ⟨rfl, fun i x hx => by simp at hx⟩⟩⟩
  case round =>
    rename World => wx
    obtain ⟨j, hj, rfl, hI⟩ := hrel
    obtain ⟨L, hs, hr⟩ := hI.out
    by_cases hlt : j < k
    · have hpu := st_push hs L 0 0 ((j : Int) + 1) (lt1 j) (is_lit _ (by omega)) (lt1_size ⟨j, by omega⟩) (by rw [hr.len]; exact hr.ms j (Nat.le_refl _)) (by rw [hr.len]; exact hr.ms j (Nat.le_refl _)) (by omega) (by omega) (.inl ⟨by rw [show ((0 : Nat) : Int) = 0 from rfl, hr.cnt (by omega)]; omega, rfl⟩) (by rw [hr.len]; omega) (by omega)
      have HPU : Fact (Calls Tryd.prog 24 #[pt w, .agg #[.int .i64 ((j : Int) + 1), .string (lt1 j), .slice none 0 0]] wx fun e w' => e = .returned (.tuple #[]) ∧ ∃ L, St w w' L (2 * (j + 1)) ∧ Row L (j + 1)) := ⟨by
        refine hpu.mono ?_
        rintro e w' ⟨rfl, av, h'⟩
        exact ⟨rfl, _, h', hr.snoc av⟩⟩
      unfold lt1 tAl at HPU
      have hj1 : (j : Int) + 1 ≤ (k : Int) := by omega
      have hw1 : wrap64 ((j : Int) + 1 - 1) = (j : Int) := by unfold wrap64; omega
      have hj2 : (j : Int) ≤ (j : Int) + 1 := by omega
      have hj3 : (j : Int) + 1 ≤ 12 := by omega
      have hj0 : (0 : Int) ≤ (j : Int) := Int.natCast_nonneg _
      have hj4 : (0 : Int) ≤ (j : Int) + 1 := by omega
      clear hpu hs hr hI
      go_wp2_with (go_at_call 24; refine HPU.out.mono ?_; rintro e w2 ⟨rfl, h2⟩; have H2 := Fact.mk h2; clear h2)
      go_roundw
      case rel => exact ⟨j + 1, by omega, by go_num, H2⟩
      case measure => simp [intOf]; omega
    · obtain rfl : j = k := by omega
      have hlen := hr.len
      have H0 := Fact.mk hs
      have HR := Fact.mk hr
      have HLEN := Fact.mk hlen
      clear hs hr hI hlen
      have tok1 : True := trivial
      have tok2 : True := trivial
      have tok3 : True := trivial
      have tok4 : True := trivial
      have tok5 : True := trivial
      have tok6 : True := trivial
      have tok7 : True := trivial
      have tok8 : True := trivial
      have hkk : ¬ ((j : Int) + 1 ≤ (j : Int)) := by omega
      have hkd : decide ((j : Int) + 1 ≤ (j : Int)) = false := by simpa using hkk
      go_wp2_with (first
        | (go_at_call 9; refine (HP.out _).mono ?_; rintro e w2 ⟨rfl, e2⟩; have e2' := e2.symm; subst e2'; clear HP)
        | (go_at_call 20; have _t := tok1; refine (st_put H0.out p 0 50 ⟨#[122]⟩ (is_lit _ (by omega)) (by decide) (HR.out.ms p hp) (by omega) (by rw [HLEN.out]; exact hp) (by rw [HLEN.out]; omega) (by omega)).mono ?_; rintro e w3 ⟨rfl, av, h3⟩; have H3 := Fact.mk h3; clear h3 tok1 _t)
        | (go_at_call 27; have _t := tok2; refine (st_place H3.out 50 p (mid_place HR.out p hp _ 50 rfl rfl (by omega))).mono ?_; rintro e w4 ⟨rfl, h4⟩; have H4 := Fact.mk h4; clear h4 tok2 _t)
        | (go_at_call 29; have _t := tok3; refine (st_len H4.out).mono ?_; rintro e w5 ⟨rfl, e5⟩; have e5' := e5.symm; subst e5'; rw [mid_len HR.out p _]; clear tok3 _t)
        | (go_at_call 20; have _t := tok4; refine (st_putNo H4.out (-1) 51 ⟨#[]⟩ (.inl (by omega))).mono ?_; rintro e w6 ⟨rfl, h6⟩; have H6 := Fact.mk h6; clear h6 tok4 _t)
        | (go_at_call 20; have _t := tok5; refine (st_putNo H6.out ((j : Int) + 2) 51 ⟨#[]⟩ (.inr (by rw [mid_len HR.out p _]; omega))).mono ?_; rintro e w7 ⟨rfl, h7⟩; have H7 := Fact.mk h7; clear h7 tok5 _t)
        | (go_at_call 31; refine (st_at H7.out p _ (mid_get HR.out p hp _)).mono ?_; rintro e w8 ⟨xa, xn, xk, rfl, h8⟩; have H8 := Fact.mk (h8.alloc (.cells #[.int .i64 50, .string ⟨#[122]⟩, .slice xa xn xk] 36)); clear h8)
        | (go_at_call 22; have _t := tok6; refine (st_swap H8.out p 0 50 60 ⟨#[121]⟩ (is_lit _ (by omega)) (by decide) (mid_ms HR.out p hp _) (by omega) (mid_place HR.out p hp _ 50 rfl rfl (by omega)) (by omega)).mono ?_; rintro e w9 ⟨rfl, av9, h9⟩; rw [mid_swap HR.out p hp] at h9; have H9 := Fact.mk h9; clear h9 tok6 _t)
        | (go_at_call 27; have _t := tok7; refine (st_place H9.out 60 p (mid_place HR.out p hp _ 60 rfl rfl (by omega))).mono ?_; rintro e w10 ⟨rfl, h10⟩; have H10 := Fact.mk h10; clear h10 tok7 _t)
        | (go_at_call 22; refine (st_swapNo H10.out 50 61 ⟨#[]⟩ (mid_no HR.out p _ 50 (by show (60 : Int) ≠ 50; decide) (by omega))).mono ?_; rintro e w11 ⟨rfl, h11⟩; have H11 := Fact.mk h11; clear h11)
        | (go_at_call 18; have _t := tok8; refine (st_remove H11.out p 60 (mid_place HR.out p hp _ 60 rfl rfl (by omega)) (by omega)).mono ?_; rintro e w12 ⟨rfl, h12⟩; rw [mid_del HR.out p hp] at h12; have H12 := Fact.mk h12; clear h12 tok8 _t)
        | (go_at_call 18; refine (st_removeNo H12.out 60 (plc_no 60 _ (HR.out.no 60 (.inr (by omega))))).mono ?_; rintro e w13 ⟨rfl, h13⟩; have H13 := Fact.mk h13; clear h13))
      go_loopw [11] (fun i wy => ∃ q : Nat, q ≤ j ∧ i = .int .i64 ((q : Int) + 1) ∧ Fact (St w wy L (2 * j + 1 + 2 + 1))) (fun i _ => j + 2 - (intOf i).toNat)
      case atStart => exact ⟨0, Nat.zero_le _, rfl, ⟨H13.out⟩⟩
      case round =>
        rename World => wy
        obtain ⟨q, hq, rfl, hI⟩ := hrel
        by_cases hlt2 : q < j
        · have HPL := Fact.mk (st_place hI.out ((q : Int) + 1) q (HR.out.place q hlt2))
          have hq1 : (q : Int) + 1 ≤ (j : Int) := by omega
          have hw1 : wrap64 ((q : Int) + 1 - 1) = (q : Int) := by unfold wrap64; omega
          clear hI
          go_wp2_with (go_at_call 27; refine HPL.out.mono ?_; rintro e w14 ⟨rfl, h14⟩; have H14 := Fact.mk h14; clear h14)
          go_roundw
          case rel => exact ⟨q + 1, by omega, by go_num, H14⟩
          case measure => simp [intOf]; omega
        · obtain rfl : q = j := by omega
          go_wp2_with (first
            | (go_at_call 29; refine (st_len hI.out).mono ?_; rintro e w15 ⟨rfl, e15⟩; have e15' := e15.symm; subst e15'; rw [HLEN.out])
            | (go_at_call 8; refine (awake_true _).mono ?_; rintro e w16 ⟨rfl, h16⟩; have H16 := Fact.mk h16; clear h16))
          go_ret
          exact ⟨rfl, hI.out.bel.trans (H16.out.mono hI.out.bel.size)⟩
end Go.Proofs.YtjlijpaefdbohaaDoor
