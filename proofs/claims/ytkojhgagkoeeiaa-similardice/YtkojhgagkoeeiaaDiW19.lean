/- SimilarDice, walked. -/
import Derived.Test.YtkojhgagkoeeiaaSDi
import Derived.Test.YtkojhgagkoeeiaaRunA
set_option linter.unusedVariables false
set_option linter.unusedSimpArgs false
namespace Go.Proofs.Ytkojhgagkoeeiaa
open Go.Deep (BT)
open Go.RowKit M

theorem shA_one {c s : Int} (h : 1 ≤ s) : shA c s = c := by unfold shA; rw [if_neg (by omega)]
theorem shB_one {s : Int} (h : 1 ≤ s) : shB s = s := by unfold shB; rw [if_neg (by omega)]
theorem dice_one {c s d t : Int} (h : 1 ≤ s) (k : 1 ≤ t) : dice c s d t = ci (c * t) (d * s) := by
  unfold dice
  rw [shA_one h, shA_one k, shB_one h, shB_one k]
theorem ci_scale (a b n : Int) (h : 1 ≤ n) : ci (a * n) (b * n) = ci a b := by
  rcases ci_cases a b with ⟨h1, e⟩ | ⟨h1, e⟩ | ⟨h1, e⟩
  · rw [e]; unfold ci; rw [if_pos (Int.mul_lt_mul_of_pos_right h1 (by omega))]
  · have h2 := Int.mul_lt_mul_of_pos_right h1 (show (0 : Int) < n by omega)
    rw [e]; unfold ci; rw [if_neg (by omega), if_pos h2]
  · subst h1
    rw [e]; unfold ci; rw [if_neg (by omega), if_neg (by omega)]
/-- three numbers that a comparison says -/
theorem dice_f (c s d t r : Int) (hc : Big c) (hs : Big s) (hd : Big d) (ht : Big t) (hr : Fact (dice c s d t = r)) (w : World) :
    Calls Try.prog 10 #[.int .i64 c, .int .i64 s, .int .i64 d, .int .i64 t] w fun e w' => e = .returned (.int .i64 r) ∧ w' = w := by
  rw [← hr.out]; exact dice_any c s d t hc hs hd ht w
theorem place_b (v : Int) (n q : Nat) (w : World) (hn : 0 < n) (hm : n ≤ 9223372036854775807) (h : Fact (pl v n = q)) :
    Calls Try.prog 9 #[.int .i64 v, .int .i64 n] w fun e w' => e = .returned (.int .i64 q) ∧ w' = w := by
  rw [← h.out]; exact place_pl v n w hn hm

theorem w64 {x y : Int} (h : x = y) (h1 : -1000000000000000000 ≤ y) (h2 : y ≤ 1000000000000000000) : IntKind.i64.wrap x = y := by
  subst h
  unfold IntKind.wrap
  simp [IntKind.bits, IntKind.signed]
  omega
theorem place_k (v : Int) (q : Nat) (w : World) (h : Fact (pl v 1000 = q)) :
    Calls Try.prog 9 #[.int .i64 v, .int .i64 1000] w fun e w' => e = .returned (.int .i64 q) ∧ w' = w := by
  obtain ⟨n, hn⟩ : ∃ n : Nat, n = 1000 := ⟨_, rfl⟩
  have e : (1000 : Int) = (n : Int) := by omega
  rw [e]
  rw [← hn] at h
  exact place_b v n q w (by omega) (by omega) h

set_option maxRecDepth 100000 in
set_option maxHeartbeats 8000000 in
theorem dice_walk (v1 v2 v3 v4 v5 : Int) (w : World) :
    Calls Try.prog 5 #[.int .i64 v1, .int .i64 v2, .int .i64 v3, .int .i64 v4, .int .i64 v5] w fun e w' => e = .returned (.bool true) ∧ Below w.heap.size w w' := by
  obtain ⟨p, hp⟩ : ∃ p, pl v1 1000 = p := ⟨_, rfl⟩
  obtain ⟨q, hq⟩ : ∃ p, pl v2 1000 = p := ⟨_, rfl⟩
  obtain ⟨r, hr⟩ : ∃ p, pl v3 1000 = p := ⟨_, rfl⟩
  obtain ⟨u, hu⟩ : ∃ p, pl v4 1000 = p := ⟨_, rfl⟩
  obtain ⟨n, hn⟩ : ∃ p, pl v5 1000 = p := ⟨_, rfl⟩
  have p1 : p < 1000 := hp ▸ pl_lt v1 1000 (by omega)
  have q1 : q < 1000 := hq ▸ pl_lt v2 1000 (by omega)
  have r1 : r < 1000 := hr ▸ pl_lt v3 1000 (by omega)
  have u1 : u < 1000 := hu ▸ pl_lt v4 1000 (by omega)
  have n1 : n < 1000 := hn ▸ pl_lt v5 1000 (by omega)
  have P1 : ∀ W : World, Calls Try.prog 9 #[.int .i64 v1, .int .i64 1000] W fun e w' => e = .returned (.int .i64 p) ∧ w' = W := fun W => place_k v1 p W ⟨hp⟩
  have P2 : ∀ W : World, Calls Try.prog 9 #[.int .i64 v2, .int .i64 1000] W fun e w' => e = .returned (.int .i64 q) ∧ w' = W := fun W => place_k v2 q W ⟨hq⟩
  have P3 : ∀ W : World, Calls Try.prog 9 #[.int .i64 v3, .int .i64 1000] W fun e w' => e = .returned (.int .i64 r) ∧ w' = W := fun W => place_k v3 r W ⟨hr⟩
  have P4 : ∀ W : World, Calls Try.prog 9 #[.int .i64 v4, .int .i64 1000] W fun e w' => e = .returned (.int .i64 u) ∧ w' = W := fun W => place_k v4 u W ⟨hu⟩
  have P5 : ∀ W : World, Calls Try.prog 9 #[.int .i64 v5, .int .i64 1000] W fun e w' => e = .returned (.int .i64 n) ∧ w' = W := fun W => place_k v5 n W ⟨hn⟩
  have FP1 := Fact.mk P1
  have FP2 := Fact.mk P2
  have FP3 := Fact.mk P3
  have FP4 := Fact.mk P4
  have FP5 := Fact.mk P5
  clear P1 P2 P3 P4 P5 hp hq hr hu hn
  obtain ⟨q', hq'⟩ : ∃ q' : Int, q' = 1 + (q : Int) := ⟨_, rfl⟩
  obtain ⟨u', hu'⟩ : ∃ q' : Int, q' = 1 + (u : Int) := ⟨_, rfl⟩
  obtain ⟨n', hn'⟩ : ∃ q' : Int, q' = 1 + (n : Int) := ⟨_, rfl⟩
  have k1 : Big (p : Int) := ⟨by omega, by omega⟩
  have k2 : Big q' := ⟨by omega, by omega⟩
  have k3 : Big (r : Int) := ⟨by omega, by omega⟩
  have k4 : Big u' := ⟨by omega, by omega⟩
  have o1 : 1 ≤ q' := by omega
  have o2 : 1 ≤ u' := by omega
  have o3 : 1 ≤ n' := by omega
  have b3 : n' ≤ 1000 := by omega
  have bp : (p : Int) ≤ 1000 := by omega
  have bq : q' ≤ 1000 := by omega
  obtain ⟨pI, hpI⟩ : ∃ x : Int, (p : Int) = x := ⟨_, rfl⟩
  obtain ⟨rI, hrI⟩ : ∃ x : Int, (r : Int) = x := ⟨_, rfl⟩
  have g0 : 0 ≤ pI := by omega
  obtain ⟨m1, hm1⟩ : ∃ m, pI * n' = m := ⟨_, rfl⟩
  obtain ⟨m2, hm2⟩ : ∃ m, q' * n' = m := ⟨_, rfl⟩
  have c1 : 0 ≤ m1 ∧ m1 ≤ 1000000 := by
    have h1 := Int.mul_le_mul (show pI ≤ 1000 by omega) b3 (show 0 ≤ n' by omega) (by omega)
    have h2 := Int.mul_nonneg g0 (show 0 ≤ n' by omega)
    omega
  have c2 : 1 ≤ m2 ∧ m2 ≤ 1000000 := by
    have h1 := Int.mul_le_mul bq b3 (show 0 ≤ n' by omega) (by omega)
    have h2 := Int.mul_le_mul (show (1 : Int) ≤ q' by omega) (show (1 : Int) ≤ n' by omega) (by omega) (by omega)
    omega
  obtain ⟨x, hx⟩ : ∃ x, dice pI q' rI u' = x := ⟨_, rfl⟩
  obtain ⟨nx, hnx⟩ : ∃ x, dice rI u' pI q' = x := ⟨_, rfl⟩
  have hneg : nx = -x := by
    rw [← hx, ← hnx, dice_one o1 o2, dice_one o2 o1]
    exact ci_neg _ _
  have hsg : -1 ≤ x ∧ x ≤ 1 := by
    rw [← hx, dice_one o1 o2]
    rcases ci_cases (pI * u') (rI * q') with ⟨_, e⟩ | ⟨_, e⟩ | ⟨_, e⟩ <;> rw [e] <;> omega
  have hx2 : dice m1 m2 rI u' = x := by
    rw [dice_one (by omega) o2, ← hx, dice_one o1 o2, ← hm1, ← hm2, show pI * n' * u' = pI * u' * n' by rw [Int.mul_assoc, Int.mul_comm n', Int.mul_assoc], show rI * (q' * n') = rI * q' * n' by rw [Int.mul_assoc], ci_scale _ _ _ o3]
  have hx3 : dice pI q' pI q' = 0 := by rw [dice_one o1 o1]; exact (ci_zero _ _).2 rfl
  obtain ⟨y, hy⟩ : ∃ y, dice (2 * pI) q' 1 2 = y := ⟨_, rfl⟩
  obtain ⟨h, hh⟩ : ∃ h, decide (q' < 4 * pI) = h := ⟨_, rfl⟩
  have hyh : decide (0 < y) = h := by
    rw [← hy, ← hh, dice_one o1 (by omega)]
    congr 1
    rcases ci_cases (2 * pI * 2) (1 * q') with ⟨l, e⟩ | ⟨l, e⟩ | ⟨l, e⟩ <;> rw [e] <;> exact propext (by omega)
  have B1 : Big pI := ⟨by omega, by omega⟩
  have B3 : Big rI := ⟨by omega, by omega⟩
  have BM1 : Big m1 := ⟨by omega, by omega⟩
  have BM2 : Big m2 := ⟨by omega, by omega⟩
  have B2p : Big (2 * pI) := ⟨by omega, by omega⟩
  have D1 : Fact (∀ W : World, Calls Try.prog 10 #[.int .i64 pI, .int .i64 q', .int .i64 rI, .int .i64 u'] W fun e w' => e = .returned (.int .i64 x) ∧ w' = W) := ⟨fun W => dice_f _ _ _ _ x B1 k2 B3 k4 ⟨hx⟩ W⟩
  have D2 : Fact (∀ W : World, Calls Try.prog 10 #[.int .i64 rI, .int .i64 u', .int .i64 pI, .int .i64 q'] W fun e w' => e = .returned (.int .i64 nx) ∧ w' = W) := ⟨fun W => dice_f _ _ _ _ nx B3 k4 B1 k2 ⟨hnx⟩ W⟩
  have D3 : Fact (∀ W : World, Calls Try.prog 10 #[.int .i64 m1, .int .i64 m2, .int .i64 rI, .int .i64 u'] W fun e w' => e = .returned (.int .i64 x) ∧ w' = W) := ⟨fun W => dice_f _ _ _ _ x BM1 BM2 B3 k4 ⟨hx2⟩ W⟩
  have D4 : Fact (∀ W : World, Calls Try.prog 10 #[.int .i64 pI, .int .i64 q', .int .i64 pI, .int .i64 q'] W fun e w' => e = .returned (.int .i64 0) ∧ w' = W) := ⟨fun W => dice_f _ _ _ _ 0 B1 k2 B1 k2 ⟨hx3⟩ W⟩
  have D5 : Fact (∀ W : World, Calls Try.prog 10 #[.int .i64 (2 * pI), .int .i64 q', .int .i64 1, .int .i64 2] W fun e w' => e = .returned (.int .i64 y) ∧ w' = W) := ⟨fun W => dice_f _ _ _ _ y B2p k2 ⟨by omega, by omega⟩ ⟨by omega, by omega⟩ ⟨hy⟩ W⟩
  have D6 : Fact (∀ W : World, Calls Try.prog 12 #[.int .i64 pI, .int .i64 q'] W fun e w' => e = .returned (.bool h) ∧ w' = W) := ⟨fun W => half_any _ _ W h ⟨hh⟩⟩
  have Fw1 : Fact (IntKind.i64.wrap (1 + (q : Int)) = q') := ⟨w64 hq'.symm (by omega) (by omega)⟩
  have Fw2 : Fact (IntKind.i64.wrap (1 + (u : Int)) = u') := ⟨w64 hu'.symm (by omega) (by omega)⟩
  have Fw3 : Fact (IntKind.i64.wrap (1 + (n : Int)) = n') := ⟨w64 hn'.symm (by omega) (by omega)⟩
  have Fv1 : Fact (IntKind.i64.wrap (pI * n') = m1) := ⟨w64 hm1 (by omega) (by omega)⟩
  have Fv2 : Fact (IntKind.i64.wrap (q' * n') = m2) := ⟨w64 hm2 (by omega) (by omega)⟩
  have Fv3 : Fact (IntKind.i64.wrap (2 * pI) = 2 * pI) := ⟨w64 rfl (by omega) (by omega)⟩
  have Fnw : Fact (IntKind.i64.wrap (-nx) = x) := ⟨w64 (by omega) (by omega) (by omega)⟩
  rw [hpI] at FP1
  rw [hrI] at FP3
  clear hx hnx hneg hsg hx2 hx3 hy hh hm1 hm2 c1 c2 B1 B3 BM1 BM2 B2p k1 k2 k3 k4 o1 o2 o3 b3 bp bq g0 hpI hrI hq' hu' hn' p1 q1 r1 u1 n1
  have a1 := Fw1.out
  have a2 := Fw2.out
  have a3 := Fw3.out
  have a4 := Fv1.out
  have a5 := Fv2.out
  have a6 := Fv3.out
  have a7 := Fnw.out
  clear Fw1 Fw2 Fw3 Fv1 Fv2 Fv3 Fnw
  go_enter Try.func5, Try.ntmps5
  cases h
  · go_wp2_with fail
    refine (FP1.out _).mono ?_
    rintro e w1 ⟨rfl, rfl⟩
    go_wp2_with fail
    refine (FP2.out _).mono ?_
    rintro e w1 ⟨rfl, rfl⟩
    go_wp2_with fail
    refine (FP3.out _).mono ?_
    rintro e w1 ⟨rfl, rfl⟩
    go_wp2_with fail
    refine (FP4.out _).mono ?_
    rintro e w1 ⟨rfl, rfl⟩
    go_wp2_with fail
    refine (FP5.out _).mono ?_
    rintro e w1 ⟨rfl, rfl⟩
    go_wp2_with fail
    refine (D1.out _).mono ?_
    rintro e w1 ⟨rfl, rfl⟩
    go_wp2_with fail
    refine (D2.out _).mono ?_
    rintro e w1 ⟨rfl, rfl⟩
    go_wp2_with fail
    refine (D3.out _).mono ?_
    rintro e w1 ⟨rfl, rfl⟩
    go_wp2_with fail
    refine (D4.out _).mono ?_
    rintro e w1 ⟨rfl, rfl⟩
    go_wp2_with fail
    refine (D6.out _).mono ?_
    rintro e w1 ⟨rfl, rfl⟩
    go_wp2_with fail
    refine (D5.out _).mono ?_
    rintro e w1 ⟨rfl, rfl⟩
    go_wp2_with fail
    refine (awake19_true _).mono ?_
    rintro e w1 ⟨rfl, hb1⟩
    go_wp2_with fail
    go_ret
    exact ⟨rfl, hb1⟩
  · go_wp2_with fail
    refine (FP1.out _).mono ?_
    rintro e w1 ⟨rfl, rfl⟩
    go_wp2_with fail
    refine (FP2.out _).mono ?_
    rintro e w1 ⟨rfl, rfl⟩
    go_wp2_with fail
    refine (FP3.out _).mono ?_
    rintro e w1 ⟨rfl, rfl⟩
    go_wp2_with fail
    refine (FP4.out _).mono ?_
    rintro e w1 ⟨rfl, rfl⟩
    go_wp2_with fail
    refine (FP5.out _).mono ?_
    rintro e w1 ⟨rfl, rfl⟩
    go_wp2_with fail
    refine (D1.out _).mono ?_
    rintro e w1 ⟨rfl, rfl⟩
    go_wp2_with fail
    refine (D2.out _).mono ?_
    rintro e w1 ⟨rfl, rfl⟩
    go_wp2_with fail
    refine (D3.out _).mono ?_
    rintro e w1 ⟨rfl, rfl⟩
    go_wp2_with fail
    refine (D4.out _).mono ?_
    rintro e w1 ⟨rfl, rfl⟩
    go_wp2_with fail
    refine (D6.out _).mono ?_
    rintro e w1 ⟨rfl, rfl⟩
    go_wp2_with fail
    refine (D5.out _).mono ?_
    rintro e w1 ⟨rfl, rfl⟩
    go_wp2_with fail
    refine (awake19_true _).mono ?_
    rintro e w1 ⟨rfl, hb1⟩
    go_wp2_with fail
    go_ret
    exact ⟨rfl, hb1⟩
end Go.Proofs.Ytkojhgagkoeeiaa
