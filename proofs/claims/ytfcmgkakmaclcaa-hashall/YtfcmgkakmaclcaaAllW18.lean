/- HashAll, walked. -/
import Derived.Test.YtfcmgkakmaclcaaJR
import Derived.Test.YtfcmgkakmaclcaaSameW18
import Derived.Test.YtfcmgkakmaclcaaRefS
set_option linter.unusedVariables false
set_option linter.unusedSimpArgs false
namespace Go.Proofs.Ytfcmgkakmaclcaa
open Go.Deep (BT)
open Go.RowKit Go.Shelf M
open Bt (mx IsU mx_u ret_int)

theorem ci_self (a : Int) : ci a a = 0 := by unfold ci; rw [if_neg (by omega), if_neg (by omega)]
theorem cl_self : ∀ l, cl l l = 0
  | [] => rfl
  | a :: l => by show orI (ci a.toNat a.toNat) (cl l l) = 0; rw [ci_self, cl_self l]; rfl
theorem ca_self : ∀ l, ca l l = 0
  | [] => rfl
  | p :: l => by show orI (orI (cs p.1 p.1) (cs p.2 p.2)) (ca l l) = 0; unfold cs; rw [cl_self, cl_self, ca_self l]; rfl
theorem cn_self (d : Nd) : cn d d = 0 := by unfold cn cs; rw [ci_self, cl_self, cl_self, ca_self]; rfl
theorem cF_self : ∀ f, cF f f = 0
  | .nil => rfl
  | .node _ _ d k r => by show orI (cn d d) (orI (cF k k) (cF r r)) = 0; rw [cn_self, cF_self k, cF_self r]; rfl
theorem cT_self (d : Nd) (k : M.F) : cT d k d k = 0 := by unfold cT; rw [cn_self, cF_self]; rfl
theorem rsz18 (d : Nd) (k : M.F) (va ka : Value) (Z n : Nat) (W : World) (hZ : Fact (k.size + 1 = Z)) (hz : Z ≤ 1000000) (hl : Lies n W d k va ka) (hn : n ≤ W.heap.size) :
    Calls Try.prog 9 #[nodeV d va ka] W fun e w' => e = .returned (.int .i64 Z) ∧ Below W.heap.size W w' := by
  have h := rsize_any k d va ka n W hl hn (by have := hZ.out; omega)
  rw [hZ.out] at h
  exact h

set_option maxRecDepth 100000 in
set_option maxHeartbeats 8000000 in
theorem hashAll_walk (d : Nd) (k : M.F) (va ka : Value) (s : ByteArray) (w : World) (h : Lies w.heap.size w d k va ka) :
    Calls Try.prog 3 #[nodeV d va ka, .string s] w fun e w' => e = .returned (.bool true) ∧ Below w.heap.size w w' := by
  obtain ⟨p1, p2, p3, e1⟩ := h.a.val
  obtain ⟨q1, q2, e2⟩ := h.f.val
  subst e1 e2
  obtain ⟨kl, hkl⟩ : ∃ kl, k.len = kl := ⟨_, rfl⟩
  rw [hkl] at h ⊢
  obtain ⟨K, N, X, A⟩ := d
  have HL := Fact.mk h
  have HKL := Fact.mk hkl
  obtain ⟨n, hn⟩ : ∃ n, Fact (k.size + 1 = n) := ⟨_, ⟨rfl⟩⟩
  obtain ⟨z, hz⟩ : ∃ z, s.size = z := ⟨_, rfl⟩
  have HZ := Fact.mk hz
  have hzI : (s.size : Int) = z := by omega
  obtain ⟨W1, hW1⟩ : ∃ W1, w.alloc (.cells #[.int .i64 K, .string N, .string X, .slice p1 p2 p3, .slice q1 kl q2] 25) = W1 := ⟨_, rfl⟩
  have hB1 : Below w.heap.size w W1 := by rw [← hW1]; exact (Below.refl _ w).alloc (Nat.le_refl _) _
  have hbx : Box5 w.heap.size K N X (.slice p1 p2 p3) (.slice q1 kl q2) W1 := by rw [← hW1]; exact Box5.new _ _ _ _ _ _ _
  have HB1 := Fact.mk hB1
  have HW1 := Fact.mk hW1
  have HBX := Fact.mk hbx
  have b0 := hbx.c0
  have b1 := hbx.c1
  have b2 := hbx.c2
  have b3 := hbx.c3
  have b4 := hbx.c4
  clear hB1 hW1 hbx h hkl hz
  go_enter Try.func3, Try.ntmps3
  go_upto_region 1 with fail
  rw [HW1.out]
  go_wp2_with fail
  refine (SmallA_any ⟨K, N, X, A⟩ k _ _ w.heap.size W1 (HL.out.below HB1.out) HB1.out.size).mono ?_
  rintro e w1 (⟨rfl, hb1⟩ | ⟨rfl, hb1, f1⟩)
  · go_wp2_with (go_at_call 10; refine (awake18_true _).mono ?_; rintro e w9 ⟨rfl, hb9⟩)
    go_ret
    exact ⟨rfl, HB1.out.trans ((hb1.mono HB1.out.size).trans (hb9.mono (Nat.le_trans HB1.out.size hb1.size)))⟩
  have hn400 : n ≤ 400 := by have := f1.out.size; have := hn.out; omega
  have hbx1 := HBX.out.keep hb1
  have y0 := hbx1.c0
  have y1 := hbx1.c1
  have y2 := hbx1.c2
  have y3 := hbx1.c3
  have y4 := hbx1.c4
  have HBa : Fact (Below w.heap.size w w1) := ⟨HB1.out.trans (hb1.mono HB1.out.size)⟩
  have HBX1 := Fact.mk hbx1
  clear b0 b1 b2 b3 b4 hb1 hbx1
  go_wp2_with fail
  refine (rsz18 ⟨K, N, X, A⟩ k _ _ n w.heap.size w1 hn (by omega) (HL.out.below HBa.out) HBa.out.size).mono ?_
  rintro e w2 ⟨rfl, hb2⟩
  have HBb : Fact (Below w.heap.size w w2) := ⟨HBa.out.trans (hb2.mono HBa.out.size)⟩
  have hbx2 := HBX1.out.keep hb2
  have HBX2 := Fact.mk hbx2
  have z0 := hbx2.c0
  have z1 := hbx2.c1
  have z2 := hbx2.c2
  have z3 := hbx2.c3
  have z4 := hbx2.c4
  clear y0 y1 y2 y3 y4 hb2 hbx2
  by_cases h80 : 80 < n
  · have hd80 : decide ((80 : Int) < n) = true := decide_eq_true (by omega)
    go_wp2_with (go_at_call 10; refine (awake18_true _).mono ?_; rintro e w9 ⟨rfl, hb9⟩)
    go_ret
    exact ⟨rfl, HBb.out.trans (hb9.mono HBb.out.size)⟩
  have hd80 : decide ((80 : Int) < n) = false := decide_eq_false (by omega)
  by_cases h3000 : 3000 < z
  · have hdz : decide ((3000 : Int) < z) = true := decide_eq_true (by omega)
    go_wp2_with (go_at_call 10; refine (awake18_true _).mono ?_; rintro e w9 ⟨rfl, hb9⟩)
    go_ret
    exact ⟨rfl, HBb.out.trans (hb9.mono HBb.out.size)⟩
  have hdz : decide ((3000 : Int) < z) = false := decide_eq_false (by omega)
  have hF : Fits 0 0 ⟨K, N, X, A⟩ k := ⟨f1.out.size, f1.out.depth, by have := slots_le k f1.out.all; have := f1.out.nd.many; show A.length + k.slots ≤ _; have h2 : A.length ≤ 20 := f1.out.nd.many; omega⟩
  have HF := Fact.mk hF
  have HCOPY := Fact.mk (copy_l (P := True) HKL.out HL.out hF (W := w2) ⟨HBb.out, trivial⟩)
  clear hF
  go_upto_region 4 with (go_at_call 11; refine HCOPY.out.mono ?_; rintro e w4 ⟨r1, r2, r3, r4, r5, rfl, hb4, hl4⟩)
  obtain ⟨W5, hW5⟩ : ∃ W5, w4.alloc (.cells #[.int .i64 K, .string N, .string X, .slice r1 r2 r3, .slice r4 kl r5] 25) = W5 := ⟨_, rfl⟩
  have hB4 : Below w.heap.size w w4 := HBb.out.trans (hb4.mono HBb.out.size)
  have hb5 : Below w4.heap.size w4 W5 := by rw [← hW5]; exact (Below.refl _ w4).alloc (Nat.le_refl _) _
  have hB5 : Below w.heap.size w W5 := hB4.trans (hb5.mono hB4.size)
  have hbt := (HBX2.out.keep hb4).keep hb5
  have hbx : Box5 w4.heap.size K N X (.slice r1 r2 r3) (.slice r4 kl r5) W5 := by rw [← hW5]; exact Box5.new _ _ _ _ _ _ _
  have HQ : Fact (∀ W, Below W5.heap.size W5 W → (Below W5.heap.size W5 W ∧ (W.cell? ⟨w.heap.size, 0, none⟩ = some (.int .i64 K) ∧ W.cell? ⟨w.heap.size, 1, none⟩ = some (.string N) ∧ W.cell? ⟨w.heap.size, 2, none⟩ = some (.string X) ∧ W.cell? ⟨w.heap.size, 3, none⟩ = some (.slice p1 p2 p3) ∧ W.cell? ⟨w.heap.size, 4, none⟩ = some (.slice q1 kl q2) ∧ W.cell? ⟨w4.heap.size, 0, none⟩ = some (.int .i64 K) ∧ W.cell? ⟨w4.heap.size, 1, none⟩ = some (.string N) ∧ W.cell? ⟨w4.heap.size, 2, none⟩ = some (.string X) ∧ W.cell? ⟨w4.heap.size, 3, none⟩ = some (.slice r1 r2 r3) ∧ W.cell? ⟨w4.heap.size, 4, none⟩ = some (.slice r4 kl r5)))) := ⟨fun W hb => by
    have h1 := hbt.keep hb
    have h2 := hbx.keep hb
    exact ⟨hb, h1.c0, h1.c1, h1.c2, h1.c3, h1.c4, h2.c0, h2.c1, h2.c2, h2.c3, h2.c4⟩⟩
  have HLX : Fact (∀ W, Below W5.heap.size W5 W → Lies W.heap.size W ⟨K, N, X, A⟩ k (.slice r1 r2 r3) (.slice r4 kl r5)) := ⟨fun W hb => by
    have h1 := hb5.trans (hb.mono hb5.size)
    exact (hl4.out.below h1).here h1.size⟩
  have HLT : Fact (∀ W, Below W5.heap.size W5 W → Lies W.heap.size W ⟨K, N, X, A⟩ k (.slice p1 p2 p3) (.slice q1 kl q2)) := ⟨fun W hb => by
    have h1 := hB5.trans (hb.mono hB5.size)
    exact (HL.out.below h1).here h1.size⟩
  have HB5 := Fact.mk hB5
  have HW5 := Fact.mk hW5
  have HKX := HKL.out
  have HALLX : Fact (∀ W, Below W5.heap.size W5 W → Calls Try.prog 12 #[.agg #[.int .i64 K, .string N, .string X, .slice r1 r2 r3, .slice r4 kl r5]] W fun e w' => ∃ g, e = .returned (.slice (some ⟨g, 0, none⟩) n n) ∧ Below W.heap.size W w' ∧ Fact (w'.ownsRow W.heap.size 32 1 (.slice (some ⟨g, 0, none⟩) n n) n (cU (finT ⟨K, N, X, A⟩ k)))) := ⟨fun W hb => by
    have h := hall_any ⟨K, N, X, A⟩ k (.slice r1 r2 r3) (.slice r4 kl r5) n W hn.out f1.out.lim (HLX.out W hb)
    exact h⟩
  have HALLT : Fact (∀ W, Below W5.heap.size W5 W → Calls Try.prog 13 #[.agg #[.int .i64 K, .string N, .string X, .slice p1 p2 p3, .slice q1 kl q2]] W fun e w' => ∃ g c, e = .returned (.slice (some ⟨g, 0, none⟩) n c) ∧ Below W.heap.size W w' ∧ Fact (w'.ownsRow W.heap.size 32 1 (.slice (some ⟨g, 0, none⟩) n c) n (cU (finT ⟨K, N, X, A⟩ k)))) := ⟨fun W hb => by
    have h := rall_any ⟨K, N, X, A⟩ k (.slice p1 p2 p3) (.slice q1 kl q2) n W hn.out f1.out (HLT.out W hb)
    exact h⟩
  obtain ⟨D, hD⟩ : ∃ D, hT ⟨K, N, X, A⟩ k = D := ⟨_, rfl⟩
  obtain ⟨Z, hZ⟩ : ∃ Z, ks k = Z := ⟨_, rfl⟩
  have HOFX : Fact (∀ W, Below W5.heap.size W5 W → Calls Try.prog 16 #[.agg #[.int .i64 K, .string N, .string X, .slice r1 r2 r3, .slice r4 kl r5]] W fun e w' => e = .returned (.int .u64 D) ∧ Below W.heap.size W w') := ⟨fun W hb => by
    have h := hof_any ⟨K, N, X, A⟩ k (.slice r1 r2 r3) (.slice r4 kl r5) W f1.out.lim (HLX.out W hb)
    rw [hD] at h
    exact h⟩
  have HOFT : Fact (∀ W, Below W5.heap.size W5 W → Calls Try.prog 17 #[.agg #[.int .i64 K, .string N, .string X, .slice p1 p2 p3, .slice q1 kl q2]] W fun e w' => e = .returned (.int .u64 D) ∧ Below W.heap.size W w') := ⟨fun W hb => by
    have h := rof18_any k ⟨K, N, X, A⟩ (.slice p1 p2 p3) (.slice q1 kl q2) W.heap.size W (HLT.out W hb) (Nat.le_refl _) f1.out.nd f1.out.all (by have := f1.out.size; omega)
    rw [hD] at h
    exact h⟩
  have HKEYX : Fact (∀ W, Below W5.heap.size W5 W → Calls Try.prog 18 #[.agg #[.int .i64 K, .string N, .string X, .slice r1 r2 r3, .slice r4 kl r5]] W fun e w' => e = .returned (.agg #[.int .u64 D, .int .u64 Z]) ∧ Below W.heap.size W w') := ⟨fun W hb => by
    have h := hkey_any ⟨K, N, X, A⟩ k (.slice r1 r2 r3) (.slice r4 kl r5) W f1.out.lim (HLX.out W hb)
    rw [hD, hZ] at h
    exact h⟩
  have HKEYT : Fact (∀ W, Below W5.heap.size W5 W → Calls Try.prog 19 #[.agg #[.int .i64 K, .string N, .string X, .slice p1 p2 p3, .slice q1 kl q2]] W fun e w' => e = .returned (.agg #[.int .u64 D, .int .u64 Z]) ∧ Below W.heap.size W w') := ⟨fun W hb => by
    have h := rkey_any ⟨K, N, X, A⟩ k (.slice p1 p2 p3) (.slice q1 kl q2) W f1.out (HLT.out W hb)
    rw [hD, hZ] at h
    exact h⟩
  have HSAME : Fact (∀ W, Below W5.heap.size W5 W → Calls Try.prog 20 #[.agg #[.int .i64 K, .string N, .string X, .slice r1 r2 r3, .slice r4 kl r5], .agg #[.int .i64 K, .string N, .string X, .slice p1 p2 p3, .slice q1 kl q2]] W fun e w' => e = .returned (.bool true) ∧ Below W.heap.size W w') := ⟨fun W hb =>
    rsame_at (n := W.heap.size) (w := W) (d := ⟨K, N, X, A⟩) (d' := ⟨K, N, X, A⟩) (k := k) (k' := k) (va := .slice r1 r2 r3) (vb := .slice p1 p2 p3) (ka := .slice r4 kl r5) (kb := .slice q1 kl q2) true ⟨by rw [cT_self]; rfl⟩ (HLX.out W hb) (HLT.out W hb) (Nat.le_refl _)⟩
  clear hl4 hbt hbx hb5 hb4 hB4 hB5 hW5 z0 z1 z2 z3 z4 hD hZ HCOPY
  rw [HW5.out]
  obtain ⟨c0, c1, c2, c3, c4, x0, x1, x2, x3, x4⟩ := (HQ.out W5 (Below.refl _ _)).2
  go_upto_region 5 with (go_at_call 12; refine (HALLX.out W5 (Below.refl _ _)).mono ?_; rintro e w6 ⟨g6, rfl, hb6, hr6⟩)
  have HB6 := Fact.mk hb6
  clear c0 c1 c2 c3 c4 x0 x1 x2 x3 x4 hb6
  obtain ⟨_, c0, c1, c2, c3, c4, x0, x1, x2, x3, x4⟩ := HQ.out w6 HB6.out
  go_upto_region 6 with (go_at_call 13; refine (HALLT.out w6 HB6.out).mono ?_; rintro e w7 ⟨g7, c7, rfl, hb7, hr7⟩)
  have HB7 : Fact (Below W5.heap.size W5 w7) := ⟨HB6.out.trans (hb7.mono HB6.out.size)⟩
  have HR6 : Fact (w7.ownsRow W5.heap.size 32 1 (.slice (some ⟨g6, 0, none⟩) n n) n (cU (finT ⟨K, N, X, A⟩ k))) := ⟨own_upH hr6.out hb7⟩
  have HR7 := Fact.mk hr7.out
  have hS0 : Below W5.heap.size W5 w7.drew ∧ (w7.drew.cell? ⟨w.heap.size, 0, none⟩ = some (.int .i64 K) ∧ w7.drew.cell? ⟨w.heap.size, 1, none⟩ = some (.string N) ∧ w7.drew.cell? ⟨w.heap.size, 2, none⟩ = some (.string X) ∧ w7.drew.cell? ⟨w.heap.size, 3, none⟩ = some (.slice p1 p2 p3) ∧ w7.drew.cell? ⟨w.heap.size, 4, none⟩ = some (.slice q1 kl q2) ∧ w7.drew.cell? ⟨w4.heap.size, 0, none⟩ = some (.int .i64 K) ∧ w7.drew.cell? ⟨w4.heap.size, 1, none⟩ = some (.string N) ∧ w7.drew.cell? ⟨w4.heap.size, 2, none⟩ = some (.string X) ∧ w7.drew.cell? ⟨w4.heap.size, 3, none⟩ = some (.slice r1 r2 r3) ∧ w7.drew.cell? ⟨w4.heap.size, 4, none⟩ = some (.slice r4 kl r5)) := HQ.out w7.drew HB7.out.drew
  have hs3 : s.size ≤ 1000000 := by have := HZ.out; omega
  have hEq := eqTwo D Z
  obtain ⟨TX, hTX⟩ : ∃ TX, tx s = TX := ⟨_, rfl⟩
  have HT1 := fun W => htext_any s W
  have HT2 := fun W => rtext_any s W hs3
  rw [hTX] at HT1 HT2
  have HT1 := Fact.mk HT1
  have HT2 := Fact.mk HT2
  clear c0 c1 c2 c3 c4 x0 x1 x2 x3 x4 hb7 hr6 hr7 hTX
  go_region_held3 (fun w' => Below W5.heap.size W5 w' ∧ (w'.cell? ⟨w.heap.size, 0, none⟩ = some (.int .i64 K) ∧ w'.cell? ⟨w.heap.size, 1, none⟩ = some (.string N) ∧ w'.cell? ⟨w.heap.size, 2, none⟩ = some (.string X) ∧ w'.cell? ⟨w.heap.size, 3, none⟩ = some (.slice p1 p2 p3) ∧ w'.cell? ⟨w.heap.size, 4, none⟩ = some (.slice q1 kl q2) ∧ w'.cell? ⟨w4.heap.size, 0, none⟩ = some (.int .i64 K) ∧ w'.cell? ⟨w4.heap.size, 1, none⟩ = some (.string N) ∧ w'.cell? ⟨w4.heap.size, 2, none⟩ = some (.string X) ∧ w'.cell? ⟨w4.heap.size, 3, none⟩ = some (.slice r1 r2 r3) ∧ w'.cell? ⟨w4.heap.size, 4, none⟩ = some (.slice r4 kl r5)))
    (first | with_reducible exact hS0 | with_reducible assumption)
    (first
      | (go_at_call 14; refine (HT1.out _).mono ?_; rintro e wA ⟨rfl, hbA⟩; have hSA := HQ.out wA (hS0.1.trans (hbA.mono hS0.1.size)))
      | (go_at_call 15; refine (HT2.out _).mono ?_; rintro e wB ⟨rfl, hbB⟩; have hSB := HQ.out wB (hSA.1.trans (hbB.mono hSA.1.size)))
      | (go_at_call 16; refine (HOFX.out _ hSB.1).mono ?_; rintro e wC ⟨rfl, hbC⟩; have hSC := HQ.out wC (hSB.1.trans (hbC.mono hSB.1.size)))
      | (go_at_call 17; refine (HOFT.out _ hSC.1).mono ?_; rintro e wD ⟨rfl, hbD⟩; have hSD := HQ.out wD (hSC.1.trans (hbD.mono hSC.1.size)))
      | (go_at_call 18; refine (HKEYX.out _ hSD.1).mono ?_; rintro e wE ⟨rfl, hbE⟩; have hSE := HQ.out wE (hSD.1.trans (hbE.mono hSD.1.size)))
      | (go_at_call 19; refine (HKEYT.out _ hSE.1).mono ?_; rintro e wF ⟨rfl, hbF⟩; have hSF := HQ.out wF (hSE.1.trans (hbF.mono hSE.1.size))))
  have HBF : Fact (Below w7.heap.size w7 wF) := ⟨by
    have h0 : Below w7.heap.size w7 w7.drew := (Below.refl _ w7).drew
    have hzd : w7.drew.heap.size = w7.heap.size := rfl
    rw [hzd] at hbA
    have s1 := hbA.size
    have s2 := hbB.size
    have s3 := hbC.size
    have s4 := hbD.size
    have s5 := hbE.size
    rw [hzd] at s1
    exact h0.trans (hbA.trans ((hbB.mono (by omega)).trans ((hbC.mono (by omega)).trans ((hbD.mono (by omega)).trans ((hbE.mono (by omega)).trans (hbF.mono (by omega)))))))⟩
  have HSF := Fact.mk hSF.1
  clear hS0 hSA hSB hSC hSD hSE hSF hbA hbB hbC hbD hbE hbF hEq
  go_wp2_with fail
  go_loopg [8] n (fun gf iv wr => ∃ i : Nat, iv = .int .i64 i ∧ i ≤ n ∧ n - i ≤ gf ∧ Fact (Below w7.heap.size w7 wr))
  case atStart => exact ⟨0, rfl, Nat.zero_le _, Nat.le_refl _, HBF⟩
  case round =>
    obtain ⟨i, rfl, hi, hfu, hBr⟩ := hrel
    have hBr5 : Below W5.heap.size W5 wr := HB7.out.trans (hBr.out.mono HB7.out.size)
    by_cases hlt : i < n
    · have hdec : decide ((i : Int) < (n : Int)) = true := decide_eq_true (by omega)
      obtain ⟨g', rfl⟩ : ∃ g', gk = g' + 1 := ⟨gk - 1, by omega⟩
      obtain ⟨F, hF⟩ : ∃ F, (finT ⟨K, N, X, A⟩ k)[i]? = some F := ⟨(finT ⟨K, N, X, A⟩ k)[i]'(by rw [finT_len, hn.out]; exact hlt), by simp⟩
      obtain ⟨u0, _, _, _, _, _, _⟩ := rowV_at (own_upH HR6.out hBr.out) (cU_get hF)
      obtain ⟨u1, _, _, _, hc7, _, _⟩ := rowV_at (own_upH HR7.out hBr.out) (cU_get hF)
      have i0_ : (0 : Int) ≤ i := by omega
      have i1_ : (i : Int) < n := by omega
      clear hF hBr5
      go_wp2_with fail
      go_quiet (fail)
      go_wp2_with fail
      go_roundg g'
      case measure => omega
      case rel => exact ⟨i + 1, by go_num, by omega, by omega, ⟨below_drewN hBr.out _⟩⟩
    · obtain rfl : i = n := by omega
      have hdec : decide ((i : Int) < (i : Int)) = false := decide_eq_false (by omega)
      obtain ⟨_, c0, c1, c2, c3, c4, x0, x1, x2, x3, x4⟩ := HQ.out wr hBr5
      have HR5 := Fact.mk hBr5
      clear hBr5
      go_wp2_with (first
        | (go_at_call 20; refine (HSAME.out _ HR5.out).mono ?_; rintro e w8 ⟨rfl, hb8⟩)
        | (go_at_call 10; refine (awake18_true _).mono ?_; rintro e w9 ⟨rfl, hb9⟩))
      go_ret
      have h8 := HR5.out.trans (hb8.mono HR5.out.size)
      exact ⟨rfl, HB5.out.trans ((h8.trans (hb9.mono h8.size)).mono HB5.out.size)⟩
end Go.Proofs.Ytfcmgkakmaclcaa
