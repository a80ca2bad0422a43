/- WalkAll, walked. -/
import Derived.Test.YtjjkidenlgghkaaWL
set_option linter.unusedVariables false
set_option linter.unusedSimpArgs false
namespace Go.Proofs.Ytjjkidenlgghkaa
open Go.Deep (BT)
open Go.RowKit Go.Shelf M

set_option maxRecDepth 100000 in
set_option maxHeartbeats 16000000 in
theorem walkAll_walk (d : Nd) (k : M.F) (va ka : Value) (id of : Int) (w : World) (h : Lies w.heap.size w d k va ka) :
    Calls Try.prog 3 #[nodeV d va ka, .int .i64 id, .int .i64 of] w fun e w' => e = .returned (.bool true) ∧ Below w.heap.size w w' := by
  obtain ⟨p1, p2, p3, e1⟩ := h.a.val
  obtain ⟨q1, q2, e2⟩ := h.f.val
  subst e1 e2
  obtain ⟨kl, hkl⟩ : ∃ kl, k.len = kl := ⟨_, rfl⟩
  rw [hkl] at h ⊢
  obtain ⟨K, N, X, A⟩ := d
  have HL := Fact.mk h
  have HKL := Fact.mk hkl
  obtain ⟨n, hn⟩ : ∃ n, Fact (k.size + 1 = n) := ⟨_, ⟨rfl⟩⟩
  obtain ⟨W1, hW1⟩ : ∃ W1, w.alloc (.cells #[.int .i64 K, .string N, .string X, .slice p1 p2 p3, .slice q1 kl q2] 25) = W1 := ⟨_, rfl⟩
  have hB1 : Below w.heap.size w W1 := by rw [← hW1]; exact (Below.refl _ w).alloc (Nat.le_refl _) _
  have hbx : Box5 w.heap.size K N X (.slice p1 p2 p3) (.slice q1 kl q2) W1 := by rw [← hW1]; exact Box5.new _ _ _ _ _ _ _
  have HB1 := Fact.mk hB1
  have HW1 := Fact.mk hW1
  have HBX := Fact.mk hbx
  have b0 := hbx.c0
  have b1 := hbx.c1
  have b2 := hbx.c2
  have b3 := hbx.c3
  have b4 := hbx.c4
  clear hB1 hW1 hbx h hkl
  go_enter Try.func3, Try.ntmps3
  go_upto_region 1 with fail
  rw [HW1.out]
  go_wp2_with fail
  refine (SmallT_any ⟨K, N, X, A⟩ k _ _ w.heap.size W1 (HL.out.below HB1.out) HB1.out.size).mono ?_
  rintro e w1 (⟨rfl, hb1⟩ | ⟨rfl, hb1, f1⟩)
  · go_wp2_with (go_at_call 10; refine (awake7_true _).mono ?_; rintro e w9 ⟨rfl, hb9⟩)
    go_ret
    exact ⟨rfl, HB1.out.trans ((hb1.mono HB1.out.size).trans (hb9.mono (Nat.le_trans HB1.out.size hb1.size)))⟩
  have hn400 : n ≤ 400 := by have := f1.out.size; have := hn.out; omega
  have HLIM : Fact (Lim ⟨K, N, X, A⟩ k) := ⟨(Fits.mk f1.out.size f1.out.depth f1.out.slots).lim⟩
  have HTL : Fact ((ownTx ⟨K, N, X, A⟩ ++ textF k).length ≤ 100000000) := ⟨by
    have g1 := f1.out.size
    have g2 := f1.out.texts
    have g3 := ownTx_len ⟨K, N, X, A⟩
    have g4 := textF_len k
    rw [List.length_append]
    omega⟩
  have HBa : Fact (Below w.heap.size w w1) := ⟨HB1.out.trans (hb1.mono HB1.out.size)⟩
  have HBX1 := Fact.mk (HBX.out.keep hb1)
  have y0 := HBX1.out.c0
  have y1 := HBX1.out.c1
  have y2 := HBX1.out.c2
  have y3 := HBX1.out.c3
  have y4 := HBX1.out.c4
  clear b0 b1 b2 b3 b4 hb1
  have HCOPY := Fact.mk (copy7 HKL.out (HL.out.inBox HBa.out) HLIM.out)
  go_upto_region 4 with (go_at_call 11; refine HCOPY.out.mono ?_; rintro e w4 ⟨r1, r2, r3, r4, r5, rfl, hb4, hl4⟩)
  obtain ⟨W5, hW5⟩ : ∃ W5, w4.alloc (.cells #[.int .i64 K, .string N, .string X, .slice r1 r2 r3, .slice r4 kl r5] 25) = W5 := ⟨_, rfl⟩
  have hB4 : Below w.heap.size w w4 := HBa.out.trans (hb4.mono HBa.out.size)
  have hb5 : Below w4.heap.size w4 W5 := by rw [← hW5]; exact (Below.refl _ w4).alloc (Nat.le_refl _) _
  have hB5 : Below w.heap.size w W5 := hB4.trans (hb5.mono hB4.size)
  have hbt := (HBX1.out.keep hb4).keep hb5
  have hbx : Box5 w4.heap.size K N X (.slice r1 r2 r3) (.slice r4 kl r5) W5 := by rw [← hW5]; exact Box5.new _ _ _ _ _ _ _
  have HQ : Fact (∀ W, Below W5.heap.size W5 W → (Below W5.heap.size W5 W ∧ (W.cell? ⟨w.heap.size, 0, none⟩ = some (.int .i64 K) ∧ W.cell? ⟨w.heap.size, 1, none⟩ = some (.string N) ∧ W.cell? ⟨w.heap.size, 2, none⟩ = some (.string X) ∧ W.cell? ⟨w.heap.size, 3, none⟩ = some (.slice p1 p2 p3) ∧ W.cell? ⟨w.heap.size, 4, none⟩ = some (.slice q1 kl q2) ∧ W.cell? ⟨w4.heap.size, 0, none⟩ = some (.int .i64 K) ∧ W.cell? ⟨w4.heap.size, 1, none⟩ = some (.string N) ∧ W.cell? ⟨w4.heap.size, 2, none⟩ = some (.string X) ∧ W.cell? ⟨w4.heap.size, 3, none⟩ = some (.slice r1 r2 r3) ∧ W.cell? ⟨w4.heap.size, 4, none⟩ = some (.slice r4 kl r5)))) := ⟨fun W hb => by
    have h1 := hbt.keep hb
    have h2 := hbx.keep hb
    exact ⟨hb, h1.c0, h1.c1, h1.c2, h1.c3, h1.c4, h2.c0, h2.c1, h2.c2, h2.c3, h2.c4⟩⟩
  have HLX : Fact (∀ W, Below W5.heap.size W5 W → Lies W.heap.size W ⟨K, N, X, A⟩ k (.slice r1 r2 r3) (.slice r4 kl r5)) := ⟨fun W hb => by
    have h1 := hb5.trans (hb.mono hb5.size)
    exact (hl4.out.below h1).here h1.size⟩
  have HLT : Fact (∀ W, Below W5.heap.size W5 W → Lies W.heap.size W ⟨K, N, X, A⟩ k (.slice p1 p2 p3) (.slice q1 kl q2)) := ⟨fun W hb => by
    have h1 := hB5.trans (hb.mono hB5.size)
    exact (HL.out.below h1).here h1.size⟩
  have HB5 := Fact.mk hB5
  have HW5 := Fact.mk hW5
  obtain ⟨fl, hfl⟩ : ∃ fl, Fact (flatT ⟨K, N, X, A⟩ k = fl) := ⟨_, ⟨rfl⟩⟩
  obtain ⟨pl, hpl⟩ : ∃ pl, Fact (postF k 1 ++ [0] = pl) := ⟨_, ⟨rfl⟩⟩
  have hpn : Fact (pl.length = n) := ⟨by rw [← hpl.out, List.length_append, postF_len]; exact hn.out⟩
  have HFLAT : Fact (∀ W, Below W5.heap.size W5 W → Calls Try.prog 12 #[.agg #[.int .i64 K, .string N, .string X, .slice r1 r2 r3, .slice r4 kl r5]] W fun e w' => ∃ g c its, e = .returned (.slice (some ⟨g, 0, none⟩) n c) ∧ Below W.heap.size W w' ∧ Fact (its.map (·.1) = fl ∧ w'.ownsRow W.heap.size 39 10 (.slice (some ⟨g, 0, none⟩) n c) n (cellsIt its) ∧ (∀ y ∈ its, AS (Old w'.heap.size) w' y.2 y.1.d.ats))) := ⟨fun W hb => by
    have hl := HLX.out W hb
    refine (flat_any ⟨K, N, X, A⟩ k _ _ W hl.a hl.f HLIM.out.dp (by have := HLIM.out.sz; omega) HLIM.out.sl).mono ?_
    rintro e w' ⟨v, its, rfl, hb', hm, hr, ha⟩
    rw [hn.out] at hr
    obtain ⟨g, c, rfl⟩ := own_pos (by have := hn.out; omega) hr
    exact ⟨g, c, its, rfl, hb', ⟨hm.trans hfl.out, hr, fun y hy => (ha y hy).inn.mono (fun b hb => hb.2)⟩⟩⟩
  have HRFLAT : Fact (∀ W, Below W5.heap.size W5 W → Calls Try.prog 13 #[.agg #[.int .i64 K, .string N, .string X, .slice p1 p2 p3, .slice q1 kl q2]] W fun e w' => ∃ g c news, e = .returned (.slice (some ⟨g, 0, none⟩) n c) ∧ Below W.heap.size W w' ∧ Fact (news.map (·.im) = fl ∧ w'.ownsRow W.heap.size 41 15 (.slice (some ⟨g, 0, none⟩) n c) n (c15L news) ∧ news.map (fun r => (r.im.d, r.k)) = subsT ⟨K, N, X, A⟩ k ∧ (∀ r ∈ news, AS (Old w'.heap.size) w' r.oa r.im.d.ats ∧ AS (Old w'.heap.size) w' r.av r.im.d.ats ∧ FL (Old w'.heap.size) w' r.kv r.k))) := ⟨fun W hb => by
    refine (rFlat_any ⟨K, N, X, A⟩ k _ _ n W hn.out HLIM.out (HLT.out W hb)).mono ?_
    rintro e w' ⟨g, c, news, rfl, hb', hr, hf⟩
    exact ⟨g, c, news, rfl, hb', ⟨hf.out.1.trans hfl.out, own_lessP hr.out (by omega), hf.out.2.1, fun r hr => ⟨(hf.out.2.2.2 r hr).mono (fun b hb => hb.1), (hf.out.2.2.1 r hr).1.mono (fun b hb => Nat.lt_of_lt_of_le hb hb'.size), (hf.out.2.2.1 r hr).2.mono (fun b hb => Nat.lt_of_lt_of_le hb hb'.size)⟩⟩⟩⟩
  clear hl4 hbt hbx hb5 hb4 hB4 hB5 hW5 y0 y1 y2 y3 y4 HCOPY
  rw [HW5.out]
  obtain ⟨c0, c1, c2, c3, c4, x0, x1, x2, x3, x4⟩ := (HQ.out W5 (Below.refl _ _)).2
  go_upto_region 5 with (go_at_call 12; refine (HFLAT.out W5 (Below.refl _ _)).mono ?_; rintro e w6 ⟨g6, l6, its, rfl, hb6, hr6⟩)
  have HB6 := Fact.mk hb6
  clear c0 c1 c2 c3 c4 x0 x1 x2 x3 x4
  obtain ⟨_, c0, c1, c2, c3, c4, x0, x1, x2, x3, x4⟩ := HQ.out w6 HB6.out
  go_upto_region 6 with (go_at_call 13; refine (HRFLAT.out w6 HB6.out).mono ?_; rintro e w7 ⟨g7, l7, news, rfl, hb7, hr7⟩)
  have HB7 : Fact (Below W5.heap.size W5 w7) := ⟨HB6.out.trans (hb7.mono HB6.out.size)⟩
  have HR6 : Fact (its.map (·.1) = fl ∧ w7.ownsRow W5.heap.size 39 10 (.slice (some ⟨g6, 0, none⟩) n l6) n (cellsIt its) ∧ (∀ y ∈ its, AS (Old w7.heap.size) w7 y.2 y.1.d.ats)) := ⟨hr6.out.1, own_upH hr6.out.2.1 hb7, fun y hy => (hr6.out.2.2 y hy).old hb7 hb7.size⟩
  have HR7 := hr7
  have HQ7 : Fact (∀ W, Below w7.heap.size w7 W → (Below w7.heap.size w7 W ∧ (W.cell? ⟨w.heap.size, 0, none⟩ = some (.int .i64 K) ∧ W.cell? ⟨w.heap.size, 1, none⟩ = some (.string N) ∧ W.cell? ⟨w.heap.size, 2, none⟩ = some (.string X) ∧ W.cell? ⟨w.heap.size, 3, none⟩ = some (.slice p1 p2 p3) ∧ W.cell? ⟨w.heap.size, 4, none⟩ = some (.slice q1 kl q2) ∧ W.cell? ⟨w4.heap.size, 0, none⟩ = some (.int .i64 K) ∧ W.cell? ⟨w4.heap.size, 1, none⟩ = some (.string N) ∧ W.cell? ⟨w4.heap.size, 2, none⟩ = some (.string X) ∧ W.cell? ⟨w4.heap.size, 3, none⟩ = some (.slice r1 r2 r3) ∧ W.cell? ⟨w4.heap.size, 4, none⟩ = some (.slice r4 kl r5)))) := ⟨fun W hb => ⟨hb, (HQ.out W (HB7.out.trans (hb.mono HB7.out.size))).2⟩⟩
  obtain ⟨TX, hTX⟩ : ∃ TX : ByteArray, Fact (TX.data.toList = ownTx ⟨K, N, X, A⟩ ++ textF k) := ⟨⟨(ownTx ⟨K, N, X, A⟩ ++ textF k).toArray⟩, ⟨rfl⟩⟩
  have HLX7 : Fact (∀ W, Below w7.heap.size w7 W → Lies W.heap.size W ⟨K, N, X, A⟩ k (.slice r1 r2 r3) (.slice r4 kl r5)) := ⟨fun W hb => HLX.out W (HB7.out.trans (hb.mono HB7.out.size))⟩
  have HLT7 : Fact (∀ W, Below w7.heap.size w7 W → Lies W.heap.size W ⟨K, N, X, A⟩ k (.slice p1 p2 p3) (.slice q1 kl q2)) := ⟨fun W hb => HLT.out W (HB7.out.trans (hb.mono HB7.out.size))⟩
  have HPOST : Fact (∀ W, Below w7.heap.size w7 W → Calls Try.prog 15 #[.agg #[.int .i64 K, .string N, .string X, .slice r1 r2 r3, .slice r4 kl r5]] W fun e w' => ∃ v, e = .returned v ∧ Below W.heap.size W w' ∧ Fact (IsI w' v pl)) := ⟨fun W hb => by
    have hl := HLX7.out W hb
    refine (post_any ⟨K, N, X, A⟩ k _ _ W hl.a hl.f HLIM.out.dp (by have := HLIM.out.sz; omega)).mono ?_
    rintro e w' ⟨v, rfl, hb', hr⟩
    rw [hpl.out, hn.out] at hr
    exact ⟨v, rfl, hb', ⟨own_I hpn.out hr⟩⟩⟩
  have HRPOST : Fact (∀ W, Below w7.heap.size w7 W → Calls Try.prog 16 #[.agg #[.int .i64 K, .string N, .string X, .slice p1 p2 p3, .slice q1 kl q2]] W fun e w' => ∃ v, e = .returned v ∧ Below W.heap.size W w' ∧ Fact (IsI w' v pl)) := ⟨fun W hb => by
    refine (rPost_any ⟨K, N, X, A⟩ k _ _ n W hn.out HLIM.out (HLT7.out W hb)).mono ?_
    rintro e w' ⟨v, rfl, hb', hr⟩
    have hr := hr.out
    rw [hpl.out] at hr
    exact ⟨v, rfl, hb', ⟨own_I hpn.out hr⟩⟩⟩
  have HPATH : Fact (∀ W, Below w7.heap.size w7 W → Calls Try.prog 17 #[.agg #[.int .i64 K, .string N, .string X, .slice r1 r2 r3, .slice r4 kl r5], .int .i64 id] W fun e w' => ∃ v ps, e = .returned v ∧ Below W.heap.size W w' ∧ Fact (IsI w' v ps) ∧ Fact (PS ⟨K, N, X, A⟩ k n id ps)) := ⟨fun W hb => path7 ⟨K, N, X, A⟩ k _ _ n W id hn.out HLIM.out (HLX7.out W hb)⟩
  have HRPATH : Fact (∀ W ps, Below w7.heap.size w7 W → PS ⟨K, N, X, A⟩ k n id ps → Calls Try.prog 18 #[.agg #[.int .i64 K, .string N, .string X, .slice p1 p2 p3, .slice q1 kl q2], .int .i64 id] W fun e w' => ∃ v, e = .returned v ∧ Below W.heap.size W w' ∧ Fact (IsI w' v ps)) := ⟨fun W ps hb hp => rpath7 ⟨K, N, X, A⟩ k _ _ n W id ps hn.out HLIM.out (HLT7.out W hb) hp⟩
  have HTEXT : Fact (∀ W, Below w7.heap.size w7 W → Calls Try.prog 19 #[.agg #[.int .i64 K, .string N, .string X, .slice r1 r2 r3, .slice r4 kl r5]] W fun e w' => e = .returned (.string TX) ∧ Below W.heap.size W w') := ⟨fun W hb => text7 ⟨K, N, X, A⟩ k _ _ TX W hTX.out HTL.out HLIM.out (HLX7.out W hb)⟩
  have HRTEXT : Fact (∀ W, Below w7.heap.size w7 W → Calls Try.prog 20 #[.agg #[.int .i64 K, .string N, .string X, .slice p1 p2 p3, .slice q1 kl q2]] W fun e w' => e = .returned (.string TX) ∧ Below W.heap.size W w') := ⟨fun W hb => rtext7 ⟨K, N, X, A⟩ k _ _ TX W hTX.out HTL.out HLIM.out (HLT7.out W hb)⟩
  have HSAME : Fact (∀ W, Below w7.heap.size w7 W → Calls Try.prog 21 #[.agg #[.int .i64 K, .string N, .string X, .slice r1 r2 r3, .slice r4 kl r5], .agg #[.int .i64 K, .string N, .string X, .slice p1 p2 p3, .slice q1 kl q2]] W fun e w' => e = .returned (.bool true) ∧ Below W.heap.size W w') := ⟨fun W hb => same7 (d := ⟨K, N, X, A⟩) (HLX7.out W hb) (HLT7.out W hb)⟩
  have hS0 : Below w7.heap.size w7 w7.drew ∧ (w7.drew.cell? ⟨w.heap.size, 0, none⟩ = some (.int .i64 K) ∧ w7.drew.cell? ⟨w.heap.size, 1, none⟩ = some (.string N) ∧ w7.drew.cell? ⟨w.heap.size, 2, none⟩ = some (.string X) ∧ w7.drew.cell? ⟨w.heap.size, 3, none⟩ = some (.slice p1 p2 p3) ∧ w7.drew.cell? ⟨w.heap.size, 4, none⟩ = some (.slice q1 kl q2) ∧ w7.drew.cell? ⟨w4.heap.size, 0, none⟩ = some (.int .i64 K) ∧ w7.drew.cell? ⟨w4.heap.size, 1, none⟩ = some (.string N) ∧ w7.drew.cell? ⟨w4.heap.size, 2, none⟩ = some (.string X) ∧ w7.drew.cell? ⟨w4.heap.size, 3, none⟩ = some (.slice r1 r2 r3) ∧ w7.drew.cell? ⟨w4.heap.size, 4, none⟩ = some (.slice r4 kl r5)) := HQ7.out w7.drew (Below.refl _ w7).drew
  have HPL : Fact (pl.length ≤ 1000000) := ⟨by rw [hpn.out]; omega⟩
  have tok1 : True := trivial
  clear c0 c1 c2 c3 c4 x0 x1 x2 x3 x4 hb7 hb6 hr6 hr7
  go_region_held3 (fun w' => Below w7.heap.size w7 w' ∧ (w'.cell? ⟨w.heap.size, 0, none⟩ = some (.int .i64 K) ∧ w'.cell? ⟨w.heap.size, 1, none⟩ = some (.string N) ∧ w'.cell? ⟨w.heap.size, 2, none⟩ = some (.string X) ∧ w'.cell? ⟨w.heap.size, 3, none⟩ = some (.slice p1 p2 p3) ∧ w'.cell? ⟨w.heap.size, 4, none⟩ = some (.slice q1 kl q2) ∧ w'.cell? ⟨w4.heap.size, 0, none⟩ = some (.int .i64 K) ∧ w'.cell? ⟨w4.heap.size, 1, none⟩ = some (.string N) ∧ w'.cell? ⟨w4.heap.size, 2, none⟩ = some (.string X) ∧ w'.cell? ⟨w4.heap.size, 3, none⟩ = some (.slice r1 r2 r3) ∧ w'.cell? ⟨w4.heap.size, 4, none⟩ = some (.slice r4 kl r5)))
    (first | with_reducible exact hS0 | with_reducible assumption)
    (first
      | (go_at_call 15; refine (HPOST.out _ hS0.1).mono ?_; rintro e wA ⟨vA, rfl, hbA, hIA⟩; have hSA := HQ7.out wA (hS0.1.trans (hbA.mono hS0.1.size)))
      | (go_at_call 16; refine (HRPOST.out _ hSA.1).mono ?_; rintro e wB ⟨vB, rfl, hbB, hIB⟩; have hSB := HQ7.out wB (hSA.1.trans (hbB.mono hSA.1.size)))
      | (go_at_call 14; have _t := tok1; refine (sameInts_any pl vA vB _ (hIA.out.below hbB) hIB.out HPL.out).mono ?_; rintro e wC ⟨rfl, hbC⟩; have hSC := HQ7.out wC (hSB.1.trans (hbC.mono hSB.1.size)); clear tok1 _t)
      | (go_at_call 17; refine (HPATH.out _ hSC.1).mono ?_; rintro e wD ⟨vD, ps, rfl, hbD, hID, hPS⟩; have hSD := HQ7.out wD (hSC.1.trans (hbD.mono hSC.1.size)))
      | (go_at_call 18; refine (HRPATH.out _ ps hSD.1 hPS.out).mono ?_; rintro e wE ⟨vE, rfl, hbE, hIE⟩; have hSE := HQ7.out wE (hSD.1.trans (hbE.mono hSD.1.size)))
      | (go_at_call 14; refine (sameInts_any ps vD vE _ (hID.out.below hbE) hIE.out (hPS.out.len HLIM.out)).mono ?_; rintro e wF ⟨rfl, hbF⟩; have hSF := HQ7.out wF (hSE.1.trans (hbF.mono hSE.1.size)))
      | (go_at_call 19; refine (HTEXT.out _ hSF.1).mono ?_; rintro e wG ⟨rfl, hbG⟩; have hSG := HQ7.out wG (hSF.1.trans (hbG.mono hSF.1.size)))
      | (go_at_call 20; refine (HRTEXT.out _ hSG.1).mono ?_; rintro e wH ⟨rfl, hbH⟩; have hSH := HQ7.out wH (hSG.1.trans (hbH.mono hSG.1.size))))
  have HBH := Fact.mk hSH.1
  clear hS0 hSA hSB hSC hSD hSE hSF hSG hSH hbA hbB hbC hbD hbE hbF hbG hbH hIA hIB hID hIE hPS HPOST HRPOST HPATH HRPATH HTEXT HRTEXT HFLAT HRFLAT
  go_wp2_with fail
  go_loopg [10] n (fun gf iv wr => ∃ i : Nat, iv = .int .i64 i ∧ i ≤ n ∧ n - i ≤ gf ∧ Fact (Below w7.heap.size w7 wr))
  case atStart => exact ⟨0, rfl, Nat.zero_le _, Nat.le_refl _, HBH⟩
  case round =>
    obtain ⟨i, rfl, hi, hfu, hBr⟩ := hrel
    by_cases hlt : i < n
    · have hdec : decide ((i : Int) < (n : Int)) = true := decide_eq_true (by omega)
      obtain ⟨g', rfl⟩ : ∃ g', gk = g' + 1 := ⟨gk - 1, by omega⟩
      obtain ⟨Y, hY⟩ : ∃ Y, fl[i]? = some Y := ⟨fl[i]'(by rw [← hfl.out, flatT_len, hn.out]; exact hlt), by simp⟩
      obtain ⟨⟨Y1, ya⟩, hy, hy2⟩ : ∃ y, its[i]? = some y ∧ y.1 = Y := by
        rw [← HR6.out.1, List.getElem?_map] at hY
        cases h : its[i]? with
        | none => rw [h] at hY; cases hY
        | some y => rw [h] at hY; exact ⟨y, rfl, by simpa using hY⟩
      obtain ⟨⟨R1, rk, oa, rav, rkv⟩, hr, hr2⟩ : ∃ r, news[i]? = some r ∧ r.im = Y := by
        rw [← HR7.out.1, List.getElem?_map] at hY
        cases h : news[i]? with
        | none => rw [h] at hY; cases hY
        | some y => rw [h] at hY; exact ⟨y, rfl, by simpa using hY⟩
      dsimp only at hy2 hr2
      subst hy2 hr2
      obtain ⟨Yp, Yz, Yd, Yh, Yl, ⟨YK, YN, YX, YA⟩⟩ := R1
      have ha1 := (HR6.out.2.2 _ (List.mem_of_getElem? hy)).old hBr.out hBr.out.size
      have ha2 := (HR7.out.2.2.2 _ (List.mem_of_getElem? hr)).1.old hBr.out hBr.out.size
      dsimp only at ha1 ha2
      obtain ⟨a1, a2, a3, ea⟩ := ha1.val
      obtain ⟨o1, o2, o3, eo⟩ := ha2.val
      subst ea eo
      have HSN := Fact.mk (fun W (hb : Below wr.heap.size wr W) => same7_nil (K := YK) (N := YN) (X := YX) (w := W) (ha1.old hb hb.size) (ha2.old hb hb.size))
      obtain ⟨u, _, _, _, hc6, _, _⟩ := row10_at (own_upH HR6.out.2.1 hBr.out) hy
      obtain ⟨v, _, _, _, hc7, _, _⟩ := row15_at (own_upH HR7.out.2.1 hBr.out) hr
      have u0 : wr.cell? ⟨g6, i * 10, none⟩ = some (.int .i64 Yp) := u 0 _ rfl
      have u1 : wr.cell? ⟨g6, i * 10 + 1, none⟩ = some (.int .i64 Yz) := u 1 _ rfl
      have u2 : wr.cell? ⟨g6, i * 10 + 2, none⟩ = some (.int .i64 Yd) := u 2 _ rfl
      have u3 : wr.cell? ⟨g6, i * 10 + 3, none⟩ = some (.int .i64 Yh) := u 3 _ rfl
      have u4 : wr.cell? ⟨g6, i * 10 + 4, none⟩ = some (.int .i64 Yl) := u 4 _ rfl
      have u5 : wr.cell? ⟨g6, i * 10 + 5, none⟩ = some (.int .i64 YK) := u 5 _ rfl
      have u6 : wr.cell? ⟨g6, i * 10 + 6, none⟩ = some (.string YN) := u 6 _ rfl
      have u7 : wr.cell? ⟨g6, i * 10 + 7, none⟩ = some (.string YX) := u 7 _ rfl
      have u8 : wr.cell? ⟨g6, i * 10 + 8, none⟩ = some (.slice a1 a2 a3) := u 8 _ rfl
      have u9 : wr.cell? ⟨g6, i * 10 + 9, none⟩ = some (.slice none 0 0) := u 9 _ rfl
      have v0 : wr.cell? ⟨g7, i * 15, none⟩ = some (.int .i64 Yp) := v 0 _ rfl
      have v1 : wr.cell? ⟨g7, i * 15 + 1, none⟩ = some (.int .i64 Yz) := v 1 _ rfl
      have v2 : wr.cell? ⟨g7, i * 15 + 2, none⟩ = some (.int .i64 Yd) := v 2 _ rfl
      have v3 : wr.cell? ⟨g7, i * 15 + 3, none⟩ = some (.int .i64 Yh) := v 3 _ rfl
      have v4 : wr.cell? ⟨g7, i * 15 + 4, none⟩ = some (.int .i64 Yl) := v 4 _ rfl
      have v5 : wr.cell? ⟨g7, i * 15 + 5, none⟩ = some (.int .i64 YK) := v 5 _ rfl
      have v6 : wr.cell? ⟨g7, i * 15 + 6, none⟩ = some (.string YN) := v 6 _ rfl
      have v7 : wr.cell? ⟨g7, i * 15 + 7, none⟩ = some (.string YX) := v 7 _ rfl
      have v8 : wr.cell? ⟨g7, i * 15 + 8, none⟩ = some (.slice o1 o2 o3) := v 8 _ rfl
      have v9 : wr.cell? ⟨g7, i * 15 + 9, none⟩ = some (.slice none 0 0) := v 9 _ rfl
      have i0_ : (0 : Int) ≤ i := by omega
      have i1_ : (i : Int) < n := by omega
      clear hY hy hr ha1 ha2 u v
      have HQL : Fact (∀ W, Below wr.heap.size wr W → (Below wr.heap.size wr W ∧ (W.cell? ⟨g6, i * 10, none⟩ = some (.int .i64 Yp) ∧ W.cell? ⟨g6, i * 10 + 1, none⟩ = some (.int .i64 Yz) ∧ W.cell? ⟨g6, i * 10 + 2, none⟩ = some (.int .i64 Yd) ∧ W.cell? ⟨g6, i * 10 + 3, none⟩ = some (.int .i64 Yh) ∧ W.cell? ⟨g6, i * 10 + 4, none⟩ = some (.int .i64 Yl) ∧ W.cell? ⟨g6, i * 10 + 5, none⟩ = some (.int .i64 YK) ∧ W.cell? ⟨g6, i * 10 + 6, none⟩ = some (.string YN) ∧ W.cell? ⟨g6, i * 10 + 7, none⟩ = some (.string YX) ∧ W.cell? ⟨g6, i * 10 + 8, none⟩ = some (.slice a1 a2 a3) ∧ W.cell? ⟨g6, i * 10 + 9, none⟩ = some (.slice none 0 0) ∧ W.cell? ⟨g7, i * 15, none⟩ = some (.int .i64 Yp) ∧ W.cell? ⟨g7, i * 15 + 1, none⟩ = some (.int .i64 Yz) ∧ W.cell? ⟨g7, i * 15 + 2, none⟩ = some (.int .i64 Yd) ∧ W.cell? ⟨g7, i * 15 + 3, none⟩ = some (.int .i64 Yh) ∧ W.cell? ⟨g7, i * 15 + 4, none⟩ = some (.int .i64 Yl) ∧ W.cell? ⟨g7, i * 15 + 5, none⟩ = some (.int .i64 YK) ∧ W.cell? ⟨g7, i * 15 + 6, none⟩ = some (.string YN) ∧ W.cell? ⟨g7, i * 15 + 7, none⟩ = some (.string YX) ∧ W.cell? ⟨g7, i * 15 + 8, none⟩ = some (.slice o1 o2 o3) ∧ W.cell? ⟨g7, i * 15 + 9, none⟩ = some (.slice none 0 0)))) := ⟨fun W hb => ⟨hb, (hb.cell (p := ⟨g6, i * 10, none⟩) (World.block_lt_of_cell? wr _ u0)).trans u0, (hb.cell (p := ⟨g6, i * 10 + 1, none⟩) (World.block_lt_of_cell? wr _ u1)).trans u1, (hb.cell (p := ⟨g6, i * 10 + 2, none⟩) (World.block_lt_of_cell? wr _ u2)).trans u2, (hb.cell (p := ⟨g6, i * 10 + 3, none⟩) (World.block_lt_of_cell? wr _ u3)).trans u3, (hb.cell (p := ⟨g6, i * 10 + 4, none⟩) (World.block_lt_of_cell? wr _ u4)).trans u4, (hb.cell (p := ⟨g6, i * 10 + 5, none⟩) (World.block_lt_of_cell? wr _ u5)).trans u5, (hb.cell (p := ⟨g6, i * 10 + 6, none⟩) (World.block_lt_of_cell? wr _ u6)).trans u6, (hb.cell (p := ⟨g6, i * 10 + 7, none⟩) (World.block_lt_of_cell? wr _ u7)).trans u7, (hb.cell (p := ⟨g6, i * 10 + 8, none⟩) (World.block_lt_of_cell? wr _ u8)).trans u8, (hb.cell (p := ⟨g6, i * 10 + 9, none⟩) (World.block_lt_of_cell? wr _ u9)).trans u9, (hb.cell (p := ⟨g7, i * 15, none⟩) (World.block_lt_of_cell? wr _ v0)).trans v0, (hb.cell (p := ⟨g7, i * 15 + 1, none⟩) (World.block_lt_of_cell? wr _ v1)).trans v1, (hb.cell (p := ⟨g7, i * 15 + 2, none⟩) (World.block_lt_of_cell? wr _ v2)).trans v2, (hb.cell (p := ⟨g7, i * 15 + 3, none⟩) (World.block_lt_of_cell? wr _ v3)).trans v3, (hb.cell (p := ⟨g7, i * 15 + 4, none⟩) (World.block_lt_of_cell? wr _ v4)).trans v4, (hb.cell (p := ⟨g7, i * 15 + 5, none⟩) (World.block_lt_of_cell? wr _ v5)).trans v5, (hb.cell (p := ⟨g7, i * 15 + 6, none⟩) (World.block_lt_of_cell? wr _ v6)).trans v6, (hb.cell (p := ⟨g7, i * 15 + 7, none⟩) (World.block_lt_of_cell? wr _ v7)).trans v7, (hb.cell (p := ⟨g7, i * 15 + 8, none⟩) (World.block_lt_of_cell? wr _ v8)).trans v8, (hb.cell (p := ⟨g7, i * 15 + 9, none⟩) (World.block_lt_of_cell? wr _ v9)).trans v9⟩⟩
      have hL0 : Below wr.heap.size wr wr.drew ∧ (wr.drew.cell? ⟨g6, i * 10, none⟩ = some (.int .i64 Yp) ∧ wr.drew.cell? ⟨g6, i * 10 + 1, none⟩ = some (.int .i64 Yz) ∧ wr.drew.cell? ⟨g6, i * 10 + 2, none⟩ = some (.int .i64 Yd) ∧ wr.drew.cell? ⟨g6, i * 10 + 3, none⟩ = some (.int .i64 Yh) ∧ wr.drew.cell? ⟨g6, i * 10 + 4, none⟩ = some (.int .i64 Yl) ∧ wr.drew.cell? ⟨g6, i * 10 + 5, none⟩ = some (.int .i64 YK) ∧ wr.drew.cell? ⟨g6, i * 10 + 6, none⟩ = some (.string YN) ∧ wr.drew.cell? ⟨g6, i * 10 + 7, none⟩ = some (.string YX) ∧ wr.drew.cell? ⟨g6, i * 10 + 8, none⟩ = some (.slice a1 a2 a3) ∧ wr.drew.cell? ⟨g6, i * 10 + 9, none⟩ = some (.slice none 0 0) ∧ wr.drew.cell? ⟨g7, i * 15, none⟩ = some (.int .i64 Yp) ∧ wr.drew.cell? ⟨g7, i * 15 + 1, none⟩ = some (.int .i64 Yz) ∧ wr.drew.cell? ⟨g7, i * 15 + 2, none⟩ = some (.int .i64 Yd) ∧ wr.drew.cell? ⟨g7, i * 15 + 3, none⟩ = some (.int .i64 Yh) ∧ wr.drew.cell? ⟨g7, i * 15 + 4, none⟩ = some (.int .i64 Yl) ∧ wr.drew.cell? ⟨g7, i * 15 + 5, none⟩ = some (.int .i64 YK) ∧ wr.drew.cell? ⟨g7, i * 15 + 6, none⟩ = some (.string YN) ∧ wr.drew.cell? ⟨g7, i * 15 + 7, none⟩ = some (.string YX) ∧ wr.drew.cell? ⟨g7, i * 15 + 8, none⟩ = some (.slice o1 o2 o3) ∧ wr.drew.cell? ⟨g7, i * 15 + 9, none⟩ = some (.slice none 0 0)) := HQL.out wr.drew (Below.refl _ wr).drew
      have HBR := hBr
      clear u0 u1 u2 u3 u4 u5 u6 u7 u8 u9 v0 v1 v2 v3 v4 v5 v6 v7 v8 v9
      as_aux_lemma =>
        go_wp2_with fail
        dsimp only [List.append]
        go_region_held3 (fun w' => Below wr.heap.size wr w' ∧ (w'.cell? ⟨g6, i * 10, none⟩ = some (.int .i64 Yp) ∧ w'.cell? ⟨g6, i * 10 + 1, none⟩ = some (.int .i64 Yz) ∧ w'.cell? ⟨g6, i * 10 + 2, none⟩ = some (.int .i64 Yd) ∧ w'.cell? ⟨g6, i * 10 + 3, none⟩ = some (.int .i64 Yh) ∧ w'.cell? ⟨g6, i * 10 + 4, none⟩ = some (.int .i64 Yl) ∧ w'.cell? ⟨g6, i * 10 + 5, none⟩ = some (.int .i64 YK) ∧ w'.cell? ⟨g6, i * 10 + 6, none⟩ = some (.string YN) ∧ w'.cell? ⟨g6, i * 10 + 7, none⟩ = some (.string YX) ∧ w'.cell? ⟨g6, i * 10 + 8, none⟩ = some (.slice a1 a2 a3) ∧ w'.cell? ⟨g6, i * 10 + 9, none⟩ = some (.slice none 0 0) ∧ w'.cell? ⟨g7, i * 15, none⟩ = some (.int .i64 Yp) ∧ w'.cell? ⟨g7, i * 15 + 1, none⟩ = some (.int .i64 Yz) ∧ w'.cell? ⟨g7, i * 15 + 2, none⟩ = some (.int .i64 Yd) ∧ w'.cell? ⟨g7, i * 15 + 3, none⟩ = some (.int .i64 Yh) ∧ w'.cell? ⟨g7, i * 15 + 4, none⟩ = some (.int .i64 Yl) ∧ w'.cell? ⟨g7, i * 15 + 5, none⟩ = some (.int .i64 YK) ∧ w'.cell? ⟨g7, i * 15 + 6, none⟩ = some (.string YN) ∧ w'.cell? ⟨g7, i * 15 + 7, none⟩ = some (.string YX) ∧ w'.cell? ⟨g7, i * 15 + 8, none⟩ = some (.slice o1 o2 o3) ∧ w'.cell? ⟨g7, i * 15 + 9, none⟩ = some (.slice none 0 0)))
          (first | with_reducible exact hL0 | with_reducible assumption)
          (first
            | (go_at_call 21; refine (HSN.out _ hL0.1).mono ?_; rintro e w8 ⟨rfl, hb8⟩; have hL1 := HQL.out w8 (hL0.1.trans (hb8.mono hL0.1.size))))
        have HB8 : Fact (Below w7.heap.size w7 w8) := ⟨HBR.out.trans (hL1.1.mono HBR.out.size)⟩
        clear hL0 hL1 hb8
        go_wp2_with fail
        go_roundg g'
        case measure => omega
        case rel => exact ⟨i + 1, by go_num, by omega, by omega, HB8⟩
    · have hin : n = i := by omega
      subst hin
      have hdec : decide ((n : Int) < (n : Int)) = false := decide_eq_false (by omega)
      obtain ⟨_, c0, c1, c2, c3, c4, x0, x1, x2, x3, x4⟩ := HQ7.out wr hBr.out
      have HBR := hBr
      have hnl6 : (n : Int) ≤ l6 := by
        rcases HR6.out.2.1.2 with ⟨e, _⟩ | ⟨g', cap', cur, e, hg, hh, hc1, hc2, hs, ht⟩
        · cases e
        · cases e; omega
      have hnl7 : (n : Int) ≤ l7 := by
        rcases HR7.out.2.1.2 with ⟨e, _⟩ | ⟨g', cap', cur, e, hg, hh, hc1, hc2, hs, ht⟩
        · cases e
        · cases e; omega
      have hn6 : n ≤ 1000000 := by omega
      clear hBr
      by_cases hid : 0 ≤ id ∧ id < n
      · obtain ⟨I, rfl⟩ : ∃ I : Nat, id = I := ⟨id.toNat, by omega⟩
        have hI : I < n := by omega
        obtain ⟨⟨d1, k1⟩, hs1⟩ := sub_some (.cons ⟨K, N, X, A⟩ k .nil) I (by simp only [BT.size]; have := hn.out; omega)
        obtain ⟨⟨⟨Rp, Rz, Rd, Rh, Rl, Rn⟩, rk, oa, rav, rkv⟩, hr, hr2⟩ : ∃ r, news[I]? = some r ∧ (r.im.d, r.k) = (d1, k1) := by
          have h1 := congrArg (fun l => l[I]?) HR7.out.2.2.1
          simp only [List.getElem?_map, subsT_sub, hs1] at h1
          cases h : news[I]? with
          | none => rw [h] at h1; cases h1
          | some y => rw [h] at h1; exact ⟨y, rfl, by simpa using h1⟩
        simp only [Prod.mk.injEq] at hr2
        obtain ⟨rfl, rfl⟩ := hr2
        obtain ⟨K1, N1, X1, A1⟩ := Rn
        have hra := (HR7.out.2.2.2 _ (List.mem_of_getElem? hr)).2
        dsimp only at hra
        obtain ⟨m1, m2, m3, em⟩ := hra.1.val
        obtain ⟨m4, m6, em2⟩ := hra.2.val
        subst em em2
        obtain ⟨m5, hm5⟩ : ∃ m5, rk.len = m5 := ⟨_, rfl⟩
        rw [hm5] at hra hr
        obtain ⟨v, _, _, hg7, _, _, _⟩ := row15_at HR7.out.2.1 hr
        have HM : Fact (∀ W, Below w7.heap.size w7 W → (W.cell? ⟨g7, I * 15 + 10, none⟩ = some (.int .i64 K1) ∧ W.cell? ⟨g7, I * 15 + 11, none⟩ = some (.string N1) ∧ W.cell? ⟨g7, I * 15 + 12, none⟩ = some (.string X1) ∧ W.cell? ⟨g7, I * 15 + 13, none⟩ = some (.slice m1 m2 m3) ∧ W.cell? ⟨g7, I * 15 + 14, none⟩ = some (.slice m4 m5 m6))) := ⟨fun W hb =>
          ⟨(hb.cell (p := ⟨g7, I * 15 + 10, none⟩) hg7).trans (v 10 _ rfl), (hb.cell (p := ⟨g7, I * 15 + 11, none⟩) hg7).trans (v 11 _ rfl), (hb.cell (p := ⟨g7, I * 15 + 12, none⟩) hg7).trans (v 12 _ rfl), (hb.cell (p := ⟨g7, I * 15 + 13, none⟩) hg7).trans (v 13 _ rfl), (hb.cell (p := ⟨g7, I * 15 + 14, none⟩) hg7).trans (v 14 _ rfl)⟩⟩
        have HLM : Fact (∀ W, Below w7.heap.size w7 W → Lies W.heap.size W ⟨K1, N1, X1, A1⟩ rk (.slice m1 m2 m3) (.slice m4 m5 m6)) := ⟨fun W hb => ⟨hra.1.old hb hb.size, hra.2.old hb hb.size⟩⟩
        have HSUB := Fact.mk (sub_yes I I ⟨rfl⟩ ⟨K1, N1, X1, A1⟩ rk ⟨hs1⟩ (HLX7.out wr HBR.out) HLIM.out.dp HLIM.out.sz HLIM.out.sl)
        obtain ⟨n1, hn1⟩ : ∃ n1 : Nat, n = n1 + 1 := ⟨n - 1, by omega⟩
        have wn1 : IntKind.i64.wrap ((n : Int) - 1) = (n1 : Int) := by rw [wrap_id (by omega) (by omega)]; omega
        have i0_ : (0 : Int) ≤ I := by omega
        have i1_ : (I : Int) < n := by omega
        have mi1 : min (I : Int) (n1 : Int) = (I : Int) := by omega
        have mi2 : max (I : Int) 0 = (I : Int) := by omega
        have HN1 := Fact.mk hn1
        clear hid hra hr v hs1 hn1
        by_cases hof : 0 ≤ of ∧ of < n
        · obtain ⟨J, rfl⟩ : ∃ J : Nat, of = J := ⟨of.toNat, by omega⟩
          have hJ : J < n := by omega
          obtain ⟨Y, hY⟩ : ∃ Y, fl[J]? = some Y := ⟨fl[J]'(by rw [← hfl.out, flatT_len, hn.out]; exact hJ), by simp⟩
          obtain ⟨d2, k2, hs2, hz2, _⟩ := flatT_sub ⟨K, N, X, A⟩ k J Y (by rw [hfl.out]; exact hY)
          obtain ⟨z, hz⟩ : ∃ z, k2.size + 1 = z := ⟨_, rfl⟩
          have hYz : Y.z = (z : Int) := by rw [hz2]; omega
          have hzn : z ≤ n := by have := (sub_bd _ _ _ _ hs2).1; simp only [BT.size] at this; have := hn.out; omega
          obtain ⟨⟨Y1, ya⟩, hy, hy2⟩ : ∃ y, its[J]? = some y ∧ y.1 = Y := by
            rw [← HR6.out.1, List.getElem?_map] at hY
            cases h : its[J]? with
            | none => rw [h] at hY; cases hY
            | some y => rw [h] at hY; exact ⟨y, rfl, by simpa using hY⟩
          obtain ⟨r, hr, hr2⟩ : ∃ r, news[J]? = some r ∧ r.im = Y := by
            rw [← HR7.out.1, List.getElem?_map] at hY
            cases h : news[J]? with
            | none => rw [h] at hY; cases hY
            | some y => rw [h] at hY; exact ⟨y, rfl, by simpa using hY⟩
          dsimp only at hy2
          obtain ⟨u, _, _, hg6, _, _, _⟩ := row10_at HR6.out.2.1 hy
          obtain ⟨v, _, _, _, _, _, _⟩ := row15_at HR7.out.2.1 hr
          have hu : w7.cell? ⟨g6, J * 10 + 1, none⟩ = some (.int .i64 z) := by have := u 1 _ rfl; rw [hy2, hYz] at this; exact this
          have hv : w7.cell? ⟨g7, J * 15 + 1, none⟩ = some (.int .i64 z) := by have := v 1 _ rfl; rw [hr2, hYz] at this; exact this
          have HMZ : Fact (∀ W, Below w7.heap.size w7 W → W.cell? ⟨g7, J * 15 + 1, none⟩ = some (.int .i64 z)) := ⟨fun W hb => (hb.cell (p := ⟨g7, J * 15 + 1, none⟩) hg7).trans hv⟩
          have HLZ : Fact (∀ W, Below w7.heap.size w7 W → W.cell? ⟨g6, J * 10 + 1, none⟩ = some (.int .i64 z)) := ⟨fun W hb => (hb.cell (p := ⟨g6, J * 10 + 1, none⟩) hg6).trans hu⟩
          have j0_ : (0 : Int) ≤ J := by omega
          have j1_ : (J : Int) < n := by omega
          obtain ⟨E, hE⟩ : ∃ E, J + z = E := ⟨_, rfl⟩
          have we : IntKind.i64.wrap ((J : Int) + (z : Int)) = (E : Int) := by rw [wrap_id (by omega) (by omega)]; omega
          have mj1 : min (J : Int) (n1 : Int) = (J : Int) := by have := HN1.out; omega
          have mj2 : max (J : Int) 0 = (J : Int) := by omega
          have hcs : (∃ r, Fact (∀ W, Below w7.heap.size w7 W → In7 g6 n I J W r) ∧ ((r = false ∧ I < J) ∨ (r = true ∧ J ≤ I ∧ I < E) ∨ (r = false ∧ J ≤ I ∧ E ≤ I))) := by
            rcases (by omega : I < J ∨ (J ≤ I ∧ I < E) ∨ (J ≤ I ∧ E ≤ I)) with h | h | h
            · exact ⟨false, ⟨fun W hb => ⟨.inr (.inr ⟨⟨i0_, i1_⟩, ⟨j0_, j1_⟩, J, z, rfl, by omega, HLZ.out W hb, by omega, .inl ⟨rfl, by omega⟩⟩)⟩⟩, .inl ⟨rfl, h⟩⟩
            · exact ⟨true, ⟨fun W hb => ⟨.inr (.inr ⟨⟨i0_, i1_⟩, ⟨j0_, j1_⟩, J, z, rfl, by omega, HLZ.out W hb, by omega, .inr (.inl ⟨rfl, by omega, by omega⟩)⟩)⟩⟩, .inr (.inl ⟨rfl, h⟩)⟩
            · exact ⟨false, ⟨fun W hb => ⟨.inr (.inr ⟨⟨i0_, i1_⟩, ⟨j0_, j1_⟩, J, z, rfl, by omega, HLZ.out W hb, by omega, .inr (.inr ⟨rfl, by omega⟩)⟩)⟩⟩, .inr (.inr ⟨rfl, h⟩)⟩
          clear hof hY hs2 hz2 hz hYz hzn hy hr hu hv u v hE hy2 hr2 HLZ
          obtain ⟨r, HIN, hcs⟩ := hcs
          rcases hcs with ⟨rfl, h1⟩ | ⟨rfl, h1, h2⟩ | ⟨rfl, h1, h2⟩
          · have t1 : ¬ (J : Int) ≤ I := by omega
            have t2 : ¬ J ≤ I := by omega
            have t3 : decide (J ≤ I) = false := decide_eq_false t2
            as_aux_lemma =>
              go_upto_region 14 with (go_at_call 22; refine HSUB.out.mono ?_; rintro e w8 ⟨s1, s2, s3, s4, s5, s6, rfl, hb8, hls⟩)
              obtain ⟨W9, hW9⟩ : ∃ W9, w8.alloc (.cells #[.int .i64 K1, .string N1, .string X1, .slice s1 s2 s3, .slice s4 s5 s6] 25) = W9 := ⟨_, rfl⟩
              have hb89 : Below w8.heap.size w8 W9 := by rw [← hW9]; exact (Below.refl _ w8).alloc (Nat.le_refl _) _
              have hB89 : Below w7.heap.size w7 w8 := HBR.out.trans (hb8.mono HBR.out.size)
              have HB9 : Fact (Below w7.heap.size w7 W9) := ⟨hB89.trans (hb89.mono hB89.size)⟩
              have hbz : Box5 w8.heap.size K1 N1 X1 (.slice s1 s2 s3) (.slice s4 s5 s6) W9 := by rw [← hW9]; exact Box5.new _ _ _ _ _ _ _
              have HW9 := Fact.mk hW9
              have HLS := Fact.mk (hls.inBox hb89)
              have HQ9 : Fact (∀ w', Below W9.heap.size W9 w' → (Below W9.heap.size W9 w' ∧ (w'.cell? ⟨w.heap.size, 0, none⟩ = some (.int .i64 K) ∧ w'.cell? ⟨w.heap.size, 1, none⟩ = some (.string N) ∧ w'.cell? ⟨w.heap.size, 2, none⟩ = some (.string X) ∧ w'.cell? ⟨w.heap.size, 3, none⟩ = some (.slice p1 p2 p3) ∧ w'.cell? ⟨w.heap.size, 4, none⟩ = some (.slice q1 kl q2) ∧ w'.cell? ⟨w4.heap.size, 0, none⟩ = some (.int .i64 K) ∧ w'.cell? ⟨w4.heap.size, 1, none⟩ = some (.string N) ∧ w'.cell? ⟨w4.heap.size, 2, none⟩ = some (.string X) ∧ w'.cell? ⟨w4.heap.size, 3, none⟩ = some (.slice r1 r2 r3) ∧ w'.cell? ⟨w4.heap.size, 4, none⟩ = some (.slice r4 kl r5) ∧ w'.cell? ⟨w8.heap.size, 0, none⟩ = some (.int .i64 K1) ∧ w'.cell? ⟨w8.heap.size, 1, none⟩ = some (.string N1) ∧ w'.cell? ⟨w8.heap.size, 2, none⟩ = some (.string X1) ∧ w'.cell? ⟨w8.heap.size, 3, none⟩ = some (.slice s1 s2 s3) ∧ w'.cell? ⟨w8.heap.size, 4, none⟩ = some (.slice s4 s5 s6) ∧ w'.cell? ⟨g7, I * 15 + 10, none⟩ = some (.int .i64 K1) ∧ w'.cell? ⟨g7, I * 15 + 11, none⟩ = some (.string N1) ∧ w'.cell? ⟨g7, I * 15 + 12, none⟩ = some (.string X1) ∧ w'.cell? ⟨g7, I * 15 + 13, none⟩ = some (.slice m1 m2 m3) ∧ w'.cell? ⟨g7, I * 15 + 14, none⟩ = some (.slice m4 m5 m6)))) := ⟨fun W hb => by
                have hb7 := HB9.out.trans (hb.mono HB9.out.size)
                obtain ⟨_, k0, k1, k2, k3, k4, k5, k6, k7, k8, k9⟩ := HQ7.out W hb7
                obtain ⟨l0, l1, l2, l3, l4⟩ := HM.out W hb7
                have hz := hbz.keep hb
                exact ⟨hb, k0, k1, k2, k3, k4, k5, k6, k7, k8, k9, hz.c0, hz.c1, hz.c2, hz.c3, hz.c4, l0, l1, l2, l3, l4⟩⟩
              have HSM : Fact (∀ W, Below W9.heap.size W9 W → Calls Try.prog 21 #[.agg #[.int .i64 K1, .string N1, .string X1, .slice s1 s2 s3, .slice s4 s5 s6], .agg #[.int .i64 K1, .string N1, .string X1, .slice m1 m2 m3, .slice m4 m5 m6]] W fun e w' => e = .returned (.bool true) ∧ Below W.heap.size W w') := ⟨fun W hb => same7 (d := ⟨K1, N1, X1, A1⟩) ((HLS.out.below hb).here hb.size) (HLM.out W (HB9.out.trans (hb.mono HB9.out.size)))⟩
              have HSA : Fact (∀ W, Below W9.heap.size W9 W → Calls Try.prog 21 #[.agg #[.int .i64 K, .string N, .string X, .slice r1 r2 r3, .slice r4 kl r5], .agg #[.int .i64 K, .string N, .string X, .slice p1 p2 p3, .slice q1 kl q2]] W fun e w' => e = .returned (.bool true) ∧ Below W.heap.size W w') := ⟨fun W hb => HSAME.out W (HB9.out.trans (hb.mono HB9.out.size))⟩
              clear c0 c1 c2 c3 c4 x0 x1 x2 x3 x4 hb89 hB89 hb8 hbz hW9 hls
              rw [HW9.out]
              have mz9 := HMZ.out W9 HB9.out
              go_wp2_with (go_at_call 23; refine (within_any g6 n l6 I _ _ _ hnl6 hn6 (HIN.out _ HB9.out)).mono ?_; rintro e wW ⟨rfl, hw1⟩; have hw2 := hw1.symm; subst hw2; clear hw1)
              have hT0 : Below W9.heap.size W9 W9.drew ∧ (W9.drew.cell? ⟨w.heap.size, 0, none⟩ = some (.int .i64 K) ∧ W9.drew.cell? ⟨w.heap.size, 1, none⟩ = some (.string N) ∧ W9.drew.cell? ⟨w.heap.size, 2, none⟩ = some (.string X) ∧ W9.drew.cell? ⟨w.heap.size, 3, none⟩ = some (.slice p1 p2 p3) ∧ W9.drew.cell? ⟨w.heap.size, 4, none⟩ = some (.slice q1 kl q2) ∧ W9.drew.cell? ⟨w4.heap.size, 0, none⟩ = some (.int .i64 K) ∧ W9.drew.cell? ⟨w4.heap.size, 1, none⟩ = some (.string N) ∧ W9.drew.cell? ⟨w4.heap.size, 2, none⟩ = some (.string X) ∧ W9.drew.cell? ⟨w4.heap.size, 3, none⟩ = some (.slice r1 r2 r3) ∧ W9.drew.cell? ⟨w4.heap.size, 4, none⟩ = some (.slice r4 kl r5) ∧ W9.drew.cell? ⟨w8.heap.size, 0, none⟩ = some (.int .i64 K1) ∧ W9.drew.cell? ⟨w8.heap.size, 1, none⟩ = some (.string N1) ∧ W9.drew.cell? ⟨w8.heap.size, 2, none⟩ = some (.string X1) ∧ W9.drew.cell? ⟨w8.heap.size, 3, none⟩ = some (.slice s1 s2 s3) ∧ W9.drew.cell? ⟨w8.heap.size, 4, none⟩ = some (.slice s4 s5 s6) ∧ W9.drew.cell? ⟨g7, I * 15 + 10, none⟩ = some (.int .i64 K1) ∧ W9.drew.cell? ⟨g7, I * 15 + 11, none⟩ = some (.string N1) ∧ W9.drew.cell? ⟨g7, I * 15 + 12, none⟩ = some (.string X1) ∧ W9.drew.cell? ⟨g7, I * 15 + 13, none⟩ = some (.slice m1 m2 m3) ∧ W9.drew.cell? ⟨g7, I * 15 + 14, none⟩ = some (.slice m4 m5 m6)) := HQ9.out W9.drew (Below.refl _ W9).drew
              have tok1 : True := trivial
              go_region_held3 (fun w' => Below W9.heap.size W9 w' ∧ (w'.cell? ⟨w.heap.size, 0, none⟩ = some (.int .i64 K) ∧ w'.cell? ⟨w.heap.size, 1, none⟩ = some (.string N) ∧ w'.cell? ⟨w.heap.size, 2, none⟩ = some (.string X) ∧ w'.cell? ⟨w.heap.size, 3, none⟩ = some (.slice p1 p2 p3) ∧ w'.cell? ⟨w.heap.size, 4, none⟩ = some (.slice q1 kl q2) ∧ w'.cell? ⟨w4.heap.size, 0, none⟩ = some (.int .i64 K) ∧ w'.cell? ⟨w4.heap.size, 1, none⟩ = some (.string N) ∧ w'.cell? ⟨w4.heap.size, 2, none⟩ = some (.string X) ∧ w'.cell? ⟨w4.heap.size, 3, none⟩ = some (.slice r1 r2 r3) ∧ w'.cell? ⟨w4.heap.size, 4, none⟩ = some (.slice r4 kl r5) ∧ w'.cell? ⟨w8.heap.size, 0, none⟩ = some (.int .i64 K1) ∧ w'.cell? ⟨w8.heap.size, 1, none⟩ = some (.string N1) ∧ w'.cell? ⟨w8.heap.size, 2, none⟩ = some (.string X1) ∧ w'.cell? ⟨w8.heap.size, 3, none⟩ = some (.slice s1 s2 s3) ∧ w'.cell? ⟨w8.heap.size, 4, none⟩ = some (.slice s4 s5 s6) ∧ w'.cell? ⟨g7, I * 15 + 10, none⟩ = some (.int .i64 K1) ∧ w'.cell? ⟨g7, I * 15 + 11, none⟩ = some (.string N1) ∧ w'.cell? ⟨g7, I * 15 + 12, none⟩ = some (.string X1) ∧ w'.cell? ⟨g7, I * 15 + 13, none⟩ = some (.slice m1 m2 m3) ∧ w'.cell? ⟨g7, I * 15 + 14, none⟩ = some (.slice m4 m5 m6)))
                (first | with_reducible exact hT0 | with_reducible assumption)
                (first
                  | (go_at_call 21; have _t := tok1; refine (HSM.out _ hT0.1).mono ?_; rintro e wR ⟨rfl, hbR⟩; have hT1 := HQ9.out wR (hT0.1.trans (hbR.mono hT0.1.size)); clear tok1 _t)
                  | (go_at_call 21; refine (HSA.out _ hT1.1).mono ?_; rintro e wR2 ⟨rfl, hbR2⟩; have hT2 := HQ9.out wR2 (hT1.1.trans (hbR2.mono hT1.1.size)))
                  | (go_at_call 10; refine (awake7_true _).mono ?_; rintro e wQ ⟨rfl, hbQ⟩; have hT3 := HQ9.out wQ (hT2.1.trans (hbQ.mono hT2.1.size))))
              go_wp2_with fail
              go_ret
              have h79 := HB9.out.trans (hT3.1.mono HB9.out.size)
              exact ⟨rfl, HB5.out.trans ((HB7.out.trans (h79.mono HB7.out.size)).mono HB5.out.size)⟩
          · have t1 : (J : Int) ≤ I := by omega
            have t2 : (I : Int) < E := by omega
            as_aux_lemma =>
              go_upto_region 14 with (go_at_call 22; refine HSUB.out.mono ?_; rintro e w8 ⟨s1, s2, s3, s4, s5, s6, rfl, hb8, hls⟩)
              obtain ⟨W9, hW9⟩ : ∃ W9, w8.alloc (.cells #[.int .i64 K1, .string N1, .string X1, .slice s1 s2 s3, .slice s4 s5 s6] 25) = W9 := ⟨_, rfl⟩
              have hb89 : Below w8.heap.size w8 W9 := by rw [← hW9]; exact (Below.refl _ w8).alloc (Nat.le_refl _) _
              have hB89 : Below w7.heap.size w7 w8 := HBR.out.trans (hb8.mono HBR.out.size)
              have HB9 : Fact (Below w7.heap.size w7 W9) := ⟨hB89.trans (hb89.mono hB89.size)⟩
              have hbz : Box5 w8.heap.size K1 N1 X1 (.slice s1 s2 s3) (.slice s4 s5 s6) W9 := by rw [← hW9]; exact Box5.new _ _ _ _ _ _ _
              have HW9 := Fact.mk hW9
              have HLS := Fact.mk (hls.inBox hb89)
              have HQ9 : Fact (∀ w', Below W9.heap.size W9 w' → (Below W9.heap.size W9 w' ∧ (w'.cell? ⟨w.heap.size, 0, none⟩ = some (.int .i64 K) ∧ w'.cell? ⟨w.heap.size, 1, none⟩ = some (.string N) ∧ w'.cell? ⟨w.heap.size, 2, none⟩ = some (.string X) ∧ w'.cell? ⟨w.heap.size, 3, none⟩ = some (.slice p1 p2 p3) ∧ w'.cell? ⟨w.heap.size, 4, none⟩ = some (.slice q1 kl q2) ∧ w'.cell? ⟨w4.heap.size, 0, none⟩ = some (.int .i64 K) ∧ w'.cell? ⟨w4.heap.size, 1, none⟩ = some (.string N) ∧ w'.cell? ⟨w4.heap.size, 2, none⟩ = some (.string X) ∧ w'.cell? ⟨w4.heap.size, 3, none⟩ = some (.slice r1 r2 r3) ∧ w'.cell? ⟨w4.heap.size, 4, none⟩ = some (.slice r4 kl r5) ∧ w'.cell? ⟨w8.heap.size, 0, none⟩ = some (.int .i64 K1) ∧ w'.cell? ⟨w8.heap.size, 1, none⟩ = some (.string N1) ∧ w'.cell? ⟨w8.heap.size, 2, none⟩ = some (.string X1) ∧ w'.cell? ⟨w8.heap.size, 3, none⟩ = some (.slice s1 s2 s3) ∧ w'.cell? ⟨w8.heap.size, 4, none⟩ = some (.slice s4 s5 s6) ∧ w'.cell? ⟨g7, I * 15 + 10, none⟩ = some (.int .i64 K1) ∧ w'.cell? ⟨g7, I * 15 + 11, none⟩ = some (.string N1) ∧ w'.cell? ⟨g7, I * 15 + 12, none⟩ = some (.string X1) ∧ w'.cell? ⟨g7, I * 15 + 13, none⟩ = some (.slice m1 m2 m3) ∧ w'.cell? ⟨g7, I * 15 + 14, none⟩ = some (.slice m4 m5 m6)))) := ⟨fun W hb => by
                have hb7 := HB9.out.trans (hb.mono HB9.out.size)
                obtain ⟨_, k0, k1, k2, k3, k4, k5, k6, k7, k8, k9⟩ := HQ7.out W hb7
                obtain ⟨l0, l1, l2, l3, l4⟩ := HM.out W hb7
                have hz := hbz.keep hb
                exact ⟨hb, k0, k1, k2, k3, k4, k5, k6, k7, k8, k9, hz.c0, hz.c1, hz.c2, hz.c3, hz.c4, l0, l1, l2, l3, l4⟩⟩
              have HSM : Fact (∀ W, Below W9.heap.size W9 W → Calls Try.prog 21 #[.agg #[.int .i64 K1, .string N1, .string X1, .slice s1 s2 s3, .slice s4 s5 s6], .agg #[.int .i64 K1, .string N1, .string X1, .slice m1 m2 m3, .slice m4 m5 m6]] W fun e w' => e = .returned (.bool true) ∧ Below W.heap.size W w') := ⟨fun W hb => same7 (d := ⟨K1, N1, X1, A1⟩) ((HLS.out.below hb).here hb.size) (HLM.out W (HB9.out.trans (hb.mono HB9.out.size)))⟩
              have HSA : Fact (∀ W, Below W9.heap.size W9 W → Calls Try.prog 21 #[.agg #[.int .i64 K, .string N, .string X, .slice r1 r2 r3, .slice r4 kl r5], .agg #[.int .i64 K, .string N, .string X, .slice p1 p2 p3, .slice q1 kl q2]] W fun e w' => e = .returned (.bool true) ∧ Below W.heap.size W w') := ⟨fun W hb => HSAME.out W (HB9.out.trans (hb.mono HB9.out.size))⟩
              clear c0 c1 c2 c3 c4 x0 x1 x2 x3 x4 hb89 hB89 hb8 hbz hW9 hls
              rw [HW9.out]
              have mz9 := HMZ.out W9 HB9.out
              go_wp2_with (go_at_call 23; refine (within_any g6 n l6 I _ _ _ hnl6 hn6 (HIN.out _ HB9.out)).mono ?_; rintro e wW ⟨rfl, hw1⟩; have hw2 := hw1.symm; subst hw2; clear hw1)
              have hT0 : Below W9.heap.size W9 W9.drew ∧ (W9.drew.cell? ⟨w.heap.size, 0, none⟩ = some (.int .i64 K) ∧ W9.drew.cell? ⟨w.heap.size, 1, none⟩ = some (.string N) ∧ W9.drew.cell? ⟨w.heap.size, 2, none⟩ = some (.string X) ∧ W9.drew.cell? ⟨w.heap.size, 3, none⟩ = some (.slice p1 p2 p3) ∧ W9.drew.cell? ⟨w.heap.size, 4, none⟩ = some (.slice q1 kl q2) ∧ W9.drew.cell? ⟨w4.heap.size, 0, none⟩ = some (.int .i64 K) ∧ W9.drew.cell? ⟨w4.heap.size, 1, none⟩ = some (.string N) ∧ W9.drew.cell? ⟨w4.heap.size, 2, none⟩ = some (.string X) ∧ W9.drew.cell? ⟨w4.heap.size, 3, none⟩ = some (.slice r1 r2 r3) ∧ W9.drew.cell? ⟨w4.heap.size, 4, none⟩ = some (.slice r4 kl r5) ∧ W9.drew.cell? ⟨w8.heap.size, 0, none⟩ = some (.int .i64 K1) ∧ W9.drew.cell? ⟨w8.heap.size, 1, none⟩ = some (.string N1) ∧ W9.drew.cell? ⟨w8.heap.size, 2, none⟩ = some (.string X1) ∧ W9.drew.cell? ⟨w8.heap.size, 3, none⟩ = some (.slice s1 s2 s3) ∧ W9.drew.cell? ⟨w8.heap.size, 4, none⟩ = some (.slice s4 s5 s6) ∧ W9.drew.cell? ⟨g7, I * 15 + 10, none⟩ = some (.int .i64 K1) ∧ W9.drew.cell? ⟨g7, I * 15 + 11, none⟩ = some (.string N1) ∧ W9.drew.cell? ⟨g7, I * 15 + 12, none⟩ = some (.string X1) ∧ W9.drew.cell? ⟨g7, I * 15 + 13, none⟩ = some (.slice m1 m2 m3) ∧ W9.drew.cell? ⟨g7, I * 15 + 14, none⟩ = some (.slice m4 m5 m6)) := HQ9.out W9.drew (Below.refl _ W9).drew
              have tok1 : True := trivial
              go_region_held3 (fun w' => Below W9.heap.size W9 w' ∧ (w'.cell? ⟨w.heap.size, 0, none⟩ = some (.int .i64 K) ∧ w'.cell? ⟨w.heap.size, 1, none⟩ = some (.string N) ∧ w'.cell? ⟨w.heap.size, 2, none⟩ = some (.string X) ∧ w'.cell? ⟨w.heap.size, 3, none⟩ = some (.slice p1 p2 p3) ∧ w'.cell? ⟨w.heap.size, 4, none⟩ = some (.slice q1 kl q2) ∧ w'.cell? ⟨w4.heap.size, 0, none⟩ = some (.int .i64 K) ∧ w'.cell? ⟨w4.heap.size, 1, none⟩ = some (.string N) ∧ w'.cell? ⟨w4.heap.size, 2, none⟩ = some (.string X) ∧ w'.cell? ⟨w4.heap.size, 3, none⟩ = some (.slice r1 r2 r3) ∧ w'.cell? ⟨w4.heap.size, 4, none⟩ = some (.slice r4 kl r5) ∧ w'.cell? ⟨w8.heap.size, 0, none⟩ = some (.int .i64 K1) ∧ w'.cell? ⟨w8.heap.size, 1, none⟩ = some (.string N1) ∧ w'.cell? ⟨w8.heap.size, 2, none⟩ = some (.string X1) ∧ w'.cell? ⟨w8.heap.size, 3, none⟩ = some (.slice s1 s2 s3) ∧ w'.cell? ⟨w8.heap.size, 4, none⟩ = some (.slice s4 s5 s6) ∧ w'.cell? ⟨g7, I * 15 + 10, none⟩ = some (.int .i64 K1) ∧ w'.cell? ⟨g7, I * 15 + 11, none⟩ = some (.string N1) ∧ w'.cell? ⟨g7, I * 15 + 12, none⟩ = some (.string X1) ∧ w'.cell? ⟨g7, I * 15 + 13, none⟩ = some (.slice m1 m2 m3) ∧ w'.cell? ⟨g7, I * 15 + 14, none⟩ = some (.slice m4 m5 m6)))
                (first | with_reducible exact hT0 | with_reducible assumption)
                (first
                  | (go_at_call 21; have _t := tok1; refine (HSM.out _ hT0.1).mono ?_; rintro e wR ⟨rfl, hbR⟩; have hT1 := HQ9.out wR (hT0.1.trans (hbR.mono hT0.1.size)); clear tok1 _t)
                  | (go_at_call 21; refine (HSA.out _ hT1.1).mono ?_; rintro e wR2 ⟨rfl, hbR2⟩; have hT2 := HQ9.out wR2 (hT1.1.trans (hbR2.mono hT1.1.size)))
                  | (go_at_call 10; refine (awake7_true _).mono ?_; rintro e wQ ⟨rfl, hbQ⟩; have hT3 := HQ9.out wQ (hT2.1.trans (hbQ.mono hT2.1.size))))
              go_wp2_with fail
              go_ret
              have h79 := HB9.out.trans (hT3.1.mono HB9.out.size)
              exact ⟨rfl, HB5.out.trans ((HB7.out.trans (h79.mono HB7.out.size)).mono HB5.out.size)⟩
          · have t1 : (J : Int) ≤ I := by omega
            have t2 : ¬ (I : Int) < E := by omega
            have t3 : ¬ I < E := by omega
            have t4 : decide (I < E) = false := decide_eq_false t3
            as_aux_lemma =>
              go_upto_region 14 with (go_at_call 22; refine HSUB.out.mono ?_; rintro e w8 ⟨s1, s2, s3, s4, s5, s6, rfl, hb8, hls⟩)
              obtain ⟨W9, hW9⟩ : ∃ W9, w8.alloc (.cells #[.int .i64 K1, .string N1, .string X1, .slice s1 s2 s3, .slice s4 s5 s6] 25) = W9 := ⟨_, rfl⟩
              have hb89 : Below w8.heap.size w8 W9 := by rw [← hW9]; exact (Below.refl _ w8).alloc (Nat.le_refl _) _
              have hB89 : Below w7.heap.size w7 w8 := HBR.out.trans (hb8.mono HBR.out.size)
              have HB9 : Fact (Below w7.heap.size w7 W9) := ⟨hB89.trans (hb89.mono hB89.size)⟩
              have hbz : Box5 w8.heap.size K1 N1 X1 (.slice s1 s2 s3) (.slice s4 s5 s6) W9 := by rw [← hW9]; exact Box5.new _ _ _ _ _ _ _
              have HW9 := Fact.mk hW9
              have HLS := Fact.mk (hls.inBox hb89)
              have HQ9 : Fact (∀ w', Below W9.heap.size W9 w' → (Below W9.heap.size W9 w' ∧ (w'.cell? ⟨w.heap.size, 0, none⟩ = some (.int .i64 K) ∧ w'.cell? ⟨w.heap.size, 1, none⟩ = some (.string N) ∧ w'.cell? ⟨w.heap.size, 2, none⟩ = some (.string X) ∧ w'.cell? ⟨w.heap.size, 3, none⟩ = some (.slice p1 p2 p3) ∧ w'.cell? ⟨w.heap.size, 4, none⟩ = some (.slice q1 kl q2) ∧ w'.cell? ⟨w4.heap.size, 0, none⟩ = some (.int .i64 K) ∧ w'.cell? ⟨w4.heap.size, 1, none⟩ = some (.string N) ∧ w'.cell? ⟨w4.heap.size, 2, none⟩ = some (.string X) ∧ w'.cell? ⟨w4.heap.size, 3, none⟩ = some (.slice r1 r2 r3) ∧ w'.cell? ⟨w4.heap.size, 4, none⟩ = some (.slice r4 kl r5) ∧ w'.cell? ⟨w8.heap.size, 0, none⟩ = some (.int .i64 K1) ∧ w'.cell? ⟨w8.heap.size, 1, none⟩ = some (.string N1) ∧ w'.cell? ⟨w8.heap.size, 2, none⟩ = some (.string X1) ∧ w'.cell? ⟨w8.heap.size, 3, none⟩ = some (.slice s1 s2 s3) ∧ w'.cell? ⟨w8.heap.size, 4, none⟩ = some (.slice s4 s5 s6) ∧ w'.cell? ⟨g7, I * 15 + 10, none⟩ = some (.int .i64 K1) ∧ w'.cell? ⟨g7, I * 15 + 11, none⟩ = some (.string N1) ∧ w'.cell? ⟨g7, I * 15 + 12, none⟩ = some (.string X1) ∧ w'.cell? ⟨g7, I * 15 + 13, none⟩ = some (.slice m1 m2 m3) ∧ w'.cell? ⟨g7, I * 15 + 14, none⟩ = some (.slice m4 m5 m6)))) := ⟨fun W hb => by
                have hb7 := HB9.out.trans (hb.mono HB9.out.size)
                obtain ⟨_, k0, k1, k2, k3, k4, k5, k6, k7, k8, k9⟩ := HQ7.out W hb7
                obtain ⟨l0, l1, l2, l3, l4⟩ := HM.out W hb7
                have hz := hbz.keep hb
                exact ⟨hb, k0, k1, k2, k3, k4, k5, k6, k7, k8, k9, hz.c0, hz.c1, hz.c2, hz.c3, hz.c4, l0, l1, l2, l3, l4⟩⟩
              have HSM : Fact (∀ W, Below W9.heap.size W9 W → Calls Try.prog 21 #[.agg #[.int .i64 K1, .string N1, .string X1, .slice s1 s2 s3, .slice s4 s5 s6], .agg #[.int .i64 K1, .string N1, .string X1, .slice m1 m2 m3, .slice m4 m5 m6]] W fun e w' => e = .returned (.bool true) ∧ Below W.heap.size W w') := ⟨fun W hb => same7 (d := ⟨K1, N1, X1, A1⟩) ((HLS.out.below hb).here hb.size) (HLM.out W (HB9.out.trans (hb.mono HB9.out.size)))⟩
              have HSA : Fact (∀ W, Below W9.heap.size W9 W → Calls Try.prog 21 #[.agg #[.int .i64 K, .string N, .string X, .slice r1 r2 r3, .slice r4 kl r5], .agg #[.int .i64 K, .string N, .string X, .slice p1 p2 p3, .slice q1 kl q2]] W fun e w' => e = .returned (.bool true) ∧ Below W.heap.size W w') := ⟨fun W hb => HSAME.out W (HB9.out.trans (hb.mono HB9.out.size))⟩
              clear c0 c1 c2 c3 c4 x0 x1 x2 x3 x4 hb89 hB89 hb8 hbz hW9 hls
              rw [HW9.out]
              have mz9 := HMZ.out W9 HB9.out
              go_wp2_with (go_at_call 23; refine (within_any g6 n l6 I _ _ _ hnl6 hn6 (HIN.out _ HB9.out)).mono ?_; rintro e wW ⟨rfl, hw1⟩; have hw2 := hw1.symm; subst hw2; clear hw1)
              have hT0 : Below W9.heap.size W9 W9.drew ∧ (W9.drew.cell? ⟨w.heap.size, 0, none⟩ = some (.int .i64 K) ∧ W9.drew.cell? ⟨w.heap.size, 1, none⟩ = some (.string N) ∧ W9.drew.cell? ⟨w.heap.size, 2, none⟩ = some (.string X) ∧ W9.drew.cell? ⟨w.heap.size, 3, none⟩ = some (.slice p1 p2 p3) ∧ W9.drew.cell? ⟨w.heap.size, 4, none⟩ = some (.slice q1 kl q2) ∧ W9.drew.cell? ⟨w4.heap.size, 0, none⟩ = some (.int .i64 K) ∧ W9.drew.cell? ⟨w4.heap.size, 1, none⟩ = some (.string N) ∧ W9.drew.cell? ⟨w4.heap.size, 2, none⟩ = some (.string X) ∧ W9.drew.cell? ⟨w4.heap.size, 3, none⟩ = some (.slice r1 r2 r3) ∧ W9.drew.cell? ⟨w4.heap.size, 4, none⟩ = some (.slice r4 kl r5) ∧ W9.drew.cell? ⟨w8.heap.size, 0, none⟩ = some (.int .i64 K1) ∧ W9.drew.cell? ⟨w8.heap.size, 1, none⟩ = some (.string N1) ∧ W9.drew.cell? ⟨w8.heap.size, 2, none⟩ = some (.string X1) ∧ W9.drew.cell? ⟨w8.heap.size, 3, none⟩ = some (.slice s1 s2 s3) ∧ W9.drew.cell? ⟨w8.heap.size, 4, none⟩ = some (.slice s4 s5 s6) ∧ W9.drew.cell? ⟨g7, I * 15 + 10, none⟩ = some (.int .i64 K1) ∧ W9.drew.cell? ⟨g7, I * 15 + 11, none⟩ = some (.string N1) ∧ W9.drew.cell? ⟨g7, I * 15 + 12, none⟩ = some (.string X1) ∧ W9.drew.cell? ⟨g7, I * 15 + 13, none⟩ = some (.slice m1 m2 m3) ∧ W9.drew.cell? ⟨g7, I * 15 + 14, none⟩ = some (.slice m4 m5 m6)) := HQ9.out W9.drew (Below.refl _ W9).drew
              have tok1 : True := trivial
              go_region_held3 (fun w' => Below W9.heap.size W9 w' ∧ (w'.cell? ⟨w.heap.size, 0, none⟩ = some (.int .i64 K) ∧ w'.cell? ⟨w.heap.size, 1, none⟩ = some (.string N) ∧ w'.cell? ⟨w.heap.size, 2, none⟩ = some (.string X) ∧ w'.cell? ⟨w.heap.size, 3, none⟩ = some (.slice p1 p2 p3) ∧ w'.cell? ⟨w.heap.size, 4, none⟩ = some (.slice q1 kl q2) ∧ w'.cell? ⟨w4.heap.size, 0, none⟩ = some (.int .i64 K) ∧ w'.cell? ⟨w4.heap.size, 1, none⟩ = some (.string N) ∧ w'.cell? ⟨w4.heap.size, 2, none⟩ = some (.string X) ∧ w'.cell? ⟨w4.heap.size, 3, none⟩ = some (.slice r1 r2 r3) ∧ w'.cell? ⟨w4.heap.size, 4, none⟩ = some (.slice r4 kl r5) ∧ w'.cell? ⟨w8.heap.size, 0, none⟩ = some (.int .i64 K1) ∧ w'.cell? ⟨w8.heap.size, 1, none⟩ = some (.string N1) ∧ w'.cell? ⟨w8.heap.size, 2, none⟩ = some (.string X1) ∧ w'.cell? ⟨w8.heap.size, 3, none⟩ = some (.slice s1 s2 s3) ∧ w'.cell? ⟨w8.heap.size, 4, none⟩ = some (.slice s4 s5 s6) ∧ w'.cell? ⟨g7, I * 15 + 10, none⟩ = some (.int .i64 K1) ∧ w'.cell? ⟨g7, I * 15 + 11, none⟩ = some (.string N1) ∧ w'.cell? ⟨g7, I * 15 + 12, none⟩ = some (.string X1) ∧ w'.cell? ⟨g7, I * 15 + 13, none⟩ = some (.slice m1 m2 m3) ∧ w'.cell? ⟨g7, I * 15 + 14, none⟩ = some (.slice m4 m5 m6)))
                (first | with_reducible exact hT0 | with_reducible assumption)
                (first
                  | (go_at_call 21; have _t := tok1; refine (HSM.out _ hT0.1).mono ?_; rintro e wR ⟨rfl, hbR⟩; have hT1 := HQ9.out wR (hT0.1.trans (hbR.mono hT0.1.size)); clear tok1 _t)
                  | (go_at_call 21; refine (HSA.out _ hT1.1).mono ?_; rintro e wR2 ⟨rfl, hbR2⟩; have hT2 := HQ9.out wR2 (hT1.1.trans (hbR2.mono hT1.1.size)))
                  | (go_at_call 10; refine (awake7_true _).mono ?_; rintro e wQ ⟨rfl, hbQ⟩; have hT3 := HQ9.out wQ (hT2.1.trans (hbQ.mono hT2.1.size))))
              go_wp2_with fail
              go_ret
              have h79 := HB9.out.trans (hT3.1.mono HB9.out.size)
              exact ⟨rfl, HB5.out.trans ((HB7.out.trans (h79.mono HB7.out.size)).mono HB5.out.size)⟩
        · have HMZ : Fact (∀ W, Below w7.heap.size w7 W → True) := ⟨fun W hb => trivial⟩
          have ho : of < 0 ∨ (n : Int) ≤ of := by omega
          have HIN : Fact (∀ W, Below w7.heap.size w7 W → In7 g6 n I of W false) := ⟨fun W hb => ⟨.inr (.inl ⟨rfl, ⟨i0_, i1_⟩, ho⟩)⟩⟩
          have hcs : (of < 0 ∧ ¬ 0 ≤ of ∧ decide (0 ≤ of) = false) ∨ (0 ≤ of ∧ (n : Int) ≤ of ∧ ¬ of < n ∧ decide (of < n) = false) := by
            by_cases h0 : of < 0
            · exact .inl ⟨h0, by omega, decide_eq_false (by omega)⟩
            · exact .inr ⟨by omega, by omega, by omega, decide_eq_false (by omega)⟩
          clear hof ho
          rcases hcs with ⟨a1, a2, a3⟩ | ⟨a1, a2, a3, a4⟩
          · as_aux_lemma =>
              go_upto_region 14 with (go_at_call 22; refine HSUB.out.mono ?_; rintro e w8 ⟨s1, s2, s3, s4, s5, s6, rfl, hb8, hls⟩)
              obtain ⟨W9, hW9⟩ : ∃ W9, w8.alloc (.cells #[.int .i64 K1, .string N1, .string X1, .slice s1 s2 s3, .slice s4 s5 s6] 25) = W9 := ⟨_, rfl⟩
              have hb89 : Below w8.heap.size w8 W9 := by rw [← hW9]; exact (Below.refl _ w8).alloc (Nat.le_refl _) _
              have hB89 : Below w7.heap.size w7 w8 := HBR.out.trans (hb8.mono HBR.out.size)
              have HB9 : Fact (Below w7.heap.size w7 W9) := ⟨hB89.trans (hb89.mono hB89.size)⟩
              have hbz : Box5 w8.heap.size K1 N1 X1 (.slice s1 s2 s3) (.slice s4 s5 s6) W9 := by rw [← hW9]; exact Box5.new _ _ _ _ _ _ _
              have HW9 := Fact.mk hW9
              have HLS := Fact.mk (hls.inBox hb89)
              have HQ9 : Fact (∀ w', Below W9.heap.size W9 w' → (Below W9.heap.size W9 w' ∧ (w'.cell? ⟨w.heap.size, 0, none⟩ = some (.int .i64 K) ∧ w'.cell? ⟨w.heap.size, 1, none⟩ = some (.string N) ∧ w'.cell? ⟨w.heap.size, 2, none⟩ = some (.string X) ∧ w'.cell? ⟨w.heap.size, 3, none⟩ = some (.slice p1 p2 p3) ∧ w'.cell? ⟨w.heap.size, 4, none⟩ = some (.slice q1 kl q2) ∧ w'.cell? ⟨w4.heap.size, 0, none⟩ = some (.int .i64 K) ∧ w'.cell? ⟨w4.heap.size, 1, none⟩ = some (.string N) ∧ w'.cell? ⟨w4.heap.size, 2, none⟩ = some (.string X) ∧ w'.cell? ⟨w4.heap.size, 3, none⟩ = some (.slice r1 r2 r3) ∧ w'.cell? ⟨w4.heap.size, 4, none⟩ = some (.slice r4 kl r5) ∧ w'.cell? ⟨w8.heap.size, 0, none⟩ = some (.int .i64 K1) ∧ w'.cell? ⟨w8.heap.size, 1, none⟩ = some (.string N1) ∧ w'.cell? ⟨w8.heap.size, 2, none⟩ = some (.string X1) ∧ w'.cell? ⟨w8.heap.size, 3, none⟩ = some (.slice s1 s2 s3) ∧ w'.cell? ⟨w8.heap.size, 4, none⟩ = some (.slice s4 s5 s6) ∧ w'.cell? ⟨g7, I * 15 + 10, none⟩ = some (.int .i64 K1) ∧ w'.cell? ⟨g7, I * 15 + 11, none⟩ = some (.string N1) ∧ w'.cell? ⟨g7, I * 15 + 12, none⟩ = some (.string X1) ∧ w'.cell? ⟨g7, I * 15 + 13, none⟩ = some (.slice m1 m2 m3) ∧ w'.cell? ⟨g7, I * 15 + 14, none⟩ = some (.slice m4 m5 m6)))) := ⟨fun W hb => by
                have hb7 := HB9.out.trans (hb.mono HB9.out.size)
                obtain ⟨_, k0, k1, k2, k3, k4, k5, k6, k7, k8, k9⟩ := HQ7.out W hb7
                obtain ⟨l0, l1, l2, l3, l4⟩ := HM.out W hb7
                have hz := hbz.keep hb
                exact ⟨hb, k0, k1, k2, k3, k4, k5, k6, k7, k8, k9, hz.c0, hz.c1, hz.c2, hz.c3, hz.c4, l0, l1, l2, l3, l4⟩⟩
              have HSM : Fact (∀ W, Below W9.heap.size W9 W → Calls Try.prog 21 #[.agg #[.int .i64 K1, .string N1, .string X1, .slice s1 s2 s3, .slice s4 s5 s6], .agg #[.int .i64 K1, .string N1, .string X1, .slice m1 m2 m3, .slice m4 m5 m6]] W fun e w' => e = .returned (.bool true) ∧ Below W.heap.size W w') := ⟨fun W hb => same7 (d := ⟨K1, N1, X1, A1⟩) ((HLS.out.below hb).here hb.size) (HLM.out W (HB9.out.trans (hb.mono HB9.out.size)))⟩
              have HSA : Fact (∀ W, Below W9.heap.size W9 W → Calls Try.prog 21 #[.agg #[.int .i64 K, .string N, .string X, .slice r1 r2 r3, .slice r4 kl r5], .agg #[.int .i64 K, .string N, .string X, .slice p1 p2 p3, .slice q1 kl q2]] W fun e w' => e = .returned (.bool true) ∧ Below W.heap.size W w') := ⟨fun W hb => HSAME.out W (HB9.out.trans (hb.mono HB9.out.size))⟩
              clear c0 c1 c2 c3 c4 x0 x1 x2 x3 x4 hb89 hB89 hb8 hbz hW9 hls
              rw [HW9.out]
              have mz9 := HMZ.out W9 HB9.out
              go_wp2_with (go_at_call 23; refine (within_any g6 n l6 I _ _ _ hnl6 hn6 (HIN.out _ HB9.out)).mono ?_; rintro e wW ⟨rfl, hw1⟩; have hw2 := hw1.symm; subst hw2; clear hw1)
              have hT0 : Below W9.heap.size W9 W9.drew ∧ (W9.drew.cell? ⟨w.heap.size, 0, none⟩ = some (.int .i64 K) ∧ W9.drew.cell? ⟨w.heap.size, 1, none⟩ = some (.string N) ∧ W9.drew.cell? ⟨w.heap.size, 2, none⟩ = some (.string X) ∧ W9.drew.cell? ⟨w.heap.size, 3, none⟩ = some (.slice p1 p2 p3) ∧ W9.drew.cell? ⟨w.heap.size, 4, none⟩ = some (.slice q1 kl q2) ∧ W9.drew.cell? ⟨w4.heap.size, 0, none⟩ = some (.int .i64 K) ∧ W9.drew.cell? ⟨w4.heap.size, 1, none⟩ = some (.string N) ∧ W9.drew.cell? ⟨w4.heap.size, 2, none⟩ = some (.string X) ∧ W9.drew.cell? ⟨w4.heap.size, 3, none⟩ = some (.slice r1 r2 r3) ∧ W9.drew.cell? ⟨w4.heap.size, 4, none⟩ = some (.slice r4 kl r5) ∧ W9.drew.cell? ⟨w8.heap.size, 0, none⟩ = some (.int .i64 K1) ∧ W9.drew.cell? ⟨w8.heap.size, 1, none⟩ = some (.string N1) ∧ W9.drew.cell? ⟨w8.heap.size, 2, none⟩ = some (.string X1) ∧ W9.drew.cell? ⟨w8.heap.size, 3, none⟩ = some (.slice s1 s2 s3) ∧ W9.drew.cell? ⟨w8.heap.size, 4, none⟩ = some (.slice s4 s5 s6) ∧ W9.drew.cell? ⟨g7, I * 15 + 10, none⟩ = some (.int .i64 K1) ∧ W9.drew.cell? ⟨g7, I * 15 + 11, none⟩ = some (.string N1) ∧ W9.drew.cell? ⟨g7, I * 15 + 12, none⟩ = some (.string X1) ∧ W9.drew.cell? ⟨g7, I * 15 + 13, none⟩ = some (.slice m1 m2 m3) ∧ W9.drew.cell? ⟨g7, I * 15 + 14, none⟩ = some (.slice m4 m5 m6)) := HQ9.out W9.drew (Below.refl _ W9).drew
              have tok1 : True := trivial
              go_region_held3 (fun w' => Below W9.heap.size W9 w' ∧ (w'.cell? ⟨w.heap.size, 0, none⟩ = some (.int .i64 K) ∧ w'.cell? ⟨w.heap.size, 1, none⟩ = some (.string N) ∧ w'.cell? ⟨w.heap.size, 2, none⟩ = some (.string X) ∧ w'.cell? ⟨w.heap.size, 3, none⟩ = some (.slice p1 p2 p3) ∧ w'.cell? ⟨w.heap.size, 4, none⟩ = some (.slice q1 kl q2) ∧ w'.cell? ⟨w4.heap.size, 0, none⟩ = some (.int .i64 K) ∧ w'.cell? ⟨w4.heap.size, 1, none⟩ = some (.string N) ∧ w'.cell? ⟨w4.heap.size, 2, none⟩ = some (.string X) ∧ w'.cell? ⟨w4.heap.size, 3, none⟩ = some (.slice r1 r2 r3) ∧ w'.cell? ⟨w4.heap.size, 4, none⟩ = some (.slice r4 kl r5) ∧ w'.cell? ⟨w8.heap.size, 0, none⟩ = some (.int .i64 K1) ∧ w'.cell? ⟨w8.heap.size, 1, none⟩ = some (.string N1) ∧ w'.cell? ⟨w8.heap.size, 2, none⟩ = some (.string X1) ∧ w'.cell? ⟨w8.heap.size, 3, none⟩ = some (.slice s1 s2 s3) ∧ w'.cell? ⟨w8.heap.size, 4, none⟩ = some (.slice s4 s5 s6) ∧ w'.cell? ⟨g7, I * 15 + 10, none⟩ = some (.int .i64 K1) ∧ w'.cell? ⟨g7, I * 15 + 11, none⟩ = some (.string N1) ∧ w'.cell? ⟨g7, I * 15 + 12, none⟩ = some (.string X1) ∧ w'.cell? ⟨g7, I * 15 + 13, none⟩ = some (.slice m1 m2 m3) ∧ w'.cell? ⟨g7, I * 15 + 14, none⟩ = some (.slice m4 m5 m6)))
                (first | with_reducible exact hT0 | with_reducible assumption)
                (first
                  | (go_at_call 21; have _t := tok1; refine (HSM.out _ hT0.1).mono ?_; rintro e wR ⟨rfl, hbR⟩; have hT1 := HQ9.out wR (hT0.1.trans (hbR.mono hT0.1.size)); clear tok1 _t)
                  | (go_at_call 21; refine (HSA.out _ hT1.1).mono ?_; rintro e wR2 ⟨rfl, hbR2⟩; have hT2 := HQ9.out wR2 (hT1.1.trans (hbR2.mono hT1.1.size)))
                  | (go_at_call 10; refine (awake7_true _).mono ?_; rintro e wQ ⟨rfl, hbQ⟩; have hT3 := HQ9.out wQ (hT2.1.trans (hbQ.mono hT2.1.size))))
              go_wp2_with fail
              go_ret
              have h79 := HB9.out.trans (hT3.1.mono HB9.out.size)
              exact ⟨rfl, HB5.out.trans ((HB7.out.trans (h79.mono HB7.out.size)).mono HB5.out.size)⟩
          · as_aux_lemma =>
              go_upto_region 14 with (go_at_call 22; refine HSUB.out.mono ?_; rintro e w8 ⟨s1, s2, s3, s4, s5, s6, rfl, hb8, hls⟩)
              obtain ⟨W9, hW9⟩ : ∃ W9, w8.alloc (.cells #[.int .i64 K1, .string N1, .string X1, .slice s1 s2 s3, .slice s4 s5 s6] 25) = W9 := ⟨_, rfl⟩
              have hb89 : Below w8.heap.size w8 W9 := by rw [← hW9]; exact (Below.refl _ w8).alloc (Nat.le_refl _) _
              have hB89 : Below w7.heap.size w7 w8 := HBR.out.trans (hb8.mono HBR.out.size)
              have HB9 : Fact (Below w7.heap.size w7 W9) := ⟨hB89.trans (hb89.mono hB89.size)⟩
              have hbz : Box5 w8.heap.size K1 N1 X1 (.slice s1 s2 s3) (.slice s4 s5 s6) W9 := by rw [← hW9]; exact Box5.new _ _ _ _ _ _ _
              have HW9 := Fact.mk hW9
              have HLS := Fact.mk (hls.inBox hb89)
              have HQ9 : Fact (∀ w', Below W9.heap.size W9 w' → (Below W9.heap.size W9 w' ∧ (w'.cell? ⟨w.heap.size, 0, none⟩ = some (.int .i64 K) ∧ w'.cell? ⟨w.heap.size, 1, none⟩ = some (.string N) ∧ w'.cell? ⟨w.heap.size, 2, none⟩ = some (.string X) ∧ w'.cell? ⟨w.heap.size, 3, none⟩ = some (.slice p1 p2 p3) ∧ w'.cell? ⟨w.heap.size, 4, none⟩ = some (.slice q1 kl q2) ∧ w'.cell? ⟨w4.heap.size, 0, none⟩ = some (.int .i64 K) ∧ w'.cell? ⟨w4.heap.size, 1, none⟩ = some (.string N) ∧ w'.cell? ⟨w4.heap.size, 2, none⟩ = some (.string X) ∧ w'.cell? ⟨w4.heap.size, 3, none⟩ = some (.slice r1 r2 r3) ∧ w'.cell? ⟨w4.heap.size, 4, none⟩ = some (.slice r4 kl r5) ∧ w'.cell? ⟨w8.heap.size, 0, none⟩ = some (.int .i64 K1) ∧ w'.cell? ⟨w8.heap.size, 1, none⟩ = some (.string N1) ∧ w'.cell? ⟨w8.heap.size, 2, none⟩ = some (.string X1) ∧ w'.cell? ⟨w8.heap.size, 3, none⟩ = some (.slice s1 s2 s3) ∧ w'.cell? ⟨w8.heap.size, 4, none⟩ = some (.slice s4 s5 s6) ∧ w'.cell? ⟨g7, I * 15 + 10, none⟩ = some (.int .i64 K1) ∧ w'.cell? ⟨g7, I * 15 + 11, none⟩ = some (.string N1) ∧ w'.cell? ⟨g7, I * 15 + 12, none⟩ = some (.string X1) ∧ w'.cell? ⟨g7, I * 15 + 13, none⟩ = some (.slice m1 m2 m3) ∧ w'.cell? ⟨g7, I * 15 + 14, none⟩ = some (.slice m4 m5 m6)))) := ⟨fun W hb => by
                have hb7 := HB9.out.trans (hb.mono HB9.out.size)
                obtain ⟨_, k0, k1, k2, k3, k4, k5, k6, k7, k8, k9⟩ := HQ7.out W hb7
                obtain ⟨l0, l1, l2, l3, l4⟩ := HM.out W hb7
                have hz := hbz.keep hb
                exact ⟨hb, k0, k1, k2, k3, k4, k5, k6, k7, k8, k9, hz.c0, hz.c1, hz.c2, hz.c3, hz.c4, l0, l1, l2, l3, l4⟩⟩
              have HSM : Fact (∀ W, Below W9.heap.size W9 W → Calls Try.prog 21 #[.agg #[.int .i64 K1, .string N1, .string X1, .slice s1 s2 s3, .slice s4 s5 s6], .agg #[.int .i64 K1, .string N1, .string X1, .slice m1 m2 m3, .slice m4 m5 m6]] W fun e w' => e = .returned (.bool true) ∧ Below W.heap.size W w') := ⟨fun W hb => same7 (d := ⟨K1, N1, X1, A1⟩) ((HLS.out.below hb).here hb.size) (HLM.out W (HB9.out.trans (hb.mono HB9.out.size)))⟩
              have HSA : Fact (∀ W, Below W9.heap.size W9 W → Calls Try.prog 21 #[.agg #[.int .i64 K, .string N, .string X, .slice r1 r2 r3, .slice r4 kl r5], .agg #[.int .i64 K, .string N, .string X, .slice p1 p2 p3, .slice q1 kl q2]] W fun e w' => e = .returned (.bool true) ∧ Below W.heap.size W w') := ⟨fun W hb => HSAME.out W (HB9.out.trans (hb.mono HB9.out.size))⟩
              clear c0 c1 c2 c3 c4 x0 x1 x2 x3 x4 hb89 hB89 hb8 hbz hW9 hls
              rw [HW9.out]
              have mz9 := HMZ.out W9 HB9.out
              go_wp2_with (go_at_call 23; refine (within_any g6 n l6 I _ _ _ hnl6 hn6 (HIN.out _ HB9.out)).mono ?_; rintro e wW ⟨rfl, hw1⟩; have hw2 := hw1.symm; subst hw2; clear hw1)
              have hT0 : Below W9.heap.size W9 W9.drew ∧ (W9.drew.cell? ⟨w.heap.size, 0, none⟩ = some (.int .i64 K) ∧ W9.drew.cell? ⟨w.heap.size, 1, none⟩ = some (.string N) ∧ W9.drew.cell? ⟨w.heap.size, 2, none⟩ = some (.string X) ∧ W9.drew.cell? ⟨w.heap.size, 3, none⟩ = some (.slice p1 p2 p3) ∧ W9.drew.cell? ⟨w.heap.size, 4, none⟩ = some (.slice q1 kl q2) ∧ W9.drew.cell? ⟨w4.heap.size, 0, none⟩ = some (.int .i64 K) ∧ W9.drew.cell? ⟨w4.heap.size, 1, none⟩ = some (.string N) ∧ W9.drew.cell? ⟨w4.heap.size, 2, none⟩ = some (.string X) ∧ W9.drew.cell? ⟨w4.heap.size, 3, none⟩ = some (.slice r1 r2 r3) ∧ W9.drew.cell? ⟨w4.heap.size, 4, none⟩ = some (.slice r4 kl r5) ∧ W9.drew.cell? ⟨w8.heap.size, 0, none⟩ = some (.int .i64 K1) ∧ W9.drew.cell? ⟨w8.heap.size, 1, none⟩ = some (.string N1) ∧ W9.drew.cell? ⟨w8.heap.size, 2, none⟩ = some (.string X1) ∧ W9.drew.cell? ⟨w8.heap.size, 3, none⟩ = some (.slice s1 s2 s3) ∧ W9.drew.cell? ⟨w8.heap.size, 4, none⟩ = some (.slice s4 s5 s6) ∧ W9.drew.cell? ⟨g7, I * 15 + 10, none⟩ = some (.int .i64 K1) ∧ W9.drew.cell? ⟨g7, I * 15 + 11, none⟩ = some (.string N1) ∧ W9.drew.cell? ⟨g7, I * 15 + 12, none⟩ = some (.string X1) ∧ W9.drew.cell? ⟨g7, I * 15 + 13, none⟩ = some (.slice m1 m2 m3) ∧ W9.drew.cell? ⟨g7, I * 15 + 14, none⟩ = some (.slice m4 m5 m6)) := HQ9.out W9.drew (Below.refl _ W9).drew
              have tok1 : True := trivial
              go_region_held3 (fun w' => Below W9.heap.size W9 w' ∧ (w'.cell? ⟨w.heap.size, 0, none⟩ = some (.int .i64 K) ∧ w'.cell? ⟨w.heap.size, 1, none⟩ = some (.string N) ∧ w'.cell? ⟨w.heap.size, 2, none⟩ = some (.string X) ∧ w'.cell? ⟨w.heap.size, 3, none⟩ = some (.slice p1 p2 p3) ∧ w'.cell? ⟨w.heap.size, 4, none⟩ = some (.slice q1 kl q2) ∧ w'.cell? ⟨w4.heap.size, 0, none⟩ = some (.int .i64 K) ∧ w'.cell? ⟨w4.heap.size, 1, none⟩ = some (.string N) ∧ w'.cell? ⟨w4.heap.size, 2, none⟩ = some (.string X) ∧ w'.cell? ⟨w4.heap.size, 3, none⟩ = some (.slice r1 r2 r3) ∧ w'.cell? ⟨w4.heap.size, 4, none⟩ = some (.slice r4 kl r5) ∧ w'.cell? ⟨w8.heap.size, 0, none⟩ = some (.int .i64 K1) ∧ w'.cell? ⟨w8.heap.size, 1, none⟩ = some (.string N1) ∧ w'.cell? ⟨w8.heap.size, 2, none⟩ = some (.string X1) ∧ w'.cell? ⟨w8.heap.size, 3, none⟩ = some (.slice s1 s2 s3) ∧ w'.cell? ⟨w8.heap.size, 4, none⟩ = some (.slice s4 s5 s6) ∧ w'.cell? ⟨g7, I * 15 + 10, none⟩ = some (.int .i64 K1) ∧ w'.cell? ⟨g7, I * 15 + 11, none⟩ = some (.string N1) ∧ w'.cell? ⟨g7, I * 15 + 12, none⟩ = some (.string X1) ∧ w'.cell? ⟨g7, I * 15 + 13, none⟩ = some (.slice m1 m2 m3) ∧ w'.cell? ⟨g7, I * 15 + 14, none⟩ = some (.slice m4 m5 m6)))
                (first | with_reducible exact hT0 | with_reducible assumption)
                (first
                  | (go_at_call 21; have _t := tok1; refine (HSM.out _ hT0.1).mono ?_; rintro e wR ⟨rfl, hbR⟩; have hT1 := HQ9.out wR (hT0.1.trans (hbR.mono hT0.1.size)); clear tok1 _t)
                  | (go_at_call 21; refine (HSA.out _ hT1.1).mono ?_; rintro e wR2 ⟨rfl, hbR2⟩; have hT2 := HQ9.out wR2 (hT1.1.trans (hbR2.mono hT1.1.size)))
                  | (go_at_call 10; refine (awake7_true _).mono ?_; rintro e wQ ⟨rfl, hbQ⟩; have hT3 := HQ9.out wQ (hT2.1.trans (hbQ.mono hT2.1.size))))
              go_wp2_with fail
              go_ret
              have h79 := HB9.out.trans (hT3.1.mono HB9.out.size)
              exact ⟨rfl, HB5.out.trans ((HB7.out.trans (h79.mono HB7.out.size)).mono HB5.out.size)⟩
      · have ho : id < 0 ∨ (n : Int) ≤ id := by omega
        have HSUB := Fact.mk (sub7_no id hn.out ho (HLX7.out wr HBR.out) HLIM.out)
        have HIN : Fact (∀ W, In7 g6 n id of W false) := ⟨fun W => ⟨.inl ⟨rfl, ho⟩⟩⟩
        have hcs : (id < 0 ∧ ¬ 0 ≤ id ∧ decide (0 ≤ id) = false) ∨ (0 ≤ id ∧ (n : Int) ≤ id ∧ ¬ id < n ∧ decide (id < n) = false) := by
          by_cases h0 : id < 0
          · exact .inl ⟨h0, by omega, decide_eq_false (by omega)⟩
          · exact .inr ⟨by omega, by omega, by omega, decide_eq_false (by omega)⟩
        have HZS : Fact (∀ W : World, Calls Try.prog 21 #[.agg #[.int .i64 0, .string ⟨#[]⟩, .string ⟨#[]⟩, .slice none 0 0, .slice none 0 0], .agg #[.int .i64 0, .string ⟨#[]⟩, .string ⟨#[]⟩, .slice none 0 0, .slice none 0 0]] W fun e w' => e = .returned (.bool true) ∧ Below W.heap.size W w') := ⟨fun W => same7 (d := zeroN) (k := .nil) ⟨AS.nothing, FL.nothing⟩ ⟨AS.nothing, FL.nothing⟩⟩
        clear hid ho
        rcases hcs with ⟨a1, a2, a3⟩ | ⟨a1, a2, a3, a4⟩
        · as_aux_lemma =>
            go_upto_region 14 with (go_at_call 22; refine HSUB.out.mono ?_; rintro e w8 ⟨rfl, hb8⟩)
            obtain ⟨W9, hW9⟩ : ∃ W9, w8.alloc (.cells #[.int .i64 0, .string ⟨#[]⟩, .string ⟨#[]⟩, .slice none 0 0, .slice none 0 0] 25) = W9 := ⟨_, rfl⟩
            have hb89 : Below w8.heap.size w8 W9 := by rw [← hW9]; exact (Below.refl _ w8).alloc (Nat.le_refl _) _
            have hB89 : Below w7.heap.size w7 w8 := HBR.out.trans (hb8.mono HBR.out.size)
            have HB9 : Fact (Below w7.heap.size w7 W9) := ⟨hB89.trans (hb89.mono hB89.size)⟩
            have hbz : Box5 w8.heap.size 0 ⟨#[]⟩ ⟨#[]⟩ (.slice none 0 0) (.slice none 0 0) W9 := by rw [← hW9]; exact Box5.new _ _ _ _ _ _ _
            have HW9 := Fact.mk hW9
            have HBZ := Fact.mk hbz
            clear c0 c1 c2 c3 c4 x0 x1 x2 x3 x4 hb89 hB89 hb8 hbz hW9
            rw [HW9.out]
            obtain ⟨_, c0, c1, c2, c3, c4, x0, x1, x2, x3, x4⟩ := HQ7.out W9 HB9.out
            have z0 := HBZ.out.c0
            have z1 := HBZ.out.c1
            have z2 := HBZ.out.c2
            have z3 := HBZ.out.c3
            have z4 := HBZ.out.c4
            go_wp2_with (first
              | (go_at_call 23; refine (within_any g6 n l6 id of _ false hnl6 hn6 (HIN.out _)).mono ?_; rintro e wW ⟨rfl, hw1⟩; have hw2 := hw1.symm; subst hw2; clear hw1)
              | (go_at_call 21; refine (HZS.out _).mono ?_; rintro e wZ ⟨rfl, hbZ⟩))
            have HBZ9 : Fact (Below w7.heap.size w7 wZ) := ⟨HB9.out.trans (hbZ.mono HB9.out.size)⟩
            have hT0 : Below w7.heap.size w7 wZ.drew ∧ (wZ.drew.cell? ⟨w.heap.size, 0, none⟩ = some (.int .i64 K) ∧ wZ.drew.cell? ⟨w.heap.size, 1, none⟩ = some (.string N) ∧ wZ.drew.cell? ⟨w.heap.size, 2, none⟩ = some (.string X) ∧ wZ.drew.cell? ⟨w.heap.size, 3, none⟩ = some (.slice p1 p2 p3) ∧ wZ.drew.cell? ⟨w.heap.size, 4, none⟩ = some (.slice q1 kl q2) ∧ wZ.drew.cell? ⟨w4.heap.size, 0, none⟩ = some (.int .i64 K) ∧ wZ.drew.cell? ⟨w4.heap.size, 1, none⟩ = some (.string N) ∧ wZ.drew.cell? ⟨w4.heap.size, 2, none⟩ = some (.string X) ∧ wZ.drew.cell? ⟨w4.heap.size, 3, none⟩ = some (.slice r1 r2 r3) ∧ wZ.drew.cell? ⟨w4.heap.size, 4, none⟩ = some (.slice r4 kl r5)) := HQ7.out wZ.drew HBZ9.out.drew
            clear c0 c1 c2 c3 c4 x0 x1 x2 x3 x4 z0 z1 z2 z3 z4 hbZ
            refine wp_region_held_drew (S := (fun w' => Below w7.heap.size w7 w' ∧ (w'.cell? ⟨w.heap.size, 0, none⟩ = some (.int .i64 K) ∧ w'.cell? ⟨w.heap.size, 1, none⟩ = some (.string N) ∧ w'.cell? ⟨w.heap.size, 2, none⟩ = some (.string X) ∧ w'.cell? ⟨w.heap.size, 3, none⟩ = some (.slice p1 p2 p3) ∧ w'.cell? ⟨w.heap.size, 4, none⟩ = some (.slice q1 kl q2) ∧ w'.cell? ⟨w4.heap.size, 0, none⟩ = some (.int .i64 K) ∧ w'.cell? ⟨w4.heap.size, 1, none⟩ = some (.string N) ∧ w'.cell? ⟨w4.heap.size, 2, none⟩ = some (.string X) ∧ w'.cell? ⟨w4.heap.size, 3, none⟩ = some (.slice r1 r2 r3) ∧ w'.cell? ⟨w4.heap.size, 4, none⟩ = some (.slice r4 kl r5)))) (by kernel_rfl) hT0 (fun _ => ?_)
            refine wpAnyH_take (i := 0) (v := ?v0n1) rfl (by kernel_rfl) (by kernel_rfl) (by kernel_rfl) (fun _ _ _ h => h) (Or.inl ⟨by rfl, ?hy0n1⟩) hT0 ?rr0n1
            case hy0n1 =>
              intro w hSw
              go_simp
              try with_reducible rfl
            try simp only [Act.put, List.getElem_toArray, List.getElem_cons_succ, List.getElem_cons_zero, List.setIfInBounds_toArray, List.set_cons_zero, List.set_cons_succ]
            refine wpAnyH_take (i := 1) (v := ?v1n2) rfl (by kernel_rfl) (by kernel_rfl) (by kernel_rfl) (fun _ _ _ h => h) (Or.inl ⟨by rfl, ?hy1n2⟩) hT0 ?rr1n2
            case hy1n2 =>
              intro w hSw
              go_simp
              try with_reducible rfl
            try simp only [Act.put, List.getElem_toArray, List.getElem_cons_succ, List.getElem_cons_zero, List.setIfInBounds_toArray, List.set_cons_zero, List.set_cons_succ]
            refine wpAnyH_take (i := 2) (v := ?v2n3) rfl (by kernel_rfl) (by kernel_rfl) (by kernel_rfl) (fun _ _ _ h => h) (Or.inl ⟨by rfl, ?hy2n3⟩) hT0 ?rr2n3
            case hy2n3 =>
              intro w hSw
              go_simp
              try with_reducible rfl
            try simp only [Act.put, List.getElem_toArray, List.getElem_cons_succ, List.getElem_cons_zero, List.setIfInBounds_toArray, List.set_cons_zero, List.set_cons_succ]
            refine wpAnyH_take (i := 3) (v := undef) rfl (by kernel_rfl) (by kernel_rfl) (by kernel_rfl) (fun _ _ _ h => h) (Or.inr ⟨by rfl, rfl⟩) hT0 ?_
            try simp only [Act.put, List.getElem_toArray, List.getElem_cons_succ, List.getElem_cons_zero, List.setIfInBounds_toArray, List.set_cons_zero, List.set_cons_succ]
            refine wpAnyH_take (i := 4) (v := undef) rfl (by kernel_rfl) (by kernel_rfl) (by kernel_rfl) (fun _ _ _ h => h) (Or.inr ⟨by rfl, rfl⟩) hT0 ?_
            try simp only [Act.put, List.getElem_toArray, List.getElem_cons_succ, List.getElem_cons_zero, List.setIfInBounds_toArray, List.set_cons_zero, List.set_cons_succ]
            refine wpAnyH_take (i := 5) (v := undef) rfl (by kernel_rfl) (by kernel_rfl) (by kernel_rfl) (fun _ _ _ h => h) (Or.inr ⟨by rfl, rfl⟩) hT0 ?_
            try simp only [Act.put, List.getElem_toArray, List.getElem_cons_succ, List.getElem_cons_zero, List.setIfInBounds_toArray, List.set_cons_zero, List.set_cons_succ]
            refine wpAnyH_take (i := 6) (v := undef) rfl (by kernel_rfl) (by kernel_rfl) (by kernel_rfl) (fun _ _ _ h => h) (Or.inr ⟨by rfl, rfl⟩) hT0 ?_
            try simp only [Act.put, List.getElem_toArray, List.getElem_cons_succ, List.getElem_cons_zero, List.setIfInBounds_toArray, List.set_cons_zero, List.set_cons_succ]
            refine wpAnyH_take (i := 7) (v := undef) rfl (by kernel_rfl) (by kernel_rfl) (by kernel_rfl) (fun _ _ _ h => h) (Or.inr ⟨by rfl, rfl⟩) hT0 ?_
            try simp only [Act.put, List.getElem_toArray, List.getElem_cons_succ, List.getElem_cons_zero, List.setIfInBounds_toArray, List.set_cons_zero, List.set_cons_succ]
            refine wpAnyH_take (i := 8) (v := undef) rfl (by kernel_rfl) (by kernel_rfl) (by kernel_rfl) (fun _ _ _ h => h) (Or.inr ⟨by rfl, rfl⟩) hT0 ?_
            try simp only [Act.put, List.getElem_toArray, List.getElem_cons_succ, List.getElem_cons_zero, List.setIfInBounds_toArray, List.set_cons_zero, List.set_cons_succ]
            refine wpAnyH_take (i := 9) (v := undef) rfl (by kernel_rfl) (by kernel_rfl) (by kernel_rfl) (fun _ _ _ h => h) (Or.inr ⟨by rfl, rfl⟩) hT0 ?_
            try simp only [Act.put, List.getElem_toArray, List.getElem_cons_succ, List.getElem_cons_zero, List.setIfInBounds_toArray, List.set_cons_zero, List.set_cons_succ]
            refine wpAnyH_take (i := 10) (v := undef) rfl (by kernel_rfl) (by kernel_rfl) (by kernel_rfl) (fun _ _ _ h => h) (Or.inr ⟨by rfl, rfl⟩) hT0 ?_
            try simp only [Act.put, List.getElem_toArray, List.getElem_cons_succ, List.getElem_cons_zero, List.setIfInBounds_toArray, List.set_cons_zero, List.set_cons_succ]
            refine wpAnyH_take (i := 11) (v := undef) rfl (by kernel_rfl) (by kernel_rfl) (by kernel_rfl) (fun _ _ _ h => h) (Or.inr ⟨by rfl, rfl⟩) hT0 ?_
            try simp only [Act.put, List.getElem_toArray, List.getElem_cons_succ, List.getElem_cons_zero, List.setIfInBounds_toArray, List.set_cons_zero, List.set_cons_succ]
            refine wpAnyH_take (i := 12) (v := undef) rfl (by kernel_rfl) (by kernel_rfl) (by kernel_rfl) (fun _ _ _ h => h) (Or.inr ⟨by rfl, rfl⟩) hT0 ?_
            try simp only [Act.put, List.getElem_toArray, List.getElem_cons_succ, List.getElem_cons_zero, List.setIfInBounds_toArray, List.set_cons_zero, List.set_cons_succ]
            refine wpAnyH_take (i := 13) (v := undef) rfl (by kernel_rfl) (by kernel_rfl) (by kernel_rfl) (fun _ _ _ h => h) (Or.inr ⟨by rfl, rfl⟩) hT0 ?_
            try simp only [Act.put, List.getElem_toArray, List.getElem_cons_succ, List.getElem_cons_zero, List.setIfInBounds_toArray, List.set_cons_zero, List.set_cons_succ]
            refine wpAnyH_take (i := 14) (v := undef) rfl (by kernel_rfl) (by kernel_rfl) (by kernel_rfl) (fun _ _ _ h => h) (Or.inr ⟨by rfl, rfl⟩) hT0 ?_
            try simp only [Act.put, List.getElem_toArray, List.getElem_cons_succ, List.getElem_cons_zero, List.setIfInBounds_toArray, List.set_cons_zero, List.set_cons_succ]
            refine wpAnyH_take (i := 15) (v := ?v15n4) rfl (by kernel_rfl) (by kernel_rfl) (by kernel_rfl) (fun _ _ _ h => h) (Or.inl ⟨by rfl, ?hy15n4⟩) hT0 ?rr15n4
            case hy15n4 =>
              intro w hSw
              go_simp
              try with_reducible rfl
            try simp only [Act.put, List.getElem_toArray, List.getElem_cons_succ, List.getElem_cons_zero, List.setIfInBounds_toArray, List.set_cons_zero, List.set_cons_succ]
            refine wpAnyH_take (i := 16) (v := ?v16n5) rfl (by kernel_rfl) (by kernel_rfl) (by kernel_rfl) (fun _ _ _ h => h) (Or.inl ⟨by rfl, ?hy16n5⟩) hT0 ?rr16n5
            case hy16n5 =>
              intro w hSw
              go_simp
              try with_reducible rfl
            try simp only [Act.put, List.getElem_toArray, List.getElem_cons_succ, List.getElem_cons_zero, List.setIfInBounds_toArray, List.set_cons_zero, List.set_cons_succ]
            refine wpAnyH_take (i := 17) (v := ?v17n6) rfl (by kernel_rfl) (by kernel_rfl) (by kernel_rfl) (fun _ _ _ h => h) (Or.inl ⟨by rfl, ?hy17n6⟩) hT0 ?rr17n6
            case hy17n6 =>
              intro w hSw
              go_simp
              try with_reducible rfl
            try simp only [Act.put, List.getElem_toArray, List.getElem_cons_succ, List.getElem_cons_zero, List.setIfInBounds_toArray, List.set_cons_zero, List.set_cons_succ]
            refine wpAnyH_take (i := 18) (v := ?v18n7) rfl (by kernel_rfl) (by kernel_rfl) (by kernel_rfl) (fun _ _ _ h => h) (Or.inl ⟨by rfl, ?hy18n7⟩) hT0 ?rr18n7
            case hy18n7 =>
              intro w hSw
              go_simp
              try with_reducible rfl
            try simp only [Act.put, List.getElem_toArray, List.getElem_cons_succ, List.getElem_cons_zero, List.setIfInBounds_toArray, List.set_cons_zero, List.set_cons_succ]
            refine wpAnyH_ready (rs := [19]) (by kernel_rfl) (by simp) ?_
            refine AllReadyH.cons rfl (fun K hK => ?_) AllReadyH.nil
            go_simp
            refine (HSAME.out _ hT0.1).mono ?_
            rintro e wR ⟨rfl, hbR⟩
            have hT1 := HQ7.out wR (hT0.1.trans (hbR.mono hT0.1.size))
            refine hK.out _ _ hT1 (fun _ => ?_)
            clear hK K
            refine wpAnyH_take (i := 20) (v := ?v20n8) rfl (by kernel_rfl) (by kernel_rfl) (by kernel_rfl) (fun _ _ _ h => h) (Or.inl ⟨by rfl, ?hy20n8⟩) hT1 ?rr20n8
            case hy20n8 =>
              intro w hSw
              go_simp
              try with_reducible rfl
            try simp only [Act.put, List.getElem_toArray, List.getElem_cons_succ, List.getElem_cons_zero, List.setIfInBounds_toArray, List.set_cons_zero, List.set_cons_succ]
            refine wpAnyH_take (i := 21) (v := ?v21n9) rfl (by kernel_rfl) (by kernel_rfl) (by kernel_rfl) (fun _ _ _ h => h) (Or.inl ⟨by rfl, ?hy21n9⟩) hT1 ?rr21n9
            case hy21n9 =>
              intro w hSw
              go_simp
              try with_reducible rfl
            try simp only [Act.put, List.getElem_toArray, List.getElem_cons_succ, List.getElem_cons_zero, List.setIfInBounds_toArray, List.set_cons_zero, List.set_cons_succ]
            refine wpAnyH_ready (rs := [22]) (by kernel_rfl) (by simp) ?_
            refine AllReadyH.cons rfl (fun K hK => ?_) AllReadyH.nil
            go_simp
            refine (awake7_true _).mono ?_
            rintro e wQ ⟨rfl, hbQ⟩
            have hT2 := HQ7.out wQ (hT1.1.trans (hbQ.mono hT1.1.size))
            refine hK.out _ _ hT2 (fun _ => ?_)
            clear hK K
            refine wpAnyH_take (i := 23) (v := ?v23n10) rfl (by kernel_rfl) (by kernel_rfl) (by kernel_rfl) (fun _ _ _ h => h) (Or.inl ⟨by rfl, ?hy23n10⟩) hT2 ?rr23n10
            case hy23n10 =>
              intro w hSw
              go_simp
              try with_reducible rfl
            try simp only [Act.put, List.getElem_toArray, List.getElem_cons_succ, List.getElem_cons_zero, List.setIfInBounds_toArray, List.set_cons_zero, List.set_cons_succ]
            refine wpAnyH_take (i := 24) (v := ?v24n11) rfl (by kernel_rfl) (by kernel_rfl) (by kernel_rfl) (fun _ _ _ h => h) (Or.inl ⟨by rfl, ?hy24n11⟩) hT2 ?rr24n11
            case hy24n11 =>
              intro w hSw
              go_simp
              try with_reducible rfl
            try simp only [Act.put, List.getElem_toArray, List.getElem_cons_succ, List.getElem_cons_zero, List.setIfInBounds_toArray, List.set_cons_zero, List.set_cons_succ]
            refine wpAnyH_done (by kernel_rfl) ?_ _
            go_wp2_with fail
            go_ret
            exact ⟨rfl, HB5.out.trans ((HB7.out.trans (hT2.1.mono HB7.out.size)).mono HB5.out.size)⟩
        · as_aux_lemma =>
            go_upto_region 14 with (go_at_call 22; refine HSUB.out.mono ?_; rintro e w8 ⟨rfl, hb8⟩)
            obtain ⟨W9, hW9⟩ : ∃ W9, w8.alloc (.cells #[.int .i64 0, .string ⟨#[]⟩, .string ⟨#[]⟩, .slice none 0 0, .slice none 0 0] 25) = W9 := ⟨_, rfl⟩
            have hb89 : Below w8.heap.size w8 W9 := by rw [← hW9]; exact (Below.refl _ w8).alloc (Nat.le_refl _) _
            have hB89 : Below w7.heap.size w7 w8 := HBR.out.trans (hb8.mono HBR.out.size)
            have HB9 : Fact (Below w7.heap.size w7 W9) := ⟨hB89.trans (hb89.mono hB89.size)⟩
            have hbz : Box5 w8.heap.size 0 ⟨#[]⟩ ⟨#[]⟩ (.slice none 0 0) (.slice none 0 0) W9 := by rw [← hW9]; exact Box5.new _ _ _ _ _ _ _
            have HW9 := Fact.mk hW9
            have HBZ := Fact.mk hbz
            clear c0 c1 c2 c3 c4 x0 x1 x2 x3 x4 hb89 hB89 hb8 hbz hW9
            rw [HW9.out]
            obtain ⟨_, c0, c1, c2, c3, c4, x0, x1, x2, x3, x4⟩ := HQ7.out W9 HB9.out
            have z0 := HBZ.out.c0
            have z1 := HBZ.out.c1
            have z2 := HBZ.out.c2
            have z3 := HBZ.out.c3
            have z4 := HBZ.out.c4
            go_wp2_with (first
              | (go_at_call 23; refine (within_any g6 n l6 id of _ false hnl6 hn6 (HIN.out _)).mono ?_; rintro e wW ⟨rfl, hw1⟩; have hw2 := hw1.symm; subst hw2; clear hw1)
              | (go_at_call 21; refine (HZS.out _).mono ?_; rintro e wZ ⟨rfl, hbZ⟩))
            have HBZ9 : Fact (Below w7.heap.size w7 wZ) := ⟨HB9.out.trans (hbZ.mono HB9.out.size)⟩
            have hT0 : Below w7.heap.size w7 wZ.drew ∧ (wZ.drew.cell? ⟨w.heap.size, 0, none⟩ = some (.int .i64 K) ∧ wZ.drew.cell? ⟨w.heap.size, 1, none⟩ = some (.string N) ∧ wZ.drew.cell? ⟨w.heap.size, 2, none⟩ = some (.string X) ∧ wZ.drew.cell? ⟨w.heap.size, 3, none⟩ = some (.slice p1 p2 p3) ∧ wZ.drew.cell? ⟨w.heap.size, 4, none⟩ = some (.slice q1 kl q2) ∧ wZ.drew.cell? ⟨w4.heap.size, 0, none⟩ = some (.int .i64 K) ∧ wZ.drew.cell? ⟨w4.heap.size, 1, none⟩ = some (.string N) ∧ wZ.drew.cell? ⟨w4.heap.size, 2, none⟩ = some (.string X) ∧ wZ.drew.cell? ⟨w4.heap.size, 3, none⟩ = some (.slice r1 r2 r3) ∧ wZ.drew.cell? ⟨w4.heap.size, 4, none⟩ = some (.slice r4 kl r5)) := HQ7.out wZ.drew HBZ9.out.drew
            clear c0 c1 c2 c3 c4 x0 x1 x2 x3 x4 z0 z1 z2 z3 z4 hbZ
            refine wp_region_held_drew (S := (fun w' => Below w7.heap.size w7 w' ∧ (w'.cell? ⟨w.heap.size, 0, none⟩ = some (.int .i64 K) ∧ w'.cell? ⟨w.heap.size, 1, none⟩ = some (.string N) ∧ w'.cell? ⟨w.heap.size, 2, none⟩ = some (.string X) ∧ w'.cell? ⟨w.heap.size, 3, none⟩ = some (.slice p1 p2 p3) ∧ w'.cell? ⟨w.heap.size, 4, none⟩ = some (.slice q1 kl q2) ∧ w'.cell? ⟨w4.heap.size, 0, none⟩ = some (.int .i64 K) ∧ w'.cell? ⟨w4.heap.size, 1, none⟩ = some (.string N) ∧ w'.cell? ⟨w4.heap.size, 2, none⟩ = some (.string X) ∧ w'.cell? ⟨w4.heap.size, 3, none⟩ = some (.slice r1 r2 r3) ∧ w'.cell? ⟨w4.heap.size, 4, none⟩ = some (.slice r4 kl r5)))) (by kernel_rfl) hT0 (fun _ => ?_)
            refine wpAnyH_take (i := 0) (v := ?v0n12) rfl (by kernel_rfl) (by kernel_rfl) (by kernel_rfl) (fun _ _ _ h => h) (Or.inl ⟨by rfl, ?hy0n12⟩) hT0 ?rr0n12
            case hy0n12 =>
              intro w hSw
              go_simp
              try with_reducible rfl
            try simp only [Act.put, List.getElem_toArray, List.getElem_cons_succ, List.getElem_cons_zero, List.setIfInBounds_toArray, List.set_cons_zero, List.set_cons_succ]
            refine wpAnyH_take (i := 1) (v := ?v1n13) rfl (by kernel_rfl) (by kernel_rfl) (by kernel_rfl) (fun _ _ _ h => h) (Or.inl ⟨by rfl, ?hy1n13⟩) hT0 ?rr1n13
            case hy1n13 =>
              intro w hSw
              go_simp
              try with_reducible rfl
            try simp only [Act.put, List.getElem_toArray, List.getElem_cons_succ, List.getElem_cons_zero, List.setIfInBounds_toArray, List.set_cons_zero, List.set_cons_succ]
            refine wpAnyH_take (i := 2) (v := ?v2n14) rfl (by kernel_rfl) (by kernel_rfl) (by kernel_rfl) (fun _ _ _ h => h) (Or.inl ⟨by rfl, ?hy2n14⟩) hT0 ?rr2n14
            case hy2n14 =>
              intro w hSw
              go_simp
              try with_reducible rfl
            try simp only [Act.put, List.getElem_toArray, List.getElem_cons_succ, List.getElem_cons_zero, List.setIfInBounds_toArray, List.set_cons_zero, List.set_cons_succ]
            refine wpAnyH_take (i := 3) (v := undef) rfl (by kernel_rfl) (by kernel_rfl) (by kernel_rfl) (fun _ _ _ h => h) (Or.inr ⟨by rfl, rfl⟩) hT0 ?_
            try simp only [Act.put, List.getElem_toArray, List.getElem_cons_succ, List.getElem_cons_zero, List.setIfInBounds_toArray, List.set_cons_zero, List.set_cons_succ]
            refine wpAnyH_take (i := 4) (v := undef) rfl (by kernel_rfl) (by kernel_rfl) (by kernel_rfl) (fun _ _ _ h => h) (Or.inr ⟨by rfl, rfl⟩) hT0 ?_
            try simp only [Act.put, List.getElem_toArray, List.getElem_cons_succ, List.getElem_cons_zero, List.setIfInBounds_toArray, List.set_cons_zero, List.set_cons_succ]
            refine wpAnyH_take (i := 5) (v := undef) rfl (by kernel_rfl) (by kernel_rfl) (by kernel_rfl) (fun _ _ _ h => h) (Or.inr ⟨by rfl, rfl⟩) hT0 ?_
            try simp only [Act.put, List.getElem_toArray, List.getElem_cons_succ, List.getElem_cons_zero, List.setIfInBounds_toArray, List.set_cons_zero, List.set_cons_succ]
            refine wpAnyH_take (i := 6) (v := undef) rfl (by kernel_rfl) (by kernel_rfl) (by kernel_rfl) (fun _ _ _ h => h) (Or.inr ⟨by rfl, rfl⟩) hT0 ?_
            try simp only [Act.put, List.getElem_toArray, List.getElem_cons_succ, List.getElem_cons_zero, List.setIfInBounds_toArray, List.set_cons_zero, List.set_cons_succ]
            refine wpAnyH_take (i := 7) (v := undef) rfl (by kernel_rfl) (by kernel_rfl) (by kernel_rfl) (fun _ _ _ h => h) (Or.inr ⟨by rfl, rfl⟩) hT0 ?_
            try simp only [Act.put, List.getElem_toArray, List.getElem_cons_succ, List.getElem_cons_zero, List.setIfInBounds_toArray, List.set_cons_zero, List.set_cons_succ]
            refine wpAnyH_take (i := 8) (v := undef) rfl (by kernel_rfl) (by kernel_rfl) (by kernel_rfl) (fun _ _ _ h => h) (Or.inr ⟨by rfl, rfl⟩) hT0 ?_
            try simp only [Act.put, List.getElem_toArray, List.getElem_cons_succ, List.getElem_cons_zero, List.setIfInBounds_toArray, List.set_cons_zero, List.set_cons_succ]
            refine wpAnyH_take (i := 9) (v := undef) rfl (by kernel_rfl) (by kernel_rfl) (by kernel_rfl) (fun _ _ _ h => h) (Or.inr ⟨by rfl, rfl⟩) hT0 ?_
            try simp only [Act.put, List.getElem_toArray, List.getElem_cons_succ, List.getElem_cons_zero, List.setIfInBounds_toArray, List.set_cons_zero, List.set_cons_succ]
            refine wpAnyH_take (i := 10) (v := undef) rfl (by kernel_rfl) (by kernel_rfl) (by kernel_rfl) (fun _ _ _ h => h) (Or.inr ⟨by rfl, rfl⟩) hT0 ?_
            try simp only [Act.put, List.getElem_toArray, List.getElem_cons_succ, List.getElem_cons_zero, List.setIfInBounds_toArray, List.set_cons_zero, List.set_cons_succ]
            refine wpAnyH_take (i := 11) (v := undef) rfl (by kernel_rfl) (by kernel_rfl) (by kernel_rfl) (fun _ _ _ h => h) (Or.inr ⟨by rfl, rfl⟩) hT0 ?_
            try simp only [Act.put, List.getElem_toArray, List.getElem_cons_succ, List.getElem_cons_zero, List.setIfInBounds_toArray, List.set_cons_zero, List.set_cons_succ]
            refine wpAnyH_take (i := 12) (v := undef) rfl (by kernel_rfl) (by kernel_rfl) (by kernel_rfl) (fun _ _ _ h => h) (Or.inr ⟨by rfl, rfl⟩) hT0 ?_
            try simp only [Act.put, List.getElem_toArray, List.getElem_cons_succ, List.getElem_cons_zero, List.setIfInBounds_toArray, List.set_cons_zero, List.set_cons_succ]
            refine wpAnyH_take (i := 13) (v := undef) rfl (by kernel_rfl) (by kernel_rfl) (by kernel_rfl) (fun _ _ _ h => h) (Or.inr ⟨by rfl, rfl⟩) hT0 ?_
            try simp only [Act.put, List.getElem_toArray, List.getElem_cons_succ, List.getElem_cons_zero, List.setIfInBounds_toArray, List.set_cons_zero, List.set_cons_succ]
            refine wpAnyH_take (i := 14) (v := undef) rfl (by kernel_rfl) (by kernel_rfl) (by kernel_rfl) (fun _ _ _ h => h) (Or.inr ⟨by rfl, rfl⟩) hT0 ?_
            try simp only [Act.put, List.getElem_toArray, List.getElem_cons_succ, List.getElem_cons_zero, List.setIfInBounds_toArray, List.set_cons_zero, List.set_cons_succ]
            refine wpAnyH_take (i := 15) (v := ?v15n15) rfl (by kernel_rfl) (by kernel_rfl) (by kernel_rfl) (fun _ _ _ h => h) (Or.inl ⟨by rfl, ?hy15n15⟩) hT0 ?rr15n15
            case hy15n15 =>
              intro w hSw
              go_simp
              try with_reducible rfl
            try simp only [Act.put, List.getElem_toArray, List.getElem_cons_succ, List.getElem_cons_zero, List.setIfInBounds_toArray, List.set_cons_zero, List.set_cons_succ]
            refine wpAnyH_take (i := 16) (v := ?v16n16) rfl (by kernel_rfl) (by kernel_rfl) (by kernel_rfl) (fun _ _ _ h => h) (Or.inl ⟨by rfl, ?hy16n16⟩) hT0 ?rr16n16
            case hy16n16 =>
              intro w hSw
              go_simp
              try with_reducible rfl
            try simp only [Act.put, List.getElem_toArray, List.getElem_cons_succ, List.getElem_cons_zero, List.setIfInBounds_toArray, List.set_cons_zero, List.set_cons_succ]
            refine wpAnyH_take (i := 17) (v := ?v17n17) rfl (by kernel_rfl) (by kernel_rfl) (by kernel_rfl) (fun _ _ _ h => h) (Or.inl ⟨by rfl, ?hy17n17⟩) hT0 ?rr17n17
            case hy17n17 =>
              intro w hSw
              go_simp
              try with_reducible rfl
            try simp only [Act.put, List.getElem_toArray, List.getElem_cons_succ, List.getElem_cons_zero, List.setIfInBounds_toArray, List.set_cons_zero, List.set_cons_succ]
            refine wpAnyH_take (i := 18) (v := ?v18n18) rfl (by kernel_rfl) (by kernel_rfl) (by kernel_rfl) (fun _ _ _ h => h) (Or.inl ⟨by rfl, ?hy18n18⟩) hT0 ?rr18n18
            case hy18n18 =>
              intro w hSw
              go_simp
              try with_reducible rfl
            try simp only [Act.put, List.getElem_toArray, List.getElem_cons_succ, List.getElem_cons_zero, List.setIfInBounds_toArray, List.set_cons_zero, List.set_cons_succ]
            refine wpAnyH_ready (rs := [19]) (by kernel_rfl) (by simp) ?_
            refine AllReadyH.cons rfl (fun K hK => ?_) AllReadyH.nil
            go_simp
            refine (HSAME.out _ hT0.1).mono ?_
            rintro e wR ⟨rfl, hbR⟩
            have hT1 := HQ7.out wR (hT0.1.trans (hbR.mono hT0.1.size))
            refine hK.out _ _ hT1 (fun _ => ?_)
            clear hK K
            refine wpAnyH_take (i := 20) (v := ?v20n19) rfl (by kernel_rfl) (by kernel_rfl) (by kernel_rfl) (fun _ _ _ h => h) (Or.inl ⟨by rfl, ?hy20n19⟩) hT1 ?rr20n19
            case hy20n19 =>
              intro w hSw
              go_simp
              try with_reducible rfl
            try simp only [Act.put, List.getElem_toArray, List.getElem_cons_succ, List.getElem_cons_zero, List.setIfInBounds_toArray, List.set_cons_zero, List.set_cons_succ]
            refine wpAnyH_take (i := 21) (v := ?v21n20) rfl (by kernel_rfl) (by kernel_rfl) (by kernel_rfl) (fun _ _ _ h => h) (Or.inl ⟨by rfl, ?hy21n20⟩) hT1 ?rr21n20
            case hy21n20 =>
              intro w hSw
              go_simp
              try with_reducible rfl
            try simp only [Act.put, List.getElem_toArray, List.getElem_cons_succ, List.getElem_cons_zero, List.setIfInBounds_toArray, List.set_cons_zero, List.set_cons_succ]
            refine wpAnyH_ready (rs := [22]) (by kernel_rfl) (by simp) ?_
            refine AllReadyH.cons rfl (fun K hK => ?_) AllReadyH.nil
            go_simp
            refine (awake7_true _).mono ?_
            rintro e wQ ⟨rfl, hbQ⟩
            have hT2 := HQ7.out wQ (hT1.1.trans (hbQ.mono hT1.1.size))
            refine hK.out _ _ hT2 (fun _ => ?_)
            clear hK K
            refine wpAnyH_take (i := 23) (v := ?v23n21) rfl (by kernel_rfl) (by kernel_rfl) (by kernel_rfl) (fun _ _ _ h => h) (Or.inl ⟨by rfl, ?hy23n21⟩) hT2 ?rr23n21
            case hy23n21 =>
              intro w hSw
              go_simp
              try with_reducible rfl
            try simp only [Act.put, List.getElem_toArray, List.getElem_cons_succ, List.getElem_cons_zero, List.setIfInBounds_toArray, List.set_cons_zero, List.set_cons_succ]
            refine wpAnyH_take (i := 24) (v := ?v24n22) rfl (by kernel_rfl) (by kernel_rfl) (by kernel_rfl) (fun _ _ _ h => h) (Or.inl ⟨by rfl, ?hy24n22⟩) hT2 ?rr24n22
            case hy24n22 =>
              intro w hSw
              go_simp
              try with_reducible rfl
            try simp only [Act.put, List.getElem_toArray, List.getElem_cons_succ, List.getElem_cons_zero, List.setIfInBounds_toArray, List.set_cons_zero, List.set_cons_succ]
            refine wpAnyH_done (by kernel_rfl) ?_ _
            go_wp2_with fail
            go_ret
            exact ⟨rfl, HB5.out.trans ((HB7.out.trans (hT2.1.mono HB7.out.size)).mono HB5.out.size)⟩
end Go.Proofs.Ytjjkidenlgghkaa
