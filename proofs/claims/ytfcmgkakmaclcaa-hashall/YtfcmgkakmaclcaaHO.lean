/- All, Of, Key of any tree that lies in memory. -/
import Derived.Test.YtfcmgkakmaclcaaHNu
set_option linter.unusedVariables false
set_option linter.unusedSimpArgs false
namespace Go.Proofs.Ytfcmgkakmaclcaa
open Go.Deep (BT)
open Go.RowKit Go.Shelf M
open Bt (mx IsU mx_u ret_int)

/-- a tree that is not too great -/
structure Lim (d : Nd) (k : M.F) : Prop where
  sz : k.size + 1 ≤ 1000000
  dp : k.depth + 1 ≤ 1000000
  sl : d.ats.length + k.slots ≤ 1000000
theorem Fits.lim {d : Nd} {k : M.F} (h : Fits 0 0 d k) : Lim d k := ⟨by have := h.size; omega, by have := h.depth; omega, by have := h.slots; have := h.size; omega⟩

theorem flatN (d : Nd) (k : M.F) (va ka : Value) (n : Nat) (W : World) (hks : k.size + 1 = n) (L : Lim d k) (hl : Lies W.heap.size W d k va ka) :
    Calls Try.prog 24 #[nodeV d va ka] W fun e w' => ∃ g c its, e = .returned (.slice (some ⟨g, 0, none⟩) n c) ∧ Below W.heap.size W w' ∧ Fact (its.map (·.1) = flatT d k) ∧ Fact (w'.ownsRow W.heap.size 60 10 (.slice (some ⟨g, 0, none⟩) n c) n (cellsIt its)) ∧ Fact (∀ y ∈ its, AS (fun b => W.heap.size ≤ b) w' y.2 y.1.d.ats) := by
  refine (flat_any d k va ka W hl.a hl.f L.dp (by have := L.sz; omega) L.sl).mono ?_
  rintro e w' ⟨v, its, rfl, hb, hm, hr, ha⟩
  rw [hks] at hr
  obtain ⟨g, c, rfl⟩ := ownsRow_pos (by omega) hr
  exact ⟨g, c, its, rfl, hb, ⟨hm⟩, ⟨hr⟩, ⟨ha⟩⟩

set_option maxRecDepth 20000 in
set_option maxHeartbeats 4000000 in
theorem hall_any (d : Nd) (k : M.F) (va ka : Value) (n : Nat) (w : World) (hks : k.size + 1 = n) (L : Lim d k) (hl : Lies w.heap.size w d k va ka) :
    Calls Try.prog 12 #[nodeV d va ka] w fun e w' => ∃ g, e = .returned (.slice (some ⟨g, 0, none⟩) n n) ∧ Below w.heap.size w w' ∧ Fact (w'.ownsRow w.heap.size 32 1 (.slice (some ⟨g, 0, none⟩) n n) n (cU (finT d k))) := by
  have hn : n ≤ 1000000 := by rw [← hks]; exact L.sz
  obtain ⟨p1, p2, p3, e1⟩ := hl.a.val
  obtain ⟨q1, q2, e2⟩ := hl.f.val
  subst e1 e2
  obtain ⟨kl, hkl⟩ : ∃ kl, k.len = kl := ⟨_, rfl⟩
  rw [hkl] at hl ⊢
  clear hkl
  obtain ⟨K, N, X, A⟩ := d
  obtain ⟨W1, hW1⟩ : ∃ W1, w.alloc (.cells #[.int .i64 K, .string N, .string X, .slice p1 p2 p3, .slice q1 kl q2] 25) = W1 := ⟨_, rfl⟩
  have hB1 : Below w.heap.size w W1 := by rw [← hW1]; exact (Below.refl _ w).alloc (Nat.le_refl _) _
  have hbx : Box5 w.heap.size K N X (.slice p1 p2 p3) (.slice q1 kl q2) W1 := by rw [← hW1]; exact Box5.new _ _ _ _ _ _ _
  have hS0 : Below w.heap.size w W1.drew ∧ (W1.drew.cell? ⟨w.heap.size, 0, none⟩ = some (.int .i64 K) ∧ W1.drew.cell? ⟨w.heap.size, 1, none⟩ = some (.string N) ∧ W1.drew.cell? ⟨w.heap.size, 2, none⟩ = some (.string X) ∧ W1.drew.cell? ⟨w.heap.size, 3, none⟩ = some (.slice p1 p2 p3) ∧ W1.drew.cell? ⟨w.heap.size, 4, none⟩ = some (.slice q1 kl q2)) := ⟨hB1.drew, hbx.c0, hbx.c1, hbx.c2, hbx.c3, hbx.c4⟩
  have hbx' : Box5 w.heap.size K N X (.slice p1 p2 p3) (.slice q1 kl q2) W1.drew := ⟨hbx.c0, hbx.c1, hbx.c2, hbx.c3, hbx.c4⟩
  have HW1 := Fact.mk hW1
  have HL := Fact.mk hl
  have HLIM := Fact.mk L
  have HKS := Fact.mk hks
  have HSK : Fact (∀ w6, Below W1.drew.heap.size W1.drew w6 → (Below w.heap.size w w6 ∧ (w6.cell? ⟨w.heap.size, 0, none⟩ = some (.int .i64 K) ∧ w6.cell? ⟨w.heap.size, 1, none⟩ = some (.string N) ∧ w6.cell? ⟨w.heap.size, 2, none⟩ = some (.string X) ∧ w6.cell? ⟨w.heap.size, 3, none⟩ = some (.slice p1 p2 p3) ∧ w6.cell? ⟨w.heap.size, 4, none⟩ = some (.slice q1 kl q2)))) := ⟨fun w6 hb => by
    have hk := hbx'.keep hb
    exact ⟨hS0.1.trans (hb.mono hS0.1.size), hk.c0, hk.c1, hk.c2, hk.c3, hk.c4⟩⟩
  clear hbx' hbx hB1 hW1 hl hks L
  go_enter Try.func12, Try.ntmps12
  go_wp2_with fail
  rw [HW1.out]
  go_region_held3 (fun w' => Below w.heap.size w w' ∧ (w'.cell? ⟨w.heap.size, 0, none⟩ = some (.int .i64 K) ∧ w'.cell? ⟨w.heap.size, 1, none⟩ = some (.string N) ∧ w'.cell? ⟨w.heap.size, 2, none⟩ = some (.string X) ∧ w'.cell? ⟨w.heap.size, 3, none⟩ = some (.slice p1 p2 p3) ∧ w'.cell? ⟨w.heap.size, 4, none⟩ = some (.slice q1 kl q2)))
    (first | with_reducible exact hS0 | with_reducible assumption)
    (first
      | (go_at_call 24; refine (flatN ⟨K, N, X, A⟩ k _ _ n _ HKS.out HLIM.out ((HL.out.below hS0.1).here hS0.1.size)).mono ?_; rintro e w6 ⟨g6, c6, its, rfl, hb6, hm6, hr6, ha6⟩; have hS6 := HSK.out _ hb6)
      | (go_at_call 23; refine (numbers_any ⟨K, N, X, A⟩ k _ _ its g6 c6 n _ _ w6 ((HL.out.below hS6.1).here hS6.1.size) hr6.out hm6.out HKS.out hn HLIM.out.dp ha6.out).mono ?_; rintro e w7 ⟨g7, rfl, hb7, hr7⟩; have hS7 := HSK.out _ (hb6.trans (hb7.mono hb6.size))))
  go_wp2_with fail
  go_ret
  exact ⟨g7, rfl, hS7.1, ⟨own_lessP hr7.out hS6.1.size⟩⟩

theorem finT_len (d : Nd) (k : M.F) : (finT d k).length = k.size + 1 := by simp [finT, finF_len]
set_option maxRecDepth 20000 in
set_option maxHeartbeats 4000000 in
theorem hof_any (d : Nd) (k : M.F) (va ka : Value) (w : World) (L : Lim d k) (hl : Lies w.heap.size w d k va ka) :
    Calls Try.prog 16 #[nodeV d va ka] w fun e w' => e = .returned (.int .u64 (hT d k)) ∧ Below w.heap.size w w' := by
  obtain ⟨n, hks⟩ : ∃ n, k.size + 1 = n := ⟨_, rfl⟩
  obtain ⟨p1, p2, p3, e1⟩ := hl.a.val
  obtain ⟨q1, q2, e2⟩ := hl.f.val
  subst e1 e2
  obtain ⟨kl, hkl⟩ : ∃ kl, k.len = kl := ⟨_, rfl⟩
  rw [hkl] at hl ⊢
  clear hkl
  obtain ⟨K, N, X, A⟩ := d
  obtain ⟨W1, hW1⟩ : ∃ W1, w.alloc (.cells #[.int .i64 K, .string N, .string X, .slice p1 p2 p3, .slice q1 kl q2] 25) = W1 := ⟨_, rfl⟩
  have hB1 : Below w.heap.size w W1 := by rw [← hW1]; exact (Below.refl _ w).alloc (Nat.le_refl _) _
  have hbx : Box5 w.heap.size K N X (.slice p1 p2 p3) (.slice q1 kl q2) W1 := by rw [← hW1]; exact Box5.new _ _ _ _ _ _ _
  have b0 := hbx.c0
  have b1 := hbx.c1
  have b2 := hbx.c2
  have b3 := hbx.c3
  have b4 := hbx.c4
  have HW1 := Fact.mk hW1
  have HB1 := Fact.mk hB1
  have HA := Fact.mk (hall_any ⟨K, N, X, A⟩ k _ _ n W1 hks L ((hl.below hB1).here hB1.size))
  have hn1 : (0 : Int) < n := by omega
  clear hbx hB1 hW1 hl hks L
  go_enter Try.func16, Try.ntmps16
  go_upto_region 1 with fail
  rw [HW1.out]
  go_wp2_with (go_at_call 12; refine HA.out.mono ?_; rintro e w6 ⟨g6, rfl, hb6, hr6⟩; obtain ⟨u0, _, _, _, _, _, _⟩ := rowV_at hr6.out (i := 0) (y := .int .u64 (hT ⟨K, N, X, A⟩ k)) rfl)
  go_ret
  exact ⟨rfl, HB1.out.trans (hb6.mono HB1.out.size)⟩

/-- size and height in one number -/
def ks (k : M.F) : Int := ((k.size + 1 : Nat) : Int) * 4294967296 + ((k.depth + 1 : Nat) : Int)
set_option maxRecDepth 20000 in
set_option maxHeartbeats 4000000 in
theorem hkey_any (d : Nd) (k : M.F) (va ka : Value) (w : World) (L : Lim d k) (hl : Lies w.heap.size w d k va ka) :
    Calls Try.prog 18 #[nodeV d va ka] w fun e w' => e = .returned (.agg #[.int .u64 (hT d k), .int .u64 (ks k)]) ∧ Below w.heap.size w w' := by
  obtain ⟨n, hks⟩ : ∃ n, k.size + 1 = n := ⟨_, rfl⟩
  obtain ⟨dp, hdp⟩ : ∃ dp, k.depth + 1 = dp := ⟨_, rfl⟩
  have hn : n ≤ 1000000 := by rw [← hks]; exact L.sz
  have hd : dp ≤ 1000000 := by rw [← hdp]; exact L.dp
  obtain ⟨p1, p2, p3, e1⟩ := hl.a.val
  obtain ⟨q1, q2, e2⟩ := hl.f.val
  subst e1 e2
  obtain ⟨kl, hkl⟩ : ∃ kl, k.len = kl := ⟨_, rfl⟩
  rw [hkl] at hl ⊢
  clear hkl
  obtain ⟨K, N, X, A⟩ := d
  have HKV : Fact (ks k = (n : Int) * 4294967296 + dp) := ⟨by unfold ks; rw [hks, hdp]⟩
  obtain ⟨W1, hW1⟩ : ∃ W1, (w.alloc (.cells #[.int .i64 K, .string N, .string X, .slice p1 p2 p3, .slice q1 kl q2] 25)).alloc (.cells #[.int .u64 0, .int .u64 0] 35) = W1 := ⟨_, rfl⟩
  have hB1 : Below w.heap.size w W1 := by rw [← hW1]; exact ((Below.refl _ w).alloc (Nat.le_refl _) _).alloc (by simp) _
  have hz1 : W1.heap.size = w.heap.size + 2 := by rw [← hW1]; simp
  have hbx : Box5 w.heap.size K N X (.slice p1 p2 p3) (.slice q1 kl q2) W1 := by
    rw [← hW1]; exact (Box5.new _ _ _ _ _ _ _).keep ((Below.refl _ _).alloc (Nat.le_refl _) _)
  have b0 := hbx.c0
  have b1 := hbx.c1
  have b2 := hbx.c2
  have b3 := hbx.c3
  have b4 := hbx.c4
  have HT : Fact (∀ W', Below W1.heap.size W1 W' → (W'.cell? ⟨w.heap.size + 1, 0, none⟩ = some (.int .u64 0) ∧ W'.cell? ⟨w.heap.size + 1, 1, none⟩ = some (.int .u64 0) ∧ W'.frozen? ⟨w.heap.size + 1, 0, none⟩ = false ∧ W'.frozen? ⟨w.heap.size + 1, 1, none⟩ = false)) := ⟨fun W' hb => by
    have hh : W1.heap[w.heap.size + 1]? = some (.cells #[.int .u64 0, .int .u64 0] 35 (0, 0)) := by
      have h2 := World.alloc_heap_new (w.alloc (.cells #[.int .i64 K, .string N, .string X, .slice p1 p2 p3, .slice q1 kl q2] 25)) (.cells #[.int .u64 0, .int .u64 0] 35)
      rw [hW1, World.size_alloc] at h2
      exact h2
    have hh' : W'.heap[w.heap.size + 1]? = some (.cells #[.int .u64 0, .int .u64 0] 35 (0, 0)) := (hb.block _ (by omega)).trans hh
    refine ⟨?_, ?_, ?_, ?_⟩ <;> simp [World.cell?, World.frozen?, hh']⟩
  have HW1 := Fact.mk hW1
  have HB1 := Fact.mk hB1
  have HL := Fact.mk hl
  have HLIM := Fact.mk L
  have HKS := Fact.mk hks
  have HDP := Fact.mk hdp
  have hn1 : (0 : Int) < n := by omega
  have HFL := Fact.mk (flatN ⟨K, N, X, A⟩ k _ _ n W1 hks L ((hl.below hB1).here hB1.size))
  clear hbx hB1 hW1 hl hks L hdp
  go_enter Try.func18, Try.ntmps18
  go_upto_region 1 with fail
  rw [HW1.out]
  go_upto_region 2 with (go_at_call 24; refine HFL.out.mono ?_; rintro e w6 ⟨g6, c6, its, rfl, hb6, hm6, hr6, ha6⟩)
  have HB6 : Fact (Below w.heap.size w w6) := ⟨HB1.out.trans (hb6.mono HB1.out.size)⟩
  obtain ⟨y0, hy0⟩ : ∃ y, its[0]? = some y := by
    have h1 := congrArg List.length hm6.out
    rw [List.length_map, flatT_len, HKS.out] at h1
    exact ⟨its[0]'(by omega), by simp⟩
  have hy1 : (⟨-1, k.size + 1, 0, k.depth + 1, 0, ⟨K, N, X, A⟩⟩ : Im) = y0.1 := by
    have h1 : (its.map (·.1))[0]? = some y0.1 := by rw [List.getElem?_map, hy0]; rfl
    rw [hm6.out, flatT] at h1
    simpa using h1
  have hrr := row10_at hr6.out hy0
  obtain ⟨hr, _, _, _, hc6, _, _⟩ := hrr
  have z0 : w6.cell? ⟨g6, 1, none⟩ = some (.int .i64 (n : Int)) := by
    have h := hr 1 _ rfl
    rw [← hy1] at h
    rw [← HKS.out]
    simpa using h
  have z1 : w6.cell? ⟨g6, 3, none⟩ = some (.int .i64 (dp : Int)) := by
    have h := hr 3 _ rfl
    rw [← hy1] at h
    rw [← HDP.out]
    simpa using h
  have wn : IntKind.u64.wrap (n : Int) = n := by rw [IntKind.wrap_u64]; omega
  have wd : IntKind.u64.wrap (dp : Int) = dp := by rw [IntKind.wrap_u64]; omega
  have HNUM : Fact (∀ nq, Calls Try.prog 23 #[nodeV ⟨K, N, X, A⟩ (.slice p1 p2 p3) (.slice q1 kl q2), .slice (some ⟨g6, 0, none⟩) n c6] (w6.drewN nq) fun e w' => ∃ g2, e = .returned (.slice (some ⟨g2, 0, none⟩) n n) ∧ Below w6.heap.size (w6.drewN nq) w' ∧ Fact (w'.ownsRow w6.heap.size 32 1 (.slice (some ⟨g2, 0, none⟩) n n) n (cU (finT ⟨K, N, X, A⟩ k)))) :=
    ⟨fun nq => numbers_any ⟨K, N, X, A⟩ k _ _ its g6 c6 n _ _ (w6.drewN nq) ((HL.out.below (below_drewN HB6.out nq)).here HB6.out.size) hr6.out hm6.out HKS.out hn HLIM.out.dp ha6.out⟩
  have r0 := fun nq => ((below_drewN hb6 nq).cell (p := ⟨w.heap.size, 0, none⟩) (World.block_lt_of_cell? W1 _ b0)).trans b0
  have r1 := fun nq => ((below_drewN hb6 nq).cell (p := ⟨w.heap.size, 1, none⟩) (World.block_lt_of_cell? W1 _ b1)).trans b1
  have r2 := fun nq => ((below_drewN hb6 nq).cell (p := ⟨w.heap.size, 2, none⟩) (World.block_lt_of_cell? W1 _ b2)).trans b2
  have r3 := fun nq => ((below_drewN hb6 nq).cell (p := ⟨w.heap.size, 3, none⟩) (World.block_lt_of_cell? W1 _ b3)).trans b3
  have r4 := fun nq => ((below_drewN hb6 nq).cell (p := ⟨w.heap.size, 4, none⟩) (World.block_lt_of_cell? W1 _ b4)).trans b4
  clear hr hy1 hy0 hr6 hm6 ha6 b0 b1 b2 b3 b4
  go_quiet (fail)
  have r0 := r0 nq
  have r1 := r1 nq
  have r2 := r2 nq
  have r3 := r3 nq
  have r4 := r4 nq
  have HB7 : Fact (Below W1.heap.size W1 (w6.drewN nq)) := ⟨below_drewN hb6 nq⟩
  have hnum := HNUM.out nq
  have hz6 : w6.heap.size = (w6.drewN nq).heap.size := rfl
  have hb6s := hb6.size
  rw [hz6] at hnum
  rw [hz6] at hb6s
  clear HNUM HB6 HFL hb6 z0 z1 hz6
  obtain ⟨w7, hw7⟩ : ∃ w7, w6.drewN nq = w7 := ⟨_, rfl⟩
  rw [hw7] at r0 r1 r2 r3 r4 HB7 hnum hb6s ⊢
  have HNUM := Fact.mk hnum
  have hs1 : ((n : Int) * 4294967296) % 18446744073709551616 = (n : Int) * 4294967296 := by omega
  have wk : IntKind.u64.wrap ((n : Int) * 4294967296 + dp) = (n : Int) * 4294967296 + dp := by rw [IntKind.wrap_u64]; omega
  have ws : IntKind.u64.wrap ((n : Int) * 4294967296) = (n : Int) * 4294967296 := by rw [IntKind.wrap_u64]; omega
  clear hnum hw7 hn hd wn wd hs1
  go_wp2_with (go_at_call 23; refine HNUM.out.mono ?_; rintro e w8 ⟨g8, rfl, hb8, hr8⟩; obtain ⟨u0, _, _, _, _, _, _⟩ := rowV_at hr8.out (i := 0) (y := .int .u64 (hT ⟨K, N, X, A⟩ k)) rfl; have HB8 : Fact (Below W1.heap.size W1 w8) := ⟨HB7.out.trans (hb8.mono hb6s)⟩; obtain ⟨t0, t1, tf0, tf1⟩ := HT.out w8 HB8.out)
  have h0 : ((w8.setCell ⟨w.heap.size + 1, 0, none⟩ (.int .u64 (hT ⟨K, N, X, A⟩ k))).setCell ⟨w.heap.size + 1, 1, none⟩ (.int .u64 ((n : Int) * 4294967296 + dp))).cell? ⟨w.heap.size + 1, 0, none⟩ = some (.int .u64 (hT ⟨K, N, X, A⟩ k)) := by
    rw [World.cell?_setCell_other _ _ _ _ (by simp)]
    exact World.cell?_setCell_same' _ _ _ (by rw [t0]; rfl)
  have h1 : ((w8.setCell ⟨w.heap.size + 1, 0, none⟩ (.int .u64 (hT ⟨K, N, X, A⟩ k))).setCell ⟨w.heap.size + 1, 1, none⟩ (.int .u64 ((n : Int) * 4294967296 + dp))).cell? ⟨w.heap.size + 1, 1, none⟩ = some (.int .u64 ((n : Int) * 4294967296 + dp)) :=
    World.cell?_setCell_same' _ _ _ (by rw [World.cell?_setCell_other _ _ _ _ (by simp), t1]; rfl)
  have HB9 : Fact (Below w.heap.size w ((w8.setCell ⟨w.heap.size + 1, 0, none⟩ (.int .u64 (hT ⟨K, N, X, A⟩ k))).setCell ⟨w.heap.size + 1, 1, none⟩ (.int .u64 ((n : Int) * 4294967296 + dp)))) :=
    ⟨((HB1.out.trans (HB8.out.mono HB1.out.size)).setCell (p := ⟨w.heap.size + 1, 0, none⟩) (by show w.heap.size ≤ w.heap.size + 1; omega) _).setCell (p := ⟨w.heap.size + 1, 1, none⟩) (by show w.heap.size ≤ w.heap.size + 1; omega) _⟩
  refine bodyPost_ret (v := .agg #[.int .u64 (hT ⟨K, N, X, A⟩ k), .int .u64 ((n : Int) * 4294967296 + dp)]) (by simp [results, Try.f18, go_sem, h0, h1]) rfl ⟨by rw [HKV.out], HB9.out⟩
end Go.Proofs.Ytfcmgkakmaclcaa
