/- HashKids, walked. -/
import Derived.Test.YtfcmgkakmaclcaaHO
import Derived.Test.YtfcmgkakmaclcaaRefS
import Derived.Test.YtfcmgkakmaclcaaRnA
set_option linter.unusedVariables false
set_option linter.unusedSimpArgs false
namespace Go.Proofs.Ytfcmgkakmaclcaa
open Go.Deep (BT)
open Go.RowKit Go.Shelf M
open Bt (mx IsU mx_u ret_int)

theorem rsz (d : Nd) (k : M.F) (va ka : Value) (Z n : Nat) (W : World) (hZ : Fact (k.size + 1 = Z)) (hz : Z ≤ 1000000) (hl : Lies n W d k va ka) (hn : n ≤ W.heap.size) :
    Calls Try.prog 9 #[nodeV d va ka] W fun e w' => e = .returned (.int .i64 Z) ∧ Below W.heap.size W w' := by
  have h := rsize_any k d va ka n W hl hn (by have := hZ.out; omega)
  rw [hZ.out] at h
  exact h
theorem hof_l (d : Nd) (k : M.F) (va ka : Value) (n : Nat) (W : World) (L : Lim d k) (hl : Lies n W d k va ka) (hn : n ≤ W.heap.size) :
    Calls Try.prog 16 #[nodeV d va ka] W fun e w' => e = .returned (.int .u64 (hT d k)) ∧ Below W.heap.size W w' :=
  hof_any d k va ka W L (hl.here hn)

set_option maxRecDepth 100000 in
set_option maxHeartbeats 8000000 in
theorem hashKids_walk (d : Nd) (k : M.F) (va ka : Value) (w : World) (h : Lies w.heap.size w d k va ka) :
    Calls Try.prog 5 #[nodeV d va ka] w fun e w' => e = .returned (.bool true) ∧ Below w.heap.size w w' := by
  obtain ⟨K, N, X, A⟩ := d
  have HL := Fact.mk h
  obtain ⟨p1, p2, p3, e1⟩ := h.a.val
  obtain ⟨a2, c2, rfl, hc2, hm2, hF⟩ := h.f
  subst e1
  obtain ⟨kl, hkl⟩ : ∃ kl, k.len = kl := ⟨_, rfl⟩
  rw [hkl] at HL ⊢
  rw [hkl] at hc2
  unfold maxLen at hm2
  obtain ⟨b2, o2, hkd⟩ : ∃ b o, Fact (∀ i, i < kl → a2 = some ⟨b, o, none⟩ ∧ b < w.heap.size ∧ FAt (Old w.heap.size) w k b o) := by
    rcases hF with h0 | ⟨b, o, ea, hS, hcs⟩
    · refine ⟨0, 0, ⟨fun i hi => ?_⟩⟩
      omega
    · exact ⟨b, o, ⟨fun i hi => ⟨ea, hS, hcs⟩⟩⟩
  obtain ⟨n, hn⟩ : ∃ n, Fact (k.size + 1 = n) := ⟨_, ⟨rfl⟩⟩
  obtain ⟨W1, hW1⟩ : ∃ W1, w.alloc (.cells #[.int .i64 K, .string N, .string X, .slice p1 p2 p3, .slice a2 kl c2] 25) = W1 := ⟨_, rfl⟩
  have hB1 : Below w.heap.size w W1 := by rw [← hW1]; exact (Below.refl _ w).alloc (Nat.le_refl _) _
  have hz1 : W1.heap.size = w.heap.size + 1 := by rw [← hW1]; simp
  have hbx : Box5 w.heap.size K N X (.slice p1 p2 p3) (.slice a2 kl c2) W1 := by rw [← hW1]; exact Box5.new _ _ _ _ _ _ _
  have HB1 := Fact.mk hB1
  have HW1 := Fact.mk hW1
  have HBX := Fact.mk hbx
  have HKL := Fact.mk hkl
  have b0 := hbx.c0
  have b1 := hbx.c1
  have b2_ := hbx.c2
  have b3 := hbx.c3
  have b4 := hbx.c4
  clear hB1 hW1 hbx hF h hkl
  go_enter Try.func5, Try.ntmps5
  go_upto_region 1 with fail
  rw [HW1.out]
  go_wp2_with fail
  refine (Small_any ⟨K, N, X, A⟩ k _ _ w.heap.size W1 (HL.out.below HB1.out) HB1.out.size).mono ?_
  rintro e w1 (⟨rfl, hb1⟩ | ⟨rfl, hb1, f1⟩)
  · go_wp2_with (go_at_call 10; refine (awake18_true _).mono ?_; rintro e w9 ⟨rfl, hb9⟩)
    go_ret
    exact ⟨rfl, HB1.out.trans ((hb1.mono HB1.out.size).trans (hb9.mono (Nat.le_trans HB1.out.size hb1.size)))⟩
  have hn400 : n ≤ 400 := by have := f1.out.size; have := hn.out; omega
  have hbx1 := HBX.out.keep hb1
  have y0 := hbx1.c0
  have y1 := hbx1.c1
  have y2 := hbx1.c2
  have y3 := hbx1.c3
  have y4 := hbx1.c4
  have HBa : Fact (Below w.heap.size w w1) := ⟨HB1.out.trans (hb1.mono HB1.out.size)⟩
  have HBX1 := Fact.mk hbx1
  have hs1 : w.heap.size + 1 ≤ w1.heap.size := World.block_lt_of_cell? w1 _ y0
  clear b0 b1 b2_ b3 b4 hb1 hbx1
  go_wp2_with fail
  refine (rsz ⟨K, N, X, A⟩ k _ _ n w.heap.size w1 hn (by omega) (HL.out.below HBa.out) HBa.out.size).mono ?_
  rintro e w2 ⟨rfl, hb2⟩
  have HBb : Fact (Below w.heap.size w w2) := ⟨HBa.out.trans (hb2.mono HBa.out.size)⟩
  have hbx2 := HBX1.out.keep hb2
  have HBX2 := Fact.mk hbx2
  have z0 := hbx2.c0
  have z1 := hbx2.c1
  have z2 := hbx2.c2
  have z3 := hbx2.c3
  have z4 := hbx2.c4
  clear y0 y1 y2 y3 y4 hb2 hbx2
  by_cases h80 : 80 < n
  · have hd80 : decide ((80 : Int) < n) = true := decide_eq_true (by omega)
    go_wp2_with (go_at_call 10; refine (awake18_true _).mono ?_; rintro e w9 ⟨rfl, hb9⟩)
    go_ret
    exact ⟨rfl, HBb.out.trans (hb9.mono HBb.out.size)⟩
  have hd80 : decide ((80 : Int) < n) = false := decide_eq_false (by omega)
  have HALL := Fact.mk (hall_any ⟨K, N, X, A⟩ k (.slice p1 p2 p3) (.slice a2 k.len c2) n w2 hn.out f1.out.lim (by rw [HKL.out]; exact (HL.out.below HBb.out).here HBb.out.size))
  rw [HKL.out] at HALL
  go_upto_region 4 with (go_at_call 12; refine HALL.out.mono ?_; rintro e w3 ⟨g, rfl, hb3, hr3⟩)
  have hz2 : w.heap.size < w2.heap.size := World.block_lt_of_cell? w2 _ z0
  have hlen0 : (n : Int) = n := rfl
  have HBc : Fact (Below w.heap.size w w3) := ⟨HBb.out.trans (hb3.mono HBb.out.size)⟩
  have hbx3 := HBX2.out.keep hb3
  obtain ⟨l0, _, hg3, hgl3, _, _, _⟩ := rowV_at hr3.out (i := 0) (y := .int .u64 (hT ⟨K, N, X, A⟩ k)) rfl
  have HSK : Fact (∀ w6, Below w3.heap.size w3.drew w6 → (Below w.heap.size w w6 ∧ (w6.cell? ⟨w.heap.size, 0, none⟩ = some (.int .i64 K) ∧ w6.cell? ⟨w.heap.size, 1, none⟩ = some (.string N) ∧ w6.cell? ⟨w.heap.size, 2, none⟩ = some (.string X) ∧ w6.cell? ⟨w.heap.size, 3, none⟩ = some (.slice p1 p2 p3) ∧ w6.cell? ⟨w.heap.size, 4, none⟩ = some (.slice a2 kl c2) ∧ w6.cell? ⟨g, 0, none⟩ = some (.int .u64 (hT ⟨K, N, X, A⟩ k))))) := ⟨fun w6 hb => by
    have hb' : Below w3.heap.size w3 w6 := ⟨hb.os, hb.tape, hb.output, hb.size, hb.block⟩
    have hk := hbx3.keep hb'
    exact ⟨HBc.out.trans (hb'.mono HBc.out.size), hk.c0, hk.c1, hk.c2, hk.c3, hk.c4, (hb'.cell (p := ⟨g, 0, none⟩) hgl3).trans l0⟩⟩
  have hS0 := HSK.out w3.drew (Below.refl _ _)
  have HROW := Fact.mk hr3.out
  have hn0 : (0 : Int) < n := by omega
  clear z0 z1 z2 z3 z4 hb3 hr3 hbx3 l0
  go_region_held3 (fun w' => Below w.heap.size w w' ∧ (w'.cell? ⟨w.heap.size, 0, none⟩ = some (.int .i64 K) ∧ w'.cell? ⟨w.heap.size, 1, none⟩ = some (.string N) ∧ w'.cell? ⟨w.heap.size, 2, none⟩ = some (.string X) ∧ w'.cell? ⟨w.heap.size, 3, none⟩ = some (.slice p1 p2 p3) ∧ w'.cell? ⟨w.heap.size, 4, none⟩ = some (.slice a2 kl c2) ∧ w'.cell? ⟨g, 0, none⟩ = some (.int .u64 (hT ⟨K, N, X, A⟩ k))))
    (first | with_reducible exact hS0 | with_reducible assumption)
    (first
      | (go_at_call 9; refine (rsz ⟨K, N, X, A⟩ k _ _ n w.heap.size _ hn (by omega) (HL.out.below hS0.1) hS0.1.size).mono ?_; rintro e w6 ⟨rfl, hb6⟩; have hS6 := HSK.out _ hb6)
      | (go_at_call 16; refine (hof_l ⟨K, N, X, A⟩ k _ _ w.heap.size _ f1.out.lim (HL.out.below hS6.1) hS6.1.size).mono ?_; rintro e w7 ⟨rfl, hb7⟩; have hS7 := HSK.out _ (hb6.trans (hb7.mono hb6.size))))
  have HB7 : Fact (Below w3.heap.size w3 w7) := ⟨by
    have h := hb6.trans (hb7.mono hb6.size)
    exact ⟨h.os, h.tape, h.output, h.size, h.block⟩⟩
  have HS7 := Fact.mk hS7
  have HROW7 : Fact (w7.ownsRow w2.heap.size 32 1 (.slice (some ⟨g, 0, none⟩) n n) n (cU (finT ⟨K, N, X, A⟩ k))) := ⟨own_upH HROW.out HB7.out⟩
  clear hS0 hS6 hS7 hb6 hb7
  go_wp2_with fail
  go_loopg [4, 5] kl (fun gf av iv wr => ∃ (i : Nat) (rest : M.F) (at_ : Nat), (av = .int .i64 at_ ∧ iv = .int .i64 i) ∧ i + rest.len = kl ∧ rest.len ≤ gf ∧ Fact (Below w7.heap.size w7 wr) ∧
    Fact ((rest.len = 0 ∨ FAt (Old w.heap.size) w rest b2 (o2 + i * 5)) ∧ at_ + rest.size = n ∧ rest.depth ≤ 100 ∧ rest.slots ≤ 10000 ∧ ∃ pre, finT ⟨K, N, X, A⟩ k = pre ++ finF rest ∧ pre.length = at_))
  case atStart =>
    have h1 := f1.out.depth
    have h2 := f1.out.slots
    have h3 := f1.out.size
    dsimp only at h2
    refine ⟨0, k, 1, ⟨rfl, rfl⟩, by rw [HKL.out]; omega, by rw [HKL.out]; omega, ⟨Below.refl _ _⟩, ⟨?_, by have := hn.out; omega, by omega, by omega, [hT ⟨K, N, X, A⟩ k], rfl, rfl⟩⟩
    by_cases h0 : kl = 0
    · left; rw [HKL.out]; exact h0
    · right
      rw [Nat.zero_mul, Nat.add_zero]
      exact (hkd.out 0 (by omega)).2.2
  case round =>
    obtain ⟨i, rest, at_, ⟨rfl, rfl⟩, hlen, hfu, hBr, hfx⟩ := hrel
    have hwr : Below w.heap.size w wr := HS7.out.1.trans (hBr.out.mono HS7.out.1.size)
    have hz7 : w.heap.size < w7.heap.size := World.block_lt_of_cell? w7 _ HS7.out.2.1
    have y4 : wr.cell? ⟨w.heap.size, 4, none⟩ = some (.slice a2 kl c2) := (hBr.out.cell (p := ⟨w.heap.size, 4, none⟩) hz7).trans HS7.out.2.2.2.2.2.1
    cases rest with
    | nil =>
      have hi : i = kl := by have : i + 0 = kl := hlen; omega
      obtain ⟨_, q, _⟩ := hfx.out
      have hat : at_ = n := by simp only [BT.size] at q; omega
      have HWR := Fact.mk hwr
      clear hfx hlen q hkd hwr
      subst hi hat
      go_wp2_with (go_at_call 10; refine (awake18_true _).mono ?_; rintro e w9 ⟨rfl, hb9⟩)
      go_ret
      exact ⟨rfl, HWR.out.trans (hb9.mono HWR.out.size)⟩
    | node xb xo d' k' r' =>
      have hlen' : i + (r'.len + 1) = kl := hlen
      have hfu' : r'.len + 1 ≤ gk := hfu
      obtain ⟨g', rfl⟩ : ∃ g', gk = g' + 1 := ⟨gk - 1, by omega⟩
      have hlt2 : i < kl := by omega
      obtain ⟨ea2, hb2, _⟩ := hkd.out i hlt2
      subst ea2
      obtain ⟨hfat, q1, q2, q3, pre, q4, q5⟩ := hfx.out
      have hfat' := hfat.resolve_left (by show ¬ r'.len + 1 = 0; omega)
      obtain ⟨⟨av', ka', kc', e0, e1, e2, e3, e4, hav', h4, h5, hkk⟩, hrr⟩ := hfat'
      obtain ⟨x1, x3, eav⟩ : ∃ x1 x3, av' = .slice x1 d'.ats.length x3 := by obtain ⟨a, c, e, _⟩ := id hav'; exact ⟨a, c, e⟩
      obtain ⟨x2, hx2⟩ : ∃ x2, d'.ats.length = x2 := ⟨_, rfl⟩
      rw [hx2] at eav
      subst eav
      obtain ⟨kl', hkl'⟩ : ∃ kl', k'.len = kl' := ⟨_, rfl⟩
      rw [hkl'] at e4
      simp only [BT.size] at q1
      simp only [BT.depth] at q2
      simp only [BT.slots] at q3
      have hget : (finT ⟨K, N, X, A⟩ k)[at_]? = some (hT d' k') := by
        rw [q4, List.getElem?_append_right (by omega), q5, Nat.sub_self]
        rfl
      obtain ⟨u0, _, _, hgl, _, _, _⟩ := rowV_at HROW7.out (cU_get hget)
      have HNC : Fact (∀ w', Below wr.heap.size wr.drew w' → (Below w.heap.size w w' ∧ (w'.cell? ⟨w.heap.size, 4, none⟩ = some (.slice (some ⟨b2, o2, none⟩) kl c2) ∧ w'.cell? ⟨g, at_, none⟩ = some (.int .u64 (hT d' k')) ∧ w'.cell? ⟨b2, o2 + i * 5, none⟩ = some (.int .i64 d'.k) ∧ w'.cell? ⟨b2, o2 + i * 5 + 1, none⟩ = some (.string d'.n) ∧ w'.cell? ⟨b2, o2 + i * 5 + 2, none⟩ = some (.string d'.x) ∧ w'.cell? ⟨b2, o2 + i * 5 + 3, none⟩ = some (.slice x1 x2 x3) ∧ w'.cell? ⟨b2, o2 + i * 5 + 4, none⟩ = some (.slice ka' kl' kc')))) := ⟨fun w' hb => by
        have hb1 : Below wr.heap.size wr w' := ⟨hb.os, hb.tape, hb.output, hb.size, hb.block⟩
        have hbw := hwr.trans (hb1.mono hwr.size)
        have hb7 := hBr.out.trans (hb1.mono hBr.out.size)
        have hcc : ∀ o, w'.cell? ⟨b2, o, none⟩ = w.cell? ⟨b2, o, none⟩ := fun o => hbw.cell (p := ⟨b2, o, none⟩) hb2
        exact ⟨hbw, (hb7.cell (p := ⟨w.heap.size, 4, none⟩) hz7).trans HS7.out.2.2.2.2.2.1, (hb7.cell (p := ⟨g, at_, none⟩) hgl).trans u0, (hcc _).trans e0, (hcc _).trans e1, (hcc _).trans e2, (hcc _).trans e3, (hcc _).trans e4⟩⟩
      have HLk : Fact (∀ w', Below w.heap.size w w' → Lies w.heap.size w' d' k' (.slice x1 x2 x3) (.slice ka' kl' kc')) := ⟨fun w' hb => ⟨hav'.like (like_below hb), FL.like (like_below hb) ⟨ka', kc', by rw [hkl'], by rw [hkl'] at h4 ⊢; exact h4, h5, hkk⟩⟩⟩
      obtain ⟨Z, hZ⟩ : ∃ Z, Fact (k'.size + 1 = Z) := ⟨_, ⟨rfl⟩⟩
      have hlim : Fact (Lim d' k') := ⟨⟨by omega, by omega, by omega⟩⟩
      have hZb : Z ≤ 400 := by have := hZ.out; omega
      have HR : Fact ((r'.len = 0 ∨ FAt (Old w.heap.size) w r' b2 (o2 + (i + 1) * 5)) ∧ at_ + Z + r'.size = n ∧ r'.depth ≤ 100 ∧ r'.slots ≤ 10000 ∧ ∃ pre, finT ⟨K, N, X, A⟩ k = pre ++ finF r' ∧ pre.length = at_ + Z) := ⟨.inr (by rw [show o2 + (i + 1) * 5 = o2 + i * 5 + 5 by omega]; exact hrr), by have := hZ.out; omega, by omega, by omega, pre ++ (hT d' k' :: finF k'), by rw [q4, finF]; simp, by rw [List.length_append, List.length_cons, finF_len, q5]; have := hZ.out; omega⟩
      have hS0 := HNC.out wr.drew (Below.refl _ _)
      have at0 : (0 : Int) ≤ at_ := by omega
      have at1 : (at_ : Int) < n := by omega
      have i0_ : (0 : Int) ≤ i := by omega
      have i1_ : (i : Int) < kl := by omega
      have hAt : at_ + Z ≤ 400 := by have := HR.out.2.1; omega
      clear hfx hfat hrr hkk hav' e0 e1 e2 e3 e4 hkd hlen hfu q1 q2 q3 q4 q5 hget u0 hwr
      go_wp2_with fail
      go_region_held3 (fun w' => Below w.heap.size w w' ∧ (w'.cell? ⟨w.heap.size, 4, none⟩ = some (.slice (some ⟨b2, o2, none⟩) kl c2) ∧ w'.cell? ⟨g, at_, none⟩ = some (.int .u64 (hT d' k')) ∧ w'.cell? ⟨b2, o2 + i * 5, none⟩ = some (.int .i64 d'.k) ∧ w'.cell? ⟨b2, o2 + i * 5 + 1, none⟩ = some (.string d'.n) ∧ w'.cell? ⟨b2, o2 + i * 5 + 2, none⟩ = some (.string d'.x) ∧ w'.cell? ⟨b2, o2 + i * 5 + 3, none⟩ = some (.slice x1 x2 x3) ∧ w'.cell? ⟨b2, o2 + i * 5 + 4, none⟩ = some (.slice ka' kl' kc')))
        (first | with_reducible exact hS0 | with_reducible assumption)
        (first | (go_at_call 16; refine (hof_l d' k' _ _ w.heap.size _ hlim.out (HLk.out _ hS0.1) hS0.1.size).mono ?_; rintro e w8 ⟨rfl, hb8⟩; have hS8 := HNC.out _ hb8))
      obtain ⟨hB8, m4, m5, m0, m1, m2, m3, m6⟩ := hS8
      have HB8 := Fact.mk hB8
      have HBr8 : Fact (Below w7.heap.size w7 w8) := ⟨hBr.out.trans ((show Below wr.heap.size wr w8 from ⟨hb8.os, hb8.tape, hb8.output, hb8.size, hb8.block⟩).mono hBr.out.size)⟩
      have hC := Fact.mk (rsz d' k' (.slice x1 x2 x3) (.slice ka' kl' kc') Z w.heap.size w8 hZ (by omega) (HLk.out w8 hB8) hB8.size)
      clear hB8 hS0 hb8
      go_wp2_with (go_at_call 9; refine hC.out.mono ?_; rintro e w9 ⟨rfl, hb9⟩)
      go_roundg g'
      case measure => omega
      case rel => exact ⟨i + 1, r', at_ + Z, ⟨by go_num, by go_num⟩, by omega, by omega, ⟨HBr8.out.trans (hb9.mono HBr8.out.size)⟩, HR⟩
end Go.Proofs.Ytfcmgkakmaclcaa
