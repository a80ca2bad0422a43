/- The chapter's own Node. -/
import Derived.Test.YtkojhgagkoeeiaaRefG
import Derived.Test.YtkojhgagkoeeiaaCopy
set_option linter.unusedVariables false
namespace Go.Proofs.Ytkojhgagkoeeiaa
open Go.Deep (BT)
open Go.RowKit M

theorem kN {wr W : World} {p0 p1 p2 p3 p4 p5 : Addr} {x0 x1 x2 x3 x4 x5 : Value} (hb : Below wr.heap.size wr.drew W)
    (h : Below wr.heap.size wr wr.drew ∧ (wr.drew.cell? p0 = some x0 ∧ wr.drew.cell? p1 = some x1) ∧ (wr.drew.cell? p2 = some x2 ∧ wr.drew.cell? p3 = some x3) ∧ (wr.drew.cell? p4 = some x4 ∧ wr.drew.cell? p5 = some x5)) :
    Below wr.heap.size wr W ∧ (W.cell? p0 = some x0 ∧ W.cell? p1 = some x1) ∧ (W.cell? p2 = some x2 ∧ W.cell? p3 = some x3) ∧ (W.cell? p4 = some x4 ∧ W.cell? p5 = some x5) := by
  have hk : ∀ a v, wr.drew.cell? a = some v → W.cell? a = some v := fun a v hc => (hb.cell (p := a) (World.block_lt_of_cell? wr.drew _ hc)).trans hc
  obtain ⟨h0, ⟨a0, a1⟩, ⟨a2, a3⟩, a4, a5⟩ := h
  exact ⟨h0.trans hb, ⟨hk _ _ a0, hk _ _ a1⟩, ⟨hk _ _ a2, hk _ _ a3⟩, hk _ _ a4, hk _ _ a5⟩
theorem bel1 (wr : World) (o : Obj) : Below wr.heap.size wr.drew (wr.alloc o).drew := ⟨rfl, rfl, rfl, by simp, fun k hk => Below.heap_alloc wr _ _ hk⟩
theorem bel2 (wr : World) (o o' : Obj) : Below wr.heap.size wr.drew ((wr.alloc o).alloc o').drew := ⟨rfl, rfl, rfl, by simp; omega, fun k hk => (Below.heap_alloc (wr.alloc o) _ _ (by simp; omega)).trans (Below.heap_alloc wr _ _ hk)⟩
theorem two_new (wr : World) (o : Obj) (x y u v : Value) (t : TypeId) (i : Nat) (z : Value) :
    ((#[x, y] : Array Value)[i]? = some z → ((wr.alloc (.cells #[x, y] t)).alloc (.cells #[u, v] t)).drew.cell? ⟨wr.heap.size, i, none⟩ = some z) ∧
    ((#[u, v] : Array Value)[i]? = some z → ((wr.alloc (.cells #[x, y] t)).alloc (.cells #[u, v] t)).drew.cell? ⟨wr.heap.size + 1, i, none⟩ = some z) := by
  constructor
  · intro h
    exact (World.cell?_alloc_lt (wr.alloc (.cells #[x, y] t)) _ _ (by simp)).trans ((World.cell?_alloc_new wr _ _ i).trans h)
  · intro h
    have e := World.cell?_alloc_new (wr.alloc (.cells #[x, y] t)) #[u, v] t i
    rw [World.size_alloc] at e
    exact e.trans h
/-- what Node has in its two boxes -/
structure Bx2 (W1 : World) (B : Nat) (K K' : Int) (N N' X X' : ByteArray) (va vb : Value) : Prop where
  a0 : W1.cell? ⟨B, 0, none⟩ = some (.int .i64 K)
  a1 : W1.cell? ⟨B, 1, none⟩ = some (.string N)
  a2 : W1.cell? ⟨B, 2, none⟩ = some (.string X)
  a3 : W1.cell? ⟨B, 3, none⟩ = some va
  b0 : W1.cell? ⟨B + 1, 0, none⟩ = some (.int .i64 K')
  b1 : W1.cell? ⟨B + 1, 1, none⟩ = some (.string N')
  b2 : W1.cell? ⟨B + 1, 2, none⟩ = some (.string X')
  b3 : W1.cell? ⟨B + 1, 3, none⟩ = some vb

set_option maxRecDepth 20000 in
set_option maxHeartbeats 4000000 in
theorem rnode_any (d d' : Nd) (va vb ka kb : Value) (n : Nat) (w : World) (ha : AS (Old n) w va d.ats) (hb : AS (Old n) w vb d'.ats) (hn : n ≤ w.heap.size) (hka : ∃ a m c, ka = .slice a m c) (hkb : ∃ a m c, kb = .slice a m c) (C : Int) (hC : Fact (cn d d' = C)) :
    Calls Try.prog 56 #[nodeV d va ka, nodeV d' vb kb] w fun e w' => e = .returned (.int .i64 C) ∧ Below w.heap.size w w' := by
  obtain ⟨K, N, X, l⟩ := d
  obtain ⟨K', N', X', m⟩ := d'
  obtain ⟨a3, n3, c3, rfl⟩ := hka
  obtain ⟨a4, n4, c4, rfl⟩ := hkb
  obtain ⟨a1, c1, b1, o1, rfl, hc1, hm1, h1⟩ := ha.place
  obtain ⟨a2, c2, b2, o2, rfl, hc2, hm2, h2⟩ := hb.place
  dsimp only at h1 h2 hc1 hc2 hC ⊢
  have H1 := Fact.mk h1
  have H2 := Fact.mk h2
  have HD := Fact.mk (ca_drop l m)
  have HE := Fact.mk (ca_end l m)
  obtain ⟨C1, hC1⟩ : ∃ c, Fact (sg (decide (K < K')) (decide (K' < K)) = c) := ⟨_, ⟨rfl⟩⟩
  obtain ⟨C2, hC2⟩ : ∃ c, Fact (sg (Op.bytesLess N.toList N'.toList) (!Op.bytesLess N.toList N'.toList && !(N.toList == N'.toList)) = c) := ⟨_, ⟨rfl⟩⟩
  obtain ⟨C3, hC3⟩ : ∃ c, Fact (sg (Op.bytesLess X.toList X'.toList) (!Op.bytesLess X.toList X'.toList && !(X.toList == X'.toList)) = c) := ⟨_, ⟨rfl⟩⟩
  have HC : Fact (orI C1 (orI C2 (orI C3 (ca l m))) = C) := ⟨by rw [← hC1.out, ← hC2.out, ← hC3.out, sg_ci, sg_gt, sg_gt]; exact hC.out⟩
  obtain ⟨al, hal⟩ : ∃ al, l.length = al := ⟨_, rfl⟩
  obtain ⟨bl, hbl⟩ : ∃ bl, m.length = bl := ⟨_, rfl⟩
  rw [hal] at H1 hc1 HD HE ⊢
  rw [hbl] at H2 hc2 HD HE ⊢
  clear h1 h2 ha hb hal hbl hC
  unfold maxLen at hm1 hm2
  obtain ⟨W1, hW1⟩ : ∃ W1, (w.alloc (.cells #[.int .i64 K, .string N, .string X, .slice a1 al c1, .slice a3 n3 c3] 25)).alloc (.cells #[.int .i64 K', .string N', .string X', .slice a2 bl c2, .slice a4 n4 c4] 25) = W1 := ⟨_, rfl⟩
  have hB1 : Below w.heap.size w W1 := by rw [← hW1]; exact ((Below.refl _ w).alloc (Nat.le_refl _) _).alloc (by simp) _
  have hz1 : W1.heap.size = w.heap.size + 2 := by rw [← hW1]; simp
  have hA : ∀ i v, (#[.int .i64 K, .string N, .string X, .slice a1 al c1, .slice a3 n3 c3] : Array Value)[i]? = some v → W1.cell? ⟨w.heap.size, i, none⟩ = some v := fun i v h => by
    rw [← hW1, World.cell?_alloc_lt _ _ _ (by simp)]; exact (World.cell?_alloc_new w _ _ i).trans h
  have hBb : ∀ i v, (#[.int .i64 K', .string N', .string X', .slice a2 bl c2, .slice a4 n4 c4] : Array Value)[i]? = some v → W1.cell? ⟨w.heap.size + 1, i, none⟩ = some v := fun i v h => by
    have := World.cell?_alloc_new (w.alloc (.cells #[.int .i64 K, .string N, .string X, .slice a1 al c1, .slice a3 n3 c3] 25)) #[.int .i64 K', .string N', .string X', .slice a2 bl c2, .slice a4 n4 c4] 25 i
    rw [hW1, World.size_alloc] at this
    exact this.trans h
  have HX : Fact (Bx2 W1 w.heap.size K K' N N' X X' (.slice a1 al c1) (.slice a2 bl c2)) := ⟨⟨hA 0 _ rfl, hA 1 _ rfl, hA 2 _ rfl, hA 3 _ rfl, hBb 0 _ rfl, hBb 1 _ rfl, hBb 2 _ rfl, hBb 3 _ rfl⟩⟩
  obtain ⟨q0, q1, q2, q3, r0, r1, r2, r3⟩ := HX.out
  have HB1 := Fact.mk hB1
  clear hA hBb hB1
  have t1 : True := trivial
  have t2 : True := trivial
  by_cases g1 : C1 = 0
  case neg =>
    have g1' : (C1 == 0) = false := by simpa using g1
    have HF : Fact (C1 = C) := ⟨by rw [← HC.out]; unfold orI; rw [if_neg g1]⟩
    clear H1 H2 HD HE HC
    go_enter Try.func56, Try.ntmps56
    go_wp2_with (go_at_call 57; refine (sign_at _ _ C1 hC1 _).mono ?_; rintro e w2 ⟨rfl, hw2⟩; have hw3 := hw2.symm; subst hw3; clear hw2)
    refine wp_loop_rounds 1 ?_
    rw [rounds_succ]
    go_wp2_with fail
    go_ret
    exact ⟨ret_int HF.out, HB1.out⟩
  subst g1
  by_cases g2 : C2 = 0
  case neg =>
    have g2' : (C2 == 0) = false := by simpa using g2
    have HF : Fact (C2 = C) := ⟨by rw [← HC.out]; unfold orI; rw [if_pos rfl, if_neg g2]⟩
    clear H1 H2 HD HE HC
    go_enter Try.func56, Try.ntmps56
    go_wp2_with (go_at_call 57; first | (have _t := t1; refine (sign_at _ _ 0 hC1 _).mono ?_; rintro e w2 ⟨rfl, hw2⟩; have hw3 := hw2.symm; subst hw3; clear hw2 t1 _t) | (refine (sign_at _ _ C2 hC2 _).mono ?_; rintro e w2 ⟨rfl, hw2⟩; have hw3 := hw2.symm; subst hw3; clear hw2))
    refine wp_loop_rounds 1 ?_
    rw [rounds_succ]
    go_wp2_with fail
    go_ret
    exact ⟨ret_int HF.out, HB1.out⟩
  subst g2
  by_cases g3 : C3 = 0
  case neg =>
    have g3' : (C3 == 0) = false := by simpa using g3
    have HF : Fact (C3 = C) := ⟨by rw [← HC.out]; unfold orI; rw [if_pos rfl, if_pos rfl, if_neg g3]⟩
    clear H1 H2 HD HE HC
    go_enter Try.func56, Try.ntmps56
    go_wp2_with (go_at_call 57; first | (have _t := t1; refine (sign_at _ _ 0 hC1 _).mono ?_; rintro e w2 ⟨rfl, hw2⟩; have hw3 := hw2.symm; subst hw3; clear hw2 t1 _t) | (have _t := t2; refine (sign_at _ _ 0 hC2 _).mono ?_; rintro e w2 ⟨rfl, hw2⟩; have hw3 := hw2.symm; subst hw3; clear hw2 t2 _t) | (refine (sign_at _ _ C3 hC3 _).mono ?_; rintro e w2 ⟨rfl, hw2⟩; have hw3 := hw2.symm; subst hw3; clear hw2))
    refine wp_loop_rounds 1 ?_
    rw [rounds_succ]
    go_wp2_with fail
    go_ret
    exact ⟨ret_int HF.out, HB1.out⟩
  subst g3
  have HF : Fact (ca l m = C) := ⟨HC.out⟩
  clear HC
  go_enter Try.func56, Try.ntmps56
  go_wp2_with (go_at_call 57; first | (have _t := t1; refine (sign_at _ _ 0 hC1 _).mono ?_; rintro e w2 ⟨rfl, hw2⟩; have hw3 := hw2.symm; subst hw3; clear hw2 t1 _t) | (have _t := t2; refine (sign_at _ _ 0 hC2 _).mono ?_; rintro e w2 ⟨rfl, hw2⟩; have hw3 := hw2.symm; subst hw3; clear hw2 t2 _t) | (refine (sign_at _ _ 0 hC3 _).mono ?_; rintro e w2 ⟨rfl, hw2⟩; have hw3 := hw2.symm; subst hw3; clear hw2))
  clear q0 q1 q2 q3 r0 r1 r2 r3 hC1 hC2 hC3
  go_loopg [5, 6] (al + 1) (fun gf cv iv wr => ∃ (c : Int) (i : Nat), (cv = .int .i64 c ∧ iv = .int .i64 i) ∧ i ≤ al ∧ i ≤ bl ∧ al + 1 ≤ i + gf ∧ Fact (Below (w.heap.size + 2) W1 wr) ∧ Fact ((c = 0 ∧ ca (l.drop i) (m.drop i) = C) ∨ (c ≠ 0 ∧ c = C)))
  case atStart => exact ⟨0, 0, ⟨rfl, rfl⟩, Nat.zero_le _, Nat.zero_le _, by omega, ⟨Below.refl _ _⟩, ⟨.inl ⟨rfl, HF.out⟩⟩⟩
  case round =>
    obtain ⟨c, i, ⟨rfl, rfl⟩, hi1, hi2, hfu, hBr, hf⟩ := hrel
    have hxc : ∀ B o v, B < w.heap.size + 2 → W1.cell? ⟨B, o, none⟩ = some v → wr.cell? ⟨B, o, none⟩ = some v := fun B o v hb hv => (hBr.out.cell (p := ⟨B, o, none⟩) hb).trans hv
    have q3 := hxc _ _ _ (by omega) HX.out.a3
    have r3 := hxc _ _ _ (by omega) HX.out.b3
    have HW : Fact (Below w.heap.size w wr) := ⟨HB1.out.trans (hBr.out.mono (by omega))⟩
    by_cases hc0 : c = 0
    · subst hc0
      have hcd := (hf.out.resolve_right (fun h => h.1 rfl)).2
      by_cases hlt : i < al ∧ i < bl
      · obtain ⟨hl1, hl2⟩ := hlt
        obtain ⟨g', rfl⟩ : ∃ g', gk = g' + 1 := ⟨gk - 1, by omega⟩
        obtain ⟨ea1, hb1, y0, y1⟩ := H1.out i hl1
        obtain ⟨ea2, hb2, z0, z1⟩ := H2.out i hl2
        have hd := HD.out i hl1 hl2
        subst ea1 ea2
        obtain ⟨⟨N1, V1⟩, hp⟩ : ∃ p, bs l i = p := ⟨_, rfl⟩
        obtain ⟨⟨N2, V2⟩, hq⟩ : ∃ q, bs m i = q := ⟨_, rfl⟩
        rw [hp] at y0 y1 hd
        rw [hq] at z0 z1 hd
        dsimp only at y0 y1 z0 z1
        have HS : Fact (Below wr.heap.size wr wr.drew ∧ (wr.drew.cell? ⟨w.heap.size, 3, none⟩ = some (.slice (some ⟨b1, o1, none⟩) al c1) ∧ wr.drew.cell? ⟨w.heap.size + 1, 3, none⟩ = some (.slice (some ⟨b2, o2, none⟩) bl c2)) ∧ (wr.drew.cell? ⟨b1, o1 + i * 2, none⟩ = some (.string N1) ∧ wr.drew.cell? ⟨b1, o1 + i * 2 + 1, none⟩ = some (.string V1)) ∧ (wr.drew.cell? ⟨b2, o2 + i * 2, none⟩ = some (.string N2) ∧ wr.drew.cell? ⟨b2, o2 + i * 2 + 1, none⟩ = some (.string V2))) :=
          ⟨(Below.refl _ _).drew, ⟨q3, r3⟩, ⟨(HW.out.cell (p := ⟨b1, o1 + i * 2, none⟩) (by show b1 < _; omega)).trans y0, (HW.out.cell (p := ⟨b1, o1 + i * 2 + 1, none⟩) (by show b1 < _; omega)).trans y1⟩, (HW.out.cell (p := ⟨b2, o2 + i * 2, none⟩) (by show b2 < _; omega)).trans z0, (HW.out.cell (p := ⟨b2, o2 + i * 2 + 1, none⟩) (by show b2 < _; omega)).trans z1⟩
        have HDD := Fact.mk hd
        have HCD := Fact.mk hcd
        have j1 : (i : Int) < al := by omega
        have j2 : (i : Int) < bl := by omega
        have j3 : (0 : Int) ≤ i := by omega
        clear hp hq hd hcd hf y0 y1 z0 z1 H1 H2 HD HE hxc
        go_wp2_with fail
        clear q3 r3
        go_cut [7, 8] (fun xv yv wc => ∃ Y Z : Nat, xv = .pointer (some ⟨Y, 0, none⟩) ∧ yv = .pointer (some ⟨Z, 0, none⟩) ∧ (wc.cell? ⟨Y, 0, none⟩ = some (.string N1) ∧ wc.cell? ⟨Y, 1, none⟩ = some (.string V1) ∧ wc.cell? ⟨Z, 0, none⟩ = some (.string N2) ∧ wc.cell? ⟨Z, 1, none⟩ = some (.string V2)) ∧ Fact (Below wr.heap.size wr wc))
        case first =>
          have hS0 := HS.out
          clear HS
          go_region_held3 (fun w' => Below wr.heap.size wr w' ∧ (w'.cell? ⟨w.heap.size, 3, none⟩ = some (.slice (some ⟨b1, o1, none⟩) al c1) ∧ w'.cell? ⟨w.heap.size + 1, 3, none⟩ = some (.slice (some ⟨b2, o2, none⟩) bl c2)) ∧ (w'.cell? ⟨b1, o1 + i * 2, none⟩ = some (.string N1) ∧ w'.cell? ⟨b1, o1 + i * 2 + 1, none⟩ = some (.string V1)) ∧ (w'.cell? ⟨b2, o2 + i * 2, none⟩ = some (.string N2) ∧ w'.cell? ⟨b2, o2 + i * 2 + 1, none⟩ = some (.string V2)))
            (first | with_reducible exact hS0 | with_reducible exact kN (bel2 _ _ _) hS0 | with_reducible exact kN (bel1 _ _) hS0)
            (fail)
          · rename_i hHeld
            have HH := Fact.mk hHeld.1
            clear hHeld hS0
            go_wp2_with fail
            go_meet
            case rel => exact ⟨wr.heap.size, wr.heap.size + 1, rfl, rfl, ⟨(two_new wr (.cells #[] 0) _ _ _ _ _ 0 _).1 rfl, (two_new wr (.cells #[] 0) _ _ _ _ _ 1 _).1 rfl, (two_new wr (.cells #[] 0) _ _ _ _ _ 0 _).2 rfl, (two_new wr (.cells #[] 0) _ _ _ _ _ 1 _).2 rfl⟩, HH⟩
          · rename_i hHeld
            have HH := Fact.mk hHeld.1
            clear hHeld hS0
            go_wp2_with fail
            go_meet
            case rel => exact ⟨wr.heap.size + 1, wr.heap.size, rfl, rfl, ⟨(two_new wr (.cells #[] 0) _ _ _ _ _ 0 _).2 rfl, (two_new wr (.cells #[] 0) _ _ _ _ _ 1 _).2 rfl, (two_new wr (.cells #[] 0) _ _ _ _ _ 0 _).1 rfl, (two_new wr (.cells #[] 0) _ _ _ _ _ 1 _).1 rfl⟩, HH⟩
        case rest =>
          obtain ⟨Y, Z, rfl, rfl, ⟨k0, k1, k2, k3⟩, hbc⟩ := hcut
          have HBc : Fact (Below (w.heap.size + 2) W1 wc) := ⟨hBr.out.trans (hbc.out.mono (by have := hBr.out.size; omega))⟩
          have hless := less_cl N1.toList N2.toList
          have heq := eq_cl N1.toList N2.toList
          have ecs : cs N1 N2 = cl N1.toList N2.toList := by unfold cs; rw [toList_data, toList_data]
          have HNX : ∀ c' : Int, Fact (cp (N1, V1) (N2, V2) = c') → Fact ((c' = 0 ∧ ca (l.drop (i + 1)) (m.drop (i + 1)) = C) ∨ (c' ≠ 0 ∧ c' = C)) := fun c' hc' => ⟨by
            have h := HDD.out.symm.trans HCD.out
            rw [hc'.out] at h
            unfold orI at h
            by_cases h0 : c' = 0
            · rw [if_pos h0] at h; exact .inl ⟨h0, h⟩
            · rw [if_neg h0] at h; exact .inr ⟨h0, h⟩⟩
          have HNXF := Fact.mk HNX
          clear HNX HDD HCD HS
          rcases (cl_sg N1.toList N2.toList).h with h | h | h
          · rw [h] at hless heq
            have hless' : Op.bytesLess N1.toList N2.toList = true := hless
            have heq' : (N1.toList == N2.toList) = false := heq
            have HCP : Fact (cp (N1, V1) (N2, V2) = -1) := ⟨by show orI (cs N1 N2) _ = _; rw [ecs, h]; rfl⟩
            clear hless heq ecs h
            go_wp2_with (go_at_call 57; refine (sign_at _ _ (-1) ⟨rfl⟩ _).mono ?_; rintro e w2 ⟨rfl, hw2⟩; have hw3 := hw2.symm; subst hw3; clear hw2)
            go_roundg g'
            case measure => omega
            case rel => exact ⟨-1, i + 1, ⟨rfl, by go_num⟩, by omega, by omega, by omega, HBc, HNXF.out _ HCP⟩
          · rw [h] at hless heq
            have hless' : Op.bytesLess N1.toList N2.toList = false := hless
            have heq' : (N1.toList == N2.toList) = true := heq
            have HCP : Fact (cp (N1, V1) (N2, V2) = cs V1 V2) := ⟨by show orI (cs N1 N2) _ = _; rw [ecs, h]; rfl⟩
            obtain ⟨c', hsg⟩ : ∃ c', Fact (sg (Op.bytesLess V1.toList V2.toList) (!Op.bytesLess V1.toList V2.toList && !(V1.toList == V2.toList)) = c') := ⟨_, ⟨rfl⟩⟩
            have HCP' : Fact (cp (N1, V1) (N2, V2) = c') := ⟨by rw [HCP.out, ← hsg.out, sg_gt]⟩
            clear hless heq ecs h HCP
            go_wp2_with (go_at_call 57; refine (sign_at _ _ c' hsg _).mono ?_; rintro e w2 ⟨rfl, hw2⟩; have hw3 := hw2.symm; subst hw3; clear hw2)
            go_roundg g'
            case measure => omega
            case rel => exact ⟨c', i + 1, ⟨rfl, by go_num⟩, by omega, by omega, by omega, HBc, HNXF.out _ HCP'⟩
          · rw [h] at hless heq
            have hless' : Op.bytesLess N1.toList N2.toList = false := hless
            have heq' : (N1.toList == N2.toList) = false := heq
            have HCP : Fact (cp (N1, V1) (N2, V2) = 1) := ⟨by show orI (cs N1 N2) _ = _; rw [ecs, h]; rfl⟩
            clear hless heq ecs h
            go_wp2_with (go_at_call 57; refine (sign_at _ _ 1 ⟨rfl⟩ _).mono ?_; rintro e w2 ⟨rfl, hw2⟩; have hw3 := hw2.symm; subst hw3; clear hw2)
            go_roundg g'
            case measure => omega
            case rel => exact ⟨1, i + 1, ⟨rfl, by go_num⟩, by omega, by omega, by omega, HBc, HNXF.out _ HCP⟩
      · have hE := HE.out i (by omega) hi1 hi2
        have hsg : Fact (sg (decide ((al : Int) < bl)) (decide ((bl : Int) < al)) = C) := ⟨by rw [sg_ci, ← hE]; exact hcd⟩
        have hsg2 : Fact (sg (decide (al < bl)) (decide (bl < al)) = C) := ⟨by rw [← hsg.out]; congr 1 <;> exact decide_eq_decide.2 (by omega)⟩
        clear hE hcd hf H1 H2 HD HE hxc
        by_cases hl1 : i < al
        · have hl2 : ¬ i < bl := fun h => hlt ⟨hl1, h⟩
          have hl1' : (i : Int) < al := by omega
          have hl2' : ¬ (i : Int) < bl := by omega
          clear hlt
          go_wp2_with (go_at_call 57; first | (with_reducible refine (sign_at _ _ C hsg2 _).mono ?_; rintro e w2 ⟨rfl, hw2⟩; have hw3 := hw2.symm; subst hw3; clear hw2) | (with_reducible refine (sign_at _ _ C hsg _).mono ?_; rintro e w2 ⟨rfl, hw2⟩; have hw3 := hw2.symm; subst hw3; clear hw2))
          go_ret
          exact ⟨rfl, HW.out⟩
        · have hl1' : ¬ (i : Int) < al := by omega
          clear hlt
          go_wp2_with (go_at_call 57; first | (with_reducible refine (sign_at _ _ C hsg2 _).mono ?_; rintro e w2 ⟨rfl, hw2⟩; have hw3 := hw2.symm; subst hw3; clear hw2) | (with_reducible refine (sign_at _ _ C hsg _).mono ?_; rintro e w2 ⟨rfl, hw2⟩; have hw3 := hw2.symm; subst hw3; clear hw2))
          go_ret
          exact ⟨rfl, HW.out⟩
    · have hc0' : (c == 0) = false := by simpa using hc0
      have hcC : Fact (c = C) := ⟨(hf.out.resolve_left (fun h => hc0 h.1)).2⟩
      clear hf H1 H2 HD HE hxc
      go_wp2_with fail
      go_ret
      exact ⟨ret_int hcC.out, HW.out⟩
end Go.Proofs.Ytkojhgagkoeeiaa
