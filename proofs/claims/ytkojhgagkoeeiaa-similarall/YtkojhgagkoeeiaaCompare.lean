/- What Compare and Same answer: which tree comes first. -/
import Derived.Test.YtkojhgagkoeeiaaLevels
import Derived.Test.YtkojhgagkoeeiaaCmpN
set_option linter.unusedVariables false
namespace Go.Proofs.Ytkojhgagkoeeiaa
open Go.Deep (BT)
open Go.RowKit M

theorem cmpI_c (a b c : Int) (h : Fact (ci a b = c)) (w : World) : Calls Try.prog 27 #[.int .i64 a, .int .i64 b] w fun e w' => e = .returned (.int .i64 c) ∧ w' = w := by
  rw [← h.out]; exact cmpI_any a b w
theorem FL.val_len {S : Nat → Prop} {w : World} {v : Value} {xb xo : Nat} {d : Nd} {k r : M.F} (h : FL S w v (.node xb xo d k r)) : ∃ a c, v = .slice a (r.len + 1) c ∧ r.len + 1 ≤ c := by
  obtain ⟨a, c, e, h1, _⟩ := h
  exact ⟨a, c, e, h1⟩
theorem keep12 {W2 W w5 : World} {a0 a1 b0 b1 b2 b3 b4 c0 c1 c2 c3 c4 : Addr} {v0 v1 x0 x1 x2 x3 x4 y0 y1 y2 y3 y4 : Value} (hb : Below W.heap.size W w5)
    (h : Below W2.heap.size W2 W ∧ (W.cell? a0 = some v0 ∧ W.cell? a1 = some v1) ∧ (W.cell? b0 = some x0 ∧ W.cell? b1 = some x1 ∧ W.cell? b2 = some x2 ∧ W.cell? b3 = some x3 ∧ W.cell? b4 = some x4) ∧ (W.cell? c0 = some y0 ∧ W.cell? c1 = some y1 ∧ W.cell? c2 = some y2 ∧ W.cell? c3 = some y3 ∧ W.cell? c4 = some y4)) :
    Below W2.heap.size W2 w5 ∧ (w5.cell? a0 = some v0 ∧ w5.cell? a1 = some v1) ∧ (w5.cell? b0 = some x0 ∧ w5.cell? b1 = some x1 ∧ w5.cell? b2 = some x2 ∧ w5.cell? b3 = some x3 ∧ w5.cell? b4 = some x4) ∧ (w5.cell? c0 = some y0 ∧ w5.cell? c1 = some y1 ∧ w5.cell? c2 = some y2 ∧ w5.cell? c3 = some y3 ∧ w5.cell? c4 = some y4) := by
  have hk : ∀ a v, W.cell? a = some v → w5.cell? a = some v := fun a v hc => (hb.cell (p := a) (World.block_lt_of_cell? W _ hc)).trans hc
  obtain ⟨h0, ⟨p0, p1⟩, ⟨q0, q1, q2, q3, q4⟩, r0, r1, r2, r3, r4⟩ := h
  exact ⟨h0.trans (hb.mono h0.size), ⟨hk _ _ p0, hk _ _ p1⟩, ⟨hk _ _ q0, hk _ _ q1, hk _ _ q2, hk _ _ q3, hk _ _ q4⟩, hk _ _ r0, hk _ _ r1, hk _ _ r2, hk _ _ r3, hk _ _ r4⟩
theorem compareNodes_b {P Q R : Prop} (d d' : Nd) (va vb ka kb : Value) (n : Nat) (wr W2 W : World) (ha : AS (fun b => b < n ∨ b = n + 2 ∨ b = n + 3) wr va d.ats) (hb : AS (fun b => b < n ∨ b = n + 2 ∨ b = n + 3) wr vb d'.ats) (hl : Like (fun b => b < n ∨ b = n + 2 ∨ b = n + 3) wr W2) (hz : n + 5 ≤ W2.heap.size)
    (h : Below W2.heap.size W2 W ∧ P ∧ Q ∧ R) (hka : ∃ a n c, ka = .slice a n c) (hkb : ∃ a n c, kb = .slice a n c) (C : Int) (hC : Fact (cn d d' = C)) :
    Calls Try.prog 66 #[nodeV d va ka, nodeV d' vb kb] W fun e w' => e = .returned (.int .i64 C) ∧ Below W.heap.size W w' := by
  rw [← hC.out]
  have hs := h.1.size
  have hl2 : Like (fun b => b < n ∨ b = n + 2 ∨ b = n + 3) W2 W := fun b hb hz => h.1.block b hz
  have hm : ∀ b, (b < n ∨ b = n + 2 ∨ b = n + 3) → Old W.heap.size b := fun b hb => by show b < W.heap.size; omega
  exact compareNodes_any d d' va vb ka kb W (((ha.like hl).like hl2).mono hm) (((hb.like hl).like hl2).mono hm) hka hkb
theorem keep4_alloc {w W : World} {o : Obj} {a0 a1 b0 c0 : Addr} {v0 v1 x0 y0 : Value}
    (h : Below w.heap.size w W ∧ (W.cell? a0 = some v0 ∧ W.cell? a1 = some v1) ∧ W.cell? b0 = some x0 ∧ W.cell? c0 = some y0) :
    Below w.heap.size w (W.alloc o) ∧ ((W.alloc o).cell? a0 = some v0 ∧ (W.alloc o).cell? a1 = some v1) ∧ (W.alloc o).cell? b0 = some x0 ∧ (W.alloc o).cell? c0 = some y0 := by
  have hk : ∀ a v, W.cell? a = some v → (W.alloc o).cell? a = some v := fun a v hc => (World.cell?_alloc_lt _ _ _ (World.block_lt_of_cell? W _ hc)).trans hc
  exact ⟨h.1.alloc h.1.size _, ⟨hk _ _ h.2.1.1, hk _ _ h.2.1.2⟩, hk _ _ h.2.2.1, hk _ _ h.2.2.2⟩
theorem keep4_grown {w W w6 : World} {g nn cc p i0 i1 b1 o1 b2 o2 : Nat} {v0 v1 x0 y0 : Value} (hg : W.grownBy w6 (Value.slice (some ⟨g, 0, none⟩) nn cc).ownBlock) (h0 : w.heap.size ≤ g) (h1 : p ≠ g) (h2 : b1 ≠ g) (h3 : b2 ≠ g)
    (h : Below w.heap.size w W ∧ (W.cell? ⟨p, i0, none⟩ = some v0 ∧ W.cell? ⟨p, i1, none⟩ = some v1) ∧ W.cell? ⟨b1, o1, none⟩ = some x0 ∧ W.cell? ⟨b2, o2, none⟩ = some y0) :
    Below w.heap.size w w6 ∧ (w6.cell? ⟨p, i0, none⟩ = some v0 ∧ w6.cell? ⟨p, i1, none⟩ = some v1) ∧ w6.cell? ⟨b1, o1, none⟩ = some x0 ∧ w6.cell? ⟨b2, o2, none⟩ = some y0 := by
  have hk : ∀ b o v, b ≠ g → W.cell? ⟨b, o, none⟩ = some v → w6.cell? ⟨b, o, none⟩ = some v := fun b o v hb hc => hg.cell hc (fun e => hb (own_blk e))
  exact ⟨h.1.grown hg h.1.size (fun k e => by have := own_blk e.symm; omega), ⟨hk _ _ _ h1 h.2.1.1, hk _ _ _ h1 h.2.1.2⟩, hk _ _ _ h2 h.2.2.1, hk _ _ _ h3 h.2.2.2⟩
theorem cell_two_new (w : World) (x y : Value) (t : TypeId) : ∀ (j : Nat) (u : Value), [x, y][j]? = some u → (w.alloc (.cells #[x, y] t)).cell? ((⟨w.heap.size, 0, none⟩ : Addr).add j) = some u := by
  intro j u h
  have hj : j < 2 := by have := (List.getElem?_eq_some_iff.1 h).1; simpa using this
  rcases (by omega : j = 0 ∨ j = 1) with rfl | rfl
  · exact (World.cell?_alloc_new w _ _ 0).trans h
  · exact (World.cell?_alloc_new w _ _ 1).trans h
theorem own2_succ {w : World} {B E n : Nat} {v : Value} {xs : List Value} (h : w.ownsRow B E 2 v (n + 1) xs) : ∃ g cap, v = .slice (some ⟨g, 0, none⟩) (n + 1) cap := by
  rcases h.2 with ⟨_, h0⟩ | ⟨g, cap, cur, e, _⟩
  · omega
  · exact ⟨g, cap, e⟩
/-- where Compare stands -/
structure At5 (N n₀ B : Nat) (ans : Int) (w wr : World) (k : Nat) (L : List (M.F × M.F)) (vs : List (Value × Value)) (g cap : Nat) : Prop where
  own : wr.ownsRow (B + 4) 112 2 (.slice (some ⟨g, 0, none⟩) L.length cap) L.length (flat vs)
  stk : StkP (fun b => b < n₀ ∨ b = B + 2 ∨ b = B + 3) wr vs L
  ans : cS L = ans
  fuel : fuel (L.map (·.1)) ≤ k
  high : high N (L.map (·.1))
  below : Below B w wr
  size : B + 5 ≤ wr.heap.size

set_option maxRecDepth 20000 in
set_option maxHeartbeats 8000000 in
theorem compare_any (d d' : Nd) (k k' : M.F) (va vb ka kb : Value) (w : World) (ha : Lies w.heap.size w d k va ka) (hb : Lies w.heap.size w d' k' vb kb) (hk : k.depth + 2 ≤ 1000000) :
    Calls Try.prog 51 #[nodeV d va ka, nodeV d' vb kb] w fun e w' => e = .returned (.int .i64 (cT d k d' k')) ∧ Below w.heap.size w w' := by
  obtain ⟨a1, n1, c1, e1⟩ := ha.a.val
  obtain ⟨a2, n2, c2, e2⟩ := hb.a.val
  obtain ⟨a3, c3, e3⟩ := ha.f.val
  obtain ⟨a4, c4, e4⟩ := hb.f.val
  subst e1 e2 e3 e4
  have HA := Fact.mk ha
  have HB := Fact.mk hb
  clear ha hb
  obtain ⟨ans, hans⟩ : ∃ ans, cT d k d' k' = ans := ⟨_, rfl⟩
  have HANS := Fact.mk hans
  rw [hans]
  clear hans
  obtain ⟨kl, hkl⟩ : ∃ kl, k.len = kl := ⟨_, rfl⟩
  obtain ⟨kl', hkl'⟩ : ∃ kl', k'.len = kl' := ⟨_, rfl⟩
  have HKL := Fact.mk hkl
  have HKL' := Fact.mk hkl'
  rw [hkl, hkl']
  clear hkl hkl'
  go_enter Try.func51, Try.ntmps51
  go_wp2_with fail
  go_loopg [5] (fuel [.cons d k .nil]) (fun gf lv wr => ∃ L vs g cap, lv = .slice (some ⟨g, 0, none⟩) (L.length) cap ∧ Fact (At5 1000000 w.heap.size w.heap.size ans w wr gf L vs g cap))
  case atStart =>
    refine ⟨[(.cons d k .nil, .cons d' k' .nil)], [(.slice (some ⟨w.heap.size + 2, 0, none⟩) 1 1, .slice (some ⟨w.heap.size + 3, 0, none⟩) 1 1)], w.heap.size + 4, 1, rfl, ⟨?_⟩⟩
    obtain ⟨W0, hW0⟩ : ∃ W0, ((((w.alloc (.cells #[.int .i64 d.k, .string d.n, .string d.x, .slice a1 n1 c1, .slice a3 kl c3] 25)).alloc (.cells #[.int .i64 d'.k, .string d'.n, .string d'.x, .slice a2 n2 c2, .slice a4 kl' c4] 25)).alloc (.cells #[.int .i64 d.k, .string d.n, .string d.x, .slice a1 n1 c1, .slice a3 kl c3] 25)).alloc (.cells #[.int .i64 d'.k, .string d'.n, .string d'.x, .slice a2 n2 c2, .slice a4 kl' c4] 25)) = W0 := ⟨_, rfl⟩
    have hz : W0.heap.size = w.heap.size + 4 := by rw [← hW0]; simp
    have hB0 : Below w.heap.size w W0 := by rw [← hW0]; exact ((((Below.refl _ w).alloc (Nat.le_refl _) _).alloc (by simp) _).alloc (by simp; omega) _).alloc (by simp; omega) _
    have hcA : ∀ i v, (#[.int .i64 d.k, .string d.n, .string d.x, .slice a1 n1 c1, .slice a3 kl c3] : Array Value)[i]? = some v → W0.cell? ⟨w.heap.size + 2, i, none⟩ = some v := fun i v h => by
      have e := World.cell?_alloc_new ((w.alloc (.cells #[.int .i64 d.k, .string d.n, .string d.x, .slice a1 n1 c1, .slice a3 kl c3] 25)).alloc (.cells #[.int .i64 d'.k, .string d'.n, .string d'.x, .slice a2 n2 c2, .slice a4 kl' c4] 25)) #[.int .i64 d.k, .string d.n, .string d.x, .slice a1 n1 c1, .slice a3 kl c3] 25 i
      rw [World.size_alloc, World.size_alloc] at e
      rw [← hW0, World.cell?_alloc_lt _ _ _ (by simp)]
      exact e.trans h
    have hcB : ∀ i v, (#[.int .i64 d'.k, .string d'.n, .string d'.x, .slice a2 n2 c2, .slice a4 kl' c4] : Array Value)[i]? = some v → W0.cell? ⟨w.heap.size + 3, i, none⟩ = some v := fun i v h => by
      have e := World.cell?_alloc_new (((w.alloc (.cells #[.int .i64 d.k, .string d.n, .string d.x, .slice a1 n1 c1, .slice a3 kl c3] 25)).alloc (.cells #[.int .i64 d'.k, .string d'.n, .string d'.x, .slice a2 n2 c2, .slice a4 kl' c4] 25)).alloc (.cells #[.int .i64 d.k, .string d.n, .string d.x, .slice a1 n1 c1, .slice a3 kl c3] 25)) #[.int .i64 d'.k, .string d'.n, .string d'.x, .slice a2 n2 c2, .slice a4 kl' c4] 25 i
      rw [World.size_alloc, World.size_alloc, World.size_alloc] at e
      rw [← hW0]
      exact e.trans h
    rw [hW0]
    have hb1 : Below W0.heap.size W0 (W0.alloc (.cells #[.slice (some ⟨w.heap.size + 1 + 1, 0, none⟩) 1 1, .slice (some ⟨w.heap.size + 1 + 1 + 1, 0, none⟩) 1 1] 112)) := (Below.refl _ _).alloc (Nat.le_refl _) _
    have hlk : Like (fun b => b < w.heap.size ∨ b = w.heap.size + 2 ∨ b = w.heap.size + 3) W0 (W0.alloc (.cells #[.slice (some ⟨w.heap.size + 1 + 1, 0, none⟩) 1 1, .slice (some ⟨w.heap.size + 1 + 1 + 1, 0, none⟩) 1 1] 112)) := fun b hb hz => hb1.block b hz
    have hmono : ∀ b, Old w.heap.size b → b < w.heap.size ∨ b = w.heap.size + 2 ∨ b = w.heap.size + 3 := fun b hb => .inl hb
    have one : ∀ (D : Nd) (KK : M.F) (av : Value) (aa : Option Addr) (cc BB : Nat), Lies w.heap.size w D KK av (.slice aa KK.len cc) → (BB = w.heap.size + 2 ∨ BB = w.heap.size + 3) → (W0.cell? ⟨BB, 0, none⟩ = some (.int .i64 D.k) ∧ W0.cell? ⟨BB, 1, none⟩ = some (.string D.n) ∧ W0.cell? ⟨BB, 2, none⟩ = some (.string D.x) ∧ W0.cell? ⟨BB, 3, none⟩ = some av ∧ W0.cell? ⟨BB, 4, none⟩ = some (.slice aa KK.len cc)) →
        FL (fun b => b < w.heap.size ∨ b = w.heap.size + 2 ∨ b = w.heap.size + 3) W0 (.slice (some ⟨BB, 0, none⟩) 1 1) (.cons D KK .nil) := fun D KK av aa cc BB hL hBB hc => by
      obtain ⟨q1, q2, q3, q4, q5⟩ := hc
      obtain ⟨a', c', e', g1, g2, g3⟩ := (hL.f.like (like_below hB0)).mono hmono
      cases e'
      exact ⟨some ⟨BB, 0, none⟩, 1, rfl, Nat.le_refl _, by unfold maxLen; omega, .inr ⟨BB, 0, rfl, .inr hBB, ⟨av, aa, cc, q1, q2, q3, q4, q5, (hL.a.like (like_below hB0)).mono hmono, g1, g2, g3⟩, trivial⟩⟩
    have hka := HKL.out
    have hkb := HKL'.out
    refine ⟨⟨rfl, .inr ⟨w.heap.size + 4, 1, #[.slice (some ⟨w.heap.size + 1 + 1, 0, none⟩) 1 1, .slice (some ⟨w.heap.size + 1 + 1 + 1, 0, none⟩) 1 1], rfl, Nat.le_refl _, ?_, Nat.le_refl _, by unfold maxLen; omega, rfl, rfl⟩⟩, ⟨FL.like hlk (one d k _ a3 c3 _ HA.out (.inl rfl) ⟨hcA 0 _ rfl, hcA 1 _ rfl, hcA 2 _ rfl, hcA 3 _ rfl, by rw [hka]; exact hcA 4 _ rfl⟩), FL.like hlk (one d' k' _ a4 c4 _ HB.out (.inr rfl) ⟨hcB 0 _ rfl, hcB 1 _ rfl, hcB 2 _ rfl, hcB 3 _ rfl, by rw [hkb]; exact hcB 4 _ rfl⟩), trivial⟩, ?_, Nat.le_refl _, ⟨?_, trivial⟩, hB0.trans (hb1.mono (by omega)), by simp; omega⟩
    · have := World.alloc_heap_new W0 (.cells #[.slice (some ⟨w.heap.size + 1 + 1, 0, none⟩) 1 1, .slice (some ⟨w.heap.size + 1 + 1 + 1, 0, none⟩) 1 1] 112)
      rw [hz] at this
      exact this
    · rw [← HANS.out]
      show orI (orI (cn d d') (orI (cF k k') 0)) 0 = orI (cn d d') (cF k k')
      rw [orI_assoc, orI_assoc]
      have e : ∀ x : Int, orI x (orI 0 0) = x := fun x => by unfold orI; split <;> simp_all
      rw [e]
    · show 0 + 1 + max (k.depth + 1) 0 ≤ _
      omega
  case round =>
    obtain ⟨L, vs, g, cap, rfl, hat⟩ := hrel
    clear hk HA HB HANS HKL HKL'
    cases L with
    | nil =>
      have hans : Fact ((0 : Int) = ans) := ⟨hat.out.ans⟩
      have hbl := Fact.mk hat.out.below
      clear hat
      go_wp2_with fail
      go_ret
      exact ⟨ret_int hans.out, hbl.out⟩
    | cons fg L =>
      cases vs with
      | nil => exact hat.out.stk.elim
      | cons v vs =>
      obtain ⟨f, f'⟩ := fg
      obtain ⟨v1, v2⟩ := v
      obtain ⟨m, hm⟩ : ∃ m, L.length = m := ⟨_, rfl⟩
      have hown : wr.ownsRow (w.heap.size + 4) 112 2 (.slice (some ⟨g, 0, none⟩) (m + 1) cap) (m + 1) (flat vs ++ [v1, v2]) := by have := hat.out.own; rw [List.length_cons, hm] at this; exact this
      have hmx : m + 1 ≤ 1000000 := by have := high_len hat.out.high; simp only [List.map_cons, List.length_cons, List.length_map] at this; omega
      obtain ⟨hx1, hx2, hz1, hz2, hg1, hg2⟩ := own2_at hown
      have hcp := own_cap hown
      simp only [List.length_cons, hm]
      have HO := Fact.mk hown
      have HM := Fact.mk hm
      obtain ⟨s1, s2, s3⟩ := hat.out.stk
      have HS3 := Fact.mk s3
      have hsz := hat.out.size
      clear hown hm s3
      have hBox : Below w.heap.size w (wr.alloc (.cells #[v1, v2] 112)) := hat.out.below.alloc hat.out.below.size _
      have HBX := Fact.mk hBox
      clear hBox
      cases f with
      | nil =>
        obtain ⟨x1, y1, rfl, _⟩ := s1.nil
        cases f' with
        | nil =>
          obtain ⟨x2, y2, rfl, _⟩ := s2.nil
          have hlk : Like (fun b => b < w.heap.size ∨ b = w.heap.size + 2 ∨ b = w.heap.size + 3) wr (wr.alloc (.cells #[.slice x1 0 y1, .slice x2 0 y2] 112)) := fun b _ hz => Below.heap_alloc _ _ _ hz
          have HP : Fact (∃ g', g' < gk ∧ At5 1000000 w.heap.size w.heap.size ans w (wr.alloc (.cells #[.slice x1 0 y1, .slice x2 0 y2] 112)) g' L vs g cap) := ⟨fuel (L.map (·.1)), Nat.lt_of_lt_of_le (fuel_pop (L.map (fun p : M.F × M.F => p.1))) hat.out.fuel, by rw [HM.out]; exact (own2_pop HO.out).alloc _, StkP.like hlk _ _ HS3.out, by rw [← hat.out.ans, cS_nil], Nat.le_refl _, high_pop hat.out.high, HBX.out, by simp; omega⟩
          have hzero : Fact (ci ((0 : Nat) : Int) ((0 : Nat) : Int) = 0) := ⟨rfl⟩
          clear hat s1 s2 hlk
          go_wp2_with (go_at_call 27; refine (cmpI_c _ _ 0 ⟨rfl⟩ _).mono ?_; rintro e w3 ⟨rfl, hw3⟩; have hw4 := hw3.symm; subst hw4; clear hw3)
          obtain ⟨g', hg', hp'⟩ := HP.out
          go_roundg g'
          case measure => exact hg'
          case rel => exact ⟨L, vs, g, cap, by rw [HM.out], ⟨hp'⟩⟩
        | node yb yo e kk rr =>
          obtain ⟨x2, y2, ev2, _⟩ := s2.val_len
          subst ev2
          obtain ⟨rl, hrl⟩ : ∃ rl, rr.len = rl := ⟨_, rfl⟩
          rw [hrl] at hx2 HBX HO
          have hans : Fact ((-1 : Int) = ans) := ⟨hat.out.ans⟩
          have hc : Fact (ci ((0 : Nat) : Int) ((rl : Int) + 1) = -1) := ⟨by unfold ci; rw [if_pos (by omega)]⟩
          clear hat s1 s2 HS3 HO
          go_wp2_with (go_at_call 27; refine (cmpI_c _ _ (-1) hc _).mono ?_; rintro e w3 ⟨rfl, hw3⟩; have hw4 := hw3.symm; subst hw4; clear hw3)
          go_ret
          exact ⟨ret_int hans.out, HBX.out⟩
      | node xb xo dd kk rr =>
        cases f' with
        | nil =>
          obtain ⟨x1, y1, ev1, _⟩ := s1.val_len
          obtain ⟨x2, y2, rfl, _⟩ := s2.nil
          subst ev1
          obtain ⟨rl, hrl⟩ : ∃ rl, rr.len = rl := ⟨_, rfl⟩
          rw [hrl] at hx1 HBX HO
          have hans : Fact ((1 : Int) = ans) := ⟨hat.out.ans⟩
          have hc : Fact (ci ((rl : Int) + 1) ((0 : Nat) : Int) = 1) := ⟨by unfold ci; rw [if_neg (by omega), if_pos (by omega)]⟩
          clear hat s1 s2 HS3 HO
          go_wp2_with (go_at_call 27; refine (cmpI_c _ _ 1 hc _).mono ?_; rintro e w3 ⟨rfl, hw3⟩; have hw4 := hw3.symm; subst hw4; clear hw3)
          go_ret
          exact ⟨ret_int hans.out, HBX.out⟩
        | node yb yo ee kk' rr' =>
          obtain ⟨b1, o1, p1, av1, ka1, kc1, A1, ev1, t1, t2, hS1, ⟨q0, q1, q2, q3, q4⟩, hav1, hkk1, hA1, hrr1⟩ := s1.split
          obtain ⟨b2, o2, p2, av2, ka2, kc2, A2, ev2, u1, u2, hS2, ⟨z0, z1, z2, z3, z4⟩, hav2, hkk2, hA2, hrr2⟩ := s2.split
          subst ev1 ev2
          obtain ⟨rl, hrl⟩ : ∃ rl, rr.len = rl := ⟨_, rfl⟩
          obtain ⟨rl', hrl'⟩ : ∃ rl', rr'.len = rl' := ⟨_, rfl⟩
          obtain ⟨ml, hml⟩ : ∃ ml, kk.len = ml := ⟨_, rfl⟩
          obtain ⟨ml', hml'⟩ : ∃ ml', kk'.len = ml' := ⟨_, rfl⟩
          rw [hrl] at hx1 HBX HO t1 hrr1
          rw [hrl'] at hx2 HBX HO u1 hrr2
          rw [hml] at q4 hkk1
          rw [hml'] at z4 hkk2
          unfold maxLen at t2 u2
          have HR1 := Fact.mk hrr1
          have HR2 := Fact.mk hrr2
          have HV1 := Fact.mk hav1
          have HV2 := Fact.mk hav2
          have HK1 := Fact.mk hkk1
          have HK2 := Fact.mk hkk2
          -- the world behind the first statements
          obtain ⟨W1, hW1⟩ : ∃ W1, wr.alloc (.cells #[.slice (some ⟨b1, o1, none⟩) (rl + 1) p1, .slice (some ⟨b2, o2, none⟩) (rl' + 1) p2] 112) = W1 := ⟨_, rfl⟩
          have hzW : W1.heap.size = wr.heap.size + 1 := by rw [← hW1]; simp
          have hbW : Below wr.heap.size wr W1 := by rw [← hW1]; exact (Below.refl _ _).alloc (Nat.le_refl _) _
          have lx1 : W1.cell? ⟨wr.heap.size, 0, none⟩ = some (.slice (some ⟨b1, o1, none⟩) (rl + 1) p1) := by rw [← hW1]; exact World.cell?_alloc_new wr _ _ 0
          have lx2 : W1.cell? ⟨wr.heap.size, 1, none⟩ = some (.slice (some ⟨b2, o2, none⟩) (rl' + 1) p2) := by rw [← hW1]; exact World.cell?_alloc_new wr _ _ 1
          have gx1 := (hbW.cell (p := ⟨g, m * 2, none⟩) hg2).trans hx1
          have gx2 := (hbW.cell (p := ⟨g, m * 2 + 1, none⟩) hg2).trans hx2
          have gf1 := (hbW.frozen (p := ⟨g, m * 2, none⟩) hg2).trans hz1
          have gf2 := (hbW.frozen (p := ⟨g, m * 2 + 1, none⟩) hg2).trans hz2
          have hne : wr.heap.size ≠ g := by omega
          have HATS := Fact.mk hat.out
          clear hat s1 s2 hrr1 hrr2 hav1 hav2 hkk1 hkk2
          have n1' : ((rl : Int) + 1 == 0) = false := by rw [beq_eq_false_iff_ne]; omega
          have n2' : ((rl' : Int) + 1 == 0) = false := by rw [beq_eq_false_iff_ne]; omega
          obtain ⟨W2, hW2⟩ : ∃ W2, ((W1.setCell ⟨g, m * 2, none⟩ (.slice A1 rl (p1 - 1))).setCell ⟨g, m * 2 + 1, none⟩ (.slice A2 rl' (p2 - 1))).drew = W2 := ⟨_, rfl⟩
          have hoth : ∀ b, b ≠ g → W2.heap[b]? = W1.heap[b]? := fun b hb => by
            rw [← hW2]
            show ((W1.setCell ⟨g, m * 2, none⟩ (.slice A1 rl (p1 - 1))).setCell ⟨g, m * 2 + 1, none⟩ (.slice A2 rl' (p2 - 1))).heap[b]? = _
            rw [Below.heap_setCell _ _ _ _ (by exact hb), Below.heap_setCell _ _ _ _ (by exact hb)]
          have hown2 : W2.ownsRow (w.heap.size + 4) 112 2 (.slice (some ⟨g, 0, none⟩) (m + 1) cap) (m + 1) (flat vs ++ [.slice A1 rl (p1 - 1), .slice A2 rl' (p2 - 1)]) := by
            have h1 : W1.ownsRow (w.heap.size + 4) 112 2 (.slice (some ⟨g, 0, none⟩) (m + 1) cap) (m + 1) (flat vs ++ [.slice (some ⟨b1, o1, none⟩) (rl + 1) p1, .slice (some ⟨b2, o2, none⟩) (rl' + 1) p2]) := by rw [← hW1]; exact HO.out.alloc _
            rw [← hW2]
            exact own2_set h1
          have hz2W : W2.heap.size = wr.heap.size + 1 := by rw [← hW2]; show ((W1.setCell _ _).setCell _ _).heap.size = _; simp [World.setCell]; exact hzW
          have hlk2 : Like (fun b => b < w.heap.size ∨ b = w.heap.size + 2 ∨ b = w.heap.size + 3) wr W2 := fun b hb hz => (hoth b (by have hb' : b < w.heap.size ∨ b = w.heap.size + 2 ∨ b = w.heap.size + 3 := hb; omega)).trans (hbW.block b hz)
          have hB2 : Below w.heap.size w W2 := by
            have h1 : Below w.heap.size w W1 := HATS.out.below.trans (hbW.mono HATS.out.below.size)
            rw [← hW2]
            exact (((h1.setCell (p := ⟨g, m * 2, none⟩) (by show _ ≤ g; omega) _).setCell (p := ⟨g, m * 2 + 1, none⟩) (by show _ ≤ g; omega) _)).drew
          have my1 : W2.cell? ⟨wr.heap.size, 0, none⟩ = some (.slice (some ⟨b1, o1, none⟩) (rl + 1) p1) := (World.cell?_of_block (a := ⟨wr.heap.size, 0, none⟩) (hoth _ hne)).trans lx1
          have my2 : W2.cell? ⟨wr.heap.size, 1, none⟩ = some (.slice (some ⟨b2, o2, none⟩) (rl' + 1) p2) := (World.cell?_of_block (a := ⟨wr.heap.size, 1, none⟩) (hoth _ hne)).trans lx2
          have w0 := hlk2.cell hS1 q0
          have w1 := hlk2.cell hS1 q1
          have w2 := hlk2.cell hS1 q2
          have w3 := hlk2.cell hS1 q3
          have w4 := hlk2.cell hS1 q4
          have x0 := hlk2.cell hS2 z0
          have x1 := hlk2.cell hS2 z1
          have x2 := hlk2.cell hS2 z2
          have x3 := hlk2.cell hS2 z3
          have x4 := hlk2.cell hS2 z4
          have HW2 := Fact.mk hW2
          have HO2 := Fact.mk hown2
          have HL2 := Fact.mk hlk2
          have HB2 := Fact.mk hB2
          have HSB1 := Fact.mk hS1
          have HSB2 := Fact.mk hS2
          have HS2 : Fact (Below W2.heap.size W2 W2.drew ∧ (W2.drew.cell? ⟨wr.heap.size, 0, none⟩ = some (.slice (some ⟨b1, o1, none⟩) (rl + 1) p1) ∧ W2.drew.cell? ⟨wr.heap.size, 1, none⟩ = some (.slice (some ⟨b2, o2, none⟩) (rl' + 1) p2)) ∧
            (W2.drew.cell? ⟨b1, o1, none⟩ = some (.int .i64 dd.k) ∧ W2.drew.cell? ⟨b1, o1 + 1, none⟩ = some (.string dd.n) ∧ W2.drew.cell? ⟨b1, o1 + 2, none⟩ = some (.string dd.x) ∧ W2.drew.cell? ⟨b1, o1 + 3, none⟩ = some av1 ∧ W2.drew.cell? ⟨b1, o1 + 4, none⟩ = some (.slice ka1 ml kc1)) ∧
            (W2.drew.cell? ⟨b2, o2, none⟩ = some (.int .i64 ee.k) ∧ W2.drew.cell? ⟨b2, o2 + 1, none⟩ = some (.string ee.n) ∧ W2.drew.cell? ⟨b2, o2 + 2, none⟩ = some (.string ee.x) ∧ W2.drew.cell? ⟨b2, o2 + 3, none⟩ = some av2 ∧ W2.drew.cell? ⟨b2, o2 + 4, none⟩ = some (.slice ka2 ml' kc2))) := ⟨(Below.refl _ _).drew, ⟨my1, my2⟩, ⟨w0, w1, w2, w3, w4⟩, ⟨x0, x1, x2, x3, x4⟩⟩
          clear hoth hown2 hlk2 hB2 w0 w1 w2 w3 w4 x0 x1 x2 x3 x4 my1 my2 q0 q1 q2 q3 q4 z0 z1 z2 z3 z4 hW2 hS1 hS2
          obtain ⟨C, HC⟩ : ∃ C, Fact (cn dd ee = C) := ⟨_, ⟨rfl⟩⟩
          have HAN : Fact (orI C (cS ((kk, kk') :: (rr, rr') :: L)) = ans) := ⟨by rw [← HC.out, ← cS_push xb xo yb yo]; exact HATS.out.ans⟩
          by_cases hC0 : C = 0
          · subst hC0
            go_wp2_with fail
            go_region
            rw [HW2.out]
            clear lx1 lx2 gx1 gx2 gf1 gf2 hA1 hA2 HW2
            go_wp2_with fail
            have hS0 := HS2.out
            clear HS2
            go_region_held3 (fun w' => Below W2.heap.size W2 w' ∧ (w'.cell? ⟨wr.heap.size, 0, none⟩ = some (.slice (some ⟨b1, o1, none⟩) (rl + 1) p1) ∧ w'.cell? ⟨wr.heap.size, 1, none⟩ = some (.slice (some ⟨b2, o2, none⟩) (rl' + 1) p2)) ∧
                (w'.cell? ⟨b1, o1, none⟩ = some (.int .i64 dd.k) ∧ w'.cell? ⟨b1, o1 + 1, none⟩ = some (.string dd.n) ∧ w'.cell? ⟨b1, o1 + 2, none⟩ = some (.string dd.x) ∧ w'.cell? ⟨b1, o1 + 3, none⟩ = some av1 ∧ w'.cell? ⟨b1, o1 + 4, none⟩ = some (.slice ka1 ml kc1)) ∧
                (w'.cell? ⟨b2, o2, none⟩ = some (.int .i64 ee.k) ∧ w'.cell? ⟨b2, o2 + 1, none⟩ = some (.string ee.n) ∧ w'.cell? ⟨b2, o2 + 2, none⟩ = some (.string ee.x) ∧ w'.cell? ⟨b2, o2 + 3, none⟩ = some av2 ∧ w'.cell? ⟨b2, o2 + 4, none⟩ = some (.slice ka2 ml' kc2)))
              (first | exact hS0 | exact keep12 hb5 (by assumption) | assumption)
              (first | (go_at_call 66; refine (compareNodes_b dd ee _ _ _ _ w.heap.size wr W2 _ HV1.out HV2.out HL2.out (by omega) (by assumption) ⟨_, _, _, rfl⟩ ⟨_, _, _, rfl⟩ _ HC).mono ?_; rintro e w5 ⟨rfl, hb5⟩))
            rename_i hSS
            obtain ⟨hS5, ⟨m1, m2⟩, ⟨_, _, _, _, m3⟩, _, _, _, _, m4⟩ := hSS
            have HS5 := Fact.mk hS5
            have hsz5 := hS5.size
            have HO5 : Fact (w5.ownsRow (w.heap.size + 4) 112 2 (.slice (some ⟨g, 0, none⟩) (m + 1) cap) (m + 1) (flat vs ++ [.slice A1 rl (p1 - 1), .slice A2 rl' (p2 - 1)])) := ⟨own_like HO2.out (fun k _ hz => hS5.block k hz)⟩
            have hSx : Fact (Below w.heap.size w w5.drew ∧ (w5.drew.cell? ⟨wr.heap.size, 0, none⟩ = some (.slice (some ⟨b1, o1, none⟩) (rl + 1) p1) ∧ w5.drew.cell? ⟨wr.heap.size, 1, none⟩ = some (.slice (some ⟨b2, o2, none⟩) (rl' + 1) p2)) ∧ w5.drew.cell? ⟨b1, o1 + 4, none⟩ = some (.slice ka1 ml kc1) ∧ w5.drew.cell? ⟨b2, o2 + 4, none⟩ = some (.slice ka2 ml' kc2)) := ⟨(HB2.out.trans (hS5.mono (by omega))).drew, ⟨m1, m2⟩, m3, m4⟩
            have hbg1 : b1 ≠ g := by have := HSB1.out; omega
            have hbg2 : b2 ≠ g := by have := HSB2.out; omega
            clear hS0 hb5 hS5 m1 m2 m3 m4
            go_wp2_with fail
            have hS0 := hSx.out
            clear hSx
            obtain ⟨i0, hi, hzz0, hzz1, hzz2⟩ := info_parts infoL
            go_region_held3 (fun w' => Below w.heap.size w w' ∧ (w'.cell? ⟨wr.heap.size, 0, none⟩ = some (.slice (some ⟨b1, o1, none⟩) (rl + 1) p1) ∧ w'.cell? ⟨wr.heap.size, 1, none⟩ = some (.slice (some ⟨b2, o2, none⟩) (rl' + 1) p2)) ∧ w'.cell? ⟨b1, o1 + 4, none⟩ = some (.slice ka1 ml kc1) ∧ w'.cell? ⟨b2, o2 + 4, none⟩ = some (.slice ka2 ml' kc2))
              (first | exact hS0 | exact keep4_alloc (by assumption) | exact keep4_grown hgrow (by omega) hne hbg1 hbg2 (by assumption) | assumption)
              (first | (refine wp_append_own _ (.tmp 71) (.tmp 83) 113 rfl (w.heap.size + 4) 112 i0 (.agg #[.slice none 0 0, .slice none 0 0]) 2 48 Try.underlying113 hi hzz0 hzz1 hzz2 rfl (by decide) _ (m + 1) _ (by simp [Act.eval]) (HO5.out.alloc _) ⟨w5.heap.size, 0, none⟩ 1 1 [.slice ka1 ml kc1, .slice ka2 ml' kc2] (by simp [Act.eval]) rfl (cell_two_new _ _ _ _) (by simp [Value.oneCell']) (by unfold maxLen; omega) (by omega) (by simp; omega) ?_; intro v' w6 hown' hgrow _; obtain ⟨g', cap', rfl⟩ := own2_succ hown'))
            rename_i hSS
            have HP : Fact (At5 1000000 w.heap.size w.heap.size ans w w6 (fuel ((kk, kk') :: (rr, rr') :: L |>.map (·.1))) ((kk, kk') :: (rr, rr') :: L) ((.slice ka1 ml kc1, .slice ka2 ml' kc2) :: (.slice A1 rl (p1 - 1), .slice A2 rl' (p2 - 1)) :: vs) g' cap') := by
              have hlk : Like (fun b => b < w.heap.size ∨ b = w.heap.size + 2 ∨ b = w.heap.size + 3) wr w6 := fun b hb hz => by
                have hb' : b < w.heap.size ∨ b = w.heap.size + 2 ∨ b = w.heap.size + 3 := hb
                have e1 := HL2.out b hb hz
                have e2 := HS5.out.block b (by omega)
                have e3 := (hgrow.block b (by simp; omega) (fun e => by have := own_blk e; omega)).trans (Below.heap_alloc w5 _ b (by omega))
                exact e3.trans (e2.trans e1)
              refine ⟨⟨by simp only [List.length_cons, HM.out]; exact hown', ?_, ?_, Nat.le_refl _, high_push HATS.out.high, hSS.1, ?_⟩⟩
              · exact ⟨HK1.out.like hlk, HK2.out.like hlk, HR1.out.like hlk, HR2.out.like hlk, StkP.like hlk _ _ HS3.out⟩
              · exact HAN.out
              · have := hgrow.size
                simp at this
                omega
            have hfl : Fact (fuel ((kk, kk') :: (rr, rr') :: L |>.map (·.1)) < gk) := ⟨Nat.lt_of_lt_of_le (fuel_push xb xo dd kk rr (L.map (fun p : M.F × M.F => p.1))) HATS.out.fuel⟩
            obtain ⟨G, hG⟩ : ∃ G, fuel ((kk, kk') :: (rr, rr') :: L |>.map (·.1)) = G := ⟨_, rfl⟩
            rw [hG] at HP hfl
            clear hG hSS hown' hgrow hS0
            go_wp2_with fail
            go_roundg G
            case measure => exact hfl.out
            case rel => exact ⟨_, _, g', cap', by simp only [List.length_cons, HM.out], HP⟩
          · have hCb : (C != 0) = true := bne_iff_ne.2 hC0
            have hfin : Fact (C = ans) := ⟨by rw [← HAN.out]; unfold orI; rw [if_neg hC0]⟩
            go_wp2_with fail
            go_region
            rw [HW2.out]
            clear lx1 lx2 gx1 gx2 gf1 gf2 hA1 hA2 HW2
            go_wp2_with fail
            have hS0 := HS2.out
            clear HS2
            go_region_held3 (fun w' => Below W2.heap.size W2 w' ∧ (w'.cell? ⟨wr.heap.size, 0, none⟩ = some (.slice (some ⟨b1, o1, none⟩) (rl + 1) p1) ∧ w'.cell? ⟨wr.heap.size, 1, none⟩ = some (.slice (some ⟨b2, o2, none⟩) (rl' + 1) p2)) ∧
                (w'.cell? ⟨b1, o1, none⟩ = some (.int .i64 dd.k) ∧ w'.cell? ⟨b1, o1 + 1, none⟩ = some (.string dd.n) ∧ w'.cell? ⟨b1, o1 + 2, none⟩ = some (.string dd.x) ∧ w'.cell? ⟨b1, o1 + 3, none⟩ = some av1 ∧ w'.cell? ⟨b1, o1 + 4, none⟩ = some (.slice ka1 ml kc1)) ∧
                (w'.cell? ⟨b2, o2, none⟩ = some (.int .i64 ee.k) ∧ w'.cell? ⟨b2, o2 + 1, none⟩ = some (.string ee.n) ∧ w'.cell? ⟨b2, o2 + 2, none⟩ = some (.string ee.x) ∧ w'.cell? ⟨b2, o2 + 3, none⟩ = some av2 ∧ w'.cell? ⟨b2, o2 + 4, none⟩ = some (.slice ka2 ml' kc2)))
              (first | exact hS0 | exact keep12 hb5 (by assumption) | assumption)
              (first | (go_at_call 66; refine (compareNodes_b dd ee _ _ _ _ w.heap.size wr W2 _ HV1.out HV2.out HL2.out (by omega) (by assumption) ⟨_, _, _, rfl⟩ ⟨_, _, _, rfl⟩ _ HC).mono ?_; rintro e w5 ⟨rfl, hb5⟩))
            rename_i hSS
            have HSS := Fact.mk hSS.1
            clear hSS
            go_wp2_with fail
            go_ret
            exact ⟨ret_int hfin.out, HB2.out.trans (HSS.out.mono (by omega))⟩

theorem compare_at {n : Nat} {w : World} {d d' : Nd} {k k' : M.F} {va vb ka kb : Value} (C : Int) (hC : Fact (cT d k d' k' = C)) (hk : k.depth + 2 ≤ 1000000) (ha : Lies n w d k va ka) (hb : Lies n w d' k' vb kb) (hn : n ≤ w.heap.size) :
    Calls Try.prog 51 #[nodeV d va ka, nodeV d' vb kb] w fun e w' => e = .returned (.int .i64 C) ∧ Below w.heap.size w w' := by
  rw [← hC.out]; exact compare_any d d' k k' va vb ka kb w (ha.here hn) (hb.here hn) hk

set_option maxRecDepth 20000 in
set_option maxHeartbeats 1000000 in
theorem same_at {n : Nat} {w : World} {d d' : Nd} {k k' : M.F} {va vb ka kb : Value} (r : Bool) (hr : Fact (decide (cT d k d' k' = 0) = r)) (hk : k.depth + 2 ≤ 1000000) (ha : Lies n w d k va ka) (hb : Lies n w d' k' vb kb) (hn : n ≤ w.heap.size) :
    Calls Try.prog 30 #[nodeV d va ka, nodeV d' vb kb] w fun e w' => e = .returned (.bool r) ∧ Below w.heap.size w w' := by
  obtain ⟨a1, n1, c1, e1⟩ := ha.a.val
  obtain ⟨a2, n2, c2, e2⟩ := hb.a.val
  obtain ⟨a3, c3, e3⟩ := ha.f.val
  obtain ⟨a4, c4, e4⟩ := hb.f.val
  subst e1 e2 e3 e4
  obtain ⟨C, hC⟩ : ∃ C, Fact (cT d k d' k' = C) := ⟨_, ⟨rfl⟩⟩
  have hr' : Fact (decide (C = 0) = r) := ⟨by rw [← hC.out]; exact hr.out⟩
  obtain ⟨W1, hW1⟩ : ∃ W1, (w.alloc (.cells #[.int .i64 d.k, .string d.n, .string d.x, .slice a1 n1 c1, .slice a3 k.len c3] 25)).alloc (.cells #[.int .i64 d'.k, .string d'.n, .string d'.x, .slice a2 n2 c2, .slice a4 k'.len c4] 25) = W1 := ⟨_, rfl⟩
  have hb1 : Below w.heap.size w W1 := by rw [← hW1]; exact ((Below.refl _ w).alloc (Nat.le_refl _) _).alloc (by simp) _
  have HA := Fact.mk (ha.below (hb1.mono hn))
  have HB := Fact.mk (hb.below (hb1.mono hn))
  have HB1 := Fact.mk hb1
  have HW1 := Fact.mk hW1
  clear ha hb hb1 hW1 hr
  go_enter Try.func30, Try.ntmps30
  go_wp2_with fail
  rw [HW1.out]
  refine (compare_at C hC hk HA.out HB.out (Nat.le_trans hn HB1.out.size)).mono ?_
  rintro e w2 ⟨rfl, hb2⟩
  go_wp2_with fail
  go_ret
  refine ⟨ret_bool ?_, HB1.out.trans (hb2.mono HB1.out.size)⟩
  rw [← hr'.out]
  rw [Bool.eq_iff_iff]
  simp
end Go.Proofs.Ytkojhgagkoeeiaa
