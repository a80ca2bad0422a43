/- The walk of WalkSubs: it returns true. -/
import Derived.Test.YtjjkidenlgghkaaSubC
import Derived.Test.YtjjkidenlgghkaaGrowM
import Derived.Test.YtjjkidenlgghkaaGrown
import Derived.Test.YtjjkidenlgghkaaRefCmp
import Derived.Test.YtjjkidenlgghkaaAwake7
import Derived.Test.YtjjkidenlgghkaaFlat
set_option linter.unusedVariables false
set_option linter.unusedSimpArgs false
namespace Go.Proofs.Ytjjkidenlgghkaa
open Go.Deep (BT)
open Go.RowKit M

theorem GAt.two {l : List (ByteArray × ByteArray)} (h : GAt l) : l.length ≤ 2 := by
  rcases h with (rfl | ⟨i, hi, rfl⟩) | ⟨m, j, (rfl | ⟨i, hi, rfl⟩), hj, rfl⟩ <;> simp
theorem GNd.gat {d : Nd} {l : Nat} (h : GNd d l) : GAt d.ats := by
  rcases h with ⟨_, _, _, h, _⟩ | ⟨_, _, _, h, _⟩ | ⟨_, _, _, h⟩
  · exact .inl (.inl h)
  · exact .inl (.inl h)
  · exact h
theorem gslots : ∀ f : M.F, gOK f → f.slots ≤ 2 * f.size
  | .nil, _ => Nat.zero_le _
  | .node _ _ d k r, h => by
    have h1 := h.1.gat.two
    have h2 := gslots k h.2.1
    have h3 := gslots r h.2.2
    simp only [BT.slots, BT.size]
    omega
set_option maxRecDepth 20000 in
theorem has_yes (a : Option Addr) (n c : Nat) (i : Int) (w : World) (h0 : 0 ≤ i) (h : i < n) : Calls Try.prog 38 #[.slice a n c, .int .i64 i] w fun e w' => e = .returned (.bool true) ∧ w' = w := by
  go_enter Try.func38, Try.ntmps38
  go_wp2_with fail
  go_ret
  exact ⟨rfl, rfl⟩
set_option maxRecDepth 20000 in
set_option maxHeartbeats 1000000 in
theorem within_yes (g n cap i k : Nat) (z : Int) (w : World) (hz : w.cell? ⟨g, i * 10 + 1, none⟩ = some (.int .i64 z)) (hik : (i : Int) + k < n) (hkz : (k : Int) < z) (hc : (n : Int) ≤ cap) (hn : n ≤ 1000000) :
    Calls Try.prog 23 #[.slice (some ⟨g, 0, none⟩) n cap, .int .i64 ((i : Int) + k), .int .i64 i] w fun e w' => e = .returned (.bool true) ∧ w' = w := by
  have h0 : (0 : Int) ≤ (i : Int) + k := by omega
  have h1 : (0 : Int) ≤ i := by omega
  have h2 : (i : Int) < n := by omega
  have tok1 : True := trivial
  by_cases hk : k = 0
  · subst hk
    have e0 : ((i : Int) + (0 : Nat)) = i := by omega
    rw [e0] at hik ⊢
    go_enter Try.func23, Try.ntmps23
    go_wp2_with (go_at_call 38; refine (has_yes _ _ _ _ _ h1 h2).mono ?_; rintro e w1 ⟨rfl, hw1⟩; have hw2 := hw1.symm; subst hw2; clear hw1)
    go_ret
    exact ⟨rfl, rfl⟩
  · have q1 : ¬ ((i : Int) + k = i) := by omega
    have q2 : (((i : Int) + k) == (i : Int)) = false := beq_eq_false_iff_ne.2 q1
    have q3 : (i : Int) < (i : Int) + k := by omega
    have q4 : (i : Int) + k - i = k := by omega
    have q5 : wrap64 ((i : Int) + k - i) = k := by rw [q4]; unfold wrap64; omega
    go_enter Try.func23, Try.ntmps23
    go_wp2_with (first
      | (go_at_call 38; have _t := tok1; refine (has_yes _ _ _ _ _ h0 hik).mono ?_; rintro e w1 ⟨rfl, hw1⟩; have hw2 := hw1.symm; subst hw2; clear hw1 tok1 _t)
      | (go_at_call 38; refine (has_yes _ _ _ _ _ h1 h2).mono ?_; rintro e w2 ⟨rfl, hw1⟩; have hw2 := hw1.symm; subst hw2; clear hw1))
    go_ret
    exact ⟨rfl, rfl⟩

set_option maxRecDepth 100000 in
set_option maxHeartbeats 4000000 in
theorem subs7_walk (v : Value) (ln : Nat) (a b : Int) (w : World) (hl : IsL w.heap.size w v ln) :
    Calls Try.prog 7 #[v, .int .i64 a, .int .i64 b] w fun e w' => e = .returned (.bool true) ∧ Below w.heap.size w w' := by
  go_enter Try.func7, Try.ntmps7
  go_wp2_with (go_at_call 25; refine (Grown_any v ln w.heap.size _ hl (Nat.le_refl _)).mono ?_; rintro e w1 ⟨k, ka, kc, rfl, hg, hb1, hf1⟩)
  obtain ⟨kl, hkl⟩ : ∃ kl, k.len = kl := ⟨_, rfl⟩
  rw [hkl] at hf1 ⊢
  clear hkl
  obtain ⟨W1, hW1⟩ : ∃ W1, w1.alloc (.cells #[.int .i64 1, .string ⟨#[]⟩, .string ⟨#[]⟩, .slice none 0 0, .slice ka kl kc] 25) = W1 := ⟨_, rfl⟩
  have HX1 : Fact (Five W1 w1.heap.size (.int .i64 1) (.string ⟨#[]⟩) (.string ⟨#[]⟩) (.slice none 0 0) (.slice ka kl kc)) := ⟨by rw [← hW1]; exact Five.new w1 _ _ _ _ _ _⟩
  have hBW1 : Below w1.heap.size w1 W1 := by rw [← hW1]; exact box_below _
  have HL1 : Fact (Lies W1.heap.size W1 rootD k (.slice none 0 0) (.slice ka kl kc)) := ⟨⟨AS.nothing, (hf1.both.like (fun b hb _ => hBW1.block b hb.2)).mono (fun b hb => by have := hBW1.size; have := hb.2; show b < W1.heap.size; omega)⟩⟩
  have HB1 : Fact (Below w.heap.size w W1) := ⟨hb1.trans (hBW1.mono hb1.size)⟩
  have hdp : k.depth + 1 ≤ 1000000 := by have := hg.out.deep; omega
  have hsz : k.size + 1 ≤ 1000000 := by have := hg.out.most; omega
  have hsl : rootD.ats.length + k.slots ≤ 1000000 := by have := gslots k hg.out.ok; have := hg.out.most; show 0 + k.slots ≤ 1000000; omega
  rw [hW1]
  clear hW1 hBW1 hb1 hf1
  refine (flat_any rootD k _ _ W1 HL1.out.a HL1.out.f hdp (by omega) hsl).mono ?_
  rintro e w2 ⟨v2, its, rfl, hb2, hmap, hrow, _⟩
  obtain ⟨n, hn⟩ : ∃ n, k.size + 1 = n := ⟨_, rfl⟩
  rw [hn] at hrow hsz
  obtain ⟨gx, cx, rfl, hcx1, hcx2⟩ : ∃ gx cx, v2 = .slice (some ⟨gx, 0, none⟩) n cx ∧ n ≤ cx ∧ cx ≤ maxLen := by
    rcases hrow.2 with ⟨_, h0⟩ | ⟨g, cap, cur, e, _, _, h1, h2, _⟩
    · omega
    · exact ⟨g, cap, e, h1, h2⟩
  have HROW := Fact.mk hrow
  have HMAP := Fact.mk hmap
  have HN := Fact.mk hn
  have hlen : its.length = n := by have := congrArg List.length hmap; rw [List.length_map, flatT_len, hn] at this; exact this
  have n0 : 0 < n := by omega
  obtain ⟨i, hi⟩ : ∃ i, Fact (pl a n = i) := ⟨_, ⟨rfl⟩⟩
  have hin : i < n := by rw [← hi.out]; exact pl_lt a n n0
  obtain ⟨y, hy⟩ : ∃ y, its[i]? = some y := ⟨_, List.getElem?_eq_getElem (by omega)⟩
  obtain ⟨d1, k1, hs1, hz1, _⟩ := flatT_sub rootD k i y.1 (by rw [← hmap, List.getElem?_map, hy]; rfl)
  obtain ⟨z1, hz⟩ : ∃ z1, k1.size + 1 = z1 := ⟨_, rfl⟩
  have hyz : y.1.z = (z1 : Nat) := by rw [hz1]; omega
  have hbd1 := sub_bd _ _ _ _ hs1
  simp only [BT.size, BT.depth, BT.slots] at hbd1
  have hzc : w2.cell? ⟨gx, i * 10 + 1, none⟩ = some (.int .i64 z1) := by
    have := (row10_at hrow hy).1 1 _ rfl
    rw [hyz] at this
    exact this
  have hgx : gx < w2.heap.size := World.block_lt_of_cell? w2 _ hzc
  obtain ⟨j, hj⟩ : ∃ j, Fact (pl b z1 = j) := ⟨_, ⟨rfl⟩⟩
  have hjz : j < z1 := by rw [← hj.out]; exact pl_lt b z1 (by omega)
  obtain ⟨⟨d2, k2⟩, hs2⟩ := sub_some (.cons d1 k1 .nil) j (by simp only [BT.size]; omega)
  have hs3 : M.sub (.cons rootD k .nil) (i + j) = some (d2, k2) := by rw [sub_one d1 k1 j (by omega) _ _ hs1]; exact hs2
  have hbd2 := sub_bd _ _ _ _ hs2
  simp only [BT.size, BT.depth, BT.slots] at hbd2
  have HS1 := Fact.mk hs1
  have HS2 := Fact.mk hs2
  have HS3 := Fact.mk hs3
  have HX2 := Fact.mk (HX1.out.up hb2)
  have HL2 := Fact.mk (HL1.out.up hb2)
  have HB2 : Fact (Below w.heap.size w w2) := ⟨HB1.out.trans (hb2.mono HB1.out.size)⟩
  have HZC := Fact.mk hzc
  obtain ⟨u0, u1, u2, u3, u4, _⟩ := id HX2.out
  have ni0 : ¬ (n : Int) = 0 := by omega
  have ni1 : ((n : Int) == 0) = false := beq_eq_false_iff_ne.2 ni0
  have s1 : k1.depth + 1 ≤ 1000000 := by omega
  have s2 : k1.size + 1 ≤ 1000000 := by omega
  have s3 : d1.ats.length + k1.slots ≤ 1000000 := by simp only [show rootD.ats.length = 0 from rfl] at *; omega
  clear hrow hmap hy hz1 hs1 hs2 hs3 hb2 HX1 HL1 HB1 hyz hzc hn HMAP
  obtain ⟨K1, N1, X1, A1⟩ := d1
  obtain ⟨K2, N2, X2, A2⟩ := d2
  go_wp2_with (go_at_call 24; refine (place_at a n i hi _ n0 (by omega)).mono ?_; rintro e w9 ⟨rfl, hw9⟩; have hw8 := hw9.symm; subst hw8; clear hw9)
  refine (sub_yes (d := rootD) i _ ⟨rfl⟩ ⟨K1, N1, X1, A1⟩ k1 HS1 HL2.out hdp (by have := HN.out; omega) hsl).mono ?_
  rintro e w3 ⟨a1, n1, c1, a2, n2, c2, rfl, hb3, hl3⟩
  have HL3 := Fact.mk hl3
  obtain ⟨W3, hW3⟩ : ∃ W3, w3.alloc (.cells #[.int .i64 K1, .string N1, .string X1, .slice a1 n1 c1, .slice a2 n2 c2] 25) = W3 := ⟨_, rfl⟩
  have hBW3 : Below w3.heap.size w3 W3 := by rw [← hW3]; exact box_below _
  have hb23 : Below w2.heap.size w2 W3 := hb3.trans (hBW3.mono hb3.size)
  have HX3 : Fact (Five W3 w3.heap.size (.int .i64 K1) (.string N1) (.string X1) (.slice a1 n1 c1) (.slice a2 n2 c2)) := ⟨by rw [← hW3]; exact Five.new w3 _ _ _ _ _ _⟩
  have HW3 := Fact.mk hW3
  have HL3' := Fact.mk (hl3.up hBW3)
  have HT3 := Fact.mk (HX2.out.up hb23)
  have HLT3 := Fact.mk (HL2.out.up hb23)
  have HZ3 : Fact (W3.cell? ⟨gx, i * 10 + 1, none⟩ = some (.int .i64 z1)) := ⟨(hb23.cell (p := ⟨gx, i * 10 + 1, none⟩) hgx).trans HZC.out⟩
  have HB3 : Fact (Below w.heap.size w W3) := ⟨HB2.out.trans (hb23.mono HB2.out.size)⟩
  have hz3 := HZ3.out
  have x0 := HX3.out.c0
  have x1 := HX3.out.c1
  have x2 := HX3.out.c2
  have x3 := HX3.out.c3
  have x4 := HX3.out.c4
  have i0 : (0 : Int) ≤ i := by omega
  have i1 : (i : Int) < n := by omega
  have j1 : (1 : Int) ≤ z1 := by omega
  have z0 : 0 < z1 := by omega
  clear u0 u1 u2 u3 u4 hl3 hb3 hb23 hBW3 hW3 HX2 HL2 HB2 HZC HL3
  go_wp2_with (first
    | (rw [HW3.out]; clear HW3)
    | (go_at_call 24; refine (place_at b z1 j hj _ z0 (by omega)).mono ?_; rintro e w9 ⟨rfl, hw9⟩; have hw8 := hw9.symm; subst hw8; clear hw9))
  refine (sub_yes (d := ⟨K1, N1, X1, A1⟩) j _ ⟨rfl⟩ ⟨K2, N2, X2, A2⟩ k2 HS2 HL3'.out s1 s2 s3).mono ?_
  rintro e w4 ⟨b1, m1, e1, b2, m2, e2, rfl, hb4, hl4⟩
  obtain ⟨W4, hW4⟩ : ∃ W4, w4.alloc (.cells #[.int .i64 K2, .string N2, .string X2, .slice b1 m1 e1, .slice b2 m2 e2] 25) = W4 := ⟨_, rfl⟩
  have hBW4 : Below w4.heap.size w4 W4 := by rw [← hW4]; exact box_below _
  have hb34 : Below W3.heap.size W3 W4 := hb4.trans (hBW4.mono hb4.size)
  have HX4 : Fact (Five W4 w4.heap.size (.int .i64 K2) (.string N2) (.string X2) (.slice b1 m1 e1) (.slice b2 m2 e2)) := ⟨by rw [← hW4]; exact Five.new w4 _ _ _ _ _ _⟩
  have HW4 := Fact.mk hW4
  have HL4 := Fact.mk (hl4.up hBW4)
  have HT4 := Fact.mk (HT3.out.up hb34)
  have HLT4 := Fact.mk (HLT3.out.up hb34)
  have hgx3 : gx < W3.heap.size := World.block_lt_of_cell? W3 _ HZ3.out
  have HZ4 : Fact (W4.cell? ⟨gx, i * 10 + 1, none⟩ = some (.int .i64 z1)) := ⟨(hb34.cell (p := ⟨gx, i * 10 + 1, none⟩) hgx3).trans HZ3.out⟩
  have HB4 : Fact (Below w.heap.size w W4) := ⟨HB3.out.trans (hb34.mono HB3.out.size)⟩
  obtain ⟨t0, t1, t2, t3, t4, _⟩ := id HT4.out
  clear x0 x1 x2 x3 x4 hz3 hl4 hb4 hb34 hBW4 hW4 HT3 HLT3 HZ3 HB3 HX3 HL3'
  go_wp2_with (rw [HW4.out]; clear HW4)
  have hij : Fact ((i : Int) + j = ((i + j : Nat) : Int)) := ⟨by omega⟩
  refine (sub_yes (d := rootD) (i + j) _ hij ⟨K2, N2, X2, A2⟩ k2 HS3 HLT4.out hdp (by have := HN.out; omega) hsl).mono ?_
  rintro e w5 ⟨g1, o1, f1, g2, o2, f2, rfl, hb5, hl5⟩
  obtain ⟨W5, hW5⟩ : ∃ W5, w5.alloc (.cells #[.int .i64 K2, .string N2, .string X2, .slice g1 o1 f1, .slice g2 o2 f2] 25) = W5 := ⟨_, rfl⟩
  have hBW5 : Below w5.heap.size w5 W5 := by rw [← hW5]; exact box_below _
  have hb45 : Below W4.heap.size W4 W5 := hb5.trans (hBW5.mono hb5.size)
  have HX5 : Fact (Five W5 w5.heap.size (.int .i64 K2) (.string N2) (.string X2) (.slice g1 o1 f1) (.slice g2 o2 f2)) := ⟨by rw [← hW5]; exact Five.new w5 _ _ _ _ _ _⟩
  have HW5 := Fact.mk hW5
  have HL5 := Fact.mk (hl5.up hBW5)
  have HX45 := Fact.mk (HX4.out.up hb45)
  have HL45 := Fact.mk (HL4.out.up hb45)
  have HT5 := Fact.mk (HT4.out.up hb45)
  have HLT5 := Fact.mk (HLT4.out.up hb45)
  have hgx4 : gx < W4.heap.size := World.block_lt_of_cell? W4 _ HZ4.out
  have HZ5 : Fact (W5.cell? ⟨gx, i * 10 + 1, none⟩ = some (.int .i64 z1)) := ⟨(hb45.cell (p := ⟨gx, i * 10 + 1, none⟩) hgx4).trans HZ4.out⟩
  have HB5 : Fact (Below w.heap.size w W5) := ⟨HB4.out.trans (hb45.mono HB4.out.size)⟩
  obtain ⟨t0', t1', t2', t3', t4', _⟩ := id HT5.out
  clear t0 t1 t2 t3 t4 hl5 hb5 hb45 hBW5 hW5 HT4 HLT4 HZ4 HB4 HX4 HL4 hgx3 hgx4
  go_wp2_with (rw [HW5.out]; clear HW5)
  have hnn : Fact (k.size + 1 ≤ n) := ⟨by have := HN.out; omega⟩
  refine (sub_not (d := rootD) n hnn HLT5.out hdp (by have := HN.out; omega) hsl).mono ?_
  rintro e w6 ⟨rfl, hb6⟩
  obtain ⟨W6, hW6⟩ : ∃ W6, w6.alloc (.cells #[.int .i64 0, .string ⟨#[]⟩, .string ⟨#[]⟩, .slice none 0 0, .slice none 0 0] 25) = W6 := ⟨_, rfl⟩
  have hBW6 : Below w6.heap.size w6 W6 := by rw [← hW6]; exact box_below _
  have hb56 : Below W5.heap.size W5 W6 := hb6.trans (hBW6.mono hb6.size)
  have HW6 := Fact.mk hW6
  have HX6 := Fact.mk (HX5.out.up hb56)
  have HX46 := Fact.mk (HX45.out.up hb56)
  have HL6 := Fact.mk (HL5.out.up hb56)
  have HL46 := Fact.mk (HL45.out.up hb56)
  have hgx5 : gx < W5.heap.size := World.block_lt_of_cell? W5 _ HZ5.out
  have HZ6 : Fact (W6.cell? ⟨gx, i * 10 + 1, none⟩ = some (.int .i64 z1)) := ⟨(hb56.cell (p := ⟨gx, i * 10 + 1, none⟩) hgx5).trans HZ5.out⟩
  have HB6 : Fact (Below w.heap.size w W6) := ⟨HB5.out.trans (hb56.mono HB5.out.size)⟩
  obtain ⟨y0, y1, y2, y3, y4, _⟩ := id HX6.out
  obtain ⟨v0, v1, v2, v3, v4, _⟩ := id HX46.out
  rw [← HW6.out] at y0 y1 y2 y3 y4 v0 v1 v2 v3 v4
  have hsame : Fact (decide (cT ⟨K2, N2, X2, A2⟩ k2 ⟨K2, N2, X2, A2⟩ k2 = 0) = true) := ⟨by rw [cT_self]; rfl⟩
  have hgx6 : gx < W6.heap.size := World.block_lt_of_cell? W6 _ HZ6.out
  have hijn : (i : Int) + j < n := by have := HN.out; simp only [show rootD.ats.length = 0 from rfl] at hbd1; omega
  clear t0' t1' t2' t3' t4' hb6 hb56 hBW6 hW6 HT5 HLT5 HZ5 HB5 HX5 HL5 HX45 HL45 hgx5
  go_wp2_with (first
    | (go_at_call 21; rw [HW6.out]; refine (rsame_at (d := ⟨K2, N2, X2, A2⟩) (d' := ⟨K2, N2, X2, A2⟩) true hsame HL46.out HL6.out (Nat.le_refl _)).mono ?_; rintro e w7 ⟨rfl, hb7⟩)
    | (go_at_call 23; refine (within_yes gx n cx i j z1 _ ((hb7.cell (p := ⟨gx, i * 10 + 1, none⟩) hgx6).trans HZ6.out) hijn (by omega) (by omega) (by omega)).mono ?_; rintro e w8 ⟨rfl, hw8⟩; have hw9 := hw8.symm; subst hw9; clear hw8)
    | (go_at_call 10; refine (awake7_true _).mono ?_; rintro e w9 ⟨rfl, hb9⟩))
  go_ret
  have q7 := HB6.out.trans (hb7.mono HB6.out.size)
  exact ⟨rfl, q7.trans (hb9.mono q7.size)⟩
end Go.Proofs.Ytjjkidenlgghkaa
