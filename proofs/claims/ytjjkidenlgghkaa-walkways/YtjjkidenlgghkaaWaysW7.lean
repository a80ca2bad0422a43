/- The walk of WalkWays: it returns true. -/
import Derived.Test.YtjjkidenlgghkaaSubC
import Derived.Test.YtjjkidenlgghkaaWaysM
import Derived.Test.YtjjkidenlgghkaaPath
import Derived.Test.YtjjkidenlgghkaaSmall
import Derived.Test.YtjjkidenlgghkaaRefCmp
import Derived.Test.YtjjkidenlgghkaaAwake7
import Derived.Test.YtjjkidenlgghkaaNext
import Derived.Test.YtjjkidenlgghkaaOrdM
import Derived.Deep.RegionHeld3
set_option linter.unusedVariables false
set_option linter.unusedSimpArgs false
namespace Go.Proofs.Ytjjkidenlgghkaa
open Go.Deep (BT)
open Go.RowKit M

/-- a tree of a row, by its place -/
theorem fat_get {S : Nat → Prop} {W : World} {b : Nat} : ∀ (f : M.F) (p o : Nat) (d : Nd) (k : M.F), getF f p = some (d, k) → FAt S W f b o → ∃ av ka kc, W.cell? ⟨b, o + p * 5, none⟩ = some (.int .i64 d.k) ∧ W.cell? ⟨b, o + p * 5 + 1, none⟩ = some (.string d.n) ∧ W.cell? ⟨b, o + p * 5 + 2, none⟩ = some (.string d.x) ∧ W.cell? ⟨b, o + p * 5 + 3, none⟩ = some av ∧ W.cell? ⟨b, o + p * 5 + 4, none⟩ = some (.slice ka k.len kc) ∧ AS S W av d.ats ∧ FL S W (.slice ka k.len kc) k
  | .nil, p, o, d, k, h, _ => by simp [getF] at h
  | .node xb xo d0 k0 r, 0, o, d, k, h, hf => by
    simp only [getF, Option.some.injEq, Prod.mk.injEq] at h
    obtain ⟨rfl, rfl⟩ := h
    obtain ⟨⟨av, ka, kc, c0, c1, c2, c3, c4, ha, g1, g2, g3⟩, _⟩ := hf
    simp only [Nat.zero_mul, Nat.add_zero]
    exact ⟨av, ka, kc, c0, c1, c2, c3, c4, ha, ka, kc, rfl, g1, g2, g3⟩
  | .node xb xo d0 k0 r, p + 1, o, d, k, h, hf => by
    have := fat_get r p (o + 5) d k h hf.2
    rw [show o + 5 + p * 5 = o + (p + 1) * 5 by omega] at this
    exact this
theorem rowI_in {w : World} {B E n : Nat} {v : Value} {l : List Nat} (h : w.ownsRow B E 1 v n (cI l)) {i : Nat} {y : Nat} (hy : l[i]? = some y) :
    ∃ g cap, v = .slice (some ⟨g, 0, none⟩) n cap ∧ w.cell? ⟨g, i, none⟩ = some (.int .i64 y) ∧ B ≤ g ∧ g < w.heap.size ∧ n ≤ cap ∧ cap ≤ maxLen ∧ i < n := by
  obtain ⟨h1, h2⟩ := h
  have hi : i < n := by rw [cI_len] at h1; have := (List.getElem?_eq_some_iff.1 hy).1; omega
  rcases h2 with ⟨_, e⟩ | ⟨g', cap', cur, e, hg, hh, hc1, hc2, hs, ht⟩
  · omega
  · refine ⟨g', cap', e, ?_, hg, (Array.getElem?_eq_some_iff.1 hh).1, hc1, hc2, hi⟩
    simp only [World.cell?, hh]
    have h3 : (cI l)[i]? = some (.int .i64 y) := by simp [cI, hy]
    rw [← ht, List.getElem?_take] at h3
    split at h3
    · simpa using h3
    · cases h3
theorem path_c {d : Nd} {k : M.F} {av kv : Value} {w : World} (i : Nat) (d' : Nd) (k' : M.F) (dp : Nat) (hi : i < k.size + 1) (hsub : Fact (M.sub (.cons d k .nil) i = some (d', k'))) (hdp : Fact (∀ y, (flatT d k)[i]? = some y → y.dp = dp)) (h : Lies w.heap.size w d k av kv) (hk : k.depth + 1 ≤ 1000000) (hs : k.size + 1 ≤ 1000000) :
    Calls Try.prog 17 #[.agg #[.int .i64 d.k, .string d.n, .string d.x, av, kv], .int .i64 i] w fun e w' => ∃ a c ps, e = .returned (.slice a dp c) ∧ Below w.heap.size w w' ∧ Fact (ps.length = dp ∧ lead (d, k) ps = some (d', k') ∧ w'.ownsRow w.heap.size 3 1 (.slice a dp c) dp (cI ps)) := by
  refine (path_any d k av kv i w h.a h.f hk (by omega)).mono ?_
  rintro e w' ⟨hb, v, ps, rfl, hrow, ⟨pre, x, h1, h2, h3, h4⟩ | ⟨h1, h2⟩⟩
  · have hx : x ∈ evT d k := h1.subset (List.mem_append_right _ List.mem_cons_self)
    obtain ⟨d2, k2, y, q1, q2, q3, q4⟩ := way_of hx (i := i) (by omega)
    rw [hsub.out] at q1
    simp only [Option.some.injEq, Prod.mk.injEq] at q1
    obtain ⟨rfl, rfl⟩ := q1
    rw [← h4] at q2 q4
    have hl : ps.length = dp := by rw [← q4]; exact hdp.out y q3
    rw [hl] at hrow
    obtain ⟨a, c, rfl⟩ : ∃ a c, v = .slice a dp c := by
      rcases hrow.2 with ⟨rfl, e⟩ | ⟨g, cap, cur, rfl, _⟩
      · exact ⟨none, 0, by rw [e]⟩
      · exact ⟨_, _, rfl⟩
    exact ⟨a, c, ps, rfl, hb, ⟨hl, q2, hrow⟩⟩
  · exfalso
    obtain ⟨x, hx, s, g1, g2⟩ := ev_all (.cons d k .nil) [] 0 0 i (by simp only [BT.size]; omega)
    have := h1 x hx
    unfold lastId at this
    rw [g1] at this
    simp only at this
    omega
theorem flat_len {d : Nd} {k : M.F} {av kv : Value} {w : World} (h : Lies w.heap.size w d k av kv) (hk : k.depth + 1 ≤ 1000000) (hs : k.size + 1 ≤ 1000000) (hsl : d.ats.length + k.slots ≤ 1000000) :
    Calls Try.prog 12 #[.agg #[.int .i64 d.k, .string d.n, .string d.x, av, kv]] w fun e w' => ∃ g c its, e = .returned (.slice (some ⟨g, 0, none⟩) (k.size + 1) c) ∧ Below w.heap.size w w' ∧ Fact (its.map (·.1) = flatT d k ∧ w'.ownsRow w.heap.size 39 10 (.slice (some ⟨g, 0, none⟩) (k.size + 1) c) (k.size + 1) (cellsIt its)) := by
  refine (flat_any d k av kv w h.a h.f hk (by omega) hsl).mono ?_
  rintro e w' ⟨v, its, rfl, hb, hm, hr, _⟩
  obtain ⟨g, c, rfl⟩ : ∃ g c, v = .slice (some ⟨g, 0, none⟩) (k.size + 1) c := by
    rcases hr.2 with ⟨_, e⟩ | ⟨g, cap, cur, rfl, _⟩
    · omega
    · exact ⟨_, _, rfl⟩
  exact ⟨g, c, its, rfl, hb, ⟨hm, hr⟩⟩

theorem keepB {wr W W' : World} {P : Prop} (hb : Below W.heap.size W W') (h : Below wr.heap.size wr W ∧ P) : Below wr.heap.size wr W' := h.1.trans (hb.mono h.1.size)
theorem rsame_w {wr W : World} {d d' : Nd} {k k' : M.F} {va vb ka kb : Value} {P : Prop} (hr : Fact (decide (cT d k d' k' = 0) = true)) (ha : Lies wr.heap.size wr d k va ka) (hb : Lies wr.heap.size wr d' k' vb kb) (h : Below wr.heap.size wr W ∧ P) :
    Calls Try.prog 21 #[.agg #[.int .i64 d.k, .string d.n, .string d.x, va, ka], .agg #[.int .i64 d'.k, .string d'.n, .string d'.x, vb, kb]] W fun e w' => e = .returned (.bool true) ∧ Below W.heap.size W w' := rsame_at true hr (ha.below h.1) (hb.below h.1) h.1.size
theorem flat_w {wr W : World} {d : Nd} {k : M.F} {va ka : Value} {z : Nat} {P : Prop} (hz : Fact (k.size + 1 = z)) (ha : Lies wr.heap.size wr d k va ka) (hk : k.depth + 1 ≤ 1000000) (hs : k.size + 1 ≤ 1000000) (hsl : d.ats.length + k.slots ≤ 1000000) (h : Below wr.heap.size wr W ∧ P) :
    Calls Try.prog 12 #[.agg #[.int .i64 d.k, .string d.n, .string d.x, va, ka]] W fun e w' => ∃ g c, e = .returned (.slice (some ⟨g, 0, none⟩) z c) ∧ Below W.heap.size W w' := by
  refine (flat_len ((ha.below h.1).here h.1.size) hk hs hsl).mono ?_
  rintro e w' ⟨g, c, its, rfl, hb, _⟩
  exact ⟨g, c, by rw [hz.out], hb⟩
theorem path_w {wr W : World} {d : Nd} {k : M.F} {va ka : Value} {P : Prop} (i : Nat) (d' : Nd) (k' : M.F) (dp : Nat) (hi : i < k.size + 1) (hsub : Fact (M.sub (.cons d k .nil) i = some (d', k'))) (hdp : Fact (∀ y, (flatT d k)[i]? = some y → y.dp = dp)) (ha : Lies wr.heap.size wr d k va ka) (hk : k.depth + 1 ≤ 1000000) (hs : k.size + 1 ≤ 1000000) (h : Below wr.heap.size wr W ∧ P) :
    Calls Try.prog 17 #[.agg #[.int .i64 d.k, .string d.n, .string d.x, va, ka], .int .i64 i] W fun e w' => ∃ a c, e = .returned (.slice a dp c) ∧ Below W.heap.size W w' := by
  refine (path_c i d' k' dp hi hsub hdp ((ha.below h.1).here h.1.size) hk hs).mono ?_
  rintro e w' ⟨a, c, ps, rfl, hb, _⟩
  exact ⟨a, c, rfl, hb⟩

/-- where the loop stands: the node that the box holds -/
structure Cur (w w5 : World) (B : Nat) (dj : Nd) (kj : M.F) (aj : Option Addr) (nj cj : Nat) (bj : Option Addr) (mj ej : Nat) (wr : World) : Prop where
  five : Five wr B (.int .i64 dj.k) (.string dj.n) (.string dj.x) (.slice aj nj cj) (.slice bj mj ej)
  lies : Lies w.heap.size wr dj kj (.slice aj nj cj) (.slice bj mj ej)
  oth : ∀ b, b ≠ B → wr.heap[b]? = w5.heap[b]?
  size : wr.heap.size = w5.heap.size
  os : wr.os = w5.os
  tape : wr.tape = w5.tape
  output : wr.output = w5.output
set_option maxHeartbeats 4000000 in
theorem Cur.next {w w5 : World} {B : Nat} {dj : Nd} {kj : M.F} {aj : Option Addr} {nj cj : Nat} {bj : Option Addr} {mj ej : Nat} {wr : World} (h : Cur w w5 B dj kj aj nj cj bj mj ej wr) (hB : w.heap.size ≤ B) {d2 : Nd} {k2 : M.F} {a2 : Option Addr} {n2 c2 : Nat} {b2 : Option Addr} {m2 e2 : Nat}
    (hl : Lies w.heap.size wr d2 k2 (.slice a2 n2 c2) (.slice b2 m2 e2)) :
    Cur w w5 B d2 k2 a2 n2 c2 b2 m2 e2 (((((wr.setCell ⟨B, 0, none⟩ (.int .i64 d2.k)).setCell ⟨B, 1, none⟩ (.string d2.n)).setCell ⟨B, 2, none⟩ (.string d2.x)).setCell ⟨B, 3, none⟩ (.slice a2 n2 c2)).setCell ⟨B, 4, none⟩ (.slice b2 m2 e2)) := by
  obtain ⟨W5, hW5⟩ : ∃ W5, ((((wr.setCell ⟨B, 0, none⟩ (.int .i64 d2.k)).setCell ⟨B, 1, none⟩ (.string d2.n)).setCell ⟨B, 2, none⟩ (.string d2.x)).setCell ⟨B, 3, none⟩ (.slice a2 n2 c2)).setCell ⟨B, 4, none⟩ (.slice b2 m2 e2) = W5 := ⟨_, rfl⟩
  have hoth : ∀ b, b ≠ B → W5.heap[b]? = wr.heap[b]? := fun b hb => by rw [← hW5]; exact five_other _ _ hb _ _ _ _ _
  have hlk : Like (Old w.heap.size) wr W5 := fun b (hb : b < w.heap.size) _ => hoth b (by omega)
  have h5 := five_all h.five (.int .i64 d2.k) (.string d2.n) (.string d2.x) (.slice a2 n2 c2) (.slice b2 m2 e2)
  rw [hW5] at h5
  rw [hW5]
  have hz5 : W5.heap.size = wr.heap.size := by rw [← hW5]; simp [World.setCell]
  have ho : W5.os = w5.os := by rw [← hW5]; exact h.os
  have ht : W5.tape = w5.tape := by rw [← hW5]; exact h.tape
  have hu : W5.output = w5.output := by rw [← hW5]; exact h.output
  clear hW5
  exact ⟨h5, ⟨hl.a.like hlk, hl.f.like hlk⟩, fun b hb => (hoth b hb).trans (h.oth b hb), hz5.trans h.size, ho, ht, hu⟩

set_option maxRecDepth 100000 in
set_option maxHeartbeats 8000000 in
theorem ways7_walk (d : Nd) (k : M.F) (va ka : Value) (id : Int) (w : World) (h : Lies w.heap.size w d k va ka) :
    Calls Try.prog 5 #[nodeV d va ka, .int .i64 id] w fun e w' => e = .returned (.bool true) ∧ Below w.heap.size w w' := by
  obtain ⟨p1, p2, p3, e1⟩ := h.a.val
  obtain ⟨q1, q2, e2⟩ := h.f.val
  subst e1 e2
  obtain ⟨kl, hkl⟩ : ∃ kl, k.len = kl := ⟨_, rfl⟩
  rw [hkl] at h ⊢
  have HKL := Fact.mk hkl
  clear hkl
  obtain ⟨K, N, X, A⟩ := d
  have H := Fact.mk h
  clear h
  obtain ⟨W0, hW0⟩ : ∃ W0, w.alloc (.cells #[.int .i64 K, .string N, .string X, .slice p1 p2 p3, .slice q1 kl q2] 25) = W0 := ⟨_, rfl⟩
  have hb0 : Below w.heap.size w W0 := by rw [← hW0]; exact (Below.refl _ w).alloc (Nat.le_refl _) _
  have HX0 : Fact (Five W0 w.heap.size (.int .i64 K) (.string N) (.string X) (.slice p1 p2 p3) (.slice q1 kl q2)) := ⟨by rw [← hW0]; exact Five.new w _ _ _ _ _ _⟩
  have HW0 := Fact.mk hW0
  have t0 := HX0.out.c0
  have t1 := HX0.out.c1
  have t2 := HX0.out.c2
  have t3 := HX0.out.c3
  have t4 := HX0.out.c4
  clear hW0
  go_enter Try.func5, Try.ntmps5
  go_wp2_with (rw [HW0.out]; clear HW0)
  refine (Small_any ⟨K, N, X, A⟩ k _ _ w.heap.size W0 (H.out.below hb0) hb0.size).mono ?_
  rintro e w1 (⟨rfl, hb1⟩ | ⟨rfl, hb1, f1⟩)
  · go_wp2_with (go_at_call 10; refine (awake7_true _).mono ?_; rintro e w9 ⟨rfl, hb9⟩)
    go_ret
    exact ⟨rfl, hb0.trans ((hb1.mono hb0.size).trans (hb9.mono (Nat.le_trans hb0.size hb1.size)))⟩
  have HX1 := Fact.mk (HX0.out.up hb1)
  have HB1 : Fact (Below w.heap.size w w1) := ⟨hb0.trans (hb1.mono hb0.size)⟩
  have HL1 := Fact.mk (((H.out.below hb0).here hb0.size).up hb1)
  have hdp : k.depth + 1 ≤ 1000000 := by have := f1.out.depth; omega
  have hsz : k.size + 1 ≤ 1000000 := by have := f1.out.size; omega
  have hsl : A.length + k.slots ≤ 1000000 := by have h1 := f1.out.slots; have h2 := f1.out.size; simp only at h1; omega
  have s0 := HX1.out.c0
  have s1 := HX1.out.c1
  have s2 := HX1.out.c2
  have s3 := HX1.out.c3
  have s4 := HX1.out.c4
  clear t0 t1 t2 t3 t4 HX0 hb0 hb1
  go_wp2_with fail
  refine (flat_len (d := ⟨K, N, X, A⟩) HL1.out hdp hsz hsl).mono ?_
  rintro e w2 ⟨gx, cx, its, rfl, hb2, hfl⟩
  obtain ⟨n, hn⟩ : ∃ n, k.size + 1 = n := ⟨_, rfl⟩
  obtain ⟨hmap, hrow⟩ := hfl.out
  rw [hn] at hrow ⊢
  have hlen : its.length = n := by have := congrArg List.length hmap; rw [List.length_map, flatT_len, hn] at this; exact this
  have n0 : 0 < n := by omega
  obtain ⟨i, hi⟩ : ∃ i, Fact (pl id n = i) := ⟨_, ⟨rfl⟩⟩
  have hin : i < n := by rw [← hi.out]; exact pl_lt id n n0
  obtain ⟨y, hy⟩ : ∃ y, its[i]? = some y := ⟨_, List.getElem?_eq_getElem (by omega)⟩
  have hyf : (flatT ⟨K, N, X, A⟩ k)[i]? = some y.1 := by rw [← hmap, List.getElem?_map, hy]; rfl
  obtain ⟨d1, k1, hs1, hz1, _⟩ := flatT_sub _ k i y.1 hyf
  obtain ⟨z1, hz⟩ : ∃ z1, k1.size + 1 = z1 := ⟨_, rfl⟩
  have hyz : y.1.z = (z1 : Nat) := by rw [hz1]; omega
  obtain ⟨dp, hdpe⟩ : ∃ dp, y.1.dp = dp := ⟨_, rfl⟩
  have hdp6 : dp ≤ 1000000 := by have := (flatT_bd _ k i y.1 hyf).2.2.2.2; omega
  have HDP : Fact (∀ u, (flatT ⟨K, N, X, A⟩ k)[i]? = some u → u.dp = dp) := ⟨fun u hu => by rw [hyf] at hu; cases hu; exact hdpe⟩
  obtain ⟨r1, _, _, hgx, hnc, hcm, _⟩ := row10_at hrow hy
  have hzc : w2.cell? ⟨gx, i * 10 + 1, none⟩ = some (.int .i64 z1) := by have := r1 1 _ rfl; rw [hyz] at this; exact this
  have hdc : w2.cell? ⟨gx, i * 10 + 2, none⟩ = some (.int .i64 dp) := by have := r1 2 _ rfl; rw [hdpe] at this; exact this
  have hbd1 := sub_bd _ _ _ _ hs1
  simp only [BT.size, BT.depth, BT.slots] at hbd1
  have HS1 := Fact.mk hs1
  have HN := Fact.mk hn
  have HZC := Fact.mk hzc
  have HDC := Fact.mk hdc
  have HX2 := Fact.mk (HX1.out.up hb2)
  have HL2 := Fact.mk (HL1.out.up hb2)
  have HB2 : Fact (Below w.heap.size w w2) := ⟨HB1.out.trans (hb2.mono HB1.out.size)⟩
  have u0 := HX2.out.c0
  have u1 := HX2.out.c1
  have u2 := HX2.out.c2
  have u3 := HX2.out.c3
  have u4 := HX2.out.c4
  have nn1 : (1 : Int) ≤ n := by omega
  have hn6 : n ≤ 1000000 := by omega
  have k1a : k1.depth + 1 ≤ 1000000 := by omega
  have k1b : k1.size + 1 ≤ 1000000 := by omega
  have k1c : d1.ats.length + k1.slots ≤ 1000000 := by omega
  obtain ⟨K1, N1, X1, A1⟩ := d1
  clear s0 s1 s2 s3 s4 hfl hmap hrow hy hyf hs1 hz1 hyz r1 hzc hdc hdpe hn HX1 HL1 HB1 hb2
  go_wp2_with (go_at_call 24; refine (place_at id n i hi _ n0 (by omega)).mono ?_; rintro e w9 ⟨rfl, hw9⟩; have hw8 := hw9.symm; subst hw8; clear hw9)
  refine (sub_yes (d := ⟨K, N, X, A⟩) i _ ⟨rfl⟩ ⟨K1, N1, X1, A1⟩ k1 HS1 HL2.out hdp hsz hsl).mono ?_
  rintro e w3 ⟨a1, n1, c1, a2, n2, c2, rfl, hb3, hl3⟩
  obtain ⟨W3, hW3⟩ : ∃ W3, w3.alloc (.cells #[.int .i64 K1, .string N1, .string X1, .slice a1 n1 c1, .slice a2 n2 c2] 25) = W3 := ⟨_, rfl⟩
  have hBW3 : Below w3.heap.size w3 W3 := by rw [← hW3]; exact box_below _
  have hb23 : Below w2.heap.size w2 W3 := hb3.trans (hBW3.mono hb3.size)
  have hz3 : W3.heap.size = w3.heap.size + 1 := by rw [← hW3]; simp
  obtain ⟨W4, hW4⟩ : ∃ W4, W3.alloc (.cells #[.int .i64 K, .string N, .string X, .slice p1 p2 p3, .slice q1 kl q2] 25) = W4 := ⟨_, rfl⟩
  have hBW4 : Below W3.heap.size W3 W4 := by rw [← hW4]; exact box_below _
  have hb24 : Below w2.heap.size w2 W4 := hb23.trans (hBW4.mono hb23.size)
  have hz4 : W4.heap.size = W3.heap.size + 1 := by rw [← hW4]; simp
  have HS4 : Fact (Five W4 w3.heap.size (.int .i64 K1) (.string N1) (.string X1) (.slice a1 n1 c1) (.slice a2 n2 c2)) := ⟨Five.up (by rw [← hW3]; exact Five.new w3 _ _ _ _ _ _) hBW4⟩
  have HX4 : Fact (Five W4 W3.heap.size (.int .i64 K) (.string N) (.string X) (.slice p1 p2 p3) (.slice q1 kl q2)) := ⟨by rw [← hW4]; exact Five.new W3 _ _ _ _ _ _⟩
  have HSL4 : Fact (Lies w3.heap.size W4 ⟨K1, N1, X1, A1⟩ k1 (.slice a1 n1 c1) (.slice a2 n2 c2)) := ⟨hl3.below (hBW3.trans (hBW4.mono hBW3.size))⟩
  have HT4 := Fact.mk (HX2.out.up hb24)
  have HL4 := Fact.mk (HL2.out.up hb24)
  have HB4 : Fact (Below w.heap.size w W4) := ⟨HB2.out.trans (hb24.mono HB2.out.size)⟩
  have HZ4 : Fact (W4.cell? ⟨gx, i * 10 + 1, none⟩ = some (.int .i64 z1)) := ⟨(hb24.cell (p := ⟨gx, i * 10 + 1, none⟩) hgx).trans HZC.out⟩
  have HD4 : Fact (W4.cell? ⟨gx, i * 10 + 2, none⟩ = some (.int .i64 dp)) := ⟨(hb24.cell (p := ⟨gx, i * 10 + 2, none⟩) hgx).trans HDC.out⟩
  have HT3 := HX2.out.up hb23
  have u0' := HT3.c0
  have u1' := HT3.c1
  have u2' := HT3.c2
  have u3' := HT3.c3
  have u4' := HT3.c4
  have v0 := HT4.out.c0
  have v1 := HT4.out.c1
  have v2 := HT4.out.c2
  have v3 := HT4.out.c3
  have v4 := HT4.out.c4
  have hw3 : w.heap.size < w3.heap.size := by have := HB2.out.size; have := hb3.size; have := HX2.out.lt; omega
  have hgx3 : gx < w3.heap.size := Nat.lt_of_lt_of_le hgx hb3.size
  have HZZ := Fact.mk (And.intro hz3 (And.intro hz4 (And.intro hw3 hgx3)))
  have HW3 := Fact.mk hW3
  have HW4 := Fact.mk hW4
  clear u0 u1 u2 u3 u4 hl3 hb3 hBW3 hb23 hBW4 hb24 hW3 hW4 hz3 hz4 HX2 HL2 HB2 HZC HDC HT3 hgx hw3 hgx3
  go_wp2_with (first | (rw [HW3.out]; clear HW3) | (rw [HW4.out]; clear HW4))
  refine (path_c (d := ⟨K, N, X, A⟩) i ⟨K1, N1, X1, A1⟩ k1 dp (by have := HN.out; omega) HS1 HDP HL4.out hdp hsz).mono ?_
  rintro e w5 ⟨pa, pc, ps, rfl, hb5, hps⟩
  have hz4' := HZZ.out.2.1
  have hz3' := HZZ.out.1
  have HC0 : Fact (lead (⟨K, N, X, A⟩, k) (ps.drop 0) = some (⟨K1, N1, X1, A1⟩, k1) ∧ Cur w w5 W3.heap.size ⟨K, N, X, A⟩ k p1 p2 p3 q1 kl q2 w5) := by
    refine ⟨by rw [List.drop_zero]; exact hps.out.2.1, HX4.out.up hb5, ?_, fun _ _ => rfl, rfl, rfl, rfl, rfl⟩
    have hbw := HB4.out.trans (hb5.mono HB4.out.size)
    exact H.out.below hbw
  have HZB : Fact (w.heap.size ≤ W3.heap.size ∧ W3.heap.size < W4.heap.size) := ⟨by have := HZZ.out.2.2.1; omega, by omega⟩
  clear v0 v1 v2 v3 v4 u0' u1' u2' u3' u4' hz4' hz3'
  go_wp2_with fail
  go_loopg [34] dp (fun gf iv wq => ∃ (j : Nat) (dj : Nd) (kj : M.F) (aj : Option Addr) (nj cj : Nat) (bj : Option Addr) (mj ej : Nat), iv = .int .i64 j ∧ j ≤ dp ∧ dp ≤ j + gf ∧ Fact (lead (dj, kj) (ps.drop j) = some (⟨K1, N1, X1, A1⟩, k1) ∧ Cur w w5 W3.heap.size dj kj aj nj cj bj mj ej wq))
  case atStart => exact ⟨0, _, _, _, _, _, _, _, _, rfl, Nat.zero_le _, by omega, HC0⟩
  case round =>
    obtain ⟨j, dj, kj, aj, nj, cj, bj, mj, ej, rfl, hjd, hfu, hC⟩ := hrel
    clear HC0
    by_cases hlt : j < dp
    · obtain ⟨p, hp⟩ : ∃ p, ps[j]? = some p := ⟨_, List.getElem?_eq_getElem (by rw [hps.out.1]; exact hlt)⟩
      obtain ⟨gp, cp, ep, hpc, hgp1, hgp2, hcp1, hcp2, _⟩ := rowI_in hps.out.2.2 hp
      simp only [Value.slice.injEq] at ep
      obtain ⟨rfl, _, rfl⟩ := ep
      have hpc' : wr.cell? ⟨gp, j, none⟩ = some (.int .i64 p) := by
        rw [World.cell?_of_block (w := w5) (a := ⟨gp, j, none⟩) (hC.out.2.oth gp (by have := HZB.out.2; omega))]
        exact hpc
      have hdr : ps.drop j = p :: ps.drop (j + 1) := by
        obtain ⟨hj1, hj2⟩ := List.getElem?_eq_some_iff.1 hp
        rw [List.drop_eq_getElem_cons hj1, hj2]
      have hld := hC.out.1
      rw [hdr] at hld
      obtain ⟨⟨d2, k2⟩, hg2, hl2⟩ := lead_some hld
      have hlen2 := getF_lt _ _ _ hg2
      simp only at hg2 hlen2
      have hfl := hC.out.2.lies.f
      obtain ⟨fa, fc, ef, hf1, hf2, hf3⟩ := hfl
      simp only [Value.slice.injEq] at ef
      obtain ⟨rfl, rfl, rfl⟩ := ef
      obtain ⟨fb, fo, rfl, hfS, hfat⟩ := hf3.resolve_left (by omega)
      obtain ⟨av2, ka2, kc2, g0, g1, g2, g3, g4, ha2, hk2⟩ := fat_get kj p fo d2 k2 hg2 hfat
      have HL2 := Fact.mk (show Lies w.heap.size wr d2 k2 av2 (.slice ka2 k2.len kc2) from ⟨ha2, hk2⟩)
      obtain ⟨xa, xc, ex, _⟩ := ha2
      subst ex
      obtain ⟨xl, hxl⟩ : ∃ xl, d2.ats.length = xl := ⟨_, rfl⟩
      obtain ⟨yl, hyl⟩ : ∃ yl, k2.len = yl := ⟨_, rfl⟩
      obtain ⟨ml, hml⟩ : ∃ ml, kj.len = ml := ⟨_, rfl⟩
      rw [hxl] at g3 HL2
      rw [hyl] at g4 HL2
      rw [hml] at hC hlen2 hf1
      have cc4 := hC.out.2.five.c4
      have cc0 := hC.out.2.five.c0
      have cc1 := hC.out.2.five.c1
      have cc2 := hC.out.2.five.c2
      have cc3 := hC.out.2.five.c3
      have z0 := hC.out.2.five.fz 0
      have z1' := hC.out.2.five.fz 1
      have z2 := hC.out.2.five.fz 2
      have z3 := hC.out.2.five.fz 3
      have z4 := hC.out.2.five.fz 4
      have HNX := Fact.mk (hC.out.2.next HZB.out.1 HL2.out)
      have HLD := Fact.mk hl2
      have i1 : (0 : Int) ≤ p := by omega
      have i2 : (p : Int) < ml := by omega
      have i3 : (ml : Int) ≤ ej := by omega
      have i4 : (0 : Int) ≤ j := by omega
      have i5 : (j : Int) < dp := by omega
      have i6 : (dp : Int) ≤ pc := by omega
      have i7 : ¬ (p : Int) < 0 := by omega
      have i8 : decide ((p : Int) < 0) = false := decide_eq_false i7
      have i9 : decide ((ml : Int) ≤ p) = false := decide_eq_false (by omega)
      clear hpc hdr hld hl2 hg2 hfat hf3 hk2 hp hC hxl hyl hml HL2 hps
      go_wp2_with fail
      go_roundg (gk - 1)
      case measure => omega
      case rel => exact ⟨j + 1, d2, k2, xa, xl, xc, ka2, yl, kc2, by go_num, by omega, by omega, ⟨HLD.out, HNX.out⟩⟩
    · have hje : j = dp := by omega
      subst hje
      obtain ⟨hld, hcu⟩ := hC.out
      rw [List.drop_eq_nil_of_le (by rw [hps.out.1]; exact Nat.le_refl _)] at hld
      have hdk := Option.some.inj hld
      simp only [Prod.mk.injEq] at hdk
      have hdk1 := hdk.1
      have hdk2 := hdk.2.symm
      subst hdk1 hdk2
      clear hdk
      have hlt3 := HZZ.out.1
      have hlt4 := HZZ.out.2.1
      have hltw := HZZ.out.2.2.1
      have hltg := HZZ.out.2.2.2
      have hw5s := hb5.size
      have hbk : ∀ q, q < W4.heap.size → q ≠ W3.heap.size → wr.heap[q]? = W4.heap[q]? := fun q hq hne => (hcu.oth q hne).trans (hb5.block q hq)
      have xs := hcu.five
      have ss := HS4.out.same (hbk _ (by omega) (by omega))
      have ts := HT4.out.same (hbk _ (by omega) (by omega))
      have zc : wr.cell? ⟨gx, i * 10 + 1, none⟩ = some (.int .i64 z1) := (World.cell?_of_block (w := W4) (a := ⟨gx, i * 10 + 1, none⟩) (hbk gx (by omega) (by omega))).trans HZ4.out
      have dc : wr.cell? ⟨gx, i * 10 + 2, none⟩ = some (.int .i64 j) := (World.cell?_of_block (w := W4) (a := ⟨gx, i * 10 + 2, none⟩) (hbk gx (by omega) (by omega))).trans HD4.out
      have hzr : wr.heap.size = w5.heap.size := hcu.size
      have hBr : Below w.heap.size w wr := ⟨hcu.os.trans (hb5.os.trans HB4.out.os), hcu.tape.trans (hb5.tape.trans HB4.out.tape), hcu.output.trans (hb5.output.trans HB4.out.output), by rw [hzr]; exact Nat.le_trans HB4.out.size hw5s, fun q hq => (hbk q (by omega) (by omega)).trans (HB4.out.block q hq)⟩
      have LX := Fact.mk (hcu.lies.here (by omega))
      have LS : Fact (Lies wr.heap.size wr ⟨K1, N1, X1, A1⟩ k1 (.slice a1 n1 c1) (.slice a2 n2 c2)) := ⟨Lies.here (n := w3.heap.size) ⟨HSL4.out.a.like (fun q (hq : q < w3.heap.size) _ => hbk q (by omega) (by omega)), HSL4.out.f.like (fun q (hq : q < w3.heap.size) _ => hbk q (by omega) (by omega))⟩ (by omega)⟩
      have LT := Fact.mk ((H.out.below hBr).here hBr.size)
      have HBR := Fact.mk hBr
      have hsame : Fact (decide (cT ⟨K1, N1, X1, A1⟩ k1 ⟨K1, N1, X1, A1⟩ k1 = 0) = true) := ⟨by rw [cT_self]; rfl⟩
      have SK : Fact (∀ w', Below wr.heap.size wr w' → (Below wr.heap.size wr w' ∧ (w'.cell? ⟨w.heap.size, 0, none⟩ = some (.int .i64 K) ∧ w'.cell? ⟨w.heap.size, 1, none⟩ = some (.string N) ∧ w'.cell? ⟨w.heap.size, 2, none⟩ = some (.string X) ∧ w'.cell? ⟨w.heap.size, 3, none⟩ = some (.slice p1 p2 p3) ∧ w'.cell? ⟨w.heap.size, 4, none⟩ = some (.slice q1 kl q2)) ∧ (w'.cell? ⟨w3.heap.size, 0, none⟩ = some (.int .i64 K1) ∧ w'.cell? ⟨w3.heap.size, 1, none⟩ = some (.string N1) ∧ w'.cell? ⟨w3.heap.size, 2, none⟩ = some (.string X1) ∧ w'.cell? ⟨w3.heap.size, 3, none⟩ = some (.slice a1 n1 c1) ∧ w'.cell? ⟨w3.heap.size, 4, none⟩ = some (.slice a2 n2 c2)) ∧ (w'.cell? ⟨W3.heap.size, 0, none⟩ = some (.int .i64 K1) ∧ w'.cell? ⟨W3.heap.size, 1, none⟩ = some (.string N1) ∧ w'.cell? ⟨W3.heap.size, 2, none⟩ = some (.string X1) ∧ w'.cell? ⟨W3.heap.size, 3, none⟩ = some (.slice aj nj cj) ∧ w'.cell? ⟨W3.heap.size, 4, none⟩ = some (.slice bj mj ej)) ∧ w'.cell? ⟨gx, i * 10 + 1, none⟩ = some (.int .i64 z1) ∧ w'.cell? ⟨gx, i * 10 + 2, none⟩ = some (.int .i64 j))) := ⟨fun w' hb => ⟨hb, ⟨(ts.up hb).c0, (ts.up hb).c1, (ts.up hb).c2, (ts.up hb).c3, (ts.up hb).c4⟩, ⟨(ss.up hb).c0, (ss.up hb).c1, (ss.up hb).c2, (ss.up hb).c3, (ss.up hb).c4⟩, ⟨(xs.up hb).c0, (xs.up hb).c1, (xs.up hb).c2, (xs.up hb).c3, (xs.up hb).c4⟩, (hb.cell (p := ⟨gx, i * 10 + 1, none⟩) (by show gx < wr.heap.size; omega)).trans zc, (hb.cell (p := ⟨gx, i * 10 + 2, none⟩) (by show gx < wr.heap.size; omega)).trans dc⟩⟩
      have hS0 := SK.out wr.drew (Below.refl _ _).drew
      have HZ1 := Fact.mk hz
      have hiK : i < k.size + 1 := by have := HN.out; omega
      have e1 : ((z1 : Int) == (z1 : Int)) = true := beq_self_eq_true _
      have e2 : ((j : Int) == (j : Int)) = true := beq_self_eq_true _
      have i1 : (0 : Int) ≤ i := by omega
      have i2 : (i : Int) < n := by omega
      have i3 : (n : Int) ≤ cx := by omega
      clear hld hC hBr hbk HX4 HS4 HT4 HL4 HSL4 HZ4 HD4 HB4 HZZ HZB hps xs ss ts zc dc hlt3 hlt4 hltw hltg hw5s hzr hcu hb5 hfu hjd
      go_wp2_with fail
      go_region_held3 (fun w' => Below wr.heap.size wr w' ∧ (w'.cell? ⟨w.heap.size, 0, none⟩ = some (.int .i64 K) ∧ w'.cell? ⟨w.heap.size, 1, none⟩ = some (.string N) ∧ w'.cell? ⟨w.heap.size, 2, none⟩ = some (.string X) ∧ w'.cell? ⟨w.heap.size, 3, none⟩ = some (.slice p1 p2 p3) ∧ w'.cell? ⟨w.heap.size, 4, none⟩ = some (.slice q1 kl q2)) ∧ (w'.cell? ⟨w3.heap.size, 0, none⟩ = some (.int .i64 K1) ∧ w'.cell? ⟨w3.heap.size, 1, none⟩ = some (.string N1) ∧ w'.cell? ⟨w3.heap.size, 2, none⟩ = some (.string X1) ∧ w'.cell? ⟨w3.heap.size, 3, none⟩ = some (.slice a1 n1 c1) ∧ w'.cell? ⟨w3.heap.size, 4, none⟩ = some (.slice a2 n2 c2)) ∧ (w'.cell? ⟨W3.heap.size, 0, none⟩ = some (.int .i64 K1) ∧ w'.cell? ⟨W3.heap.size, 1, none⟩ = some (.string N1) ∧ w'.cell? ⟨W3.heap.size, 2, none⟩ = some (.string X1) ∧ w'.cell? ⟨W3.heap.size, 3, none⟩ = some (.slice aj nj cj) ∧ w'.cell? ⟨W3.heap.size, 4, none⟩ = some (.slice bj mj ej)) ∧ w'.cell? ⟨gx, i * 10 + 1, none⟩ = some (.int .i64 z1) ∧ w'.cell? ⟨gx, i * 10 + 2, none⟩ = some (.int .i64 j))
        (first | with_reducible exact hS0 | with_reducible exact SK.out _ (keepB hb6 (by assumption)) | with_reducible exact SK.out _ (keepB hb7 (by assumption)) | with_reducible exact SK.out _ (keepB hb8 (by assumption)) | with_reducible exact SK.out _ (keepB hb9 (by assumption)) | assumption)
        (first
          | (go_at_call 21; refine (rsame_w (d := ⟨K1, N1, X1, A1⟩) (d' := ⟨K1, N1, X1, A1⟩) hsame LX.out LS.out (by assumption)).mono ?_; rintro e w6 ⟨rfl, hb6⟩)
          | (go_at_call 12; refine (flat_w (d := ⟨K1, N1, X1, A1⟩) HZ1 LS.out k1a k1b k1c (by assumption)).mono ?_; rintro e w7 ⟨g7, c7, rfl, hb7⟩)
          | (go_at_call 17; refine (path_w (d := ⟨K, N, X, A⟩) i ⟨K1, N1, X1, A1⟩ k1 j hiK HS1 HDP LT.out hdp hsz (by assumption)).mono ?_; rintro e w8 ⟨a8, c8, rfl, hb8⟩)
          | (go_at_call 10; refine (awake7_true _).mono ?_; rintro e w9 ⟨rfl, hb9⟩))
      rename_i hHeld
      have HHELD := Fact.mk hHeld.1
      clear hHeld
      go_wp2_with fail
      go_ret
      exact ⟨rfl, HBR.out.trans (HHELD.out.mono HBR.out.size)⟩
end Go.Proofs.Ytjjkidenlgghkaa
