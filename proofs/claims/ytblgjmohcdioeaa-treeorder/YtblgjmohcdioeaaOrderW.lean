/- TreeOrder, walked: Compare is an order. -/
import Derived.Test.YtblgjmohcdioeaaCompare
import Derived.Test.YtblgjmohcdioeaaSmall
set_option linter.unusedVariables false
namespace Go.Proofs.Ytblgjmohcdioeaa
open Go.Deep (BT)
open Go.RowKit M

/-- a tree that lies in the world where a call began, and is not too deep -/
structure Tr (w : World) (K : Int) (N X : ByteArray) (A : List (ByteArray × ByteArray)) (k : M.F) (va ka : Value) : Prop where
  lies : Lies w.heap.size w ⟨K, N, X, A⟩ k va ka
  deep : k.depth + 2 ≤ 1000000
theorem compare_l {P : Prop} {w W : World} {K K' : Int} {N X N' X' : ByteArray} {A A' : List (ByteArray × ByteArray)} {k k' : M.F} {va ka vb kb : Value} (ha : Tr w K N X A k va ka) (hb : Tr w K' N' X' A' k' vb kb) (h : Below w.heap.size w W ∧ P) :
    Calls Try.prog 26 #[.agg #[.int .i64 K, .string N, .string X, va, ka], .agg #[.int .i64 K', .string N', .string X', vb, kb]] W fun e w' => e = .returned (.int .i64 (cT ⟨K, N, X, A⟩ k ⟨K', N', X', A'⟩ k')) ∧ Below W.heap.size W w' :=
  compare_at (n := w.heap.size) (w := W) (d := ⟨K, N, X, A⟩) (d' := ⟨K', N', X', A'⟩) (k := k) (k' := k') (va := va) (vb := vb) (ka := ka) (kb := kb) (cT ⟨K, N, X, A⟩ k ⟨K', N', X', A'⟩ k') ⟨rfl⟩ ha.deep (ha.lies.below h.1) (hb.lies.below h.1) h.1.size

theorem compare_l' {P : Prop} {w W : World} {K K' : Int} {N X N' X' : ByteArray} {A A' : List (ByteArray × ByteArray)} {k k' : M.F} {va ka vb kb : Value} {C : Int} (hC : Fact (cT ⟨K, N, X, A⟩ k ⟨K', N', X', A'⟩ k' = C)) (ha : Tr w K N X A k va ka) (hb : Tr w K' N' X' A' k' vb kb) (h : Below w.heap.size w W ∧ P) :
    Calls Try.prog 26 #[.agg #[.int .i64 K, .string N, .string X, va, ka], .agg #[.int .i64 K', .string N', .string X', vb, kb]] W fun e w' => e = .returned (.int .i64 C) ∧ Below W.heap.size W w' := by
  rw [← hC.out]; exact compare_l ha hb h
theorem same_l {P : Prop} {w W : World} {K K' : Int} {N X N' X' : ByteArray} {A A' : List (ByteArray × ByteArray)} {k k' : M.F} {va ka vb kb : Value} (r : Bool) (hr : Fact (decide (cT ⟨K, N, X, A⟩ k ⟨K', N', X', A'⟩ k' = 0) = r)) (ha : Tr w K N X A k va ka) (hb : Tr w K' N' X' A' k' vb kb) (h : Below w.heap.size w W ∧ P) :
    Calls Try.prog 24 #[.agg #[.int .i64 K, .string N, .string X, va, ka], .agg #[.int .i64 K', .string N', .string X', vb, kb]] W fun e w' => e = .returned (.bool r) ∧ Below W.heap.size W w' :=
  same_at (n := w.heap.size) (w := W) (d := ⟨K, N, X, A⟩) (d' := ⟨K', N', X', A'⟩) (k := k) (k' := k') (va := va) (vb := vb) (ka := ka) (kb := kb) r hr ha.deep (ha.lies.below h.1) (hb.lies.below h.1) h.1.size

/-- what stays while three boxed trees are held against one another -/
theorem three_keep {w W w' : World} {xs ys zs : Array Value} (hb : Below W.heap.size W w')
    (h : Below w.heap.size w W ∧ w.heap.size + 3 ≤ W.heap.size ∧ (∀ i, W.cell? ⟨w.heap.size, i, none⟩ = xs[i]?) ∧ (∀ i, W.cell? ⟨w.heap.size + 1, i, none⟩ = ys[i]?) ∧ (∀ i, W.cell? ⟨w.heap.size + 1 + 1, i, none⟩ = zs[i]?)) :
    Below w.heap.size w w' ∧ w.heap.size + 3 ≤ w'.heap.size ∧ (∀ i, w'.cell? ⟨w.heap.size, i, none⟩ = xs[i]?) ∧ (∀ i, w'.cell? ⟨w.heap.size + 1, i, none⟩ = ys[i]?) ∧ (∀ i, w'.cell? ⟨w.heap.size + 1 + 1, i, none⟩ = zs[i]?) := by
  obtain ⟨h1, h2, h4, h5, h6⟩ := h
  have hs := hb.size
  refine ⟨h1.trans (hb.mono (by omega)), by omega, fun i => ?_, fun i => ?_, fun i => ?_⟩
  · rw [hb.cell (p := ⟨w.heap.size, i, none⟩) (by show w.heap.size < _; omega)]; exact h4 i
  · rw [hb.cell (p := ⟨w.heap.size + 1, i, none⟩) (by show w.heap.size + 1 < _; omega)]; exact h5 i
  · rw [hb.cell (p := ⟨w.heap.size + 1 + 1, i, none⟩) (by show w.heap.size + 1 + 1 < _; omega)]; exact h6 i
theorem three_start (w : World) (xs ys zs : Array Value) (t : TypeId) :
    Below w.heap.size w (((w.alloc (.cells xs t)).alloc (.cells ys t)).alloc (.cells zs t)) ∧ w.heap.size + 3 ≤ (((w.alloc (.cells xs t)).alloc (.cells ys t)).alloc (.cells zs t)).heap.size ∧ (∀ i, (((w.alloc (.cells xs t)).alloc (.cells ys t)).alloc (.cells zs t)).cell? ⟨w.heap.size, i, none⟩ = xs[i]?) ∧ (∀ i, (((w.alloc (.cells xs t)).alloc (.cells ys t)).alloc (.cells zs t)).cell? ⟨w.heap.size + 1, i, none⟩ = ys[i]?) ∧ (∀ i, (((w.alloc (.cells xs t)).alloc (.cells ys t)).alloc (.cells zs t)).cell? ⟨w.heap.size + 1 + 1, i, none⟩ = zs[i]?) := by
  refine ⟨(((Below.refl _ w).alloc (Nat.le_refl _) _).alloc (by simp) _).alloc (by simp; omega) _, by simp, fun i => ?_, fun i => ?_, fun i => ?_⟩
  · rw [World.cell?_alloc_past _ _ _ (by simp; omega), World.cell?_alloc_past _ _ _ (by simp), World.cell?_alloc_at _ _ _ _ rfl]
  · rw [World.cell?_alloc_past _ _ _ (by simp), World.cell?_alloc_at _ _ _ _ (by simp)]
  · rw [World.cell?_alloc_at _ _ _ _ (by simp)]

set_option maxRecDepth 20000 in
set_option maxHeartbeats 8000000 in
theorem order_walk (d1 : Nd) (k1 : M.F) (va1 ka1 : Value) (d2 : Nd) (k2 : M.F) (va2 ka2 : Value) (d3 : Nd) (k3 : M.F) (va3 ka3 : Value) (w : World) (h1 : Lies w.heap.size w d1 k1 va1 ka1) (h2 : Lies w.heap.size w d2 k2 va2 ka2) (h3 : Lies w.heap.size w d3 k3 va3 ka3) :
    Calls Try.prog 4 #[nodeV d1 va1 ka1, nodeV d2 va2 ka2, nodeV d3 va3 ka3] w fun e w' => e = .returned (.bool true) ∧ Below w.heap.size w w' := by
  obtain ⟨p1, p2, p3, e1⟩ := h1.a.val
  obtain ⟨p4, p5, p6, e2⟩ := h2.a.val
  obtain ⟨p7, p8, p9, e3⟩ := h3.a.val
  obtain ⟨q1, q2, e4⟩ := h1.f.val
  obtain ⟨q3, q4, e5⟩ := h2.f.val
  obtain ⟨q5, q6, e6⟩ := h3.f.val
  subst e1 e2 e3 e4 e5 e6
  obtain ⟨l1, hl1⟩ : ∃ l1, k1.len = l1 := ⟨_, rfl⟩
  obtain ⟨l2, hl2⟩ : ∃ l2, k2.len = l2 := ⟨_, rfl⟩
  obtain ⟨l3, hl3⟩ : ∃ l3, k3.len = l3 := ⟨_, rfl⟩
  rw [hl1] at h1 ⊢
  rw [hl2] at h2 ⊢
  rw [hl3] at h3 ⊢
  clear hl1 hl2 hl3
  obtain ⟨K1, N1, X1, A1⟩ := d1
  obtain ⟨K2, N2, X2, A2⟩ := d2
  obtain ⟨K3, N3, X3, A3⟩ := d3
  have H1 := Fact.mk h1
  have H2 := Fact.mk h2
  have H3 := Fact.mk h3
  clear h1 h2 h3
  have hst := three_start w #[.int .i64 K1, .string N1, .string X1, .slice p1 p2 p3, .slice q1 l1 q2] #[.int .i64 K2, .string N2, .string X2, .slice p4 p5 p6, .slice q3 l2 q4] #[.int .i64 K3, .string N3, .string X3, .slice p7 p8 p9, .slice q5 l3 q6] 25
  obtain ⟨W0, hW0⟩ : ∃ W0, ((w.alloc (.cells #[.int .i64 K1, .string N1, .string X1, .slice p1 p2 p3, .slice q1 l1 q2] 25)).alloc (.cells #[.int .i64 K2, .string N2, .string X2, .slice p4 p5 p6, .slice q3 l2 q4] 25)).alloc (.cells #[.int .i64 K3, .string N3, .string X3, .slice p7 p8 p9, .slice q5 l3 q6] 25) = W0 := ⟨_, rfl⟩
  rw [hW0] at hst
  obtain ⟨s1, s2, s3, s4, s5⟩ := id hst
  have HST := Fact.mk hst
  clear hst
  go_enter Try.func4, Try.ntmps4
  go_wp2_with fail
  refine (Small_any ⟨K1, N1, X1, A1⟩ k1 _ _ w.heap.size W0 (H1.out.below HST.out.1) HST.out.1.size).mono ?_
  rintro e w1 (⟨rfl, hb1⟩ | ⟨rfl, hb1, f1⟩)
  · go_wp2_with (go_at_call 10; refine (awake_true _).mono ?_; rintro e w9 ⟨rfl, hb9⟩)
    go_ret
    exact ⟨rfl, s1.trans ((hb1.mono s1.size).trans (hb9.mono (Nat.le_trans s1.size hb1.size)))⟩
  have hst1 := three_keep hb1 HST.out
  clear s1 s2 s3 s4 s5 hW0 hb1
  obtain ⟨s1, s2, s3, s4, s5⟩ := id hst1
  have HST1 := Fact.mk hst1
  clear hst1
  go_wp2_with fail
  refine (Small_any ⟨K2, N2, X2, A2⟩ k2 _ _ w.heap.size w1 (H2.out.below HST1.out.1) HST1.out.1.size).mono ?_
  rintro e w2 (⟨rfl, hb2⟩ | ⟨rfl, hb2, f2⟩)
  · go_wp2_with (go_at_call 10; refine (awake_true _).mono ?_; rintro e w9 ⟨rfl, hb9⟩)
    go_ret
    exact ⟨rfl, s1.trans ((hb2.mono s1.size).trans (hb9.mono (Nat.le_trans s1.size hb2.size)))⟩
  have hst2 := three_keep hb2 HST1.out
  clear s1 s2 s3 s4 s5 hb2
  obtain ⟨s1, s2, s3, s4, s5⟩ := id hst2
  have HST2 := Fact.mk hst2
  clear hst2
  go_wp2_with fail
  refine (Small_any ⟨K3, N3, X3, A3⟩ k3 _ _ w.heap.size w2 (H3.out.below HST2.out.1) HST2.out.1.size).mono ?_
  rintro e w3 (⟨rfl, hb3⟩ | ⟨rfl, hb3, f3⟩)
  · go_wp2_with (go_at_call 10; refine (awake_true _).mono ?_; rintro e w9 ⟨rfl, hb9⟩)
    go_ret
    exact ⟨rfl, s1.trans ((hb3.mono s1.size).trans (hb9.mono (Nat.le_trans s1.size hb3.size)))⟩
  have hst3 := three_keep hb3.drew HST2.out
  clear s1 s2 s3 s4 s5
  have hb3' := Fact.mk hb3
  clear hb3
  have T1 : Tr w K1 N1 X1 A1 k1 (.slice p1 p2 p3) (.slice q1 l1 q2) := ⟨H1.out, by have := f1.out.depth; omega⟩
  have T2 : Tr w K2 N2 X2 A2 k2 (.slice p4 p5 p6) (.slice q3 l2 q4) := ⟨H2.out, by have := f2.out.depth; omega⟩
  have T3 : Tr w K3 N3 X3 A3 k3 (.slice p7 p8 p9) (.slice q5 l3 q6) := ⟨H3.out, by have := f3.out.depth; omega⟩
  have hS0 := Fact.mk hst3
  clear hst3
  go_wp2_with fail
  have hS0 := hS0.out
  go_region_held3 (fun w' => Below w.heap.size w w' ∧ w.heap.size + 3 ≤ w'.heap.size ∧ (∀ i, w'.cell? ⟨w.heap.size, i, none⟩ = (#[.int .i64 K1, .string N1, .string X1, .slice p1 p2 p3, .slice q1 l1 q2] : Array Value)[i]?) ∧ (∀ i, w'.cell? ⟨w.heap.size + 1, i, none⟩ = (#[.int .i64 K2, .string N2, .string X2, .slice p4 p5 p6, .slice q3 l2 q4] : Array Value)[i]?) ∧ (∀ i, w'.cell? ⟨w.heap.size + 1 + 1, i, none⟩ = (#[.int .i64 K3, .string N3, .string X3, .slice p7 p8 p9, .slice q5 l3 q6] : Array Value)[i]?))
    (first | exact hS0 | exact three_keep hb5 (by assumption) | assumption)
    (first | (go_at_call 26; refine (compare_l (w := w) (by assumption) (by assumption) (by assumption)).mono ?_; rintro e w5 ⟨rfl, hb5⟩))
  rename_i hSS
  clear hS0
  have tri := tri_cT ⟨K1, N1, X1, A1⟩ k1 ⟨K2, N2, X2, A2⟩ k2 ⟨K3, N3, X3, A3⟩ k3
  have sx := (cT_sg ⟨K1, N1, X1, A1⟩ k1 ⟨K2, N2, X2, A2⟩ k2).h
  have sy := (cT_sg ⟨K2, N2, X2, A2⟩ k2 ⟨K3, N3, X3, A3⟩ k3).h
  have hn := cT_neg ⟨K1, N1, X1, A1⟩ k1 ⟨K2, N2, X2, A2⟩ k2
  obtain ⟨x, hx⟩ : ∃ x, cT ⟨K1, N1, X1, A1⟩ k1 ⟨K2, N2, X2, A2⟩ k2 = x := ⟨_, rfl⟩
  obtain ⟨y, hy⟩ : ∃ y, cT ⟨K2, N2, X2, A2⟩ k2 ⟨K3, N3, X3, A3⟩ k3 = y := ⟨_, rfl⟩
  obtain ⟨z, hz⟩ : ∃ z, cT ⟨K1, N1, X1, A1⟩ k1 ⟨K3, N3, X3, A3⟩ k3 = z := ⟨_, rfl⟩
  rw [hx] at tri sx hn
  rw [hy] at tri sy
  rw [hz] at tri
  rw [hx, hy, hz]
  obtain ⟨_, _, s3, s4, s5⟩ := id hSS
  have HNX : Fact (cT ⟨K2, N2, X2, A2⟩ k2 ⟨K1, N1, X1, A1⟩ k1 = -x) := ⟨hn⟩
  have HX := Fact.mk hx
  have HT := Fact.mk tri
  clear tri
  rcases sx with rfl | rfl | rfl
  · have HR : Fact (decide (cT ⟨K1, N1, X1, A1⟩ k1 ⟨K2, N2, X2, A2⟩ k2 = 0) = false) := ⟨by rw [HX.out]; rfl⟩
    by_cases y0 : y ≤ 0
    · have z0 : z < 0 := HT.out.c (by omega) y0
      have z1 : ¬ 0 < z := by omega
      have z2 : ¬ 0 ≤ z := by omega
      have yb : decide (y ≤ 0) = true := decide_eq_true y0
      have zb : decide (0 < z) = false := decide_eq_false z1
      have zc : decide (0 ≤ z) = false := decide_eq_false z2
      clear hx hy hz hn
      go_wp2_with (first
        | (go_at_call 26; refine (compare_l' (w := w) HNX T2 T1 (by assumption)).mono ?_; rintro e w6 ⟨rfl, hb6⟩; have hS6 := three_keep hb6 (by assumption); clear hb6; obtain ⟨_, _, r3, r4, r5⟩ := id hS6)
        | (go_at_call 24; refine (same_l (w := w) false HR T1 T2 (by assumption)).mono ?_; rintro e w7 ⟨rfl, hb7⟩; have hS7 := three_keep hb7 (by assumption); clear hb7)
        | (go_at_call 10; refine (awake_true _).mono ?_; rintro e w8 ⟨rfl, hb8⟩))
      go_ret
      exact ⟨rfl, hS7.1.trans (hb8.mono hS7.1.size)⟩
    · have yb : decide (y ≤ 0) = false := decide_eq_false y0
      clear hx hy hz hn
      go_wp2_with (first
        | (go_at_call 26; refine (compare_l' (w := w) HNX T2 T1 (by assumption)).mono ?_; rintro e w6 ⟨rfl, hb6⟩; have hS6 := three_keep hb6 (by assumption); clear hb6; obtain ⟨_, _, r3, r4, r5⟩ := id hS6)
        | (go_at_call 24; refine (same_l (w := w) false HR T1 T2 (by assumption)).mono ?_; rintro e w7 ⟨rfl, hb7⟩; have hS7 := three_keep hb7 (by assumption); clear hb7)
        | (go_at_call 10; refine (awake_true _).mono ?_; rintro e w8 ⟨rfl, hb8⟩))
      go_ret
      exact ⟨rfl, hS7.1.trans (hb8.mono hS7.1.size)⟩
  · have HR : Fact (decide (cT ⟨K1, N1, X1, A1⟩ k1 ⟨K2, N2, X2, A2⟩ k2 = 0) = true) := ⟨by rw [HX.out]; rfl⟩
    by_cases y0 : y ≤ 0
    · have z0 : z ≤ 0 := HT.out.a (by omega) y0
      have z1 : ¬ 0 < z := by omega
      have yb : decide (y ≤ 0) = true := decide_eq_true y0
      have zb : decide (0 < z) = false := decide_eq_false z1
      clear hx hy hz hn
      go_wp2_with (first
        | (go_at_call 26; refine (compare_l' (w := w) HNX T2 T1 (by assumption)).mono ?_; rintro e w6 ⟨rfl, hb6⟩; have hS6 := three_keep hb6 (by assumption); clear hb6; obtain ⟨_, _, r3, r4, r5⟩ := id hS6)
        | (go_at_call 24; refine (same_l (w := w) true HR T1 T2 (by assumption)).mono ?_; rintro e w7 ⟨rfl, hb7⟩; have hS7 := three_keep hb7 (by assumption); clear hb7)
        | (go_at_call 10; refine (awake_true _).mono ?_; rintro e w8 ⟨rfl, hb8⟩))
      go_ret
      exact ⟨rfl, hS7.1.trans (hb8.mono hS7.1.size)⟩
    · have yb : decide (y ≤ 0) = false := decide_eq_false y0
      clear hx hy hz hn
      go_wp2_with (first
        | (go_at_call 26; refine (compare_l' (w := w) HNX T2 T1 (by assumption)).mono ?_; rintro e w6 ⟨rfl, hb6⟩; have hS6 := three_keep hb6 (by assumption); clear hb6; obtain ⟨_, _, r3, r4, r5⟩ := id hS6)
        | (go_at_call 24; refine (same_l (w := w) true HR T1 T2 (by assumption)).mono ?_; rintro e w7 ⟨rfl, hb7⟩; have hS7 := three_keep hb7 (by assumption); clear hb7)
        | (go_at_call 10; refine (awake_true _).mono ?_; rintro e w8 ⟨rfl, hb8⟩))
      go_ret
      exact ⟨rfl, hS7.1.trans (hb8.mono hS7.1.size)⟩
  · have HR : Fact (decide (cT ⟨K1, N1, X1, A1⟩ k1 ⟨K2, N2, X2, A2⟩ k2 = 0) = false) := ⟨by rw [HX.out]; rfl⟩
    clear hx hy hz hn
    go_wp2_with (first
      | (go_at_call 26; refine (compare_l' (w := w) HNX T2 T1 (by assumption)).mono ?_; rintro e w6 ⟨rfl, hb6⟩; have hS6 := three_keep hb6 (by assumption); clear hb6; obtain ⟨_, _, r3, r4, r5⟩ := id hS6)
      | (go_at_call 24; refine (same_l (w := w) false HR T1 T2 (by assumption)).mono ?_; rintro e w7 ⟨rfl, hb7⟩; have hS7 := three_keep hb7 (by assumption); clear hb7)
      | (go_at_call 10; refine (awake_true _).mono ?_; rintro e w8 ⟨rfl, hb8⟩))
    go_ret
    exact ⟨rfl, hS7.1.trans (hb8.mono hS7.1.size)⟩
end Go.Proofs.Ytblgjmohcdioeaa
