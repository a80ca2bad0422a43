/- TreeAll, walked. -/
import Derived.Test.YtblgjmohcdioeaaTwoZ
import Derived.Deep.DrawnRows
set_option linter.unusedVariables false
namespace Go.Proofs.Ytblgjmohcdioeaa
open Go.Deep (BT)
open Go.RowKit M
attribute [local go_sem ↓] Go.wp_at_zero Go.wp_at_succ

theorem q_keep {w wc W w' : World} {xs ys : Array Value} {Y Z : Nat} {a0 a1 a2 a3 a4 b0 b1 b2 b3 b4 : Value} (hs : w.heap.size + 2 ≤ wc.heap.size ∧ Y < wc.heap.size ∧ Z < wc.heap.size) (hb : Below W.heap.size W w')
    (h : Below wc.heap.size wc W ∧ (∀ i, W.cell? ⟨w.heap.size, i, none⟩ = xs[i]?) ∧ (∀ i, W.cell? ⟨w.heap.size + 1, i, none⟩ = ys[i]?) ∧ (W.cell? ⟨Y, 0, none⟩ = some a0 ∧ W.cell? ⟨Y, 1, none⟩ = some a1 ∧ W.cell? ⟨Y, 2, none⟩ = some a2 ∧ W.cell? ⟨Y, 3, none⟩ = some a3 ∧ W.cell? ⟨Y, 4, none⟩ = some a4) ∧ (W.cell? ⟨Z, 0, none⟩ = some b0 ∧ W.cell? ⟨Z, 1, none⟩ = some b1 ∧ W.cell? ⟨Z, 2, none⟩ = some b2 ∧ W.cell? ⟨Z, 3, none⟩ = some b3 ∧ W.cell? ⟨Z, 4, none⟩ = some b4)) :
    Below wc.heap.size wc w' ∧ (∀ i, w'.cell? ⟨w.heap.size, i, none⟩ = xs[i]?) ∧ (∀ i, w'.cell? ⟨w.heap.size + 1, i, none⟩ = ys[i]?) ∧ (w'.cell? ⟨Y, 0, none⟩ = some a0 ∧ w'.cell? ⟨Y, 1, none⟩ = some a1 ∧ w'.cell? ⟨Y, 2, none⟩ = some a2 ∧ w'.cell? ⟨Y, 3, none⟩ = some a3 ∧ w'.cell? ⟨Y, 4, none⟩ = some a4) ∧ (w'.cell? ⟨Z, 0, none⟩ = some b0 ∧ w'.cell? ⟨Z, 1, none⟩ = some b1 ∧ w'.cell? ⟨Z, 2, none⟩ = some b2 ∧ w'.cell? ⟨Z, 3, none⟩ = some b3 ∧ w'.cell? ⟨Z, 4, none⟩ = some b4) := by
  obtain ⟨h0, ha, hb', ⟨p0, p1, p2, p3, p4⟩, r0, r1, r2, r3, r4⟩ := h
  have hz := h0.size
  have hk : ∀ B i, B < wc.heap.size → w'.cell? ⟨B, i, none⟩ = W.cell? ⟨B, i, none⟩ := fun B i hB => hb.cell (p := ⟨B, i, none⟩) (by show B < _; omega)
  exact ⟨h0.trans (hb.mono hz), fun i => (hk _ i (by omega)).trans (ha i), fun i => (hk _ i (by omega)).trans (hb' i), ⟨(hk _ _ hs.2.1).trans p0, (hk _ _ hs.2.1).trans p1, (hk _ _ hs.2.1).trans p2, (hk _ _ hs.2.1).trans p3, (hk _ _ hs.2.1).trans p4⟩, (hk _ _ hs.2.2).trans r0, (hk _ _ hs.2.2).trans r1, (hk _ _ hs.2.2).trans r2, (hk _ _ hs.2.2).trans r3, (hk _ _ hs.2.2).trans r4⟩
theorem rsize_at (k : M.F) (d : Nd) (av kv : Value) (n : Nat) (w : World) (r : Nat) (hr : Fact (k.size + 1 = r)) (hl : Lies n w d k av kv) (hn : n ≤ w.heap.size) (hs : k.size ≤ 1000000) : Calls Try.prog 19 #[nodeV d av kv] w fun e w' => e = .returned (.int .i64 r) ∧ Below w.heap.size w w' := by
  rw [← hr.out]; exact rsize_any k d av kv n w hl hn hs
theorem rdepth_at (k : M.F) (d : Nd) (av kv : Value) (n : Nat) (w : World) (r : Nat) (hr : Fact (k.depth + 1 = r)) (hl : Lies n w d k av kv) (hn : n ≤ w.heap.size) (hs : k.depth ≤ 1000000) : Calls Try.prog 21 #[nodeV d av kv] w fun e w' => e = .returned (.int .i64 r) ∧ Below w.heap.size w w' := by
  rw [← hr.out]; exact rdepth_any k d av kv n w hl hn hs
theorem rslots_at (k : M.F) (d : Nd) (av kv : Value) (n : Nat) (w : World) (r : Nat) (hr : Fact (d.ats.length + k.slots = r)) (hl : Lies n w d k av kv) (hn : n ≤ w.heap.size) (hs : d.ats.length + k.slots ≤ 1000000) : Calls Try.prog 23 #[nodeV d av kv] w fun e w' => e = .returned (.int .i64 r) ∧ Below w.heap.size w w' := by
  rw [← hr.out]; exact rslots_any k d av kv n w hl hn hs
theorem slots_at' {n : Nat} {w : World} {d : Nd} {k : M.F} {av kv : Value} (r : Nat) (hr : Fact (d.ats.length + k.slots = r)) (hk : k.depth + 2 ≤ 1000000) (hs : d.ats.length + k.slots ≤ 1000000000) (h : Lies n w d k av kv) (hn : n ≤ w.heap.size) :
    Calls Try.prog 22 #[nodeV d av kv] w fun e w' => e = .returned (.int .i64 r) ∧ Below w.heap.size w w' := by
  rw [← hr.out]; exact slots_any d k av kv w (h.here hn).a (h.here hn).f hk hs
theorem ci_self (a : Int) : ci a a = 0 := by unfold ci; rw [if_neg (by omega), if_neg (by omega)]
theorem cl_self : ∀ l, cl l l = 0
  | [] => rfl
  | a :: l => by show orI (ci a.toNat a.toNat) (cl l l) = 0; rw [ci_self, cl_self l]; rfl
theorem ca_self : ∀ l, ca l l = 0
  | [] => rfl
  | p :: l => by
    have h1 : cp p p = 0 := by unfold cp cs; rw [cl_self, cl_self]; rfl
    show orI (cp p p) (ca l l) = 0; rw [h1, ca_self l]; rfl
theorem cn_self (d : Nd) : cn d d = 0 := by unfold cn cs; rw [ci_self, cl_self, cl_self, ca_self]; rfl
theorem cF_self : ∀ f, cF f f = 0
  | .nil => rfl
  | .node _ _ d k r => by show orI (cn d d) (orI (cF k k) (cF r r)) = 0; rw [cn_self, cF_self k, cF_self r]; rfl
theorem cT_self (d : Nd) (k : M.F) : cT d k d k = 0 := by unfold cT; rw [cn_self, cF_self]; rfl
section
variable {P : Prop} {wc W : World} {d d' : Nd} {k k' : M.F} {av kv av' kv' : Value}
theorem check_q (L : Lies wc.heap.size wc d k av kv) (r : Bool) (hr : Fact (treeOK d k = r)) (hk : k.depth + 2 ≤ 1000000) (h : Below wc.heap.size wc W ∧ P) : Calls Try.prog 14 #[.agg #[.int .i64 d.k, .string d.n, .string d.x, av, kv]] W fun e w' => e = .returned (.bool r) ∧ Below W.heap.size W w' := check_at (n := wc.heap.size) r hr hk (L.below h.1) h.1.size
theorem rcheck_q (L : Lies wc.heap.size wc d k av kv) (r : Bool) (hr : Fact (treeOK d k = r)) (hs : k.size ≤ 1000000) (hk : k.depth ≤ 1000000) (h : Below wc.heap.size wc W ∧ P) : Calls Try.prog 15 #[.agg #[.int .i64 d.k, .string d.n, .string d.x, av, kv]] W fun e w' => e = .returned (.bool r) ∧ Below W.heap.size W w' := rcheck_any d k av kv wc.heap.size W (L.below h.1) h.1.size hs hk r hr
theorem size_q (L : Lies wc.heap.size wc d k av kv) (r : Nat) (hr : Fact (k.size + 1 = r)) (hk : k.depth + 2 ≤ 1000000) (hs : k.size ≤ 1000000) (h : Below wc.heap.size wc W ∧ P) : Calls Try.prog 18 #[.agg #[.int .i64 d.k, .string d.n, .string d.x, av, kv]] W fun e w' => e = .returned (.int .i64 r) ∧ Below W.heap.size W w' := size_at (n := wc.heap.size) r hr hk (by omega) (L.below h.1) h.1.size
theorem rsize_q (L : Lies wc.heap.size wc d k av kv) (r : Nat) (hr : Fact (k.size + 1 = r)) (hs : k.size ≤ 1000000) (h : Below wc.heap.size wc W ∧ P) : Calls Try.prog 19 #[.agg #[.int .i64 d.k, .string d.n, .string d.x, av, kv]] W fun e w' => e = .returned (.int .i64 r) ∧ Below W.heap.size W w' := rsize_at k d av kv wc.heap.size W r hr (L.below h.1) h.1.size hs
theorem depth_q (L : Lies wc.heap.size wc d k av kv) (r : Nat) (hr : Fact (k.depth + 1 = r)) (hk : k.depth + 2 ≤ 1000000) (h : Below wc.heap.size wc W ∧ P) : Calls Try.prog 20 #[.agg #[.int .i64 d.k, .string d.n, .string d.x, av, kv]] W fun e w' => e = .returned (.int .i64 r) ∧ Below W.heap.size W w' := depth_at (n := wc.heap.size) r hr hk (L.below h.1) h.1.size
theorem rdepth_q (L : Lies wc.heap.size wc d k av kv) (r : Nat) (hr : Fact (k.depth + 1 = r)) (hk : k.depth ≤ 1000000) (h : Below wc.heap.size wc W ∧ P) : Calls Try.prog 21 #[.agg #[.int .i64 d.k, .string d.n, .string d.x, av, kv]] W fun e w' => e = .returned (.int .i64 r) ∧ Below W.heap.size W w' := rdepth_at k d av kv wc.heap.size W r hr (L.below h.1) h.1.size hk
theorem slots_q (L : Lies wc.heap.size wc d k av kv) (r : Nat) (hr : Fact (d.ats.length + k.slots = r)) (hk : k.depth + 2 ≤ 1000000) (hs : d.ats.length + k.slots ≤ 1000000) (h : Below wc.heap.size wc W ∧ P) : Calls Try.prog 22 #[.agg #[.int .i64 d.k, .string d.n, .string d.x, av, kv]] W fun e w' => e = .returned (.int .i64 r) ∧ Below W.heap.size W w' := slots_at' (n := wc.heap.size) r hr hk (by omega) (L.below h.1) h.1.size
theorem rslots_q (L : Lies wc.heap.size wc d k av kv) (r : Nat) (hr : Fact (d.ats.length + k.slots = r)) (hs : d.ats.length + k.slots ≤ 1000000) (h : Below wc.heap.size wc W ∧ P) : Calls Try.prog 23 #[.agg #[.int .i64 d.k, .string d.n, .string d.x, av, kv]] W fun e w' => e = .returned (.int .i64 r) ∧ Below W.heap.size W w' := rslots_at k d av kv wc.heap.size W r hr (L.below h.1) h.1.size hs
theorem same_q (L : Lies wc.heap.size wc d k av kv) (L' : Lies wc.heap.size wc d' k' av' kv') (r : Bool) (hr : Fact (decide (cT d k d' k' = 0) = r)) (hk : k.depth + 2 ≤ 1000000) (h : Below wc.heap.size wc W ∧ P) : Calls Try.prog 24 #[.agg #[.int .i64 d.k, .string d.n, .string d.x, av, kv], .agg #[.int .i64 d'.k, .string d'.n, .string d'.x, av', kv']] W fun e w' => e = .returned (.bool r) ∧ Below W.heap.size W w' := same_at (n := wc.heap.size) r hr hk (L.below h.1) (L'.below h.1) h.1.size
theorem rsame_q (L : Lies wc.heap.size wc d k av kv) (L' : Lies wc.heap.size wc d' k' av' kv') (r : Bool) (hr : Fact (decide (cT d k d' k' = 0) = r)) (h : Below wc.heap.size wc W ∧ P) : Calls Try.prog 25 #[.agg #[.int .i64 d.k, .string d.n, .string d.x, av, kv], .agg #[.int .i64 d'.k, .string d'.n, .string d'.x, av', kv']] W fun e w' => e = .returned (.bool r) ∧ Below W.heap.size W w' := rsame_at (n := wc.heap.size) r hr (L.below h.1) (L'.below h.1) h.1.size
theorem compare_q (L : Lies wc.heap.size wc d k av kv) (L' : Lies wc.heap.size wc d' k' av' kv') (r : Int) (hr : Fact (cT d k d' k' = r)) (hk : k.depth + 2 ≤ 1000000) (h : Below wc.heap.size wc W ∧ P) : Calls Try.prog 26 #[.agg #[.int .i64 d.k, .string d.n, .string d.x, av, kv], .agg #[.int .i64 d'.k, .string d'.n, .string d'.x, av', kv']] W fun e w' => e = .returned (.int .i64 r) ∧ Below W.heap.size W w' := compare_at (n := wc.heap.size) r hr hk (L.below h.1) (L'.below h.1) h.1.size
theorem rcompare_q (L : Lies wc.heap.size wc d k av kv) (L' : Lies wc.heap.size wc d' k' av' kv') (r : Int) (hr : Fact (cT d k d' k' = r)) (h : Below wc.heap.size wc W ∧ P) : Calls Try.prog 27 #[.agg #[.int .i64 d.k, .string d.n, .string d.x, av, kv], .agg #[.int .i64 d'.k, .string d'.n, .string d'.x, av', kv']] W fun e w' => e = .returned (.int .i64 r) ∧ Below W.heap.size W w' := rcmp_any k d d' k' av kv av' kv' wc.heap.size W r (L.below h.1) (L'.below h.1) h.1.size hr
end

set_option maxRecDepth 20000 in
set_option maxHeartbeats 4000000 in
theorem all_walk (d1 : Nd) (k1 : M.F) (va1 ka1 : Value) (d2 : Nd) (k2 : M.F) (va2 ka2 : Value) (s : ByteArray) (w : World) (h1 : Lies w.heap.size w d1 k1 va1 ka1) (h2 : Lies w.heap.size w d2 k2 va2 ka2) :
    Calls Try.prog 3 #[nodeV d1 va1 ka1, nodeV d2 va2 ka2, .string s] w fun e w' => e = .returned (.bool true) ∧ Below w.heap.size w w' := by
  obtain ⟨p1, p2, p3, e1⟩ := h1.a.val
  obtain ⟨p4, p5, p6, e2⟩ := h2.a.val
  obtain ⟨q1, q2, e4⟩ := h1.f.val
  obtain ⟨q3, q4, e5⟩ := h2.f.val
  subst e1 e2 e4 e5
  obtain ⟨l1, hl1⟩ : ∃ l1, k1.len = l1 := ⟨_, rfl⟩
  obtain ⟨l2, hl2⟩ : ∃ l2, k2.len = l2 := ⟨_, rfl⟩
  rw [hl1] at h1 ⊢
  rw [hl2] at h2 ⊢
  obtain ⟨K1, N1, X1, A1⟩ := d1
  obtain ⟨K2, N2, X2, A2⟩ := d2
  have H1 := Fact.mk h1
  have H2 := Fact.mk h2
  have HL1 := Fact.mk hl1
  have HL2 := Fact.mk hl2
  clear h1 h2 hl1 hl2
  have hst := tw_start w #[.int .i64 K1, .string N1, .string X1, .slice p1 p2 p3, .slice q1 l1 q2] #[.int .i64 K2, .string N2, .string X2, .slice p4 p5 p6, .slice q3 l2 q4] 25
  obtain ⟨W0, hW0⟩ : ∃ W0, (w.alloc (.cells #[.int .i64 K1, .string N1, .string X1, .slice p1 p2 p3, .slice q1 l1 q2] 25)).alloc (.cells #[.int .i64 K2, .string N2, .string X2, .slice p4 p5 p6, .slice q3 l2 q4] 25) = W0 := ⟨_, rfl⟩
  rw [hW0] at hst
  obtain ⟨s1, s2, s3, s4⟩ := id hst
  have HST := Fact.mk hst
  clear hst
  go_enter Try.func3, Try.ntmps3
  go_wp2_with fail
  refine (Small_any ⟨K1, N1, X1, A1⟩ k1 _ _ w.heap.size W0 (H1.out.below HST.out.1) HST.out.1.size).mono ?_
  rintro e w1 (⟨rfl, hb1⟩ | ⟨rfl, hb1, f1⟩)
  · go_wp2_with (go_at_call 10; refine (awake_true _).mono ?_; rintro e w9 ⟨rfl, hb9⟩)
    go_ret
    exact ⟨rfl, s1.trans ((hb1.mono s1.size).trans (hb9.mono (Nat.le_trans s1.size hb1.size)))⟩
  have hst1 := tw_call hb1 HST.out
  clear s1 s2 s3 s4 hW0 hb1
  obtain ⟨s1, s2, s3, s4⟩ := id hst1
  have HST1 := Fact.mk hst1
  clear hst1
  go_wp2_with fail
  refine (Small_any ⟨K2, N2, X2, A2⟩ k2 _ _ w.heap.size w1 (H2.out.below HST1.out.1) HST1.out.1.size).mono ?_
  rintro e w2 (⟨rfl, hb2⟩ | ⟨rfl, hb2, f2⟩)
  · go_wp2_with (go_at_call 10; refine (awake_true _).mono ?_; rintro e w9 ⟨rfl, hb9⟩)
    go_ret
    exact ⟨rfl, s1.trans ((hb2.mono s1.size).trans (hb9.mono (Nat.le_trans s1.size hb2.size)))⟩
  have HST2 := Fact.mk (tw_call hb2 HST1.out)
  have HST3 := Fact.mk (tw_call hb2.drew HST1.out)
  clear s1 s2 s3 s4 hb2
  by_cases hs : 200 < s.size
  · have hs' : (200 : Int) < s.size := by omega
    go_wp2_with (go_at_call 10; refine (awake_true _).mono ?_; rintro e w9 ⟨rfl, hb9⟩)
    go_ret
    exact ⟨rfl, HST2.out.1.trans (hb9.mono HST2.out.1.size)⟩
  have hs' : ¬ (200 : Int) < s.size := by omega
  go_wp2_with fail
  have hz2 : w.heap.size + 2 ≤ w2.heap.size := HST2.out.2.1
  go_cut [7, 8] (fun xv yv wc => ∃ (Y Z : Nat) (x1 : Option Addr) (x2 x3 : Nat) (x4 : Option Addr) (x5 : Nat) (y1 : Option Addr) (y2 y3 : Nat) (y4 : Option Addr) (y5 : Nat), xv = .pointer (some ⟨Y, 0, none⟩) ∧ yv = .pointer (some ⟨Z, 0, none⟩) ∧
    Fact ((Five wc Y (.int .i64 K1) (.string N1) (.string X1) (.slice x1 x2 x3) (.slice x4 l1 x5) ∧ Five wc Z (.int .i64 K2) (.string N2) (.string X2) (.slice y1 y2 y3) (.slice y4 l2 y5)) ∧ (Lies wc.heap.size wc ⟨K1, N1, X1, A1⟩ k1 (.slice x1 x2 x3) (.slice x4 l1 x5) ∧ Lies wc.heap.size wc ⟨K2, N2, X2, A2⟩ k2 (.slice y1 y2 y3) (.slice y4 l2 y5)) ∧
      Two w #[.int .i64 K1, .string N1, .string X1, .slice p1 p2 p3, .slice q1 l1 q2] #[.int .i64 K2, .string N2, .string X2, .slice p4 p5 p6, .slice q3 l2 q4] wc))
  case first =>
    have hS0 := HST3.out
    have t1 : True := trivial
    clear HST2 HST3 HST1 HST
    go_region_held3 (fun w' => Below w.heap.size w w' ∧ w.heap.size + 2 ≤ w'.heap.size ∧ (∀ i, w'.cell? ⟨w.heap.size, i, none⟩ = (#[.int .i64 K1, .string N1, .string X1, .slice p1 p2 p3, .slice q1 l1 q2] : Array Value)[i]?) ∧ (∀ i, w'.cell? ⟨w.heap.size + 1, i, none⟩ = (#[.int .i64 K2, .string N2, .string X2, .slice p4 p5 p6, .slice q3 l2 q4] : Array Value)[i]?))
      (first | with_reducible exact hS0 | with_reducible exact hS5.out | with_reducible exact hS6.out | with_reducible exact tw_call (by assumption) (by assumption) | with_reducible exact tw_alloc (by assumption) | with_reducible exact tw_drew (by assumption) | with_reducible exact tw_set (by omega) (by assumption) | with_reducible exact tw_alloc hS5.out | with_reducible exact tw_alloc hS6.out | with_reducible exact tw_alloc (tw_alloc hS6.out) | with_reducible exact tw_set (by omega) (tw_alloc hS6.out) | with_reducible exact tw_set (by omega) hS6.out | with_reducible exact tw_alloc (tw_set (by omega) hS6.out) | with_reducible exact tw_set (by omega) (tw_set (by omega) hS6.out) | with_reducible exact tw_set (by omega) (tw_alloc (tw_set (by omega) hS6.out)))
      (first | (go_at_call 11; have _t := t1; with_reducible refine (copy_c HL1.out H1.out f1.out (hS0)).mono ?_; rintro e w5 ⟨x1, x2, x3, x4, x5, rfl, hb5, hcy⟩; have hS5 := Fact.mk (tw_call hb5 (hS0)); have hsz5 : w.heap.size + 2 ≤ w5.heap.size := hS5.out.2.1; have hsz25 : w2.heap.size ≤ w5.heap.size := Nat.le_trans (by simp <;> omega) hb5.size; have HC1 := Fact.mk hcy; have HB5 := Fact.mk hb5; clear t1 _t hcy hb5) | (go_at_call 11; have _t := t1; with_reducible refine (copy_c HL1.out H1.out f1.out (tw_drew hS0)).mono ?_; rintro e w5 ⟨x1, x2, x3, x4, x5, rfl, hb5, hcy⟩; have hS5 := Fact.mk (tw_call hb5 (tw_drew hS0)); have hsz5 : w.heap.size + 2 ≤ w5.heap.size := hS5.out.2.1; have hsz25 : w2.heap.size ≤ w5.heap.size := Nat.le_trans (by simp <;> omega) hb5.size; have HC1 := Fact.mk hcy; have HB5 := Fact.mk hb5; have HA := Fact.mk (zr_new1d hb5); have hzfP := Zr.facts HA.out; have hznP := Zr.ne HA.out; obtain ⟨⟨zP0, zP1, zP2, zP3, zP4, zP5⟩, zP6, zP7, zP8, zP9, zPa, zPb⟩ := hzfP; obtain ⟨nP1, nP2, nP3⟩ := hznP; clear t1 _t hcy hb5) | (go_at_call 11; have _t := t1; with_reducible refine (copy_c HL1.out H1.out f1.out (tw_drew (tw_drew hS0))).mono ?_; rintro e w5 ⟨x1, x2, x3, x4, x5, rfl, hb5, hcy⟩; have hS5 := Fact.mk (tw_call hb5 (tw_drew (tw_drew hS0))); have hsz5 : w.heap.size + 2 ≤ w5.heap.size := hS5.out.2.1; have hsz25 : w2.heap.size ≤ w5.heap.size := Nat.le_trans (by simp <;> omega) hb5.size; have HC1 := Fact.mk hcy; have HB5 := Fact.mk hb5; have hA5 := zr_new2d hb5; have HA := Fact.mk hA5.1; have HB := Fact.mk hA5.2; clear hA5; have hzfP := Zr.facts HA.out; have hznP := Zr.ne HA.out; obtain ⟨⟨zP0, zP1, zP2, zP3, zP4, zP5⟩, zP6, zP7, zP8, zP9, zPa, zPb⟩ := hzfP; obtain ⟨nP1, nP2, nP3⟩ := hznP; have hzfQ := Zr.facts HB.out; have hznQ := Zr.ne HB.out; obtain ⟨⟨zQ0, zQ1, zQ2, zQ3, zQ4, zQ5⟩, zQ6, zQ7, zQ8, zQ9, zQa, zQb⟩ := hzfQ; obtain ⟨nQ1, nQ2, nQ3⟩ := hznQ; clear t1 _t hcy hb5) | (go_at_call 11; with_reducible refine (copy_c HL2.out H2.out f2.out (hS5.out)).mono ?_; rintro e w6 ⟨y1, y2, y3, y4, y5, rfl, hb6, hcy⟩; have HC16 := Fact.mk (HC1.out.below (hb6) (Nat.le_refl _)); have hS6 := Fact.mk (tw_call hb6 (hS5.out)); have hsz6 : w.heap.size + 2 ≤ w6.heap.size := hS6.out.2.1; have hsz56 : w5.heap.size ≤ w6.heap.size := Nat.le_trans (by simp <;> omega) hb6.size; have HC2 := Fact.mk hcy; have HB6 := Fact.mk hb6; have HA6 := Fact.mk (zr_old0 HA.out hb6); have hzfA := Zr.facts HA6.out; have hznA := Zr.ne HA6.out; obtain ⟨⟨zA0, zA1, zA2, zA3, zA4, zA5⟩, zA6, zA7, zA8, zA9, zAa, zAb⟩ := hzfA; obtain ⟨nA1, nA2, nA3⟩ := hznA; have HB66 := Fact.mk (zr_old0 HB.out hb6); have hzfB := Zr.facts HB66.out; have hznB := Zr.ne HB66.out; obtain ⟨⟨zB0, zB1, zB2, zB3, zB4, zB5⟩, zB6, zB7, zB8, zB9, zBa, zBb⟩ := hzfB; obtain ⟨nB1, nB2, nB3⟩ := hznB; clear hcy hb6) | (go_at_call 11; with_reducible refine (copy_c HL2.out H2.out f2.out (hS5.out)).mono ?_; rintro e w6 ⟨y1, y2, y3, y4, y5, rfl, hb6, hcy⟩; have HC16 := Fact.mk (HC1.out.below (hb6) (Nat.le_refl _)); have hS6 := Fact.mk (tw_call hb6 (hS5.out)); have hsz6 : w.heap.size + 2 ≤ w6.heap.size := hS6.out.2.1; have hsz56 : w5.heap.size ≤ w6.heap.size := Nat.le_trans (by simp <;> omega) hb6.size; have HC2 := Fact.mk hcy; have HB6 := Fact.mk hb6; have HA6 := Fact.mk (zr_old0 HA.out hb6); have hzfA := Zr.facts HA6.out; have hznA := Zr.ne HA6.out; obtain ⟨⟨zA0, zA1, zA2, zA3, zA4, zA5⟩, zA6, zA7, zA8, zA9, zAa, zAb⟩ := hzfA; obtain ⟨nA1, nA2, nA3⟩ := hznA; clear hcy hb6) | (go_at_call 11; with_reducible refine (copy_c HL2.out H2.out f2.out (hS5.out)).mono ?_; rintro e w6 ⟨y1, y2, y3, y4, y5, rfl, hb6, hcy⟩; have HC16 := Fact.mk (HC1.out.below (hb6) (Nat.le_refl _)); have hS6 := Fact.mk (tw_call hb6 (hS5.out)); have hsz6 : w.heap.size + 2 ≤ w6.heap.size := hS6.out.2.1; have hsz56 : w5.heap.size ≤ w6.heap.size := Nat.le_trans (by simp <;> omega) hb6.size; have HC2 := Fact.mk hcy; have HB6 := Fact.mk hb6; clear hcy hb6) | (go_at_call 11; with_reducible refine (copy_c HL2.out H2.out f2.out (tw_alloc hS5.out)).mono ?_; rintro e w6 ⟨y1, y2, y3, y4, y5, rfl, hb6, hcy⟩; have HC16 := Fact.mk (HC1.out.below (((Below.refl _ w5).alloc (Nat.le_refl _) _).trans (hb6.mono (by simp))) (Nat.le_refl _)); have hS6 := Fact.mk (tw_call hb6 (tw_alloc hS5.out)); have hsz6 : w.heap.size + 2 ≤ w6.heap.size := hS6.out.2.1; have hsz56 : w5.heap.size ≤ w6.heap.size := Nat.le_trans (by simp <;> omega) hb6.size; have HC2 := Fact.mk hcy; have HB6 := Fact.mk hb6; have HA6 := Fact.mk (zr_old1 HA.out hb6); have hzfA := Zr.facts HA6.out; have hznA := Zr.ne HA6.out; obtain ⟨⟨zA0, zA1, zA2, zA3, zA4, zA5⟩, zA6, zA7, zA8, zA9, zAa, zAb⟩ := hzfA; obtain ⟨nA1, nA2, nA3⟩ := hznA; have HC := Fact.mk (zr_new1 hb6); have hzfC := Zr.facts HC.out; have hznC := Zr.ne HC.out; obtain ⟨⟨zC0, zC1, zC2, zC3, zC4, zC5⟩, zC6, zC7, zC8, zC9, zCa, zCb⟩ := hzfC; obtain ⟨nC1, nC2, nC3⟩ := hznC; clear hcy hb6) | (go_at_call 11; with_reducible refine (copy_c HL2.out H2.out f2.out (tw_alloc hS5.out)).mono ?_; rintro e w6 ⟨y1, y2, y3, y4, y5, rfl, hb6, hcy⟩; have HC16 := Fact.mk (HC1.out.below (((Below.refl _ w5).alloc (Nat.le_refl _) _).trans (hb6.mono (by simp))) (Nat.le_refl _)); have hS6 := Fact.mk (tw_call hb6 (tw_alloc hS5.out)); have hsz6 : w.heap.size + 2 ≤ w6.heap.size := hS6.out.2.1; have hsz56 : w5.heap.size ≤ w6.heap.size := Nat.le_trans (by simp <;> omega) hb6.size; have HC2 := Fact.mk hcy; have HB6 := Fact.mk hb6; have HC := Fact.mk (zr_new1 hb6); have hzfC := Zr.facts HC.out; have hznC := Zr.ne HC.out; obtain ⟨⟨zC0, zC1, zC2, zC3, zC4, zC5⟩, zC6, zC7, zC8, zC9, zCa, zCb⟩ := hzfC; obtain ⟨nC1, nC2, nC3⟩ := hznC; clear hcy hb6) | (go_at_call 11; with_reducible refine (copy_c HL2.out H2.out f2.out (tw_alloc (tw_alloc hS5.out))).mono ?_; rintro e w6 ⟨y1, y2, y3, y4, y5, rfl, hb6, hcy⟩; have HC16 := Fact.mk (HC1.out.below ((((Below.refl _ w5).alloc (Nat.le_refl _) _).alloc (by simp) _).trans (hb6.mono (by simp <;> omega))) (Nat.le_refl _)); have hS6 := Fact.mk (tw_call hb6 (tw_alloc (tw_alloc hS5.out))); have hsz6 : w.heap.size + 2 ≤ w6.heap.size := hS6.out.2.1; have hsz56 : w5.heap.size ≤ w6.heap.size := Nat.le_trans (by simp <;> omega) hb6.size; have HC2 := Fact.mk hcy; have HB6 := Fact.mk hb6; have hA5 := zr_new2 hb6; have HC := Fact.mk hA5.1; have HD := Fact.mk hA5.2; clear hA5; have hzfC := Zr.facts HC.out; have hznC := Zr.ne HC.out; obtain ⟨⟨zC0, zC1, zC2, zC3, zC4, zC5⟩, zC6, zC7, zC8, zC9, zCa, zCb⟩ := hzfC; obtain ⟨nC1, nC2, nC3⟩ := hznC; have hzfD := Zr.facts HD.out; have hznD := Zr.ne HD.out; obtain ⟨⟨zD0, zD1, zD2, zD3, zD4, zD5⟩, zD6, zD7, zD8, zD9, zDa, zDb⟩ := hzfD; obtain ⟨nD1, nD2, nD3⟩ := hznD; clear hcy hb6))
    all_goals
      rename_i hHeld
      have HHELD := Fact.mk hHeld
      clear hHeld
      go_wp2_with fail
      go_meet
      case rel =>
        refine ⟨_, _, x1, x2, x3, x4, x5, y1, y2, y3, y4, y5, rfl, rfl, ⟨⟨?_, ?_⟩, ⟨HC16.out.lk ?_, HC2.out.lk ?_⟩, HHELD.out⟩⟩
        · repeat (first | with_reducible exact HA6.out.f | with_reducible exact HB66.out.f | with_reducible exact HC.out.f | with_reducible exact HD.out.f | with_reducible refine five_all (u0 := .int .i64 0) (u1 := .string ⟨#[]⟩) (u2 := .string ⟨#[]⟩) (u3 := .slice none 0 0) (u4 := .slice none 0 0) ?_ _ _ _ _ _ | (with_reducible refine fy_new ?_; first | with_reducible rfl | (simp; done) | (simp; omega)) | (with_reducible refine fy_set ?_ ?_; focus (first | omega | (simp; omega))) | with_reducible refine fy_alloc ?_)
        · repeat (first | with_reducible exact HA6.out.f | with_reducible exact HB66.out.f | with_reducible exact HC.out.f | with_reducible exact HD.out.f | with_reducible refine five_all (u0 := .int .i64 0) (u1 := .string ⟨#[]⟩) (u2 := .string ⟨#[]⟩) (u3 := .slice none 0 0) (u4 := .slice none 0 0) ?_ _ _ _ _ _ | (with_reducible refine fy_new ?_; first | with_reducible rfl | (simp; done) | (simp; omega)) | (with_reducible refine fy_set ?_ ?_; focus (first | omega | (simp; omega))) | with_reducible refine fy_alloc ?_)
        · repeat (first | with_reducible exact lk_refl _ _ _ | with_reducible refine lk_alloc ?_ | (with_reducible refine lk_set ?_ ?_; focus (first | omega | (simp; done) | (simp; omega))))
        · repeat (first | with_reducible exact lk_refl _ _ _ | with_reducible refine lk_alloc ?_ | (with_reducible refine lk_set ?_ ?_; focus (first | omega | (simp; done) | (simp; omega))))
  case rest =>
    obtain ⟨Y, Z, x1, x2, x3, x4, x5, y1, y2, y3, y4, y5, rfl, rfl, hcx⟩ := hcut
    obtain ⟨⟨hfy, hfz⟩, ⟨hlx, hly⟩, htw⟩ := hcx.out
    have hBc : Below w.heap.size w wc := htw.1
    have LX := Fact.mk hlx
    have LY := Fact.mk hly
    have LA := Fact.mk ((H1.out.below hBc).here hBc.size)
    have LB := Fact.mk ((H2.out.below hBc).here hBc.size)
    have HBC := Fact.mk hBc
    have hs4 : w.heap.size + 2 ≤ wc.heap.size ∧ Y < wc.heap.size ∧ Z < wc.heap.size := ⟨htw.2.1, hfy.lt, hfz.lt⟩
    have hq : Below wc.heap.size wc wc ∧ (∀ i, wc.cell? ⟨w.heap.size, i, none⟩ = (#[.int .i64 K1, .string N1, .string X1, .slice p1 p2 p3, .slice q1 l1 q2] : Array Value)[i]?) ∧ (∀ i, wc.cell? ⟨w.heap.size + 1, i, none⟩ = (#[.int .i64 K2, .string N2, .string X2, .slice p4 p5 p6, .slice q3 l2 q4] : Array Value)[i]?) ∧ (wc.cell? ⟨Y, 0, none⟩ = some (.int .i64 K1) ∧ wc.cell? ⟨Y, 1, none⟩ = some (.string N1) ∧ wc.cell? ⟨Y, 2, none⟩ = some (.string X1) ∧ wc.cell? ⟨Y, 3, none⟩ = some (.slice x1 x2 x3) ∧ wc.cell? ⟨Y, 4, none⟩ = some (.slice x4 l1 x5)) ∧ (wc.cell? ⟨Z, 0, none⟩ = some (.int .i64 K2) ∧ wc.cell? ⟨Z, 1, none⟩ = some (.string N2) ∧ wc.cell? ⟨Z, 2, none⟩ = some (.string X2) ∧ wc.cell? ⟨Z, 3, none⟩ = some (.slice y1 y2 y3) ∧ wc.cell? ⟨Z, 4, none⟩ = some (.slice y4 l2 y5)) := ⟨Below.refl _ _, htw.2.2.1, htw.2.2.2, ⟨hfy.c0, hfy.c1, hfy.c2, hfy.c3, hfy.c4⟩, hfz.c0, hfz.c1, hfz.c2, hfz.c3, hfz.c4⟩
    have hd1 : k1.depth + 2 ≤ 1000000 := by have := f1.out.depth; omega
    have hd1' : k1.depth ≤ 1000000 := by omega
    have hs1 : k1.size ≤ 1000000 := by have := f1.out.size; omega
    have hsl1 : A1.length + k1.slots ≤ 1000000 := by have h1 := f1.out.slots; have h2 := f1.out.size; dsimp only at h1; omega
    obtain ⟨⟨V, BB⟩, hV⟩ : ∃ p, atOf A1 s = p := ⟨_, rfl⟩
    obtain ⟨C, hC⟩ : ∃ c, treeOK ⟨K1, N1, X1, A1⟩ k1 = c := ⟨_, rfl⟩
    obtain ⟨E, hE⟩ : ∃ c, nameOK s = c := ⟨_, rfl⟩
    obtain ⟨z1, hz1⟩ : ∃ c, k1.size + 1 = c := ⟨_, rfl⟩
    obtain ⟨z2, hz2'⟩ : ∃ c, k1.depth + 1 = c := ⟨_, rfl⟩
    obtain ⟨z3, hz3⟩ : ∃ c, A1.length + k1.slots = c := ⟨_, rfl⟩
    obtain ⟨G, hG⟩ : ∃ c, cT ⟨K1, N1, X1, A1⟩ k1 ⟨K2, N2, X2, A2⟩ k2 = c := ⟨_, rfl⟩
    obtain ⟨F, hF⟩ : ∃ c, decide (cT ⟨K1, N1, X1, A1⟩ k1 ⟨K2, N2, X2, A2⟩ k2 = 0) = c := ⟨_, rfl⟩
    have HSS : Fact (decide (cT ⟨K1, N1, X1, A1⟩ k1 ⟨K1, N1, X1, A1⟩ k1 = 0) = true) := ⟨decide_eq_true (cT_self _ _)⟩
    have HV := Fact.mk hV
    have HC := Fact.mk hC
    have HE := Fact.mk hE
    have HZ := Fact.mk hz1
    have HD2 := Fact.mk hz2'
    have HD3 := Fact.mk hz3
    have HG := Fact.mk hG
    have HF := Fact.mk hF
    have b1 : (V.toList == V.toList) = true := beq_self_eq_true _
    have b2 : (C == C) = true := beq_self_eq_true _
    have b3 : (E == E) = true := beq_self_eq_true _
    have b4 : (F == F) = true := beq_self_eq_true _
    have b5 : (BB == BB) = true := beq_self_eq_true _
    have t1 : True := trivial
    obtain ⟨_, sa, sb, ⟨g0, g1, g2, g3, g4⟩, k0, k1_, k2_, k3, k4⟩ := id hq
    clear hcx hfy hfz hlx hly htw hBc hV hC hE hz1 hz2' hz3 hG hF HST2 HST3 HST1 HST
    go_wp2_with (first
      | (go_at_call 12; refine (attr_any ⟨K1, N1, X1, A1⟩ k1 _ _ wc.heap.size _ (LX.out.below hq.1) hq.1.size s V BB HV).mono ?_; rintro e w9 ⟨rfl, hb9⟩; have hn := q_keep hs4 hb9 hq; clear hq sa sb g0 g1 g2 g3 g4 k0 k1_ k2_ k3 k4 hb9; have hq := hn; clear hn; obtain ⟨_, sa, sb, ⟨g0, g1, g2, g3, g4⟩, k0, k1_, k2_, k3, k4⟩ := id hq)
      | (go_at_call 13; refine (rattr_any A1 _ wc.heap.size _ (LA.out.below hq.1).a s V BB HV).mono ?_; rintro e w7 ⟨rfl, hw7⟩; have hw6 := hw7.symm; subst hw6; clear hw7))
    have hS0 : Below wc.heap.size wc w9.drew ∧ (∀ i, w9.drew.cell? ⟨w.heap.size, i, none⟩ = (#[.int .i64 K1, .string N1, .string X1, .slice p1 p2 p3, .slice q1 l1 q2] : Array Value)[i]?) ∧ (∀ i, w9.drew.cell? ⟨w.heap.size + 1, i, none⟩ = (#[.int .i64 K2, .string N2, .string X2, .slice p4 p5 p6, .slice q3 l2 q4] : Array Value)[i]?) ∧ (w9.drew.cell? ⟨Y, 0, none⟩ = some (.int .i64 K1) ∧ w9.drew.cell? ⟨Y, 1, none⟩ = some (.string N1) ∧ w9.drew.cell? ⟨Y, 2, none⟩ = some (.string X1) ∧ w9.drew.cell? ⟨Y, 3, none⟩ = some (.slice x1 x2 x3) ∧ w9.drew.cell? ⟨Y, 4, none⟩ = some (.slice x4 l1 x5)) ∧ (w9.drew.cell? ⟨Z, 0, none⟩ = some (.int .i64 K2) ∧ w9.drew.cell? ⟨Z, 1, none⟩ = some (.string N2) ∧ w9.drew.cell? ⟨Z, 2, none⟩ = some (.string X2) ∧ w9.drew.cell? ⟨Z, 3, none⟩ = some (.slice y1 y2 y3) ∧ w9.drew.cell? ⟨Z, 4, none⟩ = some (.slice y4 l2 y5)) := ⟨hq.1.drew, hq.2⟩
    clear sa sb g0 g1 g2 g3 g4 k0 k1_ k2_ k3 k4
    dsimp only [List.append]
    go_region_held3 (fun w' => Below wc.heap.size wc w' ∧ (∀ i, w'.cell? ⟨w.heap.size, i, none⟩ = (#[.int .i64 K1, .string N1, .string X1, .slice p1 p2 p3, .slice q1 l1 q2] : Array Value)[i]?) ∧ (∀ i, w'.cell? ⟨w.heap.size + 1, i, none⟩ = (#[.int .i64 K2, .string N2, .string X2, .slice p4 p5 p6, .slice q3 l2 q4] : Array Value)[i]?) ∧ (w'.cell? ⟨Y, 0, none⟩ = some (.int .i64 K1) ∧ w'.cell? ⟨Y, 1, none⟩ = some (.string N1) ∧ w'.cell? ⟨Y, 2, none⟩ = some (.string X1) ∧ w'.cell? ⟨Y, 3, none⟩ = some (.slice x1 x2 x3) ∧ w'.cell? ⟨Y, 4, none⟩ = some (.slice x4 l1 x5)) ∧ (w'.cell? ⟨Z, 0, none⟩ = some (.int .i64 K2) ∧ w'.cell? ⟨Z, 1, none⟩ = some (.string N2) ∧ w'.cell? ⟨Z, 2, none⟩ = some (.string X2) ∧ w'.cell? ⟨Z, 3, none⟩ = some (.slice y1 y2 y3) ∧ w'.cell? ⟨Z, 4, none⟩ = some (.slice y4 l2 y5)))
      (first | with_reducible exact hS0 | with_reducible exact q_keep hs4 hb9 (by assumption) | assumption)
      (first | (go_at_call 14; refine (check_q LX.out C HC hd1 (by assumption)).mono ?_; rintro e w9 ⟨rfl, hb9⟩) | (go_at_call 15; refine (rcheck_q LA.out C HC hs1 hd1' (by assumption)).mono ?_; rintro e w9 ⟨rfl, hb9⟩) | (go_at_call 16; refine (name_at s E HE _).mono ?_; rintro e w7 ⟨rfl, hw7⟩; have hw6 := hw7.symm; subst hw6; clear hw7) | (go_at_call 17; refine (rname_at s E HE _).mono ?_; rintro e w7 ⟨rfl, hw7⟩; have hw6 := hw7.symm; subst hw6; clear hw7) | (go_at_call 18; refine (size_q LX.out z1 HZ hd1 hs1 (by assumption)).mono ?_; rintro e w9 ⟨rfl, hb9⟩) | (go_at_call 19; refine (rsize_q LA.out z1 HZ hs1 (by assumption)).mono ?_; rintro e w9 ⟨rfl, hb9⟩) | (go_at_call 20; refine (depth_q LX.out z2 HD2 hd1 (by assumption)).mono ?_; rintro e w9 ⟨rfl, hb9⟩) | (go_at_call 21; refine (rdepth_q LA.out z2 HD2 hd1' (by assumption)).mono ?_; rintro e w9 ⟨rfl, hb9⟩) | (go_at_call 22; refine (slots_q LX.out z3 HD3 hd1 hsl1 (by assumption)).mono ?_; rintro e w9 ⟨rfl, hb9⟩) | (go_at_call 23; refine (rslots_q LA.out z3 HD3 hsl1 (by assumption)).mono ?_; rintro e w9 ⟨rfl, hb9⟩) | (go_at_call 24; refine (same_q LX.out LY.out F HF hd1 (by assumption)).mono ?_; rintro e w9 ⟨rfl, hb9⟩) | (go_at_call 26; refine (compare_q LX.out LY.out G HG hd1 (by assumption)).mono ?_; rintro e w9 ⟨rfl, hb9⟩) | (go_at_call 27; refine (rcompare_q LA.out LB.out G HG (by assumption)).mono ?_; rintro e w9 ⟨rfl, hb9⟩) | (go_at_call 25; have _t := t1; refine (rsame_q LA.out LB.out F HF (by assumption)).mono ?_; rintro e w9 ⟨rfl, hb9⟩; clear t1 _t) | (go_at_call 25; refine (rsame_q LX.out LA.out true HSS (by assumption)).mono ?_; rintro e w9 ⟨rfl, hb9⟩) | (go_at_call 10; refine (awake_true _).mono ?_; rintro e w9 ⟨rfl, hb9⟩))
    rename_i hHeld
    have HHELD := Fact.mk hHeld.1
    clear hHeld
    go_wp2_with fail
    go_ret
    exact ⟨rfl, HBC.out.trans (HHELD.out.mono HBC.out.size)⟩
end Go.Proofs.Ytblgjmohcdioeaa
