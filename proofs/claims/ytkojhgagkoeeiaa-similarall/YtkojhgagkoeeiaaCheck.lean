/- What Check answers: whether a tree may be. -/
import Derived.Test.YtkojhgagkoeeiaaMayBe
import Derived.Test.YtkojhgagkoeeiaaSizes
set_option linter.unusedVariables false
namespace Go.Proofs.Ytkojhgagkoeeiaa
open Go.Deep (BT)
open Go.RowKit Go.Shelf M
attribute [local go_sem] Oper.semAt_some

/-- a node at its depth -/
def fits (x : At) : Bool := decide (x.i ≤ 60) && mayOK x.d x.k.len x.i
def allFit (l : List At) : Bool := l.all fits
def treeOK (d : Nd) (k : F) : Bool := decide (d.k = 1) && (decide (k.size + 1 ≤ 300) && allFit (pre 1 (.cons d k .nil)))
theorem allFit_snoc (l : List At) (x : At) : allFit (l ++ [x]) = (allFit l && fits x) := by simp [allFit]
theorem allFit_part {l m : List At} (h : l <+: m) (hl : allFit l = false) : allFit m = false := by
  obtain ⟨t, rfl⟩ := h
  unfold allFit at hl ⊢
  rw [List.all_append, hl]; rfl

theorem mayBe_at (d : Nd) (k : M.F) (i : Nat) (av kv : Value) (r : Bool) (hr : Fact (mayOK d k.len i = r)) (w : World) (n : Nat) (ha : AS (Old n) w av d.ats) (hf : FL (Old n) w kv k) (hn : n ≤ w.heap.size) :
    Calls Try.prog 48 #[nodeV d av kv, .int .i64 i] w fun e w' => e = .returned (.bool r) ∧ Below w.heap.size w w' := by
  rw [← hr.out]
  exact mayBe_any d k i av kv w (ha.mono (fun b (hb : b < n) => (by show b < w.heap.size; omega))) (hf.mono (fun b (hb : b < n) => (by show b < w.heap.size; omega)))

set_option maxRecDepth 100000 in
set_option maxHeartbeats 4000000 in
theorem check_any (d : Nd) (k : M.F) (av kv : Value) (w : World)
    (ha : AS (Old w.heap.size) w av d.ats) (hf : FL (Old w.heap.size) w kv k) (hk : k.depth + 2 ≤ 1000000) :
    Calls Try.prog 28 #[nodeV d av kv] w fun e w' => e = .returned (.bool (treeOK d k)) ∧ Below w.heap.size w w' := by
  refine (callsIn_wide (n := 6)).1 ?_
  obtain ⟨a1, b1, c1, eav⟩ := ha.val
  obtain ⟨ka, kc, ekv⟩ := hf.val
  obtain ⟨K, N, X, A⟩ := d
  have ha' := ha
  have hf' := hf
  subst eav ekv
  have HA : Aside (AS (Old w.heap.size) w (.slice a1 b1 c1) A) := ha'
  have HF : Aside (FL (Old w.heap.size) w (.slice ka k.len kc) k) := hf'
  clear ha' hf' ha hf
  by_cases hroot : ¬ K = 1
  · have hb : (K != 1) = true := bne_iff_ne.2 hroot
    refine callsIn_of_wp_marks Try.func28 rfl trivial ?_ rfl
    simp only [Try.ntmps28, List.size_toArray, List.length_cons, List.length_nil, Nat.reduceAdd, Nat.reduceSub, Array.replicate_succ, Array.replicate_zero, List.push_toArray, List.append_toArray, List.nil_append, List.cons_append]
    have hm : Fact (treeOK ⟨K, N, X, A⟩ k = false) := ⟨by unfold treeOK; rw [decide_eq_false hroot]; rfl⟩
    gi_wp2
    have hc2 := World.cell?_alloc_new (w.alloc (.cells #[.int .i64 K, .string N, .string X, .slice a1 b1 c1, .slice ka k.len kc] 25)) #[.bool false] 4 0
    rw [World.size_alloc] at hc2
    refine ⟨.bool false, ?_, by rw [hm.out], ((Below.refl _ w).alloc (Nat.le_refl _) _).alloc (by simp) _⟩
    simp [results, Try.f28, go_sem, hc2]
  obtain rfl : K = 1 := Decidable.not_not.1 hroot
  clear hroot
  refine callsIn_of_wp_marks Try.func28 rfl trivial ?_ rfl
  simp only [Try.ntmps28, List.size_toArray, List.length_cons, List.length_nil, Nat.reduceAdd, Nat.reduceSub, Array.replicate_succ, Array.replicate_zero, List.push_toArray, List.append_toArray, List.nil_append, List.cons_append]
  gi_wp2_with (refine ⟨trivial, ?_⟩; gi_at_call 47; refine (nodes_in Fence.wide _ trivial rfl ⟨1, N, X, A⟩ _ _ _ ⟨_, _, _, rfl⟩ ⟨_, _, _, rfl⟩).mono ?_; rintro e w' ⟨rfl, rfl⟩)
  obtain ⟨W0, hW0⟩ : ∃ W0, (((w.alloc (.cells #[.int .i64 1, .string N, .string X, .slice a1 b1 c1, .slice ka k.len kc] 25)).alloc (.cells #[.bool false] 4)).alloc (.cells #[.int .i64 0] 3)).alloc (.cells #[.int .i64 1, .string N, .string X, .slice a1 b1 c1, .slice ka k.len kc] 25) = W0 := ⟨_, rfl⟩
  have hz : W0.heap.size = w.heap.size + 4 := by rw [← hW0]; simp
  have hB0 : Below w.heap.size w W0 := by rw [← hW0]; exact ((((Below.refl _ w).alloc (Nat.le_refl _) _).alloc (by simp) _).alloc (by simp; omega) _).alloc (by simp; omega) _
  have hcs : W0.cell? ⟨w.heap.size + 1 + 1, 0, none⟩ = some (.int .i64 0) ∧ W0.frozen? ⟨w.heap.size + 1 + 1, 0, none⟩ = false := by
    have h := box_new ((w.alloc (.cells #[.int .i64 1, .string N, .string X, .slice a1 b1 c1, .slice ka k.len kc] 25)).alloc (.cells #[.bool false] 4)) #[.int .i64 0] 3 (.cells #[.int .i64 1, .string N, .string X, .slice a1 b1 c1, .slice ka k.len kc] 25)
    rw [hW0, World.size_alloc, World.size_alloc] at h
    exact ⟨h.1 0 _ rfl, h.2⟩
  have hcr : W0.cell? ⟨w.heap.size + 1, 0, none⟩ = some (.bool false) ∧ W0.frozen? ⟨w.heap.size + 1, 0, none⟩ = false := by
    have h := box_new (w.alloc (.cells #[.int .i64 1, .string N, .string X, .slice a1 b1 c1, .slice ka k.len kc] 25)) #[.bool false] 4 (.cells #[.int .i64 0] 3)
    rw [World.size_alloc] at h
    have hb : Below (w.heap.size + 2) (((w.alloc (.cells #[.int .i64 1, .string N, .string X, .slice a1 b1 c1, .slice ka k.len kc] 25)).alloc (.cells #[.bool false] 4)).alloc (.cells #[.int .i64 0] 3)) W0 := by rw [← hW0]; exact (Below.refl _ _).alloc (by simp) _
    exact ⟨(hb.cell (p := ⟨w.heap.size + 1, 0, none⟩) (by show w.heap.size + 1 < _; omega)).trans (h.1 0 _ rfl), (hb.frozen (p := ⟨w.heap.size + 1, 0, none⟩) (by show w.heap.size + 1 < _; omega)).trans h.2⟩
  have hct : ∀ i v, (#[.int .i64 1, .string N, .string X, .slice a1 b1 c1, .slice ka k.len kc] : Array Value)[i]? = some v → W0.cell? ⟨w.heap.size + 1 + 1 + 1, i, none⟩ = some v := by
    intro i v hv
    have h := World.cell?_alloc_new (((w.alloc (.cells #[.int .i64 1, .string N, .string X, .slice a1 b1 c1, .slice ka k.len kc] 25)).alloc (.cells #[.bool false] 4)).alloc (.cells #[.int .i64 0] 3)) #[.int .i64 1, .string N, .string X, .slice a1 b1 c1, .slice ka k.len kc] 25 i
    rw [hW0, World.size_alloc, World.size_alloc, World.size_alloc] at h
    exact h.trans hv
  rw [hW0]
  obtain ⟨xs, hxs, his, hgv⟩ := iter_gives Fence.wide (6 - 1) trivial rfl (by omega) w.heap.size (w.heap.size + 1 + 1 + 1) ⟨1, N, X, A⟩ k (.slice a1 b1 c1) ka kc W0 hk hB0.size (by omega)
    ⟨hct 0 _ rfl, hct 1 _ rfl, hct 2 _ rfl, hct 3 _ rfl, hct 4 _ rfl⟩ (AS.like (like_below hB0) HA.out) (FL.like (like_below hB0) HF.out)
  have hlen : xs.length = k.size + 1 := by
    have := congrArg List.length hxs
    rw [List.length_map, pre_length] at this
    rw [this]; simp [BT.size]; omega
  have hOK : treeOK ⟨1, N, X, A⟩ k = (decide (xs.length ≤ 300) && allFit (xs.map (·.1))) := by rw [hxs, hlen]; rfl
  have HOK := Fact.mk hOK
  clear hOK
  refine wpIn_range rfl (by omega) (gf := 58) (lb := #[.pointer (some ⟨w.heap.size + 1 + 1 + 1, 0, none⟩)]) rfl trivial (enters_of Try.func58 (by kernel_rfl) rfl) hgv hB0.size (Below.refl _ _) (fun _ => rfl)
    (fun pre W => ((W.cell? ⟨w.heap.size + 1 + 1, 0, none⟩ = some (.int .i64 pre.length) ∧ W.frozen? ⟨w.heap.size + 1 + 1, 0, none⟩ = false) ∧ (W.cell? ⟨w.heap.size + 1, 0, none⟩ = some (.bool false) ∧ W.frozen? ⟨w.heap.size + 1, 0, none⟩ = false)) ∧ Below w.heap.size w W ∧ Fact (pre.length ≤ 300 ∧ allFit (pre.map (·.1)) = true))
    (fun c pre W => c = .ret ∧ W.cell? ⟨w.heap.size + 1, 0, none⟩ = some (.bool false) ∧ Below w.heap.size w W ∧ Fact (treeOK ⟨1, N, X, A⟩ k = false))
    (fun s A B hs hb => ⟨⟨⟨(hb.cell (p := ⟨w.heap.size + 1 + 1, 0, none⟩) (by show w.heap.size + 1 + 1 < _; omega)).trans hs.1.1.1, (hb.frozen (p := ⟨w.heap.size + 1 + 1, 0, none⟩) (by show w.heap.size + 1 + 1 < _; omega)).trans hs.1.1.2⟩, (hb.cell (p := ⟨w.heap.size + 1, 0, none⟩) (by show w.heap.size + 1 < _; omega)).trans hs.1.2.1, (hb.frozen (p := ⟨w.heap.size + 1, 0, none⟩) (by show w.heap.size + 1 < _; omega)).trans hs.1.2.2⟩, hs.2.1.trans (hb.mono hB0.size), hs.2.2⟩)
    (fun c s A B hs hb => ⟨hs.1, (hb.cell (p := ⟨w.heap.size + 1, 0, none⟩) (by show w.heap.size + 1 < _; omega)).trans hs.2.1, hs.2.2.1.trans (hb.mono hB0.size), hs.2.2.2⟩)
    ⟨⟨hcs, hcr⟩, hB0, ⟨by simp, rfl⟩⟩
    (fun x a' W => ∃ Bx, w.heap.size + 5 < Bx ∧ (W.cell? ⟨Bx, 0, none⟩ = some (.int .i64 x.1.d.k) ∧ W.cell? ⟨Bx, 1, none⟩ = some (.string x.1.d.n) ∧ W.cell? ⟨Bx, 2, none⟩ = some (.string x.1.d.x) ∧ W.cell? ⟨Bx, 3, none⟩ = some x.2.1 ∧ W.cell? ⟨Bx, 4, none⟩ = some x.2.2) ∧ a' = { tmps := #[nodeV ⟨1, N, X, A⟩ (.slice a1 b1 c1) (.slice ka k.len kc), .pointer (some ⟨w.heap.size, 0, none⟩), .pointer (some ⟨w.heap.size + 1, 0, none⟩), .pointer (some ⟨w.heap.size + 1 + 1, 0, none⟩), .int .i64 x.1.i, .pointer (some ⟨Bx, 0, none⟩), .pointer (some ⟨w.heap.size, 0, none⟩), .int .i64 1, .bool false, .agg #[.int .i64 1, .string N, .string X, .slice a1 b1 c1, .slice ka k.len kc], .func (.func 58) #[] #[.pointer (some ⟨w.heap.size + 1 + 1 + 1, 0, none⟩)], .int .i64 x.1.i, nodeV x.1.d x.2.1 x.2.2, undef, undef, undef, undef, undef, undef, undef, undef, undef, undef, undef, undef, undef, undef], defers := [] })
    (fun x a' W o h hl => by
      obtain ⟨Bx, h1, ⟨h2, h3, h4, h5, h6⟩, h7⟩ := h
      have hcb : ∀ i, (W.putObj (W0.heap.size + 1) o).cell? ⟨Bx, i, none⟩ = W.cell? ⟨Bx, i, none⟩ := fun i => World.cell?_of_block (w := W) (a := ⟨Bx, i, none⟩) (World.putObj_heap_other (by show Bx ≠ _; omega))
      exact ⟨Bx, h1, ⟨(hcb 0).trans h2, (hcb 1).trans h3, (hcb 2).trans h4, (hcb 3).trans h5, (hcb 4).trans h6⟩, h7⟩) ?assign ?body ?done ?stop
  case assign =>
    rintro l pre ⟨⟨xi, xd, xk⟩, xav, xkv⟩ W K hi hp hlt hK
    have hx := his _ (hp.subset (List.mem_append.2 (.inr (List.mem_singleton.2 rfl))))
    obtain ⟨xa1, xb1, xc1, eav⟩ := hx.at_.val
    obtain ⟨xka, xkc, ekv⟩ := hx.kids.val
    dsimp only at eav ekv
    subst eav ekv
    simp only [encs]
    rw [fold2]
    clear hx
    gi_wp2
    exact hK _ _ ((Below.refl _ _).alloc (Nat.le_refl _) _) ⟨W.heap.size, by omega, ⟨World.cell?_alloc_new W _ _ 0, World.cell?_alloc_new W _ _ 1, World.cell?_alloc_new W _ _ 2, World.cell?_alloc_new W _ _ 3, World.cell?_alloc_new W _ _ 4⟩, rfl⟩
  case body =>
    rintro l pre ⟨⟨xi, xd, xk⟩, xav, xkv⟩ a' W ⟨⟨⟨hc, hf⟩, hr, hfr⟩, hB, hft⟩ ⟨Bx, hBx, ⟨g0, g1, g2, g3, g4⟩, rfl⟩ hp hlt
    obtain ⟨p, hpl⟩ : ∃ p, pre.length = p := ⟨_, rfl⟩
    have hx := his _ (hp.subset (List.mem_append.2 (.inr (List.mem_singleton.2 rfl))))
    have hlk0 : Like (Old w.heap.size) W0 W := fun b hb _ => (hB.block b hb).trans (hB0.block b hb).symm
    have hxa := hx.at_.like hlk0
    have hxk := hx.kids.like hlk0
    dsimp only at g0 g1 g2 g3 g4 hxa hxk
    rw [hpl] at hc hft
    obtain ⟨hft1, hft2⟩ := hft.out
    obtain ⟨W1, hW1⟩ : ∃ W1, W.setCell ⟨w.heap.size + 1 + 1, 0, none⟩ (.int .i64 (p + 1)) = W1 := ⟨_, rfl⟩
    have hz1 : W1.heap.size = W.heap.size := by rw [← hW1]; simp [World.setCell]
    have hk1 : Keep w.heap.size W0.heap.size W W1 := by rw [← hW1]; exact (Keep.refl _ _ _).setCell (p := ⟨w.heap.size + 1 + 1, 0, none⟩) (by show _ ≤ w.heap.size + 1 + 1; omega) (by show w.heap.size + 1 + 1 < _; omega) _
    have hoth : ∀ b, b ≠ w.heap.size + 1 + 1 → W1.heap[b]? = W.heap[b]? := fun b hb => by rw [← hW1]; exact Below.heap_setCell _ _ _ _ (by show b ≠ w.heap.size + 1 + 1; exact hb)
    have hc1 : W1.cell? ⟨w.heap.size + 1 + 1, 0, none⟩ = some (.int .i64 (p + 1)) := by rw [← hW1]; exact World.cell?_setCell_same' _ _ _ (by rw [hc]; rfl)
    have hf1 : W1.frozen? ⟨w.heap.size + 1 + 1, 0, none⟩ = false := by rw [← hW1, World.frozen?_setCell]; exact hf
    have hr1 : W1.cell? ⟨w.heap.size + 1, 0, none⟩ = some (.bool false) := (World.cell?_of_block (w := W) (a := ⟨w.heap.size + 1, 0, none⟩) (hoth _ (by show w.heap.size + 1 ≠ _; omega))).trans hr
    have hfr1 : W1.frozen? ⟨w.heap.size + 1, 0, none⟩ = false := (World.frozen?_of_block (w := W) (a := ⟨w.heap.size + 1, 0, none⟩) (hoth _ (by show w.heap.size + 1 ≠ _; omega))).trans hfr
    have hg : ∀ i, W1.cell? ⟨Bx, i, none⟩ = W.cell? ⟨Bx, i, none⟩ := fun i => World.cell?_of_block (w := W) (a := ⟨Bx, i, none⟩) (hoth _ (by show Bx ≠ _; omega))
    have k0 := (hg 0).trans g0
    have k1 := (hg 1).trans g1
    have k2 := (hg 2).trans g2
    have k3 := (hg 3).trans g3
    have k4 := (hg 4).trans g4
    have hB1 : Below w.heap.size w W1 := hB.trans (hk1.below hB.size)
    have hxa1 := hxa.like (like_below (hk1.below hB.size))
    have hxk1 := hxk.like (like_below (hk1.below hB.size))
    obtain ⟨xa1, xc1, eav, _⟩ := id hxa
    obtain ⟨xka, xkc, ekv, _⟩ := id hxk
    subst eav ekv
    have hap : allFit ((pre ++ [((⟨xi, xd, xk⟩ : At), Value.slice xa1 xd.ats.length xc1, Value.slice xka xk.len xkc)]).map (·.1)) = fits ⟨xi, xd, xk⟩ := by
      rw [List.map_append, show List.map (fun x : Ev => x.1) [((⟨xi, xd, xk⟩ : At), Value.slice xa1 xd.ats.length xc1, Value.slice xka xk.len xkc)] = [⟨xi, xd, xk⟩] from rfl, allFit_snoc, hft2]; rfl
    have hbad : fits ⟨xi, xd, xk⟩ = false → Fact (treeOK ⟨1, N, X, A⟩ k = false) := fun h => ⟨by
      rw [HOK.out, allFit_part (List.IsPrefix.map (·.1) hp) (hap.trans h), Bool.and_false]⟩
    have hret : ∀ W3, Below W1.heap.size W1 W3 → Fact (treeOK ⟨1, N, X, A⟩ k = false) → Keep w.heap.size W0.heap.size W (W3.setCell ⟨w.heap.size + 1, 0, none⟩ (.bool false)) ∧ ((W3.setCell ⟨w.heap.size + 1, 0, none⟩ (.bool false)).cell? ⟨w.heap.size + 1, 0, none⟩ = some (.bool false) ∧ Below w.heap.size w (W3.setCell ⟨w.heap.size + 1, 0, none⟩ (.bool false)) ∧ Fact (treeOK ⟨1, N, X, A⟩ k = false)) := fun W3 h3 hb =>
      ⟨(hk1.trans (Keep.of_below h3)).setCell (p := ⟨w.heap.size + 1, 0, none⟩) (by show _ ≤ w.heap.size + 1; omega) (by show w.heap.size + 1 < _; omega) _,
        World.cell?_setCell_same' _ _ _ (by rw [h3.cell (p := ⟨w.heap.size + 1, 0, none⟩) (by show w.heap.size + 1 < _; omega), hr1]; rfl),
        (hB1.trans (h3.mono (Nat.le_trans hB.size (by omega)))).setCell (p := ⟨w.heap.size + 1, 0, none⟩) (by show _ ≤ w.heap.size + 1; omega) _, hb⟩
    have HRET := Fact.mk hret
    have HBAD := Fact.mk hbad
    have HAP := Fact.mk hap
    have HXA := Fact.mk hxa1
    have HXK := Fact.mk hxk1
    have HK1 := Fact.mk hk1
    have HFT := Fact.mk hft2
    have HP := Fact.mk hp
    have HPL := Fact.mk hpl
    rw [← hpl] at hft1
    rw [hpl] at hft1
    clear hret hbad hap hxa1 hxk1 hxa hxk hx hft hft2 hp hpl g0 g1 g2 g3 g4 hg hoth hlk0 his
    by_cases hbig : 300 < p + 1
    · have HT : Fact (treeOK ⟨1, N, X, A⟩ k = false) := ⟨by
        have := HP.out.length_le
        rw [List.length_append, HPL.out] at this
        rw [HOK.out, decide_eq_false (by simp at this; omega), Bool.false_and]⟩
      gi_wp2
      refine ⟨trivial, ?_⟩
      gi_wp2
      exact ⟨(HRET.out _ (Below.refl _ _) HT).1, rfl, (HRET.out _ (Below.refl _ _) HT).2⟩
    by_cases hdp : 60 < xi
    · have HT := HBAD.out (by unfold fits; rw [decide_eq_false (by show ¬ xi ≤ 60; omega), Bool.false_and])
      gi_wp2
      refine ⟨trivial, ?_⟩
      gi_wp2
      exact ⟨(HRET.out _ (Below.refl _ _) HT).1, rfl, (HRET.out _ (Below.refl _ _) HT).2⟩
    have hfm : fits ⟨xi, xd, xk⟩ = mayOK xd xk.len xi := by unfold fits; rw [decide_eq_true (by show xi ≤ 60; omega), Bool.true_and]
    cases hmy : mayOK xd xk.len xi
    · have HT := HBAD.out (hfm.trans hmy)
      have HM : Fact (mayOK xd xk.len xi = false) := ⟨hmy⟩
      clear hmy hfm
      gi_wp2_with (refine ⟨trivial, ?_⟩; gi_at_call 48; refine (CallsIn.inRound l (callsIn_wide.2 (mayBe_at xd xk xi _ _ false HM _ w.heap.size HXA.out HXK.out (by omega)))).mono ?_; rintro e w2 ⟨rfl, hb2⟩; have hr2 := (hb2.cell (p := ⟨w.heap.size + 1, 0, none⟩) (by show w.heap.size + 1 < _; omega)).trans hr1; have hfr2 := (hb2.frozen (p := ⟨w.heap.size + 1, 0, none⟩) (by show w.heap.size + 1 < _; omega)).trans hfr1)
      exact ⟨(HRET.out _ hb2 HT).1, rfl, (HRET.out _ hb2 HT).2⟩
    · have HM : Fact (mayOK xd xk.len xi = true) := ⟨hmy⟩
      have HFM := Fact.mk (hfm.trans hmy)
      clear hmy hfm
      gi_wp2_with (refine ⟨trivial, ?_⟩; gi_at_call 48; refine (CallsIn.inRound l (callsIn_wide.2 (mayBe_at xd xk xi _ _ true HM _ w.heap.size HXA.out HXK.out (by omega)))).mono ?_; rintro e w2 ⟨rfl, hb2⟩)
      refine ⟨HK1.out.trans (Keep.of_below hb2), ⟨⟨?_, (hb2.frozen (p := ⟨w.heap.size + 1 + 1, 0, none⟩) (by show w.heap.size + 1 + 1 < _; omega)).trans hf1⟩, (hb2.cell (p := ⟨w.heap.size + 1, 0, none⟩) (by show w.heap.size + 1 < _; omega)).trans hr1, (hb2.frozen (p := ⟨w.heap.size + 1, 0, none⟩) (by show w.heap.size + 1 < _; omega)).trans hfr1⟩, hB1.trans (hb2.mono (Nat.le_trans hB.size (by omega))), ⟨by rw [List.length_append, HPL.out]; simp; omega, by rw [HAP.out, HFM.out]⟩⟩
      rw [List.length_append, HPL.out]
      exact (hb2.cell (p := ⟨w.heap.size + 1 + 1, 0, none⟩) (by show w.heap.size + 1 + 1 < _; omega)).trans hc1
  case done =>
    rintro D W hD ⟨⟨_, hr, hfr⟩, hB, hft⟩ hK
    have HT : Fact (treeOK ⟨1, N, X, A⟩ k = true) := ⟨by rw [HOK.out, hft.out.2, decide_eq_true hft.out.1]; rfl⟩
    clear hft
    gi_wp2
    have hK' := (KeepsOthers.setCell W ⟨w.heap.size + 1, 0, none⟩ (.bool true)).same D _ hK rfl
    refine ⟨by simp, .inl ⟨_, _, rfl, run_takeDeferred hK', ?_⟩⟩
    have hc5 := cell_kept (World.cell?_setCell_same' W ⟨w.heap.size + 1, 0, none⟩ (.bool true) (by rw [hr]; rfl)) (grownBy_putObj' _ D (.deferred none)) (fun r e => by cases e; exact ⟨_, hK', rfl⟩)
    refine ⟨.bool true, ?_, by rw [HT.out], below_putObj (hB.setCell (p := ⟨w.heap.size + 1, 0, none⟩) (by show _ ≤ w.heap.size + 1; omega) _) (by omega) (by have := hB.size; simp [World.setCell]; omega) _⟩
    simp [results, Try.f28, go_sem, hc5]
  case stop =>
    rintro D c pre W hD hpre ⟨rfl, hr, hB, HT⟩ hK
    gi_wp2
    refine ⟨by simp, .inl ⟨_, _, rfl, run_takeDeferred hK, ?_⟩⟩
    have hc5 := cell_kept hr (grownBy_putObj' _ D (.deferred none)) (fun r e => by cases e; exact ⟨_, hK, rfl⟩)
    refine ⟨.bool false, ?_, by rw [HT.out], below_putObj hB (by omega) (by have := hB.size; omega) _⟩
    simp [results, Try.f28, go_sem, hc5]
end Go.Proofs.Ytkojhgagkoeeiaa
