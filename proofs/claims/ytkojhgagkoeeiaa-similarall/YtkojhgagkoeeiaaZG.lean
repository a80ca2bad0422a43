/- The chapter's own Alike. -/
import Derived.Test.YtkojhgagkoeeiaaZB
import Derived.Test.YtkojhgagkoeeiaaRefCmp
import Derived.Test.YtkojhgagkoeeiaaZD
section
set_option linter.unusedVariables false
set_option linter.unusedSimpArgs false
namespace Go.Proofs.Ytkojhgagkoeeiaa
open Go.Deep (BT)
open Go.RowKit Go.Shelf M

/-- both lists of nodes, the matching so far; n0: what is old -/
structure RA (w : World) (g1 c1 n1 g2 c2 n2 p ga ca gb cb : Nat) (news news' : List Rm) (M : Mt) (W : World) : Prop where
  below : Below w.heap.size w W
  r1 : W.ownsRow 0 49 15 (.slice (some ⟨g1, 0, none⟩) n1 c1) n1 (c15L news)
  r2 : W.ownsRow 0 49 15 (.slice (some ⟨g2, 0, none⟩) n2 c2) n2 (c15L news')
  a1 : AllR p W news
  a2 : AllR p W news'
  mm : MM W (p + 1) p n1 n2 (slV ga n1 ca) (slV gb n2 cb) M
  lt : g1 < p ∧ g2 < p ∧ w.heap.size ≤ p
theorem RA.step {w : World} {g1 c1 n1 g2 c2 n2 p ga ca gb cb : Nat} {news news' : List Rm} {M M' : Mt} {W W' : World} (h : RA w g1 c1 n1 g2 c2 n2 p ga ca gb cb news news' M W) (hk : Kept (fun g => g < p + 1) W W') (h2 : MM W' (p + 1) p n1 n2 (slV ga n1 ca) (slV gb n2 cb) M') : RA w g1 c1 n1 g2 c2 n2 p ga ca gb cb news news' M' W' := by
  have hl := h.lt
  have hs := h.below.size
  exact ⟨h.below.trans (hk.below hs (fun g hg => by omega)), own_block h.r1 (fun k e hb => hk.block k hb (by cases e; show g1 < p + 1; omega)), own_block h.r2 (fun k e hb => hk.block k hb (by cases e; show g2 < p + 1; omega)), h.a1.like (fun b hb hz => hk.block b hz (by have hb' : b < p := hb; show b < p + 1; omega)), h.a2.like (fun b hb hz => hk.block b hz (by have hb' : b < p := hb; show b < p + 1; omega)), h2, h.lt⟩
theorem RA.up {w : World} {g1 c1 n1 g2 c2 n2 p ga ca gb cb : Nat} {news news' : List Rm} {M : Mt} {W W' : World} (h : RA w g1 c1 n1 g2 c2 n2 p ga ca gb cb news news' M W) (hb : Below W.heap.size W W') : RA w g1 c1 n1 g2 c2 n2 p ga ca gb cb news news' M W' :=
  h.step (Kept.of_below' hb) (h.mm.below hb)
theorem AllR.mono19 {n m : Nat} {w : World} {l : List Rm} (h : AllR n w l) (hm : n ≤ m) : AllR m w l := fun r hr => ⟨(h r hr).1.mono (fun b (hb : b < n) => (by show b < m; omega)), (h r hr).2.mono (fun b (hb : b < n) => (by show b < m; omega))⟩
/-- what two lists of nodes are lists of -/
structure RT (news : List Rm) (d : Nd) (k : M.F) (n : Nat) : Prop where
  im : news.map (·.im) = flatT d k
  su : news.map (fun r => (r.im.d, r.k)) = subsT d k
  sz : k.size + 1 = n
theorem RT.get {news : List Rm} {d : Nd} {k : M.F} {n i : Nat} (h : RT news d k n) {y : Rm} (hy : news[i]? = some y) : (flatT d k)[i]? = some y.im ∧ (subsT d k)[i]? = some (y.im.d, y.k) := by
  rw [← h.im, ← h.su]
  simp [hy]
theorem RT.len {news : List Rm} {d : Nd} {k : M.F} {n : Nat} (h : RT news d k n) : news.length = n := by
  have := congrArg List.length h.im
  rw [List.length_map, flatT_len] at this
  rw [this]
  exact h.sz
theorem RA.cells {w : World} {B g n c : Nat} {news : List Rm} (h : w.ownsRow B 49 15 (.slice (some ⟨g, 0, none⟩) n c) n (c15L news)) {i : Nat} {y : Rm} (hy : news[i]? = some y) :
    w.cell? ⟨g, i * 15 + 1, none⟩ = some (.int .i64 y.im.z) ∧ w.cell? ⟨g, i * 15 + 3, none⟩ = some (.int .i64 y.im.h) ∧ w.cell? ⟨g, i * 15 + 10, none⟩ = some (.int .i64 y.im.d.k) ∧ w.cell? ⟨g, i * 15 + 11, none⟩ = some (.string y.im.d.n) ∧ w.cell? ⟨g, i * 15 + 12, none⟩ = some (.string y.im.d.x) ∧ w.cell? ⟨g, i * 15 + 13, none⟩ = some y.av ∧ w.cell? ⟨g, i * 15 + 14, none⟩ = some y.kv ∧ n ≤ c ∧ c ≤ maxLen ∧ i < n := by
  have h1 := row15_at h hy
  exact ⟨h1.1 1 _ rfl, h1.1 3 _ rfl, h1.1 10 _ rfl, h1.1 11 _ rfl, h1.1 12 _ rfl, h1.1 13 _ rfl, h1.1 14 _ rfl, h1.2.2.2.2.1, h1.2.2.2.2.2.1, h1.2.2.2.2.2.2⟩
theorem drew_up {W w' : World} (h : Below W.drew.heap.size W.drew w') : Below W.heap.size W w' := ⟨h.os, h.tape, h.output, h.size, h.block⟩
theorem find_range {p : Nat → Bool} {k m : Nat} (h : k < m) : (List.range' k (m - k)).find? p = if p k then some k else (List.range' (k + 1) (m - (k + 1))).find? p := by
  rw [show m - k = (m - (k + 1)) + 1 by omega, List.range'_succ, List.find?_cons]
  cases p k <;> rfl

set_option maxRecDepth 20000 in
set_option maxHeartbeats 8000000 in
theorem rAlike_any (d d' : Nd) (k k' : M.F) (va ka va' ka' : Value) (n n' : Nat) (least : Int) (w : World) (hks : k.size + 1 = n) (hks' : k'.size + 1 = n') (L : Lim d k) (L' : Lim d' k') (hl : Lies w.heap.size w d k va ka) (hl' : Lies w.heap.size w d' k' va' ka')
    (M' : Mt) (hM : Fact (alikeM d k d' k' least = M')) :
    Calls Try.prog 18 #[nodeV d va ka, nodeV d' va' ka', .int .i64 least] w fun e w' => ∃ p ga ca gb cb : Nat, e = .returned (.pointer (some ⟨p, 0, none⟩)) ∧ Below w.heap.size w w' ∧ Fact (MM w' (p + 1) p n n' (slV ga n ca) (slV gb n' cb) M') := by
  obtain ⟨p1, p2, p3, e1⟩ := hl.a.val
  obtain ⟨q1, q2, e2⟩ := hl.f.val
  obtain ⟨p1', p2', p3', e1'⟩ := hl'.a.val
  obtain ⟨q1', q2', e2'⟩ := hl'.f.val
  subst e1 e2 e1' e2'
  obtain ⟨kl, hkl⟩ : ∃ kl, k.len = kl := ⟨_, rfl⟩
  obtain ⟨kl', hkl'⟩ : ∃ kl, k'.len = kl := ⟨_, rfl⟩
  rw [hkl] at hl
  rw [hkl'] at hl'
  rw [hkl, hkl']
  clear hkl hkl'
  obtain ⟨K, N, X, A⟩ := d
  obtain ⟨K', N', X', A'⟩ := d'
  obtain ⟨W0, hW0⟩ : ∃ W0, (w.alloc (.cells #[.int .i64 K, .string N, .string X, .slice p1 p2 p3, .slice q1 kl q2] 25)).alloc (.cells #[.int .i64 K', .string N', .string X', .slice p1' p2' p3', .slice q1' kl' q2'] 25) = W0 := ⟨_, rfl⟩
  have hB0 : Below w.heap.size w W0 := by rw [← hW0]; exact ((Below.refl _ w).alloc (Nat.le_refl _) _).alloc (by simp) _
  have hz0 : W0.heap.size = w.heap.size + 2 := by rw [← hW0]; simp
  have hx1 : Box5 w.heap.size K N X (.slice p1 p2 p3) (.slice q1 kl q2) W0 := by
    rw [← hW0]; exact (Box5.new _ _ _ _ _ _ _).keep ((Below.refl _ _).alloc (Nat.le_refl _) _)
  have hx2 : Box5 (w.heap.size + 1) K' N' X' (.slice p1' p2' p3') (.slice q1' kl' q2') W0 := by
    have h := Box5.new (w.alloc (.cells #[.int .i64 K, .string N, .string X, .slice p1 p2 p3, .slice q1 kl q2] 25)) K' N' X' (.slice p1' p2' p3') (.slice q1' kl' q2') 25
    rw [hW0, World.size_alloc] at h
    exact h
  have HA : Fact (∀ W, Below W0.heap.size W0 W → Lies W.heap.size W ⟨K, N, X, A⟩ k (.slice p1 p2 p3) (.slice q1 kl q2)) := ⟨fun W hb => by
    have h := hB0.trans (hb.mono hB0.size)
    exact (hl.below h).here h.size⟩
  have HA' : Fact (∀ W, Below W0.heap.size W0 W → Lies W.heap.size W ⟨K', N', X', A'⟩ k' (.slice p1' p2' p3') (.slice q1' kl' q2')) := ⟨fun W hb => by
    have h := hB0.trans (hb.mono hB0.size)
    exact (hl'.below h).here h.size⟩
  have HN : Fact (∀ W, Below W0.heap.size W0 W → Calls Try.prog 22 #[.agg #[.int .i64 K, .string N, .string X, .slice p1 p2 p3, .slice q1 kl q2]] W fun e w' => ∃ g c news, e = .returned (.slice (some ⟨g, 0, none⟩) n c) ∧ Below W.heap.size W w' ∧ Fact (w'.ownsRow (W.heap.size + 1) 49 15 (.slice (some ⟨g, 0, none⟩) n c) n (c15L news)) ∧
      Fact (news.map (·.im) = flatT ⟨K, N, X, A⟩ k ∧ news.map (fun r => (r.im.d, r.k)) = subsT ⟨K, N, X, A⟩ k ∧ AllR W.heap.size w' news)) := ⟨fun W hb => by
    have h := HA.out W hb
    exact rFlat_any ⟨K, N, X, A⟩ k _ _ n W hks L h⟩
  have HN' : Fact (∀ W, Below W0.heap.size W0 W → Calls Try.prog 22 #[.agg #[.int .i64 K', .string N', .string X', .slice p1' p2' p3', .slice q1' kl' q2']] W fun e w' => ∃ g c news, e = .returned (.slice (some ⟨g, 0, none⟩) n' c) ∧ Below W.heap.size W w' ∧ Fact (w'.ownsRow (W.heap.size + 1) 49 15 (.slice (some ⟨g, 0, none⟩) n' c) n' (c15L news)) ∧
      Fact (news.map (·.im) = flatT ⟨K', N', X', A'⟩ k' ∧ news.map (fun r => (r.im.d, r.k)) = subsT ⟨K', N', X', A'⟩ k' ∧ AllR W.heap.size w' news)) := ⟨fun W hb => by
    have h := HA'.out W hb
    exact rFlat_any ⟨K', N', X', A'⟩ k' _ _ n' W hks' L' h⟩
  have HS : Fact (∀ W, Below W0.heap.size W0 W → Below W0.heap.size W0 W ∧ (W.cell? ⟨w.heap.size, 0, none⟩ = some (.int .i64 K) ∧ W.cell? ⟨w.heap.size, 1, none⟩ = some (.string N) ∧ W.cell? ⟨w.heap.size, 2, none⟩ = some (.string X) ∧ W.cell? ⟨w.heap.size, 3, none⟩ = some (.slice p1 p2 p3) ∧ W.cell? ⟨w.heap.size, 4, none⟩ = some (.slice q1 kl q2) ∧ W.cell? ⟨w.heap.size + 1, 0, none⟩ = some (.int .i64 K') ∧ W.cell? ⟨w.heap.size + 1, 1, none⟩ = some (.string N') ∧ W.cell? ⟨w.heap.size + 1, 2, none⟩ = some (.string X') ∧ W.cell? ⟨w.heap.size + 1, 3, none⟩ = some (.slice p1' p2' p3') ∧ W.cell? ⟨w.heap.size + 1, 4, none⟩ = some (.slice q1' kl' q2'))) := ⟨fun W hb => by
    have a1 := hx1.keep hb
    have a2 := hx2.keep hb
    exact ⟨hb, a1.c0, a1.c1, a1.c2, a1.c3, a1.c4, a2.c0, a2.c1, a2.c2, a2.c3, a2.c4⟩⟩
  have HW0 := Fact.mk hW0
  have HB0 := Fact.mk hB0
  have hlt : w.heap.size + 1 < W0.heap.size := by omega
  have hS0 := HS.out W0.drew (Below.refl _ _).drew
  have hn1 : n ≤ 1000000 := by rw [← hks]; exact L.sz
  have hn2 : n' ≤ 1000000 := by rw [← hks']; exact L'.sz
  clear hW0 hB0 hx1 hx2 hl hl'
  go_enter Try.func18, Try.ntmps18
  go_upto_region 1 with fail
  rw [HW0.out]
  go_region_held3 (fun W => Below W0.heap.size W0 W ∧ (W.cell? ⟨w.heap.size, 0, none⟩ = some (.int .i64 K) ∧ W.cell? ⟨w.heap.size, 1, none⟩ = some (.string N) ∧ W.cell? ⟨w.heap.size, 2, none⟩ = some (.string X) ∧ W.cell? ⟨w.heap.size, 3, none⟩ = some (.slice p1 p2 p3) ∧ W.cell? ⟨w.heap.size, 4, none⟩ = some (.slice q1 kl q2) ∧ W.cell? ⟨w.heap.size + 1, 0, none⟩ = some (.int .i64 K') ∧ W.cell? ⟨w.heap.size + 1, 1, none⟩ = some (.string N') ∧ W.cell? ⟨w.heap.size + 1, 2, none⟩ = some (.string X') ∧ W.cell? ⟨w.heap.size + 1, 3, none⟩ = some (.slice p1' p2' p3') ∧ W.cell? ⟨w.heap.size + 1, 4, none⟩ = some (.slice q1' kl' q2')))
    (first | with_reducible exact hS0 | with_reducible assumption)
    (first
      | (go_at_call 22; with_reducible refine (HN.out _ (And.left (by assumption))).mono ?_; rintro e w5 ⟨g1, c1, news, rfl, hb5, hr5, hf5⟩; have hS5 := keep10 hlt (by assumption) (hb5.mono (Below.size (And.left (by assumption)))))
      | (go_at_call 22; with_reducible refine (HN'.out _ (And.left (by assumption))).mono ?_; rintro e w6 ⟨g2, c2, news', rfl, hb6, hr6, hf6⟩; have hS6 := keep10 hlt (by assumption) (hb6.mono (Below.size (And.left (by assumption))))))
  have hn11 : 1 ≤ n := by omega
  have hn22 : 1 ≤ n' := by omega
  have hB6 := hS6.1
  have hB5 := hS5.1
  have HRT1 : Fact (RT news ⟨K, N, X, A⟩ k n) := ⟨⟨hf5.out.1, hf5.out.2.1, hks⟩⟩
  have HRT2 : Fact (RT news' ⟨K', N', X', A'⟩ k' n') := ⟨⟨hf6.out.1, hf6.out.2.1, hks'⟩⟩
  have HNEW := Fact.mk (rNew_any n n' w6 hn1 hn2)
  clear hS0 HN HN'
  go_upto_region 3 with (go_at_call 38; refine HNEW.out.mono ?_; rintro e w7 ⟨va, vb, rfl, hb7, hm7⟩)
  obtain ⟨ga, ca, rfl⟩ := ownsRow_pos hn11 hm7.out.ra
  obtain ⟨gb, cb, rfl⟩ := ownsRow_pos hn22 hm7.out.rb
  have HRA : Fact (RA W0 g1 c1 n g2 c2 n' w6.heap.size ga ca gb cb news news' (noneM n n') w7) := ⟨by
    have s5 := hb5.size
    have s6 := hb6.size
    have s5' : W0.heap.size ≤ w5.heap.size := hb5.size
    have l1 := (hr5.out.lt g1 rfl).2
    have l2 := (hr6.out.lt g2 rfl).2
    have b57 : Below w5.heap.size w5 w7 := hb6.trans (hb7.mono hb6.size)
    refine ⟨hB6.trans (hb7.mono hB6.size), own_zero (own_upH hr5.out b57), own_zero (own_upH hr6.out hb7), ?_, ?_, hm7.out, ⟨by omega, by omega, by omega⟩⟩
    · have h1 : AllR W0.heap.size w5 news := hf5.out.2.2
      exact (h1.like (like_below (b57.mono (by omega)))).mono19 (by omega)
    · exact (hf6.out.2.2.like (like_below (hb7.mono hb6.size))).mono19 hb6.size⟩
  clear hS5 hS6 hr5 hr6 hf5 hf6 hb5 hm7 HNEW hB5
  obtain ⟨_, b0, b1, b2, b3, b4, f0, f1, f2, f3, f4⟩ := HS.out w7 HRA.out.below
  obtain ⟨r, hr⟩ : ∃ r, decide (cT ⟨K, N, X, A⟩ k ⟨K', N', X', A'⟩ k' = 0) = r := ⟨_, rfl⟩
  have HSAME : Fact (Calls Try.prog 23 #[.agg #[.int .i64 K, .string N, .string X, .slice p1 p2 p3, .slice q1 kl q2], .agg #[.int .i64 K', .string N', .string X', .slice p1' p2' p3', .slice q1' kl' q2']] w7 fun e w' => e = .returned (.bool r) ∧ Below w7.heap.size w7 w') := ⟨rsame_at (n := w7.heap.size) (d := ⟨K, N, X, A⟩) (d' := ⟨K', N', X', A'⟩) (k := k) (k' := k') r ⟨hr⟩ (HA.out w7 HRA.out.below) (HA'.out w7 HRA.out.below) (Nat.le_refl _)⟩
  have HR := Fact.mk hr
  clear hr
  go_upto_if 24 with (go_at_call 23; refine HSAME.out.mono ?_; rintro e w8 ⟨rfl, hb8⟩)
  have HR8 := Fact.mk (HRA.out.up hb8)
  have hB8 : Below w.heap.size w w8 := HB0.out.trans (HR8.out.below.mono HB0.out.size)
  clear b0 b1 b2 b3 b4 f0 f1 f2 f3 f4 hb8 hb7 HRA HSAME
  obtain ⟨pp, hpp⟩ : ∃ p, w6.heap.size = p := ⟨_, rfl⟩
  rw [hpp] at HR8 ⊢
  have H0 : Fact (∀ (W : World) (v : Unit), Below W0.heap.size W0 W → Below w.heap.size w W) := ⟨fun W _ hb => HB0.out.trans (hb.mono HB0.out.size)⟩
  clear hpp hB6 hb6
  cases r with
  | true =>
    have hct := of_decide_eq_true HR.out
    obtain ⟨_, hsz, _⟩ := cT_same hct
    have hMM : joinM (noneM n n') 0 0 n = M' := by
      have h := hM.out
      unfold alikeM at h
      rw [if_pos hct, hks, hks'] at h
      exact h
    have HW : Fact (Calls Try.prog 39 #[.pointer (some ⟨pp, 0, none⟩), .int .i64 0, .int .i64 0, .int .i64 n] w8 fun e w' => (∃ v, e = .returned v) ∧ Kept (fun g => g < pp + 1) w8 w' ∧ MM w' (pp + 1) pp n n' (slV ga n ca) (slV gb n' cb) M') := ⟨by
      have h := rWhole_any w8 HR8.out.mm 0 0 n (by omega) (by omega) hn1 hn2
      rw [hMM] at h
      exact h⟩
    go_wp2_with (go_at_call 39; refine HW.out.mono ?_; rintro e w9 ⟨⟨v9, rfl⟩, hk9, hm9⟩)
    go_ret
    exact ⟨pp, ga, ca, gb, cb, rfl, H0.out w9 () (HR8.out.step hk9 hm9).below, ⟨hm9⟩⟩
  | false =>
    have hct := of_decide_eq_false HR.out
    obtain ⟨y0, hy0⟩ : ∃ y, news[0]? = some y := ⟨news[0]'(by have := HRT1.out.len; omega), by simp⟩
    obtain ⟨y0', hy0'⟩ : ∃ y, news'[0]? = some y := ⟨news'[0]'(by have := HRT2.out.len; omega), by simp⟩
    obtain ⟨dA, hdA⟩ : ∃ a, k.depth + 1 = a := ⟨_, rfl⟩
    obtain ⟨dB, hdB⟩ : ∃ a, k'.depth + 1 = a := ⟨_, rfl⟩
    have hh0 : y0.im.h = (dA : Int) := by
      have h := (HRT1.out.get hy0).1
      rw [flatT] at h
      simp at h
      rw [← h, ← hdA]; rfl
    have hh0' : y0'.im.h = (dB : Int) := by
      have h := (HRT2.out.get hy0').1
      rw [flatT] at h
      simp at h
      rw [← h, ← hdB]; rfl
    have q0 := (RA.cells HR8.out.r1 hy0).2.1
    have q0' := (RA.cells HR8.out.r2 hy0').2.1
    have t1 := (RA.cells HR8.out.r1 hy0).2.2.2.2.2.2.2
    have t2 := (RA.cells HR8.out.r2 hy0').2.2.2.2.2.2.2
    have t11 := t1.1
    have t12 := t1.2.1
    have t21 := t2.1
    have t22 := t2.2.1
    rw [hh0] at q0
    rw [hh0'] at q0'
    simp only [Nat.zero_mul, Nat.zero_add] at q0 q0'
    have hM2 : downM (flatT ⟨K, N, X, A⟩ k) (smT (subsT ⟨K, N, X, A⟩ k) (subsT ⟨K', N', X', A'⟩ k')) n n' (noneM n n') (min (dA : Int) (dB : Int)) (min (dA : Int) (dB : Int) - max least 1 + 1).toNat = M' := by
      have h := hM.out
      unfold alikeM at h
      rw [if_neg hct, hks, hks', hdA, hdB] at h
      exact h
    have HM2 := Fact.mk hM2
    have hdA6 : dA ≤ 1000000 := by have := L.dp; omega
    have hdB6 : dB ≤ 1000000 := by have := L'.dp; omega
    clear hM hM2 hct t1 t2 hy0 hy0' hh0 hh0'
    go_upto_region 6 with fail
    go_region
    have HR9 := Fact.mk (HR8.out.up (Below.refl _ w8).drew)
    obtain ⟨W9, hW9⟩ : ∃ W9, w8.drew = W9 := ⟨_, rfl⟩
    rw [hW9] at HR9
    try rw [hW9]
    clear HR8 hW9 q0 q0' hB8
    obtain ⟨mx, hmx⟩ : ∃ mx, max least 1 = mx := ⟨_, rfl⟩
    have hmx1 : 1 ≤ mx := by omega
    obtain ⟨h0, hh0⟩ : ∃ h, min (dA : Int) (dB : Int) = h := ⟨_, rfl⟩
    have hb0 : 0 ≤ h0 ∧ h0 ≤ 1000000 := by omega
    rw [hmx, hh0] at HM2
    rw [hh0]
    clear hh0
    go_wp2_with fail
    go_loopg [10] (h0 - mx + 1).toNat (fun gf hv wr => ∃ (h : Int) (Mi : Mt), hv = .int .i64 h ∧ (h - mx + 1).toNat ≤ gf ∧ (0 ≤ h ∧ h ≤ 1000000) ∧ Fact (RA W0 g1 c1 n g2 c2 n' pp ga ca gb cb news news' Mi wr) ∧ Fact (OKM n n' Mi) ∧ Fact (downM (flatT ⟨K, N, X, A⟩ k) (smT (subsT ⟨K, N, X, A⟩ k) (subsT ⟨K', N', X', A'⟩ k')) n n' Mi h (h - mx + 1).toNat = M'))
    case atStart => exact ⟨h0, _, rfl, Nat.le_refl _, hb0, HR9, ⟨OKM.start n n'⟩, HM2⟩
    case round =>
      obtain ⟨h, Mi, rfl, hgf, hbh, hJ, hO, hD⟩ := hrel
      by_cases hlt' : h < mx
      · have hd1 : decide (h ≥ mx) = false := decide_eq_false (by omega)
        have hd2 : decide (mx ≤ h) = false := decide_eq_false (by omega)
        have hRR : Fact (Mi = M') := ⟨by
          have hq := hD.out
          rw [show (h - mx + 1).toNat = 0 by omega] at hq
          exact hq⟩
        clear hD
        go_wp2_with fail
        go_ret
        exact ⟨pp, ga, ca, gb, cb, rfl, H0.out wr () hJ.out.below, ⟨by rw [← hRR.out]; exact hJ.out.mm⟩⟩
      · have hge : mx ≤ h := by omega
        have hd1 : decide (h ≥ mx) = true := decide_eq_true (by omega)
        have hd2 : decide (mx ≤ h) = true := decide_eq_true (by omega)
        obtain ⟨Mn, hMn⟩ : ∃ Mn, rndM (flatT ⟨K, N, X, A⟩ k) (smT (subsT ⟨K, N, X, A⟩ k) (subsT ⟨K', N', X', A'⟩ k')) n' h Mi 1 (n - 1) = Mn := ⟨_, rfl⟩
        have HNX : Fact (downM (flatT ⟨K, N, X, A⟩ k) (smT (subsT ⟨K, N, X, A⟩ k) (subsT ⟨K', N', X', A'⟩ k')) n n' Mn (h - 1) (h - 1 - mx + 1).toNat = M') := ⟨by
          have hq := hD.out
          rw [show (h - mx + 1).toNat = (h - 1 - mx + 1).toNat + 1 by omega, downM, hMn] at hq
          exact hq⟩
        have HON : Fact (OKM n n' Mn) := ⟨by rw [← hMn]; exact OKM.rnd _ _ _ _ _ hO.out _⟩
        obtain ⟨G1, rfl⟩ : ∃ g', gk = g' + 1 := ⟨gk - 1, by omega⟩
        have HMN := Fact.mk hMn
        clear hD hMn
        go_wp2_with fail
        go_loopg [11] n (fun gf iv wq => ∃ (i : Nat) (Mj : Mt), iv = .int .i64 i ∧ 1 ≤ i ∧ i ≤ n ∧ n - i ≤ gf ∧ Fact (RA W0 g1 c1 n g2 c2 n' pp ga ca gb cb news news' Mj wq) ∧ Fact (OKM n n' Mj) ∧ Fact (rndM (flatT ⟨K, N, X, A⟩ k) (smT (subsT ⟨K, N, X, A⟩ k) (subsT ⟨K', N', X', A'⟩ k')) n' h Mj i (n - i) = Mn))
        case atStart => exact ⟨1, Mi, rfl, Nat.le_refl _, hn11, by omega, hJ, hO, HMN⟩
        case round =>
          obtain ⟨i, Mj, rfl, hi1, hin, hgf2, hJ2, hO2, hE⟩ := hrel
          by_cases hjz : i = n
          · subst hjz
            have hdec : decide ((i : Int) < (i : Int)) = false := decide_eq_false (by omega)
            have hRR : Fact (Mj = Mn) := ⟨by have hq := hE.out; rw [Nat.sub_self] at hq; exact hq⟩
            have HJ3 : Fact (RA W0 g1 c1 i g2 c2 n' pp ga ca gb cb news news' Mn wr) := ⟨by rw [← hRR.out]; exact hJ2.out⟩
            clear hE hJ2
            go_wp2_with fail
            go_roundg G1
            case measure => omega
            case rel => exact ⟨h - 1, Mn, by go_num, by omega, by omega, HJ3, HON, HNX⟩
          · have hlt2 : i < n := by omega
            have hdec : decide ((i : Int) < (n : Int)) = true := decide_eq_true (by omega)
            obtain ⟨y, hy⟩ : ∃ y, news[i]? = some y := ⟨news[i]'(by have := HRT1.out.len; omega), by simp⟩
            have hyf := HRT1.out.get hy
            obtain ⟨u, hu⟩ : ∃ u, Mj.a[i]? = some u := ⟨Mj.a[i]'(by have := hO2.out.a; omega), by simp⟩
            have hu0 := hO2.out.ga u (List.mem_of_getElem? hu)
            obtain ⟨d1, _, _, d4, d5, d6, d7⟩ := rowV_at hJ2.out.mm.ra (cJ_get hu)
            have m0 := hJ2.out.mm.c0
            have m1 := hJ2.out.mm.c1
            obtain ⟨i1, i3, _, _, _, _, _, i8, i9, _⟩ := RA.cells hJ2.out.r1 hy
            have hstep : rndM (flatT ⟨K, N, X, A⟩ k) (smT (subsT ⟨K, N, X, A⟩ k) (subsT ⟨K', N', X', A'⟩ k')) n' h (stepM (flatT ⟨K, N, X, A⟩ k) (smT (subsT ⟨K, N, X, A⟩ k) (subsT ⟨K', N', X', A'⟩ k')) n' h Mj i) (i + 1) (n - (i + 1)) = Mn := by
              have hq := hE.out
              rw [show n - i = (n - (i + 1)) + 1 by omega] at hq
              exact hq
            have hst : stepM (flatT ⟨K, N, X, A⟩ k) (smT (subsT ⟨K, N, X, A⟩ k) (subsT ⟨K', N', X', A'⟩ k')) n' h Mj i = if y.im.h = h ∧ u = -1 then (match candM (smT (subsT ⟨K, N, X, A⟩ k) (subsT ⟨K', N', X', A'⟩ k')) n' Mj i with | none => Mj | some j => joinM Mj i j y.im.z.toNat) else Mj := by
              unfold stepM
              rw [hyf.1, hu]
              all_goals rfl
            obtain ⟨z, hz, hz1, hz2⟩ := flat_le hyf.1
            have hiz : i + z ≤ n := by omega
            obtain ⟨yh, hyh⟩ : ∃ h, y.im.h = h := ⟨_, rfl⟩
            rw [hyh] at i3 hst
            rw [hz] at i1
            have HYH := Fact.mk hyh
            have HST := Fact.mk hst
            have HSTEP := Fact.mk hstep
            have HY := Fact.mk hy
            have HYF := Fact.mk hyf
            have HZ := Fact.mk hz
            obtain ⟨G2, rfl⟩ : ∃ g', gk = g' + 1 := ⟨gk - 1, by omega⟩
            clear hst hstep hu hy hyf hz hyh hE hz2
            dsimp only [slV] at m0 m1
            by_cases hq : yh = h
            · subst hq
              have hbq : (yh != yh) = false := by simp
              by_cases hu1 : u = -1
              · subst hu1
                have hlc : candM (smT (subsT ⟨K, N, X, A⟩ k) (subsT ⟨K', N', X', A'⟩ k')) n' Mj i = (List.range' 1 (n' - 1)).find? fun j => decide (Mj.b[j]? = some (-1)) && (smT (subsT ⟨K, N, X, A⟩ k) (subsT ⟨K', N', X', A'⟩ k')) i j := rfl
                obtain ⟨P, hP⟩ : ∃ P : Nat → Bool, (fun j => decide (Mj.b[j]? = some (-1)) && (smT (subsT ⟨K, N, X, A⟩ k) (subsT ⟨K', N', X', A'⟩ k')) i j) = P := ⟨_, rfl⟩
                rw [hP] at hlc
                obtain ⟨cd, hcd⟩ : ∃ cd, candM (smT (subsT ⟨K, N, X, A⟩ k) (subsT ⟨K', N', X', A'⟩ k')) n' Mj i = cd := ⟨_, rfl⟩
                rw [hcd] at hlc
                have HP := Fact.mk hP
                have HCD := Fact.mk hcd
                have HF0 : Fact ((List.range' 1 (n' - 1)).find? P = cd) := ⟨hlc.symm⟩
                clear hP hcd hlc
                have hd0 : decide ((-1 : Int) ≥ 0) = false := rfl
                go_wp2_with fail
                clear d1 i3
                go_loopg [12] n' (fun gf qv wq => ∃ q : Nat, qv = .int .i64 q ∧ 1 ≤ q ∧ q ≤ n' ∧ n' - q ≤ gf ∧ Fact (RA W0 g1 c1 n g2 c2 n' pp ga ca gb cb news news' Mj wq) ∧ Fact ((List.range' q (n' - q)).find? P = cd))
                case atStart => exact ⟨1, rfl, Nat.le_refl _, hn22, by omega, hJ2, HF0⟩
                case round =>
                  obtain ⟨q, rfl, hq1, hqn, hgf3, hJ3, hF⟩ := hrel
                  have hJ4 := hJ3
                  by_cases hqz : q = n'
                  · subst hqz
                    have hdec3 : decide ((q : Int) < (q : Int)) = false := decide_eq_false (by omega)
                    have hcn : cd = none := by have hq := hF.out; rw [Nat.sub_self] at hq; exact hq.symm
                    subst hcn
                    have HR5 := Fact.mk (show rndM (flatT ⟨K, N, X, A⟩ k) (smT (subsT ⟨K, N, X, A⟩ k) (subsT ⟨K', N', X', A'⟩ k')) q yh Mj (i + 1) (n - (i + 1)) = Mn by have hq := HSTEP.out; rw [HST.out, if_pos (by simp), HCD.out] at hq; exact hq)
                    clear HST HSTEP hF HF0
                    go_wp2_with fail
                    go_roundg G2
                    case measure => omega
                    case rel => exact ⟨i + 1, Mj, by go_num, by omega, by omega, by omega, hJ3, hO2, HR5⟩
                  · have hlt3 : q < n' := by omega
                    have hdec3 : decide ((q : Int) < (n' : Int)) = true := decide_eq_true (by omega)
                    obtain ⟨x, hx⟩ : ∃ x, news'[q]? = some x := ⟨news'[q]'(by have := HRT2.out.len; omega), by simp⟩
                    have hxf := HRT2.out.get hx
                    obtain ⟨u, hu⟩ : ∃ u, Mj.b[q]? = some u := ⟨Mj.b[q]'(by have := hO2.out.b; omega), by simp⟩
                    have hu0 := hO2.out.gb u (List.mem_of_getElem? hu)
                    have hfr := hF.out
                    rw [find_range hlt3] at hfr
                    have hPq : P q = (decide (Mj.b[q]? = some (-1)) && (smT (subsT ⟨K, N, X, A⟩ k) (subsT ⟨K', N', X', A'⟩ k')) i q) := by rw [← HP.out]
                    rw [hu] at hPq
                    obtain ⟨fy, hfy, ey1, ey2⟩ := flatT_sub HYF.out.1
                    obtain ⟨fx, hfx, ex1, ex2⟩ := flatT_sub hxf.1
                    have hyk : fy = y.k := by have h1 := HYF.out.2; rw [h1] at hfy; cases hfy; rfl
                    have hxk : fx = x.k := by have h1 := hxf.2; rw [h1] at hfx; cases hfx; rfl
                    subst hyk hxk
                    have hsm : (smT (subsT ⟨K, N, X, A⟩ k) (subsT ⟨K', N', X', A'⟩ k')) i q = decide (cT y.im.d y.k x.im.d x.k = 0) := by unfold smT; rw [HYF.out.2, hxf.2]
                    rw [hsm] at hPq
                    have HFR := Fact.mk hfr
                    have HPQ := Fact.mk hPq
                    have HX := Fact.mk hx
                    have HXF := Fact.mk hxf
                    have hyh2 := HYH.out
                    have HEY : Fact (yh = ((y.k.depth + 1 : Nat) : Int) ∧ (z : Int) = ((y.k.size + 1 : Nat) : Int)) := ⟨⟨by rw [← hyh2]; exact ey2, by rw [← HZ.out]; exact ey1⟩⟩
                    have HEX : Fact (x.im.h = ((x.k.depth + 1 : Nat) : Int) ∧ x.im.z = ((x.k.size + 1 : Nat) : Int)) := ⟨⟨ex2, ex1⟩⟩
                    obtain ⟨_, j3, _, _, _, _, _, j8, j9, _⟩ := RA.cells hJ3.out.r2 hx
                    have m1' := hJ3.out.mm.c1
                    have m0' := hJ3.out.mm.c0
                    obtain ⟨v1, _, _, v4, v5, v6, v7⟩ := rowV_at hJ3.out.mm.rb (cJ_get hu)
                    obtain ⟨_, _, _, _, _, _, _, w8', w9', _⟩ := RA.cells hJ3.out.r1 HY.out
                    dsimp only [slV] at m0' m1'
                    obtain ⟨xh, hxh⟩ : ∃ h, x.im.h = h := ⟨_, rfl⟩
                    rw [hxh] at j3 HEX
                    obtain ⟨G3, rfl⟩ : ∃ g', gk = g' + 1 := ⟨gk - 1, by omega⟩
                    clear hfr hPq hsm hfy hfx ey1 ey2 ex1 ex2 hu hx hxf hyh2 hF hxh m0 m1
                    by_cases hqh : xh = yh
                    · subst hqh
                      have hbe : (xh == xh) = true := by simp
                      by_cases hu1 : u = -1
                      · subst hu1
                        have hd5 : decide ((-1 : Int) < 0) = true := rfl
                        obtain ⟨c, hc⟩ : ∃ c, decide (cT y.im.d y.k x.im.d x.k = 0) = c := ⟨_, rfl⟩
                        rw [hc] at HPQ
                        have HPQ2 : Fact (P q = c) := ⟨by rw [HPQ.out]; simp⟩
                        have HCALL : Fact (∀ W, Below wr.heap.size wr W → Calls Try.prog 23 #[.agg #[.int .i64 y.im.d.k, .string y.im.d.n, .string y.im.d.x, y.av, y.kv], .agg #[.int .i64 x.im.d.k, .string x.im.d.n, .string x.im.d.x, x.av, x.kv]] W fun e w' => e = .returned (.bool c) ∧ Below W.heap.size W w') := ⟨fun W hb => by
                          have h1 := hJ3.out.up hb
                          have l1 := h1.a1 y (List.mem_of_getElem? HY.out)
                          have l2 := h1.a2 x (List.mem_of_getElem? HX.out)
                          exact rsame_at (n := pp) (d := y.im.d) (d' := x.im.d) (k := y.k) (k' := x.k) c ⟨hc⟩ ⟨l1.1, l1.2⟩ ⟨l2.1, l2.2⟩ (by have := World.block_lt_of_cell? W _ h1.mm.c0; have h4 : pp < W.heap.size := this; omega)⟩
                        obtain ⟨ya1, ya2, ya3, eya⟩ := (hJ3.out.a1 y (List.mem_of_getElem? HY.out)).1.val
                        obtain ⟨yk1, yk3, eyk⟩ := (hJ3.out.a1 y (List.mem_of_getElem? HY.out)).2.val
                        obtain ⟨xa1, xa2, xa3, exa⟩ := (hJ3.out.a2 x (List.mem_of_getElem? HX.out)).1.val
                        obtain ⟨xk1, xk3, exk⟩ := (hJ3.out.a2 x (List.mem_of_getElem? HX.out)).2.val
                        obtain ⟨yl, hyl⟩ : ∃ l, y.k.len = l := ⟨_, rfl⟩
                        obtain ⟨xl, hxl⟩ : ∃ l, x.k.len = l := ⟨_, rfl⟩
                        rw [hyl] at eyk
                        rw [hxl] at exk
                        have HKEEP : Fact (∀ W, Below wr.heap.size wr W → Below wr.heap.size wr W ∧ (W.cell? ⟨g2, q * 15 + 3, none⟩ = some (.int .i64 xh) ∧ W.cell? ⟨pp, 1, none⟩ = some (.slice (some ⟨gb, 0, none⟩) n' cb) ∧ W.cell? ⟨gb, q, none⟩ = some (.int .i64 (-1)) ∧ W.cell? ⟨g1, i * 15 + 10, none⟩ = some (.int .i64 y.im.d.k) ∧ W.cell? ⟨g1, i * 15 + 11, none⟩ = some (.string y.im.d.n) ∧ W.cell? ⟨g1, i * 15 + 12, none⟩ = some (.string y.im.d.x) ∧ W.cell? ⟨g1, i * 15 + 13, none⟩ = some (.slice ya1 ya2 ya3) ∧ W.cell? ⟨g1, i * 15 + 14, none⟩ = some (.slice yk1 yl yk3) ∧ W.cell? ⟨g2, q * 15 + 10, none⟩ = some (.int .i64 x.im.d.k) ∧ W.cell? ⟨g2, q * 15 + 11, none⟩ = some (.string x.im.d.n) ∧ W.cell? ⟨g2, q * 15 + 12, none⟩ = some (.string x.im.d.x) ∧ W.cell? ⟨g2, q * 15 + 13, none⟩ = some (.slice xa1 xa2 xa3) ∧ W.cell? ⟨g2, q * 15 + 14, none⟩ = some (.slice xk1 xl xk3))) := ⟨fun W hb => by
                          have h1 := hJ3.out.up hb
                          obtain ⟨_, _, k10, k11, k12, k13, k14, _, _, _⟩ := RA.cells h1.r1 HY.out
                          obtain ⟨_, k3, l10, l11, l12, l13, l14, _, _, _⟩ := RA.cells h1.r2 HX.out
                          have v1' := (hb.cell (p := ⟨gb, q, none⟩) (World.block_lt_of_cell? wr _ v1)).trans v1
                          have j3' := (hb.cell (p := ⟨g2, q * 15 + 3, none⟩) (World.block_lt_of_cell? wr _ j3)).trans j3
                          rw [eya] at k13
                          rw [eyk] at k14
                          rw [exa] at l13
                          rw [exk] at l14
                          exact ⟨hb, j3', h1.mm.c1, v1', k10, k11, k12, k13, k14, l10, l11, l12, l13, l14⟩⟩
                        rw [eya, eyk, exa, exk] at HCALL
                        have hS0 := HKEEP.out wr.drew (Below.refl _ _).drew
                        have HC := Fact.mk hc
                        clear hc eya eyk exa exk hyl hxl
                        obtain ⟨yK, hyK⟩ : ∃ v, y.im.d.k = v := ⟨_, rfl⟩
                        obtain ⟨yN, hyN⟩ : ∃ v, y.im.d.n = v := ⟨_, rfl⟩
                        obtain ⟨yX, hyX⟩ : ∃ v, y.im.d.x = v := ⟨_, rfl⟩
                        obtain ⟨xK, hxK⟩ : ∃ v, x.im.d.k = v := ⟨_, rfl⟩
                        obtain ⟨xN, hxN⟩ : ∃ v, x.im.d.n = v := ⟨_, rfl⟩
                        obtain ⟨xX, hxX⟩ : ∃ v, x.im.d.x = v := ⟨_, rfl⟩
                        rw [hyK, hyN, hyX, hxK, hxN, hxX] at hS0 HKEEP HCALL
                        clear hyK hyN hyX hxK hxN hxX
                        go_upto_region 16 with fail
                        go_region_held3 (fun W => Below wr.heap.size wr W ∧ (W.cell? ⟨g2, q * 15 + 3, none⟩ = some (.int .i64 xh) ∧ W.cell? ⟨pp, 1, none⟩ = some (.slice (some ⟨gb, 0, none⟩) n' cb) ∧ W.cell? ⟨gb, q, none⟩ = some (.int .i64 (-1)) ∧ W.cell? ⟨g1, i * 15 + 10, none⟩ = some (.int .i64 yK) ∧ W.cell? ⟨g1, i * 15 + 11, none⟩ = some (.string yN) ∧ W.cell? ⟨g1, i * 15 + 12, none⟩ = some (.string yX) ∧ W.cell? ⟨g1, i * 15 + 13, none⟩ = some (.slice ya1 ya2 ya3) ∧ W.cell? ⟨g1, i * 15 + 14, none⟩ = some (.slice yk1 yl yk3) ∧ W.cell? ⟨g2, q * 15 + 10, none⟩ = some (.int .i64 xK) ∧ W.cell? ⟨g2, q * 15 + 11, none⟩ = some (.string xN) ∧ W.cell? ⟨g2, q * 15 + 12, none⟩ = some (.string xX) ∧ W.cell? ⟨g2, q * 15 + 13, none⟩ = some (.slice xa1 xa2 xa3) ∧ W.cell? ⟨g2, q * 15 + 14, none⟩ = some (.slice xk1 xl xk3)))
                          (first | with_reducible exact hS0 | with_reducible assumption)
                          (first | (go_at_call 23; with_reducible refine (HCALL.out _ (And.left (by assumption))).mono ?_; rintro e w9 ⟨rfl, hb9⟩; have hS9 := HKEEP.out w9 (drew_up hb9)))
                        have HJ9 := Fact.mk (hJ3.out.up (drew_up hb9))
                        clear hS0 hS9 HKEEP HCALL hb9 v1 j3 m0' m1'
                        cases c with
                        | false =>
                          have HR6 : Fact ((List.range' (q + 1) (n' - (q + 1))).find? P = cd) := ⟨by have hq := HFR.out; rw [HPQ2.out, if_neg (by simp)] at hq; exact hq⟩
                          clear HFR HPQ HPQ2
                          go_wp2_with fail
                          go_roundg G3
                          case measure => omega
                          case rel => exact ⟨q + 1, by go_num, by omega, by omega, by omega, HJ9, HR6⟩
                        | true =>
                          have hcd : cd = some q := by have hq := HFR.out; rw [HPQ2.out, if_pos rfl] at hq; exact hq.symm
                          subst hcd
                          have hszz := (cT_same (of_decide_eq_true HC.out)).2.1
                          obtain ⟨z', hz', _, hz2'⟩ := flat_le HXF.out.1
                          have hqz2 : q + z ≤ n' := by have h1 := HEY.out.2; have h2 := HEX.out.2; omega
                          have hzt : y.im.z.toNat = z := by rw [HZ.out]; rfl
                          have HR5 := Fact.mk (show rndM (flatT ⟨K, N, X, A⟩ k) (smT (subsT ⟨K, N, X, A⟩ k) (subsT ⟨K', N', X', A'⟩ k')) n' xh (joinM Mj i q z) (i + 1) (n - (i + 1)) = Mn by have hq := HSTEP.out; rw [HST.out, if_pos (by simp), HCD.out] at hq; rw [← hzt]; exact hq)
                          have HWH := Fact.mk (rWhole_any w9 HJ9.out.mm i q z hiz hqz2 hn1 hn2)
                          have HO9 : Fact (OKM n n' (joinM Mj i q z)) := ⟨hO2.out.join i q z⟩
                          obtain ⟨i1', _, _, _, _, _, _, _, _, _⟩ := RA.cells HJ9.out.r1 HY.out
                          rw [HZ.out] at i1'
                          clear HFR HPQ HPQ2 hszz hz' hz2' hzt HST HSTEP HF0
                          go_wp2_with (go_at_call 39; refine HWH.out.mono ?_; rintro e w10 ⟨⟨v10, rfl⟩, hk10, hm10⟩)
                          have HJ10 := Fact.mk (HJ9.out.step hk10 hm10)
                          go_roundg G2
                          case measure => omega
                          case rel => exact ⟨i + 1, _, by go_num, by omega, by omega, by omega, HJ10, HO9, HR5⟩
                      · have hd5 : decide (u < 0) = false := decide_eq_false (by omega)
                        have hu2 : 0 ≤ u := by omega
                        have HR6 : Fact ((List.range' (q + 1) (n' - (q + 1))).find? P = cd) := ⟨by have hq := HFR.out; rw [HPQ.out, decide_eq_false (by simp [hu1]), Bool.false_and, if_neg (by simp)] at hq; exact hq⟩
                        clear HFR HPQ
                        go_wp2_with fail
                        go_quiet (fail)
                        go_wp2_with fail
                        go_roundg G3
                        case measure => omega
                        case rel => exact ⟨q + 1, by go_num, by omega, by omega, by omega, ⟨hJ4.out.up (below_drewN (Below.refl _ _) nq)⟩, HR6⟩
                    · have hbe : (xh == yh) = false := by simp [hqh]
                      have hne : decide (cT y.im.d y.k x.im.d x.k = 0) = false := decide_eq_false (fun e => by have h1 := (cT_same e).2.2; have h2 := HEY.out.1; have h3 := HEX.out.1; omega)
                      have HR6 : Fact ((List.range' (q + 1) (n' - (q + 1))).find? P = cd) := ⟨by have hq := HFR.out; rw [HPQ.out, hne, Bool.and_false, if_neg (by simp)] at hq; exact hq⟩
                      clear HFR HPQ hne
                      go_wp2_with fail
                      go_quiet (fail)
                      go_wp2_with fail
                      go_roundg G3
                      case measure => omega
                      case rel => exact ⟨q + 1, by go_num, by omega, by omega, by omega, ⟨hJ4.out.up (below_drewN (Below.refl _ _) nq)⟩, HR6⟩
              · have hd0 : decide (u ≥ 0) = true := decide_eq_true (by omega)
                have hd3 : decide (0 ≤ u) = true := decide_eq_true (by omega)
                have hu2 : 0 ≤ u := by omega
                have HR5 := Fact.mk (show rndM (flatT ⟨K, N, X, A⟩ k) (smT (subsT ⟨K, N, X, A⟩ k) (subsT ⟨K', N', X', A'⟩ k')) n' yh Mj (i + 1) (n - (i + 1)) = Mn by have hq := HSTEP.out; rw [HST.out, if_neg (fun e => hu1 e.2)] at hq; exact hq)
                clear HST HSTEP
                go_wp2_with fail
                go_roundg G2
                case measure => omega
                case rel => exact ⟨i + 1, Mj, by go_num, by omega, by omega, by omega, hJ2, hO2, HR5⟩
            · have hbq : (yh != h) = true := by simp [hq]
              have HR5 := Fact.mk (show rndM (flatT ⟨K, N, X, A⟩ k) (smT (subsT ⟨K, N, X, A⟩ k) (subsT ⟨K', N', X', A'⟩ k')) n' h Mj (i + 1) (n - (i + 1)) = Mn by have hq' := HSTEP.out; rw [HST.out, if_neg (fun e => hq e.1)] at hq'; exact hq')
              clear HST HSTEP
              go_wp2_with fail
              go_roundg G2
              case measure => omega
              case rel => exact ⟨i + 1, Mj, by go_num, by omega, by omega, by omega, hJ2, hO2, HR5⟩
end Go.Proofs.Ytkojhgagkoeeiaa
end
