/- Few, SamePairs; Alike of trees that may not be. -/
import Derived.Test.YtkojhgagkoeeiaaZB
import Derived.Test.YtkojhgagkoeeiaaCompare
import Derived.Test.YtkojhgagkoeeiaaSmallA
import Derived.Test.YtkojhgagkoeeiaaRefS
import Derived.Test.YtkojhgagkoeeiaaSDi
import Derived.Test.YtkojhgagkoeeiaaZA
import Derived.BigQuiet
/- Alike, of any two trees that lie in memory. -/
section
set_option linter.unusedVariables false
set_option linter.unusedSimpArgs false
namespace Go.Proofs.Ytkojhgagkoeeiaa
open Go.Deep (BT)
open Go.RowKit Go.Shelf M

theorem bx_new {W : World} {n : Nat} {x y z : Value} {ty : Nat} (e : n = W.heap.size) : Box3 n x y z (W.alloc (.cells #[x, y, z] ty)) := by subst e; exact Box3.new _ _ _ _ _
theorem bx_set {W : World} {n g o : Nat} {x y z u : Value} (h : Box3 n x y z W) (hne : n ≠ g) : Box3 n x y z (W.setCell ⟨g, o, none⟩ u) := h.set hne o u
theorem bx_alloc {W : World} {n : Nat} {x y z : Value} {o : Obj} (h : Box3 n x y z W) : Box3 n x y z (W.alloc o) := h.same (Below.heap_alloc _ _ _ h.lt)
theorem bx_drew {W : World} {n : Nat} {x y z : Value} (h : Box3 n x y z W) : Box3 n x y z W.drew := ⟨h.c0, h.c1, h.c2⟩
/-- both trees in their boxes -/
structure Duo (W0 : World) (b : Nat) (K : Int) (N X : ByteArray) (va vk : Value) (K' : Int) (N' X' : ByteArray) (va' vk' : Value) (W : World) : Prop where
  below : Below W0.heap.size W0 W
  a : Box5 b K N X va vk W
  b : Box5 (b + 1) K' N' X' va' vk' W
/-- the two new sides, wherever the boxes were made -/
structure Mid (W0 : World) (sa sb : Sd) (X1 X2 : Nat) (W : World) : Prop where
  below : Below W0.heap.size W0 W
  a : SdL (TT sa sb) W sa
  b : SdL (TT sa sb) W sb
  pa : W.ownsRow 0 3 1 (.slice (some ⟨sa.gp, 0, none⟩) sa.n sa.cp) sa.n (cJ (List.replicate sa.n (-1)))
  pb : W.ownsRow 0 3 1 (.slice (some ⟨sb.gp, 0, none⟩) sb.n sb.cp) sb.n (cJ (List.replicate sb.n (-1)))
  ne : sa.gp ≠ sb.gp
  ba : Box3 X1 (.slice (some ⟨sa.gi, 0, none⟩) sa.n sa.ci) (.slice (some ⟨sa.gk, 0, none⟩) sa.n sa.ck) (.slice (some ⟨sa.gp, 0, none⟩) sa.n sa.cp) W
  bb : Box3 X2 (.slice (some ⟨sb.gi, 0, none⟩) sb.n sb.ci) (.slice (some ⟨sb.gk, 0, none⟩) sb.n sb.ck) (.slice (some ⟨sb.gp, 0, none⟩) sb.n sb.cp) W
  ap : X1 ≠ sa.gp ∧ X1 ≠ sb.gp ∧ X2 ≠ sa.gp ∧ X2 ≠ sb.gp ∧ W0.heap.size ≤ X1 ∧ W0.heap.size ≤ X2
  gg : W0.heap.size ≤ sa.gp ∧ W0.heap.size ≤ sb.gp
theorem Mid.of {W0 U w1 U2 w2 W : World} {sa sb : Sd} {X1 X2 : Nat} (h1 : SdN U w1 sa) (h2 : SdN U2 w2 sb) (b0 : Below W0.heap.size W0 U) (b1 : Below U.heap.size U w1) (b2 : Below w1.heap.size w1 U2) (b3 : Below U2.heap.size U2 w2)
    (hos : W.os = w2.os ∧ W.tape = w2.tape ∧ W.output = w2.output) (hsz : w2.heap.size ≤ W.heap.size)
    (hk : ∀ g, (g < W0.heap.size ∨ (U.heap.size ≤ g ∧ g < w1.heap.size) ∨ (U2.heap.size ≤ g ∧ g < w2.heap.size)) → W.heap[g]? = w2.heap[g]?)
    (ba : Box3 X1 (.slice (some ⟨sa.gi, 0, none⟩) sa.n sa.ci) (.slice (some ⟨sa.gk, 0, none⟩) sa.n sa.ck) (.slice (some ⟨sa.gp, 0, none⟩) sa.n sa.cp) W)
    (bb : Box3 X2 (.slice (some ⟨sb.gi, 0, none⟩) sb.n sb.ci) (.slice (some ⟨sb.gk, 0, none⟩) sb.n sb.ck) (.slice (some ⟨sb.gp, 0, none⟩) sb.n sb.cp) W)
    (ap : (W0.heap.size ≤ X1 ∧ (X1 < U.heap.size ∨ w1.heap.size ≤ X1) ∧ (X1 < U2.heap.size ∨ w2.heap.size ≤ X1)) ∧ (W0.heap.size ≤ X2 ∧ (X2 < U.heap.size ∨ w1.heap.size ≤ X2) ∧ (X2 < U2.heap.size ∨ w2.heap.size ≤ X2))) : Mid W0 sa sb X1 X2 W := by
  have z0 := b0.size
  have z1 := b1.size
  have z2 := b2.size
  have z3 := b3.size
  have pa := h1.pa.lt sa.gp rfl
  have pb := h2.pa.lt sb.gp rfl
  have ga := h1.ge
  have gb := h2.ge
  have b13 : Below w1.heap.size w1 w2 := b2.trans (b3.mono z2)
  have ha2 := h1.l.keep (Kept.of_below' b13)
  have hpa2 := own_upH h1.pa b13
  have conv : ∀ {T T' : Nat → Prop} {W W' : World} {s : Sd}, SdL T W s → (∀ g, T g → T' g ∧ W'.heap[g]? = W.heap[g]?) → W.heap.size ≤ W'.heap.size → SdL T' W' s := fun {T T' W W' s} h hT hz =>
    ⟨own_block h.it (fun k e _ => (hT k (by cases e; exact h.ti)).2), own_block h.ke (fun k e _ => (hT k (by cases e; exact h.tk)).2), fun y hy => ((h.ats y hy).like (fun b hb _ => (hT b hb).2)).mono (fun b hb => (hT b hb).1), (hT _ h.ti).1, (hT _ h.tk).1, h.li, h.lk, h.sm⟩
  refine ⟨⟨hos.1.trans (b3.os.trans (b2.os.trans (b1.os.trans b0.os))), hos.2.1.trans (b3.tape.trans (b2.tape.trans (b1.tape.trans b0.tape))), hos.2.2.trans (b3.output.trans (b2.output.trans (b1.output.trans b0.output))), by omega, fun g hg => (hk g (.inl hg)).trans ((b3.block g (by omega)).trans ((b2.block g (by omega)).trans ((b1.block g (by omega)).trans (b0.block g hg))))⟩,
    conv ha2 (fun g hg => ⟨⟨hg.2.2, fun e => by have := hg.2.1; omega⟩, hk g (.inr (.inl ⟨hg.1, hg.2.1⟩))⟩) hsz, conv h2.l (fun g hg => ⟨⟨fun e => by have := hg.1; omega, hg.2.2⟩, hk g (.inr (.inr ⟨hg.1, hg.2.1⟩))⟩) hsz,
    own_block hpa2 (fun k e _ => hk k (.inr (.inl (by cases e; exact ⟨ga, pa.2⟩)))), own_block h2.pa (fun k e _ => hk k (.inr (.inr (by cases e; exact ⟨gb, pb.2⟩)))), fun e => by omega, ba, bb, ⟨fun e => by omega, fun e => by omega, fun e => by omega, fun e => by omega, ap.1.1, ap.2.1⟩, ⟨by omega, by omega⟩⟩
theorem Mid.two {W0 W : World} {sa sb : Sd} {X1 X2 : Nat} (h : Mid W0 sa sb X1 X2 W) : Two (TT sa sb) W sa sb (noneM sa.n sb.n) := ⟨h.a, h.b, h.pa, h.pb, fun e => e.1 rfl, fun e => e.2 rfl, h.ne⟩
/-- behind the sides: both, partners so far, the boxes -/
structure Aft (W0 : World) (sa sb : Sd) (X1 X2 : Nat) (M : Mt) (W : World) : Prop where
  below : Below W0.heap.size W0 W
  two : Two (TT sa sb) W sa sb M
  ba : Box3 X1 (.slice (some ⟨sa.gi, 0, none⟩) sa.n sa.ci) (.slice (some ⟨sa.gk, 0, none⟩) sa.n sa.ck) (.slice (some ⟨sa.gp, 0, none⟩) sa.n sa.cp) W
  bb : Box3 X2 (.slice (some ⟨sb.gi, 0, none⟩) sb.n sb.ci) (.slice (some ⟨sb.gk, 0, none⟩) sb.n sb.ck) (.slice (some ⟨sb.gp, 0, none⟩) sb.n sb.cp) W
  ap : X1 ≠ sa.gp ∧ X1 ≠ sb.gp ∧ X2 ≠ sa.gp ∧ X2 ≠ sb.gp ∧ W0.heap.size ≤ X1 ∧ W0.heap.size ≤ X2
  gg : W0.heap.size ≤ sa.gp ∧ W0.heap.size ≤ sb.gp
theorem Mid.aft {W0 W : World} {sa sb : Sd} {X1 X2 : Nat} (h : Mid W0 sa sb X1 X2 W) : Aft W0 sa sb X1 X2 (noneM sa.n sb.n) W := ⟨h.below, h.two, h.ba, h.bb, h.ap, h.gg⟩
theorem Aft.step {W0 W W' : World} {sa sb : Sd} {X1 X2 : Nat} {M M' : Mt} (h : Aft W0 sa sb X1 X2 M W) (hk : Kept (TT sa sb) W W') (h2 : Two (TT sa sb) W' sa sb M') : Aft W0 sa sb X1 X2 M' W' := by
  have hg := h.gg
  exact ⟨h.below.trans (hk.below h.below.size (fun g hg' => ⟨by omega, by omega⟩)), h2, h.ba.same (hk.block _ h.ba.lt ⟨h.ap.1, h.ap.2.1⟩), h.bb.same (hk.block _ h.bb.lt ⟨h.ap.2.2.1, h.ap.2.2.2.1⟩), h.ap, h.gg⟩
theorem Aft.up {W0 W W' : World} {sa sb : Sd} {X1 X2 : Nat} {M : Mt} (h : Aft W0 sa sb X1 X2 M W) (hb : Below W.heap.size W W') : Aft W0 sa sb X1 X2 M W' := h.step (Kept.of_below' hb) (h.two.below hb)
theorem keep10 {W0 W W' : World} {b : Nat} {u0 u1 u2 u3 u4 v0 v1 v2 v3 v4 : Value} (hlt : b + 1 < W0.heap.size) (h : Below W0.heap.size W0 W ∧ (W.cell? ⟨b, 0, none⟩ = some u0 ∧ W.cell? ⟨b, 1, none⟩ = some u1 ∧ W.cell? ⟨b, 2, none⟩ = some u2 ∧ W.cell? ⟨b, 3, none⟩ = some u3 ∧ W.cell? ⟨b, 4, none⟩ = some u4 ∧ W.cell? ⟨b + 1, 0, none⟩ = some v0 ∧ W.cell? ⟨b + 1, 1, none⟩ = some v1 ∧ W.cell? ⟨b + 1, 2, none⟩ = some v2 ∧ W.cell? ⟨b + 1, 3, none⟩ = some v3 ∧ W.cell? ⟨b + 1, 4, none⟩ = some v4))
    (hb : Below W0.heap.size W W') : Below W0.heap.size W0 W' ∧ (W'.cell? ⟨b, 0, none⟩ = some u0 ∧ W'.cell? ⟨b, 1, none⟩ = some u1 ∧ W'.cell? ⟨b, 2, none⟩ = some u2 ∧ W'.cell? ⟨b, 3, none⟩ = some u3 ∧ W'.cell? ⟨b, 4, none⟩ = some u4 ∧ W'.cell? ⟨b + 1, 0, none⟩ = some v0 ∧ W'.cell? ⟨b + 1, 1, none⟩ = some v1 ∧ W'.cell? ⟨b + 1, 2, none⟩ = some v2 ∧ W'.cell? ⟨b + 1, 3, none⟩ = some v3 ∧ W'.cell? ⟨b + 1, 4, none⟩ = some v4) := by
  obtain ⟨h0, a0, a1, a2, a3, a4, c0, c1, c2, c3, c4⟩ := h
  have k : ∀ g o u, g < W0.heap.size → W.cell? ⟨g, o, none⟩ = some u → W'.cell? ⟨g, o, none⟩ = some u := fun g o u hg e => (hb.cell (p := ⟨g, o, none⟩) hg).trans e
  exact ⟨h0.trans hb, k _ _ _ (by omega) a0, k _ _ _ (by omega) a1, k _ _ _ (by omega) a2, k _ _ _ (by omega) a3, k _ _ _ (by omega) a4, k _ _ _ hlt c0, k _ _ _ hlt c1, k _ _ _ hlt c2, k _ _ _ hlt c3, k _ _ _ hlt c4⟩
theorem below_allocN {B : Nat} {W : World} (h : B ≤ W.heap.size) (o : Obj) : Below B W (W.alloc o) := (Below.refl _ W).alloc h o
theorem below_drew1 {B : Nat} {W : World} : Below B W W.drew := (Below.refl _ W).drew
theorem below_setC {B : Nat} {W : World} {g o : Nat} {u : Value} (h : B ≤ g) : Below B W (W.setCell ⟨g, o, none⟩ u) := (Below.refl _ W).setCell (p := ⟨g, o, none⟩) h u

/-- a box of three that nothing was put into -/
structure Z3 (b : Nat) (W : World) : Prop where
  c0 : W.cell? ⟨b, 0, none⟩ = some (.slice none 0 0)
  c1 : W.cell? ⟨b, 1, none⟩ = some (.slice none 0 0)
  c2 : W.cell? ⟨b, 2, none⟩ = some (.slice none 0 0)
  f : ∀ o, W.frozen? ⟨b, o, none⟩ = false
theorem Z3.lt {b : Nat} {W : World} (h : Z3 b W) : b < W.heap.size := World.block_lt_of_cell? W _ h.c0
theorem Z3.same {b : Nat} {W W' : World} (h : Z3 b W) (e : W'.heap[b]? = W.heap[b]?) : Z3 b W' :=
  ⟨(World.cell?_of_block (a := ⟨b, 0, none⟩) e).trans h.c0, (World.cell?_of_block (a := ⟨b, 1, none⟩) e).trans h.c1, (World.cell?_of_block (a := ⟨b, 2, none⟩) e).trans h.c2, fun o => (World.frozen?_of_block (a := ⟨b, o, none⟩) e).trans (h.f o)⟩
theorem Z3.new {W : World} {ty : Nat} : Z3 W.heap.size (W.alloc (.cells #[.slice none 0 0, .slice none 0 0, .slice none 0 0] ty)) :=
  ⟨World.cell?_alloc_new W _ _ 0, World.cell?_alloc_new W _ _ 1, World.cell?_alloc_new W _ _ 2, fun o => World.frozen?_alloc_new W _ _ o⟩
theorem Z3.new1 {W : World} {o : Obj} {ty : Nat} : Z3 (W.heap.size + 1) ((W.alloc o).alloc (.cells #[.slice none 0 0, .slice none 0 0, .slice none 0 0] ty)) := by
  have h := Z3.new (W := W.alloc o) (ty := ty)
  rw [World.size_alloc] at h
  exact h
theorem Z3.newD {W : World} {ty : Nat} : Z3 W.heap.size (W.drew.alloc (.cells #[.slice none 0 0, .slice none 0 0, .slice none 0 0] ty)) := Z3.new (W := W.drew)
theorem Z3.newD1 {W : World} {o : Obj} {ty : Nat} : Z3 (W.heap.size + 1) ((W.drew.alloc o).alloc (.cells #[.slice none 0 0, .slice none 0 0, .slice none 0 0] ty)) := Z3.new1 (W := W.drew)
theorem Z3.alloc {b : Nat} {W : World} {o : Obj} (h : Z3 b W) : Z3 b (W.alloc o) := h.same (Below.heap_alloc _ _ _ h.lt)
theorem Z3.drew {b : Nat} {W : World} (h : Z3 b W) : Z3 b W.drew := ⟨h.c0, h.c1, h.c2, h.f⟩
theorem Z3.keep {b : Nat} {W W' : World} (hb : Below W.heap.size W W') (h : Z3 b W) : Z3 b W' := h.same (hb.block b h.lt)
theorem cutZ {G : Prop} {b : Nat} {W W' : World} (hb : Below W.heap.size W W') (h : Z3 b W) (f : Fact (Z3 b W') → G) : G := f ⟨h.keep hb⟩
theorem bl_alloc {B : Nat} {a W : World} {o : Obj} (hB : B ≤ a.heap.size) (h : Below B a W) : Below B a (W.alloc o) := h.alloc (Nat.le_trans hB h.size) _
theorem bl_set {B g o : Nat} {a W : World} {u : Value} (hg : B ≤ g) (h : Below B a W) : Below B a (W.setCell ⟨g, o, none⟩ u) := h.setCell (p := ⟨g, o, none⟩) hg _
theorem bl_same {a W : World} (h : Below 0 a W) : W.os = a.os ∧ W.tape = a.tape ∧ W.output = a.output := ⟨h.os, h.tape, h.output⟩
theorem bl_drew {B : Nat} {a W : World} (h : Below B a W) : Below B a W.drew := h.drew

set_option maxRecDepth 20000 in
set_option maxHeartbeats 8000000 in
theorem alike_any (d d' : Nd) (k k' : M.F) (va ka va' ka' : Value) (n n' : Nat) (least : Int) (w : World) (hks : k.size + 1 = n) (hks' : k'.size + 1 = n') (L : Lim d k) (L' : Lim d' k') (hl : Lies w.heap.size w d k va ka) (hl' : Lies w.heap.size w d' k' va' ka') (hd : k.depth + 2 ≤ 1000000) (hd' : k'.depth + 2 ≤ 1000000)
    (ht : treeOK d k = true) (ht' : treeOK d' k' = true) (M' : Mt) (hM : Fact (alikeM d k d' k' least = M')) :
    Calls Try.prog 14 #[nodeV d va ka, nodeV d' va' ka', .int .i64 least] w fun e w' => ∃ v, e = .returned v ∧ Below w.heap.size w w' ∧ Fact (w'.ownsRow w.heap.size 46 2 v (pairsF 0 M'.a).length (cP (pairsF 0 M'.a))) := by
  obtain ⟨p1, p2, p3, e1⟩ := hl.a.val
  obtain ⟨q1, q2, e2⟩ := hl.f.val
  obtain ⟨p1', p2', p3', e1'⟩ := hl'.a.val
  obtain ⟨q1', q2', e2'⟩ := hl'.f.val
  subst e1 e2 e1' e2'
  obtain ⟨kl, hkl⟩ : ∃ kl, k.len = kl := ⟨_, rfl⟩
  obtain ⟨kl', hkl'⟩ : ∃ kl, k'.len = kl := ⟨_, rfl⟩
  rw [hkl] at hl
  rw [hkl'] at hl'
  rw [hkl, hkl']
  clear hkl hkl'
  obtain ⟨K, N, X, A⟩ := d
  obtain ⟨K', N', X', A'⟩ := d'
  obtain ⟨W0, hW0⟩ : ∃ W0, (w.alloc (.cells #[.int .i64 K, .string N, .string X, .slice p1 p2 p3, .slice q1 kl q2] 25)).alloc (.cells #[.int .i64 K', .string N', .string X', .slice p1' p2' p3', .slice q1' kl' q2'] 25) = W0 := ⟨_, rfl⟩
  have hB0 : Below w.heap.size w W0 := by rw [← hW0]; exact ((Below.refl _ w).alloc (Nat.le_refl _) _).alloc (by simp) _
  have hz0 : W0.heap.size = w.heap.size + 2 := by rw [← hW0]; simp
  have hx1 : Box5 w.heap.size K N X (.slice p1 p2 p3) (.slice q1 kl q2) W0 := by
    rw [← hW0]; exact (Box5.new _ _ _ _ _ _ _).keep ((Below.refl _ _).alloc (Nat.le_refl _) _)
  have hx2 : Box5 (w.heap.size + 1) K' N' X' (.slice p1' p2' p3') (.slice q1' kl' q2') W0 := by
    have h := Box5.new (w.alloc (.cells #[.int .i64 K, .string N, .string X, .slice p1 p2 p3, .slice q1 kl q2] 25)) K' N' X' (.slice p1' p2' p3') (.slice q1' kl' q2') 25
    rw [hW0, World.size_alloc] at h
    exact h
  have HA : Fact (∀ W, Below W0.heap.size W0 W → Lies W.heap.size W ⟨K, N, X, A⟩ k (.slice p1 p2 p3) (.slice q1 kl q2)) := ⟨fun W hb => by
    have h := hB0.trans (hb.mono hB0.size)
    exact (hl.below h).here h.size⟩
  have HA' : Fact (∀ W, Below W0.heap.size W0 W → Lies W.heap.size W ⟨K', N', X', A'⟩ k' (.slice p1' p2' p3') (.slice q1' kl' q2')) := ⟨fun W hb => by
    have h := hB0.trans (hb.mono hB0.size)
    exact (hl'.below h).here h.size⟩
  have HC : Fact (∀ W, Below W0.heap.size W0 W → Calls Try.prog 28 #[.agg #[.int .i64 K, .string N, .string X, .slice p1 p2 p3, .slice q1 kl q2]] W fun e w' => e = .returned (.bool true) ∧ Below W.heap.size W w') := ⟨fun W hb => check_at (d := ⟨K, N, X, A⟩) (k := k) (n := W.heap.size) true ⟨ht⟩ hd (HA.out W hb) (Nat.le_refl _)⟩
  have HC' : Fact (∀ W, Below W0.heap.size W0 W → Calls Try.prog 28 #[.agg #[.int .i64 K', .string N', .string X', .slice p1' p2' p3', .slice q1' kl' q2']] W fun e w' => e = .returned (.bool true) ∧ Below W.heap.size W w') := ⟨fun W hb => check_at (d := ⟨K', N', X', A'⟩) (k := k') (n := W.heap.size) true ⟨ht'⟩ hd' (HA'.out W hb) (Nat.le_refl _)⟩
  have HN : Fact (∀ W, Below W0.heap.size W0 W → Calls Try.prog 29 #[.agg #[.int .i64 K, .string N, .string X, .slice p1 p2 p3, .slice q1 kl q2]] W fun e w' => ∃ s : Sd, e = .returned s.v ∧ Below W.heap.size W w' ∧ Fact (SdT s ⟨K, N, X, A⟩ k ∧ SdN W w' s ∧ s.n = n)) := ⟨fun W hb => newSide_any ⟨K, N, X, A⟩ k _ _ n W hks L (by have h := HA.out W hb; exact h)⟩
  have HN' : Fact (∀ W, Below W0.heap.size W0 W → Calls Try.prog 29 #[.agg #[.int .i64 K', .string N', .string X', .slice p1' p2' p3', .slice q1' kl' q2']] W fun e w' => ∃ s : Sd, e = .returned s.v ∧ Below W.heap.size W w' ∧ Fact (SdT s ⟨K', N', X', A'⟩ k' ∧ SdN W w' s ∧ s.n = n')) := ⟨fun W hb => newSide_any ⟨K', N', X', A'⟩ k' _ _ n' W hks' L' (by have h := HA'.out W hb; exact h)⟩
  have HS : Fact (∀ W, Below W0.heap.size W0 W → Below W0.heap.size W0 W ∧ (W.cell? ⟨w.heap.size, 0, none⟩ = some (.int .i64 K) ∧ W.cell? ⟨w.heap.size, 1, none⟩ = some (.string N) ∧ W.cell? ⟨w.heap.size, 2, none⟩ = some (.string X) ∧ W.cell? ⟨w.heap.size, 3, none⟩ = some (.slice p1 p2 p3) ∧ W.cell? ⟨w.heap.size, 4, none⟩ = some (.slice q1 kl q2) ∧ W.cell? ⟨w.heap.size + 1, 0, none⟩ = some (.int .i64 K') ∧ W.cell? ⟨w.heap.size + 1, 1, none⟩ = some (.string N') ∧ W.cell? ⟨w.heap.size + 1, 2, none⟩ = some (.string X') ∧ W.cell? ⟨w.heap.size + 1, 3, none⟩ = some (.slice p1' p2' p3') ∧ W.cell? ⟨w.heap.size + 1, 4, none⟩ = some (.slice q1' kl' q2'))) := ⟨fun W hb => by
    have a1 := hx1.keep hb
    have a2 := hx2.keep hb
    exact ⟨hb, a1.c0, a1.c1, a1.c2, a1.c3, a1.c4, a2.c0, a2.c1, a2.c2, a2.c3, a2.c4⟩⟩
  obtain ⟨_, b0, b1, b2, b3, b4, g0, g1, g2, g3, g4⟩ := HS.out W0 (Below.refl _ _)
  have HW0 := Fact.mk hW0
  have HB0 := Fact.mk hB0
  have hlt : w.heap.size + 1 < W0.heap.size := by omega
  clear hW0 hB0 hx1 hx2 hl hl' ht ht'
  go_enter Try.func14, Try.ntmps14
  go_upto_region 1 with fail
  rw [HW0.out]
  go_wp2_with fail
  refine (HC.out _ (Below.refl _ _)).mono ?_
  rintro e w1 ⟨rfl, hb1⟩
  obtain ⟨hbA, c0, c1, c2, c3, c4, f0, f1, f2, f3, f4⟩ := HS.out w1 hb1
  clear b0 b1 b2 b3 b4 g0 g1 g2 g3 g4
  go_wp2_with fail
  refine (HC'.out _ hbA).mono ?_
  rintro e w2 ⟨rfl, hb2⟩
  have HB2 : Fact (Below W0.heap.size W0 w2) := ⟨hb1.trans (hb2.mono hb1.size)⟩
  clear c0 c1 c2 c3 c4 f0 f1 f2 f3 f4 hb1 hb2 hbA
  go_upto_region 3 with fail
  have hS0 := HS.out w2.drew HB2.out.drew
  have hS00 := HS.out w2 HB2.out
  have hz2 : W0.heap.size ≤ w2.heap.size := HB2.out.size
  have hz20 : W0.heap.size ≤ w2.drew.heap.size := HB2.out.size
  go_cut [7, 8] (fun v1 v2 wc => ∃ (X1 X2 n1 gi ci gq ck gp cp n2 gi' ci' gq' ck' gp' cp' : Nat) (its its' : List (Im × Value)) (ks ks' : List (Int × Int)), v1 = .pointer (some ⟨X1, 0, none⟩) ∧ v2 = .pointer (some ⟨X2, 0, none⟩) ∧ Fact (Mid W0 ⟨n1, gi, ci, gq, ck, gp, cp, its, ks⟩ ⟨n2, gi', ci', gq', ck', gp', cp', its', ks'⟩ X1 X2 wc ∧ SdT ⟨n1, gi, ci, gq, ck, gp, cp, its, ks⟩ ⟨K, N, X, A⟩ k ∧ SdT ⟨n2, gi', ci', gq', ck', gp', cp', its', ks'⟩ ⟨K', N', X', A'⟩ k'))
  case first =>
    clear hM
    go_region_held3 (fun W => Below W0.heap.size W0 W ∧ (W.cell? ⟨w.heap.size, 0, none⟩ = some (.int .i64 K) ∧ W.cell? ⟨w.heap.size, 1, none⟩ = some (.string N) ∧ W.cell? ⟨w.heap.size, 2, none⟩ = some (.string X) ∧ W.cell? ⟨w.heap.size, 3, none⟩ = some (.slice p1 p2 p3) ∧ W.cell? ⟨w.heap.size, 4, none⟩ = some (.slice q1 kl q2) ∧ W.cell? ⟨w.heap.size + 1, 0, none⟩ = some (.int .i64 K') ∧ W.cell? ⟨w.heap.size + 1, 1, none⟩ = some (.string N') ∧ W.cell? ⟨w.heap.size + 1, 2, none⟩ = some (.string X') ∧ W.cell? ⟨w.heap.size + 1, 3, none⟩ = some (.slice p1' p2' p3') ∧ W.cell? ⟨w.heap.size + 1, 4, none⟩ = some (.slice q1' kl' q2')))
      (first | with_reducible exact hS0 | with_reducible assumption | (refine keep10 hlt hS6 ?_; (repeat (first | with_reducible exact Below.refl _ _ | (with_reducible refine bl_alloc (by omega) ?_) | (with_reducible refine bl_set (by first | omega | (simp; omega)) ?_) | with_reducible refine bl_drew ?_)); done) | (refine keep10 hlt hS5 ?_; (repeat (first | with_reducible exact Below.refl _ _ | (with_reducible refine bl_alloc (by omega) ?_) | (with_reducible refine bl_set (by first | omega | (simp; omega)) ?_) | with_reducible refine bl_drew ?_)); done) | (refine keep10 hlt hS0 ?_; (repeat (first | with_reducible exact Below.refl _ _ | (with_reducible refine bl_alloc (by omega) ?_) | (with_reducible refine bl_set (by first | omega | (simp; omega)) ?_) | with_reducible refine bl_drew ?_)); done) | (refine keep10 hlt hS00 ?_; (repeat (first | with_reducible exact Below.refl _ _ | (with_reducible refine bl_alloc (by omega) ?_) | (with_reducible refine bl_set (by first | omega | (simp; omega)) ?_) | with_reducible refine bl_drew ?_)); done))
      (first
        | (go_at_call 29; with_reducible refine (HN.out _ (And.left (by assumption))).mono ?_; rintro e w5 ⟨⟨n1, gi, ci, gq, ck, gp, cp, its, ks⟩, rfl, hb5, hf5⟩; have hS5 := keep10 hlt (by assumption) (hb5.mono (Below.size (And.left (by assumption)))); have hz5 := hS5.1.size; have hq5 := hb5.size; (try simp only [World.size_alloc, World.size_drew] at hq5); (try (have hr5 : w2.heap.size < w5.heap.size := by omega)); (try (have hr5' : w2.heap.size + 1 < w5.heap.size := by omega)); obtain ⟨hc5, hd5⟩ := bcell hb5; (try (have kA0a := hc5 (w2.heap.size) 0 (by first | omega | (simp only [World.size_alloc, World.size_drew]; omega)); have kA0b := hc5 (w2.heap.size) 1 (by first | omega | (simp only [World.size_alloc, World.size_drew]; omega)); have kA0c := hc5 (w2.heap.size) 2 (by first | omega | (simp only [World.size_alloc, World.size_drew]; omega)); have lA0a := hd5 (w2.heap.size) 0 (by first | omega | (simp only [World.size_alloc, World.size_drew]; omega)); have lA0b := hd5 (w2.heap.size) 1 (by first | omega | (simp only [World.size_alloc, World.size_drew]; omega)); have lA0c := hd5 (w2.heap.size) 2 (by first | omega | (simp only [World.size_alloc, World.size_drew]; omega)))); (try (have kA1a := hc5 (w2.heap.size + 1) 0 (by first | omega | (simp only [World.size_alloc, World.size_drew]; omega)); have kA1b := hc5 (w2.heap.size + 1) 1 (by first | omega | (simp only [World.size_alloc, World.size_drew]; omega)); have kA1c := hc5 (w2.heap.size + 1) 2 (by first | omega | (simp only [World.size_alloc, World.size_drew]; omega)); have lA1a := hd5 (w2.heap.size + 1) 0 (by first | omega | (simp only [World.size_alloc, World.size_drew]; omega)); have lA1b := hd5 (w2.heap.size + 1) 1 (by first | omega | (simp only [World.size_alloc, World.size_drew]; omega)); have lA1c := hd5 (w2.heap.size + 1) 2 (by first | omega | (simp only [World.size_alloc, World.size_drew]; omega)))); clear hc5 hd5)
        | (go_at_call 29; with_reducible refine (HN'.out _ (And.left (by assumption))).mono ?_; rintro e w6 ⟨⟨n2, gi', ci', gq', ck', gp', cp', its', ks'⟩, rfl, hb6, hf6⟩; have hS6 := keep10 hlt (by assumption) (hb6.mono (Below.size (And.left (by assumption)))); have hz6 := hS6.1.size; have hq6 := hb6.size; (try simp only [World.size_alloc, World.size_drew] at hq6); (try (have hr6 : w5.heap.size < w6.heap.size := by omega)); (try (have hr6' : w5.heap.size + 1 < w6.heap.size := by omega)); (try (have hr7 : w2.heap.size < w6.heap.size := by omega)); (try (have hr7' : w2.heap.size + 1 < w6.heap.size := by omega)); (try (have hr8 : w2.heap.size < w5.heap.size + 1 := by omega)); obtain ⟨hc6, hd6⟩ := bcell hb6; (try (have kB0a := hc6 (w2.heap.size) 0 (by first | omega | (simp only [World.size_alloc, World.size_drew]; omega)); have kB0b := hc6 (w2.heap.size) 1 (by first | omega | (simp only [World.size_alloc, World.size_drew]; omega)); have kB0c := hc6 (w2.heap.size) 2 (by first | omega | (simp only [World.size_alloc, World.size_drew]; omega)); have lB0a := hd6 (w2.heap.size) 0 (by first | omega | (simp only [World.size_alloc, World.size_drew]; omega)); have lB0b := hd6 (w2.heap.size) 1 (by first | omega | (simp only [World.size_alloc, World.size_drew]; omega)); have lB0c := hd6 (w2.heap.size) 2 (by first | omega | (simp only [World.size_alloc, World.size_drew]; omega)))); (try (have kB1a := hc6 (w2.heap.size + 1) 0 (by first | omega | (simp only [World.size_alloc, World.size_drew]; omega)); have kB1b := hc6 (w2.heap.size + 1) 1 (by first | omega | (simp only [World.size_alloc, World.size_drew]; omega)); have kB1c := hc6 (w2.heap.size + 1) 2 (by first | omega | (simp only [World.size_alloc, World.size_drew]; omega)); have lB1a := hd6 (w2.heap.size + 1) 0 (by first | omega | (simp only [World.size_alloc, World.size_drew]; omega)); have lB1b := hd6 (w2.heap.size + 1) 1 (by first | omega | (simp only [World.size_alloc, World.size_drew]; omega)); have lB1c := hd6 (w2.heap.size + 1) 2 (by first | omega | (simp only [World.size_alloc, World.size_drew]; omega)))); (try (have kB2a := hc6 (w5.heap.size) 0 (by first | omega | (simp only [World.size_alloc, World.size_drew]; omega)); have kB2b := hc6 (w5.heap.size) 1 (by first | omega | (simp only [World.size_alloc, World.size_drew]; omega)); have kB2c := hc6 (w5.heap.size) 2 (by first | omega | (simp only [World.size_alloc, World.size_drew]; omega)); have lB2a := hd6 (w5.heap.size) 0 (by first | omega | (simp only [World.size_alloc, World.size_drew]; omega)); have lB2b := hd6 (w5.heap.size) 1 (by first | omega | (simp only [World.size_alloc, World.size_drew]; omega)); have lB2c := hd6 (w5.heap.size) 2 (by first | omega | (simp only [World.size_alloc, World.size_drew]; omega)))); (try (have kB3a := hc6 (w5.heap.size + 1) 0 (by first | omega | (simp only [World.size_alloc, World.size_drew]; omega)); have kB3b := hc6 (w5.heap.size + 1) 1 (by first | omega | (simp only [World.size_alloc, World.size_drew]; omega)); have kB3c := hc6 (w5.heap.size + 1) 2 (by first | omega | (simp only [World.size_alloc, World.size_drew]; omega)); have lB3a := hd6 (w5.heap.size + 1) 0 (by first | omega | (simp only [World.size_alloc, World.size_drew]; omega)); have lB3b := hd6 (w5.heap.size + 1) 1 (by first | omega | (simp only [World.size_alloc, World.size_drew]; omega)); have lB3c := hd6 (w5.heap.size + 1) 2 (by first | omega | (simp only [World.size_alloc, World.size_drew]; omega)))); clear hc6 hd6))
    all_goals go_wp2_with fail
    all_goals go_meet
    all_goals
      refine ⟨_, _, n1, gi, ci, gq, ck, gp, cp, n2, gi', ci', gq', ck', gp', cp', its, its', ks, ks', rfl, rfl, ⟨?_, hf5.out.1, hf6.out.1⟩⟩
      with_reducible refine Mid.of hf5.out.2.1 hf6.out.2.1 ?_ hb5 ?_ hb6 ?_ ?_ ?_ ?_ ?_ ?_
      · (refine HB2.out.trans ?_); (repeat (first | with_reducible exact Below.refl _ _ | (with_reducible refine bl_alloc (by omega) ?_) | (with_reducible refine bl_set (by first | omega | (simp; omega)) ?_) | with_reducible refine bl_drew ?_))
      · repeat (first | with_reducible exact Below.refl _ _ | (with_reducible refine bl_alloc (by omega) ?_) | (with_reducible refine bl_set (by first | omega | (simp; omega)) ?_) | with_reducible refine bl_drew ?_)
      · (with_reducible refine bl_same ?_); (repeat (first | with_reducible exact Below.refl _ _ | (with_reducible refine bl_alloc (Nat.zero_le _) ?_) | (with_reducible refine bl_set (Nat.zero_le _) ?_) | with_reducible refine bl_drew ?_))
      · first | omega | (simp only [World.size_setCell, World.size_alloc]; omega)
      · (intro g hg); (try simp only [World.size_alloc, World.size_drew] at hg); (repeat (first | with_reducible rfl | (with_reducible refine (Below.heap_setCell _ _ _ _ ?_).trans ?_; focus (dsimp only; omega)) | (with_reducible refine (Below.heap_alloc _ _ _ ?_).trans ?_; focus (first | omega | (simp only [World.size_setCell, World.size_alloc]; omega)))))
      · (dsimp only); (repeat (first | (with_reducible refine box3_all (u0 := .slice none 0 0) (u1 := .slice none 0 0) (u2 := .slice none 0 0) ?_ _ _ _) | (with_reducible refine bx_set ?_ (by omega)) | (with_reducible refine bx_new ?_; focus (first | with_reducible rfl | (simp only [World.size_setCell, World.size_alloc]; done))) | (with_reducible refine bx_alloc ?_) | (refine ⟨?_, ?_, ?_⟩ <;> go_simp; done)))
      · (dsimp only); (repeat (first | (with_reducible refine box3_all (u0 := .slice none 0 0) (u1 := .slice none 0 0) (u2 := .slice none 0 0) ?_ _ _ _) | (with_reducible refine bx_set ?_ (by omega)) | (with_reducible refine bx_new ?_; focus (first | with_reducible rfl | (simp only [World.size_setCell, World.size_alloc]; done))) | (with_reducible refine bx_alloc ?_) | (refine ⟨?_, ?_, ?_⟩ <;> go_simp; done)))
      · (try simp only [World.size_alloc, World.size_drew]); omega
  case rest =>
    obtain ⟨X1, X2, n1, gi, ci, gq, ck, gp, cp, n2, gi', ci', gq', ck', gp', cp', its, its', kks, kks', rfl, rfl, hC⟩ := hcut
    obtain ⟨_, b0, b1, b2, b3, b4, g0, g1, g2, g3, g4⟩ := HS.out wc hC.out.1.below
    have x0 := hC.out.1.ba.c0
    have x1 := hC.out.1.ba.c1
    have x2 := hC.out.1.ba.c2
    have z0 := hC.out.1.bb.c0
    have z1 := hC.out.1.bb.c1
    have z2 := hC.out.1.bb.c2
    dsimp only at x0 x1 x2 z0 z1 z2
    have e1 : n1 = n := by have := hC.out.2.1.sz; dsimp only at this; omega
    have e2 : n2 = n' := by have := hC.out.2.2.sz; dsimp only at this; omega
    subst e1 e2
    clear hS0 hS00
    obtain ⟨r, hr⟩ : ∃ r, decide (cT ⟨K, N, X, A⟩ k ⟨K', N', X', A'⟩ k' = 0) = r := ⟨_, rfl⟩
    have HSAME : Fact (Calls Try.prog 30 #[.agg #[.int .i64 K, .string N, .string X, .slice p1 p2 p3, .slice q1 kl q2], .agg #[.int .i64 K', .string N', .string X', .slice p1' p2' p3', .slice q1' kl' q2']] wc fun e w' => e = .returned (.bool r) ∧ Below wc.heap.size wc w') := ⟨same_at (n := wc.heap.size) (d := ⟨K, N, X, A⟩) (d' := ⟨K', N', X', A'⟩) (k := k) (k' := k') r ⟨hr⟩ hd (HA.out wc hC.out.1.below) (HA'.out wc hC.out.1.below) (Nat.le_refl _)⟩
    have HR := Fact.mk hr
    clear hr
    go_upto_if 25 with (go_at_call 30; refine HSAME.out.mono ?_; rintro e w5 ⟨rfl, hb5⟩)
    have HF5 := Fact.mk (hC.out.1.aft.up hb5)
    have HSA := Fact.mk hC.out.2.1
    have HSB := Fact.mk hC.out.2.2
    clear b0 b1 b2 b3 b4 g0 g1 g2 g3 g4 x0 x1 x2 z0 z1 z2 hC HSAME hb5
    have x0 := HF5.out.ba.c0
    have x1 := HF5.out.ba.c1
    have x2 := HF5.out.ba.c2
    have z0 := HF5.out.bb.c0
    have z1 := HF5.out.bb.c1
    have z2 := HF5.out.bb.c2
    dsimp only at x0 x1 x2 z0 z1 z2
    obtain ⟨y0, hy0⟩ : ∃ y, its[0]? = some y := by
      have h1 := congrArg List.length HSA.out.it
      rw [List.length_map, flatT_len, hks] at h1
      exact ⟨its[0]'(by have := h1; dsimp only at this; omega), by simp⟩
    have hyy : (⟨-1, k.size + 1, 0, k.depth + 1, 0, ⟨K, N, X, A⟩⟩ : Im) = y0.1 := by
      have h1 : (its.map (·.1))[0]? = some y0.1 := by rw [List.getElem?_map, hy0]; rfl
      have h2 := HSA.out.it
      dsimp only at h2
      rw [h2, flatT] at h1
      simpa using h1
    have hs1 := HF5.out.two.sa.sm
    have hs2 := HF5.out.two.sb.sm
    dsimp only at hs1 hs2
    have H0 : Fact (∀ (W : World) (v : Unit), Below W0.heap.size W0 W → Below w.heap.size w W) := ⟨fun W _ hb => HB0.out.trans (hb.mono HB0.out.size)⟩
    cases r with
    | true =>
      have hct := of_decide_eq_true HR.out
      obtain ⟨_, hsz, _⟩ := cT_same hct
      have hMM : joinM (noneM n1 n2) 0 0 n1 = M' := by
        have h := hM.out
        unfold alikeM at h
        rw [if_pos hct, hks, hks'] at h
        exact h
      have hz0' : y0.1.z = (n1 : Int) := by rw [← hyy]; show (k.size : Int) + 1 = _; omega
      have HJOIN : Fact (Calls Try.prog 31 #[sdV n1 gi ci gq ck gp cp, sdV n2 gi' ci' gq' ck' gp' cp', .int .i64 0, .int .i64 0] w5 fun e w' => (∃ v, e = .returned v) ∧ Kept (TT ⟨n1, gi, ci, gq, ck, gp, cp, its, kks⟩ ⟨n2, gi', ci', gq', ck', gp', cp', its', kks'⟩) w5 w' ∧ Two (TT ⟨n1, gi, ci, gq, ck, gp, cp, its, kks⟩ ⟨n2, gi', ci', gq', ck', gp', cp', its', kks'⟩) w' ⟨n1, gi, ci, gq, ck, gp, cp, its, kks⟩ ⟨n2, gi', ci', gq', ck', gp', cp', its', kks'⟩ M') := ⟨by
        have h := join_any _ ⟨n1, gi, ci, gq, ck, gp, cp, its, kks⟩ ⟨n2, gi', ci', gq', ck', gp', cp', its', kks'⟩ _ w5 HF5.out.two 0 0 n1 y0 hy0 hz0' (by show 0 + n1 ≤ n1; omega) (by show 0 + n1 ≤ n2; omega)
        rw [show joinM (noneM (Sd.mk n1 gi ci gq ck gp cp its kks).n (Sd.mk n2 gi' ci' gq' ck' gp' cp' its' kks').n) 0 0 n1 = M' from hMM] at h
        exact h⟩
      clear hM hy0 hyy hMM hz0' hct hsz
      go_upto_region 6 with (go_at_call 31; refine HJOIN.out.mono ?_; rintro e w6 ⟨⟨v6, rfl⟩, hk6, h26⟩)
      have HF6 := Fact.mk (HF5.out.step hk6 h26)
      clear x0 x1 x2 z0 z1 z2 HJOIN hk6 h26
      have x0 := HF6.out.ba.c0
      have x1 := HF6.out.ba.c1
      have x2 := HF6.out.ba.c2
      dsimp only at x0 x1 x2
      have HP := Fact.mk (pairs_any n1 gi ci gq ck gp cp M'.a w6 HF6.out.two.pa hs1)
      go_wp2_with (go_at_call 32; refine HP.out.mono ?_; rintro e w7 ⟨v7, rfl, hb7, hr7⟩)
      go_ret
      have hB6 := H0.out w6 () HF6.out.below
      exact ⟨v7, rfl, hB6.trans (hb7.mono hB6.size), ⟨own_lessP hr7.out hB6.size⟩⟩
    | false =>
      have hct := of_decide_eq_false HR.out
      obtain ⟨y0', hy0'⟩ : ∃ y, its'[0]? = some y := by
        have h1 := congrArg List.length HSB.out.it
        rw [List.length_map, flatT_len, hks'] at h1
        exact ⟨its'[0]'(by have := h1; dsimp only at this; omega), by simp⟩
      have hyy' : (⟨-1, k'.size + 1, 0, k'.depth + 1, 0, ⟨K', N', X', A'⟩⟩ : Im) = y0'.1 := by
        have h1 : (its'.map (·.1))[0]? = some y0'.1 := by rw [List.getElem?_map, hy0']; rfl
        have h2 := HSB.out.it
        dsimp only at h2
        rw [h2, flatT] at h1
        simpa using h1
      obtain ⟨dA, hdA⟩ : ∃ a, k.depth + 1 = a := ⟨_, rfl⟩
      obtain ⟨dB, hdB⟩ : ∃ a, k'.depth + 1 = a := ⟨_, rfl⟩
      have hh0 : y0.1.h = (dA : Int) := by rw [← hyy, ← hdA]; rfl
      have hh0' : y0'.1.h = (dB : Int) := by rw [← hyy', ← hdB]; rfl
      have hkk := HSB.out.ke
      dsimp only at hkk
      have HPL := Fact.mk (places_any n2 gi' ci' gq' ck' gp' cp' kks' w5 HF5.out.two.sb.ke HF5.out.two.sb.lk (by omega) hs2 (by rw [hkk]; exact keyL_ok _ _ (by omega) (by omega)))
      have hgp := HF5.out.two.pa.lt gp rfl
      have hgp' := HF5.out.two.pb.lt gp' rfl
      go_upto_region 8 with (go_at_call 33; refine HPL.out.mono ?_; rintro e w6 ⟨rfl, hb6, hm6⟩)
      have HF6 := Fact.mk (HF5.out.up hb6)
      clear x0 x1 x2 z0 z1 z2 hb6 HPL hyy hyy' hkk
      have x0 := HF6.out.ba.c0
      have x1 := HF6.out.ba.c1
      have x2 := HF6.out.ba.c2
      have z0 := HF6.out.bb.c0
      have z1 := HF6.out.bb.c1
      have z2 := HF6.out.bb.c2
      dsimp only at x0 x1 x2 z0 z1 z2
      have q0 := (it_at HF6.out.two.sa.it hy0).2
      have q0' := (it_at HF6.out.two.sb.it hy0').2
      rw [hh0] at q0
      rw [hh0'] at q0'
      have t1 := (row10_at HF6.out.two.sa.it hy0).2.2.2.2
      have t2 := (row10_at HF6.out.two.sb.it hy0').2.2.2.2
      have t11 := t1.1
      have t12 := t1.2.1
      have t13 := t1.2.2
      have t21 := t2.1
      have t22 := t2.2.1
      have t23 := t2.2.2
      simp only [Nat.zero_mul, Nat.zero_add] at q0 q0'
      dsimp only at q0 q0' t11 t12 t13 t21 t22 t23
      have hM2 : downM (flatT ⟨K, N, X, A⟩ k) (smT (subsT ⟨K, N, X, A⟩ k) (subsT ⟨K', N', X', A'⟩ k')) n1 n2 (noneM n1 n2) (min (dA : Int) (dB : Int)) (min (dA : Int) (dB : Int) - max least 1 + 1).toNat = M' := by
        have h := hM.out
        unfold alikeM at h
        rw [if_neg hct, hks, hks', hdA, hdB] at h
        exact h
      have HM2 := Fact.mk hM2
      clear hM hM2 hct t1 t2 hy0 hy0' hh0 hh0'
      go_region
      have HF7 := Fact.mk (HF6.out.up (Below.refl _ w6).drew)
      have HM7 : Fact (MapG w6.drew (w5.heap.size + 2) (w5.heap.size + 1) (n2 - 1) (idsK kks')) := ⟨hm6.out.keep rfl (fun _ _ _ => rfl)⟩
      obtain ⟨W7, hW7⟩ : ∃ W7, w6.drew = W7 := ⟨_, rfl⟩
      rw [hW7] at HF7 HM7
      try rw [hW7]
      clear HF6 hm6 hW7 x0 x1 x2 z0 z1 z2 q0 q0'
      obtain ⟨mx, hmx⟩ : ∃ mx, max least 1 = mx := ⟨_, rfl⟩
      have hmx1 : 1 ≤ mx := by omega
      obtain ⟨h0, hh0⟩ : ∃ h, min (dA : Int) (dB : Int) = h := ⟨_, rfl⟩
      have hb0 : 0 ≤ h0 ∧ h0 ≤ 1000000 := by omega
      rw [hmx, hh0] at HM2
      rw [hh0]
      clear hh0
      go_wp2_with fail
      go_loopg [10] (h0 - mx + 1).toNat (fun gf hv wr => ∃ (h : Int) (Mi : Mt), hv = .int .i64 h ∧ (h - mx + 1).toNat ≤ gf ∧ (0 ≤ h ∧ h ≤ 1000000) ∧ Fact (Aft W0 ⟨n1, gi, ci, gq, ck, gp, cp, its, kks⟩ ⟨n2, gi', ci', gq', ck', gp', cp', its', kks'⟩ X1 X2 Mi wr) ∧ Fact (MapG wr (w5.heap.size + 2) (w5.heap.size + 1) (n2 - 1) (idsK kks')) ∧ Fact (downM (flatT ⟨K, N, X, A⟩ k) (smT (subsT ⟨K, N, X, A⟩ k) (subsT ⟨K', N', X', A'⟩ k')) n1 n2 Mi h (h - mx + 1).toNat = M'))
      case atStart => exact ⟨h0, _, rfl, Nat.le_refl _, hb0, HF7, HM7, HM2⟩
      case round =>
        obtain ⟨h, Mi, rfl, hgf, hbh, hJ, hG, hD⟩ := hrel
        have x0 := hJ.out.ba.c0
        have x1 := hJ.out.ba.c1
        have x2 := hJ.out.ba.c2
        have z0 := hJ.out.bb.c0
        have z1 := hJ.out.bb.c1
        have z2 := hJ.out.bb.c2
        dsimp only at x0 x1 x2 z0 z1 z2
        by_cases hlt : h < mx
        · have hd1 : decide (h ≥ mx) = false := decide_eq_false (by omega)
          have hd2 : decide (mx ≤ h) = false := decide_eq_false (by omega)
          have hRR : Mi = M' := by
            have hq := hD.out
            rw [show (h - mx + 1).toNat = 0 by omega] at hq
            exact hq
          have HP := Fact.mk (pairs_any n1 gi ci gq ck gp cp M'.a wr (by have hq := hJ.out.two.pa; rw [hRR] at hq; exact hq) hs1)
          clear hD
          go_wp2_with (go_at_call 32; refine HP.out.mono ?_; rintro e w9 ⟨v9, rfl, hb9, hr9⟩)
          go_ret
          have hB6 := H0.out wr () hJ.out.below
          exact ⟨v9, rfl, hB6.trans (hb9.mono hB6.size), ⟨own_lessP hr9.out hB6.size⟩⟩
        · have hge : mx ≤ h := by omega
          have hd1 : decide (h ≥ mx) = true := decide_eq_true (by omega)
          have hd2 : decide (mx ≤ h) = true := decide_eq_true (by omega)
          obtain ⟨Mn, hMn⟩ : ∃ Mn, rndM (flatT ⟨K, N, X, A⟩ k) (smT (subsT ⟨K, N, X, A⟩ k) (subsT ⟨K', N', X', A'⟩ k')) n2 h Mi 1 (n1 - 1) = Mn := ⟨_, rfl⟩
          have HNX : Fact (downM (flatT ⟨K, N, X, A⟩ k) (smT (subsT ⟨K, N, X, A⟩ k) (subsT ⟨K', N', X', A'⟩ k')) n1 n2 Mn (h - 1) (h - 1 - mx + 1).toNat = M') := ⟨by
            have hq := hD.out
            rw [show (h - mx + 1).toNat = (h - 1 - mx + 1).toNat + 1 by omega, downM, hMn] at hq
            exact hq⟩
          have HCALL : Fact (Calls Try.prog 34 #[sdV n1 gi ci gq ck gp cp, sdV n2 gi' ci' gq' ck' gp' cp', .map (some (w5.heap.size + 1)), .int .i64 h] wr fun e w' => (∃ v, e = .returned v) ∧ Kept (TT ⟨n1, gi, ci, gq, ck, gp, cp, its, kks⟩ ⟨n2, gi', ci', gq', ck', gp', cp', its', kks'⟩) wr w' ∧ Two (TT ⟨n1, gi, ci, gq, ck, gp, cp, its, kks⟩ ⟨n2, gi', ci', gq', ck', gp', cp', its', kks'⟩) w' ⟨n1, gi, ci, gq, ck, gp, cp, its, kks⟩ ⟨n2, gi', ci', gq', ck', gp', cp', its', kks'⟩ Mn) :=
            ⟨high_any ⟨n1, gi, ci, gq, ck, gp, cp, its, kks⟩ ⟨n2, gi', ci', gq', ck', gp', cp', its', kks'⟩ ⟨K, N, X, A⟩ ⟨K', N', X', A'⟩ k k' HSA.out HSB.out Mi Mn wr hJ.out.two (w5.heap.size + 1) (w5.heap.size + 2) (n2 - 1) hG.out ⟨by show gp < _; omega, by show gp' < _; omega, by show gp ≠ _; omega, by show gp' ≠ _; omega⟩ (by omega) h ⟨hMn⟩⟩
          obtain ⟨g', rfl⟩ : ∃ g', gk = g' + 1 := ⟨gk - 1, by omega⟩
          clear hD hMn
          go_wp2_with (go_at_call 34; refine HCALL.out.mono ?_; rintro e w8 ⟨⟨v8, rfl⟩, hk8, h28⟩)
          have HF8 := Fact.mk (hJ.out.step hk8 h28)
          have HM8 : Fact (MapG w8 (w5.heap.size + 2) (w5.heap.size + 1) (n2 - 1) (idsK kks')) := ⟨hG.out.kept (a := ⟨n1, gi, ci, gq, ck, gp, cp, its, kks⟩) (b := ⟨n2, gi', ci', gq', ck', gp', cp', its', kks'⟩) hk8 ⟨by show gp < _; omega, by show gp' < _; omega, by show gp ≠ _; omega, by show gp' ≠ _; omega⟩⟩
          go_roundg g'
          case measure => omega
          case rel => exact ⟨h - 1, Mn, by go_num, by omega, by omega, HF8, HM8, HNX⟩
end Go.Proofs.Ytkojhgagkoeeiaa
end

/- What the statement asks beside Alike: Few, the chapter's Dice and Half, SamePairs. -/
section
set_option linter.unusedVariables false
set_option linter.unusedSimpArgs false
namespace Go.Proofs.Ytkojhgagkoeeiaa
open Go.Deep (BT)
open Go.RowKit Go.Shelf M

theorem ci_pos {a b : Int} (h : b < a) : ci a b = 1 := by unfold ci; rw [if_neg (by omega), if_pos h]
theorem ci_neg' {a b : Int} (h : a < b) : ci a b = -1 := by unfold ci; rw [if_pos h]
theorem ci_nil {a b : Int} (h : ¬ b < a) (k : ¬ a < b) : ci a b = 0 := by unfold ci; rw [if_neg k, if_neg h]
theorem wr64 {x y : Int} (h : x = y) (h1 : -1000000000000000000 ≤ y) (h2 : y ≤ 1000000000000000000) : IntKind.i64.wrap x = y := by
  subst h
  unfold IntKind.wrap
  simp [IntKind.bits, IntKind.signed]
  omega
/-- the chapter's comparison -/
theorem rd_nn (c s d t m m2 r : Int) (hs : ¬ s = 0) (ht : ¬ t = 0) (w1 : IntKind.i64.wrap (c * t) = m) (w2 : IntKind.i64.wrap (d * s) = m2) (hr : Fact (ci m m2 = r)) (w : World) :
    Calls Try.prog 11 #[.int .i64 c, .int .i64 s, .int .i64 d, .int .i64 t] w fun e w' => e = .returned (.int .i64 r) ∧ w' = w := by
  by_cases h1 : m2 < m
  · have h : r = 1 := by rw [← hr.out]; exact ci_pos h1
    subst h
    clear hr
    go_enter Try.func11, Try.ntmps11
    go_wp2
    go_ret
    exact ⟨rfl, rfl⟩
  · by_cases h2 : m < m2
    · have h : r = -1 := by rw [← hr.out]; exact ci_neg' h2
      subst h
      clear hr
      go_enter Try.func11, Try.ntmps11
      go_wp2
      go_ret
      exact ⟨rfl, rfl⟩
    · have h : r = 0 := by rw [← hr.out]; exact ci_nil h1 h2
      subst h
      clear hr
      go_enter Try.func11, Try.ntmps11
      go_wp2
      go_ret
      exact ⟨rfl, rfl⟩
theorem rd_0n (c d t r : Int) (ht : ¬ t = 0) (hd : Big d) (hr : Fact (ci 0 d = r)) (w : World) :
    Calls Try.prog 11 #[.int .i64 c, .int .i64 0, .int .i64 d, .int .i64 t] w fun e w' => e = .returned (.int .i64 r) ∧ w' = w := by
  have w1 : IntKind.i64.wrap (0 * t) = 0 := wr64 (by simp) (by omega) (by omega)
  have d0 := hd.lo
  have d1 := hd.hi
  have w2 : IntKind.i64.wrap (d * 1) = d := wr64 (by simp) (by omega) (by omega)
  have w2' : IntKind.i64.wrap d = d := wr64 rfl (by omega) (by omega)
  by_cases h2 : 0 < d
  · have h : r = -1 := by rw [← hr.out]; exact ci_neg' h2
    subst h
    have hn : ¬ d < 0 := by omega
    clear hr hd
    go_enter Try.func11, Try.ntmps11
    go_wp2
    go_ret
    exact ⟨rfl, rfl⟩
  · have h0 : d = 0 := by omega
    subst h0
    have h : r = 0 := by rw [← hr.out]; rfl
    subst h
    clear hr hd d0 d1 h2 w2'
    go_enter Try.func11, Try.ntmps11
    go_wp2
    go_ret
    exact ⟨rfl, rfl⟩
theorem rd_n0 (c s d r : Int) (hs : ¬ s = 0) (hc : Big c) (hr : Fact (ci c 0 = r)) (w : World) :
    Calls Try.prog 11 #[.int .i64 c, .int .i64 s, .int .i64 d, .int .i64 0] w fun e w' => e = .returned (.int .i64 r) ∧ w' = w := by
  have w1 : IntKind.i64.wrap (0 * s) = 0 := wr64 (by simp) (by omega) (by omega)
  have d0 := hc.lo
  have d1 := hc.hi
  have w2 : IntKind.i64.wrap (c * 1) = c := wr64 (by simp) (by omega) (by omega)
  have w2' : IntKind.i64.wrap c = c := wr64 rfl (by omega) (by omega)
  by_cases h2 : 0 < c
  · have h : r = 1 := by rw [← hr.out]; exact ci_pos h2
    subst h
    clear hr hc
    go_enter Try.func11, Try.ntmps11
    go_wp2
    go_ret
    exact ⟨rfl, rfl⟩
  · have h0 : c = 0 := by omega
    subst h0
    have h : r = 0 := by rw [← hr.out]; rfl
    subst h
    clear hr hc d0 d1 h2 w2'
    go_enter Try.func11, Try.ntmps11
    go_wp2
    go_ret
    exact ⟨rfl, rfl⟩
theorem rd_00 (c d : Int) (w : World) :
    Calls Try.prog 11 #[.int .i64 c, .int .i64 0, .int .i64 d, .int .i64 0] w fun e w' => e = .returned (.int .i64 0) ∧ w' = w := by
  go_enter Try.func11, Try.ntmps11
  go_wp2
  go_ret
  exact ⟨rfl, rfl⟩
theorem rDice_any (c s d t r : Int) (hc : Big c) (hs : Big s) (hd : Big d) (ht : Big t) (hr : Fact (dice c s d t = r)) (w : World) :
    Calls Try.prog 11 #[.int .i64 c, .int .i64 s, .int .i64 d, .int .i64 t] w fun e w' => e = .returned (.int .i64 r) ∧ w' = w := by
  have e := hr.out
  unfold dice at e
  by_cases h1 : s = 0
  · subst h1
    by_cases h2 : t = 0
    · subst h2
      have : r = 0 := by rw [← e]; rfl
      subst this
      exact rd_00 c d w
    · have e1 : shA c 0 * shB t = 0 := by unfold shA; simp
      have e2 : shA d t * shB 0 = d := by unfold shA shB; rw [if_neg h2]; simp
      rw [e1, e2] at e
      exact rd_0n c d t r h2 hd ⟨e⟩ w
  · by_cases h2 : t = 0
    · subst h2
      have e1 : shA c s * shB 0 = c := by unfold shA shB; rw [if_neg h1]; simp
      have e2 : shA d 0 * shB s = 0 := by unfold shA; simp
      rw [e1, e2] at e
      exact rd_n0 c s d r h1 hc ⟨e⟩ w
    · have e1 : shA c s * shB t = c * t := by unfold shA shB; rw [if_neg h1, if_neg h2]
      have e2 : shA d t * shB s = d * s := by unfold shA shB; rw [if_neg h1, if_neg h2]
      rw [e1, e2] at e
      have k1 := big_mul hc ht
      have k2 := big_mul hd hs
      exact rd_nn c s d t (c * t) (d * s) r h1 h2 (wr64 rfl (by omega) k1.2) (wr64 rfl (by omega) k2.2) ⟨e⟩ w
theorem rHalf_any (c s : Int) (w : World) (r : Bool) (hr : Fact (decide (s < 4 * c) = r)) (hc : Big c) :
    Calls Try.prog 13 #[.int .i64 c, .int .i64 s] w fun e w' => e = .returned (.bool r) ∧ w' = w := by
  have h0 := hc.lo
  have h1 := hc.hi
  have w1 : IntKind.i64.wrap (4 * c) = 4 * c := wr64 rfl (by omega) (by omega)
  clear h0 h1 hc
  go_enter Try.func13, Try.ntmps13
  go_wp2
  go_ret
  exact ⟨ret_bool hr.out, rfl⟩

theorem infoIntS : (Try.prog.info? 3).map (·.size) = some 1 := by kernel_rfl
theorem eqPair (a b : Int) (w : World) : (Op.equalIn 10000 46 (.agg #[.int .i64 a, .int .i64 b]) (.agg #[.int .i64 a, .int .i64 b])).run Try.prog w = .ok true w := by
  have hq := infoIntS
  cases hi : Try.prog.info? 3 with
  | none => rw [hi] at hq; cases hq
  | some i =>
    rw [hi] at hq
    simp at hq
    have e : ∀ (a b : Int) (w : World), (Op.equalIn 9999 3 (.int .i64 a) (.int .i64 b)).run Try.prog w = .ok (a == b) w := fun a b w => run_equalIn_int w 9998 3 .i64 .i64 a b Try.underlying3
    show (Op.equalIn (9999 + 1) 46 _ _).run Try.prog w = _
    rw [Op.equalIn]
    simp [run_underlying Try.underlying46, sizeOf, typeInfo, hi, hq, List.range', part, e, Result.andThen]
end Go.Proofs.Ytkojhgagkoeeiaa
end

section
set_option linter.unusedVariables false
set_option linter.unusedSimpArgs false
namespace Go.Proofs.Ytkojhgagkoeeiaa
open Go.Deep (BT)
open Go.RowKit Go.Shelf M

theorem pair_at {w : World} {B n : Nat} {v : Value} {l : List (Nat × Int)} (h : w.ownsRow B 46 2 v n (cP l)) {i : Nat} {y : Nat × Int} (hy : l[i]? = some y) :
    ∃ g c, v = .slice (some ⟨g, 0, none⟩) n c ∧ w.cell? ⟨g, i * 2, none⟩ = some (.int .i64 y.1) ∧ w.cell? ⟨g, i * 2 + 1, none⟩ = some (.int .i64 y.2) ∧ n ≤ c ∧ c ≤ maxLen := by
  have hl := h.1
  rw [cP_len] at hl
  have hi := (List.getElem?_eq_some_iff.1 hy).1
  obtain ⟨g, c, rfl⟩ := ownsRow_pos (by omega) h
  exact ⟨g, c, rfl, (rowC_at h (cP_get hy).1).1, (rowC_at h (cP_get hy).2).1, (rowC_at h (cP_get hy).1).2.2.2.2.1, (rowC_at h (cP_get hy).1).2.2.2.2.2⟩
theorem own_shape19 {w : World} {B E z n : Nat} {v : Value} {xs : List Value} (h : w.ownsRow B E z v n xs) : ∃ a c, v = .slice a n c := by
  rcases h.2 with ⟨e, h0⟩ | ⟨g, c, cur, e, _⟩
  · exact ⟨none, 0, by rw [e, h0]⟩
  · exact ⟨_, _, e⟩

set_option maxRecDepth 20000 in
set_option maxHeartbeats 4000000 in
theorem samePairs_any (l : List (Nat × Int)) (B B' n : Nat) (va vb : Value) (w : World) (hn : l.length = n) (h6 : n ≤ 1000000) (ha : w.ownsRow B 46 2 va n (cP l)) (hb : w.ownsRow B' 46 2 vb n (cP l)) :
    Calls Try.prog 17 #[va, vb] w fun e w' => e = .returned (.bool true) ∧ Below w.heap.size w w' := by
  have HA := Fact.mk ha
  have HB := Fact.mk hb
  obtain ⟨a1, c1, e1⟩ := own_shape19 ha
  obtain ⟨a2, c2, e2⟩ := own_shape19 hb
  subst e1 e2
  clear ha hb
  have hnn : ((n : Int) != (n : Int)) = false := by simp
  have J0 : Fact (Below w.heap.size w w) := ⟨Below.refl _ _⟩
  go_enter Try.func17, Try.ntmps17
  go_wp2_with fail
  go_loopg [5] n (fun gf iv wr => ∃ i : Nat, iv = .int .i64 i ∧ i ≤ n ∧ n - i ≤ gf ∧ Fact (Below w.heap.size w wr))
  case atStart => exact ⟨0, rfl, Nat.zero_le _, Nat.le_refl _, J0⟩
  case round =>
    obtain ⟨i, rfl, hin, hgf, hJ⟩ := hrel
    by_cases hjz : i = n
    · subst hjz
      have hdec : decide ((i : Int) < (i : Int)) = false := decide_eq_false (by omega)
      go_wp2_with fail
      go_ret
      exact ⟨rfl, hJ.out⟩
    · have hlt : i < n := by omega
      have hdec : decide ((i : Int) < (n : Int)) = true := decide_eq_true (by omega)
      obtain ⟨y, hy⟩ : ∃ y, l[i]? = some y := ⟨l[i]'(by omega), by simp⟩
      obtain ⟨g, c, e, k0, k1, k2, k3⟩ := pair_at (own_upH HA.out hJ.out) hy
      obtain ⟨g', c', e', k0', k1', k2', k3'⟩ := pair_at (own_upH HB.out hJ.out) hy
      cases e
      cases e'
      obtain ⟨y1, y2⟩ := y
      dsimp only at k0 k1 k0' k1'
      have he : ∀ W : World, (Op.equalIn 10000 46 (.agg #[.int .i64 (y1 : Int), .int .i64 y2]) (.agg #[.int .i64 (y1 : Int), .int .i64 y2])).run Try.prog W = .ok true W := fun W => eqPair y1 y2 W
      obtain ⟨G', rfl⟩ : ∃ g', gk = g' + 1 := ⟨gk - 1, by omega⟩
      clear hy
      go_wp2_with fail
      go_quiet (fail)
      go_wp2_with fail
      go_roundg G'
      case measure => omega
      case rel => exact ⟨i + 1, by go_num, by omega, by omega, ⟨below_drewN hJ.out nq⟩⟩
theorem rsize19 (d : Nd) (k : M.F) (Z : Nat) (va ka : Value) (n : Nat) (W : World) (hZ : k.size + 1 = Z) (hz : Z ≤ 1000000) (hl : Lies n W d k va ka) (hn : n ≤ W.heap.size) :
    Calls Try.prog 25 #[nodeV d va ka] W fun e w' => e = .returned (.int .i64 Z) ∧ Below W.heap.size W w' := by
  have h := rsize_any k d va ka n W hl hn (by omega)
  rw [hZ] at h
  exact h
set_option maxRecDepth 20000 in
set_option maxHeartbeats 4000000 in
theorem few_any (d : Nd) (k : M.F) (av kv : Value) (w : World) (hl : Lies w.heap.size w d k av kv) :
    Calls Try.prog 7 #[nodeV d av kv] w fun e w' => (e = .returned (.bool false) ∧ Below w.heap.size w w') ∨ (e = .returned (.bool true) ∧ Below w.heap.size w w' ∧ Fact (Fits 0 0 d k ∧ k.size + 1 ≤ 60)) := by
  obtain ⟨p1, p2, p3, e1⟩ := hl.a.val
  obtain ⟨q1, q2, e2⟩ := hl.f.val
  subst e1 e2
  obtain ⟨kl, hkl⟩ : ∃ kl, k.len = kl := ⟨_, rfl⟩
  rw [hkl] at hl ⊢
  clear hkl
  obtain ⟨K, N, X, A⟩ := d
  obtain ⟨W1, hW1⟩ : ∃ W1, w.alloc (.cells #[.int .i64 K, .string N, .string X, .slice p1 p2 p3, .slice q1 kl q2] 25) = W1 := ⟨_, rfl⟩
  have hB1 : Below w.heap.size w W1 := by rw [← hW1]; exact (Below.refl _ w).alloc (Nat.le_refl _) _
  have hbx : Box5 w.heap.size K N X (.slice p1 p2 p3) (.slice q1 kl q2) W1 := by rw [← hW1]; exact Box5.new _ _ _ _ _ _ _
  have HL := Fact.mk hl
  have HBX := Fact.mk hbx
  have HB1 := Fact.mk hB1
  have HW1 := Fact.mk hW1
  have b0 := hbx.c0
  have b1 := hbx.c1
  have b2 := hbx.c2
  have b3 := hbx.c3
  have b4 := hbx.c4
  clear hB1 hW1 hbx hl
  go_enter Try.func7, Try.ntmps7
  go_upto_region 1 with fail
  rw [HW1.out]
  go_wp2_with fail
  refine (Small_any ⟨K, N, X, A⟩ k _ _ w.heap.size W1 (HL.out.below HB1.out) HB1.out.size).mono ?_
  rintro e w1 (⟨rfl, hb1⟩ | ⟨rfl, hb1, f1⟩)
  · go_wp2_with fail
    go_ret
    exact .inl ⟨rfl, HB1.out.trans (hb1.mono HB1.out.size)⟩
  · have hbx1 := HBX.out.keep hb1
    have y0 := hbx1.c0
    have y1 := hbx1.c1
    have y2 := hbx1.c2
    have y3 := hbx1.c3
    have y4 := hbx1.c4
    have HBa : Fact (Below w.heap.size w w1) := ⟨HB1.out.trans (hb1.mono HB1.out.size)⟩
    obtain ⟨Z, hZ⟩ : ∃ Z, k.size + 1 = Z := ⟨_, rfl⟩
    have hz6 : Z ≤ 1000000 := by have := f1.out.size; omega
    clear b0 b1 b2 b3 b4 hb1 hbx1
    by_cases h60 : Z ≤ 60
    · have hd1 : decide ((Z : Int) ≤ 60) = true := decide_eq_true (by omega)
      go_wp2_with fail
      refine (rsize19 ⟨K, N, X, A⟩ k Z _ _ w.heap.size w1 hZ hz6 (HL.out.below HBa.out) HBa.out.size).mono ?_
      rintro e w2 ⟨rfl, hb2⟩
      go_wp2_with fail
      go_ret
      exact .inr ⟨rfl, HBa.out.trans (hb2.mono HBa.out.size), ⟨f1.out, by omega⟩⟩
    · have hd1 : decide ((Z : Int) ≤ 60) = false := decide_eq_false (by omega)
      go_wp2_with fail
      refine (rsize19 ⟨K, N, X, A⟩ k Z _ _ w.heap.size w1 hZ hz6 (HL.out.below HBa.out) HBa.out.size).mono ?_
      rintro e w2 ⟨rfl, hb2⟩
      go_wp2_with fail
      go_ret
      exact .inl ⟨rfl, HBa.out.trans (hb2.mono HBa.out.size)⟩
end Go.Proofs.Ytkojhgagkoeeiaa
end
