/- SimilarAll, walked. -/
import Derived.Test.YtkojhgagkoeeiaaZD
import Derived.Test.YtkojhgagkoeeiaaZG
import Derived.Test.YtkojhgagkoeeiaaZF
import Derived.Test.YtkojhgagkoeeiaaCopy
import Derived.Test.YtkojhgagkoeeiaaRunA
section
set_option linter.unusedVariables false
set_option linter.unusedSimpArgs false
namespace Go.Proofs.Ytkojhgagkoeeiaa
open Go.Deep (BT)
open Go.RowKit Go.Shelf M

theorem OKM.down {n m : Nat} (xs : List Im) (sm : Nat → Nat → Bool) (a b : Nat) : ∀ (c : Nat) {M : Mt} (h : OKM n m M) (hh : Int), OKM n m (downM xs sm a b M hh c)
  | 0, _, h, _ => h
  | c + 1, _, h, hh => OKM.down xs sm a b c (h.rnd xs sm b hh _ 1) (hh - 1)
theorem okm_alike (d : Nd) (k : M.F) (d' : Nd) (k' : M.F) (least : Int) : OKM (k.size + 1) (k'.size + 1) (alikeM d k d' k' least) := by
  unfold alikeM
  split
  · exact (OKM.start _ _).join _ _ _
  · exact OKM.down _ _ _ _ _ (OKM.start _ _) _
/-- a copy is the same tree, in memory of its own -/
theorem copy19 {W : World} {K : Int} {N X : ByteArray} {A : List (ByteArray × ByteArray)} {k : M.F} {va ka : Value} {kl : Nat} (hkl : k.len = kl) (ha : Lies W.heap.size W ⟨K, N, X, A⟩ k va ka) (f : Fits 0 0 ⟨K, N, X, A⟩ k) :
    Calls Try.prog 15 #[.agg #[.int .i64 K, .string N, .string X, va, ka]] W fun e w' => ∃ y1 y2 y3 z1 z3, e = .returned (.agg #[.int .i64 K, .string N, .string X, .slice y1 y2 y3, .slice z1 kl z3]) ∧ Below W.heap.size W w' ∧
      Fact (Lies w'.heap.size w' ⟨K, N, X, A⟩ k (.slice y1 y2 y3) (.slice z1 kl z3)) := by
  have f1 := f.size
  have f2 := f.slots
  dsimp only at f2
  refine (copy_any k ⟨K, N, X, A⟩ va ka W.heap.size W ha (Nat.le_refl _) (by dsimp only; omega) (by omega)).mono ?_
  rintro e w' ⟨av', kv', rfl, hb, hA, hF⟩
  obtain ⟨y1, y2, y3, rfl⟩ := hA.val
  obtain ⟨z1, z3, rfl⟩ := hF.val
  rw [hkl] at hF ⊢
  exact ⟨y1, y2, y3, z1, z3, rfl, hb, ⟨⟨hA.inn.mono (fun b hb => hb.2), hF.inn.mono (fun b hb => hb.2)⟩⟩⟩

set_option maxRecDepth 20000 in
set_option maxHeartbeats 8000000 in
/-- trees that may not be have no pairs -/
theorem alike_no (d d' : Nd) (k k' : M.F) (va ka va' ka' : Value) (least : Int) (w : World) (hl : Lies w.heap.size w d k va ka) (hl' : Lies w.heap.size w d' k' va' ka') (hd : k.depth + 2 ≤ 1000000) (hd' : k'.depth + 2 ≤ 1000000)
    (ht : treeOK d k = false ∨ (treeOK d k = true ∧ treeOK d' k' = false)) :
    Calls Try.prog 14 #[nodeV d va ka, nodeV d' va' ka', .int .i64 least] w fun e w' => e = .returned (.slice none 0 0) ∧ Below w.heap.size w w' := by
  obtain ⟨p1, p2, p3, e1⟩ := hl.a.val
  obtain ⟨q1, q2, e2⟩ := hl.f.val
  obtain ⟨p1', p2', p3', e1'⟩ := hl'.a.val
  obtain ⟨q1', q2', e2'⟩ := hl'.f.val
  subst e1 e2 e1' e2'
  obtain ⟨kl, hkl⟩ : ∃ kl, k.len = kl := ⟨_, rfl⟩
  obtain ⟨kl', hkl'⟩ : ∃ kl, k'.len = kl := ⟨_, rfl⟩
  rw [hkl] at hl
  rw [hkl'] at hl'
  rw [hkl, hkl']
  have HKL := Fact.mk hkl
  have HKL' := Fact.mk hkl'
  clear hkl hkl'
  obtain ⟨K, N, X, A⟩ := d
  obtain ⟨K', N', X', A'⟩ := d'
  obtain ⟨W0, hW0⟩ : ∃ W0, (w.alloc (.cells #[.int .i64 K, .string N, .string X, .slice p1 p2 p3, .slice q1 kl q2] 25)).alloc (.cells #[.int .i64 K', .string N', .string X', .slice p1' p2' p3', .slice q1' kl' q2'] 25) = W0 := ⟨_, rfl⟩
  have hB0 : Below w.heap.size w W0 := by rw [← hW0]; exact ((Below.refl _ w).alloc (Nat.le_refl _) _).alloc (by simp) _
  have hz0 : W0.heap.size = w.heap.size + 2 := by rw [← hW0]; simp
  have hx1 : Box5 w.heap.size K N X (.slice p1 p2 p3) (.slice q1 kl q2) W0 := by
    rw [← hW0]; exact (Box5.new _ _ _ _ _ _ _).keep ((Below.refl _ _).alloc (Nat.le_refl _) _)
  have hx2 : Box5 (w.heap.size + 1) K' N' X' (.slice p1' p2' p3') (.slice q1' kl' q2') W0 := by
    have h := Box5.new (w.alloc (.cells #[.int .i64 K, .string N, .string X, .slice p1 p2 p3, .slice q1 kl q2] 25)) K' N' X' (.slice p1' p2' p3') (.slice q1' kl' q2') 25
    rw [hW0, World.size_alloc] at h
    exact h
  have HA : Fact (∀ W, Below W0.heap.size W0 W → Lies W.heap.size W ⟨K, N, X, A⟩ k (.slice p1 p2 p3) (.slice q1 kl q2)) := ⟨fun W hb => by
    have h := hB0.trans (hb.mono hB0.size)
    exact (hl.below h).here h.size⟩
  have HA' : Fact (∀ W, Below W0.heap.size W0 W → Lies W.heap.size W ⟨K', N', X', A'⟩ k' (.slice p1' p2' p3') (.slice q1' kl' q2')) := ⟨fun W hb => by
    have h := hB0.trans (hb.mono hB0.size)
    exact (hl'.below h).here h.size⟩
  have HS : Fact (∀ W, Below W0.heap.size W0 W → Below W0.heap.size W0 W ∧ (W.cell? ⟨w.heap.size, 0, none⟩ = some (.int .i64 K) ∧ W.cell? ⟨w.heap.size, 1, none⟩ = some (.string N) ∧ W.cell? ⟨w.heap.size, 2, none⟩ = some (.string X) ∧ W.cell? ⟨w.heap.size, 3, none⟩ = some (.slice p1 p2 p3) ∧ W.cell? ⟨w.heap.size, 4, none⟩ = some (.slice q1 kl q2) ∧ W.cell? ⟨w.heap.size + 1, 0, none⟩ = some (.int .i64 K') ∧ W.cell? ⟨w.heap.size + 1, 1, none⟩ = some (.string N') ∧ W.cell? ⟨w.heap.size + 1, 2, none⟩ = some (.string X') ∧ W.cell? ⟨w.heap.size + 1, 3, none⟩ = some (.slice p1' p2' p3') ∧ W.cell? ⟨w.heap.size + 1, 4, none⟩ = some (.slice q1' kl' q2'))) := ⟨fun W hb => by
    have a1 := hx1.keep hb
    have a2 := hx2.keep hb
    exact ⟨hb, a1.c0, a1.c1, a1.c2, a1.c3, a1.c4, a2.c0, a2.c1, a2.c2, a2.c3, a2.c4⟩⟩
  obtain ⟨_, b0, b1, b2, b3, b4, g0, g1, g2, g3, g4⟩ := HS.out W0 (Below.refl _ _)
  have HW0 := Fact.mk hW0
  have HB0 := Fact.mk hB0
  have hlt : w.heap.size + 1 < W0.heap.size := by omega
  clear hW0 hB0 hx1 hx2 hl hl'
  have HT := Fact.mk ht
  clear ht
  go_enter Try.func14, Try.ntmps14
  go_upto_region 1 with fail
  rw [HW0.out]
  rcases HT.out with h1 | ⟨h1, h2⟩
  · have HC := Fact.mk (check_at (d := ⟨K, N, X, A⟩) (k := k) (n := W0.heap.size) false ⟨h1⟩ hd (HA.out W0 (Below.refl _ _)) (Nat.le_refl _))
    go_wp2_with (go_at_call 28; refine HC.out.mono ?_; rintro e w1 ⟨rfl, hb1⟩)
    go_ret
    exact ⟨rfl, HB0.out.trans (hb1.mono HB0.out.size)⟩
  · have HC := Fact.mk (check_at (d := ⟨K, N, X, A⟩) (k := k) (n := W0.heap.size) true ⟨h1⟩ hd (HA.out W0 (Below.refl _ _)) (Nat.le_refl _))
    go_wp2_with fail
    refine HC.out.mono ?_
    rintro e w1 ⟨rfl, hb1⟩
    obtain ⟨hbA, c0, c1, c2, c3, c4, f0, f1, f2, f3, f4⟩ := HS.out w1 hb1
    have HC' := Fact.mk (check_at (d := ⟨K', N', X', A'⟩) (k := k') (n := w1.heap.size) false ⟨h2⟩ hd' (HA'.out w1 hbA) (Nat.le_refl _))
    clear b0 b1 b2 b3 b4 g0 g1 g2 g3 g4
    go_wp2_with fail
    refine HC'.out.mono ?_
    rintro e w2 ⟨rfl, hb2⟩
    go_wp2_with fail
    go_ret
    have hb12 := hb1.trans (hb2.mono hb1.size)
    exact ⟨rfl, HB0.out.trans (hb12.mono HB0.out.size)⟩

theorem dice_g (c s d t r : Int) (hc : Big c) (hs : Big s) (hd : Big d) (ht : Big t) (hr : Fact (dice c s d t = r)) (w : World) :
    Calls Try.prog 10 #[.int .i64 c, .int .i64 s, .int .i64 d, .int .i64 t] w fun e w' => e = .returned (.int .i64 r) ∧ w' = w := by
  rw [← hr.out]; exact dice_any c s d t hc hs hd ht w
theorem place_9 (v : Int) (w : World) : ∃ q : Nat, q < 1000000001 ∧ ∀ W : World, Calls Try.prog 9 #[.int .i64 v, .int .i64 1000000001] W fun e w' => e = .returned (.int .i64 q) ∧ w' = W := by
  obtain ⟨n, hn⟩ : ∃ n : Nat, n = 1000000001 := ⟨_, rfl⟩
  have e : (1000000001 : Int) = (n : Int) := by omega
  refine ⟨pl v n, by rw [← hn]; exact pl_lt v n (by omega), fun W => ?_⟩
  rw [e]
  exact place_at v n _ ⟨rfl⟩ W (by omega) (by omega)
set_option maxRecDepth 100000 in
set_option maxHeartbeats 8000000 in
theorem similarAll_walk (d : Nd) (k : M.F) (va ka : Value) (d' : Nd) (k' : M.F) (va' ka' : Value) (least xc xs xd xt : Int) (w : World) (hl : Lies w.heap.size w d k va ka) (hl' : Lies w.heap.size w d' k' va' ka') :
    Calls Try.prog 3 #[nodeV d va ka, nodeV d' va' ka', .int .i64 least, .int .i64 xc, .int .i64 xs, .int .i64 xd, .int .i64 xt] w fun e w' => e = .returned (.bool true) ∧ Below w.heap.size w w' := by
  obtain ⟨p1, p2, p3, e1⟩ := hl.a.val
  obtain ⟨q1, q2, e2⟩ := hl.f.val
  obtain ⟨p1', p2', p3', e1'⟩ := hl'.a.val
  obtain ⟨q1', q2', e2'⟩ := hl'.f.val
  subst e1 e2 e1' e2'
  obtain ⟨kl, hkl⟩ : ∃ kl, k.len = kl := ⟨_, rfl⟩
  obtain ⟨kl', hkl'⟩ : ∃ kl, k'.len = kl := ⟨_, rfl⟩
  rw [hkl] at hl
  rw [hkl'] at hl'
  rw [hkl, hkl']
  have HKL := Fact.mk hkl
  have HKL' := Fact.mk hkl'
  clear hkl hkl'
  obtain ⟨K, N, X, A⟩ := d
  obtain ⟨K', N', X', A'⟩ := d'
  obtain ⟨W0, hW0⟩ : ∃ W0, (w.alloc (.cells #[.int .i64 K, .string N, .string X, .slice p1 p2 p3, .slice q1 kl q2] 25)).alloc (.cells #[.int .i64 K', .string N', .string X', .slice p1' p2' p3', .slice q1' kl' q2'] 25) = W0 := ⟨_, rfl⟩
  have hB0 : Below w.heap.size w W0 := by rw [← hW0]; exact ((Below.refl _ w).alloc (Nat.le_refl _) _).alloc (by simp) _
  have hz0 : W0.heap.size = w.heap.size + 2 := by rw [← hW0]; simp
  have hx1 : Box5 w.heap.size K N X (.slice p1 p2 p3) (.slice q1 kl q2) W0 := by
    rw [← hW0]; exact (Box5.new _ _ _ _ _ _ _).keep ((Below.refl _ _).alloc (Nat.le_refl _) _)
  have hx2 : Box5 (w.heap.size + 1) K' N' X' (.slice p1' p2' p3') (.slice q1' kl' q2') W0 := by
    have h := Box5.new (w.alloc (.cells #[.int .i64 K, .string N, .string X, .slice p1 p2 p3, .slice q1 kl q2] 25)) K' N' X' (.slice p1' p2' p3') (.slice q1' kl' q2') 25
    rw [hW0, World.size_alloc] at h
    exact h
  have HA : Fact (∀ W, Below W0.heap.size W0 W → Lies W.heap.size W ⟨K, N, X, A⟩ k (.slice p1 p2 p3) (.slice q1 kl q2)) := ⟨fun W hb => by
    have h := hB0.trans (hb.mono hB0.size)
    exact (hl.below h).here h.size⟩
  have HA' : Fact (∀ W, Below W0.heap.size W0 W → Lies W.heap.size W ⟨K', N', X', A'⟩ k' (.slice p1' p2' p3') (.slice q1' kl' q2')) := ⟨fun W hb => by
    have h := hB0.trans (hb.mono hB0.size)
    exact (hl'.below h).here h.size⟩
  have HS : Fact (∀ W, Below W0.heap.size W0 W → Below W0.heap.size W0 W ∧ (W.cell? ⟨w.heap.size, 0, none⟩ = some (.int .i64 K) ∧ W.cell? ⟨w.heap.size, 1, none⟩ = some (.string N) ∧ W.cell? ⟨w.heap.size, 2, none⟩ = some (.string X) ∧ W.cell? ⟨w.heap.size, 3, none⟩ = some (.slice p1 p2 p3) ∧ W.cell? ⟨w.heap.size, 4, none⟩ = some (.slice q1 kl q2) ∧ W.cell? ⟨w.heap.size + 1, 0, none⟩ = some (.int .i64 K') ∧ W.cell? ⟨w.heap.size + 1, 1, none⟩ = some (.string N') ∧ W.cell? ⟨w.heap.size + 1, 2, none⟩ = some (.string X') ∧ W.cell? ⟨w.heap.size + 1, 3, none⟩ = some (.slice p1' p2' p3') ∧ W.cell? ⟨w.heap.size + 1, 4, none⟩ = some (.slice q1' kl' q2'))) := ⟨fun W hb => by
    have a1 := hx1.keep hb
    have a2 := hx2.keep hb
    exact ⟨hb, a1.c0, a1.c1, a1.c2, a1.c3, a1.c4, a2.c0, a2.c1, a2.c2, a2.c3, a2.c4⟩⟩
  obtain ⟨_, b0, b1, b2, b3, b4, g0, g1, g2, g3, g4⟩ := HS.out W0 (Below.refl _ _)
  have HW0 := Fact.mk hW0
  have HB0 := Fact.mk hB0
  have hlt : w.heap.size + 1 < W0.heap.size := by omega
  clear hW0 hB0 hx1 hx2 hl hl'
  have H0 : Fact (∀ (W : World) (v : Unit), Below W0.heap.size W0 W → Below w.heap.size w W) := ⟨fun W _ hb => HB0.out.trans (hb.mono HB0.out.size)⟩
  obtain ⟨c, hc9, PC⟩ := place_9 xc w
  obtain ⟨s, hs9, PS⟩ := place_9 xs w
  obtain ⟨dd, hd9, PD⟩ := place_9 xd w
  obtain ⟨t, ht9, PT⟩ := place_9 xt w
  have FC := Fact.mk PC
  have FS := Fact.mk PS
  have FD := Fact.mk PD
  have FT := Fact.mk PT
  clear PC PS PD PT
  have Bc : Big (c : Int) := ⟨by omega, by omega⟩
  have Bs : Big (s : Int) := ⟨by omega, by omega⟩
  have Bd : Big (dd : Int) := ⟨by omega, by omega⟩
  have Bt : Big (t : Int) := ⟨by omega, by omega⟩
  obtain ⟨r, hr⟩ : ∃ r, dice c s dd t = r := ⟨_, rfl⟩
  obtain ⟨hf, hhf⟩ : ∃ h, decide ((s : Int) < 4 * c) = h := ⟨_, rfl⟩
  have HD1 : Fact (∀ W : World, Calls Try.prog 10 #[.int .i64 c, .int .i64 s, .int .i64 dd, .int .i64 t] W fun e w' => e = .returned (.int .i64 r) ∧ w' = W) := ⟨fun W => dice_g c s dd t r Bc Bs Bd Bt ⟨hr⟩ W⟩
  have HD2 : Fact (∀ W : World, Calls Try.prog 11 #[.int .i64 c, .int .i64 s, .int .i64 dd, .int .i64 t] W fun e w' => e = .returned (.int .i64 r) ∧ w' = W) := ⟨fun W => rDice_any c s dd t r Bc Bs Bd Bt ⟨hr⟩ W⟩
  have HH1 : Fact (∀ W : World, Calls Try.prog 12 #[.int .i64 c, .int .i64 s] W fun e w' => e = .returned (.bool hf) ∧ w' = W) := ⟨fun W => half_any c s W hf ⟨hhf⟩⟩
  have HH2 : Fact (∀ W : World, Calls Try.prog 13 #[.int .i64 c, .int .i64 s] W fun e w' => e = .returned (.bool hf) ∧ w' = W) := ⟨fun W => rHalf_any c s W hf ⟨hhf⟩ Bc⟩
  clear hr hhf Bc Bs Bd Bt hc9 hs9 hd9 ht9
  go_enter Try.func3, Try.ntmps3
  go_upto_region 1 with fail
  rw [HW0.out]
  go_wp2_with fail
  refine (few_any ⟨K, N, X, A⟩ k _ _ W0 (HA.out W0 (Below.refl _ _))).mono ?_
  rintro e w1 (⟨rfl, hb1⟩ | ⟨rfl, hb1, ff1⟩)
  · go_wp2_with (go_at_call 8; refine (awake19_true _).mono ?_; rintro e w9 ⟨rfl, hb9⟩)
    go_ret
    have hb := hb1.trans (hb9.mono hb1.size)
    exact ⟨rfl, H0.out w9 () hb⟩
  obtain ⟨hbA, c0, c1, c2, c3, c4, f0, f1, f2, f3, f4⟩ := HS.out w1 hb1
  clear b0 b1 b2 b3 b4 g0 g1 g2 g3 g4 hb1
  go_wp2_with fail
  refine (few_any ⟨K', N', X', A'⟩ k' _ _ w1 (HA'.out w1 hbA)).mono ?_
  rintro e w2 (⟨rfl, hb2⟩ | ⟨rfl, hb2, ff2⟩)
  · go_wp2_with (go_at_call 8; refine (awake19_true _).mono ?_; rintro e w9 ⟨rfl, hb9⟩)
    go_ret
    have hb := hbA.trans ((hb2.trans (hb9.mono hb2.size)).mono hbA.size)
    exact ⟨rfl, H0.out w9 () hb⟩
  have hB2 : Below W0.heap.size W0 w2 := hbA.trans (hb2.mono hbA.size)
  have HB2 := Fact.mk hB2
  clear c0 c1 c2 c3 c4 f0 f1 f2 f3 f4 hb2 hbA hB2
  have hrr : (r != r) = false := by simp
  have hff : (hf != hf) = false := by simp
  go_wp2_with fail
  refine (FC.out _).mono ?_
  rintro e w3 ⟨rfl, rfl⟩
  go_wp2_with fail
  refine (FS.out _).mono ?_
  rintro e w3 ⟨rfl, rfl⟩
  go_wp2_with fail
  refine (FD.out _).mono ?_
  rintro e w3 ⟨rfl, rfl⟩
  go_wp2_with fail
  refine (FT.out _).mono ?_
  rintro e w3 ⟨rfl, rfl⟩
  go_wp2_with fail
  refine (HD1.out _).mono ?_
  rintro e w3 ⟨rfl, rfl⟩
  go_wp2_with fail
  refine (HD2.out _).mono ?_
  rintro e w3 ⟨rfl, rfl⟩
  go_wp2_with fail
  refine (HH1.out _).mono ?_
  rintro e w3 ⟨rfl, rfl⟩
  go_wp2_with fail
  refine (HH2.out _).mono ?_
  rintro e w3 ⟨rfl, rfl⟩
  have fs1 := ff1.out.1.size
  have fd1 := ff1.out.1.depth
  have fs2 := ff2.out.1.size
  have fd2 := ff2.out.1.depth
  have HKa : Fact (∀ W, Below W0.heap.size W0 W → Calls Try.prog 15 #[.agg #[.int .i64 K, .string N, .string X, .slice p1 p2 p3, .slice q1 kl q2]] W fun e w' => ∃ y1 y2 y3 z1 z3, e = .returned (.agg #[.int .i64 K, .string N, .string X, .slice y1 y2 y3, .slice z1 kl z3]) ∧ Below W.heap.size W w' ∧
      Fact (Lies w'.heap.size w' ⟨K, N, X, A⟩ k (.slice y1 y2 y3) (.slice z1 kl z3))) := ⟨fun W hb => copy19 HKL.out (HA.out W hb) ff1.out.1⟩
  have HKb : Fact (∀ W, Below W0.heap.size W0 W → Calls Try.prog 15 #[.agg #[.int .i64 K', .string N', .string X', .slice p1' p2' p3', .slice q1' kl' q2']] W fun e w' => ∃ y1 y2 y3 z1 z3, e = .returned (.agg #[.int .i64 K', .string N', .string X', .slice y1 y2 y3, .slice z1 kl' z3]) ∧ Below W.heap.size W w' ∧
      Fact (Lies w'.heap.size w' ⟨K', N', X', A'⟩ k' (.slice y1 y2 y3) (.slice z1 kl' z3))) := ⟨fun W hb => copy19 HKL'.out (HA'.out W hb) ff2.out.1⟩
  have hS0 := HS.out w3.drew HB2.out.drew
  go_upto_region 6 with fail
  by_cases hok : treeOK ⟨K, N, X, A⟩ k = true ∧ treeOK ⟨K', N', X', A'⟩ k' = true
  · obtain ⟨ok1, ok2⟩ := hok
    obtain ⟨n, hn⟩ : ∃ n, k.size + 1 = n := ⟨_, rfl⟩
    obtain ⟨n', hn'⟩ : ∃ n, k'.size + 1 = n := ⟨_, rfl⟩
    obtain ⟨M', hM'⟩ : ∃ M', alikeM ⟨K, N, X, A⟩ k ⟨K', N', X', A'⟩ k' least = M' := ⟨_, rfl⟩
    have hOK := okm_alike ⟨K, N, X, A⟩ k ⟨K', N', X', A'⟩ k' least
    rw [hM', hn, hn'] at hOK
    have HOK := Fact.mk hOK
    have HAL : Fact (∀ (y1 : Option Addr) (y2 y3 : Nat) (z1 : Option Addr) (z3 : Nat) (u1 : Option Addr) (u2 u3 : Nat) (v1 : Option Addr) (v3 : Nat) (W : World), Lies W.heap.size W ⟨K, N, X, A⟩ k (.slice y1 y2 y3) (.slice z1 kl z3) → Lies W.heap.size W ⟨K', N', X', A'⟩ k' (.slice u1 u2 u3) (.slice v1 kl' v3) →
        Calls Try.prog 14 #[.agg #[.int .i64 K, .string N, .string X, .slice y1 y2 y3, .slice z1 kl z3], .agg #[.int .i64 K', .string N', .string X', .slice u1 u2 u3, .slice v1 kl' v3], .int .i64 least] W fun e w' => ∃ v, e = .returned v ∧ Below W.heap.size W w' ∧ Fact (w'.ownsRow W.heap.size 46 2 v (pairsF 0 M'.a).length (cP (pairsF 0 M'.a)))) := ⟨fun y1 y2 y3 z1 z3 u1 u2 u3 v1 v3 W h1 h2 =>
      alike_any ⟨K, N, X, A⟩ ⟨K', N', X', A'⟩ k k' _ _ _ _ n n' least W hn hn' ff1.out.1.lim ff2.out.1.lim h1 h2 (by omega) (by omega) ok1 ok2 M' ⟨hM'⟩⟩
    have HRC : Fact (∀ W, Below W0.heap.size W0 W → Calls Try.prog 16 #[.agg #[.int .i64 K, .string N, .string X, .slice p1 p2 p3, .slice q1 kl q2]] W fun e w' => e = .returned (.bool true) ∧ Below W.heap.size W w') := ⟨fun W hb => rcheck_any ⟨K, N, X, A⟩ k _ _ W.heap.size W (HA.out W hb) (Nat.le_refl _) (by omega) (by omega) true ⟨ok1⟩⟩
    have HRC' : Fact (∀ W, Below W0.heap.size W0 W → Calls Try.prog 16 #[.agg #[.int .i64 K', .string N', .string X', .slice p1' p2' p3', .slice q1' kl' q2']] W fun e w' => e = .returned (.bool true) ∧ Below W.heap.size W w') := ⟨fun W hb => rcheck_any ⟨K', N', X', A'⟩ k' _ _ W.heap.size W (HA'.out W hb) (Nat.le_refl _) (by omega) (by omega) true ⟨ok2⟩⟩
    have HRA : Fact (∀ W, Below W0.heap.size W0 W → Calls Try.prog 18 #[.agg #[.int .i64 K, .string N, .string X, .slice p1 p2 p3, .slice q1 kl q2], .agg #[.int .i64 K', .string N', .string X', .slice p1' p2' p3', .slice q1' kl' q2'], .int .i64 least] W fun e w' => ∃ p ga ca gb cb : Nat, e = .returned (.pointer (some ⟨p, 0, none⟩)) ∧ Below W.heap.size W w' ∧ Fact (MM w' (p + 1) p n n' (slV ga n ca) (slV gb n' cb) M')) := ⟨fun W hb =>
      rAlike_any ⟨K, N, X, A⟩ ⟨K', N', X', A'⟩ k k' _ _ _ _ n n' least W hn hn' ff1.out.1.lim ff2.out.1.lim (HA.out W hb) (HA'.out W hb) M' ⟨hM'⟩⟩
    clear ok1 ok2 hM' hOK
    go_region_held3 (fun W => Below W0.heap.size W0 W ∧ (W.cell? ⟨w.heap.size, 0, none⟩ = some (.int .i64 K) ∧ W.cell? ⟨w.heap.size, 1, none⟩ = some (.string N) ∧ W.cell? ⟨w.heap.size, 2, none⟩ = some (.string X) ∧ W.cell? ⟨w.heap.size, 3, none⟩ = some (.slice p1 p2 p3) ∧ W.cell? ⟨w.heap.size, 4, none⟩ = some (.slice q1 kl q2) ∧ W.cell? ⟨w.heap.size + 1, 0, none⟩ = some (.int .i64 K') ∧ W.cell? ⟨w.heap.size + 1, 1, none⟩ = some (.string N') ∧ W.cell? ⟨w.heap.size + 1, 2, none⟩ = some (.string X') ∧ W.cell? ⟨w.heap.size + 1, 3, none⟩ = some (.slice p1' p2' p3') ∧ W.cell? ⟨w.heap.size + 1, 4, none⟩ = some (.slice q1' kl' q2')))
      (first | with_reducible exact hS0 | with_reducible assumption)
      (first
        | (go_at_call 15; with_reducible refine (HKa.out _ (And.left (by assumption))).mono ?_; rintro e w5 ⟨y1, y2, y3, z1, z3, rfl, hb5, hl5⟩; have hS5 := keep10 hlt (by assumption) (hb5.mono (Below.size (And.left (by assumption)))))
        | (go_at_call 15; with_reducible refine (HKb.out _ (And.left (by assumption))).mono ?_; rintro e w6 ⟨u1, u2, u3, v1, v3, rfl, hb6, hl6⟩; have hS6 := keep10 hlt (by assumption) (hb6.mono (Below.size (And.left (by assumption)))))
        | (go_at_call 14; refine (HAL.out y1 y2 y3 z1 z3 u1 u2 u3 v1 v3 w6 ((hl5.out.below hb6).here hb6.size) hl6.out).mono ?_; rintro e w7 ⟨l7, rfl, hb7, hr7⟩; have hS7 := keep10 hlt hS6 (hb7.mono hS6.1.size)))
    have HB7 := Fact.mk hS7.1
    clear hS0 hS5 hS6 hb5 hb6 hl5 hl6 HKa HKb HAL
    obtain ⟨_, c0, c1, c2, c3, c4, f0, f1, f2, f3, f4⟩ := hS7
    go_wp2_with fail
    refine (HRC.out _ HB7.out).mono ?_
    rintro e w8 ⟨rfl, hb8⟩
    have HB8 : Fact (Below W0.heap.size W0 w8) := ⟨HB7.out.trans (hb8.mono HB7.out.size)⟩
    clear c0 c1 c2 c3 c4 f0 f1 f2 f3 f4
    obtain ⟨_, c0, c1, c2, c3, c4, f0, f1, f2, f3, f4⟩ := HS.out w8 HB8.out
    go_wp2_with fail
    refine (HRC'.out _ HB8.out).mono ?_
    rintro e w9 ⟨rfl, hb9⟩
    have HB9 : Fact (Below W0.heap.size W0 w9) := ⟨HB8.out.trans (hb9.mono HB8.out.size)⟩
    clear c0 c1 c2 c3 c4 f0 f1 f2 f3 f4
    obtain ⟨_, c0, c1, c2, c3, c4, f0, f1, f2, f3, f4⟩ := HS.out w9 HB9.out
    go_wp2_with fail
    refine (HRA.out _ HB9.out).mono ?_
    rintro e w10 ⟨p, ga, ca, gb, cb, rfl, hb10, hm10⟩
    go_wp2_with fail
    refine (rPairs_any w10 hm10.out HOK.out.ga (by omega)).mono ?_
    rintro e w11 ⟨l11, rfl, hb11, hr11⟩
    have hb7x : Below w7.heap.size w7 w11 := hb8.trans (((hb9.trans ((hb10.trans (hb11.mono hb10.size)).mono hb9.size))).mono hb8.size)
    go_wp2_with fail
    have hlen : (pairsF 0 M'.a).length ≤ 1000000 := by have := pairsF_le 0 M'.a; have := HOK.out.a; omega
    refine (samePairs_any (pairsF 0 M'.a) _ _ _ _ _ w11 rfl hlen (own_upH hr7.out hb7x) hr11.out).mono ?_
    rintro e w12 ⟨rfl, hb12⟩
    go_wp2_with fail
    refine (awake19_true _).mono ?_
    rintro e w13 ⟨rfl, hb13⟩
    go_wp2_with fail
    go_ret
    have hbz : Below w7.heap.size w7 w13 := hb7x.trans ((hb12.trans (hb13.mono hb12.size)).mono hb7x.size)
    exact ⟨rfl, H0.out w13 () (HB7.out.trans (hbz.mono HB7.out.size))⟩
  · have HT : Fact (treeOK ⟨K, N, X, A⟩ k = false ∨ (treeOK ⟨K, N, X, A⟩ k = true ∧ treeOK ⟨K', N', X', A'⟩ k' = false)) := ⟨by
      cases h1 : treeOK ⟨K, N, X, A⟩ k with
      | false => exact .inl rfl
      | true => exact .inr ⟨rfl, by cases h2 : treeOK ⟨K', N', X', A'⟩ k' with | false => rfl | true => exact absurd ⟨h1, h2⟩ hok⟩⟩
    have HAL : Fact (∀ (y1 : Option Addr) (y2 y3 : Nat) (z1 : Option Addr) (z3 : Nat) (u1 : Option Addr) (u2 u3 : Nat) (v1 : Option Addr) (v3 : Nat) (W : World), Lies W.heap.size W ⟨K, N, X, A⟩ k (.slice y1 y2 y3) (.slice z1 kl z3) → Lies W.heap.size W ⟨K', N', X', A'⟩ k' (.slice u1 u2 u3) (.slice v1 kl' v3) →
        Calls Try.prog 14 #[.agg #[.int .i64 K, .string N, .string X, .slice y1 y2 y3, .slice z1 kl z3], .agg #[.int .i64 K', .string N', .string X', .slice u1 u2 u3, .slice v1 kl' v3], .int .i64 least] W fun e w' => e = .returned (.slice none 0 0) ∧ Below W.heap.size W w') := ⟨fun y1 y2 y3 z1 z3 u1 u2 u3 v1 v3 W h1 h2 =>
      alike_no ⟨K, N, X, A⟩ ⟨K', N', X', A'⟩ k k' _ _ _ _ least W h1 h2 (by omega) (by omega) HT.out⟩
    clear hok
    go_region_held3 (fun W => Below W0.heap.size W0 W ∧ (W.cell? ⟨w.heap.size, 0, none⟩ = some (.int .i64 K) ∧ W.cell? ⟨w.heap.size, 1, none⟩ = some (.string N) ∧ W.cell? ⟨w.heap.size, 2, none⟩ = some (.string X) ∧ W.cell? ⟨w.heap.size, 3, none⟩ = some (.slice p1 p2 p3) ∧ W.cell? ⟨w.heap.size, 4, none⟩ = some (.slice q1 kl q2) ∧ W.cell? ⟨w.heap.size + 1, 0, none⟩ = some (.int .i64 K') ∧ W.cell? ⟨w.heap.size + 1, 1, none⟩ = some (.string N') ∧ W.cell? ⟨w.heap.size + 1, 2, none⟩ = some (.string X') ∧ W.cell? ⟨w.heap.size + 1, 3, none⟩ = some (.slice p1' p2' p3') ∧ W.cell? ⟨w.heap.size + 1, 4, none⟩ = some (.slice q1' kl' q2')))
      (first | with_reducible exact hS0 | with_reducible assumption)
      (first
        | (go_at_call 15; with_reducible refine (HKa.out _ (And.left (by assumption))).mono ?_; rintro e w5 ⟨y1, y2, y3, z1, z3, rfl, hb5, hl5⟩; have hS5 := keep10 hlt (by assumption) (hb5.mono (Below.size (And.left (by assumption)))))
        | (go_at_call 15; with_reducible refine (HKb.out _ (And.left (by assumption))).mono ?_; rintro e w6 ⟨u1, u2, u3, v1, v3, rfl, hb6, hl6⟩; have hS6 := keep10 hlt (by assumption) (hb6.mono (Below.size (And.left (by assumption)))))
        | (go_at_call 14; refine (HAL.out y1 y2 y3 z1 z3 u1 u2 u3 v1 v3 w6 ((hl5.out.below hb6).here hb6.size) hl6.out).mono ?_; rintro e w7 ⟨rfl, hb7⟩; have hS7 := keep10 hlt hS6 (hb7.mono hS6.1.size)))
    have HB7 := Fact.mk hS7.1
    clear hS0 hS5 hS6 hb5 hb6 hl5 hl6 HKa HKb HAL
    obtain ⟨_, c0, c1, c2, c3, c4, f0, f1, f2, f3, f4⟩ := hS7
    rcases HT.out with h1 | ⟨h1, h2⟩
    · have HRC := Fact.mk (rcheck_any ⟨K, N, X, A⟩ k _ _ w7.heap.size w7 (HA.out w7 HB7.out) (Nat.le_refl _) (by omega) (by omega) false ⟨h1⟩)
      clear h1
      go_wp2_with fail
      refine HRC.out.mono ?_
      rintro e w8 ⟨rfl, hb8⟩
      go_wp2_with fail
      refine (awake19_true _).mono ?_
      rintro e w13 ⟨rfl, hb13⟩
      go_wp2_with fail
      go_ret
      have hbz := hb8.trans (hb13.mono hb8.size)
      exact ⟨rfl, H0.out w13 () (HB7.out.trans (hbz.mono HB7.out.size))⟩
    · have HRC := Fact.mk (rcheck_any ⟨K, N, X, A⟩ k _ _ w7.heap.size w7 (HA.out w7 HB7.out) (Nat.le_refl _) (by omega) (by omega) true ⟨h1⟩)
      have H2F := Fact.mk h2
      clear h1 h2
      go_wp2_with fail
      refine HRC.out.mono ?_
      rintro e w8 ⟨rfl, hb8⟩
      have HB8 : Fact (Below W0.heap.size W0 w8) := ⟨HB7.out.trans (hb8.mono HB7.out.size)⟩
      clear c0 c1 c2 c3 c4 f0 f1 f2 f3 f4
      obtain ⟨_, c0, c1, c2, c3, c4, f0, f1, f2, f3, f4⟩ := HS.out w8 HB8.out
      have HRC' := Fact.mk (rcheck_any ⟨K', N', X', A'⟩ k' _ _ w8.heap.size w8 (HA'.out w8 HB8.out) (Nat.le_refl _) (by omega) (by omega) false ⟨H2F.out⟩)
      go_wp2_with fail
      refine HRC'.out.mono ?_
      rintro e w9 ⟨rfl, hb9⟩
      go_wp2_with fail
      refine (awake19_true _).mono ?_
      rintro e w13 ⟨rfl, hb13⟩
      go_wp2_with fail
      go_ret
      have hbz := hb9.trans (hb13.mono hb9.size)
      exact ⟨rfl, H0.out w13 () (HB8.out.trans (hbz.mono HB8.out.size))⟩
end Go.Proofs.Ytkojhgagkoeeiaa
end
