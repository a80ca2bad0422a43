/- The chapter's own Check, and that it is tree.Check's answer. -/
import Derived.Test.YtblgjmohcdioeaaRefC
set_option linter.unusedVariables false
set_option linter.unusedSimpArgs false
namespace Go.Proofs.Ytblgjmohcdioeaa
open Go.Deep (BT)
open Go.RowKit M

theorem and4 (D a b c m p q : Bool) (h : D = (a && (b && c))) : ((a && m) && ((b && p) && (c && q))) = (D && ((m && p) && q)) := by
  subst h; cases a <;> cases b <;> cases c <;> cases m <;> cases p <;> cases q <;> rfl
theorem fit_eq : ∀ (f : M.F) (i : Nat) (rt : Bool), 2 ≤ i → rt = decide (i = 2) → allFit (pre i f) = (decide (f.depth = 0 ∨ i - 1 + f.depth ≤ 60) && rF rt f)
  | .nil, i, rt, _, _ => by
    rw [decide_eq_true (.inl rfl)]; rfl
  | .node xb xo d k r, i, rt, hi, hrt => by
    have hk := fit_eq k (i + 1) false (by omega) (decide_eq_false (by omega)).symm
    have hr := fit_eq r i rt hi hrt
    have e1 : allFit (pre i (.node xb xo d k r)) = (fits ⟨i, d, k⟩ && (allFit (pre (i + 1) k) && allFit (pre i r))) := by
      show List.all (_ :: (pre (i + 1) k ++ pre i r)) fits = _
      rw [List.all_cons, List.all_append]; rfl
    have hi1 : decide (i = 1) = false := decide_eq_false (by omega)
    have e2 : fits ⟨i, d, k⟩ = (decide (i ≤ 60) && mayR d k.len false rt) := by
      show (decide (i ≤ 60) && mayOK d k.len i) = _
      rw [mayR_eq, hi1, hrt]
    have e3 : rF rt (.node xb xo d k r) = ((mayR d k.len false rt && rF (d.k == 1) k) && rF rt r) := rfl
    rw [e1, e2, e3]
    by_cases h1 : d.k = 1
    · have hm : mayR d k.len false rt = false := by unfold mayR; rw [if_pos h1]; rfl
      rw [hm]
      simp
    · rw [show (d.k == 1) = false from beq_eq_false_iff_ne.2 h1, hk, hr]
      refine and4 _ _ _ _ _ _ _ ?_
      have e4 : (BT.node xb xo d k r).depth = max (k.depth + 1) r.depth := rfl
      rw [e4, ← Bool.decide_and, ← Bool.decide_and]
      exact decide_eq_decide.2 (by omega)
theorem treeOK_eq (d : Nd) (k : M.F) : treeOK d k = (decide (d.k = 1) && (decide (k.size + 1 ≤ 300) && (decide (k.depth + 1 ≤ 60) && rT d k true false))) := by
  unfold treeOK
  by_cases h1 : d.k = 1
  · have hk := fit_eq k 2 true (by omega) rfl
    have e1 : allFit (pre 1 (.cons d k .nil)) = (fits ⟨1, d, k⟩ && (allFit (pre 2 k) && true)) := by
      show List.all (_ :: (pre (1 + 1) k ++ [])) fits = _
      rw [List.all_cons, List.all_append]; rfl
    have e2 : fits ⟨1, d, k⟩ = mayR d k.len true false := by
      show (decide (1 ≤ 60) && mayOK d k.len 1) = _
      rw [mayR_eq]; rfl
    have e3 : rT d k true false = (mayR d k.len true false && rF true k) := by
      unfold rT; rw [h1]; rfl
    have e4 : decide (k.depth = 0 ∨ 2 - 1 + k.depth ≤ 60) = decide (k.depth + 1 ≤ 60) := decide_eq_decide.2 (by omega)
    rw [e1, e2, e3, hk, e4, Bool.and_true]
    congr 2
    cases mayR d k.len true false <;> cases decide (k.depth + 1 ≤ 60) <;> rfl
  · rw [decide_eq_false h1]; rfl

set_option maxRecDepth 20000 in
set_option maxHeartbeats 2000000 in
theorem rcheck_any (d : Nd) (k : M.F) (av kv : Value) (n : Nat) (w : World) (hl : Lies n w d k av kv) (hn : n ≤ w.heap.size) (hs : k.size ≤ 1000000) (hd : k.depth ≤ 1000000) (C : Bool) (hC : Fact (treeOK d k = C)) :
    Calls Try.prog 15 #[nodeV d av kv] w fun e w' => e = .returned (.bool C) ∧ Below w.heap.size w w' := by
  have HC : Fact ((decide (d.k = 1) && (decide (k.size + 1 ≤ 300) && (decide (k.depth + 1 ≤ 60) && rT d k true false))) = C) := ⟨by rw [← treeOK_eq]; exact hC.out⟩
  clear hC
  obtain ⟨K, N, X, A⟩ := d
  obtain ⟨a1, l1, c1, eav⟩ := hl.a.val
  obtain ⟨a2, c2, ekv⟩ := hl.f.val
  subst eav ekv
  obtain ⟨kl, hkl⟩ : ∃ kl, k.len = kl := ⟨_, rfl⟩
  rw [hkl] at hl ⊢
  obtain ⟨W1, hW1⟩ : ∃ W1, w.alloc (.cells #[.int .i64 K, .string N, .string X, .slice a1 l1 c1, .slice a2 kl c2] 25) = W1 := ⟨_, rfl⟩
  have hB1 : Below w.heap.size w W1 := by rw [← hW1]; exact (Below.refl _ w).alloc (Nat.le_refl _) _
  have hz1 : W1.heap.size = w.heap.size + 1 := by rw [← hW1]; simp
  have hbx : ∀ i v, (#[.int .i64 K, .string N, .string X, .slice a1 l1 c1, .slice a2 kl c2] : Array Value)[i]? = some v → W1.cell? ⟨w.heap.size, i, none⟩ = some v := fun i v h => by
    rw [← hW1]; exact (World.cell?_alloc_new w _ _ i).trans h
  have HXC : Fact (∀ w', Below W1.heap.size W1 w' → ((w'.cell? ⟨w.heap.size, 0, none⟩ = some (.int .i64 K) ∧ w'.cell? ⟨w.heap.size, 1, none⟩ = some (.string N) ∧ w'.cell? ⟨w.heap.size, 2, none⟩ = some (.string X) ∧ w'.cell? ⟨w.heap.size, 3, none⟩ = some (.slice a1 l1 c1) ∧ w'.cell? ⟨w.heap.size, 4, none⟩ = some (.slice a2 kl c2)) ∧ Lies n w' ⟨K, N, X, A⟩ k (.slice a1 l1 c1) (.slice a2 kl c2) ∧ n ≤ w'.heap.size)) := ⟨fun w' hb => by
    have hc : ∀ i v, (#[.int .i64 K, .string N, .string X, .slice a1 l1 c1, .slice a2 kl c2] : Array Value)[i]? = some v → w'.cell? ⟨w.heap.size, i, none⟩ = some v := fun i v h => (hb.cell (p := ⟨w.heap.size, i, none⟩) (by show w.heap.size < _; omega)).trans (hbx i v h)
    exact ⟨⟨hc 0 _ rfl, hc 1 _ rfl, hc 2 _ rfl, hc 3 _ rfl, hc 4 _ rfl⟩, hl.below ((hB1.trans (hb.mono (by omega))).mono hn), by have := hb.size; omega⟩⟩
  obtain ⟨⟨x0, x1, x2, x3, x4⟩, hL1, _⟩ := HXC.out _ (Below.refl _ W1)
  have HL1 := Fact.mk hL1
  have HB1 := Fact.mk hB1
  clear hbx hB1 hl hL1
  obtain ⟨Z, hZ⟩ : ∃ Z, k.size + 1 = Z := ⟨_, rfl⟩
  obtain ⟨E, hE⟩ : ∃ E, k.depth + 1 = E := ⟨_, rfl⟩
  obtain ⟨R, hR⟩ : ∃ R, rT ⟨K, N, X, A⟩ k true false = R := ⟨_, rfl⟩
  rw [hZ, hE, hR] at HC
  have HZ : Fact (k.size + 1 = Z) := ⟨hZ⟩
  have HE : Fact (k.depth + 1 = E) := ⟨hE⟩
  have HR : Fact (rT ⟨K, N, X, A⟩ k true false = R) := ⟨hR⟩
  have HS := Fact.mk hs
  have HD := Fact.mk hd
  have zb : Z ≤ 1000001 := by omega
  have eb : E ≤ 1000001 := by omega
  clear hZ hE hR hkl hs hd
  by_cases h1 : K = 1
  · subst h1
    by_cases h2 : Z ≤ 300
    · have h2' : (Z : Int) ≤ 300 := by omega
      by_cases h3 : E ≤ 60
      · have h3' : (E : Int) ≤ 60 := by omega
        have hC' : Fact (R = C) := ⟨by have := HC.out; rw [decide_eq_true h2, decide_eq_true h3] at this; exact this⟩
        clear HC
        go_enter Try.func15, Try.ntmps15
        go_wp2_with (first
          | (go_at_call 19; refine (rsize_any k _ _ _ n _ HL1.out (by omega) HS.out).mono ?_; rw [HZ.out]; rintro e w2 ⟨rfl, hb2⟩; have HB2 := Fact.mk hb2; clear hb2; obtain ⟨⟨y0, y1, y2, y3, y4⟩, hL2, hn2⟩ := HXC.out _ HB2.out; have HL2 := Fact.mk hL2; clear hL2)
          | (go_at_call 21; refine (rdepth_any k _ _ _ n _ HL2.out hn2 HD.out).mono ?_; rw [HE.out]; rintro e w3 ⟨rfl, hb3⟩; have HB3 := Fact.mk (HB2.out.trans (hb3.mono HB2.out.size)); clear hb3; obtain ⟨⟨z0, z1, z2, z3, z4⟩, hL3, hn3⟩ := HXC.out _ HB3.out; have HL3 := Fact.mk hL3; clear hL3)
          | (go_at_call 36; refine (rall_any k _ _ _ true false n _ HL3.out hn3).mono ?_; rw [HR.out]; rintro e w4 ⟨rfl, hb4⟩; have HB4 := Fact.mk (HB3.out.trans (hb4.mono HB3.out.size)); clear hb4))
        go_ret
        exact ⟨ret_bool hC'.out, HB1.out.trans (HB4.out.mono (by omega))⟩
      · have h3' : ¬ (E : Int) ≤ 60 := by omega
        have hC' : Fact (false = C) := ⟨by have := HC.out; rw [decide_eq_true h2, decide_eq_false h3] at this; exact this⟩
        clear HC
        go_enter Try.func15, Try.ntmps15
        go_wp2_with (first
          | (go_at_call 19; refine (rsize_any k _ _ _ n _ HL1.out (by omega) HS.out).mono ?_; rw [HZ.out]; rintro e w2 ⟨rfl, hb2⟩; have HB2 := Fact.mk hb2; clear hb2; obtain ⟨⟨y0, y1, y2, y3, y4⟩, hL2, hn2⟩ := HXC.out _ HB2.out; have HL2 := Fact.mk hL2; clear hL2)
          | (go_at_call 21; refine (rdepth_any k _ _ _ n _ HL2.out hn2 HD.out).mono ?_; rw [HE.out]; rintro e w3 ⟨rfl, hb3⟩; have HB3 := Fact.mk (HB2.out.trans (hb3.mono HB2.out.size)); clear hb3))
        go_ret
        exact ⟨ret_bool hC'.out, HB1.out.trans (HB3.out.mono (by omega))⟩
    · have h2' : ¬ (Z : Int) ≤ 300 := by omega
      have hC' : Fact (false = C) := ⟨by have := HC.out; rw [decide_eq_false h2] at this; exact this⟩
      clear HC
      go_enter Try.func15, Try.ntmps15
      go_wp2_with (go_at_call 19; refine (rsize_any k _ _ _ n _ HL1.out (by omega) HS.out).mono ?_; rw [HZ.out]; rintro e w2 ⟨rfl, hb2⟩; have HB2 := Fact.mk hb2; clear hb2)
      go_ret
      exact ⟨ret_bool hC'.out, HB1.out.trans (HB2.out.mono (by omega))⟩
  · have h1' : (K == 1) = false := by simpa using h1
    have hC' : Fact (false = C) := ⟨by have := HC.out; rw [decide_eq_false h1] at this; exact this⟩
    clear HC
    go_enter Try.func15, Try.ntmps15
    go_wp2_with fail
    go_ret
    exact ⟨ret_bool hC'.out, HB1.out⟩
end Go.Proofs.Ytblgjmohcdioeaa
