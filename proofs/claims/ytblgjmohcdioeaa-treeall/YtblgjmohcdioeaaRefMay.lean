/- The chapter's own May. -/
import Derived.Test.YtblgjmohcdioeaaRefM
import Derived.Test.YtblgjmohcdioeaaCheck
set_option linter.unusedVariables false
set_option linter.unusedSimpArgs false
namespace Go.Proofs.Ytblgjmohcdioeaa
open Go.Deep (BT)
open Go.RowKit M

def mayR (d : Nd) (kl : Nat) (top root : Bool) : Bool :=
  if d.k = 1 then top && ((d.n.toList == []) && ((d.x.toList == []) && ((d.ats.length : Int) == 0)))
  else if d.k = 2 then nameOK d.n && ((d.x.toList == []) && attrsOK d.ats)
  else if d.k = 3 then (d.n.toList == []) && (((d.ats.length : Int) == 0) && (((kl : Int) == 0) && (decide ((1 : Int) ≤ d.x.size) && decide ((d.x.size : Int) ≤ 4096))))
  else if d.k = 4 then (d.n.toList == []) && (((d.ats.length : Int) == 0) && (((kl : Int) == 0) && decide ((d.x.size : Int) ≤ 4096)))
  else if d.k = 5 then root && (decide ((d.n.size : Int) ≤ 32) && ((d.x.toList == []) && (((d.ats.length : Int) == 0) && ((kl : Int) == 0))))
  else false
theorem emp (s : ByteArray) : (s.toList == []) = (s.size == 0) := by
  have h : s.toList.length = s.size := by rw [toList_data]; simp
  rw [Bool.eq_iff_iff, beq_iff_eq, beq_iff_eq]
  constructor
  · intro e; rw [e] at h; simpa using h.symm
  · intro e; exact List.eq_nil_of_length_eq_zero (by rw [h]; exact e)
theorem mayR_eq (d : Nd) (kl i : Nat) : mayOK d kl i = mayR d kl (decide (i = 1)) (decide (i = 2)) := by
  have hz : ∀ n : Nat, ((n : Int) == 0) = (n == 0) := fun n => by rw [Bool.eq_iff_iff, beq_iff_eq, beq_iff_eq]; omega
  have hl : ∀ n m : Nat, decide ((n : Int) ≤ m) = decide (n ≤ m) := fun n m => decide_eq_decide.2 (by omega)
  have h1 : decide ((1 : Int) ≤ d.x.size) = !(d.x.size == 0) := by
    by_cases h : d.x.size = 0
    · rw [h]; rfl
    · rw [decide_eq_true (by omega), beq_eq_false_iff_ne.2 h]; rfl
  have h2 : decide ((d.x.size : Int) ≤ 4096) = decide (d.x.size ≤ 4096) := decide_eq_decide.2 (by omega)
  have h3 : decide ((d.n.size : Int) ≤ 32) = decide (d.n.size ≤ 32) := decide_eq_decide.2 (by omega)
  unfold mayOK mayR
  rw [emp, emp, h1, h2, h3, hz, hz]
  simp only [zOK, List.all_cons, List.all_nil, Bool.and_true]
  split
  · rfl
  split
  · rw [Bool.and_assoc]
  split
  · simp only [Bool.and_assoc]
  split
  · simp only [Bool.and_assoc]
  split
  · simp only [Bool.and_assoc]
  · rfl

set_option maxRecDepth 20000 in
set_option maxHeartbeats 4000000 in
theorem rmay_any (d : Nd) (k : M.F) (av kv : Value) (top root : Bool) (n : Nat) (w : World) (hl : Lies n w d k av kv) (hn : n ≤ w.heap.size) :
    Calls Try.prog 48 #[nodeV d av kv, .bool top, .bool root] w fun e w' => e = .returned (.bool (mayR d k.len top root)) ∧ Below w.heap.size w w' := by
  obtain ⟨K, N, X, A⟩ := d
  have ha := hl.a
  obtain ⟨a1, c1, rfl, _⟩ := hl.a
  obtain ⟨a2, c2, rfl, _⟩ := hl.f
  obtain ⟨kl, hkl⟩ : ∃ kl, k.len = kl := ⟨_, rfl⟩
  dsimp only at ha ⊢
  rw [hkl]
  clear hkl hl
  obtain ⟨al, hal⟩ : ∃ al, A.length = al := ⟨_, rfl⟩
  rw [hal] at ha ⊢
  obtain ⟨W1, hW1⟩ : ∃ W1, w.alloc (.cells #[.int .i64 K, .string N, .string X, .slice a1 al c1, .slice a2 kl c2] 25) = W1 := ⟨_, rfl⟩
  have hB : Below w.heap.size w W1 := by rw [← hW1]; exact (Below.refl _ w).alloc (Nat.le_refl _) _
  have hbx : ∀ i v, (#[.int .i64 K, .string N, .string X, .slice a1 al c1, .slice a2 kl c2] : Array Value)[i]? = some v → W1.cell? ⟨w.heap.size, i, none⟩ = some v := fun i v h => by
    rw [← hW1]; exact (World.cell?_alloc_new w _ _ i).trans h
  have hz1 : W1.heap.size = w.heap.size + 1 := by rw [← hW1]; simp
  have x0 : W1.cell? ⟨w.heap.size, 0, none⟩ = some (.int .i64 K) := hbx 0 _ rfl
  have x1 : W1.cell? ⟨w.heap.size, 1, none⟩ = some (.string N) := hbx 1 _ rfl
  have x2 : W1.cell? ⟨w.heap.size, 2, none⟩ = some (.string X) := hbx 2 _ rfl
  have x3 : W1.cell? ⟨w.heap.size, 3, none⟩ = some (.slice a1 al c1) := hbx 3 _ rfl
  have x4 : W1.cell? ⟨w.heap.size, 4, none⟩ = some (.slice a2 kl c2) := hbx 4 _ rfl
  have HB := Fact.mk hB
  have HA : Fact (AS (Old n) W1 (.slice a1 al c1) A) := ⟨ha.like (like_below (hB.mono hn))⟩
  clear hbx hB ha
  by_cases h1 : K = 1
  · subst h1
    cases top
    · have hm : Fact (mayR ⟨1, N, X, A⟩ kl false root = false) := ⟨by simp only [mayR, hal]; simp⟩
      clear hal
      go_enter Try.func48, Try.ntmps48
      go_wp2_with fail
      go_ret
      exact ⟨ret_bool hm.out.symm, HB.out⟩
    · cases hn : (N.toList == [])
      · have hm : Fact (mayR ⟨1, N, X, A⟩ kl true root = false) := ⟨by simp only [mayR, hal, hn]; simp⟩
        clear hal
        go_enter Try.func48, Try.ntmps48
        go_wp2_with fail
        go_ret
        exact ⟨ret_bool hm.out.symm, HB.out⟩
      · cases hx : (X.toList == [])
        · have hm : Fact (mayR ⟨1, N, X, A⟩ kl true root = false) := ⟨by simp only [mayR, hal, hn, hx]; simp⟩
          clear hal
          go_enter Try.func48, Try.ntmps48
          go_wp2_with fail
          go_ret
          exact ⟨ret_bool hm.out.symm, HB.out⟩
        · cases ha : ((al : Int) == 0)
          · have hm : Fact (mayR ⟨1, N, X, A⟩ kl true root = false) := ⟨by simp only [mayR, hal, hn, hx, ha]; simp⟩
            clear hal
            go_enter Try.func48, Try.ntmps48
            go_wp2_with fail
            go_ret
            exact ⟨ret_bool hm.out.symm, HB.out⟩
          · have hm : Fact (mayR ⟨1, N, X, A⟩ kl true root = true) := ⟨by simp only [mayR, hal, hn, hx, ha]; simp⟩
            clear hal
            go_enter Try.func48, Try.ntmps48
            go_wp2_with fail
            go_ret
            exact ⟨ret_bool hm.out.symm, HB.out⟩
  by_cases h2 : K = 2
  · subst h2
    cases hnm : nameOK N
    · have hm : Fact (mayR ⟨2, N, X, A⟩ kl top root = false) := ⟨by simp only [mayR, hal, hnm]; simp⟩
      have HNM : Fact (nameOK N = false) := ⟨hnm⟩
      clear hal hnm
      go_enter Try.func48, Try.ntmps48
      go_wp2_with (first | (go_at_call 17; refine (rname_at _ false HNM _).mono ?_; rintro e w1 ⟨rfl, hw1⟩; have hw2 := hw1.symm; subst hw2; clear hw1))
      go_ret
      exact ⟨ret_bool hm.out.symm, HB.out⟩
    · cases hx : (X.toList == [])
      · have hm : Fact (mayR ⟨2, N, X, A⟩ kl top root = false) := ⟨by simp only [mayR, hal, hnm, hx]; simp⟩
        have HNM : Fact (nameOK N = true) := ⟨hnm⟩
        clear hal hnm
        go_enter Try.func48, Try.ntmps48
        go_wp2_with (first | (go_at_call 17; refine (rname_at _ true HNM _).mono ?_; rintro e w1 ⟨rfl, hw1⟩; have hw2 := hw1.symm; subst hw2; clear hw1))
        go_ret
        exact ⟨ret_bool hm.out.symm, HB.out⟩
      · cases hat : attrsOK A
        · have hm : Fact (mayR ⟨2, N, X, A⟩ kl top root = false) := ⟨by simp only [mayR, hal, hnm, hx, hat]; simp⟩
          have HNM : Fact (nameOK N = true) := ⟨hnm⟩
          have HAT : Fact (attrsOK A = false) := ⟨hat⟩
          clear hal hnm hat
          go_enter Try.func48, Try.ntmps48
          go_wp2_with (first | (go_at_call 17; refine (rname_at _ true HNM _).mono ?_; rintro e w1 ⟨rfl, hw1⟩; have hw2 := hw1.symm; subst hw2; clear hw1) | (go_at_call 53; refine (rattrs_at _ A false HAT n _ HA.out (by omega)).mono ?_; rintro e w3 ⟨rfl, hb3⟩))
          go_ret
          exact ⟨ret_bool hm.out.symm, HB.out.trans (hb3.mono (by omega))⟩
        · have hm : Fact (mayR ⟨2, N, X, A⟩ kl top root = true) := ⟨by simp only [mayR, hal, hnm, hx, hat]; simp⟩
          have HNM : Fact (nameOK N = true) := ⟨hnm⟩
          have HAT : Fact (attrsOK A = true) := ⟨hat⟩
          clear hal hnm hat
          go_enter Try.func48, Try.ntmps48
          go_wp2_with (first | (go_at_call 17; refine (rname_at _ true HNM _).mono ?_; rintro e w1 ⟨rfl, hw1⟩; have hw2 := hw1.symm; subst hw2; clear hw1) | (go_at_call 53; refine (rattrs_at _ A true HAT n _ HA.out (by omega)).mono ?_; rintro e w3 ⟨rfl, hb3⟩))
          go_ret
          exact ⟨ret_bool hm.out.symm, HB.out.trans (hb3.mono (by omega))⟩
  by_cases h3 : K = 3
  · subst h3
    cases hn : (N.toList == [])
    · have hm : Fact (mayR ⟨3, N, X, A⟩ kl top root = false) := ⟨by simp only [mayR, hal, hn]; simp⟩
      clear hal
      go_enter Try.func48, Try.ntmps48
      go_wp2_with fail
      go_ret
      exact ⟨ret_bool hm.out.symm, HB.out⟩
    · cases ha : ((al : Int) == 0)
      · have hm : Fact (mayR ⟨3, N, X, A⟩ kl top root = false) := ⟨by simp only [mayR, hal, hn, ha]; simp⟩
        clear hal
        go_enter Try.func48, Try.ntmps48
        go_wp2_with fail
        go_ret
        exact ⟨ret_bool hm.out.symm, HB.out⟩
      · cases hk : ((kl : Int) == 0)
        · have hm : Fact (mayR ⟨3, N, X, A⟩ kl top root = false) := ⟨by simp only [mayR, hal, hn, ha, hk]; simp⟩
          clear hal
          go_enter Try.func48, Try.ntmps48
          go_wp2_with fail
          go_ret
          exact ⟨ret_bool hm.out.symm, HB.out⟩
        · cases hx1 : decide ((1 : Int) ≤ X.size)
          · have hm : Fact (mayR ⟨3, N, X, A⟩ kl top root = false) := ⟨by simp only [mayR, hal, hn, ha, hk, hx1]; simp⟩
            clear hal
            go_enter Try.func48, Try.ntmps48
            go_wp2_with fail
            go_ret
            exact ⟨ret_bool hm.out.symm, HB.out⟩
          · cases hx4 : decide ((X.size : Int) ≤ 4096)
            · have hm : Fact (mayR ⟨3, N, X, A⟩ kl top root = false) := ⟨by simp only [mayR, hal, hn, ha, hk, hx1, hx4]; simp⟩
              clear hal
              go_enter Try.func48, Try.ntmps48
              go_wp2_with fail
              go_ret
              exact ⟨ret_bool hm.out.symm, HB.out⟩
            · have hm : Fact (mayR ⟨3, N, X, A⟩ kl top root = true) := ⟨by simp only [mayR, hal, hn, ha, hk, hx1, hx4]; simp⟩
              clear hal
              go_enter Try.func48, Try.ntmps48
              go_wp2_with fail
              go_ret
              exact ⟨ret_bool hm.out.symm, HB.out⟩
  by_cases h4 : K = 4
  · subst h4
    cases hn : (N.toList == [])
    · have hm : Fact (mayR ⟨4, N, X, A⟩ kl top root = false) := ⟨by simp only [mayR, hal, hn]; simp⟩
      clear hal
      go_enter Try.func48, Try.ntmps48
      go_wp2_with fail
      go_ret
      exact ⟨ret_bool hm.out.symm, HB.out⟩
    · cases ha : ((al : Int) == 0)
      · have hm : Fact (mayR ⟨4, N, X, A⟩ kl top root = false) := ⟨by simp only [mayR, hal, hn, ha]; simp⟩
        clear hal
        go_enter Try.func48, Try.ntmps48
        go_wp2_with fail
        go_ret
        exact ⟨ret_bool hm.out.symm, HB.out⟩
      · cases hk : ((kl : Int) == 0)
        · have hm : Fact (mayR ⟨4, N, X, A⟩ kl top root = false) := ⟨by simp only [mayR, hal, hn, ha, hk]; simp⟩
          clear hal
          go_enter Try.func48, Try.ntmps48
          go_wp2_with fail
          go_ret
          exact ⟨ret_bool hm.out.symm, HB.out⟩
        · cases hx4 : decide ((X.size : Int) ≤ 4096)
          · have hm : Fact (mayR ⟨4, N, X, A⟩ kl top root = false) := ⟨by simp only [mayR, hal, hn, ha, hk, hx4]; simp⟩
            clear hal
            go_enter Try.func48, Try.ntmps48
            go_wp2_with fail
            go_ret
            exact ⟨ret_bool hm.out.symm, HB.out⟩
          · have hm : Fact (mayR ⟨4, N, X, A⟩ kl top root = true) := ⟨by simp only [mayR, hal, hn, ha, hk, hx4]; simp⟩
            clear hal
            go_enter Try.func48, Try.ntmps48
            go_wp2_with fail
            go_ret
            exact ⟨ret_bool hm.out.symm, HB.out⟩
  by_cases h5 : K = 5
  · subst h5
    cases root
    · have hm : Fact (mayR ⟨5, N, X, A⟩ kl top false = false) := ⟨by simp only [mayR, hal]; simp⟩
      clear hal
      go_enter Try.func48, Try.ntmps48
      go_wp2_with fail
      go_ret
      exact ⟨ret_bool hm.out.symm, HB.out⟩
    · cases hn32 : decide ((N.size : Int) ≤ 32)
      · have hm : Fact (mayR ⟨5, N, X, A⟩ kl top true = false) := ⟨by simp only [mayR, hal, hn32]; simp⟩
        clear hal
        go_enter Try.func48, Try.ntmps48
        go_wp2_with fail
        go_ret
        exact ⟨ret_bool hm.out.symm, HB.out⟩
      · cases hx : (X.toList == [])
        · have hm : Fact (mayR ⟨5, N, X, A⟩ kl top true = false) := ⟨by simp only [mayR, hal, hn32, hx]; simp⟩
          clear hal
          go_enter Try.func48, Try.ntmps48
          go_wp2_with fail
          go_ret
          exact ⟨ret_bool hm.out.symm, HB.out⟩
        · cases ha : ((al : Int) == 0)
          · have hm : Fact (mayR ⟨5, N, X, A⟩ kl top true = false) := ⟨by simp only [mayR, hal, hn32, hx, ha]; simp⟩
            clear hal
            go_enter Try.func48, Try.ntmps48
            go_wp2_with fail
            go_ret
            exact ⟨ret_bool hm.out.symm, HB.out⟩
          · cases hk : ((kl : Int) == 0)
            · have hm : Fact (mayR ⟨5, N, X, A⟩ kl top true = false) := ⟨by simp only [mayR, hal, hn32, hx, ha, hk]; simp⟩
              clear hal
              go_enter Try.func48, Try.ntmps48
              go_wp2_with fail
              go_ret
              exact ⟨ret_bool hm.out.symm, HB.out⟩
            · have hm : Fact (mayR ⟨5, N, X, A⟩ kl top true = true) := ⟨by simp only [mayR, hal, hn32, hx, ha, hk]; simp⟩
              clear hal
              go_enter Try.func48, Try.ntmps48
              go_wp2_with fail
              go_ret
              exact ⟨ret_bool hm.out.symm, HB.out⟩
  have hm : Fact (mayR ⟨K, N, X, A⟩ kl top root = false) := ⟨by simp only [mayR, if_neg h1, if_neg h2, if_neg h3, if_neg h4, if_neg h5]⟩
  have k1 : (K == 1) = false := by simpa using h1
  have k2 : (K == 2) = false := by simpa using h2
  have k3 : (K == 3) = false := by simpa using h3
  have k4 : (K == 4) = false := by simpa using h4
  have k5 : (K == 5) = false := by simpa using h5
  clear hal
  go_enter Try.func48, Try.ntmps48
  go_wp2_with fail
  go_ret
  exact ⟨ret_bool hm.out.symm, HB.out⟩
theorem rmay_at (d : Nd) (k : M.F) (av kv : Value) (top root r : Bool) (hr : Fact (mayR d k.len top root = r)) (n : Nat) (w : World) (hl : Lies n w d k av kv) (hn : n ≤ w.heap.size) :
    Calls Try.prog 48 #[nodeV d av kv, .bool top, .bool root] w fun e w' => e = .returned (.bool r) ∧ Below w.heap.size w w' := by
  rw [← hr.out]; exact rmay_any d k av kv top root n w hl hn
end Go.Proofs.Ytblgjmohcdioeaa
