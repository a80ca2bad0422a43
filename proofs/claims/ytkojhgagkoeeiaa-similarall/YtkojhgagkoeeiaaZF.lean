/- The chapter's own Check, and that it is tree.Check's answer. -/
import Derived.Test.YtkojhgagkoeeiaaRefN
import Derived.Test.YtkojhgagkoeeiaaCheck
import Derived.Test.YtkojhgagkoeeiaaRefS
import Derived.Test.YtkojhgagkoeeiaaCopy
/- The chapter's own attrs. -/
section
set_option linter.unusedVariables false
namespace Go.Proofs.Ytkojhgagkoeeiaa
open Go.Deep (BT)
open Go.RowKit M

theorem rname_at (s : ByteArray) (b : Bool) (h : Fact (nameOK s = b)) (w : World) : Calls Try.prog 68 #[.string s] w fun e w' => e = .returned (.bool b) ∧ w' = w := by
  rw [← h.out]; exact rname_any s w

set_option maxRecDepth 20000 in
set_option maxHeartbeats 2000000 in
theorem rattrs_any (v : Value) (l : List (ByteArray × ByteArray)) (m : Nat) (w : World) (ha : AS (Old m) w v l) (hm : m ≤ w.heap.size) :
    Calls Try.prog 69 #[v] w fun e w' => e = .returned (.bool (attrsOK l)) ∧ Below w.heap.size w w' := by
  obtain ⟨a, cap, b, o, rfl, hc1, hc2, hc⟩ := ha.place
  by_cases h12 : 12 < l.length
  · go_enter Try.func69, Try.ntmps69
    go_wp2
    go_ret
    exact ⟨ret_bool (by unfold attrsOK; rw [decide_eq_false (by omega)]; rfl), Below.refl _ _⟩
  have e0 : attrsOK l = upto (good l) l.length := by
    unfold attrsOK; rw [decide_eq_true (p := l.length ≤ 12) (by omega)]; rfl
  rw [e0]
  clear e0
  obtain ⟨n, hn⟩ : ∃ n, l.length = n := ⟨_, rfl⟩
  rw [hn] at h12 hc ⊢
  have HC := Fact.mk hc
  clear hc hn ha
  go_enter Try.func69, Try.ntmps69
  go_wp2
  go_loopg [3] n (fun gf i wx => ∃ k : Nat, i = .int .i64 k ∧ k ≤ n ∧ n ≤ k + gf ∧ Below w.heap.size w wx ∧ Fact (upto (good l) k = true))
  case atStart => exact ⟨0, rfl, Nat.zero_le _, by omega, Below.refl _ _, ⟨rfl⟩⟩
  case round =>
    obtain ⟨k, rfl, hk, hfu, hb, hf⟩ := hrel
    by_cases hlt : k < n
    · obtain ⟨g', rfl⟩ : ∃ g', gk = g' + 1 := ⟨gk - 1, by omega⟩
      obtain ⟨ea, hbm, d0, d1⟩ := HC.out k hlt
      subst ea
      have hbl : b < w.heap.size := by omega
      have c0 := (hb.cell (p := ⟨b, o + k * 2, none⟩) hbl).trans d0
      have c1 := (hb.cell (p := ⟨b, o + k * 2 + 1, none⟩) hbl).trans d1
      obtain ⟨N, hN⟩ : ∃ N, (bs l k).1 = N := ⟨_, rfl⟩
      obtain ⟨V, hV⟩ : ∃ V, (bs l k).2 = V := ⟨_, rfl⟩
      have hg : good l k = ((nameOK N && decide (V.size ≤ 4096)) && (decide (k = 0) || !le N (bs l (k - 1)).1)) := by rw [← hN, ← hV]; rfl
      rw [hN] at c0
      rw [hV] at c1
      have HU := Fact.mk (upto_succ (good l) k)
      have j1 : (k : Int) < n := by omega
      have j2 : (0 : Int) ≤ k := by omega
      clear hN hV d0 d1
      have HX := Fact.mk hb
      cases hnm : nameOK N
      · have HN : Fact (nameOK N = false) := ⟨hnm⟩
        have HG : Fact (good l k = false) := ⟨by rw [hg, hnm]; rfl⟩
        clear hg hnm
        go_wp2_with fail
        go_quiet (first | (go_at_call 68; exact Calls.quiet_of_same (rname_at _ false HN _)))
        go_wp2_with fail
        go_ret
        exact ⟨ret_bool (upto_not _ _ _ hlt HG.out).symm, below_drewN HX.out _⟩
      · have HN : Fact (nameOK N = true) := ⟨hnm⟩
        by_cases hvs : 4096 < V.size
        · have HG : Fact (good l k = false) := ⟨by rw [hg, hnm, decide_eq_false (by omega)]; rfl⟩
          have hvb : decide ((4096 : Int) < V.size) = true := decide_eq_true (by omega)
          clear hg hnm
          go_wp2_with fail
          go_quiet (first | (go_at_call 68; exact Calls.quiet_of_same (rname_at _ true HN _)))
          go_wp2_with fail
          go_ret
          exact ⟨ret_bool (upto_not _ _ _ hlt HG.out).symm, below_drewN HX.out _⟩
        · have hvb : decide ((4096 : Int) < V.size) = false := decide_eq_false (by omega)
          by_cases hk0 : k = 0
          · subst hk0
            have HG : Fact (good l 0 = true) := ⟨by rw [hg, hnm, decide_eq_true (p := V.size ≤ 4096) (by omega)]; rfl⟩
            simp only [Nat.zero_mul, Nat.add_zero] at c0 c1
            clear hg hnm
            go_wp2_with fail
            go_quiet (first | (go_at_call 68; exact Calls.quiet_of_same (rname_at _ true HN _)))
            go_wp2_with fail
            go_roundg g'
            case measure => omega
            case rel => exact ⟨1, by go_num, by omega, by omega, below_drewN HX.out _, ⟨by rw [HU.out, hf.out, HG.out]; rfl⟩⟩
          · obtain ⟨j, rfl⟩ : ∃ j, k = j + 1 := ⟨k - 1, by omega⟩
            have p0 : wr.cell? ⟨b, o + j * 2, none⟩ = some (.string (bs l j).1) := (hb.cell (p := ⟨b, o + j * 2, none⟩) hbl).trans (HC.out j (by omega)).2.2.1
            obtain ⟨M, hM⟩ : ∃ M, (bs l j).1 = M := ⟨_, rfl⟩
            rw [Nat.add_sub_cancel, hM] at hg
            rw [hM] at p0
            have hwr := wrapI j (by omega)
            have hj1 : j < n := by omega
            have hj2 : (j : Int) < n := by omega
            have hj3 : (0 : Int) ≤ j := by omega
            have hjb : decide ((0 : Int) < (j : Int) + 1) = true := decide_eq_true (by omega)
            cases hle : le N M
            · have HG : Fact (good l (j + 1) = true) := ⟨by rw [hg, hnm, hle, decide_eq_true (p := V.size ≤ 4096) (by omega)]; simp⟩
              have hle' : (Op.bytesLess N.toList M.toList || N.toList == M.toList) = false := hle
              clear hg hnm hM hle
              go_wp2_with fail
              go_quiet (first | (go_at_call 68; exact Calls.quiet_of_same (rname_at _ true HN _)))
              go_wp2_with fail
              go_roundg g'
              case measure => omega
              case rel => exact ⟨j + 1 + 1, by go_num, by omega, by omega, below_drewN HX.out _, ⟨by rw [HU.out, hf.out, HG.out]; rfl⟩⟩
            · have HG : Fact (good l (j + 1) = false) := ⟨by rw [hg, hnm, hle, decide_eq_true (p := V.size ≤ 4096) (by omega)]; simp⟩
              have hle' : (Op.bytesLess N.toList M.toList || N.toList == M.toList) = true := hle
              clear hg hnm hM hle
              go_wp2_with fail
              go_quiet (first | (go_at_call 68; exact Calls.quiet_of_same (rname_at _ true HN _)))
              go_wp2_with fail
              go_ret
              exact ⟨ret_bool (upto_not _ _ _ hlt HG.out).symm, below_drewN HX.out _⟩
    · have HG : Fact (upto (good l) n = true) := ⟨by have := hf.out; rwa [show k = n by omega] at this⟩
      go_wp2
      go_ret
      exact ⟨ret_bool (by rw [HG.out]), hb⟩
theorem rattrs_at (v : Value) (l : List (ByteArray × ByteArray)) (r : Bool) (hr : Fact (attrsOK l = r)) (m : Nat) (w : World) (ha : AS (Old m) w v l) (hm : m ≤ w.heap.size) :
    Calls Try.prog 69 #[v] w fun e w' => e = .returned (.bool r) ∧ Below w.heap.size w w' := by
  rw [← hr.out]; exact rattrs_any v l m w ha hm
end Go.Proofs.Ytkojhgagkoeeiaa
end

/- The chapter's own May. -/
section
set_option linter.unusedVariables false
set_option linter.unusedSimpArgs false
namespace Go.Proofs.Ytkojhgagkoeeiaa
open Go.Deep (BT)
open Go.RowKit M

def mayR (d : Nd) (kl : Nat) (top root : Bool) : Bool :=
  if d.k = 1 then top && ((d.n.toList == []) && ((d.x.toList == []) && ((d.ats.length : Int) == 0)))
  else if d.k = 2 then nameOK d.n && ((d.x.toList == []) && attrsOK d.ats)
  else if d.k = 3 then (d.n.toList == []) && (((d.ats.length : Int) == 0) && (((kl : Int) == 0) && (decide ((1 : Int) ≤ d.x.size) && decide ((d.x.size : Int) ≤ 4096))))
  else if d.k = 4 then (d.n.toList == []) && (((d.ats.length : Int) == 0) && (((kl : Int) == 0) && decide ((d.x.size : Int) ≤ 4096)))
  else if d.k = 5 then root && (decide ((d.n.size : Int) ≤ 32) && ((d.x.toList == []) && (((d.ats.length : Int) == 0) && ((kl : Int) == 0))))
  else false
theorem emp (s : ByteArray) : (s.toList == []) = (s.size == 0) := by
  have h : s.toList.length = s.size := by rw [toList_data]; simp
  rw [Bool.eq_iff_iff, beq_iff_eq, beq_iff_eq]
  constructor
  · intro e; rw [e] at h; simpa using h.symm
  · intro e; exact List.eq_nil_of_length_eq_zero (by rw [h]; exact e)
theorem mayR_eq (d : Nd) (kl i : Nat) : mayOK d kl i = mayR d kl (decide (i = 1)) (decide (i = 2)) := by
  have hz : ∀ n : Nat, ((n : Int) == 0) = (n == 0) := fun n => by rw [Bool.eq_iff_iff, beq_iff_eq, beq_iff_eq]; omega
  have hl : ∀ n m : Nat, decide ((n : Int) ≤ m) = decide (n ≤ m) := fun n m => decide_eq_decide.2 (by omega)
  have h1 : decide ((1 : Int) ≤ d.x.size) = !(d.x.size == 0) := by
    by_cases h : d.x.size = 0
    · rw [h]; rfl
    · rw [decide_eq_true (by omega), beq_eq_false_iff_ne.2 h]; rfl
  have h2 : decide ((d.x.size : Int) ≤ 4096) = decide (d.x.size ≤ 4096) := decide_eq_decide.2 (by omega)
  have h3 : decide ((d.n.size : Int) ≤ 32) = decide (d.n.size ≤ 32) := decide_eq_decide.2 (by omega)
  unfold mayOK mayR
  rw [emp, emp, h1, h2, h3, hz, hz]
  simp only [zOK, List.all_cons, List.all_nil, Bool.and_true]
  split
  · rfl
  split
  · rw [Bool.and_assoc]
  split
  · simp only [Bool.and_assoc]
  split
  · simp only [Bool.and_assoc]
  split
  · simp only [Bool.and_assoc]
  · rfl

set_option maxRecDepth 20000 in
set_option maxHeartbeats 4000000 in
theorem rmay_any (d : Nd) (k : M.F) (av kv : Value) (top root : Bool) (n : Nat) (w : World) (hl : Lies n w d k av kv) (hn : n ≤ w.heap.size) :
    Calls Try.prog 53 #[nodeV d av kv, .bool top, .bool root] w fun e w' => e = .returned (.bool (mayR d k.len top root)) ∧ Below w.heap.size w w' := by
  obtain ⟨K, N, X, A⟩ := d
  have ha := hl.a
  obtain ⟨a1, c1, rfl, _⟩ := hl.a
  obtain ⟨a2, c2, rfl, _⟩ := hl.f
  obtain ⟨kl, hkl⟩ : ∃ kl, k.len = kl := ⟨_, rfl⟩
  dsimp only at ha ⊢
  rw [hkl]
  clear hkl hl
  obtain ⟨al, hal⟩ : ∃ al, A.length = al := ⟨_, rfl⟩
  rw [hal] at ha ⊢
  obtain ⟨W1, hW1⟩ : ∃ W1, w.alloc (.cells #[.int .i64 K, .string N, .string X, .slice a1 al c1, .slice a2 kl c2] 25) = W1 := ⟨_, rfl⟩
  have hB : Below w.heap.size w W1 := by rw [← hW1]; exact (Below.refl _ w).alloc (Nat.le_refl _) _
  have hbx : ∀ i v, (#[.int .i64 K, .string N, .string X, .slice a1 al c1, .slice a2 kl c2] : Array Value)[i]? = some v → W1.cell? ⟨w.heap.size, i, none⟩ = some v := fun i v h => by
    rw [← hW1]; exact (World.cell?_alloc_new w _ _ i).trans h
  have hz1 : W1.heap.size = w.heap.size + 1 := by rw [← hW1]; simp
  have x0 : W1.cell? ⟨w.heap.size, 0, none⟩ = some (.int .i64 K) := hbx 0 _ rfl
  have x1 : W1.cell? ⟨w.heap.size, 1, none⟩ = some (.string N) := hbx 1 _ rfl
  have x2 : W1.cell? ⟨w.heap.size, 2, none⟩ = some (.string X) := hbx 2 _ rfl
  have x3 : W1.cell? ⟨w.heap.size, 3, none⟩ = some (.slice a1 al c1) := hbx 3 _ rfl
  have x4 : W1.cell? ⟨w.heap.size, 4, none⟩ = some (.slice a2 kl c2) := hbx 4 _ rfl
  have HB := Fact.mk hB
  have HA : Fact (AS (Old n) W1 (.slice a1 al c1) A) := ⟨ha.like (like_below (hB.mono hn))⟩
  clear hbx hB ha
  by_cases h1 : K = 1
  · subst h1
    cases top
    · have hm : Fact (mayR ⟨1, N, X, A⟩ kl false root = false) := ⟨by simp only [mayR, hal]; simp⟩
      clear hal
      go_enter Try.func53, Try.ntmps53
      go_wp2_with fail
      go_ret
      exact ⟨ret_bool hm.out.symm, HB.out⟩
    · cases hn : (N.toList == [])
      · have hm : Fact (mayR ⟨1, N, X, A⟩ kl true root = false) := ⟨by simp only [mayR, hal, hn]; simp⟩
        clear hal
        go_enter Try.func53, Try.ntmps53
        go_wp2_with fail
        go_ret
        exact ⟨ret_bool hm.out.symm, HB.out⟩
      · cases hx : (X.toList == [])
        · have hm : Fact (mayR ⟨1, N, X, A⟩ kl true root = false) := ⟨by simp only [mayR, hal, hn, hx]; simp⟩
          clear hal
          go_enter Try.func53, Try.ntmps53
          go_wp2_with fail
          go_ret
          exact ⟨ret_bool hm.out.symm, HB.out⟩
        · cases ha : ((al : Int) == 0)
          · have hm : Fact (mayR ⟨1, N, X, A⟩ kl true root = false) := ⟨by simp only [mayR, hal, hn, hx, ha]; simp⟩
            clear hal
            go_enter Try.func53, Try.ntmps53
            go_wp2_with fail
            go_ret
            exact ⟨ret_bool hm.out.symm, HB.out⟩
          · have hm : Fact (mayR ⟨1, N, X, A⟩ kl true root = true) := ⟨by simp only [mayR, hal, hn, hx, ha]; simp⟩
            clear hal
            go_enter Try.func53, Try.ntmps53
            go_wp2_with fail
            go_ret
            exact ⟨ret_bool hm.out.symm, HB.out⟩
  by_cases h2 : K = 2
  · subst h2
    cases hnm : nameOK N
    · have hm : Fact (mayR ⟨2, N, X, A⟩ kl top root = false) := ⟨by simp only [mayR, hal, hnm]; simp⟩
      have HNM : Fact (nameOK N = false) := ⟨hnm⟩
      clear hal hnm
      go_enter Try.func53, Try.ntmps53
      go_wp2_with (first | (go_at_call 68; refine (rname_at _ false HNM _).mono ?_; rintro e w1 ⟨rfl, hw1⟩; have hw2 := hw1.symm; subst hw2; clear hw1))
      go_ret
      exact ⟨ret_bool hm.out.symm, HB.out⟩
    · cases hx : (X.toList == [])
      · have hm : Fact (mayR ⟨2, N, X, A⟩ kl top root = false) := ⟨by simp only [mayR, hal, hnm, hx]; simp⟩
        have HNM : Fact (nameOK N = true) := ⟨hnm⟩
        clear hal hnm
        go_enter Try.func53, Try.ntmps53
        go_wp2_with (first | (go_at_call 68; refine (rname_at _ true HNM _).mono ?_; rintro e w1 ⟨rfl, hw1⟩; have hw2 := hw1.symm; subst hw2; clear hw1))
        go_ret
        exact ⟨ret_bool hm.out.symm, HB.out⟩
      · cases hat : attrsOK A
        · have hm : Fact (mayR ⟨2, N, X, A⟩ kl top root = false) := ⟨by simp only [mayR, hal, hnm, hx, hat]; simp⟩
          have HNM : Fact (nameOK N = true) := ⟨hnm⟩
          have HAT : Fact (attrsOK A = false) := ⟨hat⟩
          clear hal hnm hat
          go_enter Try.func53, Try.ntmps53
          go_wp2_with (first | (go_at_call 68; refine (rname_at _ true HNM _).mono ?_; rintro e w1 ⟨rfl, hw1⟩; have hw2 := hw1.symm; subst hw2; clear hw1) | (go_at_call 69; refine (rattrs_at _ A false HAT n _ HA.out (by omega)).mono ?_; rintro e w3 ⟨rfl, hb3⟩))
          go_ret
          exact ⟨ret_bool hm.out.symm, HB.out.trans (hb3.mono (by omega))⟩
        · have hm : Fact (mayR ⟨2, N, X, A⟩ kl top root = true) := ⟨by simp only [mayR, hal, hnm, hx, hat]; simp⟩
          have HNM : Fact (nameOK N = true) := ⟨hnm⟩
          have HAT : Fact (attrsOK A = true) := ⟨hat⟩
          clear hal hnm hat
          go_enter Try.func53, Try.ntmps53
          go_wp2_with (first | (go_at_call 68; refine (rname_at _ true HNM _).mono ?_; rintro e w1 ⟨rfl, hw1⟩; have hw2 := hw1.symm; subst hw2; clear hw1) | (go_at_call 69; refine (rattrs_at _ A true HAT n _ HA.out (by omega)).mono ?_; rintro e w3 ⟨rfl, hb3⟩))
          go_ret
          exact ⟨ret_bool hm.out.symm, HB.out.trans (hb3.mono (by omega))⟩
  by_cases h3 : K = 3
  · subst h3
    cases hn : (N.toList == [])
    · have hm : Fact (mayR ⟨3, N, X, A⟩ kl top root = false) := ⟨by simp only [mayR, hal, hn]; simp⟩
      clear hal
      go_enter Try.func53, Try.ntmps53
      go_wp2_with fail
      go_ret
      exact ⟨ret_bool hm.out.symm, HB.out⟩
    · cases ha : ((al : Int) == 0)
      · have hm : Fact (mayR ⟨3, N, X, A⟩ kl top root = false) := ⟨by simp only [mayR, hal, hn, ha]; simp⟩
        clear hal
        go_enter Try.func53, Try.ntmps53
        go_wp2_with fail
        go_ret
        exact ⟨ret_bool hm.out.symm, HB.out⟩
      · cases hk : ((kl : Int) == 0)
        · have hm : Fact (mayR ⟨3, N, X, A⟩ kl top root = false) := ⟨by simp only [mayR, hal, hn, ha, hk]; simp⟩
          clear hal
          go_enter Try.func53, Try.ntmps53
          go_wp2_with fail
          go_ret
          exact ⟨ret_bool hm.out.symm, HB.out⟩
        · cases hx1 : decide ((1 : Int) ≤ X.size)
          · have hm : Fact (mayR ⟨3, N, X, A⟩ kl top root = false) := ⟨by simp only [mayR, hal, hn, ha, hk, hx1]; simp⟩
            clear hal
            go_enter Try.func53, Try.ntmps53
            go_wp2_with fail
            go_ret
            exact ⟨ret_bool hm.out.symm, HB.out⟩
          · cases hx4 : decide ((X.size : Int) ≤ 4096)
            · have hm : Fact (mayR ⟨3, N, X, A⟩ kl top root = false) := ⟨by simp only [mayR, hal, hn, ha, hk, hx1, hx4]; simp⟩
              clear hal
              go_enter Try.func53, Try.ntmps53
              go_wp2_with fail
              go_ret
              exact ⟨ret_bool hm.out.symm, HB.out⟩
            · have hm : Fact (mayR ⟨3, N, X, A⟩ kl top root = true) := ⟨by simp only [mayR, hal, hn, ha, hk, hx1, hx4]; simp⟩
              clear hal
              go_enter Try.func53, Try.ntmps53
              go_wp2_with fail
              go_ret
              exact ⟨ret_bool hm.out.symm, HB.out⟩
  by_cases h4 : K = 4
  · subst h4
    cases hn : (N.toList == [])
    · have hm : Fact (mayR ⟨4, N, X, A⟩ kl top root = false) := ⟨by simp only [mayR, hal, hn]; simp⟩
      clear hal
      go_enter Try.func53, Try.ntmps53
      go_wp2_with fail
      go_ret
      exact ⟨ret_bool hm.out.symm, HB.out⟩
    · cases ha : ((al : Int) == 0)
      · have hm : Fact (mayR ⟨4, N, X, A⟩ kl top root = false) := ⟨by simp only [mayR, hal, hn, ha]; simp⟩
        clear hal
        go_enter Try.func53, Try.ntmps53
        go_wp2_with fail
        go_ret
        exact ⟨ret_bool hm.out.symm, HB.out⟩
      · cases hk : ((kl : Int) == 0)
        · have hm : Fact (mayR ⟨4, N, X, A⟩ kl top root = false) := ⟨by simp only [mayR, hal, hn, ha, hk]; simp⟩
          clear hal
          go_enter Try.func53, Try.ntmps53
          go_wp2_with fail
          go_ret
          exact ⟨ret_bool hm.out.symm, HB.out⟩
        · cases hx4 : decide ((X.size : Int) ≤ 4096)
          · have hm : Fact (mayR ⟨4, N, X, A⟩ kl top root = false) := ⟨by simp only [mayR, hal, hn, ha, hk, hx4]; simp⟩
            clear hal
            go_enter Try.func53, Try.ntmps53
            go_wp2_with fail
            go_ret
            exact ⟨ret_bool hm.out.symm, HB.out⟩
          · have hm : Fact (mayR ⟨4, N, X, A⟩ kl top root = true) := ⟨by simp only [mayR, hal, hn, ha, hk, hx4]; simp⟩
            clear hal
            go_enter Try.func53, Try.ntmps53
            go_wp2_with fail
            go_ret
            exact ⟨ret_bool hm.out.symm, HB.out⟩
  by_cases h5 : K = 5
  · subst h5
    cases root
    · have hm : Fact (mayR ⟨5, N, X, A⟩ kl top false = false) := ⟨by simp only [mayR, hal]; simp⟩
      clear hal
      go_enter Try.func53, Try.ntmps53
      go_wp2_with fail
      go_ret
      exact ⟨ret_bool hm.out.symm, HB.out⟩
    · cases hn32 : decide ((N.size : Int) ≤ 32)
      · have hm : Fact (mayR ⟨5, N, X, A⟩ kl top true = false) := ⟨by simp only [mayR, hal, hn32]; simp⟩
        clear hal
        go_enter Try.func53, Try.ntmps53
        go_wp2_with fail
        go_ret
        exact ⟨ret_bool hm.out.symm, HB.out⟩
      · cases hx : (X.toList == [])
        · have hm : Fact (mayR ⟨5, N, X, A⟩ kl top true = false) := ⟨by simp only [mayR, hal, hn32, hx]; simp⟩
          clear hal
          go_enter Try.func53, Try.ntmps53
          go_wp2_with fail
          go_ret
          exact ⟨ret_bool hm.out.symm, HB.out⟩
        · cases ha : ((al : Int) == 0)
          · have hm : Fact (mayR ⟨5, N, X, A⟩ kl top true = false) := ⟨by simp only [mayR, hal, hn32, hx, ha]; simp⟩
            clear hal
            go_enter Try.func53, Try.ntmps53
            go_wp2_with fail
            go_ret
            exact ⟨ret_bool hm.out.symm, HB.out⟩
          · cases hk : ((kl : Int) == 0)
            · have hm : Fact (mayR ⟨5, N, X, A⟩ kl top true = false) := ⟨by simp only [mayR, hal, hn32, hx, ha, hk]; simp⟩
              clear hal
              go_enter Try.func53, Try.ntmps53
              go_wp2_with fail
              go_ret
              exact ⟨ret_bool hm.out.symm, HB.out⟩
            · have hm : Fact (mayR ⟨5, N, X, A⟩ kl top true = true) := ⟨by simp only [mayR, hal, hn32, hx, ha, hk]; simp⟩
              clear hal
              go_enter Try.func53, Try.ntmps53
              go_wp2_with fail
              go_ret
              exact ⟨ret_bool hm.out.symm, HB.out⟩
  have hm : Fact (mayR ⟨K, N, X, A⟩ kl top root = false) := ⟨by simp only [mayR, if_neg h1, if_neg h2, if_neg h3, if_neg h4, if_neg h5]⟩
  have k1 : (K == 1) = false := by simpa using h1
  have k2 : (K == 2) = false := by simpa using h2
  have k3 : (K == 3) = false := by simpa using h3
  have k4 : (K == 4) = false := by simpa using h4
  have k5 : (K == 5) = false := by simpa using h5
  clear hal
  go_enter Try.func53, Try.ntmps53
  go_wp2_with fail
  go_ret
  exact ⟨ret_bool hm.out.symm, HB.out⟩
theorem rmay_at (d : Nd) (k : M.F) (av kv : Value) (top root r : Bool) (hr : Fact (mayR d k.len top root = r)) (n : Nat) (w : World) (hl : Lies n w d k av kv) (hn : n ≤ w.heap.size) :
    Calls Try.prog 53 #[nodeV d av kv, .bool top, .bool root] w fun e w' => e = .returned (.bool r) ∧ Below w.heap.size w w' := by
  rw [← hr.out]; exact rmay_any d k av kv top root n w hl hn
end Go.Proofs.Ytkojhgagkoeeiaa
end

/- The chapter's own all and Check. -/
section
set_option linter.unusedVariables false
namespace Go.Proofs.Ytkojhgagkoeeiaa
open Go.Deep (BT)
open Go.RowKit M

def rF (rt : Bool) : M.F → Bool
  | .nil => true
  | .node _ _ d k r => (mayR d k.len false rt && rF (d.k == 1) k) && rF rt r
def rT (d : Nd) (k : M.F) (top root : Bool) : Bool := mayR d k.len top root && rF (d.k == 1) k

theorem keep7 {w W w5 : World} {b0 b1 c0 c1 c2 c3 c4 : Addr} {x0 x1 y0 y1 y2 y3 y4 : Value} (hb : Below W.heap.size W w5)
    (h : Below w.heap.size w W ∧ (W.cell? b0 = some x0 ∧ W.cell? b1 = some x1) ∧ (W.cell? c0 = some y0 ∧ W.cell? c1 = some y1 ∧ W.cell? c2 = some y2 ∧ W.cell? c3 = some y3 ∧ W.cell? c4 = some y4)) :
    Below w.heap.size w w5 ∧ (w5.cell? b0 = some x0 ∧ w5.cell? b1 = some x1) ∧ (w5.cell? c0 = some y0 ∧ w5.cell? c1 = some y1 ∧ w5.cell? c2 = some y2 ∧ w5.cell? c3 = some y3 ∧ w5.cell? c4 = some y4) := by
  have hk : ∀ a v, W.cell? a = some v → w5.cell? a = some v := fun a v hc => (hb.cell (p := a) (World.block_lt_of_cell? W _ hc)).trans hc
  obtain ⟨h0, ⟨p0, p1⟩, r0, r1, r2, r3, r4⟩ := h
  exact ⟨h0.trans (hb.mono h0.size), ⟨hk _ _ p0, hk _ _ p1⟩, hk _ _ r0, hk _ _ r1, hk _ _ r2, hk _ _ r3, hk _ _ r4⟩

def RAllP (k : M.F) : Prop := ∀ (d : Nd) (av kv : Value) (top root : Bool) (n : Nat) (w : World), Lies n w d k av kv → n ≤ w.heap.size →
  Calls Try.prog 37 #[nodeV d av kv, .bool top, .bool root] w fun e w' => e = .returned (.bool (rT d k top root)) ∧ Below w.heap.size w w'

set_option maxRecDepth 20000 in
set_option maxHeartbeats 4000000 in
theorem rall_step (k : M.F) (hH : Hered RAllP k) : RAllP k := by
  intro d av kv top root n w hl hn
  obtain ⟨K, N, X, A⟩ := d
  obtain ⟨a1, l1, c1, eav⟩ := hl.a.val
  subst eav
  have hl0 := hl
  obtain ⟨a2, c2, rfl, hc2, hm2, hF⟩ := hl.f
  obtain ⟨kl, hkl⟩ : ∃ kl, k.len = kl := ⟨_, rfl⟩
  obtain ⟨mr, hmr⟩ : ∃ mr, Fact (mayR ⟨K, N, X, A⟩ k.len top root = mr) := ⟨_, ⟨rfl⟩⟩
  obtain ⟨kr, hkr⟩ : ∃ kr, (K == 1) = kr := ⟨_, rfl⟩
  have hR : Fact (rT ⟨K, N, X, A⟩ k top root = (mr && rF kr k)) := ⟨by rw [← hmr.out, ← hkr]; rfl⟩
  obtain ⟨W1, hW1⟩ : ∃ W1, w.alloc (.cells #[.int .i64 K, .string N, .string X, .slice a1 l1 c1, .slice a2 kl c2] 25) = W1 := ⟨_, rfl⟩
  have hB1 : Below w.heap.size w W1 := by rw [← hW1]; exact (Below.refl _ w).alloc (Nat.le_refl _) _
  have hz1 : W1.heap.size = w.heap.size + 1 := by rw [← hW1]; simp
  have hbx : ∀ i v, (#[.int .i64 K, .string N, .string X, .slice a1 l1 c1, .slice a2 kl c2] : Array Value)[i]? = some v → W1.cell? ⟨w.heap.size, i, none⟩ = some v := fun i v h => by
    rw [← hW1]; exact (World.cell?_alloc_new w _ _ i).trans h
  have x0 : W1.cell? ⟨w.heap.size, 0, none⟩ = some (.int .i64 K) := hbx 0 _ rfl
  have x1 : W1.cell? ⟨w.heap.size, 1, none⟩ = some (.string N) := hbx 1 _ rfl
  have x2 : W1.cell? ⟨w.heap.size, 2, none⟩ = some (.string X) := hbx 2 _ rfl
  have x3 : W1.cell? ⟨w.heap.size, 3, none⟩ = some (.slice a1 l1 c1) := hbx 3 _ rfl
  have x4 : W1.cell? ⟨w.heap.size, 4, none⟩ = some (.slice a2 kl c2) := hbx 4 _ rfl
  obtain ⟨b2, o2, hkd⟩ : ∃ b o, Fact (∀ i, i < kl → a2 = some ⟨b, o, none⟩ ∧ b < n ∧ FAt (Old n) w k b o) := by
    rcases hF with h0 | ⟨b, o, ea, hS, hcs⟩
    · refine ⟨0, 0, ⟨fun i hi => ?_⟩⟩
      omega
    · exact ⟨b, o, ⟨fun i hi => ⟨ea, hS, hcs⟩⟩⟩
  have HL1 : Fact (Lies n W1 ⟨K, N, X, A⟩ k (.slice a1 l1 c1) (.slice a2 kl c2)) := ⟨hkl ▸ hl0.below (hB1.mono hn)⟩
  have HB1 := Fact.mk hB1
  have HH := Fact.mk hH
  have HKL := Fact.mk hkl
  have HX0 := Fact.mk x0
  have HX4 := Fact.mk x4
  rw [hkl] at hc2 ⊢
  unfold maxLen at hm2
  clear hF hl hl0 hH hbx hB1 hkl
  rw [hR.out]
  cases mr
  · clear hkd
    go_enter Try.func37, Try.ntmps37
    go_wp2_with (go_at_call 53; refine (rmay_at _ k _ _ _ _ false hmr n _ HL1.out (by omega)).mono ?_; rintro e w2 ⟨rfl, hb2⟩; have HB2 := Fact.mk hb2; clear hb2)
    go_ret
    exact ⟨rfl, HB1.out.trans (HB2.out.mono (by omega))⟩
  rw [Bool.true_and]
  clear hR
  go_enter Try.func37, Try.ntmps37
  go_wp2_with (go_at_call 53; refine (rmay_at _ k _ _ _ _ true hmr n _ HL1.out (by omega)).mono ?_; rintro e w2 ⟨rfl, hb2⟩; have HB2 := Fact.mk hb2; clear hb2)
  clear x0 x1 x2 x3 x4 hmr HL1
  go_loopg [7] kl (fun gf iv wr => ∃ (i : Nat) (rest : M.F), iv = .int .i64 i ∧ i + rest.len = kl ∧ rest.len ≤ gf ∧
    Fact (Below (w.heap.size + 1) W1 wr) ∧ Fact ((rest.len = 0 ∨ FAt (Old n) w rest b2 (o2 + i * 5)) ∧ Hered RAllP rest ∧ rF kr rest = rF kr k))
  case atStart =>
    refine ⟨0, k, rfl, by rw [HKL.out]; omega, by rw [HKL.out]; omega, ⟨HB2.out.mono (by omega)⟩, ⟨?_, HH.out, rfl⟩⟩
    by_cases h0 : kl = 0
    · left; rw [HKL.out]; exact h0
    · right
      rw [Nat.zero_mul, Nat.add_zero]
      exact (hkd.out 0 (by omega)).2.2
  case round =>
    obtain ⟨i, rest, rfl, hlen, hfu, hBr, hfx⟩ := hrel
    have y0 := (hBr.out.cell (p := ⟨w.heap.size, 0, none⟩) (by show w.heap.size < _; omega)).trans HX0.out
    have y4 := (hBr.out.cell (p := ⟨w.heap.size, 4, none⟩) (by show w.heap.size < _; omega)).trans HX4.out
    cases rest with
    | nil =>
      have hi : i = kl := by have : i + 0 = kl := hlen; omega
      obtain ⟨_, _, q⟩ := hfx.out
      have HQ : Fact (rF kr k = true) := ⟨q.symm⟩
      clear hfx hlen q hkd HB2
      subst hi
      go_wp2_with fail
      go_ret
      exact ⟨ret_bool HQ.out.symm, HB1.out.trans (hBr.out.mono (by omega))⟩
    | node xb xo d' k' r' =>
      have hlen' : i + (r'.len + 1) = kl := hlen
      have hfu' : r'.len + 1 ≤ gk := hfu
      obtain ⟨g', rfl⟩ : ∃ g', gk = g' + 1 := ⟨gk - 1, by omega⟩
      have hlt2 : i < kl := by omega
      obtain ⟨ea2, hb2, _⟩ := hkd.out i hlt2
      subst ea2
      obtain ⟨hfat, ⟨hP, hHr⟩, q⟩ := hfx.out
      have hfat' := hfat.resolve_left (by show ¬ r'.len + 1 = 0; omega)
      obtain ⟨⟨av', ka', kc', e0, e1, e2, e3, e4, hav', h4, h5, hkk⟩, hrr⟩ := hfat'
      have hbw : Below w.heap.size w wr := HB1.out.trans (hBr.out.mono (by omega))
      have hcc : ∀ o, wr.cell? ⟨b2, o, none⟩ = w.cell? ⟨b2, o, none⟩ := fun o => hbw.cell (p := ⟨b2, o, none⟩) (by show b2 < _; omega)
      obtain ⟨x1', x2', x3', ex⟩ := hav'.val
      subst ex
      obtain ⟨kl', hkl'⟩ : ∃ kl', k'.len = kl' := ⟨_, rfl⟩
      have hlk : Like (Old n) w wr.drew := like_below (hbw.mono hn).drew
      have hq : rF kr (.node xb xo d' k' r') = (rT d' k' false kr && rF kr r') := rfl
      rw [hq] at q
      obtain ⟨rr, hrr'⟩ : ∃ rr, rT d' k' false kr = rr := ⟨_, rfl⟩
      rw [hrr'] at q
      have hcall := hP d' (.slice x1' x2' x3') (.slice ka' k'.len kc') false kr n wr.drew ⟨hav'.like hlk, FL.like hlk ⟨ka', kc', rfl, h4, h5, hkk⟩⟩ (Nat.le_trans hn hbw.size)
      rw [hrr', hkl'] at hcall
      have HCALL := Fact.mk hcall
      have HQ := Fact.mk q
      have HR : Fact (FAt (Old n) w r' b2 (o2 + (i + 1) * 5) ∧ Hered RAllP r') := ⟨by rw [show o2 + (i + 1) * 5 = o2 + i * 5 + 5 by omega]; exact hrr, hHr⟩
      have HS : Fact (Below wr.heap.size wr wr.drew ∧ (wr.drew.cell? ⟨w.heap.size, 0, none⟩ = some (.int .i64 K) ∧ wr.drew.cell? ⟨w.heap.size, 4, none⟩ = some (.slice (some ⟨b2, o2, none⟩) kl c2)) ∧ (wr.drew.cell? ⟨b2, o2 + i * 5, none⟩ = some (.int .i64 d'.k) ∧ wr.drew.cell? ⟨b2, o2 + i * 5 + 1, none⟩ = some (.string d'.n) ∧ wr.drew.cell? ⟨b2, o2 + i * 5 + 2, none⟩ = some (.string d'.x) ∧ wr.drew.cell? ⟨b2, o2 + i * 5 + 3, none⟩ = some (.slice x1' x2' x3') ∧ wr.drew.cell? ⟨b2, o2 + i * 5 + 4, none⟩ = some (.slice ka' kl' kc'))) :=
        ⟨(Below.refl _ _).drew, ⟨y0, y4⟩, (hcc _).trans e0, (hcc _).trans e1, (hcc _).trans e2, (hcc _).trans e3, by rw [← hkl']; exact (hcc _).trans e4⟩
      have j1 : (i : Int) < kl := by omega
      have j3 : (0 : Int) ≤ i := by omega
      clear hfx hfat hP hHr hrr hkk hav' hcall hlk e0 e1 e2 e3 e4 hkd hlen hfu q hq hrr' hcc HB2
      go_wp2_with fail
      have hS0 := HS.out
      clear HS
      go_region_held3 (fun w' => Below wr.heap.size wr w' ∧ (w'.cell? ⟨w.heap.size, 0, none⟩ = some (.int .i64 K) ∧ w'.cell? ⟨w.heap.size, 4, none⟩ = some (.slice (some ⟨b2, o2, none⟩) kl c2)) ∧ (w'.cell? ⟨b2, o2 + i * 5, none⟩ = some (.int .i64 d'.k) ∧ w'.cell? ⟨b2, o2 + i * 5 + 1, none⟩ = some (.string d'.n) ∧ w'.cell? ⟨b2, o2 + i * 5 + 2, none⟩ = some (.string d'.x) ∧ w'.cell? ⟨b2, o2 + i * 5 + 3, none⟩ = some (.slice x1' x2' x3') ∧ w'.cell? ⟨b2, o2 + i * 5 + 4, none⟩ = some (.slice ka' kl' kc')))
        (first | with_reducible exact hS0 | with_reducible exact keep7 hb5 (by assumption))
        (first | (go_at_call 37; refine HCALL.out.mono ?_; rintro e w5 ⟨rfl, hb5⟩))
      rename_i hHeld
      have HB5 : Fact (Below (w.heap.size + 1) W1 w5) := ⟨hBr.out.trans (hHeld.1.mono (by have := hBr.out.size; omega))⟩
      clear hHeld HCALL hS0 hb5
      cases rr
      · have HQ2 : Fact (rF kr k = false) := ⟨HQ.out.symm⟩
        go_wp2_with fail
        go_ret
        exact ⟨ret_bool HQ2.out.symm, HB1.out.trans (HB5.out.mono (by omega))⟩
      · have HQ2 : Fact (rF kr r' = rF kr k) := ⟨HQ.out⟩
        go_wp2_with fail
        go_roundg g'
        case measure => omega
        case rel => exact ⟨i + 1, r', by go_num, by omega, by omega, HB5, ⟨.inr HR.out.1, HR.out.2, HQ2.out⟩⟩
theorem rall_any (k : M.F) : RAllP k := indH rall_step k
end Go.Proofs.Ytkojhgagkoeeiaa
end

section
set_option linter.unusedVariables false
set_option linter.unusedSimpArgs false
namespace Go.Proofs.Ytkojhgagkoeeiaa
open Go.Deep (BT)
open Go.RowKit M

theorem and4 (D a b c m p q : Bool) (h : D = (a && (b && c))) : ((a && m) && ((b && p) && (c && q))) = (D && ((m && p) && q)) := by
  subst h; cases a <;> cases b <;> cases c <;> cases m <;> cases p <;> cases q <;> rfl
theorem fit_eq : ∀ (f : M.F) (i : Nat) (rt : Bool), 2 ≤ i → rt = decide (i = 2) → allFit (pre i f) = (decide (f.depth = 0 ∨ i - 1 + f.depth ≤ 60) && rF rt f)
  | .nil, i, rt, _, _ => by
    rw [decide_eq_true (.inl rfl)]; rfl
  | .node xb xo d k r, i, rt, hi, hrt => by
    have hk := fit_eq k (i + 1) false (by omega) (decide_eq_false (by omega)).symm
    have hr := fit_eq r i rt hi hrt
    have e1 : allFit (pre i (.node xb xo d k r)) = (fits ⟨i, d, k⟩ && (allFit (pre (i + 1) k) && allFit (pre i r))) := by
      show List.all (_ :: (pre (i + 1) k ++ pre i r)) fits = _
      rw [List.all_cons, List.all_append]; rfl
    have hi1 : decide (i = 1) = false := decide_eq_false (by omega)
    have e2 : fits ⟨i, d, k⟩ = (decide (i ≤ 60) && mayR d k.len false rt) := by
      show (decide (i ≤ 60) && mayOK d k.len i) = _
      rw [mayR_eq, hi1, hrt]
    have e3 : rF rt (.node xb xo d k r) = ((mayR d k.len false rt && rF (d.k == 1) k) && rF rt r) := rfl
    rw [e1, e2, e3]
    by_cases h1 : d.k = 1
    · have hm : mayR d k.len false rt = false := by unfold mayR; rw [if_pos h1]; rfl
      rw [hm]
      simp
    · rw [show (d.k == 1) = false from beq_eq_false_iff_ne.2 h1, hk, hr]
      refine and4 _ _ _ _ _ _ _ ?_
      have e4 : (BT.node xb xo d k r).depth = max (k.depth + 1) r.depth := rfl
      rw [e4, ← Bool.decide_and, ← Bool.decide_and]
      exact decide_eq_decide.2 (by omega)
theorem treeOK_eq (d : Nd) (k : M.F) : treeOK d k = (decide (d.k = 1) && (decide (k.size + 1 ≤ 300) && (decide (k.depth + 1 ≤ 60) && rT d k true false))) := by
  unfold treeOK
  by_cases h1 : d.k = 1
  · have hk := fit_eq k 2 true (by omega) rfl
    have e1 : allFit (pre 1 (.cons d k .nil)) = (fits ⟨1, d, k⟩ && (allFit (pre 2 k) && true)) := by
      show List.all (_ :: (pre (1 + 1) k ++ [])) fits = _
      rw [List.all_cons, List.all_append]; rfl
    have e2 : fits ⟨1, d, k⟩ = mayR d k.len true false := by
      show (decide (1 ≤ 60) && mayOK d k.len 1) = _
      rw [mayR_eq]; rfl
    have e3 : rT d k true false = (mayR d k.len true false && rF true k) := by
      unfold rT; rw [h1]; rfl
    have e4 : decide (k.depth = 0 ∨ 2 - 1 + k.depth ≤ 60) = decide (k.depth + 1 ≤ 60) := decide_eq_decide.2 (by omega)
    rw [e1, e2, e3, hk, e4, Bool.and_true]
    congr 2
    cases mayR d k.len true false <;> cases decide (k.depth + 1 ≤ 60) <;> rfl
  · rw [decide_eq_false h1]; rfl

set_option maxRecDepth 20000 in
set_option maxHeartbeats 2000000 in
theorem rcheck_any (d : Nd) (k : M.F) (av kv : Value) (n : Nat) (w : World) (hl : Lies n w d k av kv) (hn : n ≤ w.heap.size) (hs : k.size ≤ 1000000) (hd : k.depth ≤ 1000000) (C : Bool) (hC : Fact (treeOK d k = C)) :
    Calls Try.prog 16 #[nodeV d av kv] w fun e w' => e = .returned (.bool C) ∧ Below w.heap.size w w' := by
  have HC : Fact ((decide (d.k = 1) && (decide (k.size + 1 ≤ 300) && (decide (k.depth + 1 ≤ 60) && rT d k true false))) = C) := ⟨by rw [← treeOK_eq]; exact hC.out⟩
  clear hC
  obtain ⟨K, N, X, A⟩ := d
  obtain ⟨a1, l1, c1, eav⟩ := hl.a.val
  obtain ⟨a2, c2, ekv⟩ := hl.f.val
  subst eav ekv
  obtain ⟨kl, hkl⟩ : ∃ kl, k.len = kl := ⟨_, rfl⟩
  rw [hkl] at hl ⊢
  obtain ⟨W1, hW1⟩ : ∃ W1, w.alloc (.cells #[.int .i64 K, .string N, .string X, .slice a1 l1 c1, .slice a2 kl c2] 25) = W1 := ⟨_, rfl⟩
  have hB1 : Below w.heap.size w W1 := by rw [← hW1]; exact (Below.refl _ w).alloc (Nat.le_refl _) _
  have hz1 : W1.heap.size = w.heap.size + 1 := by rw [← hW1]; simp
  have hbx : ∀ i v, (#[.int .i64 K, .string N, .string X, .slice a1 l1 c1, .slice a2 kl c2] : Array Value)[i]? = some v → W1.cell? ⟨w.heap.size, i, none⟩ = some v := fun i v h => by
    rw [← hW1]; exact (World.cell?_alloc_new w _ _ i).trans h
  have HXC : Fact (∀ w', Below W1.heap.size W1 w' → ((w'.cell? ⟨w.heap.size, 0, none⟩ = some (.int .i64 K) ∧ w'.cell? ⟨w.heap.size, 1, none⟩ = some (.string N) ∧ w'.cell? ⟨w.heap.size, 2, none⟩ = some (.string X) ∧ w'.cell? ⟨w.heap.size, 3, none⟩ = some (.slice a1 l1 c1) ∧ w'.cell? ⟨w.heap.size, 4, none⟩ = some (.slice a2 kl c2)) ∧ Lies n w' ⟨K, N, X, A⟩ k (.slice a1 l1 c1) (.slice a2 kl c2) ∧ n ≤ w'.heap.size)) := ⟨fun w' hb => by
    have hc : ∀ i v, (#[.int .i64 K, .string N, .string X, .slice a1 l1 c1, .slice a2 kl c2] : Array Value)[i]? = some v → w'.cell? ⟨w.heap.size, i, none⟩ = some v := fun i v h => (hb.cell (p := ⟨w.heap.size, i, none⟩) (by show w.heap.size < _; omega)).trans (hbx i v h)
    exact ⟨⟨hc 0 _ rfl, hc 1 _ rfl, hc 2 _ rfl, hc 3 _ rfl, hc 4 _ rfl⟩, hl.below ((hB1.trans (hb.mono (by omega))).mono hn), by have := hb.size; omega⟩⟩
  obtain ⟨⟨x0, x1, x2, x3, x4⟩, hL1, _⟩ := HXC.out _ (Below.refl _ W1)
  have HL1 := Fact.mk hL1
  have HB1 := Fact.mk hB1
  clear hbx hB1 hl hL1
  obtain ⟨Z, hZ⟩ : ∃ Z, k.size + 1 = Z := ⟨_, rfl⟩
  obtain ⟨E, hE⟩ : ∃ E, k.depth + 1 = E := ⟨_, rfl⟩
  obtain ⟨R, hR⟩ : ∃ R, rT ⟨K, N, X, A⟩ k true false = R := ⟨_, rfl⟩
  rw [hZ, hE, hR] at HC
  have HZ : Fact (k.size + 1 = Z) := ⟨hZ⟩
  have HE : Fact (k.depth + 1 = E) := ⟨hE⟩
  have HR : Fact (rT ⟨K, N, X, A⟩ k true false = R) := ⟨hR⟩
  have HS := Fact.mk hs
  have HD := Fact.mk hd
  have zb : Z ≤ 1000001 := by omega
  have eb : E ≤ 1000001 := by omega
  clear hZ hE hR hkl hs hd
  by_cases h1 : K = 1
  · subst h1
    by_cases h2 : Z ≤ 300
    · have h2' : (Z : Int) ≤ 300 := by omega
      by_cases h3 : E ≤ 60
      · have h3' : (E : Int) ≤ 60 := by omega
        have hC' : Fact (R = C) := ⟨by have := HC.out; rw [decide_eq_true h2, decide_eq_true h3] at this; exact this⟩
        clear HC
        go_enter Try.func16, Try.ntmps16
        go_wp2_with (first
          | (go_at_call 25; refine (rsize_any k _ _ _ n _ HL1.out (by omega) HS.out).mono ?_; rw [HZ.out]; rintro e w2 ⟨rfl, hb2⟩; have HB2 := Fact.mk hb2; clear hb2; obtain ⟨⟨y0, y1, y2, y3, y4⟩, hL2, hn2⟩ := HXC.out _ HB2.out; have HL2 := Fact.mk hL2; clear hL2)
          | (go_at_call 36; refine (rdepth_any k _ _ _ n _ HL2.out hn2 HD.out).mono ?_; rw [HE.out]; rintro e w3 ⟨rfl, hb3⟩; have HB3 := Fact.mk (HB2.out.trans (hb3.mono HB2.out.size)); clear hb3; obtain ⟨⟨z0, z1, z2, z3, z4⟩, hL3, hn3⟩ := HXC.out _ HB3.out; have HL3 := Fact.mk hL3; clear hL3)
          | (go_at_call 37; refine (rall_any k _ _ _ true false n _ HL3.out hn3).mono ?_; rw [HR.out]; rintro e w4 ⟨rfl, hb4⟩; have HB4 := Fact.mk (HB3.out.trans (hb4.mono HB3.out.size)); clear hb4))
        go_ret
        exact ⟨ret_bool hC'.out, HB1.out.trans (HB4.out.mono (by omega))⟩
      · have h3' : ¬ (E : Int) ≤ 60 := by omega
        have hC' : Fact (false = C) := ⟨by have := HC.out; rw [decide_eq_true h2, decide_eq_false h3] at this; exact this⟩
        clear HC
        go_enter Try.func16, Try.ntmps16
        go_wp2_with (first
          | (go_at_call 25; refine (rsize_any k _ _ _ n _ HL1.out (by omega) HS.out).mono ?_; rw [HZ.out]; rintro e w2 ⟨rfl, hb2⟩; have HB2 := Fact.mk hb2; clear hb2; obtain ⟨⟨y0, y1, y2, y3, y4⟩, hL2, hn2⟩ := HXC.out _ HB2.out; have HL2 := Fact.mk hL2; clear hL2)
          | (go_at_call 36; refine (rdepth_any k _ _ _ n _ HL2.out hn2 HD.out).mono ?_; rw [HE.out]; rintro e w3 ⟨rfl, hb3⟩; have HB3 := Fact.mk (HB2.out.trans (hb3.mono HB2.out.size)); clear hb3))
        go_ret
        exact ⟨ret_bool hC'.out, HB1.out.trans (HB3.out.mono (by omega))⟩
    · have h2' : ¬ (Z : Int) ≤ 300 := by omega
      have hC' : Fact (false = C) := ⟨by have := HC.out; rw [decide_eq_false h2] at this; exact this⟩
      clear HC
      go_enter Try.func16, Try.ntmps16
      go_wp2_with (go_at_call 25; refine (rsize_any k _ _ _ n _ HL1.out (by omega) HS.out).mono ?_; rw [HZ.out]; rintro e w2 ⟨rfl, hb2⟩; have HB2 := Fact.mk hb2; clear hb2)
      go_ret
      exact ⟨ret_bool hC'.out, HB1.out.trans (HB2.out.mono (by omega))⟩
  · have h1' : (K == 1) = false := by simpa using h1
    have hC' : Fact (false = C) := ⟨by have := HC.out; rw [decide_eq_false h1] at this; exact this⟩
    clear HC
    go_enter Try.func16, Try.ntmps16
    go_wp2_with fail
    go_ret
    exact ⟨ret_bool hC'.out, HB1.out⟩
end Go.Proofs.Ytkojhgagkoeeiaa
end
