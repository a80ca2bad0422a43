/- What attrsMayBe and mayBe answer: whether a node may stand at a depth. -/
import Derived.Test.YtkojhgagkoeeiaaNames
set_option linter.unusedVariables false
namespace Go.Proofs.Ytkojhgagkoeeiaa
open Go.RowKit M

def bs (l : List (ByteArray × ByteArray)) (i : Nat) : ByteArray × ByteArray := l.getD i (⟨#[]⟩, ⟨#[]⟩)
theorem bs_get (l : List (ByteArray × ByteArray)) (i : Nat) (h : i < l.length) : l[i] = bs l i := by
  unfold bs; rw [List.getD_eq_getElem?_getD, List.getElem?_eq_getElem h]; rfl
/-- a text is not above another one -/
def le (a b : ByteArray) : Bool := Op.bytesLess a.toList b.toList || a.toList == b.toList
def good (l : List (ByteArray × ByteArray)) (i : Nat) : Bool := (nameOK (bs l i).1 && decide ((bs l i).2.size ≤ 4096)) && (decide (i = 0) || !le (bs l i).1 (bs l (i - 1)).1)
def upto (p : Nat → Bool) (k : Nat) : Bool := (List.range k).all p
theorem upto_succ (p : Nat → Bool) (k : Nat) : upto p (k + 1) = (upto p k && p k) := by simp [upto, List.range_succ]
theorem upto_not (p : Nat → Bool) (k n : Nat) (h : k < n) (hp : p k = false) : upto p n = false := by
  cases hA : upto p n
  · rfl
  · have := List.all_eq_true.1 hA k (List.mem_range.2 h)
    rw [hp] at this; cases this
def attrsOK (l : List (ByteArray × ByteArray)) : Bool := decide (l.length ≤ 12) && upto (good l) l.length

theorem wrapI (y : Nat) (h : y < 9223372036854775808) : IntKind.i64.wrap (y : Int) = (y : Int) := IntWalk.i64_in _ ⟨by omega, by omega⟩
theorem below_drewN {B : Nat} {a w : World} (h : Below B a w) (n : Nat) : Below B a (w.drewN n) := ⟨h.os, h.tape, h.output, h.size, h.block⟩

set_option maxRecDepth 20000 in
set_option maxHeartbeats 2000000 in
theorem attrs_any {S : Nat → Prop} (v : Value) (l : List (ByteArray × ByteArray)) (w : World) (ha : AS S w v l) :
    Calls Try.prog 61 #[v] w fun e w' => e = .returned (.bool (attrsOK l)) ∧ Below w.heap.size w w' := by
  obtain ⟨a, cap, rfl, hc1, hc2, hc⟩ := ha
  by_cases h12 : 12 < l.length
  · go_enter Try.func61, Try.ntmps61
    go_wp2
    go_ret
    exact ⟨ret_bool (by unfold attrsOK; rw [decide_eq_false (by omega)]; rfl), Below.refl _ _⟩
  have e0 : attrsOK l = upto (good l) l.length := by
    unfold attrsOK; rw [decide_eq_true (p := l.length ≤ 12) (by omega)]; rfl
  rw [e0]
  clear e0
  obtain ⟨n, hn⟩ : ∃ n, l.length = n := ⟨_, rfl⟩
  rw [hn] at h12 ⊢
  by_cases hz : n = 0
  · subst hz
    go_enter Try.func61, Try.ntmps61
    go_wp2
    refine wp_loop_rounds 1 ?_
    rw [rounds_succ]
    go_wp2
    go_ret
    exact ⟨rfl, Below.refl _ _⟩
  rcases hc with hc | ⟨b, o, rfl, hS, hcell⟩
  · rw [hc] at hn; exact absurd hn.symm hz
  have HC : Fact (∀ i, i < n → w.cell? ⟨b, o + i * 2, none⟩ = some (.string (bs l i).1) ∧ w.cell? ⟨b, o + i * 2 + 1, none⟩ = some (.string (bs l i).2)) := ⟨fun i hi => by rw [← bs_get l i (by omega)]; exact hcell i (by omega)⟩
  have hbl : b < w.heap.size := World.block_lt_of_cell? w _ (HC.out 0 (by omega)).1
  clear hcell hn
  go_enter Try.func61, Try.ntmps61
  go_wp2
  go_loopg [10] n (fun gf i wx => ∃ k : Nat, i = .int .i64 k ∧ k ≤ n ∧ n ≤ k + gf ∧ Below w.heap.size w wx ∧ Fact (upto (good l) k = true))
  case atStart => exact ⟨0, rfl, Nat.zero_le _, by omega, Below.refl _ _, ⟨rfl⟩⟩
  case round =>
    obtain ⟨k, rfl, hk, hfu, hb, hf⟩ := hrel
    by_cases hlt : k < n
    · obtain ⟨g', rfl⟩ : ∃ g', gk = g' + 1 := ⟨gk - 1, by omega⟩
      have c0 := (hb.cell (p := ⟨b, o + k * 2, none⟩) hbl).trans (HC.out k hlt).1
      have c1 := (hb.cell (p := ⟨b, o + k * 2 + 1, none⟩) hbl).trans (HC.out k hlt).2
      obtain ⟨N, hN⟩ : ∃ N, (bs l k).1 = N := ⟨_, rfl⟩
      obtain ⟨V, hV⟩ : ∃ V, (bs l k).2 = V := ⟨_, rfl⟩
      have hg : good l k = ((nameOK N && decide (V.size ≤ 4096)) && (decide (k = 0) || !le N (bs l (k - 1)).1)) := by rw [← hN, ← hV]; rfl
      rw [hN] at c0
      rw [hV] at c1
      have hbx : Below w.heap.size w (wr.alloc (.cells #[.string N, .string V] 95)) := hb.alloc hb.size _
      have HU := Fact.mk (upto_succ (good l) k)
      clear hN hV
      have HX := Fact.mk hbx
      cases hnm : nameOK N
      · have HN : Fact (nameOK N = false) := ⟨hnm⟩
        have HG : Fact (good l k = false) := ⟨by rw [hg, hnm]; rfl⟩
        clear hg hnm hbx
        go_wp2_with (go_at_call 60; refine (name_at _ false HN _).mono ?_; rintro e w1 ⟨rfl, rfl⟩)
        go_ret
        exact ⟨ret_bool (upto_not _ _ _ hlt HG.out).symm, HX.out⟩
      · have HN : Fact (nameOK N = true) := ⟨hnm⟩
        by_cases hvs : 4096 < V.size
        · have HG : Fact (good l k = false) := ⟨by rw [hg, hnm, decide_eq_false (by omega)]; rfl⟩
          clear hg hnm hbx
          go_wp2_with (go_at_call 60; refine (name_at _ true HN _).mono ?_; rintro e w1 ⟨rfl, rfl⟩)
          go_ret
          exact ⟨ret_bool (upto_not _ _ _ hlt HG.out).symm, HX.out⟩
        · by_cases hk0 : k = 0
          · subst hk0
            have HG : Fact (good l 0 = true) := ⟨by rw [hg, hnm, decide_eq_true (p := V.size ≤ 4096) (by omega)]; rfl⟩
            simp only [Nat.zero_mul, Nat.add_zero] at c0 c1
            clear hg hnm hbx
            go_wp2_with (go_at_call 60; refine (name_at _ true HN _).mono ?_; rintro e w1 ⟨rfl, rfl⟩)
            go_quiet (fail)
            go_wp2
            go_roundg g'
            case measure => omega
            case rel => exact ⟨1, by go_num, by omega, by omega, below_drewN HX.out _, ⟨by rw [HU.out, hf.out, HG.out]; rfl⟩⟩
          · obtain ⟨j, rfl⟩ : ∃ j, k = j + 1 := ⟨k - 1, by omega⟩
            have p0 : (wr.alloc (.cells #[.string N, .string V] 95)).cell? ⟨b, o + j * 2, none⟩ = some (.string (bs l j).1) := (hbx.cell (p := ⟨b, o + j * 2, none⟩) hbl).trans (HC.out j (by omega)).1
            obtain ⟨M, hM⟩ : ∃ M, (bs l j).1 = M := ⟨_, rfl⟩
            rw [Nat.add_sub_cancel, hM] at hg
            rw [hM] at p0
            have hwr := wrapI j (by omega)
            have hj1 : j < n := by omega
            have hj2 : (j : Int) < n := by omega
            have hj3 : (0 : Int) ≤ j := by omega
            cases hle : le N M
            · have HG : Fact (good l (j + 1) = true) := ⟨by rw [hg, hnm, hle, decide_eq_true (p := V.size ≤ 4096) (by omega)]; simp⟩
              have hle' : (Op.bytesLess N.toList M.toList || N.toList == M.toList) = false := hle
              clear hg hnm hbx hM hle
              go_wp2_with (go_at_call 60; refine (name_at _ true HN _).mono ?_; rintro e w1 ⟨rfl, rfl⟩)
              go_quiet (fail)
              go_wp2
              go_roundg g'
              case measure => omega
              case rel => exact ⟨j + 1 + 1, by go_num, by omega, by omega, below_drewN HX.out _, ⟨by rw [HU.out, hf.out, HG.out]; rfl⟩⟩
            · have HG : Fact (good l (j + 1) = false) := ⟨by rw [hg, hnm, hle, decide_eq_true (p := V.size ≤ 4096) (by omega)]; simp⟩
              have hle' : (Op.bytesLess N.toList M.toList || N.toList == M.toList) = true := hle
              clear hg hnm hbx hM hle
              go_wp2_with (go_at_call 60; refine (name_at _ true HN _).mono ?_; rintro e w1 ⟨rfl, rfl⟩)
              go_quiet (fail)
              go_wp2
              go_ret
              exact ⟨ret_bool (upto_not _ _ _ hlt HG.out).symm, below_drewN HX.out _⟩
    · have HG : Fact (upto (good l) n = true) := ⟨by have := hf.out; rwa [show k = n by omega] at this⟩
      go_wp2
      go_ret
      exact ⟨ret_bool (by rw [HG.out]), hb⟩
theorem attrs_at {S : Nat → Prop} (v : Value) (l : List (ByteArray × ByteArray)) (r : Bool) (hr : Fact (attrsOK l = r)) (w w0 : World) (ha : AS S w0 v l) (hl : Like S w0 w) :
    Calls Try.prog 61 #[v] w fun e w' => e = .returned (.bool r) ∧ Below w.heap.size w w' := by
  rw [← hr.out]; exact attrs_any v l w (ha.like hl)

theorem none3 (w : World) (B a b c : Nat) (hB : w.heap.size = B) (r : Bool) (hr : Fact (zOK [a, b, c] = r)) :
    Calls Try.prog 59 #[.slice (some ⟨B, 0, none⟩) 3 3] (w.alloc (.cells #[.int .i64 a, .int .i64 b, .int .i64 c] 3)) fun e w' => e = .returned (.bool r) ∧ w' = w.alloc (.cells #[.int .i64 a, .int .i64 b, .int .i64 c] 3) := by
  subst hB
  rw [← hr.out]
  refine none_any ⟨w.heap.size, 0, none⟩ 3 3 [a, b, c] _ rfl (by decide) ?_
  intro i hi
  have hi3 : i < 3 := hi
  rcases (by omega : i = 0 ∨ i = 1 ∨ i = 2) with rfl | rfl | rfl
  · exact World.cell?_alloc_new w _ _ 0
  · exact World.cell?_alloc_new w _ _ 1
  · exact World.cell?_alloc_new w _ _ 2
theorem none1 (w : World) (B a : Nat) (hB : w.heap.size = B) (r : Bool) (hr : Fact (zOK [a] = r)) :
    Calls Try.prog 59 #[.slice (some ⟨B, 0, none⟩) 1 1] (w.alloc (.cells #[.int .i64 a] 3)) fun e w' => e = .returned (.bool r) ∧ w' = w.alloc (.cells #[.int .i64 a] 3) := by
  subst hB
  rw [← hr.out]
  refine none_any ⟨w.heap.size, 0, none⟩ 1 1 [a] _ rfl (by decide) ?_
  intro i hi
  have hi3 : i < 1 := hi
  obtain rfl : i = 0 := by omega
  exact World.cell?_alloc_new w _ _ 0

/-- whether a node may stand at a depth -/
def mayOK (d : Nd) (kl i : Nat) : Bool :=
  if d.k = 1 then decide (i = 1) && zOK [d.n.size, d.x.size, d.ats.length]
  else if d.k = 2 then (nameOK d.n && zOK [d.x.size]) && attrsOK d.ats
  else if d.k = 3 then (zOK [d.n.size, d.ats.length, kl] && !(d.x.toList == [])) && decide (d.x.size ≤ 4096)
  else if d.k = 4 then zOK [d.n.size, d.ats.length, kl] && decide (d.x.size ≤ 4096)
  else if d.k = 5 then (decide (i = 2) && decide (d.n.size ≤ 32)) && zOK [d.x.size, d.ats.length, kl]
  else false

set_option maxRecDepth 20000 in
set_option maxHeartbeats 4000000 in
theorem mayBe_any (d : Nd) (k : M.F) (i : Nat) (av kv : Value) (w : World) (ha : AS (Old w.heap.size) w av d.ats) (hf : FL (Old w.heap.size) w kv k) :
    Calls Try.prog 48 #[nodeV d av kv, .int .i64 i] w fun e w' => e = .returned (.bool (mayOK d k.len i)) ∧ Below w.heap.size w w' := by
  have ha' := ha
  obtain ⟨a1, c1, rfl, hc1⟩ := ha
  obtain ⟨a2, c2, rfl, hc2⟩ := hf
  have HA : Fact (AS (Old w.heap.size) w (.slice a1 d.ats.length c1) d.ats) := ⟨ha'⟩
  clear hc1 hc2 ha'
  obtain ⟨kl, hkl⟩ : ∃ kl, k.len = kl := ⟨_, rfl⟩
  rw [hkl]
  clear hkl
  obtain ⟨K, N, X, A⟩ := d
  dsimp only at HA ⊢
  obtain ⟨al, hal⟩ : ∃ al, A.length = al := ⟨_, rfl⟩
  have hB : Below w.heap.size w (w.alloc (.cells #[.int .i64 K, .string N, .string X, .slice a1 al c1, .slice a2 kl c2] 25)) := (Below.refl _ w).alloc (Nat.le_refl _) _
  have HB := Fact.mk hB
  by_cases h1 : K = 1
  · subst h1
    by_cases hi : i = 1
    · subst hi
      obtain ⟨r, hr⟩ : ∃ r, Fact (zOK [N.size, X.size, al] = r) := ⟨_, ⟨rfl⟩⟩
      have hm : Fact (mayOK ⟨1, N, X, A⟩ kl 1 = r) := ⟨by simp [mayOK, hal, hr.out]⟩
      rw [hal]
      clear hal HA hB
      go_enter Try.func48, Try.ntmps48
      go_wp2_with (go_at_call 59; refine (none3 _ _ _ _ _ (by simp) r hr).mono ?_; rintro e w1 ⟨rfl, rfl⟩)
      go_ret
      exact ⟨ret_bool hm.out.symm, HB.out.alloc (by simp) _⟩
    · have hm : Fact (mayOK ⟨1, N, X, A⟩ kl i = false) := ⟨by simp [mayOK, hi]⟩
      have hib : ((i : Int) == 1) = false := by rw [beq_eq_false_iff_ne]; omega
      rw [hal]
      clear hal HA hB
      go_enter Try.func48, Try.ntmps48
      go_wp2_with fail
      go_ret
      exact ⟨ret_bool hm.out.symm, HB.out⟩
  by_cases h2 : K = 2
  · subst h2
    cases hn : nameOK N
    · have HN : Fact (nameOK N = false) := ⟨hn⟩
      have hm : Fact (mayOK ⟨2, N, X, A⟩ kl i = false) := ⟨by simp [mayOK, hn]⟩
      rw [hal]
      clear hal HA hB hn
      go_enter Try.func48, Try.ntmps48
      go_wp2_with (go_at_call 60; refine (name_at _ false HN _).mono ?_; rintro e w1 ⟨rfl, rfl⟩)
      go_ret
      exact ⟨ret_bool hm.out.symm, HB.out⟩
    · have HN : Fact (nameOK N = true) := ⟨hn⟩
      cases hz : zOK [X.size]
      · have HZ : Fact (zOK [X.size] = false) := ⟨hz⟩
        have hm : Fact (mayOK ⟨2, N, X, A⟩ kl i = false) := ⟨by simp [mayOK, hn, hz]⟩
        rw [hal]
        clear hal HA hB hn hz
        go_enter Try.func48, Try.ntmps48
        go_wp2_with (first | (go_at_call 60; refine (name_at _ true HN _).mono ?_; rintro e w1 ⟨rfl, rfl⟩) | (go_at_call 59; refine (none1 _ _ _ (by simp) false HZ).mono ?_; rintro e w1 ⟨rfl, rfl⟩))
        go_ret
        exact ⟨ret_bool hm.out.symm, HB.out.alloc (by simp) _⟩
      · have HZ : Fact (zOK [X.size] = true) := ⟨hz⟩
        obtain ⟨r, hr⟩ : ∃ r, Fact (attrsOK A = r) := ⟨_, ⟨rfl⟩⟩
        have hm : Fact (mayOK ⟨2, N, X, A⟩ kl i = r) := ⟨by simp [mayOK, hn, hz, hr.out]⟩
        rw [hal] at HA ⊢
        clear hal hB hn hz
        go_enter Try.func48, Try.ntmps48
        go_wp2_with (first | (go_at_call 60; refine (name_at _ true HN _).mono ?_; rintro e w1 ⟨rfl, rfl⟩) | (go_at_call 59; refine (none1 _ _ _ (by simp) true HZ).mono ?_; rintro e w1 ⟨rfl, rfl⟩) | (go_at_call 61; refine (attrs_at _ A r hr _ w HA.out (like_below (HB.out.alloc (by simp) _))).mono ?_; rintro e w1 ⟨rfl, hb1⟩))
        go_ret
        exact ⟨ret_bool hm.out.symm, (HB.out.alloc (by simp) _).trans (hb1.mono (by simp; omega))⟩
  by_cases h3 : K = 3
  · subst h3
    cases hz : zOK [N.size, al, kl]
    · have HZ : Fact (zOK [N.size, al, kl] = false) := ⟨hz⟩
      have hm : Fact (mayOK ⟨3, N, X, A⟩ kl i = false) := ⟨by simp [mayOK, hal, hz]⟩
      rw [hal]
      clear hal HA hB hz
      go_enter Try.func48, Try.ntmps48
      go_wp2_with (go_at_call 59; refine (none3 _ _ _ _ _ (by simp) false HZ).mono ?_; rintro e w1 ⟨rfl, rfl⟩)
      go_ret
      exact ⟨ret_bool hm.out.symm, HB.out.alloc (by simp) _⟩
    · have HZ : Fact (zOK [N.size, al, kl] = true) := ⟨hz⟩
      cases hx : (X.toList == [])
      · have hm : Fact (mayOK ⟨3, N, X, A⟩ kl i = decide (X.size ≤ 4096)) := ⟨by simp only [mayOK, hal, hz, hx]; simp⟩
        rw [hal]
        clear hal HA hB hz
        go_enter Try.func48, Try.ntmps48
        go_wp2_with (go_at_call 59; refine (none3 _ _ _ _ _ (by simp) true HZ).mono ?_; rintro e w1 ⟨rfl, rfl⟩)
        go_ret
        exact ⟨ret_bool (by rw [hm.out]; exact decide_eq_decide.2 (by omega)), HB.out.alloc (by simp) _⟩
      · have hm : Fact (mayOK ⟨3, N, X, A⟩ kl i = false) := ⟨by simp only [mayOK, hal, hz, hx]; simp⟩
        rw [hal]
        clear hal HA hB hz
        go_enter Try.func48, Try.ntmps48
        go_wp2_with (go_at_call 59; refine (none3 _ _ _ _ _ (by simp) true HZ).mono ?_; rintro e w1 ⟨rfl, rfl⟩)
        go_ret
        exact ⟨ret_bool (by rw [hm.out]), HB.out.alloc (by simp) _⟩
  by_cases h4 : K = 4
  · subst h4
    cases hz : zOK [N.size, al, kl]
    · have HZ : Fact (zOK [N.size, al, kl] = false) := ⟨hz⟩
      have hm : Fact (mayOK ⟨4, N, X, A⟩ kl i = false) := ⟨by simp [mayOK, hal, hz]⟩
      rw [hal]
      clear hal HA hB hz
      go_enter Try.func48, Try.ntmps48
      go_wp2_with (go_at_call 59; refine (none3 _ _ _ _ _ (by simp) false HZ).mono ?_; rintro e w1 ⟨rfl, rfl⟩)
      go_ret
      exact ⟨ret_bool hm.out.symm, HB.out.alloc (by simp) _⟩
    · have HZ : Fact (zOK [N.size, al, kl] = true) := ⟨hz⟩
      have hm : Fact (mayOK ⟨4, N, X, A⟩ kl i = decide (X.size ≤ 4096)) := ⟨by simp only [mayOK, hal, hz]; simp⟩
      rw [hal]
      clear hal HA hB hz
      go_enter Try.func48, Try.ntmps48
      go_wp2_with (go_at_call 59; refine (none3 _ _ _ _ _ (by simp) true HZ).mono ?_; rintro e w1 ⟨rfl, rfl⟩)
      go_ret
      exact ⟨ret_bool (by rw [hm.out]; exact decide_eq_decide.2 (by omega)), HB.out.alloc (by simp) _⟩
  by_cases h5 : K = 5
  · subst h5
    by_cases hi : i = 2
    · subst hi
      by_cases hn : N.size ≤ 32
      · obtain ⟨r, hr⟩ : ∃ r, Fact (zOK [X.size, al, kl] = r) := ⟨_, ⟨rfl⟩⟩
        have hm : Fact (mayOK ⟨5, N, X, A⟩ kl 2 = r) := ⟨by simp [mayOK, hal, hr.out, hn]⟩
        rw [hal]
        clear hal HA hB
        go_enter Try.func48, Try.ntmps48
        go_wp2_with (go_at_call 59; refine (none3 _ _ _ _ _ (by simp) r hr).mono ?_; rintro e w1 ⟨rfl, rfl⟩)
        go_ret
        exact ⟨ret_bool hm.out.symm, HB.out.alloc (by simp) _⟩
      · have hm : Fact (mayOK ⟨5, N, X, A⟩ kl 2 = false) := ⟨by simp [mayOK, hn]⟩
        rw [hal]
        clear hal HA hB
        go_enter Try.func48, Try.ntmps48
        go_wp2_with fail
        go_ret
        exact ⟨ret_bool hm.out.symm, HB.out⟩
    · have hm : Fact (mayOK ⟨5, N, X, A⟩ kl i = false) := ⟨by simp [mayOK, hi]⟩
      have hib : ((i : Int) == 2) = false := by rw [beq_eq_false_iff_ne]; omega
      rw [hal]
      clear hal HA hB
      go_enter Try.func48, Try.ntmps48
      go_wp2_with fail
      go_ret
      exact ⟨ret_bool hm.out.symm, HB.out⟩
  have hm : Fact (mayOK ⟨K, N, X, A⟩ kl i = false) := ⟨by simp [mayOK, h1, h2, h3, h4, h5]⟩
  have b1 : (K == 1) = false := by rw [beq_eq_false_iff_ne]; exact h1
  have b2 : (K == 2) = false := by rw [beq_eq_false_iff_ne]; exact h2
  have b3 : (K == 3) = false := by rw [beq_eq_false_iff_ne]; exact h3
  have b4 : (K == 4) = false := by rw [beq_eq_false_iff_ne]; exact h4
  have b5 : (K == 5) = false := by rw [beq_eq_false_iff_ne]; exact h5
  rw [hal]
  clear hal HA hB
  go_enter Try.func48, Try.ntmps48
  go_wp2_with fail
  go_ret
  exact ⟨ret_bool hm.out.symm, HB.out⟩
end Go.Proofs.Ytkojhgagkoeeiaa
