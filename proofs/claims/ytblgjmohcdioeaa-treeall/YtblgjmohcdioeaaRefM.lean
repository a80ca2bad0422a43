/- The chapter's own attrs. -/
import Derived.Test.YtblgjmohcdioeaaRefN
set_option linter.unusedVariables false
namespace Go.Proofs.Ytblgjmohcdioeaa
open Go.Deep (BT)
open Go.RowKit M

theorem rname_at (s : ByteArray) (b : Bool) (h : Fact (nameOK s = b)) (w : World) : Calls Try.prog 17 #[.string s] w fun e w' => e = .returned (.bool b) ∧ w' = w := by
  rw [← h.out]; exact rname_any s w

set_option maxRecDepth 20000 in
set_option maxHeartbeats 2000000 in
theorem rattrs_any (v : Value) (l : List (ByteArray × ByteArray)) (m : Nat) (w : World) (ha : AS (Old m) w v l) (hm : m ≤ w.heap.size) :
    Calls Try.prog 53 #[v] w fun e w' => e = .returned (.bool (attrsOK l)) ∧ Below w.heap.size w w' := by
  obtain ⟨a, cap, b, o, rfl, hc1, hc2, hc⟩ := ha.place
  by_cases h12 : 12 < l.length
  · go_enter Try.func53, Try.ntmps53
    go_wp2
    go_ret
    exact ⟨ret_bool (by unfold attrsOK; rw [decide_eq_false (by omega)]; rfl), Below.refl _ _⟩
  have e0 : attrsOK l = upto (good l) l.length := by
    unfold attrsOK; rw [decide_eq_true (p := l.length ≤ 12) (by omega)]; rfl
  rw [e0]
  clear e0
  obtain ⟨n, hn⟩ : ∃ n, l.length = n := ⟨_, rfl⟩
  rw [hn] at h12 hc ⊢
  have HC := Fact.mk hc
  clear hc hn ha
  go_enter Try.func53, Try.ntmps53
  go_wp2
  go_loopg [3] n (fun gf i wx => ∃ k : Nat, i = .int .i64 k ∧ k ≤ n ∧ n ≤ k + gf ∧ Below w.heap.size w wx ∧ Fact (upto (good l) k = true))
  case atStart => exact ⟨0, rfl, Nat.zero_le _, by omega, Below.refl _ _, ⟨rfl⟩⟩
  case round =>
    obtain ⟨k, rfl, hk, hfu, hb, hf⟩ := hrel
    by_cases hlt : k < n
    · obtain ⟨g', rfl⟩ : ∃ g', gk = g' + 1 := ⟨gk - 1, by omega⟩
      obtain ⟨ea, hbm, d0, d1⟩ := HC.out k hlt
      subst ea
      have hbl : b < w.heap.size := by omega
      have c0 := (hb.cell (p := ⟨b, o + k * 2, none⟩) hbl).trans d0
      have c1 := (hb.cell (p := ⟨b, o + k * 2 + 1, none⟩) hbl).trans d1
      obtain ⟨N, hN⟩ : ∃ N, (bs l k).1 = N := ⟨_, rfl⟩
      obtain ⟨V, hV⟩ : ∃ V, (bs l k).2 = V := ⟨_, rfl⟩
      have hg : good l k = ((nameOK N && decide (V.size ≤ 4096)) && (decide (k = 0) || !le N (bs l (k - 1)).1)) := by rw [← hN, ← hV]; rfl
      rw [hN] at c0
      rw [hV] at c1
      have HU := Fact.mk (upto_succ (good l) k)
      have j1 : (k : Int) < n := by omega
      have j2 : (0 : Int) ≤ k := by omega
      clear hN hV d0 d1
      have HX := Fact.mk hb
      cases hnm : nameOK N
      · have HN : Fact (nameOK N = false) := ⟨hnm⟩
        have HG : Fact (good l k = false) := ⟨by rw [hg, hnm]; rfl⟩
        clear hg hnm
        go_wp2_with fail
        go_quiet (first | (go_at_call 17; exact Calls.quiet_of_same (rname_at _ false HN _)))
        go_wp2_with fail
        go_ret
        exact ⟨ret_bool (upto_not _ _ _ hlt HG.out).symm, below_drewN HX.out _⟩
      · have HN : Fact (nameOK N = true) := ⟨hnm⟩
        by_cases hvs : 4096 < V.size
        · have HG : Fact (good l k = false) := ⟨by rw [hg, hnm, decide_eq_false (by omega)]; rfl⟩
          have hvb : decide ((4096 : Int) < V.size) = true := decide_eq_true (by omega)
          clear hg hnm
          go_wp2_with fail
          go_quiet (first | (go_at_call 17; exact Calls.quiet_of_same (rname_at _ true HN _)))
          go_wp2_with fail
          go_ret
          exact ⟨ret_bool (upto_not _ _ _ hlt HG.out).symm, below_drewN HX.out _⟩
        · have hvb : decide ((4096 : Int) < V.size) = false := decide_eq_false (by omega)
          by_cases hk0 : k = 0
          · subst hk0
            have HG : Fact (good l 0 = true) := ⟨by rw [hg, hnm, decide_eq_true (p := V.size ≤ 4096) (by omega)]; rfl⟩
            simp only [Nat.zero_mul, Nat.add_zero] at c0 c1
            clear hg hnm
            go_wp2_with fail
            go_quiet (first | (go_at_call 17; exact Calls.quiet_of_same (rname_at _ true HN _)))
            go_wp2_with fail
            go_roundg g'
            case measure => omega
            case rel => exact ⟨1, by go_num, by omega, by omega, below_drewN HX.out _, ⟨by rw [HU.out, hf.out, HG.out]; rfl⟩⟩
          · obtain ⟨j, rfl⟩ : ∃ j, k = j + 1 := ⟨k - 1, by omega⟩
            have p0 : wr.cell? ⟨b, o + j * 2, none⟩ = some (.string (bs l j).1) := (hb.cell (p := ⟨b, o + j * 2, none⟩) hbl).trans (HC.out j (by omega)).2.2.1
            obtain ⟨M, hM⟩ : ∃ M, (bs l j).1 = M := ⟨_, rfl⟩
            rw [Nat.add_sub_cancel, hM] at hg
            rw [hM] at p0
            have hwr := wrapI j (by omega)
            have hj1 : j < n := by omega
            have hj2 : (j : Int) < n := by omega
            have hj3 : (0 : Int) ≤ j := by omega
            have hjb : decide ((0 : Int) < (j : Int) + 1) = true := decide_eq_true (by omega)
            cases hle : le N M
            · have HG : Fact (good l (j + 1) = true) := ⟨by rw [hg, hnm, hle, decide_eq_true (p := V.size ≤ 4096) (by omega)]; simp⟩
              have hle' : (Op.bytesLess N.toList M.toList || N.toList == M.toList) = false := hle
              clear hg hnm hM hle
              go_wp2_with fail
              go_quiet (first | (go_at_call 17; exact Calls.quiet_of_same (rname_at _ true HN _)))
              go_wp2_with fail
              go_roundg g'
              case measure => omega
              case rel => exact ⟨j + 1 + 1, by go_num, by omega, by omega, below_drewN HX.out _, ⟨by rw [HU.out, hf.out, HG.out]; rfl⟩⟩
            · have HG : Fact (good l (j + 1) = false) := ⟨by rw [hg, hnm, hle, decide_eq_true (p := V.size ≤ 4096) (by omega)]; simp⟩
              have hle' : (Op.bytesLess N.toList M.toList || N.toList == M.toList) = true := hle
              clear hg hnm hM hle
              go_wp2_with fail
              go_quiet (first | (go_at_call 17; exact Calls.quiet_of_same (rname_at _ true HN _)))
              go_wp2_with fail
              go_ret
              exact ⟨ret_bool (upto_not _ _ _ hlt HG.out).symm, below_drewN HX.out _⟩
    · have HG : Fact (upto (good l) n = true) := ⟨by have := hf.out; rwa [show k = n by omega] at this⟩
      go_wp2
      go_ret
      exact ⟨ret_bool (by rw [HG.out]), hb⟩
theorem rattrs_at (v : Value) (l : List (ByteArray × ByteArray)) (r : Bool) (hr : Fact (attrsOK l = r)) (m : Nat) (w : World) (ha : AS (Old m) w v l) (hm : m ≤ w.heap.size) :
    Calls Try.prog 53 #[v] w fun e w' => e = .returned (.bool r) ∧ Below w.heap.size w w' := by
  rw [← hr.out]; exact rattrs_any v l m w ha hm
end Go.Proofs.Ytblgjmohcdioeaa
