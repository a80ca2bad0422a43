/- What the document's Next answers: nothing, or the rune that begins there and its bytes. -/
import Derived.Test.YtdniddiaiinggaaDoorVN
import Derived.Test.YtdniddiaiinggaaDoorUC
namespace Go.Proofs.YtdniddiaiinggaaDoor.V4
open Go.RowKit U

theorem byte_at (s : ByteArray) (k : Nat) (h : k < s.size) : s.data.toList[k]? = some (s[k]'h) := by
  rw [List.getElem?_eq_getElem (by rw [← Lib.size_eq]; exact h)]
  rfl

theorem g_more (s : ByteArray) (p k : Nat) (_ : p < s.size) (h : p + k < s.size) : g (s.data.toList.drop p) k = (s[p + k]'h).toNat := by
  rw [g_drop]
  unfold g
  rw [List.getD_eq_getElem?_getD, byte_at s (p + k) h]
  rfl
theorem g_first (s : ByteArray) (p : Nat) (h : p < s.size) : g (s.data.toList.drop p) 0 = (s[p]'h).toNat := g_more s p 0 h h

/-- how far Next has come -/
structure Step (l : List UInt8) (v0 k V : Nat) : Prop where
  val : V = acc v0 l (k - 1)
  cont : ∀ j, 1 ≤ j → j < k → Cont l j
theorem step_start (l : List UInt8) (v0 : Nat) : Step l v0 1 v0 := ⟨rfl, fun j a b => by omega⟩
theorem step_next {l : List UInt8} {v0 k V b : Nat} (h : Step l v0 k V) (hk : 1 ≤ k) (hc : Cont l k) (hb : g l k = b) : Step l v0 (k + 1) (64 * V + (b - 128)) := by
  constructor
  · obtain ⟨j, rfl⟩ : ∃ j, k = j + 1 := ⟨k - 1, by omega⟩
    have hv := h.val
    simp only [Nat.add_sub_cancel] at hv ⊢
    rw [hv, ← hb]
    rfl
  · intro j h1 h2
    by_cases e : j = k
    · rw [e]; exact hc
    · exact h.cont j h1 (by omega)
theorem step_le {l : List UInt8} {v0 k V : Nat} (h : Step l v0 k V) (hk : k ≤ 4) (hv : v0 ≤ 31) : V ≤ 9000000 := by
  have hv2 := h.val
  have b1 := g_lt l 1
  have b2 := g_lt l 2
  have b3 := g_lt l 3
  have hc : k - 1 = 0 ∨ k - 1 = 1 ∨ k - 1 = 2 ∨ k - 1 = 3 := by omega
  rcases hc with e | e | e | e
  · rw [e] at hv2
    have : acc v0 l 0 = v0 := rfl
    omega
  · rw [e, acc1] at hv2; omega
  · rw [e, acc2] at hv2; omega
  · rw [e, acc3] at hv2; omega

set_option maxRecDepth 400000 in
set_option maxHeartbeats 2000000 in
theorem next_1 (s : ByteArray) (p x : Nat) (w : World) (h : p < s.size) (hx : (s[p]'h).toNat = x) (h1 : x < 128) :
    Calls Tryd.prog 29 #[.string s, .int .i64 p] w fun e w' => ∃ R K : Nat, NextIs (s.data.toList.drop p) R K ∧ e = .returned (.tuple #[.int .i32 R, .int .i64 K]) ∧ w' = w := by
  have HN := next_low _ (drop_ne s p h) (by rw [g_first s p h, hx]; exact h1)
  rw [g_first s p h, hx] at HN
  have HF := Fact.mk HN
  clear HN
  go_enter Tryd.func29, Tryd.ntmps29
  go_wp2
  go_ret2
  exact ⟨x, 1, HF.out, rfl, rfl⟩

set_option maxRecDepth 400000 in
set_option maxHeartbeats 2000000 in
theorem next_0 (s : ByteArray) (p x : Nat) (w : World) (h : p < s.size) (hx : (s[p]'h).toNat = x) (h1 : 128 ≤ x) (h2 : x < 192 ∨ 248 ≤ x) :
    Calls Tryd.prog 29 #[.string s, .int .i64 p] w fun e w' => ∃ R K : Nat, NextIs (s.data.toList.drop p) R K ∧ e = .returned (.tuple #[.int .i32 R, .int .i64 K]) ∧ w' = w := by
  have HN := next_none _ (drop_ne s p h) (by rw [g_first s p h, hx]; exact h1) (by rw [g_first s p h, hx]; exact h2)
  have HF := Fact.mk HN
  clear HN
  by_cases c : x < 192
  · clear h2
    go_enter Tryd.func29, Tryd.ntmps29
    go_wp2
    refine wp_loop_rounds 1 ?_
    rw [rounds_succ]
    go_wp2
    go_ret2
    exact ⟨0, 0, HF.out, rfl, rfl⟩
  · have h3 : 248 ≤ x := by omega
    have h4 : x < 256 := by rw [← hx]; exact (s[p]'h).toNat_lt
    clear h2
    go_enter Tryd.func29, Tryd.ntmps29
    go_wp2
    refine wp_loop_rounds 1 ?_
    rw [rounds_succ]
    go_wp2
    go_ret2
    exact ⟨0, 0, HF.out, rfl, rfl⟩

set_option maxRecDepth 400000 in
set_option maxHeartbeats 2000000 in
theorem next_2 (s : ByteArray) (p x : Nat) (w : World) (h : p < s.size) (hs : s.size ≤ 20000) (hx : (s[p]'h).toNat = x) (h1 : 192 ≤ x) (h2 : x < 224) :
    Calls Tryd.prog 29 #[.string s, .int .i64 p] w fun e w' => ∃ R K : Nat, NextIs (s.data.toList.drop p) R K ∧ e = .returned (.tuple #[.int .i32 R, .int .i64 K]) ∧ w' = w := by
  obtain ⟨l, hl⟩ : ∃ l, Fact (s.data.toList.drop p = l) := ⟨_, ⟨rfl⟩⟩
  have hne : Fact (l ≠ []) := ⟨by rw [← hl.out]; exact drop_ne s p h⟩
  have HK : Kind (g l 0) 2 (x - 192) 128 := ⟨by rw [← hl.out, g_first s p h, hx]; omega⟩
  rw [hl.out]
  have d0 : decide ((x : Int) < 128) = false := decide_eq_false (by omega)
  have d1 : decide ((x : Int) < 224) = true := decide_eq_true (by omega)
  have d2 : decide ((x : Int) < 240) = true := decide_eq_true (by omega)
  have d3 : decide ((x : Int) < 248) = true := decide_eq_true (by omega)
  have f0 : decide ((192 : Int) ≤ (x : Int)) = true := decide_eq_true (by omega)
  have f1 : decide ((224 : Int) ≤ (x : Int)) = false := decide_eq_false (by omega)
  have f2 : decide ((240 : Int) ≤ (x : Int)) = false := decide_eq_false (by omega)
  go_enter Tryd.func29, Tryd.ntmps29
  go_wp2
  go_loopw [8, 10] (fun v i wx => ∃ k V : Nat, i = .int .i64 k ∧ v = .int .i64 V ∧ 1 ≤ k ∧ k ≤ 2 ∧ Step l (x - 192) k V ∧ wx = w) (fun _ i _ => 2 - (intOf i).toNat)
  case atStart => exact ⟨1, x - 192, rfl, by go_num, by omega, by omega, step_start _ _, rfl⟩
  case round =>
    obtain ⟨k, V, rfl, rfl, hk1, hk2, hst, rfl⟩ := hrel
    have hVb := step_le hst (by omega) (by omega)
    by_cases hkn : k < 2
    · by_cases hlen : p + k < s.size
      · have hg := g_more s p k h hlen
        rw [hl.out] at hg
        obtain ⟨b, hb⟩ : ∃ b, (s[p + k]'hlen).toNat = b := ⟨_, rfl⟩
        rw [hb] at hg
        have hb256 : b < 256 := by rw [← hb]; exact (s[p + k]'hlen).toNat_lt
        by_cases c1 : b < 128
        · have HN := Fact.mk (next_cut l hne.out _ _ _ k HK hk1 hkn (fun hc => by have := hc.lo; omega))
          clear HK hst hne hl hg
          go_wp2
          go_ret2
          exact ⟨0, 0, HN.out, rfl, rfl⟩
        by_cases c2 : 191 < b
        · have HN := Fact.mk (next_cut l hne.out _ _ _ k HK hk1 hkn (fun hc => by have := hc.hi; omega))
          clear HK hst hne hl hg
          go_wp2
          go_ret2
          exact ⟨0, 0, HN.out, rfl, rfl⟩
        have HN := Fact.mk (step_next (b := b) hst hk1 ⟨by rw [← hl.out, List.length_drop, ← Lib.size_eq]; omega, by omega, by omega⟩ hg)
        clear HK hst hne hl hg
        go_wp2
        go_roundw
        case rel => exact ⟨k + 1, 64 * V + (b - 128), by go_num, by go_num, by omega, by omega, HN.out, by first | rfl | trivial⟩
        case measure => simp [intOf]; omega
      · have HN := Fact.mk (next_cut l hne.out _ _ _ k HK hk1 hkn (fun hc => by have := hc.len; rw [← hl.out, List.length_drop, ← Lib.size_eq] at this; omega))
        clear HK hst hne hl
        go_wp2
        go_ret2
        exact ⟨0, 0, HN.out, rfl, rfl⟩
    · have hkk : k = 2 := by omega
      have HN := Fact.mk (next_end l hne.out _ _ _ V HK (fun j a b => hst.cont j a (by omega)) (by rw [← hkk]; exact hst.val))
      clear HK hst hne hl
      by_cases c1 : V < 128
      · rw [if_pos (.inl c1)] at HN
        go_wp2
        go_ret2
        exact ⟨0, 0, HN.out, rfl, rfl⟩
      by_cases c2 : V > 1114111
      · rw [if_pos (.inr (.inl c2))] at HN
        go_wp2
        go_ret2
        exact ⟨0, 0, HN.out, rfl, rfl⟩
      by_cases c3 : 55296 ≤ V
      · by_cases c4 : V ≤ 57343
        · rw [if_pos (.inr (.inr ⟨c3, c4⟩))] at HN
          go_wp2
          go_ret2
          exact ⟨0, 0, HN.out, rfl, rfl⟩
        · rw [if_neg (by omega)] at HN
          go_wp2
          go_ret2
          exact ⟨V, 2, HN.out, rfl, rfl⟩
      · rw [if_neg (by omega)] at HN
        go_wp2
        go_ret2
        exact ⟨V, 2, HN.out, rfl, rfl⟩

set_option maxRecDepth 400000 in
set_option maxHeartbeats 2000000 in
theorem next_3 (s : ByteArray) (p x : Nat) (w : World) (h : p < s.size) (hs : s.size ≤ 20000) (hx : (s[p]'h).toNat = x) (h1 : 224 ≤ x) (h2 : x < 240) :
    Calls Tryd.prog 29 #[.string s, .int .i64 p] w fun e w' => ∃ R K : Nat, NextIs (s.data.toList.drop p) R K ∧ e = .returned (.tuple #[.int .i32 R, .int .i64 K]) ∧ w' = w := by
  obtain ⟨l, hl⟩ : ∃ l, Fact (s.data.toList.drop p = l) := ⟨_, ⟨rfl⟩⟩
  have hne : Fact (l ≠ []) := ⟨by rw [← hl.out]; exact drop_ne s p h⟩
  have HK : Kind (g l 0) 3 (x - 224) 2048 := ⟨by rw [← hl.out, g_first s p h, hx]; omega⟩
  rw [hl.out]
  have d0 : decide ((x : Int) < 128) = false := decide_eq_false (by omega)
  have d1 : decide ((x : Int) < 224) = false := decide_eq_false (by omega)
  have d2 : decide ((x : Int) < 240) = true := decide_eq_true (by omega)
  have d3 : decide ((x : Int) < 248) = true := decide_eq_true (by omega)
  have f0 : decide ((192 : Int) ≤ (x : Int)) = true := decide_eq_true (by omega)
  have f1 : decide ((224 : Int) ≤ (x : Int)) = true := decide_eq_true (by omega)
  have f2 : decide ((240 : Int) ≤ (x : Int)) = false := decide_eq_false (by omega)
  go_enter Tryd.func29, Tryd.ntmps29
  go_wp2
  go_loopw [8, 10] (fun v i wx => ∃ k V : Nat, i = .int .i64 k ∧ v = .int .i64 V ∧ 1 ≤ k ∧ k ≤ 3 ∧ Step l (x - 224) k V ∧ wx = w) (fun _ i _ => 3 - (intOf i).toNat)
  case atStart => exact ⟨1, x - 224, rfl, by go_num, by omega, by omega, step_start _ _, rfl⟩
  case round =>
    obtain ⟨k, V, rfl, rfl, hk1, hk2, hst, rfl⟩ := hrel
    have hVb := step_le hst (by omega) (by omega)
    by_cases hkn : k < 3
    · by_cases hlen : p + k < s.size
      · have hg := g_more s p k h hlen
        rw [hl.out] at hg
        obtain ⟨b, hb⟩ : ∃ b, (s[p + k]'hlen).toNat = b := ⟨_, rfl⟩
        rw [hb] at hg
        have hb256 : b < 256 := by rw [← hb]; exact (s[p + k]'hlen).toNat_lt
        by_cases c1 : b < 128
        · have HN := Fact.mk (next_cut l hne.out _ _ _ k HK hk1 hkn (fun hc => by have := hc.lo; omega))
          clear HK hst hne hl hg
          go_wp2
          go_ret2
          exact ⟨0, 0, HN.out, rfl, rfl⟩
        by_cases c2 : 191 < b
        · have HN := Fact.mk (next_cut l hne.out _ _ _ k HK hk1 hkn (fun hc => by have := hc.hi; omega))
          clear HK hst hne hl hg
          go_wp2
          go_ret2
          exact ⟨0, 0, HN.out, rfl, rfl⟩
        have HN := Fact.mk (step_next (b := b) hst hk1 ⟨by rw [← hl.out, List.length_drop, ← Lib.size_eq]; omega, by omega, by omega⟩ hg)
        clear HK hst hne hl hg
        go_wp2
        go_roundw
        case rel => exact ⟨k + 1, 64 * V + (b - 128), by go_num, by go_num, by omega, by omega, HN.out, by first | rfl | trivial⟩
        case measure => simp [intOf]; omega
      · have HN := Fact.mk (next_cut l hne.out _ _ _ k HK hk1 hkn (fun hc => by have := hc.len; rw [← hl.out, List.length_drop, ← Lib.size_eq] at this; omega))
        clear HK hst hne hl
        go_wp2
        go_ret2
        exact ⟨0, 0, HN.out, rfl, rfl⟩
    · have hkk : k = 3 := by omega
      have HN := Fact.mk (next_end l hne.out _ _ _ V HK (fun j a b => hst.cont j a (by omega)) (by rw [← hkk]; exact hst.val))
      clear HK hst hne hl
      by_cases c1 : V < 2048
      · rw [if_pos (.inl c1)] at HN
        go_wp2
        go_ret2
        exact ⟨0, 0, HN.out, rfl, rfl⟩
      by_cases c2 : V > 1114111
      · rw [if_pos (.inr (.inl c2))] at HN
        go_wp2
        go_ret2
        exact ⟨0, 0, HN.out, rfl, rfl⟩
      by_cases c3 : 55296 ≤ V
      · by_cases c4 : V ≤ 57343
        · rw [if_pos (.inr (.inr ⟨c3, c4⟩))] at HN
          go_wp2
          go_ret2
          exact ⟨0, 0, HN.out, rfl, rfl⟩
        · rw [if_neg (by omega)] at HN
          go_wp2
          go_ret2
          exact ⟨V, 3, HN.out, rfl, rfl⟩
      · rw [if_neg (by omega)] at HN
        go_wp2
        go_ret2
        exact ⟨V, 3, HN.out, rfl, rfl⟩

set_option maxRecDepth 400000 in
set_option maxHeartbeats 2000000 in
theorem next_4 (s : ByteArray) (p x : Nat) (w : World) (h : p < s.size) (hs : s.size ≤ 20000) (hx : (s[p]'h).toNat = x) (h1 : 240 ≤ x) (h2 : x < 248) :
    Calls Tryd.prog 29 #[.string s, .int .i64 p] w fun e w' => ∃ R K : Nat, NextIs (s.data.toList.drop p) R K ∧ e = .returned (.tuple #[.int .i32 R, .int .i64 K]) ∧ w' = w := by
  obtain ⟨l, hl⟩ : ∃ l, Fact (s.data.toList.drop p = l) := ⟨_, ⟨rfl⟩⟩
  have hne : Fact (l ≠ []) := ⟨by rw [← hl.out]; exact drop_ne s p h⟩
  have HK : Kind (g l 0) 4 (x - 240) 65536 := ⟨by rw [← hl.out, g_first s p h, hx]; omega⟩
  rw [hl.out]
  have d0 : decide ((x : Int) < 128) = false := decide_eq_false (by omega)
  have d1 : decide ((x : Int) < 224) = false := decide_eq_false (by omega)
  have d2 : decide ((x : Int) < 240) = false := decide_eq_false (by omega)
  have d3 : decide ((x : Int) < 248) = true := decide_eq_true (by omega)
  have f0 : decide ((192 : Int) ≤ (x : Int)) = true := decide_eq_true (by omega)
  have f1 : decide ((224 : Int) ≤ (x : Int)) = true := decide_eq_true (by omega)
  have f2 : decide ((240 : Int) ≤ (x : Int)) = true := decide_eq_true (by omega)
  go_enter Tryd.func29, Tryd.ntmps29
  go_wp2
  go_loopw [8, 10] (fun v i wx => ∃ k V : Nat, i = .int .i64 k ∧ v = .int .i64 V ∧ 1 ≤ k ∧ k ≤ 4 ∧ Step l (x - 240) k V ∧ wx = w) (fun _ i _ => 4 - (intOf i).toNat)
  case atStart => exact ⟨1, x - 240, rfl, by go_num, by omega, by omega, step_start _ _, rfl⟩
  case round =>
    obtain ⟨k, V, rfl, rfl, hk1, hk2, hst, rfl⟩ := hrel
    have hVb := step_le hst (by omega) (by omega)
    by_cases hkn : k < 4
    · by_cases hlen : p + k < s.size
      · have hg := g_more s p k h hlen
        rw [hl.out] at hg
        obtain ⟨b, hb⟩ : ∃ b, (s[p + k]'hlen).toNat = b := ⟨_, rfl⟩
        rw [hb] at hg
        have hb256 : b < 256 := by rw [← hb]; exact (s[p + k]'hlen).toNat_lt
        by_cases c1 : b < 128
        · have HN := Fact.mk (next_cut l hne.out _ _ _ k HK hk1 hkn (fun hc => by have := hc.lo; omega))
          clear HK hst hne hl hg
          go_wp2
          go_ret2
          exact ⟨0, 0, HN.out, rfl, rfl⟩
        by_cases c2 : 191 < b
        · have HN := Fact.mk (next_cut l hne.out _ _ _ k HK hk1 hkn (fun hc => by have := hc.hi; omega))
          clear HK hst hne hl hg
          go_wp2
          go_ret2
          exact ⟨0, 0, HN.out, rfl, rfl⟩
        have HN := Fact.mk (step_next (b := b) hst hk1 ⟨by rw [← hl.out, List.length_drop, ← Lib.size_eq]; omega, by omega, by omega⟩ hg)
        clear HK hst hne hl hg
        go_wp2
        go_roundw
        case rel => exact ⟨k + 1, 64 * V + (b - 128), by go_num, by go_num, by omega, by omega, HN.out, by first | rfl | trivial⟩
        case measure => simp [intOf]; omega
      · have HN := Fact.mk (next_cut l hne.out _ _ _ k HK hk1 hkn (fun hc => by have := hc.len; rw [← hl.out, List.length_drop, ← Lib.size_eq] at this; omega))
        clear HK hst hne hl
        go_wp2
        go_ret2
        exact ⟨0, 0, HN.out, rfl, rfl⟩
    · have hkk : k = 4 := by omega
      have HN := Fact.mk (next_end l hne.out _ _ _ V HK (fun j a b => hst.cont j a (by omega)) (by rw [← hkk]; exact hst.val))
      clear HK hst hne hl
      by_cases c1 : V < 65536
      · rw [if_pos (.inl c1)] at HN
        go_wp2
        go_ret2
        exact ⟨0, 0, HN.out, rfl, rfl⟩
      by_cases c2 : V > 1114111
      · rw [if_pos (.inr (.inl c2))] at HN
        go_wp2
        go_ret2
        exact ⟨0, 0, HN.out, rfl, rfl⟩
      have c3 : 57343 < V := by omega
      rw [if_neg (by omega)] at HN
      go_wp2
      go_ret2
      exact ⟨V, 4, HN.out, rfl, rfl⟩

theorem next_any (s : ByteArray) (p : Nat) (w : World) (h : p < s.size) (hs : s.size ≤ 20000) :
    Calls Tryd.prog 29 #[.string s, .int .i64 p] w fun e w' => ∃ R K : Nat, NextIs (s.data.toList.drop p) R K ∧ e = .returned (.tuple #[.int .i32 R, .int .i64 K]) ∧ w' = w := by
  obtain ⟨x, hx⟩ : ∃ x, (s[p]'h).toNat = x := ⟨_, rfl⟩
  by_cases c1 : x < 128
  · exact next_1 s p x w h hx c1
  by_cases c2 : x < 192
  · exact next_0 s p x w h hx (by omega) (.inl c2)
  by_cases c3 : x < 224
  · exact next_2 s p x w h hs hx (by omega) c3
  by_cases c4 : x < 240
  · exact next_3 s p x w h hs hx (by omega) c4
  by_cases c5 : x < 248
  · exact next_4 s p x w h hs hx (by omega) c5
  · exact next_0 s p x w h hx (by omega) (.inr (by omega))
end Go.Proofs.YtdniddiaiinggaaDoor.V4
