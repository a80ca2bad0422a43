/- byteAt, digit, Letter, goesOn, Put, number: what they answer. -/
import Derived.Test.YtdniddiaiinggaaDoorCM
set_option linter.unusedVariables false
namespace Go.Proofs.YtdniddiaiinggaaDoor
open Go.RowKit M

theorem ret_int {a b : Int} (h : a = b) : Ending.returned (.int .i64 a) = .returned (.int .i64 b) := by rw [h]
theorem byte_at (s : ByteArray) (k : Nat) (h : k < s.size) : bAt s.data.toList k = s[k] := by
  rw [bAt_in (by rw [← Lib.size_eq]; exact h)]
  rfl
set_option maxRecDepth 20000 in
theorem byteAt_in (s : ByteArray) (k : Nat) (h : k < s.size) (b : UInt8) (hb : Fact (bAt s.data.toList k = b)) (w : World) : Calls Tryd.prog 77 #[.string s, .int .i64 k] w fun e w' => e = .returned (.int .u8 b.toNat) ∧ w' = w := by
  have h1 : (k : Int) < s.size := by omega
  have h0 : (0 : Int) ≤ k := by omega
  have hh : s[k] = b := by rw [← byte_at s k h]; exact hb.out
  go_enter Tryd.func77, Tryd.ntmps77
  go_wp2
  go_ret
  exact ⟨by rw [← hh]; rfl, rfl⟩
set_option maxRecDepth 20000 in
theorem byteAt_out (s : ByteArray) (a : Int) (h : (s.size : Int) ≤ a) (w : World) : Calls Tryd.prog 77 #[.string s, .int .i64 a] w fun e w' => e = .returned (.int .u8 0) ∧ w' = w := by
  go_enter Tryd.func77, Tryd.ntmps77
  go_wp2
  go_ret
  exact ⟨rfl, rfl⟩
theorem byteAt_any (s : ByteArray) (k : Nat) (b : UInt8) (hb : Fact (bAt s.data.toList k = b)) (w : World) : Calls Tryd.prog 77 #[.string s, .int .i64 k] w fun e w' => e = .returned (.int .u8 b.toNat) ∧ w' = w := by
  by_cases h : k < s.size
  · exact byteAt_in s k h b hb w
  · have e := hb.out
    rw [bAt_out (by rw [← Lib.size_eq]; omega)] at e
    subst e
    exact byteAt_out s k (by omega) w

set_option maxRecDepth 20000 in
set_option maxHeartbeats 1000000 in
theorem digit_any (n : Nat) (hn : n < 256) (w : World) : Calls Tryd.prog 95 #[.int .u8 n] w fun e w' => e = .returned (.int .i64 (dgN n)) ∧ w' = w := by
  have hc : n < 48 ∨ (48 ≤ n ∧ n ≤ 57) ∨ (58 ≤ n ∧ n < 65) ∨ (65 ≤ n ∧ n ≤ 70) ∨ (71 ≤ n ∧ n < 97) ∨ (97 ≤ n ∧ n ≤ 102) ∨ 103 ≤ n := by omega
  rcases hc with h | ⟨h, h2⟩ | ⟨h, h2⟩ | ⟨h, h2⟩ | ⟨h, h2⟩ | ⟨h, h2⟩ | h
  · have e : dgN n = 16 := by unfold dgN; rw [if_neg (by omega), if_neg (by omega), if_neg (by omega)]
    rw [e]
    have a1 : (n : Int) < 48 := by omega
    have a2 : (n : Int) < 65 := by omega
    have a3 : (n : Int) < 97 := by omega
    clear h e
    go_enter Tryd.func95, Tryd.ntmps95
    go_wp2
    go_ret
    exact ⟨rfl, rfl⟩
  · have e : dgN n = n - 48 := by unfold dgN; rw [if_pos (by omega)]
    have a1 : (48 : Int) ≤ n := by omega
    have a2 : (n : Int) ≤ 57 := by omega
    rw [e]
    clear e h h2
    go_enter Tryd.func95, Tryd.ntmps95
    go_wp2
    go_ret
    exact ⟨ret_int (by omega), rfl⟩
  · have e : dgN n = 16 := by unfold dgN; rw [if_neg (by omega), if_neg (by omega), if_neg (by omega)]
    rw [e]
    have a1 : (48 : Int) ≤ n := by omega
    have a2 : (57 : Int) < n := by omega
    have a3 : (n : Int) < 65 := by omega
    have a4 : (n : Int) < 97 := by omega
    clear h h2 e
    go_enter Tryd.func95, Tryd.ntmps95
    go_wp2
    go_ret
    exact ⟨rfl, rfl⟩
  · have e : dgN n = n - 55 := by unfold dgN; rw [if_neg (by omega), if_pos (by omega)]
    rw [e]
    have a1 : (48 : Int) ≤ n := by omega
    have a2 : (57 : Int) < n := by omega
    have a3 : (65 : Int) ≤ n := by omega
    have a4 : (n : Int) ≤ 70 := by omega
    clear h h2 e
    go_enter Tryd.func95, Tryd.ntmps95
    go_wp2
    go_ret
    exact ⟨ret_int (by omega), rfl⟩
  · have e : dgN n = 16 := by unfold dgN; rw [if_neg (by omega), if_neg (by omega), if_neg (by omega)]
    rw [e]
    have a1 : (48 : Int) ≤ n := by omega
    have a2 : (57 : Int) < n := by omega
    have a3 : (65 : Int) ≤ n := by omega
    have a4 : (70 : Int) < n := by omega
    have a5 : (n : Int) < 97 := by omega
    clear h h2 e
    go_enter Tryd.func95, Tryd.ntmps95
    go_wp2
    go_ret
    exact ⟨rfl, rfl⟩
  · have e : dgN n = n - 87 := by unfold dgN; rw [if_neg (by omega), if_neg (by omega), if_pos (by omega)]
    rw [e]
    have a1 : (48 : Int) ≤ n := by omega
    have a2 : (57 : Int) < n := by omega
    have a3 : (65 : Int) ≤ n := by omega
    have a4 : (70 : Int) < n := by omega
    have a5 : (97 : Int) ≤ n := by omega
    have a6 : (n : Int) ≤ 102 := by omega
    clear h h2 e
    go_enter Tryd.func95, Tryd.ntmps95
    go_wp2
    go_ret
    exact ⟨ret_int (by omega), rfl⟩
  · have e : dgN n = 16 := by unfold dgN; rw [if_neg (by omega), if_neg (by omega), if_neg (by omega)]
    rw [e]
    have a1 : (48 : Int) ≤ n := by omega
    have a2 : (57 : Int) < n := by omega
    have a3 : (65 : Int) ≤ n := by omega
    have a4 : (70 : Int) < n := by omega
    have a5 : (97 : Int) ≤ n := by omega
    have a6 : (102 : Int) < n := by omega
    clear h e
    go_enter Tryd.func95, Tryd.ntmps95
    go_wp2
    go_ret
    exact ⟨rfl, rfl⟩
theorem digit_at (b : UInt8) (d : Nat) (hd : Fact (dgt b = d)) (w : World) : Calls Tryd.prog 95 #[.int .u8 b.toNat] w fun e w' => e = .returned (.int .i64 d) ∧ w' = w := by
  have := digit_any b.toNat (UInt8.toNat_lt b) w
  rw [show dgN b.toNat = d from hd.out] at this
  exact this

set_option maxRecDepth 20000 in
set_option maxHeartbeats 1000000 in
theorem letter_any (n : Nat) (hn : n < 256) (w : World) : Calls Tryd.prog 68 #[.int .u8 n] w fun e w' => e = .returned (.bool (ltrN n)) ∧ w' = w := by
  have hc : n < 65 ∨ (65 ≤ n ∧ n ≤ 90) ∨ (91 ≤ n ∧ n < 97) ∨ (97 ≤ n ∧ n ≤ 122) ∨ 123 ≤ n := by omega
  rcases hc with h | ⟨h, h2⟩ | ⟨h, h2⟩ | ⟨h, h2⟩ | h
  · have e : ltrN n = false := by unfold ltrN; simp; omega
    have a1 : (n : Int) < 97 := by omega
    have qa1 : decide ((97 : Int) ≤ (n : Int)) = false := decide_eq_false (by omega)
    have a2 : (n : Int) < 65 := by omega
    have qa2 : decide ((65 : Int) ≤ (n : Int)) = false := decide_eq_false (by omega)
    rw [e]
    clear h e
    go_enter Tryd.func68, Tryd.ntmps68
    go_wp2
    go_ret
    exact ⟨rfl, rfl⟩
  · have e : ltrN n = true := by unfold ltrN; simp; omega
    have a1 : (n : Int) < 97 := by omega
    have qa1 : decide ((97 : Int) ≤ (n : Int)) = false := decide_eq_false (by omega)
    have a2 : (65 : Int) ≤ n := by omega
    have qa2 : decide ((65 : Int) ≤ (n : Int)) = true := decide_eq_true (by omega)
    have a3 : (n : Int) ≤ 90 := by omega
    have qa3 : decide ((n : Int) ≤ 90) = true := decide_eq_true (by omega)
    rw [e]
    clear h h2 e
    go_enter Tryd.func68, Tryd.ntmps68
    go_wp2
    go_ret
    exact ⟨rfl, rfl⟩
  · have e : ltrN n = false := by unfold ltrN; simp; omega
    have a1 : (n : Int) < 97 := by omega
    have qa1 : decide ((97 : Int) ≤ (n : Int)) = false := decide_eq_false (by omega)
    have a2 : (65 : Int) ≤ n := by omega
    have qa2 : decide ((65 : Int) ≤ (n : Int)) = true := decide_eq_true (by omega)
    have a3 : (90 : Int) < n := by omega
    have qa3 : decide ((n : Int) ≤ 90) = false := decide_eq_false (by omega)
    rw [e]
    clear h h2 e
    go_enter Tryd.func68, Tryd.ntmps68
    go_wp2
    go_ret
    exact ⟨rfl, rfl⟩
  · have e : ltrN n = true := by unfold ltrN; simp; omega
    have a1 : (97 : Int) ≤ n := by omega
    have qa1 : decide ((97 : Int) ≤ (n : Int)) = true := decide_eq_true (by omega)
    have a2 : (n : Int) ≤ 122 := by omega
    have qa2 : decide ((n : Int) ≤ 122) = true := decide_eq_true (by omega)
    rw [e]
    clear h h2 e
    go_enter Tryd.func68, Tryd.ntmps68
    go_wp2
    go_ret
    exact ⟨rfl, rfl⟩
  · have e : ltrN n = false := by unfold ltrN; simp; omega
    have a1 : (97 : Int) ≤ n := by omega
    have qa1 : decide ((97 : Int) ≤ (n : Int)) = true := decide_eq_true (by omega)
    have a2 : (122 : Int) < n := by omega
    have qa2 : decide ((n : Int) ≤ 122) = false := decide_eq_false (by omega)
    have a3 : (65 : Int) ≤ n := by omega
    have qa3 : decide ((65 : Int) ≤ (n : Int)) = true := decide_eq_true (by omega)
    have a4 : (90 : Int) < n := by omega
    have qa4 : decide ((n : Int) ≤ 90) = false := decide_eq_false (by omega)
    rw [e]
    clear h e
    go_enter Tryd.func68, Tryd.ntmps68
    go_wp2
    go_ret
    exact ⟨rfl, rfl⟩

set_option maxRecDepth 20000 in
set_option maxHeartbeats 1000000 in
theorem goesOn_any (n : Nat) (hn : n < 256) (w : World) : Calls Tryd.prog 89 #[.int .u8 n] w fun e w' => e = .returned (.bool (goesN n)) ∧ w' = w := by
  obtain ⟨l, hl⟩ : ∃ l, ltrN n = l := ⟨_, rfl⟩
  obtain ⟨d, hd⟩ : ∃ d, dgN n = d := ⟨_, rfl⟩
  have L := letter_any n hn w
  have D := digit_any n hn w
  rw [hl] at L
  rw [hd] at D
  unfold goesN
  rw [hl, hd]
  clear hl hd
  cases l
  · by_cases h : d < 10
    · have h1 : (d : Int) < 10 := by omega
      have h2 : decide ((d : Int) < 10) = true := decide_eq_true h1
      go_enter Tryd.func89, Tryd.ntmps89
      go_wp2_with (first
        | (go_at_call 68; refine L.mono ?_; rintro e w1 ⟨rfl, rfl⟩)
        | (go_at_call 95; refine D.mono ?_; rintro e w1 ⟨rfl, rfl⟩))
      go_ret
      exact ⟨by simp [h], rfl⟩
    · have h1 : (10 : Int) ≤ d := by omega
      have h2 : decide ((d : Int) < 10) = false := decide_eq_false (by omega)
      have hq : (((n : Int) == 61) : Bool) = decide (n = 61) := by rw [Bool.eq_iff_iff, beq_iff_eq, decide_eq_true_eq]; omega
      go_enter Tryd.func89, Tryd.ntmps89
      go_wp2_with (first
        | (go_at_call 68; refine L.mono ?_; rintro e w1 ⟨rfl, rfl⟩)
        | (go_at_call 95; refine D.mono ?_; rintro e w1 ⟨rfl, rfl⟩))
      go_ret
      exact ⟨by simp [h], rfl⟩
  · go_enter Tryd.func89, Tryd.ntmps89
    go_wp2_with (go_at_call 68; refine L.mono ?_; rintro e w1 ⟨rfl, rfl⟩)
    go_ret
    exact ⟨rfl, rfl⟩
theorem goesOn_at (b : UInt8) (g : Bool) (hg : Fact (goesN b.toNat = g)) (w : World) : Calls Tryd.prog 89 #[.int .u8 b.toNat] w fun e w' => e = .returned (.bool g) ∧ w' = w := by
  have := goesOn_any b.toNat (UInt8.toNat_lt b) w
  rw [hg.out] at this
  exact this
set_option maxRecDepth 20000 in
theorem put_at (r : Int) (E : ByteArray) (hE : Fact (Utf8.encode r = E)) (w : World) : Calls Tryd.prog 33 #[.int .i32 r] w fun e w' => e = .returned (.string E) ∧ w' = w := by
  have h : Calls Tryd.prog 33 #[.int .i32 r] w fun e w' => e = .returned (.string (Utf8.encode r)) ∧ w' = w := by
    go_enter Tryd.func33, Tryd.ntmps33
    go_wp2
    go_ret
    exact ⟨rfl, rfl⟩
  rw [hE.out] at h
  exact h
end Go.Proofs.YtdniddiaiinggaaDoor
