/- The document's own digit, Letter and Put: what they answer. -/
import Derived.Test.YtdniddiaiinggaaDoorCD
import Derived.Test.YtdniddiaiinggaaDoorPut
import Derived.Test.YtdniddiaiinggaaDoorRCode
import Derived.Test.YtdniddiaiinggaaDoorRLong
set_option linter.unusedVariables false
set_option linter.unusedSimpArgs false
namespace Go.Proofs.YtdniddiaiinggaaDoor
open Go.RowKit M

set_option maxRecDepth 20000 in
set_option maxHeartbeats 1000000 in
theorem rletter_any (n : Nat) (hn : n < 256) (w : World) : Calls Tryd.prog 39 #[.int .u8 n] w fun e w' => e = .returned (.bool (ltrN n)) ∧ w' = w := by
  have hc : n < 65 ∨ (65 ≤ n ∧ n ≤ 90) ∨ (91 ≤ n ∧ n < 97) ∨ (97 ≤ n ∧ n ≤ 122) ∨ 123 ≤ n := by omega
  rcases hc with h | ⟨h, h2⟩ | ⟨h, h2⟩ | ⟨h, h2⟩ | h
  · have e : ltrN n = false := by unfold ltrN; simp; omega
    have a1 : (n : Int) < 97 := by omega
    have qa1 : decide ((97 : Int) ≤ (n : Int)) = false := decide_eq_false (by omega)
    have a2 : (n : Int) < 65 := by omega
    have qa2 : decide ((65 : Int) ≤ (n : Int)) = false := decide_eq_false (by omega)
    rw [e]
    clear h e
    go_enter Tryd.func39, Tryd.ntmps39
    go_wp2
    go_ret
    exact ⟨rfl, rfl⟩
  · have e : ltrN n = true := by unfold ltrN; simp; omega
    have a1 : (n : Int) < 97 := by omega
    have qa1 : decide ((97 : Int) ≤ (n : Int)) = false := decide_eq_false (by omega)
    have a2 : (65 : Int) ≤ n := by omega
    have qa2 : decide ((65 : Int) ≤ (n : Int)) = true := decide_eq_true (by omega)
    have a3 : (n : Int) ≤ 90 := by omega
    have qa3 : decide ((n : Int) ≤ 90) = true := decide_eq_true (by omega)
    rw [e]
    clear h h2 e
    go_enter Tryd.func39, Tryd.ntmps39
    go_wp2
    go_ret
    exact ⟨rfl, rfl⟩
  · have e : ltrN n = false := by unfold ltrN; simp; omega
    have a1 : (n : Int) < 97 := by omega
    have qa1 : decide ((97 : Int) ≤ (n : Int)) = false := decide_eq_false (by omega)
    have a2 : (65 : Int) ≤ n := by omega
    have qa2 : decide ((65 : Int) ≤ (n : Int)) = true := decide_eq_true (by omega)
    have a3 : (90 : Int) < n := by omega
    have qa3 : decide ((n : Int) ≤ 90) = false := decide_eq_false (by omega)
    rw [e]
    clear h h2 e
    go_enter Tryd.func39, Tryd.ntmps39
    go_wp2
    go_ret
    exact ⟨rfl, rfl⟩
  · have e : ltrN n = true := by unfold ltrN; simp; omega
    have a1 : (97 : Int) ≤ n := by omega
    have qa1 : decide ((97 : Int) ≤ (n : Int)) = true := decide_eq_true (by omega)
    have a2 : (n : Int) ≤ 122 := by omega
    have qa2 : decide ((n : Int) ≤ 122) = true := decide_eq_true (by omega)
    rw [e]
    clear h h2 e
    go_enter Tryd.func39, Tryd.ntmps39
    go_wp2
    go_ret
    exact ⟨rfl, rfl⟩
  · have e : ltrN n = false := by unfold ltrN; simp; omega
    have a1 : (97 : Int) ≤ n := by omega
    have qa1 : decide ((97 : Int) ≤ (n : Int)) = true := decide_eq_true (by omega)
    have a2 : (122 : Int) < n := by omega
    have qa2 : decide ((n : Int) ≤ 122) = false := decide_eq_false (by omega)
    have a3 : (65 : Int) ≤ n := by omega
    have qa3 : decide ((65 : Int) ≤ (n : Int)) = true := decide_eq_true (by omega)
    have a4 : (90 : Int) < n := by omega
    have qa4 : decide ((n : Int) ≤ 90) = false := decide_eq_false (by omega)
    rw [e]
    clear h e
    go_enter Tryd.func39, Tryd.ntmps39
    go_wp2
    go_ret
    exact ⟨rfl, rfl⟩


/-- a digit's number in the document's words -/
def rdg (hex : Bool) (n : Nat) : Int := if dgN n < (if hex = true then 16 else 10) then (dgN n : Int) else -1
theorem ret_int2 {a b : Int} (h : a = b) : Ending.returned (.int .i64 a) = .returned (.int .i64 b) := by rw [h]
set_option maxRecDepth 20000 in
set_option maxHeartbeats 2000000 in
theorem rdigit_any (n : Nat) (hn : n < 256) (hex : Bool) (w : World) : Calls Tryd.prog 40 #[.int .u8 n, .bool hex] w fun e w' => e = .returned (.int .i64 (rdg hex n)) ∧ w' = w := by
  have hc : (n < 48) ∨ (48 ≤ n ∧ n ≤ 57) ∨ (58 ≤ n ∧ n < 65) ∨ (65 ≤ n ∧ n ≤ 70) ∨ (71 ≤ n ∧ n < 97) ∨ (97 ≤ n ∧ n ≤ 102) ∨ (103 ≤ n) := by omega
  rcases hc with h | h | h | h | h | h | h
  · have e : dgN n = 16 := by unfold dgN; rw [if_neg (by omega), if_neg (by omega), if_neg (by omega)]
    cases hex
    · have e2 : rdg false n = -1 := by
        unfold rdg
        rw [e]
        simp only [Bool.false_eq_true, if_false, if_true]
        rw [if_neg (by omega)]
      rw [e2]
      have a0 : (n : Int) < 48 := by omega
      have q0 : decide ((48 : Int) ≤ (n : Int)) = false := decide_eq_false (by omega)
      have a1 : (n : Int) < 97 := by omega
      have q1 : decide ((97 : Int) ≤ (n : Int)) = false := decide_eq_false (by omega)
      have a2 : (n : Int) < 65 := by omega
      have q2 : decide ((65 : Int) ≤ (n : Int)) = false := decide_eq_false (by omega)
      clear e e2 h
      go_enter Tryd.func40, Tryd.ntmps40
      go_wp2
      go_ret
      exact ⟨by first | rfl | exact ret_int2 (by omega), rfl⟩
    · have e2 : rdg true n = -1 := by
        unfold rdg
        rw [e]
        simp only [Bool.false_eq_true, if_false, if_true]
        rw [if_neg (by omega)]
      rw [e2]
      have a0 : (n : Int) < 48 := by omega
      have q0 : decide ((48 : Int) ≤ (n : Int)) = false := decide_eq_false (by omega)
      have a1 : (n : Int) < 97 := by omega
      have q1 : decide ((97 : Int) ≤ (n : Int)) = false := decide_eq_false (by omega)
      have a2 : (n : Int) < 65 := by omega
      have q2 : decide ((65 : Int) ≤ (n : Int)) = false := decide_eq_false (by omega)
      clear e e2 h
      go_enter Tryd.func40, Tryd.ntmps40
      go_wp2
      go_ret
      exact ⟨by first | rfl | exact ret_int2 (by omega), rfl⟩
  · have e : dgN n = n - 48 := by unfold dgN; rw [if_pos (by omega)]
    cases hex
    · have e2 : rdg false n = (n : Int) - 48 := by
        unfold rdg
        rw [e]
        simp only [Bool.false_eq_true, if_false, if_true]
        rw [if_pos (by omega)]; omega
      rw [e2]
      have a0 : (48 : Int) ≤ n := by omega
      have q0 : decide ((48 : Int) ≤ (n : Int)) = true := decide_eq_true (by omega)
      have a1 : (n : Int) ≤ 57 := by omega
      have q1 : decide ((n : Int) ≤ 57) = true := decide_eq_true (by omega)
      clear e e2 h
      go_enter Tryd.func40, Tryd.ntmps40
      go_wp2
      go_ret
      exact ⟨by first | rfl | exact ret_int2 (by omega), rfl⟩
    · have e2 : rdg true n = (n : Int) - 48 := by
        unfold rdg
        rw [e]
        simp only [Bool.false_eq_true, if_false, if_true]
        rw [if_pos (by omega)]; omega
      rw [e2]
      have a0 : (48 : Int) ≤ n := by omega
      have q0 : decide ((48 : Int) ≤ (n : Int)) = true := decide_eq_true (by omega)
      have a1 : (n : Int) ≤ 57 := by omega
      have q1 : decide ((n : Int) ≤ 57) = true := decide_eq_true (by omega)
      clear e e2 h
      go_enter Tryd.func40, Tryd.ntmps40
      go_wp2
      go_ret
      exact ⟨by first | rfl | exact ret_int2 (by omega), rfl⟩
  · have e : dgN n = 16 := by unfold dgN; rw [if_neg (by omega), if_neg (by omega), if_neg (by omega)]
    cases hex
    · have e2 : rdg false n = -1 := by
        unfold rdg
        rw [e]
        simp only [Bool.false_eq_true, if_false, if_true]
        rw [if_neg (by omega)]
      rw [e2]
      have a0 : (48 : Int) ≤ n := by omega
      have q0 : decide ((48 : Int) ≤ (n : Int)) = true := decide_eq_true (by omega)
      have a1 : (57 : Int) < n := by omega
      have q1 : decide ((n : Int) ≤ 57) = false := decide_eq_false (by omega)
      have a2 : (n : Int) < 97 := by omega
      have q2 : decide ((97 : Int) ≤ (n : Int)) = false := decide_eq_false (by omega)
      have a3 : (n : Int) < 65 := by omega
      have q3 : decide ((65 : Int) ≤ (n : Int)) = false := decide_eq_false (by omega)
      clear e e2 h
      go_enter Tryd.func40, Tryd.ntmps40
      go_wp2
      go_ret
      exact ⟨by first | rfl | exact ret_int2 (by omega), rfl⟩
    · have e2 : rdg true n = -1 := by
        unfold rdg
        rw [e]
        simp only [Bool.false_eq_true, if_false, if_true]
        rw [if_neg (by omega)]
      rw [e2]
      have a0 : (48 : Int) ≤ n := by omega
      have q0 : decide ((48 : Int) ≤ (n : Int)) = true := decide_eq_true (by omega)
      have a1 : (57 : Int) < n := by omega
      have q1 : decide ((n : Int) ≤ 57) = false := decide_eq_false (by omega)
      have a2 : (n : Int) < 97 := by omega
      have q2 : decide ((97 : Int) ≤ (n : Int)) = false := decide_eq_false (by omega)
      have a3 : (n : Int) < 65 := by omega
      have q3 : decide ((65 : Int) ≤ (n : Int)) = false := decide_eq_false (by omega)
      clear e e2 h
      go_enter Tryd.func40, Tryd.ntmps40
      go_wp2
      go_ret
      exact ⟨by first | rfl | exact ret_int2 (by omega), rfl⟩
  · have e : dgN n = n - 55 := by unfold dgN; rw [if_neg (by omega), if_pos (by omega)]
    cases hex
    · have e2 : rdg false n = -1 := by
        unfold rdg
        rw [e]
        simp only [Bool.false_eq_true, if_false, if_true]
        rw [if_neg (by omega)]
      rw [e2]
      have a0 : (48 : Int) ≤ n := by omega
      have q0 : decide ((48 : Int) ≤ (n : Int)) = true := decide_eq_true (by omega)
      have a1 : (57 : Int) < n := by omega
      have q1 : decide ((n : Int) ≤ 57) = false := decide_eq_false (by omega)
      have a2 : (n : Int) < 97 := by omega
      have q2 : decide ((97 : Int) ≤ (n : Int)) = false := decide_eq_false (by omega)
      have a3 : (65 : Int) ≤ n := by omega
      have q3 : decide ((65 : Int) ≤ (n : Int)) = true := decide_eq_true (by omega)
      have a4 : (n : Int) ≤ 70 := by omega
      have q4 : decide ((n : Int) ≤ 70) = true := decide_eq_true (by omega)
      clear e e2 h
      go_enter Tryd.func40, Tryd.ntmps40
      go_wp2
      go_ret
      exact ⟨by first | rfl | exact ret_int2 (by omega), rfl⟩
    · have e2 : rdg true n = (n : Int) - 55 := by
        unfold rdg
        rw [e]
        simp only [Bool.false_eq_true, if_false, if_true]
        rw [if_pos (by omega)]; omega
      rw [e2]
      have a0 : (48 : Int) ≤ n := by omega
      have q0 : decide ((48 : Int) ≤ (n : Int)) = true := decide_eq_true (by omega)
      have a1 : (57 : Int) < n := by omega
      have q1 : decide ((n : Int) ≤ 57) = false := decide_eq_false (by omega)
      have a2 : (n : Int) < 97 := by omega
      have q2 : decide ((97 : Int) ≤ (n : Int)) = false := decide_eq_false (by omega)
      have a3 : (65 : Int) ≤ n := by omega
      have q3 : decide ((65 : Int) ≤ (n : Int)) = true := decide_eq_true (by omega)
      have a4 : (n : Int) ≤ 70 := by omega
      have q4 : decide ((n : Int) ≤ 70) = true := decide_eq_true (by omega)
      clear e e2 h
      go_enter Tryd.func40, Tryd.ntmps40
      go_wp2
      go_ret
      exact ⟨by first | rfl | exact ret_int2 (by omega), rfl⟩
  · have e : dgN n = 16 := by unfold dgN; rw [if_neg (by omega), if_neg (by omega), if_neg (by omega)]
    cases hex
    · have e2 : rdg false n = -1 := by
        unfold rdg
        rw [e]
        simp only [Bool.false_eq_true, if_false, if_true]
        rw [if_neg (by omega)]
      rw [e2]
      have a0 : (48 : Int) ≤ n := by omega
      have q0 : decide ((48 : Int) ≤ (n : Int)) = true := decide_eq_true (by omega)
      have a1 : (57 : Int) < n := by omega
      have q1 : decide ((n : Int) ≤ 57) = false := decide_eq_false (by omega)
      have a2 : (n : Int) < 97 := by omega
      have q2 : decide ((97 : Int) ≤ (n : Int)) = false := decide_eq_false (by omega)
      have a3 : (65 : Int) ≤ n := by omega
      have q3 : decide ((65 : Int) ≤ (n : Int)) = true := decide_eq_true (by omega)
      have a4 : (70 : Int) < n := by omega
      have q4 : decide ((n : Int) ≤ 70) = false := decide_eq_false (by omega)
      clear e e2 h
      go_enter Tryd.func40, Tryd.ntmps40
      go_wp2
      go_ret
      exact ⟨by first | rfl | exact ret_int2 (by omega), rfl⟩
    · have e2 : rdg true n = -1 := by
        unfold rdg
        rw [e]
        simp only [Bool.false_eq_true, if_false, if_true]
        rw [if_neg (by omega)]
      rw [e2]
      have a0 : (48 : Int) ≤ n := by omega
      have q0 : decide ((48 : Int) ≤ (n : Int)) = true := decide_eq_true (by omega)
      have a1 : (57 : Int) < n := by omega
      have q1 : decide ((n : Int) ≤ 57) = false := decide_eq_false (by omega)
      have a2 : (n : Int) < 97 := by omega
      have q2 : decide ((97 : Int) ≤ (n : Int)) = false := decide_eq_false (by omega)
      have a3 : (65 : Int) ≤ n := by omega
      have q3 : decide ((65 : Int) ≤ (n : Int)) = true := decide_eq_true (by omega)
      have a4 : (70 : Int) < n := by omega
      have q4 : decide ((n : Int) ≤ 70) = false := decide_eq_false (by omega)
      clear e e2 h
      go_enter Tryd.func40, Tryd.ntmps40
      go_wp2
      go_ret
      exact ⟨by first | rfl | exact ret_int2 (by omega), rfl⟩
  · have e : dgN n = n - 87 := by unfold dgN; rw [if_neg (by omega), if_neg (by omega), if_pos (by omega)]
    cases hex
    · have e2 : rdg false n = -1 := by
        unfold rdg
        rw [e]
        simp only [Bool.false_eq_true, if_false, if_true]
        rw [if_neg (by omega)]
      rw [e2]
      have a0 : (48 : Int) ≤ n := by omega
      have q0 : decide ((48 : Int) ≤ (n : Int)) = true := decide_eq_true (by omega)
      have a1 : (57 : Int) < n := by omega
      have q1 : decide ((n : Int) ≤ 57) = false := decide_eq_false (by omega)
      have a2 : (97 : Int) ≤ n := by omega
      have q2 : decide ((97 : Int) ≤ (n : Int)) = true := decide_eq_true (by omega)
      have a3 : (n : Int) ≤ 102 := by omega
      have q3 : decide ((n : Int) ≤ 102) = true := decide_eq_true (by omega)
      have a4 : (65 : Int) ≤ n := by omega
      have q4 : decide ((65 : Int) ≤ (n : Int)) = true := decide_eq_true (by omega)
      have a5 : (70 : Int) < n := by omega
      have q5 : decide ((n : Int) ≤ 70) = false := decide_eq_false (by omega)
      clear e e2 h
      go_enter Tryd.func40, Tryd.ntmps40
      go_wp2
      go_ret
      exact ⟨by first | rfl | exact ret_int2 (by omega), rfl⟩
    · have e2 : rdg true n = (n : Int) - 87 := by
        unfold rdg
        rw [e]
        simp only [Bool.false_eq_true, if_false, if_true]
        rw [if_pos (by omega)]; omega
      rw [e2]
      have a0 : (48 : Int) ≤ n := by omega
      have q0 : decide ((48 : Int) ≤ (n : Int)) = true := decide_eq_true (by omega)
      have a1 : (57 : Int) < n := by omega
      have q1 : decide ((n : Int) ≤ 57) = false := decide_eq_false (by omega)
      have a2 : (97 : Int) ≤ n := by omega
      have q2 : decide ((97 : Int) ≤ (n : Int)) = true := decide_eq_true (by omega)
      have a3 : (n : Int) ≤ 102 := by omega
      have q3 : decide ((n : Int) ≤ 102) = true := decide_eq_true (by omega)
      have a4 : (65 : Int) ≤ n := by omega
      have q4 : decide ((65 : Int) ≤ (n : Int)) = true := decide_eq_true (by omega)
      have a5 : (70 : Int) < n := by omega
      have q5 : decide ((n : Int) ≤ 70) = false := decide_eq_false (by omega)
      clear e e2 h
      go_enter Tryd.func40, Tryd.ntmps40
      go_wp2
      go_ret
      exact ⟨by first | rfl | exact ret_int2 (by omega), rfl⟩
  · have e : dgN n = 16 := by unfold dgN; rw [if_neg (by omega), if_neg (by omega), if_neg (by omega)]
    cases hex
    · have e2 : rdg false n = -1 := by
        unfold rdg
        rw [e]
        simp only [Bool.false_eq_true, if_false, if_true]
        rw [if_neg (by omega)]
      rw [e2]
      have a0 : (48 : Int) ≤ n := by omega
      have q0 : decide ((48 : Int) ≤ (n : Int)) = true := decide_eq_true (by omega)
      have a1 : (57 : Int) < n := by omega
      have q1 : decide ((n : Int) ≤ 57) = false := decide_eq_false (by omega)
      have a2 : (97 : Int) ≤ n := by omega
      have q2 : decide ((97 : Int) ≤ (n : Int)) = true := decide_eq_true (by omega)
      have a3 : (102 : Int) < n := by omega
      have q3 : decide ((n : Int) ≤ 102) = false := decide_eq_false (by omega)
      have a4 : (65 : Int) ≤ n := by omega
      have q4 : decide ((65 : Int) ≤ (n : Int)) = true := decide_eq_true (by omega)
      have a5 : (70 : Int) < n := by omega
      have q5 : decide ((n : Int) ≤ 70) = false := decide_eq_false (by omega)
      clear e e2 h
      go_enter Tryd.func40, Tryd.ntmps40
      go_wp2
      go_ret
      exact ⟨by first | rfl | exact ret_int2 (by omega), rfl⟩
    · have e2 : rdg true n = -1 := by
        unfold rdg
        rw [e]
        simp only [Bool.false_eq_true, if_false, if_true]
        rw [if_neg (by omega)]
      rw [e2]
      have a0 : (48 : Int) ≤ n := by omega
      have q0 : decide ((48 : Int) ≤ (n : Int)) = true := decide_eq_true (by omega)
      have a1 : (57 : Int) < n := by omega
      have q1 : decide ((n : Int) ≤ 57) = false := decide_eq_false (by omega)
      have a2 : (97 : Int) ≤ n := by omega
      have q2 : decide ((97 : Int) ≤ (n : Int)) = true := decide_eq_true (by omega)
      have a3 : (102 : Int) < n := by omega
      have q3 : decide ((n : Int) ≤ 102) = false := decide_eq_false (by omega)
      have a4 : (65 : Int) ≤ n := by omega
      have q4 : decide ((65 : Int) ≤ (n : Int)) = true := decide_eq_true (by omega)
      have a5 : (70 : Int) < n := by omega
      have q5 : decide ((n : Int) ≤ 70) = false := decide_eq_false (by omega)
      clear e e2 h
      go_enter Tryd.func40, Tryd.ntmps40
      go_wp2
      go_ret
      exact ⟨by first | rfl | exact ret_int2 (by omega), rfl⟩
theorem rdigit_at (b : UInt8) (hex : Bool) (d : Int) (hd : Fact (rdg hex b.toNat = d)) (w : World) : Calls Tryd.prog 40 #[.int .u8 b.toNat, .bool hex] w fun e w' => e = .returned (.int .i64 d) ∧ w' = w := by
  have := rdigit_any b.toNat (UInt8.toNat_lt b) hex w
  rw [hd.out] at this
  exact this
theorem rletter_at (b : UInt8) (g : Bool) (hg : Fact (ltrN b.toNat = g)) (w : World) : Calls Tryd.prog 39 #[.int .u8 b.toNat] w fun e w' => e = .returned (.bool g) ∧ w' = w := by
  have := rletter_any b.toNat (UInt8.toNat_lt b) w
  rw [hg.out] at this
  exact this
end Go.Proofs.YtdniddiaiinggaaDoor
