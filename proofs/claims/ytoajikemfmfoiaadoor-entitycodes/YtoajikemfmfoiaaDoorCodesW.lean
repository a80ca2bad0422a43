/- The walk of EntityCodes: it returns true. -/
import Derived.Test.YtoajikemfmfoiaaDoorCode
namespace Go.Proofs.YtoajikemfmfoiaaDoor
open Go.RowKit M

set_option maxRecDepth 20000 in
set_option maxHeartbeats 1000000 in
theorem codes_none (n : Int) (h : n ≤ 0 ∨ 1114111 < n ∨ (55296 ≤ n ∧ n ≤ 57343)) (w : World) (hl : Laid w) : Calls Tryd.prog 5 #[.int .i64 n] w fun e w' => e = .returned (.bool true) ∧ Below w.heap.size w w' := by
  have hc : Fact (codeB n = 65533) := ⟨code_no h⟩
  by_cases h1 : n ≤ 0
  · clear h
    go_enter Tryd.func5, Tryd.ntmps5
    go_wp2_with (first
      | (go_at_call 11; refine (code_at n _ hc _ hl).mono ?_; rintro e w3 ⟨rfl, rfl⟩)
      | (go_at_call 13; refine (awake_true _ hl).mono ?_; rintro e w4 ⟨rfl, hb4⟩))
    go_ret
    exact ⟨rfl, hb4⟩
  by_cases h2 : 1114111 < n
  · clear h
    go_enter Tryd.func5, Tryd.ntmps5
    go_wp2_with (first
      | (go_at_call 11; refine (code_at n _ hc _ hl).mono ?_; rintro e w3 ⟨rfl, rfl⟩)
      | (go_at_call 13; refine (awake_true _ hl).mono ?_; rintro e w4 ⟨rfl, hb4⟩))
    go_ret
    exact ⟨rfl, hb4⟩
  have h3 : 55296 ≤ n := by omega
  have h4 : n ≤ 57343 := by omega
  clear h
  go_enter Tryd.func5, Tryd.ntmps5
  go_wp2_with (first
    | (go_at_call 11; refine (code_at n _ hc _ hl).mono ?_; rintro e w3 ⟨rfl, rfl⟩)
    | (go_at_call 13; refine (awake_true _ hl).mono ?_; rintro e w4 ⟨rfl, hb4⟩))
  go_ret
  exact ⟨rfl, hb4⟩
theorem cd_other : ∀ j, j < 32 → ¬ (j = 1 ∨ j = 13 ∨ j = 15 ∨ j = 16 ∨ j = 29) → Cd.getD j 0 ≠ 128 + (j : Int) := by decide
set_option maxRecDepth 20000 in
set_option maxHeartbeats 1000000 in
theorem codes_tab (n : Int) (h1 : 128 ≤ n) (h2 : n ≤ 159) (w : World) (hl : Laid w) : Calls Tryd.prog 5 #[.int .i64 n] w fun e w' => e = .returned (.bool true) ∧ Below w.heap.size w w' := by
  by_cases h : n = 129 ∨ n = 141 ∨ n = 143 ∨ n = 144 ∨ n = 157
  · have hc : Fact (codeB n = n) := ⟨by rcases h with rfl | rfl | rfl | rfl | rfl <;> kernel_rfl⟩
    clear h1 h2
    rcases h with rfl | rfl | rfl | rfl | rfl
    all_goals
      go_enter Tryd.func5, Tryd.ntmps5
      go_wp2_with (first
        | (go_at_call 11; refine (code_at _ _ hc _ hl).mono ?_; rintro e w3 ⟨rfl, rfl⟩)
        | (go_at_call 13; refine (awake_true _ hl).mono ?_; rintro e w4 ⟨rfl, hb4⟩))
      go_ret
      exact ⟨rfl, hb4⟩
  · obtain ⟨j, hj⟩ : ∃ j : Nat, n = 128 + j := ⟨(n - 128).toNat, by omega⟩
    obtain ⟨c, hcc⟩ : ∃ c, c = codeB n := ⟨_, rfl⟩
    have hne : c ≠ n := by
      rw [hcc, code_tab (j := j) (by omega) hj, hj]
      exact cd_other j (by omega) (by omega)
    have hc : Fact (codeB n = c) := ⟨hcc.symm⟩
    have hw : IntKind.i32.wrap n = n := by simp [IntKind.wrap, IntKind.bits, IntKind.signed]; omega
    have hq : (c == n) = false := beq_eq_false_iff_ne.2 hne
    have k1 : (n == 129) = false := beq_eq_false_iff_ne.2 (by omega)
    have k2 : (n == 141) = false := beq_eq_false_iff_ne.2 (by omega)
    have k3 : (n == 143) = false := beq_eq_false_iff_ne.2 (by omega)
    have k4 : (n == 144) = false := beq_eq_false_iff_ne.2 (by omega)
    have k5 : (n == 157) = false := beq_eq_false_iff_ne.2 (by omega)
    have g1 : 0 < n := by omega
    have g2 : n ≤ 1114111 := by omega
    have g3 : n < 55296 := by omega
    clear h hcc hj
    go_enter Tryd.func5, Tryd.ntmps5
    go_wp2_with (first
      | (go_at_call 11; refine (code_at n c hc _ hl).mono ?_; rintro e w3 ⟨rfl, rfl⟩)
      | (go_at_call 13; refine (awake_true _ hl).mono ?_; rintro e w4 ⟨rfl, hb4⟩))
    go_ret
    exact ⟨rfl, hb4⟩
set_option maxRecDepth 20000 in
set_option maxHeartbeats 1000000 in
theorem codes_self (n : Int) (h : ¬ (n ≤ 0 ∨ 1114111 < n ∨ (55296 ≤ n ∧ n ≤ 57343))) (h2 : ¬ (128 ≤ n ∧ n ≤ 159)) (w : World) (hl : Laid w) : Calls Tryd.prog 5 #[.int .i64 n] w fun e w' => e = .returned (.bool true) ∧ Below w.heap.size w w' := by
  have hc : Fact (codeB n = n) := ⟨code_self h h2⟩
  have g1 : 0 < n := by omega
  have g2 : n ≤ 1114111 := by omega
  have hw : IntKind.i64.wrap n = n := by simp [IntKind.wrap, IntKind.bits, IntKind.signed]; omega
  have hd : n < 128 ∨ (159 < n ∧ n < 55296) ∨ 57343 < n := by omega
  have hq : (n == n) = true := beq_self_eq_true n
  clear h h2
  rcases hd with hd | ⟨hd, hd2⟩ | hd
  · have hd2 : n < 55296 := by omega
    go_enter Tryd.func5, Tryd.ntmps5
    go_wp2_with (first
      | (go_at_call 11; refine (code_at n n hc _ hl).mono ?_; rintro e w3 ⟨rfl, rfl⟩)
      | (go_at_call 13; refine (awake_true _ hl).mono ?_; rintro e w4 ⟨rfl, hb4⟩))
    go_ret
    exact ⟨rfl, hb4⟩
  · have hd3 : 128 ≤ n := by omega
    go_enter Tryd.func5, Tryd.ntmps5
    go_wp2_with (first
      | (go_at_call 11; refine (code_at n n hc _ hl).mono ?_; rintro e w3 ⟨rfl, rfl⟩)
      | (go_at_call 13; refine (awake_true _ hl).mono ?_; rintro e w4 ⟨rfl, hb4⟩))
    go_ret
    exact ⟨rfl, hb4⟩
  · have hd3 : 128 ≤ n := by omega
    have hd4 : 55296 ≤ n := by omega
    have hd5 : 159 < n := by omega
    go_enter Tryd.func5, Tryd.ntmps5
    go_wp2_with (first
      | (go_at_call 11; refine (code_at n n hc _ hl).mono ?_; rintro e w3 ⟨rfl, rfl⟩)
      | (go_at_call 13; refine (awake_true _ hl).mono ?_; rintro e w4 ⟨rfl, hb4⟩))
    go_ret
    exact ⟨rfl, hb4⟩
theorem codes_walk (n : Int) (w : World) (hl : Laid w) : Calls Tryd.prog 5 #[.int .i64 n] w fun e w' => e = .returned (.bool true) ∧ Below w.heap.size w w' := by
  by_cases h : n ≤ 0 ∨ 1114111 < n ∨ (55296 ≤ n ∧ n ≤ 57343)
  · exact codes_none n h w hl
  by_cases h2 : 128 ≤ n ∧ n ≤ 159
  · exact codes_tab n h2.1 h2.2 w hl
  · exact codes_self n h h2 w hl
end Go.Proofs.YtoajikemfmfoiaaDoor
