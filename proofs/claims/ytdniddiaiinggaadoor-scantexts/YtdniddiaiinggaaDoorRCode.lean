/- Code of the document's own. -/
import Derived.Test.YtdniddiaiinggaaDoorRefs
namespace Go.Proofs.YtdniddiaiinggaaDoor
open Go.RowKit M

set_option maxRecDepth 20000 in
set_option maxHeartbeats 1000000 in
theorem rcode_none (n : Int) (h : n ≤ 0 ∨ 1114111 < n ∨ (55296 ≤ n ∧ n ≤ 57343)) (w : World) : Calls Tryd.prog 51 #[.int .i64 n] w fun e w' => e = .returned (.int .i32 65533) ∧ w' = w := by
  by_cases h1 : n ≤ 0
  · clear h
    go_enter Tryd.func51, Tryd.ntmps51
    go_wp2
    go_ret
    exact ⟨rfl, rfl⟩
  by_cases h2 : 1114111 < n
  · clear h
    go_enter Tryd.func51, Tryd.ntmps51
    go_wp2
    go_ret
    exact ⟨rfl, rfl⟩
  have h3 : 55296 ≤ n := by omega
  have h4 : n ≤ 57343 := by omega
  clear h
  go_enter Tryd.func51, Tryd.ntmps51
  go_wp2
  go_ret
  exact ⟨rfl, rfl⟩
theorem cd_run (w : World) : ∀ j : Nat, j < 32 → (Instr.index 84 (.agg #[.int .i32 8364, .int .i32 129, .int .i32 8218, .int .i32 402, .int .i32 8222, .int .i32 8230, .int .i32 8224, .int .i32 8225, .int .i32 710, .int .i32 8240, .int .i32 352, .int .i32 8249, .int .i32 338, .int .i32 141, .int .i32 381, .int .i32 143, .int .i32 144, .int .i32 8216, .int .i32 8217, .int .i32 8220, .int .i32 8221, .int .i32 8226, .int .i32 8211, .int .i32 8212, .int .i32 732, .int .i32 8482, .int .i32 353, .int .i32 8250, .int .i32 339, .int .i32 157, .int .i32 382, .int .i32 376]) (.int .i64 j)).run Tryd.prog w = .ok (.int .i32 (Cd.getD j 0)) w
  | 0, _ => by kernel_rfl
  | 1, _ => by kernel_rfl
  | 2, _ => by kernel_rfl
  | 3, _ => by kernel_rfl
  | 4, _ => by kernel_rfl
  | 5, _ => by kernel_rfl
  | 6, _ => by kernel_rfl
  | 7, _ => by kernel_rfl
  | 8, _ => by kernel_rfl
  | 9, _ => by kernel_rfl
  | 10, _ => by kernel_rfl
  | 11, _ => by kernel_rfl
  | 12, _ => by kernel_rfl
  | 13, _ => by kernel_rfl
  | 14, _ => by kernel_rfl
  | 15, _ => by kernel_rfl
  | 16, _ => by kernel_rfl
  | 17, _ => by kernel_rfl
  | 18, _ => by kernel_rfl
  | 19, _ => by kernel_rfl
  | 20, _ => by kernel_rfl
  | 21, _ => by kernel_rfl
  | 22, _ => by kernel_rfl
  | 23, _ => by kernel_rfl
  | 24, _ => by kernel_rfl
  | 25, _ => by kernel_rfl
  | 26, _ => by kernel_rfl
  | 27, _ => by kernel_rfl
  | 28, _ => by kernel_rfl
  | 29, _ => by kernel_rfl
  | 30, _ => by kernel_rfl
  | 31, _ => by kernel_rfl
  | j + 32, h => absurd h (by omega)
set_option maxRecDepth 20000 in
set_option maxHeartbeats 1000000 in
theorem rcode_in (n c : Int) (j : Nat) (hj : j < 32) (hn : n = 128 + j) (hc : Fact (Cd.getD j 0 = c)) (w : World) : Calls Tryd.prog 51 #[.int .i64 n] w fun e w' => e = .returned (.int .i32 c) ∧ w' = w := by
  have h1 : 0 < n := by omega
  have h2 : n ≤ 1114111 := by omega
  have h3 : n < 55296 := by omega
  have h4 : 128 ≤ n := by omega
  have h5 : n ≤ 159 := by omega
  have hr := cd_run w j hj
  have h6 : (j : Int) = n - 128 := by omega
  rw [hc.out, h6] at hr
  clear hn h6 hc
  go_enter Tryd.func51, Tryd.ntmps51
  go_wp2
  go_ret
  exact ⟨rfl, rfl⟩

set_option maxRecDepth 20000 in
set_option maxHeartbeats 1000000 in
theorem rcode_else (n : Int) (h : ¬ (n ≤ 0 ∨ 1114111 < n ∨ (55296 ≤ n ∧ n ≤ 57343))) (h' : ¬ (128 ≤ n ∧ n ≤ 159)) (w : World) : Calls Tryd.prog 51 #[.int .i64 n] w fun e w' => e = .returned (.int .i32 n) ∧ w' = w := by
  have h1 : 0 < n := by omega
  have h2 : n ≤ 1114111 := by omega
  have hw : IntKind.i32.wrap n = n := by simp [IntKind.wrap, IntKind.bits, IntKind.signed]; omega
  have hc : n < 128 ∨ (159 < n ∧ n < 55296) ∨ 57343 < n := by omega
  clear h h'
  rcases hc with hc | ⟨hc, hd⟩ | hc
  · have hd : n < 55296 := by omega
    go_enter Tryd.func51, Tryd.ntmps51
    go_wp2
    go_ret
    exact ⟨rfl, rfl⟩
  · go_enter Tryd.func51, Tryd.ntmps51
    go_wp2
    go_ret
    exact ⟨rfl, rfl⟩
  · have hd : 55296 ≤ n := by omega
    go_enter Tryd.func51, Tryd.ntmps51
    go_wp2
    go_ret
    exact ⟨rfl, rfl⟩
theorem rcode_at (n c : Int) (h0 : Fact (codeB n = c)) (w : World) : Calls Tryd.prog 51 #[.int .i64 n] w fun e w' => e = .returned (.int .i32 c) ∧ w' = w := by
  by_cases h : n ≤ 0 ∨ 1114111 < n ∨ (55296 ≤ n ∧ n ≤ 57343)
  · rw [← h0.out, code_no h]; exact rcode_none n h w
  by_cases h2 : 128 ≤ n ∧ n ≤ 159
  · obtain ⟨j, hj⟩ : ∃ j : Nat, n = 128 + j := ⟨(n - 128).toNat, by omega⟩
    exact rcode_in n c j (by omega) hj ⟨by rw [← h0.out, code_tab (j := j) (by omega) hj]⟩ w
  · rw [← h0.out, code_self h h2]; exact rcode_else n h h2 w
end Go.Proofs.YtdniddiaiinggaaDoor
