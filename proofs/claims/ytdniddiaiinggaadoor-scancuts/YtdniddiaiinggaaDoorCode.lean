/- Code, the document's own Code; the document's examples. -/
import Derived.Test.YtdniddiaiinggaaDoorAmong
namespace Go.Proofs.YtdniddiaiinggaaDoor
open Go.RowKit M

/-- the rune of a number -/
def codeB (n : Int) : Int := if n ≤ 0 ∨ 1114111 < n ∨ (55296 ≤ n ∧ n ≤ 57343) then 65533 else if 128 ≤ n ∧ n ≤ 159 then Cd.getD (n - 128).toNat 0 else n
/-- the codes as they lie in memory -/
structure Laid (w : World) : Prop where
  cells : ∀ i, i < 32 → w.cell? ⟨1, i, none⟩ = some (.int .i32 (Cd.getD i 0))
  pos : 1 < w.heap.size
theorem Laid.below {w w' : World} (h : Laid w) {B : Nat} (hB : 1 < B) (hb : Below B w w') : Laid w' :=
  ⟨fun i hi => by rw [hb.cell hB]; exact h.cells i hi, Nat.lt_of_lt_of_le h.pos hb.size⟩

theorem code_no {n : Int} (h : n ≤ 0 ∨ 1114111 < n ∨ (55296 ≤ n ∧ n ≤ 57343)) : codeB n = 65533 := by unfold codeB; rw [if_pos h]
theorem code_tab {n : Int} {j : Nat} (hj : j < 32) (h : n = 128 + j) : codeB n = Cd.getD j 0 := by
  unfold codeB
  rw [if_neg (by omega), if_pos (by omega)]
  congr 1
  omega
theorem code_self {n : Int} (h : ¬ (n ≤ 0 ∨ 1114111 < n ∨ (55296 ≤ n ∧ n ≤ 57343))) (h2 : ¬ (128 ≤ n ∧ n ≤ 159)) : codeB n = n := by unfold codeB; rw [if_neg h, if_neg h2]

set_option maxRecDepth 20000 in
set_option maxHeartbeats 1000000 in
theorem code_none (n : Int) (h : n ≤ 0 ∨ 1114111 < n ∨ (55296 ≤ n ∧ n ≤ 57343)) (w : World) : Calls Tryd.prog 87 #[.int .i64 n] w fun e w' => e = .returned (.int .i32 65533) ∧ w' = w := by
  by_cases h1 : n ≤ 0
  · clear h
    go_enter Tryd.func87, Tryd.ntmps87
    go_wp2
    go_ret
    exact ⟨rfl, rfl⟩
  by_cases h2 : 1114111 < n
  · clear h
    go_enter Tryd.func87, Tryd.ntmps87
    go_wp2
    go_ret
    exact ⟨rfl, rfl⟩
  have h3 : 55296 ≤ n := by omega
  have h4 : n ≤ 57343 := by omega
  clear h
  go_enter Tryd.func87, Tryd.ntmps87
  go_wp2
  go_ret
  exact ⟨rfl, rfl⟩

set_option maxRecDepth 20000 in
set_option maxHeartbeats 1000000 in
theorem code_in (n c : Int) (j : Nat) (hj : j < 32) (hn : n = 128 + j) (w : World) (hc : w.cell? ⟨1, j, none⟩ = some (.int .i32 c)) : Calls Tryd.prog 87 #[.int .i64 n] w fun e w' => e = .returned (.int .i32 c) ∧ w' = w := by
  have h1 : 0 < n := by omega
  have h2 : n ≤ 1114111 := by omega
  have h3 : n < 55296 := by omega
  have h4 : 128 ≤ n := by omega
  have h5 : n < 160 := by omega
  have h6 : (n - 128).toNat = j := by omega
  rw [← h6] at hc
  clear hn h6
  go_enter Tryd.func87, Tryd.ntmps87
  go_wp2
  go_ret
  exact ⟨rfl, rfl⟩

set_option maxRecDepth 20000 in
set_option maxHeartbeats 1000000 in
theorem code_else (n : Int) (h : ¬ (n ≤ 0 ∨ 1114111 < n ∨ (55296 ≤ n ∧ n ≤ 57343))) (h' : ¬ (128 ≤ n ∧ n ≤ 159)) (w : World) : Calls Tryd.prog 87 #[.int .i64 n] w fun e w' => e = .returned (.int .i32 n) ∧ w' = w := by
  have h1 : 0 < n := by omega
  have h2 : n ≤ 1114111 := by omega
  have hw : IntKind.i32.wrap n = n := by simp [IntKind.wrap, IntKind.bits, IntKind.signed]; omega
  have hc : n < 128 ∨ (160 ≤ n ∧ n < 55296) ∨ 57343 < n := by omega
  clear h h'
  rcases hc with hc | ⟨hc, hd⟩ | hc
  · have hd : n < 55296 := by omega
    go_enter Tryd.func87, Tryd.ntmps87
    go_wp2
    go_ret
    exact ⟨rfl, rfl⟩
  · go_enter Tryd.func87, Tryd.ntmps87
    go_wp2
    go_ret
    exact ⟨rfl, rfl⟩
  · have hd : 55296 ≤ n := by omega
    go_enter Tryd.func87, Tryd.ntmps87
    go_wp2
    go_ret
    exact ⟨rfl, rfl⟩
theorem code_any (n : Int) (w : World) (hl : Laid w) : Calls Tryd.prog 87 #[.int .i64 n] w fun e w' => e = .returned (.int .i32 (codeB n)) ∧ w' = w := by
  by_cases h : n ≤ 0 ∨ 1114111 < n ∨ (55296 ≤ n ∧ n ≤ 57343)
  · rw [code_no h]; exact code_none n h w
  by_cases h2 : 128 ≤ n ∧ n ≤ 159
  · obtain ⟨j, hj⟩ : ∃ j : Nat, n = 128 + j := ⟨(n - 128).toNat, by omega⟩
    rw [code_tab (j := j) (by omega) hj]
    exact code_in n _ j (by omega) hj w (hl.cells j (by omega))
  · rw [code_self h h2]; exact code_else n h h2 w
theorem code_at (n c : Int) (h : Fact (codeB n = c)) (w : World) (hl : Laid w) : Calls Tryd.prog 87 #[.int .i64 n] w fun e w' => e = .returned (.int .i32 c) ∧ w' = w := by
  have := code_any n w hl
  rw [h.out] at this
  exact this
theorem longest_ex1 (w : World) : Calls Tryd.prog 88 #[.string ⟨#[110, 111, 116, 105, 116, 59]⟩, .int .i64 0] w fun e w' => e = .returned (.tuple #[.int .i64 3, .string ⟨#[194, 172]⟩]) ∧ Below w.heap.size w w' :=
  longest_any ⟨#[110, 111, 116, 105, 116, 59]⟩ ⟨#[194, 172]⟩ 0 3 ⟨by decide⟩ (by decide) ⟨ex_notit⟩ w
theorem ex_notin2 : ∃ E : ByteArray, longB [110, 111, 116, 105, 110, 59] 0 = (6, E.data.toList) := ⟨⟨(longB [110, 111, 116, 105, 110, 59] 0).2.toArray⟩, Prod.ext ex_notin rfl⟩
theorem longest_ex2 (w : World) : ∃ E, Calls Tryd.prog 88 #[.string ⟨#[110, 111, 116, 105, 110, 59]⟩, .int .i64 0] w fun e w' => e = .returned (.tuple #[.int .i64 6, .string E]) ∧ Below w.heap.size w w' := by
  obtain ⟨E, hE⟩ := ex_notin2
  exact ⟨E, longest_any ⟨#[110, 111, 116, 105, 110, 59]⟩ E 0 6 ⟨by decide⟩ (by decide) ⟨hE⟩ w⟩
end Go.Proofs.YtdniddiaiinggaaDoor
