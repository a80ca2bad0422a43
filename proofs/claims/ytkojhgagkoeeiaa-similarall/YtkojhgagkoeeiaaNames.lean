/- What Name answers: from 1 to 32 bytes, none of those that may not be. -/
import Derived.Test.YtkojhgagkoeeiaaMem
import Derived.WalkKit
import Derived.Deep.LoopGhost
import Derived.Deep.QuietTactic
import Derived.BigQuiet
import Derived.Handy
import Derived.Lib.Strings
import Derived.Laws.Cover1
set_option linter.unusedVariables false
namespace Go.Proofs.Ytkojhgagkoeeiaa
open Go.RowKit M

structure Fact (p : Prop) : Prop where
  out : p
theorem ret_bool {a b : Bool} (h : a = b) : Ending.returned (.bool a) = .returned (.bool b) := by rw [h]
theorem ret_int {k : IntKind} {a b : Int} (h : a = b) : Ending.returned (.int k a) = .returned (.int k b) := by rw [h]

/-- a byte that may stand in a name -/
def nbOK (c : Nat) : Bool := !decide (c = 9 ∨ c = 10 ∨ c = 12 ∨ c = 32 ∨ c = 0 ∨ c = 34 ∨ c = 39 ∨ c = 62 ∨ c = 47 ∨ c = 61 ∨ c = 60 ∨ (65 ≤ c ∧ c ≤ 90))
def nOK (l : List UInt8) : Bool := l.all (fun b => nbOK b.toNat)
def nameOK (s : ByteArray) : Bool := decide (1 ≤ s.size) && decide (s.size ≤ 32) && nOK s.data.toList
def zOK (l : List Nat) : Bool := l.all (fun z => z == 0)

set_option maxHeartbeats 1000000 in
theorem nameByte_any (c : Nat) (w : World) : Calls Try.prog 70 #[.int .u8 c] w fun e w' => e = .returned (.bool (nbOK c)) ∧ w' = w := by
  go_enter Try.func70, Try.ntmps70
  go_wp2
  all_goals (go_ret; refine ⟨ret_bool ?_, rfl⟩; simp only [beq_iff_eq, beq_eq_false_iff_ne, ne_eq] at *; unfold nbOK; rw [Bool.eq_iff_iff]; simp; omega)

theorem nameByte_at (c : Nat) (b : Bool) (h : Fact (nbOK c = b)) (w : World) : Calls Try.prog 70 #[.int .u8 c] w fun e w' => e = .returned (.bool b) ∧ w' = w := by
  rw [← h.out]; exact nameByte_any c w

theorem all_take (s : ByteArray) (k : Nat) (h : k < s.size) (p : UInt8 → Bool) : (s.data.toList.take (k + 1)).all p = ((s.data.toList.take k).all p && p s[k]) := by
  rw [List.take_succ_eq_append_getElem (by simpa using h), List.all_append]
  simp
  rfl

set_option maxRecDepth 20000 in
set_option maxHeartbeats 1000000 in
theorem name_any (s : ByteArray) (w : World) : Calls Try.prog 60 #[.string s] w fun e w' => e = .returned (.bool (nameOK s)) ∧ w' = w := by
  by_cases h1 : s.size < 1
  · go_enter Try.func60, Try.ntmps60
    go_wp2
    all_goals (go_ret; exact ⟨ret_bool (by unfold nameOK; rw [decide_eq_false (by omega)]; rfl), rfl⟩)
  by_cases h2 : 32 < s.size
  · go_enter Try.func60, Try.ntmps60
    go_wp2
    all_goals (go_ret; exact ⟨ret_bool (by unfold nameOK; rw [decide_eq_true (p := 1 ≤ s.size) (by omega), decide_eq_false (by omega)]; rfl), rfl⟩)
  have e0 : nameOK s = nOK s.data.toList := by
    unfold nameOK; rw [decide_eq_true (p := 1 ≤ s.size) (by omega), decide_eq_true (p := s.size ≤ 32) (by omega)]; rfl
  rw [e0]
  have h3 : 1 ≤ s.size := by omega
  have h4 : s.size ≤ 32 := by omega
  clear h1 h2 e0
  go_enter Try.func60, Try.ntmps60
  go_wp2
  go_loop [14] (fun i => ∃ k : Nat, k ≤ s.size ∧ i = .int .i64 k ∧ Fact (nOK (s.data.toList.take k) = true)) (fun i => s.size - (intOf i).toNat)
  case atStart => exact ⟨0, Nat.zero_le _, rfl, ⟨rfl⟩⟩
  case round =>
    obtain ⟨k, hk, rfl, hf⟩ := hrel
    by_cases hlt : k < s.size
    · have ht : nOK (s.data.toList.take (k + 1)) = (nOK (s.data.toList.take k) && nbOK s[k].toNat) := all_take s k hlt (fun b => nbOK b.toNat)
      cases hb : nbOK s[k].toNat
      · have HB : Fact (nbOK s[k].toNat = false) := ⟨hb⟩
        rw [hf.out, hb] at ht
        have HT := Fact.mk ht
        clear ht hb
        go_wp2_with (go_at_call 70; refine (nameByte_at _ false HB _).mono ?_; rintro e w1 ⟨rfl, rfl⟩)
        go_ret
        refine ⟨ret_bool ?_, rfl⟩
        cases hA : nOK s.data.toList
        · rfl
        · exfalso
          have := List.all_eq_true.1 hA
          have h5 : nOK (s.data.toList.take (k + 1)) = true := List.all_eq_true.2 fun x hx => this x (List.mem_of_mem_take hx)
          rw [HT.out] at h5
          cases h5
      · have HB : Fact (nbOK s[k].toNat = true) := ⟨hb⟩
        rw [hf.out, hb] at ht
        have HT := Fact.mk ht
        clear ht hb hf
        go_wp2_with (go_at_call 70; refine (nameByte_at _ true HB _).mono ?_; rintro e w1 ⟨rfl, rfl⟩)
        go_round
        case rel => exact ⟨k + 1, by omega, by go_num, HT⟩
        case measure => simp [intOf]; omega
    · have hA : Fact (nOK s.data.toList = true) := ⟨by
        have := hf.out
        rwa [List.take_of_length_le (by simp; omega)] at this⟩
      clear hf
      go_wp2
      go_ret
      exact ⟨ret_bool (by rw [hA.out]), rfl⟩
theorem name_at (s : ByteArray) (b : Bool) (h : Fact (nameOK s = b)) (w : World) : Calls Try.prog 60 #[.string s] w fun e w' => e = .returned (.bool b) ∧ w' = w := by
  rw [← h.out]; exact name_any s w

/-- nothing but zeros -/
theorem none_any (x : Addr) (n c : Nat) (zs : List Nat) (w : World) (hn : zs.length = n) (hb : n ≤ 100) (hc : ∀ i (h : i < zs.length), w.cell? (x.add i) = some (.int .i64 (zs[i] : Nat))) :
    Calls Try.prog 59 #[.slice (some x) n c] w fun e w' => e = .returned (.bool (zOK zs)) ∧ w' = w := by
  have HC := Fact.mk hc
  clear hc
  go_enter Try.func59, Try.ntmps59
  go_wp2
  go_loop [7] (fun i => ∃ k : Nat, k ≤ n ∧ i = .int .i64 k ∧ Fact (zOK (zs.take k) = true)) (fun i => n - (intOf i).toNat)
  case atStart => exact ⟨0, Nat.zero_le _, rfl, ⟨rfl⟩⟩
  case round =>
    obtain ⟨k, hk, rfl, hf⟩ := hrel
    by_cases hlt : k < n
    · have hck := HC.out k (by omega)
      have ht : zOK (zs.take (k + 1)) = (zs[k] == 0) := by
        rw [List.take_succ_eq_append_getElem (by omega), zOK, List.all_append, show (zs.take k).all (fun z => z == 0) = true from hf.out]
        simp
      obtain ⟨z, hz⟩ : ∃ z, zs[k] = z := ⟨_, rfl⟩
      rw [hz] at hck ht
      by_cases h0 : z = 0
      · subst h0
        have HT := Fact.mk ht
        clear ht hf hz HC
        go_wp2
        go_round
        case rel => exact ⟨k + 1, by omega, by go_num, HT⟩
        case measure => simp [intOf]; omega
      · have hz0 : (z == 0) = false := by simp [h0]
        have hzI : ((z : Int) != 0) = true := by simp; omega
        have hzJ : ¬ (z : Int) = 0 := by omega
        have HT := Fact.mk (ht.trans hz0)
        clear ht hf hz HC hz0
        go_wp2
        go_ret
        refine ⟨ret_bool ?_, rfl⟩
        cases hA : zOK zs
        · rfl
        · exfalso
          have := List.all_eq_true.1 hA
          have h5 : zOK (zs.take (k + 1)) = true := List.all_eq_true.2 fun x hx => this x (List.mem_of_mem_take hx)
          rw [HT.out] at h5
          cases h5
    · have hA : Fact (zOK zs = true) := ⟨by
        have := hf.out
        rwa [List.take_of_length_le (by omega)] at this⟩
      clear hf HC
      go_wp2
      go_ret
      exact ⟨ret_bool (by rw [hA.out]), rfl⟩
end Go.Proofs.Ytkojhgagkoeeiaa
