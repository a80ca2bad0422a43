/- The chapter's own Blank, Name, Attr and sign; tree.Attr. -/
import Derived.Test.YtkojhgagkoeeiaaCmpA
set_option linter.unusedVariables false
namespace Go.Proofs.Ytkojhgagkoeeiaa
open Go.Deep (BT)
open Go.RowKit M

theorem sign_any (a b : Bool) (w : World) : Calls Try.prog 57 #[.bool a, .bool b] w fun e w' => e = .returned (.int .i64 (if a then -1 else if b then 1 else 0)) ∧ w' = w := by
  cases a <;> cases b <;>
  · go_enter Try.func57, Try.ntmps57
    go_wp2
    go_ret
    exact ⟨rfl, rfl⟩

def bk (c : Nat) : Bool := decide (c = 9 ∨ c = 10 ∨ c = 12 ∨ c = 32)
set_option maxHeartbeats 1000000 in
theorem blank_any (c : Nat) (w : World) : Calls Try.prog 80 #[.int .u8 c] w fun e w' => e = .returned (.bool (bk c)) ∧ w' = w := by
  go_enter Try.func80, Try.ntmps80
  go_wp2
  all_goals (go_ret; refine ⟨ret_bool ?_, rfl⟩; (try simp only [beq_iff_eq, beq_eq_false_iff_ne, ne_eq] at *); unfold bk; rw [Bool.eq_iff_iff]; simp; omega)
theorem blank_at (c : Nat) (b : Bool) (h : Fact (bk c = b)) (w : World) : Calls Try.prog 80 #[.int .u8 c] w fun e w' => e = .returned (.bool b) ∧ w' = w := by
  rw [← h.out]; exact blank_any c w

set_option maxRecDepth 20000 in
set_option maxHeartbeats 2000000 in
theorem rname_any (s : ByteArray) (w : World) : Calls Try.prog 68 #[.string s] w fun e w' => e = .returned (.bool (nameOK s)) ∧ w' = w := by
  by_cases h1 : s.size < 1
  · go_enter Try.func68, Try.ntmps68
    go_wp2
    all_goals (go_ret; exact ⟨ret_bool (by unfold nameOK; rw [decide_eq_false (by omega)]; rfl), rfl⟩)
  by_cases h2 : 32 < s.size
  · go_enter Try.func68, Try.ntmps68
    go_wp2
    all_goals (go_ret; exact ⟨ret_bool (by unfold nameOK; rw [decide_eq_true (p := 1 ≤ s.size) (by omega), decide_eq_false (by omega)]; rfl), rfl⟩)
  have e0 : nameOK s = nOK s.data.toList := by
    unfold nameOK; rw [decide_eq_true (p := 1 ≤ s.size) (by omega), decide_eq_true (p := s.size ≤ 32) (by omega)]; rfl
  rw [e0]
  have h3 : 1 ≤ s.size := by omega
  have h4 : s.size ≤ 32 := by omega
  clear h1 h2 e0
  have hbad : Fact (∀ k (h : k < s.size), nbOK s[k].toNat = false → nOK s.data.toList = false) := ⟨fun k hlt hb => by
    cases hA : nOK s.data.toList
    · rfl
    · exfalso
      have ht : nOK (s.data.toList.take (k + 1)) = (nOK (s.data.toList.take k) && nbOK s[k].toNat) := all_take s k hlt (fun b => nbOK b.toNat)
      have := List.all_eq_true.1 hA
      have h5 : nOK (s.data.toList.take (k + 1)) = true := List.all_eq_true.2 fun x hx => this x (List.mem_of_mem_take hx)
      rw [ht, hb, Bool.and_false] at h5
      cases h5⟩
  go_enter Try.func68, Try.ntmps68
  go_wp2
  go_loop [3] (fun i => ∃ k : Nat, k ≤ s.size ∧ i = .int .i64 k ∧ Fact (nOK (s.data.toList.take k) = true)) (fun i => s.size - (intOf i).toNat)
  case atStart => exact ⟨0, Nat.zero_le _, rfl, ⟨rfl⟩⟩
  case round =>
    obtain ⟨k, hk, rfl, hf⟩ := hrel
    by_cases hlt : k < s.size
    · have ht : nOK (s.data.toList.take (k + 1)) = (nOK (s.data.toList.take k) && nbOK s[k].toNat) := all_take s k hlt (fun b => nbOK b.toNat)
      have hno := hbad.out k hlt
      obtain ⟨c, hc⟩ : ∃ c, s[k].toNat = c := ⟨_, rfl⟩
      rw [hc] at ht hno
      have hcase : (c = 9 ∨ c = 10 ∨ c = 12 ∨ c = 32 ∨ c = 0 ∨ c = 34 ∨ c = 39 ∨ c = 62 ∨ c = 47 ∨ c = 61 ∨ c = 60) ∨ (65 ≤ c ∧ c ≤ 90) ∨ ((nbOK c = true ∧ bk c = false ∧ c ≠ 0 ∧ c ≠ 34 ∧ c ≠ 39 ∧ c ≠ 62 ∧ c ≠ 47 ∧ c ≠ 61 ∧ c ≠ 60) ∧ (c < 65 ∨ 90 < c)) := by
        unfold nbOK bk; simp; omega
      rcases hcase with h | h | ⟨⟨hn, hb, n0, n34, n39, n62, n47, n61, n60⟩, h⟩
      · rcases h with rfl | rfl | rfl | rfl | rfl | rfl | rfl | rfl | rfl | rfl | rfl
        all_goals
          have HNO := Fact.mk (hno rfl)
          clear hno ht hf hbad
          go_wp2_with (go_at_call 80; first | (refine (blank_at _ true ⟨rfl⟩ _).mono ?_; rintro e w1 ⟨rfl, rfl⟩) | (refine (blank_at _ false ⟨rfl⟩ _).mono ?_; rintro e w1 ⟨rfl, rfl⟩))
          go_ret
          exact ⟨ret_bool (by rw [HNO.out]), rfl⟩
      · obtain ⟨g1, g2⟩ := h
        have HNO := Fact.mk (hno (by unfold nbOK; simp; omega))
        have hb : Fact (bk c = false) := ⟨by unfold bk; simp; omega⟩
        have q0 : ((c : Int) == 0) = false := by simp; omega
        have q34 : ((c : Int) == 34) = false := by simp; omega
        have q39 : ((c : Int) == 39) = false := by simp; omega
        have q62 : ((c : Int) == 62) = false := by simp; omega
        have q47 : ((c : Int) == 47) = false := by simp; omega
        have q61 : ((c : Int) == 61) = false := by simp; omega
        have q60 : ((c : Int) == 60) = false := by simp; omega
        have r1 : (65 : Int) ≤ c := by omega
        have r2 : (c : Int) ≤ 90 := by omega
        clear hno ht hf hbad
        go_wp2_with (go_at_call 80; refine (blank_at _ false hb _).mono ?_; rintro e w1 ⟨rfl, rfl⟩)
        go_ret
        exact ⟨ret_bool (by rw [HNO.out]), rfl⟩
      · have hb : Fact (bk c = false) := ⟨hb⟩
        rw [hf.out, hn] at ht
        have HT := Fact.mk ht
        have q0 : ((c : Int) == 0) = false := by simp; omega
        have q34 : ((c : Int) == 34) = false := by simp; omega
        have q39 : ((c : Int) == 39) = false := by simp; omega
        have q62 : ((c : Int) == 62) = false := by simp; omega
        have q47 : ((c : Int) == 47) = false := by simp; omega
        have q61 : ((c : Int) == 61) = false := by simp; omega
        have q60 : ((c : Int) == 60) = false := by simp; omega
        clear hno ht hf hbad
        rcases h with h | h
        · have r1 : ¬ (65 : Int) ≤ c := by omega
          go_wp2_with (go_at_call 80; refine (blank_at _ false hb _).mono ?_; rintro e w1 ⟨rfl, rfl⟩)
          go_round
          case rel => exact ⟨k + 1, by omega, by go_num, HT⟩
          case measure => simp [intOf]; omega
        · have r1 : (65 : Int) ≤ c := by omega
          have r2 : ¬ (c : Int) ≤ 90 := by omega
          go_wp2_with (go_at_call 80; refine (blank_at _ false hb _).mono ?_; rintro e w1 ⟨rfl, rfl⟩)
          go_round
          case rel => exact ⟨k + 1, by omega, by go_num, HT⟩
          case measure => simp [intOf]; omega
    · have hA : Fact (nOK s.data.toList = true) := ⟨by
        have := hf.out
        rwa [List.take_of_length_le (by simp; omega)] at this⟩
      clear hf hbad
      go_wp2
      go_ret
      exact ⟨ret_bool (by rw [hA.out]), rfl⟩
end Go.Proofs.Ytkojhgagkoeeiaa
