/- The document's own Sort, Is and In. -/
import Derived.Test.YtnioibpeagffdaaKD
import Derived.Test.YtnioibpeagffdaaKC
set_option linter.unusedVariables false
namespace Go.Proofs.Ytnioibpeagffdaa
open Go.RowKit Go.Shelf

set_option maxRecDepth 100000 in
set_option maxHeartbeats 4000000 in
theorem rSort1 (w : World) : Calls Try.prog 18 #[.int .i64 1] w fun e w' => ∃ a n, e = .returned (.slice a n n) ∧ Below w.heap.size w w' ∧ SS w'.heap.size w' (.slice a n n) (lits Q1) := by
  go_enter Try.func18, Try.ntmps18
  repeat (first | (refine wp_names Q1 14 6 (by with_reducible rfl) (by with_reducible rfl) rfl (by decide) ?hr ?_; (case hr => kernel_rfl); intro W1 hb hz hs) | go_values | go_skip | go_guarded | go_step | go_upon | go_back)
  go_ret
  exact ⟨_, _, rfl, hb.out, hs.out.mono (by rw [hz.out]; exact Nat.le_refl _)⟩
set_option maxRecDepth 100000 in
set_option maxHeartbeats 4000000 in
theorem rSort2 (w : World) : Calls Try.prog 18 #[.int .i64 2] w fun e w' => ∃ a n, e = .returned (.slice a n n) ∧ Below w.heap.size w w' ∧ SS w'.heap.size w' (.slice a n n) (lits Q2) := by
  go_enter Try.func18, Try.ntmps18
  repeat (first | (refine wp_names Q2 74 9 (by with_reducible rfl) (by with_reducible rfl) rfl (by decide) ?hr ?_; (case hr => kernel_rfl); intro W1 hb hz hs) | go_values | go_skip | go_guarded | go_step | go_upon | go_back)
  go_ret
  exact ⟨_, _, rfl, hb.out, hs.out.mono (by rw [hz.out]; exact Nat.le_refl _)⟩
set_option maxRecDepth 100000 in
set_option maxHeartbeats 4000000 in
theorem rSort3 (w : World) : Calls Try.prog 18 #[.int .i64 3] w fun e w' => ∃ a n, e = .returned (.slice a n n) ∧ Below w.heap.size w w' ∧ SS w'.heap.size w' (.slice a n n) (lits Q3) := by
  go_enter Try.func18, Try.ntmps18
  repeat (first | (refine wp_names Q3 14 12 (by with_reducible rfl) (by with_reducible rfl) rfl (by decide) ?hr ?_; (case hr => kernel_rfl); intro W1 hb hz hs) | go_values | go_skip | go_guarded | go_step | go_upon | go_back)
  go_ret
  exact ⟨_, _, rfl, hb.out, hs.out.mono (by rw [hz.out]; exact Nat.le_refl _)⟩
set_option maxRecDepth 100000 in
set_option maxHeartbeats 4000000 in
theorem rSort4 (w : World) : Calls Try.prog 18 #[.int .i64 4] w fun e w' => ∃ a n, e = .returned (.slice a n n) ∧ Below w.heap.size w w' ∧ SS w'.heap.size w' (.slice a n n) (lits Q4) := by
  go_enter Try.func18, Try.ntmps18
  repeat (first | (refine wp_names Q4 7 15 (by with_reducible rfl) (by with_reducible rfl) rfl (by decide) ?hr ?_; (case hr => kernel_rfl); intro W1 hb hz hs) | go_values | go_skip | go_guarded | go_step | go_upon | go_back)
  go_ret
  exact ⟨_, _, rfl, hb.out, hs.out.mono (by rw [hz.out]; exact Nat.le_refl _)⟩
set_option maxRecDepth 100000 in
set_option maxHeartbeats 4000000 in
theorem rSort5 (w : World) : Calls Try.prog 18 #[.int .i64 5] w fun e w' => ∃ a n, e = .returned (.slice a n n) ∧ Below w.heap.size w w' ∧ SS w'.heap.size w' (.slice a n n) (lits Q5) := by
  go_enter Try.func18, Try.ntmps18
  repeat (first | (refine wp_names Q5 6 18 (by with_reducible rfl) (by with_reducible rfl) rfl (by decide) ?hr ?_; (case hr => kernel_rfl); intro W1 hb hz hs) | go_values | go_skip | go_guarded | go_step | go_upon | go_back)
  go_ret
  exact ⟨_, _, rfl, hb.out, hs.out.mono (by rw [hz.out]; exact Nat.le_refl _)⟩
set_option maxRecDepth 100000 in
set_option maxHeartbeats 4000000 in
theorem rSort6 (w : World) : Calls Try.prog 18 #[.int .i64 6] w fun e w' => ∃ a n, e = .returned (.slice a n n) ∧ Below w.heap.size w w' ∧ SS w'.heap.size w' (.slice a n n) (lits Q6) := by
  go_enter Try.func18, Try.ntmps18
  repeat (first | (refine wp_names Q6 25 21 (by with_reducible rfl) (by with_reducible rfl) rfl (by decide) ?hr ?_; (case hr => kernel_rfl); intro W1 hb hz hs) | go_values | go_skip | go_guarded | go_step | go_upon | go_back)
  go_ret
  exact ⟨_, _, rfl, hb.out, hs.out.mono (by rw [hz.out]; exact Nat.le_refl _)⟩
set_option maxRecDepth 100000 in
set_option maxHeartbeats 4000000 in
theorem rSort7 (w : World) : Calls Try.prog 18 #[.int .i64 7] w fun e w' => ∃ a n, e = .returned (.slice a n n) ∧ Below w.heap.size w w' ∧ SS w'.heap.size w' (.slice a n n) (lits Q7) := by
  go_enter Try.func18, Try.ntmps18
  repeat (first | (refine wp_names Q7 3 24 (by with_reducible rfl) (by with_reducible rfl) rfl (by decide) ?hr ?_; (case hr => kernel_rfl); intro W1 hb hz hs) | go_values | go_skip | go_guarded | go_step | go_upon | go_back)
  go_ret
  exact ⟨_, _, rfl, hb.out, hs.out.mono (by rw [hz.out]; exact Nat.le_refl _)⟩
set_option maxRecDepth 100000 in
set_option maxHeartbeats 4000000 in
theorem rSort8 (w : World) : Calls Try.prog 18 #[.int .i64 8] w fun e w' => ∃ a n, e = .returned (.slice a n n) ∧ Below w.heap.size w w' ∧ SS w'.heap.size w' (.slice a n n) (lits Q8) := by
  go_enter Try.func18, Try.ntmps18
  repeat (first | (refine wp_names Q8 7 27 (by with_reducible rfl) (by with_reducible rfl) rfl (by decide) ?hr ?_; (case hr => kernel_rfl); intro W1 hb hz hs) | go_values | go_skip | go_guarded | go_step | go_upon | go_back)
  go_ret
  exact ⟨_, _, rfl, hb.out, hs.out.mono (by rw [hz.out]; exact Nat.le_refl _)⟩
set_option maxRecDepth 100000 in
set_option maxHeartbeats 4000000 in
theorem rSortNo (k : Int) (h : ¬ (0 < k ∧ k < 9)) (w : World) : Calls Try.prog 18 #[.int .i64 k] w fun e w' => e = .returned (.slice none 0 0) ∧ w' = w := by
  have h1 : (k == 1) = false := beq_eq_false_iff_ne.2 (by omega)
  have h2 : (k == 2) = false := beq_eq_false_iff_ne.2 (by omega)
  have h3 : (k == 3) = false := beq_eq_false_iff_ne.2 (by omega)
  have h4 : (k == 4) = false := beq_eq_false_iff_ne.2 (by omega)
  have h5 : (k == 5) = false := beq_eq_false_iff_ne.2 (by omega)
  have h6 : (k == 6) = false := beq_eq_false_iff_ne.2 (by omega)
  have h7 : (k == 7) = false := beq_eq_false_iff_ne.2 (by omega)
  have h8 : (k == 8) = false := beq_eq_false_iff_ne.2 (by omega)
  clear h
  go_enter Try.func18, Try.ntmps18
  go_wp2
  go_ret
  exact ⟨rfl, rfl⟩
theorem ss_nil (n : Nat) (w : World) : SS n w (.slice none 0 0) [] := ⟨none, 0, 0, 0, rfl, Nat.le_refl _, by unfold maxLen; omega, fun i hi => by simp at hi⟩
theorem sort_none (k : Int) (h : ¬ (0 < k ∧ k < 9)) : sortL k.toNat = [] := by
  by_cases h0 : 0 < k
  · obtain ⟨m, hm⟩ : ∃ m, k.toNat = m + 9 := ⟨k.toNat - 9, by omega⟩
    rw [hm]; rfl
  · rw [show k.toNat = 0 by omega]; rfl
theorem rSort_any (k : Int) (w : World) : Calls Try.prog 18 #[.int .i64 k] w fun e w' => ∃ a n, e = .returned (.slice a n n) ∧ Below w.heap.size w w' ∧ SS w'.heap.size w' (.slice a n n) (lits (sortL k.toNat)) := by
  by_cases h : 0 < k ∧ k < 9
  · obtain rfl | rfl | rfl | rfl | rfl | rfl | rfl | rfl : k = 1 ∨ k = 2 ∨ k = 3 ∨ k = 4 ∨ k = 5 ∨ k = 6 ∨ k = 7 ∨ k = 8 := by omega
    · exact rSort1 w
    · exact rSort2 w
    · exact rSort3 w
    · exact rSort4 w
    · exact rSort5 w
    · exact rSort6 w
    · exact rSort7 w
    · exact rSort8 w
  · refine (rSortNo k h w).mono ?_
    rintro e w' ⟨rfl, rfl⟩
    rw [sort_none k h]
    exact ⟨_, _, rfl, Below.refl _ _, ss_nil _ _⟩

set_option maxRecDepth 20000 in
set_option maxHeartbeats 1000000 in
theorem rIs_any (x : ByteArray) (k : Int) (w : World) (B : Bool) (hV : Fact (isB x k = B)) :
    Calls Try.prog 11 #[.string x, .int .i64 k] w fun e w' => e = .returned (.bool B) ∧ Below w.heap.size w w' := by
  have hs := rSort_any k w
  go_enter Try.func11, Try.ntmps11
  go_wp2_with (first | (go_at_call 18; refine hs.mono ?_; rintro e w1 ⟨a, n, rfl, hb, hs1⟩; have HB := Fact.mk hb; have HS := Fact.mk hs1; clear hb hs1 hs) | (go_at_call 21; refine (rHas_any _ _ _ _ HS.out x B hV).mono ?_; rintro e w2 ⟨rfl, rfl⟩))
  go_ret
  exact ⟨rfl, HB.out⟩

set_option maxRecDepth 20000 in
set_option maxHeartbeats 1000000 in
theorem rIn_any (l : List ByteArray) (v : Value) (x : ByteArray) (k : Int) (n : Nat) (w : World) (hS : SS n w v l) (B : Bool) (hV : Fact (inK l x k l.length = B)) :
    Calls Try.prog 13 #[v, .string x, .int .i64 k] w fun e w' => e = .returned (.bool B) ∧ w' = w := by
  obtain ⟨a, cap, b, o, rfl, hc1, hm1, h1⟩ := hS
  have H1 := Fact.mk h1
  obtain ⟨al, hal⟩ : ∃ al, l.length = al := ⟨_, rfl⟩
  rw [hal] at H1 hc1 hV ⊢
  clear h1 hal
  unfold maxLen at hm1
  go_enter Try.func13, Try.ntmps13
  go_wp2_with fail
  go_loop [7] (fun i => ∃ j : Nat, j ≤ al ∧ i = .int .i64 ((j : Int) - 1) ∧ Fact (inK l x k j = B)) (fun i => ((intOf i) + 1).toNat)
  case atStart => exact ⟨al, Nat.le_refl _, by go_num, hV⟩
  case round =>
    obtain ⟨j, hj, rfl, hf⟩ := hrel
    cases j with
    | zero =>
      have hf2 := hf.out
      unfold inK at hf2
      subst hf2
      clear hf hV H1
      go_wp2_with fail
      go_ret
      exact ⟨rfl, rfl⟩
    | succ j =>
      obtain ⟨ea, _, y0⟩ := H1.out j (by omega)
      subst ea
      have hf2 := hf.out
      unfold inK at hf2
      obtain ⟨Y, hY⟩ : ∃ Y, tx l j = Y := ⟨_, rfl⟩
      rw [hY] at hf2 y0
      have e1 : ((j + 1 : Nat) : Int) - 1 = (j : Int) := by omega
      rw [e1]
      have hjl : (j : Int) < al := by omega
      clear hY hf hV H1
      cases h1 : (Y.toList == x.toList)
      · rw [h1, if_neg (by simp)] at hf2
        cases h2 : brd Y.toList k
        · rw [h2, if_neg (by simp)] at hf2
          have HF := Fact.mk hf2
          have H2 := Fact.mk h2
          clear hf2 h2
          go_wp2_with (go_at_call 24; refine (rBorder_at _ _ false H2 _).mono ?_; rintro e w2 ⟨rfl, rfl⟩)
          go_round
          case rel => exact ⟨j, by omega, by go_num, HF⟩
          case measure => simp [intOf]
        · rw [h2, if_pos rfl] at hf2
          subst hf2
          have H2 := Fact.mk h2
          clear h2
          go_wp2_with (go_at_call 24; refine (rBorder_at _ _ true H2 _).mono ?_; rintro e w2 ⟨rfl, rfl⟩)
          go_ret
          exact ⟨rfl, rfl⟩
      · rw [h1, if_pos rfl] at hf2
        subst hf2
        go_wp2_with fail
        go_ret
        exact ⟨rfl, rfl⟩
end Go.Proofs.Ytnioibpeagffdaa
