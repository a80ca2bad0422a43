/- Is of a sort that is none. -/
import Derived.Test.YtnioibpeagffdaaKD
set_option linter.unusedVariables false
namespace Go.Proofs.Ytnioibpeagffdaa
open Go.RowKit Go.Shelf

set_option maxRecDepth 100000 in
set_option maxHeartbeats 4000000 in
theorem is_out (x : ByteArray) (k : Int) (h : ¬ (0 < k ∧ k < 9)) (w : World) :
    Calls Try.prog 10 #[.string x, .int .i64 k] w fun e w' => e = .returned (.bool false) ∧ Below w.heap.size w w' := by
  have hor : (decide (0 < k) = false ∧ ¬ 0 < k) ∨ (decide (0 < k) = true ∧ 0 < k ∧ decide (k < 9) = false ∧ ¬ k < 9) := by
    by_cases h0 : 0 < k
    · exact .inr ⟨decide_eq_true h0, h0, decide_eq_false (fun h9 => h ⟨h0, h9⟩), fun h9 => h ⟨h0, h9⟩⟩
    · exact .inl ⟨decide_eq_false h0, h0⟩
  clear h
  rcases hor with ⟨i1, i2⟩ | ⟨i1, i2, i3, i4⟩
  · go_enter Try.func10, Try.ntmps10
    repeat (first | (refine wp_names Q1 14 6 (by with_reducible rfl) (by with_reducible rfl) rfl (by decide) ?hr1 ?_; (case hr1 => kernel_rfl); intro W1 hb1 hz1 hs1) | (refine wp_names Q2 74 7 (by with_reducible rfl) (by with_reducible rfl) rfl (by decide) ?hr2 ?_; (case hr2 => kernel_rfl); intro W2 hb2 hz2 hs2) | (refine wp_names Q3 14 8 (by with_reducible rfl) (by with_reducible rfl) rfl (by decide) ?hr3 ?_; (case hr3 => kernel_rfl); intro W3 hb3 hz3 hs3) | (refine wp_names Q4 7 9 (by with_reducible rfl) (by with_reducible rfl) rfl (by decide) ?hr4 ?_; (case hr4 => kernel_rfl); intro W4 hb4 hz4 hs4) | (refine wp_names Q5 6 10 (by with_reducible rfl) (by with_reducible rfl) rfl (by decide) ?hr5 ?_; (case hr5 => kernel_rfl); intro W5 hb5 hz5 hs5) | (refine wp_names Q6 25 11 (by with_reducible rfl) (by with_reducible rfl) rfl (by decide) ?hr6 ?_; (case hr6 => kernel_rfl); intro W6 hb6 hz6 hs6) | (refine wp_names Q7 3 12 (by with_reducible rfl) (by with_reducible rfl) rfl (by decide) ?hr7 ?_; (case hr7 => kernel_rfl); intro W7 hb7 hz7 hs7) | (refine wp_names Q8 7 13 (by with_reducible rfl) (by with_reducible rfl) rfl (by decide) ?hr8 ?_; (case hr8 => kernel_rfl); intro W8 hb8 hz8 hs8; obtain ⟨ta, tn, _, _, hbel⟩ := tab_any hb1 hz1 hs1 hb2 hz2 hs2 hb3 hz3 hs3 hb4 hz4 hs4 hb5 hz5 hs5 hb6 hz6 hs6 hb7 hz7 hs7 hb8 hz8 hs8 1 (by omega) (by omega); have HB := Fact.mk hbel; clear hbel hb1 hz1 hs1 hb2 hz2 hs2 hb3 hz3 hs3 hb4 hz4 hs4 hb5 hz5 hs5 hb6 hz6 hs6 hb7 hz7 hs7 hb8 hz8 hs8) | go_values | go_skip | go_guarded | go_step | go_upon | go_back)
    go_ret
    exact ⟨rfl, HB.out⟩
  · go_enter Try.func10, Try.ntmps10
    repeat (first | (refine wp_names Q1 14 6 (by with_reducible rfl) (by with_reducible rfl) rfl (by decide) ?hr1 ?_; (case hr1 => kernel_rfl); intro W1 hb1 hz1 hs1) | (refine wp_names Q2 74 7 (by with_reducible rfl) (by with_reducible rfl) rfl (by decide) ?hr2 ?_; (case hr2 => kernel_rfl); intro W2 hb2 hz2 hs2) | (refine wp_names Q3 14 8 (by with_reducible rfl) (by with_reducible rfl) rfl (by decide) ?hr3 ?_; (case hr3 => kernel_rfl); intro W3 hb3 hz3 hs3) | (refine wp_names Q4 7 9 (by with_reducible rfl) (by with_reducible rfl) rfl (by decide) ?hr4 ?_; (case hr4 => kernel_rfl); intro W4 hb4 hz4 hs4) | (refine wp_names Q5 6 10 (by with_reducible rfl) (by with_reducible rfl) rfl (by decide) ?hr5 ?_; (case hr5 => kernel_rfl); intro W5 hb5 hz5 hs5) | (refine wp_names Q6 25 11 (by with_reducible rfl) (by with_reducible rfl) rfl (by decide) ?hr6 ?_; (case hr6 => kernel_rfl); intro W6 hb6 hz6 hs6) | (refine wp_names Q7 3 12 (by with_reducible rfl) (by with_reducible rfl) rfl (by decide) ?hr7 ?_; (case hr7 => kernel_rfl); intro W7 hb7 hz7 hs7) | (refine wp_names Q8 7 13 (by with_reducible rfl) (by with_reducible rfl) rfl (by decide) ?hr8 ?_; (case hr8 => kernel_rfl); intro W8 hb8 hz8 hs8; obtain ⟨ta, tn, _, _, hbel⟩ := tab_any hb1 hz1 hs1 hb2 hz2 hs2 hb3 hz3 hs3 hb4 hz4 hs4 hb5 hz5 hs5 hb6 hz6 hs6 hb7 hz7 hs7 hb8 hz8 hs8 1 (by omega) (by omega); have HB := Fact.mk hbel; clear hbel hb1 hz1 hs1 hb2 hz2 hs2 hb3 hz3 hs3 hb4 hz4 hs4 hb5 hz5 hs5 hb6 hz6 hs6 hb7 hz7 hs7 hb8 hz8 hs8) | go_values | go_skip | go_guarded | go_step | go_upon | go_back)
    go_ret
    exact ⟨rfl, HB.out⟩
end Go.Proofs.Ytnioibpeagffdaa
