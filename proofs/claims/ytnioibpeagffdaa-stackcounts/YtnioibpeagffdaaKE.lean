/- Is of a sort that is one. -/
import Derived.Test.YtnioibpeagffdaaKD
set_option linter.unusedVariables false
namespace Go.Proofs.Ytnioibpeagffdaa
open Go.RowKit Go.Shelf

set_option maxRecDepth 100000 in
set_option maxHeartbeats 4000000 in
theorem is_in (x : ByteArray) (j : Nat) (h1 : 1 ≤ j) (h8 : j ≤ 8) (w : World) (B : Bool) (hV : Fact (hasB (lits (sortL j)) x = B)) :
    Calls Try.prog 10 #[.string x, .int .i64 j] w fun e w' => e = .returned (.bool B) ∧ Below w.heap.size w w' := by
  have H1 := Fact.mk h1
  have H8 := Fact.mk h8
  have i1 : (0 : Int) < j := by omega
  have i2 : (j : Int) < 9 := by omega
  have i3 : (0 : Int) ≤ j := by omega
  have i4 : j < 9 := by omega
  have i5 : decide ((0 : Int) < j) = true := decide_eq_true i1
  have i6 : decide ((j : Int) < 9) = true := decide_eq_true i2
  clear h1 h8
  go_enter Try.func10, Try.ntmps10
  repeat (first | (refine wp_names Q1 14 6 (by with_reducible rfl) (by with_reducible rfl) rfl (by decide) ?hr1 ?_; (case hr1 => kernel_rfl); intro W1 hb1 hz1 hs1) | (refine wp_names Q2 74 7 (by with_reducible rfl) (by with_reducible rfl) rfl (by decide) ?hr2 ?_; (case hr2 => kernel_rfl); intro W2 hb2 hz2 hs2) | (refine wp_names Q3 14 8 (by with_reducible rfl) (by with_reducible rfl) rfl (by decide) ?hr3 ?_; (case hr3 => kernel_rfl); intro W3 hb3 hz3 hs3) | (refine wp_names Q4 7 9 (by with_reducible rfl) (by with_reducible rfl) rfl (by decide) ?hr4 ?_; (case hr4 => kernel_rfl); intro W4 hb4 hz4 hs4) | (refine wp_names Q5 6 10 (by with_reducible rfl) (by with_reducible rfl) rfl (by decide) ?hr5 ?_; (case hr5 => kernel_rfl); intro W5 hb5 hz5 hs5) | (refine wp_names Q6 25 11 (by with_reducible rfl) (by with_reducible rfl) rfl (by decide) ?hr6 ?_; (case hr6 => kernel_rfl); intro W6 hb6 hz6 hs6) | (refine wp_names Q7 3 12 (by with_reducible rfl) (by with_reducible rfl) rfl (by decide) ?hr7 ?_; (case hr7 => kernel_rfl); intro W7 hb7 hz7 hs7) | (refine wp_names Q8 7 13 (by with_reducible rfl) (by with_reducible rfl) rfl (by decide) ?hr8 ?_; (case hr8 => kernel_rfl); intro W8 hb8 hz8 hs8; obtain ⟨ta, tn, hcell, htab, hbel⟩ := tab_any hb1 hz1 hs1 hb2 hz2 hs2 hb3 hz3 hs3 hb4 hz4 hs4 hb5 hz5 hs5 hb6 hz6 hs6 hb7 hz7 hs7 hb8 hz8 hs8 j H1.out H8.out; have HT := Fact.mk htab; have HB := Fact.mk hbel; clear htab hbel hb1 hz1 hs1 hb2 hz2 hs2 hb3 hz3 hs3 hb4 hz4 hs4 hb5 hz5 hs5 hb6 hz6 hs6 hb7 hz7 hs7 hb8 hz8 hs8) | (go_at_call 20; refine (contains_any _ _ _ _ HT.out x B hV).mono ?_; rintro e w2 ⟨rfl, rfl⟩) | go_values | go_skip | go_guarded | go_step | go_upon | go_back)
  go_wp2
  go_ret
  exact ⟨rfl, HB.out⟩
end Go.Proofs.Ytnioibpeagffdaa
