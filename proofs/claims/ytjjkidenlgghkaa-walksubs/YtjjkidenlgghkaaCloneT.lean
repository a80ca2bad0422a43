/- slices.Clone of kids: in new memory, what hangs on them as it was. -/
import Derived.Test.YtjjkidenlgghkaaClone
import Derived.Test.YtjjkidenlgghkaaBuilt
set_option linter.unusedVariables false
namespace Go.Proofs.Ytjjkidenlgghkaa
open Go.Deep (BT)
open Go.RowKit M

set_option maxRecDepth 20000 in
set_option maxHeartbeats 1000000 in
theorem cloneT_any (n c : Nat) (a : Option Addr) (xs : List Value) (w : World) (hx : xs.length = n * 5) (hc : n = 0 ∨ ∃ b o, a = some ⟨b, o, none⟩ ∧ ∀ j u, xs[j]? = some u → w.cell? ((⟨b, o, none⟩ : Addr).add j) = some u) (h1 : ∀ u ∈ xs, u.oneCell' = true) (hm : n ≤ 1000000) :
    Calls Try.prog 47 #[.slice a n c] w fun e w' => ∃ a' c', e = .returned (.slice a' n c') ∧ Below w.heap.size w w' ∧ (n = 0 ∨ w'.ownsRow w.heap.size 25 5 (.slice a' n c') n xs) ∧ n ≤ c' ∧ c' ≤ maxLen := by
  obtain ⟨i0, hii, hz0, hz1, hz2⟩ := info_parts infoN
  by_cases h0 : n = 0
  · subst h0
    clear hc hx h1
    cases a with
    | none =>
      have hq : ∀ W, (binOp .eql 23 (.slice none 0 c) (.slice none 0 0)).run Try.prog W = .ok (.bool true) W := fun W => eqNil Try.underlying23 none 0 c W
      go_enter Try.func47, Try.ntmps47
      go_wp2_with fail
      go_ret
      exact ⟨_, _, rfl, Below.refl _ _, .inl trivial, Nat.le_refl _, Nat.zero_le _⟩
    | some a =>
      have hq : ∀ W, (binOp .eql 23 (.slice (some a) 0 c) (.slice none 0 0)).run Try.prog W = .ok (.bool false) W := fun W => eqNil Try.underlying23 (some a) 0 c W
      go_enter Try.func47, Try.ntmps47
      go_wp2_with (at_builtin; refine wpList_append_same _ rfl (.tmp 5) (.tmp 6) 23 25 i0 rfl Try.underlying23 hii _ (some a) c rfl rfl ?_)
      go_ret
      exact ⟨_, _, rfl, (Below.refl _ w).alloc (Nat.le_refl _) _, .inl trivial, Nat.le_refl _, Nat.zero_le _⟩
  · obtain ⟨b, o, rfl, hcs⟩ := hc.resolve_left h0
    have HC : Fact (∀ W : World, Below w.heap.size w W → ∀ j u, xs[j]? = some u → W.cell? ((⟨b, o, none⟩ : Addr).add j) = some u) := ⟨fun W hW j u hu => by
      have := hcs j u hu
      rw [add_cell] at this ⊢
      exact (hW.cell (p := ⟨b, o + j, none⟩) (World.block_lt_of_cell? w _ this)).trans this⟩
    have HL := Fact.mk hx
    have HO := Fact.mk h1
    clear hc hcs hx h1
    have hq : ∀ W, (binOp .eql 23 (.slice (some ⟨b, o, none⟩) n c) (.slice none 0 0)).run Try.prog W = .ok (.bool false) W := fun W => eqNil Try.underlying23 (some ⟨b, o, none⟩) n c W
    go_enter Try.func47, Try.ntmps47
    go_wp2_with (at_builtin; refine wpList_append_own _ rfl (.tmp 5) (.tmp 6) 23 rfl w.heap.size 25 i0 (.agg #[.int .i64 0, .string ⟨#[]⟩, .string ⟨#[]⟩, .slice none 0 0, .slice none 0 0]) 5 88 Try.underlying23 hii hz0 hz1 hz2 rfl (by decide) (.slice (some ⟨w.heap.size, 0, none⟩) 0 0) 0 [] rfl (World.ownsRow_made w #[] 0 (Nat.le_refl _) (Nat.zero_le _) rfl) ⟨b, o, none⟩ n c xs rfl HL.out (HC.out _ ((Below.refl _ w).alloc (Nat.le_refl _) _)) HO.out (by unfold maxLen; omega) (by omega) (by simp) ?_; intro v' w1 hown' hgrow _)
    go_ret
    rw [Nat.zero_add, List.nil_append] at hown'
    have hb1 := ((Below.refl _ w).alloc (Nat.le_refl _) (.cells #[] 25)).grown hgrow (by simp) (fun k e => by cases e; exact Nat.le_refl _)
    rcases hown'.2 with ⟨_, hz⟩ | ⟨g, cap, cur, rfl, hg, hh, hc1, hc2, hs, ht⟩
    · omega
    · exact ⟨_, _, rfl, hb1, .inr hown', hc1, hc2⟩
end Go.Proofs.Ytjjkidenlgghkaa
