/- awake: the document's example. -/
import Derived.Test.YtjjkidenlgghkaaPost
set_option linter.unusedVariables false
namespace Go.Proofs.Ytjjkidenlgghkaa
open Go.Deep (BT)
open Go.RowKit M

/-- the example's kids -/
abbrev exK : M.F := .cons ⟨2, ⟨#[97]⟩, ⟨#[]⟩, []⟩ (.cons ⟨3, ⟨#[]⟩, ⟨#[116]⟩, []⟩ .nil .nil) .nil

theorem ints_at {w : World} {B E n : Nat} {v : Value} {xs : List Value} (h : w.ownsRow B E 1 v n xs) (hn : 0 < n) : ∃ g cap, v = .slice (some ⟨g, 0, none⟩) n cap ∧ n ≤ cap ∧ cap ≤ maxLen ∧ B ≤ g ∧ g < w.heap.size ∧ ∀ i u, xs[i]? = some u → w.cell? ⟨g, i, none⟩ = some u := by
  obtain ⟨h1, h2⟩ := h
  rcases h2 with ⟨_, e⟩ | ⟨g, cap, cur, rfl, hg, hh, hc1, hc2, hs, ht⟩
  · omega
  · refine ⟨g, cap, rfl, hc1, hc2, hg, (Array.getElem?_eq_some_iff.1 hh).1, fun i u hi => ?_⟩
    simp only [World.cell?, hh]
    rw [← ht] at hi
    rw [List.getElem?_take] at hi
    split at hi
    · simpa using hi
    · cases hi

set_option maxRecDepth 20000 in
set_option maxHeartbeats 2000000 in
theorem awake7_true (w : World) : Calls Try.prog 10 #[] w fun e w' => e = .returned (.bool true) ∧ Below w.heap.size w w' := by
  obtain ⟨W1, hW1⟩ : ∃ W1, (w.alloc (.cells #[.int .i64 3, .string ⟨#[]⟩, .string ⟨#[116]⟩, .slice none 0 0, .slice none 0 0] 25)).alloc (.cells #[.int .i64 2, .string ⟨#[97]⟩, .string ⟨#[]⟩, .slice none 0 0, .slice (some ⟨w.heap.size, 0, none⟩) 1 1] 25) = W1 := ⟨_, rfl⟩
  have hb1 : Below w.heap.size w W1 := by rw [← hW1]; exact ((Below.refl _ w).alloc (Nat.le_refl _) _).alloc (by simp) _
  have hz1 : W1.heap.size = w.heap.size + 2 := by rw [← hW1]; simp
  have c1 : ∀ i v, (#[.int .i64 3, .string ⟨#[]⟩, .string ⟨#[116]⟩, .slice none 0 0, .slice none 0 0] : Array Value)[i]? = some v → W1.cell? ⟨w.heap.size, i, none⟩ = some v := fun i v h => by
    rw [← hW1]; exact (box_new w _ _ _).1 i v h
  have c2 : ∀ i v, (#[.int .i64 2, .string ⟨#[97]⟩, .string ⟨#[]⟩, .slice none 0 0, .slice (some ⟨w.heap.size, 0, none⟩) 1 1] : Array Value)[i]? = some v → W1.cell? ⟨w.heap.size + 1, i, none⟩ = some v := fun i v h => by
    rw [← hW1]
    have := World.cell?_alloc_new (w.alloc (.cells #[.int .i64 3, .string ⟨#[]⟩, .string ⟨#[116]⟩, .slice none 0 0, .slice none 0 0] 25)) #[.int .i64 2, .string ⟨#[97]⟩, .string ⟨#[]⟩, .slice none 0 0, .slice (some ⟨w.heap.size, 0, none⟩) 1 1] 25 i
    rw [World.size_alloc] at this
    exact this.trans h
  have hf : FL (Old W1.heap.size) W1 (.slice (some ⟨w.heap.size + 1, 0, none⟩) 1 1) exK :=
    ⟨_, 1, rfl, Nat.le_refl _, by unfold maxLen; omega, .inr ⟨w.heap.size + 1, 0, rfl, by show _ < _; omega, ⟨.slice none 0 0, some ⟨w.heap.size, 0, none⟩, 1, c2 0 _ rfl, c2 1 _ rfl, c2 2 _ rfl, c2 3 _ rfl, c2 4 _ rfl, AS.nothing, Nat.le_refl _, by unfold maxLen; omega,
      .inr ⟨w.heap.size, 0, rfl, by show _ < _; omega, ⟨.slice none 0 0, none, 0, c1 0 _ rfl, c1 1 _ rfl, c1 2 _ rfl, c1 3 _ rfl, c1 4 _ rfl, AS.nothing, Nat.le_refl _, Nat.zero_le _, .inl rfl⟩, trivial⟩⟩, trivial⟩⟩
  have HW1 := Fact.mk hW1
  have HF := Fact.mk hf
  clear hf c1 c2 hW1
  go_enter Try.func10, Try.ntmps10
  go_wp2_with fail
  rw [HW1.out]
  refine (post_any ⟨1, ⟨#[]⟩, ⟨#[]⟩, []⟩ exK _ _ W1 AS.nothing HF.out (by decide) (by decide)).mono ?_
  rintro e w2 ⟨v, rfl, hb2, hown⟩
  obtain ⟨g, cap, rfl, hc1, hc2, _, _, hat⟩ := ints_at hown (by decide)
  have y0 : w2.cell? ⟨g, 0, none⟩ = some (.int .i64 2) := hat 0 _ rfl
  have y1 : w2.cell? ⟨g, 1, none⟩ = some (.int .i64 1) := hat 1 _ rfl
  have y2 : w2.cell? ⟨g, 2, none⟩ = some (.int .i64 0) := hat 2 _ rfl
  have hB : Below w.heap.size w w2 := hb1.trans (hb2.mono (by omega))
  have hsz : exK.size + 1 = 3 := rfl
  rw [hsz]
  clear hat hown hb1 hb2
  go_wp2_with fail
  go_ret
  exact ⟨rfl, hB⟩
end Go.Proofs.Ytjjkidenlgghkaa
