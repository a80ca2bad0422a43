/- The second maker of TreeLimits: a tree that is so deep. -/
import Derived.Test.YtblgjmohcdioeaaWide
set_option linter.unusedVariables false
namespace Go.Proofs.Ytblgjmohcdioeaa
open Go.Deep (BT)
open Go.RowKit M

theorem AS.here {S : Nat → Prop} {w : World} {v : Value} {l : List (ByteArray × ByteArray)} (h : AS S w v l) : AS (Old w.heap.size) w v l := by
  obtain ⟨a, cap, e, h1, h2, h3⟩ := h
  refine ⟨a, cap, e, h1, h2, ?_⟩
  rcases h3 with h3 | ⟨b, o, ea, hS, hc⟩
  · exact .inl h3
  · by_cases h0 : l = []
    · exact .inl h0
    · exact .inr ⟨b, o, ea, World.block_lt_of_cell? w _ (hc 0 (List.length_pos_iff.2 h0)).1, hc⟩
theorem FAt.here {S : Nat → Prop} {w : World} : ∀ (f : M.F) (b o : Nat), FAt S w f b o → FAt (Old w.heap.size) w f b o
  | .nil, _, _, _ => trivial
  | .node xb xo d k r, b, o, hf => by
    obtain ⟨⟨av, ka, kc, c0, c1, c2, c3, c4, ha, h1, h2, hk⟩, hr⟩ := hf
    refine ⟨⟨av, ka, kc, c0, c1, c2, c3, c4, ha.here, h1, h2, ?_⟩, FAt.here r b (o + 5) hr⟩
    rcases hk with hk | ⟨b', o', e, hS', hk⟩
    · exact .inl hk
    · by_cases h0 : k.len = 0
      · exact .inl h0
      · refine .inr ⟨b', o', e, ?_, FAt.here k b' o' hk⟩
        cases k with
        | nil => exact absurd rfl h0
        | node yb yo d2 k2 r2 =>
          obtain ⟨⟨_, _, _, e0, _⟩, _⟩ := hk
          exact World.block_lt_of_cell? w _ e0
theorem FL.here {S : Nat → Prop} {w : World} {v : Value} {f : M.F} (h : FL S w v f) : FL (Old w.heap.size) w v f := by
  obtain ⟨a, cap, e, h1, h2, h3⟩ := h
  refine ⟨a, cap, e, h1, h2, ?_⟩
  rcases h3 with h3 | ⟨b, o, ea, hS, hc⟩
  · exact .inl h3
  · by_cases h0 : f.len = 0
    · exact .inl h0
    · refine .inr ⟨b, o, ea, ?_, FAt.here f b o hc⟩
      cases f with
      | nil => exact absurd rfl h0
      | node yb yo d2 k2 r2 =>
        obtain ⟨⟨_, _, _, e0, _⟩, _⟩ := hc
        exact World.block_lt_of_cell? w _ e0
/-- a new block that holds one tree -/
theorem one_FL {S : Nat → Prop} {w : World} {b : Nat} {d : Nd} {k : M.F} {av kv : Value} (h : Five w b (.int .i64 d.k) (.string d.n) (.string d.x) av kv) (hb : S b) (ha : AS S w av d.ats) (hk : FL S w kv k) : FL S w (.slice (some ⟨b, 0, none⟩) 1 1) (.cons d k .nil) := by
  obtain ⟨ka, kc, e, h1, h2, h3⟩ := hk
  exact ⟨some ⟨b, 0, none⟩, 1, rfl, Nat.le_refl _, by unfold maxLen; omega, .inr ⟨b, 0, rfl, hb, ⟨av, ka, kc, h.c0, h.c1, h.c2, h.c3, by rw [← e]; exact h.c4, ha, h1, h2, h3⟩, trivial⟩⟩

set_option maxRecDepth 20000 in
set_option maxHeartbeats 2000000 in
theorem deep_any (n : Nat) (hn : 2 ≤ n) (hb : n ≤ 1000) (w : World) :
    Calls Try.prog 31 #[.int .i64 n] w fun e w' => ∃ kv, e = .returned (nodeV rootN (.slice none 0 0) kv) ∧ Lies w'.heap.size w' rootN (chainF (n - 1)) (.slice none 0 0) kv ∧ Below w.heap.size w w' := by
  go_enter Try.func31, Try.ntmps31
  go_wp2_with fail
  go_loopg [4] n (fun gf iv wr => ∃ (j : Nat) (a : Option Addr) (l c : Nat), iv = .int .i64 (j + 2 : Nat) ∧ j + 2 ≤ n ∧ n ≤ j + 2 + gf ∧
    Fact (Five wr (w.heap.size + 1) (.int .i64 2) (.string ⟨#[97]⟩) (.string ⟨#[]⟩) (.slice none 0 0) (.slice a l c) ∧ Five wr w.heap.size (.int .i64 0) (.string ⟨#[]⟩) (.string ⟨#[]⟩) (.slice none 0 0) (.slice none 0 0) ∧ FL (fun b => w.heap.size + 2 ≤ b) wr (.slice a l c) (chainF j) ∧ Below w.heap.size w wr))
  case atStart =>
    refine ⟨0, none, 0, 0, rfl, hn, by omega, ⟨?_, ?_, FL.nothing, ((Below.refl _ w).alloc (Nat.le_refl _) _).alloc (by simp) _⟩⟩
    · have := Five.new (w.alloc (.cells #[.int .i64 0, .string ⟨#[]⟩, .string ⟨#[]⟩, .slice none 0 0, .slice none 0 0] 25)) (.int .i64 2) (.string ⟨#[97]⟩) (.string ⟨#[]⟩) (.slice none 0 0) (.slice none 0 0) 25
      rw [World.size_alloc] at this
      exact this
    · exact (Five.new w (.int .i64 0) (.string ⟨#[]⟩) (.string ⟨#[]⟩) (.slice none 0 0) (.slice none 0 0) 25).same (Below.heap_alloc _ _ _ (by simp))
  case round =>
    obtain ⟨j, a, l, c, rfl, hi, hfu, hx⟩ := hrel
    obtain ⟨hT, hR, hfl, hB⟩ := hx.out
    have hTl := hT.lt
    -- the tree so far, in a block of its own
    obtain ⟨W1, hW1⟩ : ∃ W1, wr.alloc (.cells #[.int .i64 2, .string ⟨#[97]⟩, .string ⟨#[]⟩, .slice none 0 0, .slice a l c] 25) = W1 := ⟨_, rfl⟩
    have hz1 : W1.heap.size = wr.heap.size + 1 := by rw [← hW1]; simp
    have hT1 : Five W1 (w.heap.size + 1) (.int .i64 2) (.string ⟨#[97]⟩) (.string ⟨#[]⟩) (.slice none 0 0) (.slice a l c) := hT.same (by rw [← hW1]; exact Below.heap_alloc _ _ _ hTl)
    have hR1 : Five W1 w.heap.size (.int .i64 0) (.string ⟨#[]⟩) (.string ⟨#[]⟩) (.slice none 0 0) (.slice none 0 0) := hR.same (by rw [← hW1]; exact Below.heap_alloc _ _ _ (by omega))
    have hN1 : Five W1 wr.heap.size (.int .i64 2) (.string ⟨#[97]⟩) (.string ⟨#[]⟩) (.slice none 0 0) (.slice a l c) := by rw [← hW1]; exact Five.new wr _ _ _ _ _ _
    have hfl1 : FL (fun b => w.heap.size + 2 ≤ b) W1 (.slice a l c) (chainF j) := hfl.like (fun b _ hz => by rw [← hW1]; exact Below.heap_alloc _ _ _ hz)
    have hB1 : Below w.heap.size w W1 := by rw [← hW1]; exact hB.alloc hB.size _
    have hone : FL (fun b => w.heap.size + 2 ≤ b) W1 (.slice (some ⟨wr.heap.size, 0, none⟩) 1 1) (chainF (j + 1)) := one_FL (d := elN) hN1 (by show _ ≤ wr.heap.size; omega) AS.nothing hfl1
    have HX := Fact.mk (⟨hT1, hR1, hone, hB1⟩ : _ ∧ _ ∧ _ ∧ _)
    obtain ⟨c0, c1, c2, c3, c4, hfz⟩ := hT
    obtain ⟨d0, d1, d2, d3, d4, gfz⟩ := id hT1
    obtain ⟨r0, r1, r2, r3, r4, rfz⟩ := id hR1
    have g0 := gfz 0
    have g1 := gfz 1
    have g2 := gfz 2
    have g3 := gfz 3
    have g4 := gfz 4
    have s0 := rfz 0
    have s1 := rfz 1
    have s2 := rfz 2
    have s3 := rfz 3
    have s4 := rfz 4
    clear hx hR hfl hB hT1 hR1 hN1 hfl1 hB1 hone hfz gfz rfz
    by_cases hlt : j + 2 < n
    · obtain ⟨g', rfl⟩ : ∃ g', gk = g' + 1 := ⟨gk - 1, by omega⟩
      go_wp2_with fail
      obtain ⟨hT1, hR1, hone, hB1⟩ := HX.out
      have h5 := five_all hT1 (.int .i64 2) (.string ⟨#[97]⟩) (.string ⟨#[]⟩) (.slice none 0 0) (.slice (some ⟨wr.heap.size, 0, none⟩) 1 1)
      have hoth : ∀ b, b ≠ w.heap.size + 1 → _ := fun b hb => five_other W1 (w.heap.size + 1) hb (.int .i64 2) (.string ⟨#[97]⟩) (.string ⟨#[]⟩) (.slice none 0 0) (.slice (some ⟨wr.heap.size, 0, none⟩) 1 1)
      obtain ⟨W5, hW5⟩ : ∃ W5, ((((W1.setCell ⟨w.heap.size + 1, 0, none⟩ (.int .i64 2)).setCell ⟨w.heap.size + 1, 1, none⟩ (.string ⟨#[97]⟩)).setCell ⟨w.heap.size + 1, 2, none⟩ (.string ⟨#[]⟩)).setCell ⟨w.heap.size + 1, 3, none⟩ (.slice none 0 0)).setCell ⟨w.heap.size + 1, 4, none⟩ (.slice (some ⟨wr.heap.size, 0, none⟩) 1 1) = W5 := ⟨_, rfl⟩
      rw [hW5] at h5
      have hz5 : W5.heap.size = W1.heap.size := by rw [← hW5]; simp [World.setCell]
      have hB5 : Below w.heap.size w W5 := ⟨by rw [← hW5]; exact hB1.os, by rw [← hW5]; exact hB1.tape, by rw [← hW5]; exact hB1.output, by rw [hz5]; exact hB1.size, fun k hk => by rw [← hW5]; exact (hoth k (by omega)).trans (hB1.block k hk)⟩
      have HQ : Fact (Five W5 (w.heap.size + 1) (.int .i64 2) (.string ⟨#[97]⟩) (.string ⟨#[]⟩) (.slice none 0 0) (.slice (some ⟨wr.heap.size, 0, none⟩) 1 1) ∧ Five W5 w.heap.size (.int .i64 0) (.string ⟨#[]⟩) (.string ⟨#[]⟩) (.slice none 0 0) (.slice none 0 0) ∧ FL (fun b => w.heap.size + 2 ≤ b) W5 (.slice (some ⟨wr.heap.size, 0, none⟩) 1 1) (chainF (j + 1)) ∧ Below w.heap.size w W5) :=
        ⟨h5, hR1.same (by rw [← hW5]; exact hoth _ (by omega)), hone.like (fun b hb _ => by have hb' : w.heap.size + 2 ≤ b := hb; rw [← hW5]; exact hoth b (by omega)), hB5⟩
      rw [hW5]
      clear h5 hoth hB5 hT1 hR1 hone hB1 HX
      go_roundg g'
      case measure => omega
      case rel => exact ⟨j + 1, some ⟨wr.heap.size, 0, none⟩, 1, 1, by go_num, by omega, by omega, HQ⟩
    · obtain rfl : n = j + 2 := by omega
      go_wp2_with fail
      obtain ⟨hT1, hR1, hone, hB1⟩ := HX.out
      have h5 := five_all hR1 (.int .i64 1) (.string ⟨#[]⟩) (.string ⟨#[]⟩) (.slice none 0 0) (.slice (some ⟨wr.heap.size, 0, none⟩) 1 1)
      have hoth : ∀ b, b ≠ w.heap.size → _ := fun b hb => five_other W1 w.heap.size hb (.int .i64 1) (.string ⟨#[]⟩) (.string ⟨#[]⟩) (.slice none 0 0) (.slice (some ⟨wr.heap.size, 0, none⟩) 1 1)
      obtain ⟨W5, hW5⟩ : ∃ W5, ((((W1.setCell ⟨w.heap.size, 0, none⟩ (.int .i64 1)).setCell ⟨w.heap.size, 1, none⟩ (.string ⟨#[]⟩)).setCell ⟨w.heap.size, 2, none⟩ (.string ⟨#[]⟩)).setCell ⟨w.heap.size, 3, none⟩ (.slice none 0 0)).setCell ⟨w.heap.size, 4, none⟩ (.slice (some ⟨wr.heap.size, 0, none⟩) 1 1) = W5 := ⟨_, rfl⟩
      rw [hW5] at h5
      have hz5 : W5.heap.size = W1.heap.size := by rw [← hW5]; simp [World.setCell]
      have hB5 : Below w.heap.size w W5 := ⟨by rw [← hW5]; exact hB1.os, by rw [← hW5]; exact hB1.tape, by rw [← hW5]; exact hB1.output, by rw [hz5]; exact hB1.size, fun k hk => by rw [← hW5]; exact (hoth k (by omega)).trans (hB1.block k hk)⟩
      have hfin : FL (fun b => w.heap.size + 2 ≤ b) W5 (.slice (some ⟨wr.heap.size, 0, none⟩) 1 1) (chainF (j + 1)) := hone.like (fun b hb _ => by have hb' : w.heap.size + 2 ≤ b := hb; rw [← hW5]; exact hoth b (by omega))
      rw [hW5]
      exact bodyPost_ret (v := nodeV rootN (.slice none 0 0) (.slice (some ⟨wr.heap.size, 0, none⟩) 1 1)) (by simp [results, Try.f31, go_sem, h5.c0, h5.c1, h5.c2, h5.c3, h5.c4]) rfl ⟨_, rfl, ⟨AS.nothing, hfin.here⟩, hB5⟩
end Go.Proofs.Ytblgjmohcdioeaa
