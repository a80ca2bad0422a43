/- The two makers of TreeLimits: a tree that is so wide, a tree that is so deep. -/
import Derived.Test.YtblgjmohcdioeaaBuilt
import Derived.Maps.AppendAt
import Derived.Test.YtblgjmohcdioeaaIter
set_option linter.unusedVariables false
namespace Go.Proofs.Ytblgjmohcdioeaa
open Go.Deep (BT)
open Go.RowKit M

abbrev rootN : Nd := ⟨1, ⟨#[]⟩, ⟨#[]⟩, []⟩
abbrev comN : Nd := ⟨4, ⟨#[]⟩, ⟨#[]⟩, []⟩
abbrev elN : Nd := ⟨2, ⟨#[97]⟩, ⟨#[]⟩, []⟩
def comR : Nw := ⟨comN, .nil, .slice none 0 0, .slice none 0 0⟩
def wideF (n : Nat) : M.F := forF (List.replicate n comR)
def chainF : Nat → M.F
  | 0 => .nil
  | n + 1 => .cons elN (chainF n) .nil

/-- a block of five cells of a node, none frozen -/
structure Five (w : World) (b : Nat) (v0 v1 v2 v3 v4 : Value) : Prop where
  c0 : w.cell? ⟨b, 0, none⟩ = some v0
  c1 : w.cell? ⟨b, 1, none⟩ = some v1
  c2 : w.cell? ⟨b, 2, none⟩ = some v2
  c3 : w.cell? ⟨b, 3, none⟩ = some v3
  c4 : w.cell? ⟨b, 4, none⟩ = some v4
  fz : ∀ o, w.frozen? ⟨b, o, none⟩ = false
theorem Five.same {w w' : World} {b : Nat} {v0 v1 v2 v3 v4 : Value} (h : Five w b v0 v1 v2 v3 v4) (e : w'.heap[b]? = w.heap[b]?) : Five w' b v0 v1 v2 v3 v4 :=
  ⟨(World.cell?_of_block (w := w) (a := ⟨b, 0, none⟩) e).trans h.c0, (World.cell?_of_block (w := w) (a := ⟨b, 1, none⟩) e).trans h.c1, (World.cell?_of_block (w := w) (a := ⟨b, 2, none⟩) e).trans h.c2, (World.cell?_of_block (w := w) (a := ⟨b, 3, none⟩) e).trans h.c3, (World.cell?_of_block (w := w) (a := ⟨b, 4, none⟩) e).trans h.c4, fun o => (World.frozen?_of_block (w := w) (a := ⟨b, o, none⟩) e).trans (h.fz o)⟩
theorem Five.new (w : World) (v0 v1 v2 v3 v4 : Value) (t : TypeId) : Five (w.alloc (.cells #[v0, v1, v2, v3, v4] t)) w.heap.size v0 v1 v2 v3 v4 :=
  ⟨World.cell?_alloc_new w _ _ 0, World.cell?_alloc_new w _ _ 1, World.cell?_alloc_new w _ _ 2, World.cell?_alloc_new w _ _ 3, World.cell?_alloc_new w _ _ 4, fun o => World.frozen?_alloc_new _ _ _ _⟩
theorem Five.put4 {w : World} {b : Nat} {v0 v1 v2 v3 v4 : Value} (h : Five w b v0 v1 v2 v3 v4) (v : Value) : Five (w.setCell ⟨b, 4, none⟩ v) b v0 v1 v2 v3 v :=
  ⟨(World.cell?_setCell_other _ _ _ _ (by simp)).trans h.c0, (World.cell?_setCell_other _ _ _ _ (by simp)).trans h.c1, (World.cell?_setCell_other _ _ _ _ (by simp)).trans h.c2, (World.cell?_setCell_other _ _ _ _ (by simp)).trans h.c3, World.cell?_setCell_same' _ _ _ (by rw [h.c4]; rfl), fun o => by rw [World.frozen?_setCell]; exact h.fz o⟩
theorem Five.lt {w : World} {b : Nat} {v0 v1 v2 v3 v4 : Value} (h : Five w b v0 v1 v2 v3 v4) : b < w.heap.size := World.block_lt_of_cell? w _ h.c0
theorem five_other (w : World) (b : Nat) {k : Nat} (hk : k ≠ b) (v0 v1 v2 v3 v4 : Value) : (((((w.setCell ⟨b, 0, none⟩ v0).setCell ⟨b, 1, none⟩ v1).setCell ⟨b, 2, none⟩ v2).setCell ⟨b, 3, none⟩ v3).setCell ⟨b, 4, none⟩ v4).heap[k]? = w.heap[k]? := by
  rw [Below.heap_setCell _ _ _ _ hk, Below.heap_setCell _ _ _ _ hk, Below.heap_setCell _ _ _ _ hk, Below.heap_setCell _ _ _ _ hk, Below.heap_setCell _ _ _ _ hk]
theorem five_all {w : World} {b : Nat} {u0 u1 u2 u3 u4 : Value} (h : Five w b u0 u1 u2 u3 u4) (v0 v1 v2 v3 v4 : Value) : Five (((((w.setCell ⟨b, 0, none⟩ v0).setCell ⟨b, 1, none⟩ v1).setCell ⟨b, 2, none⟩ v2).setCell ⟨b, 3, none⟩ v3).setCell ⟨b, 4, none⟩ v4) b v0 v1 v2 v3 v4 := by
  have g1 : ∀ (W : World) (o p : Nat) (v : Value), o ≠ p → (W.setCell ⟨b, p, none⟩ v).cell? ⟨b, o, none⟩ = W.cell? ⟨b, o, none⟩ := fun W o p v hop => World.cell?_setCell_other _ _ _ _ (by intro e; cases e; exact hop rfl)
  have g2 : ∀ (W : World) (o : Nat) (v : Value), (W.cell? ⟨b, o, none⟩).isSome = true → (W.setCell ⟨b, o, none⟩ v).cell? ⟨b, o, none⟩ = some v := fun W o v hs => World.cell?_setCell_same' _ _ _ hs
  refine ⟨?_, ?_, ?_, ?_, ?_, fun o => by simp only [World.frozen?_setCell]; exact h.fz o⟩
  · rw [g1 _ 0 4 _ (by omega), g1 _ 0 3 _ (by omega), g1 _ 0 2 _ (by omega), g1 _ 0 1 _ (by omega)]; exact g2 _ _ _ (by rw [h.c0]; rfl)
  · rw [g1 _ 1 4 _ (by omega), g1 _ 1 3 _ (by omega), g1 _ 1 2 _ (by omega)]; exact g2 _ _ _ (by rw [g1 _ 1 0 _ (by omega), h.c1]; rfl)
  · rw [g1 _ 2 4 _ (by omega), g1 _ 2 3 _ (by omega)]; exact g2 _ _ _ (by rw [g1 _ 2 1 _ (by omega), g1 _ 2 0 _ (by omega), h.c2]; rfl)
  · rw [g1 _ 3 4 _ (by omega)]; exact g2 _ _ _ (by rw [g1 _ 3 2 _ (by omega), g1 _ 3 1 _ (by omega), g1 _ 3 0 _ (by omega), h.c3]; rfl)
  · exact g2 _ _ _ (by rw [g1 _ 4 3 _ (by omega), g1 _ 4 2 _ (by omega), g1 _ 4 1 _ (by omega), g1 _ 4 0 _ (by omega), h.c4]; rfl)

set_option maxRecDepth 20000 in
set_option maxHeartbeats 2000000 in
theorem wide_any (n : Nat) (hn : 1 ≤ n) (hb : n ≤ 1000) (w : World) :
    Calls Try.prog 30 #[.int .i64 n] w fun e w' => ∃ kv, e = .returned (nodeV rootN (.slice none 0 0) kv) ∧ Lies w'.heap.size w' rootN (wideF (n - 1)) (.slice none 0 0) kv ∧ Below w.heap.size w w' := by
  go_enter Try.func30, Try.ntmps30
  go_wp2_with fail
  go_loopg [4] n (fun gf iv wr => ∃ (i : Nat) (v : Value), iv = .int .i64 (i + 1 : Nat) ∧ i + 1 ≤ n ∧ n ≤ i + 1 + gf ∧
    Fact (Five wr (w.heap.size + 1) (.int .i64 1) (.string ⟨#[]⟩) (.string ⟨#[]⟩) (.slice none 0 0) v ∧ Five wr w.heap.size (.int .i64 0) (.string ⟨#[]⟩) (.string ⟨#[]⟩) (.slice none 0 0) (.slice none 0 0) ∧ wr.ownsRow (w.heap.size + 2) 25 5 v i (rowF (List.replicate i comR)) ∧ Below w.heap.size w wr))
  case atStart =>
    refine ⟨0, .slice none 0 0, rfl, hn, by omega, ⟨?_, ?_, World.ownsRow_nil _ _ _ _, ((Below.refl _ w).alloc (Nat.le_refl _) _).alloc (by simp) _⟩⟩
    · have := Five.new (w.alloc (.cells #[.int .i64 0, .string ⟨#[]⟩, .string ⟨#[]⟩, .slice none 0 0, .slice none 0 0] 25)) (.int .i64 1) (.string ⟨#[]⟩) (.string ⟨#[]⟩) (.slice none 0 0) (.slice none 0 0) 25
      rw [World.size_alloc] at this
      exact this
    · exact (Five.new w (.int .i64 0) (.string ⟨#[]⟩) (.string ⟨#[]⟩) (.slice none 0 0) (.slice none 0 0) 25).same (Below.heap_alloc _ _ _ (by simp))
  case round =>
    obtain ⟨i, v, rfl, hi, hfu, hx⟩ := hrel
    obtain ⟨hT, hR, hown, hB⟩ := hx.out
    obtain ⟨c0, c1, c2, c3, c4, hfz⟩ := id hT
    have hTl := hT.lt
    by_cases hlt : i + 1 < n
    · obtain ⟨g', rfl⟩ : ∃ g', gk = g' + 1 := ⟨gk - 1, by omega⟩
      obtain ⟨i0, hii, hz0, hz1, hz2⟩ := info_parts infoN
      have hfz4 := hfz 4
      have HT := Fact.mk hT
      have HR := Fact.mk hR
      have HB := Fact.mk hB
      have HO := Fact.mk hown
      clear hx hT hR hown hB hfz
      go_wp2_with (at_builtin; refine wpList_append_own _ rfl (.tmp 12) (.tmp 14) 23 rfl (w.heap.size + 2) 25 i0 (.agg #[.int .i64 0, .string ⟨#[]⟩, .string ⟨#[]⟩, .slice none 0 0, .slice none 0 0]) 5 88 Try.underlying23 hii hz0 hz1 hz2 rfl (by decide) v i (rowF (List.replicate i comR)) rfl (HO.out.alloc _) ⟨wr.heap.size, 0, none⟩ 1 1 [.int .i64 4, .string ⟨#[]⟩, .string ⟨#[]⟩, .slice none 0 0, .slice none 0 0] rfl rfl (cell_five_new _ _ _ _ _ _ _) (by simp [Value.oneCell']) (by unfold maxLen; omega) (by omega) (by simp; omega) ?_; intro v' w1 hown' hgrow _; obtain ⟨g2, cap2, rfl, hg2⟩ := own_succ hown'; have hkT : w1.heap[w.heap.size + 1]? = wr.heap[w.heap.size + 1]? := (hgrow.block _ (by simp; omega) (fun e => by have := (HO.out.alloc (.cells #[.int .i64 4, .string ⟨#[]⟩, .string ⟨#[]⟩, .slice none 0 0, .slice none 0 0] 25)).lt _ e.symm; omega)).trans (Below.heap_alloc _ _ _ hTl); have HT1 := Fact.mk (HT.out.same hkT); have d4 := HT1.out.c4; have e4 := HT1.out.fz 4)
      have HF : Fact (Five (w1.setCell ⟨w.heap.size + 1, 4, none⟩ (.slice (some ⟨g2, 0, none⟩) (i + 1) cap2)) (w.heap.size + 1) (.int .i64 1) (.string ⟨#[]⟩) (.string ⟨#[]⟩) (.slice none 0 0) (.slice (some ⟨g2, 0, none⟩) (i + 1) cap2)) := ⟨HT1.out.put4 _⟩
      have HF2 : Fact (Five (w1.setCell ⟨w.heap.size + 1, 4, none⟩ (.slice (some ⟨g2, 0, none⟩) (i + 1) cap2)) w.heap.size (.int .i64 0) (.string ⟨#[]⟩) (.string ⟨#[]⟩) (.slice none 0 0) (.slice none 0 0)) := ⟨by
        have e1 : w1.heap[w.heap.size]? = wr.heap[w.heap.size]? := (hgrow.block _ (by simp; omega) (fun e => by have := (HO.out.alloc (.cells #[.int .i64 4, .string ⟨#[]⟩, .string ⟨#[]⟩, .slice none 0 0, .slice none 0 0] 25)).lt _ e.symm; omega)).trans (Below.heap_alloc _ _ _ (by omega))
        exact (HR.out.same e1).same (Below.heap_setCell _ _ _ _ (by show w.heap.size ≠ w.heap.size + 1; omega))⟩
      have HO2 : Fact ((w1.setCell ⟨w.heap.size + 1, 4, none⟩ (.slice (some ⟨g2, 0, none⟩) (i + 1) cap2)).ownsRow (w.heap.size + 2) 25 5 (.slice (some ⟨g2, 0, none⟩) (i + 1) cap2) (i + 1) (rowF (List.replicate (i + 1) comR))) := ⟨by
        rw [List.replicate_succ', rowF_snoc]
        exact ownsRow_setCell_below hown' (by show w.heap.size + 1 < _; omega) _⟩
      have HB2 : Fact (Below w.heap.size w (w1.setCell ⟨w.heap.size + 1, 4, none⟩ (.slice (some ⟨g2, 0, none⟩) (i + 1) cap2))) := ⟨((HB.out.alloc HB.out.size _).grown hgrow (by simp; have := HB.out.size; omega) (fun k e => by have := (HO.out.alloc (.cells #[.int .i64 4, .string ⟨#[]⟩, .string ⟨#[]⟩, .slice none 0 0, .slice none 0 0] 25)).lt _ e; omega)).setCell (p := ⟨w.heap.size + 1, 4, none⟩) (by show _ ≤ w.heap.size + 1; omega) _⟩
      go_roundg g'
      case measure => omega
      case rel => exact ⟨i + 1, _, by go_num, by omega, by omega, ⟨HF.out, HF2.out, HO2.out, HB2.out⟩⟩
    · have HT := Fact.mk hT
      have hxR := Fact.mk hR
      obtain ⟨r0, r1, r2, r3, r4, rfz⟩ := hR
      have rf0 := rfz 0
      have rf1 := rfz 1
      have rf2 := rfz 2
      have rf3 := rfz 3
      have rf4 := rfz 4
      have HB := Fact.mk hB
      obtain ⟨ax, cx, rfl⟩ := own_shape hown
      have HO := Fact.mk hown
      obtain rfl : n = i + 1 := by omega
      clear hx hT hown hB rfz hfz
      go_wp2_with fail
      have hR' : Five wr w.heap.size (.int .i64 0) (.string ⟨#[]⟩) (.string ⟨#[]⟩) (.slice none 0 0) (.slice none 0 0) := by have := hxR.out; exact this
      obtain ⟨W5, hW5⟩ : ∃ W5, ((((wr.setCell ⟨w.heap.size, 0, none⟩ (.int .i64 1)).setCell ⟨w.heap.size, 1, none⟩ (.string ⟨#[]⟩)).setCell ⟨w.heap.size, 2, none⟩ (.string ⟨#[]⟩)).setCell ⟨w.heap.size, 3, none⟩ (.slice none 0 0)).setCell ⟨w.heap.size, 4, none⟩ (.slice ax i cx) = W5 := ⟨_, rfl⟩
      have hoth : ∀ b, b ≠ w.heap.size → W5.heap[b]? = wr.heap[b]? := fun b hb => by rw [← hW5]; exact five_other _ _ hb _ _ _ _ _
      have hz5 : W5.heap.size = wr.heap.size := by rw [← hW5]; simp [World.setCell]
      have hB5 : Below w.heap.size w W5 := ⟨by rw [← hW5]; exact HB.out.os, by rw [← hW5]; exact HB.out.tape, by rw [← hW5]; exact HB.out.output, by rw [hz5]; exact HB.out.size, fun k hk => (hoth k (by omega)).trans (HB.out.block k hk)⟩
      have hO5 : W5.ownsRow (w.heap.size + 2) 25 5 (.slice ax i cx) i (rowF (List.replicate i comR)) := own_like HO.out (fun k hk _ => hoth k (by omega))
      have h5 := five_all hR' (.int .i64 1) (.string ⟨#[]⟩) (.string ⟨#[]⟩) (.slice none 0 0) (.slice ax i cx)
      rw [hW5] at h5
      rw [hW5]
      refine bodyPost_ret (v := nodeV rootN (.slice none 0 0) (.slice ax i cx)) (by simp [results, Try.f30, go_sem, h5.c0, h5.c1, h5.c2, h5.c3, h5.c4]) rfl ⟨_, rfl, ⟨AS.nothing, ?_⟩, hB5⟩
      have hl : i = (List.replicate i comR).length := by simp
      rw [Nat.add_sub_cancel]
      have := own_FL (w := W5) (n := 0) (by rw [← hl]; exact hO5) (fun r hr => by rw [List.eq_of_mem_replicate hr]; exact ⟨AS.nothing, FL.nothing⟩)
      exact this
end Go.Proofs.Ytblgjmohcdioeaa
