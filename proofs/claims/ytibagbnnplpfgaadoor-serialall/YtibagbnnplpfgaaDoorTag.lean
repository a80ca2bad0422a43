/- tag, beginning, inside: a node's pieces, what is in it. -/
import Derived.Test.YtibagbnnplpfgaaDoorSrM
import Derived.Test.YtibagbnnplpfgaaDoorEsc
import Derived.Test.YtibagbnnplpfgaaDoorCopy
import Derived.Test.YtibagbnnplpfgaaDoorBld
set_option linter.unusedVariables false
set_option linter.unusedSimpArgs false
namespace Go.Proofs.YtibagbnnplpfgaaDoor
open Go.Deep (BT)
open Go.RowKit M

def strs (l : List ByteArray) : List Value := l.map Value.string
theorem strs_len (l : List ByteArray) : (strs l).length = l.length := by simp [strs]
theorem strs_append (a b : List ByteArray) : strs (a ++ b) = strs a ++ strs b := by simp [strs]
theorem infoS : (Tryd.prog.info? 9).map (fun i => (i.zero, i.size, i.bytes)) = some (some (.string ⟨#[]⟩), 1, 16) := by kernel_rfl
theorem own_new (w : World) (E : TypeId) (c : List Value) (n : Nat) (hn : c.length = n) (hs : n ≤ 100) : (w.alloc (.cells c.toArray E)).ownsRow w.heap.size E 1 (.slice (some ⟨w.heap.size, 0, none⟩) n n) n c := by
  refine ⟨by omega, .inr ⟨w.heap.size, n, c.toArray, rfl, Nat.le_refl _, World.alloc_heap_new w _, Nat.le_refl _, by unfold maxLen; omega, by simp [hn], ?_⟩⟩
  simp [← hn]
theorem str_cells (w : World) (c : Array Value) (t : TypeId) : ∀ j u, c.toList[j]? = some u → (w.alloc (.cells c t)).cell? ((⟨w.heap.size, 0, none⟩ : Addr).add j) = some u := fun j u h => by
  rw [add_cell, Nat.zero_add]
  refine (World.cell?_alloc_new w c t j).trans ?_
  simpa using h
theorem attP_snoc : ∀ (l : List (ByteArray × ByteArray)) (p : ByteArray × ByteArray), attP (l ++ [p]) = attP l ++ [⟨#[32]⟩, p.1, ⟨#[61, 34]⟩, escS true p.2, ⟨#[34]⟩]
  | [], p => rfl
  | q :: l, p => by rw [List.cons_append, attP, attP_snoc l p]; rfl
theorem attP_take (l : List (ByteArray × ByteArray)) (j : Nat) (h : j < l.length) : attP (l.take (j + 1)) = attP (l.take j) ++ [⟨#[32]⟩, (bs l j).1, ⟨#[61, 34]⟩, escS true (bs l j).2, ⟨#[34]⟩] := by
  rw [List.take_succ_eq_append_getElem h, attP_snoc, bs_get l j h]
theorem attP_length : ∀ l, (attP l).length = 5 * l.length
  | [] => rfl
  | p :: l => by simp only [attP, List.length_cons, attP_length l]; omega
def hdP (d : Nd) : List ByteArray := [⟨#[60]⟩, d.n]
/-- the pieces behind j attributes -/
def midP (n : ByteArray) (l : List (ByteArray × ByteArray)) (j : Nat) : List ByteArray := ⟨#[60]⟩ :: n :: attP (l.take j)
theorem midP_len (n : ByteArray) (l : List (ByteArray × ByteArray)) (j : Nat) (h : j ≤ l.length) : (midP n l j).length = 2 + 5 * j := by
  simp only [midP, List.length_cons, attP_length, List.length_take]; omega
theorem midP_next (n : ByteArray) (l : List (ByteArray × ByteArray)) (j : Nat) (h : j < l.length) : midP n l (j + 1) = midP n l j ++ [⟨#[32]⟩, (bs l j).1, ⟨#[61, 34]⟩, escS true (bs l j).2, ⟨#[34]⟩] := by
  simp only [midP, attP_take l j h, List.cons_append]
theorem midP_end (d : Nd) : midP d.n d.ats d.ats.length ++ [⟨#[62]⟩] = tagP d := by simp [midP, tagP]
theorem own_shapeS {w : World} {B E n : Nat} {v : Value} {xs : List Value} (h : w.ownsRow B E 1 v n xs) : ∃ a c, v = .slice a n c := by
  rcases h.2 with ⟨rfl, h0⟩ | ⟨g, cap, cur, rfl, _⟩
  · have : n = 0 := by first | exact h0 | (have := h.1; rw [h0] at this; simpa using this.symm)
    subst this
    exact ⟨_, _, rfl⟩
  · exact ⟨_, _, rfl⟩

set_option maxRecDepth 20000 in
set_option maxHeartbeats 4000000 in
theorem tag_any (d : Nd) (av kv : Value) (w : World) (ha : AS (Old w.heap.size) w av d.ats) (hk : ∃ a b c, kv = .slice a b c) (hok : OKnd d) (hm : Met w) :
    Calls Tryd.prog 46 #[nodeV d av kv] w fun e w' => ∃ v, e = .returned v ∧ Below w.heap.size w w' ∧ w'.ownsRow w.heap.size 9 1 v (tagP d).length (strs (tagP d)) := by
  obtain ⟨k1, k2, k3, rfl⟩ := hk
  obtain ⟨K, N, X, A⟩ := d
  obtain ⟨a1, c1, rfl, hc1, hm1, hA⟩ := ha
  dsimp only at hc1 hA
  obtain ⟨al, hal⟩ : ∃ al, A.length = al := ⟨_, rfl⟩
  rw [hal] at hc1
  dsimp only
  rw [hal]
  unfold maxLen at hm1
  have hal20 : al ≤ 20 := by have := hok.many; dsimp only at this; omega
  have HOK := Fact.mk hok
  have HLA := Fact.mk hal
  have HM := Fact.mk hm
  obtain ⟨b1, o1, hat⟩ : ∃ b o, Fact (∀ i, i < al → a1 = some ⟨b, o, none⟩ ∧ b < w.heap.size ∧ w.cell? ⟨b, o + i * 2, none⟩ = some (.string (bs A i).1) ∧ w.cell? ⟨b, o + i * 2 + 1, none⟩ = some (.string (bs A i).2)) := by
    rcases hA with h0 | ⟨b, o, ea, hS, hcs⟩
    · refine ⟨0, 0, ⟨fun i hi => ?_⟩⟩
      rw [h0] at hal
      simp at hal
      omega
    · refine ⟨b, o, ⟨fun i hi => ⟨ea, hS, ?_, ?_⟩⟩⟩
      · rw [← bs_get A i (by rw [hal]; exact hi)]; exact (hcs i (by rw [hal]; exact hi)).1
      · rw [← bs_get A i (by rw [hal]; exact hi)]; exact (hcs i (by rw [hal]; exact hi)).2
  obtain ⟨W1, hW1⟩ : ∃ W1, w.alloc (.cells #[.int .i64 K, .string N, .string X, .slice a1 al c1, .slice k1 k2 k3] 25) = W1 := ⟨_, rfl⟩
  have hb1 : Below w.heap.size w W1 := by rw [← hW1]; exact (Below.refl _ w).alloc (Nat.le_refl _) _
  have hz1 : W1.heap.size = w.heap.size + 1 := by rw [← hW1]; simp
  have hbx : ∀ i v, (#[.int .i64 K, .string N, .string X, .slice a1 al c1, .slice k1 k2 k3] : Array Value)[i]? = some v → W1.cell? ⟨w.heap.size, i, none⟩ = some v := fun i v h => by
    rw [← hW1]; exact (World.cell?_alloc_new w _ _ i).trans h
  have x1 := hbx 1 _ rfl
  obtain ⟨W2, hW2⟩ : ∃ W2, W1.alloc (.cells #[.string ⟨#[60]⟩, .string N] 9) = W2 := ⟨_, rfl⟩
  have hb2 : Below w.heap.size w W2 := by rw [← hW2]; exact hb1.alloc (by omega) _
  have hz2 : W2.heap.size = w.heap.size + 2 := by rw [← hW2]; simp [hz1]
  have x3 : W2.cell? ⟨w.heap.size, 3, none⟩ = some (.slice a1 al c1) := by
    rw [← hW2, World.cell?_alloc_lt _ _ _ (by show w.heap.size < _; omega)]; exact hbx 3 _ rfl
  have hown0 : W2.ownsRow w.heap.size 9 1 (.slice (some ⟨w.heap.size + 1, 0, none⟩) 2 2) (2 + 5 * 0) (strs (midP N A 0)) := by
    rw [← hz1, ← hW2]
    exact own_lessP (own_new W1 9 [.string ⟨#[60]⟩, .string N] 2 rfl (by decide)) (by omega)
  have HB2 := Fact.mk hb2
  have HO0 := Fact.mk hown0
  have HW1 := Fact.mk hW1
  have HW2 := Fact.mk hW2
  clear hbx hb1 hb2 hown0 hW1 hW2 hA hok hal hm
  go_enter Tryd.func46, Tryd.ntmps46
  go_wp2_with fail
  rw [HW1.out, HW2.out]
  go_wp2_with fail
  clear x1 x3
  go_loopg [3, 12] al (fun gf lv iv wr => ∃ (j : Nat), iv = .int .i64 j ∧ j ≤ al ∧ al - j ≤ gf ∧ Fact (Below w.heap.size w wr) ∧ w.heap.size + 2 ≤ wr.heap.size ∧ Fact (wr.ownsRow w.heap.size 9 1 lv (2 + 5 * j) (strs (midP N A j))))
  case atStart => exact ⟨0, rfl, Nat.zero_le _, by omega, HB2, by omega, HO0⟩
  case round =>
    obtain ⟨j, rfl, hj, hfu, hbr, hzr, hown⟩ := hrel
    obtain ⟨va, vc, rfl⟩ := own_shapeS hown.out
    obtain ⟨i0, hii, hzz0, hzz1, hzz2⟩ := info_parts infoS
    by_cases hlt : j < al
    · obtain ⟨g', rfl⟩ : ∃ g', gk = g' + 1 := ⟨gk - 1, by omega⟩
      obtain ⟨ea, hbb, y0, y1⟩ := hat.out j hlt
      subst ea
      obtain ⟨N', hN'⟩ : ∃ N', (bs A j).1 = N' := ⟨_, rfl⟩
      obtain ⟨V', hV'⟩ : ∃ V', (bs A j).2 = V' := ⟨_, rfl⟩
      rw [hN'] at y0
      rw [hV'] at y1
      have l0 := (hbr.out.cell (p := ⟨b1, o1 + j * 2, none⟩) hbb).trans y0
      have l1 := (hbr.out.cell (p := ⟨b1, o1 + j * 2 + 1, none⟩) hbb).trans y1
      have hV6 : V'.size ≤ 20000 := by
        have h1 : j < A.length := by rw [HLA.out]; exact hlt
        have := (HOK.out.each (bs A j) (by rw [← bs_get A j h1]; exact List.getElem_mem h1)).2
        rw [hV'] at this
        omega
      have HNX : Fact (midP N A (j + 1) = midP N A j ++ [⟨#[32]⟩, N', ⟨#[61, 34]⟩, escS true V', ⟨#[34]⟩]) := ⟨by rw [midP_next N A j (by rw [HLA.out]; exact hlt), hN', hV']⟩
      obtain ⟨E, hE⟩ : ∃ E, escS true V' = E := ⟨_, rfl⟩
      have HE : Fact (escB true V'.data.toList = E.data.toList) := ⟨by rw [← hE]; rfl⟩
      rw [hE] at HNX
      obtain ⟨Wb, hWb⟩ : ∃ Wb, wr.alloc (.cells #[.string N', .string V'] 37) = Wb := ⟨_, rfl⟩
      have hzb : Wb.heap.size = wr.heap.size + 1 := by rw [← hWb]; simp
      have hbb2 : Below w.heap.size w Wb := by rw [← hWb]; exact hbr.out.alloc (by omega) _
      have hownb : Fact (Wb.ownsRow w.heap.size 9 1 (.slice va (2 + 5 * j) vc) (2 + 5 * j) (strs (midP N A j))) := ⟨by rw [← hWb]; exact hown.out.alloc _⟩
      have hS0 : Wb.drew.cell? ⟨wr.heap.size, 0, none⟩ = some (.string N') ∧ Wb.drew.cell? ⟨wr.heap.size, 1, none⟩ = some (.string V') := by
        rw [← hWb]; exact ⟨World.cell?_alloc_new wr _ _ 0, World.cell?_alloc_new wr _ _ 1⟩
      have HLT : Fact (∀ g, (Value.slice va (2 + 5 * j) vc).ownBlock = some g → g < wr.heap.size) := ⟨fun g e => (hown.out.lt g e).2⟩
      have HWB := Fact.mk hWb
      have HBB := Fact.mk hbb2
      have HM2 : Fact (Met Wb.drew) := ⟨HM.out.below hbb2.drew⟩
      have hltb : wr.heap.size < Wb.heap.size := by omega
      have jI : (j : Int) < al := by omega
      have jI0 : (0 : Int) ≤ j := by omega
      clear hWb hbb2 hN' hV' hE y0 y1 hat hown
      go_wp2_with fail
      rw [HWB.out]
      go_region_held3 (fun w' => w'.cell? ⟨wr.heap.size, 0, none⟩ = some (.string N') ∧ w'.cell? ⟨wr.heap.size, 1, none⟩ = some (.string V'))
        (first | with_reducible exact hS0 | with_reducible exact hS2 | with_reducible exact hS3 _ | with_reducible exact hS4)
        (first
          | (refine wp_append_at _ (.tmp 16) (.tmp 22) 42 rfl w.heap.size 9 i0 (.string ⟨#[]⟩) 1 16 Tryd.underlying42 hii hzz0 hzz1 hzz2 rfl (by decide) (.slice va (2 + 5 * j) vc) (2 + 5 * j) (strs (midP N A j)) (by simp [Act.eval]) (HO2.out.alloc _) ⟨w2.heap.size, 0, none⟩ 5 5 [.string ⟨#[32]⟩, .string N', .string ⟨#[61, 34]⟩, .string E, .string ⟨#[34]⟩] (by simp [Act.eval]) rfl (str_cells _ _ _) (by simp [Value.oneCell']) (by unfold maxLen; omega) (by omega) (by simp; omega) ?_; intro v3 w3 hown3 hgrow3 hat3; have HO3 := Fact.mk hown3; have HG3 := Fact.mk hgrow3; have hS4 : w3.cell? ⟨wr.heap.size, 0, none⟩ = some (.string N') ∧ w3.cell? ⟨wr.heap.size, 1, none⟩ = some (.string V') := (by have hbk := (HG3.out.block wr.heap.size (by simp; omega) (fun e => by have := HLT.out _ e.symm; omega)); exact ⟨(World.cell?_of_block (a := ⟨wr.heap.size, 0, none⟩) hbk).trans (hS3 _).1, (World.cell?_of_block (a := ⟨wr.heap.size, 1, none⟩) hbk).trans (hS3 _).2⟩); clear hown3 hgrow3 hat3)
          | (go_at_call 45; refine (escape_at V' E true hV6 HE _ HM2.out).mono ?_; rintro e w2 ⟨rfl, hb2⟩; have hS2 : w2.cell? ⟨wr.heap.size, 0, none⟩ = some (.string N') ∧ w2.cell? ⟨wr.heap.size, 1, none⟩ = some (.string V') := ⟨(hb2.cell (p := ⟨wr.heap.size, 0, none⟩) hltb).trans hS0.1, (hb2.cell (p := ⟨wr.heap.size, 1, none⟩) hltb).trans hS0.2⟩; have hS3 : ∀ o, (w2.alloc o).cell? ⟨wr.heap.size, 0, none⟩ = some (.string N') ∧ (w2.alloc o).cell? ⟨wr.heap.size, 1, none⟩ = some (.string V') := fun o => ⟨(World.cell?_alloc_lt _ _ _ (World.block_lt_of_cell? w2 _ hS2.1)).trans hS2.1, (World.cell?_alloc_lt _ _ _ (World.block_lt_of_cell? w2 _ hS2.2)).trans hS2.2⟩; have HO2 : Fact (w2.ownsRow w.heap.size 9 1 (.slice va (2 + 5 * j) vc) (2 + 5 * j) (strs (midP N A j))) := ⟨own_like hownb.out (fun k _ hz => hb2.block k hz)⟩; have hz2 : Wb.heap.size ≤ w2.heap.size := hb2.size; have HB2 := Fact.mk hb2; clear hb2))
      go_wp2_with fail
      go_roundg g'
      case measure => omega
      case rel =>
        refine ⟨j + 1, by go_num, by omega, by omega, ⟨?_⟩, ?_, ⟨?_⟩⟩
        · have q1 : w.heap.size ≤ Wb.drew.heap.size := HBB.out.size
          have q2 : w.heap.size ≤ w2.heap.size := Nat.le_trans HBB.out.size hz2
          exact ((HBB.out.drew.trans (HB2.out.mono q1)).alloc q2 _).grown HG3.out (by simp; omega) (fun k e => (HO2.out.lt k e).1)
        · have := HG3.out.size; simp at this; omega
        · rw [HNX.out, strs_append]
          have := HO3.out
          rw [show 2 + 5 * (j + 1) = 2 + 5 * j + 5 by omega]
          exact this
    · obtain rfl : j = al := by omega
      have hfin := midP_end ⟨K, N, X, A⟩
      dsimp only at hfin
      rw [HLA.out] at hfin
      have HF := Fact.mk hfin
      have jI : ¬ (j : Int) < j := by omega
      clear hat hfin
      go_wp2_with (at_builtin; refine wpList_append_own _ rfl (.tmp 25) (.tmp 26) 42 rfl w.heap.size 9 i0 (.string ⟨#[]⟩) 1 16 Tryd.underlying42 hii hzz0 hzz1 hzz2 rfl (by decide) (.slice va (2 + 5 * j) vc) (2 + 5 * j) (strs (midP N A j)) rfl (hown.out.alloc _) ⟨wr.heap.size, 0, none⟩ 1 1 [.string ⟨#[62]⟩] rfl rfl (str_cells _ _ _) (by simp [Value.oneCell']) (by unfold maxLen; omega) (by omega) (by simp; omega) ?_; intro v' w1 hown' hgrow _)
      go_ret
      refine ⟨_, rfl, (hbr.out.alloc (by omega) _).grown hgrow (by simp; omega) (fun k e => (hown.out.lt k e).1), ?_⟩
      rw [← HF.out, strs_append, List.length_append, midP_len N A j (by rw [HLA.out]; exact Nat.le_refl _)]
      exact hown'
end Go.Proofs.YtibagbnnplpfgaaDoor
