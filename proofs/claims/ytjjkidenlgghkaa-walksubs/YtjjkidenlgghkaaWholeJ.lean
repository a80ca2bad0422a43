/- whole: a round: the node's copies are laid, its kids come on the stack. -/
import Derived.Test.YtjjkidenlgghkaaWholeC
import Derived.Test.YtjjkidenlgghkaaStM
set_option linter.unusedVariables false
namespace Go.Proofs.Ytjjkidenlgghkaa
open Go.Deep (BT)
open Go.RowKit M

theorem own_lt {W : World} {n E z m g : Nat} {ov : Value} {xs : List Value} (h : W.ownsRow n E z ov m xs) (hb : ov.ownBlock = some g) : n ≤ g ∧ g < W.heap.size := by
  rcases h.2 with ⟨rfl, _⟩ | ⟨g', cap, cur, rfl, hg, hh, _⟩
  · cases hb
  · cases hb
    exact ⟨hg, (Array.getElem?_eq_some_iff.1 hh).1⟩
/-- behind the two stores -/
structure End6 (n : Nat) (R : Nat × Nat) (g : Nat) (W W4 : World) (b o : Nat) (k1 : M.F) (ka : Option Addr) (kc : Nat) : Prop where
  pd : ∀ p, PdOK n R g W p → PdOK n R g W4 p
  c4 : W4.cell? ⟨b, o + 4, none⟩ = some (.slice ka k1.len kc)
  kids : k1.len = 0 ∨ ∃ kb, ka = some ⟨kb, 0, none⟩ ∧ W.heap.size ≤ kb ∧ kb < W4.heap.size ∧ (∀ q, W4.frozen? ⟨kb, q, none⟩ = false) ∧ FAt (Ne R g) W4 k1 kb 0
  cap : k1.len ≤ kc
  size : W.heap.size ≤ W4.heap.size
  blocks : ∀ c, c < W.heap.size → c ≠ b → W4.heap[c]? = W.heap[c]?
  os : W4.os = W.os
  tape : W4.tape = W.tape
  output : W4.output = W.output
theorem set_block {W : World} {a : Addr} {v : Value} {c : Nat} (h : c ≠ a.block) : (W.setCell a v).heap[c]? = W.heap[c]? := Below.heap_setCell W a v c h
theorem end6 {n g b o m c : Nat} {R : Nat × Nat} {d1 : Nd} {k1 : M.F} {W W3 : World} {av av' : Value} {ka ka' : Option Addr} {kc' : Nat} {xs : List Value} (hp : PdOK n R g W ⟨b, o, .cons d1 k1 .nil⟩) (hg : g < W.heap.size) (hR : R.1 < W.heap.size ∧ R.2 < W.heap.size)
    (c3 : W.cell? ⟨b, o + 3, none⟩ = some av) (c4 : W.cell? ⟨b, o + 4, none⟩ = some (.slice ka k1.len c)) (ha : AS (Ne R g) W av d1.ats) (hb : Below W.heap.size W W3)
    (ha' : AS (fun b => W.heap.size ≤ b) W3 av' d1.ats) (hx : xs.length = k1.len * 5) (hc : k1.len = 0 ∨ ∃ b o, ka = some ⟨b, o, none⟩ ∧ ∀ j u, xs[j]? = some u → W.cell? ⟨b, o + j, none⟩ = some u)
    (hn : k1.len ≤ kc') (hn2 : kc' ≤ maxLen) (ho : k1.len = 0 ∨ W3.ownsRow m 25 5 (.slice ka' k1.len kc') k1.len xs) (hm : W.heap.size ≤ m) :
    End6 n R g W ((W3.setCell ⟨b, o + 3, none⟩ av').setCell ⟨b, o + 4, none⟩ (.slice ka' k1.len kc')) b o k1 ka' kc' := by
  obtain ⟨W4, hW4⟩ : ∃ W4, (W3.setCell ⟨b, o + 3, none⟩ av').setCell ⟨b, o + 4, none⟩ (.slice ka' k1.len kc') = W4 := ⟨_, rfl⟩
  rw [hW4]
  have hlt : b < W.heap.size := hp.lt
  have hsz : W4.heap.size = W3.heap.size := by rw [← hW4]; simp [World.setCell]
  have hbl : ∀ c, c ≠ b → W4.heap[c]? = W3.heap[c]? := fun c hc => by
    rw [← hW4, set_block (a := ⟨b, o + 4, none⟩) hc, set_block (a := ⟨b, o + 3, none⟩) hc]
  have e3 : W3.cell? ⟨b, o + 3, none⟩ = some av := (hb.cell (p := ⟨b, o + 3, none⟩) hlt).trans c3
  have e4 : W3.cell? ⟨b, o + 4, none⟩ = some (.slice ka k1.len c) := (hb.cell (p := ⟨b, o + 4, none⟩) hlt).trans c4
  have e4' : (W3.setCell ⟨b, o + 3, none⟩ av').cell? ⟨b, o + 4, none⟩ = some (.slice ka k1.len c) := by
    rw [World.cell?_setCell_other _ _ _ _ (by intro h; injection h with _ h _; omega)]; exact e4
  have r4 : W4.cell? ⟨b, o + 4, none⟩ = some (.slice ka' k1.len kc') := by rw [← hW4]; exact World.cell?_setCell_same _ _ _ e4'
  have r3 : W4.cell? ⟨b, o + 3, none⟩ = some av' := by
    rw [← hW4, World.cell?_setCell_other _ _ _ _ (by intro h; injection h with _ h _; omega)]
    exact World.cell?_setCell_same _ _ _ e3
  have rest : ∀ a : Addr, a ≠ ⟨b, o + 3, none⟩ → a ≠ ⟨b, o + 4, none⟩ → W4.cell? a = W3.cell? a := fun a h3 h4 => by
    rw [← hW4, World.cell?_setCell_other _ _ _ _ (Ne.symm h4), World.cell?_setCell_other _ _ _ _ (Ne.symm h3)]
  have hlike : Like (fun b => W.heap.size ≤ b) W3 W4 := fun c hc _ => hbl c (by omega)
  have ha4 : AS (fun b => W.heap.size ≤ b) W4 av' d1.ats := ha'.like hlike
  have ho4 : k1.len = 0 ∨ W4.ownsRow m 25 5 (.slice ka' k1.len kc') k1.len xs := ho.imp id (fun h => own_block h (fun c hc _ => hbl c (by
    rcases h.2 with ⟨e, _⟩ | ⟨g', cap, cur, e, hg', _⟩
    · rw [e] at hc; cases hc
    · rw [e] at hc; have := own_blk1 hc; omega)))
  have hS : ∀ c, W.heap.size ≤ c → Ne R g c := fun c hc => ⟨by omega, by omega, by omega⟩
  have ht : Turn (Ne R g) W W4 av av' (.slice ka k1.len c) (.slice ka' k1.len kc') := by
    refine ⟨fun c q v hv => ?_, copyA ha ha4 hS, copyT hx hc hn hn2 ho4 (fun c hc => hS c (by omega)), ⟨_, ha⟩⟩
    have hv3 : W3.cell? ⟨c, q, none⟩ = some v := (hb.cell (p := ⟨c, q, none⟩) (World.block_lt_of_cell? W _ hv)).trans hv
    by_cases h3 : (⟨c, q, none⟩ : Addr) = ⟨b, o + 3, none⟩
    · rw [h3] at hv
      rw [c3] at hv
      exact .inr (.inl ⟨(Option.some.inj hv).symm, by rw [h3]; exact r3⟩)
    by_cases h4 : (⟨c, q, none⟩ : Addr) = ⟨b, o + 4, none⟩
    · rw [h4] at hv
      rw [c4] at hv
      exact .inr (.inr ⟨(Option.some.inj hv).symm, by rw [h4]; exact r4⟩)
    · exact .inl (by rw [rest _ h3 h4]; exact hv3)
  have hfz : ∀ a : Addr, a.block < W.heap.size → W4.frozen? a = W.frozen? a := fun a ha => by
    rw [← hW4, World.frozen?_setCell, World.frozen?_setCell]
    exact hb.frozen ha
  have hsz2 : W.heap.size ≤ W4.heap.size := by rw [hsz]; exact hb.size
  have hpd := PdOK.turn ht hfz hsz2 hp
  refine ⟨fun p h => PdOK.turn ht hfz hsz2 h, r4, ?_, hn, hsz2, fun c hc hne => by rw [hbl c hne]; exact hb.block c hc, by rw [← hW4]; exact hb.os, by rw [← hW4]; exact hb.tape, by rw [← hW4]; exact hb.output⟩
  obtain ⟨⟨_, _, _, _, _, _, _, z4, _, _, _, zk⟩, _⟩ := hpd.at_
  rw [r4] at z4
  have z5 := Option.some.inj z4
  simp only [Value.slice.injEq] at z5
  obtain ⟨rfl, _, rfl⟩ := z5
  rcases ho4 with h0 | ho4
  · exact .inl h0
  rcases zk with zk | ⟨kb, ko, rfl, _, zk⟩
  · exact .inl zk
  rcases ho4.2 with ⟨_, hz⟩ | ⟨g', cap, cur, e, hg', hh, _⟩
  · exact .inl hz
  · simp only [Value.slice.injEq, Option.some.injEq, Addr.mk.injEq] at e
    obtain ⟨⟨rfl, rfl, _⟩, _, rfl⟩ := e
    exact .inr ⟨kb, rfl, by omega, (Array.getElem?_eq_some_iff.1 hh).1, fun q => by simp [World.frozen?, hh], zk⟩
/-- the round's beginning: the last one is taken off, its copies are laid -/
theorem WInv.end6 {w : World} {Q : Nat} {d : Nd} {k : M.F} {N g : Nat} {W W4 : World} {ov ov0 : Value} {ps0 : List Pd} {b o : Nat} {d1 : Nd} {k1 : M.F} {ka : Option Addr} {kc : Nat} (h : WInv w Q d k N g W ov (ps0 ++ [⟨b, o, .cons d1 k1 .nil⟩]))
    (ho : W.ownsRow w.heap.size 85 1 ov0 ps0.length (ps0.map ptrP)) (hb0 : ov0.ownBlock = some g) (he : End6 w.heap.size (w.heap.size + 1, Q) g W W4 b o k1 ka kc) : WInv w Q d k N g W4 ov0 ps0 := by
  have hp := h.pend _ (List.mem_append_right _ List.mem_cons_self)
  have hgl := own_lt h.own h.blk
  have hbn : w.heap.size ≤ b := hp.ge
  have hbg : b ≠ g := hp.ne.1
  have hbR : b ≠ w.heap.size + 1 := hp.ne.2.1
  have hR : w.heap.size + 1 < W.heap.size := (Array.getElem?_eq_some_iff.1 h.res).1
  have htot := h.sum
  rw [tot_append] at htot
  refine ⟨h.q, ⟨he.os.trans h.below.os, he.tape.trans h.below.tape, he.output.trans h.below.output, Nat.le_trans h.below.size he.size, fun c hc => ?_⟩, own_block ho (fun c hc hlt => ?_), hb0, h.gne, he.pd _ h.box, ?_, fun p hp => he.pd _ (h.pend p (List.mem_append_left _ hp)), by omega⟩
  · rw [he.blocks c (Nat.lt_of_lt_of_le hc h.below.size) (by omega)]
    exact h.below.block c hc
  · have : c = g := by rw [hb0] at hc; exact Option.some.inj hc
    exact he.blocks c hlt (by rw [this]; exact fun e => hbg e.symm)
  · rw [he.blocks _ hR (fun e => hbR e.symm)]
    exact h.res
/-- one more on the stack -/
theorem WInv.push {w : World} {Q : Nat} {d : Nd} {k : M.F} {N g : Nat} {W W2 : World} {ov ov' : Value} {ps : List Pd} {p : Pd} (h : WInv w Q d k N g W ov ps) (hp : PdOK w.heap.size (w.heap.size + 1, Q) g W p) (ht : tot ps + p.f.size ≤ N) {o1 : Obj}
    (ho : W2.ownsRow w.heap.size 85 1 ov' (ps.length + 1) (ps.map ptrP ++ [ptrP p])) (hg : (W.alloc o1).grownBy W2 ov.ownBlock) (hl : ov'.ownBlock = ov.ownBlock ∨ ov'.ownBlock = some (W.heap.size + 1)) :
    ∃ g', WInv w Q d k N g' W2 ov' (ps ++ [p]) ∧ Nx (w.heap.size + 1, Q) g g' W W2 ∧ W.heap.size ≤ W2.heap.size := by
  have hgl := own_lt h.own h.blk
  have hR : w.heap.size + 1 < W.heap.size := (Array.getElem?_eq_some_iff.1 h.res).1
  rw [h.blk] at hg hl
  have hs1 : (W.alloc o1).heap.size = W.heap.size + 1 := by simp
  have hsz : W.heap.size ≤ W2.heap.size := by have := hg.size; omega
  have hbl : ∀ c, c < W.heap.size → c ≠ g → W2.heap[c]? = W.heap[c]? := fun c hc hne => by
    rw [hg.block c (by omega) (by simp only [ne_eq, Option.some.injEq]; exact hne)]
    exact Below.heap_alloc W o1 c hc
  obtain ⟨g', hb', hnew⟩ : ∃ g', ov'.ownBlock = some g' ∧ (g' = g ∨ W.heap.size ≤ g') := by
    rcases hl with hl | hl
    · exact ⟨g, hl, .inl rfl⟩
    · exact ⟨_, hl, .inr (by omega)⟩
  have hnx : Nx (w.heap.size + 1, Q) g g' W W2 := ⟨fun c hc hlt => hbl c hlt hc.1, hnew⟩
  refine ⟨g', ⟨h.q, ⟨hg.os.trans h.below.os, hg.tape.trans h.below.tape, hg.output.trans h.below.output, Nat.le_trans h.below.size hsz, fun c hc => ?_⟩, by rw [List.length_append, List.map_append]; exact ho, hb', by rcases hnew with e | e; (rw [e]; exact h.gne); omega, h.box.nx hnx hsz, ?_, ?_, ?_⟩, hnx, hsz⟩
  · rw [hbl c (Nat.lt_of_lt_of_le hc h.below.size) (by have := hgl.1; omega)]
    exact h.below.block c hc
  · rw [hbl _ hR (fun e => h.gne e.symm)]
    exact h.res
  · intro q hq
    rcases List.mem_append.1 hq with hq | hq
    · exact (h.pend q hq).nx hnx hsz
    · rw [List.mem_singleton] at hq
      subst hq
      exact hp.nx hnx hsz
  · rw [tot_append]
    show tot ps + (p.f.size + 0) ≤ N
    omega
theorem kidsP_le (b : Nat) : ∀ (f : M.F) (o i : Nat), tot (kidsP b o f i) ≤ f.size
  | .nil, _, 0 => by simp [kidsP, tot]
  | .nil, _, i + 1 => by simp [kidsP, tot]
  | .node xb xo d k r, _, 0 => by simp [kidsP, tot]
  | .node xb xo d k r, o, i + 1 => by
    have := kidsP_le b r (o + 5) i
    show (M.F.cons d k .nil).size + tot (kidsP b (o + 5) r i) ≤ _
    simp only [BT.size]
    omega
end Go.Proofs.Ytjjkidenlgghkaa
