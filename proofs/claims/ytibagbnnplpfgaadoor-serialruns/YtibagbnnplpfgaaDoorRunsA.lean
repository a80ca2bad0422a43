/- SerialRuns, walked: texts next to one another are one; others between them part them. (Plain terms; what lies in memory; the walk.) -/
import Derived.Test.YtibagbnnplpfgaaDoorSrM
import Derived.Test.YtibagbnnplpfgaaDoorTag
import Derived.Test.YtibagbnnplpfgaaDoorGrowM
import Derived.Test.YtibagbnnplpfgaaDoorSm
import Derived.Test.YtibagbnnplpfgaaDoorTextP
import Derived.Test.YtibagbnnplpfgaaDoorJnAll
import Derived.Test.YtibagbnnplpfgaaDoorNext
import Derived.Lib.Strings
set_option linter.unusedVariables false
set_option linter.unusedSimpArgs false
namespace Go.Proofs.YtibagbnnplpfgaaDoor
open Go.Deep (BT)
open Go.RowKit M
namespace Runs

/-- letters a to f alone -/
def Lts (x : ByteArray) : Prop := ∀ b ∈ x.data.toList, 97 ≤ b.toNat ∧ b.toNat ≤ 102
def bD : Nd := ⟨2, ⟨#[98]⟩, ⟨#[]⟩, []⟩
def tD (x : ByteArray) : Nd := ⟨3, ⟨#[]⟩, x, []⟩
/-- the leaves that are met -/
def Lf (d : Nd) : Prop := d = bD ∨ ∃ x, Lts x ∧ d = tD x
def lp (d : Nd) : PT := (d, .nil)
def lfF (L : List Nd) : F := ofL (L.map lp)
theorem lfF_toL (L : List Nd) : toL (lfF L) = L.map lp := toL_ofL _
theorem lfF_len (L : List Nd) : (lfF L).len = L.length := by rw [lfF, ofL_len, List.length_map]
theorem lts_app {a b : ByteArray} (h : Lts a) (k : Lts b) : Lts (a ++ b) := by
  intro c hc
  rw [ByteArray.data_append, Array.toList_append] at hc
  rcases List.mem_append.1 hc with h1 | h1
  · exact h c h1
  · exact k c h1
theorem lts_nil : Lts ⟨#[]⟩ := fun c hc => by cases hc
theorem esc_lts : ∀ l : List UInt8, (∀ b ∈ l, 97 ≤ b.toNat ∧ b.toNat ≤ 102) → escB false l = l
  | [], _ => escB_nil _
  | c :: r, h => by
    have hc := h c List.mem_cons_self
    have hne : ∀ k : UInt8, (k.toNat < 97 ∨ 102 < k.toNat) → c ≠ k := fun k hk e => by rw [e] at hc; omega
    rw [escB_one (fun h2 => hne 194 (by decide) h2.1), esc_lts r (fun b hb => h b (List.mem_cons_of_mem _ hb))]
    unfold sgn
    rw [if_neg (hne 38 (by decide)), if_neg (hne 60 (by decide)), if_neg (hne 62 (by decide)), if_neg (fun h2 => hne 34 (by decide) h2.1)]
    rfl
/-- one leaf's source -/
def sP (d : Nd) : List UInt8 := fltP (pcs false (.node 0 0 d .nil .nil))
theorem sP_text {x : ByteArray} (h : Lts x) : sP (tD x) = x.data.toList := by
  unfold sP
  rw [pcs]
  have h1 : insK (tD x) = false := rfl
  have h2 : insE (tD x) = ⟨#[]⟩ := rfl
  have h3 : begP (tD x) false = [escS false x] := rfl
  rw [h1, h2, h3]
  simp only [Bool.false_eq_true, if_false, pcs, List.nil_append]
  show (escS false x).data.toList ++ [] = _
  rw [List.append_nil, escS_data, esc_lts _ h]
theorem src_list : ∀ l : List PT, (∀ p ∈ l, p.2 = .nil) → fltP (pcs false (ofL l)) = l.flatMap fun p => sP p.1
  | [], _ => rfl
  | p :: l, h => by
    have ih := src_list l (fun q hq => h q (List.mem_cons_of_mem _ hq))
    have hp := h p List.mem_cons_self
    rw [List.flatMap_cons, ← ih]
    show fltP (pcs false (.node _ _ p.1 p.2 (ofL l))) = _
    rw [hp, sP, pcs, pcs]
    simp only [fltP_append, fltP_cons, pcs, fltP_nil, List.append_nil, List.append_assoc]

/-- what holds while the list grows: the leaves, what is made of them (the last one first), the texts that are wanted, is the last one a text -/
structure Inv (L : List Nd) (D : List PT) (W : List ByteArray) (run : Bool) : Prop where
  eq : D = (L.map lp).foldl jstP []
  leaf : ∀ d ∈ L, Lf d ∧ d.x.size ≤ 1
  out : ∀ p ∈ D, Lf p.1 ∧ p.2 = .nil ∧ p.1.x.size ≤ L.length ∧ emp p.1 = false
  want : W = (D.map fun p => p.1.x).reverse
  head : run = (match D with | [] => false | p :: _ => p.1.k == 3)
  src : D.reverse.flatMap (fun p => sP p.1) = L.flatMap sP
theorem Inv.start : Inv [] [] [] false := ⟨rfl, fun d h => (by cases h), fun d h => (by cases h), rfl, rfl, rfl⟩
theorem fold_snoc (L : List Nd) (d : Nd) : ((L ++ [d]).map lp).foldl jstP [] = jstP ((L.map lp).foldl jstP []) (lp d) := by simp
theorem jst_emp {D : List PT} {p : PT} (h : emp p.1 = true) : jstP D p = D := by unfold jstP; rw [if_pos h]
theorem jst_new {D : List PT} {p : PT} (h : emp p.1 = false) (hf : ∀ q t, D = q :: t → fit2 q.1 p.1 = false) : jstP D p = p :: D := by
  unfold jstP
  rw [if_neg (by simp [h])]
  cases D with
  | nil => rfl
  | cons q t => dsimp only; rw [if_neg (by simp [hf q t rfl])]
theorem jst_fit {q p : PT} {t : List PT} (h : emp p.1 = false) (hf : fit2 q.1 p.1 = true) : jstP (q :: t) p = (addT q.1 p.1, q.2) :: t := by
  unfold jstP
  rw [if_neg (by simp [h])]
  dsimp only
  rw [if_pos hf]
variable {L : List Nd} {D : List PT} {W : List ByteArray} {run : Bool}
theorem sizes_up (h : Inv L D W run) (d : Nd) : ∀ p ∈ D, Lf p.1 ∧ p.2 = .nil ∧ p.1.x.size ≤ (L ++ [d]).length ∧ emp p.1 = false := fun p hp => by
  obtain ⟨h1, h2, h3, h4⟩ := h.out p hp
  exact ⟨h1, h2, by rw [List.length_append]; omega, h4⟩
theorem leaf_up (h : Inv L D W run) {d : Nd} (hd : Lf d) (h1 : d.x.size ≤ 1) : ∀ x ∈ L ++ [d], Lf x ∧ x.x.size ≤ 1 := fun x hx => by
  rcases List.mem_append.1 hx with hx | hx
  · exact h.leaf x hx
  · obtain rfl := List.mem_singleton.1 hx; exact ⟨hd, h1⟩
theorem fit_not3 (q : Nd) (d : Nd) (h : d.k ≠ 3) : fit2 q d = false := by
  unfold fit2
  rw [beq_eq_false_iff_ne.2 h]
  simp
theorem fit_not3' (q : Nd) (d : Nd) (h : (q.k == 3) = false) : fit2 q d = false := by
  unfold fit2
  rw [h]
  simp
/-- an element -/
theorem Inv.el (h : Inv L D W run) : Inv (L ++ [bD]) (lp bD :: D) (W ++ [⟨#[]⟩]) false := by
  have he : emp bD = false := rfl
  refine ⟨?_, leaf_up h (.inl rfl) (Nat.zero_le _), ?_, ?_, rfl, ?_⟩
  · rw [fold_snoc, ← h.eq, jst_new he (fun q t _ => fit_not3 _ _ (by decide))]
  · intro p hp
    rcases List.mem_cons.1 hp with rfl | hp
    · exact ⟨.inl rfl, rfl, Nat.zero_le _, he⟩
    · exact sizes_up h bD p hp
  · rw [h.want, List.map_cons, List.reverse_cons]; rfl
  · rw [List.reverse_cons, List.flatMap_append, List.flatMap_append, h.src]; simp [lp]
/-- an empty text -/
theorem Inv.none (h : Inv L D W run) : Inv (L ++ [tD ⟨#[]⟩]) D W run := by
  refine ⟨?_, leaf_up h (.inr ⟨_, lts_nil, rfl⟩) (Nat.zero_le _), sizes_up h _, h.want, h.head, ?_⟩
  · rw [fold_snoc, ← h.eq, jst_emp (by unfold emp lp tD; rw [Lib.toList_data]; rfl)]
  · rw [List.flatMap_append, h.src]
    have : sP (tD ⟨#[]⟩) = [] := by rw [sP_text lts_nil]
    simp [this]
theorem emp_one {x : ByteArray} (h : x.size ≠ 0) : emp (tD x) = false := by
  unfold emp
  rw [Bool.and_eq_false_iff]
  right
  rw [beq_eq_false_iff_ne]
  intro e
  apply h
  have e : x.toList = [] := e
  rw [Lib.toList_data] at e
  have := congrArg List.length e
  rw [data_len] at this
  exact this
/-- a text behind none -/
theorem Inv.one (h : Inv L D W false) {x : ByteArray} (hx : Lts x) (h1 : x.size = 1) : Inv (L ++ [tD x]) (lp (tD x) :: D) (W ++ [x]) true := by
  have he : emp (tD x) = false := emp_one (by omega)
  refine ⟨?_, leaf_up h (.inr ⟨_, hx, rfl⟩) (Nat.le_of_eq h1), ?_, ?_, rfl, ?_⟩
  · rw [fold_snoc, ← h.eq, jst_new he (fun q t e => fit_not3' _ _ (by have := h.head; rw [e] at this; exact this.symm))]
  · intro p hp
    rcases List.mem_cons.1 hp with rfl | hp
    · exact ⟨.inr ⟨_, hx, rfl⟩, rfl, by rw [List.length_append]; show x.size ≤ _; simp; omega, he⟩
    · exact sizes_up h _ p hp
  · rw [h.want, List.map_cons, List.reverse_cons]; rfl
  · rw [List.reverse_cons, List.flatMap_append, List.flatMap_append, h.src]; simp [lp]
/-- a text behind one -/
theorem Inv.two (h : Inv L D W true) {x : ByteArray} (hx : Lts x) (h1 : x.size = 1) (hL : L.length ≤ 40) : ∃ (q : ByteArray) (W0 : List ByteArray) (D0 : List PT), W = W0 ++ [q] ∧ q.size ≤ L.length ∧ D = lp (tD q) :: D0 ∧ Inv (L ++ [tD x]) (lp (tD (q ++ x)) :: D0) (W0 ++ [q ++ x]) true := by
  have he : emp (tD x) = false := emp_one (by omega)
  cases hD : D with
  | nil => have := h.head; rw [hD] at this; cases this
  | cons p t =>
    have hh := h.head
    rw [hD] at hh
    dsimp only at hh
    obtain ⟨o1, o2, o3, o4⟩ := h.out p (by rw [hD]; exact List.mem_cons_self)
    obtain ⟨d, k⟩ := p
    dsimp only at o1 o2 o3 o4 hh
    subst o2
    rcases o1 with rfl | ⟨q, hq, rfl⟩
    · cases hh
    · have hqs : q.size ≤ L.length := o3
      have hfit : fit2 (tD q) (tD x) = true := by
        unfold fit2
        show (true && true && decide (q.size + x.size ≤ 4096)) = true
        rw [decide_eq_true (by omega)]; rfl
      have hqx : (q ++ x).size = q.size + 1 := by rw [ByteArray.size_append, h1]
      refine ⟨q, (t.map fun p => p.1.x).reverse, t, ?_, hqs, rfl, ⟨?_, leaf_up h (.inr ⟨_, hx, rfl⟩) (Nat.le_of_eq h1), ?_, ?_, rfl, ?_⟩⟩
      · rw [h.want, hD, List.map_cons, List.reverse_cons]; rfl
      · rw [fold_snoc, ← h.eq, hD, jst_fit he hfit]; rfl
      · intro p hp
        rcases List.mem_cons.1 hp with rfl | hp
        · exact ⟨.inr ⟨_, lts_app hq hx, rfl⟩, rfl, by show (q ++ x).size ≤ _; rw [hqx, List.length_append]; simp; omega, emp_one (by omega)⟩
        · exact sizes_up h _ p (by rw [hD]; exact List.mem_cons_of_mem _ hp)
      · rw [List.map_cons, List.reverse_cons]; rfl
      · have hs := h.src
        rw [hD, List.reverse_cons, List.flatMap_append] at hs
        rw [List.reverse_cons, List.flatMap_append, List.flatMap_append, ← hs]
        have e1 : sP (tD (q ++ x)) = q.data.toList ++ x.data.toList := by rw [sP_text (lts_app hq hx), ByteArray.data_append, Array.toList_append]
        have e2 := sP_text hq
        have e3 := sP_text hx
        simp only [List.flatMap_cons, List.flatMap_nil, List.append_nil, lp, List.append_assoc]
        rw [e1, e2, e3]
theorem jn_nil {l : List PT} (h : ∀ p ∈ l, p.2 = .nil) : l.map jn2 = l := by
  induction l with
  | nil => rfl
  | cons p l ih =>
    have hp := h p List.mem_cons_self
    rw [List.map_cons, ih (fun q hq => h q (List.mem_cons_of_mem _ hq))]
    obtain ⟨d, k⟩ := p
    dsimp only at hp
    subst hp
    rfl
/-- what Join makes of it -/
theorem Inv.join (h : Inv L D W run) : joinF (lfF L) = ofL D.reverse := by
  rw [joinF_shallow, lfF_toL, ← h.eq, jn_nil (fun p hp => (h.out p hp).2.1)]
theorem Inv.join_len (h : Inv L D W run) : (joinF (lfF L)).len = W.length := by
  rw [h.join, ofL_len, h.want]; simp
theorem Inv.join_src (h : Inv L D W run) : fltP (pcs false (joinF (lfF L))) = fltP (pcs false (lfF L)) := by
  rw [h.join, src_list _ (fun p hp => (h.out p (List.mem_reverse.1 hp)).2.1), h.src, lfF, src_list _ (fun p hp => ?_)]
  · rw [List.flatMap_map]; rfl
  · obtain ⟨d, _, rfl⟩ := List.mem_map.1 hp
    rfl
theorem Inv.ok (h : Inv L D W run) (hL : L.length ≤ 40) : allF OKnd (lfF L) := by
  unfold lfF
  refine allF_ofL (fun p hp => ?_)
  obtain ⟨d, hd, rfl⟩ := List.mem_map.1 hp
  obtain ⟨h1, h2⟩ := h.leaf d hd
  have hb : bD.n.size = 1 := rfl
  refine ⟨⟨?_, ?_, by show d.x.size ≤ 6000; omega, ?_⟩, trivial⟩
  · rcases h1 with rfl | ⟨x, _, rfl⟩ <;> exact Nat.zero_le _
  · rcases h1 with rfl | ⟨x, _, rfl⟩
    · show bD.n.size ≤ 200; omega
    · exact Nat.zero_le _
  · rcases h1 with rfl | ⟨x, _, rfl⟩ <;> (intro p hp; cases hp)
end Runs
end Go.Proofs.YtibagbnnplpfgaaDoor
namespace Go.Proofs.YtibagbnnplpfgaaDoor
open Go.Deep (BT)
open Go.RowKit M
namespace Runs
abbrev tP : ByteArray := ⟨#[112]⟩
/-- a leaf, as it lies -/
def nw (d : Nd) : Nw := ⟨d, .nil, .slice none 0 0, .slice none 0 0⟩
/-- the tree's box, its kids, the texts that are wanted -/
structure MS (w wr : World) (rows : List Nw) (W : List ByteArray) (kv wv : Value) : Prop where
  five : Five wr w.heap.size (.int .i64 2) (.string tP) (.string ⟨#[]⟩) (.slice none 0 0) kv
  kids : wr.ownsRow (w.heap.size + 1) 25 5 kv rows.length (rowF rows)
  want : wr.ownsRow (w.heap.size + 1) 9 1 wv W.length (strs W)
  below : Below w.heap.size w wr
theorem own_heap {w : World} {B E z n : Nat} {v : Value} {xs : List Value} (h : w.ownsRow B E z v n xs) {g : Nat} (hg : v.ownBlock = some g) : ∃ cur fr, w.heap[g]? = some (.cells cur E fr) := by
  rcases h.2 with ⟨rfl, _⟩ | ⟨g', cap, cur, rfl, hg', hh, _⟩
  · cases hg
  · have : g' = g := Option.some.inj hg
    subst this
    exact ⟨_, _, hh⟩
theorem own_apart {w : World} {B E E' z z' n n' : Nat} {v v' : Value} {xs xs' : List Value} (hne : E ≠ E') (h : w.ownsRow B E z v n xs) (h' : w.ownsRow B E' z' v' n' xs') : v.ownBlock = none ∨ v.ownBlock ≠ v'.ownBlock := by
  cases hv : v.ownBlock with
  | none => exact .inl rfl
  | some g =>
    right
    intro e
    obtain ⟨c1, f1, e1⟩ := own_heap h hv
    obtain ⟨c2, f2, e2⟩ := own_heap h' e.symm
    rw [e1] at e2
    cases e2
    exact hne rfl
variable {w wr w9 : World} {rows : List Nw} {W : List ByteArray} {kv wv v9 : Value}
theorem MS.drew (h : MS w wr rows W kv wv) : MS w wr.drew rows W kv wv := ⟨⟨h.five.c0, h.five.c1, h.five.c2, h.five.c3, h.five.c4, h.five.fz⟩, h.kids, h.want, h.below.drew⟩
theorem MS.of_heap (h : MS w wr rows W kv wv) (e : w9.heap = wr.heap) (e1 : w9.os = wr.os) (e2 : w9.tape = wr.tape) (e3 : w9.output = wr.output) : MS w w9 rows W kv wv :=
  ⟨h.five.same (by rw [e]), own_block h.kids (fun _ _ _ => by rw [e]), own_block h.want (fun _ _ _ => by rw [e]), ⟨e1.trans h.below.os, e2.trans h.below.tape, e3.trans h.below.output, by rw [e]; exact h.below.size, fun k hk => by rw [e]; exact h.below.block k hk⟩⟩
theorem MS.box (h : MS w wr rows W kv wv) : w.heap.size < wr.heap.size := h.five.lt
theorem MS.below' {o : Obj} {row : Option Nat} (h : MS w wr rows W kv wv) (hr : ∀ k, row = some k → w.heap.size + 1 ≤ k) (hg : (wr.alloc o).grownBy w9 row) : Below (w.heap.size + 1) wr w9 :=
  ((Below.refl _ wr).alloc (by have := h.box; omega) _).grown hg (by have := h.box; simp; omega) hr
/-- a kid more -/
theorem MS.kid {o : Obj} {n : Nat} {r : Nw} (h : MS w wr rows W kv wv) (hn : rows.length = n) (h9 : w9.ownsRow (w.heap.size + 1) 25 5 v9 (n + 1) (rowF rows ++ cells5 r)) (hg : (wr.alloc o).grownBy w9 kv.ownBlock) :
    Five w9 w.heap.size (.int .i64 2) (.string tP) (.string ⟨#[]⟩) (.slice none 0 0) kv ∧ MS w (w9.setCell ⟨w.heap.size, 4, none⟩ v9) (rows ++ [r]) W v9 wv := by
  have hb := h.below' (fun k e => (h.kids.lt k e).1) hg
  have f9 := h.five.same (hb.block w.heap.size (Nat.lt_succ_self _))
  refine ⟨f9, f9.put4 v9, ?_, ?_, (h.below.trans (hb.mono (by omega))).setCell (Nat.le_refl _) _⟩
  · rw [List.length_append, List.length_singleton, rowF_snoc, hn]
    exact ownsRow_setCell_below h9 (by show w.heap.size < _; omega) _
  · refine ownsRow_setCell_below ?_ (by show w.heap.size < _; omega) _
    exact (h.want.alloc o).kept hg (own_apart (by decide) h.want h.kids)
/-- a text more that is wanted -/
theorem MS.more {o : Obj} {m : Nat} {s : ByteArray} (h : MS w wr rows W kv wv) (hm : W.length = m) (h9 : w9.ownsRow (w.heap.size + 1) 9 1 v9 (m + 1) (strs W ++ [.string s])) (hg : (wr.alloc o).grownBy w9 wv.ownBlock) : MS w w9 rows (W ++ [s]) kv v9 := by
  have hb := h.below' (fun k e => (h.want.lt k e).1) hg
  refine ⟨h.five.same (hb.block w.heap.size (Nat.lt_succ_self _)), ?_, ?_, h.below.trans (hb.mono (by omega))⟩
  · exact (h.kids.alloc o).kept hg (own_apart (by decide) h.kids h.want)
  · rw [List.length_append, List.length_singleton, strs_append, hm]; exact h9
theorem own1_put {w : World} {B E g m cap : Nat} {l : ByteArray} {t : List ByteArray} (s : ByteArray) (h : w.ownsRow B E 1 (.slice (some ⟨g, 0, none⟩) (m + 1) cap) (m + 1) (strs (t ++ [l]))) (hm : t.length = m) :
    (w.setCell ⟨g, m, none⟩ (.string s)).ownsRow B E 1 (.slice (some ⟨g, 0, none⟩) (m + 1) cap) (m + 1) (strs (t ++ [s])) := by
  obtain ⟨h1, h2⟩ := h
  have hl : (strs t).length = m := by rw [strs_len, hm]
  refine ⟨by rw [strs_len]; simp [hm], .inr ?_⟩
  rcases h2 with ⟨e, _⟩ | ⟨g', cap', cur, e, hg, hh, hc1, hc2, hs, ht⟩
  · cases e
  · cases e
    refine ⟨g, cap, cur.setIfInBounds m (.string s), rfl, hg, ?_, hc1, hc2, by simpa using hs, ?_⟩
    · simp only [World.setCell, Array.getElem?_modify, hh]
      simp
    · rw [Array.toList_setIfInBounds, List.take_set, ht, strs_append, strs_append, List.set_append, if_neg (by omega), hl, show m - m = 0 by omega]
      rfl
/-- the last text that is wanted, turned -/
theorem MS.put {m g cap : Nat} {W0 : List ByteArray} {q s : ByteArray} (h : MS w wr rows (W0 ++ [q]) kv (.slice (some ⟨g, 0, none⟩) (m + 1) cap)) (hm : W0.length = m) :
    (wr.cell? ⟨g, m, none⟩ = some (.string q) ∧ wr.frozen? ⟨g, m, none⟩ = false) ∧ MS w (wr.setCell ⟨g, m, none⟩ (.string s)) rows (W0 ++ [s]) kv (.slice (some ⟨g, 0, none⟩) (m + 1) cap) := by
  have hw := h.want
  rw [List.length_append, List.length_singleton, hm] at hw
  have hgB := hw.lt g rfl
  refine ⟨⟨?_, hw.frozenAt m⟩, h.five.same (Below.heap_setCell _ _ _ _ (by show w.heap.size ≠ g; omega)), ?_, ?_, h.below.setCell (p := ⟨g, m, none⟩) (by show _ ≤ g; omega) _⟩
  · rw [hw.cellAt m (by omega), strs_append, List.getElem?_append_right (by rw [strs_len]; omega), strs_len, hm, Nat.sub_self]; rfl
  · refine ownsRow_setCell_other h.kids ?_ _
    rcases own_apart (by decide) h.kids h.want with e | e
    · rw [e]; intro e'; cases e'
    · exact e
  · rw [List.length_append, List.length_singleton, hm]
    exact own1_put s hw hm
/-- the tree as it lies, when the list is read -/
theorem forF_nw (L : List Nd) : forF (L.map nw) = lfF L := by
  induction L with
  | nil => rfl
  | cons d L ih =>
    show M.F.cons d .nil (forF (L.map nw)) = M.F.cons d .nil (lfF L)
    rw [ih]
theorem all_nw {S : Nat → Prop} {w : World} (L : List Nd) (h : ∀ d ∈ L, d.ats = []) : AllIn S w (L.map nw) := by
  intro r hr
  obtain ⟨d, hd, rfl⟩ := List.mem_map.1 hr
  refine ⟨?_, FL.nothing⟩
  show AS S w (.slice none 0 0) d.ats
  rw [h d hd]
  exact AS.nothing
theorem src_p (k : M.F) : srcB ⟨2, tP, ⟨#[]⟩, []⟩ k = [60, 112, 62] ++ fltP (pcs false k) ++ [60, 47, 112, 62] := by
  have h1 : isB tP 1 = false := by kernel_rfl
  have h2 : (rawN tP.data.toList == 2) = false := by kernel_rfl
  rw [src_open rfl h1]
  show fltP (tagP _) ++ (fltP (pcs (rawN tP.data.toList == 2) _) ++ _) = _
  rw [h2, app_data, app_data]
  simp [tagP, attP, fltP_cons, fltP_nil]
/-- when the list is read: the tree, and what Join makes of it, have one source -/
theorem MS.tree {L : List Nd} {D : List PT} {run : Bool} (h : MS w wr (L.map nw) W kv wv) (hi : Inv L D W run) (hL : L.length ≤ 40) (hm : Met wr) : ∃ T : ByteArray, TrT wr 2 tP ⟨#[]⟩ [] (lfF L) (.slice none 0 0) kv T ∧ ∀ w' va ka T', TrT w' 2 tP ⟨#[]⟩ [] (joinF (lfF L)) va ka T' → T' = T := by
  have hok := hi.ok hL
  obtain ⟨T, hT⟩ : ∃ T : ByteArray, srcB ⟨2, tP, ⟨#[]⟩, []⟩ (lfF L) = T.data.toList := ⟨⟨(srcB ⟨2, tP, ⟨#[]⟩, []⟩ (lfF L)).toArray⟩, rfl⟩
  have hsz : (lfF L).size = L.length := by
    unfold lfF
    rw [ofL_size, List.map_map]
    clear hi hL hok hT h
    induction L with
    | nil => rfl
    | cons d L ih => rw [List.map_cons, List.sum_cons, ih, List.length_cons]; show 0 + 1 + _ = _; omega
  have hdp := depth_size (lfF L)
  have hats : ∀ d ∈ L, d.ats = [] := fun d hd => by
    rcases (hi.leaf d hd).1 with rfl | ⟨x, _, rfl⟩ <;> rfl
  have hfl : FL (Old wr.heap.size) wr kv (lfF L) := by
    rw [← forF_nw]
    exact own_FL (n := 0) h.kids (all_nw L hats)
  refine ⟨T, ⟨⟨AS.nothing, hfl⟩, by omega, by omega, ⟨⟨Nat.zero_le _, by decide, Nat.zero_le _, fun p hp => by cases hp⟩, hok, trivial⟩, hT, hm⟩, ?_⟩
  intro w' va ka T' h'
  have h2 := h'.src
  rw [src_p, hi.join_src, ← src_p, hT] at h2
  exact (ByteArray.ext (Array.toList_inj.1 h2)).symm
theorem FAt.text {S : Nat → Prop} {w : World} {f : M.F} {b o i : Nat} {p : PT} (h : FAt S w f b o) (hi : (toL f)[i]? = some p) : w.cell? ⟨b, o + i * 5 + 2, none⟩ = some (.string p.1.x) := by
  obtain ⟨rs, e, _, _, hc⟩ := FAt.row f b o h
  rw [← e, List.getElem?_map] at hi
  cases hr : rs[i]? with
  | none => rw [hr] at hi; cases hi
  | some r =>
    rw [hr] at hi
    cases hi
    rw [Nat.add_assoc]
    exact hc _ _ (rowF_get rs i 2 r (.string r.d.x) hr rfl)
end Runs
end Go.Proofs.YtibagbnnplpfgaaDoor
namespace Go.Proofs.YtibagbnnplpfgaaDoor
open Go.Deep (BT)
open Go.RowKit M
open Runs

/-- what Join makes of a tree is one that is not too much -/
theorem join_l {P : Prop} {w W : World} {K : Int} {N X : ByteArray} {A : List (ByteArray × ByteArray)} {k : M.F} {va ka : Value} {T : ByteArray} {jl : Nat} (hjl : (joinF k).len = jl) (ha : TrT w K N X A k va ka T) (h : Below w.heap.size w W ∧ P) :
    Calls Tryd.prog 16 #[.agg #[.int .i64 K, .string N, .string X, va, ka]] W fun e w' => ∃ y1 y2 y3 z1 z3, e = .returned (.agg #[.int .i64 K, .string N, .string X, .slice y1 y2 y3, .slice z1 jl z3]) ∧ Below W.heap.size W w' ∧ ∃ T', TrT w' K N X A (joinF k) (.slice y1 y2 y3) (.slice z1 jl z3) T' := by
  have hok := joinF_ok ha.ok.2.1
  refine (join_any K N X A k va ka w.heap.size W (ha.lies.below h.1) h.1.size ⟨ha.ok.1, ha.ok.2.1⟩ ha.size).mono ?_
  rintro e w' ⟨av', kv', rfl, hb, hA, hF⟩
  obtain ⟨y1, y2, y3, rfl⟩ := hA.val
  obtain ⟨z1, z3, rfl⟩ := hF.val
  rw [hjl] at hF ⊢
  have h3 := ha.size
  have h4 := depth_size (joinF k)
  exact ⟨y1, y2, y3, z1, z3, rfl, hb, ⟨(srcB ⟨K, N, X, A⟩ (joinF k)).toArray⟩, ⟨⟨hA.inn.mono (fun b hb => hb.2), hF.inn.mono (fun b hb => hb.2)⟩, by omega, by omega, ⟨ha.ok.1, hok.1, trivial⟩, rfl, ha.met.below (h.1.trans (hb.mono h.1.size))⟩⟩

theorem abc_lts {q : Nat} (h : q < 6) : Lts (tAbc.extract q (q + 1)) ∧ (tAbc.extract q (q + 1)).size = 1 := by
  refine ⟨?_, abc_size h⟩
  rcases (by omega : q = 0 ∨ q = 1 ∨ q = 2 ∨ q = 3 ∨ q = 4 ∨ q = 5) with rfl | rfl | rfl | rfl | rfl | rfl <;> (unfold Lts; decide)

theorem str_cellsN (W : World) (c : Array Value) (t : TypeId) (n : Nat) (hn : W.heap.size = n) : ∀ j u, c.toList[j]? = some u → (W.alloc (.cells c t)).cell? ((⟨n, 0, none⟩ : Addr).add j) = some u := by subst hn; exact str_cells W c t

set_option maxRecDepth 20000 in
set_option maxHeartbeats 8000000 in
theorem runs_walk (v : Value) (ln : Nat) (w : World) (hl : IsL w.heap.size w v ln) (hm : Met w) :
    Calls Tryd.prog 8 #[v] w fun e w' => e = .returned (.bool true) ∧ Below w.heap.size w w' := by
  obtain ⟨va, vc, rfl, hlc, hmc, hat⟩ := hl.h
  unfold maxLen at hmc
  obtain ⟨b, o, hat⟩ : ∃ b o, Fact (∀ i, i < ln → va = some ⟨b, o, none⟩ ∧ b < w.heap.size ∧ ∃ x : Int, w.cell? ⟨b, o + i, none⟩ = some (.int .i64 x)) := by
    rcases hat with h0 | ⟨b, o, ea, h1, h2⟩
    · exact ⟨0, 0, ⟨fun i hi => by omega⟩⟩
    · exact ⟨b, o, ⟨fun i hi => ⟨ea, h1, h2 i hi⟩⟩⟩
  have HM := Fact.mk hm
  clear hm hl
  obtain ⟨W0, hW0⟩ : ∃ W0, w.alloc (.cells #[.int .i64 2, .string ⟨#[112]⟩, .string ⟨#[]⟩, .slice none 0 0, .slice none 0 0] 25) = W0 := ⟨_, rfl⟩
  have HMS : Fact (MS w W0 [] [] (.slice none 0 0) (.slice none 0 0)) := ⟨⟨by rw [← hW0]; exact Five.new _ _ _ _ _ _ _, World.ownsRow_nil _ _ _ _, World.ownsRow_nil _ _ _ _, by rw [← hW0]; exact (Below.refl _ w).alloc (Nat.le_refl _) _⟩⟩
  have HW0 := Fact.mk hW0
  clear hW0
  go_enter Tryd.func8, Tryd.ntmps8
  go_wp2_with fail
  rw [HW0.out]
  go_wp2_with fail
  go_loopg [4, 5, 6] 40 (fun gf wv rb iv wr => ∃ (i : Nat) (L : List Nd) (D : List PT) (W : List ByteArray) (run : Bool) (kv : Value), (rb = .bool run ∧ iv = .int .i64 i) ∧ i ≤ ln ∧ i ≤ 40 ∧ 40 - i ≤ gf ∧ L.length = i ∧ W.length ≤ i ∧ Fact (MS w wr (L.map nw) W kv wv) ∧ Fact (Inv L D W run))
  case atStart => exact ⟨0, [], [], [], false, _, ⟨rfl, rfl⟩, Nat.zero_le _, Nat.zero_le _, by omega, rfl, Nat.le_refl _, HMS, ⟨Inv.start⟩⟩
  case round =>
    obtain ⟨i, L, D, W, run, kv, ⟨rfl, rfl⟩, hi, hi40, hfu, hL, hWl, hms, hinv⟩ := hrel
    obtain ⟨ka, kc, rfl⟩ := own_shape hms.out.kids
    obtain ⟨wa, wc, rfl⟩ := own_shapeS hms.out.want
    rw [List.length_map, hL] at hms
    obtain ⟨wl, hwl⟩ : ∃ wl, W.length = wl := ⟨_, rfl⟩
    rw [hwl] at hms hWl ⊢
    have HWL := Fact.mk hwl
    have HLL := Fact.mk hL
    clear hwl hL
    have hf := hms.out.five
    have x0 := hf.c0
    have x1 := hf.c1
    have x2 := hf.c2
    have x3 := hf.c3
    have x4 := hf.c4
    have xf := hf.fz 4
    have hbig := hms.out.box
    by_cases hgo : i < ln ∧ i < 40
    · obtain ⟨h1, h2⟩ := hgo
      have i1 : (i : Int) < ln := by omega
      have i2 : (i : Int) < 40 := by omega
      have i0 : (0 : Int) ≤ i := by omega
      obtain ⟨g', rfl⟩ : ∃ g', gk = g' + 1 := ⟨gk - 1, by omega⟩
      obtain ⟨ea, hb, x, hx⟩ := hat.out i h1
      subst ea
      have lx : wr.cell? ⟨b, o + i, none⟩ = some (.int .i64 x) := (hms.out.below.cell (p := ⟨b, o + i, none⟩) hb).trans hx
      obtain ⟨q, hq, hq4⟩ := pl_ex x 4 (by decide)
      clear hx
      obtain ⟨n0, hii, hzz0, hzz1, hzz2⟩ := info_parts infoN
      obtain ⟨s0, sii, szz0, szz1, szz2⟩ := info_parts infoS
      rcases (by omega : q = 0 ∨ q = 1 ∨ 2 ≤ q) with rfl | rfl | hq2
      · -- an element
        have HIN : Fact (Inv (L ++ [bD]) (lp bD :: D) (W ++ [⟨#[]⟩]) false) := ⟨hinv.out.el⟩
        have HWR := Fact.mk hms.out.kids
        go_wp2_with (first
          | (go_at_call 20; refine (place_at x 4 0 hq _ (by decide) (by decide)).mono ?_; rintro e w4 ⟨rfl, hw4⟩; have hw5 := hw4.symm; subst hw5; clear hw4)
          | (at_builtin; refine wpList_append_own _ rfl (.tmp 68) (.tmp 70) 23 rfl (w.heap.size + 1) 25 n0 (.agg #[.int .i64 0, .string ⟨#[]⟩, .string ⟨#[]⟩, .slice none 0 0, .slice none 0 0]) 5 88 Tryd.underlying23 hii hzz0 hzz1 hzz2 rfl (by decide) (.slice ka i kc) i (rowF (L.map nw)) rfl (World.ownsRow.alloc (by have := hms.out.kids; rwa [List.length_map, HLL.out] at this) _) ⟨wr.heap.size, 0, none⟩ 1 1 [.int .i64 2, .string ⟨#[98]⟩, .string ⟨#[]⟩, .slice none 0 0, .slice none 0 0] rfl rfl (cell_five_new _ _ _ _ _ _ _) (by simp [Value.oneCell']) (by unfold maxLen; omega) (by omega) (by simp; omega) ?_; intro v9 w9 hown9 hgrow9 _; obtain ⟨g9, c9, rfl, _⟩ := own_succ hown9; obtain ⟨f9, hm9⟩ := MS.kid (r := nw bD) hms.out (by rw [List.length_map, HLL.out]) hown9 hgrow9; have y4 := f9.c4; have yf := f9.fz 4; have HM9 := Fact.mk hm9; clear hown9 hgrow9 f9 hm9)
          | (at_builtin; refine wpList_append_own _ rfl (.tmp 73) (.tmp 74) 42 rfl (w.heap.size + 1) 9 s0 (.string ⟨#[]⟩) 1 16 Tryd.underlying42 sii szz0 szz1 szz2 rfl (by decide) (.slice wa wl wc) wl (strs W) rfl (World.ownsRow.alloc (by have := HM9.out.want; rwa [HWL.out] at this) _) ⟨_, 0, none⟩ 1 1 [.string ⟨#[]⟩] rfl rfl (str_cellsN _ _ _ _ (by simp [World.setCell])) (by simp [Value.oneCell']) (by unfold maxLen; omega) (by omega) (by have := HM9.out.box; simp [World.setCell] at this ⊢; omega) ?_; intro v8 w8 hown8 hgrow8 _; obtain ⟨g8, c8, rfl, _⟩ := own_succ hown8; have hm8 := MS.more HM9.out HWL.out hown8 hgrow8; have HM8 := Fact.mk hm8; clear hown8 hgrow8 hm8))
        go_roundg g'
        case measure => omega
        case rel =>
          exact ⟨i + 1, _, _, _, _, _, ⟨rfl, by go_num⟩, by omega, by omega, by omega, by simp [HLL.out], by simp [HWL.out]; omega, ⟨by rw [List.map_append]; exact HM8.out⟩, HIN⟩
      · -- an empty text
        have HIN : Fact (Inv (L ++ [tD ⟨#[]⟩]) D W run) := ⟨hinv.out.none⟩
        go_wp2_with (first
          | (go_at_call 20; refine (place_at x 4 1 hq _ (by decide) (by decide)).mono ?_; rintro e w4 ⟨rfl, hw4⟩; have hw5 := hw4.symm; subst hw5; clear hw4)
          | (at_builtin; refine wpList_append_own _ rfl (.tmp 79) (.tmp 81) 23 rfl (w.heap.size + 1) 25 n0 (.agg #[.int .i64 0, .string ⟨#[]⟩, .string ⟨#[]⟩, .slice none 0 0, .slice none 0 0]) 5 88 Tryd.underlying23 hii hzz0 hzz1 hzz2 rfl (by decide) (.slice ka i kc) i (rowF (L.map nw)) rfl (World.ownsRow.alloc (by have := hms.out.kids; rwa [List.length_map, HLL.out] at this) _) ⟨wr.heap.size, 0, none⟩ 1 1 [.int .i64 3, .string ⟨#[]⟩, .string ⟨#[]⟩, .slice none 0 0, .slice none 0 0] rfl rfl (cell_five_new _ _ _ _ _ _ _) (by simp [Value.oneCell']) (by unfold maxLen; omega) (by omega) (by simp; omega) ?_; intro v9 w9 hown9 hgrow9 _; obtain ⟨g9, c9, rfl, _⟩ := own_succ hown9; obtain ⟨f9, hm9⟩ := MS.kid (r := nw (tD ⟨#[]⟩)) hms.out (by rw [List.length_map, HLL.out]) hown9 hgrow9; have y4 := f9.c4; have yf := f9.fz 4; have HM9 := Fact.mk hm9; clear hown9 hgrow9 f9 hm9))
        go_roundg g'
        case measure => omega
        case rel =>
          exact ⟨i + 1, _, _, _, _, _, ⟨rfl, by go_num⟩, by omega, by omega, by omega, by simp [HLL.out], by rw [HWL.out]; omega, ⟨by rw [List.map_append]; exact HM9.out⟩, HIN⟩
      · -- a text
        have q0 : ((q : Int) == 0) = false := beq_eq_false_iff_ne.2 (by omega)
        have q1 : ((q : Int) == 1) = false := beq_eq_false_iff_ne.2 (by omega)
        go_wp2_with (first
          | (go_at_call 20; refine (place_at x 4 q hq _ (by decide) (by decide)).mono ?_; rintro e w4 ⟨rfl, hw4⟩; have hw5 := hw4.symm; subst hw5; clear hw4))
        obtain ⟨z, hz⟩ : ∃ z, IntKind.i64.wrap (x.tdiv 4) = z := ⟨_, rfl⟩
        obtain ⟨p, hp, hp6⟩ := pl_ex z 6 (by decide)
        have hp0 : (0 : Int) ≤ p := by omega
        have hp1 : (p : Int) + 1 ≤ 6 := by omega
        have hp2 : (p : Int) ≤ p + 1 := by omega
        have hpw : IntKind.i64.wrap ((p : Int) + 1) = p + 1 := IntWalk.i64_in _ ⟨by omega, by omega⟩
        obtain ⟨hlt, ht1⟩ := abc_lts hp6
        go_quiet (first | (go_at_call 20; exact Calls.quiet_of_same (place_at z 6 p hp _ (by decide) (by decide))))
        obtain ⟨wq, hwq⟩ : ∃ wq, wr.drewN nq = wq := ⟨_, rfl⟩
        have HMQ : Fact (MS w wq (L.map nw) W (.slice ka i kc) (.slice wa wl wc)) := ⟨by rw [← hwq]; exact hms.out.of_heap rfl rfl rfl rfl⟩
        have fq := HMQ.out.five
        have z0 := fq.c0
        have z1 := fq.c1
        have z2 := fq.c2
        have z3 := fq.c3
        have z4 := fq.c4
        have zf := fq.fz 4
        rw [hwq]
        obtain ⟨t, ht⟩ : ∃ t, tAbc.extract p (p + 1) = t := ⟨_, rfl⟩
        rw [ht] at hlt ht1
        have ht' : (⟨#[97, 98, 99, 100, 101, 102]⟩ : ByteArray).extract p (p + 1) = t := ht
        clear hwq x0 x1 x2 x3 x4 xf fq
        cases run
        · have HIN : Fact (Inv (L ++ [tD t]) (lp (tD t) :: D) (W ++ [t]) true) := ⟨hinv.out.one hlt ht1⟩
          try rw [ht']
          go_wp2_with (first
            | (at_builtin; refine wpList_append_own _ rfl (.tmp 41) (.tmp 44) 23 rfl (w.heap.size + 1) 25 n0 (.agg #[.int .i64 0, .string ⟨#[]⟩, .string ⟨#[]⟩, .slice none 0 0, .slice none 0 0]) 5 88 Tryd.underlying23 hii hzz0 hzz1 hzz2 rfl (by decide) (.slice ka i kc) i (rowF (L.map nw)) rfl (World.ownsRow.alloc (by have := HMQ.out.kids; rwa [List.length_map, HLL.out] at this) _) ⟨_, 0, none⟩ 1 1 [.int .i64 3, .string ⟨#[]⟩, .string t, .slice none 0 0, .slice none 0 0] rfl rfl (cell_five_new _ _ _ _ _ _ _) (by simp [Value.oneCell']) (by unfold maxLen; omega) (by omega) (by have := HMQ.out.box; simp at this ⊢; omega) ?_; intro v9 w9 hown9 hgrow9 _; obtain ⟨g9, c9, rfl, _⟩ := own_succ hown9; obtain ⟨f9, hm9⟩ := MS.kid (r := nw (tD t)) HMQ.out (by rw [List.length_map, HLL.out]) hown9 hgrow9; have y4 := f9.c4; have yf := f9.fz 4; have HM9 := Fact.mk hm9; clear hown9 hgrow9 f9 hm9)
            | (at_builtin; refine wpList_append_own _ rfl (.tmp 61) (.tmp 63) 42 rfl (w.heap.size + 1) 9 s0 (.string ⟨#[]⟩) 1 16 Tryd.underlying42 sii szz0 szz1 szz2 rfl (by decide) (.slice wa wl wc) wl (strs W) rfl (World.ownsRow.alloc (by have := HM9.out.want; rwa [HWL.out] at this) _) ⟨_, 0, none⟩ 1 1 [.string t] rfl rfl (str_cellsN _ _ _ _ (by simp [World.setCell])) (by simp [Value.oneCell']) (by unfold maxLen; omega) (by omega) (by have := HM9.out.box; simp [World.setCell] at this ⊢; omega) ?_; intro v8 w8 hown8 hgrow8 _; obtain ⟨g8, c8, rfl, _⟩ := own_succ hown8; have hm8 := MS.more HM9.out HWL.out hown8 hgrow8; have HM8 := Fact.mk hm8; clear hown8 hgrow8 hm8))
          go_roundg g'
          case measure => omega
          case rel =>
            exact ⟨i + 1, _, _, _, _, _, ⟨rfl, by go_num⟩, by omega, by omega, by omega, by simp [HLL.out], by simp [HWL.out]; omega, ⟨by rw [List.map_append]; exact HM8.out⟩, HIN⟩
        · obtain ⟨lq, W1, D1, hW1, hlq, _, hin⟩ := hinv.out.two hlt ht1 (by rw [HLL.out]; exact hi40)
          subst hW1
          obtain ⟨m, hm1⟩ : ∃ m, W1.length = m := ⟨_, rfl⟩
          have hwm : wl = m + 1 := by rw [← HWL.out, List.length_append, hm1]; rfl
          subst hwm
          have hww := HMQ.out.want
          rw [HWL.out] at hww
          obtain ⟨g, gc, ev, _⟩ := own_succ hww
          simp only [Value.slice.injEq, true_and] at ev
          obtain ⟨rfl, rfl⟩ := ev
          obtain ⟨T, hT⟩ : ∃ T, lq ++ t = T := ⟨_, rfl⟩
          have radd := fun w => add_at lq t T hT (by rw [HLL.out] at hlq; omega) w
          rw [hT] at hin
          have HIN := Fact.mk hin
          have HW1 := Fact.mk hm1
          have wm : IntKind.i64.wrap ((m : Int) + 1 - 1) = m := by unfold IntKind.wrap; simp [IntKind.bits, IntKind.signed]; omega
          have mI : (0 : Int) ≤ m := by omega
          have mI2 : (m : Int) < m + 1 := by omega
          have hTl : (W1 ++ [T]).length = m + 1 := by rw [List.length_append, hm1]; rfl
          clear hm1 hT hin hww
          try rw [ht']
          go_wp2_with (first
            | (at_builtin; refine wpList_append_own _ rfl (.tmp 41) (.tmp 44) 23 rfl (w.heap.size + 1) 25 n0 (.agg #[.int .i64 0, .string ⟨#[]⟩, .string ⟨#[]⟩, .slice none 0 0, .slice none 0 0]) 5 88 Tryd.underlying23 hii hzz0 hzz1 hzz2 rfl (by decide) (.slice ka i kc) i (rowF (L.map nw)) rfl (World.ownsRow.alloc (by have := HMQ.out.kids; rwa [List.length_map, HLL.out] at this) _) ⟨_, 0, none⟩ 1 1 [.int .i64 3, .string ⟨#[]⟩, .string t, .slice none 0 0, .slice none 0 0] rfl rfl (cell_five_new _ _ _ _ _ _ _) (by simp [Value.oneCell']) (by unfold maxLen; omega) (by omega) (by have := HMQ.out.box; simp at this ⊢; omega) ?_; intro v9 w9 hown9 hgrow9 _; obtain ⟨g9, c9, rfl, _⟩ := own_succ hown9; obtain ⟨f9, hm9⟩ := MS.kid (r := nw (tD t)) HMQ.out (by rw [List.length_map, HLL.out]) hown9 hgrow9; have y4 := f9.c4; have yf := f9.fz 4; have HM9 := Fact.mk hm9; obtain ⟨⟨p8, p9⟩, hmp⟩ := MS.put (s := T) HM9.out HW1.out; have HM8 := Fact.mk hmp; clear hown9 hgrow9 f9 hm9 hmp))
          go_roundg g'
          case measure => omega
          case rel =>
            exact ⟨i + 1, _, _, _, _, _, ⟨rfl, by go_num⟩, by omega, by omega, by omega, by simp [HLL.out], by rw [hTl]; omega, ⟨by rw [List.map_append]; exact HM8.out⟩, HIN⟩
    · rcases (by omega : i = ln ∨ (i < ln ∧ i = 40)) with hx | ⟨hx, hx2⟩
      · have i1 : ¬ (i : Int) < ln := by omega
        clear hx hgo
        obtain ⟨w1, hw1⟩ : ∃ w1, w1 = wr := ⟨_, rfl⟩
        subst hw1
        obtain ⟨T, hT, hT2⟩ := hms.out.tree hinv.out (by rw [HLL.out]; exact hi40) (HM.out.below hms.out.below)
        have HT := Fact.mk hT
        have HJL : Fact ((joinF (lfF L)).len = wl) := ⟨by rw [hinv.out.join_len, HWL.out]⟩
        have HT2 := Fact.mk hT2
        have hB0 : Below w1.heap.size w1 w1 ∧ True := ⟨Below.refl _ _, trivial⟩
        clear hT hT2
        go_wp2_with (go_at_call 16; with_reducible refine (join_l HJL.out HT.out hB0).mono ?_; rintro e w5 ⟨y1, y2, y3, z1, z3, rfl, hb5, T5, ht5⟩; have HT5 := Fact.mk ht5; have HB5 := Fact.mk hb5; clear hb5 ht5)
        obtain ⟨W6, hW6⟩ : ∃ W6, w5.alloc (.cells #[.int .i64 2, .string tP, .string ⟨#[]⟩, .slice y1 y2 y3, .slice z1 wl z3] 25) = W6 := ⟨_, rfl⟩
        rw [hW6]
        have HT6 : Fact (W6.heap.size = w5.heap.size + 1) := ⟨by rw [← hW6]; simp⟩
        have h56 : Below w5.heap.size w5 W6 := by rw [← hW6]; exact (Below.refl _ w5).alloc (Nat.le_refl _) _
        have hJ : Five W6 w5.heap.size (.int .i64 2) (.string tP) (.string ⟨#[]⟩) (.slice y1 y2 y3) (.slice z1 wl z3) := by rw [← hW6]; exact Five.new _ _ _ _ _ _ _
        have hr6 : Below w1.heap.size w1 W6 := HB5.out.trans (h56.mono HB5.out.size)
        have hF : Five W6 w.heap.size (.int .i64 2) (.string tP) (.string ⟨#[]⟩) (.slice none 0 0) (.slice ka i kc) := hms.out.five.same (hr6.block _ hms.out.box)
        have hWn : W6.ownsRow (w.heap.size + 1) 9 1 (.slice wa wl wc) wl (strs W) := own_block (by have := hms.out.want; rwa [HWL.out] at this) (fun k e hk => hr6.block k hk)
        obtain ⟨jb, jo, g, hjk⟩ : ∃ jb jo g, Fact (∀ k, k < wl → z1 = some ⟨jb, jo, none⟩ ∧ wa = some ⟨g, 0, none⟩ ∧ jb < w5.heap.size ∧ g < w5.heap.size ∧ ∃ x : ByteArray, W6.cell? ⟨jb, jo + k * 5 + 2, none⟩ = some (.string x) ∧ W6.cell? ⟨g, k, none⟩ = some (.string x)) := by
          by_cases h0 : wl = 0
          · exact ⟨0, 0, 0, ⟨fun k hk => by omega⟩⟩
          · obtain ⟨za, zc, e1, _, _, h4⟩ := HT5.out.lies.f
            rw [HJL.out] at e1 h4
            simp only [Value.slice.injEq, true_and] at e1
            obtain ⟨rfl, rfl⟩ := e1
            rcases h4 with h4 | ⟨jb, jo, rfl, hjb, hfa⟩
            · exact absurd h4 h0
            · obtain ⟨n1, rfl⟩ : ∃ n1, wl = n1 + 1 := ⟨wl - 1, by omega⟩
              obtain ⟨g, gc, ev, _⟩ := own_succ hWn
              simp only [Value.slice.injEq, true_and] at ev
              obtain ⟨rfl, rfl⟩ := ev
              have hg5 : g < w5.heap.size := by have h1 := (hms.out.want.lt g rfl).2; have h2 := HB5.out.size; omega
              refine ⟨jb, jo, g, ⟨fun k hk => ⟨rfl, rfl, hjb, hg5, ?_⟩⟩⟩
              have hWk : k < W.length := by rw [HWL.out]; exact hk
              have hDW : W = D.reverse.map (fun p => p.1.x) := by rw [hinv.out.want, List.map_reverse]
              have hDk : k < D.reverse.length := by have := congrArg List.length hDW; rw [List.length_map] at this; omega
              refine ⟨D.reverse[k].1.x, ?_, ?_⟩
              · refine (h56.cell (p := ⟨jb, jo + k * 5 + 2, none⟩) hjb).trans ?_
                refine FAt.text (p := D.reverse[k]) hfa ?_
                rw [hinv.out.join, toL_ofL, List.getElem?_eq_getElem hDk]
              · rw [hWn.cellAt k (by omega)]
                simp only [strs]
                rw [List.getElem?_map, hDW, List.getElem?_map, List.getElem?_eq_getElem hDk]
                rfl
        obtain rfl : T5 = T := HT2.out _ _ _ _ HT5.out
        have HM6 := Fact.mk hms.out.below
        have HX6 := Fact.mk hms.out.box
        have HF := Fact.mk hF
        have HJ := Fact.mk hJ
        have H56 := Fact.mk h56
        have HR6 := Fact.mk hr6
        clear hW6 h56 hJ hF hr6 hWn x0 x1 x2 x3 x4 xf HT2 hms hinv
        go_loopg [9] wl (fun gf iv w2 => ∃ k : Nat, iv = .int .i64 k ∧ k ≤ wl ∧ wl - k ≤ gf ∧ Fact (Below (w5.heap.size + 1) W6 w2))
        case atStart => exact ⟨0, rfl, Nat.zero_le _, by omega, ⟨Below.refl _ _⟩⟩
        case round =>
          obtain ⟨k, rfl, hk, hfu2, hb2⟩ := hrel
          have hj2 := HJ.out.same (hb2.out.block _ (Nat.lt_succ_self _))
          have j0 := hj2.c0
          have j1 := hj2.c1
          have j2 := hj2.c2
          have j3 := hj2.c3
          have j4 := hj2.c4
          by_cases hkl : k < wl
          · obtain ⟨g2, rfl⟩ : ∃ g2, gk = g2 + 1 := ⟨gk - 1, by omega⟩
            obtain ⟨rfl, rfl, hjb, hg5, x, c1, c2⟩ := hjk.out k hkl
            have d1 := (hb2.out.cell (p := ⟨jb, jo + k * 5 + 2, none⟩) (by show jb < _; omega)).trans c1
            have d2 := (hb2.out.cell (p := ⟨g, k, none⟩) (by show g < _; omega)).trans c2
            have k1 : (k : Int) < wl := by omega
            have k0 : (0 : Int) ≤ k := by omega
            have eT : (x.toList == x.toList) = true := beq_self_eq_true _
            clear c1 c2 hjb hg5
            go_wp2_with fail
            go_region
            go_wp2_with fail
            go_roundg g2
            case measure => omega
            case rel => exact ⟨k + 1, by go_num, by omega, by omega, ⟨hb2.out.drew⟩⟩
          · have k1 : ¬ (k : Int) < wl := by omega
            go_wp2_with fail
            have eT : (T5.toList == T5.toList) = true := beq_self_eq_true _
            have hS0 : (Below w1.heap.size w1 wr ∧ Below w5.heap.size w5 wr) ∧ (wr.cell? ⟨w.heap.size, 0, none⟩ = some (.int .i64 2) ∧ wr.cell? ⟨w.heap.size, 1, none⟩ = some (.string tP) ∧ wr.cell? ⟨w.heap.size, 2, none⟩ = some (.string ⟨#[]⟩) ∧ wr.cell? ⟨w.heap.size, 3, none⟩ = some (.slice none 0 0) ∧ wr.cell? ⟨w.heap.size, 4, none⟩ = some (.slice ka i kc)) ∧ (wr.cell? ⟨w5.heap.size, 0, none⟩ = some (.int .i64 2) ∧ wr.cell? ⟨w5.heap.size, 1, none⟩ = some (.string tP) ∧ wr.cell? ⟨w5.heap.size, 2, none⟩ = some (.string ⟨#[]⟩) ∧ wr.cell? ⟨w5.heap.size, 3, none⟩ = some (.slice y1 y2 y3) ∧ wr.cell? ⟨w5.heap.size, 4, none⟩ = some (.slice z1 wl z3)) := by
              have hf2 := HF.out.same (hb2.out.block _ (by have h1 := HX6.out; have h2 := HB5.out.size; omega))
              exact ⟨⟨HR6.out.trans (hb2.out.mono (by have := HB5.out.size; omega)), H56.out.trans (hb2.out.mono (by omega))⟩, ⟨hf2.c0, hf2.c1, hf2.c2, hf2.c3, hf2.c4⟩, ⟨j0, j1, j2, j3, j4⟩⟩
            have hS0 : (Below w1.heap.size w1 wr.drew ∧ Below w5.heap.size w5 wr.drew) ∧ (wr.drew.cell? ⟨w.heap.size, 0, none⟩ = some (.int .i64 2) ∧ wr.drew.cell? ⟨w.heap.size, 1, none⟩ = some (.string tP) ∧ wr.drew.cell? ⟨w.heap.size, 2, none⟩ = some (.string ⟨#[]⟩) ∧ wr.drew.cell? ⟨w.heap.size, 3, none⟩ = some (.slice none 0 0) ∧ wr.drew.cell? ⟨w.heap.size, 4, none⟩ = some (.slice ka i kc)) ∧ (wr.drew.cell? ⟨w5.heap.size, 0, none⟩ = some (.int .i64 2) ∧ wr.drew.cell? ⟨w5.heap.size, 1, none⟩ = some (.string tP) ∧ wr.drew.cell? ⟨w5.heap.size, 2, none⟩ = some (.string ⟨#[]⟩) ∧ wr.drew.cell? ⟨w5.heap.size, 3, none⟩ = some (.slice y1 y2 y3) ∧ wr.drew.cell? ⟨w5.heap.size, 4, none⟩ = some (.slice z1 wl z3)) := ⟨⟨hS0.1.1.drew, hS0.1.2.drew⟩, hS0.2⟩
            have HSK : Fact (∀ w6 w7, Below w6.heap.size w6 w7 → w1.heap.size ≤ w6.heap.size → w5.heap.size < w6.heap.size → w.heap.size < w6.heap.size → ((Below w1.heap.size w1 w6 ∧ Below w5.heap.size w5 w6) ∧ (w6.cell? ⟨w.heap.size, 0, none⟩ = some (.int .i64 2) ∧ w6.cell? ⟨w.heap.size, 1, none⟩ = some (.string tP) ∧ w6.cell? ⟨w.heap.size, 2, none⟩ = some (.string ⟨#[]⟩) ∧ w6.cell? ⟨w.heap.size, 3, none⟩ = some (.slice none 0 0) ∧ w6.cell? ⟨w.heap.size, 4, none⟩ = some (.slice ka i kc)) ∧ (w6.cell? ⟨w5.heap.size, 0, none⟩ = some (.int .i64 2) ∧ w6.cell? ⟨w5.heap.size, 1, none⟩ = some (.string tP) ∧ w6.cell? ⟨w5.heap.size, 2, none⟩ = some (.string ⟨#[]⟩) ∧ w6.cell? ⟨w5.heap.size, 3, none⟩ = some (.slice y1 y2 y3) ∧ w6.cell? ⟨w5.heap.size, 4, none⟩ = some (.slice z1 wl z3))) → ((Below w1.heap.size w1 w7 ∧ Below w5.heap.size w5 w7) ∧ (w7.cell? ⟨w.heap.size, 0, none⟩ = some (.int .i64 2) ∧ w7.cell? ⟨w.heap.size, 1, none⟩ = some (.string tP) ∧ w7.cell? ⟨w.heap.size, 2, none⟩ = some (.string ⟨#[]⟩) ∧ w7.cell? ⟨w.heap.size, 3, none⟩ = some (.slice none 0 0) ∧ w7.cell? ⟨w.heap.size, 4, none⟩ = some (.slice ka i kc)) ∧ (w7.cell? ⟨w5.heap.size, 0, none⟩ = some (.int .i64 2) ∧ w7.cell? ⟨w5.heap.size, 1, none⟩ = some (.string tP) ∧ w7.cell? ⟨w5.heap.size, 2, none⟩ = some (.string ⟨#[]⟩) ∧ w7.cell? ⟨w5.heap.size, 3, none⟩ = some (.slice y1 y2 y3) ∧ w7.cell? ⟨w5.heap.size, 4, none⟩ = some (.slice z1 wl z3)))) := ⟨fun w6 w7 hb h1 h2 h3 ⟨⟨a1, a2⟩, ⟨b0, b1, b2, b3, b4⟩, ⟨e0, e1, e2, e3, e4⟩⟩ =>
              ⟨⟨a1.trans (hb.mono h1), a2.trans (hb.mono (by omega))⟩, ⟨(hb.cell (p := ⟨w.heap.size, 0, none⟩) h3).trans b0, (hb.cell (p := ⟨w.heap.size, 1, none⟩) h3).trans b1, (hb.cell (p := ⟨w.heap.size, 2, none⟩) h3).trans b2, (hb.cell (p := ⟨w.heap.size, 3, none⟩) h3).trans b3, (hb.cell (p := ⟨w.heap.size, 4, none⟩) h3).trans b4⟩, ⟨(hb.cell (p := ⟨w5.heap.size, 0, none⟩) h2).trans e0, (hb.cell (p := ⟨w5.heap.size, 1, none⟩) h2).trans e1, (hb.cell (p := ⟨w5.heap.size, 2, none⟩) h2).trans e2, (hb.cell (p := ⟨w5.heap.size, 3, none⟩) h2).trans e3, (hb.cell (p := ⟨w5.heap.size, 4, none⟩) h2).trans e4⟩⟩⟩
            have HBX : Fact (∀ w6, ((Below w1.heap.size w1 w6 ∧ Below w5.heap.size w5 w6) ∧ (w6.cell? ⟨w.heap.size, 0, none⟩ = some (.int .i64 2) ∧ w6.cell? ⟨w.heap.size, 1, none⟩ = some (.string tP) ∧ w6.cell? ⟨w.heap.size, 2, none⟩ = some (.string ⟨#[]⟩) ∧ w6.cell? ⟨w.heap.size, 3, none⟩ = some (.slice none 0 0) ∧ w6.cell? ⟨w.heap.size, 4, none⟩ = some (.slice ka i kc)) ∧ (w6.cell? ⟨w5.heap.size, 0, none⟩ = some (.int .i64 2) ∧ w6.cell? ⟨w5.heap.size, 1, none⟩ = some (.string tP) ∧ w6.cell? ⟨w5.heap.size, 2, none⟩ = some (.string ⟨#[]⟩) ∧ w6.cell? ⟨w5.heap.size, 3, none⟩ = some (.slice y1 y2 y3) ∧ w6.cell? ⟨w5.heap.size, 4, none⟩ = some (.slice z1 wl z3))) → w1.heap.size ≤ w6.heap.size ∧ w5.heap.size < w6.heap.size ∧ w.heap.size < w6.heap.size) := ⟨fun w6 h => ⟨h.1.1.size, World.block_lt_of_cell? w6 _ h.2.2.1, World.block_lt_of_cell? w6 _ h.2.1.1⟩⟩
            go_region_held3 (fun w' => (Below w1.heap.size w1 w' ∧ Below w5.heap.size w5 w') ∧ (w'.cell? ⟨w.heap.size, 0, none⟩ = some (.int .i64 2) ∧ w'.cell? ⟨w.heap.size, 1, none⟩ = some (.string tP) ∧ w'.cell? ⟨w.heap.size, 2, none⟩ = some (.string ⟨#[]⟩) ∧ w'.cell? ⟨w.heap.size, 3, none⟩ = some (.slice none 0 0) ∧ w'.cell? ⟨w.heap.size, 4, none⟩ = some (.slice ka i kc)) ∧ (w'.cell? ⟨w5.heap.size, 0, none⟩ = some (.int .i64 2) ∧ w'.cell? ⟨w5.heap.size, 1, none⟩ = some (.string tP) ∧ w'.cell? ⟨w5.heap.size, 2, none⟩ = some (.string ⟨#[]⟩) ∧ w'.cell? ⟨w5.heap.size, 3, none⟩ = some (.slice y1 y2 y3) ∧ w'.cell? ⟨w5.heap.size, 4, none⟩ = some (.slice z1 wl z3)))
              (first | with_reducible exact hS0 | with_reducible assumption)
              (first
                | (go_at_call 13; with_reducible refine (text_l HT5.out ⟨hS0.1.2, trivial⟩).mono ?_; rintro e wA ⟨rfl, hbA⟩; have hSA := HSK.out _ _ hbA (HBX.out _ hS0).1 (HBX.out _ hS0).2.1 (HBX.out _ hS0).2.2 hS0; clear hbA)
                | (go_at_call 13; with_reducible refine (text_l HT.out ⟨hSA.1.1, trivial⟩).mono ?_; rintro e wB ⟨rfl, hbB⟩; have hSB := HSK.out _ _ hbB (HBX.out _ hSA).1 (HBX.out _ hSA).2.1 (HBX.out _ hSA).2.2 hSA; clear hbB)
                | (go_at_call 10; with_reducible refine (awake_l HT.out.met hSB.1).mono ?_; rintro e wC ⟨rfl, hbC⟩; have hSC := HSK.out _ _ hbC (HBX.out _ hSB).1 (HBX.out _ hSB).2.1 (HBX.out _ hSB).2.2 hSB; clear hbC))
            go_wp2_with fail
            go_ret
            exact ⟨rfl, HM6.out.trans (hSC.1.1.mono (by have := HX6.out; omega))⟩
      · have i1 : (i : Int) < ln := by omega
        have i2 : ¬ (i : Int) < 40 := by omega
        clear hx hx2 hgo
        obtain ⟨w1, hw1⟩ : ∃ w1, w1 = wr := ⟨_, rfl⟩
        subst hw1
        obtain ⟨T, hT, hT2⟩ := hms.out.tree hinv.out (by rw [HLL.out]; exact hi40) (HM.out.below hms.out.below)
        have HT := Fact.mk hT
        have HJL : Fact ((joinF (lfF L)).len = wl) := ⟨by rw [hinv.out.join_len, HWL.out]⟩
        have HT2 := Fact.mk hT2
        have hB0 : Below w1.heap.size w1 w1 ∧ True := ⟨Below.refl _ _, trivial⟩
        clear hT hT2
        go_wp2_with (go_at_call 16; with_reducible refine (join_l HJL.out HT.out hB0).mono ?_; rintro e w5 ⟨y1, y2, y3, z1, z3, rfl, hb5, T5, ht5⟩; have HT5 := Fact.mk ht5; have HB5 := Fact.mk hb5; clear hb5 ht5)
        obtain ⟨W6, hW6⟩ : ∃ W6, w5.alloc (.cells #[.int .i64 2, .string tP, .string ⟨#[]⟩, .slice y1 y2 y3, .slice z1 wl z3] 25) = W6 := ⟨_, rfl⟩
        rw [hW6]
        have HT6 : Fact (W6.heap.size = w5.heap.size + 1) := ⟨by rw [← hW6]; simp⟩
        have h56 : Below w5.heap.size w5 W6 := by rw [← hW6]; exact (Below.refl _ w5).alloc (Nat.le_refl _) _
        have hJ : Five W6 w5.heap.size (.int .i64 2) (.string tP) (.string ⟨#[]⟩) (.slice y1 y2 y3) (.slice z1 wl z3) := by rw [← hW6]; exact Five.new _ _ _ _ _ _ _
        have hr6 : Below w1.heap.size w1 W6 := HB5.out.trans (h56.mono HB5.out.size)
        have hF : Five W6 w.heap.size (.int .i64 2) (.string tP) (.string ⟨#[]⟩) (.slice none 0 0) (.slice ka i kc) := hms.out.five.same (hr6.block _ hms.out.box)
        have hWn : W6.ownsRow (w.heap.size + 1) 9 1 (.slice wa wl wc) wl (strs W) := own_block (by have := hms.out.want; rwa [HWL.out] at this) (fun k e hk => hr6.block k hk)
        obtain ⟨jb, jo, g, hjk⟩ : ∃ jb jo g, Fact (∀ k, k < wl → z1 = some ⟨jb, jo, none⟩ ∧ wa = some ⟨g, 0, none⟩ ∧ jb < w5.heap.size ∧ g < w5.heap.size ∧ ∃ x : ByteArray, W6.cell? ⟨jb, jo + k * 5 + 2, none⟩ = some (.string x) ∧ W6.cell? ⟨g, k, none⟩ = some (.string x)) := by
          by_cases h0 : wl = 0
          · exact ⟨0, 0, 0, ⟨fun k hk => by omega⟩⟩
          · obtain ⟨za, zc, e1, _, _, h4⟩ := HT5.out.lies.f
            rw [HJL.out] at e1 h4
            simp only [Value.slice.injEq, true_and] at e1
            obtain ⟨rfl, rfl⟩ := e1
            rcases h4 with h4 | ⟨jb, jo, rfl, hjb, hfa⟩
            · exact absurd h4 h0
            · obtain ⟨n1, rfl⟩ : ∃ n1, wl = n1 + 1 := ⟨wl - 1, by omega⟩
              obtain ⟨g, gc, ev, _⟩ := own_succ hWn
              simp only [Value.slice.injEq, true_and] at ev
              obtain ⟨rfl, rfl⟩ := ev
              have hg5 : g < w5.heap.size := by have h1 := (hms.out.want.lt g rfl).2; have h2 := HB5.out.size; omega
              refine ⟨jb, jo, g, ⟨fun k hk => ⟨rfl, rfl, hjb, hg5, ?_⟩⟩⟩
              have hWk : k < W.length := by rw [HWL.out]; exact hk
              have hDW : W = D.reverse.map (fun p => p.1.x) := by rw [hinv.out.want, List.map_reverse]
              have hDk : k < D.reverse.length := by have := congrArg List.length hDW; rw [List.length_map] at this; omega
              refine ⟨D.reverse[k].1.x, ?_, ?_⟩
              · refine (h56.cell (p := ⟨jb, jo + k * 5 + 2, none⟩) hjb).trans ?_
                refine FAt.text (p := D.reverse[k]) hfa ?_
                rw [hinv.out.join, toL_ofL, List.getElem?_eq_getElem hDk]
              · rw [hWn.cellAt k (by omega)]
                simp only [strs]
                rw [List.getElem?_map, hDW, List.getElem?_map, List.getElem?_eq_getElem hDk]
                rfl
        obtain rfl : T5 = T := HT2.out _ _ _ _ HT5.out
        have HM6 := Fact.mk hms.out.below
        have HX6 := Fact.mk hms.out.box
        have HF := Fact.mk hF
        have HJ := Fact.mk hJ
        have H56 := Fact.mk h56
        have HR6 := Fact.mk hr6
        clear hW6 h56 hJ hF hr6 hWn x0 x1 x2 x3 x4 xf HT2 hms hinv
        go_loopg [9] wl (fun gf iv w2 => ∃ k : Nat, iv = .int .i64 k ∧ k ≤ wl ∧ wl - k ≤ gf ∧ Fact (Below (w5.heap.size + 1) W6 w2))
        case atStart => exact ⟨0, rfl, Nat.zero_le _, by omega, ⟨Below.refl _ _⟩⟩
        case round =>
          obtain ⟨k, rfl, hk, hfu2, hb2⟩ := hrel
          have hj2 := HJ.out.same (hb2.out.block _ (Nat.lt_succ_self _))
          have j0 := hj2.c0
          have j1 := hj2.c1
          have j2 := hj2.c2
          have j3 := hj2.c3
          have j4 := hj2.c4
          by_cases hkl : k < wl
          · obtain ⟨g2, rfl⟩ : ∃ g2, gk = g2 + 1 := ⟨gk - 1, by omega⟩
            obtain ⟨rfl, rfl, hjb, hg5, x, c1, c2⟩ := hjk.out k hkl
            have d1 := (hb2.out.cell (p := ⟨jb, jo + k * 5 + 2, none⟩) (by show jb < _; omega)).trans c1
            have d2 := (hb2.out.cell (p := ⟨g, k, none⟩) (by show g < _; omega)).trans c2
            have k1 : (k : Int) < wl := by omega
            have k0 : (0 : Int) ≤ k := by omega
            have eT : (x.toList == x.toList) = true := beq_self_eq_true _
            clear c1 c2 hjb hg5
            go_wp2_with fail
            go_region
            go_wp2_with fail
            go_roundg g2
            case measure => omega
            case rel => exact ⟨k + 1, by go_num, by omega, by omega, ⟨hb2.out.drew⟩⟩
          · have k1 : ¬ (k : Int) < wl := by omega
            go_wp2_with fail
            have eT : (T5.toList == T5.toList) = true := beq_self_eq_true _
            have hS0 : (Below w1.heap.size w1 wr ∧ Below w5.heap.size w5 wr) ∧ (wr.cell? ⟨w.heap.size, 0, none⟩ = some (.int .i64 2) ∧ wr.cell? ⟨w.heap.size, 1, none⟩ = some (.string tP) ∧ wr.cell? ⟨w.heap.size, 2, none⟩ = some (.string ⟨#[]⟩) ∧ wr.cell? ⟨w.heap.size, 3, none⟩ = some (.slice none 0 0) ∧ wr.cell? ⟨w.heap.size, 4, none⟩ = some (.slice ka i kc)) ∧ (wr.cell? ⟨w5.heap.size, 0, none⟩ = some (.int .i64 2) ∧ wr.cell? ⟨w5.heap.size, 1, none⟩ = some (.string tP) ∧ wr.cell? ⟨w5.heap.size, 2, none⟩ = some (.string ⟨#[]⟩) ∧ wr.cell? ⟨w5.heap.size, 3, none⟩ = some (.slice y1 y2 y3) ∧ wr.cell? ⟨w5.heap.size, 4, none⟩ = some (.slice z1 wl z3)) := by
              have hf2 := HF.out.same (hb2.out.block _ (by have h1 := HX6.out; have h2 := HB5.out.size; omega))
              exact ⟨⟨HR6.out.trans (hb2.out.mono (by have := HB5.out.size; omega)), H56.out.trans (hb2.out.mono (by omega))⟩, ⟨hf2.c0, hf2.c1, hf2.c2, hf2.c3, hf2.c4⟩, ⟨j0, j1, j2, j3, j4⟩⟩
            have hS0 : (Below w1.heap.size w1 wr.drew ∧ Below w5.heap.size w5 wr.drew) ∧ (wr.drew.cell? ⟨w.heap.size, 0, none⟩ = some (.int .i64 2) ∧ wr.drew.cell? ⟨w.heap.size, 1, none⟩ = some (.string tP) ∧ wr.drew.cell? ⟨w.heap.size, 2, none⟩ = some (.string ⟨#[]⟩) ∧ wr.drew.cell? ⟨w.heap.size, 3, none⟩ = some (.slice none 0 0) ∧ wr.drew.cell? ⟨w.heap.size, 4, none⟩ = some (.slice ka i kc)) ∧ (wr.drew.cell? ⟨w5.heap.size, 0, none⟩ = some (.int .i64 2) ∧ wr.drew.cell? ⟨w5.heap.size, 1, none⟩ = some (.string tP) ∧ wr.drew.cell? ⟨w5.heap.size, 2, none⟩ = some (.string ⟨#[]⟩) ∧ wr.drew.cell? ⟨w5.heap.size, 3, none⟩ = some (.slice y1 y2 y3) ∧ wr.drew.cell? ⟨w5.heap.size, 4, none⟩ = some (.slice z1 wl z3)) := ⟨⟨hS0.1.1.drew, hS0.1.2.drew⟩, hS0.2⟩
            have HSK : Fact (∀ w6 w7, Below w6.heap.size w6 w7 → w1.heap.size ≤ w6.heap.size → w5.heap.size < w6.heap.size → w.heap.size < w6.heap.size → ((Below w1.heap.size w1 w6 ∧ Below w5.heap.size w5 w6) ∧ (w6.cell? ⟨w.heap.size, 0, none⟩ = some (.int .i64 2) ∧ w6.cell? ⟨w.heap.size, 1, none⟩ = some (.string tP) ∧ w6.cell? ⟨w.heap.size, 2, none⟩ = some (.string ⟨#[]⟩) ∧ w6.cell? ⟨w.heap.size, 3, none⟩ = some (.slice none 0 0) ∧ w6.cell? ⟨w.heap.size, 4, none⟩ = some (.slice ka i kc)) ∧ (w6.cell? ⟨w5.heap.size, 0, none⟩ = some (.int .i64 2) ∧ w6.cell? ⟨w5.heap.size, 1, none⟩ = some (.string tP) ∧ w6.cell? ⟨w5.heap.size, 2, none⟩ = some (.string ⟨#[]⟩) ∧ w6.cell? ⟨w5.heap.size, 3, none⟩ = some (.slice y1 y2 y3) ∧ w6.cell? ⟨w5.heap.size, 4, none⟩ = some (.slice z1 wl z3))) → ((Below w1.heap.size w1 w7 ∧ Below w5.heap.size w5 w7) ∧ (w7.cell? ⟨w.heap.size, 0, none⟩ = some (.int .i64 2) ∧ w7.cell? ⟨w.heap.size, 1, none⟩ = some (.string tP) ∧ w7.cell? ⟨w.heap.size, 2, none⟩ = some (.string ⟨#[]⟩) ∧ w7.cell? ⟨w.heap.size, 3, none⟩ = some (.slice none 0 0) ∧ w7.cell? ⟨w.heap.size, 4, none⟩ = some (.slice ka i kc)) ∧ (w7.cell? ⟨w5.heap.size, 0, none⟩ = some (.int .i64 2) ∧ w7.cell? ⟨w5.heap.size, 1, none⟩ = some (.string tP) ∧ w7.cell? ⟨w5.heap.size, 2, none⟩ = some (.string ⟨#[]⟩) ∧ w7.cell? ⟨w5.heap.size, 3, none⟩ = some (.slice y1 y2 y3) ∧ w7.cell? ⟨w5.heap.size, 4, none⟩ = some (.slice z1 wl z3)))) := ⟨fun w6 w7 hb h1 h2 h3 ⟨⟨a1, a2⟩, ⟨b0, b1, b2, b3, b4⟩, ⟨e0, e1, e2, e3, e4⟩⟩ =>
              ⟨⟨a1.trans (hb.mono h1), a2.trans (hb.mono (by omega))⟩, ⟨(hb.cell (p := ⟨w.heap.size, 0, none⟩) h3).trans b0, (hb.cell (p := ⟨w.heap.size, 1, none⟩) h3).trans b1, (hb.cell (p := ⟨w.heap.size, 2, none⟩) h3).trans b2, (hb.cell (p := ⟨w.heap.size, 3, none⟩) h3).trans b3, (hb.cell (p := ⟨w.heap.size, 4, none⟩) h3).trans b4⟩, ⟨(hb.cell (p := ⟨w5.heap.size, 0, none⟩) h2).trans e0, (hb.cell (p := ⟨w5.heap.size, 1, none⟩) h2).trans e1, (hb.cell (p := ⟨w5.heap.size, 2, none⟩) h2).trans e2, (hb.cell (p := ⟨w5.heap.size, 3, none⟩) h2).trans e3, (hb.cell (p := ⟨w5.heap.size, 4, none⟩) h2).trans e4⟩⟩⟩
            have HBX : Fact (∀ w6, ((Below w1.heap.size w1 w6 ∧ Below w5.heap.size w5 w6) ∧ (w6.cell? ⟨w.heap.size, 0, none⟩ = some (.int .i64 2) ∧ w6.cell? ⟨w.heap.size, 1, none⟩ = some (.string tP) ∧ w6.cell? ⟨w.heap.size, 2, none⟩ = some (.string ⟨#[]⟩) ∧ w6.cell? ⟨w.heap.size, 3, none⟩ = some (.slice none 0 0) ∧ w6.cell? ⟨w.heap.size, 4, none⟩ = some (.slice ka i kc)) ∧ (w6.cell? ⟨w5.heap.size, 0, none⟩ = some (.int .i64 2) ∧ w6.cell? ⟨w5.heap.size, 1, none⟩ = some (.string tP) ∧ w6.cell? ⟨w5.heap.size, 2, none⟩ = some (.string ⟨#[]⟩) ∧ w6.cell? ⟨w5.heap.size, 3, none⟩ = some (.slice y1 y2 y3) ∧ w6.cell? ⟨w5.heap.size, 4, none⟩ = some (.slice z1 wl z3))) → w1.heap.size ≤ w6.heap.size ∧ w5.heap.size < w6.heap.size ∧ w.heap.size < w6.heap.size) := ⟨fun w6 h => ⟨h.1.1.size, World.block_lt_of_cell? w6 _ h.2.2.1, World.block_lt_of_cell? w6 _ h.2.1.1⟩⟩
            go_region_held3 (fun w' => (Below w1.heap.size w1 w' ∧ Below w5.heap.size w5 w') ∧ (w'.cell? ⟨w.heap.size, 0, none⟩ = some (.int .i64 2) ∧ w'.cell? ⟨w.heap.size, 1, none⟩ = some (.string tP) ∧ w'.cell? ⟨w.heap.size, 2, none⟩ = some (.string ⟨#[]⟩) ∧ w'.cell? ⟨w.heap.size, 3, none⟩ = some (.slice none 0 0) ∧ w'.cell? ⟨w.heap.size, 4, none⟩ = some (.slice ka i kc)) ∧ (w'.cell? ⟨w5.heap.size, 0, none⟩ = some (.int .i64 2) ∧ w'.cell? ⟨w5.heap.size, 1, none⟩ = some (.string tP) ∧ w'.cell? ⟨w5.heap.size, 2, none⟩ = some (.string ⟨#[]⟩) ∧ w'.cell? ⟨w5.heap.size, 3, none⟩ = some (.slice y1 y2 y3) ∧ w'.cell? ⟨w5.heap.size, 4, none⟩ = some (.slice z1 wl z3)))
              (first | with_reducible exact hS0 | with_reducible assumption)
              (first
                | (go_at_call 13; with_reducible refine (text_l HT5.out ⟨hS0.1.2, trivial⟩).mono ?_; rintro e wA ⟨rfl, hbA⟩; have hSA := HSK.out _ _ hbA (HBX.out _ hS0).1 (HBX.out _ hS0).2.1 (HBX.out _ hS0).2.2 hS0; clear hbA)
                | (go_at_call 13; with_reducible refine (text_l HT.out ⟨hSA.1.1, trivial⟩).mono ?_; rintro e wB ⟨rfl, hbB⟩; have hSB := HSK.out _ _ hbB (HBX.out _ hSA).1 (HBX.out _ hSA).2.1 (HBX.out _ hSA).2.2 hSA; clear hbB)
                | (go_at_call 10; with_reducible refine (awake_l HT.out.met hSB.1).mono ?_; rintro e wC ⟨rfl, hbC⟩; have hSC := HSK.out _ _ hbC (HBX.out _ hSB).1 (HBX.out _ hSB).2.1 (HBX.out _ hSB).2.2 hSB; clear hbC))
            go_wp2_with fail
            go_ret
            exact ⟨rfl, HM6.out.trans (hSC.1.1.mono (by have := HX6.out; omega))⟩
end Go.Proofs.YtibagbnnplpfgaaDoor
