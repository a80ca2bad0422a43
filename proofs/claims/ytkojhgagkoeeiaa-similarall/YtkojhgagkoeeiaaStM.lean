/- A tree gone through: what is told, a way at a time; the way as a stack of nodes. -/
import Derived.Test.YtkojhgagkoeeiaaMem
import Derived.Test.YtkojhgagkoeeiaaLaw2
import Derived.Deep.LoopGhost
set_option linter.unusedVariables false
namespace Go.Proofs.Ytkojhgagkoeeiaa.M
open Go.Deep

/-- a node on the way: itself, its kids, its number, its place -/
structure St where
  d : Nd
  k : F
  id : Nat
  place : Nat
/-- what is told: the way to a node; whether it is left -/
structure Tl where
  way : List St
  left : Bool

/-- what is told of trees one behind the other -/
def evF : List St → F → Nat → Nat → List Tl
  | _, .nil, _, _ => []
  | up, .node _ _ d k r, id, place => ⟨up ++ [⟨d, k, id, place⟩], false⟩ :: (evF (up ++ [⟨d, k, id, place⟩]) k (id + 1) 0 ++ ⟨up ++ [⟨d, k, id, place⟩], true⟩ :: evF up r (id + 1 + k.size) (place + 1))
/-- .. of one tree -/
def evT (d : Nd) (k : F) : List Tl := evF [] (.cons d k .nil) 0 0

/-- a node that is open: what is left of its kids, and where it lies -/
structure Fr where
  s : St
  rest : F
  next : Nat
  av : Value
  ka : Option Addr
  kc : Nat
/-- the way: the outermost node first -/
def wayOf : List Fr → List St
  | [] => []
  | f :: l => wayOf l ++ [f.s]
/-- what is still to be told -/
def remF : Nat → List Fr → List Tl
  | _, [] => []
  | id, f :: l => evF (wayOf (f :: l)) f.rest id f.next ++ ⟨wayOf (f :: l), true⟩ :: remF (id + f.rest.size) l
def fuelF : List Fr → Nat
  | [] => 0
  | f :: l => 2 * f.rest.size + 1 + fuelF l
theorem wayOf_len : ∀ l, (wayOf l).length = l.length
  | [] => rfl
  | f :: l => by simp [wayOf, wayOf_len l]
/-- the innermost node is left -/
theorem remF_pop (id : Nat) (f : Fr) (l : List Fr) (h : f.rest = .nil) : remF id (f :: l) = ⟨wayOf (f :: l), true⟩ :: remF id l := by
  simp [remF, h, evF, BT.size]
/-- its next kid is come to -/
theorem remF_push (id : Nat) (f : Fr) (l : List Fr) {xb xo : Nat} {d : Nd} {k r : F} (h : f.rest = .node xb xo d k r) (av : Value) (ka : Option Addr) (kc : Nat) :
    remF id (f :: l) = ⟨wayOf (⟨⟨d, k, id, f.next⟩, k, 0, av, ka, kc⟩ :: { f with rest := r, next := f.next + 1 } :: l), false⟩ :: remF (id + 1) (⟨⟨d, k, id, f.next⟩, k, 0, av, ka, kc⟩ :: { f with rest := r, next := f.next + 1 } :: l) := by
  simp [remF, h, evF, wayOf, BT.size, Nat.add_assoc]
theorem fuelF_pop (f : Fr) (l : List Fr) : fuelF l < fuelF (f :: l) := by simp only [fuelF]; omega
theorem fuelF_push (id : Nat) (f : Fr) (l : List Fr) {xb xo : Nat} {d : Nd} {k r : F} (h : f.rest = .node xb xo d k r) (av : Value) (ka : Option Addr) (kc : Nat) :
    fuelF (⟨⟨d, k, id, f.next⟩, k, 0, av, ka, kc⟩ :: { f with rest := r, next := f.next + 1 } :: l) < fuelF (f :: l) := by
  simp [fuelF, h, BT.size]; omega
theorem evT_eq (d : Nd) (k : F) (av : Value) (ka : Option Addr) (kc : Nat) : evT d k = ⟨wayOf [⟨⟨d, k, 0, 0⟩, k, 0, av, ka, kc⟩], false⟩ :: remF 1 [⟨⟨d, k, 0, 0⟩, k, 0, av, ka, kc⟩] := by
  simp [evT, evF, remF, wayOf]
/-- no way is longer than N -/
def highF (N : Nat) : List Fr → Prop
  | [] => True
  | f :: l => l.length + 1 + f.rest.depth ≤ N ∧ highF N l
theorem highF_push {N : Nat} {id : Nat} {f : Fr} {l : List Fr} {xb xo : Nat} {d : Nd} {k r : F} (h : f.rest = .node xb xo d k r) (hh : highF N (f :: l)) (av : Value) (ka : Option Addr) (kc : Nat) :
    highF N (⟨⟨d, k, id, f.next⟩, k, 0, av, ka, kc⟩ :: { f with rest := r, next := f.next + 1 } :: l) := by
  obtain ⟨h1, h2⟩ := hh
  rw [h] at h1
  simp only [BT.depth] at h1
  refine ⟨?_, ?_, h2⟩
  · show (l.length + 1) + 1 + k.depth ≤ N; omega
  · show l.length + 1 + r.depth ≤ N; omega
theorem highF_len {N : Nat} : ∀ {l : List Fr}, highF N l → l.length ≤ N
  | [], _ => Nat.zero_le _
  | f :: l, h => by have := h.1; simp only [List.length_cons]; omega
/-- numbers that are still to come -/
def leftF : List Fr → Nat
  | [] => 0
  | f :: l => f.rest.size + leftF l
theorem leftF_push (id : Nat) (f : Fr) (l : List Fr) {xb xo : Nat} {d : Nd} {k r : F} (h : f.rest = .node xb xo d k r) (av : Value) (ka : Option Addr) (kc : Nat) :
    leftF (⟨⟨d, k, id, f.next⟩, k, 0, av, ka, kc⟩ :: { f with rest := r, next := f.next + 1 } :: l) + 1 = leftF (f :: l) := by
  simp [leftF, h, BT.size]; omega
end Go.Proofs.Ytkojhgagkoeeiaa.M

namespace Go.Proofs.Ytkojhgagkoeeiaa
open Go.Deep (BT)
open Go.RowKit M

/-- a step's cells -/
def cells8 (f : Fr) : List Value := [.int .i64 f.s.d.k, .string f.s.d.n, .string f.s.d.x, f.av, .slice f.ka f.s.k.len f.kc, .int .i64 f.s.id, .int .i64 f.s.place, .int .i64 f.next]
/-- the way's cells, the outermost node first -/
def cellsW : List Fr → List Value
  | [] => []
  | f :: l => cellsW l ++ cells8 f
theorem cellsW_len : ∀ l, (cellsW l).length = l.length * 8
  | [] => rfl
  | f :: l => by simp [cellsW, cells8, cellsW_len l]; omega

theorem own8_at {w : World} {B E g m cap : Nat} {f : Fr} {L : List Fr} (h : w.ownsRow B E 8 (.slice (some ⟨g, 0, none⟩) (m + 1) cap) (m + 1) (cellsW (f :: L))) (hm : L.length = m) :
    (∀ j u, (cells8 f)[j]? = some u → w.cell? ⟨g, m * 8 + j, none⟩ = some u) ∧ (∀ o, w.frozen? ⟨g, o, none⟩ = false) ∧ B ≤ g ∧ g < w.heap.size ∧ m + 1 ≤ cap ∧ cap ≤ maxLen := by
  obtain ⟨h1, h2⟩ := h
  rcases h2 with ⟨e, _⟩ | ⟨g', cap', cur, e, hg, hh, hc1, hc2, hs, ht⟩
  · cases e
  · cases e
    refine ⟨fun j u hj => ?_, fun o => by simp [World.frozen?, hh], hg, (Array.getElem?_eq_some_iff.1 hh).1, hc1, hc2⟩
    simp only [World.cell?, hh]
    have h3 := congrArg (fun z => z[m * 8 + j]?) ht
    have hl : (cellsW L).length = m * 8 := by rw [cellsW_len, hm]
    have hj8 : j < 8 := by have := (List.getElem?_eq_some_iff.1 hj).1; simpa [cells8] using this
    simp only [cellsW, List.getElem?_append_right (show (cellsW L).length ≤ m * 8 + j by omega), hl, Nat.add_sub_cancel_left] at h3
    rw [List.getElem?_take_of_lt (by omega), hj] at h3
    simpa using h3
theorem own8_pop {w : World} {B E g m cap : Nat} {f : Fr} {L : List Fr} (h : w.ownsRow B E 8 (.slice (some ⟨g, 0, none⟩) (m + 1) cap) (m + 1) (cellsW (f :: L))) (hm : L.length = m) :
    w.ownsRow B E 8 (.slice (some ⟨g, 0, none⟩) m cap) m (cellsW L) := by
  obtain ⟨h1, h2⟩ := h
  have hl : (cellsW L).length = m * 8 := by rw [cellsW_len, hm]
  refine ⟨hl, .inr ?_⟩
  rcases h2 with ⟨e, _⟩ | ⟨g', cap', cur, e, hg, hh, hc1, hc2, hs, ht⟩
  · cases e
  · cases e
    refine ⟨g, cap, cur, rfl, hg, hh, by omega, hc2, hs, ?_⟩
    have h3 := congrArg (List.take (m * 8)) ht
    rw [List.take_take, cellsW, List.take_append_of_le_length (by omega), show min (m * 8) ((m + 1) * 8) = m * 8 by omega] at h3
    rw [h3]
    exact List.take_of_length_le (by omega)
theorem own8_next {w : World} {B E g m cap : Nat} {f : Fr} {L : List Fr} (q : Nat) (r : F) (h : w.ownsRow B E 8 (.slice (some ⟨g, 0, none⟩) (m + 1) cap) (m + 1) (cellsW (f :: L))) (hm : L.length = m) :
    (w.setCell ⟨g, m * 8 + 7, none⟩ (.int .i64 q)).ownsRow B E 8 (.slice (some ⟨g, 0, none⟩) (m + 1) cap) (m + 1) (cellsW ({ f with rest := r, next := q } :: L)) := by
  obtain ⟨h1, h2⟩ := h
  have hl : (cellsW L).length = m * 8 := by rw [cellsW_len, hm]
  refine ⟨by rw [cellsW_len]; simp [hm], .inr ?_⟩
  rcases h2 with ⟨e, _⟩ | ⟨g', cap', cur, e, hg, hh, hc1, hc2, hs, ht⟩
  · cases e
  · cases e
    refine ⟨g, cap, cur.setIfInBounds (m * 8 + 7) (.int .i64 q), rfl, hg, ?_, hc1, hc2, by simpa using hs, ?_⟩
    · simp only [World.setCell, Array.getElem?_modify, hh]
      simp
    · rw [Array.toList_setIfInBounds, List.take_set, ht, cellsW, List.set_append, if_neg (by omega), cellsW, hl, show m * 8 + 7 - m * 8 = 7 by omega]
      rfl

/-- where an open node lies: its attributes, its kids, those that are left -/
structure FrOK (S : Nat → Prop) (w : World) (f : Fr) : Prop where
  at_ : AS S w f.av f.s.d.ats
  kids : FL S w (.slice f.ka f.s.k.len f.kc) f.s.k
  rest : f.rest.len = 0 ∨ ∃ b o, f.ka = some ⟨b, o, none⟩ ∧ S b ∧ FAt S w f.rest b (o + f.next * 5)
  len : f.s.k.len = f.next + f.rest.len
  cap : f.s.k.len ≤ f.kc ∧ f.kc ≤ maxLen
theorem FrOK.like {S : Nat → Prop} {w w' : World} (h : Like S w w') {f : Fr} (hf : FrOK S w f) : FrOK S w' f := by
  refine ⟨hf.at_.like h, hf.kids.like h, ?_, hf.len, hf.cap⟩
  rcases hf.rest with h1 | ⟨b, o, e, hS, hc⟩
  · exact .inl h1
  · exact .inr ⟨b, o, e, hS, FAt.like h _ _ _ hS hc⟩
def AllOK (S : Nat → Prop) (w : World) : List Fr → Prop
  | [] => True
  | f :: l => FrOK S w f ∧ AllOK S w l
theorem AllOK.like {S : Nat → Prop} {w w' : World} (h : Like S w w') : ∀ {l : List Fr}, AllOK S w l → AllOK S w' l
  | [], _ => trivial
  | f :: l, hl => ⟨hl.1.like h, AllOK.like h hl.2⟩

/-- what is handed out: a slice of steps in a block of the iterator's, and whether the node is left -/
def EncW (n₀ : Nat) (T : Nat → Prop) (W : World) (x : Tl) (args : Array Value) : Prop :=
  ∃ (L : List Fr) (g cap base : Nat), wayOf L = x.way ∧ L ≠ [] ∧ args = #[.slice (some ⟨g, 0, none⟩) L.length cap, .bool x.left] ∧ T g ∧ n₀ ≤ g ∧ W.ownsRow base 108 8 (.slice (some ⟨g, 0, none⟩) L.length cap) L.length (cellsW L) ∧ AllOK (Old n₀) W L ∧ L.length ≤ 1000000
theorem EncW.size {n₀ : Nat} {T : Nat → Prop} {W : World} {x : Tl} {args : Array Value} (h : EncW n₀ T W x args) : args.size = 2 := by
  obtain ⟨L, g, cap, base, _, _, rfl, _⟩ := h
  rfl
theorem own_block {w w' : World} {B E size n : Nat} {v : Value} {xs : List Value} (h : w.ownsRow B E size v n xs) (hb : ∀ k, some k = v.ownBlock → k < w.heap.size → w'.heap[k]? = w.heap[k]?) : w'.ownsRow B E size v n xs := by
  obtain ⟨h1, h2⟩ := h
  refine ⟨h1, ?_⟩
  rcases h2 with h2 | ⟨g, cap, cur, e, hg, hh, r⟩
  · exact .inl h2
  · exact .inr ⟨g, cap, cur, e, hg, (hb g (by rw [e]; rfl) (Array.getElem?_eq_some_iff.1 hh).1).trans hh, r⟩
theorem least_lt7 {p q : Nat → Prop} {k0 k' : Nat} (h0 : Go.leastOf p = k0) (hq : q k') (hk : k' < k0) : Go.leastOf q < Go.leastOf p := by
  rw [h0]; exact Nat.lt_of_le_of_lt ((Go.leastOf_spec ⟨k', hq⟩).2 k' hq) hk
theorem own_blk1 {g n c k : Nat} (e : some k = (Value.slice (some ⟨g, 0, none⟩) n c).ownBlock) : k = g := Option.some.inj e
theorem EncW.keep {n₀ : Nat} {T T' : Nat → Prop} {W W' : World} {x : Tl} {args : Array Value} (h : EncW n₀ T W x args) (hT : ∀ k, T k → T' k) (hk : Kept (fun k => T k ∨ k < n₀) W W') : EncW n₀ T' W' x args := by
  obtain ⟨L, g, cap, base, h1, h0, h2, h3, h3', h4, h5, h6⟩ := h
  exact ⟨L, g, cap, base, h1, h0, h2, hT _ h3, h3', own_block h4 (fun k e hk' => hk.block k hk' (.inl (by rw [own_blk1 e]; exact h3))), h5.like (fun b hb hz => hk.block b hz (.inr hb)), h6⟩
end Go.Proofs.Ytkojhgagkoeeiaa
