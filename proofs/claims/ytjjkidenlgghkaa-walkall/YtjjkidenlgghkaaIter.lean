/- The iterator over a tree's nodes: it gives each node with its depth, a node ahead of its kids. -/
import Derived.Test.YtjjkidenlgghkaaMem
import Derived.Shelf.Abstract
import Derived.Shelf.RegionOpen
import Derived.OwnWalkIn
import Derived.TacticsInMore
import Derived.LoopNIn
import Derived.LoopIn
import Derived.Deep.LoopGhost
import Derived.Maps.AppendAt
set_option linter.unusedVariables false
namespace Go.Proofs.Ytjjkidenlgghkaa
open Go.Deep (BT)
open Go.RowKit Go.Shelf M
attribute [local go_sem] Oper.semAt_some

/-- a node as it is given: with the values of its attributes and kids -/
abbrev Ev := At × Value × Value
/-- the nodes that are given of trees from a place on -/
def EvAt (S : Nat → Prop) (w : World) : F → Nat → Nat → Nat → List Ev → Prop
  | .nil, _, _, _, l => l = []
  | .node xb xo d k r, i, b, o, l => ∃ av ka kc l1 l2, (w.cell? ⟨b, o, none⟩ = some (.int .i64 d.k) ∧ w.cell? ⟨b, o + 1, none⟩ = some (.string d.n) ∧ w.cell? ⟨b, o + 2, none⟩ = some (.string d.x) ∧
      w.cell? ⟨b, o + 3, none⟩ = some av ∧ w.cell? ⟨b, o + 4, none⟩ = some (.slice ka k.len kc)) ∧ (AS S w av d.ats ∧ FL S w (.slice ka k.len kc) k) ∧ k.len ≤ kc ∧ kc ≤ maxLen ∧
      ((k.len = 0 ∧ l1 = []) ∨ ∃ b' o', ka = some ⟨b', o', none⟩ ∧ S b' ∧ EvAt S w k (i + 1) b' o' l1) ∧ EvAt S w r i b (o + 5) l2 ∧ l = (⟨i, d, k⟩, av, .slice ka k.len kc) :: (l1 ++ l2)
/-- .. of a slice of trees -/
def EvS (S : Nat → Prop) (w : World) (v : Value) (i : Nat) (f : F) (l : List Ev) : Prop :=
  ∃ a cap, v = .slice a f.len cap ∧ f.len ≤ cap ∧ cap ≤ maxLen ∧ ((f.len = 0 ∧ l = []) ∨ ∃ b o, a = some ⟨b, o, none⟩ ∧ S b ∧ EvAt S w f i b o l)
theorem FAt.ev {S : Nat → Prop} {w : World} : ∀ (f : F) (i b o : Nat), FAt S w f b o → ∃ l, EvAt S w f i b o l
  | .nil, _, _, _, _ => ⟨[], rfl⟩
  | .node xb xo d k r, i, b, o, hf => by
    obtain ⟨⟨av, ka, kc, c0, c1, c2, c3, c4, ha, h1, h2, hk⟩, hr⟩ := hf
    obtain ⟨l2, h3⟩ := FAt.ev r i b (o + 5) hr
    rcases hk with hk | ⟨b', o', e, hS', hk⟩
    · exact ⟨_, av, ka, kc, [], l2, ⟨c0, c1, c2, c3, c4⟩, ⟨ha, ka, kc, rfl, h1, h2, .inl hk⟩, h1, h2, .inl ⟨hk, rfl⟩, h3, rfl⟩
    · obtain ⟨l1, h4⟩ := FAt.ev k (i + 1) b' o' hk
      exact ⟨_, av, ka, kc, l1, l2, ⟨c0, c1, c2, c3, c4⟩, ⟨ha, ka, kc, rfl, h1, h2, .inr ⟨b', o', e, hS', hk⟩⟩, h1, h2, .inr ⟨b', o', e, hS', h4⟩, h3, rfl⟩
theorem FL.ev {S : Nat → Prop} {w : World} {v : Value} {f : F} (h : FL S w v f) (i : Nat) : ∃ l, EvS S w v i f l := by
  obtain ⟨a, cap, e, h1, h2, h3⟩ := h
  rcases h3 with h3 | ⟨b, o, ea, hS, hc⟩
  · exact ⟨[], a, cap, e, h1, h2, .inl ⟨h3, rfl⟩⟩
  · obtain ⟨l, hl⟩ := FAt.ev f i b o hc
    exact ⟨l, a, cap, e, h1, h2, .inr ⟨b, o, ea, hS, hl⟩⟩
theorem EvAt.like {S : Nat → Prop} {w w' : World} (h : Like S w w') : ∀ (f : F) (i b o : Nat) (l : List Ev), S b → EvAt S w f i b o l → EvAt S w' f i b o l
  | .nil, _, _, _, _, _, hf => hf
  | .node xb xo d k r, i, b, o, l, hS, hf => by
    obtain ⟨av, ka, kc, l1, l2, ⟨c0, c1, c2, c3, c4⟩, ⟨ha, hfs⟩, h1, h2, hk, hr, e⟩ := hf
    refine ⟨av, ka, kc, l1, l2, ⟨h.cell hS c0, h.cell hS c1, h.cell hS c2, h.cell hS c3, h.cell hS c4⟩, ⟨ha.like h, hfs.like h⟩, h1, h2, ?_, EvAt.like h r i b (o + 5) l2 hS hr, e⟩
    rcases hk with hk | ⟨b', o', e, hS', hk⟩
    · exact .inl hk
    · exact .inr ⟨b', o', e, hS', EvAt.like h k (i + 1) b' o' l1 hS' hk⟩
theorem EvS.like {S : Nat → Prop} {w w' : World} (h : Like S w w') {v : Value} {i : Nat} {f : F} {l : List Ev} (hf : EvS S w v i f l) : EvS S w' v i f l := by
  obtain ⟨a, cap, e, h1, h2, h3⟩ := hf
  refine ⟨a, cap, e, h1, h2, ?_⟩
  rcases h3 with h3 | ⟨b, o, ea, hS, hc⟩
  · exact .inl h3
  · exact .inr ⟨b, o, ea, hS, EvAt.like h f i b o l hS hc⟩
theorem EvAt.mono {S S' : Nat → Prop} {w : World} (h : ∀ b, S b → S' b) : ∀ (f : F) (i b o : Nat) (l : List Ev), EvAt S w f i b o l → EvAt S' w f i b o l
  | .nil, _, _, _, _, hf => hf
  | .node xb xo d k r, i, b, o, l, hf => by
    obtain ⟨av, ka, kc, l1, l2, hc, ⟨ha, hfs⟩, h1, h2, hk, hr, e⟩ := hf
    refine ⟨av, ka, kc, l1, l2, hc, ⟨ha.mono h, hfs.mono h⟩, h1, h2, ?_, EvAt.mono h r i b (o + 5) l2 hr, e⟩
    rcases hk with hk | ⟨b', o', e, hS', hk⟩
    · exact .inl hk
    · exact .inr ⟨b', o', e, h _ hS', EvAt.mono h k (i + 1) b' o' l1 hk⟩
theorem EvS.mono {S S' : Nat → Prop} {w : World} (h : ∀ b, S b → S' b) {v : Value} {i : Nat} {f : F} {l : List Ev} (hf : EvS S w v i f l) : EvS S' w v i f l := by
  obtain ⟨a, cap, e, h1, h2, h3⟩ := hf
  refine ⟨a, cap, e, h1, h2, ?_⟩
  rcases h3 with h3 | ⟨b, o, ea, hS, hc⟩
  · exact .inl h3
  · exact .inr ⟨b, o, ea, h b hS, EvAt.mono h f i b o l hc⟩
theorem EvAt.fst {S : Nat → Prop} {w : World} : ∀ (f : F) (i b o : Nat) (l : List Ev), EvAt S w f i b o l → l.map (·.1) = pre i f
  | .nil, _, _, _, _, hf => by rw [show _ = [] from hf]; rfl
  | .node xb xo d k r, i, b, o, l, hf => by
    obtain ⟨av, ka, kc, l1, l2, hc, hx, h1, h2, hk, hr, rfl⟩ := hf
    have e2 := EvAt.fst r i b (o + 5) l2 hr
    have e1 : l1.map (·.1) = pre (i + 1) k := by
      rcases hk with ⟨h0, rfl⟩ | ⟨b', o', e, hS', hk⟩
      · rw [len_nil h0]; rfl
      · exact EvAt.fst k (i + 1) b' o' l1 hk
    simp [pre, e1, e2]
theorem EvS.fst {S : Nat → Prop} {w : World} {v : Value} {i : Nat} {f : F} {l : List Ev} (h : EvS S w v i f l) : l.map (·.1) = pre i f := by
  obtain ⟨a, cap, e, h1, h2, h3⟩ := h
  rcases h3 with ⟨h3, rfl⟩ | ⟨b, o, ea, hS, hc⟩
  · rw [len_nil h3]; rfl
  · exact EvAt.fst f i b o l hc

/-- what is known of a node that is given: its attributes and kids lie in old memory -/
structure IsAt (S : Nat → Prop) (w : World) (x : Ev) : Prop where
  at_ : AS S w x.2.1 x.1.d.ats
  kids : FL S w x.2.2 x.1.k
theorem EvAt.is {S : Nat → Prop} {w : World} : ∀ (f : F) (i b o : Nat) (l : List Ev), EvAt S w f i b o l → ∀ x ∈ l, IsAt S w x
  | .nil, _, _, _, _, hf => by rw [show _ = [] from hf]; intro x hx; cases hx
  | .node xb xo d k r, i, b, o, l, hf => by
    obtain ⟨av, ka, kc, l1, l2, hc, ⟨ha, hfs⟩, h1, h2, hk, hr, rfl⟩ := hf
    have e2 := EvAt.is r i b (o + 5) l2 hr
    have e1 : ∀ x ∈ l1, IsAt S w x := by
      rcases hk with ⟨h0, rfl⟩ | ⟨b', o', e, hS', hk⟩
      · intro x hx; cases hx
      · exact EvAt.is k (i + 1) b' o' l1 hk
    intro x hx
    rcases List.mem_cons.1 hx with rfl | hx
    · exact ⟨ha, hfs⟩
    · exact (List.mem_append.1 hx).elim (e1 x) (e2 x)
theorem EvS.is {S : Nat → Prop} {w : World} {v : Value} {i : Nat} {f : F} {l : List Ev} (h : EvS S w v i f l) : ∀ x ∈ l, IsAt S w x := by
  obtain ⟨a, cap, e, h1, h2, h3⟩ := h
  rcases h3 with ⟨h3, rfl⟩ | ⟨b, o, ea, hS, hc⟩
  · intro x hx; cases hx
  · exact EvAt.is f i b o l hc

/-- lists one upon the other, the innermost one first: what is still to be given -/
def Stk (S : Nat → Prop) (w : World) : List Value → List F → List Ev → Prop
  | [], [], l => l = []
  | v :: vs, f :: fs, l => ∃ l1 l2, EvS S w v (fs.length + 1) f l1 ∧ Stk S w vs fs l2 ∧ l = l1 ++ l2
  | _, _, _ => False
theorem Stk.like {S : Nat → Prop} {w w' : World} (h : Like S w w') : ∀ (vs : List Value) (fs : List F) (l : List Ev), Stk S w vs fs l → Stk S w' vs fs l
  | [], [], _, hs => hs
  | [], _ :: _, _, hs => hs.elim
  | _ :: _, [], _, hs => hs.elim
  | v :: vs, f :: fs, l, hs => by
    obtain ⟨l1, l2, h1, h2, e⟩ := hs
    exact ⟨l1, l2, h1.like h, Stk.like h vs fs l2 h2, e⟩
theorem Stk.len {S : Nat → Prop} {w : World} : ∀ (vs : List Value) (fs : List F) (l : List Ev), Stk S w vs fs l → vs.length = fs.length
  | [], [], _, _ => rfl
  | [], _ :: _, _, hs => hs.elim
  | _ :: _, [], _, hs => hs.elim
  | v :: vs, f :: fs, l, hs => by obtain ⟨l1, l2, h1, h2, e⟩ := hs; simp [Stk.len vs fs l2 h2]
/-- the innermost list is not empty: its first node, the rest of it, its kids upon that -/
theorem Stk.push {S : Nat → Prop} {w : World} {v : Value} {vs : List Value} {xb xo : Nat} {d : Nd} {k r : F} {fs : List F} {l : List Ev} (h : Stk S w (v :: vs) (.node xb xo d k r :: fs) l) :
    ∃ b o cap av ka kc l', v = .slice (some ⟨b, o, none⟩) (r.len + 1) cap ∧ r.len + 1 ≤ cap ∧ cap ≤ maxLen ∧ S b ∧ w.cell? ⟨b, o, none⟩ = some (.int .i64 d.k) ∧ w.cell? ⟨b, o + 1, none⟩ = some (.string d.n) ∧ w.cell? ⟨b, o + 2, none⟩ = some (.string d.x) ∧
      w.cell? ⟨b, o + 3, none⟩ = some av ∧ w.cell? ⟨b, o + 4, none⟩ = some (.slice ka k.len kc) ∧ l = (⟨fs.length + 1, d, k⟩, av, .slice ka k.len kc) :: l' ∧
      ∀ a', (r.len = 0 ∨ a' = some ⟨b, o + 5, none⟩) → Stk S w (.slice ka k.len kc :: .slice a' r.len (cap - 1) :: vs) (k :: r :: fs) l' := by
  obtain ⟨l1, l2, ⟨a, cap, rfl, h1, h2, h3⟩, h4, rfl⟩ := h
  rcases h3 with ⟨h3, _⟩ | ⟨b, o, rfl, hS, av, ka, kc, l3, l5, ⟨c0, c1, c2, c3, c4⟩, hx, h5, h6, hk, hr, rfl⟩
  · simp [BT.len] at h3
  · have h1' : r.len + 1 ≤ cap := h1
    refine ⟨b, o, cap, av, ka, kc, l3 ++ l5 ++ l2, rfl, h1', h2, hS, c0, c1, c2, c3, c4, rfl, fun a' ha' => ?_⟩
    refine ⟨l3, l5 ++ l2, ⟨ka, kc, rfl, h5, h6, hk⟩, ⟨l5, l2, ⟨a', cap - 1, rfl, by omega, by omega, ?_⟩, h4, rfl⟩, by simp⟩
    rcases ha' with ha' | rfl
    · refine .inl ⟨ha', ?_⟩
      rw [len_nil ha'] at hr
      exact hr
    · exact .inr ⟨b, o + 5, rfl, hS, hr⟩
theorem Stk.pop {S : Nat → Prop} {w : World} {v : Value} {vs : List Value} {fs : List F} {l : List Ev} (h : Stk S w (v :: vs) (.nil :: fs) l) : Stk S w vs fs l ∧ ∃ a cap, v = .slice a 0 cap := by
  obtain ⟨l1, l2, hx, h4, rfl⟩ := h
  have := hx.fst
  have e : l1 = [] := by simpa [pre] using this
  obtain ⟨a, cap, e2, _⟩ := hx
  rw [e]
  exact ⟨h4, a, cap, e2⟩

theorem own_pop {w : World} {B E g n cap : Nat} {l : List Value} {x : Value} (h : w.ownsRow B E 1 (.slice (some ⟨g, 0, none⟩) (n + 1) cap) (n + 1) (l ++ [x])) :
    w.ownsRow B E 1 (.slice (some ⟨g, 0, none⟩) n cap) n l := by
  obtain ⟨h1, h2⟩ := h
  have hl : l.length = n := by simpa using h1
  refine ⟨by omega, .inr ?_⟩
  rcases h2 with ⟨e, _⟩ | ⟨g', cap', cur, e, hg, hh, hc1, hc2, hs, ht⟩
  · cases e
  · cases e
    refine ⟨g, cap, cur, rfl, hg, hh, by omega, hc2, hs, ?_⟩
    have := congrArg (List.take n) ht
    rw [List.take_take, List.take_append_of_le_length (by omega), List.take_of_length_le (Nat.le_of_eq hl)] at this
    rw [Nat.mul_one]
    rw [← this]
    congr 1
    omega
theorem own_set {w : World} {B E g n cap : Nat} {l : List Value} {x y : Value} (h : w.ownsRow B E 1 (.slice (some ⟨g, 0, none⟩) (n + 1) cap) (n + 1) (l ++ [x])) :
    (w.setCell ⟨g, n, none⟩ y).ownsRow B E 1 (.slice (some ⟨g, 0, none⟩) (n + 1) cap) (n + 1) (l ++ [y]) := by
  obtain ⟨h1, h2⟩ := h
  have hl : l.length = n := by simpa using h1
  refine ⟨by simp; omega, .inr ?_⟩
  rcases h2 with ⟨e, _⟩ | ⟨g', cap', cur, e, hg, hh, hc1, hc2, hs, ht⟩
  · cases e
  · cases e
    refine ⟨g, cap, cur.setIfInBounds n y, rfl, hg, ?_, hc1, hc2, by simpa using hs, ?_⟩
    · simp only [World.setCell, Array.getElem?_modify, hh]
      simp
    · rw [Array.toList_setIfInBounds, List.take_set, ht, List.set_append, if_neg (by omega)]
      simp [hl]
theorem own_at {w : World} {B E g n cap : Nat} {l : List Value} {x : Value} (h : w.ownsRow B E 1 (.slice (some ⟨g, 0, none⟩) (n + 1) cap) (n + 1) (l ++ [x])) :
    w.cell? ⟨g, n, none⟩ = some x ∧ w.frozen? ⟨g, n, none⟩ = false ∧ B ≤ g ∧ g < w.heap.size := by
  obtain ⟨h1, h2⟩ := h
  have hl : l.length = n := by simpa using h1
  rcases h2 with ⟨e, _⟩ | ⟨g', cap', cur, e, hg, hh, hc1, hc2, hs, ht⟩
  · cases e
  · cases e
    refine ⟨?_, ?_, hg, (Array.getElem?_eq_some_iff.1 hh).1⟩
    · simp only [World.cell?, hh]
      have := congrArg (fun z => z[n]?) ht
      simp only [List.getElem?_append_right (show l.length ≤ n by omega), hl, Nat.sub_self, List.getElem?_cons_zero] at this
      rw [List.getElem?_take_of_lt (by omega)] at this
      simpa using this
    · simp [World.frozen?, hh]
theorem least_lt {p q : Nat → Prop} {k0 k' : Nat} (h0 : leastOf p = k0) (hq : q k') (hk : k' < k0) : leastOf q < leastOf p := by
  rw [h0]; exact Nat.lt_of_le_of_lt ((leastOf_spec ⟨k', hq⟩).2 k' hq) hk
theorem own_blk {g n c k : Nat} (e : some k = (Value.slice (some ⟨g, 0, none⟩) n c).ownBlock) : k = g := Option.some.inj e
theorem own_cap {w : World} {B E size g m n cap : Nat} {l : List Value} (h : w.ownsRow B E size (.slice (some ⟨g, 0, none⟩) n cap) m l) : n ≤ cap := by
  rcases h.2 with ⟨e, _⟩ | ⟨g', cap', cur, e, hg, hh, hc1, _⟩
  · cases e
  · cases e; exact hc1
theorem own_like {w w' : World} {B E size n : Nat} {v : Value} {xs : List Value} (h : w.ownsRow B E size v n xs) (hb : ∀ k, B ≤ k → k < w.heap.size → w'.heap[k]? = w.heap[k]?) : w'.ownsRow B E size v n xs := by
  obtain ⟨h1, h2⟩ := h
  refine ⟨h1, ?_⟩
  rcases h2 with h2 | ⟨g, cap, cur, e, hg, hh, r⟩
  · exact .inl h2
  · exact .inr ⟨g, cap, cur, e, hg, (hb g hg (Array.getElem?_eq_some_iff.1 hh).1).trans hh, r⟩

/-- what a round is handed: the depth, the node -/
def encs (x : Ev) : Array Value := #[.int .i64 x.1.i, nodeV x.1.d x.2.1 x.2.2]

/-- where the iterator stands: k rounds at most are to come -/
def Rel (N n₀ B : Nat) (xs : List Ev) (J : List Ev → World → Prop) (k : Nat) (v : Value) (wr : World) : Prop :=
  ∃ (done todo : List Ev) (L : List F) (vs : List Value) (g cap : Nat), v = .slice (some ⟨g, 0, none⟩) L.length cap ∧ wr.ownsRow (B + 1) 23 1 v L.length vs.reverse ∧
    Stk (fun b => b < n₀ ∨ b = B) wr vs L todo ∧ xs = done ++ todo ∧ J done wr ∧ fuel L ≤ k ∧ high N L ∧ B + 1 ≤ wr.heap.size

theorem infoT : (Try.prog.info? 23).map (fun i => (i.zero, i.size, i.bytes)) = some (some (.slice none 0 0), 1, 24) := by kernel_rfl

end Go.Proofs.Ytjjkidenlgghkaa
