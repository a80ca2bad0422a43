/- The iterator over a tree's nodes: it gives each node with its depth, a node ahead of its kids. -/
import Derived.Test.YtkojhgagkoeeiaaMem
import Derived.Shelf.Abstract
import Derived.Shelf.RegionOpen
import Derived.OwnWalkIn
import Derived.TacticsInMore
import Derived.LoopNIn
import Derived.LoopIn
import Derived.Deep.LoopGhost
import Derived.Maps.AppendAt
set_option linter.unusedVariables false
namespace Go.Proofs.Ytkojhgagkoeeiaa
open Go.Deep (BT)
open Go.RowKit Go.Shelf M
attribute [local go_sem] Oper.semAt_some

/-- a node as it is given: with the values of its attributes and kids -/
abbrev Ev := At × Value × Value
/-- the nodes that are given of trees from a place on -/
def EvAt (S : Nat → Prop) (w : World) : F → Nat → Nat → Nat → List Ev → Prop
  | .nil, _, _, _, l => l = []
  | .node xb xo d k r, i, b, o, l => ∃ av ka kc l1 l2, (w.cell? ⟨b, o, none⟩ = some (.int .i64 d.k) ∧ w.cell? ⟨b, o + 1, none⟩ = some (.string d.n) ∧ w.cell? ⟨b, o + 2, none⟩ = some (.string d.x) ∧
      w.cell? ⟨b, o + 3, none⟩ = some av ∧ w.cell? ⟨b, o + 4, none⟩ = some (.slice ka k.len kc)) ∧ (AS S w av d.ats ∧ FL S w (.slice ka k.len kc) k) ∧ k.len ≤ kc ∧ kc ≤ maxLen ∧
      ((k.len = 0 ∧ l1 = []) ∨ ∃ b' o', ka = some ⟨b', o', none⟩ ∧ S b' ∧ EvAt S w k (i + 1) b' o' l1) ∧ EvAt S w r i b (o + 5) l2 ∧ l = (⟨i, d, k⟩, av, .slice ka k.len kc) :: (l1 ++ l2)
/-- .. of a slice of trees -/
def EvS (S : Nat → Prop) (w : World) (v : Value) (i : Nat) (f : F) (l : List Ev) : Prop :=
  ∃ a cap, v = .slice a f.len cap ∧ f.len ≤ cap ∧ cap ≤ maxLen ∧ ((f.len = 0 ∧ l = []) ∨ ∃ b o, a = some ⟨b, o, none⟩ ∧ S b ∧ EvAt S w f i b o l)
theorem FAt.ev {S : Nat → Prop} {w : World} : ∀ (f : F) (i b o : Nat), FAt S w f b o → ∃ l, EvAt S w f i b o l
  | .nil, _, _, _, _ => ⟨[], rfl⟩
  | .node xb xo d k r, i, b, o, hf => by
    obtain ⟨⟨av, ka, kc, c0, c1, c2, c3, c4, ha, h1, h2, hk⟩, hr⟩ := hf
    obtain ⟨l2, h3⟩ := FAt.ev r i b (o + 5) hr
    rcases hk with hk | ⟨b', o', e, hS', hk⟩
    · exact ⟨_, av, ka, kc, [], l2, ⟨c0, c1, c2, c3, c4⟩, ⟨ha, ka, kc, rfl, h1, h2, .inl hk⟩, h1, h2, .inl ⟨hk, rfl⟩, h3, rfl⟩
    · obtain ⟨l1, h4⟩ := FAt.ev k (i + 1) b' o' hk
      exact ⟨_, av, ka, kc, l1, l2, ⟨c0, c1, c2, c3, c4⟩, ⟨ha, ka, kc, rfl, h1, h2, .inr ⟨b', o', e, hS', hk⟩⟩, h1, h2, .inr ⟨b', o', e, hS', h4⟩, h3, rfl⟩
theorem FL.ev {S : Nat → Prop} {w : World} {v : Value} {f : F} (h : FL S w v f) (i : Nat) : ∃ l, EvS S w v i f l := by
  obtain ⟨a, cap, e, h1, h2, h3⟩ := h
  rcases h3 with h3 | ⟨b, o, ea, hS, hc⟩
  · exact ⟨[], a, cap, e, h1, h2, .inl ⟨h3, rfl⟩⟩
  · obtain ⟨l, hl⟩ := FAt.ev f i b o hc
    exact ⟨l, a, cap, e, h1, h2, .inr ⟨b, o, ea, hS, hl⟩⟩
theorem EvAt.like {S : Nat → Prop} {w w' : World} (h : Like S w w') : ∀ (f : F) (i b o : Nat) (l : List Ev), S b → EvAt S w f i b o l → EvAt S w' f i b o l
  | .nil, _, _, _, _, _, hf => hf
  | .node xb xo d k r, i, b, o, l, hS, hf => by
    obtain ⟨av, ka, kc, l1, l2, ⟨c0, c1, c2, c3, c4⟩, ⟨ha, hfs⟩, h1, h2, hk, hr, e⟩ := hf
    refine ⟨av, ka, kc, l1, l2, ⟨h.cell hS c0, h.cell hS c1, h.cell hS c2, h.cell hS c3, h.cell hS c4⟩, ⟨ha.like h, hfs.like h⟩, h1, h2, ?_, EvAt.like h r i b (o + 5) l2 hS hr, e⟩
    rcases hk with hk | ⟨b', o', e, hS', hk⟩
    · exact .inl hk
    · exact .inr ⟨b', o', e, hS', EvAt.like h k (i + 1) b' o' l1 hS' hk⟩
theorem EvS.like {S : Nat → Prop} {w w' : World} (h : Like S w w') {v : Value} {i : Nat} {f : F} {l : List Ev} (hf : EvS S w v i f l) : EvS S w' v i f l := by
  obtain ⟨a, cap, e, h1, h2, h3⟩ := hf
  refine ⟨a, cap, e, h1, h2, ?_⟩
  rcases h3 with h3 | ⟨b, o, ea, hS, hc⟩
  · exact .inl h3
  · exact .inr ⟨b, o, ea, hS, EvAt.like h f i b o l hS hc⟩
theorem EvAt.mono {S S' : Nat → Prop} {w : World} (h : ∀ b, S b → S' b) : ∀ (f : F) (i b o : Nat) (l : List Ev), EvAt S w f i b o l → EvAt S' w f i b o l
  | .nil, _, _, _, _, hf => hf
  | .node xb xo d k r, i, b, o, l, hf => by
    obtain ⟨av, ka, kc, l1, l2, hc, ⟨ha, hfs⟩, h1, h2, hk, hr, e⟩ := hf
    refine ⟨av, ka, kc, l1, l2, hc, ⟨ha.mono h, hfs.mono h⟩, h1, h2, ?_, EvAt.mono h r i b (o + 5) l2 hr, e⟩
    rcases hk with hk | ⟨b', o', e, hS', hk⟩
    · exact .inl hk
    · exact .inr ⟨b', o', e, h _ hS', EvAt.mono h k (i + 1) b' o' l1 hk⟩
theorem EvS.mono {S S' : Nat → Prop} {w : World} (h : ∀ b, S b → S' b) {v : Value} {i : Nat} {f : F} {l : List Ev} (hf : EvS S w v i f l) : EvS S' w v i f l := by
  obtain ⟨a, cap, e, h1, h2, h3⟩ := hf
  refine ⟨a, cap, e, h1, h2, ?_⟩
  rcases h3 with h3 | ⟨b, o, ea, hS, hc⟩
  · exact .inl h3
  · exact .inr ⟨b, o, ea, h b hS, EvAt.mono h f i b o l hc⟩
theorem EvAt.fst {S : Nat → Prop} {w : World} : ∀ (f : F) (i b o : Nat) (l : List Ev), EvAt S w f i b o l → l.map (·.1) = pre i f
  | .nil, _, _, _, _, hf => by rw [show _ = [] from hf]; rfl
  | .node xb xo d k r, i, b, o, l, hf => by
    obtain ⟨av, ka, kc, l1, l2, hc, hx, h1, h2, hk, hr, rfl⟩ := hf
    have e2 := EvAt.fst r i b (o + 5) l2 hr
    have e1 : l1.map (·.1) = pre (i + 1) k := by
      rcases hk with ⟨h0, rfl⟩ | ⟨b', o', e, hS', hk⟩
      · rw [len_nil h0]; rfl
      · exact EvAt.fst k (i + 1) b' o' l1 hk
    simp [pre, e1, e2]
theorem EvS.fst {S : Nat → Prop} {w : World} {v : Value} {i : Nat} {f : F} {l : List Ev} (h : EvS S w v i f l) : l.map (·.1) = pre i f := by
  obtain ⟨a, cap, e, h1, h2, h3⟩ := h
  rcases h3 with ⟨h3, rfl⟩ | ⟨b, o, ea, hS, hc⟩
  · rw [len_nil h3]; rfl
  · exact EvAt.fst f i b o l hc

/-- what is known of a node that is given: its attributes and kids lie in old memory -/
structure IsAt (S : Nat → Prop) (w : World) (x : Ev) : Prop where
  at_ : AS S w x.2.1 x.1.d.ats
  kids : FL S w x.2.2 x.1.k
theorem EvAt.is {S : Nat → Prop} {w : World} : ∀ (f : F) (i b o : Nat) (l : List Ev), EvAt S w f i b o l → ∀ x ∈ l, IsAt S w x
  | .nil, _, _, _, _, hf => by rw [show _ = [] from hf]; intro x hx; cases hx
  | .node xb xo d k r, i, b, o, l, hf => by
    obtain ⟨av, ka, kc, l1, l2, hc, ⟨ha, hfs⟩, h1, h2, hk, hr, rfl⟩ := hf
    have e2 := EvAt.is r i b (o + 5) l2 hr
    have e1 : ∀ x ∈ l1, IsAt S w x := by
      rcases hk with ⟨h0, rfl⟩ | ⟨b', o', e, hS', hk⟩
      · intro x hx; cases hx
      · exact EvAt.is k (i + 1) b' o' l1 hk
    intro x hx
    rcases List.mem_cons.1 hx with rfl | hx
    · exact ⟨ha, hfs⟩
    · exact (List.mem_append.1 hx).elim (e1 x) (e2 x)
theorem EvS.is {S : Nat → Prop} {w : World} {v : Value} {i : Nat} {f : F} {l : List Ev} (h : EvS S w v i f l) : ∀ x ∈ l, IsAt S w x := by
  obtain ⟨a, cap, e, h1, h2, h3⟩ := h
  rcases h3 with ⟨h3, rfl⟩ | ⟨b, o, ea, hS, hc⟩
  · intro x hx; cases hx
  · exact EvAt.is f i b o l hc

/-- lists one upon the other, the innermost one first: what is still to be given -/
def Stk (S : Nat → Prop) (w : World) : List Value → List F → List Ev → Prop
  | [], [], l => l = []
  | v :: vs, f :: fs, l => ∃ l1 l2, EvS S w v (fs.length + 1) f l1 ∧ Stk S w vs fs l2 ∧ l = l1 ++ l2
  | _, _, _ => False
theorem Stk.like {S : Nat → Prop} {w w' : World} (h : Like S w w') : ∀ (vs : List Value) (fs : List F) (l : List Ev), Stk S w vs fs l → Stk S w' vs fs l
  | [], [], _, hs => hs
  | [], _ :: _, _, hs => hs.elim
  | _ :: _, [], _, hs => hs.elim
  | v :: vs, f :: fs, l, hs => by
    obtain ⟨l1, l2, h1, h2, e⟩ := hs
    exact ⟨l1, l2, h1.like h, Stk.like h vs fs l2 h2, e⟩
theorem Stk.len {S : Nat → Prop} {w : World} : ∀ (vs : List Value) (fs : List F) (l : List Ev), Stk S w vs fs l → vs.length = fs.length
  | [], [], _, _ => rfl
  | [], _ :: _, _, hs => hs.elim
  | _ :: _, [], _, hs => hs.elim
  | v :: vs, f :: fs, l, hs => by obtain ⟨l1, l2, h1, h2, e⟩ := hs; simp [Stk.len vs fs l2 h2]
/-- the innermost list is not empty: its first node, the rest of it, its kids upon that -/
theorem Stk.push {S : Nat → Prop} {w : World} {v : Value} {vs : List Value} {xb xo : Nat} {d : Nd} {k r : F} {fs : List F} {l : List Ev} (h : Stk S w (v :: vs) (.node xb xo d k r :: fs) l) :
    ∃ b o cap av ka kc l', v = .slice (some ⟨b, o, none⟩) (r.len + 1) cap ∧ r.len + 1 ≤ cap ∧ cap ≤ maxLen ∧ S b ∧ w.cell? ⟨b, o, none⟩ = some (.int .i64 d.k) ∧ w.cell? ⟨b, o + 1, none⟩ = some (.string d.n) ∧ w.cell? ⟨b, o + 2, none⟩ = some (.string d.x) ∧
      w.cell? ⟨b, o + 3, none⟩ = some av ∧ w.cell? ⟨b, o + 4, none⟩ = some (.slice ka k.len kc) ∧ l = (⟨fs.length + 1, d, k⟩, av, .slice ka k.len kc) :: l' ∧
      ∀ a', (r.len = 0 ∨ a' = some ⟨b, o + 5, none⟩) → Stk S w (.slice ka k.len kc :: .slice a' r.len (cap - 1) :: vs) (k :: r :: fs) l' := by
  obtain ⟨l1, l2, ⟨a, cap, rfl, h1, h2, h3⟩, h4, rfl⟩ := h
  rcases h3 with ⟨h3, _⟩ | ⟨b, o, rfl, hS, av, ka, kc, l3, l5, ⟨c0, c1, c2, c3, c4⟩, hx, h5, h6, hk, hr, rfl⟩
  · simp [BT.len] at h3
  · have h1' : r.len + 1 ≤ cap := h1
    refine ⟨b, o, cap, av, ka, kc, l3 ++ l5 ++ l2, rfl, h1', h2, hS, c0, c1, c2, c3, c4, rfl, fun a' ha' => ?_⟩
    refine ⟨l3, l5 ++ l2, ⟨ka, kc, rfl, h5, h6, hk⟩, ⟨l5, l2, ⟨a', cap - 1, rfl, by omega, by omega, ?_⟩, h4, rfl⟩, by simp⟩
    rcases ha' with ha' | rfl
    · refine .inl ⟨ha', ?_⟩
      rw [len_nil ha'] at hr
      exact hr
    · exact .inr ⟨b, o + 5, rfl, hS, hr⟩
theorem Stk.pop {S : Nat → Prop} {w : World} {v : Value} {vs : List Value} {fs : List F} {l : List Ev} (h : Stk S w (v :: vs) (.nil :: fs) l) : Stk S w vs fs l ∧ ∃ a cap, v = .slice a 0 cap := by
  obtain ⟨l1, l2, hx, h4, rfl⟩ := h
  have := hx.fst
  have e : l1 = [] := by simpa [pre] using this
  obtain ⟨a, cap, e2, _⟩ := hx
  rw [e]
  exact ⟨h4, a, cap, e2⟩

theorem own_pop {w : World} {B E g n cap : Nat} {l : List Value} {x : Value} (h : w.ownsRow B E 1 (.slice (some ⟨g, 0, none⟩) (n + 1) cap) (n + 1) (l ++ [x])) :
    w.ownsRow B E 1 (.slice (some ⟨g, 0, none⟩) n cap) n l := by
  obtain ⟨h1, h2⟩ := h
  have hl : l.length = n := by simpa using h1
  refine ⟨by omega, .inr ?_⟩
  rcases h2 with ⟨e, _⟩ | ⟨g', cap', cur, e, hg, hh, hc1, hc2, hs, ht⟩
  · cases e
  · cases e
    refine ⟨g, cap, cur, rfl, hg, hh, by omega, hc2, hs, ?_⟩
    have := congrArg (List.take n) ht
    rw [List.take_take, List.take_append_of_le_length (by omega), List.take_of_length_le (Nat.le_of_eq hl)] at this
    rw [Nat.mul_one]
    rw [← this]
    congr 1
    omega
theorem own_set {w : World} {B E g n cap : Nat} {l : List Value} {x y : Value} (h : w.ownsRow B E 1 (.slice (some ⟨g, 0, none⟩) (n + 1) cap) (n + 1) (l ++ [x])) :
    (w.setCell ⟨g, n, none⟩ y).ownsRow B E 1 (.slice (some ⟨g, 0, none⟩) (n + 1) cap) (n + 1) (l ++ [y]) := by
  obtain ⟨h1, h2⟩ := h
  have hl : l.length = n := by simpa using h1
  refine ⟨by simp; omega, .inr ?_⟩
  rcases h2 with ⟨e, _⟩ | ⟨g', cap', cur, e, hg, hh, hc1, hc2, hs, ht⟩
  · cases e
  · cases e
    refine ⟨g, cap, cur.setIfInBounds n y, rfl, hg, ?_, hc1, hc2, by simpa using hs, ?_⟩
    · simp only [World.setCell, Array.getElem?_modify, hh]
      simp
    · rw [Array.toList_setIfInBounds, List.take_set, ht, List.set_append, if_neg (by omega)]
      simp [hl]
theorem own_at {w : World} {B E g n cap : Nat} {l : List Value} {x : Value} (h : w.ownsRow B E 1 (.slice (some ⟨g, 0, none⟩) (n + 1) cap) (n + 1) (l ++ [x])) :
    w.cell? ⟨g, n, none⟩ = some x ∧ w.frozen? ⟨g, n, none⟩ = false ∧ B ≤ g ∧ g < w.heap.size := by
  obtain ⟨h1, h2⟩ := h
  have hl : l.length = n := by simpa using h1
  rcases h2 with ⟨e, _⟩ | ⟨g', cap', cur, e, hg, hh, hc1, hc2, hs, ht⟩
  · cases e
  · cases e
    refine ⟨?_, ?_, hg, (Array.getElem?_eq_some_iff.1 hh).1⟩
    · simp only [World.cell?, hh]
      have := congrArg (fun z => z[n]?) ht
      simp only [List.getElem?_append_right (show l.length ≤ n by omega), hl, Nat.sub_self, List.getElem?_cons_zero] at this
      rw [List.getElem?_take_of_lt (by omega)] at this
      simpa using this
    · simp [World.frozen?, hh]
theorem least_lt {p q : Nat → Prop} {k0 k' : Nat} (h0 : leastOf p = k0) (hq : q k') (hk : k' < k0) : leastOf q < leastOf p := by
  rw [h0]; exact Nat.lt_of_le_of_lt ((leastOf_spec ⟨k', hq⟩).2 k' hq) hk
theorem own_blk {g n c k : Nat} (e : some k = (Value.slice (some ⟨g, 0, none⟩) n c).ownBlock) : k = g := Option.some.inj e
theorem own_cap {w : World} {B E size g m n cap : Nat} {l : List Value} (h : w.ownsRow B E size (.slice (some ⟨g, 0, none⟩) n cap) m l) : n ≤ cap := by
  rcases h.2 with ⟨e, _⟩ | ⟨g', cap', cur, e, hg, hh, hc1, _⟩
  · cases e
  · cases e; exact hc1
theorem own_like {w w' : World} {B E size n : Nat} {v : Value} {xs : List Value} (h : w.ownsRow B E size v n xs) (hb : ∀ k, B ≤ k → k < w.heap.size → w'.heap[k]? = w.heap[k]?) : w'.ownsRow B E size v n xs := by
  obtain ⟨h1, h2⟩ := h
  refine ⟨h1, ?_⟩
  rcases h2 with h2 | ⟨g, cap, cur, e, hg, hh, r⟩
  · exact .inl h2
  · exact .inr ⟨g, cap, cur, e, hg, (hb g hg (Array.getElem?_eq_some_iff.1 hh).1).trans hh, r⟩

/-- what a round is handed: the depth, the node -/
def encs (x : Ev) : Array Value := #[.int .i64 x.1.i, nodeV x.1.d x.2.1 x.2.2]

/-- where the iterator stands: k rounds at most are to come -/
def Rel (N n₀ B : Nat) (xs : List Ev) (J : List Ev → World → Prop) (k : Nat) (v : Value) (wr : World) : Prop :=
  ∃ (done todo : List Ev) (L : List F) (vs : List Value) (g cap : Nat), v = .slice (some ⟨g, 0, none⟩) L.length cap ∧ wr.ownsRow (B + 1) 23 1 v L.length vs.reverse ∧
    Stk (fun b => b < n₀ ∨ b = B) wr vs L todo ∧ xs = done ++ todo ∧ J done wr ∧ fuel L ≤ k ∧ high N L ∧ B + 1 ≤ wr.heap.size

theorem infoT : (Try.prog.info? 23).map (fun i => (i.zero, i.size, i.bytes)) = some (some (.slice none 0 0), 1, 24) := by kernel_rfl

set_option maxRecDepth 100000 in
set_option maxHeartbeats 2000000 in
theorem iter_in (F : Fence) (n : Nat) (hf : F.fn 58) (hro : F.round = none) (hn : 1 ≤ n) (N n₀ l Bn : Nat) (d : Nd) (k : M.F) (av : Value) (ka : Option Addr) (kc : Nat) (J Jx : List Ev → World → Prop) (xs : List Ev) (W : World)
    (hN : N ≤ 1000000) (hk : k.depth + 2 ≤ N) (hn₀ : n₀ ≤ W.heap.size) (hJ : Abide W.heap.size J)
    (hY : ∀ pre x W1, J pre W1 → W.heap.size ≤ W1.heap.size → pre ++ [x] <+: xs → YieldAt F (n - 1) Try.prog l (encs x) W1 fun e W' =>
      (e = .returned (.bool true) ∧ J (pre ++ [x]) W' ∧ Keep n₀ W.heap.size W1 W') ∨ (e = .returned (.bool false) ∧ Jx (pre ++ [x]) W'))
    (h0 : J [] W) (hc : W.cell? ⟨Bn, 0, none⟩ = some (.int .i64 d.k) ∧ W.cell? ⟨Bn, 1, none⟩ = some (.string d.n) ∧ W.cell? ⟨Bn, 2, none⟩ = some (.string d.x) ∧ W.cell? ⟨Bn, 3, none⟩ = some av ∧ W.cell? ⟨Bn, 4, none⟩ = some (.slice ka k.len kc))
    (l2 : List Ev) (hx : xs = (⟨1, d, k⟩, av, .slice ka k.len kc) :: l2) (he : EvS (Old n₀) W (.slice ka k.len kc) 2 k l2) (ha : AS (Old n₀) W av d.ats) (hfs : FL (Old n₀) W (.slice ka k.len kc) k) :
    CallsIn F n Try.prog 58 #[.func (.yield l) #[] #[], .pointer (some ⟨Bn, 0, none⟩)] W fun e W' => (∃ v, e = .returned v) ∧ (J xs W' ∨ (∃ pre, pre <+: xs ∧ Jx pre W')) := by
  obtain ⟨c0, c1, c2, c3, c4⟩ := hc
  refine callsIn_of_wp Try.func58 rfl hf ?_ hro
  simp only [Try.ntmps58, List.size_toArray, List.length_cons, List.length_nil, Nat.reduceAdd, Nat.reduceSub, Array.replicate_succ, Array.replicate_zero, List.push_toArray, List.append_toArray, List.nil_append, List.cons_append]
  gi_wp2
  gi_loopw [3] (fun v wr => ∃ k, Rel N n₀ W.heap.size xs J k v wr) (fun v wr => leastOf (fun k => Rel N n₀ W.heap.size xs J k v wr))
  case atStart =>
    have hlk : Like (Old n₀) W ((W.alloc (.cells #[.int .i64 d.k, .string d.n, .string d.x, av, .slice ka k.len kc] 25)).alloc (.cells #[.slice (some ⟨W.heap.size, 0, none⟩) 1 1] 23)) := like_below (((Below.refl _ W).alloc hn₀ _).alloc (by simp; omega) _)
    have hown : World.ownsRow ((W.alloc (.cells #[.int .i64 d.k, .string d.n, .string d.x, av, .slice ka k.len kc] 25)).alloc (.cells #[.slice (some ⟨W.heap.size, 0, none⟩) 1 1] 23)) (W.heap.size + 1) 23 1 (.slice (some ⟨W.heap.size + 1, 0, none⟩) 1 1) 1 [.slice (some ⟨W.heap.size, 0, none⟩) 1 1] := by
      refine ⟨rfl, .inr ⟨W.heap.size + 1, 1, #[.slice (some ⟨W.heap.size, 0, none⟩) 1 1], rfl, Nat.le_refl _, ?_, Nat.le_refl _, by unfold maxLen; omega, rfl, rfl⟩⟩
      have := World.alloc_heap_new (W.alloc (.cells #[.int .i64 d.k, .string d.n, .string d.x, av, .slice ka k.len kc] 25)) (.cells #[.slice (some ⟨W.heap.size, 0, none⟩) 1 1] 23)
      rwa [World.size_alloc] at this
    refine ⟨fuel [.cons d k .nil], [], xs, [.cons d k .nil], [.slice (some ⟨W.heap.size, 0, none⟩) 1 1], W.heap.size + 1, 1, rfl, hown, ?_, rfl, ?_, Nat.le_refl _, ?_, by simp⟩
    · refine ⟨xs, [], ⟨some ⟨W.heap.size, 0, none⟩, 1, rfl, Nat.le_refl _, by unfold maxLen; omega, .inr ⟨W.heap.size, 0, rfl, .inr rfl, ?_⟩⟩, rfl, by simp⟩
      have hmono : ∀ b, Old n₀ b → b < n₀ ∨ b = W.heap.size := fun b hb => .inl hb
      obtain ⟨a1, cap1, e1, e2, e3, e4⟩ := EvS.mono hmono (he.like hlk)
      cases e1
      refine ⟨av, ka, kc, l2, [], ⟨?_, ?_, ?_, ?_, ?_⟩, ⟨(ha.like hlk).mono hmono, (hfs.like hlk).mono hmono⟩, e2, e3, e4, rfl, by rw [hx]; simp⟩
      all_goals (rw [World.cell?_alloc_lt _ _ _ (by simp)]; exact World.cell?_alloc_new W _ _ _)
    · exact hJ _ _ _ h0 (((Below.refl _ W).alloc (Nat.le_refl _) _).alloc (by simp) _)
    · refine ⟨?_, trivial⟩
      simp [BT.depth]
      omega
  case round =>
    have hrel0 := (leastOf_spec hrel).1
    obtain ⟨k0, hk0⟩ : ∃ k0, leastOf (fun k => Rel N n₀ W.heap.size xs J k u3 wr) = k0 := ⟨_, rfl⟩
    rw [hk0] at hrel0
    have HK : Aside (leastOf (fun k => Rel N n₀ W.heap.size xs J k u3 wr) = k0) := hk0
    clear hk0
    obtain ⟨done, todo, L, vs, g, cap, rfl, hown, hst, hxs, hJd, hfu, hhi, hsz⟩ := hrel0
    clear hrel
    have hlen := high_len hhi
    cases L with
    | nil =>
      gi_wp2
      go_end0
      cases vs with
      | nil => exact ⟨⟨_, rfl⟩, .inl (by rw [hxs, show todo = [] from hst, List.append_nil]; exact hJd)⟩
      | cons v vs => exact hst.elim
    | cons f L =>
      cases vs with
      | nil => exact hst.elim
      | cons v vs =>
      obtain ⟨m, hm⟩ : ∃ m, L.length = m := ⟨_, rfl⟩
      simp only [List.length_cons, hm, List.reverse_cons] at hown hlen HK ⊢
      obtain ⟨hat, hfz, hg1, hg2⟩ := own_at hown
      have hcp := own_cap hown
      cases f with
      | nil =>
        obtain ⟨hst1, a0, cap0, rfl⟩ := hst.pop
        have HH : Aside (xs = done ++ todo ∧ fuel (.nil :: L) ≤ k0 ∧ high N (.nil :: L) ∧ L.length = m) := ⟨hxs, hfu, hhi, hm⟩
        have HS1 : Aside _ := hst1
        have HP : Aside _ := own_pop hown
        have HJ3 : Aside (J done wr) := hJd
        clear hY hxs hfu hhi hm hx hst he ha hfs hown hst1 c0 c1 c2 c3 c4 hk hJd
        have HR : Aside (Rel N n₀ W.heap.size xs J (fuel L) (.slice (some ⟨g, 0, none⟩) m cap) wr) := by
          obtain ⟨q1, q2, q3, q4⟩ := HH.out
          exact ⟨done, todo, L, vs, g, cap, by rw [q4], by rw [q4]; exact HP.out, HS1.out, q1, HJ3.out, Nat.le_refl _, high_pop q3, hsz⟩
        gi_wp2
        go_roundw
        case rel => exact ⟨_, HR.out⟩
        case measure => exact least_lt HK.out HR.out (Nat.lt_of_lt_of_le (fuel_pop L) HH.out.2.1)
      | node xb xo d k r =>
        obtain ⟨b, o, cap2, av2, ka2, kc2, l', rfl, q1, q2, hS, e0, e1, e2, e3, e4, etd, hst2⟩ := hst.push
        obtain ⟨rl, hrl⟩ : ∃ rl, r.len = rl := ⟨_, rfl⟩
        rw [hrl] at q1 hat hst2 hown
        unfold maxLen at q2
        have HY : Aside (∀ (pre : List Ev) (x : Ev) (W1 : World), J pre W1 → W.heap.size ≤ W1.heap.size → pre ++ [x] <+: xs → YieldAt F (n - 1) Try.prog l (encs x) W1 fun e W' => e = Ending.returned (Value.bool true) ∧ J (pre ++ [x]) W' ∧ Keep n₀ W.heap.size W1 W' ∨ e = Ending.returned (Value.bool false) ∧ Jx (pre ++ [x]) W') := hY
        have H1 : Aside (xs = done ++ todo ∧ fuel (.node xb xo d k r :: L) ≤ k0 ∧ high N (.node xb xo d k r :: L) ∧ todo = (⟨L.length + 1, d, k⟩, av2, Value.slice ka2 k.len kc2) :: l' ∧ r.len = rl ∧ L.length = m) := ⟨hxs, hfu, hhi, etd, hrl, hm⟩
        have HO : Aside _ := hown
        have HS2 : Aside _ := hst2
        clear hY hxs hfu hhi etd hrl hm hx hst he ha hfs hown hst2 c0 c1 c2 c3 c4 hk
        by_cases hcap : cap2 = 1
        · subst hcap
          obtain rfl : rl = 0 := by omega
          have hb0 : Below W.heap.size wr (wr.setCell ⟨g, m, none⟩ (.slice (some ⟨b, o, none⟩) 0 0)) := (Below.refl _ wr).setCell (p := ⟨g, m, none⟩) (by show _ ≤ g; omega) _
          have hlk0 : Like (fun b => b < n₀ ∨ b = W.heap.size) wr (wr.setCell ⟨g, m, none⟩ (.slice (some ⟨b, o, none⟩) 0 0)) := fun k hk _ => Below.heap_setCell _ _ _ _ (by show k ≠ g; omega)
          have hown1 := own_set (y := .slice (some ⟨b, o, none⟩) 0 0) HO.out
          have hz0 : (wr.setCell ⟨g, m, none⟩ (.slice (some ⟨b, o, none⟩) 0 0)).heap.size = wr.heap.size := by simp [World.setCell]
          obtain ⟨Ws, hWs⟩ : ∃ Ws, wr.setCell ⟨g, m, none⟩ (.slice (some ⟨b, o, none⟩) 0 0) = Ws := ⟨_, rfl⟩
          rw [hWs] at hb0 hlk0 hown1 hz0
          obtain ⟨fn, tmps, assign, body, hy, hR⟩ := HY.out done (⟨m + 1, d, k⟩, av2, .slice ka2 k.len kc2) Ws (hJ _ _ _ hJd hb0) (by omega) (by
            obtain ⟨q1, q2, q3, q4, q5, q6⟩ := H1.out
            rw [q1, q4, q6]
            exact ⟨l', by simp⟩)
          simp only [encs, nodeV, Int.natCast_add, Int.natCast_one] at hy
          have f0 := hlk0.cell hS e0
          have f1 := hlk0.cell hS e1
          have f2 := hlk0.cell hS e2
          have f3 := hlk0.cell hS e3
          have f4 := hlk0.cell hS e4
          have hR' := hR.mono (R' := fun e W' => (e = .returned (.bool true) ∧ (J (done ++ [(⟨m + 1, d, k⟩, av2, .slice ka2 k.len kc2)]) W' ∧ Ws.heap.size ≤ W'.heap.size) ∧ (W'.ownsRow (W.heap.size + 1) 23 1 (.slice (some ⟨g, 0, none⟩) (m + 1) cap) (m + 1) (vs.reverse ++ [.slice (some ⟨b, o, none⟩) 0 0])) ∧ Stk (fun b => b < n₀ ∨ b = W.heap.size) W' (.slice ka2 k.len kc2 :: .slice (some ⟨b, o, none⟩) 0 0 :: vs) (k :: r :: L) l' ∧ W'.cell? ⟨b, o + 4, none⟩ = some (.slice ka2 k.len kc2)) ∨
              (e = .returned (.bool false) ∧ Jx (done ++ [(⟨m + 1, d, k⟩, av2, .slice ka2 k.len kc2)]) W')) (by
            rintro e W' (⟨rfl, hj, hkp⟩ | h)
            · have hlk1 : Like (fun b => b < n₀ ∨ b = W.heap.size) Ws W' := fun k hk hz => hkp.block k hz (by omega)
              refine .inl ⟨rfl, ⟨hj, hkp.size⟩, own_like hown1 (fun k h1 h2 => hkp.block k h2 (.inr (by omega))), Stk.like hlk1 _ _ _ (Stk.like hlk0 _ _ _ (HS2.out (some ⟨b, o, none⟩) (by left; rfl))), hlk1.cell hS (hlk0.cell hS e4)⟩
            · exact .inr h)
          clear hR HY
          gi_wp2
          refine hR'.mono ?_
          rintro e W3 (⟨rfl, hJ3, hown3, hst3, hkc⟩ | ⟨rfl, hJx3⟩)
          · have HJ3 : Aside _ := hJ3
            have HS3 : Aside _ := hst3
            obtain ⟨i0, hi, hz0', hz1, hz2⟩ := info_parts infoT
            have hW3 : W.heap.size + 1 ≤ W3.heap.size := by omega
            clear hR' hst3 hJ3 hy hWs f0 f1 f2 f3 f4 e0 e1 e2 e3 e4 hat hfz hb0 hlk0 hown1 hJd
            gi_wp2_with (gi_at_builtin; refine wpListIn_append_own _ rfl _ _ 98 rfl (W.heap.size + 1) 23 i0 (.slice none 0 0) 1 24 Try.underlying98 hi hz0' hz1 hz2 rfl (by decide) _ _ _ rfl (hown3.alloc _) ⟨W3.heap.size, 0, none⟩ 1 1 [.slice ka2 k.len kc2] rfl rfl (cell_one_new _ _ _) (by simp [Value.oneCell']) (by unfold maxLen; omega) (by omega) (by simp; omega) ?_; intro v' w1 hown' hgrow _; obtain ⟨g', cap', rfl⟩ := ownsRow_succ hown')
            have HR : Aside (Rel N n₀ W.heap.size xs J (fuel (k :: r :: L)) (.slice (some ⟨g', 0, none⟩) (m + 1 + 1) cap') w1) := by
              obtain ⟨q1, q2, q3, q4, q5, q6⟩ := H1.out
              have hlk3 : Like (fun b => b < n₀ ∨ b = W.heap.size) W3 w1 := fun b hb hz => (hgrow.block b (by simp; omega) (fun e => by have e' := own_blk e; have hb' : b < n₀ ∨ b = W.heap.size := hb; omega)).trans (Below.heap_alloc _ _ _ hz)
              refine ⟨done ++ [(⟨m + 1, d, k⟩, av2, .slice ka2 k.len kc2)], l', k :: r :: L, .slice ka2 k.len kc2 :: .slice (some ⟨b, o, none⟩) 0 0 :: vs, g', cap', ?_, ?_, ?_, ?_, ?_, Nat.le_refl _, high_push q3, ?_⟩
              · simp only [List.length_cons, q6]
              · simp only [List.length_cons, q6, List.reverse_cons]
                exact hown'
              · exact Stk.like hlk3 _ _ _ HS3.out
              · rw [q1, q4, q6]; simp
              · exact hJ _ _ _ HJ3.out.1 (((Below.refl _ W3).alloc (by omega) _).grown hgrow (by simp; omega) (fun k e => by have e' := own_blk e.symm; omega))
              · have := hgrow.size
                simp at this
                omega
            go_roundw
            case rel => exact ⟨_, HR.out⟩
            case measure => exact least_lt HK.out HR.out (Nat.lt_of_lt_of_le (fuel_push _ _ d k r L) H1.out.2.1)
          · gi_wp2
            refine bodyPost_ret (results_none rfl _ _ _) rfl ?_
            obtain ⟨q1, q2, q3, q4, q5, q6⟩ := H1.out
            exact ⟨⟨_, rfl⟩, .inr ⟨_, by rw [q1, q4, q6]; exact ⟨l', by simp⟩, hJx3⟩⟩
        · skip
          have hb0 : Below W.heap.size wr (wr.setCell ⟨g, m, none⟩ (.slice (some ⟨b, o + 5, none⟩) rl (cap2 - 1))) := (Below.refl _ wr).setCell (p := ⟨g, m, none⟩) (by show _ ≤ g; omega) _
          have hlk0 : Like (fun b => b < n₀ ∨ b = W.heap.size) wr (wr.setCell ⟨g, m, none⟩ (.slice (some ⟨b, o + 5, none⟩) rl (cap2 - 1))) := fun k hk _ => Below.heap_setCell _ _ _ _ (by show k ≠ g; omega)
          have hown1 := own_set (y := .slice (some ⟨b, o + 5, none⟩) rl (cap2 - 1)) HO.out
          have hz0 : (wr.setCell ⟨g, m, none⟩ (.slice (some ⟨b, o + 5, none⟩) rl (cap2 - 1))).heap.size = wr.heap.size := by simp [World.setCell]
          obtain ⟨Ws, hWs⟩ : ∃ Ws, wr.setCell ⟨g, m, none⟩ (.slice (some ⟨b, o + 5, none⟩) rl (cap2 - 1)) = Ws := ⟨_, rfl⟩
          rw [hWs] at hb0 hlk0 hown1 hz0
          obtain ⟨fn, tmps, assign, body, hy, hR⟩ := HY.out done (⟨m + 1, d, k⟩, av2, .slice ka2 k.len kc2) Ws (hJ _ _ _ hJd hb0) (by omega) (by
            obtain ⟨q1, q2, q3, q4, q5, q6⟩ := H1.out
            rw [q1, q4, q6]
            exact ⟨l', by simp⟩)
          simp only [encs, nodeV, Int.natCast_add, Int.natCast_one] at hy
          have f0 := hlk0.cell hS e0
          have f1 := hlk0.cell hS e1
          have f2 := hlk0.cell hS e2
          have f3 := hlk0.cell hS e3
          have f4 := hlk0.cell hS e4
          have hR' := hR.mono (R' := fun e W' => (e = .returned (.bool true) ∧ (J (done ++ [(⟨m + 1, d, k⟩, av2, .slice ka2 k.len kc2)]) W' ∧ Ws.heap.size ≤ W'.heap.size) ∧ (W'.ownsRow (W.heap.size + 1) 23 1 (.slice (some ⟨g, 0, none⟩) (m + 1) cap) (m + 1) (vs.reverse ++ [.slice (some ⟨b, o + 5, none⟩) rl (cap2 - 1)])) ∧ Stk (fun b => b < n₀ ∨ b = W.heap.size) W' (.slice ka2 k.len kc2 :: .slice (some ⟨b, o + 5, none⟩) rl (cap2 - 1) :: vs) (k :: r :: L) l' ∧ W'.cell? ⟨b, o + 4, none⟩ = some (.slice ka2 k.len kc2)) ∨
              (e = .returned (.bool false) ∧ Jx (done ++ [(⟨m + 1, d, k⟩, av2, .slice ka2 k.len kc2)]) W')) (by
            rintro e W' (⟨rfl, hj, hkp⟩ | h)
            · have hlk1 : Like (fun b => b < n₀ ∨ b = W.heap.size) Ws W' := fun k hk hz => hkp.block k hz (by omega)
              refine .inl ⟨rfl, ⟨hj, hkp.size⟩, own_like hown1 (fun k h1 h2 => hkp.block k h2 (.inr (by omega))), Stk.like hlk1 _ _ _ (Stk.like hlk0 _ _ _ (HS2.out (some ⟨b, o + 5, none⟩) (by right; rfl))), hlk1.cell hS (hlk0.cell hS e4)⟩
            · exact .inr h)
          clear hR HY
          gi_wp2
          refine hR'.mono ?_
          rintro e W3 (⟨rfl, hJ3, hown3, hst3, hkc⟩ | ⟨rfl, hJx3⟩)
          · have HJ3 : Aside _ := hJ3
            have HS3 : Aside _ := hst3
            obtain ⟨i0, hi, hz0', hz1, hz2⟩ := info_parts infoT
            have hW3 : W.heap.size + 1 ≤ W3.heap.size := by omega
            clear hR' hst3 hJ3 hy hWs f0 f1 f2 f3 f4 e0 e1 e2 e3 e4 hat hfz hb0 hlk0 hown1 hJd
            gi_wp2_with (gi_at_builtin; refine wpListIn_append_own _ rfl _ _ 98 rfl (W.heap.size + 1) 23 i0 (.slice none 0 0) 1 24 Try.underlying98 hi hz0' hz1 hz2 rfl (by decide) _ _ _ rfl (hown3.alloc _) ⟨W3.heap.size, 0, none⟩ 1 1 [.slice ka2 k.len kc2] rfl rfl (cell_one_new _ _ _) (by simp [Value.oneCell']) (by unfold maxLen; omega) (by omega) (by simp; omega) ?_; intro v' w1 hown' hgrow _; obtain ⟨g', cap', rfl⟩ := ownsRow_succ hown')
            have HR : Aside (Rel N n₀ W.heap.size xs J (fuel (k :: r :: L)) (.slice (some ⟨g', 0, none⟩) (m + 1 + 1) cap') w1) := by
              obtain ⟨q1, q2, q3, q4, q5, q6⟩ := H1.out
              have hlk3 : Like (fun b => b < n₀ ∨ b = W.heap.size) W3 w1 := fun b hb hz => (hgrow.block b (by simp; omega) (fun e => by have e' := own_blk e; have hb' : b < n₀ ∨ b = W.heap.size := hb; omega)).trans (Below.heap_alloc _ _ _ hz)
              refine ⟨done ++ [(⟨m + 1, d, k⟩, av2, .slice ka2 k.len kc2)], l', k :: r :: L, .slice ka2 k.len kc2 :: .slice (some ⟨b, o + 5, none⟩) rl (cap2 - 1) :: vs, g', cap', ?_, ?_, ?_, ?_, ?_, Nat.le_refl _, high_push q3, ?_⟩
              · simp only [List.length_cons, q6]
              · simp only [List.length_cons, q6, List.reverse_cons]
                exact hown'
              · exact Stk.like hlk3 _ _ _ HS3.out
              · rw [q1, q4, q6]; simp
              · exact hJ _ _ _ HJ3.out.1 (((Below.refl _ W3).alloc (by omega) _).grown hgrow (by simp; omega) (fun k e => by have e' := own_blk e.symm; omega))
              · have := hgrow.size
                simp at this
                omega
            go_roundw
            case rel => exact ⟨_, HR.out⟩
            case measure => exact least_lt HK.out HR.out (Nat.lt_of_lt_of_le (fuel_push _ _ d k r L) H1.out.2.1)
          · gi_wp2
            refine bodyPost_ret (results_none rfl _ _ _) rfl ?_
            obtain ⟨q1, q2, q3, q4, q5, q6⟩ := H1.out
            exact ⟨⟨_, rfl⟩, .inr ⟨_, by rw [q1, q4, q6]; exact ⟨l', by simp⟩, hJx3⟩⟩
end Go.Proofs.Ytkojhgagkoeeiaa
