/- whole: what is still to be copied, as it lies in memory. -/
import Derived.Test.YtjjkidenlgghkaaWholeM
set_option linter.unusedVariables false
namespace Go.Proofs.Ytjjkidenlgghkaa
open Go.Deep (BT)
open Go.RowKit M

theorem AS.both {S : Nat → Prop} {w : World} {v : Value} {l : List (ByteArray × ByteArray)} (h : AS S w v l) : AS (fun b => S b ∧ b < w.heap.size) w v l := by
  obtain ⟨a, cap, e, h1, h2, h3⟩ := h
  refine ⟨a, cap, e, h1, h2, ?_⟩
  rcases h3 with h3 | ⟨b, o, ea, hS, hc⟩
  · exact .inl h3
  · by_cases hl : l = []
    · exact .inl hl
    · exact .inr ⟨b, o, ea, ⟨hS, World.block_lt_of_cell? w _ (hc 0 (List.length_pos_iff.2 hl)).1⟩, hc⟩
theorem FAt.both {S : Nat → Prop} {w : World} : ∀ (f : M.F) (b o : Nat), FAt S w f b o → FAt (fun b => S b ∧ b < w.heap.size) w f b o
  | .nil, _, _, _ => trivial
  | .node xb xo d k r, b, o, hf => by
    obtain ⟨⟨av, ka, kc, c0, c1, c2, c3, c4, ha, h1, h2, hk⟩, hr⟩ := hf
    refine ⟨⟨av, ka, kc, c0, c1, c2, c3, c4, ha.both, h1, h2, ?_⟩, FAt.both r b (o + 5) hr⟩
    rcases hk with hk | ⟨b', o', e, hS', hk⟩
    · exact .inl hk
    · cases k with
      | nil => exact .inl rfl
      | node yb yo d1 k1 r1 =>
        have hk2 := FAt.both _ b' o' hk
        obtain ⟨⟨_, _, _, z0, _⟩, _⟩ := hk
        exact .inr ⟨b', o', e, ⟨hS', World.block_lt_of_cell? w _ z0⟩, hk2⟩
theorem FL.both {S : Nat → Prop} {w : World} {v : Value} {f : M.F} (h : FL S w v f) : FL (fun b => S b ∧ b < w.heap.size) w v f := by
  obtain ⟨a, cap, e, h1, h2, h3⟩ := h
  refine ⟨a, cap, e, h1, h2, ?_⟩
  rcases h3 with h3 | ⟨b, o, ea, hS, hc⟩
  · exact .inl h3
  · cases f with
    | nil => exact .inl rfl
    | node xb xo d k r =>
      have h4 := FAt.both _ b o hc
      obtain ⟨⟨_, _, _, z0, _⟩, _⟩ := hc
      exact .inr ⟨b, o, ea, ⟨hS, World.block_lt_of_cell? w _ z0⟩, h4⟩
/-- not the block of pointers, nor the result's -/
abbrev Ne (R : Nat × Nat) (g : Nat) : Nat → Prop := fun b => b ≠ g ∧ (b ≠ R.1 ∧ b ≠ R.2)
/-- the next world, and the next block of pointers -/
structure Nx (R : Nat × Nat) (g g' : Nat) (W W2 : World) : Prop where
  like : Like (Ne R g) W W2
  new : g' = g ∨ W.heap.size ≤ g'
theorem FAt.nx {R : Nat × Nat} {g g' : Nat} {W W2 : World} (h : Nx R g g' W W2) {f : M.F} {b o : Nat} (hb : Ne R g b) (hz : b < W.heap.size) (hf : FAt (Ne R g) W f b o) : FAt (Ne R g') W2 f b o :=
  ((hf.both f b o).like (fun b hb hz => h.like b hb.1 hz) f b o ⟨hb, hz⟩).mono (fun b hb => ⟨by rcases h.new with e | e; (rw [e]; exact hb.1.1); (have := hb.2; omega), hb.1.2⟩) f b o
theorem FL.nx {R : Nat × Nat} {g g' : Nat} {W W2 : World} (h : Nx R g g' W W2) {v : Value} {f : M.F} (hf : FL (Ne R g) W v f) : FL (Ne R g') W2 v f :=
  (hf.both.like (fun b hb hz => h.like b hb.1 hz)).mono (fun b hb => ⟨by rcases h.new with e | e; (rw [e]; exact hb.1.1); (have := hb.2; omega), hb.1.2⟩)

/-- a tree at a place of a row of trees -/
structure Pd where
  b : Nat
  o : Nat
  f : M.F
def ptrP (p : Pd) : Value := .pointer (some ⟨p.b, p.o, none⟩)
def tot : List Pd → Nat
  | [] => 0
  | p :: l => p.f.size + tot l
theorem tot_append : ∀ (l m : List Pd), tot (l ++ m) = tot l + tot m
  | [], m => by simp [tot]
  | p :: l, m => by rw [List.cons_append, tot, tot, tot_append l m]; omega
structure PdOK (n : Nat) (R : Nat × Nat) (g : Nat) (W : World) (p : Pd) : Prop where
  ge : n ≤ p.b
  ne : Ne R g p.b
  lt : p.b < W.heap.size
  froz : ∀ q, W.frozen? ⟨p.b, q, none⟩ = false
  one : ∃ d k, p.f = .cons d k .nil
  at_ : FAt (Ne R g) W p.f p.b p.o
  sl : p.f.slots ≤ 1000000
theorem PdOK.nx {n g g' : Nat} {R : Nat × Nat} {W W2 : World} (h : Nx R g g' W W2) {p : Pd} (hp : PdOK n R g W p) (hs : W.heap.size ≤ W2.heap.size) : PdOK n R g' W2 p :=
  ⟨hp.ge, ⟨by rcases h.new with e | e; (rw [e]; exact hp.ne.1); (have := hp.lt; omega), hp.ne.2⟩, Nat.lt_of_lt_of_le hp.lt hs,
   fun q => by rw [World.frozen?_of_block (w := W) (a := ⟨p.b, q, none⟩) (h.like p.b hp.ne hp.lt)]; exact hp.froz q, hp.one, hp.at_.nx h hp.ne hp.lt, hp.sl⟩
theorem PdOK.turn {n g : Nat} {R : Nat × Nat} {W W' : World} {av av' kv kv' : Value} (h : Turn (Ne R g) W W' av av' kv kv') (hf : ∀ a : Addr, a.block < W.heap.size → W'.frozen? a = W.frozen? a) (hs : W.heap.size ≤ W'.heap.size) {p : Pd} (hp : PdOK n R g W p) : PdOK n R g W' p :=
  ⟨hp.ge, hp.ne, Nat.lt_of_lt_of_le hp.lt hs, fun q => by rw [hf _ hp.lt]; exact hp.froz q, hp.one, h.fat _ _ _ _ _ hp.at_ (fun j v _ hv => h.cell _ _ _ hv), hp.sl⟩

/-- whole, while it goes on: what is still to come stands on the stack; the box is block n, the result's n + 1 -/
structure WInv (w : World) (Q : Nat) (d : Nd) (k : M.F) (N g : Nat) (W : World) (ov : Value) (ps : List Pd) : Prop where
  q : Q < w.heap.size
  below : Below w.heap.size w W
  own : W.ownsRow w.heap.size 85 1 ov ps.length (ps.map ptrP)
  blk : ov.ownBlock = some g
  gne : g ≠ w.heap.size + 1
  box : PdOK w.heap.size (w.heap.size + 1, Q) g W ⟨w.heap.size, 0, .cons d k .nil⟩
  res : W.heap[w.heap.size + 1]? = some (.cells #[.int .i64 0, .string ⟨#[]⟩, .string ⟨#[]⟩, .slice none 0 0, .slice none 0 0] 25 (0, 0))
  pend : ∀ p ∈ ps, PdOK w.heap.size (w.heap.size + 1, Q) g W p
  sum : tot ps ≤ N

/-- the first i kids of a row, each at its place -/
def kidsP (b : Nat) : Nat → M.F → Nat → List Pd
  | _, _, 0 => []
  | _, .nil, _ => []
  | o, .node _ _ d k r, i + 1 => ⟨b, o, .cons d k .nil⟩ :: kidsP b (o + 5) r i
theorem kidsP_tot (b : Nat) : ∀ (f : M.F) (o : Nat), tot (kidsP b o f f.len) = f.size
  | .nil, _ => rfl
  | .node xb xo d k r, o => by
    show (M.F.cons d k .nil).size + tot (kidsP b (o + 5) r r.len) = _
    rw [kidsP_tot b r (o + 5)]
    simp only [BT.size]
    omega
/-- what is left of a row behind its first i trees -/
def dropF : M.F → Nat → M.F
  | f, 0 => f
  | .nil, _ => .nil
  | .node _ _ _ _ r, i + 1 => dropF r i
theorem dropF_nil : ∀ i, dropF .nil i = .nil
  | 0 => rfl
  | _ + 1 => rfl
theorem dropF_len : ∀ (f : M.F) (i : Nat), (dropF f i).len = f.len - i
  | f, 0 => by cases f <;> rfl
  | .nil, i + 1 => by simp [dropF, BT.len]
  | .node xb xo d k r, i + 1 => by rw [dropF, dropF_len r i]; simp [BT.len]
theorem dropF_step : ∀ (f : M.F) (i : Nat), i < f.len → ∃ xb xo d k, dropF f i = .node xb xo d k (dropF f (i + 1)) ∧ ∀ b o, kidsP b o f (i + 1) = kidsP b o f i ++ [⟨b, o + i * 5, .cons d k .nil⟩]
  | .nil, i, h => by simp [BT.len] at h
  | .node xb xo d k r, 0, h => ⟨xb, xo, d, k, by cases r <;> rfl, fun b o => by simp [kidsP]⟩
  | .node xb xo d k r, i + 1, h => by
    obtain ⟨yb, yo, d1, k1, h1, h2⟩ := dropF_step r i (by simp only [BT.len] at h; omega)
    refine ⟨yb, yo, d1, k1, h1, fun b o => ?_⟩
    rw [kidsP, h2 b (o + 5), kidsP, List.cons_append]
    congr 4
    omega
theorem dropF_fat {S : Nat → Prop} {W : World} {b : Nat} : ∀ (f : M.F) (i o : Nat), FAt S W f b o → FAt S W (dropF f i) b (o + i * 5)
  | f, 0, o, h => by cases f <;> simpa [dropF] using h
  | .nil, i + 1, o, h => trivial
  | .node xb xo d k r, i + 1, o, h => by
    have := dropF_fat r i (o + 5) h.2
    rw [show o + 5 + i * 5 = o + (i + 1) * 5 by omega] at this
    exact this
theorem dropF_slots : ∀ (f : M.F) (i : Nat), (dropF f i).slots ≤ f.slots
  | f, 0 => by cases f <;> exact Nat.le_refl _
  | .nil, i + 1 => Nat.le_refl _
  | .node xb xo d k r, i + 1 => by
    have := dropF_slots r i
    show (dropF r i).slots ≤ d.ats.length + k.slots + r.slots
    omega
end Go.Proofs.Ytjjkidenlgghkaa
