/- slices.Clone of kids; copies put in the place of what they are copies of; whole's rounds, as they lie in memory. -/
import Derived.Test.YtjjkidenlgghkaaClone
import Derived.Test.YtjjkidenlgghkaaBuilt
import Derived.Test.YtjjkidenlgghkaaStM
set_option linter.unusedVariables false
namespace Go.Proofs.Ytjjkidenlgghkaa
open Go.Deep (BT)
open Go.RowKit M

set_option maxRecDepth 20000 in
set_option maxHeartbeats 1000000 in
theorem cloneT_any (n c : Nat) (a : Option Addr) (xs : List Value) (w : World) (hx : xs.length = n * 5) (hc : n = 0 ∨ ∃ b o, a = some ⟨b, o, none⟩ ∧ ∀ j u, xs[j]? = some u → w.cell? ((⟨b, o, none⟩ : Addr).add j) = some u) (h1 : ∀ u ∈ xs, u.oneCell' = true) (hm : n ≤ 1000000) :
    Calls Try.prog 47 #[.slice a n c] w fun e w' => ∃ a' c', e = .returned (.slice a' n c') ∧ Below w.heap.size w w' ∧ (n = 0 ∨ w'.ownsRow w.heap.size 25 5 (.slice a' n c') n xs) ∧ n ≤ c' ∧ c' ≤ maxLen := by
  obtain ⟨i0, hii, hz0, hz1, hz2⟩ := info_parts infoN
  by_cases h0 : n = 0
  · subst h0
    clear hc hx h1
    cases a with
    | none =>
      have hq : ∀ W, (binOp .eql 23 (.slice none 0 c) (.slice none 0 0)).run Try.prog W = .ok (.bool true) W := fun W => eqNil Try.underlying23 none 0 c W
      go_enter Try.func47, Try.ntmps47
      go_wp2_with fail
      go_ret
      exact ⟨_, _, rfl, Below.refl _ _, .inl trivial, Nat.le_refl _, Nat.zero_le _⟩
    | some a =>
      have hq : ∀ W, (binOp .eql 23 (.slice (some a) 0 c) (.slice none 0 0)).run Try.prog W = .ok (.bool false) W := fun W => eqNil Try.underlying23 (some a) 0 c W
      go_enter Try.func47, Try.ntmps47
      go_wp2_with (at_builtin; refine wpList_append_same _ rfl (.tmp 5) (.tmp 6) 23 25 i0 rfl Try.underlying23 hii _ (some a) c rfl rfl ?_)
      go_ret
      exact ⟨_, _, rfl, (Below.refl _ w).alloc (Nat.le_refl _) _, .inl trivial, Nat.le_refl _, Nat.zero_le _⟩
  · obtain ⟨b, o, rfl, hcs⟩ := hc.resolve_left h0
    have HC : Fact (∀ W : World, Below w.heap.size w W → ∀ j u, xs[j]? = some u → W.cell? ((⟨b, o, none⟩ : Addr).add j) = some u) := ⟨fun W hW j u hu => by
      have := hcs j u hu
      rw [add_cell] at this ⊢
      exact (hW.cell (p := ⟨b, o + j, none⟩) (World.block_lt_of_cell? w _ this)).trans this⟩
    have HL := Fact.mk hx
    have HO := Fact.mk h1
    clear hc hcs hx h1
    have hq : ∀ W, (binOp .eql 23 (.slice (some ⟨b, o, none⟩) n c) (.slice none 0 0)).run Try.prog W = .ok (.bool false) W := fun W => eqNil Try.underlying23 (some ⟨b, o, none⟩) n c W
    go_enter Try.func47, Try.ntmps47
    go_wp2_with (at_builtin; refine wpList_append_own _ rfl (.tmp 5) (.tmp 6) 23 rfl w.heap.size 25 i0 (.agg #[.int .i64 0, .string ⟨#[]⟩, .string ⟨#[]⟩, .slice none 0 0, .slice none 0 0]) 5 88 Try.underlying23 hii hz0 hz1 hz2 rfl (by decide) (.slice (some ⟨w.heap.size, 0, none⟩) 0 0) 0 [] rfl (World.ownsRow_made w #[] 0 (Nat.le_refl _) (Nat.zero_le _) rfl) ⟨b, o, none⟩ n c xs rfl HL.out (HC.out _ ((Below.refl _ w).alloc (Nat.le_refl _) _)) HO.out (by unfold maxLen; omega) (by omega) (by simp) ?_; intro v' w1 hown' hgrow _)
    go_ret
    rw [Nat.zero_add, List.nil_append] at hown'
    have hb1 := ((Below.refl _ w).alloc (Nat.le_refl _) (.cells #[] 25)).grown hgrow (by simp) (fun k e => by cases e; exact Nat.le_refl _)
    rcases hown'.2 with ⟨_, hz⟩ | ⟨g, cap, cur, rfl, hg, hh, hc1, hc2, hs, ht⟩
    · omega
    · exact ⟨_, _, rfl, hb1, .inr hown', hc1, hc2⟩
section

/-- v' is a slice as v is, of a row that is a copy in a block of S, z cells an element -/
def CopyOf (S : Nat → Prop) (z : Nat) (W W' : World) (v v' : Value) : Prop :=
  ∃ a n c a' c', v = .slice a n c ∧ v' = .slice a' n c' ∧ n ≤ c' ∧ c' ≤ maxLen ∧ (n = 0 ∨ ∃ b o b' o', a = some ⟨b, o, none⟩ ∧ a' = some ⟨b', o', none⟩ ∧ S b' ∧ ∀ j v, j < n * z → W.cell? ⟨b, o + j, none⟩ = some v → W'.cell? ⟨b', o' + j, none⟩ = some v)
/-- a cell as it was, or with a copy in it -/
def Rr (av av' kv kv' v : Value) (x : Option Value) : Prop := x = some v ∨ (v = av ∧ x = some av') ∨ (v = kv ∧ x = some kv')
structure Turn (S : Nat → Prop) (W W' : World) (av av' kv kv' : Value) : Prop where
  cell : ∀ b o v, W.cell? ⟨b, o, none⟩ = some v → Rr av av' kv kv' v (W'.cell? ⟨b, o, none⟩)
  sa : CopyOf S 2 W W' av av'
  sk : CopyOf S 5 W W' kv kv'
  at_ : ∃ l, AS S W av l

theorem CopyOf.str {S : Nat → Prop} {z : Nat} {W W' : World} {v v' : Value} (h : CopyOf S z W W' v v') (s : ByteArray) : v ≠ .string s := by
  obtain ⟨a, n, c, a', c', rfl, _⟩ := h; simp
theorem CopyOf.int {S : Nat → Prop} {z : Nat} {W W' : World} {v v' : Value} (h : CopyOf S z W W' v v') (i : Int) : v ≠ .int .i64 i := by
  obtain ⟨a, n, c, a', c', rfl, _⟩ := h; simp
variable {S : Nat → Prop} {W W' : World} {av av' kv kv' : Value}
theorem Turn.rs (h : Turn S W W' av av' kv kv') {s : ByteArray} {x : Option Value} (r : Rr av av' kv kv' (.string s) x) : x = some (.string s) := by
  rcases r with r | ⟨e, _⟩ | ⟨e, _⟩
  · exact r
  · exact absurd e.symm (h.sa.str s)
  · exact absurd e.symm (h.sk.str s)
theorem Turn.ri (h : Turn S W W' av av' kv kv') {i : Int} {x : Option Value} (r : Rr av av' kv kv' (.int .i64 i) x) : x = some (.int .i64 i) := by
  rcases r with r | ⟨e, _⟩ | ⟨e, _⟩
  · exact r
  · exact absurd e.symm (h.sa.int i)
  · exact absurd e.symm (h.sk.int i)
theorem Turn.as (h : Turn S W W' av av' kv kv') {v : Value} {l : List (ByteArray × ByteArray)} (ha : AS S W v l) : AS S W' v l := by
  obtain ⟨a, c, e, h1, h2, h3⟩ := ha
  refine ⟨a, c, e, h1, h2, h3.imp id ?_⟩
  rintro ⟨b, o, ea, hS, hc⟩
  exact ⟨b, o, ea, hS, fun i hi => ⟨h.rs (h.cell _ _ _ (hc i hi).1), h.rs (h.cell _ _ _ (hc i hi).2)⟩⟩
theorem CopyOf.as {z : Nat} (hz : 2 ≤ z) {v v' : Value} (h : CopyOf S z W W' v v') {l : List (ByteArray × ByteArray)} (ha : AS S W v l) : AS S W' v' l := by
  obtain ⟨a, n, c, a', c', rfl, rfl, g1, g2, g3⟩ := h
  obtain ⟨a0, c0, e, h1, h2, h3⟩ := ha
  simp only [Value.slice.injEq] at e
  obtain ⟨rfl, rfl, rfl⟩ := e
  refine ⟨a', c', rfl, g1, g2, ?_⟩
  rcases h3 with h3 | ⟨b, o, ea, _, hc⟩
  · exact .inl h3
  · rcases g3 with g3 | ⟨b1, o1, b', o', ea1, ea', hS', hcc⟩
    · exact .inl (List.eq_nil_of_length_eq_zero g3)
    · rw [ea] at ea1
      cases ea1
      refine .inr ⟨b', o', ea', hS', fun i hi => ?_⟩
      have hm : l.length * 2 ≤ l.length * z := Nat.mul_le_mul_left _ hz
      refine ⟨?_, ?_⟩
      · exact hcc (i * 2) _ (by omega) (hc i hi).1
      · have := hcc (i * 2 + 1) _ (by omega) (by rw [← Nat.add_assoc]; exact (hc i hi).2)
        rw [← Nat.add_assoc] at this
        exact this
theorem Turn.fat (h : Turn S W W' av av' kv kv') : ∀ (f : M.F) (b o b' o' : Nat), FAt S W f b o → (∀ j v, j < f.len * 5 → W.cell? ⟨b, o + j, none⟩ = some v → Rr av av' kv kv' v (W'.cell? ⟨b', o' + j, none⟩)) → FAt S W' f b' o' := by
  intro f
  induction f with
  | nil => intros; trivial
  | node xb xo d k r ihk ihr =>
    intro b o b' o' hf hc
    obtain ⟨⟨v3, ka, kc, e0, e1, e2, e3, e4, ha, h4, h5, hk⟩, hr⟩ := hf
    have hl : (BT.node xb xo d k r : M.F).len = r.len + 1 := rfl
    have r0 := h.ri (hc 0 _ (by omega) e0)
    have r1 := h.rs (hc 1 _ (by omega) e1)
    have r2 := h.rs (hc 2 _ (by omega) e2)
    have r3 := hc 3 _ (by omega) e3
    have r4 := hc 4 _ (by omega) e4
    refine ⟨?_, ihr b (o + 5) b' (o' + 5) hr (fun j v hj hv => ?_)⟩
    · obtain ⟨v3', c3, a3⟩ : ∃ v3', W'.cell? ⟨b', o' + 3, none⟩ = some v3' ∧ AS S W' v3' d.ats := by
        rcases r3 with r3 | ⟨rfl, r3⟩ | ⟨rfl, r3⟩
        · exact ⟨_, r3, h.as ha⟩
        · exact ⟨_, r3, h.sa.as (Nat.le_refl _) ha⟩
        · exact ⟨_, r3, h.sk.as (by omega) ha⟩
      obtain ⟨ka', kc', c4, g4, g5, gk⟩ : ∃ ka' kc', W'.cell? ⟨b', o' + 4, none⟩ = some (.slice ka' k.len kc') ∧ k.len ≤ kc' ∧ kc' ≤ maxLen ∧ (k.len = 0 ∨ ∃ b1 o1, ka' = some ⟨b1, o1, none⟩ ∧ S b1 ∧ FAt S W' k b1 o1) := by
        rcases r4 with r4 | ⟨e, r4⟩ | ⟨e, r4⟩
        · refine ⟨ka, kc, r4, h4, h5, hk.imp id ?_⟩
          rintro ⟨b1, o1, ea, hS1, hf1⟩
          exact ⟨b1, o1, ea, hS1, ihk b1 o1 b1 o1 hf1 (fun j v _ hv => h.cell _ _ _ hv)⟩
        · obtain ⟨a, n, c, a', c', e1', rfl, g1, g2, g3⟩ := h.sa
          obtain ⟨l, a0, c0, el, _, _, hl3⟩ := h.at_
          rw [← e] at e1' el
          simp only [Value.slice.injEq] at e1' el
          obtain ⟨rfl, rfl, rfl⟩ := e1'
          refine ⟨a', c', r4, g1, g2, ?_⟩
          rcases hk with hk | ⟨b1, o1, ea, _, hf1⟩
          · exact .inl hk
          · cases k with
            | nil => exact .inl rfl
            | node yb yo d1 k1 r1' =>
              exfalso
              obtain ⟨⟨_, _, _, z0, _⟩, _⟩ := hf1
              rcases hl3 with hl3 | ⟨b2, o2, ea2, _, hc2⟩
              · have : l.length = r1'.len + 1 := el.2.1.symm
                rw [hl3] at this
                simp at this
              · rw [← el.1, ea] at ea2
                cases ea2
                have := (hc2 0 (by have : l.length = r1'.len + 1 := el.2.1.symm; omega)).1
                rw [Nat.zero_mul, Nat.add_zero, z0] at this
                simp at this
        · obtain ⟨a, n, c, a', c', e1', rfl, g1, g2, g3⟩ := h.sk
          rw [← e] at e1'
          simp only [Value.slice.injEq] at e1'
          obtain ⟨rfl, rfl, rfl⟩ := e1'
          refine ⟨a', c', r4, g1, g2, ?_⟩
          rcases hk with hk | ⟨b1, o1, ea, _, hf1⟩
          · exact .inl hk
          · rcases g3 with g3 | ⟨b2, o2, b3, o3, ea2, ea3, hS3, hcc⟩
            · exact .inl g3
            · rw [ea] at ea2
              cases ea2
              exact .inr ⟨b3, o3, ea3, hS3, ihk b1 o1 b3 o3 hf1 (fun j v hj hv => .inl (hcc j v hj hv))⟩
      exact ⟨v3', ka', kc', r0, r1, r2, c3, c4, a3, g4, g5, gk⟩
    · have := hc (5 + j) v (by omega) (by rw [← Nat.add_assoc]; exact hv)
      rw [← Nat.add_assoc] at this
      exact this
theorem Turn.fl (h : Turn S W W' av av' kv kv') {v : Value} {f : M.F} (hf : FL S W v f) : FL S W' v f := by
  obtain ⟨a, c, e, h1, h2, h3⟩ := hf
  refine ⟨a, c, e, h1, h2, h3.imp id ?_⟩
  rintro ⟨b, o, ea, hS, hc⟩
  exact ⟨b, o, ea, hS, h.fat f b o b o hc (fun j v _ hv => h.cell _ _ _ hv)⟩
end

theorem AS.both {S : Nat → Prop} {w : World} {v : Value} {l : List (ByteArray × ByteArray)} (h : AS S w v l) : AS (fun b => S b ∧ b < w.heap.size) w v l := by
  obtain ⟨a, cap, e, h1, h2, h3⟩ := h
  refine ⟨a, cap, e, h1, h2, ?_⟩
  rcases h3 with h3 | ⟨b, o, ea, hS, hc⟩
  · exact .inl h3
  · by_cases hl : l = []
    · exact .inl hl
    · exact .inr ⟨b, o, ea, ⟨hS, World.block_lt_of_cell? w _ (hc 0 (List.length_pos_iff.2 hl)).1⟩, hc⟩
theorem FAt.both {S : Nat → Prop} {w : World} : ∀ (f : M.F) (b o : Nat), FAt S w f b o → FAt (fun b => S b ∧ b < w.heap.size) w f b o
  | .nil, _, _, _ => trivial
  | .node xb xo d k r, b, o, hf => by
    obtain ⟨⟨av, ka, kc, c0, c1, c2, c3, c4, ha, h1, h2, hk⟩, hr⟩ := hf
    refine ⟨⟨av, ka, kc, c0, c1, c2, c3, c4, ha.both, h1, h2, ?_⟩, FAt.both r b (o + 5) hr⟩
    rcases hk with hk | ⟨b', o', e, hS', hk⟩
    · exact .inl hk
    · cases k with
      | nil => exact .inl rfl
      | node yb yo d1 k1 r1 =>
        have hk2 := FAt.both _ b' o' hk
        obtain ⟨⟨_, _, _, z0, _⟩, _⟩ := hk
        exact .inr ⟨b', o', e, ⟨hS', World.block_lt_of_cell? w _ z0⟩, hk2⟩
theorem FL.both {S : Nat → Prop} {w : World} {v : Value} {f : M.F} (h : FL S w v f) : FL (fun b => S b ∧ b < w.heap.size) w v f := by
  obtain ⟨a, cap, e, h1, h2, h3⟩ := h
  refine ⟨a, cap, e, h1, h2, ?_⟩
  rcases h3 with h3 | ⟨b, o, ea, hS, hc⟩
  · exact .inl h3
  · cases f with
    | nil => exact .inl rfl
    | node xb xo d k r =>
      have h4 := FAt.both _ b o hc
      obtain ⟨⟨_, _, _, z0, _⟩, _⟩ := hc
      exact .inr ⟨b, o, ea, ⟨hS, World.block_lt_of_cell? w _ z0⟩, h4⟩
/-- not the block of pointers, nor the result's -/
abbrev Ne (R : Nat × Nat) (g : Nat) : Nat → Prop := fun b => b ≠ g ∧ (b ≠ R.1 ∧ b ≠ R.2)
/-- the next world, and the next block of pointers -/
structure Nx (R : Nat × Nat) (g g' : Nat) (W W2 : World) : Prop where
  like : Like (Ne R g) W W2
  new : g' = g ∨ W.heap.size ≤ g'
theorem FAt.nx {R : Nat × Nat} {g g' : Nat} {W W2 : World} (h : Nx R g g' W W2) {f : M.F} {b o : Nat} (hb : Ne R g b) (hz : b < W.heap.size) (hf : FAt (Ne R g) W f b o) : FAt (Ne R g') W2 f b o :=
  ((hf.both f b o).like (fun b hb hz => h.like b hb.1 hz) f b o ⟨hb, hz⟩).mono (fun b hb => ⟨by rcases h.new with e | e; (rw [e]; exact hb.1.1); (have := hb.2; omega), hb.1.2⟩) f b o
theorem FL.nx {R : Nat × Nat} {g g' : Nat} {W W2 : World} (h : Nx R g g' W W2) {v : Value} {f : M.F} (hf : FL (Ne R g) W v f) : FL (Ne R g') W2 v f :=
  (hf.both.like (fun b hb hz => h.like b hb.1 hz)).mono (fun b hb => ⟨by rcases h.new with e | e; (rw [e]; exact hb.1.1); (have := hb.2; omega), hb.1.2⟩)

/-- a tree at a place of a row of trees -/
structure Pd where
  b : Nat
  o : Nat
  f : M.F
def ptrP (p : Pd) : Value := .pointer (some ⟨p.b, p.o, none⟩)
def tot : List Pd → Nat
  | [] => 0
  | p :: l => p.f.size + tot l
theorem tot_append : ∀ (l m : List Pd), tot (l ++ m) = tot l + tot m
  | [], m => by simp [tot]
  | p :: l, m => by rw [List.cons_append, tot, tot, tot_append l m]; omega
structure PdOK (n : Nat) (R : Nat × Nat) (g : Nat) (W : World) (p : Pd) : Prop where
  ge : n ≤ p.b
  ne : Ne R g p.b
  lt : p.b < W.heap.size
  froz : ∀ q, W.frozen? ⟨p.b, q, none⟩ = false
  one : ∃ d k, p.f = .cons d k .nil
  at_ : FAt (Ne R g) W p.f p.b p.o
  sl : p.f.slots ≤ 1000000
theorem PdOK.nx {n g g' : Nat} {R : Nat × Nat} {W W2 : World} (h : Nx R g g' W W2) {p : Pd} (hp : PdOK n R g W p) (hs : W.heap.size ≤ W2.heap.size) : PdOK n R g' W2 p :=
  ⟨hp.ge, ⟨by rcases h.new with e | e; (rw [e]; exact hp.ne.1); (have := hp.lt; omega), hp.ne.2⟩, Nat.lt_of_lt_of_le hp.lt hs,
   fun q => by rw [World.frozen?_of_block (w := W) (a := ⟨p.b, q, none⟩) (h.like p.b hp.ne hp.lt)]; exact hp.froz q, hp.one, hp.at_.nx h hp.ne hp.lt, hp.sl⟩
theorem PdOK.turn {n g : Nat} {R : Nat × Nat} {W W' : World} {av av' kv kv' : Value} (h : Turn (Ne R g) W W' av av' kv kv') (hf : ∀ a : Addr, a.block < W.heap.size → W'.frozen? a = W.frozen? a) (hs : W.heap.size ≤ W'.heap.size) {p : Pd} (hp : PdOK n R g W p) : PdOK n R g W' p :=
  ⟨hp.ge, hp.ne, Nat.lt_of_lt_of_le hp.lt hs, fun q => by rw [hf _ hp.lt]; exact hp.froz q, hp.one, h.fat _ _ _ _ _ hp.at_ (fun j v _ hv => h.cell _ _ _ hv), hp.sl⟩

/-- whole, while it goes on: what is still to come stands on the stack; the box is block n, the result's n + 1 -/
structure WInv (w : World) (Q : Nat) (d : Nd) (k : M.F) (N g : Nat) (W : World) (ov : Value) (ps : List Pd) : Prop where
  q : Q < w.heap.size
  below : Below w.heap.size w W
  own : W.ownsRow w.heap.size 85 1 ov ps.length (ps.map ptrP)
  blk : ov.ownBlock = some g
  gne : g ≠ w.heap.size + 1
  box : PdOK w.heap.size (w.heap.size + 1, Q) g W ⟨w.heap.size, 0, .cons d k .nil⟩
  res : W.heap[w.heap.size + 1]? = some (.cells #[.int .i64 0, .string ⟨#[]⟩, .string ⟨#[]⟩, .slice none 0 0, .slice none 0 0] 25 (0, 0))
  pend : ∀ p ∈ ps, PdOK w.heap.size (w.heap.size + 1, Q) g W p
  sum : tot ps ≤ N

/-- the first i kids of a row, each at its place -/
def kidsP (b : Nat) : Nat → M.F → Nat → List Pd
  | _, _, 0 => []
  | _, .nil, _ => []
  | o, .node _ _ d k r, i + 1 => ⟨b, o, .cons d k .nil⟩ :: kidsP b (o + 5) r i
theorem kidsP_tot (b : Nat) : ∀ (f : M.F) (o : Nat), tot (kidsP b o f f.len) = f.size
  | .nil, _ => rfl
  | .node xb xo d k r, o => by
    show (M.F.cons d k .nil).size + tot (kidsP b (o + 5) r r.len) = _
    rw [kidsP_tot b r (o + 5)]
    simp only [BT.size]
    omega
/-- what is left of a row behind its first i trees -/
def dropF : M.F → Nat → M.F
  | f, 0 => f
  | .nil, _ => .nil
  | .node _ _ _ _ r, i + 1 => dropF r i
theorem dropF_nil : ∀ i, dropF .nil i = .nil
  | 0 => rfl
  | _ + 1 => rfl
theorem dropF_len : ∀ (f : M.F) (i : Nat), (dropF f i).len = f.len - i
  | f, 0 => by cases f <;> rfl
  | .nil, i + 1 => by simp [dropF, BT.len]
  | .node xb xo d k r, i + 1 => by rw [dropF, dropF_len r i]; simp [BT.len]
theorem dropF_step : ∀ (f : M.F) (i : Nat), i < f.len → ∃ xb xo d k, dropF f i = .node xb xo d k (dropF f (i + 1)) ∧ ∀ b o, kidsP b o f (i + 1) = kidsP b o f i ++ [⟨b, o + i * 5, .cons d k .nil⟩]
  | .nil, i, h => by simp [BT.len] at h
  | .node xb xo d k r, 0, h => ⟨xb, xo, d, k, by cases r <;> rfl, fun b o => by simp [kidsP]⟩
  | .node xb xo d k r, i + 1, h => by
    obtain ⟨yb, yo, d1, k1, h1, h2⟩ := dropF_step r i (by simp only [BT.len] at h; omega)
    refine ⟨yb, yo, d1, k1, h1, fun b o => ?_⟩
    rw [kidsP, h2 b (o + 5), kidsP, List.cons_append]
    congr 4
    omega
theorem dropF_fat {S : Nat → Prop} {W : World} {b : Nat} : ∀ (f : M.F) (i o : Nat), FAt S W f b o → FAt S W (dropF f i) b (o + i * 5)
  | f, 0, o, h => by cases f <;> simpa [dropF] using h
  | .nil, i + 1, o, h => trivial
  | .node xb xo d k r, i + 1, o, h => by
    have := dropF_fat r i (o + 5) h.2
    rw [show o + 5 + i * 5 = o + (i + 1) * 5 by omega] at this
    exact this
theorem dropF_slots : ∀ (f : M.F) (i : Nat), (dropF f i).slots ≤ f.slots
  | f, 0 => by cases f <;> exact Nat.le_refl _
  | .nil, i + 1 => Nat.le_refl _
  | .node xb xo d k r, i + 1 => by
    have := dropF_slots r i
    show (dropF r i).slots ≤ d.ats.length + k.slots + r.slots
    omega

theorem copyA {S T : Nat → Prop} {W W' : World} {v v' : Value} {l : List (ByteArray × ByteArray)} (h : AS S W v l) (h' : AS T W' v' l) (hT : ∀ b, T b → S b) : CopyOf S 2 W W' v v' := by
  obtain ⟨a, c, rfl, h1, h2, h3⟩ := h
  obtain ⟨a', c', rfl, g1, g2, g3⟩ := h'
  refine ⟨a, l.length, c, a', c', rfl, rfl, g1, g2, ?_⟩
  rcases h3 with h3 | ⟨b, o, ea, _, hc⟩
  · exact .inl (by rw [h3]; rfl)
  rcases g3 with g3 | ⟨b', o', ea', hT', hc'⟩
  · exact .inl (by rw [g3]; rfl)
  refine .inr ⟨b, o, b', o', ea, ea', hT _ hT', fun j v hj hv => ?_⟩
  obtain ⟨i, hi⟩ : ∃ i, j = i * 2 ∨ j = i * 2 + 1 := ⟨j / 2, by omega⟩
  rcases hi with rfl | rfl
  · rw [(hc i (by omega)).1] at hv
    rw [← Option.some.inj hv]
    exact (hc' i (by omega)).1
  · have e := (hc i (by omega)).2
    have e' := (hc' i (by omega)).2
    rw [Nat.add_assoc] at e e'
    rw [e] at hv
    rw [← Option.some.inj hv]
    exact e'
/-- a row of trees, cell by cell -/
theorem FAt.row {S : Nat → Prop} {W : World} {b : Nat} : ∀ (f : M.F) (o : Nat), FAt S W f b o → ∃ xs : List Value, xs.length = f.len * 5 ∧ (∀ j u, xs[j]? = some u → W.cell? ⟨b, o + j, none⟩ = some u) ∧ ∀ u ∈ xs, u.oneCell' = true
  | .nil, o, _ => ⟨[], by simp [BT.len], by simp, by simp⟩
  | .node xb xo d k r, o, h => by
    obtain ⟨⟨av, ka, kc, c0, c1, c2, c3, c4, ha, _⟩, hr⟩ := h
    obtain ⟨xs, h1, h2, h3⟩ := FAt.row r (o + 5) hr
    obtain ⟨a, c, rfl, _⟩ := ha
    refine ⟨.int .i64 d.k :: .string d.n :: .string d.x :: .slice a d.ats.length c :: .slice ka k.len kc :: xs, ?_, ?_, ?_⟩
    · simp only [List.length_cons, BT.len, h1]; omega
    · intro j u hj
      match j, hj with
      | 0, hj => simp at hj; subst hj; exact c0
      | 1, hj => simp at hj; subst hj; exact c1
      | 2, hj => simp at hj; subst hj; exact c2
      | 3, hj => simp at hj; subst hj; exact c3
      | 4, hj => simp at hj; subst hj; exact c4
      | j + 5, hj =>
        have := h2 j u (by simpa using hj)
        rw [show o + 5 + j = o + (j + 5) by omega] at this
        exact this
    · intro u hu
      simp only [List.mem_cons] at hu
      rcases hu with rfl | rfl | rfl | rfl | rfl | hu
      · rfl
      · rfl
      · rfl
      · rfl
      · rfl
      · exact h3 u hu
theorem copyT {S : Nat → Prop} {W W' : World} {n c c' : Nat} {a a' : Option Addr} {xs : List Value} {B E : Nat} (hx : xs.length = n * 5)
    (hc : n = 0 ∨ ∃ b o, a = some ⟨b, o, none⟩ ∧ ∀ j u, xs[j]? = some u → W.cell? ⟨b, o + j, none⟩ = some u) (h1 : n ≤ c') (h2 : c' ≤ maxLen)
    (ho : n = 0 ∨ W'.ownsRow B E 5 (.slice a' n c') n xs) (hS : ∀ b, B ≤ b → S b) : CopyOf S 5 W W' (.slice a n c) (.slice a' n c') := by
  refine ⟨a, n, c, a', c', rfl, rfl, h1, h2, ?_⟩
  rcases hc with hc | ⟨b, o, ea, hc⟩
  · exact .inl hc
  rcases ho with ho | ho
  · exact .inl ho
  rcases ho.2 with ⟨_, hz⟩ | ⟨g, cap, cur, e, hg, hh, _, _, hs, ht⟩
  · exact .inl hz
  · simp only [Value.slice.injEq] at e
    obtain ⟨rfl, _, rfl⟩ := e
    refine .inr ⟨b, o, g, 0, ea, rfl, hS _ hg, fun j v hj hv => ?_⟩
    obtain ⟨u, hu⟩ : ∃ u, xs[j]? = some u := ⟨_, List.getElem?_eq_getElem (by omega)⟩
    rw [hc j u hu] at hv
    rw [← Option.some.inj hv, Nat.zero_add]
    have : cur.toList[j]? = some u := by
      rw [← ht, List.getElem?_take] at hu
      split at hu
      all_goals first | exact hu | (exfalso; omega)
    unfold World.cell?
    simp only [hh]
    rw [← Array.getElem?_toList]
    exact this

theorem own_lt {W : World} {n E z m g : Nat} {ov : Value} {xs : List Value} (h : W.ownsRow n E z ov m xs) (hb : ov.ownBlock = some g) : n ≤ g ∧ g < W.heap.size := by
  rcases h.2 with ⟨rfl, _⟩ | ⟨g', cap, cur, rfl, hg, hh, _⟩
  · cases hb
  · cases hb
    exact ⟨hg, (Array.getElem?_eq_some_iff.1 hh).1⟩
/-- behind the two stores -/
structure End6 (n : Nat) (R : Nat × Nat) (g : Nat) (W W4 : World) (b o : Nat) (k1 : M.F) (ka : Option Addr) (kc : Nat) : Prop where
  pd : ∀ p, PdOK n R g W p → PdOK n R g W4 p
  c4 : W4.cell? ⟨b, o + 4, none⟩ = some (.slice ka k1.len kc)
  kids : k1.len = 0 ∨ ∃ kb, ka = some ⟨kb, 0, none⟩ ∧ W.heap.size ≤ kb ∧ kb < W4.heap.size ∧ (∀ q, W4.frozen? ⟨kb, q, none⟩ = false) ∧ FAt (Ne R g) W4 k1 kb 0
  cap : k1.len ≤ kc
  size : W.heap.size ≤ W4.heap.size
  blocks : ∀ c, c < W.heap.size → c ≠ b → W4.heap[c]? = W.heap[c]?
  os : W4.os = W.os
  tape : W4.tape = W.tape
  output : W4.output = W.output
theorem set_block {W : World} {a : Addr} {v : Value} {c : Nat} (h : c ≠ a.block) : (W.setCell a v).heap[c]? = W.heap[c]? := Below.heap_setCell W a v c h
theorem end6 {n g b o m c : Nat} {R : Nat × Nat} {d1 : Nd} {k1 : M.F} {W W3 : World} {av av' : Value} {ka ka' : Option Addr} {kc' : Nat} {xs : List Value} (hp : PdOK n R g W ⟨b, o, .cons d1 k1 .nil⟩) (hg : g < W.heap.size) (hR : R.1 < W.heap.size ∧ R.2 < W.heap.size)
    (c3 : W.cell? ⟨b, o + 3, none⟩ = some av) (c4 : W.cell? ⟨b, o + 4, none⟩ = some (.slice ka k1.len c)) (ha : AS (Ne R g) W av d1.ats) (hb : Below W.heap.size W W3)
    (ha' : AS (fun b => W.heap.size ≤ b) W3 av' d1.ats) (hx : xs.length = k1.len * 5) (hc : k1.len = 0 ∨ ∃ b o, ka = some ⟨b, o, none⟩ ∧ ∀ j u, xs[j]? = some u → W.cell? ⟨b, o + j, none⟩ = some u)
    (hn : k1.len ≤ kc') (hn2 : kc' ≤ maxLen) (ho : k1.len = 0 ∨ W3.ownsRow m 25 5 (.slice ka' k1.len kc') k1.len xs) (hm : W.heap.size ≤ m) :
    End6 n R g W ((W3.setCell ⟨b, o + 3, none⟩ av').setCell ⟨b, o + 4, none⟩ (.slice ka' k1.len kc')) b o k1 ka' kc' := by
  obtain ⟨W4, hW4⟩ : ∃ W4, (W3.setCell ⟨b, o + 3, none⟩ av').setCell ⟨b, o + 4, none⟩ (.slice ka' k1.len kc') = W4 := ⟨_, rfl⟩
  rw [hW4]
  have hlt : b < W.heap.size := hp.lt
  have hsz : W4.heap.size = W3.heap.size := by rw [← hW4]; simp [World.setCell]
  have hbl : ∀ c, c ≠ b → W4.heap[c]? = W3.heap[c]? := fun c hc => by
    rw [← hW4, set_block (a := ⟨b, o + 4, none⟩) hc, set_block (a := ⟨b, o + 3, none⟩) hc]
  have e3 : W3.cell? ⟨b, o + 3, none⟩ = some av := (hb.cell (p := ⟨b, o + 3, none⟩) hlt).trans c3
  have e4 : W3.cell? ⟨b, o + 4, none⟩ = some (.slice ka k1.len c) := (hb.cell (p := ⟨b, o + 4, none⟩) hlt).trans c4
  have e4' : (W3.setCell ⟨b, o + 3, none⟩ av').cell? ⟨b, o + 4, none⟩ = some (.slice ka k1.len c) := by
    rw [World.cell?_setCell_other _ _ _ _ (by intro h; injection h with _ h _; omega)]; exact e4
  have r4 : W4.cell? ⟨b, o + 4, none⟩ = some (.slice ka' k1.len kc') := by rw [← hW4]; exact World.cell?_setCell_same _ _ _ e4'
  have r3 : W4.cell? ⟨b, o + 3, none⟩ = some av' := by
    rw [← hW4, World.cell?_setCell_other _ _ _ _ (by intro h; injection h with _ h _; omega)]
    exact World.cell?_setCell_same _ _ _ e3
  have rest : ∀ a : Addr, a ≠ ⟨b, o + 3, none⟩ → a ≠ ⟨b, o + 4, none⟩ → W4.cell? a = W3.cell? a := fun a h3 h4 => by
    rw [← hW4, World.cell?_setCell_other _ _ _ _ (Ne.symm h4), World.cell?_setCell_other _ _ _ _ (Ne.symm h3)]
  have hlike : Like (fun b => W.heap.size ≤ b) W3 W4 := fun c hc _ => hbl c (by omega)
  have ha4 : AS (fun b => W.heap.size ≤ b) W4 av' d1.ats := ha'.like hlike
  have ho4 : k1.len = 0 ∨ W4.ownsRow m 25 5 (.slice ka' k1.len kc') k1.len xs := ho.imp id (fun h => own_block h (fun c hc _ => hbl c (by
    rcases h.2 with ⟨e, _⟩ | ⟨g', cap, cur, e, hg', _⟩
    · rw [e] at hc; cases hc
    · rw [e] at hc; have := own_blk1 hc; omega)))
  have hS : ∀ c, W.heap.size ≤ c → Ne R g c := fun c hc => ⟨by omega, by omega, by omega⟩
  have ht : Turn (Ne R g) W W4 av av' (.slice ka k1.len c) (.slice ka' k1.len kc') := by
    refine ⟨fun c q v hv => ?_, copyA ha ha4 hS, copyT hx hc hn hn2 ho4 (fun c hc => hS c (by omega)), ⟨_, ha⟩⟩
    have hv3 : W3.cell? ⟨c, q, none⟩ = some v := (hb.cell (p := ⟨c, q, none⟩) (World.block_lt_of_cell? W _ hv)).trans hv
    by_cases h3 : (⟨c, q, none⟩ : Addr) = ⟨b, o + 3, none⟩
    · rw [h3] at hv
      rw [c3] at hv
      exact .inr (.inl ⟨(Option.some.inj hv).symm, by rw [h3]; exact r3⟩)
    by_cases h4 : (⟨c, q, none⟩ : Addr) = ⟨b, o + 4, none⟩
    · rw [h4] at hv
      rw [c4] at hv
      exact .inr (.inr ⟨(Option.some.inj hv).symm, by rw [h4]; exact r4⟩)
    · exact .inl (by rw [rest _ h3 h4]; exact hv3)
  have hfz : ∀ a : Addr, a.block < W.heap.size → W4.frozen? a = W.frozen? a := fun a ha => by
    rw [← hW4, World.frozen?_setCell, World.frozen?_setCell]
    exact hb.frozen ha
  have hsz2 : W.heap.size ≤ W4.heap.size := by rw [hsz]; exact hb.size
  have hpd := PdOK.turn ht hfz hsz2 hp
  refine ⟨fun p h => PdOK.turn ht hfz hsz2 h, r4, ?_, hn, hsz2, fun c hc hne => by rw [hbl c hne]; exact hb.block c hc, by rw [← hW4]; exact hb.os, by rw [← hW4]; exact hb.tape, by rw [← hW4]; exact hb.output⟩
  obtain ⟨⟨_, _, _, _, _, _, _, z4, _, _, _, zk⟩, _⟩ := hpd.at_
  rw [r4] at z4
  have z5 := Option.some.inj z4
  simp only [Value.slice.injEq] at z5
  obtain ⟨rfl, _, rfl⟩ := z5
  rcases ho4 with h0 | ho4
  · exact .inl h0
  rcases zk with zk | ⟨kb, ko, rfl, _, zk⟩
  · exact .inl zk
  rcases ho4.2 with ⟨_, hz⟩ | ⟨g', cap, cur, e, hg', hh, _⟩
  · exact .inl hz
  · simp only [Value.slice.injEq, Option.some.injEq, Addr.mk.injEq] at e
    obtain ⟨⟨rfl, rfl, _⟩, _, rfl⟩ := e
    exact .inr ⟨kb, rfl, by omega, (Array.getElem?_eq_some_iff.1 hh).1, fun q => by simp [World.frozen?, hh], zk⟩
/-- the round's beginning: the last one is taken off, its copies are laid -/
theorem WInv.end6 {w : World} {Q : Nat} {d : Nd} {k : M.F} {N g : Nat} {W W4 : World} {ov ov0 : Value} {ps0 : List Pd} {b o : Nat} {d1 : Nd} {k1 : M.F} {ka : Option Addr} {kc : Nat} (h : WInv w Q d k N g W ov (ps0 ++ [⟨b, o, .cons d1 k1 .nil⟩]))
    (ho : W.ownsRow w.heap.size 85 1 ov0 ps0.length (ps0.map ptrP)) (hb0 : ov0.ownBlock = some g) (he : End6 w.heap.size (w.heap.size + 1, Q) g W W4 b o k1 ka kc) : WInv w Q d k N g W4 ov0 ps0 := by
  have hp := h.pend _ (List.mem_append_right _ List.mem_cons_self)
  have hgl := own_lt h.own h.blk
  have hbn : w.heap.size ≤ b := hp.ge
  have hbg : b ≠ g := hp.ne.1
  have hbR : b ≠ w.heap.size + 1 := hp.ne.2.1
  have hR : w.heap.size + 1 < W.heap.size := (Array.getElem?_eq_some_iff.1 h.res).1
  have htot := h.sum
  rw [tot_append] at htot
  refine ⟨h.q, ⟨he.os.trans h.below.os, he.tape.trans h.below.tape, he.output.trans h.below.output, Nat.le_trans h.below.size he.size, fun c hc => ?_⟩, own_block ho (fun c hc hlt => ?_), hb0, h.gne, he.pd _ h.box, ?_, fun p hp => he.pd _ (h.pend p (List.mem_append_left _ hp)), by omega⟩
  · rw [he.blocks c (Nat.lt_of_lt_of_le hc h.below.size) (by omega)]
    exact h.below.block c hc
  · have : c = g := by rw [hb0] at hc; exact Option.some.inj hc
    exact he.blocks c hlt (by rw [this]; exact fun e => hbg e.symm)
  · rw [he.blocks _ hR (fun e => hbR e.symm)]
    exact h.res
/-- one more on the stack -/
theorem WInv.push {w : World} {Q : Nat} {d : Nd} {k : M.F} {N g : Nat} {W W2 : World} {ov ov' : Value} {ps : List Pd} {p : Pd} (h : WInv w Q d k N g W ov ps) (hp : PdOK w.heap.size (w.heap.size + 1, Q) g W p) (ht : tot ps + p.f.size ≤ N) {o1 : Obj}
    (ho : W2.ownsRow w.heap.size 85 1 ov' (ps.length + 1) (ps.map ptrP ++ [ptrP p])) (hg : (W.alloc o1).grownBy W2 ov.ownBlock) (hl : ov'.ownBlock = ov.ownBlock ∨ ov'.ownBlock = some (W.heap.size + 1)) :
    ∃ g', WInv w Q d k N g' W2 ov' (ps ++ [p]) ∧ Nx (w.heap.size + 1, Q) g g' W W2 ∧ W.heap.size ≤ W2.heap.size := by
  have hgl := own_lt h.own h.blk
  have hR : w.heap.size + 1 < W.heap.size := (Array.getElem?_eq_some_iff.1 h.res).1
  rw [h.blk] at hg hl
  have hs1 : (W.alloc o1).heap.size = W.heap.size + 1 := by simp
  have hsz : W.heap.size ≤ W2.heap.size := by have := hg.size; omega
  have hbl : ∀ c, c < W.heap.size → c ≠ g → W2.heap[c]? = W.heap[c]? := fun c hc hne => by
    rw [hg.block c (by omega) (by simp only [ne_eq, Option.some.injEq]; exact hne)]
    exact Below.heap_alloc W o1 c hc
  obtain ⟨g', hb', hnew⟩ : ∃ g', ov'.ownBlock = some g' ∧ (g' = g ∨ W.heap.size ≤ g') := by
    rcases hl with hl | hl
    · exact ⟨g, hl, .inl rfl⟩
    · exact ⟨_, hl, .inr (by omega)⟩
  have hnx : Nx (w.heap.size + 1, Q) g g' W W2 := ⟨fun c hc hlt => hbl c hlt hc.1, hnew⟩
  refine ⟨g', ⟨h.q, ⟨hg.os.trans h.below.os, hg.tape.trans h.below.tape, hg.output.trans h.below.output, Nat.le_trans h.below.size hsz, fun c hc => ?_⟩, by rw [List.length_append, List.map_append]; exact ho, hb', by rcases hnew with e | e; (rw [e]; exact h.gne); omega, h.box.nx hnx hsz, ?_, ?_, ?_⟩, hnx, hsz⟩
  · rw [hbl c (Nat.lt_of_lt_of_le hc h.below.size) (by have := hgl.1; omega)]
    exact h.below.block c hc
  · rw [hbl _ hR (fun e => h.gne e.symm)]
    exact h.res
  · intro q hq
    rcases List.mem_append.1 hq with hq | hq
    · exact (h.pend q hq).nx hnx hsz
    · rw [List.mem_singleton] at hq
      subst hq
      exact hp.nx hnx hsz
  · rw [tot_append]
    show tot ps + (p.f.size + 0) ≤ N
    omega
theorem kidsP_le (b : Nat) : ∀ (f : M.F) (o i : Nat), tot (kidsP b o f i) ≤ f.size
  | .nil, _, 0 => by simp [kidsP, tot]
  | .nil, _, i + 1 => by simp [kidsP, tot]
  | .node xb xo d k r, _, 0 => by simp [kidsP, tot]
  | .node xb xo d k r, o, i + 1 => by
    have := kidsP_le b r (o + 5) i
    show (M.F.cons d k .nil).size + tot (kidsP b (o + 5) r i) ≤ _
    simp only [BT.size]
    omega
end Go.Proofs.Ytjjkidenlgghkaa
