/- A range over a function whose iterator keeps memory of its own: one law for whoever ranges. -/
import Derived.RangeFuncNested
import Derived.RangeFuncBound
import Derived.RangeFuncCalls
import Derived.RangeFuncLeaves
import Derived.WalkKit
import Derived.Below
import Derived.Scope
import Derived.ControlIn
import Derived.Deep.RegionHeld3
import Derived.OrdersIn
set_option linter.unusedVariables false
namespace Go.Proofs.YtdniddiaiinggaaDoor
open Go Go.RowKit

/-- blocks below n and from B on are as they were -/
structure Keep (n B : Nat) (w w' : World) : Prop where
  os : w'.os = w.os
  tape : w'.tape = w.tape
  output : w'.output = w.output
  size : w.heap.size ≤ w'.heap.size
  block : ∀ k, k < w.heap.size → (k < n ∨ B ≤ k) → w'.heap[k]? = w.heap[k]?
theorem Keep.refl (n B : Nat) (w : World) : Keep n B w w := ⟨rfl, rfl, rfl, Nat.le_refl _, fun _ _ _ => rfl⟩
theorem Keep.trans {n B : Nat} {a b c : World} (h : Keep n B a b) (k : Keep n B b c) : Keep n B a c :=
  ⟨k.os.trans h.os, k.tape.trans h.tape, k.output.trans h.output, Nat.le_trans h.size k.size, fun i hi hc => (k.block i (Nat.lt_of_lt_of_le hi h.size) hc).trans (h.block i hi hc)⟩
theorem Keep.mono {n n' B B' : Nat} {a b : World} (h : Keep n B a b) (hn : n' ≤ n) (hB : B ≤ B') : Keep n' B' a b :=
  ⟨h.os, h.tape, h.output, h.size, fun i hi hc => h.block i hi (by omega)⟩
theorem Keep.of_below {n B : Nat} {a b : World} (h : Below a.heap.size a b) : Keep n B a b := ⟨h.os, h.tape, h.output, h.size, fun i hi _ => h.block i hi⟩
theorem Keep.below {n B : Nat} {a b : World} (h : Keep n B a b) (hn : n ≤ a.heap.size) : Below n a b := ⟨h.os, h.tape, h.output, h.size, fun i hi => h.block i (by omega) (.inl hi)⟩
theorem Keep.setCell {n B : Nat} {a b : World} (h : Keep n B a b) {p : Addr} (h1 : n ≤ p.block) (h2 : p.block < B) (u : Value) : Keep n B a (b.setCell p u) :=
  h.trans ⟨rfl, rfl, rfl, by simp [World.setCell], fun k _ hk => Below.heap_setCell _ _ _ _ (by omega)⟩
theorem Keep.alloc {n B : Nat} {a b : World} (h : Keep n B a b) (o : Obj) : Keep n B a (b.alloc o) :=
  h.trans ⟨rfl, rfl, rfl, by simp, fun k hk _ => Below.heap_alloc _ _ _ hk⟩
theorem Keep.putObj {n B : Nat} {W : World} {l : Nat} (o : Obj) (h1 : n ≤ l) (h2 : l < B) : Keep n B W (W.putObj l o) :=
  ⟨rfl, rfl, rfl, (grownBy_putObj' W l o).size, fun k hk hc => (grownBy_putObj' W l o).block k hk (fun e => by cases e; omega)⟩
theorem below_putObj {B : Nat} {a W : World} (h : Below B a W) {l : Nat} (hl : B ≤ l) (hB : B ≤ W.heap.size) (o : Obj) : Below B a (W.putObj l o) :=
  h.grown (grownBy_putObj' W l o) hB (fun k e => by cases e; exact hl)

/-- what abides all that is done from block B on -/
def Abide {β : Type} (B : Nat) (I : β → World → Prop) : Prop := ∀ s W W', I s W → Below B W W' → I s W'

/-- an iterator that gives xs: its own memory lies behind what was there when it began -/
def Gives {α : Type} (F : Fence) (n : Nat) (P : Program) (g : Nat) (lb : Array Value) (encs : α → Array Value) (n₀ : Nat) (xs : List α) (w : World) : Prop :=
  ∀ (l : Nat) (J Jx : List α → World → Prop) (W : World), Below w.heap.size w W → Abide W.heap.size J → Abide W.heap.size Jx →
    (∀ pre x W1, J pre W1 → W.heap.size ≤ W1.heap.size → pre ++ [x] <+: xs → YieldAt F (n - 1) P l (encs x) W1 fun e W' =>
      (e = .returned (.bool true) ∧ J (pre ++ [x]) W' ∧ Keep n₀ W.heap.size W1 W') ∨ (e = .returned (.bool false) ∧ Jx (pre ++ [x]) W')) →
    J [] W →
    CallsIn F n P g (#[.func (.yield l) #[] #[]] ++ lb) W fun e W' => (∃ v, e = .returned v) ∧ (J xs W' ∨ (∃ pre, pre <+: xs ∧ Jx pre W'))

/-- how a round may be left -/
def roundPost {α : Type} (n₀ B : Nat) (I : List α → World → Prop) (Ix : Code → List α → World → Prop) (xs : List α) (W : World) : Exit → Act → World → Prop
  | .normal, _, W' => Keep n₀ B W W' ∧ I xs W'
  | .ret, _, W' => Keep n₀ B W W' ∧ Ix .ret xs W'
  | .exit id, _, W' => Keep n₀ B W W' ∧ Ix (.exit id) xs W'
  | .goto t, _, W' => Keep n₀ B W W' ∧ Ix (.goto t) xs W'
  | .panic _, _, _ => False
  | .outgrown, _, _ => False

variable {F : Fence} {n : Nat} {P : Program}

theorem wpIn_range {α : Type} {g : Operand} {ps : Array Tmp} {assign body : Code} {Q : Exit → Act → World → Prop} {a : Act} {w : World}
    (hro : F.round = none) (h1 : 1 ≤ n) {gf : Nat} {lb : Array Value} (hg : a.eval g = .func (.func gf) #[] lb) (hFg : F.fn gf) (eg : ∀ args w, (callFunc gf args).run P w = .ok (.enter gf args) w)
    {encs : α → Array Value} {n₀ : Nat} {xs : List α} {w0 : World} (hseq : Gives F (n - 1) P gf lb encs n₀ xs w0) (hn₀ : n₀ ≤ w.heap.size) (hb0 : Below w0.heap.size w0 w) (hps : ∀ x, (encs x).size = ps.size)
    (I : List α → World → Prop) (Ix : Code → List α → World → Prop) (hI : Abide w.heap.size I) (hIx : ∀ c, Abide w.heap.size (Ix c)) (h0 : I [] w) (Ax : α → Act → World → Prop)
    (hAx : ∀ x a' W o, Ax x a' W → w.heap.size + 1 < W.heap.size → Ax x a' (W.putObj (w.heap.size + 1) o))
    (hassign : ∀ (l : Nat) (pre : List α) (x : α) (W : World) (K : Act → World → Prop), I pre W → pre ++ [x] <+: xs → w.heap.size + 1 < W.heap.size → (∀ a' W', Below W.heap.size W W' → Ax x a' W' → K a' W') →
      assign.wpIn (F.inRound l) (n - 1 - 1) P (Exit.then K (fun _ _ _ => False)) { tmps := (ps.zip (encs x)).foldl (fun t (p, v) => t.setIfInBounds p v) a.tmps, defers := [] } W)
    (hbody : ∀ (l : Nat) (pre : List α) (x : α) (a' : Act) (W : World), I pre W → Ax x a' W → pre ++ [x] <+: xs → w.heap.size + 1 < W.heap.size → body.wpIn (F.inRound l) (n - 1 - 1) P (roundPost n₀ w.heap.size I Ix (pre ++ [x]) W) a' W)
    (hdone : ∀ (D : Nat) (W : World), w.heap.size ≤ D → I xs W → W.heap[D]? = some (.deferred (some [])) → Q .normal { a with defers := { target := .collected D, args := #[] } :: a.defers } W)
    (hstop : ∀ (D : Nat) (c : Code) (pre : List α) (W : World), w.heap.size ≤ D → pre <+: xs → Ix c pre W → W.heap[D]? = some (.deferred (some [])) → c.wpIn F n P Q { a with defers := { target := .collected D, args := #[] } :: a.defers } W) :
    (Code.rangeFunc g ps assign body).wpIn F n P Q a w := by
  refine wpIn_rangeFunc ?_
  intro fn hfn
  rw [hro]
  obtain ⟨rec, hrec⟩ : ∃ rec : LoopState → Option Code → Loop, rec = fun st pe => { state := st, pending := pe, fn, tmps := a.tmps, params := ps, assign, body, defers := w.heap.size } := ⟨_, rfl⟩
  obtain ⟨W1, hW1⟩ : ∃ W1, (w.alloc (.deferred (some []))).alloc (.loop (rec .ready none)) = W1 := ⟨_, rfl⟩
  have hL1 : W1.heap[w.heap.size + 1]? = some (.loop (rec .ready none)) := by
    rw [← hW1]; have := World.alloc_heap_new (w.alloc (.deferred (some []))) (.loop (rec .ready none)); rwa [World.size_alloc] at this
  have hK1 : W1.heap[w.heap.size]? = some (.deferred (some [])) := by
    rw [← hW1]; exact (Below.heap_alloc _ _ _ (by simp)).trans (World.alloc_heap_new w _)
  have hz1 : W1.heap.size = w.heap.size + 2 := by rw [← hW1]; simp
  have hbw : Below w.heap.size w W1 := by rw [← hW1]; exact ((Below.refl _ w).alloc (Nat.le_refl _) _).alloc (by simp) _
  have hI1 : I [] W1 := hI _ _ _ h0 hbw
  have hb1 : Below w0.heap.size w0 W1 := hb0.trans (hbw.mono hb0.size)
  refine ⟨w.heap.size + 1, [{ target := .collected w.heap.size, args := #[] }], W1, { target := .fn (.func gf) lb, args := #[.func (.yield (w.heap.size + 1)) #[] #[]] }, W1, gf,
    #[.func (.yield (w.heap.size + 1)) #[] #[]] ++ lb, W1, ?_, ?_, ?_, ?_, fun _ => h1, ?_⟩
  · rw [← hW1, hrec]; exact run_enterLoop_outer _ _ _ _ _
  · simp only [resolve, hg]
    simp [go_sem]
  · intro f' hf'; simp [Target.leads] at hf'; subst hf'; exact hFg
  · simp [invoke, go_sem, eg]
  · refine (hseq (w.heap.size + 1)
      (fun pre W => I pre W ∧ W.heap[w.heap.size + 1]? = some (.loop (rec .ready none)) ∧ W.heap[w.heap.size]? = some (.deferred (some [])))
      (fun pre W => ∃ c, Ix c pre W ∧ W.heap[w.heap.size + 1]? = some (.loop (rec .done (some c))) ∧ W.heap[w.heap.size]? = some (.deferred (some [])))
      W1 hb1
      (fun s A B hs hg' => ⟨hI s A B hs.1 (hg'.mono (by omega)), (hg'.block _ (by omega)).trans hs.2.1, (hg'.block _ (by omega)).trans hs.2.2⟩)
      (fun s A B hs hg' => by
        obtain ⟨c, hc, hl, hk⟩ := hs
        exact ⟨c, hIx c s A B hc (hg'.mono (by omega)), (hg'.block _ (by omega)).trans hl, (hg'.block _ (by omega)).trans hk⟩)
      ?_ ⟨hI1, hL1, hK1⟩).mono ?_
    · -- one round
      rintro pre x W ⟨hi, hl, hk⟩ hsz hpx
      have hlt : w.heap.size + 1 < W.heap.size := (Array.getElem?_eq_some_iff.1 hl).1
      have hy := run_yield (P := P) (args := encs x) hl (by rw [hrec]; exact hps x)
      rw [hrec] at hy
      refine ⟨fn, _, assign, body, hy, roundIn_of_wpIn hfn (hassign _ pre x W _ hi hpx hlt ?_)⟩
      clear hy
      intro a' Wa hba hax
      have hla := (hba.block _ hlt).trans hl
      have hka := (hba.block _ (by omega)).trans hk
      have hlta : w.heap.size + 1 < Wa.heap.size := (Array.getElem?_eq_some_iff.1 hla).1
      have hia : I pre Wa := hI _ _ _ hi (hba.mono (by omega))
      refine ⟨_, run_beginRound hla (by rw [hrec]), ?_⟩
      obtain ⟨W2, hW2⟩ : ∃ W2, Wa.putObj (w.heap.size + 1) (.loop { rec .ready none with state := .busy }) = W2 := ⟨_, rfl⟩
      have hl2 : W2.heap[w.heap.size + 1]? = some (.loop { rec .ready none with state := .busy }) := by rw [← hW2]; exact World.putObj_heap_same hlta
      have hk2 : W2.heap[w.heap.size]? = some (.deferred (some [])) := by rw [← hW2]; exact (World.putObj_heap_other (by omega)).trans hka
      have hlt2 : w.heap.size + 1 < W2.heap.size := (Array.getElem?_eq_some_iff.1 hl2).1
      have hi2 : I pre W2 := by rw [← hW2]; exact hI _ _ _ hia (below_putObj (Below.refl _ _) (by omega) (by omega) _)
      have hax2 : Ax x a' W2 := by rw [← hW2]; exact hAx _ _ _ _ hax hlta
      have hkp2 : Keep n₀ W1.heap.size W W2 := by
        refine (Keep.of_below hba).trans ?_
        rw [← hW2]; exact Keep.putObj _ (by omega) (by omega)
      rw [hW2]
      refine wpIn_mono (hbody _ pre x a' _ hi2 hax2 hpx hlt2) ?_
      have fin : ∀ (jump : Option Code) (W3 : World), Keep n₀ w.heap.size W2 W3 →
          (Instr.endRound (w.heap.size + 1) jump).run P W3 = .ok (.bool jump.isNone) (W3.putObj (w.heap.size + 1) (.loop (rec (if jump.isNone then .ready else .done) jump))) ∧
          w.heap.size + 1 < W3.heap.size ∧
          (W3.putObj (w.heap.size + 1) (.loop (rec (if jump.isNone then .ready else .done) jump))).heap[w.heap.size + 1]? = some (.loop (rec (if jump.isNone then .ready else .done) jump)) ∧
          (W3.putObj (w.heap.size + 1) (.loop (rec (if jump.isNone then .ready else .done) jump))).heap[w.heap.size]? = some (.deferred (some [])) := fun jump W3 hk3 => by
        have hl3 := (hk3.block _ hlt2 (.inr (by omega))).trans hl2
        have := run_endRound (P := P) jump hl3
        rw [hrec] at this ⊢
        exact ⟨this, (Array.getElem?_eq_some_iff.1 hl3).1, World.putObj_heap_same (Array.getElem?_eq_some_iff.1 hl3).1, (World.putObj_heap_other (by omega)).trans ((hk3.block _ (by omega) (.inr (Nat.le_refl _))).trans hk2)⟩
      have ab : ∀ {β : Type} {X : β → World → Prop} {s : β} {W3 : World} (o : Obj), Abide w.heap.size X → X s W3 → w.heap.size + 1 < W3.heap.size → X s (W3.putObj (w.heap.size + 1) o) :=
        fun o hX hs hlt => hX _ _ _ hs (below_putObj (Below.refl _ _) (by omega) (by omega) _)
      rintro e a3 W3 hp
      cases e with
      | normal =>
        obtain ⟨hk3, hi3⟩ := hp
        obtain ⟨hr, hl3, hl4, hk4⟩ := fin none W3 hk3
        refine ⟨_, _, hr, .inl ⟨rfl, ⟨ab _ hI hi3 hl3, hl4, hk4⟩, ?_⟩⟩
        exact (hkp2.trans (hk3.mono (Nat.le_refl _) (by omega))).trans (Keep.putObj _ (by omega) (by omega))
      | ret =>
        obtain ⟨hk3, hi3⟩ := hp
        obtain ⟨hr, hl3, hl4, hk4⟩ := fin (some .ret) W3 hk3
        exact ⟨_, _, hr, .inr ⟨rfl, .ret, ab _ (hIx _) hi3 hl3, hl4, hk4⟩⟩
      | exit id =>
        obtain ⟨hk3, hi3⟩ := hp
        obtain ⟨hr, hl3, hl4, hk4⟩ := fin (some (.exit id)) W3 hk3
        exact ⟨_, _, hr, .inr ⟨rfl, .exit id, ab _ (hIx _) hi3 hl3, hl4, hk4⟩⟩
      | goto t =>
        obtain ⟨hk3, hi3⟩ := hp
        obtain ⟨hr, hl3, hl4, hk4⟩ := fin (some (.goto t)) W3 hk3
        exact ⟨_, _, hr, .inr ⟨rfl, .goto t, ab _ (hIx _) hi3 hl3, hl4, hk4⟩⟩
      | panic ch => exact hp.elim
      | outgrown => exact hp.elim
    · -- behind the iterator
      have ab : ∀ {β : Type} {X : β → World → Prop} {s : β} {W3 : World} (o : Obj), Abide w.heap.size X → X s W3 → w.heap.size + 1 < W3.heap.size → X s (W3.putObj (w.heap.size + 1) o) :=
        fun o hX hs hlt => hX _ _ _ hs (below_putObj (Below.refl _ _) (by omega) (by omega) _)
      rintro e W2 ⟨⟨v, rfl⟩, (⟨hi, hl, hk⟩ | ⟨pre, hSp, c, hi, hl, hk⟩)⟩
      · exact ⟨none, _, by have := run_endLoop (P := P) hl (by rw [hrec]; simp); rw [hrec] at this; exact this, hdone _ _ (Nat.le_refl _) (ab _ hI hi (Array.getElem?_eq_some_iff.1 hl).1) ((World.putObj_heap_other (by omega)).trans hk)⟩
      · exact ⟨some c, _, by have := run_endLoop (P := P) hl (by rw [hrec]; simp); rw [hrec] at this; exact this, hstop _ c pre _ (Nat.le_refl _) hSp (ab _ (hIx c) hi (Array.getElem?_eq_some_iff.1 hl).1) ((World.putObj_heap_other (by omega)).trans hk)⟩

end Go.Proofs.YtdniddiaiinggaaDoor
/- A range over a function that has no end of its own, whose iterator keeps memory and gives some away; the body leaves it. -/
set_option linter.unusedVariables false
namespace Go.Proofs.YtdniddiaiinggaaDoor
open Go Go.RowKit

/-- the blocks that K names are as they were -/
structure Kept (K : Nat → Prop) (w w' : World) : Prop where
  os : w'.os = w.os
  tape : w'.tape = w.tape
  output : w'.output = w.output
  size : w.heap.size ≤ w'.heap.size
  block : ∀ k, k < w.heap.size → K k → w'.heap[k]? = w.heap[k]?
theorem Kept.refl (K : Nat → Prop) (w : World) : Kept K w w := ⟨rfl, rfl, rfl, Nat.le_refl _, fun _ _ _ => rfl⟩
theorem Kept.trans {K : Nat → Prop} {a b c : World} (h : Kept K a b) (k : Kept K b c) : Kept K a c :=
  ⟨k.os.trans h.os, k.tape.trans h.tape, k.output.trans h.output, Nat.le_trans h.size k.size, fun i hi hc => (k.block i (Nat.lt_of_lt_of_le hi h.size) hc).trans (h.block i hi hc)⟩
theorem Kept.mono {K K' : Nat → Prop} {a b : World} (h : Kept K a b) (hk : ∀ k, k < a.heap.size → K' k → K k) : Kept K' a b :=
  ⟨h.os, h.tape, h.output, h.size, fun i hi hc => h.block i hi (hk i hi hc)⟩
theorem Kept.of_below {K : Nat → Prop} {n : Nat} {a b : World} (h : Below n a b) (hk : ∀ k, k < a.heap.size → K k → k < n) : Kept K a b := ⟨h.os, h.tape, h.output, h.size, fun i hi hc => h.block i (hk i hi hc)⟩
theorem Kept.of_below' {K : Nat → Prop} {a b : World} (h : Below a.heap.size a b) : Kept K a b := Kept.of_below h (fun _ hk _ => hk)
theorem Kept.below {K : Nat → Prop} {n : Nat} {a b : World} (h : Kept K a b) (hn : n ≤ a.heap.size) (hk : ∀ k, k < n → K k) : Below n a b := ⟨h.os, h.tape, h.output, h.size, fun i hi => h.block i (by omega) (hk i hi)⟩
theorem Kept.setCell {K : Nat → Prop} {a b : World} (h : Kept K a b) {p : Addr} (h1 : ¬ K p.block) (u : Value) : Kept K a (b.setCell p u) :=
  h.trans ⟨rfl, rfl, rfl, by simp [World.setCell], fun k _ hk => Below.heap_setCell _ _ _ _ (fun e => h1 (e ▸ hk))⟩
theorem Kept.alloc {K : Nat → Prop} {a b : World} (h : Kept K a b) (o : Obj) : Kept K a (b.alloc o) :=
  h.trans ⟨rfl, rfl, rfl, by simp, fun k hk _ => Below.heap_alloc _ _ _ hk⟩
theorem Kept.grown {K : Nat → Prop} {a b c : World} (h : Kept K a b) {ob : Option Nat} (hg : b.grownBy c ob) (hk : ∀ k, K k → k < a.heap.size → some k ≠ ob) : Kept K a c :=
  ⟨hg.os.trans h.os, hg.tape.trans h.tape, hg.output.trans h.output, Nat.le_trans h.size hg.size, fun k hk' hK => (hg.block k (Nat.lt_of_lt_of_le hk' h.size) (hk k hK hk')).trans (h.block k hk' hK)⟩
theorem Kept.putObj {K : Nat → Prop} {W : World} {l : Nat} (o : Obj) (h1 : ¬ K l) : Kept K W (W.putObj l o) :=
  ⟨rfl, rfl, rfl, (grownBy_putObj' W l o).size, fun k hk hc => (grownBy_putObj' W l o).block k hk (fun e => by cases e; exact h1 hc)⟩
theorem Kept.cell {K : Nat → Prop} {a b : World} (h : Kept K a b) {g o : Nat} {v : Value} (hK : K g) (hc : a.cell? ⟨g, o, none⟩ = some v) : b.cell? ⟨g, o, none⟩ = some v :=
  (World.cell?_of_block (w := a) (a := ⟨g, o, none⟩) (h.block g (World.block_lt_of_cell? a _ hc) hK)).trans hc

/-- what abides whatever the iterator does with the blocks that are its own -/
def Bide {β : Type} (I : β → (Nat → Prop) → World → Prop) : Prop :=
  ∀ s T T' W W', I s T W → Kept (fun k => ¬ T k) W W' → (∀ k, T' k → T k ∨ W.heap.size ≤ k) → I s T' W'

/-- an iterator that tells traces of which G holds, until it is left: what it keeps lies in blocks T, what it hands out lies from B on -/
def TellsX {α : Type} (F : Fence) (n : Nat) (P : Program) (g : Nat) (lb : Array Value) (N : Nat → Prop) (Enc : Nat → (Nat → Prop) → World → α → Array Value → Prop) (G : List α → Prop) (End : List α → Prop) (w : World) : Prop :=
  ∀ (l : Nat) (J Jx : List α → (Nat → Prop) → World → Prop) (W : World), Below w.heap.size w W → Bide J → (∀ tr T W, J tr T W → ¬ End tr) →
    (∀ pre x T W1 args, J pre T W1 → (∀ k, T k → W.heap.size ≤ k ∧ k < W1.heap.size) → W.heap.size ≤ W1.heap.size → Enc W.heap.size T W1 x args → G (pre ++ [x]) → YieldAt F (n - 1) P l args W1 fun e W' =>
      (e = .returned (.bool true) ∧ J (pre ++ [x]) T W' ∧ Kept (fun k => T k ∨ N k) W1 W') ∨ (e = .returned (.bool false) ∧ Jx (pre ++ [x]) T W')) →
    J [] (fun _ => False) W →
    CallsIn F n P g (#[.func (.yield l) #[] #[]] ++ lb) W fun e W' => (∃ v, e = .returned v) ∧ (∃ pre T, G pre ∧ Jx pre T W')

/-- how a round may be left -/
def roundEndX {α : Type} (N : Nat → Prop) (T : Nat → Prop) (I : List α → (Nat → Prop) → World → Prop) (Ix : Code → List α → (Nat → Prop) → World → Prop) (xs : List α) (W : World) : Exit → Act → World → Prop
  | .normal, _, W' => Kept (fun k => T k ∨ N k) W W' ∧ I xs T W'
  | .ret, _, W' => Kept (fun k => T k ∨ N k) W W' ∧ Ix .ret xs T W'
  | .exit id, _, W' => Kept (fun k => T k ∨ N k) W W' ∧ Ix (.exit id) xs T W'
  | .goto t, _, W' => Kept (fun k => T k ∨ N k) W W' ∧ Ix (.goto t) xs T W'
  | .panic _, _, _ => False
  | .outgrown, _, _ => False

variable {F : Fence} {n : Nat} {P : Program}

theorem wpIn_rangeX {α : Type} {g : Operand} {ps : Array Tmp} {assign body : Code} {Q : Exit → Act → World → Prop} {a : Act} {w : World}
    (hro : F.round = none) (h1 : 1 ≤ n) {gf : Nat} {lb : Array Value} (hg : a.eval g = .func (.func gf) #[] lb) (hFg : F.fn gf) (eg : ∀ args w, (callFunc gf args).run P w = .ok (.enter gf args) w)
    {Enc : Nat → (Nat → Prop) → World → α → Array Value → Prop} {N : Nat → Prop} {G End : List α → Prop} {w0 : World} (hseq : TellsX F (n - 1) P gf lb N Enc G End w0) (hN : ∀ k, N k → k < w.heap.size) (hb0 : Below w0.heap.size w0 w)
    (hps : ∀ B T W x args, Enc B T W x args → args.size = ps.size)
    (hEnc : ∀ T T' W W' x args, Enc (w.heap.size + 2) T W x args → (∀ k, T' k → T k ∨ k = w.heap.size ∨ k = w.heap.size + 1) → Kept (fun k => k ≠ w.heap.size + 1) W W' → Enc (w.heap.size + 2) T' W' x args)
    (I : List α → (Nat → Prop) → World → Prop) (Ix : Code → List α → (Nat → Prop) → World → Prop) (hI : Bide I)
    (hIx : ∀ c s T W o, Ix c s T W → w.heap.size + 1 < W.heap.size → Ix c s T (W.putObj (w.heap.size + 1) o)) (h0 : I [] (fun _ => False) w) (hnd : ∀ tr T W, I tr T W → ¬ End tr) (Ax : Array Value → Act → World → Prop)
    (hAx : ∀ args a' W o, Ax args a' W → w.heap.size + 1 < W.heap.size → Ax args a' (W.putObj (w.heap.size + 1) o))
    (hassign : ∀ (l : Nat) (x : α) (T : Nat → Prop) (args : Array Value) (W : World) (K : Act → World → Prop), Enc (w.heap.size + 2) T W x args → w.heap.size + 1 < W.heap.size → (∀ a' W', Below W.heap.size W W' → Ax args a' W' → K a' W') →
      assign.wpIn (F.inRound l) (n - 1 - 1) P (Exit.then K (fun _ _ _ => False)) { tmps := (ps.zip args).foldl (fun t (p, v) => t.setIfInBounds p v) a.tmps, defers := [] } W)
    (hbody : ∀ (l : Nat) (pre : List α) (x : α) (T : Nat → Prop) (args : Array Value) (a' : Act) (W : World), I pre T W → Enc (w.heap.size + 2) T W x args → Ax args a' W → G (pre ++ [x]) → (∀ k, T k → w.heap.size ≤ k ∧ k < W.heap.size) → w.heap.size + 1 < W.heap.size →
      T (w.heap.size + 1) → body.wpIn (F.inRound l) (n - 1 - 1) P (roundEndX N T I Ix (pre ++ [x]) W) a' W)
    (hstop : ∀ (D : Nat) (c : Code) (pre : List α) (T : Nat → Prop) (W : World), w.heap.size ≤ D → G pre → Ix c pre T W → W.heap[D]? = some (.deferred (some [])) → T D → c.wpIn F n P Q { a with defers := { target := .collected D, args := #[] } :: a.defers } W) :
    (Code.rangeFunc g ps assign body).wpIn F n P Q a w := by
  refine wpIn_rangeFunc ?_
  intro fn hfn
  rw [hro]
  obtain ⟨rec, hrec⟩ : ∃ rec : LoopState → Option Code → Loop, rec = fun st pe => { state := st, pending := pe, fn, tmps := a.tmps, params := ps, assign, body, defers := w.heap.size } := ⟨_, rfl⟩
  obtain ⟨W1, hW1⟩ : ∃ W1, (w.alloc (.deferred (some []))).alloc (.loop (rec .ready none)) = W1 := ⟨_, rfl⟩
  have hL1 : W1.heap[w.heap.size + 1]? = some (.loop (rec .ready none)) := by
    rw [← hW1]; have := World.alloc_heap_new (w.alloc (.deferred (some []))) (.loop (rec .ready none)); rwa [World.size_alloc] at this
  have hK1 : W1.heap[w.heap.size]? = some (.deferred (some [])) := by
    rw [← hW1]; exact (Below.heap_alloc _ _ _ (by simp)).trans (World.alloc_heap_new w _)
  have hz1 : W1.heap.size = w.heap.size + 2 := by rw [← hW1]; simp
  have hbw : Below w.heap.size w W1 := by rw [← hW1]; exact ((Below.refl _ w).alloc (Nat.le_refl _) _).alloc (by simp) _
  obtain ⟨plus, hplus⟩ : ∃ plus : (Nat → Prop) → Nat → Prop, plus = fun T k => T k ∨ k = w.heap.size ∨ k = w.heap.size + 1 := ⟨_, rfl⟩
  have hpl : ∀ T k, plus T k ↔ (T k ∨ k = w.heap.size ∨ k = w.heap.size + 1) := fun T k => by rw [hplus]
  have hI1 : I [] (plus (fun _ => False)) W1 := hI _ _ _ _ _ h0 (Kept.of_below' hbw) (fun k hk => by rcases (hpl _ k).1 hk with h | h | h; exact h.elim; exact .inr (by omega); exact .inr (by omega))
  have hb1 : Below w0.heap.size w0 W1 := hb0.trans (hbw.mono hb0.size)
  have step : ∀ (s : List α) (T : Nat → Prop) (W : World) (o : Obj), I s (plus T) W → I s (plus T) (W.putObj (w.heap.size + 1) o) := fun s T W o h =>
    hI _ _ _ _ _ h (Kept.putObj o (fun h' => h' ((hpl _ _).2 (.inr (.inr rfl))))) (fun k hk => .inl hk)
  refine ⟨w.heap.size + 1, [{ target := .collected w.heap.size, args := #[] }], W1, { target := .fn (.func gf) lb, args := #[.func (.yield (w.heap.size + 1)) #[] #[]] }, W1, gf,
    #[.func (.yield (w.heap.size + 1)) #[] #[]] ++ lb, W1, ?_, ?_, ?_, ?_, fun _ => h1, ?_⟩
  · rw [← hW1, hrec]; exact run_enterLoop_outer _ _ _ _ _
  · simp only [resolve, hg]
    simp [go_sem]
  · intro f' hf'; simp [Target.leads] at hf'; subst hf'; exact hFg
  · simp [invoke, go_sem, eg]
  · refine (hseq (w.heap.size + 1)
      (fun pre T W => I pre (plus T) W ∧ (W.heap[w.heap.size + 1]? = some (.loop (rec .ready none)) ∧ W.heap[w.heap.size]? = some (.deferred (some []))) ∧ ¬ T (w.heap.size + 1) ∧ ¬ T w.heap.size)
      (fun pre T W => ∃ c, Ix c pre (plus T) W ∧ W.heap[w.heap.size + 1]? = some (.loop (rec .done (some c))) ∧ W.heap[w.heap.size]? = some (.deferred (some [])))
      W1 hb1
      (fun s T T' A B hs hk hT => by
        obtain ⟨hi, ⟨hl, hd⟩, n1, n2⟩ := hs
        have hlt : w.heap.size + 1 < A.heap.size := (Array.getElem?_eq_some_iff.1 hl).1
        refine ⟨hI _ _ _ _ _ hi (hk.mono fun k _ h h' => h ((hpl _ _).2 (.inl h'))) (fun k h => ?_), ⟨(hk.block _ hlt n1).trans hl, (hk.block _ (by omega) n2).trans hd⟩, fun h => ?_, fun h => ?_⟩
        · rcases (hpl _ k).1 h with h | h
          · rcases hT k h with h | h
            · exact .inl ((hpl _ _).2 (.inl h))
            · exact .inr h
          · exact .inl ((hpl _ _).2 (.inr h))
        · rcases hT _ h with h | h
          · exact n1 h
          · omega
        · rcases hT _ h with h | h
          · exact n2 h
          · omega)
      (fun tr T W h => hnd _ _ _ h.1)
      ?_ ⟨hI1, ⟨hL1, hK1⟩, fun h => h, fun h => h⟩).mono ?_
    · -- one round
      rintro pre x T W args ⟨hi, ⟨hl, hk⟩, n1, n2⟩ hTk hsz henc hpx
      have hlt : w.heap.size + 1 < W.heap.size := (Array.getElem?_eq_some_iff.1 hl).1
      have hy := run_yield (P := P) (args := args) hl (by rw [hrec]; exact hps _ _ _ _ _ henc)
      rw [hrec] at hy
      refine ⟨fn, _, assign, body, hy, roundIn_of_wpIn hfn (hassign _ x T args W _ (by rw [hz1] at henc; exact henc) hlt ?_)⟩
      clear hy
      intro a' Wa hba hax
      have hla := (hba.block _ hlt).trans hl
      have hka := (hba.block _ (by omega)).trans hk
      have hlta : w.heap.size + 1 < Wa.heap.size := (Array.getElem?_eq_some_iff.1 hla).1
      have hia : I pre (plus T) Wa := hI _ _ _ _ _ hi (Kept.of_below' hba) (fun k h => .inl h)
      refine ⟨_, run_beginRound hla (by rw [hrec]), ?_⟩
      obtain ⟨W2, hW2⟩ : ∃ W2, Wa.putObj (w.heap.size + 1) (.loop { rec .ready none with state := .busy }) = W2 := ⟨_, rfl⟩
      have hl2 : W2.heap[w.heap.size + 1]? = some (.loop { rec .ready none with state := .busy }) := by rw [← hW2]; exact World.putObj_heap_same hlta
      have hk2 : W2.heap[w.heap.size]? = some (.deferred (some [])) := by rw [← hW2]; exact (World.putObj_heap_other (by omega)).trans hka
      have hlt2 : w.heap.size + 1 < W2.heap.size := (Array.getElem?_eq_some_iff.1 hl2).1
      have hi2 : I pre (plus T) W2 := by rw [← hW2]; exact step _ _ _ _ hia
      have hkp2 : Kept (fun k => T k ∨ N k) W W2 := by
        refine (Kept.of_below' hba).trans ?_
        rw [← hW2]; exact Kept.putObj _ (fun h => by rcases h with h | h; exact n1 h; have := hN _ h; omega)
      have hkp3 : Kept (fun k => k ≠ w.heap.size + 1) W W2 := by
        refine (Kept.of_below' hba).trans ?_
        rw [← hW2]; exact Kept.putObj _ (fun h => h rfl)
      have hen2 : Enc (w.heap.size + 2) (plus T) W2 x args := hEnc _ _ _ _ _ _ (by rw [hz1] at henc; exact henc) (fun k h => (hpl _ _).1 h) hkp3
      have hax2 : Ax args a' W2 := by rw [← hW2]; exact hAx _ _ _ _ hax hlta
      have hs2 : W.heap.size ≤ W2.heap.size := hkp2.size
      rw [hW2]
      refine wpIn_mono (hbody _ pre x (plus T) args a' _ hi2 hen2 hax2 hpx (fun k h => by
        rcases (hpl _ k).1 h with h | h | h
        · have := hTk k h; omega
        · omega
        · omega) hlt2 ((hpl _ _).2 (.inr (.inr rfl)))) ?_
      have fin : ∀ (jump : Option Code) (W3 : World), Kept (fun k => plus T k ∨ N k) W2 W3 →
          (Instr.endRound (w.heap.size + 1) jump).run P W3 = .ok (.bool jump.isNone) (W3.putObj (w.heap.size + 1) (.loop (rec (if jump.isNone then .ready else .done) jump))) ∧
          w.heap.size + 1 < W3.heap.size ∧
          (W3.putObj (w.heap.size + 1) (.loop (rec (if jump.isNone then .ready else .done) jump))).heap[w.heap.size + 1]? = some (.loop (rec (if jump.isNone then .ready else .done) jump)) ∧
          (W3.putObj (w.heap.size + 1) (.loop (rec (if jump.isNone then .ready else .done) jump))).heap[w.heap.size]? = some (.deferred (some [])) := fun jump W3 hk3 => by
        have hl3 := (hk3.block _ hlt2 (.inl ((hpl _ _).2 (.inr (.inr rfl))))).trans hl2
        have := run_endRound (P := P) jump hl3
        rw [hrec] at this ⊢
        exact ⟨this, (Array.getElem?_eq_some_iff.1 hl3).1, World.putObj_heap_same (Array.getElem?_eq_some_iff.1 hl3).1, (World.putObj_heap_other (by omega)).trans ((hk3.block _ (by omega) (.inl ((hpl _ _).2 (.inr (.inl rfl))))).trans hk2)⟩
      rintro e a3 W3 hp
      cases e with
      | normal =>
        obtain ⟨hk3, hi3⟩ := hp
        obtain ⟨hr, hl3, hl4, hk4⟩ := fin none W3 hk3
        refine ⟨_, _, hr, .inl ⟨rfl, ⟨step _ _ _ _ hi3, ⟨hl4, hk4⟩, n1, n2⟩, ?_⟩⟩
        exact (hkp2.trans (hk3.mono (fun k _ h => h.imp (fun h => (hpl _ _).2 (.inl h)) id))).trans (Kept.putObj _ (fun h => by rcases h with h | h; exact n1 h; have := hN _ h; omega))
      | ret =>
        obtain ⟨hk3, hi3⟩ := hp
        obtain ⟨hr, hl3, hl4, hk4⟩ := fin (some .ret) W3 hk3
        exact ⟨_, _, hr, .inr ⟨rfl, .ret, hIx _ _ _ _ _ hi3 hl3, hl4, hk4⟩⟩
      | exit id =>
        obtain ⟨hk3, hi3⟩ := hp
        obtain ⟨hr, hl3, hl4, hk4⟩ := fin (some (.exit id)) W3 hk3
        exact ⟨_, _, hr, .inr ⟨rfl, .exit id, hIx _ _ _ _ _ hi3 hl3, hl4, hk4⟩⟩
      | goto t =>
        obtain ⟨hk3, hi3⟩ := hp
        obtain ⟨hr, hl3, hl4, hk4⟩ := fin (some (.goto t)) W3 hk3
        exact ⟨_, _, hr, .inr ⟨rfl, .goto t, hIx _ _ _ _ _ hi3 hl3, hl4, hk4⟩⟩
      | panic ch => exact hp.elim
      | outgrown => exact hp.elim
    · -- behind the iterator
      rintro e W2 ⟨⟨v, rfl⟩, pre, T, hSp, c, hi, hl, hk⟩
      exact ⟨some c, _, by have := run_endLoop (P := P) hl (by rw [hrec]; simp); rw [hrec] at this; exact this, hstop _ c pre (plus T) _ (Nat.le_refl _) hSp (hIx _ _ _ _ _ hi (Array.getElem?_eq_some_iff.1 hl).1) ((World.putObj_heap_other (by omega)).trans hk) ((hpl _ _).2 (.inr (.inl rfl)))⟩
end Go.Proofs.YtdniddiaiinggaaDoor
/- A function with a label, inside a fence: a scope through which the run goes without a goto. -/
set_option linter.unusedVariables false
namespace Go.Proofs.YtdniddiaiinggaaDoor
open Go
variable {F : Fence} {n : Nat} {P : Program} {Q : Exit → Act → World → Prop} {a : Act} {w : World}

theorem stepR_scope {b : Frame} {k : List Item} {cs : List Frame} {c : Code} : step P (lone (b.atR a (.code (.scope c) :: k)) cs w) = .next (lone (b.atR a (.code c :: .inScope c :: k)) cs w) :=
  step_lone_go (by simp [stepG, stepG.exec, Frame.atR])
theorem stepR_inScope {b : Frame} {k : List Item} {cs : List Frame} {c : Code} : step P (lone (b.atR a (.inScope c :: k)) cs w) = .next (lone (b.atR a k) cs w) :=
  step_lone_go (by simp [stepG, stepG.exec, Frame.atR])

theorem wpIn_scope {c : Code} (h : c.wpIn F n P (Exit.noGoto Q) a w) : (Code.scope c).wpIn F n P Q a w := by
  intro b k cs hro hb hr
  have h0 : (lone (b.atR a (.code (.scope c) :: k)) cs w).fenced P F := fenced_calm hb hr rfl
  obtain ⟨e, a₁, w₁, hq, harr⟩ := h b (.inScope c :: k) cs hro hb hr
  cases e with
  | normal => exact ⟨.normal, a₁, w₁, hq, .head h0 stepR_scope (StepsIn.trans harr (.one (fenced_calm hb hr rfl) stepR_inScope))⟩
  | exit id => exact ⟨.exit id, a₁, w₁, hq, fun k' hk => .head h0 stepR_scope (harr.1 k' (by simp [exitTo, hk])), fun hr' hk => let ⟨k₁, h1, h2⟩ := harr.2 hr' (by simp [exitTo, hk]); ⟨k₁, h1, .head h0 stepR_scope h2⟩⟩
  | goto l => exact hq.elim
  | ret => exact ⟨_, a₁, w₁, hq, .of_steps (.one h0 stepR_scope) harr⟩
  | panic ch => exact ⟨_, a₁, w₁, hq, .of_steps (.one h0 stepR_scope) harr⟩
  | outgrown => exact ⟨_, a₁, w₁, hq, .of_steps (.one h0 stepR_scope) harr⟩
end Go.Proofs.YtdniddiaiinggaaDoor
/- A region that draws its order, in a round of a range over a function: by the law for regions outside of rounds. -/
set_option linter.unusedVariables false
namespace Go.Proofs.YtdniddiaiinggaaDoor
open Go
variable {P : Program} {ops : Array Oper} {Q : Exit → Act → World → Prop} {md : Region.Mode} {S : World → Prop}

/-- it ends as it should, and in no other way -/
def Norm (Q : Exit → Act → World → Prop) : Exit → Act → World → Prop
  | .normal, a, w => Q .normal a w
  | _, _, _ => False
def noDefer (ops : Array Oper) : Bool := ops.all fun o => match o.op with | .defer _ => false | _ => true
theorem noDefer_at {i : Nat} {o : Oper} (h : noDefer ops = true) (ho : ops[i]? = some o) : ∀ c, o.op ≠ .defer c := fun c hc => by
  obtain ⟨hi, he⟩ := Array.getElem?_eq_some_iff.1 ho
  have := (Array.all_eq_true.1 h) i hi
  rw [he, hc] at this
  cases this

theorem oper_round {l n : Nat} {o : Oper} {a : Act} {w : World} {K K' : Act → World → Prop} (hd : ∀ c, o.op ≠ .defer c) (hK : ∀ a w, K a w → K' a w) (h : o.wp P a w K (Norm Q)) : o.wpIn (Fence.wide.inRound l) n P a w K' Q := by
  unfold Oper.wp at h
  refine ⟨fun _ _ => trivial, ?_⟩
  rw [Oper.semAt_eq _ _ _ hd]
  generalize (execOp a.eval o).run P w = r at *
  cases r with
  | ok x w' =>
    cases x with
    | value v => exact hK _ _ h
    | skip => exact hK _ _ h
    | defer d => exact hK _ _ h
    | enter f args =>
      refine ⟨fun h => (by cases h), ?_⟩
      have h2 : CallsIn (Fence.wide.inRound l) (n - 1) P f args w' _ := (callsIn_wide (n := n - 1)).2 h
      refine CallsIn.mono h2 fun e w'' he => ?_
      cases e with
      | returned u => exact hK _ _ he
      | panicked c => exact False.elim he
      | outgrown => obtain ⟨a, w, h⟩ := he; exact False.elim h
    | row row args =>
      refine ⟨fun h => (by cases h), fun c cs _ => ?_⟩
      obtain ⟨v, w2, hv, hs⟩ := h c cs
      exact ⟨v, w2, hK _ _ hv, stepsIn_wide.2 hs⟩
    | _ => exact False.elim h
  | halt x w' => cases x <;> exact False.elim h

theorem any_round {l n : Nat} (hd : noDefer ops = true) : ∀ (fuel : Nat) (listed : Array Bool) (a : Act) (w : World), wpAny P md ops (Norm Q) fuel listed a w → wpAnyIn (Fence.wide.inRound l) n P md ops Q fuel listed a w
  | 0, _, _, _, h => h
  | fuel + 1, listed, a, w, h => by
    refine ⟨h.1, fun i hi => ?_⟩
    have h2 := h.2 i hi
    unfold wpOp at h2
    unfold wpOpIn
    cases ho : ops[i]? with
    | none => rw [ho] at h2; exact any_round hd fuel _ _ _ h2
    | some o =>
      rw [ho] at h2
      dsimp only at h2 ⊢
      split
      · rename_i hw
        rw [if_pos hw] at h2
        rcases h2 with h2 | ⟨_, a1, w1, h3⟩
        · exact oper_round (noDefer_at hd ho) (fun a w h => any_round hd fuel _ a w h) h2
        · exact False.elim h3
      · rename_i hw
        rw [if_neg hw] at h2
        exact ⟨fun _ _ => trivial, any_round hd fuel _ _ _ h2⟩

/-- the region in a round: S is shown of the world behind the draw, once, and handed on -/
theorem wpIn_region_held {l n id : Nat} {a : Act} {w : World} (hm : P.follows .mixedOrders = true) (hd : noDefer ops = true) (hS : S w.drew)
    (h : S w.drew → wpAnyH P .any ops (Norm Q) S ops.size (Array.replicate ops.size false) a w.drew) : (Code.region id ops true).wpIn (Fence.wide.inRound l) n P Q a w :=
  wpIn_region_any hm (any_round hd _ _ _ _ (wpAny_of_held _ _ _ _ (h hS)))
/-- append as one step, whose outcome is known -/
theorem wp_append_run {o : Oper} {a : Act} {w : World} {K : Act → World → Prop} {s y : Operand} {t : TypeId} {v x v' : Value} {w' : World} (ho : o.op = .call { callee := .builtin .append, args := #[s, y], argTypes := #[t, t] })
    (hs : a.eval s = v) (hx : a.eval y = x) (hr : (Builtin.append_ #[t, t] o.type #[v, x]).run P w = .ok v' w') (h : K (a.put o.dst v') w') : o.wp P a w K Q := by
  unfold Oper.wp execOp
  simp only [ho, resolve, invoke, builtin, Sem.run_bind, Sem.run_pure, Result.andThen_ok, List.map_toArray, List.map_cons, List.map_nil, hs, hx, hr]
  exact h
end Go.Proofs.YtdniddiaiinggaaDoor
