/- A range over a function whose iterator keeps memory of its own and hands it out; the body keeps its own too: each leaves the other's alone. -/
import Derived.Test.YtkojhgagkoeeiaaLaw
set_option linter.unusedVariables false
namespace Go.Proofs.Ytkojhgagkoeeiaa
open Go Go.RowKit

/-- the blocks that K names are as they were -/
structure Kept (K : Nat → Prop) (w w' : World) : Prop where
  os : w'.os = w.os
  tape : w'.tape = w.tape
  output : w'.output = w.output
  size : w.heap.size ≤ w'.heap.size
  block : ∀ k, k < w.heap.size → K k → w'.heap[k]? = w.heap[k]?
theorem Kept.refl (K : Nat → Prop) (w : World) : Kept K w w := ⟨rfl, rfl, rfl, Nat.le_refl _, fun _ _ _ => rfl⟩
theorem Kept.trans {K : Nat → Prop} {a b c : World} (h : Kept K a b) (k : Kept K b c) : Kept K a c :=
  ⟨k.os.trans h.os, k.tape.trans h.tape, k.output.trans h.output, Nat.le_trans h.size k.size, fun i hi hc => (k.block i (Nat.lt_of_lt_of_le hi h.size) hc).trans (h.block i hi hc)⟩
theorem Kept.mono {K K' : Nat → Prop} {a b : World} (h : Kept K a b) (hk : ∀ k, k < a.heap.size → K' k → K k) : Kept K' a b :=
  ⟨h.os, h.tape, h.output, h.size, fun i hi hc => h.block i hi (hk i hi hc)⟩
theorem Kept.of_below {K : Nat → Prop} {n : Nat} {a b : World} (h : Below n a b) (hk : ∀ k, k < a.heap.size → K k → k < n) : Kept K a b := ⟨h.os, h.tape, h.output, h.size, fun i hi hc => h.block i (hk i hi hc)⟩
theorem Kept.of_below' {K : Nat → Prop} {a b : World} (h : Below a.heap.size a b) : Kept K a b := Kept.of_below h (fun _ hk _ => hk)
theorem Kept.below {K : Nat → Prop} {n : Nat} {a b : World} (h : Kept K a b) (hn : n ≤ a.heap.size) (hk : ∀ k, k < n → K k) : Below n a b := ⟨h.os, h.tape, h.output, h.size, fun i hi => h.block i (by omega) (hk i hi)⟩
theorem Kept.setCell {K : Nat → Prop} {a b : World} (h : Kept K a b) {p : Addr} (h1 : ¬ K p.block) (u : Value) : Kept K a (b.setCell p u) :=
  h.trans ⟨rfl, rfl, rfl, by simp [World.setCell], fun k _ hk => Below.heap_setCell _ _ _ _ (fun e => h1 (e ▸ hk))⟩
theorem Kept.alloc {K : Nat → Prop} {a b : World} (h : Kept K a b) (o : Obj) : Kept K a (b.alloc o) :=
  h.trans ⟨rfl, rfl, rfl, by simp, fun k hk _ => Below.heap_alloc _ _ _ hk⟩
theorem Kept.grown {K : Nat → Prop} {a b c : World} (h : Kept K a b) {ob : Option Nat} (hg : b.grownBy c ob) (hk : ∀ k, K k → k < a.heap.size → some k ≠ ob) : Kept K a c :=
  ⟨hg.os.trans h.os, hg.tape.trans h.tape, hg.output.trans h.output, Nat.le_trans h.size hg.size, fun k hk' hK => (hg.block k (Nat.lt_of_lt_of_le hk' h.size) (hk k hK hk')).trans (h.block k hk' hK)⟩
theorem Kept.putObj {K : Nat → Prop} {W : World} {l : Nat} (o : Obj) (h1 : ¬ K l) : Kept K W (W.putObj l o) :=
  ⟨rfl, rfl, rfl, (grownBy_putObj' W l o).size, fun k hk hc => (grownBy_putObj' W l o).block k hk (fun e => by cases e; exact h1 hc)⟩
theorem Kept.cell {K : Nat → Prop} {a b : World} (h : Kept K a b) {g o : Nat} {v : Value} (hK : K g) (hc : a.cell? ⟨g, o, none⟩ = some v) : b.cell? ⟨g, o, none⟩ = some v :=
  (World.cell?_of_block (w := a) (a := ⟨g, o, none⟩) (h.block g (World.block_lt_of_cell? a _ hc) hK)).trans hc

/-- what abides whatever the iterator does with the blocks that are its own -/
def Bide {β : Type} (I : β → (Nat → Prop) → World → Prop) : Prop :=
  ∀ s T T' W W', I s T W → Kept (fun k => ¬ T k) W W' → (∀ k, T' k → T k ∨ W.heap.size ≤ k) → I s T' W'

/-- an iterator that tells xs: what it hands out lies in blocks of its own -/
def Tells {α : Type} (F : Fence) (n : Nat) (P : Program) (g : Nat) (lb : Array Value) (n₀ : Nat) (Enc : (Nat → Prop) → World → α → Array Value → Prop) (xs : List α) (w : World) : Prop :=
  ∀ (l : Nat) (J Jx : List α → (Nat → Prop) → World → Prop) (W : World), Below w.heap.size w W → Bide J →
    (∀ pre x T W1 args, J pre T W1 → (∀ k, T k → W.heap.size ≤ k ∧ k < W1.heap.size) → W.heap.size ≤ W1.heap.size → Enc T W1 x args → pre ++ [x] <+: xs → YieldAt F (n - 1) P l args W1 fun e W' =>
      (e = .returned (.bool true) ∧ J (pre ++ [x]) T W' ∧ Kept (fun k => T k ∨ k < n₀) W1 W') ∨ (e = .returned (.bool false) ∧ Jx (pre ++ [x]) T W')) →
    J [] (fun _ => False) W →
    CallsIn F n P g (#[.func (.yield l) #[] #[]] ++ lb) W fun e W' => (∃ v, e = .returned v) ∧ ((∃ T, J xs T W') ∨ (∃ pre T, pre <+: xs ∧ Jx pre T W'))

/-- how a round may be left -/
def roundEnd {α : Type} (n₀ : Nat) (T : Nat → Prop) (I : List α → (Nat → Prop) → World → Prop) (Ix : Code → List α → (Nat → Prop) → World → Prop) (xs : List α) (W : World) : Exit → Act → World → Prop
  | .normal, _, W' => Kept (fun k => T k ∨ k < n₀) W W' ∧ I xs T W'
  | .ret, _, W' => Kept (fun k => T k ∨ k < n₀) W W' ∧ Ix .ret xs T W'
  | .exit id, _, W' => Kept (fun k => T k ∨ k < n₀) W W' ∧ Ix (.exit id) xs T W'
  | .goto t, _, W' => Kept (fun k => T k ∨ k < n₀) W W' ∧ Ix (.goto t) xs T W'
  | .panic _, _, _ => False
  | .outgrown, _, _ => False

variable {F : Fence} {n : Nat} {P : Program}

theorem wpIn_range2 {α : Type} {g : Operand} {ps : Array Tmp} {assign body : Code} {Q : Exit → Act → World → Prop} {a : Act} {w : World}
    (hro : F.round = none) (h1 : 1 ≤ n) {gf : Nat} {lb : Array Value} (hg : a.eval g = .func (.func gf) #[] lb) (hFg : F.fn gf) (eg : ∀ args w, (callFunc gf args).run P w = .ok (.enter gf args) w)
    {Enc : (Nat → Prop) → World → α → Array Value → Prop} {n₀ : Nat} {xs : List α} {w0 : World} (hseq : Tells F (n - 1) P gf lb n₀ Enc xs w0) (hn₀ : n₀ ≤ w.heap.size) (hb0 : Below w0.heap.size w0 w)
    (hps : ∀ T W x args, Enc T W x args → args.size = ps.size)
    (hEnc : ∀ T T' W W' x args, Enc T W x args → (∀ k, T k → T' k) → Kept (fun k => T k ∨ k < n₀) W W' → Enc T' W' x args)
    (I : List α → (Nat → Prop) → World → Prop) (Ix : Code → List α → (Nat → Prop) → World → Prop) (hI : Bide I)
    (hIx : ∀ c s T W o, Ix c s T W → w.heap.size + 1 < W.heap.size → Ix c s T (W.putObj (w.heap.size + 1) o)) (h0 : I [] (fun _ => False) w) (Ax : Array Value → Act → Prop)
    (hassign : ∀ (l : Nat) (x : α) (T : Nat → Prop) (args : Array Value) (W : World) (K : Act → World → Prop), Enc T W x args → (∀ a' W', Below W.heap.size W W' → Ax args a' → K a' W') →
      assign.wpIn (F.inRound l) (n - 1 - 1) P (Exit.then K (fun _ _ _ => False)) { tmps := (ps.zip args).foldl (fun t (p, v) => t.setIfInBounds p v) a.tmps, defers := [] } W)
    (hbody : ∀ (l : Nat) (pre : List α) (x : α) (T : Nat → Prop) (args : Array Value) (a' : Act) (W : World), I pre T W → Enc T W x args → Ax args a' → pre ++ [x] <+: xs → (∀ k, T k → w.heap.size ≤ k ∧ k < W.heap.size) → w.heap.size + 1 < W.heap.size →
      T (w.heap.size + 1) → body.wpIn (F.inRound l) (n - 1 - 1) P (roundEnd n₀ T I Ix (pre ++ [x]) W) a' W)
    (hdone : ∀ (D : Nat) (T : Nat → Prop) (W : World), w.heap.size ≤ D → I xs T W → W.heap[D]? = some (.deferred (some [])) → T D → Q .normal { a with defers := { target := .collected D, args := #[] } :: a.defers } W)
    (hstop : ∀ (D : Nat) (c : Code) (pre : List α) (T : Nat → Prop) (W : World), w.heap.size ≤ D → pre <+: xs → Ix c pre T W → W.heap[D]? = some (.deferred (some [])) → T D → c.wpIn F n P Q { a with defers := { target := .collected D, args := #[] } :: a.defers } W) :
    (Code.rangeFunc g ps assign body).wpIn F n P Q a w := by
  refine wpIn_rangeFunc ?_
  intro fn hfn
  rw [hro]
  obtain ⟨rec, hrec⟩ : ∃ rec : LoopState → Option Code → Loop, rec = fun st pe => { state := st, pending := pe, fn, tmps := a.tmps, params := ps, assign, body, defers := w.heap.size } := ⟨_, rfl⟩
  obtain ⟨W1, hW1⟩ : ∃ W1, (w.alloc (.deferred (some []))).alloc (.loop (rec .ready none)) = W1 := ⟨_, rfl⟩
  have hL1 : W1.heap[w.heap.size + 1]? = some (.loop (rec .ready none)) := by
    rw [← hW1]; have := World.alloc_heap_new (w.alloc (.deferred (some []))) (.loop (rec .ready none)); rwa [World.size_alloc] at this
  have hK1 : W1.heap[w.heap.size]? = some (.deferred (some [])) := by
    rw [← hW1]; exact (Below.heap_alloc _ _ _ (by simp)).trans (World.alloc_heap_new w _)
  have hz1 : W1.heap.size = w.heap.size + 2 := by rw [← hW1]; simp
  have hbw : Below w.heap.size w W1 := by rw [← hW1]; exact ((Below.refl _ w).alloc (Nat.le_refl _) _).alloc (by simp) _
  obtain ⟨plus, hplus⟩ : ∃ plus : (Nat → Prop) → Nat → Prop, plus = fun T k => T k ∨ k = w.heap.size ∨ k = w.heap.size + 1 := ⟨_, rfl⟩
  have hpl : ∀ T k, plus T k ↔ (T k ∨ k = w.heap.size ∨ k = w.heap.size + 1) := fun T k => by rw [hplus]
  have hI1 : I [] (plus (fun _ => False)) W1 := hI _ _ _ _ _ h0 (Kept.of_below' hbw) (fun k hk => by rcases (hpl _ k).1 hk with h | h | h; exact h.elim; exact .inr (by omega); exact .inr (by omega))
  have hb1 : Below w0.heap.size w0 W1 := hb0.trans (hbw.mono hb0.size)
  have step : ∀ (s : List α) (T : Nat → Prop) (W : World) (o : Obj), I s (plus T) W → I s (plus T) (W.putObj (w.heap.size + 1) o) := fun s T W o h =>
    hI _ _ _ _ _ h (Kept.putObj o (fun h' => h' ((hpl _ _).2 (.inr (.inr rfl))))) (fun k hk => .inl hk)
  refine ⟨w.heap.size + 1, [{ target := .collected w.heap.size, args := #[] }], W1, { target := .fn (.func gf) lb, args := #[.func (.yield (w.heap.size + 1)) #[] #[]] }, W1, gf,
    #[.func (.yield (w.heap.size + 1)) #[] #[]] ++ lb, W1, ?_, ?_, ?_, ?_, fun _ => h1, ?_⟩
  · rw [← hW1, hrec]; exact run_enterLoop_outer _ _ _ _ _
  · simp only [resolve, hg]
    simp [go_sem]
  · intro f' hf'; simp [Target.leads] at hf'; subst hf'; exact hFg
  · simp [invoke, go_sem, eg]
  · refine (hseq (w.heap.size + 1)
      (fun pre T W => I pre (plus T) W ∧ (W.heap[w.heap.size + 1]? = some (.loop (rec .ready none)) ∧ W.heap[w.heap.size]? = some (.deferred (some []))) ∧ ¬ T (w.heap.size + 1) ∧ ¬ T w.heap.size)
      (fun pre T W => ∃ c, Ix c pre (plus T) W ∧ W.heap[w.heap.size + 1]? = some (.loop (rec .done (some c))) ∧ W.heap[w.heap.size]? = some (.deferred (some [])))
      W1 hb1
      (fun s T T' A B hs hk hT => by
        obtain ⟨hi, ⟨hl, hd⟩, n1, n2⟩ := hs
        have hlt : w.heap.size + 1 < A.heap.size := (Array.getElem?_eq_some_iff.1 hl).1
        refine ⟨hI _ _ _ _ _ hi (hk.mono fun k _ h h' => h ((hpl _ _).2 (.inl h'))) (fun k h => ?_), ⟨(hk.block _ hlt n1).trans hl, (hk.block _ (by omega) n2).trans hd⟩, fun h => ?_, fun h => ?_⟩
        · rcases (hpl _ k).1 h with h | h
          · rcases hT k h with h | h
            · exact .inl ((hpl _ _).2 (.inl h))
            · exact .inr h
          · exact .inl ((hpl _ _).2 (.inr h))
        · rcases hT _ h with h | h
          · exact n1 h
          · omega
        · rcases hT _ h with h | h
          · exact n2 h
          · omega)
      ?_ ⟨hI1, ⟨hL1, hK1⟩, fun h => h, fun h => h⟩).mono ?_
    · -- one round
      rintro pre x T W args ⟨hi, ⟨hl, hk⟩, n1, n2⟩ hTk hsz henc hpx
      have hlt : w.heap.size + 1 < W.heap.size := (Array.getElem?_eq_some_iff.1 hl).1
      have hy := run_yield (P := P) (args := args) hl (by rw [hrec]; exact hps _ _ _ _ henc)
      rw [hrec] at hy
      refine ⟨fn, _, assign, body, hy, roundIn_of_wpIn hfn (hassign _ x T args W _ henc ?_)⟩
      clear hy
      intro a' Wa hba hax
      have hla := (hba.block _ hlt).trans hl
      have hka := (hba.block _ (by omega)).trans hk
      have hlta : w.heap.size + 1 < Wa.heap.size := (Array.getElem?_eq_some_iff.1 hla).1
      have hia : I pre (plus T) Wa := hI _ _ _ _ _ hi (Kept.of_below' hba) (fun k h => .inl h)
      refine ⟨_, run_beginRound hla (by rw [hrec]), ?_⟩
      obtain ⟨W2, hW2⟩ : ∃ W2, Wa.putObj (w.heap.size + 1) (.loop { rec .ready none with state := .busy }) = W2 := ⟨_, rfl⟩
      have hl2 : W2.heap[w.heap.size + 1]? = some (.loop { rec .ready none with state := .busy }) := by rw [← hW2]; exact World.putObj_heap_same hlta
      have hk2 : W2.heap[w.heap.size]? = some (.deferred (some [])) := by rw [← hW2]; exact (World.putObj_heap_other (by omega)).trans hka
      have hlt2 : w.heap.size + 1 < W2.heap.size := (Array.getElem?_eq_some_iff.1 hl2).1
      have hi2 : I pre (plus T) W2 := by rw [← hW2]; exact step _ _ _ _ hia
      have hkp2 : Kept (fun k => T k ∨ k < n₀) W W2 := by
        refine (Kept.of_below' hba).trans ?_
        rw [← hW2]; exact Kept.putObj _ (fun h => by rcases h with h | h; exact n1 h; omega)
      have hen2 : Enc (plus T) W2 x args := hEnc _ _ _ _ _ _ henc (fun k h => (hpl _ _).2 (.inl h)) hkp2
      have hs2 : W.heap.size ≤ W2.heap.size := hkp2.size
      rw [hW2]
      refine wpIn_mono (hbody _ pre x (plus T) args a' _ hi2 hen2 hax hpx (fun k h => by
        rcases (hpl _ k).1 h with h | h | h
        · have := hTk k h; omega
        · omega
        · omega) hlt2 ((hpl _ _).2 (.inr (.inr rfl)))) ?_
      have fin : ∀ (jump : Option Code) (W3 : World), Kept (fun k => plus T k ∨ k < n₀) W2 W3 →
          (Instr.endRound (w.heap.size + 1) jump).run P W3 = .ok (.bool jump.isNone) (W3.putObj (w.heap.size + 1) (.loop (rec (if jump.isNone then .ready else .done) jump))) ∧
          w.heap.size + 1 < W3.heap.size ∧
          (W3.putObj (w.heap.size + 1) (.loop (rec (if jump.isNone then .ready else .done) jump))).heap[w.heap.size + 1]? = some (.loop (rec (if jump.isNone then .ready else .done) jump)) ∧
          (W3.putObj (w.heap.size + 1) (.loop (rec (if jump.isNone then .ready else .done) jump))).heap[w.heap.size]? = some (.deferred (some [])) := fun jump W3 hk3 => by
        have hl3 := (hk3.block _ hlt2 (.inl ((hpl _ _).2 (.inr (.inr rfl))))).trans hl2
        have := run_endRound (P := P) jump hl3
        rw [hrec] at this ⊢
        exact ⟨this, (Array.getElem?_eq_some_iff.1 hl3).1, World.putObj_heap_same (Array.getElem?_eq_some_iff.1 hl3).1, (World.putObj_heap_other (by omega)).trans ((hk3.block _ (by omega) (.inl ((hpl _ _).2 (.inr (.inl rfl))))).trans hk2)⟩
      rintro e a3 W3 hp
      cases e with
      | normal =>
        obtain ⟨hk3, hi3⟩ := hp
        obtain ⟨hr, hl3, hl4, hk4⟩ := fin none W3 hk3
        refine ⟨_, _, hr, .inl ⟨rfl, ⟨step _ _ _ _ hi3, ⟨hl4, hk4⟩, n1, n2⟩, ?_⟩⟩
        exact (hkp2.trans (hk3.mono (fun k _ h => h.imp (fun h => (hpl _ _).2 (.inl h)) id))).trans (Kept.putObj _ (fun h => by rcases h with h | h; exact n1 h; omega))
      | ret =>
        obtain ⟨hk3, hi3⟩ := hp
        obtain ⟨hr, hl3, hl4, hk4⟩ := fin (some .ret) W3 hk3
        exact ⟨_, _, hr, .inr ⟨rfl, .ret, hIx _ _ _ _ _ hi3 hl3, hl4, hk4⟩⟩
      | exit id =>
        obtain ⟨hk3, hi3⟩ := hp
        obtain ⟨hr, hl3, hl4, hk4⟩ := fin (some (.exit id)) W3 hk3
        exact ⟨_, _, hr, .inr ⟨rfl, .exit id, hIx _ _ _ _ _ hi3 hl3, hl4, hk4⟩⟩
      | goto t =>
        obtain ⟨hk3, hi3⟩ := hp
        obtain ⟨hr, hl3, hl4, hk4⟩ := fin (some (.goto t)) W3 hk3
        exact ⟨_, _, hr, .inr ⟨rfl, .goto t, hIx _ _ _ _ _ hi3 hl3, hl4, hk4⟩⟩
      | panic ch => exact hp.elim
      | outgrown => exact hp.elim
    · -- behind the iterator
      rintro e W2 ⟨⟨v, rfl⟩, (⟨T, hi, ⟨hl, hk⟩, n1, n2⟩ | ⟨pre, T, hSp, c, hi, hl, hk⟩)⟩
      · exact ⟨none, _, by have := run_endLoop (P := P) hl (by rw [hrec]; simp); rw [hrec] at this; exact this, hdone _ (plus T) _ (Nat.le_refl _) (step _ _ _ _ hi) ((World.putObj_heap_other (by omega)).trans hk) ((hpl _ _).2 (.inr (.inl rfl)))⟩
      · exact ⟨some c, _, by have := run_endLoop (P := P) hl (by rw [hrec]; simp); rw [hrec] at this; exact this, hstop _ c pre (plus T) _ (Nat.le_refl _) hSp (hIx _ _ _ _ _ hi (Array.getElem?_eq_some_iff.1 hl).1) ((World.putObj_heap_other (by omega)).trans hk) ((hpl _ _).2 (.inr (.inl rfl)))⟩

end Go.Proofs.Ytkojhgagkoeeiaa
