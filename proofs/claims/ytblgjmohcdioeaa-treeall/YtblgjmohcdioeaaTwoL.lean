/- A variable made, and stored into, as steps of a drawn region: the world behind each a letter. -/
import Derived.Test.YtblgjmohcdioeaaAllH
import Derived.Deep.RegionLaw
set_option linter.unusedVariables false
namespace Go.Proofs.Ytblgjmohcdioeaa
open Go.Deep (BT)
open Go.RowKit M

theorem wp_alloc_l {o : Oper} {a : Act} {K : Act → World → Prop} {Q : Exit → Act → World → Prop} (w : World) (ho : o.op = .alloc 25)
    (h : ∀ W', Below w.heap.size w W' → W'.heap.size = w.heap.size + 1 → Five W' w.heap.size (.int .i64 0) (.string ⟨#[]⟩) (.string ⟨#[]⟩) (.slice none 0 0) (.slice none 0 0) → K (a.put o.dst (.pointer (some ⟨w.heap.size, 0, none⟩))) W') : o.wp Try.prog a w K Q := by
  have h1 := h (w.alloc (.cells #[.int .i64 0, .string ⟨#[]⟩, .string ⟨#[]⟩, .slice none 0 0, .slice none 0 0] 25)) ((Below.refl _ w).alloc (Nat.le_refl _) _) (by simp) (Five.new w _ _ _ _ _ _)
  clear h
  unfold Oper.wp execOp
  simp only [ho]
  simp [go_sem, Instr.alloc]
  exact h1
theorem wp_store_l {o : Oper} {a : Act} {K : Act → World → Prop} {Q : Exit → Act → World → Prop} (w : World) (x y : Operand) (ho : o.op = .store 25 x y) (B : Nat) (u0 u1 u2 u3 u4 : Value) (kk : Int) (nn xx : ByteArray) (p1 q1 : Option Addr) (p2 p3 q2 q3 : Nat) (hx : a.eval x = .pointer (some ⟨B, 0, none⟩)) (hy : a.eval y = .agg #[.int .i64 kk, .string nn, .string xx, .slice p1 p2 p3, .slice q1 q2 q3]) (hf : Five w B u0 u1 u2 u3 u4)
    (h : ∀ W', Keep B (B + 1) w W' → Five W' B (.int .i64 kk) (.string nn) (.string xx) (.slice p1 p2 p3) (.slice q1 q2 q3) → K (a.put o.dst undef) W') : o.wp Try.prog a w K Q := by
  have h1 := h (((((w.setCell ⟨B, 0, none⟩ (.int .i64 kk)).setCell ⟨B, 1, none⟩ (.string nn)).setCell ⟨B, 2, none⟩ (.string xx)).setCell ⟨B, 3, none⟩ (.slice p1 p2 p3)).setCell ⟨B, 4, none⟩ (.slice q1 q2 q3)) ((((((Keep.refl B (B + 1) w).setCell (p := ⟨B, 0, none⟩) (Nat.le_refl _) (Nat.lt_succ_self _) _).setCell (p := ⟨B, 1, none⟩) (Nat.le_refl _) (Nat.lt_succ_self _) _).setCell (p := ⟨B, 2, none⟩) (Nat.le_refl _) (Nat.lt_succ_self _) _).setCell (p := ⟨B, 3, none⟩) (Nat.le_refl _) (Nat.lt_succ_self _) _).setCell (p := ⟨B, 4, none⟩) (Nat.le_refl _) (Nat.lt_succ_self _) _) (five_all hf _ _ _ _ _)
  obtain ⟨c0, c1, c2, c3, c4, fz⟩ := hf
  have f0 := fz 0
  have f1 := fz 1
  have f2 := fz 2
  have f3 := fz 3
  have f4 := fz 4
  clear h
  unfold Oper.wp execOp
  simp only [ho, hx, hy]
  simp [go_sem, Instr.storeAt, c0, c1, c2, c3, c4, f0, f1, f2, f3, f4]
  exact h1
theorem wp_alloc_at {o : Oper} {a : Act} {K : Act → World → Prop} {Q : Exit → Act → World → Prop} (w : World) (ho : o.op = .alloc 25) (q : Nat) (hq : o.dst = some q)
    (h : ∀ W', Below w.heap.size w W' → W'.heap.size = w.heap.size + 1 → Five W' w.heap.size (.int .i64 0) (.string ⟨#[]⟩) (.string ⟨#[]⟩) (.slice none 0 0) (.slice none 0 0) → K (a.put (some q) (.pointer (some ⟨w.heap.size, 0, none⟩))) W') : o.wp Try.prog a w K Q :=
  wp_alloc_l w ho (fun W' h1 h2 h3 => by rw [hq]; exact h W' h1 h2 h3)
/-- the boxes of the two copies -/
structure ZY (W : World) (Y : Nat) : Prop where
  f : Five W Y (.int .i64 0) (.string ⟨#[]⟩) (.string ⟨#[]⟩) (.slice none 0 0) (.slice none 0 0)
theorem ZY.below {W W' : World} {Y n : Nat} (h : ZY W Y) (hb : Below n W W') (hn : W.heap.size ≤ n) : ZY W' Y := ⟨h.f.same (hb.block _ (Nat.lt_of_lt_of_le h.f.lt hn))⟩
/-- a copy, in blocks from lo to hi -/
structure CY (lo hi : Nat) (d : Nd) (k : M.F) (W : World) (av kv : Value) : Prop where
  a : AS (fun b => lo ≤ b ∧ b < hi) W av d.ats
  f : FL (fun b => lo ≤ b ∧ b < hi) W kv k
  hi : hi ≤ W.heap.size
theorem CY.below {lo hi n : Nat} {d : Nd} {k : M.F} {W W' : World} {av kv : Value} (h : CY lo hi d k W av kv) (hb : Below n W W') (hn : W.heap.size ≤ n) : CY lo hi d k W' av kv :=
  have hl : Like (fun b => lo ≤ b ∧ b < hi) W W' := fun b _ hz => hb.block b (Nat.lt_of_lt_of_le hz hn)
  ⟨h.a.like hl, h.f.like hl, Nat.le_trans h.hi hb.size⟩
theorem CY.keep {lo hi Y : Nat} {d : Nd} {k : M.F} {W W' : World} {av kv : Value} (h : CY lo hi d k W av kv) (hk : Keep Y (Y + 1) W W') (hY : Y < lo ∨ hi ≤ Y) : CY lo hi d k W' av kv :=
  have hl : Like (fun b => lo ≤ b ∧ b < hi) W W' := fun b hb hz => hk.block b hz (by omega)
  ⟨h.a.like hl, h.f.like hl, Nat.le_trans h.hi hk.size⟩
theorem CY.lies {lo hi : Nat} {d : Nd} {k : M.F} {W : World} {av kv : Value} (h : CY lo hi d k W av kv) : Lies W.heap.size W d k av kv :=
  ⟨h.a.mono (fun b hb => Nat.lt_of_lt_of_le hb.2 h.hi), h.f.mono (fun b hb => Nat.lt_of_lt_of_le hb.2 h.hi)⟩
theorem tw_put {w W w' : World} {xs ys : Array Value} {Y : Nat} (hk : Keep Y (Y + 1) W w') (hY : w.heap.size + 2 ≤ Y) (h : Two w xs ys W) : Two w xs ys w' :=
  have hz : w.heap.size + 2 ≤ W.heap.size := h.2.1
  tw_keep (n := w.heap.size + 2) ⟨hk.os, hk.tape, hk.output, hk.size, fun b hb => hk.block b (by omega) (.inl (by omega))⟩ (Nat.le_refl _) h
theorem copy_c {w W : World} {K : Int} {N X : ByteArray} {A : List (ByteArray × ByteArray)} {k : M.F} {va ka : Value} {P : Prop} {l : Nat} (hl : k.len = l) (h : Lies w.heap.size w ⟨K, N, X, A⟩ k va ka) (f : Fits 0 0 ⟨K, N, X, A⟩ k) (hS : Below w.heap.size w W ∧ P) :
    Calls Try.prog 11 #[.agg #[.int .i64 K, .string N, .string X, va, ka]] W fun e w' => ∃ a1 l1 c1 a2 c2, e = .returned (.agg #[.int .i64 K, .string N, .string X, .slice a1 l1 c1, .slice a2 l c2]) ∧ Below W.heap.size W w' ∧ CY W.heap.size w'.heap.size ⟨K, N, X, A⟩ k w' (.slice a1 l1 c1) (.slice a2 l c2) := by
  subst hl
  refine (copy_l h f hS).mono ?_
  rintro e w' ⟨a1, l1, c1, a2, c2, rfl, hb, ha, hf⟩
  exact ⟨a1, l1, c1, a2, c2, rfl, hb, ⟨ha.inn, hf.inn, Nat.le_refl _⟩⟩
end Go.Proofs.Ytblgjmohcdioeaa
