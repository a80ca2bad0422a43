/- Variables made ahead of a call, or behind it: what they hold behind the call. -/
import Derived.Test.YtblgjmohcdioeaaTwoL
set_option linter.unusedVariables false
namespace Go.Proofs.Ytblgjmohcdioeaa
open Go.Deep (BT)
open Go.RowKit M

abbrev zObj : Obj := .cells #[.int .i64 0, .string ⟨#[]⟩, .string ⟨#[]⟩, .slice none 0 0, .slice none 0 0] 25
structure Zr (W : World) (B : Nat) : Prop where
  f : Five W B (.int .i64 0) (.string ⟨#[]⟩) (.string ⟨#[]⟩) (.slice none 0 0) (.slice none 0 0)
theorem Zr.same {W W' : World} {B : Nat} (h : Zr W B) (e : W'.heap[B]? = W.heap[B]?) : Zr W' B := ⟨h.f.same e⟩
theorem Zr.new (w : World) : Zr (w.alloc (.cells #[.int .i64 0, .string ⟨#[]⟩, .string ⟨#[]⟩, .slice none 0 0, .slice none 0 0] 25)) w.heap.size := ⟨Five.new w _ _ _ _ _ _⟩
theorem zr_new1 {w w' : World} (hb : Below (w.alloc (.cells #[.int .i64 0, .string ⟨#[]⟩, .string ⟨#[]⟩, .slice none 0 0, .slice none 0 0] 25)).heap.size (w.alloc (.cells #[.int .i64 0, .string ⟨#[]⟩, .string ⟨#[]⟩, .slice none 0 0, .slice none 0 0] 25)) w') : Zr w' w.heap.size :=
  (Zr.new w).same (hb.block _ (by simp))
theorem zr_new2 {w w' : World} (hb : Below ((w.alloc (.cells #[.int .i64 0, .string ⟨#[]⟩, .string ⟨#[]⟩, .slice none 0 0, .slice none 0 0] 25)).alloc (.cells #[.int .i64 0, .string ⟨#[]⟩, .string ⟨#[]⟩, .slice none 0 0, .slice none 0 0] 25)).heap.size ((w.alloc (.cells #[.int .i64 0, .string ⟨#[]⟩, .string ⟨#[]⟩, .slice none 0 0, .slice none 0 0] 25)).alloc (.cells #[.int .i64 0, .string ⟨#[]⟩, .string ⟨#[]⟩, .slice none 0 0, .slice none 0 0] 25)) w') : Zr w' w.heap.size ∧ Zr w' (w.heap.size + 1) := by
  have h2 := Zr.new (w.alloc (.cells #[.int .i64 0, .string ⟨#[]⟩, .string ⟨#[]⟩, .slice none 0 0, .slice none 0 0] 25))
  rw [World.size_alloc] at h2
  exact ⟨((Zr.new w).same (Below.heap_alloc _ _ _ (by simp))).same (hb.block _ (by simp <;> omega)), h2.same (hb.block _ (by simp))⟩
theorem zr_new1d {w w' : World} (hb : Below (w.alloc (.cells #[.int .i64 0, .string ⟨#[]⟩, .string ⟨#[]⟩, .slice none 0 0, .slice none 0 0] 25)).drew.heap.size (w.alloc (.cells #[.int .i64 0, .string ⟨#[]⟩, .string ⟨#[]⟩, .slice none 0 0, .slice none 0 0] 25)).drew w') : Zr w' w.heap.size :=
  zr_new1 ⟨hb.os, hb.tape, hb.output, hb.size, hb.block⟩
theorem zr_new2d {w w' : World} (hb : Below ((w.alloc (.cells #[.int .i64 0, .string ⟨#[]⟩, .string ⟨#[]⟩, .slice none 0 0, .slice none 0 0] 25)).alloc (.cells #[.int .i64 0, .string ⟨#[]⟩, .string ⟨#[]⟩, .slice none 0 0, .slice none 0 0] 25)).drew.heap.size ((w.alloc (.cells #[.int .i64 0, .string ⟨#[]⟩, .string ⟨#[]⟩, .slice none 0 0, .slice none 0 0] 25)).alloc (.cells #[.int .i64 0, .string ⟨#[]⟩, .string ⟨#[]⟩, .slice none 0 0, .slice none 0 0] 25)).drew w') : Zr w' w.heap.size ∧ Zr w' (w.heap.size + 1) :=
  zr_new2 ⟨hb.os, hb.tape, hb.output, hb.size, hb.block⟩
theorem zr_old0 {w w' : World} {B : Nat} (h : Zr w B) (hb : Below w.heap.size w w') : Zr w' B := h.same (hb.block _ h.f.lt)
theorem zr_old1 {w w' : World} {B : Nat} {o : Obj} (h : Zr w B) (hb : Below (w.alloc o).heap.size (w.alloc o) w') : Zr w' B := zr_old0 (h.same (Below.heap_alloc _ _ _ h.f.lt)) hb
theorem Zr.facts {W : World} {B : Nat} (h : Zr W B) : (W.cell? ⟨B, 0, none⟩ = some (.int .i64 0) ∧ W.cell? ⟨B, 1, none⟩ = some (.string ⟨#[]⟩) ∧ W.cell? ⟨B, 2, none⟩ = some (.string ⟨#[]⟩) ∧ W.cell? ⟨B, 3, none⟩ = some (.slice none 0 0) ∧ W.cell? ⟨B, 4, none⟩ = some (.slice none 0 0) ∧ (∀ o, W.frozen? ⟨B, o, none⟩ = false)) ∧
    ((∀ ob, (W.alloc ob).cell? ⟨B, 0, none⟩ = some (.int .i64 0)) ∧ (∀ ob, (W.alloc ob).cell? ⟨B, 1, none⟩ = some (.string ⟨#[]⟩)) ∧ (∀ ob, (W.alloc ob).cell? ⟨B, 2, none⟩ = some (.string ⟨#[]⟩)) ∧ (∀ ob, (W.alloc ob).cell? ⟨B, 3, none⟩ = some (.slice none 0 0)) ∧ (∀ ob, (W.alloc ob).cell? ⟨B, 4, none⟩ = some (.slice none 0 0)) ∧ (∀ ob o, (W.alloc ob).frozen? ⟨B, o, none⟩ = false)) := by
  have hA : ∀ ob, Zr (W.alloc ob) B := fun ob => h.same (Below.heap_alloc _ _ _ h.f.lt)
  exact ⟨⟨h.f.c0, h.f.c1, h.f.c2, h.f.c3, h.f.c4, h.f.fz⟩, fun ob => (hA ob).f.c0, fun ob => (hA ob).f.c1, fun ob => (hA ob).f.c2, fun ob => (hA ob).f.c3, fun ob => (hA ob).f.c4, fun ob => (hA ob).f.fz⟩
theorem Zr.ne {W : World} {B : Nat} (h : Zr W B) : ¬ B = W.heap.size ∧ ¬ W.heap.size = B ∧ B < W.heap.size := ⟨Nat.ne_of_lt h.f.lt, Nat.ne_of_gt h.f.lt, h.f.lt⟩

/-- blocks from lo to hi are as they were -/
structure Lk (lo hi : Nat) (W W' : World) : Prop where
  size : W.heap.size ≤ W'.heap.size
  blk : ∀ b, lo ≤ b → b < hi → b < W.heap.size → W'.heap[b]? = W.heap[b]?
theorem lk_refl (lo hi : Nat) (W : World) : Lk lo hi W W := ⟨Nat.le_refl _, fun _ _ _ _ => rfl⟩
theorem lk_alloc {lo hi : Nat} {W W' : World} {o : Obj} (h : Lk lo hi W W') : Lk lo hi W (W'.alloc o) :=
  ⟨by rw [World.size_alloc]; have := h.size; omega, fun b h1 h2 h3 => (Below.heap_alloc _ _ _ (by have := h.size; omega)).trans (h.blk b h1 h2 h3)⟩
theorem lk_set {lo hi : Nat} {W W' : World} {Y i : Nat} {v : Value} (hY : Y < lo ∨ hi ≤ Y) (h : Lk lo hi W W') : Lk lo hi W (W'.setCell ⟨Y, i, none⟩ v) :=
  ⟨by have := h.size; simp [World.setCell]; exact this, fun b h1 h2 h3 => (Below.heap_setCell _ _ _ _ (by show b ≠ Y; omega)).trans (h.blk b h1 h2 h3)⟩
theorem CY.lk {lo hi : Nat} {d : Nd} {k : M.F} {W W' : World} {av kv : Value} (h : CY lo hi d k W av kv) (hl : Lk lo hi W W') : Lies W'.heap.size W' d k av kv :=
  have hlk : Like (fun b => lo ≤ b ∧ b < hi) W W' := fun b hb hz => hl.blk b hb.1 hb.2 hz
  ⟨(h.a.like hlk).mono (fun b hb => Nat.lt_of_lt_of_le hb.2 (Nat.le_trans h.hi hl.size)), (h.f.like hlk).mono (fun b hb => Nat.lt_of_lt_of_le hb.2 (Nat.le_trans h.hi hl.size))⟩
theorem fy_new {W : World} {n : Nat} {v0 v1 v2 v3 v4 : Value} {t : TypeId} (hn : W.heap.size = n) : Five (W.alloc (.cells #[v0, v1, v2, v3, v4] t)) n v0 v1 v2 v3 v4 := by
  subst hn; exact Five.new W _ _ _ _ _ _
theorem fy_alloc {W : World} {Y : Nat} {v0 v1 v2 v3 v4 : Value} {o : Obj} (h : Five W Y v0 v1 v2 v3 v4) : Five (W.alloc o) Y v0 v1 v2 v3 v4 := h.same (Below.heap_alloc _ _ _ h.lt)
theorem fy_set {W : World} {Y Z i : Nat} {v0 v1 v2 v3 v4 v : Value} (hn : Y ≠ Z) (h : Five W Y v0 v1 v2 v3 v4) : Five (W.setCell ⟨Z, i, none⟩ v) Y v0 v1 v2 v3 v4 := h.same (Below.heap_setCell _ _ _ _ hn)
end Go.Proofs.Ytblgjmohcdioeaa
