/- The document's example holds: awake answers true. -/
import Derived.Test.YtkojhgagkoeeiaaCheck
set_option linter.unusedVariables false
namespace Go.Proofs.Ytkojhgagkoeeiaa
open Go.Deep (BT)
open Go.RowKit M

theorem AS.old {n : Nat} {w w0 : World} {v : Value} {l : List (ByteArray × ByteArray)} (h : AS (Old n) w0 v l) (hb : Below n w0 w) (hn : n ≤ w.heap.size) : AS (Old w.heap.size) w v l :=
  (h.like (like_below hb)).mono (fun b (hb : b < n) => (by show b < w.heap.size; omega))
theorem FL.old {n : Nat} {w w0 : World} {v : Value} {f : M.F} (h : FL (Old n) w0 v f) (hb : Below n w0 w) (hn : n ≤ w.heap.size) : FL (Old w.heap.size) w v f :=
  (h.like (like_below hb)).mono (fun b (hb : b < n) => (by show b < w.heap.size; omega))

/-- a tree that lies in memory as it was at some time, up to block n -/
structure Lies (n : Nat) (w : World) (d : Nd) (k : M.F) (av kv : Value) : Prop where
  a : AS (Old n) w av d.ats
  f : FL (Old n) w kv k
theorem Lies.below {n : Nat} {w w' : World} {d : Nd} {k : M.F} {av kv : Value} (h : Lies n w d k av kv) (hb : Below n w w') : Lies n w' d k av kv := ⟨h.a.like (like_below hb), h.f.like (like_below hb)⟩
theorem Lies.here {n : Nat} {w : World} {d : Nd} {k : M.F} {av kv : Value} (h : Lies n w d k av kv) (hn : n ≤ w.heap.size) : Lies w.heap.size w d k av kv :=
  ⟨h.a.mono (fun b (hb : b < n) => (by show b < w.heap.size; omega)), h.f.mono (fun b (hb : b < n) => (by show b < w.heap.size; omega))⟩

theorem check_at {n : Nat} {w : World} {d : Nd} {k : M.F} {av kv : Value} (r : Bool) (hr : Fact (treeOK d k = r)) (hk : k.depth + 2 ≤ 1000000) (h : Lies n w d k av kv) (hn : n ≤ w.heap.size) :
    Calls Try.prog 28 #[nodeV d av kv] w fun e w' => e = .returned (.bool r) ∧ Below w.heap.size w w' := by
  rw [← hr.out]; exact check_any d k av kv w (h.here hn).a (h.here hn).f hk
theorem bcell {W w1 : World} (hb : Below W.heap.size W w1) : (∀ b o, b < W.heap.size → w1.cell? ⟨b, o, none⟩ = W.cell? ⟨b, o, none⟩) ∧ (∀ b o, b < W.heap.size → w1.frozen? ⟨b, o, none⟩ = W.frozen? ⟨b, o, none⟩) :=
  ⟨fun b o h => hb.cell (p := ⟨b, o, none⟩) h, fun b o h => hb.frozen (p := ⟨b, o, none⟩) h⟩
theorem AS.nothing {S : Nat → Prop} {w : World} : AS S w (.slice none 0 0) [] := ⟨none, 0, rfl, Nat.le_refl _, by unfold maxLen; omega, .inl rfl⟩
theorem FL.nothing {S : Nat → Prop} {w : World} : FL S w (.slice none 0 0) .nil := FL.empty (by unfold maxLen; omega)

abbrev exKid : Nd := ⟨3, ⟨#[]⟩, ⟨#[97]⟩, []⟩
abbrev exRoot : Nd := ⟨1, ⟨#[]⟩, ⟨#[]⟩, []⟩
theorem ex1 : treeOK exRoot (.cons exKid .nil .nil) = true := by kernel_rfl
theorem ex2 : treeOK exKid .nil = false := by kernel_rfl

end Go.Proofs.Ytkojhgagkoeeiaa
