/- TreeAll: what stays while two boxed trees are looked at. -/
import Derived.Test.YtblgjmohcdioeaaRefCmp
import Derived.Test.YtblgjmohcdioeaaRefCh
import Derived.Test.YtblgjmohcdioeaaRefA
import Derived.Test.YtblgjmohcdioeaaSlots
set_option linter.unusedVariables false
namespace Go.Proofs.Ytblgjmohcdioeaa
open Go.Deep (BT)
open Go.RowKit M

/-- what stays while two boxed trees are looked at -/
abbrev Two (w : World) (xs ys : Array Value) (W : World) : Prop := Below w.heap.size w W ∧ w.heap.size + 2 ≤ W.heap.size ∧ (∀ i, W.cell? ⟨w.heap.size, i, none⟩ = xs[i]?) ∧ (∀ i, W.cell? ⟨w.heap.size + 1, i, none⟩ = ys[i]?)
theorem tw_keep {w W w' : World} {xs ys : Array Value} {n : Nat} (hb : Below n W w') (hn : w.heap.size + 2 ≤ n)
    (h : Below w.heap.size w W ∧ w.heap.size + 2 ≤ W.heap.size ∧ (∀ i, W.cell? ⟨w.heap.size, i, none⟩ = xs[i]?) ∧ (∀ i, W.cell? ⟨w.heap.size + 1, i, none⟩ = ys[i]?)) :
    Below w.heap.size w w' ∧ w.heap.size + 2 ≤ w'.heap.size ∧ (∀ i, w'.cell? ⟨w.heap.size, i, none⟩ = xs[i]?) ∧ (∀ i, w'.cell? ⟨w.heap.size + 1, i, none⟩ = ys[i]?) := by
  obtain ⟨h1, h2, h4, h5⟩ := h
  have hs := hb.size
  refine ⟨h1.trans (hb.mono (by omega)), by omega, fun i => ?_, fun i => ?_⟩
  · rw [hb.cell (p := ⟨w.heap.size, i, none⟩) (by show w.heap.size < _; omega)]; exact h4 i
  · rw [hb.cell (p := ⟨w.heap.size + 1, i, none⟩) (by show w.heap.size + 1 < _; omega)]; exact h5 i
theorem tw_call {w W w' : World} {xs ys : Array Value} (hb : Below W.heap.size W w')
    (h : Below w.heap.size w W ∧ w.heap.size + 2 ≤ W.heap.size ∧ (∀ i, W.cell? ⟨w.heap.size, i, none⟩ = xs[i]?) ∧ (∀ i, W.cell? ⟨w.heap.size + 1, i, none⟩ = ys[i]?)) :
    Below w.heap.size w w' ∧ w.heap.size + 2 ≤ w'.heap.size ∧ (∀ i, w'.cell? ⟨w.heap.size, i, none⟩ = xs[i]?) ∧ (∀ i, w'.cell? ⟨w.heap.size + 1, i, none⟩ = ys[i]?) := tw_keep hb h.2.1 h
theorem tw_alloc {w W : World} {xs ys : Array Value} {o : Obj}
    (h : Below w.heap.size w W ∧ w.heap.size + 2 ≤ W.heap.size ∧ (∀ i, W.cell? ⟨w.heap.size, i, none⟩ = xs[i]?) ∧ (∀ i, W.cell? ⟨w.heap.size + 1, i, none⟩ = ys[i]?)) :
    Below w.heap.size w (W.alloc o) ∧ w.heap.size + 2 ≤ (W.alloc o).heap.size ∧ (∀ i, (W.alloc o).cell? ⟨w.heap.size, i, none⟩ = xs[i]?) ∧ (∀ i, (W.alloc o).cell? ⟨w.heap.size + 1, i, none⟩ = ys[i]?) :=
  tw_keep ((Below.refl _ W).alloc (Nat.le_refl _) o) h.2.1 h
theorem tw_drew {w W : World} {xs ys : Array Value} {o : Obj}
    (h : Below w.heap.size w W.drew ∧ w.heap.size + 2 ≤ W.drew.heap.size ∧ (∀ i, W.drew.cell? ⟨w.heap.size, i, none⟩ = xs[i]?) ∧ (∀ i, W.drew.cell? ⟨w.heap.size + 1, i, none⟩ = ys[i]?)) :
    Below w.heap.size w (W.alloc o).drew ∧ w.heap.size + 2 ≤ (W.alloc o).drew.heap.size ∧ (∀ i, (W.alloc o).drew.cell? ⟨w.heap.size, i, none⟩ = xs[i]?) ∧ (∀ i, (W.alloc o).drew.cell? ⟨w.heap.size + 1, i, none⟩ = ys[i]?) :=
  tw_keep (W := W.drew) (w' := (W.alloc o).drew) (n := W.heap.size) ⟨rfl, rfl, rfl, by simp, fun k hk => Below.heap_alloc W _ _ hk⟩ h.2.1 h
theorem tw_set {w W : World} {xs ys : Array Value} {Y : Nat} {v0 v1 v2 v3 v4 : Value} (hY : w.heap.size + 2 ≤ Y)
    (h : Below w.heap.size w W ∧ w.heap.size + 2 ≤ W.heap.size ∧ (∀ i, W.cell? ⟨w.heap.size, i, none⟩ = xs[i]?) ∧ (∀ i, W.cell? ⟨w.heap.size + 1, i, none⟩ = ys[i]?)) :
    Below w.heap.size w (((((W.setCell ⟨Y, 0, none⟩ v0).setCell ⟨Y, 1, none⟩ v1).setCell ⟨Y, 2, none⟩ v2).setCell ⟨Y, 3, none⟩ v3).setCell ⟨Y, 4, none⟩ v4) ∧ w.heap.size + 2 ≤ (((((W.setCell ⟨Y, 0, none⟩ v0).setCell ⟨Y, 1, none⟩ v1).setCell ⟨Y, 2, none⟩ v2).setCell ⟨Y, 3, none⟩ v3).setCell ⟨Y, 4, none⟩ v4).heap.size ∧ (∀ i, (((((W.setCell ⟨Y, 0, none⟩ v0).setCell ⟨Y, 1, none⟩ v1).setCell ⟨Y, 2, none⟩ v2).setCell ⟨Y, 3, none⟩ v3).setCell ⟨Y, 4, none⟩ v4).cell? ⟨w.heap.size, i, none⟩ = xs[i]?) ∧ (∀ i, (((((W.setCell ⟨Y, 0, none⟩ v0).setCell ⟨Y, 1, none⟩ v1).setCell ⟨Y, 2, none⟩ v2).setCell ⟨Y, 3, none⟩ v3).setCell ⟨Y, 4, none⟩ v4).cell? ⟨w.heap.size + 1, i, none⟩ = ys[i]?) :=
  tw_keep ((((((Below.refl (w.heap.size + 2) W).setCell (p := ⟨Y, 0, none⟩) hY _).setCell (p := ⟨Y, 1, none⟩) hY _).setCell (p := ⟨Y, 2, none⟩) hY _).setCell (p := ⟨Y, 3, none⟩) hY _).setCell (p := ⟨Y, 4, none⟩) hY _) (Nat.le_refl _) h
theorem tw_start (w : World) (xs ys : Array Value) (t : TypeId) :
    Below w.heap.size w ((w.alloc (.cells xs t)).alloc (.cells ys t)) ∧ w.heap.size + 2 ≤ ((w.alloc (.cells xs t)).alloc (.cells ys t)).heap.size ∧ (∀ i, ((w.alloc (.cells xs t)).alloc (.cells ys t)).cell? ⟨w.heap.size, i, none⟩ = xs[i]?) ∧ (∀ i, ((w.alloc (.cells xs t)).alloc (.cells ys t)).cell? ⟨w.heap.size + 1, i, none⟩ = ys[i]?) := by
  refine ⟨((Below.refl _ w).alloc (Nat.le_refl _) _).alloc (by simp) _, by simp, fun i => ?_, fun i => ?_⟩
  · rw [World.cell?_alloc_past _ _ _ (by simp), World.cell?_alloc_at _ _ _ _ rfl]
  · rw [World.cell?_alloc_at _ _ _ _ (by simp)]
theorem copy_l {w W : World} {K : Int} {N X : ByteArray} {A : List (ByteArray × ByteArray)} {k : M.F} {va ka : Value} {P : Prop} (h : Lies w.heap.size w ⟨K, N, X, A⟩ k va ka) (f : Fits 0 0 ⟨K, N, X, A⟩ k) (hS : Below w.heap.size w W ∧ P) :
    Calls Try.prog 11 #[.agg #[.int .i64 K, .string N, .string X, va, ka]] W fun e w' => ∃ a1 l1 c1 a2 c2, e = .returned (.agg #[.int .i64 K, .string N, .string X, .slice a1 l1 c1, .slice a2 k.len c2]) ∧ Below W.heap.size W w' ∧ AS (fun b => W.heap.size ≤ b) w' (.slice a1 l1 c1) A ∧ FL (fun b => W.heap.size ≤ b) w' (.slice a2 k.len c2) k :=
  (copy_any k ⟨K, N, X, A⟩ va ka w.heap.size W (h.below hS.1) hS.1.size (by have := f.slots; have := f.size; omega) (by have := f.size; omega)).mono (by
    rintro e w' ⟨av', kv', rfl, hb, ha, hf⟩
    obtain ⟨a1, l1, c1, rfl⟩ := ha.val
    obtain ⟨a2, c2, rfl⟩ := hf.val
    exact ⟨a1, l1, c1, a2, c2, rfl, hb, ha, hf⟩)

end Go.Proofs.Ytblgjmohcdioeaa
