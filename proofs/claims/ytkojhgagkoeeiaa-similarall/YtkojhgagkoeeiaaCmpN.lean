/- What compareNodes answers: which node comes first, whatever their kids are. -/
import Derived.Test.YtkojhgagkoeeiaaCmpA
set_option linter.unusedVariables false
namespace Go.Proofs.Ytkojhgagkoeeiaa
open Go.Deep (BT)
open Go.RowKit M

theorem or4 (w : World) (B : Nat) (a b c d : Int) (hB : w.heap.size = B) :
    Calls Try.prog 77 #[.slice (some ⟨B, 0, none⟩) 4 4] (w.alloc (.cells #[.int .i64 a, .int .i64 b, .int .i64 c, .int .i64 d] 3)) fun e w' => e = .returned (.int .i64 (orL [a, b, c, d])) ∧ w' = w.alloc (.cells #[.int .i64 a, .int .i64 b, .int .i64 c, .int .i64 d] 3) := by
  subst hB
  refine or_any ⟨w.heap.size, 0, none⟩ 4 4 [a, b, c, d] _ rfl (by decide) ?_
  intro i hi
  have hi3 : i < 4 := hi
  rcases (by omega : i = 0 ∨ i = 1 ∨ i = 2 ∨ i = 3) with rfl | rfl | rfl | rfl
  · exact World.cell?_alloc_new w _ _ 0
  · exact World.cell?_alloc_new w _ _ 1
  · exact World.cell?_alloc_new w _ _ 2
  · exact World.cell?_alloc_new w _ _ 3

/-- what stays while two boxed nodes are held against one another -/
theorem two_keep {w W w' : World} {xs ys : Array Value} (hb : Below W.heap.size W w')
    (h : (Below w.heap.size w W ∧ w.heap.size + 2 ≤ W.heap.size) ∧ (∀ i, W.cell? ⟨w.heap.size, i, none⟩ = xs[i]?) ∧ (∀ i, W.cell? ⟨w.heap.size + 1, i, none⟩ = ys[i]?)) :
    (Below w.heap.size w w' ∧ w.heap.size + 2 ≤ w'.heap.size) ∧ (∀ i, w'.cell? ⟨w.heap.size, i, none⟩ = xs[i]?) ∧ (∀ i, w'.cell? ⟨w.heap.size + 1, i, none⟩ = ys[i]?) := by
  obtain ⟨⟨h1, h2⟩, h4, h5⟩ := h
  have hs := hb.size
  refine ⟨⟨h1.trans (hb.mono (by omega)), by omega⟩, fun i => ?_, fun i => ?_⟩
  · rw [hb.cell (p := ⟨w.heap.size, i, none⟩) (by show w.heap.size < _; omega)]; exact h4 i
  · rw [hb.cell (p := ⟨w.heap.size + 1, i, none⟩) (by show w.heap.size + 1 < _; omega)]; exact h5 i
theorem two_alloc {w W : World} {xs ys : Array Value} {o : Obj}
    (h : (Below w.heap.size w W ∧ w.heap.size + 2 ≤ W.heap.size) ∧ (∀ i, W.cell? ⟨w.heap.size, i, none⟩ = xs[i]?) ∧ (∀ i, W.cell? ⟨w.heap.size + 1, i, none⟩ = ys[i]?)) :
    (Below w.heap.size w (W.alloc o) ∧ w.heap.size + 2 ≤ (W.alloc o).heap.size) ∧ (∀ i, (W.alloc o).cell? ⟨w.heap.size, i, none⟩ = xs[i]?) ∧ (∀ i, (W.alloc o).cell? ⟨w.heap.size + 1, i, none⟩ = ys[i]?) :=
  two_keep ((Below.refl _ W).alloc (Nat.le_refl _) _) h
theorem two_start (w : World) (xs ys : Array Value) (t : TypeId) :
    (Below w.heap.size w ((w.alloc (.cells xs t)).alloc (.cells ys t)).drew ∧ w.heap.size + 2 ≤ ((w.alloc (.cells xs t)).alloc (.cells ys t)).drew.heap.size) ∧ (∀ i, ((w.alloc (.cells xs t)).alloc (.cells ys t)).drew.cell? ⟨w.heap.size, i, none⟩ = xs[i]?) ∧ (∀ i, ((w.alloc (.cells xs t)).alloc (.cells ys t)).drew.cell? ⟨w.heap.size + 1, i, none⟩ = ys[i]?) := by
  have hz : ((w.alloc (.cells xs t)).alloc (.cells ys t)).heap.size = w.heap.size + 2 := by simp
  have h0 : Below w.heap.size w ((w.alloc (.cells xs t)).alloc (.cells ys t)) := ((Below.refl _ w).alloc (Nat.le_refl _) _).alloc (by simp) _
  refine two_keep (W := (w.alloc (.cells xs t)).alloc (.cells ys t)) (Below.refl _ _).drew ⟨⟨h0, by omega⟩, fun i => ?_, fun i => ?_⟩
  · rw [World.cell?_alloc_past _ _ _ (by simp), World.cell?_alloc_at _ _ _ _ rfl]
  · rw [World.cell?_alloc_at _ _ _ _ (by simp)]

theorem compareAttrs_at (l m : List (ByteArray × ByteArray)) (va vb : Value) (w W : World) (ha : AS (Old w.heap.size) w va l) (hb : AS (Old w.heap.size) w vb m) (hB : Below w.heap.size w W) :
    Calls Try.prog 79 #[va, vb] W fun e w' => e = .returned (.int .i64 (ca l m)) ∧ Below W.heap.size W w' :=
  compareAttrs_any l m va vb w.heap.size W (ha.like (like_below hB)) (hb.like (like_below hB)) hB.size

theorem compareAttrs_c (l m : List (ByteArray × ByteArray)) (va vb : Value) (C : Int) (hC : Fact (ca l m = C)) (w W : World) (ha : AS (Old w.heap.size) w va l) (hb : AS (Old w.heap.size) w vb m) (hB : Below w.heap.size w W) :
    Calls Try.prog 79 #[va, vb] W fun e w' => e = .returned (.int .i64 C) ∧ Below W.heap.size W w' := by
  rw [← hC.out]; exact compareAttrs_at l m va vb w W ha hb hB

theorem compareAttrs_s {xs ys : Array Value} (l m : List (ByteArray × ByteArray)) (va vb : Value) (C : Int) (hC : Fact (ca l m = C)) (w W : World) (ha : AS (Old w.heap.size) w va l) (hb : AS (Old w.heap.size) w vb m)
    (h : (Below w.heap.size w W ∧ w.heap.size + 2 ≤ W.heap.size) ∧ (∀ i, W.cell? ⟨w.heap.size, i, none⟩ = xs[i]?) ∧ (∀ i, W.cell? ⟨w.heap.size + 1, i, none⟩ = ys[i]?)) :
    Calls Try.prog 79 #[va, vb] W fun e w' => e = .returned (.int .i64 C) ∧ Below W.heap.size W w' :=
  compareAttrs_c l m va vb C hC w W ha hb h.1.1

set_option maxRecDepth 20000 in
set_option maxHeartbeats 8000000 in
theorem compareNodes_any (d d' : Nd) (va vb ka kb : Value) (w : World) (ha : AS (Old w.heap.size) w va d.ats) (hb : AS (Old w.heap.size) w vb d'.ats) (hka : ∃ a n c, ka = .slice a n c) (hkb : ∃ a n c, kb = .slice a n c) :
    Calls Try.prog 66 #[nodeV d va ka, nodeV d' vb kb] w fun e w' => e = .returned (.int .i64 (cn d d')) ∧ Below w.heap.size w w' := by
  obtain ⟨x1, x2, x3, rfl⟩ := hka
  obtain ⟨y1, y2, y3, rfl⟩ := hkb
  have HA := Fact.mk ha
  have HB := Fact.mk hb
  obtain ⟨a1, c1, e1, _⟩ := ha
  obtain ⟨a2, c2, e2, _⟩ := hb
  subst e1 e2
  obtain ⟨K, N, X, A⟩ := d
  obtain ⟨K', N', X', A'⟩ := d'
  dsimp only at HA HB ⊢
  obtain ⟨al, hal⟩ : ∃ al, A.length = al := ⟨_, rfl⟩
  obtain ⟨bl, hbl⟩ : ∃ bl, A'.length = bl := ⟨_, rfl⟩
  rw [hal] at HA ⊢
  rw [hbl] at HB ⊢
  clear hal hbl
  have hcn : Fact (cn ⟨K, N, X, A⟩ ⟨K', N', X', A'⟩ = orL [ci K K', cs N N', cs X X', ca A A']) := ⟨by
    unfold cn
    show orI _ (orI _ (orI _ _)) = orI _ (orI _ (orI _ (orI _ 0)))
    have e : ∀ x : Int, orI x 0 = x := fun x => by unfold orI; split <;> omega
    rw [e]⟩
  obtain ⟨C, hC⟩ : ∃ C, ca A A' = C := ⟨_, rfl⟩
  have HC := Fact.mk hC
  rw [hC] at hcn
  clear hC
  have hS0 := two_start w #[.int .i64 K, .string N, .string X, .slice a1 al c1, .slice x1 x2 x3] #[.int .i64 K', .string N', .string X', .slice a2 bl c2, .slice y1 y2 y3] 25
  have HS0 := Fact.mk hS0
  clear hS0
  go_enter Try.func66, Try.ntmps66
  go_wp2_with fail
  have hS0 := HS0.out
  clear HS0
  go_region_held3 (fun w' => (Below w.heap.size w w' ∧ w.heap.size + 2 ≤ w'.heap.size) ∧ (∀ i, w'.cell? ⟨w.heap.size, i, none⟩ = (#[.int .i64 K, .string N, .string X, .slice a1 al c1, .slice x1 x2 x3] : Array Value)[i]?) ∧ (∀ i, w'.cell? ⟨w.heap.size + 1, i, none⟩ = (#[.int .i64 K', .string N', .string X', .slice a2 bl c2, .slice y1 y2 y3] : Array Value)[i]?))
    (first | exact hS0 | exact two_alloc (by assumption) | exact two_keep hb5 (by assumption) | assumption)
    (first
      | (go_at_call 27; refine (cmpI_any _ _ _).mono ?_; rintro e w3 ⟨rfl, rfl⟩)
      | (go_at_call 78; refine (cmpS_any _ _ _).mono ?_; rintro e w3 ⟨rfl, rfl⟩)
      | (go_at_call 79; refine (compareAttrs_s A A' _ _ C HC w _ HA.out HB.out (by assumption)).mono ?_; rintro e w5 ⟨rfl, hb5⟩)
      | (go_at_call 77; refine (or4 _ _ _ _ _ _ (by simp)).mono ?_; rintro e w6 ⟨rfl, rfl⟩))
  all_goals
    go_wp2
    go_ret
    rename_i hH
    exact ⟨ret_int hcn.out.symm, hH.1.1⟩
end Go.Proofs.Ytkojhgagkoeeiaa
