/- tellParent: a node that is left is counted in its parent. -/
import Derived.Test.YtkojhgagkoeeiaaOpened
set_option linter.unusedVariables false
set_option linter.unusedSimpArgs false
namespace Go.Proofs.Ytkojhgagkoeeiaa
open Go.Deep (BT)
open Go.RowKit M

theorem w64 (n : Int) : IntKind.i64.wrap n = wrap64 n := by rw [IntKind.wrap_i64, wrap64]
/-- an Item's cells -/
def cells10 (y : Im × Value) : List Value := [.int .i64 y.1.p, .int .i64 y.1.z, .int .i64 y.1.dp, .int .i64 y.1.h, .int .i64 y.1.pl, .int .i64 y.1.d.k, .string y.1.d.n, .string y.1.d.x, y.2, .slice none 0 0]
def cellsIt : List (Im × Value) → List Value
  | [] => []
  | y :: l => cells10 y ++ cellsIt l
theorem cellsIt_len : ∀ l, (cellsIt l).length = l.length * 10
  | [] => rfl
  | y :: l => by simp [cellsIt, cells10, cellsIt_len l]; omega
theorem cellsIt_append : ∀ a b, cellsIt (a ++ b) = cellsIt a ++ cellsIt b
  | [], b => rfl
  | y :: a, b => by simp [cellsIt, cellsIt_append a b]
theorem cellsIt_get : ∀ (l : List (Im × Value)) (i : Nat) (y : Im × Value), l[i]? = some y → ∀ j u, (cells10 y)[j]? = some u → (cellsIt l)[i * 10 + j]? = some u
  | [], _, _, h, _, _, _ => by cases h
  | x :: l, 0, y, h, j, u, hu => by
    simp only [List.getElem?_cons_zero, Option.some.injEq] at h
    subst h
    have hj := (List.getElem?_eq_some_iff.1 hu).1
    rw [cellsIt, List.getElem?_append_left (by simpa using hj)]
    simpa using hu
  | x :: l, i + 1, y, h, j, u, hu => by
    simp only [List.getElem?_cons_succ] at h
    have := cellsIt_get l i y h j u hu
    have hx : (cells10 x).length = 10 := rfl
    rw [cellsIt, List.getElem?_append_right (by omega), hx, show (i + 1) * 10 + j - 10 = i * 10 + j by omega]
    exact this
theorem cellsIt_set : ∀ (l : List (Im × Value)) (i j : Nat) (y y' : Im × Value) (u : Value), l[i]? = some y → j < 10 → (cells10 y).set j u = cells10 y' → (cellsIt l).set (i * 10 + j) u = cellsIt (l.set i y')
  | [], _, _, _, _, _, h, _, _ => by cases h
  | x :: l, 0, j, y, y', u, h, hj, e => by
    simp only [List.getElem?_cons_zero, Option.some.injEq] at h
    subst h
    rw [cellsIt, List.set_append, if_pos (by show 0 * 10 + j < 10; omega), Nat.zero_mul, Nat.zero_add, e]
    rfl
  | x :: l, i + 1, j, y, y', u, h, hj, e => by
    simp only [List.getElem?_cons_succ] at h
    have := cellsIt_set l i j y y' u h hj e
    have hx : (cells10 x).length = 10 := rfl
    rw [cellsIt, List.set_append, if_neg (by omega), hx, show (i + 1) * 10 + j - 10 = i * 10 + j by omega, this]
    rfl
theorem row10_at {w : World} {B E g n cap : Nat} {l : List (Im × Value)} (h : w.ownsRow B E 10 (.slice (some ⟨g, 0, none⟩) n cap) n (cellsIt l)) {i : Nat} {y : Im × Value} (hy : l[i]? = some y) :
    (∀ j u, (cells10 y)[j]? = some u → w.cell? ⟨g, i * 10 + j, none⟩ = some u) ∧ (∀ o, w.frozen? ⟨g, o, none⟩ = false) ∧ B ≤ g ∧ g < w.heap.size ∧ n ≤ cap ∧ cap ≤ maxLen ∧ i < n := by
  obtain ⟨h1, h2⟩ := h
  have hl : l.length = n := by rw [cellsIt_len] at h1; omega
  have hi : i < n := by rw [← hl]; exact (List.getElem?_eq_some_iff.1 hy).1
  rcases h2 with ⟨e, _⟩ | ⟨g', cap', cur, e, hg, hh, hc1, hc2, hs, ht⟩
  · cases e
  · cases e
    refine ⟨fun j u hj => ?_, fun o => by simp [World.frozen?, hh], hg, (Array.getElem?_eq_some_iff.1 hh).1, hc1, hc2, hi⟩
    simp only [World.cell?, hh]
    have h3 := cellsIt_get l i y hy j u hj
    rw [← ht, List.getElem?_take] at h3
    split at h3
    · simpa using h3
    · cases h3
theorem row10_set {w : World} {B E g n cap : Nat} {l : List (Im × Value)} (h : w.ownsRow B E 10 (.slice (some ⟨g, 0, none⟩) n cap) n (cellsIt l)) {i j : Nat} {y y' : Im × Value} {u : Value} (hy : l[i]? = some y) (hj : j < 10) (e : (cells10 y).set j u = cells10 y') :
    (w.setCell ⟨g, i * 10 + j, none⟩ u).ownsRow B E 10 (.slice (some ⟨g, 0, none⟩) n cap) n (cellsIt (l.set i y')) := by
  obtain ⟨h1, h2⟩ := h
  refine ⟨by rw [cellsIt_len] at h1 ⊢; simpa using h1, .inr ?_⟩
  rcases h2 with ⟨e, _⟩ | ⟨g', cap', cur, e', hg, hh, hc1, hc2, hs, ht⟩
  · cases e
  · cases e'
    refine ⟨g, cap, cur.setIfInBounds (i * 10 + j) u, rfl, hg, ?_, hc1, hc2, by simpa using hs, ?_⟩
    · simp only [World.setCell, Array.getElem?_modify, hh]
      simp
    · rw [Array.toList_setIfInBounds, List.take_set, ht]
      exact cellsIt_set l i j y y' u hy hj e

set_option maxRecDepth 100000 in
set_option maxHeartbeats 2000000 in
theorem tell_none (l : List (Im × Value)) (g cap base n id : Nat) (y : Im × Value) (w : World) (hown : w.ownsRow base 65 10 (.slice (some ⟨g, 0, none⟩) n cap) n (cellsIt l)) (hy : l[id]? = some y) (hp : y.1.p = -1) (hn : n ≤ 1000000000000) :
    Calls Try.prog 63 #[.slice (some ⟨g, 0, none⟩) n cap, .int .i64 id] w fun e w' => (∃ v, e = .returned v) ∧ w' = w := by
  obtain ⟨hat, hfz, hg1, hg2, hcp, hcm, hi⟩ := row10_at hown hy
  have y0 : w.cell? ⟨g, id * 10, none⟩ = some (.int .i64 (-1)) := by rw [← hp]; exact hat 0 _ rfl
  clear hat hown hfz
  go_enter Try.func63, Try.ntmps63
  go_wp2_with fail
  refine bodyPost_ret (results_none rfl _ _ _) rfl ?_
  exact ⟨⟨_, rfl⟩, rfl⟩

set_option maxRecDepth 100000 in
set_option maxHeartbeats 4000000 in
theorem tell_up (l : List (Im × Value)) (g cap base n id q : Nat) (y x : Im × Value) (w : World) (hown : w.ownsRow base 65 10 (.slice (some ⟨g, 0, none⟩) n cap) n (cellsIt l)) (hy : l[id]? = some y) (hx : l[q]? = some x) (hp : y.1.p = q) (hq : q < id) (hn : n ≤ 1000000000000) :
    Calls Try.prog 63 #[.slice (some ⟨g, 0, none⟩) n cap, .int .i64 id] w fun e w' => (∃ v, e = .returned v) ∧ w'.ownsRow base 65 10 (.slice (some ⟨g, 0, none⟩) n cap) n (cellsIt (l.set q (cnt y.1 x.1, x.2))) ∧ Kept (fun k => k ≠ g) w w' := by
  obtain ⟨hat, hfz, hg1, hg2, hcp, hcm, hi⟩ := row10_at hown hy
  obtain ⟨hax, _, _, _, _, _, hiq⟩ := row10_at hown hx
  obtain ⟨⟨p, z, dp, h, pl, d⟩, av⟩ := y
  obtain ⟨⟨p2, z2, dp2, h2, pl2, d2⟩, av2⟩ := x
  dsimp only at hp
  subst hp
  have y0 : w.cell? ⟨g, id * 10, none⟩ = some (.int .i64 q) := hat 0 _ rfl
  have y1 : w.cell? ⟨g, id * 10 + 1, none⟩ = some (.int .i64 z) := hat 1 _ rfl
  have y3 : w.cell? ⟨g, id * 10 + 3, none⟩ = some (.int .i64 h) := hat 3 _ rfl
  have x1 : w.cell? ⟨g, q * 10 + 1, none⟩ = some (.int .i64 z2) := hax 1 _ rfl
  have x3 : w.cell? ⟨g, q * 10 + 3, none⟩ = some (.int .i64 h2) := hax 3 _ rfl
  have HO := Fact.mk hown
  clear hat hax hown
  go_enter Try.func63, Try.ntmps63
  go_wp2_with fail
  have b1 : (0 : Int) ≤ q := by omega
  have b2 : (q : Int) < n := by omega
  have b3 : (0 : Int) ≤ id := by omega
  have b4 : (id : Int) < n := by omega
  have b5 : IntKind.i64.wrap (q : Int) = q := wrap_id (by omega) (by omega)
  have b6 : IntKind.i64.wrap (id : Int) = id := wrap_id (by omega) (by omega)
  go_region
  have hown1 := row10_set HO.out (u := .int .i64 (wrap64 (z2 + z))) (y' := (⟨p2, wrap64 (z2 + z), dp2, h2, pl2, d2⟩, av2)) hx (show 1 < 10 by decide) rfl
  have hx' : (l.set q ((⟨p2, wrap64 (z2 + z), dp2, h2, pl2, d2⟩ : Im), av2))[q]? = some (⟨p2, wrap64 (z2 + z), dp2, h2, pl2, d2⟩, av2) := by
    rw [List.getElem?_set_self (List.getElem?_eq_some_iff.1 hx).1]
  have hy' : (l.set q ((⟨p2, wrap64 (z2 + z), dp2, h2, pl2, d2⟩ : Im), av2))[id]? = some (⟨q, z, dp, h, pl, d⟩, av) := by
    rw [List.getElem?_set_ne (by omega)]; exact hy
  obtain ⟨w1, hw1⟩ : ∃ w1, (w.setCell ⟨g, q * 10 + 1, none⟩ (.int .i64 (wrap64 (z2 + z)))).drew = w1 := ⟨_, rfl⟩
  have hown1' : w1.ownsRow base 65 10 (.slice (some ⟨g, 0, none⟩) n cap) n (cellsIt (l.set q (⟨p2, wrap64 (z2 + z), dp2, h2, pl2, d2⟩, av2))) := by rw [← hw1]; exact hown1
  have hk1 : Kept (fun k => k ≠ g) w w1 := by rw [← hw1]; exact ⟨rfl, rfl, rfl, by simp [World.setCell], fun k _ hk => Below.heap_setCell _ _ _ _ hk⟩
  obtain ⟨hat1, hfz1, _, hg21, _, _, _⟩ := row10_at hown1' hx'
  obtain ⟨hat2, _, _, _, _, _, _⟩ := row10_at hown1' hy'
  have x31 : w1.cell? ⟨g, q * 10 + 3, none⟩ = some (.int .i64 h2) := hat1 3 _ rfl
  have y31 : w1.cell? ⟨g, id * 10 + 3, none⟩ = some (.int .i64 h) := hat2 3 _ rfl
  rw [hw1]
  have HK1 := Fact.mk hk1
  have HX1 := Fact.mk hx'
  have HO1 := Fact.mk hown1'
  have HX0 := Fact.mk hx
  clear hat1 hat2 hown1 hown1' hk1 hx' hy' hw1 y0 y1 y3 x1 x3 hfz hx hy
  go_wp2_with fail
  go_region
  have hmax : (if h2 < wrap64 (h + 1) then wrap64 (h + 1) else h2) = max h2 (IntKind.i64.wrap (h + 1)) := by
    rw [← w64]
    split <;> omega
  rw [hmax]
  have hown2 := row10_set HO1.out (u := .int .i64 (max h2 (IntKind.i64.wrap (h + 1)))) (y' := (⟨p2, wrap64 (z2 + z), dp2, max h2 (IntKind.i64.wrap (h + 1)), pl2, d2⟩, av2)) HX1.out (show 3 < 10 by decide) rfl
  rw [List.set_set, ← w64] at hown2
  go_end0
  exact ⟨⟨_, rfl⟩, hown2, HK1.out.trans ⟨rfl, rfl, rfl, by simp [World.setCell], fun k _ hk => Below.heap_setCell _ _ _ _ hk⟩⟩
end Go.Proofs.Ytkojhgagkoeeiaa
