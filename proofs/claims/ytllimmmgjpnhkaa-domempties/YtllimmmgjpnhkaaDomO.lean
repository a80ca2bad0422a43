/- takeOut at the end of a list. -/
import Derived.Test.YtllimmmgjpnhkaaDomP
import Derived.Lib.SliceRun
set_option linter.unusedVariables false
namespace Go.Proofs.Ytllimmmgjpnhkaa
open Go.Deep (BT)
open Go.RowKit M

theorem own_cut {w : World} {B E size g n cap : Nat} {l r : List Value} (h : w.ownsRow B E size (.slice (some ⟨g, 0, none⟩) (n + 1) cap) (n + 1) (l ++ r)) (hl : l.length = n * size) :
    w.ownsRow B E size (.slice (some ⟨g, 0, none⟩) n cap) n l := by
  obtain ⟨h1, h2⟩ := h
  refine ⟨hl, .inr ?_⟩
  rcases h2 with ⟨e, _⟩ | ⟨g', cap', cur, e, hg, hh, hc1, hc2, hs, ht⟩
  · cases e
  · cases e
    refine ⟨g, cap, cur, rfl, hg, hh, by omega, hc2, hs, ?_⟩
    have := congrArg (List.take (n * size)) ht
    rw [List.take_take, Nat.min_eq_left (Nat.mul_le_mul_right _ (by omega)), List.take_append_of_le_length (Nat.le_of_eq hl.symm), List.take_of_length_le (Nat.le_of_eq hl)] at this
    exact this
/-- what lies behind a row's end may be written to -/
theorem own_past {w : World} {B E size g n cap : Nat} {l : List Value} (h : w.ownsRow B E size (.slice (some ⟨g, 0, none⟩) n cap) n l) (k : Nat) (hk : n * size ≤ k) (u : Value) :
    (w.setCell ⟨g, k, none⟩ u).ownsRow B E size (.slice (some ⟨g, 0, none⟩) n cap) n l := by
  obtain ⟨h1, h2⟩ := h
  refine ⟨h1, .inr ?_⟩
  rcases h2 with ⟨e, _⟩ | ⟨g', cap', cur, e, hg, hh, hc1, hc2, hs, ht⟩
  · cases e
  · cases e
    refine ⟨g, cap, cur.setIfInBounds k u, rfl, hg, set_heap6 hh, hc1, hc2, by simp [hs], ?_⟩
    rw [← ht, Array.toList_setIfInBounds, List.take_set_of_le hk]

set_option maxRecDepth 20000 in
set_option maxHeartbeats 2000000 in
theorem takeOut_end (l : List Int) (x : Int) (n B : Nat) (v : Value) (w : World) (hn : l.length = n) (h : w.ownsRow B 3 1 v (n + 1) (rowI (l ++ [x]))) (hm : n ≤ 1000000) :
    Calls Try.prog 95 #[v, .int .i64 n] w fun e w' => ∃ g cap, v = .slice (some ⟨g, 0, none⟩) (n + 1) cap ∧ e = .returned (.slice (some ⟨g, 0, none⟩) n cap) ∧ w'.ownsRow B 3 1 (.slice (some ⟨g, 0, none⟩) n cap) n (rowI l) ∧ w.grownBy w' (some g) := by
  obtain ⟨i0, hii, hz0, hz1, hz2⟩ := info_parts infoI
  obtain ⟨g, cap, rfl, q1, q2, q3, q4, hat, hfz⟩ := own_get h (by omega)
  have e1 : rowI (l ++ [x]) = rowI l ++ [.int .i64 x] := by simp [rowI]
  have hl : (rowI l).length = n * 1 := by simp [rowI, hn]
  rw [e1] at h
  have hcut := own_cut h hl
  have hpast := own_past hcut n (by omega) (.int .i64 0)
  have hlast : w.cell? ⟨g, n, none⟩ = some (.int .i64 x) := hat n _ (by rw [e1, List.getElem?_append_right (by omega)]; simp [hl])
  have hfn := hfz n
  have HC : Fact (∀ (d e : Option Addr) (dc ec : Nat), (Builtin.copy_ #[41, 41] 3 #[.slice d 1 dc, .slice e 0 ec]).run Try.prog w.drew = .ok (goInt 0) w.drew) := ⟨fun d e dc ec => run_copy_none _ _ _ _ 3 _ _ _ _ _ _ Try.underlying41 (by rw [hii]; simp [hz1]) rfl⟩
  have hz : ∀ w, (zeroValue 3).run Try.prog w = .ok (.int .i64 0) w := fun w => by simp [zeroValue, typeInfo, hii, hz0]
  have HCL : Fact (∀ (ty : TypeId) (c : Nat) (w' : World), w'.heap = w.heap → (Builtin.clear_ #[41] ty #[.slice (some ⟨g, n, none⟩) 1 c]).run Try.prog w' = .ok (.tuple #[]) (w'.setCell ⟨g, n, none⟩ (.int .i64 0))) := ⟨fun ty c w' hw' => by
    have := Go.Lib.run_clear_slice (P := Try.prog) w' 41 3 ty (.int .i64 0) Try.underlying41 hz rfl rfl g n 1 c (by omega)
      (fun j hj => by obtain rfl : j = 0 := by omega
                      rw [Nat.add_zero, World.cell?_of_block (w := w) (a := ⟨g, n, none⟩) (by rw [hw']), hlast]; rfl)
      (fun j hj => by obtain rfl : j = 0 := by omega
                      rw [Nat.add_zero, World.frozen?_of_block (w := w) (a := ⟨g, n, none⟩) (by rw [hw'])]; exact hfn)
    rw [this]
    rfl⟩
  have HP := Fact.mk hpast
  have HG : Fact (w.grownBy (w.setCell ⟨g, n, none⟩ (.int .i64 0)) (some g)) := ⟨⟨rfl, rfl, rfl, by simp [World.setCell], fun k hk hne => Below.heap_setCell _ _ _ _ (fun e => hne (by rw [e]))⟩⟩
  clear h hcut hpast hat hfz hz hlast
  go_enter Try.func95, Try.ntmps95
  have j1 : (0 : Int) ≤ (n : Int) := by omega
  by_cases hcc : cap = n + 1
  · subst hcc
    have hc1 := HC.out (some ⟨g, n, none⟩) (some ⟨g, 0, none⟩) 1 0
    go_wp2_with fail
    have hcl := HCL.out 0 (1) w.drew rfl
    go_region
    go_wp2
    go_ret
    refine ⟨g, _, rfl, rfl, ?_, ?_⟩
    · exact own_below HP.out ((Below.refl _ (w.setCell ⟨g, n, none⟩ (.int .i64 0))).drew) (Nat.le_refl _)
    · obtain ⟨a1, a2, a3, a4, a5⟩ := HG.out; exact ⟨a1, a2, a3, a4, a5⟩
  · have hc1 := HC.out (some ⟨g, n, none⟩) (some ⟨g, n + 1, none⟩) (cap - n) (cap - (n + 1))
    go_wp2_with fail
    have hcl := HCL.out 0 (cap - n) w.drew rfl
    go_region
    go_wp2
    go_ret
    refine ⟨g, _, rfl, rfl, ?_, ?_⟩
    · exact own_below HP.out ((Below.refl _ (w.setCell ⟨g, n, none⟩ (.int .i64 0))).drew) (Nat.le_refl _)
    · obtain ⟨a1, a2, a3, a4, a5⟩ := HG.out; exact ⟨a1, a2, a3, a4, a5⟩
end Go.Proofs.Ytllimmmgjpnhkaa
