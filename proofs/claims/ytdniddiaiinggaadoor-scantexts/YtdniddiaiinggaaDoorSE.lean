/- The document's example; tokens read; the document's own Lower. -/
import Derived.Test.YtdniddiaiinggaaDoorSB
set_option linter.unusedVariables false
namespace Go.Proofs.YtdniddiaiinggaaDoor
open Go.RowKit M

set_option maxRecDepth 20000 in
set_option maxHeartbeats 1000000 in
theorem refLower_any (s T : ByteArray) (hT : Fact (lwL s.data.toList = T.data.toList)) (hs : IsSm s.size) (w : World) : Calls Tryd.prog 10 #[.string s] w fun e w' => e = .returned (.string T) ∧ Below w.heap.size w w' := by
  have hcv := run_bytes_of_string (P := Tryd.prog) w 9 46 5 s Tryd.underlying9 Tryd.underlying46 Tryd.underlying5
  have hcap := grownCap_ge w s.size 0 5
  obtain ⟨cp, hcp⟩ : ∃ cp, grownCap w s.size 0 5 = cp := ⟨_, rfl⟩
  rw [hcp] at hcv hcap
  have hlow := low_start lw w s cp
  obtain ⟨W, hW⟩ : ∃ W, w.drew.alloc (.cells (bytesRow s cp) 5 ((bytesRow s cp).size, (bytesRow s cp).size + 1)) = W := ⟨_, rfl⟩
  have hb : Below w.heap.size w W := by rw [← hW]; exact (Below.refl _ w).drew.alloc (Nat.le_refl _) _
  rw [hW] at hcv hlow
  clear hW hcp
  have hsz := hs.le
  go_enter Tryd.func10, Tryd.ntmps10
  go_wp2
  go_loopw [4] (fun i wx => ∃ k : Nat, i = .int .i64 k ∧ k ≤ s.size ∧ Below w.heap.size w wx ∧ Low lw wx w.heap.size s.data.toList k) (fun i _ => s.size - (intOf i).toNat)
  case atStart => exact ⟨0, rfl, Nat.zero_le _, hb, hlow⟩
  case round =>
    obtain ⟨k, rfl, hk, hbr, hl⟩ := hrel
    by_cases hlt : k < s.size
    · obtain ⟨b, hbk⟩ : ∃ b, s.data.toList[k]? = some b := ⟨_, List.getElem?_eq_getElem (by rw [← Lib.size_eq]; exact hlt)⟩
      have hc := hl.cells k b hbk
      rw [if_neg (Nat.lt_irrefl _)] at hc
      have hf := hl.free k (by rw [← Lib.size_eq]; exact hlt)
      have HB := Fact.mk hbk
      have HL := Fact.mk hl
      clear hbk hl
      go_wp2
      · have h1 : (65 : Int) ≤ (b.toNat : Int) := by assumption
        have h2 : (b.toNat : Int) ≤ 90 := by assumption
        go_roundw
        case rel => exact ⟨k + 1, by go_num, by omega, hbr.setCell (Nat.le_refl _) _, low_put HL.out HB.out (by have := lw_hit b h1 h2; omega)⟩
        case measure => simp [intOf]; omega
      · have h2 : (90 : Int) < (b.toNat : Int) := by assumption
        go_roundw
        case rel => exact ⟨k + 1, by go_num, by omega, hbr, low_keep HL.out HB.out (by unfold lw; rw [if_neg (by omega)])⟩
        case measure => simp [intOf]; omega
      · have h2 : ¬ (65 : Int) ≤ (b.toNat : Int) := by assumption
        go_roundw
        case rel => exact ⟨k + 1, by go_num, by omega, hbr, low_keep HL.out HB.out (by unfold lw; rw [if_neg (by omega)])⟩
        case measure => simp [intOf]; omega
    · have hcv2 := low_conv (cp := cp) hl hlt hT.out
      clear hl hlow hcv
      go_wp2
      go_ret
      exact ⟨rfl, hbr⟩


theorem cellsT_at : ∀ {l : List (Tk × Value)} {j : Nat} {p : Tk × Value}, l[j]? = some p → ∀ i u, (cells5 p)[i]? = some u → (cellsT l)[j * 5 + i]? = some u
  | [], j, p, h, i, u, hi => by simp at h
  | q :: r, 0, p, h, i, u, hi => by
    simp at h
    subst h
    have e : cellsT (q :: r) = cells5 q ++ cellsT r := by simp [cellsT]
    have hl := (List.getElem?_eq_some_iff.1 hi).1
    rw [e, Nat.zero_mul, Nat.zero_add, List.getElem?_append_left hl]
    exact hi
  | q :: r, j + 1, p, h, i, u, hi => by
    have h2 : r[j]? = some p := by simpa using h
    have e : cellsT (q :: r) = cells5 q ++ cellsT r := by simp [cellsT]
    have hl : (cells5 q).length = 5 := rfl
    rw [e, List.getElem?_append_right (by rw [hl]; omega), hl, show (j + 1) * 5 + i - 5 = j * 5 + i by omega]
    exact cellsT_at h2 i u hi
/-- a list of tokens, read -/
theorem TokL.read {w : World} {B : Nat} {v : Value} {its : List (Tk × Value)} (h : TokL w B v its) (h0 : 0 < its.length) : ∃ g cap, v = .slice (some ⟨g, 0, none⟩) its.length cap ∧ B ≤ g ∧ g < w.heap.size ∧ its.length ≤ cap ∧
    ∀ j p, its[j]? = some p → w.cell? ⟨g, j * 5, none⟩ = some (.int .i64 p.1.kd) ∧ w.cell? ⟨g, j * 5 + 1, none⟩ = some (.string p.1.n) ∧ w.cell? ⟨g, j * 5 + 2, none⟩ = some (.string p.1.x) ∧ w.cell? ⟨g, j * 5 + 3, none⟩ = some p.2 ∧ w.cell? ⟨g, j * 5 + 4, none⟩ = some (.bool p.1.raw) := by
  rcases h.row.2 with ⟨rfl, h1⟩ | ⟨g, cap, cur, rfl, hg, hh, hc1, hc2, hs, ht⟩
  · omega
  · refine ⟨g, cap, rfl, hg, (Array.getElem?_eq_some_iff.1 hh).1, hc1, fun j p hj => ?_⟩
    have q : ∀ i u, (cells5 p)[i]? = some u → w.cell? ⟨g, j * 5 + i, none⟩ = some u := fun i u hi => by
      have := h.row.cells (g := g) rfl _ _ (cellsT_at hj i u hi)
      rw [add_cell, Nat.zero_add] at this
      exact this
    exact ⟨q 0 _ rfl, q 1 _ rfl, q 2 _ rfl, q 3 _ rfl, q 4 _ rfl⟩
theorem TokL.keep {w w' : World} {B : Nat} {v : Value} {its : List (Tk × Value)} (h : TokL w B v its) (hb : Below w.heap.size w w') : TokL w' B v its :=
  ⟨own_keep h.row hb, fun y hy => own_keep (h.avs y hy) hb⟩
/-- of the empty text the end alone -/
theorem empty_tr {tr : List Pc} {x : Pc} (h : TrR [] (tr ++ [x])) (hn : ∀ y ∈ tr, y.t.kd ≠ 6) : tr = [] := by
  have h1 := TrR.len tr h.pre hn
  simp at h1
  exact List.eq_nil_of_length_eq_zero (by omega)
set_option maxRecDepth 20000 in
set_option maxHeartbeats 2000000 in
theorem awake11_true (w : World) (hl : Laid w) : Calls Tryd.prog 8 #[] w fun e w' => e = .returned (.bool true) ∧ Below w.heap.size w w' := by
  have HL := Fact.mk hl
  clear hl
  go_enter Tryd.func8, Tryd.ntmps8
  go_wp2_with (go_at_call 9; refine (all_any ⟨#[]⟩ (by decide) _ HL.out).mono ?_; rintro e w2 ⟨v, tr, x, its, rfl, hR⟩; have e1 := empty_tr (tr := tr) (x := x) hR.trs hR.no6; subst e1; have e2 : its = [] := (by have := hR.map; simpa [sayd] using this); subst e2; have HR := Fact.mk hR; obtain ⟨g, cap, ev, hg1, hg2, hg3, hc⟩ := hR.toks.read (by simp); have ev2 : v = .slice (some ⟨g, 0, none⟩) 1 cap := ev; subst ev2; obtain ⟨c0, _⟩ := hc 0 _ rfl; rw [Nat.zero_mul] at c0; have c0' : w2.cell? ⟨g, 0, none⟩ = some (.int .i64 6) := c0; clear hc hR ev c0)
  go_ret
  exact ⟨rfl, HR.out.below⟩
end Go.Proofs.YtdniddiaiinggaaDoor
