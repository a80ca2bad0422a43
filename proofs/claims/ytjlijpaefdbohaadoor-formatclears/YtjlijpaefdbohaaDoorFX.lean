/- Clear. -/
import Derived.Test.YtjlijpaefdbohaaDoorFV
set_option linter.unusedVariables false
set_option linter.unusedSimpArgs false
namespace Go.Proofs.YtjlijpaefdbohaaDoor
open Go.RowKit

/-- how many are left of the first j when all up to a marker is gone -/
def clN (L : List It) : Nat → Nat
  | 0 => 0
  | j + 1 => if ((L[j]?).map It.mr).getD false = true then j else clN L j

set_option maxRecDepth 20000 in
set_option maxHeartbeats 1000000 in
theorem clear_any (L : List It) (B p mb c : Nat) (v : Value) (w : World) (h : FL w B p L v mb c) (hc : c + L.length < 100000) (N : Nat) (hN : Fact (clN L L.length = N)) :
    Calls Tryd.prog 13 #[.pointer (some ⟨p, 0, none⟩)] w fun e w' => e = .returned (.tuple #[]) ∧ Tn w w' B p mb v (L.take N) (c + L.length) := by
  have HF := Fact.mk h
  obtain ⟨al, hal⟩ : ∃ al, L.length = al := ⟨_, rfl⟩
  have HA := Fact.mk hal
  have hf := h.few
  rw [hal] at hf hN hc ⊢
  have HC := Fact.mk hc
  clear h hal hc
  have HLEN := Fact.mk (len_any L B p mb c v w HF.out)
  rw [HA.out] at HLEN
  have hw0 : wrap64 ((al : Int) - 1) = (al : Int) - 1 := by unfold wrap64; omega
  go_enter Tryd.func13, Tryd.ntmps13
  go_wp2_with (go_at_call 29; refine HLEN.out.mono ?_; rintro e w1 ⟨rfl, e1⟩; have e1' := e1.symm; subst e1')
  try simp only [hw0]
  clear hw0
  go_loopw [2] (fun i wx => ∃ j : Nat, j ≤ al ∧ i = .int .i64 ((j : Int) - 1) ∧ Fact (clN L j = N) ∧ Fact (∃ v1, FL wx B p (L.take j) v1 mb (c + (al - j)) ∧ KeepX w wx (inF p mb v) ∧ (v1.ownBlock = v.ownBlock ∨ ∃ g, v1.ownBlock = some g ∧ w.heap.size ≤ g))) (fun i _ => ((intOf i) + 1).toNat)
  case atStart => exact ⟨al, Nat.le_refl _, rfl, hN, ⟨v, by rw [← HA.out, List.take_length, Nat.sub_self, Nat.add_zero]; exact HF.out, KeepX.refl _ _, .inl rfl⟩⟩
  case round =>
    rename World => wx
    obtain ⟨j, hj, rfl, hI, hR⟩ := hrel
    obtain ⟨v1, f1, k1, o1⟩ := hR.out
    cases j with
    | zero =>
      have e0 : (((0 : Nat) : Int) - 1) = -1 := by omega
      rw [e0]
      go_wp2_with fail
      go_end0
      refine ⟨rfl, v1, ?_, k1, o1⟩
      have hz : N = 0 := by rw [← hI.out]; rfl
      rw [hz]
      exact f1.mono (by omega) (by have := HC.out; omega)
    | succ j =>
      have e1 : (((j + 1 : Nat) : Int) - 1) = (j : Int) := by omega
      rw [e1]
      obtain ⟨x, hx⟩ : ∃ x, L[j]? = some x := ⟨_, List.getElem?_eq_getElem (by rw [HA.out]; omega)⟩
      have hx2 : (L.take (j + 1))[j]? = some x := by rw [List.getElem?_take, if_pos (by omega)]; exact hx
      have hll : (L.take (j + 1)).length = j + 1 := by rw [List.length_take, HA.out]; omega
      obtain ⟨g, cap', ev, q1, q2, q3, q4, hat, _⟩ := own_get f1.row (by omega)
      rw [hll] at ev q1
      subst ev
      have hr := f1.row
      rw [hll] at hr
      obtain ⟨y0, y1, y2, y3, y4⟩ := five_cells wx (L.take (j + 1)) B g (j + 1) cap' j x hr hx2
      have hc0 : wx.cell? ⟨p, 0, none⟩ = some (.slice (some ⟨g, 0, none⟩) (j + 1) cap') := by simp [World.cell?, f1.box]
      have hto := takeOut_any (L.take (j + 1)) B p mb (c + (al - (j + 1))) _ wx j x f1 hx2 (by have := HC.out; omega)
      have el : (L.take (j + 1)).take j ++ (L.take (j + 1)).drop (j + 1) = L.take j := by
        rw [List.take_take, List.drop_eq_nil_of_le (by omega), List.append_nil]
        congr 1
        omega
      rw [el, show c + (al - (j + 1)) + 1 = c + (al - j) by omega] at hto
      have HTO := Fact.mk hto
      have HI := Fact.mk hI.out
      have hst : clN L (j + 1) = if x.mr = true then j else clN L j := by simp [clN, hx]
      rw [hI.out] at hst
      have HST := Fact.mk hst
      have K1 := Fact.mk k1
      have O1 := Fact.mk o1
      obtain ⟨mr, hmr⟩ : ∃ mr, x.mr = mr := ⟨_, rfl⟩
      rw [hmr] at y3 HST
      have hji : (j : Int) < (j : Int) + 1 := by omega
      have hj0 : (0 : Int) ≤ (j : Int) := Int.natCast_nonneg _
      have q2' : cap' ≤ 9223372036854775807 := q2
      clear f1 k1 o1 hR hI hx hx2 hll hat hr y0 y1 y2 y4 hto el hst q2 q3 q4 hmr hN
      cases mr with
      | true =>
        go_wp2_with (go_at_call 34; refine HTO.out.mono ?_; rintro e w2 ⟨rfl, ht⟩; have HT := Fact.mk ht; clear ht)
        refine bodyPost_ret (results_none rfl _ _ _) rfl ?_
        refine ⟨rfl, ?_⟩
        have hn : N = j := by have := HST.out; simpa using this
        obtain ⟨v2, f2, k2, o2⟩ := (Tn.trans K1.out O1.out HT.out).out
        rw [hn]
        exact ⟨v2, f2.mono (by omega) (by have := HC.out; omega), k2, o2⟩
      | false =>
        go_wp2_with (go_at_call 34; refine HTO.out.mono ?_; rintro e w2 ⟨rfl, ht⟩; have HT := Fact.mk ht; clear ht)
        go_roundw
        case rel =>
          obtain ⟨v2, f2, k2, o2⟩ := (Tn.trans K1.out O1.out HT.out).out
          exact ⟨j, by omega, by go_num, ⟨by have := HST.out; simpa using this.symm⟩, ⟨v2, f2, k2, o2⟩⟩
        case measure => simp [intOf]
end Go.Proofs.YtjlijpaefdbohaaDoor
