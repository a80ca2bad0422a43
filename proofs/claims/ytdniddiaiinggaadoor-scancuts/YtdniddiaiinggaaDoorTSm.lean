/- SameAttrs and SameToken with attributes. -/
import Derived.Test.YtdniddiaiinggaaDoorTQ
import Derived.Deep.QuietTactic
import Derived.BigQuiet
set_option linter.unusedVariables false
namespace Go.Proofs.YtdniddiaiinggaaDoor
open Go.RowKit M

/-- the attributes lie there -/
structure LiesA (w : World) (a : Option Addr) (L : AL) : Prop where
  at_ : ∀ j n x, L[j]? = some (n, x) → ∃ g o, a = some ⟨g, o, none⟩ ∧ g < w.heap.size ∧ w.cell? ⟨g, o + j * 2, none⟩ = some (.string (tx n)) ∧ w.cell? ⟨g, o + j * 2 + 1, none⟩ = some (.string (tx x))
theorem LiesA.keep {w w' : World} {a : Option Addr} {L : AL} (h : LiesA w a L) (hb : Below w.heap.size w w') : LiesA w' a L :=
  ⟨fun j n x hj => by
    obtain ⟨g, o, h1, h2, h3, h4⟩ := h.at_ j n x hj
    exact ⟨g, o, h1, Nat.lt_of_lt_of_le h2 hb.size, (hb.cell (p := ⟨g, _, none⟩) h2).trans h3, (hb.cell (p := ⟨g, _, none⟩) h2).trans h4⟩⟩
theorem row_lies {w : World} {B : Nat} {v : Value} {L : AL} (h : w.ownsRow B 30 2 v L.length (rowA L)) : ∃ a c, v = .slice a L.length c ∧ LiesA w a L := by
  cases L with
  | nil =>
    obtain ⟨a, c, rfl⟩ := row_slice h
    exact ⟨a, c, rfl, ⟨fun j n x hj => by simp at hj⟩⟩
  | cons p r =>
    obtain ⟨g, cap, rfl, _, hg, _, hc⟩ := row_cells h (by simp)
    refine ⟨_, cap, rfl, ⟨fun j n x hj => ?_⟩⟩
    have := hc j n x hj
    exact ⟨g, 0, rfl, hg, by rw [Nat.zero_add]; exact this.1, by rw [Nat.zero_add]; exact this.2⟩
theorem below_drewN {B : Nat} {a w : World} (h : Below B a w) (n : Nat) : Below B a (w.drewN n) := ⟨h.os, h.tape, h.output, h.size, h.block⟩
theorem bl2 {w w' : World} {o p : Obj} (h : Below ((w.alloc o).alloc p).heap.size ((w.alloc o).alloc p) w') : Below w.heap.size w w' := by
  have h0 := (bl1 w o).trans ((bl1 (w.alloc o) p).mono (bl1 w o).size)
  exact h0.trans (h.mono h0.size)
set_option maxRecDepth 20000 in
set_option maxHeartbeats 2000000 in
theorem sameAttrs_eq (L : AL) (a b : Option Addr) (c d n : Nat) (hn : L.length = n) (hm : IsLen n) (w : World) (ha : LiesA w a L) (hb : LiesA w b L) :
    Calls Tryd.prog 21 #[.slice a n c, .slice b n d] w fun e w' => e = .returned (.bool true) ∧ Below w.heap.size w w' := by
  have HA := Fact.mk ha
  have HB := Fact.mk hb
  have HN := Fact.mk hn
  clear ha hb hn
  have q0 : ((n : Int) != (n : Int)) = false := by simp
  have q0n : (n != n) = false := by simp
  go_enter Tryd.func21, Tryd.ntmps21
  go_wp2_with fail
  go_loopw [5] (fun i wx => ∃ j : Nat, i = .int .i64 j ∧ j ≤ n ∧ Below w.heap.size w wx) (fun i _ => n - (intOf i).toNat)
  case atStart => exact ⟨0, rfl, Nat.zero_le _, Below.refl _ _⟩
  case round =>
    obtain ⟨j, rfl, hj, hbr⟩ := hrel
    by_cases hlt : j < n
    · have hw1 : wrap64 ((j : Int) + 1) = (j : Int) + 1 := wrap_ok (m := j + 1) rfl ⟨by have := hm.le; omega⟩
      have g1 : (j : Int) < n := by omega
      have g2 : decide ((j : Int) < n) = true := decide_eq_true g1
      have g2n : decide (j < n) = true := decide_eq_true hlt
      have g3 : (0 : Int) ≤ j := by omega
      obtain ⟨⟨nm, x⟩, hx⟩ : ∃ p, L[j]? = some p := ⟨_, List.getElem?_eq_getElem (by rw [HN.out]; exact hlt)⟩
      obtain ⟨g, o, rfl, _, x0, x1⟩ := (HA.out.keep hbr).at_ j nm x hx
      obtain ⟨g', o', rfl, _, y0, y1⟩ := (HB.out.keep hbr).at_ j nm x hx
      obtain ⟨N, hN⟩ : ∃ N : ByteArray, tx nm = N := ⟨_, rfl⟩
      obtain ⟨X, hX⟩ : ∃ N : ByteArray, tx x = N := ⟨_, rfl⟩
      rw [hN] at x0 y0
      rw [hX] at x1 y1
      have e1 : (N.toList == N.toList) = true := beq_self_eq_true _
      have e2 : (X.toList == X.toList) = true := beq_self_eq_true _
      clear hN hX hx
      go_wp2_with fail
      go_quiet (fail)
      go_wp2_with fail
      go_roundw
      case rel => exact ⟨j + 1, by (first | exact int_eq rfl | exact int_eq hw1), hlt, below_drewN hbr _⟩
      case measure => first | exact meas_up hlt | (simp only [hw1]; exact meas_up hlt)
    · have g1 : (n : Int) ≤ j := by omega
      have g2 : decide ((j : Int) < n) = false := decide_eq_false (by omega)
      have g2n : decide (j < n) = false := decide_eq_false hlt
      go_wp2_with fail
      go_ret
      exact ⟨rfl, hbr⟩
set_option maxRecDepth 20000 in
set_option maxHeartbeats 1000000 in
theorem sameToken_eq (kd : Int) (nm x : ByteArray) (r : Bool) (L : AL) (a b : Option Addr) (c d n : Nat) (hn : L.length = n) (hm : IsLen n) (w : World) (ha : LiesA w a L) (hb : LiesA w b L) :
    Calls Tryd.prog 12 #[tokV kd nm x (.slice a n c) r, tokV kd nm x (.slice b n d) r] w fun e w' => e = .returned (.bool true) ∧ Below w.heap.size w w' := by
  have q1 : (kd == kd) = true := beq_self_eq_true _
  have q2 : (nm.toList == nm.toList) = true := beq_self_eq_true _
  have q3 : (x.toList == x.toList) = true := beq_self_eq_true _
  have q4 : (r == r) = true := beq_self_eq_true _
  have HA := Fact.mk ha
  have HB := Fact.mk hb
  have HN := Fact.mk hn
  clear ha hb hn
  go_enter Tryd.func12, Tryd.ntmps12
  go_wp2_with (go_at_call 21; refine (sameAttrs_eq L a b c d n HN.out hm _ ((HA.out.keep (bl1 _ _)).keep (bl1 _ _)) ((HB.out.keep (bl1 _ _)).keep (bl1 _ _))).mono ?_; rintro e w2 ⟨rfl, hb2⟩)
  go_ret
  exact ⟨rfl, bl2 hb2⟩
end Go.Proofs.YtdniddiaiinggaaDoor
