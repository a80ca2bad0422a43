/- The walk of StackBorders: it returns true. -/
import Derived.Test.YtnioibpeagffdaaKP
import Derived.Deep.RegionHeld3
set_option linter.unusedVariables false
namespace Go.Proofs.Ytnioibpeagffdaa
open Go.RowKit Go.Shelf

def N10 : List (List UInt8) := [[97, 112, 112, 108, 101, 116], [99, 97, 112, 116, 105, 111, 110], [116, 100], [116, 104], [109, 97, 114, 113, 117, 101, 101], [111, 98, 106, 101, 99, 116], [111, 108], [117, 108], [98, 117, 116, 116, 111, 110], [116, 97, 98, 108, 101]]
def W3 (i : Nat) : List (List UInt8) := [[104, 116, 109, 108], [112], txL N10 i]
/-- what is wanted of the elements of a class -/
def wl (b1 b2 b3 b4 b5 : Bool) (s : Nat) : Bool := if s = 1 then b1 else if s = 2 then b2 else if s = 3 then b3 else if s = 4 then b4 else b5
theorem bordA : ∀ i : Fin 10, (i.val < 6) → ∀ s : Fin 5, s.val ≠ 0 → inL (W3 i) [112] (s.val : Int) 3 = wl false false false true false s.val := by decide
theorem bordB : ∀ i : Fin 10, (6 ≤ i.val ∧ i.val < 8) → ∀ s : Fin 5, s.val ≠ 0 → inL (W3 i) [112] (s.val : Int) 3 = wl true false true true false s.val := by decide
theorem bordC : ∀ i : Fin 10, (i.val = 8) → ∀ s : Fin 5, s.val ≠ 0 → inL (W3 i) [112] (s.val : Int) 3 = wl true true false true false s.val := by decide
theorem bordD : ∀ i : Fin 10, (i.val = 9) → ∀ s : Fin 5, s.val ≠ 0 → inL (W3 i) [112] (s.val : Int) 3 = wl false false false false false s.val := by decide
theorem bord_in {i s : Nat} {b1 b2 b3 b4 b5 : Bool} (h : inL (W3 i) [112] (s : Int) 3 = wl b1 b2 b3 b4 b5 s) : inK (lits (W3 i)) ⟨#[112]⟩ (s : Int) (lits (W3 i)).length = wl b1 b2 b3 b4 b5 s := by
  rw [inK_lits, p_list]; exact h
theorem tab_new (w : World) : (∀ i, i < 10 → (w.alloc (.cells #[.string ⟨#[97, 112, 112, 108, 101, 116]⟩, .string ⟨#[99, 97, 112, 116, 105, 111, 110]⟩, .string ⟨#[116, 100]⟩, .string ⟨#[116, 104]⟩, .string ⟨#[109, 97, 114, 113, 117, 101, 101]⟩, .string ⟨#[111, 98, 106, 101, 99, 116]⟩, .string ⟨#[111, 108]⟩, .string ⟨#[117, 108]⟩, .string ⟨#[98, 117, 116, 116, 111, 110]⟩, .string ⟨#[116, 97, 98, 108, 101]⟩] 37)).cell? ⟨w.heap.size, i, none⟩ = some (.string (tx (lits N10) i))) := by
  intro i hi
  rw [World.cell?_alloc_new]
  obtain rfl | rfl | rfl | rfl | rfl | rfl | rfl | rfl | rfl | rfl : i = 0 ∨ i = 1 ∨ i = 2 ∨ i = 3 ∨ i = 4 ∨ i = 5 ∨ i = 6 ∨ i = 7 ∨ i = 8 ∨ i = 9 := by omega
  all_goals rfl
theorem want_new (w : World) (b1 b2 b3 b4 : Bool) (s : Nat) (h0 : s ≠ 0) (h5 : s < 5) : (w.alloc (.cells #[.bool false, .bool b1, .bool b2, .bool b3, .bool b4] 38)).cell? ⟨w.heap.size, s, none⟩ = some (.bool (wl b1 b2 b3 b4 false s)) := by
  rw [World.cell?_alloc_new]
  obtain rfl | rfl | rfl | rfl : s = 1 ∨ s = 2 ∨ s = 3 ∨ s = 4 := by omega
  all_goals rfl
theorem w3_tx (i : Nat) (Y : ByteArray) (h : tx (lits N10) i = Y) (hi : i < 10) : lits (W3 i) = [⟨#[104, 116, 109, 108]⟩, ⟨#[112]⟩, Y] := by
  subst h
  obtain rfl | rfl | rfl | rfl | rfl | rfl | rfl | rfl | rfl | rfl : i = 0 ∨ i = 1 ∨ i = 2 ∨ i = 3 ∨ i = 4 ∨ i = 5 ∨ i = 6 ∨ i = 7 ∨ i = 8 ∨ i = 9 := by omega
  all_goals rfl
theorem ss_three (w : World) (x y z : ByteArray) : SS (w.heap.size + 1) (w.alloc (.cells #[.string x, .string y, .string z] 9)) (.slice (some ⟨w.heap.size, 0, none⟩) 3 3) [x, y, z] := by
  refine ⟨_, _, w.heap.size, 0, rfl, Nat.le_refl _, by unfold maxLen; omega, fun i hi => ⟨rfl, by omega, ?_⟩⟩
  rw [World.cell?_alloc_new]
  obtain rfl | rfl | rfl : i = 0 ∨ i = 1 ∨ i = 2 := by simp at hi; omega
  all_goals rfl
theorem keepB {W0 W w' : World} {p : Addr} {q : Value} {n : Nat} (hn : p.block < W0.heap.size) (hb : Below W.heap.size W w') (h : Below W0.heap.size W0 W ∧ W.cell? p = some q) : Below W0.heap.size W0 w' ∧ w'.cell? p = some q :=
  ⟨h.1.trans (hb.mono h.1.size), (hb.cell (p := p) (Nat.lt_of_lt_of_le hn h.1.size)).trans h.2⟩
def WT : List (List UInt8) := [[116, 97, 98, 108, 101]]
theorem ex_table : inK [⟨#[116, 97, 98, 108, 101]⟩] ⟨#[116, 97, 98, 108, 101]⟩ 1 1 = true := by
  have := inK_lits WT ⟨#[116, 97, 98, 108, 101]⟩ 1 1
  rw [show (⟨#[116, 97, 98, 108, 101]⟩ : ByteArray).toList = [116, 97, 98, 108, 101] from lit_toList [116, 97, 98, 108, 101]] at this
  exact this.trans (by decide)

set_option maxRecDepth 100000 in
set_option maxHeartbeats 8000000 in
theorem borders12_walk (w : World) : Calls Try.prog 7 #[] w fun e w' => e = .returned (.bool true) ∧ Below w.heap.size w w' := by
  have HT := Fact.mk (tab_new w)
  have hb1 : Below w.heap.size w (w.alloc (.cells #[.string ⟨#[97, 112, 112, 108, 101, 116]⟩, .string ⟨#[99, 97, 112, 116, 105, 111, 110]⟩, .string ⟨#[116, 100]⟩, .string ⟨#[116, 104]⟩, .string ⟨#[109, 97, 114, 113, 117, 101, 101]⟩, .string ⟨#[111, 98, 106, 101, 99, 116]⟩, .string ⟨#[111, 108]⟩, .string ⟨#[117, 108]⟩, .string ⟨#[98, 117, 116, 116, 111, 110]⟩, .string ⟨#[116, 97, 98, 108, 101]⟩] 37)) := (Below.refl _ w).alloc (Nat.le_refl _) _
  have hz1 : (w.alloc (.cells #[.string ⟨#[97, 112, 112, 108, 101, 116]⟩, .string ⟨#[99, 97, 112, 116, 105, 111, 110]⟩, .string ⟨#[116, 100]⟩, .string ⟨#[116, 104]⟩, .string ⟨#[109, 97, 114, 113, 117, 101, 101]⟩, .string ⟨#[111, 98, 106, 101, 99, 116]⟩, .string ⟨#[111, 108]⟩, .string ⟨#[117, 108]⟩, .string ⟨#[98, 117, 116, 116, 111, 110]⟩, .string ⟨#[116, 97, 98, 108, 101]⟩] 37)).heap.size = w.heap.size + 1 := by simp
  obtain ⟨W1, hW1⟩ : ∃ W1, w.alloc (.cells #[.string ⟨#[97, 112, 112, 108, 101, 116]⟩, .string ⟨#[99, 97, 112, 116, 105, 111, 110]⟩, .string ⟨#[116, 100]⟩, .string ⟨#[116, 104]⟩, .string ⟨#[109, 97, 114, 113, 117, 101, 101]⟩, .string ⟨#[111, 98, 106, 101, 99, 116]⟩, .string ⟨#[111, 108]⟩, .string ⟨#[117, 108]⟩, .string ⟨#[98, 117, 116, 116, 111, 110]⟩, .string ⟨#[116, 97, 98, 108, 101]⟩] 37) = W1 := ⟨_, rfl⟩
  rw [hW1] at HT hb1 hz1
  have HB1 := Fact.mk hb1
  have HZ1 := Fact.mk hz1
  clear hb1 hz1
  have HW1 := Fact.mk hW1
  clear hW1
  have HA := Fact.mk awake12_true
  go_enter Try.func7, Try.ntmps7
  go_wp2_with fail
  rw [HW1.out]
  clear HW1
  go_loopw [2] (fun iv wx => ∃ i : Nat, i ≤ 10 ∧ iv = .int .i64 i ∧ Fact (Below W1.heap.size W1 wx)) (fun iv _ => 10 - (intOf iv).toNat)
  case atStart => exact ⟨0, Nat.zero_le _, rfl, ⟨Below.refl _ _⟩⟩
  case round =>
    rename World => wx
    obtain ⟨i, hi, rfl, hbx⟩ := hrel
    by_cases hlt : i < 10
    · have y0 := (hbx.out.cell (p := ⟨w.heap.size, i, none⟩) (by show w.heap.size < _; rw [HZ1.out]; omega)).trans (HT.out i hlt)
      obtain ⟨Y, hY⟩ : ∃ Y, tx (lits N10) i = Y := ⟨_, rfl⟩
      have hw3 := Fact.mk (w3_tx i Y hY hlt)
      rw [hY] at y0
      have i1 : (i : Int) < 10 := by omega
      have i0 : (0 : Int) ≤ i := by omega
      have HL := Fact.mk hlt
      clear hY hi
      rcases (show i < 6 ∨ (6 ≤ i ∧ i < 8) ∨ i = 8 ∨ i = 9 by omega) with hc | hc | hc | hc
      · have d1 : decide ((5 : Int) < i) = false := decide_eq_false (by omega)
        have d2 : decide ((i : Int) < 9) = true := decide_eq_true (by omega)
        have d3 : ((i : Int) == 8) = false := beq_eq_false_iff_ne.2 (by omega)
        have d4 : decide ((i : Int) < 8) = true := decide_eq_true (by omega)
        have k1 : ¬ (5 : Int) < i := by omega
        have k2 : (i : Int) < 9 := by omega
        have k4 : (i : Int) < 8 := by omega
        have HI : Fact (∀ s : Nat, s ≠ 0 → s < 5 → inK [⟨#[104, 116, 109, 108]⟩, ⟨#[112]⟩, Y] ⟨#[112]⟩ (s : Int) 3 = wl false false false true false s) := ⟨fun s h0 h5 => by
          have h := bordA ⟨i, HL.out⟩ hc ⟨s, h5⟩ h0
          have h2 := bord_in h
          rw [hw3.out] at h2
          exact h2⟩
        clear hc
        have hss := ss_three wx ⟨#[104, 116, 109, 108]⟩ ⟨#[112]⟩ Y
        have hww : ∀ s, s ≠ 0 → s < 5 → _ := fun s h0 h5 => want_new (wx.alloc (.cells #[.string ⟨#[104, 116, 109, 108]⟩, .string ⟨#[112]⟩, .string Y] 9)) false false false true s h0 h5
        have hb2 : Below wx.heap.size wx ((wx.alloc (.cells #[.string ⟨#[104, 116, 109, 108]⟩, .string ⟨#[112]⟩, .string Y] 9)).alloc (.cells #[.bool false, .bool false, .bool false, .bool false, .bool true] 38)) := ((Below.refl _ wx).alloc (Nat.le_refl _) _).alloc (by simp) _
        have hss2 := hss.below (m := wx.heap.size + 1) ((Below.refl _ (wx.alloc (.cells #[.string ⟨#[104, 116, 109, 108]⟩, .string ⟨#[112]⟩, .string Y] 9))).alloc (by simp) (.cells #[.bool false, .bool false, .bool false, .bool false, .bool true] 38)) (Nat.le_refl _)
        have hz2 : ((wx.alloc (.cells #[.string ⟨#[104, 116, 109, 108]⟩, .string ⟨#[112]⟩, .string Y] 9)).alloc (.cells #[.bool false, .bool false, .bool false, .bool false, .bool true] 38)).heap.size = wx.heap.size + 2 := by simp
        simp only [World.size_alloc] at hww
        go_wp2_with fail
        obtain ⟨W2, hW2⟩ : ∃ W2, (wx.alloc (.cells #[.string ⟨#[104, 116, 109, 108]⟩, .string ⟨#[112]⟩, .string Y] 9)).alloc (.cells #[.bool false, .bool false, .bool false, .bool false, .bool true] 38) = W2 := ⟨_, rfl⟩
        rw [hW2] at hww hb2 hss2 hz2 ⊢
        have HWW := Fact.mk hww
        have HB2 := Fact.mk hb2
        have HSS := Fact.mk hss2
        have HZ2 := Fact.mk hz2
        clear hW2 hww hb2 hss hss2 hz2 d1 d2 d3 d4 k1 k2 k4 y0
        go_loopw [5] (fun sv wy => ∃ s : Nat, s ≠ 0 ∧ s ≤ 5 ∧ sv = .int .i64 s ∧ Fact (Below W2.heap.size W2 wy)) (fun sv _ => 5 - (intOf sv).toNat)
        case atStart => exact ⟨1, by omega, by omega, rfl, ⟨Below.refl _ _⟩⟩
        case round =>
          rename World => wy
          obtain ⟨s, hs0, hs5, rfl, hby⟩ := hrel
          by_cases hs4 : s < 5
          · obtain ⟨q, hq⟩ : ∃ q, wl false false false true false s = q := ⟨_, rfl⟩
            have h1 := HI.out s hs0 hs4
            have h2 := HWW.out s hs0 hs4
            rw [hq] at h1 h2
            have z0 := (hby.out.cell (p := ⟨wx.heap.size + 1, s, none⟩) (by show wx.heap.size + 1 < _; rw [HZ2.out]; omega)).trans h2
            have hcall := in_any [⟨#[104, 116, 109, 108]⟩, ⟨#[112]⟩, Y] (.slice (some ⟨wx.heap.size, 0, none⟩) 3 3) ⟨#[112]⟩ (s : Int) wy.drew ((HSS.out.below (m := W2.heap.size) (hby.out.drew) (by rw [HZ2.out]; omega)).mono (by have := hby.out.size; rw [HZ2.out] at this; show _ ≤ wy.heap.size; omega)) q ⟨h1⟩
            have HCALL := Fact.mk hcall
            have hS0 : Below W2.heap.size W2 wy.drew ∧ wy.drew.cell? ⟨wx.heap.size + 1, s, none⟩ = some (.bool q) := ⟨hby.out.drew, z0⟩
            have HN : Fact (wx.heap.size + 1 < W2.heap.size) := ⟨by rw [HZ2.out]; omega⟩
            have j1 : (s : Int) < 5 := by omega
            have j2 : (s : Int) ≤ 4 := by omega
            have j3 : (0 : Int) ≤ s := by omega
            have j4 : (q != q) = false := by cases q <;> rfl
            have HS0 := Fact.mk hS0
            clear hcall h1 h2 hq z0 hS0 HI HWW
            go_wp2_with fail
            have hS0 := HS0.out
            clear HS0
            go_region_held3 (fun w' => Below W2.heap.size W2 w' ∧ w'.cell? ⟨wx.heap.size + 1, s, none⟩ = some (.bool q))
              (first | with_reducible exact hS0 | with_reducible exact keepB (p := ⟨wx.heap.size + 1, s, none⟩) (n := 0) HN.out hb5 (by assumption))
              (first | (go_at_call 12; refine HCALL.out.mono ?_; rintro e w5 ⟨rfl, hb5⟩))
            all_goals
              rename_i hHeld
              have HH := Fact.mk hHeld
              clear hHeld hS0
              go_wp2_with fail
              go_roundw
              case rel => exact ⟨s + 1, by omega, by omega, by go_num, ⟨HH.out.1⟩⟩
              case measure => simp [intOf]; omega
          · have j2 : ¬ (s : Int) ≤ 4 := by omega
            clear HI HWW
            go_wp2_with fail
            go_roundw
            case rel => exact ⟨i + 1, by have := HL.out; omega, by go_num, ⟨hbx.out.trans ((HB2.out.trans (hby.out.mono HB2.out.size)).mono hbx.out.size)⟩⟩
            case measure => have := HL.out; simp [intOf]; omega
      · have d1 : decide ((5 : Int) < i) = true := decide_eq_true (by omega)
        have d2 : decide ((i : Int) < 9) = true := decide_eq_true (by omega)
        have d3 : ((i : Int) == 8) = false := beq_eq_false_iff_ne.2 (by omega)
        have d4 : decide ((i : Int) < 8) = true := decide_eq_true (by omega)
        have k1 : (5 : Int) < i := by omega
        have k2 : (i : Int) < 9 := by omega
        have k4 : (i : Int) < 8 := by omega
        have HI : Fact (∀ s : Nat, s ≠ 0 → s < 5 → inK [⟨#[104, 116, 109, 108]⟩, ⟨#[112]⟩, Y] ⟨#[112]⟩ (s : Int) 3 = wl true false true true false s) := ⟨fun s h0 h5 => by
          have h := bordB ⟨i, HL.out⟩ hc ⟨s, h5⟩ h0
          have h2 := bord_in h
          rw [hw3.out] at h2
          exact h2⟩
        clear hc
        have hss := ss_three wx ⟨#[104, 116, 109, 108]⟩ ⟨#[112]⟩ Y
        have hww : ∀ s, s ≠ 0 → s < 5 → _ := fun s h0 h5 => want_new (wx.alloc (.cells #[.string ⟨#[104, 116, 109, 108]⟩, .string ⟨#[112]⟩, .string Y] 9)) true false true true s h0 h5
        have hb2 : Below wx.heap.size wx ((wx.alloc (.cells #[.string ⟨#[104, 116, 109, 108]⟩, .string ⟨#[112]⟩, .string Y] 9)).alloc (.cells #[.bool false, .bool true, .bool false, .bool true, .bool true] 38)) := ((Below.refl _ wx).alloc (Nat.le_refl _) _).alloc (by simp) _
        have hss2 := hss.below (m := wx.heap.size + 1) ((Below.refl _ (wx.alloc (.cells #[.string ⟨#[104, 116, 109, 108]⟩, .string ⟨#[112]⟩, .string Y] 9))).alloc (by simp) (.cells #[.bool false, .bool true, .bool false, .bool true, .bool true] 38)) (Nat.le_refl _)
        have hz2 : ((wx.alloc (.cells #[.string ⟨#[104, 116, 109, 108]⟩, .string ⟨#[112]⟩, .string Y] 9)).alloc (.cells #[.bool false, .bool true, .bool false, .bool true, .bool true] 38)).heap.size = wx.heap.size + 2 := by simp
        simp only [World.size_alloc] at hww
        go_wp2_with fail
        obtain ⟨W2, hW2⟩ : ∃ W2, (wx.alloc (.cells #[.string ⟨#[104, 116, 109, 108]⟩, .string ⟨#[112]⟩, .string Y] 9)).alloc (.cells #[.bool false, .bool true, .bool false, .bool true, .bool true] 38) = W2 := ⟨_, rfl⟩
        rw [hW2] at hww hb2 hss2 hz2 ⊢
        have HWW := Fact.mk hww
        have HB2 := Fact.mk hb2
        have HSS := Fact.mk hss2
        have HZ2 := Fact.mk hz2
        clear hW2 hww hb2 hss hss2 hz2 d1 d2 d3 d4 k1 k2 k4 y0
        go_loopw [5] (fun sv wy => ∃ s : Nat, s ≠ 0 ∧ s ≤ 5 ∧ sv = .int .i64 s ∧ Fact (Below W2.heap.size W2 wy)) (fun sv _ => 5 - (intOf sv).toNat)
        case atStart => exact ⟨1, by omega, by omega, rfl, ⟨Below.refl _ _⟩⟩
        case round =>
          rename World => wy
          obtain ⟨s, hs0, hs5, rfl, hby⟩ := hrel
          by_cases hs4 : s < 5
          · obtain ⟨q, hq⟩ : ∃ q, wl true false true true false s = q := ⟨_, rfl⟩
            have h1 := HI.out s hs0 hs4
            have h2 := HWW.out s hs0 hs4
            rw [hq] at h1 h2
            have z0 := (hby.out.cell (p := ⟨wx.heap.size + 1, s, none⟩) (by show wx.heap.size + 1 < _; rw [HZ2.out]; omega)).trans h2
            have hcall := in_any [⟨#[104, 116, 109, 108]⟩, ⟨#[112]⟩, Y] (.slice (some ⟨wx.heap.size, 0, none⟩) 3 3) ⟨#[112]⟩ (s : Int) wy.drew ((HSS.out.below (m := W2.heap.size) (hby.out.drew) (by rw [HZ2.out]; omega)).mono (by have := hby.out.size; rw [HZ2.out] at this; show _ ≤ wy.heap.size; omega)) q ⟨h1⟩
            have HCALL := Fact.mk hcall
            have hS0 : Below W2.heap.size W2 wy.drew ∧ wy.drew.cell? ⟨wx.heap.size + 1, s, none⟩ = some (.bool q) := ⟨hby.out.drew, z0⟩
            have HN : Fact (wx.heap.size + 1 < W2.heap.size) := ⟨by rw [HZ2.out]; omega⟩
            have j1 : (s : Int) < 5 := by omega
            have j2 : (s : Int) ≤ 4 := by omega
            have j3 : (0 : Int) ≤ s := by omega
            have j4 : (q != q) = false := by cases q <;> rfl
            have HS0 := Fact.mk hS0
            clear hcall h1 h2 hq z0 hS0 HI HWW
            go_wp2_with fail
            have hS0 := HS0.out
            clear HS0
            go_region_held3 (fun w' => Below W2.heap.size W2 w' ∧ w'.cell? ⟨wx.heap.size + 1, s, none⟩ = some (.bool q))
              (first | with_reducible exact hS0 | with_reducible exact keepB (p := ⟨wx.heap.size + 1, s, none⟩) (n := 0) HN.out hb5 (by assumption))
              (first | (go_at_call 12; refine HCALL.out.mono ?_; rintro e w5 ⟨rfl, hb5⟩))
            all_goals
              rename_i hHeld
              have HH := Fact.mk hHeld
              clear hHeld hS0
              go_wp2_with fail
              go_roundw
              case rel => exact ⟨s + 1, by omega, by omega, by go_num, ⟨HH.out.1⟩⟩
              case measure => simp [intOf]; omega
          · have j2 : ¬ (s : Int) ≤ 4 := by omega
            clear HI HWW
            go_wp2_with fail
            go_roundw
            case rel => exact ⟨i + 1, by have := HL.out; omega, by go_num, ⟨hbx.out.trans ((HB2.out.trans (hby.out.mono HB2.out.size)).mono hbx.out.size)⟩⟩
            case measure => have := HL.out; simp [intOf]; omega
      · have d1 : decide ((5 : Int) < i) = true := decide_eq_true (by omega)
        have d2 : decide ((i : Int) < 9) = true := decide_eq_true (by omega)
        have d3 : ((i : Int) == 8) = true := beq_iff_eq.2 (by omega)
        have d4 : decide ((i : Int) < 8) = false := decide_eq_false (by omega)
        have k1 : (5 : Int) < i := by omega
        have k2 : (i : Int) < 9 := by omega
        have k4 : ¬ (i : Int) < 8 := by omega
        have HI : Fact (∀ s : Nat, s ≠ 0 → s < 5 → inK [⟨#[104, 116, 109, 108]⟩, ⟨#[112]⟩, Y] ⟨#[112]⟩ (s : Int) 3 = wl true true false true false s) := ⟨fun s h0 h5 => by
          have h := bordC ⟨i, HL.out⟩ hc ⟨s, h5⟩ h0
          have h2 := bord_in h
          rw [hw3.out] at h2
          exact h2⟩
        clear hc
        have hss := ss_three wx ⟨#[104, 116, 109, 108]⟩ ⟨#[112]⟩ Y
        have hww : ∀ s, s ≠ 0 → s < 5 → _ := fun s h0 h5 => want_new (wx.alloc (.cells #[.string ⟨#[104, 116, 109, 108]⟩, .string ⟨#[112]⟩, .string Y] 9)) true true false true s h0 h5
        have hb2 : Below wx.heap.size wx ((wx.alloc (.cells #[.string ⟨#[104, 116, 109, 108]⟩, .string ⟨#[112]⟩, .string Y] 9)).alloc (.cells #[.bool false, .bool true, .bool true, .bool false, .bool true] 38)) := ((Below.refl _ wx).alloc (Nat.le_refl _) _).alloc (by simp) _
        have hss2 := hss.below (m := wx.heap.size + 1) ((Below.refl _ (wx.alloc (.cells #[.string ⟨#[104, 116, 109, 108]⟩, .string ⟨#[112]⟩, .string Y] 9))).alloc (by simp) (.cells #[.bool false, .bool true, .bool true, .bool false, .bool true] 38)) (Nat.le_refl _)
        have hz2 : ((wx.alloc (.cells #[.string ⟨#[104, 116, 109, 108]⟩, .string ⟨#[112]⟩, .string Y] 9)).alloc (.cells #[.bool false, .bool true, .bool true, .bool false, .bool true] 38)).heap.size = wx.heap.size + 2 := by simp
        simp only [World.size_alloc] at hww
        go_wp2_with fail
        obtain ⟨W2, hW2⟩ : ∃ W2, (wx.alloc (.cells #[.string ⟨#[104, 116, 109, 108]⟩, .string ⟨#[112]⟩, .string Y] 9)).alloc (.cells #[.bool false, .bool true, .bool true, .bool false, .bool true] 38) = W2 := ⟨_, rfl⟩
        rw [hW2] at hww hb2 hss2 hz2 ⊢
        have HWW := Fact.mk hww
        have HB2 := Fact.mk hb2
        have HSS := Fact.mk hss2
        have HZ2 := Fact.mk hz2
        clear hW2 hww hb2 hss hss2 hz2 d1 d2 d3 d4 k1 k2 k4 y0
        go_loopw [5] (fun sv wy => ∃ s : Nat, s ≠ 0 ∧ s ≤ 5 ∧ sv = .int .i64 s ∧ Fact (Below W2.heap.size W2 wy)) (fun sv _ => 5 - (intOf sv).toNat)
        case atStart => exact ⟨1, by omega, by omega, rfl, ⟨Below.refl _ _⟩⟩
        case round =>
          rename World => wy
          obtain ⟨s, hs0, hs5, rfl, hby⟩ := hrel
          by_cases hs4 : s < 5
          · obtain ⟨q, hq⟩ : ∃ q, wl true true false true false s = q := ⟨_, rfl⟩
            have h1 := HI.out s hs0 hs4
            have h2 := HWW.out s hs0 hs4
            rw [hq] at h1 h2
            have z0 := (hby.out.cell (p := ⟨wx.heap.size + 1, s, none⟩) (by show wx.heap.size + 1 < _; rw [HZ2.out]; omega)).trans h2
            have hcall := in_any [⟨#[104, 116, 109, 108]⟩, ⟨#[112]⟩, Y] (.slice (some ⟨wx.heap.size, 0, none⟩) 3 3) ⟨#[112]⟩ (s : Int) wy.drew ((HSS.out.below (m := W2.heap.size) (hby.out.drew) (by rw [HZ2.out]; omega)).mono (by have := hby.out.size; rw [HZ2.out] at this; show _ ≤ wy.heap.size; omega)) q ⟨h1⟩
            have HCALL := Fact.mk hcall
            have hS0 : Below W2.heap.size W2 wy.drew ∧ wy.drew.cell? ⟨wx.heap.size + 1, s, none⟩ = some (.bool q) := ⟨hby.out.drew, z0⟩
            have HN : Fact (wx.heap.size + 1 < W2.heap.size) := ⟨by rw [HZ2.out]; omega⟩
            have j1 : (s : Int) < 5 := by omega
            have j2 : (s : Int) ≤ 4 := by omega
            have j3 : (0 : Int) ≤ s := by omega
            have j4 : (q != q) = false := by cases q <;> rfl
            have HS0 := Fact.mk hS0
            clear hcall h1 h2 hq z0 hS0 HI HWW
            go_wp2_with fail
            have hS0 := HS0.out
            clear HS0
            go_region_held3 (fun w' => Below W2.heap.size W2 w' ∧ w'.cell? ⟨wx.heap.size + 1, s, none⟩ = some (.bool q))
              (first | with_reducible exact hS0 | with_reducible exact keepB (p := ⟨wx.heap.size + 1, s, none⟩) (n := 0) HN.out hb5 (by assumption))
              (first | (go_at_call 12; refine HCALL.out.mono ?_; rintro e w5 ⟨rfl, hb5⟩))
            all_goals
              rename_i hHeld
              have HH := Fact.mk hHeld
              clear hHeld hS0
              go_wp2_with fail
              go_roundw
              case rel => exact ⟨s + 1, by omega, by omega, by go_num, ⟨HH.out.1⟩⟩
              case measure => simp [intOf]; omega
          · have j2 : ¬ (s : Int) ≤ 4 := by omega
            clear HI HWW
            go_wp2_with fail
            go_roundw
            case rel => exact ⟨i + 1, by have := HL.out; omega, by go_num, ⟨hbx.out.trans ((HB2.out.trans (hby.out.mono HB2.out.size)).mono hbx.out.size)⟩⟩
            case measure => have := HL.out; simp [intOf]; omega
      · have d1 : decide ((5 : Int) < i) = true := decide_eq_true (by omega)
        have d2 : decide ((i : Int) < 9) = false := decide_eq_false (by omega)
        have d3 : ((i : Int) == 8) = false := beq_eq_false_iff_ne.2 (by omega)
        have d4 : decide ((i : Int) < 8) = false := decide_eq_false (by omega)
        have k1 : (5 : Int) < i := by omega
        have k2 : ¬ (i : Int) < 9 := by omega
        have k4 : ¬ (i : Int) < 8 := by omega
        have HI : Fact (∀ s : Nat, s ≠ 0 → s < 5 → inK [⟨#[104, 116, 109, 108]⟩, ⟨#[112]⟩, Y] ⟨#[112]⟩ (s : Int) 3 = wl false false false false false s) := ⟨fun s h0 h5 => by
          have h := bordD ⟨i, HL.out⟩ hc ⟨s, h5⟩ h0
          have h2 := bord_in h
          rw [hw3.out] at h2
          exact h2⟩
        clear hc
        have hss := ss_three wx ⟨#[104, 116, 109, 108]⟩ ⟨#[112]⟩ Y
        have hww : ∀ s, s ≠ 0 → s < 5 → _ := fun s h0 h5 => want_new (wx.alloc (.cells #[.string ⟨#[104, 116, 109, 108]⟩, .string ⟨#[112]⟩, .string Y] 9)) false false false false s h0 h5
        have hb2 : Below wx.heap.size wx ((wx.alloc (.cells #[.string ⟨#[104, 116, 109, 108]⟩, .string ⟨#[112]⟩, .string Y] 9)).alloc (.cells #[.bool false, .bool false, .bool false, .bool false, .bool false] 38)) := ((Below.refl _ wx).alloc (Nat.le_refl _) _).alloc (by simp) _
        have hss2 := hss.below (m := wx.heap.size + 1) ((Below.refl _ (wx.alloc (.cells #[.string ⟨#[104, 116, 109, 108]⟩, .string ⟨#[112]⟩, .string Y] 9))).alloc (by simp) (.cells #[.bool false, .bool false, .bool false, .bool false, .bool false] 38)) (Nat.le_refl _)
        have hz2 : ((wx.alloc (.cells #[.string ⟨#[104, 116, 109, 108]⟩, .string ⟨#[112]⟩, .string Y] 9)).alloc (.cells #[.bool false, .bool false, .bool false, .bool false, .bool false] 38)).heap.size = wx.heap.size + 2 := by simp
        simp only [World.size_alloc] at hww
        go_wp2_with fail
        obtain ⟨W2, hW2⟩ : ∃ W2, (wx.alloc (.cells #[.string ⟨#[104, 116, 109, 108]⟩, .string ⟨#[112]⟩, .string Y] 9)).alloc (.cells #[.bool false, .bool false, .bool false, .bool false, .bool false] 38) = W2 := ⟨_, rfl⟩
        rw [hW2] at hww hb2 hss2 hz2 ⊢
        have HWW := Fact.mk hww
        have HB2 := Fact.mk hb2
        have HSS := Fact.mk hss2
        have HZ2 := Fact.mk hz2
        clear hW2 hww hb2 hss hss2 hz2 d1 d2 d3 d4 k1 k2 k4 y0
        go_loopw [5] (fun sv wy => ∃ s : Nat, s ≠ 0 ∧ s ≤ 5 ∧ sv = .int .i64 s ∧ Fact (Below W2.heap.size W2 wy)) (fun sv _ => 5 - (intOf sv).toNat)
        case atStart => exact ⟨1, by omega, by omega, rfl, ⟨Below.refl _ _⟩⟩
        case round =>
          rename World => wy
          obtain ⟨s, hs0, hs5, rfl, hby⟩ := hrel
          by_cases hs4 : s < 5
          · obtain ⟨q, hq⟩ : ∃ q, wl false false false false false s = q := ⟨_, rfl⟩
            have h1 := HI.out s hs0 hs4
            have h2 := HWW.out s hs0 hs4
            rw [hq] at h1 h2
            have z0 := (hby.out.cell (p := ⟨wx.heap.size + 1, s, none⟩) (by show wx.heap.size + 1 < _; rw [HZ2.out]; omega)).trans h2
            have hcall := in_any [⟨#[104, 116, 109, 108]⟩, ⟨#[112]⟩, Y] (.slice (some ⟨wx.heap.size, 0, none⟩) 3 3) ⟨#[112]⟩ (s : Int) wy.drew ((HSS.out.below (m := W2.heap.size) (hby.out.drew) (by rw [HZ2.out]; omega)).mono (by have := hby.out.size; rw [HZ2.out] at this; show _ ≤ wy.heap.size; omega)) q ⟨h1⟩
            have HCALL := Fact.mk hcall
            have hS0 : Below W2.heap.size W2 wy.drew ∧ wy.drew.cell? ⟨wx.heap.size + 1, s, none⟩ = some (.bool q) := ⟨hby.out.drew, z0⟩
            have HN : Fact (wx.heap.size + 1 < W2.heap.size) := ⟨by rw [HZ2.out]; omega⟩
            have j1 : (s : Int) < 5 := by omega
            have j2 : (s : Int) ≤ 4 := by omega
            have j3 : (0 : Int) ≤ s := by omega
            have j4 : (q != q) = false := by cases q <;> rfl
            have HS0 := Fact.mk hS0
            clear hcall h1 h2 hq z0 hS0 HI HWW
            go_wp2_with fail
            have hS0 := HS0.out
            clear HS0
            go_region_held3 (fun w' => Below W2.heap.size W2 w' ∧ w'.cell? ⟨wx.heap.size + 1, s, none⟩ = some (.bool q))
              (first | with_reducible exact hS0 | with_reducible exact keepB (p := ⟨wx.heap.size + 1, s, none⟩) (n := 0) HN.out hb5 (by assumption))
              (first | (go_at_call 12; refine HCALL.out.mono ?_; rintro e w5 ⟨rfl, hb5⟩))
            all_goals
              rename_i hHeld
              have HH := Fact.mk hHeld
              clear hHeld hS0
              go_wp2_with fail
              go_roundw
              case rel => exact ⟨s + 1, by omega, by omega, by go_num, ⟨HH.out.1⟩⟩
              case measure => simp [intOf]; omega
          · have j2 : ¬ (s : Int) ≤ 4 := by omega
            clear HI HWW
            go_wp2_with fail
            go_roundw
            case rel => exact ⟨i + 1, by have := HL.out; omega, by go_num, ⟨hbx.out.trans ((HB2.out.trans (hby.out.mono HB2.out.size)).mono hbx.out.size)⟩⟩
            case measure => have := HL.out; simp [intOf]; omega
    · have j2 : ¬ (i : Int) < 10 := by omega
      have hbw := HB1.out.trans (hbx.out.mono HB1.out.size)
      have HBW := Fact.mk hbw
      have t1 : True := trivial
      have t2 : True := trivial
      have s1 := ss_one wx ⟨#[116, 97, 98, 108, 101]⟩
      have hI1 := in_any [⟨#[116, 97, 98, 108, 101]⟩] _ ⟨#[116, 97, 98, 108, 101]⟩ 1 _ (s1.mono (by simp)) true ⟨ex_table⟩
      have HI1 := Fact.mk hI1
      have b3 : Below wx.heap.size wx (wx.alloc (.cells #[.string ⟨#[116, 97, 98, 108, 101]⟩] 9)) := (Below.refl _ wx).alloc (Nat.le_refl _) _
      have HB3 := Fact.mk b3
      clear hbw s1 hI1 b3 hbx
      go_wp2_with (first
        | (go_at_call 12; have _t := t1; refine HI1.out.mono ?_; clear t1 _t; rintro e w2 ⟨rfl, hb⟩; have H2 := bel (bel HBW HB3.out) hb; clear hb)
        | (go_at_call 12; have _t := t2; refine (in_any [] _ ⟨#[112]⟩ 1 _ (ss_nil _ _) false ⟨rfl⟩).mono ?_; clear t2 _t; rintro e w3 ⟨rfl, hb⟩; have H3 := bel H2 hb; clear hb)
        | (go_at_call 9; refine (HA.out _).mono ?_; rintro e w4 ⟨rfl, hb⟩; have H4 := bel H3 hb; clear hb))
      go_ret
      exact ⟨rfl, H4.out⟩
end Go.Proofs.Ytnioibpeagffdaa
