/- The walk of StackSorts: it returns true. -/
import Derived.Test.YtnioibpeagffdaaKP
import Derived.Deep.RegionHeld3
set_option linter.unusedVariables false
namespace Go.Proofs.Ytnioibpeagffdaa
open Go.RowKit Go.Shelf

/-- the names of the first sorts -/
def cat : Nat → List (List UInt8)
  | 0 => []
  | k + 1 => cat k ++ sortL (k + 1)
theorem lits_app (a b : List (List UInt8)) : lits (a ++ b) = lits a ++ lits b := by simp [lits]
set_option maxRecDepth 100000 in
theorem cat_len : ∀ k : Fin 9, (cat k.val).length ≤ 150 ∧ (sortL (k.val + 1)).length ≤ 100 := by decide
def F5 : List (List UInt8) := [[], [115, 112, 97, 110], [104, 55], [65], [98, 82]]
set_option maxRecDepth 100000 in
theorem all_len : (lits (cat 8) ++ lits F5).length = 155 := by rw [List.length_append, lits_len, lits_len]; decide
theorem keepS {W0 W w' : World} {p : Addr} {q : Value} (hn : p.block < W0.heap.size) (hb : Below W.heap.size W w') (h : Below W0.heap.size W0 W ∧ W.cell? p = some q) : Below W0.heap.size W0 w' ∧ w'.cell? p = some q :=
  ⟨h.1.trans (hb.mono h.1.size), (hb.cell (p := p) (Nat.lt_of_lt_of_le hn h.1.size)).trans h.2⟩

set_option maxRecDepth 100000 in
set_option maxHeartbeats 8000000 in
theorem sorts12_walk (w : World) : Calls Try.prog 4 #[] w fun e w' => e = .returned (.bool true) ∧ Below w.heap.size w w' := by
  have HA := Fact.mk awake12_true
  go_enter Try.func4, Try.ntmps4
  go_wp2_with fail
  go_loopw [1, 2] (fun v sv wx => ∃ s : Nat, s ≤ 8 ∧ sv = .int .i64 ((s + 1 : Nat) : Int) ∧ Fact (Below w.heap.size w wx) ∧ Fact (OwnN w.heap.size wx v (lits (cat s)))) (fun v sv _ => 10 - (intOf sv).toNat)
  case atStart => exact ⟨0, by omega, rfl, ⟨Below.refl _ _⟩, ⟨OwnN.nil _ _⟩⟩
  case round =>
    rename World => wx
    rename Value => sv
    rename Value => v
    obtain ⟨s, hs, rfl, hbx, hO⟩ := hrel
    by_cases hlt : s < 8
    · have i1 : ((s + 1 : Nat) : Int) ≤ 8 := by omega
      have hcl := cat_len ⟨s, by omega⟩
      have hcs : (lits (cat s)).length + (lits (sortL ((s + 1 : Nat) : Int).toNat)).length ≤ 100000 := by
        rw [lits_len, lits_len, Int.toNat_natCast]; dsimp only at hcl; omega
      have HC := Fact.mk hcs
      have hcat : lits (cat s) ++ lits (sortL ((s + 1 : Nat) : Int).toNat) = lits (cat (s + 1)) := by rw [Int.toNat_natCast, ← lits_app]; rfl
      have HCAT := Fact.mk hcat
      have hR := Fact.mk (rSort_any ((s + 1 : Nat) : Int) wx)
      clear hcl hcs hcat
      go_wp2_with (first
        | (go_at_call 18; refine hR.out.mono ?_; rintro e w1 ⟨a1, n1, rfl, hb, hs1⟩; have HB1 := bel hbx hb; have HS1 := Fact.mk hs1; have HO1 := Fact.mk (hO.out.below hb (Nat.le_refl _)); clear hb hs1)
        | (at_builtin; refine wpList_app (by rfl) (.tmp 9) (.tmp 11) rfl _ _ _ _ _ _ rfl rfl HO1.out HS1.out HC.out HB1.out.size ?_; intro v2 w2 hO2 _ hb2; have HB2 := Fact.mk (HB1.out.trans hb2.out); clear hb2))
      rw [HCAT.out] at hO2
      go_roundw
      case rel => exact ⟨s + 1, by omega, int_eq (by omega), HB2, hO2⟩
      case measure => simp [intOf]; omega
    · obtain rfl : s = 8 := by omega
      have hs5 := ss_new wx F5 9 (by decide)
      have hO1 := hO.out.below ((Below.refl wx.heap.size wx).alloc (Nat.le_refl _) (.cells (nmc F5).toArray 9)) (Nat.le_refl _)
      have hb1 : Below wx.heap.size wx (wx.alloc (.cells (nmc F5).toArray 9)) := (Below.refl _ wx).alloc (Nat.le_refl _) _
      have hcells : wx.alloc (.cells #[.string ⟨#[]⟩, .string ⟨#[115, 112, 97, 110]⟩, .string ⟨#[104, 55]⟩, .string ⟨#[65]⟩, .string ⟨#[98, 82]⟩] 9) = wx.alloc (.cells (nmc F5).toArray 9) := rfl
      obtain ⟨W5, hW5⟩ : ∃ W5, wx.alloc (.cells (nmc F5).toArray 9) = W5 := ⟨_, rfl⟩
      rw [hW5] at hs5 hO1 hb1 hcells
      have HS5 := Fact.mk hs5
      have HO5 := Fact.mk hO1
      have HB5 := bel hbx hb1
      clear hs5 hO1 hb1 hW5 hO hbx
      go_wp2_with (first
        | (at_builtin; refine wpList_app (by rfl) (.tmp 13) (.tmp 14) rfl _ _ _ _ _ _ rfl rfl HO5.out HS5.out (by rw [← List.length_append, all_len]; omega) HB5.out.size ?_; intro v2 w2 hO2 _ hb2; have HB2 := Fact.mk (HB5.out.trans hb2.out); clear hb2 hcells; obtain ⟨a6, c6, b6, o6, e6, m1, m2, m3⟩ := hO2.out.ss; rw [all_len] at e6 m1 m3; have H6 := Fact.mk m3; clear m3 m2; subst e6))
      go_loopw [3] (fun iv wx => ∃ i : Nat, i ≤ 155 ∧ iv = .int .i64 i ∧ Fact (Below w2.heap.size w2 wx)) (fun iv _ => 155 - (intOf iv).toNat)
      case atStart => exact ⟨0, Nat.zero_le _, rfl, ⟨Below.refl _ _⟩⟩
      case round =>
        rename World => wy
        obtain ⟨i, hi, rfl, hby⟩ := hrel
        by_cases hlt2 : i < 155
        · obtain ⟨ea, hb6, y0⟩ := H6.out i hlt2
          subst ea
          obtain ⟨Y, hY⟩ : ∃ Y, tx (lits (cat 8) ++ lits F5) i = Y := ⟨_, rfl⟩
          rw [hY] at y0
          have HY0 := Fact.mk y0
          have HB6 := Fact.mk hb6
          have i1 : (i : Int) < 155 := by omega
          have HL := Fact.mk hlt2
          clear hY y0 hb6 H6
          go_wp2_with fail
          go_loopw [4] (fun sv wz => ∃ s : Nat, s ≤ 10 ∧ sv = .int .i64 s ∧ Fact (Below w2.heap.size w2 wz)) (fun sv _ => 10 - (intOf sv).toNat)
          case atStart => exact ⟨0, Nat.zero_le _, rfl, hby⟩
          case round =>
            rename World => wz
            obtain ⟨s, hs, rfl, hbz⟩ := hrel
            by_cases hlt3 : s < 10
            · obtain ⟨q, hq⟩ : ∃ q, Fact (isB Y (s : Int) = q) := ⟨_, ⟨rfl⟩⟩
              have hS0 : Below w2.heap.size w2 wz.drew ∧ wz.drew.cell? ⟨b6, o6 + i, none⟩ = some (.string Y) := ⟨hbz.out.drew, (hbz.out.drew.cell (p := ⟨b6, o6 + i, none⟩) HB6.out).trans HY0.out⟩
              have HS0 := Fact.mk hS0
              have j1 : (s : Int) ≤ 9 := by omega
              have j3 : (0 : Int) ≤ i := by omega
              have j4 : (q != q) = false := by cases q <;> rfl
              clear hS0
              go_wp2_with fail
              have hS0 := HS0.out
              clear HS0
              go_region_held3 (fun w' => Below w2.heap.size w2 w' ∧ w'.cell? ⟨b6, o6 + i, none⟩ = some (.string Y))
                (first | with_reducible exact hS0 | with_reducible exact keepS (p := ⟨b6, o6 + i, none⟩) HB6.out hb7 (by assumption) | with_reducible exact keepS (p := ⟨b6, o6 + i, none⟩) HB6.out hb8 (by assumption))
                (first | (go_at_call 10; refine (is_any Y (s : Int) _ q hq).mono ?_; rintro e w7 ⟨rfl, hb7⟩) | (go_at_call 11; refine (rIs_any Y (s : Int) _ q hq).mono ?_; rintro e w8 ⟨rfl, hb8⟩))
              all_goals
                rename_i hHeld
                have HH := Fact.mk hHeld
                clear hHeld hS0
                go_wp2_with fail
                go_roundw
                case rel => exact ⟨s + 1, by omega, by go_num, ⟨HH.out.1⟩⟩
                case measure => simp [intOf]; omega
            · have j1 : ¬ (s : Int) ≤ 9 := by omega
              go_wp2_with fail
              go_roundw
              case rel => exact ⟨i + 1, by have := HL.out; omega, by go_num, hbz⟩
              case measure => have := HL.out; simp [intOf]; omega
        · have i1 : ¬ (i : Int) < 155 := by omega
          have HBy := bel HB2 hby.out
          clear H6
          go_wp2_with (first | (go_at_call 9; refine (HA.out _).mono ?_; rintro e w4 ⟨rfl, hb⟩; have H4 := bel HBy hb; clear hb))
          go_ret
          exact ⟨rfl, H4.out⟩
end Go.Proofs.Ytnioibpeagffdaa
