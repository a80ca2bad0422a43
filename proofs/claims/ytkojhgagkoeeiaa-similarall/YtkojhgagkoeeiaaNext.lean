/- Place and next: a number of a list, by a counter. -/
import Derived.Test.YtkojhgagkoeeiaaSmall
import Derived.BigQuiet
import Derived.Deep.QuietTactic
set_option linter.unusedVariables false
namespace Go.Proofs.Ytkojhgagkoeeiaa
open Go.Deep (BT)
open Go.RowKit M

/-- the place of any number among n -/
def pl (v : Int) (n : Nat) : Nat := if v.tmod n < 0 then (v.tmod n + n).toNat else (v.tmod n).toNat
theorem pl_lt (v : Int) (n : Nat) (hn : 0 < n) : pl v n < n := by
  have h2 : v.tmod n < n := Int.tmod_lt_of_pos v (by omega)
  have h3 : -(n : Int) < v.tmod n := by have := Int.lt_tmod_of_pos v (show (0 : Int) < n by omega); omega
  unfold pl
  split <;> omega
set_option maxRecDepth 20000 in
set_option maxHeartbeats 1000000 in
theorem place_pl (v : Int) (n : Nat) (w : World) (hn : 0 < n) (hm : n ≤ 9223372036854775807) :
    Calls Try.prog 9 #[.int .i64 v, .int .i64 n] w fun e w' => e = .returned (.int .i64 (pl v n)) ∧ w' = w := by
  have h1 : -(n : Int) < v.tmod n := by have := Int.lt_tmod_of_pos v (show (0 : Int) < n by omega); omega
  have h2 : v.tmod n < n := Int.tmod_lt_of_pos v (by omega)
  have hn0 : ¬ (n : Int) = 0 := by omega
  have hp : (if v.tmod n < 0 then (v.tmod n + n).toNat else (v.tmod n).toNat) = pl v n := rfl
  have HP := Fact.mk hp
  clear hp
  obtain ⟨t, ht⟩ : ∃ t, v.tmod n = t := ⟨_, rfl⟩
  rw [ht] at h1 h2 HP
  by_cases h3 : t < 0
  · go_enter Try.func9, Try.ntmps9
    go_wp2
    go_ret
    exact ⟨ret_int (by rw [← HP.out, if_pos h3]; omega), rfl⟩
  · go_enter Try.func9, Try.ntmps9
    go_wp2
    go_ret
    exact ⟨ret_int (by rw [← HP.out, if_neg (by omega)]; omega), rfl⟩
theorem place_at (v : Int) (n R : Nat) (hR : Fact (pl v n = R)) (w : World) (hn : 0 < n) (hm : n ≤ 9223372036854775807) :
    Calls Try.prog 9 #[.int .i64 v, .int .i64 n] w fun e w' => e = .returned (.int .i64 R) ∧ w' = w := by
  rw [← hR.out]; exact place_pl v n w hn hm

theorem and40 (x : Int) : ∃ r : Nat, bits .and .i64 x 1099511627775 = r ∧ r < 1099511627776 := by
  obtain ⟨y, hy⟩ : ∃ y : BitVec 64, bits .and .i64 x 1099511627775 = IntKind.i64.wrap ((y &&& BitVec.ofInt 64 1099511627775).toNat : Int) := ⟨_, rfl⟩
  have hlt : (y &&& BitVec.ofInt 64 1099511627775).toNat < 1099511627776 := by
    rw [BitVec.toNat_and]
    exact Nat.lt_of_le_of_lt Nat.and_le_right (by decide)
  refine ⟨_, ?_, hlt⟩
  rw [hy]
  exact IntWalk.i64_in _ ⟨by omega, by omega⟩
/-- a list of numbers -/
structure IsL (n : Nat) (w : World) (v : Value) (ln : Nat) : Prop where
  h : ∃ a cap, v = .slice a ln cap ∧ ln ≤ cap ∧ cap ≤ maxLen ∧ (ln = 0 ∨ ∃ b o, a = some ⟨b, o, none⟩ ∧ b < n ∧ ∀ i, i < ln → ∃ x : Int, w.cell? ⟨b, o + i, none⟩ = some (.int .i64 x))
theorem IsL.below {n : Nat} {w w' : World} {v : Value} {ln : Nat} (h : IsL n w v ln) (hb : Below n w w') : IsL n w' v ln := by
  obtain ⟨a, cap, e, h1, h2, h3⟩ := h.h
  refine ⟨a, cap, e, h1, h2, ?_⟩
  rcases h3 with h3 | ⟨b, o, ea, hb', hc⟩
  · exact .inl h3
  · exact .inr ⟨b, o, ea, hb', fun i hi => by obtain ⟨x, hx⟩ := hc i hi; exact ⟨x, (hb.cell (p := ⟨b, o + i, none⟩) hb').trans hx⟩⟩

/-- a counter's cell -/
structure Cnt (w : World) (B : Nat) (c : Nat) : Prop where
  c : w.cell? ⟨B, 0, none⟩ = some (.int .i64 c)
  f : w.frozen? ⟨B, 0, none⟩ = false

set_option maxRecDepth 20000 in
set_option maxHeartbeats 2000000 in
theorem next_any (v : Value) (ln n B c : Nat) (w : World) (hl : IsL n w v ln) (hn : n ≤ B) (hc : Cnt w B c) (hcb : c ≤ 1000000) :
    Calls Try.prog 40 #[v, .pointer (some ⟨B, 0, none⟩)] w fun e w' => ∃ r c' : Nat, e = .returned (.int .i64 r) ∧ r < 1099511627776 ∧ Keep B (B + 1) w w' ∧ Cnt w' B c' ∧ c' ≤ c + 1 := by
  obtain ⟨a, cap, rfl, h1, h2, h3⟩ := hl.h
  by_cases h0 : ln = 0
  · subst h0
    go_enter Try.func40, Try.ntmps40
    go_wp2_with fail
    go_ret
    exact ⟨0, rfl, Nat.zero_lt_succ _, Keep.refl _ _ _, c, hc, Nat.le_succ _⟩
  obtain ⟨b, o, rfl, hb, hcell⟩ := h3.resolve_left h0
  obtain ⟨R, hR⟩ : ∃ R, Fact (pl (((c : Int) + 1) * 5 + ((c : Int) + 1).tdiv ln) ln = R) := ⟨_, ⟨rfl⟩⟩
  have hRl : R < ln := by rw [← hR.out]; exact pl_lt _ _ (by omega)
  obtain ⟨x, hx⟩ := hcell R hRl
  have hB := World.block_lt_of_cell? w _ hc.c
  obtain ⟨W1, hW1⟩ : ∃ W1, w.setCell ⟨B, 0, none⟩ (.int .i64 (c + 1)) = W1 := ⟨_, rfl⟩
  have hk1 : Keep B (B + 1) w W1 := by rw [← hW1]; exact (Keep.refl _ _ _).setCell (p := ⟨B, 0, none⟩) (Nat.le_refl _) (Nat.lt_succ_self _) _
  have y0 : W1.cell? ⟨B, 0, none⟩ = some (.int .i64 (c + 1)) := by rw [← hW1]; exact World.cell?_setCell_same' _ _ _ (by rw [hc.c]; rfl)
  have yf : W1.frozen? ⟨B, 0, none⟩ = false := by rw [← hW1, World.frozen?_setCell]; exact hc.f
  have y1 : W1.cell? ⟨b, o + R, none⟩ = some (.int .i64 x) := hk1.cell hx (.inl (by omega))
  have c0 := hc.c
  have c1 := hc.f
  have j1 : (R : Int) < ln := by omega
  have j2 : (0 : Int) ≤ R := by omega
  have j3 : ¬ (ln : Int) = 0 := by omega
  have j4 : ((ln : Int) == 0) = false := by simpa using j3
  have hq1 : (0 : Int) ≤ ((c : Int) + 1).tdiv ln := Int.tdiv_nonneg (by omega) (by omega)
  have hq2 : ((c : Int) + 1).tdiv ln ≤ c + 1 := by
    rw [Int.tdiv_eq_ediv_of_nonneg (by omega)]; exact Int.ediv_le_self _ (by omega)
  have HK1 := Fact.mk hk1
  have HY : Fact (Cnt W1 B (c + 1)) := ⟨⟨y0, yf⟩⟩
  have hlm : ln ≤ 9223372036854775807 := by unfold maxLen at h2; omega
  have HM : Fact (∃ r : Nat, bits .and .i64 x 1099511627775 = r ∧ r < 1099511627776) := ⟨and40 x⟩
  clear hcell hx hk1 hc hl h3
  go_enter Try.func40, Try.ntmps40
  go_wp2_with fail
  go_quiet (first | (go_at_call 9; exact Calls.quiet_of_same (place_at _ _ R hR _ (by omega) hlm)))
  go_wp2_with fail
  go_ret
  obtain ⟨r, hr, hr2⟩ := HM.out
  exact ⟨r, c + 1, ret_int hr, hr2, HK1.out.trans ⟨rfl, rfl, rfl, Nat.le_refl _, fun _ _ _ => rfl⟩, ⟨HY.out.c, HY.out.f⟩, Nat.le_refl _⟩
end Go.Proofs.Ytkojhgagkoeeiaa
