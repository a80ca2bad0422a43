/- The walk of CharrefParts: it returns true. -/
import Derived.Test.YtlelnjheocbmnaaDoorCF
import Derived.Test.YtlelnjheocbmnaaDoorCG
set_option linter.unusedVariables false
namespace Go.Proofs.YtlelnjheocbmnaaDoor
open Go.RowKit M

theorem app_data (a b : ByteArray) : (a ++ b).data.toList = a.data.toList ++ b.data.toList := by
  rw [ByteArray.data_append]
  simp
set_option maxRecDepth 20000 in
theorem place_one (v : Int) (w : World) : Calls Tryd.prog 15 #[.int .i64 v, .int .i64 1] w fun e w' => e = .returned (.int .i64 0) ∧ w' = w := by
  have h1 : v.tmod 1 = 0 := Int.tmod_one v
  go_enter Tryd.func15, Tryd.ntmps15
  go_wp2
  go_ret
  exact ⟨rfl, rfl⟩
theorem all_upto {s : ByteArray} {p : UInt8 → Prop} (h : ∀ i (hi : i < s.size), p s[i]) : ∀ x ∈ s.data.toList, p x := by
  intro x hx
  obtain ⟨i, hi, rfl⟩ := List.getElem_of_mem hx
  exact h i (by rw [Lib.size_eq]; exact hi)

set_option maxRecDepth 20000 in
set_option maxHeartbeats 2000000 in
theorem parts_early (a b : ByteArray) (attr : Bool) (w : World) (hw : Met w) (hz : 1000 < a.size ∨ 1000 < b.size) :
    Calls Tryd.prog 7 #[.string a, .string b, .bool attr] w fun e w' => e = .returned (.bool true) ∧ Below w.heap.size w w' := by
  have HW := Fact.mk hw
  clear hw
  by_cases ha : 1000 < a.size
  · clear hz
    go_enter Tryd.func7, Tryd.ntmps7
    go_wp2_with (go_at_call 8; refine (awake9_true _ HW.out).mono ?_; rintro e w5 ⟨rfl, hb5⟩)
    go_ret
    exact ⟨rfl, hb5⟩
  · have hb : 1000 < b.size := by omega
    clear hz
    go_enter Tryd.func7, Tryd.ntmps7
    go_wp2_with (go_at_call 8; refine (awake9_true _ HW.out).mono ?_; rintro e w5 ⟨rfl, hb5⟩)
    go_ret
    exact ⟨rfl, hb5⟩
set_option maxRecDepth 20000 in
set_option maxHeartbeats 2000000 in
theorem parts_main (a b : ByteArray) (attr : Bool) (w : World) (hw : Met w) (ha : ¬ 1000 < a.size) (hb : ¬ 1000 < b.size) :
    Calls Tryd.prog 7 #[.string a, .string b, .bool attr] w fun e w' => e = .returned (.bool true) ∧ Below w.heap.size w w' := by
  have HW := Fact.mk hw
  clear hw
  obtain ⟨D, hD⟩ : ∃ D : ByteArray, Fact (decB attr b.data.toList = D.data.toList) := ⟨⟨(decB attr b.data.toList).toArray⟩, ⟨rfl⟩⟩
  obtain ⟨EA, hEA⟩ : ∃ D : ByteArray, Fact (escB attr a.data.toList = D.data.toList) := ⟨⟨(escB attr a.data.toList).toArray⟩, ⟨rfl⟩⟩
  obtain ⟨EB, hEB⟩ : ∃ D : ByteArray, Fact (escB attr b.data.toList = D.data.toList) := ⟨⟨(escB attr b.data.toList).toArray⟩, ⟨rfl⟩⟩
  obtain ⟨AB, hAB⟩ : ∃ AB : ByteArray, a ++ b = AB := ⟨_, rfl⟩
  obtain ⟨AD, hAD⟩ : ∃ AD : ByteArray, a ++ D = AD := ⟨_, rfl⟩
  obtain ⟨EE, hEE⟩ : ∃ EE : ByteArray, EA ++ EB = EE := ⟨_, rfl⟩
  have FAB : Fact (AB.data.toList = a.data.toList ++ b.data.toList) := ⟨by rw [← hAB]; exact app_data a b⟩
  have FAD : Fact (AD.data.toList = a.data.toList ++ D.data.toList) := ⟨by rw [← hAD]; exact app_data a D⟩
  have FEE : Fact (EE.data.toList = EA.data.toList ++ EB.data.toList) := ⟨by rw [← hEE]; exact app_data EA EB⟩
  have zA : EA.size ≤ 6000 := by
    have := escB_len attr _ a.data.toList (Nat.le_refl _)
    rw [hEA.out, ← Lib.size_eq, ← Lib.size_eq] at this
    omega
  have zB : EB.size ≤ 6000 := by
    have := escB_len attr _ b.data.toList (Nat.le_refl _)
    rw [hEB.out, ← Lib.size_eq, ← Lib.size_eq] at this
    omega
  have zD : D.size ≤ 8000 := by
    have := dec_len attr _ b.data.toList (Nat.le_refl _)
    rw [hD.out, ← Lib.size_eq, ← Lib.size_eq] at this
    omega
  have zAB : AB.size ≤ 2000 := by rw [← hAB, ByteArray.size_append]; omega
  have sAB : IsSm AB.size := ⟨by omega⟩
  have sB : IsSm b.size := ⟨by omega⟩
  have ne1 : ¬ 9223372036854775807 < a.size + b.size := by omega
  have ne2 : ¬ 9223372036854775807 < a.size + D.size := by omega
  have ne3 : ¬ 9223372036854775807 < EA.size + EB.size := by omega
  have b1 : (AD.toList == AD.toList) = true := beq_self_eq_true _
  have b2 : (EE.toList == EE.toList) = true := beq_self_eq_true _
  have tok1 : True := trivial
  have tok2 : True := trivial
  have tok3 : True := trivial
  go_enter Tryd.func7, Tryd.ntmps7
  go_wp2_with fail
  go_loop [7] (fun i => ∃ k : Nat, i = .int .i64 k ∧ k ≤ a.size ∧ Fact (∀ j (h : j < a.size), j < k → a[j] ≠ 38 ∧ a[j] ≠ 194)) (fun i => a.size - (intOf i).toNat)
  case atStart => exact ⟨0, rfl, Nat.zero_le _, ⟨fun j _ h => absurd h (Nat.not_lt_zero _)⟩⟩
  case round =>
    obtain ⟨k, rfl, hk, hall⟩ := hrel
    by_cases hlt : k < a.size
    · have hkI : (k : Int) < a.size := by omega
      have hk0 : (0 : Int) ≤ k := by omega
      obtain ⟨c, hc⟩ : ∃ c, a[k] = c := ⟨_, rfl⟩
      by_cases h1 : c = 38
      · have q1 : ((c.toNat : Int) == 38) = true := by rw [h1]; rfl
        clear h1
        go_wp2_with (go_at_call 8; refine (awake9_true _ HW.out).mono ?_; rintro e w5 ⟨rfl, hb5⟩)
        go_ret
        exact ⟨rfl, hb5⟩
      have q1 : ((c.toNat : Int) == 38) = false := u8_ne (k := 38) (by decide) h1
      by_cases h2 : c = 194
      · have q2 : ((c.toNat : Int) == 194) = true := by rw [h2]; rfl
        clear h1 h2
        go_wp2_with (go_at_call 8; refine (awake9_true _ HW.out).mono ?_; rintro e w5 ⟨rfl, hb5⟩)
        go_ret
        exact ⟨rfl, hb5⟩
      have q2 : ((c.toNat : Int) == 194) = false := u8_ne (k := 194) (by decide) h2
      have hall2 : Fact (∀ j (h : j < a.size), j < k + 1 → a[j] ≠ 38 ∧ a[j] ≠ 194) := ⟨fun j h hj => by
        by_cases e : j = k
        · subst e
          rw [hc]
          exact ⟨h1, h2⟩
        · exact hall.out j h (by omega)⟩
      clear h1 h2 hall
      go_wp2_with fail
      go_round
      case rel => exact ⟨k + 1, by (first | rfl | exact int_eq rfl), Nat.succ_le_of_lt hlt, hall2⟩
      case measure => exact meas_up hlt
    · have hkI : (a.size : Int) ≤ k := by omega
      have hkB : decide ((k : Int) < a.size) = false := decide_eq_false (by omega)
      have hA1 : ∀ x ∈ a.data.toList, x ≠ 38 := all_upto fun i hi => (hall.out i hi (by omega)).1
      have hA2 : ∀ x ∈ a.data.toList, x ≠ 194 := all_upto fun i hi => (hall.out i hi (by omega)).2
      have hD2 : Fact (decB attr AB.data.toList = AD.data.toList) := ⟨by rw [FAB.out, FAD.out, ← hD.out]; exact dec_app attr _ _ hA1⟩
      have hE2 : Fact (escB attr AB.data.toList = EE.data.toList) := ⟨by rw [FAB.out, FEE.out, ← hEA.out, ← hEB.out]; exact esc_app attr _ _ hA2⟩
      clear hA1 hA2 hall
      go_wp2_with (first
        | (go_at_call 11; have _t := tok1; refine (decode_at AB AD attr sAB hD2 _ HW.out).mono ?_; rintro e w1 ⟨rfl, hb1⟩; clear tok1 _t; have H1 := Fact.mk (HW.out.below hb1))
        | (go_at_call 11; refine (decode_at b D attr sB hD _ H1.out).mono ?_; rintro e w2 ⟨rfl, hb2⟩; have H2 := Fact.mk (H1.out.below hb2); have q2 := hb1.trans (hb2.mono hb1.size))
        | (go_at_call 13; have _t := tok2; refine (escape_at AB EE attr (by omega) hE2 _ H2.out).mono ?_; rintro e w3 ⟨rfl, hb3⟩; clear tok2 _t; have H3 := Fact.mk (H2.out.below hb3); have q3 := q2.trans (hb3.mono q2.size))
        | (go_at_call 13; have _t := tok3; refine (escape_at a EA attr (by omega) hEA _ H3.out).mono ?_; rintro e w4 ⟨rfl, hb4⟩; clear tok3 _t; have H4 := Fact.mk (H3.out.below hb4); have q4 := q3.trans (hb4.mono q3.size))
        | (go_at_call 13; refine (escape_at b EB attr (by omega) hEB _ H4.out).mono ?_; rintro e w5 ⟨rfl, hb5⟩; have H5 := Fact.mk (H4.out.below hb5); have q5 := q4.trans (hb5.mono q4.size))
        | (go_at_call 15; refine (place_one _ _).mono ?_; rintro e w6 ⟨rfl, h6⟩; have h6' := h6.symm; subst h6'; clear h6)
        | (go_at_call 8; refine (awake9_true _ H5.out).mono ?_; rintro e w7 ⟨rfl, hb7⟩))
      go_ret
      exact ⟨rfl, q5.trans (hb7.mono q5.size)⟩
theorem parts_walk (a b : ByteArray) (attr : Bool) (w : World) (hw : Met w) :
    Calls Tryd.prog 7 #[.string a, .string b, .bool attr] w fun e w' => e = .returned (.bool true) ∧ Below w.heap.size w w' := by
  by_cases h : 1000 < a.size ∨ 1000 < b.size
  · exact parts_early a b attr w hw h
  · exact parts_main a b attr w hw (fun h1 => h (.inl h1)) (fun h1 => h (.inr h1))
end Go.Proofs.YtlelnjheocbmnaaDoor
