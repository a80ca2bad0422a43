/- The walk of CharrefBack: it returns true. -/
import Derived.Test.YtlelnjheocbmnaaDoorCF
import Derived.Test.YtlelnjheocbmnaaDoorCG
set_option linter.unusedVariables false
namespace Go.Proofs.YtlelnjheocbmnaaDoor
open Go.RowKit M

set_option maxRecDepth 20000 in
set_option maxHeartbeats 2000000 in
theorem back_walk (s : ByteArray) (attr : Bool) (w : World) (hw : Met w) :
    Calls Tryd.prog 4 #[.string s, .bool attr] w fun e w' => e = .returned (.bool true) ∧ Below w.heap.size w w' := by
  have HW := Fact.mk hw
  clear hw
  by_cases hz : 3000 < s.size
  · go_enter Tryd.func4, Tryd.ntmps4
    go_wp2_with (go_at_call 8; refine (awake9_true _ HW.out).mono ?_; rintro e w5 ⟨rfl, hb5⟩)
    go_ret
    exact ⟨rfl, hb5⟩
  · obtain ⟨T, hT⟩ : ∃ T : ByteArray, Fact (escB attr s.data.toList = T.data.toList) := ⟨⟨(escB attr s.data.toList).toArray⟩, ⟨rfl⟩⟩
    have hTz : T.size ≤ 18000 := by
      have := escB_len attr _ s.data.toList (Nat.le_refl _)
      rw [hT.out, ← Lib.size_eq, ← Lib.size_eq] at this
      omega
    have hno : Fact (∀ k (h : k < T.size), T[k] ≠ 60 ∧ T[k] ≠ 62 ∧ (attr = true → T[k] ≠ 34)) := ⟨fun k h => by
      have := esc_no attr _ s.data.toList (Nat.le_refl _) T[k] (by
        rw [hT.out]
        exact List.getElem_mem (l := T.data.toList) (by rw [← Lib.size_eq]; exact h))
      exact this⟩
    have hd1 : Fact (decB attr T.data.toList = s.data.toList) := ⟨by rw [← hT.out]; exact dec_esc attr attr _ _ (Nat.le_refl _)⟩
    have hd2 : Fact (decB (!attr) T.data.toList = s.data.toList) := ⟨by rw [← hT.out]; exact dec_esc attr (!attr) _ _ (Nat.le_refl _)⟩
    have hTs : IsSm T.size := ⟨by omega⟩
    have b1 : (s.toList == s.toList) = true := beq_self_eq_true _
    have hs2 : s.size ≤ 20000 := by omega
    have tok1 : True := trivial
    cases attr
    all_goals
      go_enter Tryd.func4, Tryd.ntmps4
      go_wp2_with (go_at_call 13; refine (escape_at s T _ hs2 hT _ HW.out).mono ?_; rintro e w1 ⟨rfl, hb1⟩; have H1 := Fact.mk (HW.out.below hb1))
      go_loop [6] (fun i => ∃ k : Nat, i = .int .i64 k ∧ k ≤ T.size) (fun i => T.size - (intOf i).toNat)
      case atStart => exact ⟨0, rfl, Nat.zero_le _⟩
      case round =>
        obtain ⟨k, rfl, hk⟩ := hrel
        by_cases hlt : k < T.size
        · have hkI : (k : Int) < T.size := by omega
          have hk0 : (0 : Int) ≤ k := by omega
          obtain ⟨c, hc⟩ : ∃ c, T[k] = c := ⟨_, rfl⟩
          have hn := hno.out k hlt
          rw [hc] at hn
          have q1 : ((c.toNat : Int) == 60) = false := u8_ne (k := 60) (by decide) hn.1
          have q2 : ((c.toNat : Int) == 62) = false := u8_ne (k := 62) (by decide) hn.2.1
          have q3 : ((c.toNat : Int) == 34) = false ∨ True := .inr trivial
          try (have q3 : ((c.toNat : Int) == 34) = false := u8_ne (k := 34) (by decide) (hn.2.2 (by first | rfl | trivial)))
          clear hn
          go_wp2_with fail
          go_round
          case rel => exact ⟨k + 1, by (first | rfl | exact int_eq rfl), Nat.succ_le_of_lt hlt⟩
          case measure => exact meas_up hlt
        · have hkI : (T.size : Int) ≤ k := by omega
          have hkB : decide ((k : Int) < T.size) = false := decide_eq_false (by omega)
          go_wp2_with (first
            | (go_at_call 11; have _t := tok1; refine (decode_at T s _ hTs hd1 _ H1.out).mono ?_; rintro e w2 ⟨rfl, hb2⟩; clear tok1 _t; have H2 := Fact.mk (H1.out.below hb2); have q2 := hb1.trans (hb2.mono hb1.size))
            | (go_at_call 11; refine (decode_at T s _ hTs hd2 _ H2.out).mono ?_; rintro e w3 ⟨rfl, hb3⟩; have H3 := Fact.mk (H2.out.below hb3); have q3 := q2.trans (hb3.mono q2.size))
            | (go_at_call 8; refine (awake9_true _ H3.out).mono ?_; rintro e w5 ⟨rfl, hb5⟩))
          go_ret
          exact ⟨rfl, q3.trans (hb5.mono q3.size)⟩
end Go.Proofs.YtlelnjheocbmnaaDoor
