/- TokenComments. -/
import Derived.Test.YtbhhncdcdmcpfaaDoorTQ
set_option linter.unusedVariables false
namespace Go.Proofs.YtbhhncdcdmcpfaaDoor
open Go.RowKit M

theorem w7s (n : Nat) (h : n ≤ 1000) : wrap64 ((7 : Int) + n) = (7 : Int) + n := by unfold wrap64; omega
theorem w8s (n : Nat) (h : n ≤ 1000) : wrap64 ((8 : Int) + n) = (8 : Int) + n := by unfold wrap64; omega
/-- how far the look for two signs has come -/
theorem cl_of {a : ByteArray} (h1 : a.data.toList ≠ []) (h2 : bAt a.data.toList 0 ≠ 62) (h3 : bAt a.data.toList 0 ≠ 45) (h4 : bAt a.data.toList (a.size - 1) ≠ 45) (h5 : ∀ j, j + 1 < a.size → ¬ (bAt a.data.toList j = 45 ∧ bAt a.data.toList (j + 1) = 45)) : Cl a.data.toList :=
  ⟨h1, h2, h3, by rw [← Lib.size_eq]; exact h4, fun j hj => h5 j (by rw [Lib.size_eq]; exact hj)⟩
set_option maxRecDepth 20000 in
set_option maxHeartbeats 4000000 in
theorem comments_walk (a b : ByteArray) (w : World) (hl : Laid w) : Calls Tryd.prog 5 #[.string a, .string b] w fun e w' => e = .returned (.bool true) ∧ Below w.heap.size w w' := by
  have HL := Fact.mk hl
  clear hl
  by_cases h1 : 1000 < a.size
  · have i1 : (1000 : Int) < a.size := by omega
    have q1 : decide ((1000 : Int) < a.size) = true := decide_eq_true i1
    go_enter Tryd.func5, Tryd.ntmps5
    go_wp2_with (go_at_call 9; refine (awake10_true _ HL.out).mono ?_; rintro e w1 ⟨rfl, hb1⟩)
    go_ret
    exact ⟨rfl, hb1⟩
  have q1 : decide ((1000 : Int) < a.size) = false := decide_eq_false (by omega)
  have q1n : decide (1000 < a.size) = false := decide_eq_false h1
  have i1 : (a.size : Int) ≤ 1000 := by omega
  by_cases h2 : 1000 < b.size
  · have i2 : (1000 : Int) < b.size := by omega
    have q2 : decide ((1000 : Int) < b.size) = true := decide_eq_true i2
    go_enter Tryd.func5, Tryd.ntmps5
    go_wp2_with (go_at_call 9; refine (awake10_true _ HL.out).mono ?_; rintro e w1 ⟨rfl, hb1⟩)
    go_ret
    exact ⟨rfl, hb1⟩
  have q2 : decide ((1000 : Int) < b.size) = false := decide_eq_false (by omega)
  have q2n : decide (1000 < b.size) = false := decide_eq_false h2
  have i2 : (b.size : Int) ≤ 1000 := by omega
  by_cases h3 : a.data.toList = []
  · have q3 : (a.toList == []) = true := by rw [Lib.toList_data, h3]; rfl
    go_enter Tryd.func5, Tryd.ntmps5
    go_wp2_with (go_at_call 9; refine (awake10_true _ HL.out).mono ?_; rintro e w1 ⟨rfl, hb1⟩)
    go_ret
    exact ⟨rfl, hb1⟩
  have q3 : (a.toList == []) = false := by rw [Lib.toList_data, beq_eq_false_iff_ne]; exact h3
  have hpos : 0 < a.size := by rw [Lib.size_eq]; exact List.length_pos_iff.2 h3
  have p1 : (0 : Int) < a.size := by omega
  obtain ⟨c, hc⟩ : ∃ c, bAt a.data.toList 0 = c := ⟨_, rfl⟩
  have hcc : a[0] = c := by rw [← byte_at a 0 hpos]; exact hc
  by_cases h4 : c = 62
  · have q4 : ((c.toNat : Int) == 62) = true := by rw [h4]; rfl
    go_enter Tryd.func5, Tryd.ntmps5
    go_wp2_with (go_at_call 9; refine (awake10_true _ HL.out).mono ?_; rintro e w1 ⟨rfl, hb1⟩)
    go_ret
    exact ⟨rfl, hb1⟩
  have q4 : ((c.toNat : Int) == 62) = false := u8_ne (by decide) h4
  by_cases h5 : c = 45
  · have q5 : ((c.toNat : Int) == 45) = true := by rw [h5]; rfl
    go_enter Tryd.func5, Tryd.ntmps5
    go_wp2_with (go_at_call 9; refine (awake10_true _ HL.out).mono ?_; rintro e w1 ⟨rfl, hb1⟩)
    go_ret
    exact ⟨rfl, hb1⟩
  have q5 : ((c.toNat : Int) == 45) = false := u8_ne (by decide) h5
  obtain ⟨d, hd⟩ : ∃ d, bAt a.data.toList (a.size - 1) = d := ⟨_, rfl⟩
  have hlast : a.size - 1 < a.size := by omega
  have hdd : a[a.size - 1] = d := by rw [← byte_at a (a.size - 1) hlast]; exact hd
  have hw0 : wrap64 ((a.size : Int) - 1) = ((a.size - 1 : Nat) : Int) := wrap_ok (by omega) ⟨by omega⟩
  obtain ⟨z, hz⟩ : ∃ z, a.size - 1 = z := ⟨_, rfl⟩
  have hzI : (a.size : Int) - 1 = (z : Int) := by omega
  have hzl : z < a.size := by omega
  have hzlI : (z : Int) < a.size := by omega
  have hz0 : (0 : Int) ≤ z := by omega
  have hwz : wrap64 (z : Int) = (z : Int) := wrap_ok rfl ⟨by omega⟩
  have hdz : a[z] = d := by rw [← byte_at a z hzl, ← hz]; exact hd
  clear hdd hw0
  by_cases h6 : d = 45
  · have q6 : ((d.toNat : Int) == 45) = true := by rw [h6]; rfl
    clear hz
    go_enter Tryd.func5, Tryd.ntmps5
    go_wp2_with (go_at_call 9; refine (awake10_true _ HL.out).mono ?_; rintro e w1 ⟨rfl, hb1⟩)
    go_ret
    exact ⟨rfl, hb1⟩
  have q6 : ((d.toNat : Int) == 45) = false := u8_ne (by decide) h6
  have HC0 : Fact (a.data.toList ≠ [] ∧ bAt a.data.toList 0 ≠ 62 ∧ bAt a.data.toList 0 ≠ 45 ∧ bAt a.data.toList (a.size - 1) ≠ 45) := ⟨⟨h3, by rw [hc]; exact h4, by rw [hc]; exact h5, by rw [hd]; exact h6⟩⟩
  clear hz hc hd h3 h4 h5 h6
  go_enter Tryd.func5, Tryd.ntmps5
  go_wp2_with fail
  go_loop [5] (fun i => ∃ k : Nat, i = .int .i64 k ∧ k ≤ a.size ∧ Fact (∀ j, j < k → j + 1 < a.size → ¬ (bAt a.data.toList j = 45 ∧ bAt a.data.toList (j + 1) = 45))) (fun i => a.size - (intOf i).toNat)
  case atStart => exact ⟨0, rfl, Nat.zero_le _, ⟨fun j hj => by omega⟩⟩
  case round =>
    obtain ⟨k, rfl, hk, hr⟩ := hrel
    have hw1 : wrap64 ((k : Int) + 1) = (k : Int) + 1 := wrap_ok (m := k + 1) rfl ⟨by omega⟩
    by_cases hlt : k + 1 < a.size
    · have g1 : (k : Int) + 1 < a.size := by omega
      have g2 : decide ((k : Int) + 1 < a.size) = true := decide_eq_true g1
      have g3 : (k : Int) < a.size := by omega
      have g4 : (0 : Int) ≤ k := by omega
      have g5 : (0 : Int) ≤ (k : Int) + 1 := by omega
      have g6 : ((k : Int) + 1).toNat = k + 1 := by omega
      have hk1 : k < a.size := by omega
      obtain ⟨x, hx⟩ : ∃ x, bAt a.data.toList k = x := ⟨_, rfl⟩
      have hxx : a[k] = x := by rw [← byte_at a k hk1]; exact hx
      obtain ⟨y, hy⟩ : ∃ y, bAt a.data.toList (k + 1) = y := ⟨_, rfl⟩
      have hyy : a[k + 1] = y := by rw [← byte_at a (k + 1) hlt]; exact hy
      by_cases hx45 : x = 45
      · have r1 : ((x.toNat : Int) == 45) = true := by rw [hx45]; rfl
        by_cases hy45 : y = 45
        · have r2 : ((y.toNat : Int) == 45) = true := by rw [hy45]; rfl
          clear hr hx hy hx45 hy45
          go_wp2_with (go_at_call 9; refine (awake10_true _ HL.out).mono ?_; rintro e w1 ⟨rfl, hb1⟩)
          go_ret
          exact ⟨rfl, hb1⟩
        · have r2 : ((y.toNat : Int) == 45) = false := u8_ne (by decide) hy45
          have hr2 : Fact (∀ j, j < k + 1 → j + 1 < a.size → ¬ (bAt a.data.toList j = 45 ∧ bAt a.data.toList (j + 1) = 45)) := ⟨fun j h1 h2 => by
            by_cases e : j = k
            · subst e
              rw [hy]
              exact fun h => hy45 h.2
            · exact hr.out j (by omega) h2⟩
          clear hr hx hy hx45 hy45
          go_wp2_with fail
          go_round
          case rel => exact ⟨k + 1, by (first | exact int_eq rfl | exact int_eq hw1), hk1, hr2⟩
          case measure => (try rw [hw1]); exact meas_up hk1
      · have r1 : ((x.toNat : Int) == 45) = false := u8_ne (by decide) hx45
        have hr2 : Fact (∀ j, j < k + 1 → j + 1 < a.size → ¬ (bAt a.data.toList j = 45 ∧ bAt a.data.toList (j + 1) = 45)) := ⟨fun j h1 h2 => by
          by_cases e : j = k
          · subst e
            rw [hx]
            exact fun h => hx45 h.1
          · exact hr.out j (by omega) h2⟩
        clear hr hx hy hx45
        go_wp2_with fail
        go_round
        case rel => exact ⟨k + 1, by (first | exact int_eq rfl | exact int_eq hw1), hk1, hr2⟩
        case measure => (try rw [hw1]); exact meas_up hk1
    · have g1 : (a.size : Int) ≤ (k : Int) + 1 := by omega
      have g2 : decide ((k : Int) + 1 < a.size) = false := decide_eq_false (by omega)
      have CL : Fact (Cl a.data.toList) := ⟨cl_of HC0.out.1 HC0.out.2.1 HC0.out.2.2.1 HC0.out.2.2.2 (fun j hj => hr.out j (by omega) hj)⟩
      clear hr
      obtain ⟨A1, hA1⟩ : ∃ A : ByteArray, (⟨#[60, 33, 45, 45]⟩ : ByteArray) ++ a = A := ⟨_, rfl⟩
      obtain ⟨A2, hA2⟩ : ∃ A : ByteArray, A1 ++ (⟨#[45, 45, 62]⟩ : ByteArray) = A := ⟨_, rfl⟩
      obtain ⟨A3, hA3⟩ : ∃ A : ByteArray, A2 ++ b = A := ⟨_, rfl⟩
      obtain ⟨B2, hB2⟩ : ∃ A : ByteArray, A1 ++ (⟨#[45, 45, 33, 62]⟩ : ByteArray) = A := ⟨_, rfl⟩
      obtain ⟨B3, hB3⟩ : ∃ A : ByteArray, B2 ++ b = A := ⟨_, rfl⟩
      obtain ⟨C2, hC2⟩ : ∃ A : ByteArray, A1 ++ (⟨#[45, 45]⟩ : ByteArray) = A := ⟨_, rfl⟩
      have d1 : A1.data.toList = cmH ++ a.data.toList := by rw [← hA1, data_app]
      have dA : A3.data.toList = cmH ++ (a.data.toList ++ ([45, 45, 62] ++ b.data.toList)) := by rw [← hA3, data_app, ← hA2, data_app, d1]; simp
      have dB : B3.data.toList = cmH ++ (a.data.toList ++ ([45, 45, 33, 62] ++ b.data.toList)) := by rw [← hB3, data_app, ← hB2, data_app, d1]; simp
      have dC : C2.data.toList = cmH ++ (a.data.toList ++ [45, 45]) := by rw [← hC2, data_app, d1]; simp
      have s1 : A1.size = 4 + a.size := by rw [← hA1, size_app]; rfl
      have s2 : A2.size = 7 + a.size := by rw [← hA2, size_app, s1]; show 4 + a.size + 3 = _; omega
      have s3 : A3.size = 7 + a.size + b.size := by rw [← hA3, size_app, s2]
      have s4 : B2.size = 8 + a.size := by rw [← hB2, size_app, s1]; show 4 + a.size + 4 = _; omega
      have s5 : B3.size = 8 + a.size + b.size := by rw [← hB3, size_app, s4]
      have s6 : C2.size = 6 + a.size := by rw [← hC2, size_app, s1]; show 4 + a.size + 2 = _; omega
      have m1 : (4 : Nat) + a.size ≤ 100000000 := by omega
      have m2 : A1.size + 3 ≤ 100000000 := by omega
      have m4 : A1.size + 4 ≤ 100000000 := by omega
      have m6 : A1.size + 2 ≤ 100000000 := by omega
      have r1 := fun w => add_at ⟨#[60, 33, 45, 45]⟩ a A1 hA1 m1 w
      have r2 := fun w => add_at A1 ⟨#[45, 45, 62]⟩ A2 hA2 m2 w
      have r3 := fun w => add_at A2 b A3 hA3 (by omega) w
      have r4 := fun w => add_at A1 ⟨#[45, 45, 33, 62]⟩ B2 hB2 m4 w
      have r5 := fun w => add_at B2 b B3 hB3 (by omega) w
      have r6 := fun w => add_at A1 ⟨#[45, 45]⟩ C2 hC2 m6 w
      have KA : Fact (∀ w', Laid w' → Calls Tryd.prog 10 #[.string A3, .int .i64 0, .string ⟨#[]⟩] w' fun e w'' => TokOut w' ⟨4, ⟨#[]⟩, a, [], false⟩ (7 + a.size) true e w'') := ⟨fun w' hl' => next_is A3 ⟨#[]⟩ ⟨#[]⟩ a 0 4 [] false (7 + a.size) true ⟨by omega⟩ ⟨by decide⟩ (by omega) (fun t' E' ok' hR => by
        rw [dA] at hR
        obtain ⟨h1, h2, h3⟩ := cm_is CL.out (n := 3) (by decide) rfl hR
        exact ⟨h1, by rw [h2, ← Lib.size_eq]; omega, h3⟩) w' hl'⟩
      have KB : Fact (∀ w', Laid w' → Calls Tryd.prog 10 #[.string B3, .int .i64 0, .string ⟨#[]⟩] w' fun e w'' => TokOut w' ⟨4, ⟨#[]⟩, a, [], false⟩ (8 + a.size) true e w'') := ⟨fun w' hl' => next_is B3 ⟨#[]⟩ ⟨#[]⟩ a 0 4 [] false (8 + a.size) true ⟨by omega⟩ ⟨by decide⟩ (by omega) (fun t' E' ok' hR => by
        rw [dB] at hR
        obtain ⟨h1, h2, h3⟩ := cm_is CL.out (n := 4) (by decide) rfl hR
        exact ⟨h1, by rw [h2, ← Lib.size_eq]; omega, h3⟩) w' hl'⟩
      have KC : Fact (∀ w', Laid w' → Calls Tryd.prog 10 #[.string C2, .int .i64 0, .string ⟨#[]⟩] w' fun e w'' => TokOut w' ⟨4, ⟨#[]⟩, a, [], false⟩ (6 + a.size) true e w'') := ⟨fun w' hl' => next_is C2 ⟨#[]⟩ ⟨#[]⟩ a 0 4 [] false (6 + a.size) true ⟨by omega⟩ ⟨by decide⟩ (by omega) (fun t' E' ok' hR => by
        rw [dC] at hR
        obtain ⟨h1, h2, h3⟩ := cm_cut CL.out hR
        exact ⟨h1, by rw [h2, ← Lib.size_eq]; omega, h3⟩) w' hl'⟩
      have w7 := w7s a.size (Nat.le_of_not_lt h1)
      have w8 := w8s a.size (Nat.le_of_not_lt h1)
      have y7 : (((7 : Int) + a.size) == ((7 : Int) + a.size)) = true := beq_self_eq_true _
      have y8 : (((8 : Int) + a.size) == ((8 : Int) + a.size)) = true := beq_self_eq_true _
      have tok1 : True := trivial
      have tok2 : True := trivial
      have tok3 : True := trivial
      have tok4 : True := trivial
      have tok5 : True := trivial
      clear d1 dA dB dC s1 s2 s3 s4 s5 s6 CL HC0 m1 m2 m4 m6 hA1 hA2 hA3 hB2 hB3 hC2 q3 p1 q4 q5 q6 hcc hdz hzI hzlI hz0 hwz hpos hlast hzl
      go_wp2_with (first
        | (have _t := tok1; go_at_call 10; refine (KA.out _ HL.out).mono ?_; intro e w1 h1; obtain ⟨va, vc, rfl, hb1⟩ := h1.same rfl; have HB1 := Fact.mk hb1; clear h1 hb1 tok1 _t)
        | (have _t := tok2; go_at_call 10; refine (KB.out _ (HL.out.since (HB1.out.alloc HB1.out.size _))).mono ?_; intro e w2 h2; obtain ⟨ua, uc, rfl, hb2⟩ := h2.same rfl; have F1 := Fact.mk ((Five.new w1 _ _ _ _ _ _).keep hb2); have HB2 := Fact.mk ((HB1.out.alloc HB1.out.size _).trans (hb2.mono (HB1.out.alloc HB1.out.size _).size)); clear h2 hb2 tok2 _t)
        | (have _t := tok3; go_at_call 10; refine (KC.out _ (HL.out.since (HB2.out.alloc HB2.out.size _))).mono ?_; intro e w3 h3; obtain ⟨xa, xc, rfl, hb3⟩ := h3.same rfl; have G1 := Fact.mk ((F1.out.alloc _).keep hb3); have G2 := Fact.mk ((Five.new w2 _ _ _ _ _ _).keep hb3); have HB3 := Fact.mk ((HB2.out.alloc HB2.out.size _).trans (hb3.mono (HB2.out.alloc HB2.out.size _).size)); clear h3 hb3 tok3 _t; obtain ⟨c0, c1, c2, c3, c4, cz⟩ := G1.out; obtain ⟨d0, d1, d2, d3, d4, dz⟩ := G2.out; have L1 := G1.out.lt; have L2 := G2.out.lt)
        | (have _t := tok4; go_at_call 11; refine (sameToken_none 4 ⟨#[]⟩ a false _ _ _ _ _).mono ?_; rintro e w5 ⟨rfl, hb5⟩; have J2 := ((G2.out.alloc _).alloc _).keep hb5; have J3 := Fact.mk (((Five.new w3 _ _ _ _ _ _).alloc _).keep hb5); have J4 := Fact.mk (want_keep hb5); have HB5 := Fact.mk ((((HB3.out.alloc HB3.out.size _).alloc (HB3.out.alloc HB3.out.size _).size _)).trans (hb5.mono (((HB3.out.alloc HB3.out.size _).alloc (HB3.out.alloc HB3.out.size _).size _)).size)); clear c0 c1 c2 c3 c4 cz d0 d1 d2 d3 d4 dz L1 L2 hb5 tok4 _t; obtain ⟨c0, c1, c2, c3, c4, cz⟩ := J2; obtain ⟨d0, d1, d2, d3, d4, dz⟩ := J4.out)
        | (have _t := tok5; go_at_call 11; refine (sameToken_none 4 ⟨#[]⟩ a false _ _ _ _ _).mono ?_; rintro e w6 ⟨rfl, hb6⟩; have P3 := J3.out.keep hb6; have P4 := J4.out.keep hb6; have HB6 := Fact.mk (HB5.out.trans (hb6.mono HB5.out.size)); clear c0 c1 c2 c3 c4 cz d0 d1 d2 d3 d4 dz hb6 tok5 _t; obtain ⟨c0, c1, c2, c3, c4, cz⟩ := P3; obtain ⟨d0, d1, d2, d3, d4, dz⟩ := P4)
        | (go_at_call 11; refine (sameToken_none 4 ⟨#[]⟩ a false _ _ _ _ _).mono ?_; rintro e w7 ⟨rfl, hb7⟩; have HB7 := Fact.mk (HB6.out.trans (hb7.mono HB6.out.size)); clear hb7)
        | (go_at_call 9; refine (awake10_true _ (HL.out.since HB7.out)).mono ?_; rintro e w8 ⟨rfl, hb8⟩; have HB8 := Fact.mk (HB7.out.trans (hb8.mono HB7.out.size)); clear hb8))
      go_ret
      exact ⟨rfl, HB8.out⟩
end Go.Proofs.YtbhhncdcdmcpfaaDoor
