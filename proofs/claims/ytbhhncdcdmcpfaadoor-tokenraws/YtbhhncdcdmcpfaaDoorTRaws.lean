/- TokenRaws. -/
import Derived.Test.YtbhhncdcdmcpfaaDoorTRawM
set_option linter.unusedVariables false
namespace Go.Proofs.YtbhhncdcdmcpfaaDoor
open Go.RowKit M

def rn : Nat → ByteArray
  | 0 => ⟨#[116, 105, 116, 108, 101]⟩
  | 1 => ⟨#[116, 101, 120, 116, 97, 114, 101, 97]⟩
  | 2 => ⟨#[115, 116, 121, 108, 101]⟩
  | 3 => ⟨#[115, 99, 114, 105, 112, 116]⟩
  | 4 => ⟨#[120, 109, 112]⟩
  | 5 => ⟨#[105, 102, 114, 97, 109, 101]⟩
  | 6 => ⟨#[110, 111, 101, 109, 98, 101, 100]⟩
  | _ => ⟨#[110, 111, 102, 114, 97, 109, 101, 115]⟩
def ru : Nat → ByteArray
  | 0 => ⟨#[84, 73, 84, 76, 69]⟩
  | 1 => ⟨#[84, 69, 88, 84, 65, 82, 69, 65]⟩
  | 2 => ⟨#[83, 84, 89, 76, 69]⟩
  | 3 => ⟨#[83, 67, 82, 73, 80, 84]⟩
  | 4 => ⟨#[88, 77, 80]⟩
  | 5 => ⟨#[73, 70, 82, 65, 77, 69]⟩
  | 6 => ⟨#[78, 79, 69, 77, 66, 69, 68]⟩
  | _ => ⟨#[78, 79, 70, 82, 65, 77, 69, 83]⟩
theorem eight {j : Nat} (h : (j : Int) < 8) : j = 0 ∨ j = 1 ∨ j = 2 ∨ j = 3 ∨ j = 4 ∨ j = 5 ∨ j = 6 ∨ j = 7 := by omega
theorem rn_ok {p : Nat} (h : (p : Int) < 8) : NmOK (rn p).data.toList ∧ (rn p).size ≤ 8 := by
  rcases eight h with rfl | rfl | rfl | rfl | rfl | rfl | rfl | rfl <;> exact ⟨⟨by decide, by decide, by decide, by decide⟩, by decide⟩
theorem ru_ok {p : Nat} (h : (p : Int) < 8) : UpOK (ru p).data.toList (rn p).data.toList ∧ UpOK (rn p).data.toList (rn p).data.toList ∧ (ru p).size ≤ 8 := by
  rcases eight h with rfl | rfl | rfl | rfl | rfl | rfl | rfl | rfl <;> exact ⟨⟨by decide, by decide, by decide⟩, ⟨by decide, by decide, by decide⟩, by decide⟩
abbrev rnO : Obj := .cells #[.string ⟨#[116, 105, 116, 108, 101]⟩, .string ⟨#[116, 101, 120, 116, 97, 114, 101, 97]⟩, .string ⟨#[115, 116, 121, 108, 101]⟩, .string ⟨#[115, 99, 114, 105, 112, 116]⟩, .string ⟨#[120, 109, 112]⟩, .string ⟨#[105, 102, 114, 97, 109, 101]⟩, .string ⟨#[110, 111, 101, 109, 98, 101, 100]⟩, .string ⟨#[110, 111, 102, 114, 97, 109, 101, 115]⟩] 38
theorem rn_cell (w : World) {p : Nat} (h : (p : Int) < 8) : (w.alloc rnO).cell? ⟨w.heap.size, p, none⟩ = some (.string (rn p)) := by
  rcases eight h with rfl | rfl | rfl | rfl | rfl | rfl | rfl | rfl <;> exact World.cell?_alloc_new w _ _ _
theorem ru_index {p : Nat} (h : (p : Int) < 8) (w : World) : (Instr.index 38 (.agg #[.string ⟨#[84, 73, 84, 76, 69]⟩, .string ⟨#[84, 69, 88, 84, 65, 82, 69, 65]⟩, .string ⟨#[83, 84, 89, 76, 69]⟩, .string ⟨#[83, 67, 82, 73, 80, 84]⟩, .string ⟨#[88, 77, 80]⟩, .string ⟨#[73, 70, 82, 65, 77, 69]⟩, .string ⟨#[78, 79, 69, 77, 66, 69, 68]⟩, .string ⟨#[78, 79, 70, 82, 65, 77, 69, 83]⟩]) (.int .i64 p)).run Tryd.prog w = .ok (.string (ru p)) w := by
  rcases eight h with rfl | rfl | rfl | rfl | rfl | rfl | rfl | rfl <;> kernel_rfl
/-- two calls of Next, what they say -/
theorem raws_calls (a N U : ByteArray) (T : List UInt8) (S En Al : ByteArray) (hn : NmOK N.data.toList) (hu : UpOK U.data.toList N.data.toList) (hT : T = [62] ∨ T = [32, 62]) (ha : ∀ c ∈ a.data.toList, c ≠ 47 ∧ c ≠ 38)
    (hS : S.data.toList = rwS a.data.toList N.data.toList) (hE : En.data.toList = rwE U.data.toList T) (hA : Al.data.toList = S.data.toList ++ En.data.toList) (hs : IsSm Al.size) (hN : IsSm N.size) :
    (∀ w', Laid w' → Calls Tryd.prog 10 #[.string Al, .int .i64 0, .string N] w' fun e w'' => TokOut w' ⟨3, ⟨#[]⟩, S, [], true⟩ S.size true e w'') ∧
    (∀ w', Laid w' → Calls Tryd.prog 10 #[.string Al, .int .i64 S.size, .string N] w' fun e w'' => TokOut w' ⟨2, N, ⟨#[]⟩, [], false⟩ (S.size + En.size) true e w'') := by
  have hAs : Al.size = S.size + En.size := by rw [Lib.size_eq, hA, List.length_append, ← Lib.size_eq, ← Lib.size_eq]
  have hEs : 0 < En.size := by rw [Lib.size_eq, hE, rwE_len]; omega
  refine ⟨fun w' hl => next_is Al N ⟨#[]⟩ S 0 3 [] true S.size true hs hN (by omega) (fun t' E' ok' hR => ?_) w' hl, fun w' hl => next_is Al N N ⟨#[]⟩ S.size 2 [] false (S.size + En.size) true hs hN (by omega) (fun t' E' ok' hR => ?_) w' hl⟩
  · rw [hA, hS, hE] at hR
    have h := raws_one hn hu hT ha hR
    rw [← hS, ← Lib.size_eq] at h
    exact h
  · have e : S.size = (rwS a.data.toList N.data.toList).length := by rw [Lib.size_eq, hS]
    rw [e, hA, hS, hE] at hR
    have h := raws_two hn hu hT hR
    rw [← hS, ← hE, ← Lib.size_eq, ← Lib.size_eq] at h
    exact h
theorem wrap_two (a b : Nat) (h : a + b ≤ 100000000) : wrap64 ((a : Int) + b) = (a : Int) + b := by unfold wrap64; omega
set_option maxRecDepth 20000 in
set_option maxHeartbeats 2000000 in
theorem raws_walk (a : ByteArray) (which : Int) (up : Bool) (w : World) (hl : Laid w) : Calls Tryd.prog 6 #[.string a, .int .i64 which, .bool up] w fun e w' => e = .returned (.bool true) ∧ Below w.heap.size w w' := by
  have HL := Fact.mk hl
  clear hl
  obtain ⟨p, hp, cp⟩ := place_gen which 8 (by decide) (by decide)
  have CP := Fact.mk cp
  clear cp
  have hcell := rn_cell w hp
  have n1 := rn_ok hp
  have n2 := ru_ok hp
  have iU := ru_index hp
  obtain ⟨N, hN⟩ : ∃ N, rn p = N := ⟨_, rfl⟩
  obtain ⟨U, hU⟩ : ∃ U, ru p = U := ⟨_, rfl⟩
  rw [hN] at hcell n1 n2
  rw [hU] at n2 iU
  have HB0 := Fact.mk (bl1 w rnO)
  have hp0 : (0 : Int) ≤ p := by omega
  have N1 := Fact.mk n1
  have N2 := Fact.mk n2
  clear n1 n2 hN hU
  by_cases h1 : 1000 < a.size
  · have i1 : (1000 : Int) < a.size := by omega
    have q1 : decide ((1000 : Int) < a.size) = true := decide_eq_true i1
    go_enter Tryd.func6, Tryd.ntmps6
    go_wp2_with (first
      | (go_at_call 12; refine (CP.out _).mono ?_; rintro e w1 ⟨rfl, rfl⟩)
      | (go_at_call 9; refine (awake10_true _ (HL.out.since HB0.out)).mono ?_; rintro e w1 ⟨rfl, hb1⟩))
    go_ret
    exact ⟨rfl, HB0.out.trans (hb1.mono HB0.out.size)⟩
  have q1 : decide ((1000 : Int) < a.size) = false := decide_eq_false (by omega)
  have q1n : decide (1000 < a.size) = false := decide_eq_false h1
  have i1 : (a.size : Int) ≤ 1000 := by omega
  by_cases h3 : a.data.toList = []
  · have q3 : (a.toList == []) = true := by rw [Lib.toList_data, h3]; rfl
    go_enter Tryd.func6, Tryd.ntmps6
    go_wp2_with (first
      | (go_at_call 12; refine (CP.out _).mono ?_; rintro e w1 ⟨rfl, rfl⟩)
      | (go_at_call 9; refine (awake10_true _ (HL.out.since HB0.out)).mono ?_; rintro e w1 ⟨rfl, hb1⟩))
    go_ret
    exact ⟨rfl, HB0.out.trans (hb1.mono HB0.out.size)⟩
  have q3 : (a.toList == []) = false := by rw [Lib.toList_data, beq_eq_false_iff_ne]; exact h3
  go_enter Tryd.func6, Tryd.ntmps6
  go_wp2_with (first | (go_at_call 12; refine (CP.out _).mono ?_; rintro e w1 ⟨rfl, rfl⟩))
  go_loop [9] (fun i => ∃ k : Nat, i = .int .i64 k ∧ k ≤ a.size ∧ Fact (∀ j, j < k → bAt a.data.toList j ≠ 47 ∧ bAt a.data.toList j ≠ 38)) (fun i => a.size - (intOf i).toNat)
  case atStart => exact ⟨0, rfl, Nat.zero_le _, ⟨fun j hj => by omega⟩⟩
  case round =>
    obtain ⟨k, rfl, hk, hr⟩ := hrel
    have hw1 : wrap64 ((k : Int) + 1) = (k : Int) + 1 := wrap_ok (m := k + 1) rfl ⟨by omega⟩
    by_cases hlt : k < a.size
    · have g1 : (k : Int) < a.size := by omega
      have g2 : decide ((k : Int) < a.size) = true := decide_eq_true g1
      have g2n : decide (k < a.size) = true := decide_eq_true hlt
      have g4 : (0 : Int) ≤ k := by omega
      obtain ⟨x, hx⟩ : ∃ x, bAt a.data.toList k = x := ⟨_, rfl⟩
      have hxx : a[k] = x := by rw [← byte_at a k hlt]; exact hx
      by_cases hx38 : x = 38
      · have r1 : ((x.toNat : Int) == 38) = true := by rw [hx38]; rfl
        clear hr hx hx38
        go_wp2_with (go_at_call 9; refine (awake10_true _ (HL.out.since HB0.out)).mono ?_; rintro e w1 ⟨rfl, hb1⟩)
        go_ret
        exact ⟨rfl, HB0.out.trans (hb1.mono HB0.out.size)⟩
      have r1 : ((x.toNat : Int) == 38) = false := u8_ne (by decide) hx38
      by_cases hx47 : x = 47
      · have r2 : ((x.toNat : Int) == 47) = true := by rw [hx47]; rfl
        clear hr hx hx47 hx38
        go_wp2_with (go_at_call 9; refine (awake10_true _ (HL.out.since HB0.out)).mono ?_; rintro e w1 ⟨rfl, hb1⟩)
        go_ret
        exact ⟨rfl, HB0.out.trans (hb1.mono HB0.out.size)⟩
      have r2 : ((x.toNat : Int) == 47) = false := u8_ne (by decide) hx47
      have hr2 : Fact (∀ j, j < k + 1 → bAt a.data.toList j ≠ 47 ∧ bAt a.data.toList j ≠ 38) := ⟨fun j h1 => by
        by_cases e : j = k
        · subst e
          rw [hx]
          exact ⟨hx47, hx38⟩
        · exact hr.out j (by omega)⟩
      clear hr hx hx47 hx38
      go_wp2_with fail
      go_round
      case rel => exact ⟨k + 1, by (first | exact int_eq rfl | exact int_eq hw1), hlt, hr2⟩
      case measure => (try rw [hw1]); exact meas_up hlt
    · have g1 : (a.size : Int) ≤ k := by omega
      have g2 : decide ((k : Int) < a.size) = false := decide_eq_false (by omega)
      have g2n : decide (k < a.size) = false := decide_eq_false hlt
      have HA : Fact (∀ c ∈ a.data.toList, c ≠ 47 ∧ c ≠ 38) := ⟨fun c hc => by
        obtain ⟨j, hj, e⟩ := List.getElem_of_mem hc
        have := hr.out j (by rw [← Lib.size_eq] at hj; omega)
        rw [bAt_in hj, e] at this
        exact this⟩
      clear hr
      obtain ⟨V, T, hVT, hUV⟩ : ∃ (V : ByteArray) (T : ByteArray), (T.data.toList = [62] ∨ T.data.toList = [32, 62]) ∧ UpOK V.data.toList N.data.toList ∧ V.size ≤ 8 ∧ T.size ≤ 2 ∧ ((up = false ∧ V = N ∧ T = ⟨#[62]⟩) ∨ (up = true ∧ V = U ∧ T = ⟨#[32, 62]⟩)) := by
        cases up
        · exact ⟨N, ⟨#[62]⟩, Or.inl rfl, N2.out.2.1, N1.out.2, by decide, Or.inl ⟨rfl, rfl, rfl⟩⟩
        · exact ⟨U, ⟨#[32, 62]⟩, Or.inr rfl, N2.out.1, N2.out.2.2, by decide, Or.inr ⟨rfl, rfl, rfl⟩⟩
      obtain ⟨hUV, zV, zT, hup⟩ := hUV
      have zN := N1.out.2
      obtain ⟨D1, hD1⟩ : ∃ A : ByteArray, (⟨#[60, 47]⟩ : ByteArray) ++ N = A := ⟨_, rfl⟩
      obtain ⟨D2, hD2⟩ : ∃ A : ByteArray, D1 ++ (⟨#[62]⟩ : ByteArray) = A := ⟨_, rfl⟩
      obtain ⟨G1, hG1⟩ : ∃ A : ByteArray, (⟨#[60, 47]⟩ : ByteArray) ++ U = A := ⟨_, rfl⟩
      obtain ⟨G2, hG2⟩ : ∃ A : ByteArray, G1 ++ (⟨#[32, 62]⟩ : ByteArray) = A := ⟨_, rfl⟩
      obtain ⟨En, hEn⟩ : ∃ A : ByteArray, (if up = true then G2 else D2) = A := ⟨_, rfl⟩
      obtain ⟨S1, hS1⟩ : ∃ A : ByteArray, a ++ (⟨#[60, 47, 98, 62, 60, 47]⟩ : ByteArray) = A := ⟨_, rfl⟩
      obtain ⟨S2, hS2⟩ : ∃ A : ByteArray, S1 ++ N = A := ⟨_, rfl⟩
      obtain ⟨S3, hS3⟩ : ∃ A : ByteArray, S2 ++ (⟨#[120, 62]⟩ : ByteArray) = A := ⟨_, rfl⟩
      obtain ⟨Al, hAl⟩ : ∃ A : ByteArray, S3 ++ En = A := ⟨_, rfl⟩
      have dS : S3.data.toList = rwS a.data.toList N.data.toList := by rw [← hS3, data_app, ← hS2, data_app, ← hS1, data_app]; unfold rwS; simp
      have dE : En.data.toList = rwE V.data.toList T.data.toList := by
        rcases hup with ⟨rfl, rfl, rfl⟩ | ⟨rfl, rfl, rfl⟩
        · rw [← hEn, if_neg (by decide), ← hD2, data_app, ← hD1, data_app]
          unfold rwE
          simp
        · rw [← hEn, if_pos rfl, ← hG2, data_app, ← hG1, data_app]
          unfold rwE
          simp
      have s1 : D1.size = 2 + N.size := by rw [← hD1, size_app]; rfl
      have s2 : G1.size = 2 + U.size := by rw [← hG1, size_app]; rfl
      have s3 : S1.size = a.size + 6 := by rw [← hS1, size_app]; rfl
      have s4 : S2.size = a.size + 6 + N.size := by rw [← hS2, size_app, s3]
      have s5 : S3.size = a.size + 8 + N.size := by rw [← hS3, size_app, s4]; show a.size + 6 + N.size + 2 = _; omega
      have s6 : En.size = 2 + V.size + T.size := by rw [Lib.size_eq, dE, rwE_len, ← Lib.size_eq, ← Lib.size_eq]
      have s7 : Al.size = S3.size + En.size := by rw [← hAl, size_app]
      have zU := N2.out.2.2
      have hc := raws_calls a N V T.data.toList S3 En Al N1.out.1 hUV hVT HA.out dS dE (by rw [← hAl, data_app]) ⟨by omega⟩ ⟨by omega⟩
      have K1 := Fact.mk hc.1
      have K2 := Fact.mk hc.2
      have m1 : (2 : Nat) + N.size ≤ 100000000 := by omega
      have m2 : D1.size + 1 ≤ 100000000 := by omega
      have m3 : (2 : Nat) + U.size ≤ 100000000 := by omega
      have m4 : G1.size + 2 ≤ 100000000 := by omega
      have m5 : a.size + 6 ≤ 100000000 := by omega
      have m6 : S2.size + 2 ≤ 100000000 := by omega
      have r1 := fun w => add_at ⟨#[60, 47]⟩ N D1 hD1 m1 w
      have r2 := fun w => add_at D1 ⟨#[62]⟩ D2 hD2 m2 w
      have r3 := fun w => add_at ⟨#[60, 47]⟩ U G1 hG1 m3 w
      have r4 := fun w => add_at G1 ⟨#[32, 62]⟩ G2 hG2 m4 w
      have r5 := fun w => add_at a ⟨#[60, 47, 98, 62, 60, 47]⟩ S1 hS1 m5 w
      have r6 := fun w => add_at S1 N S2 hS2 (by omega) w
      have r7 := fun w => add_at S2 ⟨#[120, 62]⟩ S3 hS3 m6 w
      have r8 := fun w => add_at S3 En Al hAl (by omega) w
      have y1 : ((S3.size : Int) == (S3.size : Int)) = true := beq_self_eq_true _
      have y2 : (S3.toList == S3.toList) = true := beq_self_eq_true _
      have y3 : (N.toList == N.toList) = true := beq_self_eq_true _
      have y4 : (((S3.size : Int) + En.size) == ((S3.size : Int) + En.size)) = true := beq_self_eq_true _
      have y5 := wrap_two S3.size En.size (by omega)
      have tok1 : True := trivial
      clear hc hup hVT hUV dS dE s1 s2 s3 s4 s5 s6 s7 m1 m2 m3 m4 m5 m6 HA N1 N2 hD1 hD2 hG1 hG2 hS1 hS2 hS3 hAl zV zT zN zU
      cases up
      · rw [if_neg (by decide)] at hEn
        subst hEn
        go_wp2_with (first
          | (have _t := tok1; go_at_call 10; refine (K1.out _ (HL.out.since HB0.out)).mono ?_; intro e w2 h1; obtain ⟨va, vc, rfl, hb1⟩ := h1.same rfl; have HB1 := Fact.mk (HB0.out.trans (hb1.mono HB0.out.size)); clear h1 hb1 tok1 _t)
          | (go_at_call 10; refine (K2.out _ (HL.out.since (HB1.out.alloc HB1.out.size _))).mono ?_; intro e w3 h1; obtain ⟨ua, uc, rfl, hb1⟩ := h1.same rfl; have HB2 := Fact.mk ((HB1.out.alloc HB1.out.size _).trans (hb1.mono (HB1.out.alloc HB1.out.size _).size)); have F1 := (Five.new w2 _ _ _ _ _ _).keep hb1; have L1 := F1.lt; obtain ⟨c0, c1, c2, c3, c4, cz⟩ := F1; clear h1 hb1)
          | (go_at_call 9; refine (awake10_true _ (HL.out.since (HB2.out.alloc HB2.out.size _))).mono ?_; rintro e w8 ⟨rfl, hb8⟩; have HB8 := Fact.mk ((HB2.out.alloc HB2.out.size _).trans (hb8.mono (HB2.out.alloc HB2.out.size _).size)); clear hb8))
        go_ret
        exact ⟨rfl, HB8.out⟩
      · rw [if_pos rfl] at hEn
        subst hEn
        go_wp2_with (first
          | (go_at_call 12; refine (CP.out _).mono ?_; rintro e w1 ⟨rfl, rfl⟩)
          | (have _t := tok1; go_at_call 10; refine (K1.out _ (HL.out.since HB0.out)).mono ?_; intro e w2 h1; obtain ⟨va, vc, rfl, hb1⟩ := h1.same rfl; have HB1 := Fact.mk (HB0.out.trans (hb1.mono HB0.out.size)); clear h1 hb1 tok1 _t)
          | (go_at_call 10; refine (K2.out _ (HL.out.since (HB1.out.alloc HB1.out.size _))).mono ?_; intro e w3 h1; obtain ⟨ua, uc, rfl, hb1⟩ := h1.same rfl; have HB2 := Fact.mk ((HB1.out.alloc HB1.out.size _).trans (hb1.mono (HB1.out.alloc HB1.out.size _).size)); have F1 := (Five.new w2 _ _ _ _ _ _).keep hb1; have L1 := F1.lt; obtain ⟨c0, c1, c2, c3, c4, cz⟩ := F1; clear h1 hb1)
          | (go_at_call 9; refine (awake10_true _ (HL.out.since (HB2.out.alloc HB2.out.size _))).mono ?_; rintro e w8 ⟨rfl, hb8⟩; have HB8 := Fact.mk ((HB2.out.alloc HB2.out.size _).trans (hb8.mono (HB2.out.alloc HB2.out.size _).size)); clear hb8))
        go_ret
        exact ⟨rfl, HB8.out⟩
end Go.Proofs.YtbhhncdcdmcpfaaDoor
