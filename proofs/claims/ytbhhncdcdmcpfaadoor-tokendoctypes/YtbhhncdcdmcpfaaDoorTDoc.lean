/- TokenDoctypes. -/
import Derived.Test.YtbhhncdcdmcpfaaDoorTQ
set_option linter.unusedVariables false
namespace Go.Proofs.YtbhhncdcdmcpfaaDoor
open Go.RowKit M

abbrev dcH : List UInt8 := [60, 33, 68, 111, 99, 84, 121, 112, 101]
theorem dc_open {x : List UInt8} {t : Tk} {E : Nat} {ok : Bool} (h : NxR (dcH ++ x) 0 [] t E ok) : t.Is 5 (dcN (dcH ++ x) 9) [] [] false ∧ E = dcE (dcH ++ x) 9 ∧ ok = true := by
  unfold NxR at h
  rw [if_pos rfl] at h
  unfold NxN at h
  rw [if_pos (by rfl)] at h
  unfold OpR at h
  have l1 : ltrAt (dcH ++ x) 1 = false := by
    unfold ltrAt
    have : bAt (dcH ++ x) 1 = 33 := rfl
    rw [this]
    simp [ltrN]
  have p1 : [60, 47].isPrefixOf ((dcH ++ x).drop 0) = false := rfl
  have p2 : [60, 47, 62].isPrefixOf ((dcH ++ x).drop 0) = false := rfl
  have p3 : [60, 33, 45, 45].isPrefixOf ((dcH ++ x).drop 0) = false := rfl
  have p4 : [60, 33, 100, 111, 99, 116, 121, 112, 101].isPrefixOf (lwL ((dcH ++ x).drop 0)) = true := rfl
  rw [Nat.zero_add, if_neg (by rw [l1]; decide), if_neg (by rw [p1]; simp), if_neg (by rw [p2]; simp), if_neg (by rw [p3]; simp), if_pos p4] at h
  exact h
theorem doc_is {g n r : List UInt8} (hg : ∀ c ∈ g, blk c = true) (hn : n ≠ []) (hn2 : ∀ c ∈ n, (!stp [62] c) = true) (hr : ∀ c ∈ r, (c != 62) = true) {t : Tk} {E : Nat} {ok : Bool}
    (h : NxR (dcH ++ (g ++ (n ++ (32 :: (r ++ [62, 98]))))) 0 [] t E ok) : t.Is 5 (lwL n) [] [] false ∧ E = 11 + (g.length + n.length + r.length) ∧ ok = true := by
  obtain ⟨h1, h2, h3⟩ := dc_open h
  have d9 : List.drop 9 (dcH ++ (g ++ (n ++ (32 :: (r ++ [62, 98]))))) = g ++ (n ++ (32 :: (r ++ [62, 98]))) := rfl
  have eF : dcF (dcH ++ (g ++ (n ++ (32 :: (r ++ [62, 98]))))) 9 = 9 + g.length := by
    unfold dcF spE
    rw [d9, spN_app hg]
    cases n with
    | nil => exact absurd rfl hn
    | cons c m =>
      have hc : blk c = false := by
        have := hn2 c (List.mem_cons_self ..)
        unfold stp at this
        simp only [Bool.not_eq_true', Bool.or_eq_false_iff] at this
        exact this.1
      rw [List.cons_append, spN_stop hc]
      omega
  have dr : (dcH ++ (g ++ (n ++ (32 :: (r ++ [62, 98]))))).drop (9 + g.length) = n ++ (32 :: (r ++ [62, 98])) := by
    rw [← List.drop_drop, d9, List.drop_left]
  have eB : dcB (dcH ++ (g ++ (n ++ (32 :: (r ++ [62, 98]))))) 9 = 9 + g.length + n.length := by
    unfold dcB
    rw [eF]
    unfold spE
    rw [dr, spN_app hn2, spN_stop (by decide)]
    omega
  have dr2 : (dcH ++ (g ++ (n ++ (32 :: (r ++ [62, 98]))))).drop (9 + g.length + n.length) = 32 :: (r ++ [62, 98]) := by
    rw [← List.drop_drop, dr, List.drop_left]
  have eN : dcN (dcH ++ (g ++ (n ++ (32 :: (r ++ [62, 98]))))) 9 = lwL n := by
    unfold dcN sub
    rw [eF, eB, dr, show 9 + g.length + n.length - (9 + g.length) = n.length by omega, List.take_left]
  have eE : dcE (dcH ++ (g ++ (n ++ (32 :: (r ++ [62, 98]))))) 9 = 11 + (g.length + n.length + r.length) := by
    unfold dcE
    rw [eB]
    unfold spE
    rw [dr2, show 32 :: (r ++ [62, 98]) = ([32] ++ r) ++ [62, 98] from rfl, spN_app (by
      intro c hc
      rcases List.mem_append.1 hc with hc | hc
      · simp at hc
        subst hc
        rfl
      · exact hr c hc), spN_stop (by decide)]
    simp
    omega
  rw [eN] at h1
  rw [eE] at h2
  exact ⟨h1, h2, h3⟩
/-- the texts by their number -/
def dn : Nat → ByteArray
  | 0 => ⟨#[104, 116, 109, 108]⟩
  | 1 => ⟨#[72, 84, 77, 76]⟩
  | 2 => ⟨#[120]⟩
  | _ => ⟨#[83, 118, 103]⟩
def dw : Nat → ByteArray
  | 0 => ⟨#[104, 116, 109, 108]⟩
  | 1 => ⟨#[104, 116, 109, 108]⟩
  | 2 => ⟨#[120]⟩
  | _ => ⟨#[115, 118, 103]⟩
def dg : Nat → ByteArray
  | 0 => ⟨#[]⟩
  | 1 => ⟨#[32]⟩
  | 2 => ⟨#[10, 9]⟩
  | _ => ⟨#[32, 32, 32]⟩
theorem four {j : Nat} (h : (j : Int) < 4) : j = 0 ∨ j = 1 ∨ j = 2 ∨ j = 3 := by omega
theorem dn_ok {p : Nat} (h : (p : Int) < 4) : (dn p).data.toList ≠ [] ∧ (∀ c ∈ (dn p).data.toList, (!stp [62] c) = true) ∧ lwL (dn p).data.toList = (dw p).data.toList ∧ (dn p).size ≤ 4 := by
  rcases four h with rfl | rfl | rfl | rfl <;> exact ⟨by decide, by decide, by decide, by decide⟩
theorem dg_ok {p : Nat} (h : (p : Int) < 4) : (∀ c ∈ (dg p).data.toList, blk c = true) ∧ (dg p).size ≤ 3 := by
  rcases four h with rfl | rfl | rfl | rfl <;> exact ⟨by decide, by decide⟩
set_option maxRecDepth 20000 in
set_option maxHeartbeats 2000000 in
theorem doctypes_walk (nm : Int) (rest : ByteArray) (gap : Int) (w : World) (hl : Laid w) : Calls Tryd.prog 8 #[.int .i64 nm, .string rest, .int .i64 gap] w fun e w' => e = .returned (.bool true) ∧ Below w.heap.size w w' := by
  have HL := Fact.mk hl
  clear hl
  by_cases h1 : 200 < rest.size
  · have i1 : (200 : Int) < rest.size := by omega
    have q1 : decide ((200 : Int) < rest.size) = true := decide_eq_true i1
    go_enter Tryd.func8, Tryd.ntmps8
    go_wp2_with (go_at_call 9; refine (awake10_true _ HL.out).mono ?_; rintro e w1 ⟨rfl, hb1⟩)
    go_ret
    exact ⟨rfl, hb1⟩
  have q1 : decide ((200 : Int) < rest.size) = false := decide_eq_false (by omega)
  have q1n : decide (200 < rest.size) = false := decide_eq_false h1
  have i1 : (rest.size : Int) ≤ 200 := by omega
  obtain ⟨p, hp, cp⟩ := place_gen nm 4 (by decide) (by decide)
  obtain ⟨q, hq, cq⟩ := place_gen gap 4 (by decide) (by decide)
  have CP := Fact.mk cp
  have CQ := Fact.mk cq
  clear cp cq
  go_enter Tryd.func8, Tryd.ntmps8
  go_wp2_with fail
  go_loop [7] (fun i => ∃ k : Nat, i = .int .i64 k ∧ k ≤ rest.size ∧ Fact (∀ j, j < k → (bAt rest.data.toList j != 62) = true)) (fun i => rest.size - (intOf i).toNat)
  case atStart => exact ⟨0, rfl, Nat.zero_le _, ⟨fun j hj => by omega⟩⟩
  case round =>
    obtain ⟨k, rfl, hk, hr⟩ := hrel
    have hw1 : wrap64 ((k : Int) + 1) = (k : Int) + 1 := wrap_ok (m := k + 1) rfl ⟨by omega⟩
    by_cases hlt : k < rest.size
    · have g1 : (k : Int) < rest.size := by omega
      have g2 : decide ((k : Int) < rest.size) = true := decide_eq_true g1
      have g2n : decide (k < rest.size) = true := decide_eq_true hlt
      have g4 : (0 : Int) ≤ k := by omega
      obtain ⟨x, hx⟩ : ∃ x, bAt rest.data.toList k = x := ⟨_, rfl⟩
      have hxx : rest[k] = x := by rw [← byte_at rest k hlt]; exact hx
      by_cases hx62 : x = 62
      · have r1 : ((x.toNat : Int) == 62) = true := by rw [hx62]; rfl
        clear hr hx hx62
        go_wp2_with (go_at_call 9; refine (awake10_true _ HL.out).mono ?_; rintro e w1 ⟨rfl, hb1⟩)
        go_ret
        exact ⟨rfl, hb1⟩
      · have r1 : ((x.toNat : Int) == 62) = false := u8_ne (by decide) hx62
        have hr2 : Fact (∀ j, j < k + 1 → (bAt rest.data.toList j != 62) = true) := ⟨fun j h1 => by
          by_cases e : j = k
          · subst e
            rw [hx]
            simpa using hx62
          · exact hr.out j (by omega)⟩
        clear hr hx hx62
        go_wp2_with fail
        go_round
        case rel => exact ⟨k + 1, by (first | exact int_eq rfl | exact int_eq hw1), hlt, hr2⟩
        case measure => (try rw [hw1]); exact meas_up hlt
    · have g1 : (rest.size : Int) ≤ k := by omega
      have g2 : decide ((k : Int) < rest.size) = false := decide_eq_false (by omega)
      have g2n : decide (k < rest.size) = false := decide_eq_false hlt
      have HR : Fact (∀ c ∈ rest.data.toList, (c != 62) = true) := ⟨fun c hc => by
        obtain ⟨j, hj, e⟩ := List.getElem_of_mem hc
        have := hr.out j (by rw [← Lib.size_eq] at hj; omega)
        rw [bAt_in hj, e] at this
        exact this⟩
      clear hr
      have n1 := dn_ok hp
      have n2 := dg_ok hq
      obtain ⟨N, hN⟩ : ∃ N, dn p = N := ⟨_, rfl⟩
      obtain ⟨WN, hWN⟩ : ∃ N, dw p = N := ⟨_, rfl⟩
      obtain ⟨G, hG⟩ : ∃ N, dg q = N := ⟨_, rfl⟩
      have iN : ∀ w, (Instr.index 36 (.agg #[.string ⟨#[104, 116, 109, 108]⟩, .string ⟨#[72, 84, 77, 76]⟩, .string ⟨#[120]⟩, .string ⟨#[83, 118, 103]⟩]) (.int .i64 p)).run Tryd.prog w = .ok (.string N) w := by
        rw [← hN]; rcases four hp with rfl | rfl | rfl | rfl <;> intro w <;> kernel_rfl
      have iW : ∀ w, (Instr.index 36 (.agg #[.string ⟨#[104, 116, 109, 108]⟩, .string ⟨#[104, 116, 109, 108]⟩, .string ⟨#[120]⟩, .string ⟨#[115, 118, 103]⟩]) (.int .i64 p)).run Tryd.prog w = .ok (.string WN) w := by
        rw [← hWN]; rcases four hp with rfl | rfl | rfl | rfl <;> intro w <;> kernel_rfl
      have iG : ∀ w, (Instr.index 36 (.agg #[.string ⟨#[]⟩, .string ⟨#[32]⟩, .string ⟨#[10, 9]⟩, .string ⟨#[32, 32, 32]⟩]) (.int .i64 q)).run Tryd.prog w = .ok (.string G) w := by
        rw [← hG]; rcases four hq with rfl | rfl | rfl | rfl <;> intro w <;> kernel_rfl
      rw [hN, hWN] at n1
      rw [hG] at n2
      clear hN hWN hG
      obtain ⟨A1, hA1⟩ : ∃ A : ByteArray, (⟨#[60, 33, 68, 111, 99, 84, 121, 112, 101]⟩ : ByteArray) ++ G = A := ⟨_, rfl⟩
      obtain ⟨A2, hA2⟩ : ∃ A : ByteArray, A1 ++ N = A := ⟨_, rfl⟩
      obtain ⟨A3, hA3⟩ : ∃ A : ByteArray, A2 ++ (⟨#[32]⟩ : ByteArray) = A := ⟨_, rfl⟩
      obtain ⟨A4, hA4⟩ : ∃ A : ByteArray, A3 ++ rest = A := ⟨_, rfl⟩
      obtain ⟨A5, hA5⟩ : ∃ A : ByteArray, A4 ++ (⟨#[62]⟩ : ByteArray) = A := ⟨_, rfl⟩
      obtain ⟨A6, hA6⟩ : ∃ A : ByteArray, A5 ++ (⟨#[98]⟩ : ByteArray) = A := ⟨_, rfl⟩
      have dA : A6.data.toList = dcH ++ (G.data.toList ++ (N.data.toList ++ (32 :: (rest.data.toList ++ [62, 98])))) := by rw [← hA6, data_app, ← hA5, data_app, ← hA4, data_app, ← hA3, data_app, ← hA2, data_app, ← hA1, data_app]; simp
      have s1 : A1.size = 9 + G.size := by rw [← hA1, size_app]; rfl
      have s2 : A2.size = 9 + G.size + N.size := by rw [← hA2, size_app, s1]
      have s3 : A3.size = 10 + G.size + N.size := by rw [← hA3, size_app, s2]; show 9 + G.size + N.size + 1 = _; omega
      have s4 : A4.size = 10 + G.size + N.size + rest.size := by rw [← hA4, size_app, s3]
      have s5 : A5.size = 11 + G.size + N.size + rest.size := by rw [← hA5, size_app, s4]; show 10 + G.size + N.size + rest.size + 1 = _; omega
      have s6 : A6.size = 12 + G.size + N.size + rest.size := by rw [← hA6, size_app, s5]; show 11 + G.size + N.size + rest.size + 1 = _; omega
      have zG := n2.2
      have zN := n1.2.2.2
      have m1 : (9 : Nat) + G.size ≤ 100000000 := by omega
      have r1 := fun w => add_at ⟨#[60, 33, 68, 111, 99, 84, 121, 112, 101]⟩ G A1 hA1 m1 w
      have r2 := fun w => add_at A1 N A2 hA2 (by omega) w
      have m3 : A2.size + 1 ≤ 100000000 := by omega
      have r3 := fun w => add_at A2 ⟨#[32]⟩ A3 hA3 m3 w
      have r4 := fun w => add_at A3 rest A4 hA4 (by omega) w
      have m5 : A4.size + 1 ≤ 100000000 := by omega
      have r5 := fun w => add_at A4 ⟨#[62]⟩ A5 hA5 m5 w
      have m6 : A5.size + 1 ≤ 100000000 := by omega
      have r6 := fun w => add_at A5 ⟨#[98]⟩ A6 hA6 m6 w
      have KA : Fact (∀ w', Laid w' → Calls Tryd.prog 10 #[.string A6, .int .i64 0, .string ⟨#[]⟩] w' fun e w'' => TokOut w' ⟨5, WN, ⟨#[]⟩, [], false⟩ A5.size true e w'') := ⟨fun w' hl' => next_is A6 ⟨#[]⟩ WN ⟨#[]⟩ 0 5 [] false A5.size true ⟨by omega⟩ ⟨by decide⟩ (by omega) (fun t' E' ok' hR => by
        rw [dA] at hR
        obtain ⟨h1, h2, h3⟩ := doc_is n2.1 n1.1 n1.2.1 HR.out hR
        rw [n1.2.2.1] at h1
        exact ⟨h1, by rw [h2, ← Lib.size_eq, ← Lib.size_eq, ← Lib.size_eq]; omega, h3⟩) w' hl'⟩
      have y5 : ((A5.size : Int) == (A5.size : Int)) = true := beq_self_eq_true _
      have tok1 : True := trivial
      have tok2 : True := trivial
      clear dA s1 s2 s3 s4 s5 s6 HR n1 n2 m1 m3 m5 m6 zG zN hA1 hA2 hA3 hA4 hA5 hA6
      go_wp2_with (first
        | (have _t := tok1; go_at_call 12; refine (CP.out _).mono ?_; rintro e w1 ⟨rfl, rfl⟩; clear tok1 _t)
        | (have _t := tok2; go_at_call 12; refine (CP.out _).mono ?_; rintro e w1 ⟨rfl, rfl⟩; clear tok2 _t)
        | (go_at_call 12; refine (CQ.out _).mono ?_; rintro e w1 ⟨rfl, rfl⟩)
        | (go_at_call 10; refine (KA.out _ HL.out).mono ?_; intro e w2 h1; obtain ⟨va, vc, rfl, hb1⟩ := h1.same rfl; have HB1 := Fact.mk (hb1.alloc hb1.size (.cells #[.int .i64 5, .string WN, .string ⟨#[]⟩, .slice va 0 vc, .bool false] 25)); clear h1 hb1)
        | (go_at_call 11; refine (sameToken_none 5 WN ⟨#[]⟩ false _ _ _ _ _).mono ?_; rintro e w5 ⟨rfl, hb5⟩; have HB5 := Fact.mk (HB1.out.trans (hb5.mono HB1.out.size)); clear hb5)
        | (go_at_call 9; refine (awake10_true _ (HL.out.since HB5.out)).mono ?_; rintro e w8 ⟨rfl, hb8⟩; have HB8 := Fact.mk (HB5.out.trans (hb8.mono HB5.out.size)); clear hb8))
      go_ret
      exact ⟨rfl, HB8.out⟩
end Go.Proofs.YtbhhncdcdmcpfaaDoor
