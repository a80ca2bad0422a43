/- The document's own Ref. -/
import Derived.Test.YtdniddiaiinggaaDoorRN
import Derived.Test.YtdniddiaiinggaaDoorTQ
set_option linter.unusedVariables false
namespace Go.Proofs.YtdniddiaiinggaaDoor
open Go.RowKit M

theorem rlongest_to (s E : ByteArray) (k N : Nat) (hs : IsLen s.size) (hk : k ≤ s.size) (hL : Fact (longB s.data.toList k = (N, E.data.toList))) (w : World) :
    Calls Tryd.prog 38 #[.string s, .int .i64 k] w fun e w' => e = .returned (.tuple #[.int .i64 N, .string E]) ∧ Below w.heap.size w w' := rlongest_any s E k N hs hk hL w
set_option maxRecDepth 20000 in
set_option maxHeartbeats 2000000 in
theorem rref_none (s : ByteArray) (a : Int) (attr : Bool) (h : a < 0 ∨ (s.size : Int) ≤ a) (w : World) :
    Calls Tryd.prog 28 #[.string s, .int .i64 a, .bool attr] w fun e w' => e = .returned (.tuple #[.string ⟨#[]⟩, .int .i64 0]) ∧ w' = w := by
  by_cases h0 : a < 0
  · clear h
    go_enter Tryd.func28, Tryd.ntmps28
    go_wp2_with fail
    go_ret2
    exact ⟨rfl, rfl⟩
  · have h1 : (s.size : Int) ≤ a := by omega
    clear h
    go_enter Tryd.func28, Tryd.ntmps28
    go_wp2_with fail
    go_ret2
    exact ⟨rfl, rfl⟩
theorem goes_not {x : UInt8} (h1 : ltrN x.toNat = false) (h2 : ¬ dgN x.toNat < 10) (h3 : x ≠ 61) : goesN x.toNat = false := by
  unfold goesN
  rw [h1, decide_eq_false h2, decide_eq_false]
  · rfl
  · intro e
    apply h3
    apply UInt8.toNat_inj.1
    rw [e]
    rfl
set_option maxRecDepth 20000 in
set_option maxHeartbeats 4000000 in
theorem rref_in (s T : ByteArray) (k N : Nat) (attr : Bool) (hs : IsSm s.size) (hk : k < s.size) (hT : Fact (refT (s.data.toList.drop k) attr = (T.data.toList, N))) (w : World) :
    Calls Tryd.prog 28 #[.string s, .int .i64 k, .bool attr] w fun e w' => e = .returned (.tuple #[.string T, .int .i64 N]) ∧ Below w.heap.size w w' := by
  obtain ⟨c, hc⟩ : ∃ c, bAt s.data.toList k = c := ⟨_, rfl⟩
  have hcc : s[k] = c := by rw [← byte_at s k hk]; exact hc
  obtain ⟨k1, hk1⟩ : ∃ k1, k + 1 = k1 := ⟨_, rfl⟩
  obtain ⟨d, hd⟩ : ∃ d, bAt s.data.toList k1 = d := ⟨_, rfl⟩
  have hk0 : (0 : Int) ≤ k := by omega
  have hkI : (k : Int) < s.size := by omega
  have hkB : decide ((k : Int) < 0) = false := decide_eq_false (by omega)
  have hkB2 : decide ((s.size : Int) ≤ k) = false := decide_eq_false (by omega)
  have hsl := hs.le
  have hw1 : wrap64 ((k : Int) + 1) = (k1 : Int) := wrap_ok (by omega) ⟨by omega⟩
  have e0 := hT.out
  unfold refT at e0
  rw [bAt_drop, bAt_drop, Nat.add_zero, hc, hk1, hd] at e0
  clear hT
  by_cases h38 : c = 38
  · subst h38
    rw [if_neg (by decide)] at e0
    have q1 : (((38 : UInt8).toNat : Int) != 38) = false := by decide
    by_cases h35 : d = 35
    · rw [if_pos h35] at e0
      subst h35
      have h1 : k1 < s.size := by
        by_cases h : k1 < s.size
        · exact h
        · exfalso
          rw [bAt_out (by rw [← Lib.size_eq]; omega)] at hd
          cases hd
      have h1I : (k1 : Int) < s.size := by omega
      have h10 : (0 : Int) ≤ k1 := by omega
      have hdd : s[k1] = 35 := by rw [← byte_at s k1 h1]; exact hd
      have H0 := Fact.mk e0
      have h2 : k + 2 ≤ s.size := by omega
      clear e0 hd hk1 hc hsl
      go_enter Tryd.func28, Tryd.ntmps28
      go_wp2_with (go_at_call 37; refine (rnumber_any s T k N hs h2 H0 _).mono ?_; rintro e w1 ⟨rfl, hb1⟩)
      go_ret2
      exact ⟨rfl, hb1⟩
    · rw [if_neg h35] at e0
      obtain ⟨n, G, hG⟩ : ∃ (n : Nat) (G : ByteArray), Fact (longB s.data.toList k1 = (n, G.data.toList)) := ⟨(longB s.data.toList k1).1, ⟨(longB s.data.toList k1).2.toArray⟩, ⟨rfl⟩⟩
      have hn := longB_le s.data.toList k1
      rw [hG.out, ← Lib.size_eq] at hn
      simp only at hn
      have hk1s : k1 ≤ s.size := by omega
      have htest : (k1 < s.size ∧ d ≠ 35) ∨ (k1 = s.size ∧ n = 0) := by
        by_cases h : k1 < s.size
        · exact .inl ⟨h, h35⟩
        · exact .inr ⟨by omega, by omega⟩
      unfold nameT at e0
      have el : longB (s.data.toList.drop k) 1 = (n, G.data.toList) := by rw [longB_drop, hk1]; exact hG.out
      rw [el] at e0
      simp only at e0
      rw [bAt_drop, bAt_drop] at e0
      by_cases hz : n = 0
      · rw [if_pos hz] at e0
        have e1 : T = ⟨#[38]⟩ := (ba_eq (l := [38]) (congrArg Prod.fst e0)).symm
        have e2 : N = 1 := (congrArg Prod.snd e0).symm
        subst e1 e2 hz
        rcases htest with ⟨h1, h2⟩ | ⟨h1, _⟩
        · have h1I : (k1 : Int) < s.size := by omega
          have h10 : (0 : Int) ≤ k1 := by omega
          have hdd : s[k1] = d := by rw [← byte_at s k1 h1]; exact hd
          have q2 : ((d.toNat : Int) == 35) = false := u8_ne (k := 35) (by decide) h35
          clear e0 hd hk1 hc hsl hn el
          go_enter Tryd.func28, Tryd.ntmps28
          go_wp2_with (go_at_call 38; refine (rlongest_to s G k1 0 hs.len hk1s hG _).mono ?_; rintro e w1 ⟨rfl, hb1⟩)
          go_ret2
          exact ⟨rfl, hb1⟩
        · have h1I : (s.size : Int) ≤ k1 := by omega
          have h1B : decide ((k1 : Int) < s.size) = false := decide_eq_false (by omega)
          clear e0 hd hk1 hc hsl hn el h1
          go_enter Tryd.func28, Tryd.ntmps28
          go_wp2_with (go_at_call 38; refine (rlongest_to s G k1 0 hs.len hk1s hG _).mono ?_; rintro e w1 ⟨rfl, hb1⟩)
          go_ret2
          exact ⟨rfl, hb1⟩
      rw [if_neg hz] at e0
      obtain ⟨h1, h2⟩ := htest.resolve_right (fun h => hz h.2)
      have h1I : (k1 : Int) < s.size := by omega
      have h10 : (0 : Int) ≤ k1 := by omega
      have hdd : s[k1] = d := by rw [← byte_at s k1 h1]; exact hd
      have q2 : ((d.toNat : Int) == 35) = false := u8_ne (k := 35) (by decide) h35
      have hzB : ((n : Int) == 0) = false := beq_eq_false_iff_ne.2 (by omega)
      obtain ⟨m, hm⟩ : ∃ m, k + n = m := ⟨_, rfl⟩
      obtain ⟨ee, hee⟩ : ∃ ee, k1 + n = ee := ⟨_, rfl⟩
      obtain ⟨n1, hn1⟩ : ∃ n1, n + 1 = n1 := ⟨_, rfl⟩
      have hme : k + (1 + n) = ee := by omega
      rw [hm, hme] at e0
      have hms : m < s.size := by omega
      have hmI : (m : Int) < s.size := by omega
      have hm0 : (0 : Int) ≤ m := by omega
      have hw2 : wrap64 ((k1 : Int) + n) = (ee : Int) := wrap_ok (by omega) ⟨by omega⟩
      have hw3 : wrap64 ((ee : Int) - 1) = (m : Int) := wrap_ok (by omega) ⟨by omega⟩
      have hw4 : wrap64 ((n : Int) + 1) = (n1 : Int) := wrap_ok (by omega) ⟨by omega⟩
      obtain ⟨c2, hc2⟩ : ∃ c2, bAt s.data.toList m = c2 := ⟨_, rfl⟩
      have hcc2 : s[m] = c2 := by rw [← byte_at s m hms]; exact hc2
      obtain ⟨x, hx⟩ : ∃ x, bAt s.data.toList ee = x := ⟨_, rfl⟩
      rw [hc2, hx, Nat.add_comm 1 n, hn1] at e0
      have hee0 : (0 : Int) ≤ ee := by omega
      have hes : ee ≤ s.size := by omega
      have HX := Fact.mk hx
      have HZ : Fact (s.data.toList.length = s.size) := ⟨(Lib.size_eq s).symm⟩
      clear hd hk1 hc hsl hn el hc2 hme hm hee hn1 htest hx
      have yes : ∀ (p : (G.data.toList, n1) = (T.data.toList, N)), T = G ∧ N = n1 := fun p => ⟨(ba_eq (congrArg Prod.fst p)).symm.trans (ba_eq rfl), (congrArg Prod.snd p).symm⟩
      have no : ∀ (p : (([38] : List UInt8), 1) = (T.data.toList, N)), T = ⟨#[38]⟩ ∧ N = 1 := fun p => ⟨(ba_eq (l := [38]) (congrArg Prod.fst p)).symm, (congrArg Prod.snd p).symm⟩
      cases attr
      · rw [if_neg (by simp)] at e0
        obtain ⟨e1, e2⟩ := yes e0
        subst e1 e2
        clear e0 yes no h35
        go_enter Tryd.func28, Tryd.ntmps28
        go_wp2_with (first
          | (go_at_call 38; refine (rlongest_to s _ k1 n hs.len hk1s hG _).mono ?_; rintro e w1 ⟨rfl, hb1⟩))
        go_ret2
        exact ⟨by first | rfl | (rw [hw4]; done) | (rw [hw4]; rfl), hb1⟩
      by_cases h59 : c2 = 59
      · rw [if_neg (by simp [h59])] at e0
        obtain ⟨e1, e2⟩ := yes e0
        subst e1 e2 h59
        clear e0 yes no h35
        have q3 : (((59 : UInt8).toNat : Int) != 59) = false := by decide
        go_enter Tryd.func28, Tryd.ntmps28
        go_wp2_with (first
          | (go_at_call 38; refine (rlongest_to s _ k1 n hs.len hk1s hG _).mono ?_; rintro e w1 ⟨rfl, hb1⟩))
        go_ret2
        exact ⟨by first | rfl | (rw [hw4]; done) | (rw [hw4]; rfl), hb1⟩
      have q4 : ((c2.toNat : Int) == 59) = false := u8_ne (k := 59) (by decide) h59
      have q3 : ((c2.toNat : Int) != 59) = true := by rw [bne, q4]; rfl
      by_cases hel : ee < s.size
      · have heI : (ee : Int) < s.size := by omega
        have hxx : s[ee] = x := by rw [← byte_at s ee hel]; exact HX.out
        obtain ⟨l, hl⟩ : ∃ l, Fact (ltrN x.toNat = l) := ⟨_, ⟨rfl⟩⟩
        cases l
        · by_cases hdg : dgN x.toNat < 10
          · have hgo : goesN x.toNat = true := by unfold goesN; rw [hl.out, decide_eq_true hdg]; rfl
            rw [if_pos ⟨rfl, h59, hgo⟩] at e0
            obtain ⟨e1, e2⟩ := no e0
            subst e1 e2
            have hg : Fact (rdg false x.toNat = ((dgN x.toNat : Nat) : Int)) := ⟨by unfold rdg; simp only [Bool.false_eq_true, if_false]; rw [if_pos hdg]⟩
            obtain ⟨dv, hdv⟩ : ∃ dv, dgN x.toNat = dv := ⟨_, rfl⟩
            rw [hdv] at hg
            have hge : decide ((0 : Int) ≤ (dv : Int)) = true := decide_eq_true (by omega)
            clear e0 yes no h35 h59 hgo hdg hdv
            go_enter Tryd.func28, Tryd.ntmps28
            go_wp2_with (first
              | (go_at_call 38; refine (rlongest_to s _ k1 n hs.len hk1s hG _).mono ?_; rintro e w1 ⟨rfl, hb1⟩)
              | (go_at_call 39; refine (rletter_at x _ hl _).mono ?_; rintro e w2 ⟨rfl, h2⟩; have h2' := h2.symm; subst h2'; clear h2)
              | (go_at_call 40; refine (rdigit_at x false _ hg _).mono ?_; rintro e w3 ⟨rfl, h3⟩; have h3' := h3.symm; subst h3'; clear h3))
            go_ret2
            exact ⟨by first | rfl | (rw [hw4]; done) | (rw [hw4]; rfl), hb1⟩
          · have hg : Fact (rdg false x.toNat = -1) := ⟨by unfold rdg; simp only [Bool.false_eq_true, if_false]; rw [if_neg hdg]⟩
            by_cases h61 : x = 61
            · have hgo : goesN x.toNat = true := by rw [h61]; decide
              rw [if_pos ⟨rfl, h59, hgo⟩] at e0
              obtain ⟨e1, e2⟩ := no e0
              subst e1 e2
              have q6 : ((x.toNat : Int) == 61) = true := by rw [h61]; rfl
              clear e0 yes no h35 h59 hgo hdg h61
              go_enter Tryd.func28, Tryd.ntmps28
              go_wp2_with (first
                | (go_at_call 38; refine (rlongest_to s _ k1 n hs.len hk1s hG _).mono ?_; rintro e w1 ⟨rfl, hb1⟩)
                | (go_at_call 39; refine (rletter_at x _ hl _).mono ?_; rintro e w2 ⟨rfl, h2⟩; have h2' := h2.symm; subst h2'; clear h2)
                | (go_at_call 40; refine (rdigit_at x false _ hg _).mono ?_; rintro e w3 ⟨rfl, h3⟩; have h3' := h3.symm; subst h3'; clear h3))
              go_ret2
              exact ⟨by first | rfl | (rw [hw4]; done) | (rw [hw4]; rfl), hb1⟩
            · have hgo := goes_not hl.out hdg h61
              rw [if_neg (by rw [hgo]; simp)] at e0
              obtain ⟨e1, e2⟩ := yes e0
              subst e1 e2
              have q6 : ((x.toNat : Int) == 61) = false := u8_ne (k := 61) (by decide) h61
              clear e0 yes no h35 h59 hgo hdg h61
              go_enter Tryd.func28, Tryd.ntmps28
              go_wp2_with (first
                | (go_at_call 38; refine (rlongest_to s _ k1 n hs.len hk1s hG _).mono ?_; rintro e w1 ⟨rfl, hb1⟩)
                | (go_at_call 39; refine (rletter_at x _ hl _).mono ?_; rintro e w2 ⟨rfl, h2⟩; have h2' := h2.symm; subst h2'; clear h2)
                | (go_at_call 40; refine (rdigit_at x false _ hg _).mono ?_; rintro e w3 ⟨rfl, h3⟩; have h3' := h3.symm; subst h3'; clear h3))
              go_ret2
              exact ⟨by first | rfl | (rw [hw4]; done) | (rw [hw4]; rfl), hb1⟩
        · have hgo : goesN x.toNat = true := by unfold goesN; rw [hl.out]; rfl
          rw [if_pos ⟨rfl, h59, hgo⟩] at e0
          obtain ⟨e1, e2⟩ := no e0
          subst e1 e2
          clear e0 yes no h35 h59 hgo
          go_enter Tryd.func28, Tryd.ntmps28
          go_wp2_with (first
            | (go_at_call 38; refine (rlongest_to s _ k1 n hs.len hk1s hG _).mono ?_; rintro e w1 ⟨rfl, hb1⟩)
            | (go_at_call 39; refine (rletter_at x _ hl _).mono ?_; rintro e w2 ⟨rfl, h2⟩; have h2' := h2.symm; subst h2'; clear h2))
          go_ret2
          exact ⟨by first | rfl | (rw [hw4]; done) | (rw [hw4]; rfl), hb1⟩
      · have heI : (s.size : Int) ≤ ee := by omega
        have heB : decide ((ee : Int) < s.size) = false := decide_eq_false (by omega)
        have hx0 : x = 0 := by rw [← HX.out]; exact bAt_out (by rw [HZ.out]; omega)
        have hgo : goesN x.toNat = false := by rw [hx0]; decide
        rw [if_neg (by rw [hgo]; simp)] at e0
        obtain ⟨e1, e2⟩ := yes e0
        subst e1 e2
        clear e0 yes no h35 h59 hgo hx0
        go_enter Tryd.func28, Tryd.ntmps28
        go_wp2_with (first
          | (go_at_call 38; refine (rlongest_to s _ k1 n hs.len hk1s hG _).mono ?_; rintro e w1 ⟨rfl, hb1⟩))
        go_ret2
        exact ⟨by first | rfl | (rw [hw4]; done) | (rw [hw4]; rfl), hb1⟩
  · rw [if_pos h38] at e0
    have e1 : T = ⟨#[]⟩ := (ba_eq (l := []) (congrArg Prod.fst e0)).symm
    have e2 : N = 0 := (congrArg Prod.snd e0).symm
    subst e1 e2
    have q0 : ((c.toNat : Int) == 38) = false := u8_ne (k := 38) (by decide) h38
    have q1 : ((c.toNat : Int) != 38) = true := by rw [bne, q0]; rfl
    clear e0 hk1 hd hc
    go_enter Tryd.func28, Tryd.ntmps28
    go_wp2_with fail
    go_ret2
    exact ⟨rfl, Below.refl _ _⟩
theorem rref_any (s T : ByteArray) (a : Int) (N : Nat) (attr : Bool) (hs : IsSm s.size) (hT : Fact (refA s.data.toList a attr = (T.data.toList, N))) (w : World) :
    Calls Tryd.prog 28 #[.string s, .int .i64 a, .bool attr] w fun e w' => e = .returned (.tuple #[.string T, .int .i64 N]) ∧ Below w.heap.size w w' := by
  have e0 := hT.out
  unfold refA at e0
  by_cases h : a < 0 ∨ (s.size : Int) ≤ a
  · have e3 : refA s.data.toList a attr = ([], 0) := by
      unfold refA
      rcases h with h | h
      · rw [if_pos h]
      · rw [if_neg (by omega), List.drop_eq_nil_of_le (by rw [← Lib.size_eq]; omega)]
        exact refT_none (by rw [bAt_out (by simp)]; decide)
    have e4 := e3.symm.trans hT.out
    have e1 : T = ⟨#[]⟩ := (ba_eq (l := []) (congrArg Prod.fst e4)).symm
    have e2 : N = 0 := (congrArg Prod.snd e4).symm
    subst e1 e2
    refine (rref_none s a attr h w).mono ?_
    rintro e w1 ⟨rfl, rfl⟩
    exact ⟨rfl, Below.refl _ _⟩
  · obtain ⟨k, rfl⟩ : ∃ k : Nat, a = k := ⟨a.toNat, by omega⟩
    rw [if_neg (by omega)] at e0
    exact rref_in s T k N attr hs (by omega) ⟨e0⟩ w
end Go.Proofs.YtdniddiaiinggaaDoor
/- The document's own Decode and Escape. -/
set_option linter.unusedVariables false
namespace Go.Proofs.YtdniddiaiinggaaDoor
open Go.RowKit M

set_option maxRecDepth 20000 in
set_option maxHeartbeats 4000000 in
theorem rdecode_any (s : ByteArray) (attr : Bool) (hs : s.size ≤ 4000) (w : World) :
    Calls Tryd.prog 16 #[.string s, .bool attr] w fun e w' => e = .returned (.string ⟨(decB attr s.data.toList).toArray⟩) ∧ Below w.heap.size w w' := by
  have HS := Fact.mk hs
  have hsm : IsSm s.size := ⟨by omega⟩
  clear hs
  go_enter Tryd.func16, Tryd.ntmps16
  go_wp2_with fail
  go_loopw [5, 6] (fun v i wx => ∃ (k : Nat) (O : ByteArray), i = .int .i64 k ∧ v = .string O ∧ k ≤ s.size ∧ Below w.heap.size w wx ∧ Fact (DMid attr s.data.toList k O.data.toList)) (fun _ i _ => s.size - (intOf i).toNat)
  case atStart => exact ⟨0, ⟨#[]⟩, rfl, rfl, Nat.zero_le _, Below.refl _ _, ⟨dmid_start _ _⟩⟩
  case round =>
    obtain ⟨k, O, rfl, rfl, hk, hb, hm⟩ := hrel
    have HZ : Fact (s.data.toList.length = s.size) := ⟨(Lib.size_eq s).symm⟩
    by_cases hlt : k < s.size
    · have hkI : (k : Int) < s.size := by omega
      have hk0 : (0 : Int) ≤ k := by omega
      obtain ⟨c, hc⟩ : ∃ c, bAt s.data.toList k = c := ⟨_, rfl⟩
      have hcc : s[k] = c := by rw [← byte_at s k hlt]; exact hc
      have hol : O.size ≤ 32000 := by
        have h1 := hm.out.len
        rw [← Lib.size_eq] at h1
        have := HS.out
        omega
      by_cases h38 : c = 38
      · obtain ⟨T, N, hT⟩ : ∃ (T : ByteArray) (N : Nat), Fact (refT (s.data.toList.drop k) attr = (T.data.toList, N)) := ⟨⟨(refT (s.data.toList.drop k) attr).1.toArray⟩, _, ⟨rfl⟩⟩
        have hN1 : N ≠ 0 := by
          have h1 := refT_pos (t := s.data.toList.drop k) (attr := attr) (by rw [bAt_drop, Nat.add_zero, hc]; exact h38)
          rw [hT.out] at h1
          simp only at h1
          omega
        have hNle : k + N ≤ s.size := by
          have := refT_le (s.data.toList.drop k) attr
          rw [hT.out, List.length_drop, HZ.out] at this
          simp only at this
          omega
        have hTs : T.size ≤ 8 := by
          have := refT_txt (s.data.toList.drop k) attr
          rw [hT.out] at this
          rw [Lib.size_eq]
          exact this
        obtain ⟨O2, hO2⟩ : ∃ O2 : ByteArray, O ++ T = O2 := ⟨_, rfl⟩
        have radd := fun w => add_at O T O2 hO2 (by omega) w
        obtain ⟨k1, hk1⟩ : ∃ k1, k + N = k1 := ⟨_, rfl⟩
        have A9 : Fact (wrap64 ((k : Int) + N) = (k1 : Int)) := ⟨wrap_ok (by omega) ⟨by have := HS.out; omega⟩⟩
        have A8 : Fact ((k : Int) + N = (k1 : Int)) := ⟨by omega⟩
        have hm2 : Fact (DMid attr s.data.toList k1 O2.data.toList) := ⟨by rw [← hO2, data_app, ← hk1]; exact dmid_ref hm.out hT.out hN1⟩
        have hk1l : k1 ≤ s.size := by omega
        have HKK : Fact (k < k1) := ⟨by omega⟩
        subst h38
        clear hm hO2 hTs hol hN1 hNle hk1 hc
        go_wp2_with (go_at_call 28; refine (rref_in s T k N attr hsm hlt hT _).mono ?_; rintro e w1 ⟨rfl, hb1⟩; have hbb := hb.trans (hb1.mono hb.size))
        go_roundw
        case rel => exact ⟨k1, O2, by first | rfl | exact int_eq A9.out | exact int_eq A8.out, rfl, hk1l, hbb, hm2⟩
        case measure => first | exact meas_to hlt HKK.out | (rw [A9.out]; exact meas_to hlt HKK.out) | (rw [A8.out]; exact meas_to hlt HKK.out)
      · have q1 : ((c.toNat : Int) == 38) = false := u8_ne (k := 38) (by decide) h38
        have hw1 : wrap64 ((k : Int) + 1) = (k : Int) + 1 := wrap_ok (m := k + 1) rfl ⟨by have := HS.out; omega⟩
        have h1I : (k : Int) + 1 ≤ s.size := by omega
        have h2I : (k : Int) ≤ (k : Int) + 1 := by omega
        have h3I : (0 : Int) ≤ (k : Int) + 1 := by omega
        have h4I : ((k : Int) + 1).toNat = k + 1 := by omega
        obtain ⟨S1, hS1⟩ : ∃ S1 : ByteArray, s.extract k (k + 1) = S1 := ⟨_, rfl⟩
        have hSd : S1.data.toList = [bAt s.data.toList k] := by rw [← hS1]; exact one_byte s k hlt
        have hSz : S1.size ≤ 8 := by rw [Lib.size_eq, hSd]; simp
        obtain ⟨O2, hO2⟩ : ∃ O2 : ByteArray, O ++ S1 = O2 := ⟨_, rfl⟩
        have radd := fun w => add_at O S1 O2 hO2 (by omega) w
        have hm2 : Fact (DMid attr s.data.toList (k + 1) O2.data.toList) := ⟨by
          rw [← hO2, data_app, hSd]
          refine dmid_plain hm.out (by rw [HZ.out]; exact hlt) ?_
          rw [refT_none (by rw [bAt_drop, Nat.add_zero, hc]; exact h38)]⟩
        have A9 : Fact (wrap64 ((k : Int) + 1) = ((k + 1 : Nat) : Int)) := ⟨wrap_ok rfl ⟨by have := HS.out; omega⟩⟩
        clear hm hO2 hol hSd hSz hc h38
        go_wp2_with fail
        go_roundw
        case rel => exact ⟨k + 1, O2, by first | rfl | exact int_eq A9.out, rfl, Nat.succ_le_of_lt hlt, hb, hm2⟩
        case measure => first | exact meas_up hlt | (rw [A9.out]; exact meas_up hlt)
    · have hkI : (s.size : Int) ≤ k := by omega
      have hkB : decide ((k : Int) < s.size) = false := decide_eq_false (by omega)
      have e := dmid_end hm.out (by rw [HZ.out]; omega)
      have e2 : Fact (O = ⟨(decB attr s.data.toList).toArray⟩) := ⟨(ba_eq e.symm).symm⟩
      clear e hm
      go_wp2_with fail
      go_ret
      exact ⟨by rw [← e2.out]; rfl, hb⟩

end Go.Proofs.YtdniddiaiinggaaDoor
