/- byName, Ref: what they answer. -/
import Derived.Test.YtdniddiaiinggaaDoorCB
set_option linter.unusedVariables false
namespace Go.Proofs.YtdniddiaiinggaaDoor
open Go.RowKit M

theorem longest_to (s E : ByteArray) (a : Int) (k N : Nat) (ha : a = k) (hs : IsLen s.size) (hk : k ≤ s.size) (hL : Fact (longB s.data.toList k = (N, E.data.toList))) (w : World) :
    Calls Tryd.prog 88 #[.string s, .int .i64 a] w fun e w' => e = .returned (.tuple #[.int .i64 N, .string E]) ∧ Below w.heap.size w w' := by
  subst ha
  exact longest_any s E k N hs hk hL w

set_option maxRecDepth 20000 in
set_option maxHeartbeats 2000000 in
theorem byName_any (s T : ByteArray) (attr : Bool) (N : Nat) (hs : IsSm s.size) (h1 : 1 ≤ s.size) (hT : Fact (nameT s.data.toList attr = (T.data.toList, N))) (w : World) :
    Calls Tryd.prog 79 #[.string s, .bool attr] w fun e w' => e = .returned (.tuple #[.string T, .int .i64 N]) ∧ Below w.heap.size w w' := by
  obtain ⟨n, G, hG⟩ : ∃ (n : Nat) (G : ByteArray), Fact (longB s.data.toList 1 = (n, G.data.toList)) := ⟨(longB s.data.toList 1).1, ⟨(longB s.data.toList 1).2.toArray⟩, ⟨rfl⟩⟩
  have hn := longB_le s.data.toList 1
  rw [hG.out, ← Lib.size_eq] at hn
  have hn2 : n + 1 ≤ s.size := by have := hn.2; simp only at this; omega
  clear hn
  obtain ⟨m, hm⟩ : ∃ m, Fact (n + 1 = m) := ⟨_, ⟨rfl⟩⟩
  have hw0 : wrap64 (1 + (n : Int)) = (m : Int) := wrap_ok (by have := hm.out; omega) ⟨by have := hs.le; have := hm.out; omega⟩
  have hw1 : wrap64 ((m : Int) - 1) = (n : Nat) := wrap_ok (by have := hm.out; omega) ⟨by have := hs.le; omega⟩
  have e0 := hT.out
  unfold nameT at e0
  rw [hG.out] at e0
  simp only at e0
  by_cases hz : n = 0
  · rw [if_pos hz] at e0
    have e1 : T = ⟨#[38]⟩ := (ba_eq (l := [38]) (congrArg Prod.fst e0)).symm
    have e2 : N = 1 := (congrArg Prod.snd e0).symm
    subst e1 e2 hz
    clear e0 hT hw0 hw1
    go_enter Tryd.func79, Tryd.ntmps79
    go_wp2_with (go_at_call 88; refine (longest_to s G _ 1 0 rfl hs.len h1 hG _).mono ?_; rintro e w1 ⟨rfl, hb1⟩)
    go_ret2
    exact ⟨rfl, hb1⟩
  rw [if_neg hz] at e0
  have hzB : ((n : Int) == 0) = false := beq_eq_false_iff_ne.2 (by omega)
  have hnl : n < s.size := by omega
  have hnI : (n : Int) < s.size := by omega
  have hn0 : (0 : Int) ≤ n := by omega
  obtain ⟨c, hc⟩ : ∃ c, bAt s.data.toList n = c := ⟨_, rfl⟩
  have hcc : s[n] = c := by rw [← byte_at s n hnl]; exact hc
  obtain ⟨d, hd⟩ : ∃ d, Fact (bAt s.data.toList m = d) := ⟨_, ⟨rfl⟩⟩
  obtain ⟨g, hg⟩ : ∃ g, Fact (goesN d.toNat = g) := ⟨_, ⟨rfl⟩⟩
  rw [hc, Nat.add_comm 1 n, hm.out, hd.out, hg.out] at e0
  clear hc hT
  cases attr
  · rw [if_neg (by simp)] at e0
    have e1 : T = G := (ba_eq (congrArg Prod.fst e0)).symm.trans (ba_eq rfl)
    have e2 : N = m := (congrArg Prod.snd e0).symm
    subst e1 e2
    clear e0
    go_enter Tryd.func79, Tryd.ntmps79
    go_wp2_with (go_at_call 88; refine (longest_to s T _ 1 n rfl hs.len h1 hG _).mono ?_; rintro e w1 ⟨rfl, hb1⟩)
    go_ret2
    exact ⟨by first | rfl | (rw [hw0]; done) | (rw [hw0]; rfl), hb1⟩
  by_cases h59 : c = 59
  · rw [if_neg (by simp [h59])] at e0
    have e1 : T = G := (ba_eq (congrArg Prod.fst e0)).symm.trans (ba_eq rfl)
    have e2 : N = m := (congrArg Prod.snd e0).symm
    subst e1 e2 h59
    clear e0
    have q1 : (((59 : UInt8).toNat : Int) != 59) = false := by decide
    go_enter Tryd.func79, Tryd.ntmps79
    go_wp2_with (go_at_call 88; refine (longest_to s T _ 1 n rfl hs.len h1 hG _).mono ?_; rintro e w1 ⟨rfl, hb1⟩)
    go_ret2
    exact ⟨by first | rfl | (rw [hw0]; done) | (rw [hw0]; rfl), hb1⟩
  have q0 : ((c.toNat : Int) == 59) = false := u8_ne (k := 59) (by decide) h59
  have q1 : ((c.toNat : Int) != 59) = true := by rw [bne, q0]; rfl
  cases g
  · rw [if_neg (by simp)] at e0
    have e1 : T = G := (ba_eq (congrArg Prod.fst e0)).symm.trans (ba_eq rfl)
    have e2 : N = m := (congrArg Prod.snd e0).symm
    subst e1 e2
    clear e0
    go_enter Tryd.func79, Tryd.ntmps79
    go_wp2_with (first
      | (go_at_call 88; refine (longest_to s T _ 1 n rfl hs.len h1 hG _).mono ?_; rintro e w1 ⟨rfl, hb1⟩)
      | (go_at_call 77; refine (byteAt_any s _ d hd _).mono ?_; rintro e w2 ⟨rfl, h2⟩; have h2' := h2.symm; subst h2'; clear h2)
      | (go_at_call 89; refine (goesOn_at d false hg _).mono ?_; rintro e w3 ⟨rfl, h3⟩; have h3' := h3.symm; subst h3'; clear h3))
    go_ret2
    exact ⟨by first | rfl | (rw [hw0]; done) | (rw [hw0]; rfl), hb1⟩
  · rw [if_pos (by simp [h59])] at e0
    have e1 : T = ⟨#[38]⟩ := (ba_eq (l := [38]) (congrArg Prod.fst e0)).symm
    have e2 : N = 1 := (congrArg Prod.snd e0).symm
    subst e1 e2
    clear e0
    go_enter Tryd.func79, Tryd.ntmps79
    go_wp2_with (first
      | (go_at_call 88; refine (longest_to s G _ 1 n rfl hs.len h1 hG _).mono ?_; rintro e w1 ⟨rfl, hb1⟩)
      | (go_at_call 77; refine (byteAt_any s _ d hd _).mono ?_; rintro e w2 ⟨rfl, h2⟩; have h2' := h2.symm; subst h2'; clear h2)
      | (go_at_call 89; refine (goesOn_at d true hg _).mono ?_; rintro e w3 ⟨rfl, h3⟩; have h3' := h3.symm; subst h3'; clear h3))
    go_ret2
    exact ⟨by first | rfl | (rw [hw0]; done) | (rw [hw0]; rfl), hb1⟩

theorem drop_size (s : ByteArray) (k : Nat) (h : k ≤ s.size) : (s.extract k s.size).size = s.size - k := by rw [ByteArray.size_extract]; omega
theorem drop_data (s : ByteArray) (k : Nat) : (s.extract k s.size).data.toList = s.data.toList.drop k := by
  have := Lib.extract_toList s k s.size
  rw [Lib.toList_data] at this
  rw [this, List.take_of_length_le]
  rw [List.length_drop, ← Lib.size_eq]
  exact Nat.le_refl _

set_option maxRecDepth 20000 in
set_option maxHeartbeats 2000000 in
theorem ref_none (s : ByteArray) (a : Int) (attr : Bool) (h : a < 0 ∨ (s.size : Int) ≤ a) (w : World) :
    Calls Tryd.prog 64 #[.string s, .int .i64 a, .bool attr] w fun e w' => e = .returned (.tuple #[.string ⟨#[]⟩, .int .i64 0]) ∧ w' = w := by
  by_cases h0 : a < 0
  · clear h
    go_enter Tryd.func64, Tryd.ntmps64
    go_wp2_with fail
    go_ret2
    exact ⟨rfl, rfl⟩
  · have h1 : (s.size : Int) ≤ a := by omega
    clear h
    go_enter Tryd.func64, Tryd.ntmps64
    go_wp2_with (go_at_call 77; refine (byteAt_out s a h1 _).mono ?_; rintro e w1 ⟨rfl, rfl⟩)
    go_ret2
    exact ⟨rfl, rfl⟩
set_option maxRecDepth 20000 in
set_option maxHeartbeats 2000000 in
theorem ref_in (s T : ByteArray) (k N : Nat) (attr : Bool) (hs : IsSm s.size) (hk : k < s.size) (hT : Fact (refT (s.data.toList.drop k) attr = (T.data.toList, N))) (w : World) (hl : Laid w) :
    Calls Tryd.prog 64 #[.string s, .int .i64 k, .bool attr] w fun e w' => e = .returned (.tuple #[.string T, .int .i64 N]) ∧ Below w.heap.size w w' := by
  have HL := Fact.mk hl
  clear hl
  have tok1 : True := trivial
  obtain ⟨c, hc⟩ : ∃ c, Fact (bAt s.data.toList k = c) := ⟨_, ⟨rfl⟩⟩
  obtain ⟨d, hd⟩ : ∃ d, Fact (bAt s.data.toList (k + 1) = d) := ⟨_, ⟨rfl⟩⟩
  have hk0 : (0 : Int) ≤ k := by omega
  have hkI : (k : Int) ≤ s.size := by omega
  have hkB : decide ((k : Int) < 0) = false := decide_eq_false (by omega)
  have hw1 : wrap64 ((k : Int) + 1) = ((k + 1 : Nat) : Int) := wrap_ok rfl ⟨by have := hs.le; omega⟩
  have e0 := hT.out
  unfold refT at e0
  rw [bAt_drop, bAt_drop, Nat.add_zero, hc.out, hd.out] at e0
  clear hT
  by_cases h38 : c = 38
  · subst h38
    rw [if_neg (by decide)] at e0
    have q1 : (((38 : UInt8).toNat : Int) != 38) = false := by decide
    obtain ⟨S, hS⟩ : ∃ S : ByteArray, s.extract k s.size = S := ⟨_, rfl⟩
    have hSd : S.data.toList = s.data.toList.drop k := by rw [← hS]; exact drop_data s k
    have hSz : S.size = s.size - k := by rw [← hS]; exact drop_size s k (by omega)
    have hSs : IsSm S.size := ⟨by have := hs.le; omega⟩
    rw [← hSd] at e0
    by_cases h35 : d = 35
    · rw [if_pos h35] at e0
      subst h35
      have hS2 : 2 ≤ S.size := by
        by_cases h : k + 1 < s.size
        · omega
        · exfalso
          have e := hd.out
          rw [bAt_out (by rw [← Lib.size_eq]; omega)] at e
          cases e
      have H0 := Fact.mk e0
      clear e0 hSd hSz
      go_enter Tryd.func64, Tryd.ntmps64
      go_wp2_with (first
        | (go_at_call 77; have _t := tok1; refine (byteAt_any s k _ hc _).mono ?_; rintro e w1 ⟨rfl, rfl⟩; clear tok1 _t)
        | (go_at_call 77; refine (byteAt_any s (k + 1) _ hd _).mono ?_; rintro e w1 ⟨rfl, rfl⟩)
        | (go_at_call 78; refine (byNumber_any S T N hSs hS2 H0 _ HL.out).mono ?_; rintro e w1 ⟨rfl, rfl⟩))
      go_ret2
      exact ⟨rfl, Below.refl _ _⟩
    · rw [if_neg h35] at e0
      have q2 : ((d.toNat : Int) == 35) = false := u8_ne (k := 35) (by decide) h35
      have hS1 : 1 ≤ S.size := by omega
      have H0 := Fact.mk e0
      clear e0 hSd hSz
      go_enter Tryd.func64, Tryd.ntmps64
      go_wp2_with (first
        | (go_at_call 77; have _t := tok1; refine (byteAt_any s k _ hc _).mono ?_; rintro e w1 ⟨rfl, rfl⟩; clear tok1 _t)
        | (go_at_call 77; refine (byteAt_any s (k + 1) _ hd _).mono ?_; rintro e w1 ⟨rfl, rfl⟩)
        | (go_at_call 79; refine (byName_any S T attr N hSs hS1 H0 _).mono ?_; rintro e w1 ⟨rfl, hb1⟩))
      go_ret2
      exact ⟨rfl, hb1⟩
  · rw [if_pos h38] at e0
    have e1 : T = ⟨#[]⟩ := (ba_eq (l := []) (congrArg Prod.fst e0)).symm
    have e2 : N = 0 := (congrArg Prod.snd e0).symm
    subst e1 e2
    have q0 : ((c.toNat : Int) == 38) = false := u8_ne (k := 38) (by decide) h38
    have q1 : ((c.toNat : Int) != 38) = true := by rw [bne, q0]; rfl
    clear e0
    go_enter Tryd.func64, Tryd.ntmps64
    go_wp2_with (go_at_call 77; refine (byteAt_any s k _ hc _).mono ?_; rintro e w1 ⟨rfl, rfl⟩)
    go_ret2
    exact ⟨rfl, Below.refl _ _⟩
theorem ref_any (s T : ByteArray) (a : Int) (N : Nat) (attr : Bool) (hs : IsSm s.size) (hT : Fact (refA s.data.toList a attr = (T.data.toList, N))) (w : World) (hl : Laid w) :
    Calls Tryd.prog 64 #[.string s, .int .i64 a, .bool attr] w fun e w' => e = .returned (.tuple #[.string T, .int .i64 N]) ∧ Below w.heap.size w w' := by
  have e0 := hT.out
  unfold refA at e0
  by_cases h : a < 0 ∨ (s.size : Int) ≤ a
  · have e3 : refA s.data.toList a attr = ([], 0) := by
      unfold refA
      rcases h with h | h
      · rw [if_pos h]
      · rw [if_neg (by omega), List.drop_eq_nil_of_le (by rw [← Lib.size_eq]; omega)]
        exact refT_none (by rw [bAt_out (by simp)]; decide)
    have e4 := e3.symm.trans hT.out
    have e1 : T = ⟨#[]⟩ := (ba_eq (l := []) (congrArg Prod.fst e4)).symm
    have e2 : N = 0 := (congrArg Prod.snd e4).symm
    subst e1 e2
    refine (ref_none s a attr h w).mono ?_
    rintro e w1 ⟨rfl, rfl⟩
    exact ⟨rfl, Below.refl _ _⟩
  · obtain ⟨k, rfl⟩ : ∃ k : Nat, a = k := ⟨a.toNat, by omega⟩
    rw [if_neg (by omega)] at e0
    exact ref_in s T k N attr hs (by omega) ⟨e0⟩ w hl
end Go.Proofs.YtdniddiaiinggaaDoor
