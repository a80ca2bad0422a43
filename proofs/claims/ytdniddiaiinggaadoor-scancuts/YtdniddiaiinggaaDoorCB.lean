/- number, byNumber, byName, Ref: what they answer. -/
import Derived.Test.YtdniddiaiinggaaDoorCA
set_option linter.unusedVariables false
namespace Go.Proofs.YtdniddiaiinggaaDoor
open Go.RowKit M

structure IsSm (n : Nat) : Prop where
  le : n ≤ 100000000
theorem IsSm.len {n : Nat} (h : IsSm n) : IsLen n := ⟨by have := h.le; omega⟩
structure IsBase (b : Nat) : Prop where
  h : b = 10 ∨ b = 16

theorem num_step {l : List UInt8} {k b acc V E : Nat} {c : UInt8} (hk : k < l.length) (hc : bAt l k = c) (h : (numL b (l.drop k) acc).1 = V ∧ k + (numL b (l.drop k) acc).2 = E) (hd : dgt c < b) :
    (numL b (l.drop (k + 1)) (min (acc * b + dgt c) 1114112)).1 = V ∧ k + 1 + (numL b (l.drop (k + 1)) (min (acc * b + dgt c) 1114112)).2 = E := by
  rw [drop_cons hk, hc, numL_hit hd] at h
  exact ⟨h.1, by have := h.2; simp only at this; omega⟩
theorem num_stop {l : List UInt8} {k b acc V E : Nat} {c : UInt8} (hk : k < l.length) (hc : bAt l k = c) (h : (numL b (l.drop k) acc).1 = V ∧ k + (numL b (l.drop k) acc).2 = E) (hd : ¬ dgt c < b) : acc = V ∧ k = E := by
  rw [drop_cons hk, hc, numL_miss hd] at h
  exact h
theorem num_end {l : List UInt8} {k b acc V E : Nat} (hk : l.length ≤ k) (h : (numL b (l.drop k) acc).1 = V ∧ k + (numL b (l.drop k) acc).2 = E) : acc = V ∧ k = E := by
  rw [List.drop_eq_nil_of_le hk] at h
  exact h
theorem min_acc (acc b d m : Nat) (hm : min (acc * b + d) 1114112 = m) : (if (1114112 : Int) < (acc : Int) * b + d then (1114112 : Int) else (acc : Int) * b + d) = m := by
  have e : ((acc * b + d : Nat) : Int) = (acc : Int) * b + d := by push_cast; rfl
  rw [← e]
  split <;> omega

theorem meas_up {n k : Nat} (h : k < n) : n - (intOf (.int .i64 ((k + 1 : Nat) : Int))).toNat < n - (intOf (.int .i64 (k : Int))).toNat := by
  simp [intOf]
  omega
theorem mul_le {acc b : Nat} (h : acc ≤ 1114112) (hb : IsBase b) : acc * b ≤ 17825792 := by
  have h16 : b ≤ 16 := by rcases hb.h with rfl | rfl <;> decide
  exact Nat.le_trans (Nat.mul_le_mul h h16) (by decide)
theorem mul_wrap {acc b : Nat} (h : acc ≤ 1114112) (hb : IsBase b) : wrap64 ((acc : Int) * b) = (acc : Int) * b := by
  have h1 := mul_le h hb
  have e : (acc : Int) * b = ((acc * b : Nat) : Int) := by push_cast; rfl
  rw [e]
  exact wrap_ok rfl ⟨by omega⟩
theorem mul_add_wrap {acc b d : Nat} (h : acc ≤ 1114112) (hb : IsBase b) (hd : d ≤ b) : wrap64 ((acc : Int) * b + d) = (acc : Int) * b + d := by
  have h1 := mul_le h hb
  have h16 : b ≤ 16 := by rcases hb.h with rfl | rfl <;> decide
  have e : (acc : Int) * b + d = ((acc * b + d : Nat) : Int) := by push_cast; rfl
  rw [e]
  exact wrap_ok rfl ⟨by omega⟩

set_option maxRecDepth 20000 in
set_option maxHeartbeats 1000000 in
theorem number_any (s : ByteArray) (k0 b V E : Nat) (hs : IsSm s.size) (hb : IsBase b) (hk0 : k0 ≤ s.size)
    (h0 : Fact ((numL b (s.data.toList.drop k0) 0).1 = V ∧ k0 + (numL b (s.data.toList.drop k0) 0).2 = E)) (w : World) :
    Calls Tryd.prog 86 #[.string s, .int .i64 k0, .int .i64 b] w fun e w' => e = .returned (.tuple #[.int .i64 V, .int .i64 E]) ∧ w' = w := by
  go_enter Tryd.func86, Tryd.ntmps86
  go_wp2_with fail
  go_loop [1, 8] (fun i n => ∃ k acc : Nat, i = .int .i64 k ∧ n = .int .i64 acc ∧ k ≤ s.size ∧ acc ≤ 1114112 ∧ Fact ((numL b (s.data.toList.drop k) acc).1 = V ∧ k + (numL b (s.data.toList.drop k) acc).2 = E)) (fun i _ => s.size - (intOf i).toNat)
  case atStart => exact ⟨k0, 0, rfl, rfl, hk0, by omega, h0⟩
  case round =>
    obtain ⟨k, acc, rfl, rfl, hk, hacc, hr⟩ := hrel
    by_cases hlt : k < s.size
    · have h1 : (k : Int) < s.size := by omega
      have h2 : (0 : Int) ≤ k := by omega
      obtain ⟨c, hc⟩ : ∃ c, bAt s.data.toList k = c := ⟨_, rfl⟩
      have hcc : s[k] = c := by rw [← byte_at s k hlt]; exact hc
      obtain ⟨d, hd⟩ : ∃ d, Fact (dgt c = d) := ⟨_, ⟨rfl⟩⟩
      have hll : k < s.data.toList.length := by rw [← Lib.size_eq]; exact hlt
      by_cases hdb : d < b
      · have hr2 : Fact _ := ⟨num_step hll hc hr.out (by rw [hd.out]; exact hdb)⟩
        rw [hd.out] at hr2
        obtain ⟨m, hm⟩ : ∃ m, min (acc * b + d) 1114112 = m := ⟨_, rfl⟩
        rw [hm] at hr2
        have hdI : (d : Int) < b := by omega
        have hm2 := min_acc acc b d m hm
        have hmle : m ≤ 1114112 := by omega
        have hw1 : wrap64 ((acc : Int) * b) = (acc : Int) * b := mul_wrap hacc hb
        have hw2 : wrap64 ((acc : Int) * b + d) = (acc : Int) * b + d := mul_add_wrap hacc hb (Nat.le_of_lt hdb)
        have hw3 : wrap64 ((k : Int) + 1) = ((k + 1 : Nat) : Int) := wrap_ok rfl ⟨by have := hs.le; omega⟩
        clear h0 hr hm
        go_wp2_with (go_at_call 95; refine (digit_at c d hd _).mono ?_; rintro e w1 ⟨rfl, rfl⟩)
        go_round
        case rel => exact ⟨k + 1, m, int_eq hw3, rfl, Nat.succ_le_of_lt hlt, hmle, hr2⟩
        case measure => rw [hw3]; exact meas_up hlt
      · have hst := num_stop hll hc hr.out (by rw [hd.out]; exact hdb)
        obtain ⟨e1, e2⟩ := hst
        subst e1 e2
        have hdI : (b : Int) ≤ d := by omega
        have hdB : decide ((d : Int) < b) = false := decide_eq_false (by omega)
        clear h0 hr
        go_wp2_with (go_at_call 95; refine (digit_at c d hd _).mono ?_; rintro e w1 ⟨rfl, rfl⟩)
        go_ret2
        exact ⟨rfl, rfl⟩
    · obtain ⟨e1, e2⟩ := num_end (by rw [← Lib.size_eq]; omega) hr.out
      subst e1 e2
      have h1 : (s.size : Int) ≤ k := by omega
      have h1B : decide ((k : Int) < s.size) = false := decide_eq_false (by omega)
      clear h0 hr
      go_wp2_with fail
      go_ret2
      exact ⟨rfl, rfl⟩
theorem number_at (s : ByteArray) (a b : Int) (k0 b' V E : Nat) (ha : a = k0) (hb0 : b = b') (hs : IsSm s.size) (hb : IsBase b') (hk0 : k0 ≤ s.size)
    (h0 : Fact ((numL b' (s.data.toList.drop k0) 0).1 = V ∧ k0 + (numL b' (s.data.toList.drop k0) 0).2 = E)) (w : World) :
    Calls Tryd.prog 86 #[.string s, .int .i64 a, .int .i64 b] w fun e w' => e = .returned (.tuple #[.int .i64 V, .int .i64 E]) ∧ w' = w := by
  subst ha hb0
  exact number_any s k0 b' V E hs hb hk0 h0 w
theorem byteAt_at (s : ByteArray) (a : Int) (k : Nat) (ha : a = k) (b : UInt8) (hb : Fact (bAt s.data.toList k = b)) (w : World) : Calls Tryd.prog 77 #[.string s, .int .i64 a] w fun e w' => e = .returned (.int .u8 b.toNat) ∧ w' = w := by
  subst ha
  exact byteAt_any s k b hb w
theorem u8_ne {c : UInt8} {k : Nat} (hk : k < 256) (h : c ≠ UInt8.ofNat k) : ((c.toNat : Int) == (k : Int)) = false := by
  rw [beq_eq_false_iff_ne]
  intro e
  apply h
  apply UInt8.toNat_inj.1
  have e2 : c.toNat = k := by omega
  rw [e2]
  simp
  omega
/-- what is left to do behind the digits -/
structure NumIs (l : List UInt8) (f b V E : Nat) : Prop where
  hex : frm l = f ∧ bas l = b
  num : (numL b (l.drop f) 0).1 = V ∧ f + (numL b (l.drop f) 0).2 = E
theorem NumIs.none {l : List UInt8} {f b V E : Nat} (h : NumIs l f b V E) (he : E = f) : numT l = ([38], 1) := by
  have h1 := h.num
  have : (numP l).2 = 0 := by unfold numP; rw [h.hex.1, h.hex.2]; omega
  unfold numT
  rw [if_pos this]
theorem NumIs.some {l : List UInt8} {f b V E : Nat} (h : NumIs l f b V E) (he : E ≠ f) : numT l = (en (codeB V), if bAt l E = 59 then E + 1 else E) := by
  have h1 := h.num
  have h2 : (numP l).2 ≠ 0 := by unfold numP; rw [h.hex.1, h.hex.2]; omega
  have h3 : frm l + (numP l).2 = E := by unfold numP; rw [h.hex.1, h.hex.2]; omega
  have h4 : (numP l).1 = V := by unfold numP; rw [h.hex.1, h.hex.2]; exact h1.1
  unfold numT
  rw [if_neg h2, h3, h4]
theorem num_is (l : List UInt8) (f b : Nat) (h : frm l = f ∧ bas l = b) : ∃ V E, NumIs l f b V E := ⟨_, _, ⟨h, rfl, rfl⟩⟩
theorem NumIs.le {l : List UInt8} {f b V E : Nat} (h : NumIs l f b V E) (hf : f ≤ l.length) : E ≤ l.length := by
  have h1 := (numL_le b (l.drop f) 0 (by omega)).2
  rw [List.length_drop] at h1
  have := h.num.2
  omega

set_option maxRecDepth 20000 in
set_option maxHeartbeats 2000000 in
theorem byNumber_any (s T : ByteArray) (N : Nat) (hs : IsSm s.size) (h2 : 2 ≤ s.size) (hT : Fact (numT s.data.toList = (T.data.toList, N))) (w : World) (hl : Laid w) :
    Calls Tryd.prog 78 #[.string s] w fun e w' => e = .returned (.tuple #[.string T, .int .i64 N]) ∧ w' = w := by
  have HL := Fact.mk hl
  clear hl
  have tok1 : True := trivial
  obtain ⟨c, hc⟩ : ∃ c, Fact (bAt s.data.toList 2 = c) := ⟨_, ⟨rfl⟩⟩
  have hz : s.data.toList.length = s.size := (Lib.size_eq s).symm
  have key : ∃ f b V E, Fact (NumIs s.data.toList f b V E) ∧ f ≤ s.size ∧ IsBase b ∧ ((f = 3 ∧ b = 16 ∧ (c = 120 ∨ (c ≠ 120 ∧ c = 88))) ∨ (f = 2 ∧ b = 10 ∧ c ≠ 120 ∧ c ≠ 88)) := by
    have hex : hexB s.data.toList = (decide (c = 120) || decide (c = 88)) := by unfold hexB; rw [hc.out]
    by_cases hx : c = 120 ∨ c = 88
    · have hh : hexB s.data.toList = true := by rw [hex]; simpa using hx
      obtain ⟨V, E, h⟩ := num_is s.data.toList 3 16 ⟨by unfold frm; rw [if_pos hh], by unfold bas; rw [if_pos hh]⟩
      refine ⟨3, 16, V, E, ⟨h⟩, ?_, ⟨.inr rfl⟩, .inl ⟨rfl, rfl, ?_⟩⟩
      · by_cases h3 : 2 < s.size
        · omega
        · exfalso
          have e := hc.out
          rw [bAt_out (by omega)] at e
          subst e
          rcases hx with hx | hx <;> cases hx
      · by_cases h1 : c = 120
        · exact .inl h1
        · exact .inr ⟨h1, hx.resolve_left h1⟩
    · have hh : hexB s.data.toList = false := by rw [hex]; simpa using hx
      obtain ⟨V, E, h⟩ := num_is s.data.toList 2 10 ⟨by unfold frm; rw [hh]; rfl, by unfold bas; rw [hh]; rfl⟩
      exact ⟨2, 10, V, E, ⟨h⟩, h2, ⟨.inl rfl⟩, .inr ⟨rfl, rfl, fun h => hx (.inl h), fun h => hx (.inr h)⟩⟩
  obtain ⟨f, b, V, E, hN, hf, hb, hcase⟩ := key
  have hnum : Fact ((numL b (s.data.toList.drop f) 0).1 = V ∧ f + (numL b (s.data.toList.drop f) 0).2 = E) := ⟨hN.out.num⟩
  have hE : E ≤ s.size := by rw [← hz]; exact hN.out.le (by omega)
  have HZ := Fact.mk hz
  clear hz
  obtain ⟨C, hC⟩ : ∃ C, Fact (codeB V = C) := ⟨_, ⟨rfl⟩⟩
  obtain ⟨G, hG⟩ : ∃ G, Fact (Utf8.encode C = G) := ⟨_, ⟨rfl⟩⟩
  by_cases he : E = f
  · have e0 := hT.out
    rw [hN.out.none he] at e0
    have e1 : T = ⟨#[38]⟩ := (ba_eq (l := [38]) (congrArg Prod.fst e0)).symm
    have e2 : N = 1 := (congrArg Prod.snd e0).symm
    subst e1 e2
    clear e0 hT hN hC hG
    rcases hcase with ⟨rfl, rfl, rfl | ⟨hn1, rfl⟩⟩ | ⟨rfl, rfl, hn1, hn2⟩
    · have q1 : ((E : Int) == 3) = true := beq_iff_eq.2 (by omega)
      clear he
      go_enter Tryd.func78, Tryd.ntmps78
      go_wp2_with (first
        | (go_at_call 77; refine (byteAt_at s _ 2 rfl _ hc _).mono ?_; rintro e w1 ⟨rfl, rfl⟩)
        | (go_at_call 86; refine (number_at s _ _ 3 16 V E rfl rfl hs hb hf hnum _).mono ?_; rintro e w1 ⟨rfl, rfl⟩))
      go_ret2
      exact ⟨rfl, rfl⟩
    · have q1 : ((E : Int) == 3) = true := beq_iff_eq.2 (by omega)
      clear he
      go_enter Tryd.func78, Tryd.ntmps78
      go_wp2_with (first
        | (go_at_call 77; refine (byteAt_at s _ 2 rfl _ hc _).mono ?_; rintro e w1 ⟨rfl, rfl⟩)
        | (go_at_call 86; refine (number_at s _ _ 3 16 V E rfl rfl hs hb hf hnum _).mono ?_; rintro e w1 ⟨rfl, rfl⟩))
      go_ret2
      exact ⟨rfl, rfl⟩
    · have q1 : ((E : Int) == 2) = true := beq_iff_eq.2 (by omega)
      have q2 : ((c.toNat : Int) == 120) = false := u8_ne (k := 120) (by decide) hn1
      have q3 : ((c.toNat : Int) == 88) = false := u8_ne (k := 88) (by decide) hn2
      clear he
      go_enter Tryd.func78, Tryd.ntmps78
      go_wp2_with (first
        | (go_at_call 77; refine (byteAt_at s _ 2 rfl _ hc _).mono ?_; rintro e w1 ⟨rfl, rfl⟩)
        | (go_at_call 86; refine (number_at s _ _ 2 10 V E rfl rfl hs hb hf hnum _).mono ?_; rintro e w1 ⟨rfl, rfl⟩))
      go_ret2
      exact ⟨rfl, rfl⟩
  · obtain ⟨d, hd⟩ : ∃ d, Fact (bAt s.data.toList E = d) := ⟨_, ⟨rfl⟩⟩
    have e0 := hT.out
    rw [hN.out.some he, hd.out] at e0
    have e1 : T = G := by
      have := ba_eq (congrArg Prod.fst e0)
      rw [← this, hC.out, ← hG.out]
      exact txt_one C
    have e2 : (if d = 59 then E + 1 else E) = N := congrArg Prod.snd e0
    subst e1
    clear e0 hT hN
    have hw1 : wrap64 ((E : Int) + 1) = ((E + 1 : Nat) : Int) := wrap_ok rfl ⟨by have := hs.le; omega⟩
    by_cases h59 : d = 59
    · rw [if_pos h59] at e2
      subst h59 e2
      rcases hcase with ⟨rfl, rfl, rfl | ⟨hn1, rfl⟩⟩ | ⟨rfl, rfl, hn1, hn2⟩
      · have q1 : ((E : Int) == 3) = false := beq_eq_false_iff_ne.2 (by omega)
        clear he
        go_enter Tryd.func78, Tryd.ntmps78
        go_wp2_with (first
          | (go_at_call 77; have _t := tok1; refine (byteAt_at s _ 2 rfl _ hc _).mono ?_; rintro e w1 ⟨rfl, rfl⟩; clear tok1 _t)
          | (go_at_call 77; refine (byteAt_any s E _ hd _).mono ?_; rintro e w1 ⟨rfl, rfl⟩)
          | (go_at_call 86; refine (number_at s _ _ 3 16 V E rfl rfl hs hb hf hnum _).mono ?_; rintro e w1 ⟨rfl, rfl⟩)
          | (go_at_call 87; refine (code_at V C hC _ HL.out).mono ?_; rintro e w1 ⟨rfl, rfl⟩)
          | (go_at_call 33; refine (put_at C _ hG _).mono ?_; rintro e w1 ⟨rfl, rfl⟩))
        go_ret2
        exact ⟨rfl, rfl⟩
      · have q1 : ((E : Int) == 3) = false := beq_eq_false_iff_ne.2 (by omega)
        clear he
        go_enter Tryd.func78, Tryd.ntmps78
        go_wp2_with (first
          | (go_at_call 77; have _t := tok1; refine (byteAt_at s _ 2 rfl _ hc _).mono ?_; rintro e w1 ⟨rfl, rfl⟩; clear tok1 _t)
          | (go_at_call 77; refine (byteAt_any s E _ hd _).mono ?_; rintro e w1 ⟨rfl, rfl⟩)
          | (go_at_call 86; refine (number_at s _ _ 3 16 V E rfl rfl hs hb hf hnum _).mono ?_; rintro e w1 ⟨rfl, rfl⟩)
          | (go_at_call 87; refine (code_at V C hC _ HL.out).mono ?_; rintro e w1 ⟨rfl, rfl⟩)
          | (go_at_call 33; refine (put_at C _ hG _).mono ?_; rintro e w1 ⟨rfl, rfl⟩))
        go_ret2
        exact ⟨rfl, rfl⟩
      · have q1 : ((E : Int) == 2) = false := beq_eq_false_iff_ne.2 (by omega)
        have q2 : ((c.toNat : Int) == 120) = false := u8_ne (k := 120) (by decide) hn1
        have q3 : ((c.toNat : Int) == 88) = false := u8_ne (k := 88) (by decide) hn2
        clear he
        go_enter Tryd.func78, Tryd.ntmps78
        go_wp2_with (first
          | (go_at_call 77; have _t := tok1; refine (byteAt_at s _ 2 rfl _ hc _).mono ?_; rintro e w1 ⟨rfl, rfl⟩; clear tok1 _t)
          | (go_at_call 77; refine (byteAt_any s E _ hd _).mono ?_; rintro e w1 ⟨rfl, rfl⟩)
          | (go_at_call 86; refine (number_at s _ _ 2 10 V E rfl rfl hs hb hf hnum _).mono ?_; rintro e w1 ⟨rfl, rfl⟩)
          | (go_at_call 87; refine (code_at V C hC _ HL.out).mono ?_; rintro e w1 ⟨rfl, rfl⟩)
          | (go_at_call 33; refine (put_at C _ hG _).mono ?_; rintro e w1 ⟨rfl, rfl⟩))
        go_ret2
        exact ⟨rfl, rfl⟩
    · rw [if_neg h59] at e2
      have q9 : ((d.toNat : Int) == 59) = false := u8_ne (k := 59) (by decide) h59
      subst e2
      rcases hcase with ⟨rfl, rfl, rfl | ⟨hn1, rfl⟩⟩ | ⟨rfl, rfl, hn1, hn2⟩
      · have q1 : ((E : Int) == 3) = false := beq_eq_false_iff_ne.2 (by omega)
        clear he
        go_enter Tryd.func78, Tryd.ntmps78
        go_wp2_with (first
          | (go_at_call 77; have _t := tok1; refine (byteAt_at s _ 2 rfl _ hc _).mono ?_; rintro e w1 ⟨rfl, rfl⟩; clear tok1 _t)
          | (go_at_call 77; refine (byteAt_any s E _ hd _).mono ?_; rintro e w1 ⟨rfl, rfl⟩)
          | (go_at_call 86; refine (number_at s _ _ 3 16 V E rfl rfl hs hb hf hnum _).mono ?_; rintro e w1 ⟨rfl, rfl⟩)
          | (go_at_call 87; refine (code_at V C hC _ HL.out).mono ?_; rintro e w1 ⟨rfl, rfl⟩)
          | (go_at_call 33; refine (put_at C _ hG _).mono ?_; rintro e w1 ⟨rfl, rfl⟩))
        go_ret2
        exact ⟨rfl, rfl⟩
      · have q1 : ((E : Int) == 3) = false := beq_eq_false_iff_ne.2 (by omega)
        clear he
        go_enter Tryd.func78, Tryd.ntmps78
        go_wp2_with (first
          | (go_at_call 77; have _t := tok1; refine (byteAt_at s _ 2 rfl _ hc _).mono ?_; rintro e w1 ⟨rfl, rfl⟩; clear tok1 _t)
          | (go_at_call 77; refine (byteAt_any s E _ hd _).mono ?_; rintro e w1 ⟨rfl, rfl⟩)
          | (go_at_call 86; refine (number_at s _ _ 3 16 V E rfl rfl hs hb hf hnum _).mono ?_; rintro e w1 ⟨rfl, rfl⟩)
          | (go_at_call 87; refine (code_at V C hC _ HL.out).mono ?_; rintro e w1 ⟨rfl, rfl⟩)
          | (go_at_call 33; refine (put_at C _ hG _).mono ?_; rintro e w1 ⟨rfl, rfl⟩))
        go_ret2
        exact ⟨rfl, rfl⟩
      · have q1 : ((E : Int) == 2) = false := beq_eq_false_iff_ne.2 (by omega)
        have q2 : ((c.toNat : Int) == 120) = false := u8_ne (k := 120) (by decide) hn1
        have q3 : ((c.toNat : Int) == 88) = false := u8_ne (k := 88) (by decide) hn2
        clear he
        go_enter Tryd.func78, Tryd.ntmps78
        go_wp2_with (first
          | (go_at_call 77; have _t := tok1; refine (byteAt_at s _ 2 rfl _ hc _).mono ?_; rintro e w1 ⟨rfl, rfl⟩; clear tok1 _t)
          | (go_at_call 77; refine (byteAt_any s E _ hd _).mono ?_; rintro e w1 ⟨rfl, rfl⟩)
          | (go_at_call 86; refine (number_at s _ _ 2 10 V E rfl rfl hs hb hf hnum _).mono ?_; rintro e w1 ⟨rfl, rfl⟩)
          | (go_at_call 87; refine (code_at V C hC _ HL.out).mono ?_; rintro e w1 ⟨rfl, rfl⟩)
          | (go_at_call 33; refine (put_at C _ hG _).mono ?_; rintro e w1 ⟨rfl, rfl⟩))
        go_ret2
        exact ⟨rfl, rfl⟩
end Go.Proofs.YtdniddiaiinggaaDoor
