/- The document's own numbers. -/
import Derived.Test.YtdniddiaiinggaaDoorRB
set_option linter.unusedVariables false
namespace Go.Proofs.YtdniddiaiinggaaDoor
open Go.RowKit M

theorem min_acc3 {acc b d m : Nat} (hm : min (acc * b + d) 1114112 = m) : min ((b : Int) * (acc : Int) + (d : Int)) 1114112 = (m : Int) := by
  have e : ((acc * b + d : Nat) : Int) = (b : Int) * acc + d := by rw [Nat.mul_comm]; push_cast; rfl
  rw [← e]
  omega
theorem rmid_step {l : List UInt8} {b V E k acc d m : Nat} {c : UInt8} (h : RMid l b V E k acc) (hk : k < l.length) (hc : bAt l k = c) (hd : dgt c = d) (hdb : d < b) (hm : min (acc * b + d) 1114112 = m) : RMid l b V E (k + 1) m := by
  have := num_step hk hc h.num (by rw [hd]; exact hdb)
  rw [hd, hm] at this
  exact ⟨this, by omega⟩
theorem rmid_stop {l : List UInt8} {b V E k acc d : Nat} {c : UInt8} (h : RMid l b V E k acc) (hk : k < l.length) (hc : bAt l k = c) (hd : dgt c = d) (hdb : ¬ d < b) : acc = V ∧ k = E := num_stop hk hc h.num (by rw [hd]; exact hdb)
theorem rmid_end {l : List UInt8} {b V E k acc : Nat} (h : RMid l b V E k acc) (hk : l.length ≤ k) : acc = V ∧ k = E := num_end hk h.num
set_option maxRecDepth 20000 in
set_option maxHeartbeats 4000000 in
theorem rnumber_any (s T : ByteArray) (k N : Nat) (hs : IsSm s.size) (hk2 : k + 2 ≤ s.size) (hT : Fact (numT (s.data.toList.drop k) = (T.data.toList, N))) (w : World) :
    Calls Tryd.prog 37 #[.string s, .int .i64 k] w fun e w' => e = .returned (.tuple #[.string T, .int .i64 N]) ∧ Below w.heap.size w w' := by
  have hz : s.data.toList.length = s.size := (Lib.size_eq s).symm
  have hsl := hs.le
  obtain ⟨c, hc⟩ : ∃ c, bAt s.data.toList (k + 2) = c := ⟨_, rfl⟩
  obtain ⟨k2, hk2e⟩ : ∃ k2, k + 2 = k2 := ⟨_, rfl⟩
  rw [hk2e] at hc hk2
  have hw2 : wrap64 ((k : Int) + 2) = (k2 : Int) := wrap_ok (by omega) ⟨by omega⟩
  have key : ∃ f b V E, Fact (NumIs (s.data.toList.drop k) f b V E) ∧ IsBase b ∧ ((f = 3 ∧ b = 16 ∧ k2 < s.size ∧ (c = 120 ∨ (c ≠ 120 ∧ c = 88))) ∨ (f = 2 ∧ b = 10 ∧ c ≠ 120 ∧ c ≠ 88)) := by
    have hcd : bAt (s.data.toList.drop k) 2 = c := by rw [bAt_drop, hk2e]; exact hc
    have hex : hexB (s.data.toList.drop k) = (decide (c = 120) || decide (c = 88)) := by unfold hexB; rw [hcd]
    by_cases hx : c = 120 ∨ c = 88
    · have hh : hexB (s.data.toList.drop k) = true := by rw [hex]; simpa using hx
      obtain ⟨V, E, h⟩ := num_is (s.data.toList.drop k) 3 16 ⟨by unfold frm; rw [if_pos hh], by unfold bas; rw [if_pos hh]⟩
      refine ⟨3, 16, V, E, ⟨h⟩, ⟨.inr rfl⟩, .inl ⟨rfl, rfl, ?_, ?_⟩⟩
      · by_cases h3 : k2 < s.size
        · exact h3
        · exfalso
          rw [bAt_out (by omega)] at hc
          subst hc
          rcases hx with hx | hx <;> cases hx
      · by_cases h1 : c = 120
        · exact .inl h1
        · exact .inr ⟨h1, hx.resolve_left h1⟩
    · have hh : hexB (s.data.toList.drop k) = false := by rw [hex]; simpa using hx
      obtain ⟨V, E, h⟩ := num_is (s.data.toList.drop k) 2 10 ⟨by unfold frm; rw [hh]; rfl, by unfold bas; rw [hh]; rfl⟩
      exact ⟨2, 10, V, E, ⟨h⟩, ⟨.inl rfl⟩, .inr ⟨rfl, rfl, fun h => hx (.inl h), fun h => hx (.inr h)⟩⟩
  obtain ⟨f, b, V, E, hN, hb, hcase⟩ := key
  obtain ⟨F, hF⟩ : ∃ F, k + f = F := ⟨_, rfl⟩
  obtain ⟨E', hE'⟩ : ∃ E', k + E = E' := ⟨_, rfl⟩
  have hFs : F ≤ s.size := by rcases hcase with ⟨h1, _, h2, _⟩ | ⟨h1, _⟩ <;> omega
  have hst : Fact (RMid s.data.toList b V E' F 0) := ⟨⟨by
    have := hN.out.num
    rw [List.drop_drop, hF] at this
    exact ⟨this.1, by have := this.2; omega⟩, by omega⟩⟩
  obtain ⟨C, hC⟩ : ∃ C, Fact (codeB V = C) := ⟨_, ⟨rfl⟩⟩
  obtain ⟨G, hG⟩ : ∃ G, Fact (Utf8.encode C = G) := ⟨_, ⟨rfl⟩⟩
  have hCr : ∃ j : Nat, C = j ∧ IsR j := by rw [← hC.out]; exact code_r V
  obtain ⟨d, hd⟩ : ∃ d, Fact (bAt s.data.toList E' = d) := ⟨_, ⟨rfl⟩⟩
  have hfin : Fact ((E' = F ∧ T = ⟨#[38]⟩ ∧ N = 1) ∨ (E' ≠ F ∧ T = G ∧ ((d = 59 ∧ k + N = E' + 1) ∨ (d ≠ 59 ∧ k + N = E')))) := ⟨by
    have e0 := hT.out
    by_cases he : E = f
    · rw [hN.out.none he] at e0
      exact .inl ⟨by omega, (ba_eq (l := [38]) (congrArg Prod.fst e0)).symm, (congrArg Prod.snd e0).symm⟩
    · rw [hN.out.some he, bAt_drop, hE', hd.out] at e0
      refine .inr ⟨by omega, ?_, ?_⟩
      · have := ba_eq (congrArg Prod.fst e0)
        rw [← this, hC.out, ← hG.out]
        exact txt_one C
      · have e2 : (if d = 59 then E + 1 else E) = N := congrArg Prod.snd e0
        by_cases h59 : d = 59
        · rw [if_pos h59] at e2; exact .inl ⟨h59, by omega⟩
        · rw [if_neg h59] at e2; exact .inr ⟨h59, by omega⟩⟩
  have HZ := Fact.mk hz
  have HS := Fact.mk hsl
  have HCR := Fact.mk hCr
  have HFS := Fact.mk hFs
  have HKF := Fact.mk hF
  have HK2 := Fact.mk hk2e
  clear hz hsl hCr hFs hF hE' hN hT hk2e hk2
  rcases hcase with ⟨rfl, rfl, h3, hcx⟩ | ⟨rfl, rfl, hn1, hn2⟩
  · have hk2I : (k2 : Int) < s.size := by omega
    have hk20 : (0 : Int) ≤ k2 := by omega
    have hcc : s[k2] = c := by rw [← byte_at s k2 h3]; exact hc
    have hstart : wrap64 ((k2 : Int) + 1) = (F : Int) := wrap_ok (by have := HKF.out; have := HK2.out; omega) ⟨by have := HS.out; have := HFS.out; omega⟩
    rcases hcx with rfl | ⟨hn1, rfl⟩
    · clear hc
      go_enter Tryd.func37, Tryd.ntmps37
      go_wp2_with fail
      try simp only [hw2]
      try simp only [hstart]
      clear hw2 hstart
      go_loop [6, 10] (fun i n => ∃ j acc : Nat, i = .int .i64 j ∧ n = .int .i64 acc ∧ j ≤ s.size ∧ Fact (RMid s.data.toList 16 V E' j acc)) (fun i _ => s.size - (intOf i).toNat)
      case atStart => exact ⟨F, 0, rfl, rfl, HFS.out, hst⟩
      case round =>
        obtain ⟨j, acc, rfl, rfl, hj, hr⟩ := hrel
        clear hst
        by_cases hlt : j < s.size
        · have hjI : (j : Int) < s.size := by omega
          have hj0 : (0 : Int) ≤ j := by omega
          obtain ⟨x, hxb⟩ : ∃ x, bAt s.data.toList j = x := ⟨_, rfl⟩
          have hxx : s[j] = x := by rw [← byte_at s j hlt]; exact hxb
          obtain ⟨d0, hd0⟩ : ∃ d0, dgt x = d0 := ⟨_, rfl⟩
          by_cases hdb : d0 < 16
          · obtain ⟨m, hm⟩ : ∃ m, min (acc * 16 + d0) 1114112 = m := ⟨_, rfl⟩
            have hr2 : Fact (RMid s.data.toList 16 V E' (j + 1) m) := ⟨rmid_step hr.out (by rw [HZ.out]; exact hlt) hxb hd0 hdb hm⟩
            have hx1 : Fact (rdg true x.toNat = (d0 : Int)) := ⟨rdg_hit (bs := 16) rfl hd0 hdb⟩
            have hge : (0 : Int) ≤ (d0 : Int) := by omega
            have HM3 : Fact (min (16 * (acc : Int) + (d0 : Int)) 1114112 = (m : Int)) := ⟨min_acc3 hm⟩
            have hw5 : wrap64 (16 * (acc : Int)) = 16 * (acc : Int) := mul_wrap2 (b := 16) hr.out.le hb
            have hw6 : wrap64 (16 * (acc : Int) + (d0 : Int)) = 16 * (acc : Int) + (d0 : Int) := mul_add_wrap2 (b := 16) (d := d0) hr.out.le hb (Nat.le_of_lt hdb)
            have A9 : Fact (wrap64 ((j : Int) + 1) = ((j + 1 : Nat) : Int)) := ⟨wrap_ok rfl ⟨by have := HS.out; omega⟩⟩
            clear hr hm hdb hd0 hxb hfin hd
            go_wp2_with (go_at_call 40; refine (rdigit_at x true (d0 : Int) hx1 _).mono ?_; rintro e w1 ⟨rfl, rfl⟩)
            go_round
            case rel => exact ⟨j + 1, m, by first | rfl | exact int_eq A9.out, int_eq (by first | exact HM3.out | (have h9 := HM3.out; split <;> omega)), Nat.succ_le_of_lt hlt, hr2⟩
            case measure => first | exact meas_up hlt | (rw [A9.out]; exact meas_up hlt)
          · obtain ⟨e1, e2⟩ := rmid_stop hr.out (by rw [HZ.out]; exact hlt) hxb hd0 hdb
            have hx1 : Fact (rdg true x.toNat = -1) := ⟨rdg_miss (bs := 16) rfl hd0 hdb⟩
            subst e1 e2
            rcases hfin.out with ⟨h1, h2, h3⟩ | ⟨h1, h2, h3⟩
            · subst h2 h3
              have q1 : ((j : Int) == (F : Int)) = true := beq_iff_eq.2 (by omega)
              clear hfin h1 hd
              go_wp2_with (go_at_call 40; refine (rdigit_at x true (-1) hx1 _).mono ?_; rintro e w1 ⟨rfl, rfl⟩)
              go_ret2
              exact ⟨rfl, Below.refl _ _⟩
            · subst h2
              have q1 : ((j : Int) == (F : Int)) = false := beq_eq_false_iff_ne.2 (by omega)
              rcases h3 with ⟨h4, h5⟩ | ⟨h4, h5⟩
              · obtain ⟨E1, hE1⟩ : ∃ E1, j + 1 = E1 := ⟨_, rfl⟩
                have hwE : wrap64 ((j : Int) + 1) = (E1 : Int) := wrap_ok (by omega) ⟨by have := HS.out; omega⟩
                have hwN : wrap64 ((E1 : Int) - k) = (N : Int) := wrap_ok (by omega) ⟨by have := HS.out; omega⟩
                have hxd : x = d := by rw [← hxb]; exact hd.out
                have q2 : ((x.toNat : Int) == 59) = true := by rw [hxd, h4]; rfl
                clear hfin h1 h4 h5 hxd hE1 hd
                go_wp2_with (first
                  | (go_at_call 40; refine (rdigit_at x true (-1) hx1 _).mono ?_; rintro e w1 ⟨rfl, rfl⟩)
                  | (go_at_call 51; refine (rcode_at acc C hC _).mono ?_; rintro e w1 ⟨rfl, rfl⟩)
                  | (go_at_call 50; refine (rput_at C HCR.out _ hG _).mono ?_; rintro e w2 ⟨rfl, hb2⟩))
                go_ret2
                exact ⟨by first | rfl | (rw [hwN]; done) | (rw [hwN]; rfl), hb2⟩
              · obtain ⟨E1, hE1⟩ : ∃ E1, j + 1 = E1 := ⟨_, rfl⟩
                have hwE : wrap64 ((j : Int) + 1) = (E1 : Int) := wrap_ok (by omega) ⟨by have := HS.out; omega⟩
                have hwN : wrap64 ((j : Int) - k) = (N : Int) := wrap_ok (by omega) ⟨by have := HS.out; omega⟩
                have hxd : x = d := by rw [← hxb]; exact hd.out
                have q2 : ((x.toNat : Int) == 59) = false := u8_ne (k := 59) (by decide) (by rw [hxd]; exact h4)
                clear hfin h1 h4 h5 hxd hE1 hd
                go_wp2_with (first
                  | (go_at_call 40; refine (rdigit_at x true (-1) hx1 _).mono ?_; rintro e w1 ⟨rfl, rfl⟩)
                  | (go_at_call 51; refine (rcode_at acc C hC _).mono ?_; rintro e w1 ⟨rfl, rfl⟩)
                  | (go_at_call 50; refine (rput_at C HCR.out _ hG _).mono ?_; rintro e w2 ⟨rfl, hb2⟩))
                go_ret2
                exact ⟨by first | rfl | (rw [hwN]; done) | (rw [hwN]; rfl), hb2⟩
        · have hjI : (s.size : Int) ≤ j := by omega
          have hjB : decide ((j : Int) < s.size) = false := decide_eq_false (by omega)
          obtain ⟨e1, e2⟩ := rmid_end hr.out (by rw [HZ.out]; omega)
          subst e1 e2
          rcases hfin.out with ⟨h1, h2, h3⟩ | ⟨h1, h2, h3⟩
          · subst h2 h3
            have q1 : ((j : Int) == (F : Int)) = true := beq_iff_eq.2 (by omega)
            clear hfin h1 hd
            go_wp2_with fail
            go_ret2
            exact ⟨rfl, Below.refl _ _⟩
          · subst h2
            have q1 : ((j : Int) == (F : Int)) = false := beq_eq_false_iff_ne.2 (by omega)
            rcases h3 with ⟨h4, h5⟩ | ⟨h4, h5⟩
            · exfalso
              have := hd.out
              rw [bAt_out (by rw [HZ.out]; omega), h4] at this
              cases this
            · have hwN : wrap64 ((j : Int) - k) = (N : Int) := wrap_ok (by omega) ⟨by have := HS.out; omega⟩
              clear hfin h1 h4 h5 hd
              go_wp2_with (first
                | (go_at_call 51; refine (rcode_at acc C hC _).mono ?_; rintro e w1 ⟨rfl, rfl⟩)
                | (go_at_call 50; refine (rput_at C HCR.out _ hG _).mono ?_; rintro e w2 ⟨rfl, hb2⟩))
              go_ret2
              exact ⟨by first | rfl | (rw [hwN]; done) | (rw [hwN]; rfl), hb2⟩
    · clear hc hn1
      go_enter Tryd.func37, Tryd.ntmps37
      go_wp2_with fail
      try simp only [hw2]
      try simp only [hstart]
      clear hw2 hstart
      go_loop [6, 10] (fun i n => ∃ j acc : Nat, i = .int .i64 j ∧ n = .int .i64 acc ∧ j ≤ s.size ∧ Fact (RMid s.data.toList 16 V E' j acc)) (fun i _ => s.size - (intOf i).toNat)
      case atStart => exact ⟨F, 0, rfl, rfl, HFS.out, hst⟩
      case round =>
        obtain ⟨j, acc, rfl, rfl, hj, hr⟩ := hrel
        clear hst
        by_cases hlt : j < s.size
        · have hjI : (j : Int) < s.size := by omega
          have hj0 : (0 : Int) ≤ j := by omega
          obtain ⟨x, hxb⟩ : ∃ x, bAt s.data.toList j = x := ⟨_, rfl⟩
          have hxx : s[j] = x := by rw [← byte_at s j hlt]; exact hxb
          obtain ⟨d0, hd0⟩ : ∃ d0, dgt x = d0 := ⟨_, rfl⟩
          by_cases hdb : d0 < 16
          · obtain ⟨m, hm⟩ : ∃ m, min (acc * 16 + d0) 1114112 = m := ⟨_, rfl⟩
            have hr2 : Fact (RMid s.data.toList 16 V E' (j + 1) m) := ⟨rmid_step hr.out (by rw [HZ.out]; exact hlt) hxb hd0 hdb hm⟩
            have hx1 : Fact (rdg true x.toNat = (d0 : Int)) := ⟨rdg_hit (bs := 16) rfl hd0 hdb⟩
            have hge : (0 : Int) ≤ (d0 : Int) := by omega
            have HM3 : Fact (min (16 * (acc : Int) + (d0 : Int)) 1114112 = (m : Int)) := ⟨min_acc3 hm⟩
            have hw5 : wrap64 (16 * (acc : Int)) = 16 * (acc : Int) := mul_wrap2 (b := 16) hr.out.le hb
            have hw6 : wrap64 (16 * (acc : Int) + (d0 : Int)) = 16 * (acc : Int) + (d0 : Int) := mul_add_wrap2 (b := 16) (d := d0) hr.out.le hb (Nat.le_of_lt hdb)
            have A9 : Fact (wrap64 ((j : Int) + 1) = ((j + 1 : Nat) : Int)) := ⟨wrap_ok rfl ⟨by have := HS.out; omega⟩⟩
            clear hr hm hdb hd0 hxb hfin hd
            go_wp2_with (go_at_call 40; refine (rdigit_at x true (d0 : Int) hx1 _).mono ?_; rintro e w1 ⟨rfl, rfl⟩)
            go_round
            case rel => exact ⟨j + 1, m, by first | rfl | exact int_eq A9.out, int_eq (by first | exact HM3.out | (have h9 := HM3.out; split <;> omega)), Nat.succ_le_of_lt hlt, hr2⟩
            case measure => first | exact meas_up hlt | (rw [A9.out]; exact meas_up hlt)
          · obtain ⟨e1, e2⟩ := rmid_stop hr.out (by rw [HZ.out]; exact hlt) hxb hd0 hdb
            have hx1 : Fact (rdg true x.toNat = -1) := ⟨rdg_miss (bs := 16) rfl hd0 hdb⟩
            subst e1 e2
            rcases hfin.out with ⟨h1, h2, h3⟩ | ⟨h1, h2, h3⟩
            · subst h2 h3
              have q1 : ((j : Int) == (F : Int)) = true := beq_iff_eq.2 (by omega)
              clear hfin h1 hd
              go_wp2_with (go_at_call 40; refine (rdigit_at x true (-1) hx1 _).mono ?_; rintro e w1 ⟨rfl, rfl⟩)
              go_ret2
              exact ⟨rfl, Below.refl _ _⟩
            · subst h2
              have q1 : ((j : Int) == (F : Int)) = false := beq_eq_false_iff_ne.2 (by omega)
              rcases h3 with ⟨h4, h5⟩ | ⟨h4, h5⟩
              · obtain ⟨E1, hE1⟩ : ∃ E1, j + 1 = E1 := ⟨_, rfl⟩
                have hwE : wrap64 ((j : Int) + 1) = (E1 : Int) := wrap_ok (by omega) ⟨by have := HS.out; omega⟩
                have hwN : wrap64 ((E1 : Int) - k) = (N : Int) := wrap_ok (by omega) ⟨by have := HS.out; omega⟩
                have hxd : x = d := by rw [← hxb]; exact hd.out
                have q2 : ((x.toNat : Int) == 59) = true := by rw [hxd, h4]; rfl
                clear hfin h1 h4 h5 hxd hE1 hd
                go_wp2_with (first
                  | (go_at_call 40; refine (rdigit_at x true (-1) hx1 _).mono ?_; rintro e w1 ⟨rfl, rfl⟩)
                  | (go_at_call 51; refine (rcode_at acc C hC _).mono ?_; rintro e w1 ⟨rfl, rfl⟩)
                  | (go_at_call 50; refine (rput_at C HCR.out _ hG _).mono ?_; rintro e w2 ⟨rfl, hb2⟩))
                go_ret2
                exact ⟨by first | rfl | (rw [hwN]; done) | (rw [hwN]; rfl), hb2⟩
              · obtain ⟨E1, hE1⟩ : ∃ E1, j + 1 = E1 := ⟨_, rfl⟩
                have hwE : wrap64 ((j : Int) + 1) = (E1 : Int) := wrap_ok (by omega) ⟨by have := HS.out; omega⟩
                have hwN : wrap64 ((j : Int) - k) = (N : Int) := wrap_ok (by omega) ⟨by have := HS.out; omega⟩
                have hxd : x = d := by rw [← hxb]; exact hd.out
                have q2 : ((x.toNat : Int) == 59) = false := u8_ne (k := 59) (by decide) (by rw [hxd]; exact h4)
                clear hfin h1 h4 h5 hxd hE1 hd
                go_wp2_with (first
                  | (go_at_call 40; refine (rdigit_at x true (-1) hx1 _).mono ?_; rintro e w1 ⟨rfl, rfl⟩)
                  | (go_at_call 51; refine (rcode_at acc C hC _).mono ?_; rintro e w1 ⟨rfl, rfl⟩)
                  | (go_at_call 50; refine (rput_at C HCR.out _ hG _).mono ?_; rintro e w2 ⟨rfl, hb2⟩))
                go_ret2
                exact ⟨by first | rfl | (rw [hwN]; done) | (rw [hwN]; rfl), hb2⟩
        · have hjI : (s.size : Int) ≤ j := by omega
          have hjB : decide ((j : Int) < s.size) = false := decide_eq_false (by omega)
          obtain ⟨e1, e2⟩ := rmid_end hr.out (by rw [HZ.out]; omega)
          subst e1 e2
          rcases hfin.out with ⟨h1, h2, h3⟩ | ⟨h1, h2, h3⟩
          · subst h2 h3
            have q1 : ((j : Int) == (F : Int)) = true := beq_iff_eq.2 (by omega)
            clear hfin h1 hd
            go_wp2_with fail
            go_ret2
            exact ⟨rfl, Below.refl _ _⟩
          · subst h2
            have q1 : ((j : Int) == (F : Int)) = false := beq_eq_false_iff_ne.2 (by omega)
            rcases h3 with ⟨h4, h5⟩ | ⟨h4, h5⟩
            · exfalso
              have := hd.out
              rw [bAt_out (by rw [HZ.out]; omega), h4] at this
              cases this
            · have hwN : wrap64 ((j : Int) - k) = (N : Int) := wrap_ok (by omega) ⟨by have := HS.out; omega⟩
              clear hfin h1 h4 h5 hd
              go_wp2_with (first
                | (go_at_call 51; refine (rcode_at acc C hC _).mono ?_; rintro e w1 ⟨rfl, rfl⟩)
                | (go_at_call 50; refine (rput_at C HCR.out _ hG _).mono ?_; rintro e w2 ⟨rfl, hb2⟩))
              go_ret2
              exact ⟨by first | rfl | (rw [hwN]; done) | (rw [hwN]; rfl), hb2⟩
  · have q2 : ((c.toNat : Int) == 120) = false := u8_ne (k := 120) (by decide) hn1
    have q3 : ((c.toNat : Int) == 88) = false := u8_ne (k := 88) (by decide) hn2
    have hk20 : (0 : Int) ≤ k2 := by omega
    have hstart0 : F = k2 := by have := HKF.out; have := HK2.out; omega
    have hstart : (k2 : Int) = (F : Int) := by omega
    by_cases h3 : k2 < s.size
    · have hk2I : (k2 : Int) < s.size := by omega
      have hcc : s[k2] = c := by rw [← byte_at s k2 h3]; exact hc
      subst hstart0
      clear hc hn1 hn2
      go_enter Tryd.func37, Tryd.ntmps37
      go_wp2_with fail
      try simp only [hw2]
      try simp only [hstart]
      clear hw2 hstart
      go_loop [6, 10] (fun i n => ∃ j acc : Nat, i = .int .i64 j ∧ n = .int .i64 acc ∧ j ≤ s.size ∧ Fact (RMid s.data.toList 10 V E' j acc)) (fun i _ => s.size - (intOf i).toNat)
      case atStart => exact ⟨F, 0, rfl, rfl, HFS.out, hst⟩
      case round =>
        obtain ⟨j, acc, rfl, rfl, hj, hr⟩ := hrel
        clear hst
        by_cases hlt : j < s.size
        · have hjI : (j : Int) < s.size := by omega
          have hj0 : (0 : Int) ≤ j := by omega
          obtain ⟨x, hxb⟩ : ∃ x, bAt s.data.toList j = x := ⟨_, rfl⟩
          have hxx : s[j] = x := by rw [← byte_at s j hlt]; exact hxb
          obtain ⟨d0, hd0⟩ : ∃ d0, dgt x = d0 := ⟨_, rfl⟩
          by_cases hdb : d0 < 10
          · obtain ⟨m, hm⟩ : ∃ m, min (acc * 10 + d0) 1114112 = m := ⟨_, rfl⟩
            have hr2 : Fact (RMid s.data.toList 10 V E' (j + 1) m) := ⟨rmid_step hr.out (by rw [HZ.out]; exact hlt) hxb hd0 hdb hm⟩
            have hx1 : Fact (rdg false x.toNat = (d0 : Int)) := ⟨rdg_hit (bs := 10) rfl hd0 hdb⟩
            have hge : (0 : Int) ≤ (d0 : Int) := by omega
            have HM3 : Fact (min (10 * (acc : Int) + (d0 : Int)) 1114112 = (m : Int)) := ⟨min_acc3 hm⟩
            have hw5 : wrap64 (10 * (acc : Int)) = 10 * (acc : Int) := mul_wrap2 (b := 10) hr.out.le hb
            have hw6 : wrap64 (10 * (acc : Int) + (d0 : Int)) = 10 * (acc : Int) + (d0 : Int) := mul_add_wrap2 (b := 10) (d := d0) hr.out.le hb (Nat.le_of_lt hdb)
            have A9 : Fact (wrap64 ((j : Int) + 1) = ((j + 1 : Nat) : Int)) := ⟨wrap_ok rfl ⟨by have := HS.out; omega⟩⟩
            clear hr hm hdb hd0 hxb hfin hd
            go_wp2_with (go_at_call 40; refine (rdigit_at x false (d0 : Int) hx1 _).mono ?_; rintro e w1 ⟨rfl, rfl⟩)
            go_round
            case rel => exact ⟨j + 1, m, by first | rfl | exact int_eq A9.out, int_eq (by first | exact HM3.out | (have h9 := HM3.out; split <;> omega)), Nat.succ_le_of_lt hlt, hr2⟩
            case measure => first | exact meas_up hlt | (rw [A9.out]; exact meas_up hlt)
          · obtain ⟨e1, e2⟩ := rmid_stop hr.out (by rw [HZ.out]; exact hlt) hxb hd0 hdb
            have hx1 : Fact (rdg false x.toNat = -1) := ⟨rdg_miss (bs := 10) rfl hd0 hdb⟩
            subst e1 e2
            rcases hfin.out with ⟨h1, h2, h3⟩ | ⟨h1, h2, h3⟩
            · subst h2 h3
              have q1 : ((j : Int) == (F : Int)) = true := beq_iff_eq.2 (by omega)
              clear hfin h1 hd
              go_wp2_with (go_at_call 40; refine (rdigit_at x false (-1) hx1 _).mono ?_; rintro e w1 ⟨rfl, rfl⟩)
              go_ret2
              exact ⟨rfl, Below.refl _ _⟩
            · subst h2
              have q1 : ((j : Int) == (F : Int)) = false := beq_eq_false_iff_ne.2 (by omega)
              rcases h3 with ⟨h4, h5⟩ | ⟨h4, h5⟩
              · obtain ⟨E1, hE1⟩ : ∃ E1, j + 1 = E1 := ⟨_, rfl⟩
                have hwE : wrap64 ((j : Int) + 1) = (E1 : Int) := wrap_ok (by omega) ⟨by have := HS.out; omega⟩
                have hwN : wrap64 ((E1 : Int) - k) = (N : Int) := wrap_ok (by omega) ⟨by have := HS.out; omega⟩
                have hxd : x = d := by rw [← hxb]; exact hd.out
                have q2 : ((x.toNat : Int) == 59) = true := by rw [hxd, h4]; rfl
                clear hfin h1 h4 h5 hxd hE1 hd
                go_wp2_with (first
                  | (go_at_call 40; refine (rdigit_at x false (-1) hx1 _).mono ?_; rintro e w1 ⟨rfl, rfl⟩)
                  | (go_at_call 51; refine (rcode_at acc C hC _).mono ?_; rintro e w1 ⟨rfl, rfl⟩)
                  | (go_at_call 50; refine (rput_at C HCR.out _ hG _).mono ?_; rintro e w2 ⟨rfl, hb2⟩))
                go_ret2
                exact ⟨by first | rfl | (rw [hwN]; done) | (rw [hwN]; rfl), hb2⟩
              · obtain ⟨E1, hE1⟩ : ∃ E1, j + 1 = E1 := ⟨_, rfl⟩
                have hwE : wrap64 ((j : Int) + 1) = (E1 : Int) := wrap_ok (by omega) ⟨by have := HS.out; omega⟩
                have hwN : wrap64 ((j : Int) - k) = (N : Int) := wrap_ok (by omega) ⟨by have := HS.out; omega⟩
                have hxd : x = d := by rw [← hxb]; exact hd.out
                have q2 : ((x.toNat : Int) == 59) = false := u8_ne (k := 59) (by decide) (by rw [hxd]; exact h4)
                clear hfin h1 h4 h5 hxd hE1 hd
                go_wp2_with (first
                  | (go_at_call 40; refine (rdigit_at x false (-1) hx1 _).mono ?_; rintro e w1 ⟨rfl, rfl⟩)
                  | (go_at_call 51; refine (rcode_at acc C hC _).mono ?_; rintro e w1 ⟨rfl, rfl⟩)
                  | (go_at_call 50; refine (rput_at C HCR.out _ hG _).mono ?_; rintro e w2 ⟨rfl, hb2⟩))
                go_ret2
                exact ⟨by first | rfl | (rw [hwN]; done) | (rw [hwN]; rfl), hb2⟩
        · have hjI : (s.size : Int) ≤ j := by omega
          have hjB : decide ((j : Int) < s.size) = false := decide_eq_false (by omega)
          obtain ⟨e1, e2⟩ := rmid_end hr.out (by rw [HZ.out]; omega)
          subst e1 e2
          rcases hfin.out with ⟨h1, h2, h3⟩ | ⟨h1, h2, h3⟩
          · subst h2 h3
            have q1 : ((j : Int) == (F : Int)) = true := beq_iff_eq.2 (by omega)
            clear hfin h1 hd
            go_wp2_with fail
            go_ret2
            exact ⟨rfl, Below.refl _ _⟩
          · subst h2
            have q1 : ((j : Int) == (F : Int)) = false := beq_eq_false_iff_ne.2 (by omega)
            rcases h3 with ⟨h4, h5⟩ | ⟨h4, h5⟩
            · exfalso
              have := hd.out
              rw [bAt_out (by rw [HZ.out]; omega), h4] at this
              cases this
            · have hwN : wrap64 ((j : Int) - k) = (N : Int) := wrap_ok (by omega) ⟨by have := HS.out; omega⟩
              clear hfin h1 h4 h5 hd
              go_wp2_with (first
                | (go_at_call 51; refine (rcode_at acc C hC _).mono ?_; rintro e w1 ⟨rfl, rfl⟩)
                | (go_at_call 50; refine (rput_at C HCR.out _ hG _).mono ?_; rintro e w2 ⟨rfl, hb2⟩))
              go_ret2
              exact ⟨by first | rfl | (rw [hwN]; done) | (rw [hwN]; rfl), hb2⟩
    · have hk2I : (s.size : Int) ≤ k2 := by omega
      have hk2B : decide ((k2 : Int) < s.size) = false := decide_eq_false (by omega)
      subst hstart0
      clear hc hn1 hn2 q2 q3
      go_enter Tryd.func37, Tryd.ntmps37
      go_wp2_with fail
      try simp only [hw2]
      try simp only [hstart]
      clear hw2 hstart
      go_loop [6, 10] (fun i n => ∃ j acc : Nat, i = .int .i64 j ∧ n = .int .i64 acc ∧ j ≤ s.size ∧ Fact (RMid s.data.toList 10 V E' j acc)) (fun i _ => s.size - (intOf i).toNat)
      case atStart => exact ⟨F, 0, rfl, rfl, HFS.out, hst⟩
      case round =>
        obtain ⟨j, acc, rfl, rfl, hj, hr⟩ := hrel
        clear hst
        by_cases hlt : j < s.size
        · have hjI : (j : Int) < s.size := by omega
          have hj0 : (0 : Int) ≤ j := by omega
          obtain ⟨x, hxb⟩ : ∃ x, bAt s.data.toList j = x := ⟨_, rfl⟩
          have hxx : s[j] = x := by rw [← byte_at s j hlt]; exact hxb
          obtain ⟨d0, hd0⟩ : ∃ d0, dgt x = d0 := ⟨_, rfl⟩
          by_cases hdb : d0 < 10
          · obtain ⟨m, hm⟩ : ∃ m, min (acc * 10 + d0) 1114112 = m := ⟨_, rfl⟩
            have hr2 : Fact (RMid s.data.toList 10 V E' (j + 1) m) := ⟨rmid_step hr.out (by rw [HZ.out]; exact hlt) hxb hd0 hdb hm⟩
            have hx1 : Fact (rdg false x.toNat = (d0 : Int)) := ⟨rdg_hit (bs := 10) rfl hd0 hdb⟩
            have hge : (0 : Int) ≤ (d0 : Int) := by omega
            have HM3 : Fact (min (10 * (acc : Int) + (d0 : Int)) 1114112 = (m : Int)) := ⟨min_acc3 hm⟩
            have hw5 : wrap64 (10 * (acc : Int)) = 10 * (acc : Int) := mul_wrap2 (b := 10) hr.out.le hb
            have hw6 : wrap64 (10 * (acc : Int) + (d0 : Int)) = 10 * (acc : Int) + (d0 : Int) := mul_add_wrap2 (b := 10) (d := d0) hr.out.le hb (Nat.le_of_lt hdb)
            have A9 : Fact (wrap64 ((j : Int) + 1) = ((j + 1 : Nat) : Int)) := ⟨wrap_ok rfl ⟨by have := HS.out; omega⟩⟩
            clear hr hm hdb hd0 hxb hfin hd
            go_wp2_with (go_at_call 40; refine (rdigit_at x false (d0 : Int) hx1 _).mono ?_; rintro e w1 ⟨rfl, rfl⟩)
            go_round
            case rel => exact ⟨j + 1, m, by first | rfl | exact int_eq A9.out, int_eq (by first | exact HM3.out | (have h9 := HM3.out; split <;> omega)), Nat.succ_le_of_lt hlt, hr2⟩
            case measure => first | exact meas_up hlt | (rw [A9.out]; exact meas_up hlt)
          · obtain ⟨e1, e2⟩ := rmid_stop hr.out (by rw [HZ.out]; exact hlt) hxb hd0 hdb
            have hx1 : Fact (rdg false x.toNat = -1) := ⟨rdg_miss (bs := 10) rfl hd0 hdb⟩
            subst e1 e2
            rcases hfin.out with ⟨h1, h2, h3⟩ | ⟨h1, h2, h3⟩
            · subst h2 h3
              have q1 : ((j : Int) == (F : Int)) = true := beq_iff_eq.2 (by omega)
              clear hfin h1 hd
              go_wp2_with (go_at_call 40; refine (rdigit_at x false (-1) hx1 _).mono ?_; rintro e w1 ⟨rfl, rfl⟩)
              go_ret2
              exact ⟨rfl, Below.refl _ _⟩
            · subst h2
              have q1 : ((j : Int) == (F : Int)) = false := beq_eq_false_iff_ne.2 (by omega)
              rcases h3 with ⟨h4, h5⟩ | ⟨h4, h5⟩
              · obtain ⟨E1, hE1⟩ : ∃ E1, j + 1 = E1 := ⟨_, rfl⟩
                have hwE : wrap64 ((j : Int) + 1) = (E1 : Int) := wrap_ok (by omega) ⟨by have := HS.out; omega⟩
                have hwN : wrap64 ((E1 : Int) - k) = (N : Int) := wrap_ok (by omega) ⟨by have := HS.out; omega⟩
                have hxd : x = d := by rw [← hxb]; exact hd.out
                have q2 : ((x.toNat : Int) == 59) = true := by rw [hxd, h4]; rfl
                clear hfin h1 h4 h5 hxd hE1 hd
                go_wp2_with (first
                  | (go_at_call 40; refine (rdigit_at x false (-1) hx1 _).mono ?_; rintro e w1 ⟨rfl, rfl⟩)
                  | (go_at_call 51; refine (rcode_at acc C hC _).mono ?_; rintro e w1 ⟨rfl, rfl⟩)
                  | (go_at_call 50; refine (rput_at C HCR.out _ hG _).mono ?_; rintro e w2 ⟨rfl, hb2⟩))
                go_ret2
                exact ⟨by first | rfl | (rw [hwN]; done) | (rw [hwN]; rfl), hb2⟩
              · obtain ⟨E1, hE1⟩ : ∃ E1, j + 1 = E1 := ⟨_, rfl⟩
                have hwE : wrap64 ((j : Int) + 1) = (E1 : Int) := wrap_ok (by omega) ⟨by have := HS.out; omega⟩
                have hwN : wrap64 ((j : Int) - k) = (N : Int) := wrap_ok (by omega) ⟨by have := HS.out; omega⟩
                have hxd : x = d := by rw [← hxb]; exact hd.out
                have q2 : ((x.toNat : Int) == 59) = false := u8_ne (k := 59) (by decide) (by rw [hxd]; exact h4)
                clear hfin h1 h4 h5 hxd hE1 hd
                go_wp2_with (first
                  | (go_at_call 40; refine (rdigit_at x false (-1) hx1 _).mono ?_; rintro e w1 ⟨rfl, rfl⟩)
                  | (go_at_call 51; refine (rcode_at acc C hC _).mono ?_; rintro e w1 ⟨rfl, rfl⟩)
                  | (go_at_call 50; refine (rput_at C HCR.out _ hG _).mono ?_; rintro e w2 ⟨rfl, hb2⟩))
                go_ret2
                exact ⟨by first | rfl | (rw [hwN]; done) | (rw [hwN]; rfl), hb2⟩
        · have hjI : (s.size : Int) ≤ j := by omega
          have hjB : decide ((j : Int) < s.size) = false := decide_eq_false (by omega)
          obtain ⟨e1, e2⟩ := rmid_end hr.out (by rw [HZ.out]; omega)
          subst e1 e2
          rcases hfin.out with ⟨h1, h2, h3⟩ | ⟨h1, h2, h3⟩
          · subst h2 h3
            have q1 : ((j : Int) == (F : Int)) = true := beq_iff_eq.2 (by omega)
            clear hfin h1 hd
            go_wp2_with fail
            go_ret2
            exact ⟨rfl, Below.refl _ _⟩
          · subst h2
            have q1 : ((j : Int) == (F : Int)) = false := beq_eq_false_iff_ne.2 (by omega)
            rcases h3 with ⟨h4, h5⟩ | ⟨h4, h5⟩
            · exfalso
              have := hd.out
              rw [bAt_out (by rw [HZ.out]; omega), h4] at this
              cases this
            · have hwN : wrap64 ((j : Int) - k) = (N : Int) := wrap_ok (by omega) ⟨by have := HS.out; omega⟩
              clear hfin h1 h4 h5 hd
              go_wp2_with (first
                | (go_at_call 51; refine (rcode_at acc C hC _).mono ?_; rintro e w1 ⟨rfl, rfl⟩)
                | (go_at_call 50; refine (rput_at C HCR.out _ hG _).mono ?_; rintro e w2 ⟨rfl, hb2⟩))
              go_ret2
              exact ⟨by first | rfl | (rw [hwN]; done) | (rw [hwN]; rfl), hb2⟩
end Go.Proofs.YtdniddiaiinggaaDoor
