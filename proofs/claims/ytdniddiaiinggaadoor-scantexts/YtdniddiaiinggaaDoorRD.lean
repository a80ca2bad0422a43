/- The document's own Decode and Escape. -/
import Derived.Test.YtdniddiaiinggaaDoorRR
import Derived.Test.YtdniddiaiinggaaDoorTQ
set_option linter.unusedVariables false
namespace Go.Proofs.YtdniddiaiinggaaDoor
open Go.RowKit M

set_option maxRecDepth 20000 in
set_option maxHeartbeats 4000000 in
theorem rdecode_any (s : ByteArray) (attr : Bool) (hs : s.size ≤ 4000) (w : World) :
    Calls Tryd.prog 16 #[.string s, .bool attr] w fun e w' => e = .returned (.string ⟨(decB attr s.data.toList).toArray⟩) ∧ Below w.heap.size w w' := by
  have HS := Fact.mk hs
  have hsm : IsSm s.size := ⟨by omega⟩
  clear hs
  go_enter Tryd.func16, Tryd.ntmps16
  go_wp2_with fail
  go_loopw [5, 6] (fun v i wx => ∃ (k : Nat) (O : ByteArray), i = .int .i64 k ∧ v = .string O ∧ k ≤ s.size ∧ Below w.heap.size w wx ∧ Fact (DMid attr s.data.toList k O.data.toList)) (fun _ i _ => s.size - (intOf i).toNat)
  case atStart => exact ⟨0, ⟨#[]⟩, rfl, rfl, Nat.zero_le _, Below.refl _ _, ⟨dmid_start _ _⟩⟩
  case round =>
    obtain ⟨k, O, rfl, rfl, hk, hb, hm⟩ := hrel
    have HZ : Fact (s.data.toList.length = s.size) := ⟨(Lib.size_eq s).symm⟩
    by_cases hlt : k < s.size
    · have hkI : (k : Int) < s.size := by omega
      have hk0 : (0 : Int) ≤ k := by omega
      obtain ⟨c, hc⟩ : ∃ c, bAt s.data.toList k = c := ⟨_, rfl⟩
      have hcc : s[k] = c := by rw [← byte_at s k hlt]; exact hc
      have hol : O.size ≤ 32000 := by
        have h1 := hm.out.len
        rw [← Lib.size_eq] at h1
        have := HS.out
        omega
      by_cases h38 : c = 38
      · obtain ⟨T, N, hT⟩ : ∃ (T : ByteArray) (N : Nat), Fact (refT (s.data.toList.drop k) attr = (T.data.toList, N)) := ⟨⟨(refT (s.data.toList.drop k) attr).1.toArray⟩, _, ⟨rfl⟩⟩
        have hN1 : N ≠ 0 := by
          have h1 := refT_pos (t := s.data.toList.drop k) (attr := attr) (by rw [bAt_drop, Nat.add_zero, hc]; exact h38)
          rw [hT.out] at h1
          simp only at h1
          omega
        have hNle : k + N ≤ s.size := by
          have := refT_le (s.data.toList.drop k) attr
          rw [hT.out, List.length_drop, HZ.out] at this
          simp only at this
          omega
        have hTs : T.size ≤ 8 := by
          have := refT_txt (s.data.toList.drop k) attr
          rw [hT.out] at this
          rw [Lib.size_eq]
          exact this
        obtain ⟨O2, hO2⟩ : ∃ O2 : ByteArray, O ++ T = O2 := ⟨_, rfl⟩
        have radd := fun w => add_at O T O2 hO2 (by omega) w
        obtain ⟨k1, hk1⟩ : ∃ k1, k + N = k1 := ⟨_, rfl⟩
        have A9 : Fact (wrap64 ((k : Int) + N) = (k1 : Int)) := ⟨wrap_ok (by omega) ⟨by have := HS.out; omega⟩⟩
        have A8 : Fact ((k : Int) + N = (k1 : Int)) := ⟨by omega⟩
        have hm2 : Fact (DMid attr s.data.toList k1 O2.data.toList) := ⟨by rw [← hO2, data_app, ← hk1]; exact dmid_ref hm.out hT.out hN1⟩
        have hk1l : k1 ≤ s.size := by omega
        have HKK : Fact (k < k1) := ⟨by omega⟩
        subst h38
        clear hm hO2 hTs hol hN1 hNle hk1 hc
        go_wp2_with (go_at_call 28; refine (rref_in s T k N attr hsm hlt hT _).mono ?_; rintro e w1 ⟨rfl, hb1⟩; have hbb := hb.trans (hb1.mono hb.size))
        go_roundw
        case rel => exact ⟨k1, O2, by first | rfl | exact int_eq A9.out | exact int_eq A8.out, rfl, hk1l, hbb, hm2⟩
        case measure => first | exact meas_to hlt HKK.out | (rw [A9.out]; exact meas_to hlt HKK.out) | (rw [A8.out]; exact meas_to hlt HKK.out)
      · have q1 : ((c.toNat : Int) == 38) = false := u8_ne (k := 38) (by decide) h38
        have hw1 : wrap64 ((k : Int) + 1) = (k : Int) + 1 := wrap_ok (m := k + 1) rfl ⟨by have := HS.out; omega⟩
        have h1I : (k : Int) + 1 ≤ s.size := by omega
        have h2I : (k : Int) ≤ (k : Int) + 1 := by omega
        have h3I : (0 : Int) ≤ (k : Int) + 1 := by omega
        have h4I : ((k : Int) + 1).toNat = k + 1 := by omega
        obtain ⟨S1, hS1⟩ : ∃ S1 : ByteArray, s.extract k (k + 1) = S1 := ⟨_, rfl⟩
        have hSd : S1.data.toList = [bAt s.data.toList k] := by rw [← hS1]; exact one_byte s k hlt
        have hSz : S1.size ≤ 8 := by rw [Lib.size_eq, hSd]; simp
        obtain ⟨O2, hO2⟩ : ∃ O2 : ByteArray, O ++ S1 = O2 := ⟨_, rfl⟩
        have radd := fun w => add_at O S1 O2 hO2 (by omega) w
        have hm2 : Fact (DMid attr s.data.toList (k + 1) O2.data.toList) := ⟨by
          rw [← hO2, data_app, hSd]
          refine dmid_plain hm.out (by rw [HZ.out]; exact hlt) ?_
          rw [refT_none (by rw [bAt_drop, Nat.add_zero, hc]; exact h38)]⟩
        have A9 : Fact (wrap64 ((k : Int) + 1) = ((k + 1 : Nat) : Int)) := ⟨wrap_ok rfl ⟨by have := HS.out; omega⟩⟩
        clear hm hO2 hol hSd hSz hc h38
        go_wp2_with fail
        go_roundw
        case rel => exact ⟨k + 1, O2, by first | rfl | exact int_eq A9.out, rfl, Nat.succ_le_of_lt hlt, hb, hm2⟩
        case measure => first | exact meas_up hlt | (rw [A9.out]; exact meas_up hlt)
    · have hkI : (s.size : Int) ≤ k := by omega
      have hkB : decide ((k : Int) < s.size) = false := decide_eq_false (by omega)
      have e := dmid_end hm.out (by rw [HZ.out]; omega)
      have e2 : Fact (O = ⟨(decB attr s.data.toList).toArray⟩) := ⟨(ba_eq e.symm).symm⟩
      clear e hm
      go_wp2_with fail
      go_ret
      exact ⟨by rw [← e2.out]; rfl, hb⟩

end Go.Proofs.YtdniddiaiinggaaDoor
