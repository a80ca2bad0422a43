/- The document's own Escape. -/
import Derived.Test.YtibagbnnplpfgaaDoorEsM
set_option linter.unusedVariables false
namespace Go.Proofs.YtibagbnnplpfgaaDoor
open Go.RowKit M

set_option maxRecDepth 20000 in
set_option maxHeartbeats 4000000 in
theorem rescape_false (s : ByteArray) (hs : s.size ≤ 6000) (w : World) :
    Calls Tryd.prog 21 #[.string s, .bool false] w fun e w' => e = .returned (.string ⟨(escB false s.data.toList).toArray⟩) ∧ w' = w := by
  have HS := Fact.mk hs
  clear hs
  go_enter Tryd.func21, Tryd.ntmps21
  go_wp2_with fail
  go_loop [5, 6] (fun v i => ∃ (k : Nat) (O : ByteArray), i = .int .i64 k ∧ v = .string O ∧ k ≤ s.size ∧ Fact (EMid false s.data.toList k O.data.toList)) (fun _ i => s.size - (intOf i).toNat)
  case atStart => exact ⟨0, ⟨#[]⟩, rfl, rfl, Nat.zero_le _, ⟨emid_start _ _⟩⟩
  case round =>
    obtain ⟨k, O, rfl, rfl, hk, hm⟩ := hrel
    have HZ : Fact (s.data.toList.length = s.size) := ⟨(Lib.size_eq s).symm⟩
    by_cases hlt : k < s.size
    · have hkI : (k : Int) < s.size := by omega
      have hk0 : (0 : Int) ≤ k := by omega
      obtain ⟨c, hc⟩ : ∃ c, bAt s.data.toList k = c := ⟨_, rfl⟩
      have hcc : s[k] = c := by rw [← byte_at s k hlt]; exact hc
      have hll : k < s.data.toList.length := by rw [HZ.out]; exact hlt
      have hol : O.size ≤ 36000 := by
        have h1 := hm.out.len
        rw [← Lib.size_eq] at h1
        have := HS.out
        omega
      have A9 : Fact (wrap64 ((k : Int) + 1) = ((k + 1 : Nat) : Int)) := ⟨wrap_ok rfl ⟨by have := HS.out; omega⟩⟩
      have hw1 : wrap64 ((k : Int) + 1) = (k : Int) + 1 := wrap_ok (m := k + 1) rfl ⟨by have := HS.out; omega⟩
      by_cases h38 : c = 38
      · have q38 : ((c.toNat : Int) == 38) = true := by rw [h38]; rfl
        obtain ⟨O2, hO2⟩ : ∃ O2 : ByteArray, O ++ (⟨#[38, 97, 109, 112, 59]⟩ : ByteArray) = O2 := ⟨_, rfl⟩
        have radd := fun w => add_at O (⟨#[38, 97, 109, 112, 59]⟩ : ByteArray) O2 hO2 (by have : (⟨#[38, 97, 109, 112, 59]⟩ : ByteArray).size = 5 := rfl; omega) w
        have hm2 : Fact (EMid false s.data.toList (k + 1) O2.data.toList) := ⟨by
          rw [← hO2, app_data]
          exact emid_lit hm.out hll hc (by rw [h38]; decide) (by rw [h38]; rfl)⟩
        clear hm hO2 hol hc hll h38
        go_wp2_with fail
        go_round
        case rel => exact ⟨k + 1, O2, by first | rfl | exact int_eq A9.out, rfl, Nat.succ_le_of_lt hlt, hm2⟩
        case measure => first | exact meas_up hlt | (rw [A9.out]; exact meas_up hlt)
      have q38 : ((c.toNat : Int) == 38) = false := u8_ne (k := 38) (by decide) h38
      by_cases h60 : c = 60
      · have q60 : ((c.toNat : Int) == 60) = true := by rw [h60]; rfl
        obtain ⟨O2, hO2⟩ : ∃ O2 : ByteArray, O ++ (⟨#[38, 108, 116, 59]⟩ : ByteArray) = O2 := ⟨_, rfl⟩
        have radd := fun w => add_at O (⟨#[38, 108, 116, 59]⟩ : ByteArray) O2 hO2 (by have : (⟨#[38, 108, 116, 59]⟩ : ByteArray).size = 4 := rfl; omega) w
        have hm2 : Fact (EMid false s.data.toList (k + 1) O2.data.toList) := ⟨by
          rw [← hO2, app_data]
          exact emid_lit hm.out hll hc (by rw [h60]; decide) (by rw [h60]; rfl)⟩
        have q194 : ((c.toNat : Int) == 194) = false := by rw [h60]; rfl
        clear hm hO2 hol hc hll h60
        go_wp2_with fail
        go_round
        case rel => exact ⟨k + 1, O2, by first | rfl | exact int_eq A9.out, rfl, Nat.succ_le_of_lt hlt, hm2⟩
        case measure => first | exact meas_up hlt | (rw [A9.out]; exact meas_up hlt)
      have q60 : ((c.toNat : Int) == 60) = false := u8_ne (k := 60) (by decide) h60
      by_cases h62 : c = 62
      · have q62 : ((c.toNat : Int) == 62) = true := by rw [h62]; rfl
        obtain ⟨O2, hO2⟩ : ∃ O2 : ByteArray, O ++ (⟨#[38, 103, 116, 59]⟩ : ByteArray) = O2 := ⟨_, rfl⟩
        have radd := fun w => add_at O (⟨#[38, 103, 116, 59]⟩ : ByteArray) O2 hO2 (by have : (⟨#[38, 103, 116, 59]⟩ : ByteArray).size = 4 := rfl; omega) w
        have hm2 : Fact (EMid false s.data.toList (k + 1) O2.data.toList) := ⟨by
          rw [← hO2, app_data]
          exact emid_lit hm.out hll hc (by rw [h62]; decide) (by rw [h62]; rfl)⟩
        have q194 : ((c.toNat : Int) == 194) = false := by rw [h62]; rfl
        clear hm hO2 hol hc hll h62
        go_wp2_with fail
        go_round
        case rel => exact ⟨k + 1, O2, by first | rfl | exact int_eq A9.out, rfl, Nat.succ_le_of_lt hlt, hm2⟩
        case measure => first | exact meas_up hlt | (rw [A9.out]; exact meas_up hlt)
      have q62 : ((c.toNat : Int) == 62) = false := u8_ne (k := 62) (by decide) h62
      have h1I : (k : Int) + 1 ≤ s.size := by omega
      have h2I : (k : Int) ≤ (k : Int) + 1 := by omega
      have h3I : (0 : Int) ≤ (k : Int) + 1 := by omega
      have h4I : ((k : Int) + 1).toNat = k + 1 := by omega
      by_cases h194 : c = 194
      · have q194 : ((c.toNat : Int) == 194) = true := by rw [h194]; rfl
        have q34 : ((c.toNat : Int) == 34) = false := by rw [h194]; rfl
        have h34 : c ≠ 34 := by rw [h194]; decide
        by_cases hlt2 : k + 1 < s.size
        · have h5I : (k : Int) + 1 < s.size := by omega
          have h5B : decide ((k : Int) + 1 < s.size) = true := decide_eq_true h5I
          obtain ⟨d, hd⟩ : ∃ d, bAt s.data.toList (k + 1) = d := ⟨_, rfl⟩
          have hdd : s[k + 1] = d := by rw [← byte_at s (k + 1) hlt2]; exact hd
          by_cases h160 : d = 160
          · have q160 : ((d.toNat : Int) == 160) = true := by rw [h160]; rfl
            obtain ⟨O2, hO2⟩ : ∃ O2 : ByteArray, O ++ (⟨#[38, 110, 98, 115, 112, 59]⟩ : ByteArray) = O2 := ⟨_, rfl⟩
            have radd := fun w => add_at O (⟨#[38, 110, 98, 115, 112, 59]⟩ : ByteArray) O2 hO2 (by have : (⟨#[38, 110, 98, 115, 112, 59]⟩ : ByteArray).size = 6 := rfl; omega) w
            have hm2 : Fact (EMid false s.data.toList (k + 2) O2.data.toList) := ⟨by
              rw [← hO2, app_data]
              exact emid_sp hm.out (by rw [HZ.out]; exact hlt2) (by rw [hc]; exact h194) (by rw [hd]; exact h160)⟩
            have A8 : Fact (wrap64 ((k : Int) + 1 + 1) = ((k + 2 : Nat) : Int)) := ⟨wrap_ok (by omega) ⟨by have := HS.out; omega⟩⟩
            clear hm hO2 hol hc hll h194 h160 hd h34 h38 h60 h62
            go_wp2_with fail
            go_round
            case rel => exact ⟨k + 2, O2, by first | rfl | exact int_eq A8.out, rfl, hlt2, hm2⟩
            case measure => first | exact meas_to hlt (show k < k + 2 from Nat.lt_add_of_pos_right (by decide)) | (rw [A8.out]; exact meas_to hlt (show k < k + 2 from Nat.lt_add_of_pos_right (by decide)))
          · have q160 : ((d.toNat : Int) == 160) = false := u8_ne (k := 160) (by decide) h160
            obtain ⟨S1, hS1⟩ : ∃ S1 : ByteArray, s.extract k (k + 1) = S1 := ⟨_, rfl⟩
            have hSd : S1.data.toList = [c] := by rw [← hS1, ← hc]; exact one_byte s k hlt
            have hSz : S1.size = 1 := by rw [Lib.size_eq, hSd]; rfl
            obtain ⟨O2, hO2⟩ : ∃ O2 : ByteArray, O ++ S1 = O2 := ⟨_, rfl⟩
            have radd := fun w => add_at O S1 O2 hO2 (by omega) w
            have hm2 : Fact (EMid false s.data.toList (k + 1) O2.data.toList) := ⟨by
              rw [← hO2, app_data, hSd]
              exact emid_one hm.out hll (fun h2 => h160 (by rw [← hd]; exact h2.2.2)) (by rw [hc]; unfold sgn; rw [if_neg h38, if_neg h60, if_neg h62, if_neg (by simp)])⟩
            clear hm hO2 hol hc hll h194 h160 hd h34 h38 h60 h62 hSd hSz
            go_wp2_with fail
            go_round
            case rel => exact ⟨k + 1, O2, by first | rfl | exact int_eq A9.out, rfl, Nat.succ_le_of_lt hlt, hm2⟩
            case measure => first | exact meas_up hlt | (rw [A9.out]; exact meas_up hlt)
        · have h5I : (s.size : Int) ≤ (k : Int) + 1 := by omega
          have h5B : decide ((k : Int) + 1 < s.size) = false := decide_eq_false (by omega)
          obtain ⟨S1, hS1⟩ : ∃ S1 : ByteArray, s.extract k (k + 1) = S1 := ⟨_, rfl⟩
          have hSd : S1.data.toList = [c] := by rw [← hS1, ← hc]; exact one_byte s k hlt
          have hSz : S1.size = 1 := by rw [Lib.size_eq, hSd]; rfl
          obtain ⟨O2, hO2⟩ : ∃ O2 : ByteArray, O ++ S1 = O2 := ⟨_, rfl⟩
          have radd := fun w => add_at O S1 O2 hO2 (by omega) w
          have hm2 : Fact (EMid false s.data.toList (k + 1) O2.data.toList) := ⟨by
            rw [← hO2, app_data, hSd]
            exact emid_one hm.out hll (fun h2 => hlt2 (by rw [← HZ.out]; exact h2.2.1)) (by rw [hc]; unfold sgn; rw [if_neg h38, if_neg h60, if_neg h62, if_neg (by simp)])⟩
          clear hm hO2 hol hc hll h194 h34 h38 h60 h62 hSd hSz hlt2
          go_wp2_with fail
          go_round
          case rel => exact ⟨k + 1, O2, by first | rfl | exact int_eq A9.out, rfl, Nat.succ_le_of_lt hlt, hm2⟩
          case measure => first | exact meas_up hlt | (rw [A9.out]; exact meas_up hlt)
      have q194 : ((c.toNat : Int) == 194) = false := u8_ne (k := 194) (by decide) h194
      by_cases h34 : c = 34
      · have q34 : ((c.toNat : Int) == 34) = true := by rw [h34]; rfl
        obtain ⟨S1, hS1⟩ : ∃ S1 : ByteArray, s.extract k (k + 1) = S1 := ⟨_, rfl⟩
        have hSd : S1.data.toList = [c] := by rw [← hS1, ← hc]; exact one_byte s k hlt
        have hSz : S1.size = 1 := by rw [Lib.size_eq, hSd]; rfl
        obtain ⟨O2, hO2⟩ : ∃ O2 : ByteArray, O ++ S1 = O2 := ⟨_, rfl⟩
        have radd := fun w => add_at O S1 O2 hO2 (by omega) w
        have hm2 : Fact (EMid false s.data.toList (k + 1) O2.data.toList) := ⟨by
          rw [← hO2, app_data, hSd]
          exact emid_one hm.out hll (fun h2 => h194 (by rw [← hc]; exact h2.1)) (by rw [hc]; unfold sgn; rw [if_neg h38, if_neg h60, if_neg h62, if_neg (by simp)])⟩
        clear hm hO2 hol hc hll h194 h34 h38 h60 h62 hSd hSz
        go_wp2_with fail
        go_round
        case rel => exact ⟨k + 1, O2, by first | rfl | exact int_eq A9.out, rfl, Nat.succ_le_of_lt hlt, hm2⟩
        case measure => first | exact meas_up hlt | (rw [A9.out]; exact meas_up hlt)
      have q34 : ((c.toNat : Int) == 34) = false := u8_ne (k := 34) (by decide) h34
      obtain ⟨S1, hS1⟩ : ∃ S1 : ByteArray, s.extract k (k + 1) = S1 := ⟨_, rfl⟩
      have hSd : S1.data.toList = [c] := by rw [← hS1, ← hc]; exact one_byte s k hlt
      have hSz : S1.size = 1 := by rw [Lib.size_eq, hSd]; rfl
      obtain ⟨O2, hO2⟩ : ∃ O2 : ByteArray, O ++ S1 = O2 := ⟨_, rfl⟩
      have radd := fun w => add_at O S1 O2 hO2 (by omega) w
      have hm2 : Fact (EMid false s.data.toList (k + 1) O2.data.toList) := ⟨by
        rw [← hO2, app_data, hSd]
        exact emid_one hm.out hll (fun h2 => h194 (by rw [← hc]; exact h2.1)) (by rw [hc]; unfold sgn; rw [if_neg h38, if_neg h60, if_neg h62, if_neg (by simp)])⟩
      clear hm hO2 hol hc hll h194 h34 h38 h60 h62 hSd hSz
      go_wp2_with fail
      go_round
      case rel => exact ⟨k + 1, O2, by first | rfl | exact int_eq A9.out, rfl, Nat.succ_le_of_lt hlt, hm2⟩
      case measure => first | exact meas_up hlt | (rw [A9.out]; exact meas_up hlt)
    · have hkI : (s.size : Int) ≤ k := by omega
      have hkB : decide ((k : Int) < s.size) = false := decide_eq_false (by omega)
      have e := emid_end hm.out (by rw [HZ.out]; omega)
      have e2 : Fact (O = ⟨(escB false s.data.toList).toArray⟩) := ⟨(ba_eq e.symm).symm⟩
      clear e hm
      go_wp2_with fail
      go_ret
      exact ⟨by rw [← e2.out]; rfl, rfl⟩
set_option maxRecDepth 20000 in
set_option maxHeartbeats 4000000 in
theorem rescape_true (s : ByteArray) (hs : s.size ≤ 6000) (w : World) :
    Calls Tryd.prog 21 #[.string s, .bool true] w fun e w' => e = .returned (.string ⟨(escB true s.data.toList).toArray⟩) ∧ w' = w := by
  have HS := Fact.mk hs
  clear hs
  go_enter Tryd.func21, Tryd.ntmps21
  go_wp2_with fail
  go_loop [5, 6] (fun v i => ∃ (k : Nat) (O : ByteArray), i = .int .i64 k ∧ v = .string O ∧ k ≤ s.size ∧ Fact (EMid true s.data.toList k O.data.toList)) (fun _ i => s.size - (intOf i).toNat)
  case atStart => exact ⟨0, ⟨#[]⟩, rfl, rfl, Nat.zero_le _, ⟨emid_start _ _⟩⟩
  case round =>
    obtain ⟨k, O, rfl, rfl, hk, hm⟩ := hrel
    have HZ : Fact (s.data.toList.length = s.size) := ⟨(Lib.size_eq s).symm⟩
    by_cases hlt : k < s.size
    · have hkI : (k : Int) < s.size := by omega
      have hk0 : (0 : Int) ≤ k := by omega
      obtain ⟨c, hc⟩ : ∃ c, bAt s.data.toList k = c := ⟨_, rfl⟩
      have hcc : s[k] = c := by rw [← byte_at s k hlt]; exact hc
      have hll : k < s.data.toList.length := by rw [HZ.out]; exact hlt
      have hol : O.size ≤ 36000 := by
        have h1 := hm.out.len
        rw [← Lib.size_eq] at h1
        have := HS.out
        omega
      have A9 : Fact (wrap64 ((k : Int) + 1) = ((k + 1 : Nat) : Int)) := ⟨wrap_ok rfl ⟨by have := HS.out; omega⟩⟩
      have hw1 : wrap64 ((k : Int) + 1) = (k : Int) + 1 := wrap_ok (m := k + 1) rfl ⟨by have := HS.out; omega⟩
      by_cases h38 : c = 38
      · have q38 : ((c.toNat : Int) == 38) = true := by rw [h38]; rfl
        obtain ⟨O2, hO2⟩ : ∃ O2 : ByteArray, O ++ (⟨#[38, 97, 109, 112, 59]⟩ : ByteArray) = O2 := ⟨_, rfl⟩
        have radd := fun w => add_at O (⟨#[38, 97, 109, 112, 59]⟩ : ByteArray) O2 hO2 (by have : (⟨#[38, 97, 109, 112, 59]⟩ : ByteArray).size = 5 := rfl; omega) w
        have hm2 : Fact (EMid true s.data.toList (k + 1) O2.data.toList) := ⟨by
          rw [← hO2, app_data]
          exact emid_lit hm.out hll hc (by rw [h38]; decide) (by rw [h38]; rfl)⟩
        clear hm hO2 hol hc hll h38
        go_wp2_with fail
        go_round
        case rel => exact ⟨k + 1, O2, by first | rfl | exact int_eq A9.out, rfl, Nat.succ_le_of_lt hlt, hm2⟩
        case measure => first | exact meas_up hlt | (rw [A9.out]; exact meas_up hlt)
      have q38 : ((c.toNat : Int) == 38) = false := u8_ne (k := 38) (by decide) h38
      by_cases h60 : c = 60
      · have q60 : ((c.toNat : Int) == 60) = true := by rw [h60]; rfl
        obtain ⟨O2, hO2⟩ : ∃ O2 : ByteArray, O ++ (⟨#[38, 108, 116, 59]⟩ : ByteArray) = O2 := ⟨_, rfl⟩
        have radd := fun w => add_at O (⟨#[38, 108, 116, 59]⟩ : ByteArray) O2 hO2 (by have : (⟨#[38, 108, 116, 59]⟩ : ByteArray).size = 4 := rfl; omega) w
        have hm2 : Fact (EMid true s.data.toList (k + 1) O2.data.toList) := ⟨by
          rw [← hO2, app_data]
          exact emid_lit hm.out hll hc (by rw [h60]; decide) (by rw [h60]; rfl)⟩
        have q194 : ((c.toNat : Int) == 194) = false := by rw [h60]; rfl
        clear hm hO2 hol hc hll h60
        go_wp2_with fail
        go_round
        case rel => exact ⟨k + 1, O2, by first | rfl | exact int_eq A9.out, rfl, Nat.succ_le_of_lt hlt, hm2⟩
        case measure => first | exact meas_up hlt | (rw [A9.out]; exact meas_up hlt)
      have q60 : ((c.toNat : Int) == 60) = false := u8_ne (k := 60) (by decide) h60
      by_cases h62 : c = 62
      · have q62 : ((c.toNat : Int) == 62) = true := by rw [h62]; rfl
        obtain ⟨O2, hO2⟩ : ∃ O2 : ByteArray, O ++ (⟨#[38, 103, 116, 59]⟩ : ByteArray) = O2 := ⟨_, rfl⟩
        have radd := fun w => add_at O (⟨#[38, 103, 116, 59]⟩ : ByteArray) O2 hO2 (by have : (⟨#[38, 103, 116, 59]⟩ : ByteArray).size = 4 := rfl; omega) w
        have hm2 : Fact (EMid true s.data.toList (k + 1) O2.data.toList) := ⟨by
          rw [← hO2, app_data]
          exact emid_lit hm.out hll hc (by rw [h62]; decide) (by rw [h62]; rfl)⟩
        have q194 : ((c.toNat : Int) == 194) = false := by rw [h62]; rfl
        clear hm hO2 hol hc hll h62
        go_wp2_with fail
        go_round
        case rel => exact ⟨k + 1, O2, by first | rfl | exact int_eq A9.out, rfl, Nat.succ_le_of_lt hlt, hm2⟩
        case measure => first | exact meas_up hlt | (rw [A9.out]; exact meas_up hlt)
      have q62 : ((c.toNat : Int) == 62) = false := u8_ne (k := 62) (by decide) h62
      have h1I : (k : Int) + 1 ≤ s.size := by omega
      have h2I : (k : Int) ≤ (k : Int) + 1 := by omega
      have h3I : (0 : Int) ≤ (k : Int) + 1 := by omega
      have h4I : ((k : Int) + 1).toNat = k + 1 := by omega
      by_cases h194 : c = 194
      · have q194 : ((c.toNat : Int) == 194) = true := by rw [h194]; rfl
        have q34 : ((c.toNat : Int) == 34) = false := by rw [h194]; rfl
        have h34 : c ≠ 34 := by rw [h194]; decide
        by_cases hlt2 : k + 1 < s.size
        · have h5I : (k : Int) + 1 < s.size := by omega
          have h5B : decide ((k : Int) + 1 < s.size) = true := decide_eq_true h5I
          obtain ⟨d, hd⟩ : ∃ d, bAt s.data.toList (k + 1) = d := ⟨_, rfl⟩
          have hdd : s[k + 1] = d := by rw [← byte_at s (k + 1) hlt2]; exact hd
          by_cases h160 : d = 160
          · have q160 : ((d.toNat : Int) == 160) = true := by rw [h160]; rfl
            obtain ⟨O2, hO2⟩ : ∃ O2 : ByteArray, O ++ (⟨#[38, 110, 98, 115, 112, 59]⟩ : ByteArray) = O2 := ⟨_, rfl⟩
            have radd := fun w => add_at O (⟨#[38, 110, 98, 115, 112, 59]⟩ : ByteArray) O2 hO2 (by have : (⟨#[38, 110, 98, 115, 112, 59]⟩ : ByteArray).size = 6 := rfl; omega) w
            have hm2 : Fact (EMid true s.data.toList (k + 2) O2.data.toList) := ⟨by
              rw [← hO2, app_data]
              exact emid_sp hm.out (by rw [HZ.out]; exact hlt2) (by rw [hc]; exact h194) (by rw [hd]; exact h160)⟩
            have A8 : Fact (wrap64 ((k : Int) + 1 + 1) = ((k + 2 : Nat) : Int)) := ⟨wrap_ok (by omega) ⟨by have := HS.out; omega⟩⟩
            clear hm hO2 hol hc hll h194 h160 hd h34 h38 h60 h62
            go_wp2_with fail
            go_round
            case rel => exact ⟨k + 2, O2, by first | rfl | exact int_eq A8.out, rfl, hlt2, hm2⟩
            case measure => first | exact meas_to hlt (show k < k + 2 from Nat.lt_add_of_pos_right (by decide)) | (rw [A8.out]; exact meas_to hlt (show k < k + 2 from Nat.lt_add_of_pos_right (by decide)))
          · have q160 : ((d.toNat : Int) == 160) = false := u8_ne (k := 160) (by decide) h160
            obtain ⟨S1, hS1⟩ : ∃ S1 : ByteArray, s.extract k (k + 1) = S1 := ⟨_, rfl⟩
            have hSd : S1.data.toList = [c] := by rw [← hS1, ← hc]; exact one_byte s k hlt
            have hSz : S1.size = 1 := by rw [Lib.size_eq, hSd]; rfl
            obtain ⟨O2, hO2⟩ : ∃ O2 : ByteArray, O ++ S1 = O2 := ⟨_, rfl⟩
            have radd := fun w => add_at O S1 O2 hO2 (by omega) w
            have hm2 : Fact (EMid true s.data.toList (k + 1) O2.data.toList) := ⟨by
              rw [← hO2, app_data, hSd]
              exact emid_one hm.out hll (fun h2 => h160 (by rw [← hd]; exact h2.2.2)) (by rw [hc]; unfold sgn; rw [if_neg h38, if_neg h60, if_neg h62, if_neg (by simp [h34])])⟩
            clear hm hO2 hol hc hll h194 h160 hd h34 h38 h60 h62 hSd hSz
            go_wp2_with fail
            go_round
            case rel => exact ⟨k + 1, O2, by first | rfl | exact int_eq A9.out, rfl, Nat.succ_le_of_lt hlt, hm2⟩
            case measure => first | exact meas_up hlt | (rw [A9.out]; exact meas_up hlt)
        · have h5I : (s.size : Int) ≤ (k : Int) + 1 := by omega
          have h5B : decide ((k : Int) + 1 < s.size) = false := decide_eq_false (by omega)
          obtain ⟨S1, hS1⟩ : ∃ S1 : ByteArray, s.extract k (k + 1) = S1 := ⟨_, rfl⟩
          have hSd : S1.data.toList = [c] := by rw [← hS1, ← hc]; exact one_byte s k hlt
          have hSz : S1.size = 1 := by rw [Lib.size_eq, hSd]; rfl
          obtain ⟨O2, hO2⟩ : ∃ O2 : ByteArray, O ++ S1 = O2 := ⟨_, rfl⟩
          have radd := fun w => add_at O S1 O2 hO2 (by omega) w
          have hm2 : Fact (EMid true s.data.toList (k + 1) O2.data.toList) := ⟨by
            rw [← hO2, app_data, hSd]
            exact emid_one hm.out hll (fun h2 => hlt2 (by rw [← HZ.out]; exact h2.2.1)) (by rw [hc]; unfold sgn; rw [if_neg h38, if_neg h60, if_neg h62, if_neg (by simp [h34])])⟩
          clear hm hO2 hol hc hll h194 h34 h38 h60 h62 hSd hSz hlt2
          go_wp2_with fail
          go_round
          case rel => exact ⟨k + 1, O2, by first | rfl | exact int_eq A9.out, rfl, Nat.succ_le_of_lt hlt, hm2⟩
          case measure => first | exact meas_up hlt | (rw [A9.out]; exact meas_up hlt)
      have q194 : ((c.toNat : Int) == 194) = false := u8_ne (k := 194) (by decide) h194
      by_cases h34 : c = 34
      · have q34 : ((c.toNat : Int) == 34) = true := by rw [h34]; rfl
        obtain ⟨O2, hO2⟩ : ∃ O2 : ByteArray, O ++ (⟨#[38, 113, 117, 111, 116, 59]⟩ : ByteArray) = O2 := ⟨_, rfl⟩
        have radd := fun w => add_at O (⟨#[38, 113, 117, 111, 116, 59]⟩ : ByteArray) O2 hO2 (by have : (⟨#[38, 113, 117, 111, 116, 59]⟩ : ByteArray).size = 6 := rfl; omega) w
        have hm2 : Fact (EMid true s.data.toList (k + 1) O2.data.toList) := ⟨by
          rw [← hO2, app_data]
          exact emid_lit hm.out hll hc (by rw [h34]; decide) (by rw [h34]; rfl)⟩
        clear hm hO2 hol hc hll h34 h194 h38 h60 h62
        go_wp2_with fail
        go_round
        case rel => exact ⟨k + 1, O2, by first | rfl | exact int_eq A9.out, rfl, Nat.succ_le_of_lt hlt, hm2⟩
        case measure => first | exact meas_up hlt | (rw [A9.out]; exact meas_up hlt)
      have q34 : ((c.toNat : Int) == 34) = false := u8_ne (k := 34) (by decide) h34
      obtain ⟨S1, hS1⟩ : ∃ S1 : ByteArray, s.extract k (k + 1) = S1 := ⟨_, rfl⟩
      have hSd : S1.data.toList = [c] := by rw [← hS1, ← hc]; exact one_byte s k hlt
      have hSz : S1.size = 1 := by rw [Lib.size_eq, hSd]; rfl
      obtain ⟨O2, hO2⟩ : ∃ O2 : ByteArray, O ++ S1 = O2 := ⟨_, rfl⟩
      have radd := fun w => add_at O S1 O2 hO2 (by omega) w
      have hm2 : Fact (EMid true s.data.toList (k + 1) O2.data.toList) := ⟨by
        rw [← hO2, app_data, hSd]
        exact emid_one hm.out hll (fun h2 => h194 (by rw [← hc]; exact h2.1)) (by rw [hc]; unfold sgn; rw [if_neg h38, if_neg h60, if_neg h62, if_neg (by simp [h34])])⟩
      clear hm hO2 hol hc hll h194 h34 h38 h60 h62 hSd hSz
      go_wp2_with fail
      go_round
      case rel => exact ⟨k + 1, O2, by first | rfl | exact int_eq A9.out, rfl, Nat.succ_le_of_lt hlt, hm2⟩
      case measure => first | exact meas_up hlt | (rw [A9.out]; exact meas_up hlt)
    · have hkI : (s.size : Int) ≤ k := by omega
      have hkB : decide ((k : Int) < s.size) = false := decide_eq_false (by omega)
      have e := emid_end hm.out (by rw [HZ.out]; omega)
      have e2 : Fact (O = ⟨(escB true s.data.toList).toArray⟩) := ⟨(ba_eq e.symm).symm⟩
      clear e hm
      go_wp2_with fail
      go_ret
      exact ⟨by rw [← e2.out]; rfl, rfl⟩
end Go.Proofs.YtibagbnnplpfgaaDoor
