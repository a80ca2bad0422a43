/- SerialJoins, walked: put together again nothing turns. -/
import Derived.Test.YtibagbnnplpfgaaDoorEsM
import Derived.Test.YtibagbnnplpfgaaDoorSrM
import Derived.Test.YtibagbnnplpfgaaDoorSmall
import Derived.Test.YtibagbnnplpfgaaDoorCmpA
import Derived.Test.YtibagbnnplpfgaaDoorSm
import Derived.Test.YtibagbnnplpfgaaDoorNext
import Derived.Test.YtibagbnnplpfgaaDoorTag
import Derived.Test.YtibagbnnplpfgaaDoorRefS
import Derived.Test.YtibagbnnplpfgaaDoorJnAll
/- The document's own Escape. -/
section
set_option linter.unusedVariables false
namespace Go.Proofs.YtibagbnnplpfgaaDoor
open Go.RowKit M

set_option maxRecDepth 20000 in
set_option maxHeartbeats 4000000 in
theorem rescape_false (s : ByteArray) (hs : s.size ≤ 6000) (w : World) :
    Calls Tryd.prog 21 #[.string s, .bool false] w fun e w' => e = .returned (.string ⟨(escB false s.data.toList).toArray⟩) ∧ w' = w := by
  have HS := Fact.mk hs
  clear hs
  go_enter Tryd.func21, Tryd.ntmps21
  go_wp2_with fail
  go_loop [5, 6] (fun v i => ∃ (k : Nat) (O : ByteArray), i = .int .i64 k ∧ v = .string O ∧ k ≤ s.size ∧ Fact (EMid false s.data.toList k O.data.toList)) (fun _ i => s.size - (intOf i).toNat)
  case atStart => exact ⟨0, ⟨#[]⟩, rfl, rfl, Nat.zero_le _, ⟨emid_start _ _⟩⟩
  case round =>
    obtain ⟨k, O, rfl, rfl, hk, hm⟩ := hrel
    have HZ : Fact (s.data.toList.length = s.size) := ⟨(Lib.size_eq s).symm⟩
    by_cases hlt : k < s.size
    · have hkI : (k : Int) < s.size := by omega
      have hk0 : (0 : Int) ≤ k := by omega
      obtain ⟨c, hc⟩ : ∃ c, bAt s.data.toList k = c := ⟨_, rfl⟩
      have hcc : s[k] = c := by rw [← byte_at s k hlt]; exact hc
      have hll : k < s.data.toList.length := by rw [HZ.out]; exact hlt
      have hol : O.size ≤ 36000 := by
        have h1 := hm.out.len
        rw [← Lib.size_eq] at h1
        have := HS.out
        omega
      have A9 : Fact (wrap64 ((k : Int) + 1) = ((k + 1 : Nat) : Int)) := ⟨wrap_ok rfl ⟨by have := HS.out; omega⟩⟩
      have hw1 : wrap64 ((k : Int) + 1) = (k : Int) + 1 := wrap_ok (m := k + 1) rfl ⟨by have := HS.out; omega⟩
      by_cases h38 : c = 38
      · have q38 : ((c.toNat : Int) == 38) = true := by rw [h38]; rfl
        obtain ⟨O2, hO2⟩ : ∃ O2 : ByteArray, O ++ (⟨#[38, 97, 109, 112, 59]⟩ : ByteArray) = O2 := ⟨_, rfl⟩
        have radd := fun w => add_at O (⟨#[38, 97, 109, 112, 59]⟩ : ByteArray) O2 hO2 (by have : (⟨#[38, 97, 109, 112, 59]⟩ : ByteArray).size = 5 := rfl; omega) w
        have hm2 : Fact (EMid false s.data.toList (k + 1) O2.data.toList) := ⟨by
          rw [← hO2, app_data]
          exact emid_lit hm.out hll hc (by rw [h38]; decide) (by rw [h38]; rfl)⟩
        clear hm hO2 hol hc hll h38
        go_wp2_with fail
        go_round
        case rel => exact ⟨k + 1, O2, by first | rfl | exact int_eq A9.out, rfl, Nat.succ_le_of_lt hlt, hm2⟩
        case measure => first | exact meas_up hlt | (rw [A9.out]; exact meas_up hlt)
      have q38 : ((c.toNat : Int) == 38) = false := u8_ne (k := 38) (by decide) h38
      by_cases h60 : c = 60
      · have q60 : ((c.toNat : Int) == 60) = true := by rw [h60]; rfl
        obtain ⟨O2, hO2⟩ : ∃ O2 : ByteArray, O ++ (⟨#[38, 108, 116, 59]⟩ : ByteArray) = O2 := ⟨_, rfl⟩
        have radd := fun w => add_at O (⟨#[38, 108, 116, 59]⟩ : ByteArray) O2 hO2 (by have : (⟨#[38, 108, 116, 59]⟩ : ByteArray).size = 4 := rfl; omega) w
        have hm2 : Fact (EMid false s.data.toList (k + 1) O2.data.toList) := ⟨by
          rw [← hO2, app_data]
          exact emid_lit hm.out hll hc (by rw [h60]; decide) (by rw [h60]; rfl)⟩
        have q194 : ((c.toNat : Int) == 194) = false := by rw [h60]; rfl
        clear hm hO2 hol hc hll h60
        go_wp2_with fail
        go_round
        case rel => exact ⟨k + 1, O2, by first | rfl | exact int_eq A9.out, rfl, Nat.succ_le_of_lt hlt, hm2⟩
        case measure => first | exact meas_up hlt | (rw [A9.out]; exact meas_up hlt)
      have q60 : ((c.toNat : Int) == 60) = false := u8_ne (k := 60) (by decide) h60
      by_cases h62 : c = 62
      · have q62 : ((c.toNat : Int) == 62) = true := by rw [h62]; rfl
        obtain ⟨O2, hO2⟩ : ∃ O2 : ByteArray, O ++ (⟨#[38, 103, 116, 59]⟩ : ByteArray) = O2 := ⟨_, rfl⟩
        have radd := fun w => add_at O (⟨#[38, 103, 116, 59]⟩ : ByteArray) O2 hO2 (by have : (⟨#[38, 103, 116, 59]⟩ : ByteArray).size = 4 := rfl; omega) w
        have hm2 : Fact (EMid false s.data.toList (k + 1) O2.data.toList) := ⟨by
          rw [← hO2, app_data]
          exact emid_lit hm.out hll hc (by rw [h62]; decide) (by rw [h62]; rfl)⟩
        have q194 : ((c.toNat : Int) == 194) = false := by rw [h62]; rfl
        clear hm hO2 hol hc hll h62
        go_wp2_with fail
        go_round
        case rel => exact ⟨k + 1, O2, by first | rfl | exact int_eq A9.out, rfl, Nat.succ_le_of_lt hlt, hm2⟩
        case measure => first | exact meas_up hlt | (rw [A9.out]; exact meas_up hlt)
      have q62 : ((c.toNat : Int) == 62) = false := u8_ne (k := 62) (by decide) h62
      have h1I : (k : Int) + 1 ≤ s.size := by omega
      have h2I : (k : Int) ≤ (k : Int) + 1 := by omega
      have h3I : (0 : Int) ≤ (k : Int) + 1 := by omega
      have h4I : ((k : Int) + 1).toNat = k + 1 := by omega
      by_cases h194 : c = 194
      · have q194 : ((c.toNat : Int) == 194) = true := by rw [h194]; rfl
        have q34 : ((c.toNat : Int) == 34) = false := by rw [h194]; rfl
        have h34 : c ≠ 34 := by rw [h194]; decide
        by_cases hlt2 : k + 1 < s.size
        · have h5I : (k : Int) + 1 < s.size := by omega
          have h5B : decide ((k : Int) + 1 < s.size) = true := decide_eq_true h5I
          obtain ⟨d, hd⟩ : ∃ d, bAt s.data.toList (k + 1) = d := ⟨_, rfl⟩
          have hdd : s[k + 1] = d := by rw [← byte_at s (k + 1) hlt2]; exact hd
          by_cases h160 : d = 160
          · have q160 : ((d.toNat : Int) == 160) = true := by rw [h160]; rfl
            obtain ⟨O2, hO2⟩ : ∃ O2 : ByteArray, O ++ (⟨#[38, 110, 98, 115, 112, 59]⟩ : ByteArray) = O2 := ⟨_, rfl⟩
            have radd := fun w => add_at O (⟨#[38, 110, 98, 115, 112, 59]⟩ : ByteArray) O2 hO2 (by have : (⟨#[38, 110, 98, 115, 112, 59]⟩ : ByteArray).size = 6 := rfl; omega) w
            have hm2 : Fact (EMid false s.data.toList (k + 2) O2.data.toList) := ⟨by
              rw [← hO2, app_data]
              exact emid_sp hm.out (by rw [HZ.out]; exact hlt2) (by rw [hc]; exact h194) (by rw [hd]; exact h160)⟩
            have A8 : Fact (wrap64 ((k : Int) + 1 + 1) = ((k + 2 : Nat) : Int)) := ⟨wrap_ok (by omega) ⟨by have := HS.out; omega⟩⟩
            clear hm hO2 hol hc hll h194 h160 hd h34 h38 h60 h62
            go_wp2_with fail
            go_round
            case rel => exact ⟨k + 2, O2, by first | rfl | exact int_eq A8.out, rfl, hlt2, hm2⟩
            case measure => first | exact meas_to hlt (show k < k + 2 from Nat.lt_add_of_pos_right (by decide)) | (rw [A8.out]; exact meas_to hlt (show k < k + 2 from Nat.lt_add_of_pos_right (by decide)))
          · have q160 : ((d.toNat : Int) == 160) = false := u8_ne (k := 160) (by decide) h160
            obtain ⟨S1, hS1⟩ : ∃ S1 : ByteArray, s.extract k (k + 1) = S1 := ⟨_, rfl⟩
            have hSd : S1.data.toList = [c] := by rw [← hS1, ← hc]; exact one_byte s k hlt
            have hSz : S1.size = 1 := by rw [Lib.size_eq, hSd]; rfl
            obtain ⟨O2, hO2⟩ : ∃ O2 : ByteArray, O ++ S1 = O2 := ⟨_, rfl⟩
            have radd := fun w => add_at O S1 O2 hO2 (by omega) w
            have hm2 : Fact (EMid false s.data.toList (k + 1) O2.data.toList) := ⟨by
              rw [← hO2, app_data, hSd]
              exact emid_one hm.out hll (fun h2 => h160 (by rw [← hd]; exact h2.2.2)) (by rw [hc]; unfold sgn; rw [if_neg h38, if_neg h60, if_neg h62, if_neg (by simp)])⟩
            clear hm hO2 hol hc hll h194 h160 hd h34 h38 h60 h62 hSd hSz
            go_wp2_with fail
            go_round
            case rel => exact ⟨k + 1, O2, by first | rfl | exact int_eq A9.out, rfl, Nat.succ_le_of_lt hlt, hm2⟩
            case measure => first | exact meas_up hlt | (rw [A9.out]; exact meas_up hlt)
        · have h5I : (s.size : Int) ≤ (k : Int) + 1 := by omega
          have h5B : decide ((k : Int) + 1 < s.size) = false := decide_eq_false (by omega)
          obtain ⟨S1, hS1⟩ : ∃ S1 : ByteArray, s.extract k (k + 1) = S1 := ⟨_, rfl⟩
          have hSd : S1.data.toList = [c] := by rw [← hS1, ← hc]; exact one_byte s k hlt
          have hSz : S1.size = 1 := by rw [Lib.size_eq, hSd]; rfl
          obtain ⟨O2, hO2⟩ : ∃ O2 : ByteArray, O ++ S1 = O2 := ⟨_, rfl⟩
          have radd := fun w => add_at O S1 O2 hO2 (by omega) w
          have hm2 : Fact (EMid false s.data.toList (k + 1) O2.data.toList) := ⟨by
            rw [← hO2, app_data, hSd]
            exact emid_one hm.out hll (fun h2 => hlt2 (by rw [← HZ.out]; exact h2.2.1)) (by rw [hc]; unfold sgn; rw [if_neg h38, if_neg h60, if_neg h62, if_neg (by simp)])⟩
          clear hm hO2 hol hc hll h194 h34 h38 h60 h62 hSd hSz hlt2
          go_wp2_with fail
          go_round
          case rel => exact ⟨k + 1, O2, by first | rfl | exact int_eq A9.out, rfl, Nat.succ_le_of_lt hlt, hm2⟩
          case measure => first | exact meas_up hlt | (rw [A9.out]; exact meas_up hlt)
      have q194 : ((c.toNat : Int) == 194) = false := u8_ne (k := 194) (by decide) h194
      by_cases h34 : c = 34
      · have q34 : ((c.toNat : Int) == 34) = true := by rw [h34]; rfl
        obtain ⟨S1, hS1⟩ : ∃ S1 : ByteArray, s.extract k (k + 1) = S1 := ⟨_, rfl⟩
        have hSd : S1.data.toList = [c] := by rw [← hS1, ← hc]; exact one_byte s k hlt
        have hSz : S1.size = 1 := by rw [Lib.size_eq, hSd]; rfl
        obtain ⟨O2, hO2⟩ : ∃ O2 : ByteArray, O ++ S1 = O2 := ⟨_, rfl⟩
        have radd := fun w => add_at O S1 O2 hO2 (by omega) w
        have hm2 : Fact (EMid false s.data.toList (k + 1) O2.data.toList) := ⟨by
          rw [← hO2, app_data, hSd]
          exact emid_one hm.out hll (fun h2 => h194 (by rw [← hc]; exact h2.1)) (by rw [hc]; unfold sgn; rw [if_neg h38, if_neg h60, if_neg h62, if_neg (by simp)])⟩
        clear hm hO2 hol hc hll h194 h34 h38 h60 h62 hSd hSz
        go_wp2_with fail
        go_round
        case rel => exact ⟨k + 1, O2, by first | rfl | exact int_eq A9.out, rfl, Nat.succ_le_of_lt hlt, hm2⟩
        case measure => first | exact meas_up hlt | (rw [A9.out]; exact meas_up hlt)
      have q34 : ((c.toNat : Int) == 34) = false := u8_ne (k := 34) (by decide) h34
      obtain ⟨S1, hS1⟩ : ∃ S1 : ByteArray, s.extract k (k + 1) = S1 := ⟨_, rfl⟩
      have hSd : S1.data.toList = [c] := by rw [← hS1, ← hc]; exact one_byte s k hlt
      have hSz : S1.size = 1 := by rw [Lib.size_eq, hSd]; rfl
      obtain ⟨O2, hO2⟩ : ∃ O2 : ByteArray, O ++ S1 = O2 := ⟨_, rfl⟩
      have radd := fun w => add_at O S1 O2 hO2 (by omega) w
      have hm2 : Fact (EMid false s.data.toList (k + 1) O2.data.toList) := ⟨by
        rw [← hO2, app_data, hSd]
        exact emid_one hm.out hll (fun h2 => h194 (by rw [← hc]; exact h2.1)) (by rw [hc]; unfold sgn; rw [if_neg h38, if_neg h60, if_neg h62, if_neg (by simp)])⟩
      clear hm hO2 hol hc hll h194 h34 h38 h60 h62 hSd hSz
      go_wp2_with fail
      go_round
      case rel => exact ⟨k + 1, O2, by first | rfl | exact int_eq A9.out, rfl, Nat.succ_le_of_lt hlt, hm2⟩
      case measure => first | exact meas_up hlt | (rw [A9.out]; exact meas_up hlt)
    · have hkI : (s.size : Int) ≤ k := by omega
      have hkB : decide ((k : Int) < s.size) = false := decide_eq_false (by omega)
      have e := emid_end hm.out (by rw [HZ.out]; omega)
      have e2 : Fact (O = ⟨(escB false s.data.toList).toArray⟩) := ⟨(ba_eq e.symm).symm⟩
      clear e hm
      go_wp2_with fail
      go_ret
      exact ⟨by rw [← e2.out]; rfl, rfl⟩
set_option maxRecDepth 20000 in
set_option maxHeartbeats 4000000 in
theorem rescape_true (s : ByteArray) (hs : s.size ≤ 6000) (w : World) :
    Calls Tryd.prog 21 #[.string s, .bool true] w fun e w' => e = .returned (.string ⟨(escB true s.data.toList).toArray⟩) ∧ w' = w := by
  have HS := Fact.mk hs
  clear hs
  go_enter Tryd.func21, Tryd.ntmps21
  go_wp2_with fail
  go_loop [5, 6] (fun v i => ∃ (k : Nat) (O : ByteArray), i = .int .i64 k ∧ v = .string O ∧ k ≤ s.size ∧ Fact (EMid true s.data.toList k O.data.toList)) (fun _ i => s.size - (intOf i).toNat)
  case atStart => exact ⟨0, ⟨#[]⟩, rfl, rfl, Nat.zero_le _, ⟨emid_start _ _⟩⟩
  case round =>
    obtain ⟨k, O, rfl, rfl, hk, hm⟩ := hrel
    have HZ : Fact (s.data.toList.length = s.size) := ⟨(Lib.size_eq s).symm⟩
    by_cases hlt : k < s.size
    · have hkI : (k : Int) < s.size := by omega
      have hk0 : (0 : Int) ≤ k := by omega
      obtain ⟨c, hc⟩ : ∃ c, bAt s.data.toList k = c := ⟨_, rfl⟩
      have hcc : s[k] = c := by rw [← byte_at s k hlt]; exact hc
      have hll : k < s.data.toList.length := by rw [HZ.out]; exact hlt
      have hol : O.size ≤ 36000 := by
        have h1 := hm.out.len
        rw [← Lib.size_eq] at h1
        have := HS.out
        omega
      have A9 : Fact (wrap64 ((k : Int) + 1) = ((k + 1 : Nat) : Int)) := ⟨wrap_ok rfl ⟨by have := HS.out; omega⟩⟩
      have hw1 : wrap64 ((k : Int) + 1) = (k : Int) + 1 := wrap_ok (m := k + 1) rfl ⟨by have := HS.out; omega⟩
      by_cases h38 : c = 38
      · have q38 : ((c.toNat : Int) == 38) = true := by rw [h38]; rfl
        obtain ⟨O2, hO2⟩ : ∃ O2 : ByteArray, O ++ (⟨#[38, 97, 109, 112, 59]⟩ : ByteArray) = O2 := ⟨_, rfl⟩
        have radd := fun w => add_at O (⟨#[38, 97, 109, 112, 59]⟩ : ByteArray) O2 hO2 (by have : (⟨#[38, 97, 109, 112, 59]⟩ : ByteArray).size = 5 := rfl; omega) w
        have hm2 : Fact (EMid true s.data.toList (k + 1) O2.data.toList) := ⟨by
          rw [← hO2, app_data]
          exact emid_lit hm.out hll hc (by rw [h38]; decide) (by rw [h38]; rfl)⟩
        clear hm hO2 hol hc hll h38
        go_wp2_with fail
        go_round
        case rel => exact ⟨k + 1, O2, by first | rfl | exact int_eq A9.out, rfl, Nat.succ_le_of_lt hlt, hm2⟩
        case measure => first | exact meas_up hlt | (rw [A9.out]; exact meas_up hlt)
      have q38 : ((c.toNat : Int) == 38) = false := u8_ne (k := 38) (by decide) h38
      by_cases h60 : c = 60
      · have q60 : ((c.toNat : Int) == 60) = true := by rw [h60]; rfl
        obtain ⟨O2, hO2⟩ : ∃ O2 : ByteArray, O ++ (⟨#[38, 108, 116, 59]⟩ : ByteArray) = O2 := ⟨_, rfl⟩
        have radd := fun w => add_at O (⟨#[38, 108, 116, 59]⟩ : ByteArray) O2 hO2 (by have : (⟨#[38, 108, 116, 59]⟩ : ByteArray).size = 4 := rfl; omega) w
        have hm2 : Fact (EMid true s.data.toList (k + 1) O2.data.toList) := ⟨by
          rw [← hO2, app_data]
          exact emid_lit hm.out hll hc (by rw [h60]; decide) (by rw [h60]; rfl)⟩
        have q194 : ((c.toNat : Int) == 194) = false := by rw [h60]; rfl
        clear hm hO2 hol hc hll h60
        go_wp2_with fail
        go_round
        case rel => exact ⟨k + 1, O2, by first | rfl | exact int_eq A9.out, rfl, Nat.succ_le_of_lt hlt, hm2⟩
        case measure => first | exact meas_up hlt | (rw [A9.out]; exact meas_up hlt)
      have q60 : ((c.toNat : Int) == 60) = false := u8_ne (k := 60) (by decide) h60
      by_cases h62 : c = 62
      · have q62 : ((c.toNat : Int) == 62) = true := by rw [h62]; rfl
        obtain ⟨O2, hO2⟩ : ∃ O2 : ByteArray, O ++ (⟨#[38, 103, 116, 59]⟩ : ByteArray) = O2 := ⟨_, rfl⟩
        have radd := fun w => add_at O (⟨#[38, 103, 116, 59]⟩ : ByteArray) O2 hO2 (by have : (⟨#[38, 103, 116, 59]⟩ : ByteArray).size = 4 := rfl; omega) w
        have hm2 : Fact (EMid true s.data.toList (k + 1) O2.data.toList) := ⟨by
          rw [← hO2, app_data]
          exact emid_lit hm.out hll hc (by rw [h62]; decide) (by rw [h62]; rfl)⟩
        have q194 : ((c.toNat : Int) == 194) = false := by rw [h62]; rfl
        clear hm hO2 hol hc hll h62
        go_wp2_with fail
        go_round
        case rel => exact ⟨k + 1, O2, by first | rfl | exact int_eq A9.out, rfl, Nat.succ_le_of_lt hlt, hm2⟩
        case measure => first | exact meas_up hlt | (rw [A9.out]; exact meas_up hlt)
      have q62 : ((c.toNat : Int) == 62) = false := u8_ne (k := 62) (by decide) h62
      have h1I : (k : Int) + 1 ≤ s.size := by omega
      have h2I : (k : Int) ≤ (k : Int) + 1 := by omega
      have h3I : (0 : Int) ≤ (k : Int) + 1 := by omega
      have h4I : ((k : Int) + 1).toNat = k + 1 := by omega
      by_cases h194 : c = 194
      · have q194 : ((c.toNat : Int) == 194) = true := by rw [h194]; rfl
        have q34 : ((c.toNat : Int) == 34) = false := by rw [h194]; rfl
        have h34 : c ≠ 34 := by rw [h194]; decide
        by_cases hlt2 : k + 1 < s.size
        · have h5I : (k : Int) + 1 < s.size := by omega
          have h5B : decide ((k : Int) + 1 < s.size) = true := decide_eq_true h5I
          obtain ⟨d, hd⟩ : ∃ d, bAt s.data.toList (k + 1) = d := ⟨_, rfl⟩
          have hdd : s[k + 1] = d := by rw [← byte_at s (k + 1) hlt2]; exact hd
          by_cases h160 : d = 160
          · have q160 : ((d.toNat : Int) == 160) = true := by rw [h160]; rfl
            obtain ⟨O2, hO2⟩ : ∃ O2 : ByteArray, O ++ (⟨#[38, 110, 98, 115, 112, 59]⟩ : ByteArray) = O2 := ⟨_, rfl⟩
            have radd := fun w => add_at O (⟨#[38, 110, 98, 115, 112, 59]⟩ : ByteArray) O2 hO2 (by have : (⟨#[38, 110, 98, 115, 112, 59]⟩ : ByteArray).size = 6 := rfl; omega) w
            have hm2 : Fact (EMid true s.data.toList (k + 2) O2.data.toList) := ⟨by
              rw [← hO2, app_data]
              exact emid_sp hm.out (by rw [HZ.out]; exact hlt2) (by rw [hc]; exact h194) (by rw [hd]; exact h160)⟩
            have A8 : Fact (wrap64 ((k : Int) + 1 + 1) = ((k + 2 : Nat) : Int)) := ⟨wrap_ok (by omega) ⟨by have := HS.out; omega⟩⟩
            clear hm hO2 hol hc hll h194 h160 hd h34 h38 h60 h62
            go_wp2_with fail
            go_round
            case rel => exact ⟨k + 2, O2, by first | rfl | exact int_eq A8.out, rfl, hlt2, hm2⟩
            case measure => first | exact meas_to hlt (show k < k + 2 from Nat.lt_add_of_pos_right (by decide)) | (rw [A8.out]; exact meas_to hlt (show k < k + 2 from Nat.lt_add_of_pos_right (by decide)))
          · have q160 : ((d.toNat : Int) == 160) = false := u8_ne (k := 160) (by decide) h160
            obtain ⟨S1, hS1⟩ : ∃ S1 : ByteArray, s.extract k (k + 1) = S1 := ⟨_, rfl⟩
            have hSd : S1.data.toList = [c] := by rw [← hS1, ← hc]; exact one_byte s k hlt
            have hSz : S1.size = 1 := by rw [Lib.size_eq, hSd]; rfl
            obtain ⟨O2, hO2⟩ : ∃ O2 : ByteArray, O ++ S1 = O2 := ⟨_, rfl⟩
            have radd := fun w => add_at O S1 O2 hO2 (by omega) w
            have hm2 : Fact (EMid true s.data.toList (k + 1) O2.data.toList) := ⟨by
              rw [← hO2, app_data, hSd]
              exact emid_one hm.out hll (fun h2 => h160 (by rw [← hd]; exact h2.2.2)) (by rw [hc]; unfold sgn; rw [if_neg h38, if_neg h60, if_neg h62, if_neg (by simp [h34])])⟩
            clear hm hO2 hol hc hll h194 h160 hd h34 h38 h60 h62 hSd hSz
            go_wp2_with fail
            go_round
            case rel => exact ⟨k + 1, O2, by first | rfl | exact int_eq A9.out, rfl, Nat.succ_le_of_lt hlt, hm2⟩
            case measure => first | exact meas_up hlt | (rw [A9.out]; exact meas_up hlt)
        · have h5I : (s.size : Int) ≤ (k : Int) + 1 := by omega
          have h5B : decide ((k : Int) + 1 < s.size) = false := decide_eq_false (by omega)
          obtain ⟨S1, hS1⟩ : ∃ S1 : ByteArray, s.extract k (k + 1) = S1 := ⟨_, rfl⟩
          have hSd : S1.data.toList = [c] := by rw [← hS1, ← hc]; exact one_byte s k hlt
          have hSz : S1.size = 1 := by rw [Lib.size_eq, hSd]; rfl
          obtain ⟨O2, hO2⟩ : ∃ O2 : ByteArray, O ++ S1 = O2 := ⟨_, rfl⟩
          have radd := fun w => add_at O S1 O2 hO2 (by omega) w
          have hm2 : Fact (EMid true s.data.toList (k + 1) O2.data.toList) := ⟨by
            rw [← hO2, app_data, hSd]
            exact emid_one hm.out hll (fun h2 => hlt2 (by rw [← HZ.out]; exact h2.2.1)) (by rw [hc]; unfold sgn; rw [if_neg h38, if_neg h60, if_neg h62, if_neg (by simp [h34])])⟩
          clear hm hO2 hol hc hll h194 h34 h38 h60 h62 hSd hSz hlt2
          go_wp2_with fail
          go_round
          case rel => exact ⟨k + 1, O2, by first | rfl | exact int_eq A9.out, rfl, Nat.succ_le_of_lt hlt, hm2⟩
          case measure => first | exact meas_up hlt | (rw [A9.out]; exact meas_up hlt)
      have q194 : ((c.toNat : Int) == 194) = false := u8_ne (k := 194) (by decide) h194
      by_cases h34 : c = 34
      · have q34 : ((c.toNat : Int) == 34) = true := by rw [h34]; rfl
        obtain ⟨O2, hO2⟩ : ∃ O2 : ByteArray, O ++ (⟨#[38, 113, 117, 111, 116, 59]⟩ : ByteArray) = O2 := ⟨_, rfl⟩
        have radd := fun w => add_at O (⟨#[38, 113, 117, 111, 116, 59]⟩ : ByteArray) O2 hO2 (by have : (⟨#[38, 113, 117, 111, 116, 59]⟩ : ByteArray).size = 6 := rfl; omega) w
        have hm2 : Fact (EMid true s.data.toList (k + 1) O2.data.toList) := ⟨by
          rw [← hO2, app_data]
          exact emid_lit hm.out hll hc (by rw [h34]; decide) (by rw [h34]; rfl)⟩
        clear hm hO2 hol hc hll h34 h194 h38 h60 h62
        go_wp2_with fail
        go_round
        case rel => exact ⟨k + 1, O2, by first | rfl | exact int_eq A9.out, rfl, Nat.succ_le_of_lt hlt, hm2⟩
        case measure => first | exact meas_up hlt | (rw [A9.out]; exact meas_up hlt)
      have q34 : ((c.toNat : Int) == 34) = false := u8_ne (k := 34) (by decide) h34
      obtain ⟨S1, hS1⟩ : ∃ S1 : ByteArray, s.extract k (k + 1) = S1 := ⟨_, rfl⟩
      have hSd : S1.data.toList = [c] := by rw [← hS1, ← hc]; exact one_byte s k hlt
      have hSz : S1.size = 1 := by rw [Lib.size_eq, hSd]; rfl
      obtain ⟨O2, hO2⟩ : ∃ O2 : ByteArray, O ++ S1 = O2 := ⟨_, rfl⟩
      have radd := fun w => add_at O S1 O2 hO2 (by omega) w
      have hm2 : Fact (EMid true s.data.toList (k + 1) O2.data.toList) := ⟨by
        rw [← hO2, app_data, hSd]
        exact emid_one hm.out hll (fun h2 => h194 (by rw [← hc]; exact h2.1)) (by rw [hc]; unfold sgn; rw [if_neg h38, if_neg h60, if_neg h62, if_neg (by simp [h34])])⟩
      clear hm hO2 hol hc hll h194 h34 h38 h60 h62 hSd hSz
      go_wp2_with fail
      go_round
      case rel => exact ⟨k + 1, O2, by first | rfl | exact int_eq A9.out, rfl, Nat.succ_le_of_lt hlt, hm2⟩
      case measure => first | exact meas_up hlt | (rw [A9.out]; exact meas_up hlt)
    · have hkI : (s.size : Int) ≤ k := by omega
      have hkB : decide ((k : Int) < s.size) = false := decide_eq_false (by omega)
      have e := emid_end hm.out (by rw [HZ.out]; omega)
      have e2 : Fact (O = ⟨(escB true s.data.toList).toArray⟩) := ⟨(ba_eq e.symm).symm⟩
      clear e hm
      go_wp2_with fail
      go_ret
      exact ⟨by rw [← e2.out]; rfl, rfl⟩
end Go.Proofs.YtibagbnnplpfgaaDoor
end

/- The chapter's own Text: a node's kids, one behind the other. -/
section
set_option linter.unusedVariables false
set_option linter.unusedSimpArgs false
namespace Go.Proofs.YtibagbnnplpfgaaDoor
open Go.Deep (BT)
open Go.RowKit M

theorem add_big (a b T : ByteArray) (h : a ++ b = T) (hs : a.size + b.size ≤ 1000000000000) (w : World) : (Op.stringOp .add a b).run Tryd.prog w = .ok (.string T) w := by
  have h1 := run_string_add_sum (P := Tryd.prog) (w := w) a b (by omega)
  rw [h] at h1
  exact h1
theorem flt_nodeR (raw : Bool) (xb xo : Nat) (d : Nd) (k r : M.F) : fltP (pcs raw (.node xb xo d k r)) = fltP (pcs raw (.cons d k .nil)) ++ fltP (pcs raw r) := by
  rw [pcs, pcs]
  simp only [fltP_append, fltP_cons, pcs, fltP_nil, List.append_nil, List.append_assoc]
def RTextP (k : M.F) : Prop := ∀ (d : Nd) (av kv : Value) (n : Nat) (raw : Bool) (w : World), Lies n w d k av kv → n ≤ w.heap.size → OKnd d → allF OKnd k → k.size ≤ 1000 →
  Calls Tryd.prog 24 #[nodeV d av kv, .bool raw] w fun e w' => ∃ T : ByteArray, e = .returned (.string T) ∧ T.data.toList = fltP (pcs raw (.cons d k .nil)) ∧ Below w.heap.size w w'
def RKidsP (k : M.F) : Prop := ∀ (d : Nd) (av kv : Value) (n : Nat) (raw : Bool) (w : World), Lies n w d k av kv → n ≤ w.heap.size → allF OKnd k → k.size ≤ 1000 →
  Calls Tryd.prog 33 #[nodeV d av kv, .bool raw] w fun e w' => ∃ T : ByteArray, e = .returned (.string T) ∧ T.data.toList = fltP (pcs raw k) ∧ Below w.heap.size w w'

set_option maxRecDepth 20000 in
set_option maxHeartbeats 4000000 in
theorem rkids_step (k : M.F) (hH : Hered RTextP k) : RKidsP k := by
  intro d av kv n raw w hl hn hok hbd
  obtain ⟨K, N, X, A⟩ := d
  obtain ⟨a1, c1, rfl, hc1, hm1, hA⟩ := hl.a
  obtain ⟨a2, c2, rfl, hc2, hm2, hF⟩ := hl.f
  obtain ⟨al, hal⟩ : ∃ al, A.length = al := ⟨_, rfl⟩
  obtain ⟨kl, hkl⟩ : ∃ kl, k.len = kl := ⟨_, rfl⟩
  dsimp only at hbd ⊢
  rw [hal, hkl]
  obtain ⟨W1, hW1⟩ : ∃ W1, w.alloc (.cells #[.int .i64 K, .string N, .string X, .slice a1 al c1, .slice a2 kl c2] 25) = W1 := ⟨_, rfl⟩
  have hB1 : Below w.heap.size w W1 := by rw [← hW1]; exact (Below.refl _ w).alloc (Nat.le_refl _) _
  have hz1 : W1.heap.size = w.heap.size + 1 := by rw [← hW1]; simp
  have hbx : ∀ i v, (#[.int .i64 K, .string N, .string X, .slice a1 al c1, .slice a2 kl c2] : Array Value)[i]? = some v → W1.cell? ⟨w.heap.size, i, none⟩ = some v := fun i v h => by
    rw [← hW1]; exact (World.cell?_alloc_new w _ _ i).trans h
  have x4 : W1.cell? ⟨w.heap.size, 4, none⟩ = some (.slice a2 kl c2) := hbx 4 _ rfl
  obtain ⟨b2, o2, hkd⟩ : ∃ b o, Fact (∀ i, i < kl → a2 = some ⟨b, o, none⟩ ∧ b < n ∧ FAt (Old n) w k b o) := by
    rcases hF with h0 | ⟨b, o, ea, hS, hcs⟩
    · refine ⟨0, 0, ⟨fun i hi => ?_⟩⟩
      omega
    · exact ⟨b, o, ⟨fun i hi => ⟨ea, hS, hcs⟩⟩⟩
  obtain ⟨T, hT⟩ : ∃ T : ByteArray, fltP (pcs raw k) = T.data.toList := ⟨⟨(fltP (pcs raw k)).toArray⟩, rfl⟩
  have hTz : T.size ≤ 726000000 := by
    have := pcs_len k raw hok
    rw [hT, data_len] at this
    omega
  have HB1 := Fact.mk hB1
  have HH := Fact.mk hH
  have HKL := Fact.mk hkl
  have HBD := Fact.mk hbd
  have HX4 := Fact.mk x4
  have HT := Fact.mk hT
  have HTZ := Fact.mk hTz
  have HOK := Fact.mk hok
  have HW1 := Fact.mk hW1
  rw [hkl] at hc2
  unfold maxLen at hm2
  have hkl4 : kl ≤ 1000 := by rw [← hkl]; have := len_size k; omega
  clear hA hF hl hH hbx hB1 hkl hbd hc1 hm1 hal hT hTz hok hW1
  go_enter Tryd.func33, Tryd.ntmps33
  go_wp2_with fail
  rw [HW1.out]
  go_wp2_with fail
  go_loopg [5, 6] kl (fun gf sv iv wr => ∃ (i : Nat) (rest : M.F) (S : ByteArray), (sv = .string S ∧ iv = .int .i64 i) ∧ i + rest.len = kl ∧ rest.len ≤ gf ∧
    Fact (Below (w.heap.size + 1) W1 wr) ∧ Fact ((rest.len = 0 ∨ FAt (Old n) w rest b2 (o2 + i * 5)) ∧ Hered RTextP rest ∧ rest.size ≤ k.size ∧ allF OKnd rest ∧ T.data.toList = S.data.toList ++ fltP (pcs raw rest)))
  case atStart =>
    refine ⟨0, k, (⟨#[]⟩ : ByteArray), ⟨rfl, rfl⟩, by rw [HKL.out]; omega, by rw [HKL.out]; omega, ⟨Below.refl _ _⟩, ⟨?_, HH.out, Nat.le_refl _, HOK.out, by rw [← HT.out]; rfl⟩⟩
    by_cases h0 : kl = 0
    · left; rw [HKL.out]; exact h0
    · right
      rw [Nat.zero_mul, Nat.add_zero]
      exact (hkd.out 0 (by omega)).2.2
  case round =>
    obtain ⟨i, rest, S, ⟨rfl, rfl⟩, hlen, hfu, hBr, hfx⟩ := hrel
    have y4 := (hBr.out.cell (p := ⟨w.heap.size, 4, none⟩) (by show w.heap.size < _; omega)).trans HX4.out
    cases rest with
    | nil =>
      have hi : i = kl := by have : i + 0 = kl := hlen; omega
      obtain ⟨_, _, _, _, q⟩ := hfx.out
      have hfin : Fact (T.data.toList = S.data.toList) := ⟨by rw [q]; exact List.append_nil _⟩
      clear hfx hlen q x4 hkd
      subst hi
      go_wp2_with fail
      go_ret
      exact ⟨S, rfl, by rw [← hfin.out, HT.out], HB1.out.trans (hBr.out.mono (by omega))⟩
    | node xb xo d' k' r' =>
      have hlen' : i + (r'.len + 1) = kl := hlen
      have hfu' : r'.len + 1 ≤ gk := hfu
      obtain ⟨g', rfl⟩ : ∃ g', gk = g' + 1 := ⟨gk - 1, by omega⟩
      have hlt2 : i < kl := by omega
      obtain ⟨ea2, hb2, _⟩ := hkd.out i hlt2
      subst ea2
      obtain ⟨hfat, ⟨hP, hHr⟩, q1, q3, q4⟩ := hfx.out
      have hfat' := hfat.resolve_left (by show ¬ r'.len + 1 = 0; omega)
      obtain ⟨⟨av', ka', kc', e0, e1, e2, e3, e4, hav', h4, h5, hkk⟩, hrr⟩ := hfat'
      have hbw : Below w.heap.size w wr := HB1.out.trans (hBr.out.mono (by omega))
      have hcc : ∀ o, wr.cell? ⟨b2, o, none⟩ = w.cell? ⟨b2, o, none⟩ := fun o => hbw.cell (p := ⟨b2, o, none⟩) (by show b2 < _; omega)
      obtain ⟨x1', x2', x3', ex⟩ := hav'.val
      subst ex
      have l0 := (hcc _).trans e0
      have l1 := (hcc _).trans e1
      have l2 := (hcc _).trans e2
      have l3 := (hcc _).trans e3
      have l4 := (hcc _).trans e4
      have hlk : Like (Old n) w wr := like_below (hbw.mono hn)
      have hkz : k'.size ≤ 1000 := by have := HBD.out; simp only [BT.size] at q1; omega
      have hcall := hP d' (.slice x1' x2' x3') (.slice ka' k'.len kc') n raw wr ⟨hav'.like hlk, FL.like hlk ⟨ka', kc', rfl, h4, h5, hkk⟩⟩ (Nat.le_trans hn hbw.size) q3.1 q3.2.1 hkz
      have HCALL := Fact.mk hcall
      have HQ : Fact (T.data.toList = S.data.toList ++ (fltP (pcs raw (.cons d' k' .nil)) ++ fltP (pcs raw r'))) := ⟨by rw [q4, flt_nodeR]⟩
      have HR : Fact (FAt (Old n) w r' b2 (o2 + (i + 1) * 5) ∧ Hered RTextP r' ∧ r'.size ≤ k.size ∧ allF OKnd r') := ⟨by rw [show o2 + (i + 1) * 5 = o2 + i * 5 + 5 by omega]; exact hrr, hHr, by simp only [BT.size] at q1; omega, q3.2.2⟩
      clear hfx hfat hP hHr hrr hkk hav' hcall hlk e0 e1 e2 e3 e4 hkd hlen hfu hcc x4 q1 q3 q4
      go_wp2_with (go_at_call 24; refine HCALL.out.mono ?_; rintro e w2 ⟨Z, rfl, hZ, hb2'⟩; have HB2 : Fact (Below (w.heap.size + 1) W1 w2) := ⟨hBr.out.trans (hb2'.mono (by have := hBr.out.size; omega))⟩; have HZ := Fact.mk hZ; obtain ⟨S2, hS2⟩ : ∃ S2, S ++ Z = S2 := ⟨_, rfl⟩; have hsz : S.size + Z.size ≤ 726000000 := (by have h1 := congrArg List.length HQ.out; rw [← HZ.out, List.length_append, List.length_append, data_len, data_len, data_len] at h1; have := HTZ.out; omega); have radd := fun w => add_big S Z S2 hS2 (by omega) w; have HS2 : Fact (S2.data.toList = S.data.toList ++ Z.data.toList) := ⟨by rw [← hS2, app_data]⟩; clear hb2' hZ hsz hS2)
      clear HCALL
      go_roundg g'
      case measure => omega
      case rel =>
        refine ⟨i + 1, r', S2, ⟨rfl, by go_num⟩, by omega, by omega, HB2, ⟨.inr HR.out.1, HR.out.2.1, HR.out.2.2.1, HR.out.2.2.2, ?_⟩⟩
        rw [HQ.out, HS2.out, HZ.out, List.append_assoc]
end Go.Proofs.YtibagbnnplpfgaaDoor
end

/- Sources of elements; sums of texts. -/
section
set_option linter.unusedVariables false
set_option linter.unusedSimpArgs false
namespace Go.Proofs.YtibagbnnplpfgaaDoor
open Go.Deep (BT)
open Go.RowKit M

theorem src_open {d : Nd} {k : M.F} (h : d.k = 2) (hv : isB d.n 1 = false) : srcB d k = fltP (tagP d) ++ (fltP (pcs (rawN d.n.data.toList == 2) k) ++ ((⟨#[60, 47]⟩ : ByteArray) ++ d.n ++ ⟨#[62]⟩).data.toList) := by
  have h1 : opn d = true := by unfold opn; rw [h, hv]; rfl
  have h2 : insK d = true := by unfold insK; rw [h1, Bool.or_true]
  have h3 : begP d false = tagP d := by rw [begP, if_neg (by omega), if_neg (by omega), if_neg (by omega), if_pos h]
  have h4 : insR d = (rawN d.n.data.toList == 2) := by unfold insR; rw [h1, Bool.true_and]
  have h5 : insE d = (⟨#[60, 47]⟩ : ByteArray) ++ d.n ++ ⟨#[62]⟩ := by unfold insE; rw [h1, if_pos rfl]
  unfold srcB
  rw [pcs, h2, if_pos rfl, h3, h4, h5, fltP_append, fltP_append, fltP_cons]
  simp [pcs, fltP_nil]
theorem cat (a b : ByteArray) : ∃ T : ByteArray, a ++ b = T ∧ T.size = a.size + b.size ∧ T.data.toList = a.data.toList ++ b.data.toList := ⟨_, rfl, ByteArray.size_append, app_data a b⟩
theorem pl_ex (v : Int) (n : Nat) (h : 0 < n) : ∃ q : Nat, Fact (pl v n = q) ∧ q < n := by
  exact ⟨pl v n, ⟨rfl⟩, pl_lt v n h⟩

end Go.Proofs.YtibagbnnplpfgaaDoor
end

/- The chapter's own Text. -/
section
set_option linter.unusedVariables false
set_option linter.unusedSimpArgs false
namespace Go.Proofs.YtibagbnnplpfgaaDoor
open Go.Deep (BT)
open Go.RowKit M

theorem leaf_src (raw : Bool) {d : Nd} (k : M.F) (h : insK d = false) (he : insE d = ⟨#[]⟩) : fltP (pcs raw (.cons d k .nil)) = fltP (begP d raw) := by
  rw [pcs, h, he]
  simp [pcs, fltP_append, fltP_cons, fltP_nil]
theorem resc_at (b : Bool) (s E : ByteArray) (hs : s.size ≤ 6000) (hE : Fact (escS b s = E)) (w : World) :
    Calls Tryd.prog 21 #[.string s, .bool b] w fun e w' => e = .returned (.string E) ∧ w' = w := by
  rw [← hE.out]
  cases b
  · exact rescape_false s hs w
  · exact rescape_true s hs w

set_option maxRecDepth 20000 in
set_option maxHeartbeats 8000000 in
theorem rtext_step (k : M.F) (hH : Hered RTextP k) : RTextP k := by
  intro d av kv n raw w hl hn hnd hok hbd
  have HKC : Fact (∀ (rb : Bool) (W : World), Below w.heap.size w W → Calls Tryd.prog 33 #[nodeV d av kv, .bool rb] W fun e w' => ∃ T : ByteArray, e = .returned (.string T) ∧ T.data.toList = fltP (pcs rb k) ∧ Below W.heap.size W w') :=
    ⟨fun rb W h => rkids_step k hH d av kv n rb W (hl.below (h.mono hn)) (Nat.le_trans hn h.size) hok hbd⟩
  clear hH
  obtain ⟨K, N, X, A⟩ := d
  obtain ⟨a1, c1, rfl, hc1, hm1, hA⟩ := hl.a
  obtain ⟨a2, c2, rfl, hc2, hm2, hF⟩ := hl.f
  obtain ⟨al, hal⟩ : ∃ al, A.length = al := ⟨_, rfl⟩
  obtain ⟨kl, hkl⟩ : ∃ kl, k.len = kl := ⟨_, rfl⟩
  dsimp only at hbd HKC hc1 hA ⊢
  rw [hal, hkl] at HKC ⊢
  rw [hal] at hc1
  unfold maxLen at hm1
  have hal20 : al ≤ 20 := by have := hnd.many; dsimp only at this; omega
  have hN200 : N.size ≤ 200 := hnd.name
  have hX6 : X.size ≤ 6000 := hnd.text
  obtain ⟨b1, o1, hat⟩ : ∃ b o, Fact (∀ i, i < al → a1 = some ⟨b, o, none⟩ ∧ b < w.heap.size ∧ w.cell? ⟨b, o + i * 2, none⟩ = some (.string (bs A i).1) ∧ w.cell? ⟨b, o + i * 2 + 1, none⟩ = some (.string (bs A i).2)) := by
    rcases hA with h0 | ⟨b, o, ea, hS, hcs⟩
    · refine ⟨0, 0, ⟨fun i hi => ?_⟩⟩
      rw [h0] at hal
      simp at hal
      omega
    · refine ⟨b, o, ⟨fun i hi => ⟨ea, Nat.lt_of_lt_of_le hS hn, ?_, ?_⟩⟩⟩
      · rw [← bs_get A i (by rw [hal]; exact hi)]; exact (hcs i (by rw [hal]; exact hi)).1
      · rw [← bs_get A i (by rw [hal]; exact hi)]; exact (hcs i (by rw [hal]; exact hi)).2
  obtain ⟨W1, hW1⟩ : ∃ W1, w.alloc (.cells #[.int .i64 K, .string N, .string X, .slice a1 al c1, .slice a2 kl c2] 25) = W1 := ⟨_, rfl⟩
  have hB1 : Below w.heap.size w W1 := by rw [← hW1]; exact (Below.refl _ w).alloc (Nat.le_refl _) _
  have hz1 : W1.heap.size = w.heap.size + 1 := by rw [← hW1]; simp
  have hbx : ∀ i v, (#[.int .i64 K, .string N, .string X, .slice a1 al c1, .slice a2 kl c2] : Array Value)[i]? = some v → W1.cell? ⟨w.heap.size, i, none⟩ = some v := fun i v h => by
    rw [← hW1]; exact (World.cell?_alloc_new w _ _ i).trans h
  have x0 := hbx 0 _ rfl
  have x1 := hbx 1 _ rfl
  have x2 := hbx 2 _ rfl
  have x3 := hbx 3 _ rfl
  have x4 := hbx 4 _ rfl
  have HB1 := Fact.mk hB1
  have HW1 := Fact.mk hW1
  have HND := Fact.mk hnd
  have HOK := Fact.mk hok
  have HAL := Fact.mk hal
  clear hA hF hl hB1 hkl hal hW1 hnd hok hc2 hm2
  rcases (by omega : K = 5 ∨ K = 4 ∨ K = 3 ∨ K = 1 ∨ K = 2 ∨ (K ≠ 5 ∧ K ≠ 4 ∧ K ≠ 3 ∧ K ≠ 1 ∧ K ≠ 2)) with rfl | rfl | rfl | rfl | rfl | ⟨n5, n4, n3, n1, n2⟩
  · obtain ⟨B1, hB1, zB1, dB1⟩ := cat ⟨#[60, 33, 68, 79, 67, 84, 89, 80, 69, 32]⟩ N
    obtain ⟨B2, hB2, zB2, dB2⟩ := cat B1 ⟨#[62]⟩
    have y1 : (⟨#[60, 33, 68, 79, 67, 84, 89, 80, 69, 32]⟩ : ByteArray).size = 10 := rfl
    have y2 : (⟨#[62]⟩ : ByteArray).size = 1 := rfl
    have r1 := fun w => add_big _ _ _ hB1 (by omega) w
    have r2 := fun w => add_big _ _ _ hB2 (by omega) w
    have HD : Fact (B2.data.toList = fltP (pcs raw (.cons ⟨5, N, X, A⟩ k .nil))) := ⟨by
      rw [leaf_src raw k rfl rfl, dB2, dB1]
      simp [begP, fltP_cons, fltP_nil]⟩
    clear hB1 hB2 zB1 zB2 dB1 dB2 y1 y2 HKC hat
    go_enter Tryd.func24, Tryd.ntmps24
    go_wp2_with fail
    rw [HW1.out]
    go_wp2_with fail
    go_ret
    exact ⟨B2, rfl, HD.out, HB1.out⟩
  · obtain ⟨B1, hB1, zB1, dB1⟩ := cat ⟨#[60, 33, 45, 45]⟩ X
    obtain ⟨B2, hB2, zB2, dB2⟩ := cat B1 ⟨#[45, 45, 62]⟩
    have y1 : (⟨#[60, 33, 45, 45]⟩ : ByteArray).size = 4 := rfl
    have y2 : (⟨#[45, 45, 62]⟩ : ByteArray).size = 3 := rfl
    have r1 := fun w => add_big _ _ _ hB1 (by omega) w
    have r2 := fun w => add_big _ _ _ hB2 (by omega) w
    have HD : Fact (B2.data.toList = fltP (pcs raw (.cons ⟨4, N, X, A⟩ k .nil))) := ⟨by
      rw [leaf_src raw k rfl rfl, dB2, dB1]
      simp [begP, fltP_cons, fltP_nil]⟩
    clear hB1 hB2 zB1 zB2 dB1 dB2 y1 y2 HKC hat
    go_enter Tryd.func24, Tryd.ntmps24
    go_wp2_with fail
    rw [HW1.out]
    go_wp2_with fail
    go_ret
    exact ⟨B2, rfl, HD.out, HB1.out⟩
  · cases raw
    · obtain ⟨E, hE⟩ : ∃ E, escS false X = E := ⟨_, rfl⟩
      have HE := Fact.mk hE
      have HD : Fact (E.data.toList = fltP (pcs false (.cons ⟨3, N, X, A⟩ k .nil))) := ⟨by
        rw [leaf_src false k rfl rfl, ← hE]
        simp [begP, fltP_cons, fltP_nil]⟩
      clear hE HKC hat
      go_enter Tryd.func24, Tryd.ntmps24
      go_wp2_with fail
      rw [HW1.out]
      go_wp2_with (go_at_call 21; refine (resc_at false X E hX6 HE _).mono ?_; rintro e w4 ⟨rfl, hw4⟩; have hw5 := hw4.symm; subst hw5; clear hw4)
      go_ret
      exact ⟨E, rfl, HD.out, HB1.out⟩
    · have HD : Fact (X.data.toList = fltP (pcs true (.cons ⟨3, N, X, A⟩ k .nil))) := ⟨by
        rw [leaf_src true k rfl rfl]
        simp [begP, fltP_cons, fltP_nil]⟩
      clear HKC hat
      go_enter Tryd.func24, Tryd.ntmps24
      go_wp2_with fail
      rw [HW1.out]
      go_wp2_with fail
      go_ret
      exact ⟨X, rfl, HD.out, HB1.out⟩
  · have HD : Fact (fltP (pcs raw (.cons ⟨1, N, X, A⟩ k .nil)) = fltP (pcs false k)) := ⟨by
      have h1 : insK ⟨1, N, X, A⟩ = true := rfl
      have h2 : insR ⟨1, N, X, A⟩ = false := rfl
      have h3 : insE ⟨1, N, X, A⟩ = ⟨#[]⟩ := rfl
      rw [pcs, h1, h2, h3]
      simp [begP, pcs, fltP_append, fltP_cons, fltP_nil]⟩
    clear hat
    go_enter Tryd.func24, Tryd.ntmps24
    go_wp2_with fail
    rw [HW1.out]
    go_wp2_with (go_at_call 33; refine (HKC.out false W1 HB1.out).mono ?_; rintro e w4 ⟨Z, rfl, hZ, hb4⟩)
    go_ret
    exact ⟨Z, rfl, by rw [HD.out, hZ], HB1.out.trans (hb4.mono HB1.out.size)⟩
  · obtain ⟨B0, hB0, zB0, dB0⟩ := cat ⟨#[60]⟩ N
    have y3 : (⟨#[60]⟩ : ByteArray).size = 1 := rfl
    have r0 := fun w => add_big _ _ _ hB0 (by omega) w
    have hB0s : B0.size ≤ 201 := by omega
    have HD0 : Fact (B0.data.toList = [60] ++ N.data.toList ++ fltP (attP (A.take 0))) := ⟨by rw [dB0]; simp [attP, fltP_nil]⟩
    have HX : Fact (∀ W', Below (w.heap.size + 1) W1 W' → W'.cell? ⟨w.heap.size, 0, none⟩ = some (.int .i64 2) ∧ W'.cell? ⟨w.heap.size, 1, none⟩ = some (.string N) ∧ W'.cell? ⟨w.heap.size, 2, none⟩ = some (.string X) ∧ W'.cell? ⟨w.heap.size, 3, none⟩ = some (.slice a1 al c1) ∧ W'.cell? ⟨w.heap.size, 4, none⟩ = some (.slice a2 kl c2)) := ⟨fun W' h =>
      ⟨(h.cell (p := ⟨w.heap.size, 0, none⟩) (Nat.lt_succ_self _)).trans x0, (h.cell (p := ⟨w.heap.size, 1, none⟩) (Nat.lt_succ_self _)).trans x1, (h.cell (p := ⟨w.heap.size, 2, none⟩) (Nat.lt_succ_self _)).trans x2, (h.cell (p := ⟨w.heap.size, 3, none⟩) (Nat.lt_succ_self _)).trans x3, (h.cell (p := ⟨w.heap.size, 4, none⟩) (Nat.lt_succ_self _)).trans x4⟩⟩
    clear hB0 zB0 dB0 y3
    go_enter Tryd.func24, Tryd.ntmps24
    go_wp2_with fail
    rw [HW1.out]
    go_wp2_with fail
    clear x0 x1 x2 x3 x4
    go_loopg [5, 6] al (fun gf sv iv wr => ∃ (j : Nat) (S : ByteArray), (sv = .string S ∧ iv = .int .i64 j) ∧ j ≤ al ∧ al - j ≤ gf ∧ S.size ≤ 201 + 36204 * j ∧ Fact (Below (w.heap.size + 1) W1 wr) ∧ Fact (S.data.toList = [60] ++ N.data.toList ++ fltP (attP (A.take j))))
    case atStart => exact ⟨0, B0, ⟨rfl, rfl⟩, Nat.zero_le _, by omega, by omega, ⟨Below.refl _ _⟩, HD0⟩
    case round =>
      obtain ⟨j, S, ⟨rfl, rfl⟩, hj, hfu, hSz, hBr, hSd⟩ := hrel
      obtain ⟨x0, x1, x2, x3, x4⟩ := HX.out wr hBr.out
      have hsr := hBr.out.size
      have hwr : Below w.heap.size w wr := HB1.out.trans (hBr.out.mono (by omega))
      by_cases hlt : j < al
      · obtain ⟨g', rfl⟩ : ∃ g', gk = g' + 1 := ⟨gk - 1, by omega⟩
        obtain ⟨ea, hbb, y0, y1⟩ := hat.out j hlt
        subst ea
        obtain ⟨N', hN'⟩ : ∃ N', (bs A j).1 = N' := ⟨_, rfl⟩
        obtain ⟨V', hV'⟩ : ∃ V', (bs A j).2 = V' := ⟨_, rfl⟩
        rw [hN'] at y0
        rw [hV'] at y1
        have l0 := (hwr.cell (p := ⟨b1, o1 + j * 2, none⟩) hbb).trans y0
        have l1 := (hwr.cell (p := ⟨b1, o1 + j * 2 + 1, none⟩) hbb).trans y1
        have hjA : j < A.length := by rw [HAL.out]; exact hlt
        have hea := HND.out.each (bs A j) (by rw [← bs_get A j hjA]; exact List.getElem_mem hjA)
        rw [hN', hV'] at hea
        obtain ⟨hN2, hV6⟩ := hea
        obtain ⟨E, hE⟩ : ∃ E, escS true V' = E := ⟨_, rfl⟩
        have hE6 : E.size ≤ 36000 := by have := escS_len true V'; rw [hE] at this; omega
        have HE := Fact.mk hE
        obtain ⟨B1, hB1, zB1, dB1⟩ := cat S ⟨#[32]⟩
        obtain ⟨B2, hB2, zB2, dB2⟩ := cat B1 N'
        obtain ⟨B3, hB3, zB3, dB3⟩ := cat B2 ⟨#[61, 34]⟩
        obtain ⟨B4, hB4, zB4, dB4⟩ := cat B3 E
        obtain ⟨B5, hB5, zB5, dB5⟩ := cat B4 ⟨#[34]⟩
        have y6 : (⟨#[32]⟩ : ByteArray).size = 1 := rfl
        have y7 : (⟨#[61, 34]⟩ : ByteArray).size = 2 := rfl
        have y8 : (⟨#[34]⟩ : ByteArray).size = 1 := rfl
        have r1 := fun w => add_big _ _ _ hB1 (by omega) w
        have r2 := fun w => add_big _ _ _ hB2 (by omega) w
        have r3 := fun w => add_big _ _ _ hB3 (by omega) w
        have r4 := fun w => add_big _ _ _ hB4 (by omega) w
        have r5 := fun w => add_big _ _ _ hB5 (by omega) w
        have hB5s : B5.size ≤ 201 + 36204 * (j + 1) := by omega
        have HD : Fact (B5.data.toList = [60] ++ N.data.toList ++ fltP (attP (A.take (j + 1)))) := ⟨by
          rw [attP_take A j hjA, hN', hV', hE, dB5, dB4, dB3, dB2, dB1, hSd.out]
          simp [fltP_append, fltP_cons, fltP_nil]⟩
        have jI : (j : Int) < al := by omega
        have jI0 : (0 : Int) ≤ j := by omega
        clear hB1 hB2 hB3 hB4 hB5 zB1 zB2 zB3 zB4 zB5 dB1 dB2 dB3 dB4 dB5 y6 y7 y8 hE hE6 hN' hV' y0 y1 hat hjA hSz
        go_wp2_with fail
        go_quiet (first | (go_at_call 21; exact Calls.quiet_of_same (resc_at true V' E hV6 HE _)))
        go_wp2_with fail
        go_roundg g'
        case measure => omega
        case rel => exact ⟨j + 1, B5, ⟨rfl, by go_num⟩, by omega, by omega, hB5s, ⟨⟨hBr.out.os, hBr.out.tape, hBr.out.output, hBr.out.size, hBr.out.block⟩⟩, HD⟩
      · obtain rfl : j = al := by omega
        have jI : ¬ (j : Int) < j := by omega
        have HT0 : Fact (fltP (tagP ⟨2, N, X, A⟩) = S.data.toList ++ [62]) := ⟨by
          rw [hSd.out, List.take_of_length_le (by rw [HAL.out]; exact Nat.le_refl _)]
          simp [tagP, fltP_cons, fltP_append, fltP_nil]⟩
        obtain ⟨B1, hB1, zB1, dB1⟩ := cat S ⟨#[62]⟩
        have y6 : (⟨#[62]⟩ : ByteArray).size = 1 := rfl
        have y7 : (⟨#[60, 47]⟩ : ByteArray).size = 2 := rfl
        have r1 := fun w => add_big _ _ _ hB1 (by omega) w
        have hB1s : B1.size ≤ 1000000 := by omega
        have HT1 : Fact (fltP (tagP ⟨2, N, X, A⟩) = B1.data.toList) := ⟨by rw [HT0.out, dB1]⟩
        obtain ⟨vd, hvd⟩ : ∃ b, isB N 1 = b := ⟨_, rfl⟩
        have HVD := Fact.mk hvd
        have HWR := Fact.mk hwr
        clear hB1 zB1 dB1 hat hSz hvd hwr
        cases vd
        · obtain ⟨rv, hrv⟩ : ∃ rv, rawN N.data.toList = rv := ⟨_, rfl⟩
          have HRV := Fact.mk hrv
          obtain ⟨rb, hrb⟩ : ∃ rb, ((rv : Int) == 2) = rb := ⟨_, rfl⟩
          have HRB : Fact ((rawN N.data.toList == 2) = rb) := ⟨by
            rw [hrv, ← hrb]
            by_cases h : rv = 2
            · subst h; rfl
            · rw [beq_eq_false_iff_ne.2 h, beq_eq_false_iff_ne.2 (by omega)]⟩
          have HD : Fact (fltP (pcs raw (.cons ⟨2, N, X, A⟩ k .nil)) = B1.data.toList ++ (fltP (pcs rb k) ++ ([60, 47] ++ N.data.toList ++ [62]))) := ⟨by
            have ho : opn ⟨2, N, X, A⟩ = true := by unfold opn; rw [HVD.out]; rfl
            have h1 : insK ⟨2, N, X, A⟩ = true := by unfold insK; rw [ho]; rfl
            have h2 : insR ⟨2, N, X, A⟩ = rb := by unfold insR; rw [ho, HRB.out]; rfl
            have h3 : insE ⟨2, N, X, A⟩ = (⟨#[60, 47]⟩ : ByteArray) ++ N ++ ⟨#[62]⟩ := by unfold insE; rw [if_pos ho]
            rw [pcs, h1, h2, h3]
            simp only [if_true, fltP_append, fltP_cons, pcs, fltP_nil, List.append_nil]
            rw [app_data, app_data, ← HT1.out]
            rfl⟩
          clear hrv
          go_wp2_with (go_at_call 34; refine (rIs_one N wr false HVD).mono ?_; rintro e w4 ⟨rfl, hb4⟩; have HB4 : Fact (Below (w.heap.size + 1) W1 w4) := ⟨hBr.out.trans (hb4.mono (by omega))⟩; clear hb4)
          have hz0 := HX.out w4 HB4.out
          have hS0 : Below w.heap.size w w4.drew ∧ (w4.drew.cell? ⟨w.heap.size, 0, none⟩ = some (.int .i64 2) ∧ w4.drew.cell? ⟨w.heap.size, 1, none⟩ = some (.string N) ∧ w4.drew.cell? ⟨w.heap.size, 2, none⟩ = some (.string X) ∧ w4.drew.cell? ⟨w.heap.size, 3, none⟩ = some (.slice a1 j c1) ∧ w4.drew.cell? ⟨w.heap.size, 4, none⟩ = some (.slice a2 kl c2)) := ⟨(HB1.out.trans (HB4.out.mono (by omega))).drew, hz0⟩
          have HSK : Fact (∀ w6 w7, Below w6.heap.size w6 w7 → (Below w.heap.size w w6 ∧ (w6.cell? ⟨w.heap.size, 0, none⟩ = some (.int .i64 2) ∧ w6.cell? ⟨w.heap.size, 1, none⟩ = some (.string N) ∧ w6.cell? ⟨w.heap.size, 2, none⟩ = some (.string X) ∧ w6.cell? ⟨w.heap.size, 3, none⟩ = some (.slice a1 j c1) ∧ w6.cell? ⟨w.heap.size, 4, none⟩ = some (.slice a2 kl c2))) → (Below w.heap.size w w7 ∧ (w7.cell? ⟨w.heap.size, 0, none⟩ = some (.int .i64 2) ∧ w7.cell? ⟨w.heap.size, 1, none⟩ = some (.string N) ∧ w7.cell? ⟨w.heap.size, 2, none⟩ = some (.string X) ∧ w7.cell? ⟨w.heap.size, 3, none⟩ = some (.slice a1 j c1) ∧ w7.cell? ⟨w.heap.size, 4, none⟩ = some (.slice a2 kl c2)))) := ⟨fun w6 w7 hb ⟨a1, e0, e1, e2, e3, e4⟩ => by
            have h2 : w.heap.size < w6.heap.size := World.block_lt_of_cell? w6 _ e0
            exact ⟨a1.trans (hb.mono (by omega)), (hb.cell (p := ⟨w.heap.size, 0, none⟩) h2).trans e0, (hb.cell (p := ⟨w.heap.size, 1, none⟩) h2).trans e1, (hb.cell (p := ⟨w.heap.size, 2, none⟩) h2).trans e2, (hb.cell (p := ⟨w.heap.size, 3, none⟩) h2).trans e3, (hb.cell (p := ⟨w.heap.size, 4, none⟩) h2).trans e4⟩⟩
          clear x0 x1 x2 x3 x4
          go_region_held3 (fun w' => Below w.heap.size w w' ∧ (w'.cell? ⟨w.heap.size, 0, none⟩ = some (.int .i64 2) ∧ w'.cell? ⟨w.heap.size, 1, none⟩ = some (.string N) ∧ w'.cell? ⟨w.heap.size, 2, none⟩ = some (.string X) ∧ w'.cell? ⟨w.heap.size, 3, none⟩ = some (.slice a1 j c1) ∧ w'.cell? ⟨w.heap.size, 4, none⟩ = some (.slice a2 kl c2)))
            (first | with_reducible exact hS0 | with_reducible assumption)
            (first
              | (go_at_call 35; refine (rraw_any N rv HRV _).mono ?_; rintro e w5 ⟨rfl, hw5⟩; have hw6 := hw5.symm; subst hw6; clear hw5)
              | (go_at_call 33; refine (HKC.out rb _ hS0.1).mono ?_; rintro e w6 ⟨Z, rfl, hZ, hb6⟩; have hS6 := HSK.out _ _ hb6 hS0; have hZz : Z.size ≤ 726000000 := (by have h1 := pcs_len k rb HOK.out; rw [← hZ, data_len] at h1; omega); obtain ⟨C1, hC1, zC1, dC1⟩ := cat B1 Z; obtain ⟨C2, hC2, zC2, dC2⟩ := cat C1 ⟨#[60, 47]⟩; obtain ⟨C3, hC3, zC3, dC3⟩ := cat C2 N; obtain ⟨C4, hC4, zC4, dC4⟩ := cat C3 ⟨#[62]⟩; have s1 := fun w => add_big _ _ _ hC1 (by omega) w; have s2 := fun w => add_big _ _ _ hC2 (by omega) w; have s3 := fun w => add_big _ _ _ hC3 (by omega) w; have s4 := fun w => add_big _ _ _ hC4 (by omega) w; have HC : Fact (C4.data.toList = fltP (pcs raw (.cons ⟨2, N, X, A⟩ k .nil))) := ⟨by rw [HD.out, dC4, dC3, dC2, dC1, hZ]; simp⟩; clear hC1 hC2 hC3 hC4 zC1 zC2 zC3 zC4 dC1 dC2 dC3 dC4 hb6 hZ))
          go_wp2_with fail
          go_ret
          exact ⟨C4, rfl, HC.out, hS6.1⟩
        · have HD : Fact (fltP (pcs raw (.cons ⟨2, N, X, A⟩ k .nil)) = B1.data.toList) := ⟨by
            have ho : opn ⟨2, N, X, A⟩ = false := by unfold opn; rw [HVD.out]; rfl
            have h1 : insK ⟨2, N, X, A⟩ = false := by unfold insK; rw [ho]; rfl
            have h3 : insE ⟨2, N, X, A⟩ = ⟨#[]⟩ := by unfold insE; rw [ho]; rfl
            rw [leaf_src raw k h1 h3, ← HT1.out]
            rfl⟩
          go_wp2_with (go_at_call 34; refine (rIs_one N wr true HVD).mono ?_; rintro e w4 ⟨rfl, hb4⟩; have HB4 : Fact (Below w.heap.size w w4) := ⟨HWR.out.trans (hb4.mono (by have := HWR.out.size; omega))⟩; clear hb4)
          go_ret
          exact ⟨B1, rfl, HD.out.symm, HB4.out⟩
  · have k5 : (K == 5) = false := beq_eq_false_iff_ne.2 n5
    have k4 : (K == 4) = false := beq_eq_false_iff_ne.2 n4
    have k3 : (K == 3) = false := beq_eq_false_iff_ne.2 n3
    have k1 : (K == 1) = false := beq_eq_false_iff_ne.2 n1
    have k2 : (K == 2) = false := beq_eq_false_iff_ne.2 n2
    have HD : Fact (fltP (pcs raw (.cons ⟨K, N, X, A⟩ k .nil)) = []) := ⟨by
      have hi : insK ⟨K, N, X, A⟩ = false := by unfold insK opn; rw [show (Nd.mk K N X A).k = K from rfl, k1, k2]; rfl
      have he : insE ⟨K, N, X, A⟩ = ⟨#[]⟩ := by unfold insE opn; rw [show (Nd.mk K N X A).k = K from rfl, k2]; rfl
      rw [leaf_src raw k hi he]
      unfold begP
      rw [if_neg n5, if_neg n4, if_neg n3, if_neg n2]
      rfl⟩
    clear HKC hat n5 n4 n3 n1 n2
    go_enter Tryd.func24, Tryd.ntmps24
    go_wp2_with fail
    rw [HW1.out]
    go_wp2_with fail
    go_ret
    exact ⟨⟨#[]⟩, rfl, by rw [HD.out], HB1.out⟩
theorem rtext_any (k : M.F) : RTextP k := indH rtext_step k
theorem src_raw (d : Nd) (k : M.F) : srcB d k = fltP (pcs false (.cons d k .nil)) := rfl
set_option maxRecDepth 20000 in
set_option maxHeartbeats 4000000 in
/-- the chapter's Text is what the program's is -/
theorem rtext_l {P : Prop} {w W : World} {K : Int} {N X : ByteArray} {A : List (ByteArray × ByteArray)} {k : M.F} {va ka : Value} {T : ByteArray} (ha : TrT w K N X A k va ka T) (h : Below w.heap.size w W ∧ P) :
    Calls Tryd.prog 12 #[.agg #[.int .i64 K, .string N, .string X, va, ka]] W fun e w' => e = .returned (.string T) ∧ Below W.heap.size W w' := by
  have hc := fun (W' : World) (hW : Below W.heap.size W W') => rtext_any k ⟨K, N, X, A⟩ va ka w.heap.size false W' (ha.lies.below (h.1.trans (hW.mono h.1.size))) (Nat.le_trans h.1.size hW.size) ha.ok.1 ha.ok.2.1 (by have := ha.size; omega)
  obtain ⟨p1, p2, p3, rfl⟩ := ha.lies.a.val
  obtain ⟨q1, q2, rfl⟩ := ha.lies.f.val
  obtain ⟨l, hl⟩ : ∃ l, k.len = l := ⟨_, rfl⟩
  rw [hl] at hc ⊢
  have HC := Fact.mk hc
  have HS : Fact (fltP (pcs false (.cons ⟨K, N, X, A⟩ k .nil)) = T.data.toList) := ⟨ha.src⟩
  clear hc ha h hl
  go_enter Tryd.func12, Tryd.ntmps12
  go_wp2_with (go_at_call 24; have hb0 : Below W.heap.size W (W.alloc (.cells #[.int .i64 K, .string N, .string X, .slice p1 p2 p3, .slice q1 l q2] 25)) := (Below.refl _ W).alloc (Nat.le_refl _) _; refine (HC.out _ hb0).mono ?_; rintro e w2 ⟨Z, rfl, hZ, hb⟩; have hZT : T = Z := (ByteArray.ext (Array.toList_inj.1 (hZ.trans HS.out))).symm)
  go_ret
  rw [hZT]
  exact ⟨rfl, hb0.trans (hb.mono hb0.size)⟩
end Go.Proofs.YtibagbnnplpfgaaDoor
end

section
set_option linter.unusedVariables false
set_option linter.unusedSimpArgs false
namespace Go.Proofs.YtibagbnnplpfgaaDoor
open Go.Deep (BT)
open Go.RowKit M

theorem ci_self' (a : Int) : ci a a = 0 := by unfold ci; rw [if_neg (by omega), if_neg (by omega)]
theorem cl_self' : ∀ l, cl l l = 0
  | [] => rfl
  | a :: l => by show orI (ci a.toNat a.toNat) (cl l l) = 0; rw [ci_self', cl_self' l]; rfl
theorem ca_self' : ∀ l, ca l l = 0
  | [] => rfl
  | p :: l => by
    have h1 : cp p p = 0 := by unfold cp cs; rw [cl_self', cl_self']; rfl
    show orI (cp p p) (ca l l) = 0; rw [h1, ca_self' l]; rfl
theorem cn_self' (d : Nd) : cn d d = 0 := by
  unfold cn cs
  rw [ci_self', cl_self', cl_self', ca_self']
  rfl
theorem cF_self' : ∀ f : M.F, cF f f = 0
  | .nil => rfl
  | .node _ _ d k r => by
    show orI (cn d d) (orI (cF k k) (cF r r)) = 0
    rw [cn_self', cF_self' k, cF_self' r]; rfl
theorem cT_self' (d : Nd) (k : M.F) : cT d k d k = 0 := by
  unfold cT; rw [cn_self', cF_self']; rfl
/-- what Join makes of a tree is one that is not too much -/
theorem join_l {P : Prop} {w W : World} {K : Int} {N X : ByteArray} {A : List (ByteArray × ByteArray)} {k : M.F} {va ka : Value} {T : ByteArray} {jl : Nat} (hjl : (joinF k).len = jl) (ha : TrT w K N X A k va ka T) (h : Below w.heap.size w W ∧ P) :
    Calls Tryd.prog 16 #[.agg #[.int .i64 K, .string N, .string X, va, ka]] W fun e w' => ∃ y1 y2 y3 z1 z3, e = .returned (.agg #[.int .i64 K, .string N, .string X, .slice y1 y2 y3, .slice z1 jl z3]) ∧ Below W.heap.size W w' ∧ ∃ T', TrT w' K N X A (joinF k) (.slice y1 y2 y3) (.slice z1 jl z3) T' := by
  have hok := joinF_ok ha.ok.2.1
  refine (join_any K N X A k va ka w.heap.size W (ha.lies.below h.1) h.1.size ⟨ha.ok.1, ha.ok.2.1⟩ ha.size).mono ?_
  rintro e w' ⟨av', kv', rfl, hb, hA, hF⟩
  obtain ⟨y1, y2, y3, rfl⟩ := hA.val
  obtain ⟨z1, z3, rfl⟩ := hF.val
  rw [hjl] at hF ⊢
  have h3 := ha.size
  have h4 := depth_size (joinF k)
  exact ⟨y1, y2, y3, z1, z3, rfl, hb, ⟨(srcB ⟨K, N, X, A⟩ (joinF k)).toArray⟩, ⟨⟨hA.inn.mono (fun b hb => hb.2), hF.inn.mono (fun b hb => hb.2)⟩, by omega, by omega, ⟨ha.ok.1, hok.1, trivial⟩, rfl, ha.met.below (h.1.trans (hb.mono h.1.size))⟩⟩

theorem solo_keep {w W w' : World} {xs : Array Value} (hb : Below W.heap.size W w') (h : Below w.heap.size w W ∧ w.heap.size + 1 ≤ W.heap.size ∧ (∀ i, W.cell? ⟨w.heap.size, i, none⟩ = xs[i]?)) :
    Below w.heap.size w w' ∧ w.heap.size + 1 ≤ w'.heap.size ∧ (∀ i, w'.cell? ⟨w.heap.size, i, none⟩ = xs[i]?) := by
  obtain ⟨h1, h2, h4⟩ := h
  have hs := hb.size
  exact ⟨h1.trans (hb.mono (by omega)), by omega, fun i => (hb.cell (p := ⟨w.heap.size, i, none⟩) (by show w.heap.size < _; omega)).trans (h4 i)⟩
theorem solo_start (w : World) (xs : Array Value) (t : TypeId) : Below w.heap.size w (w.alloc (.cells xs t)) ∧ w.heap.size + 1 ≤ (w.alloc (.cells xs t)).heap.size ∧ (∀ i, (w.alloc (.cells xs t)).cell? ⟨w.heap.size, i, none⟩ = xs[i]?) :=
  ⟨(Below.refl _ w).alloc (Nat.le_refl _) _, by simp, fun i => World.cell?_alloc_at _ _ _ _ rfl⟩
theorem rsz_l {P : Prop} {w W : World} {K : Int} {N X : ByteArray} {A : List (ByteArray × ByteArray)} {k : M.F} {va ka : Value} (r : Nat) (hr : Fact (k.size + 1 = r)) (hl : Lies w.heap.size w ⟨K, N, X, A⟩ k va ka) (hs : k.size ≤ 1000000) (h : Below w.heap.size w W ∧ P) :
    Calls Tryd.prog 18 #[.agg #[.int .i64 K, .string N, .string X, va, ka]] W fun e w' => e = .returned (.int .i64 r) ∧ Below W.heap.size W w' := by
  rw [← hr.out]; exact rsize_any k ⟨K, N, X, A⟩ va ka w.heap.size W (hl.below h.1) h.1.size hs

set_option maxRecDepth 20000 in
set_option maxHeartbeats 8000000 in
theorem joins_walk (d1 : Nd) (k1 : M.F) (va1 ka1 : Value) (w : World) (h1 : Lies w.heap.size w d1 k1 va1 ka1) (hm : Met w) :
    Calls Tryd.prog 4 #[nodeV d1 va1 ka1] w fun e w' => e = .returned (.bool true) ∧ Below w.heap.size w w' := by
  obtain ⟨p1, p2, p3, e1⟩ := h1.a.val
  obtain ⟨q1, q2, e4⟩ := h1.f.val
  subst e1 e4
  obtain ⟨l1, hl1⟩ : ∃ l1, k1.len = l1 := ⟨_, rfl⟩
  rw [hl1] at h1 ⊢
  have HL1 := Fact.mk hl1
  clear hl1
  obtain ⟨K1, N1, X1, A1⟩ := d1
  have H1 := Fact.mk h1
  have HM := Fact.mk hm
  clear h1 hm
  obtain ⟨W0, hW0⟩ : ∃ W0, w.alloc (.cells #[.int .i64 K1, .string N1, .string X1, .slice p1 p2 p3, .slice q1 l1 q2] 25) = W0 := ⟨_, rfl⟩
  have hb0 : Below w.heap.size w W0 := by rw [← hW0]; exact (Below.refl _ w).alloc (Nat.le_refl _) _
  have hs0 : w.heap.size < W0.heap.size := by rw [← hW0]; simp
  have hx0 : ∀ i u, (#[.int .i64 K1, .string N1, .string X1, .slice p1 p2 p3, .slice q1 l1 q2] : Array Value)[i]? = some u → W0.cell? ⟨w.heap.size, i, none⟩ = some u := fun i u h => by
    rw [← hW0]; exact (World.cell?_alloc_new w _ _ i).trans h
  have HX : Fact (∀ w', Below W0.heap.size W0 w' → ∀ i u, (#[.int .i64 K1, .string N1, .string X1, .slice p1 p2 p3, .slice q1 l1 q2] : Array Value)[i]? = some u → w'.cell? ⟨w.heap.size, i, none⟩ = some u) := ⟨fun w' h i u hu => (h.cell (p := ⟨w.heap.size, i, none⟩) hs0).trans (hx0 i u hu)⟩
  have HB0 := Fact.mk (And.intro hb0 hs0)
  have HW0 := Fact.mk hW0
  have x0 := hx0 0 _ rfl
  have x1 := hx0 1 _ rfl
  have x2 := hx0 2 _ rfl
  have x3 := hx0 3 _ rfl
  have x4 := hx0 4 _ rfl
  clear hb0 hs0 hx0 hW0
  go_enter Tryd.func4, Tryd.ntmps4
  go_wp2_with fail
  rw [HW0.out]
  go_wp2_with fail
  refine (SmallA_any ⟨K1, N1, X1, A1⟩ k1 _ _ w.heap.size W0 (H1.out.below HB0.out.1) HB0.out.1.size).mono ?_
  rintro e w1 (⟨rfl, hb1⟩ | ⟨rfl, hb1, f1⟩)
  · go_wp2_with (go_at_call 10; refine (awake_l HM.out ⟨HB0.out.1.trans (hb1.mono HB0.out.1.size), trivial⟩).mono ?_; rintro e w9 ⟨rfl, hb9⟩)
    go_ret
    exact ⟨rfl, HB0.out.1.trans ((hb1.mono HB0.out.1.size).trans (hb9.mono (Nat.le_trans HB0.out.1.size hb1.size)))⟩
  obtain ⟨T1, ht1⟩ := TrT.mk' (W := w) H1.out f1.out HM.out
  have HT1 := Fact.mk ht1
  have HB1 := Fact.mk hb1
  have h01 : Below w.heap.size w w1 ∧ True := ⟨HB0.out.1.trans (hb1.mono HB0.out.1.size), trivial⟩
  have H01 := Fact.mk h01
  have y0 := HX.out w1 hb1 0 _ rfl
  have y1 := HX.out w1 hb1 1 _ rfl
  have y2 := HX.out w1 hb1 2 _ rfl
  have y3 := HX.out w1 hb1 3 _ rfl
  have y4 := HX.out w1 hb1 4 _ rfl
  clear ht1 hb1 h01 x0 x1 x2 x3 x4
  obtain ⟨sz, hsz⟩ : ∃ sz, k1.size + 1 = sz := ⟨_, rfl⟩
  have hs4 : sz ≤ 400 := by have := f1.out.size; omega
  have hk6 : k1.size ≤ 1000000 := by omega
  have HSZ := Fact.mk hsz
  obtain ⟨jl, hjl⟩ : ∃ jl, (joinF k1).len = jl := ⟨_, rfl⟩
  have HJL := Fact.mk hjl
  have HJ2 : Fact ((joinF (joinF k1)).len = jl) := ⟨by rw [joinF_idem]; exact hjl⟩
  have HCT : Fact (decide (cT ⟨K1, N1, X1, A1⟩ (joinF (joinF k1)) ⟨K1, N1, X1, A1⟩ (joinF k1) = 0) = true) := ⟨decide_eq_true (by rw [joinF_idem]; exact cT_self' _ _)⟩
  clear hsz hjl f1
  by_cases h40 : sz ≤ 40
  · have sI : ¬ (40 : Int) < sz := by omega
    have sB : decide ((40 : Int) < sz) = false := decide_eq_false sI
    go_wp2_with (first
      | (go_at_call 18; with_reducible refine (rsz_l sz HSZ H1.out hk6 H01.out).mono ?_; rintro e w2 ⟨rfl, hb2⟩; have h02 : Below w.heap.size w w2 ∧ True := ⟨H01.out.1.trans (hb2.mono H01.out.1.size), trivial⟩; have z0 := HX.out w2 (HB1.out.trans (hb2.mono HB1.out.size)) 0 _ rfl; have z1 := HX.out w2 (HB1.out.trans (hb2.mono HB1.out.size)) 1 _ rfl; have z2 := HX.out w2 (HB1.out.trans (hb2.mono HB1.out.size)) 2 _ rfl; have z3 := HX.out w2 (HB1.out.trans (hb2.mono HB1.out.size)) 3 _ rfl; have z4 := HX.out w2 (HB1.out.trans (hb2.mono HB1.out.size)) 4 _ rfl; clear hb2 y0 y1 y2 y3 y4)
      | (go_at_call 11; with_reducible refine (copy_l HL1.out HT1.out h02).mono ?_; rintro e w3 ⟨a1, a2, a3, b1, b3, rfl, hb3, ht3, _, _⟩; have HT3 := Fact.mk ht3; have h33 : Below w3.heap.size w3 w3 ∧ True := ⟨Below.refl _ _, trivial⟩; have h03 : Below w.heap.size w w3 := h02.1.trans (hb3.mono h02.1.size); clear ht3 hb3 z0 z1 z2 z3 z4)
      | (go_at_call 16; with_reducible refine (join_l HJL.out HT3.out h33).mono ?_; rintro e w4 ⟨c1, c2, c3, d1, d3, rfl, hb4, T4, ht4⟩; have HT4 := Fact.mk ht4; have h04 : Below w.heap.size w w4 := h03.trans (hb4.mono h03.size); clear ht4 hb4))
    have hS0 := solo_keep (Below.refl _ _).drew (solo_start w4 #[.int .i64 K1, .string N1, .string X1, .slice c1 c2 c3, .slice d1 jl d3] 25)
    go_region_held3 (fun w' => Below w4.heap.size w4 w' ∧ w4.heap.size + 1 ≤ w'.heap.size ∧ (∀ i, w'.cell? ⟨w4.heap.size, i, none⟩ = (#[.int .i64 K1, .string N1, .string X1, .slice c1 c2 c3, .slice d1 jl d3] : Array Value)[i]?))
      (first | with_reducible exact hS0 | with_reducible assumption)
      (first
        | (go_at_call 11; with_reducible refine (copy_l HJL.out HT4.out hS0).mono ?_; rintro e w5 ⟨f1, f2, f3, g1, g3, rfl, hb5, ht5, _, _⟩; have HT5 := Fact.mk ht5; have hB5 : Below w5.heap.size w5 w5 ∧ True := ⟨Below.refl _ _, trivial⟩; have hS5 := solo_keep hb5 hS0; clear hb5 ht5)
        | (go_at_call 16; with_reducible refine (join_l HJ2.out HT5.out hB5).mono ?_; rintro e w6 ⟨h1, h2, h3, m1, m3, rfl, hb6, T6, ht6⟩; have HT6 := Fact.mk ht6; have hB6 : Below w6.heap.size w6 w6 ∧ True := ⟨Below.refl _ _, trivial⟩; have hS6 := solo_keep hb6 hS5; have HL6 := Fact.mk ((HT4.out.lies.below hS6.1).here hS6.1.size); clear hb6 ht6)
        | (go_at_call 15; with_reducible refine (rsame_l true HCT HT6.out.lies HL6.out hB6).mono ?_; rintro e w7 ⟨rfl, hb7⟩; have hS7 := solo_keep hb7 hS6; clear hb7)
        | (go_at_call 10; with_reducible refine (awake_l HT4.out.met hS7).mono ?_; rintro e w8 ⟨rfl, hb8⟩; have hS8 := solo_keep hb8 hS7; clear hb8))
    go_wp2_with fail
    go_ret
    exact ⟨rfl, h04.trans (hS8.1.mono h04.size)⟩
  · have sI : (40 : Int) < sz := by omega
    have sB : decide ((40 : Int) < sz) = true := decide_eq_true sI
    go_wp2_with (first
      | (go_at_call 18; with_reducible refine (rsz_l sz HSZ H1.out hk6 H01.out).mono ?_; rintro e w2 ⟨rfl, hb2⟩; have h02 : Below w.heap.size w w2 ∧ True := ⟨H01.out.1.trans (hb2.mono H01.out.1.size), trivial⟩; clear hb2 y0 y1 y2 y3 y4)
      | (go_at_call 10; refine (awake_l HM.out h02).mono ?_; rintro e w9 ⟨rfl, hb9⟩))
    go_ret
    exact ⟨rfl, h02.1.trans (hb9.mono h02.1.size)⟩
end Go.Proofs.YtibagbnnplpfgaaDoor
end
