/- TreeNames, walked: names just so long; bytes that may not be in them. -/
import Derived.Test.YtblgjmohcdioeaaAwake
import Derived.Laws.BytesArg
import Derived.Laws.IdiomStrings
import Derived.Lib.Strings
set_option linter.unusedVariables false
namespace Go.Proofs.Ytblgjmohcdioeaa
open Go.Deep (BT)
open Go.RowKit M

theorem nm1 : nameOK ⟨#[97, 98, 99, 100, 101, 102, 103, 104, 105, 106, 107, 108, 109, 110, 111, 112, 113, 114, 115, 116, 117, 118, 119, 120, 121, 122, 48, 49, 50, 51, 52, 53]⟩ = true := by kernel_rfl
theorem nm2 : nameOK (⟨#[97, 98, 99, 100, 101, 102, 103, 104, 105, 106, 107, 108, 109, 110, 111, 112, 113, 114, 115, 116, 117, 118, 119, 120, 121, 122, 48, 49, 50, 51, 52, 53]⟩ ++ ⟨#[54]⟩) = false := by kernel_rfl
theorem nm3 : nameOK ⟨#[]⟩ = false := by kernel_rfl
theorem nm4 : nameOK ⟨#[195, 169, 45, 95, 58, 46, 38, 59]⟩ = true := by kernel_rfl
theorem nmx (b : UInt8) : nameOK (⟨#[120]⟩ ++ ⟨[b].toArray⟩) = nbOK b.toNat := by
  have e : (⟨#[120]⟩ ++ ⟨[b].toArray⟩ : ByteArray).data.toList = [120, b] := by simp [ByteArray.data_append]
  have z : (⟨#[120]⟩ ++ ⟨[b].toArray⟩ : ByteArray).size = 2 := by rw [Lib.size_eq, e]; rfl
  have x : nbOK (120 : UInt8).toNat = true := by kernel_rfl
  unfold nameOK nOK
  rw [z, e]
  rw [show List.all [120, b] (fun b => nbOK b.toNat) = (nbOK (120 : UInt8).toNat && (nbOK b.toNat && true)) from rfl, x]
  simp

set_option maxRecDepth 20000 in
set_option maxHeartbeats 4000000 in
theorem names_true (w : World) : Calls Try.prog 8 #[] w fun e w' => e = .returned (.bool true) ∧ Below w.heap.size w w' := by
  have N1 : Fact (nameOK ⟨#[97, 98, 99, 100, 101, 102, 103, 104, 105, 106, 107, 108, 109, 110, 111, 112, 113, 114, 115, 116, 117, 118, 119, 120, 121, 122, 48, 49, 50, 51, 52, 53]⟩ = true) := ⟨nm1⟩
  have N2 : Fact (nameOK (⟨#[97, 98, 99, 100, 101, 102, 103, 104, 105, 106, 107, 108, 109, 110, 111, 112, 113, 114, 115, 116, 117, 118, 119, 120, 121, 122, 48, 49, 50, 51, 52, 53]⟩ ++ ⟨#[54]⟩) = false) := ⟨nm2⟩
  have N3 : Fact (nameOK ⟨#[]⟩ = false) := ⟨nm3⟩
  have N4 : Fact (nameOK ⟨#[195, 169, 45, 95, 58, 46, 38, 59]⟩ = true) := ⟨nm4⟩
  have t1 : True := trivial
  have t2 : True := trivial
  have t3 : True := trivial
  go_enter Try.func8, Try.ntmps8
  go_wp2_with (first
    | (go_at_call 16; have _t := t1; refine (name_at _ true N1 _).mono ?_; rintro e w1 ⟨rfl, hw1⟩; have hw2 := hw1.symm; subst hw2; clear hw1; clear t1 _t)
    | (go_at_call 16; have _t := t2; refine (name_at _ false N2 _).mono ?_; rintro e w1 ⟨rfl, hw1⟩; have hw2 := hw1.symm; subst hw2; clear hw1; clear t2 _t)
    | (go_at_call 16; have _t := t3; refine (name_at _ false N3 _).mono ?_; rintro e w1 ⟨rfl, hw1⟩; have hw2 := hw1.symm; subst hw2; clear hw1; clear t3 _t)
    | (go_at_call 16; refine (name_at _ true N4 _).mono ?_; rintro e w1 ⟨rfl, hw1⟩; have hw2 := hw1.symm; subst hw2; clear hw1))
  clear N1 N2 N3 N4
  go_loopg [2] 128 (fun gf i wx => ∃ k : Nat, i = .int .i64 k ∧ k ≤ 128 ∧ 128 ≤ k + gf ∧ Below w.heap.size w wx)
  case atStart => exact ⟨0, rfl, by omega, by omega, Below.refl _ _⟩
  case round =>
    obtain ⟨k, rfl, hk, hfu, hb⟩ := hrel
    by_cases hlt : k < 128
    · obtain ⟨g', rfl⟩ : ∃ g', gk = g' + 1 := ⟨gk - 1, by omega⟩
      have hb1 : Below w.heap.size w (wr.alloc (.cells #[.int .u8 k] 5)) := hb.alloc hb.size _
      have HB := Fact.mk hb1
      have hbn : (UInt8.ofNat k).toNat = k := by simp; omega
      have hcv : (convert 46 9 (.slice (some ⟨wr.heap.size, 0, none⟩) 1 1)).run Try.prog (wr.alloc (.cells #[.int .u8 k] 5)) = .ok (.string ⟨[UInt8.ofNat k].toArray⟩) (wr.alloc (.cells #[.int .u8 k] 5)) := by
        refine run_convert_bytes_back _ 46 9 5 ⟨wr.heap.size, 0, none⟩ 1 [UInt8.ofNat k] Try.underlying46 Try.underlying5 Try.underlying9 (fun j hj => ?_)
        obtain rfl : j = 0 := by simpa using hj
        have := World.cell?_alloc_new wr #[.int .u8 k] 5 0
        simp only [List.getElem_cons_zero, hbn]
        exact this
      have HN : Fact (nameOK (⟨#[120]⟩ ++ ⟨[UInt8.ofNat k].toArray⟩) = nbOK k) := ⟨by rw [nmx, hbn]⟩
      obtain ⟨S, hS⟩ : ∃ S : ByteArray, (⟨[UInt8.ofNat k].toArray⟩ : ByteArray) = S := ⟨_, rfl⟩
      have hSs : S.size = 1 := by rw [← hS]; rfl
      rw [hS] at hcv HN
      clear hS hbn hb1
      have hu8 : (k : Int) % 256 = k := by omega
      cases hn : nbOK k
      · have hor : k = 9 ∨ k = 10 ∨ k = 12 ∨ k = 32 ∨ k = 0 ∨ k = 34 ∨ k = 39 ∨ k = 62 ∨ k = 47 ∨ k = 61 ∨ k = 60 ∨ (65 ≤ k ∧ k ≤ 90) := by
          unfold nbOK at hn; rw [Bool.not_eq_false'] at hn; exact of_decide_eq_true hn
        have HN' : Fact (nameOK (⟨#[120]⟩ ++ S) = false) := ⟨HN.out.trans hn⟩
        clear HN hn
        rcases hor with h | h | h | h | h | h | h | h | h | h | h | h
        all_goals
          first | have b0 : ((k : Int) == 0) = false := by rw [beq_eq_false_iff_ne]; omega
                | have b0 : ((k : Int) == 0) = true := by rw [beq_iff_eq]; omega
          first | have b9 : ((k : Int) == 9) = false := by rw [beq_eq_false_iff_ne]; omega
                | have b9 : ((k : Int) == 9) = true := by rw [beq_iff_eq]; omega
          first | have b10 : ((k : Int) == 10) = false := by rw [beq_eq_false_iff_ne]; omega
                | have b10 : ((k : Int) == 10) = true := by rw [beq_iff_eq]; omega
          first | have b12 : ((k : Int) == 12) = false := by rw [beq_eq_false_iff_ne]; omega
                | have b12 : ((k : Int) == 12) = true := by rw [beq_iff_eq]; omega
          first | have b32 : ((k : Int) == 32) = false := by rw [beq_eq_false_iff_ne]; omega
                | have b32 : ((k : Int) == 32) = true := by rw [beq_iff_eq]; omega
          first | have b34 : ((k : Int) == 34) = false := by rw [beq_eq_false_iff_ne]; omega
                | have b34 : ((k : Int) == 34) = true := by rw [beq_iff_eq]; omega
          first | have b39 : ((k : Int) == 39) = false := by rw [beq_eq_false_iff_ne]; omega
                | have b39 : ((k : Int) == 39) = true := by rw [beq_iff_eq]; omega
          first | have b62 : ((k : Int) == 62) = false := by rw [beq_eq_false_iff_ne]; omega
                | have b62 : ((k : Int) == 62) = true := by rw [beq_iff_eq]; omega
          first | have b47 : ((k : Int) == 47) = false := by rw [beq_eq_false_iff_ne]; omega
                | have b47 : ((k : Int) == 47) = true := by rw [beq_iff_eq]; omega
          first | have b61 : ((k : Int) == 61) = false := by rw [beq_eq_false_iff_ne]; omega
                | have b61 : ((k : Int) == 61) = true := by rw [beq_iff_eq]; omega
          first | have b60 : ((k : Int) == 60) = false := by rw [beq_eq_false_iff_ne]; omega
                | have b60 : ((k : Int) == 60) = true := by rw [beq_iff_eq]; omega
          first | have hZb : decide ((k : Int) ≤ 90) = true := decide_eq_true (by omega)
                | skip
          first | have hAb : decide (65 ≤ (k : Int)) = true := decide_eq_true (by omega)
                | skip
          clear h
          go_wp2_with (go_at_call 16; refine (name_at _ false HN' _).mono ?_; rintro e w1 ⟨rfl, hw1⟩; have hw2 := hw1.symm; subst hw2; clear hw1)
          go_roundg g'
          case measure => omega
          case rel => exact ⟨k + 1, by go_num, by omega, by omega, HB.out⟩
      · have hor : ¬ (k = 9 ∨ k = 10 ∨ k = 12 ∨ k = 32 ∨ k = 0 ∨ k = 34 ∨ k = 39 ∨ k = 62 ∨ k = 47 ∨ k = 61 ∨ k = 60 ∨ (65 ≤ k ∧ k ≤ 90)) := by
          unfold nbOK at hn; rw [Bool.not_eq_true'] at hn; exact of_decide_eq_false hn
        have HN' : Fact (nameOK (⟨#[120]⟩ ++ S) = true) := ⟨HN.out.trans hn⟩
        clear HN hn
        have b0 : ((k : Int) == 0) = false := by rw [beq_eq_false_iff_ne]; omega
        have b1 : ((k : Int) == 9) = false := by rw [beq_eq_false_iff_ne]; omega
        have b2 : ((k : Int) == 10) = false := by rw [beq_eq_false_iff_ne]; omega
        have b3 : ((k : Int) == 12) = false := by rw [beq_eq_false_iff_ne]; omega
        have b4 : ((k : Int) == 32) = false := by rw [beq_eq_false_iff_ne]; omega
        have b5 : ((k : Int) == 34) = false := by rw [beq_eq_false_iff_ne]; omega
        have b6 : ((k : Int) == 39) = false := by rw [beq_eq_false_iff_ne]; omega
        have b7 : ((k : Int) == 62) = false := by rw [beq_eq_false_iff_ne]; omega
        have b8 : ((k : Int) == 47) = false := by rw [beq_eq_false_iff_ne]; omega
        have b9 : ((k : Int) == 61) = false := by rw [beq_eq_false_iff_ne]; omega
        have b10 : ((k : Int) == 60) = false := by rw [beq_eq_false_iff_ne]; omega
        by_cases hA : 65 ≤ k
        · have hZ : ¬ k ≤ 90 := by omega
          have hZb : decide ((k : Int) ≤ 90) = false := decide_eq_false (by omega)
          have hAb : decide (65 ≤ (k : Int)) = true := decide_eq_true (by omega)
          clear hor
          go_wp2_with (go_at_call 16; refine (name_at _ true HN' _).mono ?_; rintro e w1 ⟨rfl, hw1⟩; have hw2 := hw1.symm; subst hw2; clear hw1)
          go_roundg g'
          case measure => omega
          case rel => exact ⟨k + 1, by go_num, by omega, by omega, HB.out⟩
        · have hAb : decide (65 ≤ (k : Int)) = false := decide_eq_false (by omega)
          clear hor
          go_wp2_with (go_at_call 16; refine (name_at _ true HN' _).mono ?_; rintro e w1 ⟨rfl, hw1⟩; have hw2 := hw1.symm; subst hw2; clear hw1)
          go_roundg g'
          case measure => omega
          case rel => exact ⟨k + 1, by go_num, by omega, by omega, HB.out⟩
    · go_wp2_with (go_at_call 10; refine (awake_true _).mono ?_; rintro e w1 ⟨rfl, hb1⟩)
      go_ret
      exact ⟨rfl, hb.trans (hb1.mono hb.size)⟩
end Go.Proofs.Ytblgjmohcdioeaa
