/- What cmp.Compare, cmp.Or and compareAttrs answer. -/
import Derived.Test.YtkojhgagkoeeiaaAwake
import Derived.Test.YtkojhgagkoeeiaaOrder
import Derived.Deep.RegionHeld3
set_option linter.unusedVariables false
namespace Go.Proofs.Ytkojhgagkoeeiaa
open Go.Deep (BT)
open Go.RowKit M

theorem nanI_any (a : Int) (w : World) : Calls Try.prog 46 #[.int .i64 a] w fun e w' => e = .returned (.bool false) ∧ w' = w := by
  go_enter Try.func46, Try.ntmps46
  go_wp2
  go_ret
  exact ⟨rfl, rfl⟩
theorem nanS_any (a : ByteArray) (w : World) : Calls Try.prog 83 #[.string a] w fun e w' => e = .returned (.bool false) ∧ w' = w := by
  go_enter Try.func83, Try.ntmps83
  go_wp2
  go_ret
  exact ⟨rfl, rfl⟩
theorem cmpI_any (a b : Int) (w : World) : Calls Try.prog 27 #[.int .i64 a, .int .i64 b] w fun e w' => e = .returned (.int .i64 (ci a b)) ∧ w' = w := by
  rcases ci_cases a b with ⟨h, e⟩ | ⟨h, e⟩ | ⟨h, e⟩
  · rw [e]
    clear e
    go_enter Try.func27, Try.ntmps27
    go_wp2_with (go_at_call 46; refine (nanI_any _ _).mono ?_; rintro e w1 ⟨rfl, rfl⟩)
    go_ret
    exact ⟨rfl, rfl⟩
  · rw [e]
    have h2 : ¬ a < b := by omega
    clear e
    go_enter Try.func27, Try.ntmps27
    go_wp2_with (go_at_call 46; refine (nanI_any _ _).mono ?_; rintro e w1 ⟨rfl, rfl⟩)
    go_ret
    exact ⟨rfl, rfl⟩
  · rw [e]
    subst h
    clear e
    go_enter Try.func27, Try.ntmps27
    go_wp2_with (go_at_call 46; refine (nanI_any _ _).mono ?_; rintro e w1 ⟨rfl, rfl⟩)
    go_ret
    exact ⟨rfl, rfl⟩

theorem less_cl : ∀ x y : List UInt8, Op.bytesLess x y = decide (cl x y = -1)
  | [], [] => rfl
  | [], _ :: _ => rfl
  | _ :: _, [] => rfl
  | a :: x, b :: y => by
    have ih := less_cl x y
    rw [Op.bytesLess, ih]
    show _ = decide (orI (ci a.toNat b.toNat) (cl x y) = -1)
    have h1 : decide (a < b) = decide ((a.toNat : Int) < b.toNat) := decide_eq_decide.2 (by rw [UInt8.lt_iff_toNat_lt]; omega)
    have h2 : (a == b) = decide ((a.toNat : Int) = b.toNat) := by
      rw [Bool.eq_iff_iff, beq_iff_eq, decide_eq_true_eq]
      constructor
      · intro h; rw [h]
      · intro h; exact UInt8.toNat_inj.1 (by omega)
    rw [h1, h2]
    rcases ci_cases a.toNat b.toNat with ⟨h, e⟩ | ⟨h, e⟩ | ⟨h, e⟩
    · rw [e, decide_eq_true h]; rfl
    · rw [e, decide_eq_false (by omega), decide_eq_false (by omega)]; rfl
    · rw [e, decide_eq_false (by omega), decide_eq_true h]; rfl
theorem eq_cl (x y : List UInt8) : (x == y) = decide (cl x y = 0) := by
  rw [Bool.eq_iff_iff, beq_iff_eq, decide_eq_true_eq, cl_zero]

theorem toList_data (a : ByteArray) : a.toList = a.data.toList := Lib.toList_data a

theorem cmpS_any (a b : ByteArray) (w : World) : Calls Try.prog 78 #[.string a, .string b] w fun e w' => e = .returned (.int .i64 (cs a b)) ∧ w' = w := by
  have hl := less_cl a.data.toList b.data.toList
  have he := eq_cl a.data.toList b.data.toList
  rw [← toList_data, ← toList_data] at hl he
  have hsg := (cs_sg a b).h
  unfold cs at hsg ⊢
  rw [← toList_data, ← toList_data] at hsg ⊢
  obtain ⟨c, hc⟩ : ∃ c, cl a.toList b.toList = c := ⟨_, rfl⟩
  rw [hc] at hl he hsg ⊢
  clear hc
  rcases hsg with rfl | rfl | rfl
  · have h1 : Op.bytesLess a.toList b.toList = true := hl.trans rfl
    have h2 : (a.toList == b.toList) = false := he.trans rfl
    clear hl he
    go_enter Try.func78, Try.ntmps78
    go_wp2_with (go_at_call 83; refine (nanS_any _ _).mono ?_; rintro e w1 ⟨rfl, rfl⟩)
    go_ret
    exact ⟨rfl, rfl⟩
  · have h1 : Op.bytesLess a.toList b.toList = false := hl.trans rfl
    have h2 : (a.toList == b.toList) = true := he.trans rfl
    clear hl he
    go_enter Try.func78, Try.ntmps78
    go_wp2_with (go_at_call 83; refine (nanS_any _ _).mono ?_; rintro e w1 ⟨rfl, rfl⟩)
    go_ret
    exact ⟨rfl, rfl⟩
  · have h1 : Op.bytesLess a.toList b.toList = false := hl.trans rfl
    have h2 : (a.toList == b.toList) = false := he.trans rfl
    clear hl he
    go_enter Try.func78, Try.ntmps78
    go_wp2_with (go_at_call 83; refine (nanS_any _ _).mono ?_; rintro e w1 ⟨rfl, rfl⟩)
    go_ret
    exact ⟨rfl, rfl⟩

def orL : List Int → Int
  | [] => 0
  | z :: zs => orI z (orL zs)

theorem or_any (x : Addr) (n c : Nat) (zs : List Int) (w : World) (hn : zs.length = n) (hb : n ≤ 100) (hc : ∀ i (h : i < zs.length), w.cell? (x.add i) = some (.int .i64 zs[i])) :
    Calls Try.prog 77 #[.slice (some x) n c] w fun e w' => e = .returned (.int .i64 (orL zs)) ∧ w' = w := by
  have HC := Fact.mk hc
  clear hc
  go_enter Try.func77, Try.ntmps77
  go_wp2
  go_loop [8] (fun i => ∃ k : Nat, k ≤ n ∧ i = .int .i64 k ∧ Fact (orL (zs.drop k) = orL zs)) (fun i => n - (intOf i).toNat)
  case atStart => exact ⟨0, Nat.zero_le _, rfl, ⟨rfl⟩⟩
  case round =>
    obtain ⟨k, hk, rfl, hf⟩ := hrel
    by_cases hlt : k < n
    · have hck := HC.out k (by omega)
      have ht : orL (zs.drop k) = orI zs[k] (orL (zs.drop (k + 1))) := by
        rw [List.drop_eq_getElem_cons (by omega)]; rfl
      obtain ⟨z, hz⟩ : ∃ z, zs[k] = z := ⟨_, rfl⟩
      rw [hz] at hck ht
      by_cases h0 : z = 0
      · subst h0
        have HT : Fact (orL (zs.drop (k + 1)) = orL zs) := ⟨by rw [← hf.out, ht]; rfl⟩
        clear ht hf hz HC
        go_wp2
        go_round
        case rel => exact ⟨k + 1, by omega, by go_num, HT⟩
        case measure => simp [intOf]; omega
      · have hzI : (z != 0) = true := bne_iff_ne.2 h0
        have HT : Fact (z = orL zs) := ⟨by rw [← hf.out, ht]; unfold orI; rw [if_neg h0]⟩
        clear ht hf hz HC
        go_wp2
        go_ret
        exact ⟨ret_int HT.out, rfl⟩
    · have hA : Fact (0 = orL zs) := ⟨by rw [← hf.out, List.drop_eq_nil_of_le (by omega)]; rfl⟩
      clear hf HC
      go_wp2
      go_ret
      exact ⟨ret_int hA.out, rfl⟩
end Go.Proofs.Ytkojhgagkoeeiaa
