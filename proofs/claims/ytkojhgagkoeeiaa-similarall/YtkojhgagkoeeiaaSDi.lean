/- Shares: Dice, Half. -/
import Derived.Test.YtkojhgagkoeeiaaCmp
import Derived.Test.YtkojhgagkoeeiaaNext
set_option linter.unusedVariables false
set_option linter.unusedSimpArgs false
namespace Go.Proofs.Ytkojhgagkoeeiaa
open Go.Deep (BT)
open Go.RowKit M

/-- a share that has a value -/
def shA (c s : Int) : Int := if s = 0 then 0 else c
def shB (s : Int) : Int := if s = 0 then 1 else s
/-- which of two shares is more -/
def dice (c s d t : Int) : Int := ci (shA c s * shB t) (shA d t * shB s)
/-- a number from 0 to 10^9 -/
structure Big (x : Int) : Prop where
  lo : 0 ≤ x
  hi : x ≤ 1000000000
theorem Big.a {c s : Int} (h : Big c) : Big (shA c s) := by
  unfold shA
  split
  · exact ⟨by omega, by omega⟩
  · exact h
theorem Big.b {s : Int} (h : Big s) : Big (shB s) := by
  unfold shB
  split
  · exact ⟨by omega, by omega⟩
  · exact h
theorem big_mul {x y : Int} (h : Big x) (k : Big y) : 0 ≤ x * y ∧ x * y ≤ 1000000000000000000 :=
  ⟨Int.mul_nonneg h.lo k.lo, by
    have h1 := Int.mul_le_mul h.hi k.hi k.lo (by omega)
    omega⟩

theorem share_any (c s : Int) (w : World) : Calls Try.prog 26 #[.int .i64 c, .int .i64 s] w fun e w' => e = .returned (.tuple #[.int .i64 (shA c s), .int .i64 (shB s)]) ∧ w' = w := by
  by_cases h : s = 0
  · subst h
    have e1 : shA c 0 = 0 := rfl
    have e2 : shB 0 = 1 := rfl
    rw [e1, e2]
    clear e1 e2
    go_enter Try.func26, Try.ntmps26
    go_wp2
    go_ret2
    exact ⟨rfl, rfl⟩
  · have e1 : shA c s = c := by unfold shA; rw [if_neg h]
    have e2 : shB s = s := by unfold shB; rw [if_neg h]
    rw [e1, e2]
    clear e1 e2
    go_enter Try.func26, Try.ntmps26
    go_wp2
    go_ret2
    exact ⟨rfl, rfl⟩
theorem cmpI_f (a b c : Int) (h : Fact (ci a b = c)) (w : World) : Calls Try.prog 27 #[.int .i64 a, .int .i64 b] w fun e w' => e = .returned (.int .i64 c) ∧ w' = w := by
  rw [← h.out]; exact cmpI_any a b w
theorem share_f (c s a b : Int) (h : Fact (shA c s = a ∧ shB s = b)) (w : World) : Calls Try.prog 26 #[.int .i64 c, .int .i64 s] w fun e w' => e = .returned (.tuple #[.int .i64 a, .int .i64 b]) ∧ w' = w := by
  rw [← h.out.1, ← h.out.2]; exact share_any c s w
set_option maxRecDepth 20000 in
set_option maxHeartbeats 2000000 in
theorem dice_any (c s d t : Int) (hc : Big c) (hs : Big s) (hd : Big d) (ht : Big t) (w : World) :
    Calls Try.prog 10 #[.int .i64 c, .int .i64 s, .int .i64 d, .int .i64 t] w fun e w' => e = .returned (.int .i64 (dice c s d t)) ∧ w' = w := by
  have hA := hc.a (s := s)
  have hB := hs.b
  have hC := hd.a (s := t)
  have hD := ht.b
  obtain ⟨a, ha⟩ : ∃ a, shA c s = a := ⟨_, rfl⟩
  obtain ⟨b, hb⟩ : ∃ b, shB s = b := ⟨_, rfl⟩
  obtain ⟨a2, ha2⟩ : ∃ a, shA d t = a := ⟨_, rfl⟩
  obtain ⟨b2, hb2⟩ : ∃ b, shB t = b := ⟨_, rfl⟩
  have F1 : Fact (shA c s = a ∧ shB s = b) := ⟨ha, hb⟩
  have F2 : Fact (shA d t = a2 ∧ shB t = b2) := ⟨ha2, hb2⟩
  rw [ha] at hA
  rw [hb] at hB
  rw [ha2] at hC
  rw [hb2] at hD
  obtain ⟨m, hm⟩ : ∃ m, a * b2 = m := ⟨_, rfl⟩
  obtain ⟨m2, hm2⟩ : ∃ m, a2 * b = m := ⟨_, rfl⟩
  have k1 := big_mul hA hD
  have k2 := big_mul hC hB
  rw [hm] at k1
  rw [hm2] at k2
  have e : dice c s d t = ci m m2 := by
    unfold dice
    rw [ha, hb, ha2, hb2, hm, hm2]
  rw [e]
  clear e ha hb ha2 hb2 hc hs hd ht hA hB hC hD
  have r1 : ∀ W : World, (binOp .mul 3 (.int .i64 a) (.int .i64 b2)).run Try.prog W = .ok (.int .i64 m) W := fun W => by
    rw [← hm]; rw [← hm] at k1
    show Result.ok (Value.int .i64 (IntKind.i64.wrap (a * b2))) W = _
    rw [show IntKind.i64.wrap (a * b2) = a * b2 from by unfold IntKind.wrap; simp [IntKind.bits, IntKind.signed]; omega]
  have r2 : ∀ W : World, (binOp .mul 3 (.int .i64 a2) (.int .i64 b)).run Try.prog W = .ok (.int .i64 m2) W := fun W => by
    rw [← hm2]; rw [← hm2] at k2
    show Result.ok (Value.int .i64 (IntKind.i64.wrap (a2 * b))) W = _
    rw [show IntKind.i64.wrap (a2 * b) = a2 * b from by unfold IntKind.wrap; simp [IntKind.bits, IntKind.signed]; omega]
  obtain ⟨z, hz⟩ : ∃ z, ci m m2 = z := ⟨_, rfl⟩
  have F3 : Fact (ci m m2 = z) := ⟨hz⟩
  rw [hz]
  have w1 : IntKind.i64.wrap (a * b2) = m := by rw [hm]; unfold IntKind.wrap; simp [IntKind.bits, IntKind.signed]; omega
  have w2 : IntKind.i64.wrap (a2 * b) = m2 := by rw [hm2]; unfold IntKind.wrap; simp [IntKind.bits, IntKind.signed]; omega
  clear hm hm2 hz r1 r2 k1 k2
  go_enter Try.func10, Try.ntmps10
  go_wp2_with (first
    | (go_at_call 26; refine (share_f c s a b F1 _).mono ?_; rintro e w1 ⟨rfl, rfl⟩)
    | (go_at_call 26; refine (share_f d t a2 b2 F2 _).mono ?_; rintro e w1 ⟨rfl, rfl⟩)
    | (go_at_call 27; refine (cmpI_f _ _ z F3 _).mono ?_; rintro e w1 ⟨rfl, rfl⟩))
  go_ret
  exact ⟨rfl, rfl⟩
/-- a shift by two is a quarter -/
theorem half_any (c s : Int) (w : World) (r : Bool) (hr : Fact (decide (s < 4 * c) = r)) :
    Calls Try.prog 12 #[.int .i64 c, .int .i64 s] w fun e w' => e = .returned (.bool r) ∧ w' = w := by
  have hd : decide (s / 4 < c) = r := by
    rw [← hr.out]
    congr 1
    exact propext (by omega)
  have HD := Fact.mk hd
  clear hd hr
  go_enter Try.func12, Try.ntmps12
  go_wp2
  go_ret
  exact ⟨ret_bool HD.out, rfl⟩
end Go.Proofs.Ytkojhgagkoeeiaa
