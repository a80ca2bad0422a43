/- The document's own Until. -/
import Derived.Test.YtnioibpeagffdaaKI
import Derived.Test.YtnioibpeagffdaaKH
set_option linter.unusedVariables false
namespace Go.Proofs.Ytnioibpeagffdaa
open Go.RowKit Go.Shelf

theorem int_eq {k : IntKind} {a b : Int} (h : a = b) : Value.int k a = .int k b := by rw [h]
theorem wrap_s (p : Nat) (h : p ≤ 1000) : wrap64 ((p : Int) + 1) = ((p + 1 : Nat) : Int) := by unfold wrap64; omega
theorem wrap_ss (p : Nat) (h : p ≤ 1000) : wrap64 ((p : Int) + 1 + 1) = ((p + 1 : Nat) : Int) + 1 := by unfold wrap64; omega
theorem wrap_back (al p j : Nat) (h : p + (j + 1) = al) (hs : al ≤ 1000) : wrap64 ((al : Int) - ((p : Int) + 1)) = (j : Int) := by unfold wrap64; omega
theorem wrap_back2 (al p j : Nat) (h : p + (j + 1) = al) (hs : al ≤ 1000) : wrap64 ((al : Int) - 1 - (p : Int)) = (j : Int) := by unfold wrap64; omega
theorem wrap_one (al : Nat) (h : 1 ≤ al) (hs : al ≤ 1000) : wrap64 ((al : Int) - 1) = (al : Int) - 1 := by unfold wrap64; omega
theorem meas_s (al p : Nat) (h : p < al) : al + 1 - (intOf (.int .i64 (((p + 1 : Nat) : Int) + 1))).toNat < al + 1 - (intOf (.int .i64 ((p : Int) + 1))).toNat := by simp [intOf]; omega
theorem meas_p (al p : Nat) (h : p < al) : al + 1 - (intOf (.int .i64 ((p + 1 : Nat) : Int))).toNat < al + 1 - (intOf (.int .i64 (p : Int))).toNat := by simp [intOf]; omega
set_option maxRecDepth 20000 in
set_option maxHeartbeats 1000000 in
theorem rUntil_any (l ns : List ByteArray) (v u : Value) (n m : Nat) (w : World) (hS : SS n w v l) (hN : SS m w u ns) (hsm : l.length ≤ 1000) (B : Nat) (hV : Fact (unK l ns l.length l.length = B)) :
    Calls Try.prog 17 #[v, u] w fun e w' => e = .returned (.int .i64 B) ∧ w' = w := by
  obtain ⟨a, cap, b, o, rfl, hc1, hm1, h1⟩ := hS
  obtain ⟨na, nc, e⟩ := hN.val
  subst e
  have H1 := Fact.mk h1
  have HN := Fact.mk hN
  obtain ⟨al, hal⟩ : ∃ al, l.length = al := ⟨_, rfl⟩
  rw [hal] at H1 hc1 hV hsm ⊢
  clear h1 hal hN
  unfold maxLen at hm1
  have HM := Fact.mk hm1
  clear hm1
  go_enter Try.func17, Try.ntmps17
  go_wp2_with fail
  go_loop [5] (fun i => ∃ j p : Nat, p + j = al ∧ i = .int .i64 ((p : Int) + 1) ∧ Fact (unK l ns al j = B)) (fun i => al + 1 - (intOf i).toNat)
  case atStart => exact ⟨al, 0, by omega, rfl, hV⟩
  case round =>
    obtain ⟨j, p, hjp, rfl, hf⟩ := hrel
    cases j with
    | zero =>
      have hf2 := hf.out
      unfold unK at hf2
      subst hf2
      have q1 : ¬ ((p : Int) + 1 ≤ al) := by omega
      clear hf hV H1 HM
      go_wp2_with fail
      go_ret
      exact ⟨rfl, rfl⟩
    | succ j =>
      obtain ⟨ea, _, y0⟩ := H1.out j (by omega)
      subst ea
      have hf2 := hf.out
      unfold unK at hf2
      obtain ⟨Y, hY⟩ : ∃ Y, tx l j = Y := ⟨_, rfl⟩
      rw [hY] at hf2 y0
      have hw := wrap_back al p j hjp hsm
      have hjl : (j : Int) < al := by omega
      have hjn : (0 : Int) ≤ j := by omega
      have q1 : ((p : Int) + 1 ≤ al) := by omega
      have HJ := Fact.mk hjp
      have HSM := Fact.mk hsm
      clear hY hf hV H1 HM hjp hsm
      cases h1 : hasB ns Y
      · rw [h1, if_neg (by simp)] at hf2
        have HF := Fact.mk hf2
        have HH := Fact.mk h1
        clear hf2 h1
        have HW := Fact.mk (wrap_ss p (by have := HJ.out; have := HSM.out; omega))
        go_wp2_with (go_at_call 21; refine (rHas_any ns _ _ _ HN.out _ false HH).mono ?_; rintro e w2 ⟨rfl, rfl⟩)
        go_round
        case rel => exact ⟨j, p + 1, by have := HJ.out; omega, int_eq HW.out, HF⟩
        case measure => simp only [HW.out]; exact meas_s al p (by have := HJ.out; omega)
      · rw [h1, if_pos rfl] at hf2
        have HF := Fact.mk hf2
        have HH := Fact.mk h1
        clear hf2 h1
        go_wp2_with (go_at_call 21; refine (rHas_any ns _ _ _ HN.out _ true HH).mono ?_; rintro e w2 ⟨rfl, rfl⟩)
        go_ret
        exact ⟨ret_int (by have := HF.out; have := HJ.out; omega), rfl⟩

end Go.Proofs.Ytnioibpeagffdaa
