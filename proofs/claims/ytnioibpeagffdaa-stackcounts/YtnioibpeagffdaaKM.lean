/- The document's own Implied. -/
import Derived.Test.YtnioibpeagffdaaKI
import Derived.Test.YtnioibpeagffdaaKH
import Derived.Test.YtnioibpeagffdaaKK
set_option linter.unusedVariables false
namespace Go.Proofs.Ytnioibpeagffdaa
open Go.RowKit Go.Shelf

set_option maxRecDepth 20000 in
set_option maxHeartbeats 2000000 in
theorem rImplied_any (l : List ByteArray) (v : Value) (x : ByteArray) (w : World) (hS : SS w.heap.size w v l) (hsm : l.length ≤ 1000) (B : Nat) (hV : Fact (impK l x l.length = B)) :
    Calls Try.prog 15 #[v, .string x] w fun e w' => e = .returned (.int .i64 B) ∧ Below w.heap.size w w' := by
  obtain ⟨a, cap, b, o, rfl, hc1, hm1, h1⟩ := hS
  have H1 := Fact.mk h1
  obtain ⟨al, hal⟩ : ∃ al, l.length = al := ⟨_, rfl⟩
  rw [hal] at H1 hc1 hV hsm ⊢
  clear h1 hal
  unfold maxLen at hm1
  have HM := Fact.mk hm1
  clear hm1
  go_enter Try.func15, Try.ntmps15
  go_wp2_with fail
  go_loopw [5] (fun i wx => ∃ j p : Nat, p + j = al ∧ i = .int .i64 p ∧ Fact (p + impK l x j = B) ∧ Fact (Below w.heap.size w wx)) (fun i _ => al + 1 - (intOf i).toNat)
  case atStart => exact ⟨al, 0, by omega, rfl, ⟨by rw [Nat.zero_add]; exact hV.out⟩, ⟨Below.refl _ _⟩⟩
  case round =>
    obtain ⟨j, p, hjp, rfl, hf, hbr⟩ := hrel
    cases j with
    | zero =>
      have hf2 := hf.out
      unfold impK at hf2
      have q1 : ¬ ((p : Int) < al) := by omega
      have HF := Fact.mk hf2
      clear hf hf2 hV H1 HM
      go_wp2_with fail
      go_ret
      exact ⟨ret_int (by have := HF.out; omega), hbr.out⟩
    | succ j =>
      obtain ⟨ea, hbn, y0⟩ := H1.out j (by omega)
      subst ea
      have hf2 := hf.out
      unfold impK at hf2
      obtain ⟨Y, hY⟩ : ∃ Y, tx l j = Y := ⟨_, rfl⟩
      rw [hY] at hf2 y0
      have z0 := (hbr.out.cell (p := ⟨b, o + j, none⟩) hbn).trans y0
      have hw0 := wrap_one al (by omega) hsm
      have hw := wrap_back2 al p j hjp hsm
      have hjl : (j : Int) < al := by omega
      have hjn : (0 : Int) ≤ j := by omega
      have q1 : (p : Int) < al := by omega
      have HJ := Fact.mk hjp
      have HSM := Fact.mk hsm
      have Hbn := Fact.mk hbn
      have Hy := Fact.mk y0
      clear hY hf hV H1 HM hjp hsm y0 hbn
      cases h2 : isB Y 4
      · have hb0 : B = p := by rw [h2] at hf2; simp at hf2; omega
        have H2 := Fact.mk h2
        have HF := Fact.mk hb0
        clear hf2 h2 hb0
        go_wp2_with (go_at_call 11; refine (rIs_any _ 4 _ false H2).mono ?_; rintro e w2 ⟨rfl, hb2⟩; have HB2 := Fact.mk hb2; clear hb2)
        go_ret
        exact ⟨ret_int (by have := HF.out; omega), hbr.out.trans (HB2.out.mono hbr.out.size)⟩
      · have H2 := Fact.mk h2
        cases h1 : (Y.toList == x.toList)
        · rw [h1, h2, if_neg (by simp), if_neg (by simp)] at hf2
          have HF := Fact.mk hf2
          clear hf2 h2
          have HW := Fact.mk (wrap_s p (by have := HJ.out; have := HSM.out; omega))
          have hn1 : (!(Y.toList == x.toList)) = true := by rw [h1]; rfl
          go_wp2_with (go_at_call 11; refine (rIs_any _ 4 _ true H2).mono ?_; rintro e w2 ⟨rfl, hb2⟩; have HB2 := Fact.mk hb2; have z1 := ((hbr.out.trans (hb2.mono hbr.out.size)).cell (p := ⟨b, o + j, none⟩) Hbn.out).trans Hy.out; clear hb2)
          go_roundw
          case rel => exact ⟨j, p + 1, by have := HJ.out; omega, int_eq HW.out, ⟨by have := HF.out; omega⟩, ⟨hbr.out.trans (HB2.out.mono hbr.out.size)⟩⟩
          case measure => simp only [HW.out]; exact meas_p al p (by have := HJ.out; omega)
        · rw [h1, if_pos rfl] at hf2
          have HF := Fact.mk hf2
          clear hf2 h2
          go_wp2_with (go_at_call 11; refine (rIs_any _ 4 _ true H2).mono ?_; rintro e w2 ⟨rfl, hb2⟩; have HB2 := Fact.mk hb2; have z1 := ((hbr.out.trans (hb2.mono hbr.out.size)).cell (p := ⟨b, o + j, none⟩) Hbn.out).trans Hy.out; clear hb2)
          go_ret
          exact ⟨ret_int (by have := HF.out; omega), hbr.out.trans (HB2.out.mono hbr.out.size)⟩
end Go.Proofs.Ytnioibpeagffdaa
