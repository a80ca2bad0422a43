/- FormatClears: the walk. -/
import Derived.Test.YtjlijpaefdbohaaDoorGF
import Derived.BigQuiet
set_option linter.unusedVariables false
set_option linter.unusedSimpArgs false
namespace Go.Proofs.YtjlijpaefdbohaaDoor
open Go.RowKit

set_option maxRecDepth 20000 in
set_option maxHeartbeats 1000000 in
theorem name_any (v : Int) (w : World) : Calls Tryd.prog 28 #[.int .i64 v] w fun e w' => e = .returned (.string (lt1 (pl v 10))) ∧ w' = w := by
  have hp := pl_lt v 10 (by omega)
  have HP := Fact.mk (fun w' => place_pl v 10 w' (by omega) (by omega))
  obtain ⟨p, hpp⟩ : ∃ p, pl v 10 = p := ⟨_, rfl⟩
  rw [hpp] at hp HP ⊢
  clear hpp
  have HT := Fact.mk (ten_eq ⟨p, hp⟩)
  have h0 : (0 : Int) ≤ (p : Int) := Int.natCast_nonneg _
  have h1 : (p : Int) ≤ (p : Int) + 1 := by omega
  have h2 : (p : Int) + 1 ≤ 10 := by omega
  have h3 : (0 : Int) ≤ (p : Int) + 1 := by omega
  go_enter Tryd.func28, Tryd.ntmps28
  go_wp2_with (go_at_call 9; refine (HP.out _).mono ?_; rintro e w2 ⟨rfl, e2⟩; have e2' := e2.symm; subst e2')
  go_ret
  refine ⟨?_, rfl⟩
  have := HT.out
  unfold tTen at this
  rw [← this]
  rfl

def anyP (zs : List Int) (x : Int) : Bool := zs.any (fun z => pl z 10 == pl x 10)
theorem anyP_drop (zs : List Int) (x : Int) (j : Nat) (h : j < zs.length) : anyP (zs.drop j) x = (if pl (zs.getD j 0) 10 = pl x 10 then true else anyP (zs.drop (j + 1)) x) := by
  unfold anyP
  rw [List.drop_eq_getElem_cons h, List.any_cons]
  have e : zs.getD j 0 = zs[j] := by simp [h]
  rw [e]
  by_cases h2 : pl zs[j] 10 = pl x 10
  · simp [h2]
  · simp [h2]

set_option maxRecDepth 20000 in
set_option maxHeartbeats 1000000 in
theorem within_any (v : Value) (zs : List Int) (x : Int) (n : Nat) (w : World) (hz : IsZ n w v zs) (b : Bool) (hb : Fact (anyP zs x = b)) :
    Calls Tryd.prog 30 #[v, .int .i64 x] w fun e w' => e = .returned (.bool b) ∧ w' = w := by
  obtain ⟨za, zc, ez, hz1, hz2, zb, zo, hz3⟩ := hz.h
  obtain ⟨zl, hzl⟩ : ∃ zl, zs.length = zl := ⟨_, rfl⟩
  have HZL := Fact.mk hzl
  rw [hzl] at ez hz1 hz3
  subst ez
  have H3 := Fact.mk hz3
  unfold maxLen at hz2
  clear hz hz3 hzl
  have HPX := Fact.mk (fun w' => place_pl x 10 w' (by omega) (by omega))
  obtain ⟨px, hpx⟩ : ∃ px, pl x 10 = px := ⟨_, rfl⟩
  have HX := Fact.mk hpx
  rw [hpx] at HPX
  clear hpx
  go_enter Tryd.func30, Tryd.ntmps30
  go_wp2_with fail
  go_loop [5] (fun i => ∃ j : Nat, j ≤ zl ∧ i = .int .i64 (j : Int) ∧ Fact (anyP (zs.drop j) x = b)) (fun i => zl - (intOf i).toNat)
  case atStart => exact ⟨0, Nat.zero_le _, rfl, hb⟩
  case round =>
    obtain ⟨j, hj, rfl, hI⟩ := hrel
    by_cases hlt : j < zl
    · obtain ⟨ea, _, hc⟩ := H3.out j hlt
      subst ea
      have hd := anyP_drop zs x j (by rw [HZL.out]; exact hlt)
      rw [hI.out, HX.out] at hd
      obtain ⟨z, hzj⟩ : ∃ z, zs.getD j 0 = z := ⟨_, rfl⟩
      rw [hzj] at hd hc
      have HPZ := Fact.mk (fun w' => place_pl z 10 w' (by omega) (by omega))
      obtain ⟨pz, hpz⟩ : ∃ pz, pl z 10 = pz := ⟨_, rfl⟩
      rw [hpz] at hd HPZ
      have hji : (j : Int) < (zl : Int) := by omega
      have HD := Fact.mk hd
      clear hd hI hb hzj hpz
      have tok1 : True := trivial
      by_cases he : pz = px
      · subst he
        go_wp2_with (first
          | (go_at_call 9; have _t := tok1; refine (HPZ.out _).mono ?_; rintro e w2 ⟨rfl, e2⟩; have e2' := e2.symm; subst e2'; clear tok1 _t)
          | (go_at_call 9; refine (HPX.out _).mono ?_; rintro e w2 ⟨rfl, e2⟩; have e2' := e2.symm; subst e2'))
        go_ret
        exact ⟨ret_bool (by have := HD.out; simpa using this.symm), rfl⟩
      · have he' : ((pz : Int) == (px : Int)) = false := by rw [beq_eq_false_iff_ne]; omega
        have heI : ¬ (pz : Int) = (px : Int) := by omega
        go_wp2_with (first
          | (go_at_call 9; have _t := tok1; refine (HPZ.out _).mono ?_; rintro e w2 ⟨rfl, e2⟩; have e2' := e2.symm; subst e2'; clear tok1 _t)
          | (go_at_call 9; refine (HPX.out _).mono ?_; rintro e w2 ⟨rfl, e2⟩; have e2' := e2.symm; subst e2'))
        go_round
        case rel => exact ⟨j + 1, by omega, by go_num, ⟨by have := HD.out; rw [if_neg he] at this; exact this.symm⟩⟩
        case measure => simp [intOf]; omega
    · obtain rfl : j = zl := by omega
      have hf : false = b := by
        rw [← hI.out, List.drop_eq_nil_of_le (by rw [HZL.out]; exact Nat.le_refl _)]; rfl
      clear hI hb
      subst hf
      go_wp2_with fail
      go_ret
      exact ⟨rfl, rfl⟩
end Go.Proofs.YtjlijpaefdbohaaDoor
