/- Cleaned texts one behind the other; the document's own Raw; what open says (for ScanCuts). -/
import Derived.Test.YtdniddiaiinggaaDoorWE
import Derived.Test.YtdniddiaiinggaaDoorTSm
set_option linter.unusedVariables false
namespace Go.Proofs.YtdniddiaiinggaaDoor
open Go.RowKit M

/-- what is bad stays so ahead of the sign of a tag -/
theorem bad_lt {b : UInt8} {t y : List UInt8} (h : U.Bad (b :: t)) : U.Bad (b :: (t ++ 60 :: y)) := by
  rcases U.parts (b :: (t ++ 60 :: y)) (by simp) with ⟨r, m, hr, e⟩ | h2
  · exfalso
    have e' : (b :: t) ++ (60 :: y) = U.en r ++ m := e
    rcases List.append_eq_append_iff.1 e' with ⟨q, e1, e2⟩ | ⟨q, e1, e2⟩
    · cases q with
      | nil =>
        rw [List.append_nil] at e1
        have : b :: t = U.en r ++ [] := by rw [List.append_nil]; exact e1.symm
        rw [this] at h
        exact U.not_bad r hr [] h
      | cons c q =>
        have hc : c = 60 := by
          have := congrArg List.head? e2
          simp at this
          exact this.symm
        have hlen : 2 ≤ (U.en r).length := by rw [e1]; simp; omega
        have hr128 : 128 ≤ r := by
          rcases Nat.lt_or_ge r 128 with h1 | h1
          · rw [U.en1 r hr h1] at hlen
            simp at hlen
          · exact h1
        have := U.en_high r hr hr128 c (by rw [e1]; simp)
        rw [hc] at this
        exact absurd this (by decide)
    · have : b :: t = U.en r ++ q := e1
      rw [this] at h
      exact U.not_bad r hr q h
  · exact h2
theorem C_lt : ∀ (a : List UInt8) (cr : Bool) (y : List UInt8), U.C cr (a ++ 60 :: y) = U.C cr a ++ 60 :: U.C false y := by
  refine U.ind (P := fun a => ∀ (cr : Bool) (y : List UInt8), U.C cr (a ++ 60 :: y) = U.C cr a ++ 60 :: U.C false y) ?_ ?_ ?_
  · intro cr y
    have hr : U.IsR 60 := ⟨by omega⟩
    have e1 : U.en ((60 : Nat) : Int) = [60] := by rw [U.en1 60 hr (by omega)]; rfl
    have e2 : ([] : List UInt8) ++ 60 :: y = U.en ((60 : Nat) : Int) ++ y := by rw [e1]; rfl
    rw [e2, U.C_en cr 60 hr y, if_neg (by simp), show U.cz 60 = 60 from rfl, e1, U.C_nil]
    rfl
  · intro r m hr ih cr y
    rw [List.append_assoc, U.C_en cr r hr, U.C_en cr r hr, ih, List.append_assoc]
  · intro b t hb ih cr y
    have h1 : (b :: t) ++ 60 :: y = b :: (t ++ 60 :: y) := rfl
    rw [h1, U.C_bad cr b _ (bad_lt hb), U.C_bad cr b t hb, ih, List.append_assoc]
theorem C_one (c : Nat) (hr : U.IsR c) (h1 : c < 128) (hz : U.cz c = c) (y : List UInt8) : U.C false (UInt8.ofNat c :: y) = UInt8.ofNat c :: U.C false y ∨ c = 13 := by
  by_cases h13 : c = 13
  · exact .inr h13
  · left
    have e1 : U.en ((c : Nat) : Int) = [UInt8.ofNat c] := by rw [U.en1 c hr h1]
    have e2 : UInt8.ofNat c :: y = U.en ((c : Nat) : Int) ++ y := by rw [e1]; rfl
    rw [e2, U.C_en false c hr y, if_neg (by simp), hz, e1]
    simp [h13]
theorem C_cut (a y : List UInt8) : U.C false (a ++ (cut4 ++ y)) = U.C false a ++ (cut4 ++ U.C false y) := by
  have e0 := C_lt a false (47 :: 98 :: 62 :: y)
  have e1 := (C_one 47 ⟨by omega⟩ (by omega) rfl (98 :: 62 :: y)).resolve_right (by omega)
  have e2 := (C_one 98 ⟨by omega⟩ (by omega) rfl (62 :: y)).resolve_right (by omega)
  have e3 := (C_one 62 ⟨by omega⟩ (by omega) rfl y).resolve_right (by omega)
  have f1 : (UInt8.ofNat 47) = 47 := rfl
  have f2 : (UInt8.ofNat 98) = 98 := rfl
  have f3 : (UInt8.ofNat 62) = 62 := rfl
  rw [f1] at e1
  rw [f2] at e2
  rw [f3] at e3
  have e4 : a ++ (cut4 ++ y) = a ++ 60 :: 47 :: 98 :: 62 :: y := rfl
  rw [e4, e0, e1, e2, e3]
  rfl

set_option maxRecDepth 20000 in
set_option maxHeartbeats 2000000 in
theorem rraw_any (s : ByteArray) (n : Nat) (hn : Fact (rawN s.data.toList = n)) (w : World) : Calls Tryd.prog 20 #[.string s] w fun e w' => e = .returned (.int .i64 n) ∧ w' = w := by
  obtain ⟨hn⟩ := hn
  unfold rawN at hn
  rw [← Lib.toList_data] at hn
  obtain ⟨x0, h0⟩ : ∃ x, (s.toList == [116, 105, 116, 108, 101]) = x := ⟨_, rfl⟩
  obtain ⟨x1, h1⟩ : ∃ x, (s.toList == [116, 101, 120, 116, 97, 114, 101, 97]) = x := ⟨_, rfl⟩
  obtain ⟨x2, h2⟩ : ∃ x, (s.toList == [115, 116, 121, 108, 101]) = x := ⟨_, rfl⟩
  obtain ⟨x3, h3⟩ : ∃ x, (s.toList == [115, 99, 114, 105, 112, 116]) = x := ⟨_, rfl⟩
  obtain ⟨x4, h4⟩ : ∃ x, (s.toList == [120, 109, 112]) = x := ⟨_, rfl⟩
  obtain ⟨x5, h5⟩ : ∃ x, (s.toList == [105, 102, 114, 97, 109, 101]) = x := ⟨_, rfl⟩
  obtain ⟨x6, h6⟩ : ∃ x, (s.toList == [110, 111, 101, 109, 98, 101, 100]) = x := ⟨_, rfl⟩
  obtain ⟨x7, h7⟩ : ∃ x, (s.toList == [110, 111, 102, 114, 97, 109, 101, 115]) = x := ⟨_, rfl⟩
  rw [h0, h1, h2, h3, h4, h5, h6, h7] at hn
  cases x0
  · cases x1
    · cases x2
      · cases x3
        · cases x4
          · cases x5
            · cases x6
              · cases x7
                · all_goals (simp at hn; subst hn)
                  go_enter Tryd.func20, Tryd.ntmps20
                  go_wp2_with fail
                  go_ret
                  exact ⟨rfl, rfl⟩
                · all_goals (simp at hn; subst hn)
                  go_enter Tryd.func20, Tryd.ntmps20
                  go_wp2_with fail
                  go_ret
                  exact ⟨rfl, rfl⟩
              · all_goals (simp at hn; subst hn)
                go_enter Tryd.func20, Tryd.ntmps20
                go_wp2_with fail
                go_ret
                exact ⟨rfl, rfl⟩
            · all_goals (simp at hn; subst hn)
              go_enter Tryd.func20, Tryd.ntmps20
              go_wp2_with fail
              go_ret
              exact ⟨rfl, rfl⟩
          · all_goals (simp at hn; subst hn)
            go_enter Tryd.func20, Tryd.ntmps20
            go_wp2_with fail
            go_ret
            exact ⟨rfl, rfl⟩
        · all_goals (simp at hn; subst hn)
          go_enter Tryd.func20, Tryd.ntmps20
          go_wp2_with fail
          go_ret
          exact ⟨rfl, rfl⟩
      · all_goals (simp at hn; subst hn)
        go_enter Tryd.func20, Tryd.ntmps20
        go_wp2_with fail
        go_ret
        exact ⟨rfl, rfl⟩
    · all_goals (simp at hn; subst hn)
      go_enter Tryd.func20, Tryd.ntmps20
      go_wp2_with fail
      go_ret
      exact ⟨rfl, rfl⟩
  · all_goals (simp at hn; subst hn)
    go_enter Tryd.func20, Tryd.ntmps20
    go_wp2_with fail
    go_ret
    exact ⟨rfl, rfl⟩


/-- the first tokens of a list, as they are read -/
def TkAt (w : World) (g : Nat) (ts : List Tk) : Prop := ∀ j t, ts[j]? = some t → w.cell? ⟨g, j * 5, none⟩ = some (.int .i64 t.kd) ∧ w.cell? ⟨g, j * 5 + 1, none⟩ = some (.string t.n)
theorem rawT_take {ts : List Tk} {j : Nat} {t : Tk} (h : ts[j]? = some t) : rawT (ts.take (j + 1)) = rawB t (rawT (ts.take j)) := by
  unfold rawT
  rw [List.take_add_one, h, List.foldl_append]
  rfl
set_option maxRecDepth 20000 in
set_option maxHeartbeats 4000000 in
theorem open_any (ts : List Tk) (g cap n : Nat) (w : World) (hn : ts.length = n) (hm : n ≤ 100000) (hc : TkAt w g ts) (B : Bool) (hB : Fact ((!(rawT ts == [])) = B)) :
    Calls Tryd.prog 11 #[.slice (some ⟨g, 0, none⟩) n cap] w fun e w' => e = .returned (.bool B) ∧ w' = w := by
  have HC := Fact.mk hc
  have HN := Fact.mk hn
  clear hc hn
  go_enter Tryd.func11, Tryd.ntmps11
  go_wp2_with fail
  go_loop [3, 4] (fun r i => ∃ (R : ByteArray) (j : Nat), r = .string R ∧ i = .int .i64 j ∧ j ≤ n ∧ Fact (R.data.toList = rawT (ts.take j))) (fun _ i => n - (intOf i).toNat)
  case atStart => exact ⟨⟨#[]⟩, 0, rfl, rfl, Nat.zero_le _, ⟨rfl⟩⟩
  case round =>
    obtain ⟨R, j, rfl, rfl, hj, hR⟩ := hrel
    by_cases hlt : j < n
    · obtain ⟨t, ht⟩ : ∃ t, ts[j]? = some t := ⟨_, List.getElem?_eq_getElem (by rw [HN.out]; exact hlt)⟩
      obtain ⟨c0, c1⟩ := HC.out j t ht
      have hT := rawT_take ht
      rw [← hR.out] at hT
      obtain ⟨kd, N, X, AA, r⟩ := t
      dsimp only at c0 c1
      have a1 : (j : Int) < n := by omega
      have a2 : decide ((j : Int) < n) = true := decide_eq_true a1
      have a2n : decide (j < n) = true := decide_eq_true hlt
      have a3 : (0 : Int) ≤ j := Int.natCast_nonneg _
      have HW := Fact.mk (wrap_ok (n := (j : Int) + 1) (m := j + 1) rfl ⟨by omega⟩)
      clear HC ht
      unfold rawB at hT
      dsimp only at hT
      by_cases h1 : kd = 1
      · have q1 : (kd == 1) = true := by rw [h1]; rfl
        obtain ⟨c, hcc⟩ : ∃ c, Fact (rawN N.data.toList = c) := ⟨_, ⟨rfl⟩⟩
        by_cases h2 : c = 0
        · have q2 : decide ((0 : Int) < c) = false := decide_eq_false (by omega)
          have q2' : ¬ (0 : Int) < c := by omega
          rw [if_neg (fun e => e.2 (hcc.out.trans h2)), if_pos (.inl h1)] at hT
          have HT := Fact.mk hT
          clear hT h1 h2
          go_wp2_with (first | (go_at_call 20; refine (rraw_any N c hcc _).mono ?_; rintro e w2 ⟨rfl, rfl⟩))
          go_round
          case rel => exact ⟨⟨#[]⟩, j + 1, rfl, int_eq (by first | exact HW.out | omega), hlt, ⟨HT.out.symm⟩⟩
          case measure => first | (simp only [HW.out]; exact meas_to hlt (Nat.lt_succ_self _)) | (simp [intOf]; omega)
        · have q2 : decide ((0 : Int) < c) = true := decide_eq_true (by omega)
          have q2' : (0 : Int) < c := by omega
          rw [if_pos ⟨h1, fun e => h2 (hcc.out.symm.trans e)⟩] at hT
          have HT := Fact.mk hT
          clear hT h1 h2
          go_wp2_with (first | (go_at_call 20; refine (rraw_any N c hcc _).mono ?_; rintro e w2 ⟨rfl, rfl⟩))
          go_round
          case rel => exact ⟨N, j + 1, rfl, int_eq (by first | exact HW.out | omega), hlt, ⟨HT.out.symm⟩⟩
          case measure => first | (simp only [HW.out]; exact meas_to hlt (Nat.lt_succ_self _)) | (simp [intOf]; omega)
      · have q1 : (kd == 1) = false := beq_eq_false_iff_ne.2 h1
        rw [if_neg (fun e => h1 e.1)] at hT
        by_cases h2 : kd = 2
        · have q2 : (kd == 2) = true := by rw [h2]; rfl
          by_cases h3 : N.data.toList = R.data.toList
          · have q3 : (N.toList == R.toList) = true := by rw [Lib.toList_data, Lib.toList_data, h3]; exact beq_self_eq_true _
            rw [if_pos (.inr ⟨h2, h3⟩)] at hT
            have HT := Fact.mk hT
            clear hT h1 h2 h3
            go_wp2_with fail
            go_round
            case rel => exact ⟨⟨#[]⟩, j + 1, rfl, int_eq (by first | exact HW.out | omega), hlt, ⟨HT.out.symm⟩⟩
            case measure => first | (simp only [HW.out]; exact meas_to hlt (Nat.lt_succ_self _)) | (simp [intOf]; omega)
          · have q3 : (N.toList == R.toList) = false := by rw [Lib.toList_data, Lib.toList_data]; exact beq_eq_false_iff_ne.2 h3
            rw [if_neg (by rintro (e | e); exact h1 e; exact h3 e.2)] at hT
            have HT := Fact.mk hT
            clear hT h1 h2 h3
            go_wp2_with fail
            go_round
            case rel => exact ⟨R, j + 1, rfl, int_eq (by first | exact HW.out | omega), hlt, ⟨HT.out.symm⟩⟩
            case measure => first | (simp only [HW.out]; exact meas_to hlt (Nat.lt_succ_self _)) | (simp [intOf]; omega)
        · have q2 : (kd == 2) = false := beq_eq_false_iff_ne.2 h2
          rw [if_neg (by rintro (e | e); exact h1 e; exact h2 e.1)] at hT
          have HT := Fact.mk hT
          clear hT h1 h2
          go_wp2_with fail
          go_round
          case rel => exact ⟨R, j + 1, rfl, int_eq (by first | exact HW.out | omega), hlt, ⟨HT.out.symm⟩⟩
          case measure => first | (simp only [HW.out]; exact meas_to hlt (Nat.lt_succ_self _)) | (simp [intOf]; omega)
    · have a1 : ¬ (j : Int) < n := by omega
      have a2 : decide ((j : Int) < n) = false := decide_eq_false a1
      have a2n : decide (j < n) = false := decide_eq_false hlt
      have e : (R.toList == []) = (rawT ts == []) := by
        have := hR.out
        rw [List.take_of_length_le (by rw [HN.out]; omega)] at this
        rw [Lib.toList_data, this]
      have HE := Fact.mk e
      clear HC e
      go_wp2_with fail
      go_ret
      refine ⟨?_, rfl⟩
      have h5 := hB.out
      rw [← HE.out] at h5
      rw [← h5]
      have e9 : (R.toList == []) = R.toList.isEmpty := by cases R.toList <;> rfl
      rw [e9]
      rfl
end Go.Proofs.YtdniddiaiinggaaDoor
