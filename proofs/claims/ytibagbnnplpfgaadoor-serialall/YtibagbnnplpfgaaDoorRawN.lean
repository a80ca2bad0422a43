/- Raw: how the text of an element is read. -/
import Derived.Test.YtibagbnnplpfgaaDoorNames
import Derived.Lib.Strings
set_option linter.unusedVariables false
namespace Go.Proofs.YtibagbnnplpfgaaDoor
open Go.RowKit M

/-- how an element's text is read -/
def rawN (l : List UInt8) : Nat := if (l == [116, 105, 116, 108, 101]) = true ∨ (l == [116, 101, 120, 116, 97, 114, 101, 97]) = true then 1 else if (l == [115, 116, 121, 108, 101]) = true ∨ (l == [115, 99, 114, 105, 112, 116]) = true ∨ (l == [120, 109, 112]) = true ∨ (l == [105, 102, 114, 97, 109, 101]) = true ∨ (l == [110, 111, 101, 109, 98, 101, 100]) = true ∨ (l == [110, 111, 102, 114, 97, 109, 101, 115]) = true then 2 else 0
set_option maxRecDepth 20000 in
set_option maxHeartbeats 2000000 in
theorem raw_any (s : ByteArray) (n : Nat) (hn : Fact (rawN s.data.toList = n)) (w : World) : Calls Tryd.prog 48 #[.string s] w fun e w' => e = .returned (.int .i64 n) ∧ w' = w := by
  obtain ⟨hn⟩ := hn
  unfold rawN at hn
  rw [← Lib.toList_data] at hn
  obtain ⟨x0, h0⟩ : ∃ x, (s.toList == [116, 105, 116, 108, 101]) = x := ⟨_, rfl⟩
  obtain ⟨x1, h1⟩ : ∃ x, (s.toList == [116, 101, 120, 116, 97, 114, 101, 97]) = x := ⟨_, rfl⟩
  obtain ⟨x2, h2⟩ : ∃ x, (s.toList == [115, 116, 121, 108, 101]) = x := ⟨_, rfl⟩
  obtain ⟨x3, h3⟩ : ∃ x, (s.toList == [115, 99, 114, 105, 112, 116]) = x := ⟨_, rfl⟩
  obtain ⟨x4, h4⟩ : ∃ x, (s.toList == [120, 109, 112]) = x := ⟨_, rfl⟩
  obtain ⟨x5, h5⟩ : ∃ x, (s.toList == [105, 102, 114, 97, 109, 101]) = x := ⟨_, rfl⟩
  obtain ⟨x6, h6⟩ : ∃ x, (s.toList == [110, 111, 101, 109, 98, 101, 100]) = x := ⟨_, rfl⟩
  obtain ⟨x7, h7⟩ : ∃ x, (s.toList == [110, 111, 102, 114, 97, 109, 101, 115]) = x := ⟨_, rfl⟩
  rw [h0, h1, h2, h3, h4, h5, h6, h7] at hn
  cases x0
  · cases x1
    · cases x2
      · cases x3
        · cases x4
          · cases x5
            · cases x6
              · cases x7
                · all_goals (simp at hn; subst hn)
                  go_enter Tryd.func48, Tryd.ntmps48
                  go_wp2_with fail
                  go_ret
                  exact ⟨rfl, rfl⟩
                · all_goals (simp at hn; subst hn)
                  go_enter Tryd.func48, Tryd.ntmps48
                  go_wp2_with fail
                  go_ret
                  exact ⟨rfl, rfl⟩
              · all_goals (simp at hn; subst hn)
                go_enter Tryd.func48, Tryd.ntmps48
                go_wp2_with fail
                go_ret
                exact ⟨rfl, rfl⟩
            · all_goals (simp at hn; subst hn)
              go_enter Tryd.func48, Tryd.ntmps48
              go_wp2_with fail
              go_ret
              exact ⟨rfl, rfl⟩
          · all_goals (simp at hn; subst hn)
            go_enter Tryd.func48, Tryd.ntmps48
            go_wp2_with fail
            go_ret
            exact ⟨rfl, rfl⟩
        · all_goals (simp at hn; subst hn)
          go_enter Tryd.func48, Tryd.ntmps48
          go_wp2_with fail
          go_ret
          exact ⟨rfl, rfl⟩
      · all_goals (simp at hn; subst hn)
        go_enter Tryd.func48, Tryd.ntmps48
        go_wp2_with fail
        go_ret
        exact ⟨rfl, rfl⟩
    · all_goals (simp at hn; subst hn)
      go_enter Tryd.func48, Tryd.ntmps48
      go_wp2_with fail
      go_ret
      exact ⟨rfl, rfl⟩
  · all_goals (simp at hn; subst hn)
    go_enter Tryd.func48, Tryd.ntmps48
    go_wp2_with fail
    go_ret
    exact ⟨rfl, rfl⟩

set_option maxRecDepth 20000 in
set_option maxHeartbeats 2000000 in
theorem rraw_any (s : ByteArray) (n : Nat) (hn : Fact (rawN s.data.toList = n)) (w : World) : Calls Tryd.prog 35 #[.string s] w fun e w' => e = .returned (.int .i64 n) ∧ w' = w := by
  obtain ⟨hn⟩ := hn
  unfold rawN at hn
  rw [← Lib.toList_data] at hn
  obtain ⟨x0, h0⟩ : ∃ x, (s.toList == [116, 105, 116, 108, 101]) = x := ⟨_, rfl⟩
  obtain ⟨x1, h1⟩ : ∃ x, (s.toList == [116, 101, 120, 116, 97, 114, 101, 97]) = x := ⟨_, rfl⟩
  obtain ⟨x2, h2⟩ : ∃ x, (s.toList == [115, 116, 121, 108, 101]) = x := ⟨_, rfl⟩
  obtain ⟨x3, h3⟩ : ∃ x, (s.toList == [115, 99, 114, 105, 112, 116]) = x := ⟨_, rfl⟩
  obtain ⟨x4, h4⟩ : ∃ x, (s.toList == [120, 109, 112]) = x := ⟨_, rfl⟩
  obtain ⟨x5, h5⟩ : ∃ x, (s.toList == [105, 102, 114, 97, 109, 101]) = x := ⟨_, rfl⟩
  obtain ⟨x6, h6⟩ : ∃ x, (s.toList == [110, 111, 101, 109, 98, 101, 100]) = x := ⟨_, rfl⟩
  obtain ⟨x7, h7⟩ : ∃ x, (s.toList == [110, 111, 102, 114, 97, 109, 101, 115]) = x := ⟨_, rfl⟩
  rw [h0, h1, h2, h3, h4, h5, h6, h7] at hn
  cases x0
  · cases x1
    · cases x2
      · cases x3
        · cases x4
          · cases x5
            · cases x6
              · cases x7
                · all_goals (simp at hn; subst hn)
                  go_enter Tryd.func35, Tryd.ntmps35
                  go_wp2_with fail
                  go_ret
                  exact ⟨rfl, rfl⟩
                · all_goals (simp at hn; subst hn)
                  go_enter Tryd.func35, Tryd.ntmps35
                  go_wp2_with fail
                  go_ret
                  exact ⟨rfl, rfl⟩
              · all_goals (simp at hn; subst hn)
                go_enter Tryd.func35, Tryd.ntmps35
                go_wp2_with fail
                go_ret
                exact ⟨rfl, rfl⟩
            · all_goals (simp at hn; subst hn)
              go_enter Tryd.func35, Tryd.ntmps35
              go_wp2_with fail
              go_ret
              exact ⟨rfl, rfl⟩
          · all_goals (simp at hn; subst hn)
            go_enter Tryd.func35, Tryd.ntmps35
            go_wp2_with fail
            go_ret
            exact ⟨rfl, rfl⟩
        · all_goals (simp at hn; subst hn)
          go_enter Tryd.func35, Tryd.ntmps35
          go_wp2_with fail
          go_ret
          exact ⟨rfl, rfl⟩
      · all_goals (simp at hn; subst hn)
        go_enter Tryd.func35, Tryd.ntmps35
        go_wp2_with fail
        go_ret
        exact ⟨rfl, rfl⟩
    · all_goals (simp at hn; subst hn)
      go_enter Tryd.func35, Tryd.ntmps35
      go_wp2_with fail
      go_ret
      exact ⟨rfl, rfl⟩
  · all_goals (simp at hn; subst hn)
    go_enter Tryd.func35, Tryd.ntmps35
    go_wp2_with fail
    go_ret
    exact ⟨rfl, rfl⟩


end Go.Proofs.YtibagbnnplpfgaaDoor
