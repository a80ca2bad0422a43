/- An evaluator for closed runs: drawn regions: what does nothing, what makes a block. -/
import Derived.Test.YtfcmgkakmaclcaaEvQ
import Derived.Test.YtfcmgkakmaclcaaEvL
set_option linter.unusedSimpArgs false
set_option linter.unusedVariables false
set_option linter.unusedSectionVars false
namespace Go.Ev
variable [Inhabited Env]
section
variable {P : Program} {s : Sg} {H : Hp} {w : World}
theorem fPure_H {v : Option Value} {n : Next} {H' : Hp} (h : fPure v H = some (n, H')) : H' = H ∧ ∃ u, n = .value u := by obtain ⟨u, _, _, e1, e2⟩ := fPure_eq h; exact ⟨e2, u, e1⟩
theorem fVal_H {v : Option Value} {n : Next} {H' : Hp} (h : fVal v H = some (n, H')) : H' = H ∧ ∃ u, n = .value u := by obtain ⟨u, _, e1, e2⟩ := fVal_eq h; exact ⟨e2, u, e1⟩
/-- what only looks turns nothing -/
theorem kind_look {tm : Tm} {ty : TypeId} {op : Op} {n : Next} {H' : Hp} (he : execF P tm ty op H = some (n, H')) (h3 : kind P op ≠ 3) (h2 : kind P op ≠ 2) : H' = H ∧ ∃ v, n = .value v := by
  cases op <;> simp only [execF] at he <;> first | (cases he; done) | (exact absurd rfl h3) | (exact absurd rfl h2) | skip
  case move x => exact fVal_H he
  case pick c a b =>
    obtain ⟨vc, va, vb, e1, e2, e3, e4⟩ := u3_eq he
    unfold fPick at e4
    split at e4 <;> first | (cases e4; exact ⟨rfl, _, rfl⟩) | cases e4
  case build t ps => exact fVal_H he
  case load t x => obtain ⟨v, _, e⟩ := u1_eq he; exact fVal_H e
  case nilCheck x =>
    obtain ⟨v, _, e⟩ := u1_eq he
    unfold fNil at e
    split at e <;> first | (cases e; exact ⟨rfl, _, rfl⟩) | cases e
  case binOp op t x y yt =>
    obtain ⟨v, u, _, _, e⟩ := u2_eq he
    unfold binO at e
    split at e
    · cases e; exact ⟨rfl, _, rfl⟩
    · split at e
      · split at e
        · cases e
        · cases e
        · exact fPure_H e
      · cases e
  case unOp op t x =>
    obtain ⟨v, _, e⟩ := u1_eq he
    split at e
    · exact fPure_H e
    · cases e
  case convert a b x =>
    obtain ⟨v, _, e⟩ := u1_eq he
    unfold fConv at e
    split at e
    · split at e
      · exact fVal_H e
      · cases e
    · rename_i ee bb hda hdb hop
      exact absurd (by simp only [kind, hdb]) h3
    · split at e
      · exact fPure_H e
      · cases e
  case makeFunc fn a b =>
    unfold fFunc at he
    split at he
    · cases he; exact ⟨rfl, _, rfl⟩
    · cases he
  case slice t x lo hi mx =>
    obtain ⟨v, _, e⟩ := u1_eq he
    unfold slArgs at e
    split at e
    · exact fVal_H e
    · cases e
  case fieldAddr t x f =>
    obtain ⟨v, _, e⟩ := u1_eq he
    unfold fField at e
    split at e
    · unfold fField2 at e
      split at e
      · split at e
        · cases e; exact ⟨rfl, _, rfl⟩
        · cases e
      · cases e
    · cases e
  case field t x f => obtain ⟨v, _, e⟩ := u1_eq he; exact fVal_H e
  case indexAddr t x i =>
    obtain ⟨v, u, _, _, e⟩ := u2_eq he
    unfold fIdx at e
    split at e
    · split at e
      · unfold fIdx2 at e
        split at e
        · cases e; exact ⟨rfl, _, rfl⟩
        · cases e
      · cases e
    · split at e
      · unfold fIdx2 at e
        split at e
        · cases e; exact ⟨rfl, _, rfl⟩
        · cases e
      · cases e
    · cases e
  case index t x i => obtain ⟨v, u, _, _, e⟩ := u2_eq he; exact fVal_H e
  case lookup t m k ok => obtain ⟨v, u, _, _, e⟩ := u2_eq he; exact fVal_H e
  case extract x i =>
    obtain ⟨v, _, e⟩ := u1_eq he
    unfold fExtract at e
    split at e
    · exact fVal_H e
    · cases e
  case call c =>
    unfold fCall at he
    cases hc : c.callee with
    | value f => exact absurd (by simp only [kind, hc]) h3
    | invoke r m => exact absurd (by simp only [kind, hc]) h3
    | builtin b =>
      simp only [hc] at he
      unfold fBuiltin at he
      cases b <;> simp only [] at he <;> first | (cases he; done) | (refine absurd ?_ h3; simp only [kind, hc]; done) | skip
      case len =>
        unfold fLen1 at he
        split at he
        · exact fVal_H he
        · cases he
      all_goals
        split at he
        · split at he
          · exact fPure_H he
          · cases he
        · cases he
/-- what makes a block makes one -/
theorem kind_new {tm : Tm} {ty : TypeId} {op : Op} {n : Next} {H' : Hp} (he : execF P tm ty op H = some (n, H')) (h2 : kind P op = 2) : ∃ v ob, n = .value v ∧ H' = H.push (ob, false) := by
  cases op <;> simp only [execF] at he <;> first | (cases he; done) | (cases h2; done) | skip
  case alloc t =>
    unfold fAlloc at he
    split at he
    · unfold fNew at he; cases he; exact ⟨_, _, rfl, rfl⟩
    · cases he
  case box t x =>
    obtain ⟨v, _, e⟩ := u1_eq he
    unfold fBox at e
    split at e
    · unfold fNew at e; cases e; exact ⟨_, _, rfl, rfl⟩
    · cases e
  case buildSlice t len ps =>
    unfold fBuildSlice at he
    split at he
    · unfold bsE at he
      split at he
      · split at he
        · unfold bsP at he
          split at he
          · cases he; exact ⟨_, _, rfl, rfl⟩
          · cases he
        · cases he
      · cases he
    · cases he
  case convert a b x => simp only [kind] at h2; split at h2 <;> cases h2
  case call c => simp only [kind] at h2; split at h2 <;> cases h2
end
end Go.Ev
