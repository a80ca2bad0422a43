/- A memo of calls of plain things, where no block of the world is known. -/
import Derived.Test.YtfcmgkakmaclcaaEvBs
set_option linter.unusedVariables false
namespace Go.Ev
theorem orcD_ok0 [Inhabited Env] {P : Program} (hbase : (default : Env).base = none) (hm : P.follows .mixedOrders = true) {orc : Orc} (hO : OrcS P orc) {F : Nat} {L : Memo} (he : okM P orc F L = true) : OrcS P (orcD L) := by
  intro f args H v2 H2 h s w a' hR ha d cs
  unfold orcD at h
  split at h
  · rename_i v hq
    cases h
    obtain ⟨hcl, hf⟩ := memoF_ok he hq
    unfold fitD at hf
    split at hf
    · rename_i u H' hev
      obtain ⟨e1, e2⟩ := and2 hf
      have e1 := same1_eq e1
      subst e1
      have e4 := cloAll_V hcl ha
      subst e4
      have hR0 : R P (fun _ => none) deadH w := ⟨rfl, fun i x h => (by cases h), fun i o u x h1 h2 h3 => (by cases h3), fun i j o u o' u' x y h1 h2 h3 h4 h5 => (by cases h5), fun x e => by rw [hbase] at e; cases e⟩
      have hd := (call_sound hm hO hev hR0 (cloAll_self hcl)).mono (R' := fun r w' => ∃ v', r = .returned v' ∧ ∃ s', V s' u v' ∧ Post P (fun _ => none) deadH w s' H' w') (by rintro r w' ⟨s', v', h1, h2, h3⟩; exact ⟨v', h1, s', h2, h3⟩)
      obtain ⟨v', w', k1, s', k2, k3⟩ := calls_back hd d cs
      have e5 := clo_V e2 k2
      subst e5
      refine ⟨s, v', w', k1, clo_self e2, Post.still hR (fun b hb => k3.keep b hb ?_) k3.size k3.os k3.tape k3.output⟩
      rintro ⟨i, o, u, x, _, _, h3, _⟩
      cases h3
    · cases hf
  · cases h
end Go.Ev
