/- An evaluator for runs: unknown whole numbers are handed on; what a call says of them is known beforehand. -/
import Derived.Test.YtfcmgkakmaclcaaEvX
set_option linter.unusedSimpArgs false
set_option linter.unusedVariables false
set_option linter.unusedSectionVars false
namespace Go.Ev
/-- a call of what is known, or of unknowns: it says the same whatever memory it is made in -/
theorem orcU_ok [Inhabited Env] {P : Program} {f0 : FuncId} {args0 a0 : List Value} {v : Value} (hv : clo v = true) (ha : ∀ s a', VL s args0 a' → a' = a0) (hc : ∀ w, Calls P f0 ⟨a0⟩ w fun e w' => e = .returned v ∧ w' = w) : OrcS P (orcC f0 args0 v) := by
  intro f args H v2 H2 h s w a' hR ha' c cs
  unfold orcC at h
  split at h
  · rename_i hq
    cases h
    obtain ⟨q1, q2⟩ := and2 hq
    have q1 := Nat.eq_of_beq_eq_true q1
    have q2 := sameL_eq q2
    subst q1 q2
    have e1 := ha s a' ha'
    subst e1
    have hd := (hc w).mono (R' := fun e w' => ∃ v', e = .returned v' ∧ (v' = v ∧ w' = w)) (by rintro e w' ⟨h1, h2⟩; exact ⟨v, h1, rfl, h2⟩)
    obtain ⟨v', w', k1, k2, k3⟩ := calls_back hd c cs
    subst k2 k3
    exact ⟨s, v', w', k1, clo_self hv, Post.still hR (fun b hb => rfl) (Nat.le_refl _) rfl rfl rfl⟩
  · cases h
/-- **A call of plain things and unknowns: whatever memory it is made in, it says what the evaluator says.** -/
theorem args_true [Inhabited Env] {P : Program} {orc : Orc} (hbase : (default : Env).base = none) (hm : P.follows .mixedOrders = true) (hO : OrcS P orc) {F : Nat} {f : FuncId} {args args' : List Value} (ha : VL (fun _ => none) args args') (h : saysTrue (evalCall P orc F f args ⟨0, []⟩) = true) (w : World) :
    Calls P f ⟨args'⟩ w fun e w' => e = .returned (.bool true) ∧ RowKit.Below w.heap.size w w' := by
  unfold saysTrue at h
  split at h
  · rename_i b H' he
    subst h
    have hR : R P (fun _ => none) ⟨0, []⟩ w := ⟨rfl, fun i x h => (by cases h), fun i o u x h1 h2 h3 => (by cases h3), fun i j o u o' u' x y h1 h2 h3 h4 h5 => (by cases h5), fun x e => by rw [hbase] at e; cases e⟩
    refine (call_sound hm hO he hR ha).mono ?_
    rintro e w' ⟨s', v', e1, h1, h2⟩
    rw [clo_V rfl h1] at e1
    refine ⟨e1, h2.os, h2.tape, h2.output, h2.size, fun k hk => h2.keep k hk ?_⟩
    rintro ⟨i, o, u, x, _, _, h3, _⟩
    cases h3
  · cases h
/-- a place of an unknown -/
theorem two_args [Inhabited Env] {s : Sg} {i : Nat} {n : Int} {a' : List Value} (h : VL s [.chan (some i), .int .i64 n] a') : a' = [.int .i64 ((default : Env).val i), .int .i64 n] := by
  obtain ⟨v', r', h1, ⟨v2, r2, h3, h4, e2⟩, e1⟩ := h
  cases h4
  cases h3
  cases h1
  rw [e1, e2]
end Go.Ev
