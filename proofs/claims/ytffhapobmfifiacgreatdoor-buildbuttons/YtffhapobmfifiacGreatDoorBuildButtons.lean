/- BuildButtons returns true: a button in a button ends the first one, an a in an a, too; by an evaluator of the model's programs that is shown sound here, and its run, reckoned by the kernel; the listed tables are tied to the program's text. A closed statement. -/
import Derived.Test.YtffhapobmfifiacGreatDoorRows
import Derived.Test.YtffhapobmfifiacGreatDoorCards
import Derived.Test.YtffhapobmfifiacGreatDoorTie
import Derived.WalkKit
import Derived.ProofKit
import Derived.LaidMore
import Derived.OpenShut
import Derived.Stop.Joined
import Derived.ShutString
import Derived.SevenTiedAt
import Derived.ChangeOld
import Derived.Below
import Derived.Eval
import Derived.Test.YtffhapobmfifiacGreatDoorRunA
import Derived.Test.YtffhapobmfifiacGreatDoorRunB
import Derived.Test.YtffhapobmfifiacGreatDoorRunC
namespace Go.Proofs.YtffhapobmfifiacGreatDoor.buildButtons
open Go.ChangeShapes Go.WideShapes Go.ChangeAt Go.RowKit
open Go.ChangeMaps (open_string shut_string)
set_option linter.unusedVariables false
theorem own : ownKnob Tryz.prog.godebug = none := by kernel_rfl
abbrev laid3 : List (String × DataW Unit) := [("math/bits.deBruijn32tab", Rows.laid_math_bits_deBruijn32tab), ("math/bits.deBruijn64tab", Rows.laid_math_bits_deBruijn64tab), ("internal/strconv.uint64pow10", Rows.laid_internal_strconv_uint64pow10)]
set_option maxRecDepth 100000 in
/-- the heap that the variables' own initialisers leave meets the condition -/
theorem door_met (os : Os) (args : Array Value) : laidMetH Tryz.prog laid3 ((World.doorLaid Tryz.prog 400 os).forCall (fun _ _ => 0) ⟨#[], args, []⟩).memory :=
  laidMetH_of_parts3 (fuel := 8) (laidMet_of_run' 8 (by kernel_rfl) (by kernel_rfl)) (by kernel_rfl) (by kernel_rfl)
theorem mixed : Tryz.prog.follows .mixedOrders = true := Tryz.checked.mixed
open Ev (orcOr orc1 orcC) in
def orc : Ev.Orc := orcOr (orc1 4 Runs.a1 Runs.h0 Runs.v1 Runs.h1) (orcOr (orc1 4 Runs.a2 Runs.h1 Runs.v2 Runs.h2) (orcC 5 [] (.bool true)))
theorem orc_ok : Ev.OrcS Tryz.prog orc :=
  Ev.orcOr_ok (Ev.orc1_ok mixed Ev.noOrc_ok Runs.runA ⟨Runs.l1, (List.append_nil _).symm, by kernel_rfl⟩)
    (Ev.orcOr_ok (Ev.orc1_ok mixed Ev.noOrc_ok Runs.runB ⟨Runs.n2, rfl, by kernel_rfl⟩) (Ev.orcC_ok mixed Ev.noOrc_ok rfl Runs.runC))
/-- the run itself -/
theorem run_says : Ev.saysTrue (Ev.evalCall Tryz.prog orc 1000000 3 [] ⟨0, []⟩) = true := by kernel_rfl
theorem closed_walk (W : World) : Calls Tryz.prog 3 #[] W fun e W' => e = .returned (.bool true) ∧ Below W.heap.size W W' := Ev.closed_true mixed orc_ok run_says W
set_option maxRecDepth 100000 in
theorem lifted (os : Os) (started : os.Started) (H : Type) (enc : TypeId × Value → H) :
    ReturnsInHanded {} Tryz.checked os 3 .any (fun w args => (Rows.buildButtonsSpec.pre enc Tryz.prog Tryz.f3 [] false w args ∧ laidMetH Tryz.prog laid3 w) ∧ sizedMet enc Tryz.prog Tryz.f3 (OpenSpec.ofChange Rows.buildButtonsSpec) false w args)
      (Rows.buildButtonsSpec.post enc Tryz.prog Tryz.f3 false true false false) := by
  refine returnsInHanded_of_change_and (C := Tryz.checked) (X := fun w _ => laidMetH Tryz.prog laid3 w) (fun _ _ _ hh h => h.of_heap hh) own started (by kernel_rfl) Tryz.func3
    (ChangeSpec.witness_shaped (enc := enc) (C := Tryz.checked) (os := os) (X := fun w _ => laidMetH Tryz.prog laid3 w) false (World.doorLaid Tryz.prog 400 os) #[] 8 rfl (World.shaped_of_RefB (by kernel_rfl) (by kernel_rfl)) (by kernel_rfl) (by kernel_rfl) (by kernel_rfl) (door_met os _)) ?_
  intro W base args ds gs before hval0 hW _ _ hL _
  have hval : ∀ (j : Nat) t v, Tryz.f3.params[j]? = some t → args[j]? = some v → Value.okWide Tryz.prog W .any base t v := hval0
  have hW' := hW
  obtain ⟨p, q, hA0, hV, rfl, hfz, hnd⟩ := hW
  have hA : DataW.TrodAll enc Tryz.prog W 0 (fun _ => true) true Tryz.f3.params.toList args.toList ds p := hA0
  rw [Tryz.params3] at hA hval
  obtain ⟨hargs, rfl, rfl⟩ := trodAll_nil hA
  obtain rfl : args = #[] := by cases args; simp_all
  obtain ⟨rfl, rfl⟩ := trodVars_none hV
  clear hA0 hval0
  refine (closed_walk W).mono fun e W' ⟨he, bel⟩ => ?_
  subst he
  exact ⟨_, rfl, _, _, _, [], _, [], hW', trodAll_mk1 (shut_bool Tryz.underlying4 _), trodAll_mk0, rfl, bel.frame _, fun h => by cases h⟩

theorem over : Rows.BuildButtonsSaid :=
  OpenClaim.holds_of_wide 3 Tryz.f3 rfl rfl rfl rfl rfl rfl rfl ⟨rfl, rfl, rfl, rfl, rfl⟩ rfl rfl rfl rfl rfl (by kernel_rfl) Tryz.func3 (by kernel_rfl)
    (of_decide_eq_true (by kernel_rfl)) (by unfold Func.isWrapper; first | (rw [if_pos (by decide +kernel)]; kernel_rfl) | (rw [if_neg (by decide +kernel)]; exact ⟨rfl, rfl⟩))
    (fun os started H enc _ => lifted os started H enc)
theorem carded : Rows.BuildButtonsCardSaid :=
  Claim7.holds_tied_plain_at .later [] [.data, .data, .data] true (true, "35e0f112aecfede9e6481c528ff4d4542f310c939a156e81135156c9aac78f0f") false
    over (fun _ h => by cases h) (by kernel_rfl) (fun _ h => by cases h) buildButtons_row_tie rfl ⟨rfl, rfl⟩ (by kernel_rfl) rfl
    (fun f fn hf hfn => by
      obtain rfl : f = 3 := Option.some.inj ((show Tryz.prog.funcNamed "topiary/topiarylaw14.BuildButtons" = some 3 by kernel_rfl).symm.trans hf) |>.symm
      obtain rfl : fn = Tryz.f3 := (Option.some.inj (Tryz.func3.symm.trans hfn)).symm
      exact ⟨by kernel_rfl, fun j t ht => by
        rw [Tryz.params3] at ht
        simp at ht⟩)
    (by kernel_rfl)
end Go.Proofs.YtffhapobmfifiacGreatDoor.buildButtons
namespace Go.Proofs.YtffhapobmfifiacGreatDoor
/-- the given statement -/
theorem buildButtons_holds : Rows.BuildButtonsCardSaid :=
  buildButtons.carded
#print axioms buildButtons_holds
end Go.Proofs.YtffhapobmfifiacGreatDoor
