/- BuildAdopts returns true at every two numbers: two formatting elements that are closed crosswise, the second one is there twice, in the first one and behind it; by an evaluator of the model's programs that is shown sound here, and its runs, reckoned by the kernel, one for each way the numbers may fall; the listed tables are tied to the program's text. No condition. -/
import Derived.Test.YtpnlcopohnjbeaaGreatDoorRows
import Derived.Test.YtpnlcopohnjbeaaGreatDoorCards
import Derived.Test.YtpnlcopohnjbeaaGreatDoorTie
import Derived.WalkKit
import Derived.ProofKit
import Derived.LaidMore
import Derived.OpenShut
import Derived.Stop.Joined
import Derived.ShutString
import Derived.SevenTiedAt
import Derived.ChangeOld
import Derived.Below
import Derived.Eval
import Derived.Test.YtpnlcopohnjbeaaGreatDoorPl
import Derived.Test.YtpnlcopohnjbeaaGreatDoorRC
import Derived.Test.YtpnlcopohnjbeaaGreatDoorQoAA
import Derived.Test.YtpnlcopohnjbeaaGreatDoorQoAB
import Derived.Test.YtpnlcopohnjbeaaGreatDoorQoAC
import Derived.Test.YtpnlcopohnjbeaaGreatDoorQoAD
import Derived.Test.YtpnlcopohnjbeaaGreatDoorQoAE
import Derived.Test.YtpnlcopohnjbeaaGreatDoorQoAF
import Derived.Test.YtpnlcopohnjbeaaGreatDoorQoAG
import Derived.Test.YtpnlcopohnjbeaaGreatDoorQoAH
import Derived.Test.YtpnlcopohnjbeaaGreatDoorQoAI
import Derived.Test.YtpnlcopohnjbeaaGreatDoorQoAJ
namespace Go.Proofs.YtpnlcopohnjbeaaGreatDoor.buildAdopts
open Go.ChangeShapes Go.WideShapes Go.ChangeAt Go.RowKit
open Go.ChangeMaps (open_string shut_string)
set_option linter.unusedVariables false
theorem own : ownKnob Tryz.prog.godebug = none := by kernel_rfl
abbrev laid3 : List (String × DataW Unit) := [("math/bits.deBruijn32tab", Rows.laid_math_bits_deBruijn32tab), ("math/bits.deBruijn64tab", Rows.laid_math_bits_deBruijn64tab), ("internal/strconv.uint64pow10", Rows.laid_internal_strconv_uint64pow10)]
set_option maxRecDepth 100000 in
/-- the heap that the variables' own initialisers leave meets the condition -/
theorem door_met (os : Os) (args : Array Value) : laidMetH Tryz.prog laid3 ((World.doorLaid Tryz.prog 400 os).forCall (fun _ _ => 0) ⟨#[], args, []⟩).memory :=
  laidMetH_of_parts3 (fuel := 8) (laidMet_of_run' 8 (by kernel_rfl) (by kernel_rfl)) (by kernel_rfl) (by kernel_rfl)
theorem env_ok [Inhabited Ev.Env] {i : Nat} {y : Int} (h : (default : Ev.Env).val i = y) : Ev.V (fun _ => none) (.chan (some i)) (.int .i64 y) := by rw [← h]; rfl
/-- the walk: one run for each way the numbers may fall -/
theorem walk (x0 : Int) (x1 : Int) (W : World) : Calls Tryz.prog 4 #[.int .i64 x0, .int .i64 x1] W fun e W' => e = .returned (.bool true) ∧ Below W.heap.size W W' := by
  letI : Inhabited Ev.Env := ⟨⟨fun i => if i = 0 then x0 else if i = 1 then x1 else 0⟩⟩
  have e0 : (default : Ev.Env).val 0 = x0 := rfl
  have e1 : (default : Ev.Env).val 1 = x1 := rfl
  have hV : Ev.VL (fun _ => none) [.chan (some 0), .chan (some 1)] [.int .i64 x0, .int .i64 x1] := by
    exact ⟨_, _, env_ok e0, ⟨_, _, env_ok e1, rfl, rfl⟩, rfl⟩
  have hC : Ev.OrcS Tryz.prog (Ev.orcC 10 [] (.bool true)) := orc_now mixed Ev.noOrc_ok rfl Runs.runC
  obtain ⟨k0, hk0⟩ : ∃ k, pl ((default : Ev.Env).val 0) 6 = k := ⟨_, rfl⟩
  have lt0 : k0 < 6 := hk0 ▸ pl_lt _ _ (by omega)
  have O0 := place_orc 0 6 k0 (by omega) (by omega) hk0
  obtain ⟨k1, hk1⟩ : ∃ k, pl ((default : Ev.Env).val 1) 5 = k := ⟨_, rfl⟩
  have lt1 : k1 < 5 := hk1 ▸ pl_lt _ _ (by omega)
  have O1 := place_orc 1 5 k1 (by omega) (by omega) hk1
  have O := (Ev.orcOr_ok O0 (Ev.orcOr_ok O1 hC))
  clear hk0 O0
  clear hk1 O1
  match k0, lt0, O with
  | 0, _, O =>
    match k1, lt1, O with
    | 0, _, O =>
      exact run_now mixed O hV Runs.runBuildAdopts_0_0 W
    | 1, _, O =>
      exact run_now mixed O hV Runs.runBuildAdopts_0_1 W
    | 2, _, O =>
      exact run_now mixed O hV Runs.runBuildAdopts_0_2 W
    | 3, _, O =>
      exact run_now mixed O hV Runs.runBuildAdopts_0_3 W
    | 4, _, O =>
      exact run_now mixed O hV Runs.runBuildAdopts_0_4 W
    | k + 5, h, _ => omega
  | 1, _, O =>
    match k1, lt1, O with
    | 0, _, O =>
      exact run_now mixed O hV Runs.runBuildAdopts_1_0 W
    | 1, _, O =>
      exact run_now mixed O hV Runs.runBuildAdopts_1_1 W
    | 2, _, O =>
      exact run_now mixed O hV Runs.runBuildAdopts_1_2 W
    | 3, _, O =>
      exact run_now mixed O hV Runs.runBuildAdopts_1_3 W
    | 4, _, O =>
      exact run_now mixed O hV Runs.runBuildAdopts_1_4 W
    | k + 5, h, _ => omega
  | 2, _, O =>
    match k1, lt1, O with
    | 0, _, O =>
      exact run_now mixed O hV Runs.runBuildAdopts_2_0 W
    | 1, _, O =>
      exact run_now mixed O hV Runs.runBuildAdopts_2_1 W
    | 2, _, O =>
      exact run_now mixed O hV Runs.runBuildAdopts_2_2 W
    | 3, _, O =>
      exact run_now mixed O hV Runs.runBuildAdopts_2_3 W
    | 4, _, O =>
      exact run_now mixed O hV Runs.runBuildAdopts_2_4 W
    | k + 5, h, _ => omega
  | 3, _, O =>
    match k1, lt1, O with
    | 0, _, O =>
      exact run_now mixed O hV Runs.runBuildAdopts_3_0 W
    | 1, _, O =>
      exact run_now mixed O hV Runs.runBuildAdopts_3_1 W
    | 2, _, O =>
      exact run_now mixed O hV Runs.runBuildAdopts_3_2 W
    | 3, _, O =>
      exact run_now mixed O hV Runs.runBuildAdopts_3_3 W
    | 4, _, O =>
      exact run_now mixed O hV Runs.runBuildAdopts_3_4 W
    | k + 5, h, _ => omega
  | 4, _, O =>
    match k1, lt1, O with
    | 0, _, O =>
      exact run_now mixed O hV Runs.runBuildAdopts_4_0 W
    | 1, _, O =>
      exact run_now mixed O hV Runs.runBuildAdopts_4_1 W
    | 2, _, O =>
      exact run_now mixed O hV Runs.runBuildAdopts_4_2 W
    | 3, _, O =>
      exact run_now mixed O hV Runs.runBuildAdopts_4_3 W
    | 4, _, O =>
      exact run_now mixed O hV Runs.runBuildAdopts_4_4 W
    | k + 5, h, _ => omega
  | 5, _, O =>
    match k1, lt1, O with
    | 0, _, O =>
      exact run_now mixed O hV Runs.runBuildAdopts_5_0 W
    | 1, _, O =>
      exact run_now mixed O hV Runs.runBuildAdopts_5_1 W
    | 2, _, O =>
      exact run_now mixed O hV Runs.runBuildAdopts_5_2 W
    | 3, _, O =>
      exact run_now mixed O hV Runs.runBuildAdopts_5_3 W
    | 4, _, O =>
      exact run_now mixed O hV Runs.runBuildAdopts_5_4 W
    | k + 5, h, _ => omega
  | k + 6, h, _ => omega
set_option maxRecDepth 100000 in
theorem lifted (os : Os) (started : os.Started) (H : Type) (enc : TypeId × Value → H) :
    ReturnsInHanded {} Tryz.checked os 4 .any (fun w args => (Rows.buildAdoptsSpec.pre enc Tryz.prog Tryz.f4 [] false w args ∧ laidMetH Tryz.prog laid3 w) ∧ sizedMet enc Tryz.prog Tryz.f4 (OpenSpec.ofChange Rows.buildAdoptsSpec) false w args)
      (Rows.buildAdoptsSpec.post enc Tryz.prog Tryz.f4 false true false false) := by
  refine returnsInHanded_of_change_and (C := Tryz.checked) (X := fun w _ => laidMetH Tryz.prog laid3 w) (fun _ _ _ hh h => h.of_heap hh) own started (by kernel_rfl) Tryz.func4
    (ChangeSpec.witness_shaped (enc := enc) (C := Tryz.checked) (os := os) (X := fun w _ => laidMetH Tryz.prog laid3 w) false (World.doorLaid Tryz.prog 400 os) #[.int .i64 0, .int .i64 0] 8 rfl (World.shaped_of_RefB (by kernel_rfl) (by kernel_rfl)) (by kernel_rfl) (by kernel_rfl) (by kernel_rfl) (door_met os _)) ?_
  intro W base args ds gs before hval0 hW _ _ hL _
  have hval : ∀ (j : Nat) t v, Tryz.f4.params[j]? = some t → args[j]? = some v → Value.okWide Tryz.prog W .any base t v := hval0
  have hW' := hW
  obtain ⟨p, q, hA0, hV, rfl, hfz, hnd⟩ := hW
  have hA : DataW.TrodAll enc Tryz.prog W 0 (fun _ => true) true Tryz.f4.params.toList args.toList ds p := hA0
  rw [Tryz.params4] at hA hval
  obtain ⟨v0, vs0, d0, ds0, p0, q0, hargs, rfl, rfl, h0, r0⟩ := trodAll_cons hA
  obtain ⟨v1, vs1, d1, ds1, p1, q1, rfl, rfl, rfl, h1, r1⟩ := trodAll_cons r0
  obtain ⟨rfl, rfl, rfl⟩ := trodAll_nil r1
  obtain rfl : args = #[v0, v1] := by cases args; simp_all
  obtain ⟨rfl, rfl⟩ := trodVars_none hV
  obtain ⟨a0, rfl, rfl, rfl, w0⟩ := open_int Tryz.underlying3 (hval 0 3 v0 rfl rfl) h0
  obtain ⟨a1, rfl, rfl, rfl, w1⟩ := open_int Tryz.underlying3 (hval 1 3 v1 rfl rfl) h1
  clear hA0 hval0
  simp only [List.append_nil] at hW'
  refine (walk a0 a1 W).mono fun e W' ⟨he, bel⟩ => ?_
  subst he
  exact ⟨_, rfl, _, _, _, [], _, [], hW', trodAll_mk1 (shut_bool Tryz.underlying4 _), (trodAll_cons_mk (shut_int Tryz.underlying3 w0) (trodAll_cons_mk (shut_int Tryz.underlying3 w1) trodAll_mk0)), rfl, bel.frame _, fun h => by cases h⟩

theorem over : Rows.BuildAdoptsSaid :=
  OpenClaim.holds_of_wide 4 Tryz.f4 rfl rfl rfl rfl rfl rfl rfl ⟨rfl, rfl, rfl, rfl, rfl⟩ rfl rfl rfl rfl rfl (by kernel_rfl) Tryz.func4 (by kernel_rfl)
    (of_decide_eq_true (by kernel_rfl)) (by unfold Func.isWrapper; first | (rw [if_pos (by decide +kernel)]; kernel_rfl) | (rw [if_neg (by decide +kernel)]; exact ⟨rfl, rfl⟩))
    (fun os started H enc _ => lifted os started H enc)
theorem carded : Rows.BuildAdoptsCardSaid :=
  Claim7.holds_tied_plain_at .later [] [.data, .data, .data] true (true, "f0c778c769b74ef2446ea5ade17d752e390c8f88121eec7c65f234831842744d") false
    over (fun _ h => by cases h) (by kernel_rfl) (fun _ h => by cases h) buildAdopts_row_tie rfl ⟨rfl, rfl⟩ (by kernel_rfl) rfl
    (fun f fn hf hfn => by
      obtain rfl : f = 4 := Option.some.inj ((show Tryz.prog.funcNamed "topiary/topiarylaw14.BuildAdopts" = some 4 by kernel_rfl).symm.trans hf) |>.symm
      obtain rfl : fn = Tryz.f4 := (Option.some.inj (Tryz.func4.symm.trans hfn)).symm
      exact ⟨by kernel_rfl, fun j t ht => by
        rw [Tryz.params4] at ht
        have hm : t ∈ [3, 3] := by simpa using Array.mem_of_getElem? ht
        have hall : ([3, 3].all fun u => !Tryz.prog.wantsStandIn u) = true := by kernel_rfl
        exact (show Tryz.prog.wantsStandIn t = false by simpa using List.all_eq_true.1 hall t hm)⟩)
    (by kernel_rfl)
end Go.Proofs.YtpnlcopohnjbeaaGreatDoor.buildAdopts
namespace Go.Proofs.YtpnlcopohnjbeaaGreatDoor
/-- the given statement -/
theorem buildAdopts_holds : Rows.BuildAdoptsCardSaid :=
  buildAdopts.carded
#print axioms buildAdopts_holds
end Go.Proofs.YtpnlcopohnjbeaaGreatDoor
