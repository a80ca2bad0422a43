/- PlainBars, out of its run. -/
import Derived.Test.YtoiibhjenckooaaDoorRC
import Derived.Test.YtoiibhjenckooaaDoorQBM
set_option linter.unusedVariables false
namespace Go.Proofs.YtoiibhjenckooaaDoor
open Go.RowKit
theorem plainBars_walk (W : World) (hM : Met W) : Calls Tryd.prog 3 #[] W fun e W' => e = .returned (.bool true) ∧ Below W.heap.size W W' := by
  obtain ⟨m, hm⟩ := hM.max
  letI : Inhabited Ev.Env := ⟨⟨fun i => m, some (0, 0)⟩⟩
  have hb : (default : Ev.Env).base = some (0, 0) := rfl
  have hw : W.heap[((0, 0) : Nat × Nat).1]? = some (.cells ⟨[.int .i64 ((default : Ev.Env).val 7)]⟩ 3 (0, 0)) := hm
  have hMp : Ev.OrcS Tryd.prog (Ev.orcM 33 es0 54) := Ev.orcM_ok hb mixed Ev.noOrc_ok (by rw [← Ev.callNow_eq]; exact Runs.es_ok)
  have hA : Ev.OrcS Tryd.prog (Ev.orcD Runs.mlA) := Ev.orcD_ok hb mixed Ev.noOrc_ok Runs.mlA_ok
  have hi1 := idx_orc hb ⟨#[97, 45, 98]⟩ ⟨#[45, 45]⟩ (-1) (by decide) (by kernel_rfl)
  have hi2 := idx_orc hb ⟨#[97, 45, 45, 98]⟩ ⟨#[45, 45]⟩ 1 (by decide) (by kernel_rfl)
  have aw : Ev.OrcS Tryd.prog (Ev.orcB 7 [] (.bool true) bc 3) := Ev.orcB_ok hb bc_is mixed (Ev.orcOr_ok hi1 (Ev.orcOr_ok hi2 (Ev.orcOr_ok hMp hA))) rfl (by rw [← Ev.callNow_eq]; exact Runs.runC)
  have hT : Ev.OrcS Tryd.prog (Ev.orcD Runs.mlN) := Ev.orcD_ok hb mixed Ev.noOrc_ok Runs.mlN_ok
  have hO := Runs.nok (Ev.orcOr_ok hMp hT) (Ev.orcOr_ok aw (Ev.orcOr_ok hMp hT))
  exact Ev.base_true hb bc_is mixed hO (args := []) (args' := []) rfl (by rw [← Ev.callNow_eq]; exact Runs.nm) W hw
end Go.Proofs.YtoiibhjenckooaaDoor
