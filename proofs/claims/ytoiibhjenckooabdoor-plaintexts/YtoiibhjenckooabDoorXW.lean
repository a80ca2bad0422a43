/- PlainTexts, out of its runs: one for each way its numbers may fall. -/
import Derived.Test.YtoiibhjenckooabDoorRC
import Derived.Test.YtoiibhjenckooabDoorQXA
import Derived.Test.YtoiibhjenckooabDoorQXB
import Derived.Test.YtoiibhjenckooabDoorQXC
import Derived.Test.YtoiibhjenckooabDoorQXD
import Derived.Test.YtoiibhjenckooabDoorQXE
import Derived.Test.YtoiibhjenckooabDoorQXF
import Derived.Test.YtoiibhjenckooabDoorQXG
import Derived.Test.YtoiibhjenckooabDoorQXH
import Derived.Test.YtoiibhjenckooabDoorQXI
import Derived.Test.YtoiibhjenckooabDoorQXJ
import Derived.Test.YtoiibhjenckooabDoorQXK
set_option linter.unusedVariables false
namespace Go.Proofs.YtoiibhjenckooabDoor
open Go.RowKit
theorem plainTexts_walk (x0 x1 : Int) (W : World) (hM : Met W) : Calls Tryd.prog 5 #[.int .i64 x0, .int .i64 x1] W fun e W' => e = .returned (.bool true) ∧ Below W.heap.size W W' := by
  obtain ⟨m, hm⟩ := hM.max
  letI : Inhabited Ev.Env := ⟨⟨fun i => if i = 0 then x0 else if i = 1 then x1 else m, some (0, 0)⟩⟩
  have hV : Ev.VL (Ev.sg0 (0, 0)) [.chan (some 0), .chan (some 1)] [.int .i64 x0, .int .i64 x1] := ⟨_, _, rfl, ⟨_, _, rfl, rfl, rfl⟩, rfl⟩
  have hb : (default : Ev.Env).base = some (0, 0) := rfl
  have hw : W.heap[((0, 0) : Nat × Nat).1]? = some (.cells ⟨[.int .i64 ((default : Ev.Env).val 7)]⟩ 3 (0, 0)) := hm
  have hMp : Ev.OrcS Tryd.prog (Ev.orcM 36 es0 54) := Ev.orcM_ok hb mixed Ev.noOrc_ok (by rw [← Ev.callNow_eq]; exact Runs.es_ok)
  have hA : Ev.OrcS Tryd.prog (Ev.orcD Runs.mlA) := Ev.orcD_ok hb mixed Ev.noOrc_ok Runs.mlA_ok
  have hi1 := idx_orc hb ⟨#[97, 45, 98]⟩ ⟨#[45, 45]⟩ (-1) (by decide) (by kernel_rfl)
  have hi2 := idx_orc hb ⟨#[97, 45, 45, 98]⟩ ⟨#[45, 45]⟩ 1 (by decide) (by kernel_rfl)
  have aw : Ev.OrcS Tryd.prog (Ev.orcB 9 [] (.bool true) bc 3) := Ev.orcB_ok hb bc_is mixed (Ev.orcOr_ok hi1 (Ev.orcOr_ok hi2 (Ev.orcOr_ok hMp hA))) rfl (by rw [← Ev.callNow_eq]; exact Runs.runC)
  have hT : Ev.OrcS Tryd.prog (Ev.orcD Runs.mlX) := Ev.orcD_ok hb mixed Ev.noOrc_ok Runs.mlX_ok
  have hi3 := idx_orc hb ⟨#[97, 13, 98]⟩ ⟨#[194, 160]⟩ (-1) (by decide) (by kernel_rfl)
  have hI := Ev.orcOr_ok hi3 (Ev.orcOr_ok hMp hT)
  have hR := Ev.orcOr_ok aw (Ev.orcOr_ok hi3 (Ev.orcOr_ok hMp hT))
  obtain ⟨k0, hk0⟩ : ∃ k, pl ((default : Ev.Env).val 0) 6 = k := ⟨_, rfl⟩
  have lt0 : k0 < 6 := hk0 ▸ pl_lt _ _ (by omega)
  have O0 := place_orc 0 6 k0 (by omega) (by omega) hk0
  obtain ⟨k1, hk1⟩ : ∃ k, pl ((default : Ev.Env).val 1) (k0 + 1) = k := ⟨_, rfl⟩
  have lt1 : k1 < k0 + 1 := hk1 ▸ pl_lt _ _ (by omega)
  have O1 := place_orc 1 (k0 + 1) k1 (by omega) (by omega) hk1
  clear hk0 hk1
  match k0, lt0, k1, lt1, O0, O1 with
  | 0, _, 0, _, O0, O1 => exact Ev.base_true hb bc_is mixed (Runs.x1_0_ok hI (Ev.orcOr_ok O0 (Ev.orcOr_ok O1 hR))) hV (by rw [← Ev.callNow_eq]; exact Runs.x1_0_m) W hw
  | 0, _, k1 + 1, h, _, _ => omega
  | 1, _, 0, _, O0, O1 => exact Ev.base_true hb bc_is mixed (Runs.x2_0_ok hI (Ev.orcOr_ok O0 (Ev.orcOr_ok O1 hR))) hV (by rw [← Ev.callNow_eq]; exact Runs.x2_0_m) W hw
  | 1, _, 1, _, O0, O1 => exact Ev.base_true hb bc_is mixed (Runs.x2_1_ok hI (Ev.orcOr_ok O0 (Ev.orcOr_ok O1 hR))) hV (by rw [← Ev.callNow_eq]; exact Runs.x2_1_m) W hw
  | 1, _, k1 + 2, h, _, _ => omega
  | 2, _, 0, _, O0, O1 => exact Ev.base_true hb bc_is mixed (Runs.x3_0_ok hI (Ev.orcOr_ok O0 (Ev.orcOr_ok O1 hR))) hV (by rw [← Ev.callNow_eq]; exact Runs.x3_0_m) W hw
  | 2, _, 1, _, O0, O1 => exact Ev.base_true hb bc_is mixed (Runs.x3_1_ok hI (Ev.orcOr_ok O0 (Ev.orcOr_ok O1 hR))) hV (by rw [← Ev.callNow_eq]; exact Runs.x3_1_m) W hw
  | 2, _, 2, _, O0, O1 => exact Ev.base_true hb bc_is mixed (Runs.x3_2_ok hI (Ev.orcOr_ok O0 (Ev.orcOr_ok O1 hR))) hV (by rw [← Ev.callNow_eq]; exact Runs.x3_2_m) W hw
  | 2, _, k1 + 3, h, _, _ => omega
  | 3, _, 0, _, O0, O1 => exact Ev.base_true hb bc_is mixed (Runs.x4_0_ok hI (Ev.orcOr_ok O0 (Ev.orcOr_ok O1 hR))) hV (by rw [← Ev.callNow_eq]; exact Runs.x4_0_m) W hw
  | 3, _, 1, _, O0, O1 => exact Ev.base_true hb bc_is mixed (Runs.x4_1_ok hI (Ev.orcOr_ok O0 (Ev.orcOr_ok O1 hR))) hV (by rw [← Ev.callNow_eq]; exact Runs.x4_1_m) W hw
  | 3, _, 2, _, O0, O1 => exact Ev.base_true hb bc_is mixed (Runs.x4_2_ok hI (Ev.orcOr_ok O0 (Ev.orcOr_ok O1 hR))) hV (by rw [← Ev.callNow_eq]; exact Runs.x4_2_m) W hw
  | 3, _, 3, _, O0, O1 => exact Ev.base_true hb bc_is mixed (Runs.x4_3_ok hI (Ev.orcOr_ok O0 (Ev.orcOr_ok O1 hR))) hV (by rw [← Ev.callNow_eq]; exact Runs.x4_3_m) W hw
  | 3, _, k1 + 4, h, _, _ => omega
  | 4, _, 0, _, O0, O1 => exact Ev.base_true hb bc_is mixed (Runs.x5_0_ok hI (Ev.orcOr_ok O0 (Ev.orcOr_ok O1 hR))) hV (by rw [← Ev.callNow_eq]; exact Runs.x5_0_m) W hw
  | 4, _, 1, _, O0, O1 => exact Ev.base_true hb bc_is mixed (Runs.x5_1_ok hI (Ev.orcOr_ok O0 (Ev.orcOr_ok O1 hR))) hV (by rw [← Ev.callNow_eq]; exact Runs.x5_1_m) W hw
  | 4, _, 2, _, O0, O1 => exact Ev.base_true hb bc_is mixed (Runs.x5_2_ok hI (Ev.orcOr_ok O0 (Ev.orcOr_ok O1 hR))) hV (by rw [← Ev.callNow_eq]; exact Runs.x5_2_m) W hw
  | 4, _, 3, _, O0, O1 => exact Ev.base_true hb bc_is mixed (Runs.x5_3_ok hI (Ev.orcOr_ok O0 (Ev.orcOr_ok O1 hR))) hV (by rw [← Ev.callNow_eq]; exact Runs.x5_3_m) W hw
  | 4, _, 4, _, O0, O1 => exact Ev.base_true hb bc_is mixed (Runs.x5_4_ok hI (Ev.orcOr_ok O0 (Ev.orcOr_ok O1 hR))) hV (by rw [← Ev.callNow_eq]; exact Runs.x5_4_m) W hw
  | 4, _, k1 + 5, h, _, _ => omega
  | 5, _, 0, _, O0, O1 => exact Ev.base_true hb bc_is mixed (Runs.x6_0_ok hI (Ev.orcOr_ok O0 (Ev.orcOr_ok O1 hR))) hV (by rw [← Ev.callNow_eq]; exact Runs.x6_0_m) W hw
  | 5, _, 1, _, O0, O1 => exact Ev.base_true hb bc_is mixed (Runs.x6_1_ok hI (Ev.orcOr_ok O0 (Ev.orcOr_ok O1 hR))) hV (by rw [← Ev.callNow_eq]; exact Runs.x6_1_m) W hw
  | 5, _, 2, _, O0, O1 => exact Ev.base_true hb bc_is mixed (Runs.x6_2_ok hI (Ev.orcOr_ok O0 (Ev.orcOr_ok O1 hR))) hV (by rw [← Ev.callNow_eq]; exact Runs.x6_2_m) W hw
  | 5, _, 3, _, O0, O1 => exact Ev.base_true hb bc_is mixed (Runs.x6_3_ok hI (Ev.orcOr_ok O0 (Ev.orcOr_ok O1 hR))) hV (by rw [← Ev.callNow_eq]; exact Runs.x6_3_m) W hw
  | 5, _, 4, _, O0, O1 => exact Ev.base_true hb bc_is mixed (Runs.x6_4_ok hI (Ev.orcOr_ok O0 (Ev.orcOr_ok O1 hR))) hV (by rw [← Ev.callNow_eq]; exact Runs.x6_4_m) W hw
  | 5, _, 5, _, O0, O1 => exact Ev.base_true hb bc_is mixed (Runs.x6_5_ok hI (Ev.orcOr_ok O0 (Ev.orcOr_ok O1 hR))) hV (by rw [← Ev.callNow_eq]; exact Runs.x6_5_m) W hw
  | 5, _, k1 + 6, h, _, _ => omega
  | k0 + 6, h, _, _, _, _ => omega
end Go.Proofs.YtoiibhjenckooabDoor
