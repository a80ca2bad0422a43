/- The listed table as it lies in memory when a call begins. -/
import Derived.Test.YtdniddiaiinggaaDoorRows
import Derived.Test.YtdniddiaiinggaaDoorCode
import Derived.ProofKit
import Derived.LaidMore
import Derived.OpenShut
import Derived.Stop.Joined
import Derived.Lib.LaidTab
namespace Go.Proofs.YtdniddiaiinggaaDoor
open Go.ChangeShapes Go.WideShapes Go.ChangeAt Go.WideMaps Go.WideElems Go.RowKit M

theorem own : ownKnob Tryd.prog.godebug = none := by kernel_rfl
theorem gCodes : Tryd.prog.globalNamed "topiary/entity.codes" = some 1 := by kernel_rfl
theorem tCodes : (Tryd.prog.globals[1]?).map (·.type) = some 84 := by kernel_rfl
abbrev laid1 : List (String × DataW Unit) := [("topiary/entity.codes", Rows.laid_topiary_entity_codes)]

set_option maxRecDepth 100000 in
/-- the heap that the variables' own initialisers leave meets the condition -/
theorem door_met (os : Os) (args : Array Value) : laidMetH Tryd.prog laid1 ((World.doorLaid Tryd.prog 400 os).forCall (fun _ _ => 0) ⟨#[], args, []⟩).memory :=
  laidMetH_of_parts3 (fuel := 8) (laidMet_of_run' 8 (by kernel_rfl) (by kernel_rfl)) (by kernel_rfl) (by kernel_rfl)

theorem tab_eq : (Rows.laid_topiary_entity_codes : DataW Unit) = Lib.tabData .i32 Cd := rfl
theorem cd_len : Cd.length = 32 := by decide
theorem of_laid {W : World} (h : laidMetH Tryd.prog laid1 W) : Laid W := by
  rw [MakeChecks.laidMetH_plain _ _ _ (by kernel_rfl)] at h
  have h2 : laidMet Tryd.prog (("topiary/entity.codes", Lib.tabData .i32 Cd) :: []) W := h
  have h3 := Lib.tabIs_of_head gCodes tCodes Tryd.underlying84 Tryd.underlying21 (by kernel_rfl) (by kernel_rfl) h2
  unfold Lib.TabIs at h3
  have hc : ∀ i, i < 32 → W.cell? ⟨1, i, none⟩ = some (.int .i32 (Cd.getD i 0)) := by
    intro i hi
    have h4 := World.var?_cell gCodes h3 i
    rw [h4, List.getElem?_toArray, List.getElem?_map, List.getElem?_eq_getElem (by rw [cd_len]; exact hi)]
    simp only [Option.map_some]
    rw [List.getD_eq_getElem?_getD, List.getElem?_eq_getElem (by rw [cd_len]; exact hi)]
    rfl
  refine ⟨hc, ?_⟩
  have h5 := hc 0 (by decide)
  by_cases hz : 1 < W.heap.size
  · exact hz
  · exfalso
    have : W.heap[1]? = none := by rw [Array.getElem?_eq_none]; omega
    simp [World.cell?, this] at h5
end Go.Proofs.YtdniddiaiinggaaDoor
