/- What the statement asks at its end. -/
import Derived.Test.YtffhapobmfifiacGreatDoorRunD
namespace Go.Proofs.YtffhapobmfifiacGreatDoor.Runs
open Go.Ev (noOrc orcOr orc1 orcC saysTrue fitR fitC)
theorem runC : fitC (Ev.evalCall Tryz.prog noOrc 1000000 5 [] ⟨0, []⟩) (.bool true) = true := by kernel_rfl
end Go.Proofs.YtffhapobmfifiacGreatDoor.Runs
