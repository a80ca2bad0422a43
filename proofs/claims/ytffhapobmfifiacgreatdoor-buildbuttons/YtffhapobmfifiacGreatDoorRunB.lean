/- The second of two calls, from what the first one left. -/
import Derived.Test.YtffhapobmfifiacGreatDoorRunD
namespace Go.Proofs.YtffhapobmfifiacGreatDoor.Runs
open Go.Ev (noOrc orcOr orc1 orcC saysTrue fitR fitC)
theorem runB : fitR (Ev.evalCall Tryz.prog noOrc 1000000 4 a2 h1) v2 h2 = true := by kernel_rfl
end Go.Proofs.YtffhapobmfifiacGreatDoor.Runs
