/- The first of two calls, reckoned by the kernel. -/
import Derived.Test.YtffhapobmfifiacGreatDoorRunD
namespace Go.Proofs.YtffhapobmfifiacGreatDoor.Runs
open Go.Ev (noOrc orcOr orc1 orcC saysTrue fitR fitC)
theorem runA : fitR (Ev.evalCall Tryz.prog noOrc 1000000 4 a1 h0) v1 h1 = true := by kernel_rfl
end Go.Proofs.YtffhapobmfifiacGreatDoor.Runs
