/- What the statements ask at their end: the document's example, reckoned by the kernel. -/
import Derived.Test.YtpnlcopohnjbeaaGreatDoorEvY
import Derived.Test.YtpnlcopohnjbeaaGreatDoorEvW
import Derived.Test.YtpnlcopohnjbeaaGreatDoorProg
namespace Go.Proofs.YtpnlcopohnjbeaaGreatDoor.Runs
open Go.Ev (noOrc orcOr orc1 orcC saysTrue fitR fitC)
theorem runC : fitC (Ev.callNow Tryz.prog noOrc 1000000 10 [] ⟨0, []⟩) (.bool true) = true := by kernel_rfl
end Go.Proofs.YtpnlcopohnjbeaaGreatDoor.Runs
