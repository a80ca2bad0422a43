/- Runs of BuildHeads, reckoned by the kernel, one for each way its numbers may fall. -/
import Derived.Test.YtpnlcopohnjbeaaGreatDoorEvY
import Derived.Test.YtpnlcopohnjbeaaGreatDoorEvW
import Derived.Test.YtpnlcopohnjbeaaGreatDoorProg
namespace Go.Proofs.YtpnlcopohnjbeaaGreatDoor.Runs
open Go.Ev (noOrc orcOr orc1 orcC saysTrue fitR fitC)
theorem runBuildHeads_t_2 : saysTrue (Ev.callNow Tryz.prog (orcOr (orcC 7 [.chan (some 0), .int .i64 6] (.int .i64 2)) (orcC 10 [] (.bool true))) 1000000 6 [.bool true, .chan (some 0)] ⟨0, []⟩) = true := by kernel_rfl
theorem runBuildHeads_t_3 : saysTrue (Ev.callNow Tryz.prog (orcOr (orcC 7 [.chan (some 0), .int .i64 6] (.int .i64 3)) (orcC 10 [] (.bool true))) 1000000 6 [.bool true, .chan (some 0)] ⟨0, []⟩) = true := by kernel_rfl
end Go.Proofs.YtpnlcopohnjbeaaGreatDoor.Runs
