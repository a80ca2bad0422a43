/- Runs of BuildAdopts, reckoned by the kernel, one for each way its numbers may fall. -/
import Derived.Test.YtpnlcopohnjbeaaGreatDoorEvY
import Derived.Test.YtpnlcopohnjbeaaGreatDoorEvW
import Derived.Test.YtpnlcopohnjbeaaGreatDoorProg
namespace Go.Proofs.YtpnlcopohnjbeaaGreatDoor.Runs
open Go.Ev (noOrc orcOr orc1 orcC saysTrue fitR fitC)
theorem runBuildAdopts_0_0 : saysTrue (Ev.callNow Tryz.prog (orcOr (orcC 7 [.chan (some 0), .int .i64 6] (.int .i64 0)) (orcOr (orcC 7 [.chan (some 1), .int .i64 5] (.int .i64 0)) (orcC 10 [] (.bool true)))) 1000000 4 [.chan (some 0), .chan (some 1)] ⟨0, []⟩) = true := by kernel_rfl
theorem runBuildAdopts_0_1 : saysTrue (Ev.callNow Tryz.prog (orcOr (orcC 7 [.chan (some 0), .int .i64 6] (.int .i64 0)) (orcOr (orcC 7 [.chan (some 1), .int .i64 5] (.int .i64 1)) (orcC 10 [] (.bool true)))) 1000000 4 [.chan (some 0), .chan (some 1)] ⟨0, []⟩) = true := by kernel_rfl
theorem runBuildAdopts_0_2 : saysTrue (Ev.callNow Tryz.prog (orcOr (orcC 7 [.chan (some 0), .int .i64 6] (.int .i64 0)) (orcOr (orcC 7 [.chan (some 1), .int .i64 5] (.int .i64 2)) (orcC 10 [] (.bool true)))) 1000000 4 [.chan (some 0), .chan (some 1)] ⟨0, []⟩) = true := by kernel_rfl
end Go.Proofs.YtpnlcopohnjbeaaGreatDoor.Runs
