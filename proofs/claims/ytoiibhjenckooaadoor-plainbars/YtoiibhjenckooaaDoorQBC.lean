/- PlainBars: calls of Plain, reckoned by the kernel. -/
import Derived.Test.YtoiibhjenckooaaDoorQBH
import Derived.Test.YtoiibhjenckooaaDoorRN
namespace Go.Proofs.YtoiibhjenckooaaDoor.Runs
open Go.Ev (noOrc orcOr orcB orcC orcD orcE orcM callNow baseH deadH fitB fitE saysB dead)
theorem ne26 : fitE (callNow Tryd.prog (oM mlN) 1000000 5 na26 ⟨309, nl26⟩) (.bool false) ⟨309, nl26⟩ = true := by kernel_rfl
theorem ne27 : fitE (callNow Tryd.prog (oM mlN) 1000000 5 na27 ⟨324, nl27⟩) (.bool false) ⟨324, nl27⟩ = true := by kernel_rfl
theorem ne28 : fitE (callNow Tryd.prog (oM mlN) 1000000 5 na28 ⟨331, nl28⟩) (.bool true) ⟨331, nl28⟩ = true := by kernel_rfl
theorem ne29 : fitE (callNow Tryd.prog (oM mlN) 1000000 5 na29 ⟨343, nl29⟩) (.bool false) ⟨343, nl29⟩ = true := by kernel_rfl
theorem ne30 : fitE (callNow Tryd.prog (oM mlN) 1000000 5 na30 ⟨358, nl30⟩) (.bool false) ⟨358, nl30⟩ = true := by kernel_rfl
theorem ne31 : fitE (callNow Tryd.prog (oM mlN) 1000000 5 na31 ⟨365, nl31⟩) (.bool true) ⟨365, nl31⟩ = true := by kernel_rfl
theorem ne32 : fitE (callNow Tryd.prog (oM mlN) 1000000 5 na32 ⟨377, nl32⟩) (.bool false) ⟨377, nl32⟩ = true := by kernel_rfl
theorem ne33 : fitE (callNow Tryd.prog (oM mlN) 1000000 5 na33 ⟨392, nl33⟩) (.bool false) ⟨392, nl33⟩ = true := by kernel_rfl
theorem ne34 : fitE (callNow Tryd.prog (oM mlN) 1000000 5 na34 ⟨399, nl34⟩) (.bool true) ⟨399, nl34⟩ = true := by kernel_rfl
theorem ne35 : fitE (callNow Tryd.prog (oM mlN) 1000000 5 na35 ⟨414, nl35⟩) (.bool false) ⟨414, nl35⟩ = true := by kernel_rfl
theorem ne36 : fitE (callNow Tryd.prog (oM mlN) 1000000 5 na36 ⟨421, nl36⟩) (.bool true) ⟨421, nl36⟩ = true := by kernel_rfl
theorem ne37 : fitE (callNow Tryd.prog (oM mlN) 1000000 5 na37 ⟨436, nl37⟩) (.bool false) ⟨436, nl37⟩ = true := by kernel_rfl
theorem ne38 : fitE (callNow Tryd.prog (oM mlN) 1000000 5 na38 ⟨443, nl38⟩) (.bool true) ⟨443, nl38⟩ = true := by kernel_rfl
end Go.Proofs.YtoiibhjenckooaaDoor.Runs
