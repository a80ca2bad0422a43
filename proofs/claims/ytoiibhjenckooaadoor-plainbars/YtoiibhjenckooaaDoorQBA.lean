/- PlainBars: calls of Plain, reckoned by the kernel. -/
import Derived.Test.YtoiibhjenckooaaDoorQBH
import Derived.Test.YtoiibhjenckooaaDoorRN
namespace Go.Proofs.YtoiibhjenckooaaDoor.Runs
open Go.Ev (noOrc orcOr orcB orcC orcD orcE orcM callNow baseH deadH fitB fitE saysB dead)
theorem ne0 : fitE (callNow Tryd.prog (oM mlN) 1000000 5 na0 ⟨18, nl0⟩) (.bool false) ⟨18, nl0⟩ = true := by kernel_rfl
theorem ne1 : fitE (callNow Tryd.prog (oM mlN) 1000000 5 na1 ⟨25, nl1⟩) (.bool true) ⟨25, nl1⟩ = true := by kernel_rfl
theorem ne2 : fitE (callNow Tryd.prog (oM mlN) 1000000 5 na2 ⟨37, nl2⟩) (.bool false) ⟨37, nl2⟩ = true := by kernel_rfl
theorem ne3 : fitE (callNow Tryd.prog (oM mlN) 1000000 5 na3 ⟨52, nl3⟩) (.bool false) ⟨52, nl3⟩ = true := by kernel_rfl
theorem ne4 : fitE (callNow Tryd.prog (oM mlN) 1000000 5 na4 ⟨59, nl4⟩) (.bool true) ⟨59, nl4⟩ = true := by kernel_rfl
theorem ne5 : fitE (callNow Tryd.prog (oM mlN) 1000000 5 na5 ⟨71, nl5⟩) (.bool false) ⟨71, nl5⟩ = true := by kernel_rfl
theorem ne6 : fitE (callNow Tryd.prog (oM mlN) 1000000 5 na6 ⟨86, nl6⟩) (.bool false) ⟨86, nl6⟩ = true := by kernel_rfl
theorem ne7 : fitE (callNow Tryd.prog (oM mlN) 1000000 5 na7 ⟨93, nl7⟩) (.bool true) ⟨93, nl7⟩ = true := by kernel_rfl
theorem ne8 : fitE (callNow Tryd.prog (oM mlN) 1000000 5 na8 ⟨105, nl8⟩) (.bool false) ⟨105, nl8⟩ = true := by kernel_rfl
theorem ne9 : fitE (callNow Tryd.prog (oM mlN) 1000000 5 na9 ⟨120, nl9⟩) (.bool false) ⟨120, nl9⟩ = true := by kernel_rfl
theorem ne10 : fitE (callNow Tryd.prog (oM mlN) 1000000 5 na10 ⟨127, nl10⟩) (.bool true) ⟨127, nl10⟩ = true := by kernel_rfl
theorem ne11 : fitE (callNow Tryd.prog (oM mlN) 1000000 5 na11 ⟨139, nl11⟩) (.bool false) ⟨139, nl11⟩ = true := by kernel_rfl
theorem ne12 : fitE (callNow Tryd.prog (oM mlN) 1000000 5 na12 ⟨154, nl12⟩) (.bool false) ⟨154, nl12⟩ = true := by kernel_rfl
end Go.Proofs.YtoiibhjenckooaaDoor.Runs
