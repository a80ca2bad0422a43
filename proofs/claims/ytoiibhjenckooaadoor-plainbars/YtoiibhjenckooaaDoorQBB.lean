/- PlainBars: calls of Plain, reckoned by the kernel. -/
import Derived.Test.YtoiibhjenckooaaDoorQBH
import Derived.Test.YtoiibhjenckooaaDoorRN
namespace Go.Proofs.YtoiibhjenckooaaDoor.Runs
open Go.Ev (noOrc orcOr orcB orcC orcD orcE orcM callNow baseH deadH fitB fitE saysB dead)
theorem ne13 : fitE (callNow Tryd.prog (oM mlN) 1000000 5 na13 ⟨161, nl13⟩) (.bool true) ⟨161, nl13⟩ = true := by kernel_rfl
theorem ne14 : fitE (callNow Tryd.prog (oM mlN) 1000000 5 na14 ⟨173, nl14⟩) (.bool false) ⟨173, nl14⟩ = true := by kernel_rfl
theorem ne15 : fitE (callNow Tryd.prog (oM mlN) 1000000 5 na15 ⟨188, nl15⟩) (.bool false) ⟨188, nl15⟩ = true := by kernel_rfl
theorem ne16 : fitE (callNow Tryd.prog (oM mlN) 1000000 5 na16 ⟨195, nl16⟩) (.bool true) ⟨195, nl16⟩ = true := by kernel_rfl
theorem ne17 : fitE (callNow Tryd.prog (oM mlN) 1000000 5 na17 ⟨207, nl17⟩) (.bool false) ⟨207, nl17⟩ = true := by kernel_rfl
theorem ne18 : fitE (callNow Tryd.prog (oM mlN) 1000000 5 na18 ⟨222, nl18⟩) (.bool false) ⟨222, nl18⟩ = true := by kernel_rfl
theorem ne19 : fitE (callNow Tryd.prog (oM mlN) 1000000 5 na19 ⟨229, nl19⟩) (.bool true) ⟨229, nl19⟩ = true := by kernel_rfl
theorem ne20 : fitE (callNow Tryd.prog (oM mlN) 1000000 5 na20 ⟨241, nl20⟩) (.bool false) ⟨241, nl20⟩ = true := by kernel_rfl
theorem ne21 : fitE (callNow Tryd.prog (oM mlN) 1000000 5 na21 ⟨256, nl21⟩) (.bool false) ⟨256, nl21⟩ = true := by kernel_rfl
theorem ne22 : fitE (callNow Tryd.prog (oM mlN) 1000000 5 na22 ⟨263, nl22⟩) (.bool true) ⟨263, nl22⟩ = true := by kernel_rfl
theorem ne23 : fitE (callNow Tryd.prog (oM mlN) 1000000 5 na23 ⟨275, nl23⟩) (.bool false) ⟨275, nl23⟩ = true := by kernel_rfl
theorem ne24 : fitE (callNow Tryd.prog (oM mlN) 1000000 5 na24 ⟨290, nl24⟩) (.bool false) ⟨290, nl24⟩ = true := by kernel_rfl
theorem ne25 : fitE (callNow Tryd.prog (oM mlN) 1000000 5 na25 ⟨297, nl25⟩) (.bool true) ⟨297, nl25⟩ = true := by kernel_rfl
end Go.Proofs.YtoiibhjenckooaaDoor.Runs
