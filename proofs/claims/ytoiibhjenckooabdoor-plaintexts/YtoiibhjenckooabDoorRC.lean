/- What the statements ask at their end: the document's example, reckoned by the kernel. -/
import Derived.Test.YtoiibhjenckooabDoorBx
import Derived.Test.YtoiibhjenckooabDoorRM
namespace Go.Proofs.YtoiibhjenckooabDoor.Runs
open Go.Ev (noOrc orcOr orcB orcC orcD orcM callNow baseH deadH fitB saysB)
theorem runC : fitB (callNow Tryd.prog (orcOr (idxA ⟨#[97, 45, 98]⟩ ⟨#[45, 45]⟩ (-1)) (orcOr (idxA ⟨#[97, 45, 45, 98]⟩ ⟨#[45, 45]⟩ 1) (oM mlA))) 1000000 9 [] (baseH bc 3)) (.bool true) bc 3 = true := by kernel_rfl
end Go.Proofs.YtoiibhjenckooabDoor.Runs
