/- Runs of PlainTexts, reckoned by the kernel, one for each way its numbers may fall, cut at each call of Plain. -/
import Derived.Test.YtoiibhjenckooabDoorEvDr
import Derived.Test.YtoiibhjenckooabDoorRM
namespace Go.Proofs.YtoiibhjenckooabDoor.Runs
open Go.Ev (noOrc orcOr orcB orcC orcD orcE orcM callNow baseH deadH fitB fitE saysB dead)
def x5_4_l0 : List (Obj × Bool) := [(.cells #[(.int .i64 2), (.string ⟨#[104, 116, 109, 108]⟩), (.string ⟨#[]⟩), (.slice none 0 0), (.slice (some ⟨25, 0, none⟩) 2 2)] 28 (0, 0), false),
  (.cells #[(.int .i64 2), (.string ⟨#[104, 116, 109, 108]⟩), (.string ⟨#[]⟩), (.slice none 0 0), (.slice (some ⟨25, 0, none⟩) 2 2)] 28 (0, 0), false),
  (.cells #[(.int .i64 2), (.string ⟨#[104, 101, 97, 100]⟩), (.string ⟨#[]⟩), (.slice none 0 0), (.slice none 0 0), (.int .i64 2), (.string ⟨#[98, 111, 100, 121]⟩), (.string ⟨#[]⟩), (.slice none 0 0), (.slice (some ⟨15, 0, none⟩) 10 2199023255552)] 28 (0, 0), false),
  (.cells #[(.int .i64 2), (.string ⟨#[98, 111, 100, 121]⟩), (.string ⟨#[]⟩), (.slice none 0 0), (.slice (some ⟨15, 0, none⟩) 10 2199023255552)] 28 (0, 0), false),
  (.cells #[(.int .i64 2), (.string ⟨#[104, 101, 97, 100]⟩), (.string ⟨#[]⟩), (.slice none 0 0), (.slice none 0 0)] 28 (0, 0), false),
  (.cells #[(.int .i64 1), (.string ⟨#[]⟩), (.string ⟨#[]⟩), (.slice none 0 0), (.slice (some ⟨27, 0, none⟩) 1 1)] 28 (0, 0), false),
  (.cells #[(.int .i64 3), (.string ⟨#[]⟩), (.string ⟨#[97]⟩), (.slice none 0 0), (.slice none 0 0), (.int .i64 2), (.string ⟨#[98, 114]⟩), (.string ⟨#[]⟩), (.slice none 0 0), (.slice none 0 0), (.int .i64 3), (.string ⟨#[]⟩), (.string ⟨#[97]⟩), (.slice none 0 0), (.slice none 0 0), (.int .i64 2), (.string ⟨#[98, 114]⟩), (.string ⟨#[]⟩), (.slice none 0 0), (.slice none 0 0), (.int .i64 3), (.string ⟨#[]⟩), (.string ⟨#[97]⟩), (.slice none 0 0), (.slice none 0 0), (.int .i64 2), (.string ⟨#[98, 114]⟩), (.string ⟨#[]⟩), (.slice none 0 0), (.slice none 0 0), (.int .i64 3), (.string ⟨#[]⟩), (.string ⟨#[97]⟩), (.slice none 0 0), (.slice none 0 0), (.int .i64 2), (.string ⟨#[98, 114]⟩), (.string ⟨#[]⟩), (.slice none 0 0), (.slice none 0 0), (.int .i64 3), (.string ⟨#[]⟩), (.string ⟨#[10, 98]⟩), (.slice none 0 0), (.slice none 0 0), (.int .i64 2), (.string ⟨#[98, 114]⟩), (.string ⟨#[]⟩), (.slice none 0 0), (.slice none 0 0)] 28 (0, 0), true),
  (.cells #[(.int .i64 3), (.string ⟨#[]⟩), (.string ⟨#[97]⟩), (.slice none 0 0), (.slice none 0 0), (.int .i64 2), (.string ⟨#[98, 114]⟩), (.string ⟨#[]⟩), (.slice none 0 0), (.slice none 0 0), (.int .i64 3), (.string ⟨#[]⟩), (.string ⟨#[97]⟩), (.slice none 0 0), (.slice none 0 0), (.int .i64 2), (.string ⟨#[98, 114]⟩), (.string ⟨#[]⟩), (.slice none 0 0), (.slice none 0 0), (.int .i64 3), (.string ⟨#[]⟩), (.string ⟨#[97]⟩), (.slice none 0 0), (.slice none 0 0), (.int .i64 2), (.string ⟨#[98, 114]⟩), (.string ⟨#[]⟩), (.slice none 0 0), (.slice none 0 0), (.int .i64 3), (.string ⟨#[]⟩), (.string ⟨#[97]⟩), (.slice none 0 0), (.slice none 0 0), (.int .i64 2), (.string ⟨#[98, 114]⟩), (.string ⟨#[]⟩), (.slice none 0 0), (.slice none 0 0), (.int .i64 3), (.string ⟨#[]⟩), (.string ⟨#[97, 13, 98]⟩), (.slice none 0 0), (.slice none 0 0), (.int .i64 2), (.string ⟨#[98, 114]⟩), (.string ⟨#[]⟩), (.slice none 0 0), (.slice none 0 0)] 28 (0, 0), true),
  (.cells #[(.int .i64 3), (.string ⟨#[]⟩), (.string ⟨#[97]⟩), (.slice none 0 0), (.slice none 0 0), (.int .i64 2), (.string ⟨#[98, 114]⟩), (.string ⟨#[]⟩), (.slice none 0 0), (.slice none 0 0), (.int .i64 3), (.string ⟨#[]⟩), (.string ⟨#[97]⟩), (.slice none 0 0), (.slice none 0 0), (.int .i64 2), (.string ⟨#[98, 114]⟩), (.string ⟨#[]⟩), (.slice none 0 0), (.slice none 0 0), (.int .i64 3), (.string ⟨#[]⟩), (.string ⟨#[97]⟩), (.slice none 0 0), (.slice none 0 0), (.int .i64 2), (.string ⟨#[98, 114]⟩), (.string ⟨#[]⟩), (.slice none 0 0), (.slice none 0 0), (.int .i64 3), (.string ⟨#[]⟩), (.string ⟨#[97]⟩), (.slice none 0 0), (.slice none 0 0), (.int .i64 2), (.string ⟨#[98, 114]⟩), (.string ⟨#[]⟩), (.slice none 0 0), (.slice none 0 0), (.int .i64 3), (.string ⟨#[]⟩), (.string ⟨#[98]⟩), (.slice none 0 0), (.slice none 0 0), (.int .i64 3), (.string ⟨#[]⟩), (.string ⟨#[97]⟩), (.slice none 0 0), (.slice none 0 0), (.int .i64 2), (.string ⟨#[98, 114]⟩), (.string ⟨#[]⟩), (.slice none 0 0), (.slice none 0 0)] 28 (0, 0), true),
  dead,
  dead,
  (.cells #[(.int .i64 3), (.string ⟨#[]⟩), (.string ⟨#[98]⟩), (.slice none 0 0), (.slice none 0 0)] 28 (0, 0), false),
  (.cells #[(.int .i64 3), (.string ⟨#[]⟩), (.string ⟨#[97]⟩), (.slice none 0 0), (.slice none 0 0), (.int .i64 2), (.string ⟨#[98, 114]⟩), (.string ⟨#[]⟩), (.slice none 0 0), (.slice none 0 0), (.int .i64 3), (.string ⟨#[]⟩), (.string ⟨#[97]⟩), (.slice none 0 0), (.slice none 0 0), (.int .i64 2), (.string ⟨#[98, 114]⟩), (.string ⟨#[]⟩), (.slice none 0 0), (.slice none 0 0), (.int .i64 3), (.string ⟨#[]⟩), (.string ⟨#[97]⟩), (.slice none 0 0), (.slice none 0 0), (.int .i64 2), (.string ⟨#[98, 114]⟩), (.string ⟨#[]⟩), (.slice none 0 0), (.slice none 0 0), (.int .i64 3), (.string ⟨#[]⟩), (.string ⟨#[97]⟩), (.slice none 0 0), (.slice none 0 0), (.int .i64 2), (.string ⟨#[98, 114]⟩), (.string ⟨#[]⟩), (.slice none 0 0), (.slice none 0 0), (.int .i64 3), (.string ⟨#[]⟩), (.string ⟨#[97]⟩), (.slice none 0 0), (.slice none 0 0), (.int .i64 2), (.string ⟨#[98, 114]⟩), (.string ⟨#[]⟩), (.slice none 0 0), (.slice none 0 0)] 28 (0, 0), true),
  (.cells #[(.int .i64 3), (.string ⟨#[]⟩), (.string ⟨#[97]⟩), (.slice none 0 0), (.slice none 0 0), (.int .i64 2), (.string ⟨#[98, 114]⟩), (.string ⟨#[]⟩), (.slice none 0 0), (.slice none 0 0)] 28 (0, 0), false),
  (.cells #[(.int .i64 2), (.string ⟨#[98, 114]⟩), (.string ⟨#[]⟩), (.slice none 0 0), (.slice none 0 0)] 28 (0, 0), false),
  dead,
  (.cells #[(.int .i64 3), (.string ⟨#[]⟩), (.string ⟨#[97]⟩), (.slice none 0 0), (.slice none 0 0), (.int .i64 2), (.string ⟨#[98, 114]⟩), (.string ⟨#[]⟩), (.slice none 0 0), (.slice none 0 0)] 28 (0, 0), false),
  (.cells #[(.int .i64 2), (.string ⟨#[98, 114]⟩), (.string ⟨#[]⟩), (.slice none 0 0), (.slice none 0 0)] 28 (0, 0), false),
  dead,
  (.cells #[(.int .i64 3), (.string ⟨#[]⟩), (.string ⟨#[97]⟩), (.slice none 0 0), (.slice none 0 0), (.int .i64 2), (.string ⟨#[98, 114]⟩), (.string ⟨#[]⟩), (.slice none 0 0), (.slice none 0 0)] 28 (0, 0), false),
  (.cells #[(.int .i64 2), (.string ⟨#[98, 114]⟩), (.string ⟨#[]⟩), (.slice none 0 0), (.slice none 0 0)] 28 (0, 0), false),
  dead,
  (.cells #[(.int .i64 3), (.string ⟨#[]⟩), (.string ⟨#[97]⟩), (.slice none 0 0), (.slice none 0 0), (.int .i64 2), (.string ⟨#[98, 114]⟩), (.string ⟨#[]⟩), (.slice none 0 0), (.slice none 0 0)] 28 (0, 0), false),
  (.cells #[(.int .i64 2), (.string ⟨#[98, 114]⟩), (.string ⟨#[]⟩), (.slice none 0 0), (.slice none 0 0)] 28 (0, 0), false),
  dead,
  (.cells #[(.int .i64 3), (.string ⟨#[]⟩), (.string ⟨#[97]⟩), (.slice none 0 0), (.slice none 0 0), (.int .i64 2), (.string ⟨#[98, 114]⟩), (.string ⟨#[]⟩), (.slice none 0 0), (.slice none 0 0)] 28 (0, 0), false),
  (.cells #[(.int .i64 2), (.string ⟨#[98, 114]⟩), (.string ⟨#[]⟩), (.slice none 0 0), (.slice none 0 0)] 28 (0, 0), false),
  (.cells #[(.chan (some 7))] 3 (0, 0), false)]
def x5_4_a0 : List Value := [(.agg #[(.int .i64 1), (.string ⟨#[]⟩), (.string ⟨#[]⟩), (.slice none 0 0), (.slice (some ⟨27, 0, none⟩) 1 1)])]
theorem x5_4_e0 : fitE (callNow Tryd.prog (orcOr (idxA ⟨#[97, 13, 98]⟩ ⟨#[194, 160]⟩ (-1)) (oM mlX)) 1000000 6 x5_4_a0 ⟨28, x5_4_l0⟩) (.bool true) ⟨28, x5_4_l0⟩ = true := by kernel_rfl
def x5_4_l1 : List (Obj × Bool) := (.cells #[(.int .i64 2), (.string ⟨#[104, 116, 109, 108]⟩), (.string ⟨#[]⟩), (.slice none 0 0), (.slice (some ⟨31, 0, none⟩) 2 2)] 28 (0, 0), false) ::
  (.cells #[(.int .i64 2), (.string ⟨#[104, 116, 109, 108]⟩), (.string ⟨#[]⟩), (.slice none 0 0), (.slice (some ⟨31, 0, none⟩) 2 2)] 28 (0, 0), false) ::
  (.cells #[(.int .i64 2), (.string ⟨#[104, 101, 97, 100]⟩), (.string ⟨#[]⟩), (.slice none 0 0), (.slice none 0 0), (.int .i64 2), (.string ⟨#[98, 111, 100, 121]⟩), (.string ⟨#[]⟩), (.slice none 0 0), (.slice (some ⟨19, 0, none⟩) 11 2199023255552)] 28 (0, 0), false) ::
  (.cells #[(.int .i64 2), (.string ⟨#[98, 111, 100, 121]⟩), (.string ⟨#[]⟩), (.slice none 0 0), (.slice (some ⟨19, 0, none⟩) 11 2199023255552)] 28 (0, 0), false) ::
  (.cells #[(.int .i64 2), (.string ⟨#[104, 101, 97, 100]⟩), (.string ⟨#[]⟩), (.slice none 0 0), (.slice none 0 0)] 28 (0, 0), false) ::
  (.cells #[(.int .i64 1), (.string ⟨#[]⟩), (.string ⟨#[]⟩), (.slice none 0 0), (.slice (some ⟨33, 0, none⟩) 1 1)] 28 (0, 0), false) ::
  x5_4_l0
def x5_4_a1 : List Value := [(.agg #[(.int .i64 1), (.string ⟨#[]⟩), (.string ⟨#[]⟩), (.slice none 0 0), (.slice (some ⟨33, 0, none⟩) 1 1)])]
theorem x5_4_e1 : fitE (callNow Tryd.prog (orcOr (idxA ⟨#[97, 13, 98]⟩ ⟨#[194, 160]⟩ (-1)) (oM mlX)) 1000000 6 x5_4_a1 ⟨34, x5_4_l1⟩) (.bool false) ⟨34, x5_4_l1⟩ = true := by kernel_rfl
def x5_4_l2 : List (Obj × Bool) := (.cells #[(.int .i64 2), (.string ⟨#[104, 116, 109, 108]⟩), (.string ⟨#[]⟩), (.slice none 0 0), (.slice (some ⟨37, 0, none⟩) 2 2)] 28 (0, 0), false) ::
  (.cells #[(.int .i64 2), (.string ⟨#[104, 116, 109, 108]⟩), (.string ⟨#[]⟩), (.slice none 0 0), (.slice (some ⟨37, 0, none⟩) 2 2)] 28 (0, 0), false) ::
  (.cells #[(.int .i64 2), (.string ⟨#[104, 101, 97, 100]⟩), (.string ⟨#[]⟩), (.slice none 0 0), (.slice none 0 0), (.int .i64 2), (.string ⟨#[98, 111, 100, 121]⟩), (.string ⟨#[]⟩), (.slice none 0 0), (.slice (some ⟨20, 0, none⟩) 10 2199023255552)] 28 (0, 0), false) ::
  (.cells #[(.int .i64 2), (.string ⟨#[98, 111, 100, 121]⟩), (.string ⟨#[]⟩), (.slice none 0 0), (.slice (some ⟨20, 0, none⟩) 10 2199023255552)] 28 (0, 0), false) ::
  (.cells #[(.int .i64 2), (.string ⟨#[104, 101, 97, 100]⟩), (.string ⟨#[]⟩), (.slice none 0 0), (.slice none 0 0)] 28 (0, 0), false) ::
  (.cells #[(.int .i64 1), (.string ⟨#[]⟩), (.string ⟨#[]⟩), (.slice none 0 0), (.slice (some ⟨39, 0, none⟩) 1 1)] 28 (0, 0), false) ::
  x5_4_l1
def x5_4_a2 : List Value := [(.agg #[(.int .i64 1), (.string ⟨#[]⟩), (.string ⟨#[]⟩), (.slice none 0 0), (.slice (some ⟨39, 0, none⟩) 1 1)])]
theorem x5_4_e2 : fitE (callNow Tryd.prog (orcOr (idxA ⟨#[97, 13, 98]⟩ ⟨#[194, 160]⟩ (-1)) (oM mlX)) 1000000 6 x5_4_a2 ⟨40, x5_4_l2⟩) (.bool false) ⟨40, x5_4_l2⟩ = true := by kernel_rfl
def x5_4_l3 : List (Obj × Bool) := (.cells #[(.int .i64 2), (.string ⟨#[104, 116, 109, 108]⟩), (.string ⟨#[]⟩), (.slice none 0 0), (.slice (some ⟨43, 0, none⟩) 2 2)] 28 (0, 0), false) ::
  (.cells #[(.int .i64 2), (.string ⟨#[104, 116, 109, 108]⟩), (.string ⟨#[]⟩), (.slice none 0 0), (.slice (some ⟨43, 0, none⟩) 2 2)] 28 (0, 0), false) ::
  (.cells #[(.int .i64 2), (.string ⟨#[104, 101, 97, 100]⟩), (.string ⟨#[]⟩), (.slice none 0 0), (.slice none 0 0), (.int .i64 2), (.string ⟨#[98, 111, 100, 121]⟩), (.string ⟨#[]⟩), (.slice none 0 0), (.slice (some ⟨21, 0, none⟩) 10 2199023255552)] 28 (0, 0), false) ::
  (.cells #[(.int .i64 2), (.string ⟨#[98, 111, 100, 121]⟩), (.string ⟨#[]⟩), (.slice none 0 0), (.slice (some ⟨21, 0, none⟩) 10 2199023255552)] 28 (0, 0), false) ::
  (.cells #[(.int .i64 2), (.string ⟨#[104, 101, 97, 100]⟩), (.string ⟨#[]⟩), (.slice none 0 0), (.slice none 0 0)] 28 (0, 0), false) ::
  (.cells #[(.int .i64 1), (.string ⟨#[]⟩), (.string ⟨#[]⟩), (.slice none 0 0), (.slice (some ⟨45, 0, none⟩) 1 1)] 28 (0, 0), false) ::
  x5_4_l2
def x5_4_a3 : List Value := [(.agg #[(.int .i64 1), (.string ⟨#[]⟩), (.string ⟨#[]⟩), (.slice none 0 0), (.slice (some ⟨45, 0, none⟩) 1 1)])]
theorem x5_4_e3 : fitE (callNow Tryd.prog (orcOr (idxA ⟨#[97, 13, 98]⟩ ⟨#[194, 160]⟩ (-1)) (oM mlX)) 1000000 6 x5_4_a3 ⟨46, x5_4_l3⟩) (.bool true) ⟨46, x5_4_l3⟩ = true := by kernel_rfl
def x5_4_l4 : List (Obj × Bool) := (.cells #[(.int .i64 2), (.string ⟨#[104, 116, 109, 108]⟩), (.string ⟨#[]⟩), (.slice none 0 0), (.slice (some ⟨51, 0, none⟩) 2 2)] 28 (0, 0), false) ::
  (.cells #[(.int .i64 2), (.string ⟨#[104, 116, 109, 108]⟩), (.string ⟨#[]⟩), (.slice none 0 0), (.slice (some ⟨51, 0, none⟩) 2 2)] 28 (0, 0), false) ::
  (.cells #[(.int .i64 2), (.string ⟨#[104, 101, 97, 100]⟩), (.string ⟨#[]⟩), (.slice none 0 0), (.slice none 0 0), (.int .i64 2), (.string ⟨#[98, 111, 100, 121]⟩), (.string ⟨#[]⟩), (.slice none 0 0), (.slice (some ⟨47, 0, none⟩) 1 1)] 28 (0, 0), false) ::
  (.cells #[(.int .i64 2), (.string ⟨#[98, 111, 100, 121]⟩), (.string ⟨#[]⟩), (.slice none 0 0), (.slice (some ⟨47, 0, none⟩) 1 1)] 28 (0, 0), false) ::
  (.cells #[(.int .i64 2), (.string ⟨#[104, 101, 97, 100]⟩), (.string ⟨#[]⟩), (.slice none 0 0), (.slice none 0 0)] 28 (0, 0), false) ::
  (.cells #[(.int .i64 1), (.string ⟨#[]⟩), (.string ⟨#[]⟩), (.slice none 0 0), (.slice (some ⟨53, 0, none⟩) 1 1)] 28 (0, 0), false) ::
  (.cells #[(.int .i64 2), (.string ⟨#[112, 114, 101]⟩), (.string ⟨#[]⟩), (.slice none 0 0), (.slice (some ⟨21, 0, none⟩) 10 2199023255552)] 28 (0, 0), false) ::
  (.cells #[(.int .i64 2), (.string ⟨#[112, 114, 101]⟩), (.string ⟨#[]⟩), (.slice none 0 0), (.slice (some ⟨21, 0, none⟩) 10 2199023255552)] 28 (0, 0), false) ::
  x5_4_l3
def x5_4_a4 : List Value := [(.agg #[(.int .i64 1), (.string ⟨#[]⟩), (.string ⟨#[]⟩), (.slice none 0 0), (.slice (some ⟨53, 0, none⟩) 1 1)])]
theorem x5_4_e4 : fitE (callNow Tryd.prog (orcOr (idxA ⟨#[97, 13, 98]⟩ ⟨#[194, 160]⟩ (-1)) (oM mlX)) 1000000 6 x5_4_a4 ⟨54, x5_4_l4⟩) (.bool true) ⟨54, x5_4_l4⟩ = true := by kernel_rfl
def x5_4_l5 : List (Obj × Bool) := (.cells #[(.int .i64 2), (.string ⟨#[104, 116, 109, 108]⟩), (.string ⟨#[]⟩), (.slice none 0 0), (.slice (some ⟨59, 0, none⟩) 2 2)] 28 (0, 0), false) ::
  (.cells #[(.int .i64 2), (.string ⟨#[104, 116, 109, 108]⟩), (.string ⟨#[]⟩), (.slice none 0 0), (.slice (some ⟨59, 0, none⟩) 2 2)] 28 (0, 0), false) ::
  (.cells #[(.int .i64 2), (.string ⟨#[104, 101, 97, 100]⟩), (.string ⟨#[]⟩), (.slice none 0 0), (.slice none 0 0), (.int .i64 2), (.string ⟨#[98, 111, 100, 121]⟩), (.string ⟨#[]⟩), (.slice none 0 0), (.slice (some ⟨55, 0, none⟩) 1 1)] 28 (0, 0), false) ::
  (.cells #[(.int .i64 2), (.string ⟨#[98, 111, 100, 121]⟩), (.string ⟨#[]⟩), (.slice none 0 0), (.slice (some ⟨55, 0, none⟩) 1 1)] 28 (0, 0), false) ::
  (.cells #[(.int .i64 2), (.string ⟨#[104, 101, 97, 100]⟩), (.string ⟨#[]⟩), (.slice none 0 0), (.slice none 0 0)] 28 (0, 0), false) ::
  (.cells #[(.int .i64 1), (.string ⟨#[]⟩), (.string ⟨#[]⟩), (.slice none 0 0), (.slice (some ⟨61, 0, none⟩) 1 1)] 28 (0, 0), false) ::
  (.cells #[(.int .i64 2), (.string ⟨#[100, 105, 118]⟩), (.string ⟨#[]⟩), (.slice none 0 0), (.slice (some ⟨21, 0, none⟩) 10 2199023255552)] 28 (0, 0), false) ::
  (.cells #[(.int .i64 2), (.string ⟨#[100, 105, 118]⟩), (.string ⟨#[]⟩), (.slice none 0 0), (.slice (some ⟨21, 0, none⟩) 10 2199023255552)] 28 (0, 0), false) ::
  x5_4_l4
def x5_4_a5 : List Value := [(.agg #[(.int .i64 1), (.string ⟨#[]⟩), (.string ⟨#[]⟩), (.slice none 0 0), (.slice (some ⟨61, 0, none⟩) 1 1)])]
theorem x5_4_e5 : fitE (callNow Tryd.prog (orcOr (idxA ⟨#[97, 13, 98]⟩ ⟨#[194, 160]⟩ (-1)) (oM mlX)) 1000000 6 x5_4_a5 ⟨62, x5_4_l5⟩) (.bool true) ⟨62, x5_4_l5⟩ = true := by kernel_rfl
abbrev x5_4_O : Ev.Orc := orcOr (orcE 6 x5_4_a0 ⟨28, x5_4_l0⟩ (.bool true)) (orcOr (orcE 6 x5_4_a1 ⟨34, x5_4_l1⟩ (.bool false)) (orcOr (orcE 6 x5_4_a2 ⟨40, x5_4_l2⟩ (.bool false)) (orcOr (orcE 6 x5_4_a3 ⟨46, x5_4_l3⟩ (.bool true)) (orcOr (orcE 6 x5_4_a4 ⟨54, x5_4_l4⟩ (.bool true)) (orcOr (orcE 6 x5_4_a5 ⟨62, x5_4_l5⟩ (.bool true)) (orcOr (orcC 10 [.chan (some 0), .int .i64 6] (.int .i64 4)) (orcOr (orcC 10 [.chan (some 1), .int .i64 5] (.int .i64 4)) (orcOr (orcB 9 [] (.bool true) bc 3) (orcOr (idxA ⟨#[97, 13, 98]⟩ ⟨#[194, 160]⟩ (-1)) (oM mlX))))))))))
theorem x5_4_m : saysB (callNow Tryd.prog x5_4_O 1000000 5 [.chan (some 0), .chan (some 1)] (baseH bc 3)) bc 3 = true := by kernel_rfl
theorem x5_4_ok [Inhabited Ev.Env] (hI : Ev.OrcS Tryd.prog ((orcOr (idxA ⟨#[97, 13, 98]⟩ ⟨#[194, 160]⟩ (-1)) (oM mlX)))) (hM : Ev.OrcS Tryd.prog (orcOr (orcC 10 [.chan (some 0), .int .i64 6] (.int .i64 4)) (orcOr (orcC 10 [.chan (some 1), .int .i64 5] (.int .i64 4)) (orcOr (orcB 9 [] (.bool true) bc 3) (orcOr (idxA ⟨#[97, 13, 98]⟩ ⟨#[194, 160]⟩ (-1)) (oM mlX)))))) : Ev.OrcS Tryd.prog x5_4_O :=
  (Ev.orcOr_ok (Ev.orcE_ok mixed hI (by rw [← Ev.callNow_eq]; exact x5_4_e0)) (Ev.orcOr_ok (Ev.orcE_ok mixed hI (by rw [← Ev.callNow_eq]; exact x5_4_e1)) (Ev.orcOr_ok (Ev.orcE_ok mixed hI (by rw [← Ev.callNow_eq]; exact x5_4_e2)) (Ev.orcOr_ok (Ev.orcE_ok mixed hI (by rw [← Ev.callNow_eq]; exact x5_4_e3)) (Ev.orcOr_ok (Ev.orcE_ok mixed hI (by rw [← Ev.callNow_eq]; exact x5_4_e4)) (Ev.orcOr_ok (Ev.orcE_ok mixed hI (by rw [← Ev.callNow_eq]; exact x5_4_e5)) hM))))))
def x6_0_l0 : List (Obj × Bool) := [(.cells #[(.int .i64 2), (.string ⟨#[104, 116, 109, 108]⟩), (.string ⟨#[]⟩), (.slice none 0 0), (.slice (some ⟨27, 0, none⟩) 2 2)] 28 (0, 0), false),
  (.cells #[(.int .i64 2), (.string ⟨#[104, 116, 109, 108]⟩), (.string ⟨#[]⟩), (.slice none 0 0), (.slice (some ⟨27, 0, none⟩) 2 2)] 28 (0, 0), false),
  (.cells #[(.int .i64 2), (.string ⟨#[104, 101, 97, 100]⟩), (.string ⟨#[]⟩), (.slice none 0 0), (.slice none 0 0), (.int .i64 2), (.string ⟨#[98, 111, 100, 121]⟩), (.string ⟨#[]⟩), (.slice none 0 0), (.slice (some ⟨18, 0, none⟩) 12 2199023255552)] 28 (0, 0), false),
  (.cells #[(.int .i64 2), (.string ⟨#[98, 111, 100, 121]⟩), (.string ⟨#[]⟩), (.slice none 0 0), (.slice (some ⟨18, 0, none⟩) 12 2199023255552)] 28 (0, 0), false),
  (.cells #[(.int .i64 2), (.string ⟨#[104, 101, 97, 100]⟩), (.string ⟨#[]⟩), (.slice none 0 0), (.slice none 0 0)] 28 (0, 0), false),
  (.cells #[(.int .i64 1), (.string ⟨#[]⟩), (.string ⟨#[]⟩), (.slice none 0 0), (.slice (some ⟨29, 0, none⟩) 1 1)] 28 (0, 0), false),
  (.cells #[(.int .i64 3), (.string ⟨#[]⟩), (.string ⟨#[10, 98]⟩), (.slice none 0 0), (.slice none 0 0), (.int .i64 2), (.string ⟨#[98, 114]⟩), (.string ⟨#[]⟩), (.slice none 0 0), (.slice none 0 0), (.int .i64 3), (.string ⟨#[]⟩), (.string ⟨#[97]⟩), (.slice none 0 0), (.slice none 0 0), (.int .i64 2), (.string ⟨#[98, 114]⟩), (.string ⟨#[]⟩), (.slice none 0 0), (.slice none 0 0), (.int .i64 3), (.string ⟨#[]⟩), (.string ⟨#[97]⟩), (.slice none 0 0), (.slice none 0 0), (.int .i64 2), (.string ⟨#[98, 114]⟩), (.string ⟨#[]⟩), (.slice none 0 0), (.slice none 0 0), (.int .i64 3), (.string ⟨#[]⟩), (.string ⟨#[97]⟩), (.slice none 0 0), (.slice none 0 0), (.int .i64 2), (.string ⟨#[98, 114]⟩), (.string ⟨#[]⟩), (.slice none 0 0), (.slice none 0 0), (.int .i64 3), (.string ⟨#[]⟩), (.string ⟨#[97]⟩), (.slice none 0 0), (.slice none 0 0), (.int .i64 2), (.string ⟨#[98, 114]⟩), (.string ⟨#[]⟩), (.slice none 0 0), (.slice none 0 0), (.int .i64 3), (.string ⟨#[]⟩), (.string ⟨#[97]⟩), (.slice none 0 0), (.slice none 0 0), (.int .i64 2), (.string ⟨#[98, 114]⟩), (.string ⟨#[]⟩), (.slice none 0 0), (.slice none 0 0)] 28 (0, 0), true),
  (.cells #[(.int .i64 3), (.string ⟨#[]⟩), (.string ⟨#[97, 13, 98]⟩), (.slice none 0 0), (.slice none 0 0), (.int .i64 2), (.string ⟨#[98, 114]⟩), (.string ⟨#[]⟩), (.slice none 0 0), (.slice none 0 0), (.int .i64 3), (.string ⟨#[]⟩), (.string ⟨#[97]⟩), (.slice none 0 0), (.slice none 0 0), (.int .i64 2), (.string ⟨#[98, 114]⟩), (.string ⟨#[]⟩), (.slice none 0 0), (.slice none 0 0), (.int .i64 3), (.string ⟨#[]⟩), (.string ⟨#[97]⟩), (.slice none 0 0), (.slice none 0 0), (.int .i64 2), (.string ⟨#[98, 114]⟩), (.string ⟨#[]⟩), (.slice none 0 0), (.slice none 0 0), (.int .i64 3), (.string ⟨#[]⟩), (.string ⟨#[97]⟩), (.slice none 0 0), (.slice none 0 0), (.int .i64 2), (.string ⟨#[98, 114]⟩), (.string ⟨#[]⟩), (.slice none 0 0), (.slice none 0 0), (.int .i64 3), (.string ⟨#[]⟩), (.string ⟨#[97]⟩), (.slice none 0 0), (.slice none 0 0), (.int .i64 2), (.string ⟨#[98, 114]⟩), (.string ⟨#[]⟩), (.slice none 0 0), (.slice none 0 0), (.int .i64 3), (.string ⟨#[]⟩), (.string ⟨#[97]⟩), (.slice none 0 0), (.slice none 0 0), (.int .i64 2), (.string ⟨#[98, 114]⟩), (.string ⟨#[]⟩), (.slice none 0 0), (.slice none 0 0)] 28 (0, 0), true),
  (.cells #[(.int .i64 3), (.string ⟨#[]⟩), (.string ⟨#[98]⟩), (.slice none 0 0), (.slice none 0 0), (.int .i64 3), (.string ⟨#[]⟩), (.string ⟨#[97]⟩), (.slice none 0 0), (.slice none 0 0), (.int .i64 2), (.string ⟨#[98, 114]⟩), (.string ⟨#[]⟩), (.slice none 0 0), (.slice none 0 0), (.int .i64 3), (.string ⟨#[]⟩), (.string ⟨#[97]⟩), (.slice none 0 0), (.slice none 0 0), (.int .i64 2), (.string ⟨#[98, 114]⟩), (.string ⟨#[]⟩), (.slice none 0 0), (.slice none 0 0), (.int .i64 3), (.string ⟨#[]⟩), (.string ⟨#[97]⟩), (.slice none 0 0), (.slice none 0 0), (.int .i64 2), (.string ⟨#[98, 114]⟩), (.string ⟨#[]⟩), (.slice none 0 0), (.slice none 0 0), (.int .i64 3), (.string ⟨#[]⟩), (.string ⟨#[97]⟩), (.slice none 0 0), (.slice none 0 0), (.int .i64 2), (.string ⟨#[98, 114]⟩), (.string ⟨#[]⟩), (.slice none 0 0), (.slice none 0 0), (.int .i64 3), (.string ⟨#[]⟩), (.string ⟨#[97]⟩), (.slice none 0 0), (.slice none 0 0), (.int .i64 2), (.string ⟨#[98, 114]⟩), (.string ⟨#[]⟩), (.slice none 0 0), (.slice none 0 0), (.int .i64 3), (.string ⟨#[]⟩), (.string ⟨#[97]⟩), (.slice none 0 0), (.slice none 0 0), (.int .i64 2), (.string ⟨#[98, 114]⟩), (.string ⟨#[]⟩), (.slice none 0 0), (.slice none 0 0)] 28 (0, 0), true),
  dead,
  (.cells #[(.int .i64 3), (.string ⟨#[]⟩), (.string ⟨#[98]⟩), (.slice none 0 0), (.slice none 0 0)] 28 (0, 0), false),
  (.cells #[(.int .i64 3), (.string ⟨#[]⟩), (.string ⟨#[97]⟩), (.slice none 0 0), (.slice none 0 0), (.int .i64 2), (.string ⟨#[98, 114]⟩), (.string ⟨#[]⟩), (.slice none 0 0), (.slice none 0 0), (.int .i64 3), (.string ⟨#[]⟩), (.string ⟨#[97]⟩), (.slice none 0 0), (.slice none 0 0), (.int .i64 2), (.string ⟨#[98, 114]⟩), (.string ⟨#[]⟩), (.slice none 0 0), (.slice none 0 0), (.int .i64 3), (.string ⟨#[]⟩), (.string ⟨#[97]⟩), (.slice none 0 0), (.slice none 0 0), (.int .i64 2), (.string ⟨#[98, 114]⟩), (.string ⟨#[]⟩), (.slice none 0 0), (.slice none 0 0), (.int .i64 3), (.string ⟨#[]⟩), (.string ⟨#[97]⟩), (.slice none 0 0), (.slice none 0 0), (.int .i64 2), (.string ⟨#[98, 114]⟩), (.string ⟨#[]⟩), (.slice none 0 0), (.slice none 0 0), (.int .i64 3), (.string ⟨#[]⟩), (.string ⟨#[97]⟩), (.slice none 0 0), (.slice none 0 0), (.int .i64 2), (.string ⟨#[98, 114]⟩), (.string ⟨#[]⟩), (.slice none 0 0), (.slice none 0 0), (.int .i64 3), (.string ⟨#[]⟩), (.string ⟨#[97]⟩), (.slice none 0 0), (.slice none 0 0), (.int .i64 2), (.string ⟨#[98, 114]⟩), (.string ⟨#[]⟩), (.slice none 0 0), (.slice none 0 0)] 28 (0, 0), true),
  (.cells #[(.int .i64 3), (.string ⟨#[]⟩), (.string ⟨#[97]⟩), (.slice none 0 0), (.slice none 0 0), (.int .i64 2), (.string ⟨#[98, 114]⟩), (.string ⟨#[]⟩), (.slice none 0 0), (.slice none 0 0)] 28 (0, 0), false),
  (.cells #[(.int .i64 2), (.string ⟨#[98, 114]⟩), (.string ⟨#[]⟩), (.slice none 0 0), (.slice none 0 0)] 28 (0, 0), false),
  dead,
  (.cells #[(.int .i64 3), (.string ⟨#[]⟩), (.string ⟨#[97]⟩), (.slice none 0 0), (.slice none 0 0), (.int .i64 2), (.string ⟨#[98, 114]⟩), (.string ⟨#[]⟩), (.slice none 0 0), (.slice none 0 0)] 28 (0, 0), false),
  (.cells #[(.int .i64 2), (.string ⟨#[98, 114]⟩), (.string ⟨#[]⟩), (.slice none 0 0), (.slice none 0 0)] 28 (0, 0), false),
  dead,
  (.cells #[(.int .i64 3), (.string ⟨#[]⟩), (.string ⟨#[97]⟩), (.slice none 0 0), (.slice none 0 0), (.int .i64 2), (.string ⟨#[98, 114]⟩), (.string ⟨#[]⟩), (.slice none 0 0), (.slice none 0 0)] 28 (0, 0), false),
  (.cells #[(.int .i64 2), (.string ⟨#[98, 114]⟩), (.string ⟨#[]⟩), (.slice none 0 0), (.slice none 0 0)] 28 (0, 0), false),
  dead,
  (.cells #[(.int .i64 3), (.string ⟨#[]⟩), (.string ⟨#[97]⟩), (.slice none 0 0), (.slice none 0 0), (.int .i64 2), (.string ⟨#[98, 114]⟩), (.string ⟨#[]⟩), (.slice none 0 0), (.slice none 0 0)] 28 (0, 0), false),
  (.cells #[(.int .i64 2), (.string ⟨#[98, 114]⟩), (.string ⟨#[]⟩), (.slice none 0 0), (.slice none 0 0)] 28 (0, 0), false),
  dead,
  (.cells #[(.int .i64 3), (.string ⟨#[]⟩), (.string ⟨#[97]⟩), (.slice none 0 0), (.slice none 0 0), (.int .i64 2), (.string ⟨#[98, 114]⟩), (.string ⟨#[]⟩), (.slice none 0 0), (.slice none 0 0)] 28 (0, 0), false),
  (.cells #[(.int .i64 2), (.string ⟨#[98, 114]⟩), (.string ⟨#[]⟩), (.slice none 0 0), (.slice none 0 0)] 28 (0, 0), false),
  dead,
  (.cells #[(.int .i64 3), (.string ⟨#[]⟩), (.string ⟨#[97]⟩), (.slice none 0 0), (.slice none 0 0), (.int .i64 2), (.string ⟨#[98, 114]⟩), (.string ⟨#[]⟩), (.slice none 0 0), (.slice none 0 0)] 28 (0, 0), false),
  (.cells #[(.int .i64 2), (.string ⟨#[98, 114]⟩), (.string ⟨#[]⟩), (.slice none 0 0), (.slice none 0 0)] 28 (0, 0), false),
  (.cells #[(.chan (some 7))] 3 (0, 0), false)]
def x6_0_a0 : List Value := [(.agg #[(.int .i64 1), (.string ⟨#[]⟩), (.string ⟨#[]⟩), (.slice none 0 0), (.slice (some ⟨29, 0, none⟩) 1 1)])]
theorem x6_0_e0 : fitE (callNow Tryd.prog (orcOr (idxA ⟨#[97, 13, 98]⟩ ⟨#[194, 160]⟩ (-1)) (oM mlX)) 1000000 6 x6_0_a0 ⟨30, x6_0_l0⟩) (.bool true) ⟨30, x6_0_l0⟩ = true := by kernel_rfl
def x6_0_l1 : List (Obj × Bool) := (.cells #[(.int .i64 2), (.string ⟨#[104, 116, 109, 108]⟩), (.string ⟨#[]⟩), (.slice none 0 0), (.slice (some ⟨33, 0, none⟩) 2 2)] 28 (0, 0), false) ::
  (.cells #[(.int .i64 2), (.string ⟨#[104, 116, 109, 108]⟩), (.string ⟨#[]⟩), (.slice none 0 0), (.slice (some ⟨33, 0, none⟩) 2 2)] 28 (0, 0), false) ::
  (.cells #[(.int .i64 2), (.string ⟨#[104, 101, 97, 100]⟩), (.string ⟨#[]⟩), (.slice none 0 0), (.slice none 0 0), (.int .i64 2), (.string ⟨#[98, 111, 100, 121]⟩), (.string ⟨#[]⟩), (.slice none 0 0), (.slice (some ⟨21, 0, none⟩) 13 2199023255552)] 28 (0, 0), false) ::
  (.cells #[(.int .i64 2), (.string ⟨#[98, 111, 100, 121]⟩), (.string ⟨#[]⟩), (.slice none 0 0), (.slice (some ⟨21, 0, none⟩) 13 2199023255552)] 28 (0, 0), false) ::
  (.cells #[(.int .i64 2), (.string ⟨#[104, 101, 97, 100]⟩), (.string ⟨#[]⟩), (.slice none 0 0), (.slice none 0 0)] 28 (0, 0), false) ::
  (.cells #[(.int .i64 1), (.string ⟨#[]⟩), (.string ⟨#[]⟩), (.slice none 0 0), (.slice (some ⟨35, 0, none⟩) 1 1)] 28 (0, 0), false) ::
  x6_0_l0
def x6_0_a1 : List Value := [(.agg #[(.int .i64 1), (.string ⟨#[]⟩), (.string ⟨#[]⟩), (.slice none 0 0), (.slice (some ⟨35, 0, none⟩) 1 1)])]
theorem x6_0_e1 : fitE (callNow Tryd.prog (orcOr (idxA ⟨#[97, 13, 98]⟩ ⟨#[194, 160]⟩ (-1)) (oM mlX)) 1000000 6 x6_0_a1 ⟨36, x6_0_l1⟩) (.bool false) ⟨36, x6_0_l1⟩ = true := by kernel_rfl
def x6_0_l2 : List (Obj × Bool) := (.cells #[(.int .i64 2), (.string ⟨#[104, 116, 109, 108]⟩), (.string ⟨#[]⟩), (.slice none 0 0), (.slice (some ⟨39, 0, none⟩) 2 2)] 28 (0, 0), false) ::
  (.cells #[(.int .i64 2), (.string ⟨#[104, 116, 109, 108]⟩), (.string ⟨#[]⟩), (.slice none 0 0), (.slice (some ⟨39, 0, none⟩) 2 2)] 28 (0, 0), false) ::
  (.cells #[(.int .i64 2), (.string ⟨#[104, 101, 97, 100]⟩), (.string ⟨#[]⟩), (.slice none 0 0), (.slice none 0 0), (.int .i64 2), (.string ⟨#[98, 111, 100, 121]⟩), (.string ⟨#[]⟩), (.slice none 0 0), (.slice (some ⟨22, 0, none⟩) 12 2199023255552)] 28 (0, 0), false) ::
  (.cells #[(.int .i64 2), (.string ⟨#[98, 111, 100, 121]⟩), (.string ⟨#[]⟩), (.slice none 0 0), (.slice (some ⟨22, 0, none⟩) 12 2199023255552)] 28 (0, 0), false) ::
  (.cells #[(.int .i64 2), (.string ⟨#[104, 101, 97, 100]⟩), (.string ⟨#[]⟩), (.slice none 0 0), (.slice none 0 0)] 28 (0, 0), false) ::
  (.cells #[(.int .i64 1), (.string ⟨#[]⟩), (.string ⟨#[]⟩), (.slice none 0 0), (.slice (some ⟨41, 0, none⟩) 1 1)] 28 (0, 0), false) ::
  x6_0_l1
def x6_0_a2 : List Value := [(.agg #[(.int .i64 1), (.string ⟨#[]⟩), (.string ⟨#[]⟩), (.slice none 0 0), (.slice (some ⟨41, 0, none⟩) 1 1)])]
theorem x6_0_e2 : fitE (callNow Tryd.prog (orcOr (idxA ⟨#[97, 13, 98]⟩ ⟨#[194, 160]⟩ (-1)) (oM mlX)) 1000000 6 x6_0_a2 ⟨42, x6_0_l2⟩) (.bool false) ⟨42, x6_0_l2⟩ = true := by kernel_rfl
def x6_0_l3 : List (Obj × Bool) := (.cells #[(.int .i64 2), (.string ⟨#[104, 116, 109, 108]⟩), (.string ⟨#[]⟩), (.slice none 0 0), (.slice (some ⟨45, 0, none⟩) 2 2)] 28 (0, 0), false) ::
  (.cells #[(.int .i64 2), (.string ⟨#[104, 116, 109, 108]⟩), (.string ⟨#[]⟩), (.slice none 0 0), (.slice (some ⟨45, 0, none⟩) 2 2)] 28 (0, 0), false) ::
  (.cells #[(.int .i64 2), (.string ⟨#[104, 101, 97, 100]⟩), (.string ⟨#[]⟩), (.slice none 0 0), (.slice none 0 0), (.int .i64 2), (.string ⟨#[98, 111, 100, 121]⟩), (.string ⟨#[]⟩), (.slice none 0 0), (.slice (some ⟨23, 0, none⟩) 12 2199023255552)] 28 (0, 0), false) ::
  (.cells #[(.int .i64 2), (.string ⟨#[98, 111, 100, 121]⟩), (.string ⟨#[]⟩), (.slice none 0 0), (.slice (some ⟨23, 0, none⟩) 12 2199023255552)] 28 (0, 0), false) ::
  (.cells #[(.int .i64 2), (.string ⟨#[104, 101, 97, 100]⟩), (.string ⟨#[]⟩), (.slice none 0 0), (.slice none 0 0)] 28 (0, 0), false) ::
  (.cells #[(.int .i64 1), (.string ⟨#[]⟩), (.string ⟨#[]⟩), (.slice none 0 0), (.slice (some ⟨47, 0, none⟩) 1 1)] 28 (0, 0), false) ::
  x6_0_l2
def x6_0_a3 : List Value := [(.agg #[(.int .i64 1), (.string ⟨#[]⟩), (.string ⟨#[]⟩), (.slice none 0 0), (.slice (some ⟨47, 0, none⟩) 1 1)])]
theorem x6_0_e3 : fitE (callNow Tryd.prog (orcOr (idxA ⟨#[97, 13, 98]⟩ ⟨#[194, 160]⟩ (-1)) (oM mlX)) 1000000 6 x6_0_a3 ⟨48, x6_0_l3⟩) (.bool true) ⟨48, x6_0_l3⟩ = true := by kernel_rfl
def x6_0_l4 : List (Obj × Bool) := (.cells #[(.int .i64 2), (.string ⟨#[104, 116, 109, 108]⟩), (.string ⟨#[]⟩), (.slice none 0 0), (.slice (some ⟨53, 0, none⟩) 2 2)] 28 (0, 0), false) ::
  (.cells #[(.int .i64 2), (.string ⟨#[104, 116, 109, 108]⟩), (.string ⟨#[]⟩), (.slice none 0 0), (.slice (some ⟨53, 0, none⟩) 2 2)] 28 (0, 0), false) ::
  (.cells #[(.int .i64 2), (.string ⟨#[104, 101, 97, 100]⟩), (.string ⟨#[]⟩), (.slice none 0 0), (.slice none 0 0), (.int .i64 2), (.string ⟨#[98, 111, 100, 121]⟩), (.string ⟨#[]⟩), (.slice none 0 0), (.slice (some ⟨49, 0, none⟩) 1 1)] 28 (0, 0), false) ::
  (.cells #[(.int .i64 2), (.string ⟨#[98, 111, 100, 121]⟩), (.string ⟨#[]⟩), (.slice none 0 0), (.slice (some ⟨49, 0, none⟩) 1 1)] 28 (0, 0), false) ::
  (.cells #[(.int .i64 2), (.string ⟨#[104, 101, 97, 100]⟩), (.string ⟨#[]⟩), (.slice none 0 0), (.slice none 0 0)] 28 (0, 0), false) ::
  (.cells #[(.int .i64 1), (.string ⟨#[]⟩), (.string ⟨#[]⟩), (.slice none 0 0), (.slice (some ⟨55, 0, none⟩) 1 1)] 28 (0, 0), false) ::
  (.cells #[(.int .i64 2), (.string ⟨#[112, 114, 101]⟩), (.string ⟨#[]⟩), (.slice none 0 0), (.slice (some ⟨23, 0, none⟩) 12 2199023255552)] 28 (0, 0), false) ::
  (.cells #[(.int .i64 2), (.string ⟨#[112, 114, 101]⟩), (.string ⟨#[]⟩), (.slice none 0 0), (.slice (some ⟨23, 0, none⟩) 12 2199023255552)] 28 (0, 0), false) ::
  x6_0_l3
def x6_0_a4 : List Value := [(.agg #[(.int .i64 1), (.string ⟨#[]⟩), (.string ⟨#[]⟩), (.slice none 0 0), (.slice (some ⟨55, 0, none⟩) 1 1)])]
theorem x6_0_e4 : fitE (callNow Tryd.prog (orcOr (idxA ⟨#[97, 13, 98]⟩ ⟨#[194, 160]⟩ (-1)) (oM mlX)) 1000000 6 x6_0_a4 ⟨56, x6_0_l4⟩) (.bool false) ⟨56, x6_0_l4⟩ = true := by kernel_rfl
def x6_0_l5 : List (Obj × Bool) := (.cells #[(.int .i64 2), (.string ⟨#[104, 116, 109, 108]⟩), (.string ⟨#[]⟩), (.slice none 0 0), (.slice (some ⟨61, 0, none⟩) 2 2)] 28 (0, 0), false) ::
  (.cells #[(.int .i64 2), (.string ⟨#[104, 116, 109, 108]⟩), (.string ⟨#[]⟩), (.slice none 0 0), (.slice (some ⟨61, 0, none⟩) 2 2)] 28 (0, 0), false) ::
  (.cells #[(.int .i64 2), (.string ⟨#[104, 101, 97, 100]⟩), (.string ⟨#[]⟩), (.slice none 0 0), (.slice none 0 0), (.int .i64 2), (.string ⟨#[98, 111, 100, 121]⟩), (.string ⟨#[]⟩), (.slice none 0 0), (.slice (some ⟨57, 0, none⟩) 1 1)] 28 (0, 0), false) ::
  (.cells #[(.int .i64 2), (.string ⟨#[98, 111, 100, 121]⟩), (.string ⟨#[]⟩), (.slice none 0 0), (.slice (some ⟨57, 0, none⟩) 1 1)] 28 (0, 0), false) ::
  (.cells #[(.int .i64 2), (.string ⟨#[104, 101, 97, 100]⟩), (.string ⟨#[]⟩), (.slice none 0 0), (.slice none 0 0)] 28 (0, 0), false) ::
  (.cells #[(.int .i64 1), (.string ⟨#[]⟩), (.string ⟨#[]⟩), (.slice none 0 0), (.slice (some ⟨63, 0, none⟩) 1 1)] 28 (0, 0), false) ::
  (.cells #[(.int .i64 2), (.string ⟨#[100, 105, 118]⟩), (.string ⟨#[]⟩), (.slice none 0 0), (.slice (some ⟨23, 0, none⟩) 12 2199023255552)] 28 (0, 0), false) ::
  (.cells #[(.int .i64 2), (.string ⟨#[100, 105, 118]⟩), (.string ⟨#[]⟩), (.slice none 0 0), (.slice (some ⟨23, 0, none⟩) 12 2199023255552)] 28 (0, 0), false) ::
  x6_0_l4
def x6_0_a5 : List Value := [(.agg #[(.int .i64 1), (.string ⟨#[]⟩), (.string ⟨#[]⟩), (.slice none 0 0), (.slice (some ⟨63, 0, none⟩) 1 1)])]
theorem x6_0_e5 : fitE (callNow Tryd.prog (orcOr (idxA ⟨#[97, 13, 98]⟩ ⟨#[194, 160]⟩ (-1)) (oM mlX)) 1000000 6 x6_0_a5 ⟨64, x6_0_l5⟩) (.bool true) ⟨64, x6_0_l5⟩ = true := by kernel_rfl
abbrev x6_0_O : Ev.Orc := orcOr (orcE 6 x6_0_a0 ⟨30, x6_0_l0⟩ (.bool true)) (orcOr (orcE 6 x6_0_a1 ⟨36, x6_0_l1⟩ (.bool false)) (orcOr (orcE 6 x6_0_a2 ⟨42, x6_0_l2⟩ (.bool false)) (orcOr (orcE 6 x6_0_a3 ⟨48, x6_0_l3⟩ (.bool true)) (orcOr (orcE 6 x6_0_a4 ⟨56, x6_0_l4⟩ (.bool false)) (orcOr (orcE 6 x6_0_a5 ⟨64, x6_0_l5⟩ (.bool true)) (orcOr (orcC 10 [.chan (some 0), .int .i64 6] (.int .i64 5)) (orcOr (orcC 10 [.chan (some 1), .int .i64 6] (.int .i64 0)) (orcOr (orcB 9 [] (.bool true) bc 3) (orcOr (idxA ⟨#[97, 13, 98]⟩ ⟨#[194, 160]⟩ (-1)) (oM mlX))))))))))
theorem x6_0_m : saysB (callNow Tryd.prog x6_0_O 1000000 5 [.chan (some 0), .chan (some 1)] (baseH bc 3)) bc 3 = true := by kernel_rfl
theorem x6_0_ok [Inhabited Ev.Env] (hI : Ev.OrcS Tryd.prog ((orcOr (idxA ⟨#[97, 13, 98]⟩ ⟨#[194, 160]⟩ (-1)) (oM mlX)))) (hM : Ev.OrcS Tryd.prog (orcOr (orcC 10 [.chan (some 0), .int .i64 6] (.int .i64 5)) (orcOr (orcC 10 [.chan (some 1), .int .i64 6] (.int .i64 0)) (orcOr (orcB 9 [] (.bool true) bc 3) (orcOr (idxA ⟨#[97, 13, 98]⟩ ⟨#[194, 160]⟩ (-1)) (oM mlX)))))) : Ev.OrcS Tryd.prog x6_0_O :=
  (Ev.orcOr_ok (Ev.orcE_ok mixed hI (by rw [← Ev.callNow_eq]; exact x6_0_e0)) (Ev.orcOr_ok (Ev.orcE_ok mixed hI (by rw [← Ev.callNow_eq]; exact x6_0_e1)) (Ev.orcOr_ok (Ev.orcE_ok mixed hI (by rw [← Ev.callNow_eq]; exact x6_0_e2)) (Ev.orcOr_ok (Ev.orcE_ok mixed hI (by rw [← Ev.callNow_eq]; exact x6_0_e3)) (Ev.orcOr_ok (Ev.orcE_ok mixed hI (by rw [← Ev.callNow_eq]; exact x6_0_e4)) (Ev.orcOr_ok (Ev.orcE_ok mixed hI (by rw [← Ev.callNow_eq]; exact x6_0_e5)) hM))))))
end Go.Proofs.YtoiibhjenckooabDoor.Runs
