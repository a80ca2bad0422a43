/- A run of PlainTables, reckoned by the kernel, cut at each call of Plain. -/
import Derived.Test.YtoiibhjenckooabDoorEvDr
import Derived.Test.YtoiibhjenckooabDoorRM
namespace Go.Proofs.YtoiibhjenckooabDoor.Runs
open Go.Ev (noOrc orcOr orcB orcC orcD orcE orcM callNow baseH deadH fitB fitE saysB dead)
def tl0 : List (Obj × Bool) := [(.cells #[(.int .i64 2), (.string ⟨#[104, 116, 109, 108]⟩), (.string ⟨#[]⟩), (.slice none 0 0), (.slice (some ⟨56, 0, none⟩) 2 2)] 28 (0, 0), false),
  (.cells #[(.int .i64 2), (.string ⟨#[104, 116, 109, 108]⟩), (.string ⟨#[]⟩), (.slice none 0 0), (.slice (some ⟨56, 0, none⟩) 2 2)] 28 (0, 0), false),
  (.cells #[(.int .i64 2), (.string ⟨#[104, 101, 97, 100]⟩), (.string ⟨#[]⟩), (.slice none 0 0), (.slice none 0 0), (.int .i64 2), (.string ⟨#[98, 111, 100, 121]⟩), (.string ⟨#[]⟩), (.slice none 0 0), (.slice (some ⟨52, 0, none⟩) 1 1)] 28 (0, 0), false),
  (.cells #[(.int .i64 2), (.string ⟨#[98, 111, 100, 121]⟩), (.string ⟨#[]⟩), (.slice none 0 0), (.slice (some ⟨52, 0, none⟩) 1 1)] 28 (0, 0), false),
  (.cells #[(.int .i64 2), (.string ⟨#[104, 101, 97, 100]⟩), (.string ⟨#[]⟩), (.slice none 0 0), (.slice none 0 0)] 28 (0, 0), false),
  (.cells #[(.int .i64 1), (.string ⟨#[]⟩), (.string ⟨#[]⟩), (.slice none 0 0), (.slice (some ⟨58, 0, none⟩) 1 1)] 28 (0, 0), false),
  (.cells #[(.int .i64 2), (.string ⟨#[116, 97, 98, 108, 101]⟩), (.string ⟨#[]⟩), (.slice none 0 0), (.slice (some ⟨23, 0, none⟩) 1 1)] 28 (0, 0), false),
  (.cells #[(.int .i64 2), (.string ⟨#[116, 97, 98, 108, 101]⟩), (.string ⟨#[]⟩), (.slice none 0 0), (.slice (some ⟨50, 0, none⟩) 1 1)] 28 (0, 0), false),
  (.cells #[(.int .i64 2), (.string ⟨#[112]⟩), (.string ⟨#[]⟩), (.slice none 0 0), (.slice none 0 0)] 28 (0, 0), false),
  (.cells #[(.int .i64 2), (.string ⟨#[112]⟩), (.string ⟨#[]⟩), (.slice none 0 0), (.slice none 0 0)] 28 (0, 0), false),
  (.cells #[(.int .i64 2), (.string ⟨#[116, 97, 98, 108, 101]⟩), (.string ⟨#[]⟩), (.slice none 0 0), (.slice (some ⟨47, 0, none⟩) 1 1)] 28 (0, 0), false),
  (.cells #[(.int .i64 2), (.string ⟨#[99, 111, 108, 103, 114, 111, 117, 112]⟩), (.string ⟨#[]⟩), (.slice none 0 0), (.slice (some ⟨45, 0, none⟩) 1 1)] 28 (0, 0), false),
  (.cells #[(.int .i64 2), (.string ⟨#[99, 111, 108, 103, 114, 111, 117, 112]⟩), (.string ⟨#[]⟩), (.slice none 0 0), (.slice (some ⟨45, 0, none⟩) 1 1)] 28 (0, 0), false),
  (.cells #[(.int .i64 2), (.string ⟨#[99, 111, 108]⟩), (.string ⟨#[]⟩), (.slice none 0 0), (.slice (some ⟨27, 0, none⟩) 1 1)] 28 (0, 0), false),
  (.cells #[(.int .i64 2), (.string ⟨#[99, 111, 108]⟩), (.string ⟨#[]⟩), (.slice none 0 0), (.slice (some ⟨27, 0, none⟩) 1 1)] 28 (0, 0), false),
  (.cells #[(.int .i64 2), (.string ⟨#[116, 97, 98, 108, 101]⟩), (.string ⟨#[]⟩), (.slice none 0 0), (.slice (some ⟨42, 0, none⟩) 1 1)] 28 (0, 0), false),
  (.cells #[(.int .i64 2), (.string ⟨#[116, 98, 111, 100, 121]⟩), (.string ⟨#[]⟩), (.slice none 0 0), (.slice (some ⟨40, 0, none⟩) 1 1)] 28 (0, 0), false),
  (.cells #[(.int .i64 2), (.string ⟨#[116, 98, 111, 100, 121]⟩), (.string ⟨#[]⟩), (.slice none 0 0), (.slice (some ⟨40, 0, none⟩) 1 1)] 28 (0, 0), false),
  (.cells #[(.int .i64 2), (.string ⟨#[116, 114]⟩), (.string ⟨#[]⟩), (.slice none 0 0), (.slice (some ⟨26, 0, none⟩) 1 1)] 28 (0, 0), false),
  (.cells #[(.int .i64 2), (.string ⟨#[116, 114]⟩), (.string ⟨#[]⟩), (.slice none 0 0), (.slice (some ⟨26, 0, none⟩) 1 1)] 28 (0, 0), false),
  (.cells #[(.int .i64 2), (.string ⟨#[116, 97, 98, 108, 101]⟩), (.string ⟨#[]⟩), (.slice none 0 0), (.slice (some ⟨37, 0, none⟩) 1 1)] 28 (0, 0), false),
  (.cells #[(.int .i64 2), (.string ⟨#[116, 98, 111, 100, 121]⟩), (.string ⟨#[]⟩), (.slice none 0 0), (.slice (some ⟨35, 0, none⟩) 1 1)] 28 (0, 0), false),
  (.cells #[(.int .i64 2), (.string ⟨#[116, 98, 111, 100, 121]⟩), (.string ⟨#[]⟩), (.slice none 0 0), (.slice (some ⟨35, 0, none⟩) 1 1)] 28 (0, 0), false),
  (.cells #[(.int .i64 2), (.string ⟨#[116, 100]⟩), (.string ⟨#[]⟩), (.slice none 0 0), (.slice none 0 0)] 28 (0, 0), false),
  (.cells #[(.int .i64 2), (.string ⟨#[116, 100]⟩), (.string ⟨#[]⟩), (.slice none 0 0), (.slice none 0 0)] 28 (0, 0), false),
  (.cells #[(.int .i64 2), (.string ⟨#[116, 97, 98, 108, 101]⟩), (.string ⟨#[]⟩), (.slice none 0 0), (.slice (some ⟨32, 0, none⟩) 1 1)] 28 (0, 0), false),
  (.cells #[(.int .i64 2), (.string ⟨#[116, 98, 111, 100, 121]⟩), (.string ⟨#[]⟩), (.slice none 0 0), (.slice (some ⟨25, 0, none⟩) 1 1)] 28 (0, 0), false),
  (.cells #[(.int .i64 2), (.string ⟨#[116, 98, 111, 100, 121]⟩), (.string ⟨#[]⟩), (.slice none 0 0), (.slice (some ⟨25, 0, none⟩) 1 1)] 28 (0, 0), false),
  (.cells #[(.int .i64 2), (.string ⟨#[116, 97, 98, 108, 101]⟩), (.string ⟨#[]⟩), (.slice none 0 0), (.slice (some ⟨24, 0, none⟩) 1 1)] 28 (0, 0), false),
  (.cells #[(.int .i64 2), (.string ⟨#[116, 97, 98, 108, 101]⟩), (.string ⟨#[]⟩), (.slice none 0 0), (.slice (some ⟨23, 0, none⟩) 1 1)] 28 (0, 0), false),
  (.cells #[(.int .i64 2), (.string ⟨#[116, 97, 98, 108, 101]⟩), (.string ⟨#[]⟩), (.slice none 0 0), (.slice (some ⟨23, 0, none⟩) 1 1), (.int .i64 2), (.string ⟨#[116, 97, 98, 108, 101]⟩), (.string ⟨#[]⟩), (.slice none 0 0), (.slice (some ⟨24, 0, none⟩) 1 1), (.int .i64 2), (.string ⟨#[116, 97, 98, 108, 101]⟩), (.string ⟨#[]⟩), (.slice none 0 0), (.slice (some ⟨32, 0, none⟩) 1 1), (.int .i64 2), (.string ⟨#[116, 97, 98, 108, 101]⟩), (.string ⟨#[]⟩), (.slice none 0 0), (.slice (some ⟨37, 0, none⟩) 1 1), (.int .i64 2), (.string ⟨#[116, 97, 98, 108, 101]⟩), (.string ⟨#[]⟩), (.slice none 0 0), (.slice (some ⟨42, 0, none⟩) 1 1), (.int .i64 2), (.string ⟨#[116, 97, 98, 108, 101]⟩), (.string ⟨#[]⟩), (.slice none 0 0), (.slice (some ⟨47, 0, none⟩) 1 1), (.int .i64 2), (.string ⟨#[116, 97, 98, 108, 101]⟩), (.string ⟨#[]⟩), (.slice none 0 0), (.slice (some ⟨50, 0, none⟩) 1 1)] 32 (0, 0), false),
  (.cells #[(.int .i64 3), (.string ⟨#[]⟩), (.string ⟨#[120]⟩), (.slice none 0 0), (.slice none 0 0)] 28 (0, 0), false),
  (.cells #[(.int .i64 3), (.string ⟨#[]⟩), (.string ⟨#[120]⟩), (.slice none 0 0), (.slice none 0 0)] 28 (0, 0), false),
  (.cells #[(.int .i64 3), (.string ⟨#[]⟩), (.string ⟨#[120]⟩), (.slice none 0 0), (.slice none 0 0)] 28 (0, 0), false),
  (.cells #[(.int .i64 2), (.string ⟨#[116, 114]⟩), (.string ⟨#[]⟩), (.slice none 0 0), (.slice (some ⟨8, 0, none⟩) 4 4)] 28 (0, 0), false),
  (.cells #[(.int .i64 3), (.string ⟨#[]⟩), (.string ⟨#[120]⟩), (.slice none 0 0), (.slice none 0 0)] 28 (0, 0), false),
  (.cells #[(.int .i64 2), (.string ⟨#[116, 97, 98, 108, 101]⟩), (.string ⟨#[]⟩), (.slice none 0 0), (.slice (some ⟨21, 0, none⟩) 7 7)] 28 (0, 0), false),
  (.cells #[(.int .i64 3), (.string ⟨#[]⟩), (.string ⟨#[32]⟩), (.slice none 0 0), (.slice none 0 0), (.int .i64 2), (.string ⟨#[99, 97, 112, 116, 105, 111, 110]⟩), (.string ⟨#[]⟩), (.slice none 0 0), (.slice (some ⟨10, 0, none⟩) 1 1), (.int .i64 2), (.string ⟨#[99, 111, 108, 103, 114, 111, 117, 112]⟩), (.string ⟨#[]⟩), (.slice none 0 0), (.slice (some ⟨16, 0, none⟩) 2 2), (.int .i64 4), (.string ⟨#[]⟩), (.string ⟨#[99]⟩), (.slice none 0 0), (.slice none 0 0), (.int .i64 2), (.string ⟨#[116, 104, 101, 97, 100]⟩), (.string ⟨#[]⟩), (.slice none 0 0), (.slice (some ⟨11, 0, none⟩) 1 1), (.int .i64 2), (.string ⟨#[116, 98, 111, 100, 121]⟩), (.string ⟨#[]⟩), (.slice none 0 0), (.slice (some ⟨12, 0, none⟩) 3 3), (.int .i64 2), (.string ⟨#[116, 102, 111, 111, 116]⟩), (.string ⟨#[]⟩), (.slice none 0 0), (.slice none 0 0)] 28 (0, 0), false),
  (.cells #[(.int .i64 2), (.string ⟨#[116, 102, 111, 111, 116]⟩), (.string ⟨#[]⟩), (.slice none 0 0), (.slice none 0 0)] 28 (0, 0), false),
  (.cells #[(.int .i64 2), (.string ⟨#[116, 98, 111, 100, 121]⟩), (.string ⟨#[]⟩), (.slice none 0 0), (.slice (some ⟨12, 0, none⟩) 3 3)] 28 (0, 0), false),
  (.cells #[(.int .i64 2), (.string ⟨#[116, 104, 101, 97, 100]⟩), (.string ⟨#[]⟩), (.slice none 0 0), (.slice (some ⟨11, 0, none⟩) 1 1)] 28 (0, 0), false),
  (.cells #[(.int .i64 2), (.string ⟨#[99, 111, 108, 103, 114, 111, 117, 112]⟩), (.string ⟨#[]⟩), (.slice none 0 0), (.slice (some ⟨16, 0, none⟩) 2 2)] 28 (0, 0), false),
  (.cells #[(.int .i64 2), (.string ⟨#[99, 111, 108]⟩), (.string ⟨#[]⟩), (.slice none 0 0), (.slice none 0 0), (.int .i64 3), (.string ⟨#[]⟩), (.string ⟨#[32]⟩), (.slice none 0 0), (.slice none 0 0)] 28 (0, 0), false),
  (.cells #[(.int .i64 2), (.string ⟨#[99, 111, 108]⟩), (.string ⟨#[]⟩), (.slice none 0 0), (.slice none 0 0)] 28 (0, 0), false),
  (.cells #[(.int .i64 2), (.string ⟨#[99, 97, 112, 116, 105, 111, 110]⟩), (.string ⟨#[]⟩), (.slice none 0 0), (.slice (some ⟨10, 0, none⟩) 1 1)] 28 (0, 0), false),
  (.cells #[(.int .i64 2), (.string ⟨#[116, 97, 98, 108, 101]⟩), (.string ⟨#[]⟩), (.slice none 0 0), (.slice (some ⟨21, 0, none⟩) 7 7)] 28 (0, 0), false),
  (.cells #[(.int .i64 3), (.string ⟨#[]⟩), (.string ⟨#[32]⟩), (.slice none 0 0), (.slice none 0 0), (.int .i64 2), (.string ⟨#[116, 114]⟩), (.string ⟨#[]⟩), (.slice none 0 0), (.slice (some ⟨8, 0, none⟩) 4 4), (.int .i64 2), (.string ⟨#[116, 114]⟩), (.string ⟨#[]⟩), (.slice none 0 0), (.slice (some ⟨8, 0, none⟩) 4 4)] 28 (0, 0), false),
  (.cells #[(.int .i64 2), (.string ⟨#[116, 114]⟩), (.string ⟨#[]⟩), (.slice none 0 0), (.slice (some ⟨8, 0, none⟩) 4 4)] 28 (0, 0), false),
  (.cells #[(.int .i64 3), (.string ⟨#[]⟩), (.string ⟨#[120]⟩), (.slice none 0 0), (.slice none 0 0)] 28 (0, 0), false),
  (.cells #[(.int .i64 2), (.string ⟨#[116, 114]⟩), (.string ⟨#[]⟩), (.slice none 0 0), (.slice (some ⟨8, 0, none⟩) 4 4)] 28 (0, 0), false),
  (.cells #[(.int .i64 3), (.string ⟨#[]⟩), (.string ⟨#[32]⟩), (.slice none 0 0), (.slice none 0 0), (.int .i64 2), (.string ⟨#[116, 100]⟩), (.string ⟨#[]⟩), (.slice none 0 0), (.slice (some ⟨4, 0, none⟩) 1 1), (.int .i64 4), (.string ⟨#[]⟩), (.string ⟨#[99]⟩), (.slice none 0 0), (.slice none 0 0), (.int .i64 2), (.string ⟨#[116, 104]⟩), (.string ⟨#[]⟩), (.slice none 0 0), (.slice none 0 0)] 28 (0, 0), false),
  (.cells #[(.int .i64 2), (.string ⟨#[116, 104]⟩), (.string ⟨#[]⟩), (.slice none 0 0), (.slice none 0 0)] 28 (0, 0), false),
  (.cells #[(.int .i64 2), (.string ⟨#[116, 100]⟩), (.string ⟨#[]⟩), (.slice none 0 0), (.slice (some ⟨4, 0, none⟩) 1 1)] 28 (0, 0), false),
  (.cells #[(.int .i64 2), (.string ⟨#[116, 114]⟩), (.string ⟨#[]⟩), (.slice none 0 0), (.slice (some ⟨8, 0, none⟩) 4 4)] 28 (0, 0), false),
  (.cells #[(.int .i64 3), (.string ⟨#[]⟩), (.string ⟨#[120]⟩), (.slice none 0 0), (.slice none 0 0)] 28 (0, 0), false),
  (.cells #[(.int .i64 4), (.string ⟨#[]⟩), (.string ⟨#[99]⟩), (.slice none 0 0), (.slice none 0 0)] 28 (0, 0), false),
  (.cells #[(.int .i64 3), (.string ⟨#[]⟩), (.string ⟨#[120]⟩), (.slice none 0 0), (.slice none 0 0)] 28 (0, 0), false),
  (.cells #[(.int .i64 3), (.string ⟨#[]⟩), (.string ⟨#[32]⟩), (.slice none 0 0), (.slice none 0 0)] 28 (0, 0), false),
  (.cells #[(.chan (some 7))] 3 (0, 0), false)]
def ta0 : List Value := [(.agg #[(.int .i64 1), (.string ⟨#[]⟩), (.string ⟨#[]⟩), (.slice none 0 0), (.slice (some ⟨58, 0, none⟩) 1 1)])]
theorem te0 : fitE (callNow Tryd.prog (oM mlT) 1000000 6 ta0 ⟨59, tl0⟩) (.bool false) ⟨59, tl0⟩ = true := by kernel_rfl
def tl1 : List (Obj × Bool) := (.cells #[(.int .i64 2), (.string ⟨#[104, 116, 109, 108]⟩), (.string ⟨#[]⟩), (.slice none 0 0), (.slice (some ⟨63, 0, none⟩) 2 2)] 28 (0, 0), false) ::
  (.cells #[(.int .i64 2), (.string ⟨#[104, 116, 109, 108]⟩), (.string ⟨#[]⟩), (.slice none 0 0), (.slice (some ⟨63, 0, none⟩) 2 2)] 28 (0, 0), false) ::
  (.cells #[(.int .i64 2), (.string ⟨#[104, 101, 97, 100]⟩), (.string ⟨#[]⟩), (.slice none 0 0), (.slice none 0 0), (.int .i64 2), (.string ⟨#[98, 111, 100, 121]⟩), (.string ⟨#[]⟩), (.slice none 0 0), (.slice (some ⟨59, 0, none⟩) 1 1)] 28 (0, 0), false) ::
  (.cells #[(.int .i64 2), (.string ⟨#[98, 111, 100, 121]⟩), (.string ⟨#[]⟩), (.slice none 0 0), (.slice (some ⟨59, 0, none⟩) 1 1)] 28 (0, 0), false) ::
  (.cells #[(.int .i64 2), (.string ⟨#[104, 101, 97, 100]⟩), (.string ⟨#[]⟩), (.slice none 0 0), (.slice none 0 0)] 28 (0, 0), false) ::
  (.cells #[(.int .i64 1), (.string ⟨#[]⟩), (.string ⟨#[]⟩), (.slice none 0 0), (.slice (some ⟨65, 0, none⟩) 1 1)] 28 (0, 0), false) ::
  (.cells #[(.int .i64 2), (.string ⟨#[116, 97, 98, 108, 101]⟩), (.string ⟨#[]⟩), (.slice none 0 0), (.slice (some ⟨24, 0, none⟩) 1 1)] 28 (0, 0), false) ::
  tl0
def ta1 : List Value := [(.agg #[(.int .i64 1), (.string ⟨#[]⟩), (.string ⟨#[]⟩), (.slice none 0 0), (.slice (some ⟨65, 0, none⟩) 1 1)])]
theorem te1 : fitE (callNow Tryd.prog (oM mlT) 1000000 6 ta1 ⟨66, tl1⟩) (.bool false) ⟨66, tl1⟩ = true := by kernel_rfl
def tl2 : List (Obj × Bool) := (.cells #[(.int .i64 2), (.string ⟨#[104, 116, 109, 108]⟩), (.string ⟨#[]⟩), (.slice none 0 0), (.slice (some ⟨70, 0, none⟩) 2 2)] 28 (0, 0), false) ::
  (.cells #[(.int .i64 2), (.string ⟨#[104, 116, 109, 108]⟩), (.string ⟨#[]⟩), (.slice none 0 0), (.slice (some ⟨70, 0, none⟩) 2 2)] 28 (0, 0), false) ::
  (.cells #[(.int .i64 2), (.string ⟨#[104, 101, 97, 100]⟩), (.string ⟨#[]⟩), (.slice none 0 0), (.slice none 0 0), (.int .i64 2), (.string ⟨#[98, 111, 100, 121]⟩), (.string ⟨#[]⟩), (.slice none 0 0), (.slice (some ⟨66, 0, none⟩) 1 1)] 28 (0, 0), false) ::
  (.cells #[(.int .i64 2), (.string ⟨#[98, 111, 100, 121]⟩), (.string ⟨#[]⟩), (.slice none 0 0), (.slice (some ⟨66, 0, none⟩) 1 1)] 28 (0, 0), false) ::
  (.cells #[(.int .i64 2), (.string ⟨#[104, 101, 97, 100]⟩), (.string ⟨#[]⟩), (.slice none 0 0), (.slice none 0 0)] 28 (0, 0), false) ::
  (.cells #[(.int .i64 1), (.string ⟨#[]⟩), (.string ⟨#[]⟩), (.slice none 0 0), (.slice (some ⟨72, 0, none⟩) 1 1)] 28 (0, 0), false) ::
  (.cells #[(.int .i64 2), (.string ⟨#[116, 97, 98, 108, 101]⟩), (.string ⟨#[]⟩), (.slice none 0 0), (.slice (some ⟨32, 0, none⟩) 1 1)] 28 (0, 0), false) ::
  tl1
def ta2 : List Value := [(.agg #[(.int .i64 1), (.string ⟨#[]⟩), (.string ⟨#[]⟩), (.slice none 0 0), (.slice (some ⟨72, 0, none⟩) 1 1)])]
theorem te2 : fitE (callNow Tryd.prog (oM mlT) 1000000 6 ta2 ⟨73, tl2⟩) (.bool false) ⟨73, tl2⟩ = true := by kernel_rfl
def tl3 : List (Obj × Bool) := (.cells #[(.int .i64 2), (.string ⟨#[104, 116, 109, 108]⟩), (.string ⟨#[]⟩), (.slice none 0 0), (.slice (some ⟨77, 0, none⟩) 2 2)] 28 (0, 0), false) ::
  (.cells #[(.int .i64 2), (.string ⟨#[104, 116, 109, 108]⟩), (.string ⟨#[]⟩), (.slice none 0 0), (.slice (some ⟨77, 0, none⟩) 2 2)] 28 (0, 0), false) ::
  (.cells #[(.int .i64 2), (.string ⟨#[104, 101, 97, 100]⟩), (.string ⟨#[]⟩), (.slice none 0 0), (.slice none 0 0), (.int .i64 2), (.string ⟨#[98, 111, 100, 121]⟩), (.string ⟨#[]⟩), (.slice none 0 0), (.slice (some ⟨73, 0, none⟩) 1 1)] 28 (0, 0), false) ::
  (.cells #[(.int .i64 2), (.string ⟨#[98, 111, 100, 121]⟩), (.string ⟨#[]⟩), (.slice none 0 0), (.slice (some ⟨73, 0, none⟩) 1 1)] 28 (0, 0), false) ::
  (.cells #[(.int .i64 2), (.string ⟨#[104, 101, 97, 100]⟩), (.string ⟨#[]⟩), (.slice none 0 0), (.slice none 0 0)] 28 (0, 0), false) ::
  (.cells #[(.int .i64 1), (.string ⟨#[]⟩), (.string ⟨#[]⟩), (.slice none 0 0), (.slice (some ⟨79, 0, none⟩) 1 1)] 28 (0, 0), false) ::
  (.cells #[(.int .i64 2), (.string ⟨#[116, 97, 98, 108, 101]⟩), (.string ⟨#[]⟩), (.slice none 0 0), (.slice (some ⟨37, 0, none⟩) 1 1)] 28 (0, 0), false) ::
  tl2
def ta3 : List Value := [(.agg #[(.int .i64 1), (.string ⟨#[]⟩), (.string ⟨#[]⟩), (.slice none 0 0), (.slice (some ⟨79, 0, none⟩) 1 1)])]
theorem te3 : fitE (callNow Tryd.prog (oM mlT) 1000000 6 ta3 ⟨80, tl3⟩) (.bool false) ⟨80, tl3⟩ = true := by kernel_rfl
def tl4 : List (Obj × Bool) := (.cells #[(.int .i64 2), (.string ⟨#[104, 116, 109, 108]⟩), (.string ⟨#[]⟩), (.slice none 0 0), (.slice (some ⟨84, 0, none⟩) 2 2)] 28 (0, 0), false) ::
  (.cells #[(.int .i64 2), (.string ⟨#[104, 116, 109, 108]⟩), (.string ⟨#[]⟩), (.slice none 0 0), (.slice (some ⟨84, 0, none⟩) 2 2)] 28 (0, 0), false) ::
  (.cells #[(.int .i64 2), (.string ⟨#[104, 101, 97, 100]⟩), (.string ⟨#[]⟩), (.slice none 0 0), (.slice none 0 0), (.int .i64 2), (.string ⟨#[98, 111, 100, 121]⟩), (.string ⟨#[]⟩), (.slice none 0 0), (.slice (some ⟨80, 0, none⟩) 1 1)] 28 (0, 0), false) ::
  (.cells #[(.int .i64 2), (.string ⟨#[98, 111, 100, 121]⟩), (.string ⟨#[]⟩), (.slice none 0 0), (.slice (some ⟨80, 0, none⟩) 1 1)] 28 (0, 0), false) ::
  (.cells #[(.int .i64 2), (.string ⟨#[104, 101, 97, 100]⟩), (.string ⟨#[]⟩), (.slice none 0 0), (.slice none 0 0)] 28 (0, 0), false) ::
  (.cells #[(.int .i64 1), (.string ⟨#[]⟩), (.string ⟨#[]⟩), (.slice none 0 0), (.slice (some ⟨86, 0, none⟩) 1 1)] 28 (0, 0), false) ::
  (.cells #[(.int .i64 2), (.string ⟨#[116, 97, 98, 108, 101]⟩), (.string ⟨#[]⟩), (.slice none 0 0), (.slice (some ⟨42, 0, none⟩) 1 1)] 28 (0, 0), false) ::
  tl3
def ta4 : List Value := [(.agg #[(.int .i64 1), (.string ⟨#[]⟩), (.string ⟨#[]⟩), (.slice none 0 0), (.slice (some ⟨86, 0, none⟩) 1 1)])]
theorem te4 : fitE (callNow Tryd.prog (oM mlT) 1000000 6 ta4 ⟨87, tl4⟩) (.bool false) ⟨87, tl4⟩ = true := by kernel_rfl
def tl5 : List (Obj × Bool) := (.cells #[(.int .i64 2), (.string ⟨#[104, 116, 109, 108]⟩), (.string ⟨#[]⟩), (.slice none 0 0), (.slice (some ⟨91, 0, none⟩) 2 2)] 28 (0, 0), false) ::
  (.cells #[(.int .i64 2), (.string ⟨#[104, 116, 109, 108]⟩), (.string ⟨#[]⟩), (.slice none 0 0), (.slice (some ⟨91, 0, none⟩) 2 2)] 28 (0, 0), false) ::
  (.cells #[(.int .i64 2), (.string ⟨#[104, 101, 97, 100]⟩), (.string ⟨#[]⟩), (.slice none 0 0), (.slice none 0 0), (.int .i64 2), (.string ⟨#[98, 111, 100, 121]⟩), (.string ⟨#[]⟩), (.slice none 0 0), (.slice (some ⟨87, 0, none⟩) 1 1)] 28 (0, 0), false) ::
  (.cells #[(.int .i64 2), (.string ⟨#[98, 111, 100, 121]⟩), (.string ⟨#[]⟩), (.slice none 0 0), (.slice (some ⟨87, 0, none⟩) 1 1)] 28 (0, 0), false) ::
  (.cells #[(.int .i64 2), (.string ⟨#[104, 101, 97, 100]⟩), (.string ⟨#[]⟩), (.slice none 0 0), (.slice none 0 0)] 28 (0, 0), false) ::
  (.cells #[(.int .i64 1), (.string ⟨#[]⟩), (.string ⟨#[]⟩), (.slice none 0 0), (.slice (some ⟨93, 0, none⟩) 1 1)] 28 (0, 0), false) ::
  (.cells #[(.int .i64 2), (.string ⟨#[116, 97, 98, 108, 101]⟩), (.string ⟨#[]⟩), (.slice none 0 0), (.slice (some ⟨47, 0, none⟩) 1 1)] 28 (0, 0), false) ::
  tl4
def ta5 : List Value := [(.agg #[(.int .i64 1), (.string ⟨#[]⟩), (.string ⟨#[]⟩), (.slice none 0 0), (.slice (some ⟨93, 0, none⟩) 1 1)])]
theorem te5 : fitE (callNow Tryd.prog (oM mlT) 1000000 6 ta5 ⟨94, tl5⟩) (.bool false) ⟨94, tl5⟩ = true := by kernel_rfl
def tl6 : List (Obj × Bool) := (.cells #[(.int .i64 2), (.string ⟨#[104, 116, 109, 108]⟩), (.string ⟨#[]⟩), (.slice none 0 0), (.slice (some ⟨98, 0, none⟩) 2 2)] 28 (0, 0), false) ::
  (.cells #[(.int .i64 2), (.string ⟨#[104, 116, 109, 108]⟩), (.string ⟨#[]⟩), (.slice none 0 0), (.slice (some ⟨98, 0, none⟩) 2 2)] 28 (0, 0), false) ::
  (.cells #[(.int .i64 2), (.string ⟨#[104, 101, 97, 100]⟩), (.string ⟨#[]⟩), (.slice none 0 0), (.slice none 0 0), (.int .i64 2), (.string ⟨#[98, 111, 100, 121]⟩), (.string ⟨#[]⟩), (.slice none 0 0), (.slice (some ⟨94, 0, none⟩) 1 1)] 28 (0, 0), false) ::
  (.cells #[(.int .i64 2), (.string ⟨#[98, 111, 100, 121]⟩), (.string ⟨#[]⟩), (.slice none 0 0), (.slice (some ⟨94, 0, none⟩) 1 1)] 28 (0, 0), false) ::
  (.cells #[(.int .i64 2), (.string ⟨#[104, 101, 97, 100]⟩), (.string ⟨#[]⟩), (.slice none 0 0), (.slice none 0 0)] 28 (0, 0), false) ::
  (.cells #[(.int .i64 1), (.string ⟨#[]⟩), (.string ⟨#[]⟩), (.slice none 0 0), (.slice (some ⟨100, 0, none⟩) 1 1)] 28 (0, 0), false) ::
  (.cells #[(.int .i64 2), (.string ⟨#[116, 97, 98, 108, 101]⟩), (.string ⟨#[]⟩), (.slice none 0 0), (.slice (some ⟨50, 0, none⟩) 1 1)] 28 (0, 0), false) ::
  tl5
def ta6 : List Value := [(.agg #[(.int .i64 1), (.string ⟨#[]⟩), (.string ⟨#[]⟩), (.slice none 0 0), (.slice (some ⟨100, 0, none⟩) 1 1)])]
theorem te6 : fitE (callNow Tryd.prog (oM mlT) 1000000 6 ta6 ⟨101, tl6⟩) (.bool false) ⟨101, tl6⟩ = true := by kernel_rfl
def tl7 : List (Obj × Bool) := (.cells #[(.int .i64 2), (.string ⟨#[104, 116, 109, 108]⟩), (.string ⟨#[]⟩), (.slice none 0 0), (.slice (some ⟨105, 0, none⟩) 2 2)] 28 (0, 0), false) ::
  (.cells #[(.int .i64 2), (.string ⟨#[104, 116, 109, 108]⟩), (.string ⟨#[]⟩), (.slice none 0 0), (.slice (some ⟨105, 0, none⟩) 2 2)] 28 (0, 0), false) ::
  (.cells #[(.int .i64 2), (.string ⟨#[104, 101, 97, 100]⟩), (.string ⟨#[]⟩), (.slice none 0 0), (.slice none 0 0), (.int .i64 2), (.string ⟨#[98, 111, 100, 121]⟩), (.string ⟨#[]⟩), (.slice none 0 0), (.slice (some ⟨101, 0, none⟩) 1 1)] 28 (0, 0), false) ::
  (.cells #[(.int .i64 2), (.string ⟨#[98, 111, 100, 121]⟩), (.string ⟨#[]⟩), (.slice none 0 0), (.slice (some ⟨101, 0, none⟩) 1 1)] 28 (0, 0), false) ::
  (.cells #[(.int .i64 2), (.string ⟨#[104, 101, 97, 100]⟩), (.string ⟨#[]⟩), (.slice none 0 0), (.slice none 0 0)] 28 (0, 0), false) ::
  (.cells #[(.int .i64 1), (.string ⟨#[]⟩), (.string ⟨#[]⟩), (.slice none 0 0), (.slice (some ⟨107, 0, none⟩) 1 1)] 28 (0, 0), false) ::
  (.cells #[(.int .i64 2), (.string ⟨#[116, 97, 98, 108, 101]⟩), (.string ⟨#[]⟩), (.slice none 0 0), (.slice (some ⟨21, 0, none⟩) 7 7)] 28 (0, 0), false) ::
  tl6
def ta7 : List Value := [(.agg #[(.int .i64 1), (.string ⟨#[]⟩), (.string ⟨#[]⟩), (.slice none 0 0), (.slice (some ⟨107, 0, none⟩) 1 1)])]
theorem te7 : fitE (callNow Tryd.prog (oM mlT) 1000000 6 ta7 ⟨108, tl7⟩) (.bool true) ⟨108, tl7⟩ = true := by kernel_rfl
def tl8 : List (Obj × Bool) := (.cells #[(.int .i64 2), (.string ⟨#[104, 116, 109, 108]⟩), (.string ⟨#[]⟩), (.slice none 0 0), (.slice (some ⟨113, 0, none⟩) 2 2)] 28 (0, 0), false) ::
  (.cells #[(.int .i64 2), (.string ⟨#[104, 116, 109, 108]⟩), (.string ⟨#[]⟩), (.slice none 0 0), (.slice (some ⟨113, 0, none⟩) 2 2)] 28 (0, 0), false) ::
  (.cells #[(.int .i64 2), (.string ⟨#[104, 101, 97, 100]⟩), (.string ⟨#[]⟩), (.slice none 0 0), (.slice none 0 0), (.int .i64 2), (.string ⟨#[98, 111, 100, 121]⟩), (.string ⟨#[]⟩), (.slice none 0 0), (.slice (some ⟨109, 0, none⟩) 1 1)] 28 (0, 0), false) ::
  (.cells #[(.int .i64 2), (.string ⟨#[98, 111, 100, 121]⟩), (.string ⟨#[]⟩), (.slice none 0 0), (.slice (some ⟨109, 0, none⟩) 1 1)] 28 (0, 0), false) ::
  (.cells #[(.int .i64 2), (.string ⟨#[104, 101, 97, 100]⟩), (.string ⟨#[]⟩), (.slice none 0 0), (.slice none 0 0)] 28 (0, 0), false) ::
  (.cells #[(.int .i64 1), (.string ⟨#[]⟩), (.string ⟨#[]⟩), (.slice none 0 0), (.slice (some ⟨115, 0, none⟩) 1 1)] 28 (0, 0), false) ::
  (.cells #[(.int .i64 2), (.string ⟨#[116, 97, 98, 108, 101]⟩), (.string ⟨#[]⟩), (.slice none 0 0), (.slice none 0 0)] 28 (0, 0), false) ::
  (.cells #[(.int .i64 2), (.string ⟨#[116, 97, 98, 108, 101]⟩), (.string ⟨#[]⟩), (.slice none 0 0), (.slice none 0 0)] 28 (0, 0), false) ::
  tl7
def ta8 : List Value := [(.agg #[(.int .i64 1), (.string ⟨#[]⟩), (.string ⟨#[]⟩), (.slice none 0 0), (.slice (some ⟨115, 0, none⟩) 1 1)])]
theorem te8 : fitE (callNow Tryd.prog (oM mlT) 1000000 6 ta8 ⟨116, tl8⟩) (.bool true) ⟨116, tl8⟩ = true := by kernel_rfl
abbrev tO : Ev.Orc := orcOr (orcE 6 ta0 ⟨59, tl0⟩ (.bool false)) (orcOr (orcE 6 ta1 ⟨66, tl1⟩ (.bool false)) (orcOr (orcE 6 ta2 ⟨73, tl2⟩ (.bool false)) (orcOr (orcE 6 ta3 ⟨80, tl3⟩ (.bool false)) (orcOr (orcE 6 ta4 ⟨87, tl4⟩ (.bool false)) (orcOr (orcE 6 ta5 ⟨94, tl5⟩ (.bool false)) (orcOr (orcE 6 ta6 ⟨101, tl6⟩ (.bool false)) (orcOr (orcE 6 ta7 ⟨108, tl7⟩ (.bool true)) (orcOr (orcE 6 ta8 ⟨116, tl8⟩ (.bool true)) (orcOr (orcB 9 [] (.bool true) bc 3) (oM mlT))))))))))
theorem tm : saysB (callNow Tryd.prog tO 1000000 4 [] (baseH bc 3)) bc 3 = true := by kernel_rfl
theorem tok [Inhabited Ev.Env] (hI : Ev.OrcS Tryd.prog ((oM mlT))) (hM : Ev.OrcS Tryd.prog (orcOr (orcB 9 [] (.bool true) bc 3) (oM mlT))) : Ev.OrcS Tryd.prog tO :=
  (Ev.orcOr_ok (Ev.orcE_ok mixed hI (by rw [← Ev.callNow_eq]; exact te0)) (Ev.orcOr_ok (Ev.orcE_ok mixed hI (by rw [← Ev.callNow_eq]; exact te1)) (Ev.orcOr_ok (Ev.orcE_ok mixed hI (by rw [← Ev.callNow_eq]; exact te2)) (Ev.orcOr_ok (Ev.orcE_ok mixed hI (by rw [← Ev.callNow_eq]; exact te3)) (Ev.orcOr_ok (Ev.orcE_ok mixed hI (by rw [← Ev.callNow_eq]; exact te4)) (Ev.orcOr_ok (Ev.orcE_ok mixed hI (by rw [← Ev.callNow_eq]; exact te5)) (Ev.orcOr_ok (Ev.orcE_ok mixed hI (by rw [← Ev.callNow_eq]; exact te6)) (Ev.orcOr_ok (Ev.orcE_ok mixed hI (by rw [← Ev.callNow_eq]; exact te7)) (Ev.orcOr_ok (Ev.orcE_ok mixed hI (by rw [← Ev.callNow_eq]; exact te8)) hM)))))))))
end Go.Proofs.YtoiibhjenckooabDoor.Runs
