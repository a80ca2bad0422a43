/- PlainBars: the heaps at each call of Plain. -/
import Derived.Test.YtoiibhjenckooaaDoorRM
import Derived.Test.YtoiibhjenckooaaDoorEvDr
namespace Go.Proofs.YtoiibhjenckooaaDoor.Runs
open Go.Ev (noOrc orcOr orcB orcC orcD orcE orcM callNow baseH deadH fitB fitE saysB dead)
def nl0 : List (Obj × Bool) := [(.cells #[(.int .i64 2), (.string ⟨#[104, 116, 109, 108]⟩), (.string ⟨#[]⟩), (.slice none 0 0), (.slice (some ⟨15, 0, none⟩) 2 2)] 27 (0, 0), false),
  (.cells #[(.int .i64 2), (.string ⟨#[104, 116, 109, 108]⟩), (.string ⟨#[]⟩), (.slice none 0 0), (.slice (some ⟨15, 0, none⟩) 2 2)] 27 (0, 0), false),
  (.cells #[(.int .i64 2), (.string ⟨#[104, 101, 97, 100]⟩), (.string ⟨#[]⟩), (.slice none 0 0), (.slice none 0 0), (.int .i64 2), (.string ⟨#[98, 111, 100, 121]⟩), (.string ⟨#[]⟩), (.slice none 0 0), (.slice (some ⟨11, 0, none⟩) 1 1)] 27 (0, 0), false),
  (.cells #[(.int .i64 2), (.string ⟨#[98, 111, 100, 121]⟩), (.string ⟨#[]⟩), (.slice none 0 0), (.slice (some ⟨11, 0, none⟩) 1 1)] 27 (0, 0), false),
  (.cells #[(.int .i64 2), (.string ⟨#[104, 101, 97, 100]⟩), (.string ⟨#[]⟩), (.slice none 0 0), (.slice none 0 0)] 27 (0, 0), false),
  (.cells #[(.int .i64 1), (.string ⟨#[]⟩), (.string ⟨#[]⟩), (.slice none 0 0), (.slice (some ⟨17, 0, none⟩) 1 1)] 27 (0, 0), false),
  (.cells #[(.int .i64 2), (.string ⟨#[112]⟩), (.string ⟨#[]⟩), (.slice none 0 0), (.slice (some ⟨6, 0, none⟩) 1 1)] 27 (0, 0), false),
  (.cells #[(.int .i64 2), (.string ⟨#[100, 105, 118]⟩), (.string ⟨#[]⟩), (.slice none 0 0), (.slice (some ⟨9, 0, none⟩) 1 1)] 27 (0, 0), false),
  (.cells #[(.int .i64 2), (.string ⟨#[112]⟩), (.string ⟨#[]⟩), (.slice none 0 0), (.slice none 0 0)] 27 (0, 0), false),
  (.cells #[(.int .i64 2), (.string ⟨#[112]⟩), (.string ⟨#[]⟩), (.slice none 0 0), (.slice none 0 0)] 27 (0, 0), false),
  (.cells #[(.int .i64 2), (.string ⟨#[112]⟩), (.string ⟨#[]⟩), (.slice none 0 0), (.slice (some ⟨6, 0, none⟩) 1 1)] 27 (0, 0), false),
  (.cells #[(.int .i64 2), (.string ⟨#[112]⟩), (.string ⟨#[]⟩), (.slice none 0 0), (.slice none 0 0)] 27 (0, 0), false),
  (.cells #[(.int .i64 2), (.string ⟨#[112]⟩), (.string ⟨#[]⟩), (.slice none 0 0), (.slice none 0 0)] 27 (0, 0), false),
  (.cells #[(.int .i64 2), (.string ⟨#[100, 105, 118]⟩), (.string ⟨#[]⟩), (.slice none 0 0), (.slice (some ⟨9, 0, none⟩) 1 1)] 27 (0, 0), false),
  (.cells #[(.int .i64 2), (.string ⟨#[112]⟩), (.string ⟨#[]⟩), (.slice none 0 0), (.slice (some ⟨6, 0, none⟩) 1 1)] 27 (0, 0), false),
  (.cells #[(.string ⟨#[100, 105, 118]⟩), (.string ⟨#[112]⟩), (.string ⟨#[112]⟩), (.string ⟨#[98]⟩), (.string ⟨#[98]⟩), (.string ⟨#[112]⟩), (.string ⟨#[97]⟩), (.string ⟨#[100, 105, 118]⟩), (.string ⟨#[117, 108]⟩), (.string ⟨#[108, 105]⟩), (.string ⟨#[111, 108]⟩), (.string ⟨#[108, 105]⟩), (.string ⟨#[100, 108]⟩), (.string ⟨#[100, 116]⟩), (.string ⟨#[100, 108]⟩), (.string ⟨#[100, 100]⟩), (.string ⟨#[104, 49]⟩), (.string ⟨#[98]⟩), (.string ⟨#[100, 105, 118]⟩), (.string ⟨#[104, 49]⟩), (.string ⟨#[98, 117, 116, 116, 111, 110]⟩), (.string ⟨#[112]⟩), (.string ⟨#[115, 101, 99, 116, 105, 111, 110]⟩), (.string ⟨#[116, 97, 98, 108, 101]⟩), (.string ⟨#[98]⟩), (.string ⟨#[98]⟩), (.string ⟨#[120, 45, 121]⟩), (.string ⟨#[104, 114]⟩)] 23 (0, 0), false),
  (.cells #[(.string ⟨#[112]⟩), (.string ⟨#[112]⟩), (.string ⟨#[112]⟩), (.string ⟨#[100, 105, 118]⟩), (.string ⟨#[112]⟩), (.string ⟨#[117, 108]⟩), (.string ⟨#[112]⟩), (.string ⟨#[104, 49]⟩), (.string ⟨#[112]⟩), (.string ⟨#[116, 97, 98, 108, 101]⟩), (.string ⟨#[112]⟩), (.string ⟨#[104, 114]⟩), (.string ⟨#[112]⟩), (.string ⟨#[112, 114, 101]⟩), (.string ⟨#[104, 49]⟩), (.string ⟨#[104, 50]⟩), (.string ⟨#[104, 51]⟩), (.string ⟨#[104, 51]⟩), (.string ⟨#[97]⟩), (.string ⟨#[97]⟩), (.string ⟨#[98, 117, 116, 116, 111, 110]⟩), (.string ⟨#[98, 117, 116, 116, 111, 110]⟩), (.string ⟨#[100, 105, 118]⟩), (.string ⟨#[108, 105]⟩), (.string ⟨#[117, 108]⟩), (.string ⟨#[100, 100]⟩), (.string ⟨#[100, 105, 118]⟩), (.string ⟨#[116, 100]⟩)] 23 (0, 0), false),
  (.cells #[(.chan (some 7))] 3 (0, 0), false)]
def na0 : List Value := [(.agg #[(.int .i64 1), (.string ⟨#[]⟩), (.string ⟨#[]⟩), (.slice none 0 0), (.slice (some ⟨17, 0, none⟩) 1 1)])]
def nl1 : List (Obj × Bool) := (.cells #[(.int .i64 2), (.string ⟨#[104, 116, 109, 108]⟩), (.string ⟨#[]⟩), (.slice none 0 0), (.slice (some ⟨22, 0, none⟩) 2 2)] 27 (0, 0), false) ::
  (.cells #[(.int .i64 2), (.string ⟨#[104, 116, 109, 108]⟩), (.string ⟨#[]⟩), (.slice none 0 0), (.slice (some ⟨22, 0, none⟩) 2 2)] 27 (0, 0), false) ::
  (.cells #[(.int .i64 2), (.string ⟨#[104, 101, 97, 100]⟩), (.string ⟨#[]⟩), (.slice none 0 0), (.slice none 0 0), (.int .i64 2), (.string ⟨#[98, 111, 100, 121]⟩), (.string ⟨#[]⟩), (.slice none 0 0), (.slice (some ⟨18, 0, none⟩) 1 1)] 27 (0, 0), false) ::
  (.cells #[(.int .i64 2), (.string ⟨#[98, 111, 100, 121]⟩), (.string ⟨#[]⟩), (.slice none 0 0), (.slice (some ⟨18, 0, none⟩) 1 1)] 27 (0, 0), false) ::
  (.cells #[(.int .i64 2), (.string ⟨#[104, 101, 97, 100]⟩), (.string ⟨#[]⟩), (.slice none 0 0), (.slice none 0 0)] 27 (0, 0), false) ::
  (.cells #[(.int .i64 1), (.string ⟨#[]⟩), (.string ⟨#[]⟩), (.slice none 0 0), (.slice (some ⟨24, 0, none⟩) 1 1)] 27 (0, 0), false) ::
  (.cells #[(.int .i64 2), (.string ⟨#[100, 105, 118]⟩), (.string ⟨#[]⟩), (.slice none 0 0), (.slice (some ⟨9, 0, none⟩) 1 1)] 27 (0, 0), false) ::
  nl0
def na1 : List Value := [(.agg #[(.int .i64 1), (.string ⟨#[]⟩), (.string ⟨#[]⟩), (.slice none 0 0), (.slice (some ⟨24, 0, none⟩) 1 1)])]
def nl2 : List (Obj × Bool) := (.cells #[(.int .i64 2), (.string ⟨#[104, 116, 109, 108]⟩), (.string ⟨#[]⟩), (.slice none 0 0), (.slice (some ⟨34, 0, none⟩) 2 2)] 27 (0, 0), false) ::
  (.cells #[(.int .i64 2), (.string ⟨#[104, 116, 109, 108]⟩), (.string ⟨#[]⟩), (.slice none 0 0), (.slice (some ⟨34, 0, none⟩) 2 2)] 27 (0, 0), false) ::
  (.cells #[(.int .i64 2), (.string ⟨#[104, 101, 97, 100]⟩), (.string ⟨#[]⟩), (.slice none 0 0), (.slice none 0 0), (.int .i64 2), (.string ⟨#[98, 111, 100, 121]⟩), (.string ⟨#[]⟩), (.slice none 0 0), (.slice (some ⟨30, 0, none⟩) 1 1)] 27 (0, 0), false) ::
  (.cells #[(.int .i64 2), (.string ⟨#[98, 111, 100, 121]⟩), (.string ⟨#[]⟩), (.slice none 0 0), (.slice (some ⟨30, 0, none⟩) 1 1)] 27 (0, 0), false) ::
  (.cells #[(.int .i64 2), (.string ⟨#[104, 101, 97, 100]⟩), (.string ⟨#[]⟩), (.slice none 0 0), (.slice none 0 0)] 27 (0, 0), false) ::
  (.cells #[(.int .i64 1), (.string ⟨#[]⟩), (.string ⟨#[]⟩), (.slice none 0 0), (.slice (some ⟨36, 0, none⟩) 1 1)] 27 (0, 0), false) ::
  (.cells #[(.int .i64 2), (.string ⟨#[112]⟩), (.string ⟨#[]⟩), (.slice none 0 0), (.slice (some ⟨28, 0, none⟩) 1 1)] 27 (0, 0), false) ::
  (.cells #[(.int .i64 2), (.string ⟨#[112]⟩), (.string ⟨#[]⟩), (.slice none 0 0), (.slice (some ⟨28, 0, none⟩) 1 1)] 27 (0, 0), false) ::
  (.cells #[(.int .i64 2), (.string ⟨#[115, 112, 97, 110]⟩), (.string ⟨#[]⟩), (.slice none 0 0), (.slice (some ⟨26, 0, none⟩) 1 1)] 27 (0, 0), false) ::
  (.cells #[(.int .i64 2), (.string ⟨#[115, 112, 97, 110]⟩), (.string ⟨#[]⟩), (.slice none 0 0), (.slice (some ⟨26, 0, none⟩) 1 1)] 27 (0, 0), false) ::
  (.cells #[(.int .i64 2), (.string ⟨#[112]⟩), (.string ⟨#[]⟩), (.slice none 0 0), (.slice none 0 0)] 27 (0, 0), false) ::
  (.cells #[(.int .i64 2), (.string ⟨#[112]⟩), (.string ⟨#[]⟩), (.slice none 0 0), (.slice none 0 0)] 27 (0, 0), false) ::
  nl1
def na2 : List Value := [(.agg #[(.int .i64 1), (.string ⟨#[]⟩), (.string ⟨#[]⟩), (.slice none 0 0), (.slice (some ⟨36, 0, none⟩) 1 1)])]
def nl3 : List (Obj × Bool) := (.cells #[(.int .i64 2), (.string ⟨#[104, 116, 109, 108]⟩), (.string ⟨#[]⟩), (.slice none 0 0), (.slice (some ⟨49, 0, none⟩) 2 2)] 27 (0, 0), false) ::
  (.cells #[(.int .i64 2), (.string ⟨#[104, 116, 109, 108]⟩), (.string ⟨#[]⟩), (.slice none 0 0), (.slice (some ⟨49, 0, none⟩) 2 2)] 27 (0, 0), false) ::
  (.cells #[(.int .i64 2), (.string ⟨#[104, 101, 97, 100]⟩), (.string ⟨#[]⟩), (.slice none 0 0), (.slice none 0 0), (.int .i64 2), (.string ⟨#[98, 111, 100, 121]⟩), (.string ⟨#[]⟩), (.slice none 0 0), (.slice (some ⟨45, 0, none⟩) 1 1)] 27 (0, 0), false) ::
  (.cells #[(.int .i64 2), (.string ⟨#[98, 111, 100, 121]⟩), (.string ⟨#[]⟩), (.slice none 0 0), (.slice (some ⟨45, 0, none⟩) 1 1)] 27 (0, 0), false) ::
  (.cells #[(.int .i64 2), (.string ⟨#[104, 101, 97, 100]⟩), (.string ⟨#[]⟩), (.slice none 0 0), (.slice none 0 0)] 27 (0, 0), false) ::
  (.cells #[(.int .i64 1), (.string ⟨#[]⟩), (.string ⟨#[]⟩), (.slice none 0 0), (.slice (some ⟨51, 0, none⟩) 1 1)] 27 (0, 0), false) ::
  (.cells #[(.int .i64 2), (.string ⟨#[112]⟩), (.string ⟨#[]⟩), (.slice none 0 0), (.slice (some ⟨40, 0, none⟩) 1 1)] 27 (0, 0), false) ::
  (.cells #[(.int .i64 2), (.string ⟨#[112]⟩), (.string ⟨#[]⟩), (.slice none 0 0), (.slice (some ⟨43, 0, none⟩) 1 1)] 27 (0, 0), false) ::
  (.cells #[(.int .i64 2), (.string ⟨#[98]⟩), (.string ⟨#[]⟩), (.slice none 0 0), (.slice none 0 0)] 27 (0, 0), false) ::
  (.cells #[(.int .i64 2), (.string ⟨#[98]⟩), (.string ⟨#[]⟩), (.slice none 0 0), (.slice none 0 0)] 27 (0, 0), false) ::
  (.cells #[(.int .i64 2), (.string ⟨#[112]⟩), (.string ⟨#[]⟩), (.slice none 0 0), (.slice (some ⟨40, 0, none⟩) 1 1)] 27 (0, 0), false) ::
  (.cells #[(.int .i64 2), (.string ⟨#[100, 105, 118]⟩), (.string ⟨#[]⟩), (.slice none 0 0), (.slice none 0 0)] 27 (0, 0), false) ::
  (.cells #[(.int .i64 2), (.string ⟨#[100, 105, 118]⟩), (.string ⟨#[]⟩), (.slice none 0 0), (.slice none 0 0)] 27 (0, 0), false) ::
  (.cells #[(.int .i64 2), (.string ⟨#[112]⟩), (.string ⟨#[]⟩), (.slice none 0 0), (.slice (some ⟨43, 0, none⟩) 1 1)] 27 (0, 0), false) ::
  (.cells #[(.int .i64 2), (.string ⟨#[112]⟩), (.string ⟨#[]⟩), (.slice none 0 0), (.slice (some ⟨40, 0, none⟩) 1 1)] 27 (0, 0), false) ::
  nl2
def na3 : List Value := [(.agg #[(.int .i64 1), (.string ⟨#[]⟩), (.string ⟨#[]⟩), (.slice none 0 0), (.slice (some ⟨51, 0, none⟩) 1 1)])]
def nl4 : List (Obj × Bool) := (.cells #[(.int .i64 2), (.string ⟨#[104, 116, 109, 108]⟩), (.string ⟨#[]⟩), (.slice none 0 0), (.slice (some ⟨56, 0, none⟩) 2 2)] 27 (0, 0), false) ::
  (.cells #[(.int .i64 2), (.string ⟨#[104, 116, 109, 108]⟩), (.string ⟨#[]⟩), (.slice none 0 0), (.slice (some ⟨56, 0, none⟩) 2 2)] 27 (0, 0), false) ::
  (.cells #[(.int .i64 2), (.string ⟨#[104, 101, 97, 100]⟩), (.string ⟨#[]⟩), (.slice none 0 0), (.slice none 0 0), (.int .i64 2), (.string ⟨#[98, 111, 100, 121]⟩), (.string ⟨#[]⟩), (.slice none 0 0), (.slice (some ⟨52, 0, none⟩) 1 1)] 27 (0, 0), false) ::
  (.cells #[(.int .i64 2), (.string ⟨#[98, 111, 100, 121]⟩), (.string ⟨#[]⟩), (.slice none 0 0), (.slice (some ⟨52, 0, none⟩) 1 1)] 27 (0, 0), false) ::
  (.cells #[(.int .i64 2), (.string ⟨#[104, 101, 97, 100]⟩), (.string ⟨#[]⟩), (.slice none 0 0), (.slice none 0 0)] 27 (0, 0), false) ::
  (.cells #[(.int .i64 1), (.string ⟨#[]⟩), (.string ⟨#[]⟩), (.slice none 0 0), (.slice (some ⟨58, 0, none⟩) 1 1)] 27 (0, 0), false) ::
  (.cells #[(.int .i64 2), (.string ⟨#[112]⟩), (.string ⟨#[]⟩), (.slice none 0 0), (.slice (some ⟨43, 0, none⟩) 1 1)] 27 (0, 0), false) ::
  nl3
def na4 : List Value := [(.agg #[(.int .i64 1), (.string ⟨#[]⟩), (.string ⟨#[]⟩), (.slice none 0 0), (.slice (some ⟨58, 0, none⟩) 1 1)])]
def nl5 : List (Obj × Bool) := (.cells #[(.int .i64 2), (.string ⟨#[104, 116, 109, 108]⟩), (.string ⟨#[]⟩), (.slice none 0 0), (.slice (some ⟨68, 0, none⟩) 2 2)] 27 (0, 0), false) ::
  (.cells #[(.int .i64 2), (.string ⟨#[104, 116, 109, 108]⟩), (.string ⟨#[]⟩), (.slice none 0 0), (.slice (some ⟨68, 0, none⟩) 2 2)] 27 (0, 0), false) ::
  (.cells #[(.int .i64 2), (.string ⟨#[104, 101, 97, 100]⟩), (.string ⟨#[]⟩), (.slice none 0 0), (.slice none 0 0), (.int .i64 2), (.string ⟨#[98, 111, 100, 121]⟩), (.string ⟨#[]⟩), (.slice none 0 0), (.slice (some ⟨64, 0, none⟩) 1 1)] 27 (0, 0), false) ::
  (.cells #[(.int .i64 2), (.string ⟨#[98, 111, 100, 121]⟩), (.string ⟨#[]⟩), (.slice none 0 0), (.slice (some ⟨64, 0, none⟩) 1 1)] 27 (0, 0), false) ::
  (.cells #[(.int .i64 2), (.string ⟨#[104, 101, 97, 100]⟩), (.string ⟨#[]⟩), (.slice none 0 0), (.slice none 0 0)] 27 (0, 0), false) ::
  (.cells #[(.int .i64 1), (.string ⟨#[]⟩), (.string ⟨#[]⟩), (.slice none 0 0), (.slice (some ⟨70, 0, none⟩) 1 1)] 27 (0, 0), false) ::
  (.cells #[(.int .i64 2), (.string ⟨#[112]⟩), (.string ⟨#[]⟩), (.slice none 0 0), (.slice (some ⟨62, 0, none⟩) 1 1)] 27 (0, 0), false) ::
  (.cells #[(.int .i64 2), (.string ⟨#[112]⟩), (.string ⟨#[]⟩), (.slice none 0 0), (.slice (some ⟨62, 0, none⟩) 1 1)] 27 (0, 0), false) ::
  (.cells #[(.int .i64 2), (.string ⟨#[115, 112, 97, 110]⟩), (.string ⟨#[]⟩), (.slice none 0 0), (.slice (some ⟨60, 0, none⟩) 1 1)] 27 (0, 0), false) ::
  (.cells #[(.int .i64 2), (.string ⟨#[115, 112, 97, 110]⟩), (.string ⟨#[]⟩), (.slice none 0 0), (.slice (some ⟨60, 0, none⟩) 1 1)] 27 (0, 0), false) ::
  (.cells #[(.int .i64 2), (.string ⟨#[100, 105, 118]⟩), (.string ⟨#[]⟩), (.slice none 0 0), (.slice none 0 0)] 27 (0, 0), false) ::
  (.cells #[(.int .i64 2), (.string ⟨#[100, 105, 118]⟩), (.string ⟨#[]⟩), (.slice none 0 0), (.slice none 0 0)] 27 (0, 0), false) ::
  nl4
def na5 : List Value := [(.agg #[(.int .i64 1), (.string ⟨#[]⟩), (.string ⟨#[]⟩), (.slice none 0 0), (.slice (some ⟨70, 0, none⟩) 1 1)])]
def nl6 : List (Obj × Bool) := (.cells #[(.int .i64 2), (.string ⟨#[104, 116, 109, 108]⟩), (.string ⟨#[]⟩), (.slice none 0 0), (.slice (some ⟨83, 0, none⟩) 2 2)] 27 (0, 0), false) ::
  (.cells #[(.int .i64 2), (.string ⟨#[104, 116, 109, 108]⟩), (.string ⟨#[]⟩), (.slice none 0 0), (.slice (some ⟨83, 0, none⟩) 2 2)] 27 (0, 0), false) ::
  (.cells #[(.int .i64 2), (.string ⟨#[104, 101, 97, 100]⟩), (.string ⟨#[]⟩), (.slice none 0 0), (.slice none 0 0), (.int .i64 2), (.string ⟨#[98, 111, 100, 121]⟩), (.string ⟨#[]⟩), (.slice none 0 0), (.slice (some ⟨79, 0, none⟩) 1 1)] 27 (0, 0), false) ::
  (.cells #[(.int .i64 2), (.string ⟨#[98, 111, 100, 121]⟩), (.string ⟨#[]⟩), (.slice none 0 0), (.slice (some ⟨79, 0, none⟩) 1 1)] 27 (0, 0), false) ::
  (.cells #[(.int .i64 2), (.string ⟨#[104, 101, 97, 100]⟩), (.string ⟨#[]⟩), (.slice none 0 0), (.slice none 0 0)] 27 (0, 0), false) ::
  (.cells #[(.int .i64 1), (.string ⟨#[]⟩), (.string ⟨#[]⟩), (.slice none 0 0), (.slice (some ⟨85, 0, none⟩) 1 1)] 27 (0, 0), false) ::
  (.cells #[(.int .i64 2), (.string ⟨#[112]⟩), (.string ⟨#[]⟩), (.slice none 0 0), (.slice (some ⟨74, 0, none⟩) 1 1)] 27 (0, 0), false) ::
  (.cells #[(.int .i64 2), (.string ⟨#[98]⟩), (.string ⟨#[]⟩), (.slice none 0 0), (.slice (some ⟨77, 0, none⟩) 1 1)] 27 (0, 0), false) ::
  (.cells #[(.int .i64 2), (.string ⟨#[112]⟩), (.string ⟨#[]⟩), (.slice none 0 0), (.slice none 0 0)] 27 (0, 0), false) ::
  (.cells #[(.int .i64 2), (.string ⟨#[112]⟩), (.string ⟨#[]⟩), (.slice none 0 0), (.slice none 0 0)] 27 (0, 0), false) ::
  (.cells #[(.int .i64 2), (.string ⟨#[112]⟩), (.string ⟨#[]⟩), (.slice none 0 0), (.slice (some ⟨74, 0, none⟩) 1 1)] 27 (0, 0), false) ::
  (.cells #[(.int .i64 2), (.string ⟨#[117, 108]⟩), (.string ⟨#[]⟩), (.slice none 0 0), (.slice none 0 0)] 27 (0, 0), false) ::
  (.cells #[(.int .i64 2), (.string ⟨#[117, 108]⟩), (.string ⟨#[]⟩), (.slice none 0 0), (.slice none 0 0)] 27 (0, 0), false) ::
  (.cells #[(.int .i64 2), (.string ⟨#[98]⟩), (.string ⟨#[]⟩), (.slice none 0 0), (.slice (some ⟨77, 0, none⟩) 1 1)] 27 (0, 0), false) ::
  (.cells #[(.int .i64 2), (.string ⟨#[112]⟩), (.string ⟨#[]⟩), (.slice none 0 0), (.slice (some ⟨74, 0, none⟩) 1 1)] 27 (0, 0), false) ::
  nl5
def na6 : List Value := [(.agg #[(.int .i64 1), (.string ⟨#[]⟩), (.string ⟨#[]⟩), (.slice none 0 0), (.slice (some ⟨85, 0, none⟩) 1 1)])]
def nl7 : List (Obj × Bool) := (.cells #[(.int .i64 2), (.string ⟨#[104, 116, 109, 108]⟩), (.string ⟨#[]⟩), (.slice none 0 0), (.slice (some ⟨90, 0, none⟩) 2 2)] 27 (0, 0), false) ::
  (.cells #[(.int .i64 2), (.string ⟨#[104, 116, 109, 108]⟩), (.string ⟨#[]⟩), (.slice none 0 0), (.slice (some ⟨90, 0, none⟩) 2 2)] 27 (0, 0), false) ::
  (.cells #[(.int .i64 2), (.string ⟨#[104, 101, 97, 100]⟩), (.string ⟨#[]⟩), (.slice none 0 0), (.slice none 0 0), (.int .i64 2), (.string ⟨#[98, 111, 100, 121]⟩), (.string ⟨#[]⟩), (.slice none 0 0), (.slice (some ⟨86, 0, none⟩) 1 1)] 27 (0, 0), false) ::
  (.cells #[(.int .i64 2), (.string ⟨#[98, 111, 100, 121]⟩), (.string ⟨#[]⟩), (.slice none 0 0), (.slice (some ⟨86, 0, none⟩) 1 1)] 27 (0, 0), false) ::
  (.cells #[(.int .i64 2), (.string ⟨#[104, 101, 97, 100]⟩), (.string ⟨#[]⟩), (.slice none 0 0), (.slice none 0 0)] 27 (0, 0), false) ::
  (.cells #[(.int .i64 1), (.string ⟨#[]⟩), (.string ⟨#[]⟩), (.slice none 0 0), (.slice (some ⟨92, 0, none⟩) 1 1)] 27 (0, 0), false) ::
  (.cells #[(.int .i64 2), (.string ⟨#[98]⟩), (.string ⟨#[]⟩), (.slice none 0 0), (.slice (some ⟨77, 0, none⟩) 1 1)] 27 (0, 0), false) ::
  nl6
def na7 : List Value := [(.agg #[(.int .i64 1), (.string ⟨#[]⟩), (.string ⟨#[]⟩), (.slice none 0 0), (.slice (some ⟨92, 0, none⟩) 1 1)])]
def nl8 : List (Obj × Bool) := (.cells #[(.int .i64 2), (.string ⟨#[104, 116, 109, 108]⟩), (.string ⟨#[]⟩), (.slice none 0 0), (.slice (some ⟨102, 0, none⟩) 2 2)] 27 (0, 0), false) ::
  (.cells #[(.int .i64 2), (.string ⟨#[104, 116, 109, 108]⟩), (.string ⟨#[]⟩), (.slice none 0 0), (.slice (some ⟨102, 0, none⟩) 2 2)] 27 (0, 0), false) ::
  (.cells #[(.int .i64 2), (.string ⟨#[104, 101, 97, 100]⟩), (.string ⟨#[]⟩), (.slice none 0 0), (.slice none 0 0), (.int .i64 2), (.string ⟨#[98, 111, 100, 121]⟩), (.string ⟨#[]⟩), (.slice none 0 0), (.slice (some ⟨98, 0, none⟩) 1 1)] 27 (0, 0), false) ::
  (.cells #[(.int .i64 2), (.string ⟨#[98, 111, 100, 121]⟩), (.string ⟨#[]⟩), (.slice none 0 0), (.slice (some ⟨98, 0, none⟩) 1 1)] 27 (0, 0), false) ::
  (.cells #[(.int .i64 2), (.string ⟨#[104, 101, 97, 100]⟩), (.string ⟨#[]⟩), (.slice none 0 0), (.slice none 0 0)] 27 (0, 0), false) ::
  (.cells #[(.int .i64 1), (.string ⟨#[]⟩), (.string ⟨#[]⟩), (.slice none 0 0), (.slice (some ⟨104, 0, none⟩) 1 1)] 27 (0, 0), false) ::
  (.cells #[(.int .i64 2), (.string ⟨#[112]⟩), (.string ⟨#[]⟩), (.slice none 0 0), (.slice (some ⟨96, 0, none⟩) 1 1)] 27 (0, 0), false) ::
  (.cells #[(.int .i64 2), (.string ⟨#[112]⟩), (.string ⟨#[]⟩), (.slice none 0 0), (.slice (some ⟨96, 0, none⟩) 1 1)] 27 (0, 0), false) ::
  (.cells #[(.int .i64 2), (.string ⟨#[115, 112, 97, 110]⟩), (.string ⟨#[]⟩), (.slice none 0 0), (.slice (some ⟨94, 0, none⟩) 1 1)] 27 (0, 0), false) ::
  (.cells #[(.int .i64 2), (.string ⟨#[115, 112, 97, 110]⟩), (.string ⟨#[]⟩), (.slice none 0 0), (.slice (some ⟨94, 0, none⟩) 1 1)] 27 (0, 0), false) ::
  (.cells #[(.int .i64 2), (.string ⟨#[117, 108]⟩), (.string ⟨#[]⟩), (.slice none 0 0), (.slice none 0 0)] 27 (0, 0), false) ::
  (.cells #[(.int .i64 2), (.string ⟨#[117, 108]⟩), (.string ⟨#[]⟩), (.slice none 0 0), (.slice none 0 0)] 27 (0, 0), false) ::
  nl7
def na8 : List Value := [(.agg #[(.int .i64 1), (.string ⟨#[]⟩), (.string ⟨#[]⟩), (.slice none 0 0), (.slice (some ⟨104, 0, none⟩) 1 1)])]
def nl9 : List (Obj × Bool) := (.cells #[(.int .i64 2), (.string ⟨#[104, 116, 109, 108]⟩), (.string ⟨#[]⟩), (.slice none 0 0), (.slice (some ⟨117, 0, none⟩) 2 2)] 27 (0, 0), false) ::
  (.cells #[(.int .i64 2), (.string ⟨#[104, 116, 109, 108]⟩), (.string ⟨#[]⟩), (.slice none 0 0), (.slice (some ⟨117, 0, none⟩) 2 2)] 27 (0, 0), false) ::
  (.cells #[(.int .i64 2), (.string ⟨#[104, 101, 97, 100]⟩), (.string ⟨#[]⟩), (.slice none 0 0), (.slice none 0 0), (.int .i64 2), (.string ⟨#[98, 111, 100, 121]⟩), (.string ⟨#[]⟩), (.slice none 0 0), (.slice (some ⟨113, 0, none⟩) 1 1)] 27 (0, 0), false) ::
  (.cells #[(.int .i64 2), (.string ⟨#[98, 111, 100, 121]⟩), (.string ⟨#[]⟩), (.slice none 0 0), (.slice (some ⟨113, 0, none⟩) 1 1)] 27 (0, 0), false) ::
  (.cells #[(.int .i64 2), (.string ⟨#[104, 101, 97, 100]⟩), (.string ⟨#[]⟩), (.slice none 0 0), (.slice none 0 0)] 27 (0, 0), false) ::
  (.cells #[(.int .i64 1), (.string ⟨#[]⟩), (.string ⟨#[]⟩), (.slice none 0 0), (.slice (some ⟨119, 0, none⟩) 1 1)] 27 (0, 0), false) ::
  (.cells #[(.int .i64 2), (.string ⟨#[112]⟩), (.string ⟨#[]⟩), (.slice none 0 0), (.slice (some ⟨108, 0, none⟩) 1 1)] 27 (0, 0), false) ::
  (.cells #[(.int .i64 2), (.string ⟨#[97]⟩), (.string ⟨#[]⟩), (.slice none 0 0), (.slice (some ⟨111, 0, none⟩) 1 1)] 27 (0, 0), false) ::
  (.cells #[(.int .i64 2), (.string ⟨#[100, 105, 118]⟩), (.string ⟨#[]⟩), (.slice none 0 0), (.slice none 0 0)] 27 (0, 0), false) ::
  (.cells #[(.int .i64 2), (.string ⟨#[100, 105, 118]⟩), (.string ⟨#[]⟩), (.slice none 0 0), (.slice none 0 0)] 27 (0, 0), false) ::
  (.cells #[(.int .i64 2), (.string ⟨#[112]⟩), (.string ⟨#[]⟩), (.slice none 0 0), (.slice (some ⟨108, 0, none⟩) 1 1)] 27 (0, 0), false) ::
  (.cells #[(.int .i64 2), (.string ⟨#[104, 49]⟩), (.string ⟨#[]⟩), (.slice none 0 0), (.slice none 0 0)] 27 (0, 0), false) ::
  (.cells #[(.int .i64 2), (.string ⟨#[104, 49]⟩), (.string ⟨#[]⟩), (.slice none 0 0), (.slice none 0 0)] 27 (0, 0), false) ::
  (.cells #[(.int .i64 2), (.string ⟨#[97]⟩), (.string ⟨#[]⟩), (.slice none 0 0), (.slice (some ⟨111, 0, none⟩) 1 1)] 27 (0, 0), false) ::
  (.cells #[(.int .i64 2), (.string ⟨#[112]⟩), (.string ⟨#[]⟩), (.slice none 0 0), (.slice (some ⟨108, 0, none⟩) 1 1)] 27 (0, 0), false) ::
  nl8
def na9 : List Value := [(.agg #[(.int .i64 1), (.string ⟨#[]⟩), (.string ⟨#[]⟩), (.slice none 0 0), (.slice (some ⟨119, 0, none⟩) 1 1)])]
def nl10 : List (Obj × Bool) := (.cells #[(.int .i64 2), (.string ⟨#[104, 116, 109, 108]⟩), (.string ⟨#[]⟩), (.slice none 0 0), (.slice (some ⟨124, 0, none⟩) 2 2)] 27 (0, 0), false) ::
  (.cells #[(.int .i64 2), (.string ⟨#[104, 116, 109, 108]⟩), (.string ⟨#[]⟩), (.slice none 0 0), (.slice (some ⟨124, 0, none⟩) 2 2)] 27 (0, 0), false) ::
  (.cells #[(.int .i64 2), (.string ⟨#[104, 101, 97, 100]⟩), (.string ⟨#[]⟩), (.slice none 0 0), (.slice none 0 0), (.int .i64 2), (.string ⟨#[98, 111, 100, 121]⟩), (.string ⟨#[]⟩), (.slice none 0 0), (.slice (some ⟨120, 0, none⟩) 1 1)] 27 (0, 0), false) ::
  (.cells #[(.int .i64 2), (.string ⟨#[98, 111, 100, 121]⟩), (.string ⟨#[]⟩), (.slice none 0 0), (.slice (some ⟨120, 0, none⟩) 1 1)] 27 (0, 0), false) ::
  (.cells #[(.int .i64 2), (.string ⟨#[104, 101, 97, 100]⟩), (.string ⟨#[]⟩), (.slice none 0 0), (.slice none 0 0)] 27 (0, 0), false) ::
  (.cells #[(.int .i64 1), (.string ⟨#[]⟩), (.string ⟨#[]⟩), (.slice none 0 0), (.slice (some ⟨126, 0, none⟩) 1 1)] 27 (0, 0), false) ::
  (.cells #[(.int .i64 2), (.string ⟨#[97]⟩), (.string ⟨#[]⟩), (.slice none 0 0), (.slice (some ⟨111, 0, none⟩) 1 1)] 27 (0, 0), false) ::
  nl9
def na10 : List Value := [(.agg #[(.int .i64 1), (.string ⟨#[]⟩), (.string ⟨#[]⟩), (.slice none 0 0), (.slice (some ⟨126, 0, none⟩) 1 1)])]
def nl11 : List (Obj × Bool) := (.cells #[(.int .i64 2), (.string ⟨#[104, 116, 109, 108]⟩), (.string ⟨#[]⟩), (.slice none 0 0), (.slice (some ⟨136, 0, none⟩) 2 2)] 27 (0, 0), false) ::
  (.cells #[(.int .i64 2), (.string ⟨#[104, 116, 109, 108]⟩), (.string ⟨#[]⟩), (.slice none 0 0), (.slice (some ⟨136, 0, none⟩) 2 2)] 27 (0, 0), false) ::
  (.cells #[(.int .i64 2), (.string ⟨#[104, 101, 97, 100]⟩), (.string ⟨#[]⟩), (.slice none 0 0), (.slice none 0 0), (.int .i64 2), (.string ⟨#[98, 111, 100, 121]⟩), (.string ⟨#[]⟩), (.slice none 0 0), (.slice (some ⟨132, 0, none⟩) 1 1)] 27 (0, 0), false) ::
  (.cells #[(.int .i64 2), (.string ⟨#[98, 111, 100, 121]⟩), (.string ⟨#[]⟩), (.slice none 0 0), (.slice (some ⟨132, 0, none⟩) 1 1)] 27 (0, 0), false) ::
  (.cells #[(.int .i64 2), (.string ⟨#[104, 101, 97, 100]⟩), (.string ⟨#[]⟩), (.slice none 0 0), (.slice none 0 0)] 27 (0, 0), false) ::
  (.cells #[(.int .i64 1), (.string ⟨#[]⟩), (.string ⟨#[]⟩), (.slice none 0 0), (.slice (some ⟨138, 0, none⟩) 1 1)] 27 (0, 0), false) ::
  (.cells #[(.int .i64 2), (.string ⟨#[112]⟩), (.string ⟨#[]⟩), (.slice none 0 0), (.slice (some ⟨130, 0, none⟩) 1 1)] 27 (0, 0), false) ::
  (.cells #[(.int .i64 2), (.string ⟨#[112]⟩), (.string ⟨#[]⟩), (.slice none 0 0), (.slice (some ⟨130, 0, none⟩) 1 1)] 27 (0, 0), false) ::
  (.cells #[(.int .i64 2), (.string ⟨#[115, 112, 97, 110]⟩), (.string ⟨#[]⟩), (.slice none 0 0), (.slice (some ⟨128, 0, none⟩) 1 1)] 27 (0, 0), false) ::
  (.cells #[(.int .i64 2), (.string ⟨#[115, 112, 97, 110]⟩), (.string ⟨#[]⟩), (.slice none 0 0), (.slice (some ⟨128, 0, none⟩) 1 1)] 27 (0, 0), false) ::
  (.cells #[(.int .i64 2), (.string ⟨#[104, 49]⟩), (.string ⟨#[]⟩), (.slice none 0 0), (.slice none 0 0)] 27 (0, 0), false) ::
  (.cells #[(.int .i64 2), (.string ⟨#[104, 49]⟩), (.string ⟨#[]⟩), (.slice none 0 0), (.slice none 0 0)] 27 (0, 0), false) ::
  nl10
def na11 : List Value := [(.agg #[(.int .i64 1), (.string ⟨#[]⟩), (.string ⟨#[]⟩), (.slice none 0 0), (.slice (some ⟨138, 0, none⟩) 1 1)])]
def nl12 : List (Obj × Bool) := (.cells #[(.int .i64 2), (.string ⟨#[104, 116, 109, 108]⟩), (.string ⟨#[]⟩), (.slice none 0 0), (.slice (some ⟨151, 0, none⟩) 2 2)] 27 (0, 0), false) ::
  (.cells #[(.int .i64 2), (.string ⟨#[104, 116, 109, 108]⟩), (.string ⟨#[]⟩), (.slice none 0 0), (.slice (some ⟨151, 0, none⟩) 2 2)] 27 (0, 0), false) ::
  (.cells #[(.int .i64 2), (.string ⟨#[104, 101, 97, 100]⟩), (.string ⟨#[]⟩), (.slice none 0 0), (.slice none 0 0), (.int .i64 2), (.string ⟨#[98, 111, 100, 121]⟩), (.string ⟨#[]⟩), (.slice none 0 0), (.slice (some ⟨147, 0, none⟩) 1 1)] 27 (0, 0), false) ::
  (.cells #[(.int .i64 2), (.string ⟨#[98, 111, 100, 121]⟩), (.string ⟨#[]⟩), (.slice none 0 0), (.slice (some ⟨147, 0, none⟩) 1 1)] 27 (0, 0), false) ::
  (.cells #[(.int .i64 2), (.string ⟨#[104, 101, 97, 100]⟩), (.string ⟨#[]⟩), (.slice none 0 0), (.slice none 0 0)] 27 (0, 0), false) ::
  (.cells #[(.int .i64 1), (.string ⟨#[]⟩), (.string ⟨#[]⟩), (.slice none 0 0), (.slice (some ⟨153, 0, none⟩) 1 1)] 27 (0, 0), false) ::
  (.cells #[(.int .i64 2), (.string ⟨#[112]⟩), (.string ⟨#[]⟩), (.slice none 0 0), (.slice (some ⟨142, 0, none⟩) 1 1)] 27 (0, 0), false) ::
  (.cells #[(.int .i64 2), (.string ⟨#[117, 108]⟩), (.string ⟨#[]⟩), (.slice none 0 0), (.slice (some ⟨145, 0, none⟩) 1 1)] 27 (0, 0), false) ::
  (.cells #[(.int .i64 2), (.string ⟨#[108, 105]⟩), (.string ⟨#[]⟩), (.slice none 0 0), (.slice none 0 0)] 27 (0, 0), false) ::
  (.cells #[(.int .i64 2), (.string ⟨#[108, 105]⟩), (.string ⟨#[]⟩), (.slice none 0 0), (.slice none 0 0)] 27 (0, 0), false) ::
  (.cells #[(.int .i64 2), (.string ⟨#[112]⟩), (.string ⟨#[]⟩), (.slice none 0 0), (.slice (some ⟨142, 0, none⟩) 1 1)] 27 (0, 0), false) ::
  (.cells #[(.int .i64 2), (.string ⟨#[116, 97, 98, 108, 101]⟩), (.string ⟨#[]⟩), (.slice none 0 0), (.slice none 0 0)] 27 (0, 0), false) ::
  (.cells #[(.int .i64 2), (.string ⟨#[116, 97, 98, 108, 101]⟩), (.string ⟨#[]⟩), (.slice none 0 0), (.slice none 0 0)] 27 (0, 0), false) ::
  (.cells #[(.int .i64 2), (.string ⟨#[117, 108]⟩), (.string ⟨#[]⟩), (.slice none 0 0), (.slice (some ⟨145, 0, none⟩) 1 1)] 27 (0, 0), false) ::
  (.cells #[(.int .i64 2), (.string ⟨#[112]⟩), (.string ⟨#[]⟩), (.slice none 0 0), (.slice (some ⟨142, 0, none⟩) 1 1)] 27 (0, 0), false) ::
  nl11
def na12 : List Value := [(.agg #[(.int .i64 1), (.string ⟨#[]⟩), (.string ⟨#[]⟩), (.slice none 0 0), (.slice (some ⟨153, 0, none⟩) 1 1)])]
def nl13 : List (Obj × Bool) := (.cells #[(.int .i64 2), (.string ⟨#[104, 116, 109, 108]⟩), (.string ⟨#[]⟩), (.slice none 0 0), (.slice (some ⟨158, 0, none⟩) 2 2)] 27 (0, 0), false) ::
  (.cells #[(.int .i64 2), (.string ⟨#[104, 116, 109, 108]⟩), (.string ⟨#[]⟩), (.slice none 0 0), (.slice (some ⟨158, 0, none⟩) 2 2)] 27 (0, 0), false) ::
  (.cells #[(.int .i64 2), (.string ⟨#[104, 101, 97, 100]⟩), (.string ⟨#[]⟩), (.slice none 0 0), (.slice none 0 0), (.int .i64 2), (.string ⟨#[98, 111, 100, 121]⟩), (.string ⟨#[]⟩), (.slice none 0 0), (.slice (some ⟨154, 0, none⟩) 1 1)] 27 (0, 0), false) ::
  (.cells #[(.int .i64 2), (.string ⟨#[98, 111, 100, 121]⟩), (.string ⟨#[]⟩), (.slice none 0 0), (.slice (some ⟨154, 0, none⟩) 1 1)] 27 (0, 0), false) ::
  (.cells #[(.int .i64 2), (.string ⟨#[104, 101, 97, 100]⟩), (.string ⟨#[]⟩), (.slice none 0 0), (.slice none 0 0)] 27 (0, 0), false) ::
  (.cells #[(.int .i64 1), (.string ⟨#[]⟩), (.string ⟨#[]⟩), (.slice none 0 0), (.slice (some ⟨160, 0, none⟩) 1 1)] 27 (0, 0), false) ::
  (.cells #[(.int .i64 2), (.string ⟨#[117, 108]⟩), (.string ⟨#[]⟩), (.slice none 0 0), (.slice (some ⟨145, 0, none⟩) 1 1)] 27 (0, 0), false) ::
  nl12
def na13 : List Value := [(.agg #[(.int .i64 1), (.string ⟨#[]⟩), (.string ⟨#[]⟩), (.slice none 0 0), (.slice (some ⟨160, 0, none⟩) 1 1)])]
def nl14 : List (Obj × Bool) := (.cells #[(.int .i64 2), (.string ⟨#[104, 116, 109, 108]⟩), (.string ⟨#[]⟩), (.slice none 0 0), (.slice (some ⟨170, 0, none⟩) 2 2)] 27 (0, 0), false) ::
  (.cells #[(.int .i64 2), (.string ⟨#[104, 116, 109, 108]⟩), (.string ⟨#[]⟩), (.slice none 0 0), (.slice (some ⟨170, 0, none⟩) 2 2)] 27 (0, 0), false) ::
  (.cells #[(.int .i64 2), (.string ⟨#[104, 101, 97, 100]⟩), (.string ⟨#[]⟩), (.slice none 0 0), (.slice none 0 0), (.int .i64 2), (.string ⟨#[98, 111, 100, 121]⟩), (.string ⟨#[]⟩), (.slice none 0 0), (.slice (some ⟨166, 0, none⟩) 1 1)] 27 (0, 0), false) ::
  (.cells #[(.int .i64 2), (.string ⟨#[98, 111, 100, 121]⟩), (.string ⟨#[]⟩), (.slice none 0 0), (.slice (some ⟨166, 0, none⟩) 1 1)] 27 (0, 0), false) ::
  (.cells #[(.int .i64 2), (.string ⟨#[104, 101, 97, 100]⟩), (.string ⟨#[]⟩), (.slice none 0 0), (.slice none 0 0)] 27 (0, 0), false) ::
  (.cells #[(.int .i64 1), (.string ⟨#[]⟩), (.string ⟨#[]⟩), (.slice none 0 0), (.slice (some ⟨172, 0, none⟩) 1 1)] 27 (0, 0), false) ::
  (.cells #[(.int .i64 2), (.string ⟨#[112]⟩), (.string ⟨#[]⟩), (.slice none 0 0), (.slice (some ⟨164, 0, none⟩) 1 1)] 27 (0, 0), false) ::
  (.cells #[(.int .i64 2), (.string ⟨#[112]⟩), (.string ⟨#[]⟩), (.slice none 0 0), (.slice (some ⟨164, 0, none⟩) 1 1)] 27 (0, 0), false) ::
  (.cells #[(.int .i64 2), (.string ⟨#[115, 112, 97, 110]⟩), (.string ⟨#[]⟩), (.slice none 0 0), (.slice (some ⟨162, 0, none⟩) 1 1)] 27 (0, 0), false) ::
  (.cells #[(.int .i64 2), (.string ⟨#[115, 112, 97, 110]⟩), (.string ⟨#[]⟩), (.slice none 0 0), (.slice (some ⟨162, 0, none⟩) 1 1)] 27 (0, 0), false) ::
  (.cells #[(.int .i64 2), (.string ⟨#[116, 97, 98, 108, 101]⟩), (.string ⟨#[]⟩), (.slice none 0 0), (.slice none 0 0)] 27 (0, 0), false) ::
  (.cells #[(.int .i64 2), (.string ⟨#[116, 97, 98, 108, 101]⟩), (.string ⟨#[]⟩), (.slice none 0 0), (.slice none 0 0)] 27 (0, 0), false) ::
  nl13
def na14 : List Value := [(.agg #[(.int .i64 1), (.string ⟨#[]⟩), (.string ⟨#[]⟩), (.slice none 0 0), (.slice (some ⟨172, 0, none⟩) 1 1)])]
def nl15 : List (Obj × Bool) := (.cells #[(.int .i64 2), (.string ⟨#[104, 116, 109, 108]⟩), (.string ⟨#[]⟩), (.slice none 0 0), (.slice (some ⟨185, 0, none⟩) 2 2)] 27 (0, 0), false) ::
  (.cells #[(.int .i64 2), (.string ⟨#[104, 116, 109, 108]⟩), (.string ⟨#[]⟩), (.slice none 0 0), (.slice (some ⟨185, 0, none⟩) 2 2)] 27 (0, 0), false) ::
  (.cells #[(.int .i64 2), (.string ⟨#[104, 101, 97, 100]⟩), (.string ⟨#[]⟩), (.slice none 0 0), (.slice none 0 0), (.int .i64 2), (.string ⟨#[98, 111, 100, 121]⟩), (.string ⟨#[]⟩), (.slice none 0 0), (.slice (some ⟨181, 0, none⟩) 1 1)] 27 (0, 0), false) ::
  (.cells #[(.int .i64 2), (.string ⟨#[98, 111, 100, 121]⟩), (.string ⟨#[]⟩), (.slice none 0 0), (.slice (some ⟨181, 0, none⟩) 1 1)] 27 (0, 0), false) ::
  (.cells #[(.int .i64 2), (.string ⟨#[104, 101, 97, 100]⟩), (.string ⟨#[]⟩), (.slice none 0 0), (.slice none 0 0)] 27 (0, 0), false) ::
  (.cells #[(.int .i64 1), (.string ⟨#[]⟩), (.string ⟨#[]⟩), (.slice none 0 0), (.slice (some ⟨187, 0, none⟩) 1 1)] 27 (0, 0), false) ::
  (.cells #[(.int .i64 2), (.string ⟨#[112]⟩), (.string ⟨#[]⟩), (.slice none 0 0), (.slice (some ⟨176, 0, none⟩) 1 1)] 27 (0, 0), false) ::
  (.cells #[(.int .i64 2), (.string ⟨#[111, 108]⟩), (.string ⟨#[]⟩), (.slice none 0 0), (.slice (some ⟨179, 0, none⟩) 1 1)] 27 (0, 0), false) ::
  (.cells #[(.int .i64 2), (.string ⟨#[108, 105]⟩), (.string ⟨#[]⟩), (.slice none 0 0), (.slice none 0 0)] 27 (0, 0), false) ::
  (.cells #[(.int .i64 2), (.string ⟨#[108, 105]⟩), (.string ⟨#[]⟩), (.slice none 0 0), (.slice none 0 0)] 27 (0, 0), false) ::
  (.cells #[(.int .i64 2), (.string ⟨#[112]⟩), (.string ⟨#[]⟩), (.slice none 0 0), (.slice (some ⟨176, 0, none⟩) 1 1)] 27 (0, 0), false) ::
  (.cells #[(.int .i64 2), (.string ⟨#[104, 114]⟩), (.string ⟨#[]⟩), (.slice none 0 0), (.slice none 0 0)] 27 (0, 0), false) ::
  (.cells #[(.int .i64 2), (.string ⟨#[104, 114]⟩), (.string ⟨#[]⟩), (.slice none 0 0), (.slice none 0 0)] 27 (0, 0), false) ::
  (.cells #[(.int .i64 2), (.string ⟨#[111, 108]⟩), (.string ⟨#[]⟩), (.slice none 0 0), (.slice (some ⟨179, 0, none⟩) 1 1)] 27 (0, 0), false) ::
  (.cells #[(.int .i64 2), (.string ⟨#[112]⟩), (.string ⟨#[]⟩), (.slice none 0 0), (.slice (some ⟨176, 0, none⟩) 1 1)] 27 (0, 0), false) ::
  nl14
def na15 : List Value := [(.agg #[(.int .i64 1), (.string ⟨#[]⟩), (.string ⟨#[]⟩), (.slice none 0 0), (.slice (some ⟨187, 0, none⟩) 1 1)])]
def nl16 : List (Obj × Bool) := (.cells #[(.int .i64 2), (.string ⟨#[104, 116, 109, 108]⟩), (.string ⟨#[]⟩), (.slice none 0 0), (.slice (some ⟨192, 0, none⟩) 2 2)] 27 (0, 0), false) ::
  (.cells #[(.int .i64 2), (.string ⟨#[104, 116, 109, 108]⟩), (.string ⟨#[]⟩), (.slice none 0 0), (.slice (some ⟨192, 0, none⟩) 2 2)] 27 (0, 0), false) ::
  (.cells #[(.int .i64 2), (.string ⟨#[104, 101, 97, 100]⟩), (.string ⟨#[]⟩), (.slice none 0 0), (.slice none 0 0), (.int .i64 2), (.string ⟨#[98, 111, 100, 121]⟩), (.string ⟨#[]⟩), (.slice none 0 0), (.slice (some ⟨188, 0, none⟩) 1 1)] 27 (0, 0), false) ::
  (.cells #[(.int .i64 2), (.string ⟨#[98, 111, 100, 121]⟩), (.string ⟨#[]⟩), (.slice none 0 0), (.slice (some ⟨188, 0, none⟩) 1 1)] 27 (0, 0), false) ::
  (.cells #[(.int .i64 2), (.string ⟨#[104, 101, 97, 100]⟩), (.string ⟨#[]⟩), (.slice none 0 0), (.slice none 0 0)] 27 (0, 0), false) ::
  (.cells #[(.int .i64 1), (.string ⟨#[]⟩), (.string ⟨#[]⟩), (.slice none 0 0), (.slice (some ⟨194, 0, none⟩) 1 1)] 27 (0, 0), false) ::
  (.cells #[(.int .i64 2), (.string ⟨#[111, 108]⟩), (.string ⟨#[]⟩), (.slice none 0 0), (.slice (some ⟨179, 0, none⟩) 1 1)] 27 (0, 0), false) ::
  nl15
def na16 : List Value := [(.agg #[(.int .i64 1), (.string ⟨#[]⟩), (.string ⟨#[]⟩), (.slice none 0 0), (.slice (some ⟨194, 0, none⟩) 1 1)])]
def nl17 : List (Obj × Bool) := (.cells #[(.int .i64 2), (.string ⟨#[104, 116, 109, 108]⟩), (.string ⟨#[]⟩), (.slice none 0 0), (.slice (some ⟨204, 0, none⟩) 2 2)] 27 (0, 0), false) ::
  (.cells #[(.int .i64 2), (.string ⟨#[104, 116, 109, 108]⟩), (.string ⟨#[]⟩), (.slice none 0 0), (.slice (some ⟨204, 0, none⟩) 2 2)] 27 (0, 0), false) ::
  (.cells #[(.int .i64 2), (.string ⟨#[104, 101, 97, 100]⟩), (.string ⟨#[]⟩), (.slice none 0 0), (.slice none 0 0), (.int .i64 2), (.string ⟨#[98, 111, 100, 121]⟩), (.string ⟨#[]⟩), (.slice none 0 0), (.slice (some ⟨200, 0, none⟩) 1 1)] 27 (0, 0), false) ::
  (.cells #[(.int .i64 2), (.string ⟨#[98, 111, 100, 121]⟩), (.string ⟨#[]⟩), (.slice none 0 0), (.slice (some ⟨200, 0, none⟩) 1 1)] 27 (0, 0), false) ::
  (.cells #[(.int .i64 2), (.string ⟨#[104, 101, 97, 100]⟩), (.string ⟨#[]⟩), (.slice none 0 0), (.slice none 0 0)] 27 (0, 0), false) ::
  (.cells #[(.int .i64 1), (.string ⟨#[]⟩), (.string ⟨#[]⟩), (.slice none 0 0), (.slice (some ⟨206, 0, none⟩) 1 1)] 27 (0, 0), false) ::
  (.cells #[(.int .i64 2), (.string ⟨#[112]⟩), (.string ⟨#[]⟩), (.slice none 0 0), (.slice (some ⟨198, 0, none⟩) 1 1)] 27 (0, 0), false) ::
  (.cells #[(.int .i64 2), (.string ⟨#[112]⟩), (.string ⟨#[]⟩), (.slice none 0 0), (.slice (some ⟨198, 0, none⟩) 1 1)] 27 (0, 0), false) ::
  (.cells #[(.int .i64 2), (.string ⟨#[115, 112, 97, 110]⟩), (.string ⟨#[]⟩), (.slice none 0 0), (.slice (some ⟨196, 0, none⟩) 1 1)] 27 (0, 0), false) ::
  (.cells #[(.int .i64 2), (.string ⟨#[115, 112, 97, 110]⟩), (.string ⟨#[]⟩), (.slice none 0 0), (.slice (some ⟨196, 0, none⟩) 1 1)] 27 (0, 0), false) ::
  (.cells #[(.int .i64 2), (.string ⟨#[104, 114]⟩), (.string ⟨#[]⟩), (.slice none 0 0), (.slice none 0 0)] 27 (0, 0), false) ::
  (.cells #[(.int .i64 2), (.string ⟨#[104, 114]⟩), (.string ⟨#[]⟩), (.slice none 0 0), (.slice none 0 0)] 27 (0, 0), false) ::
  nl16
def na17 : List Value := [(.agg #[(.int .i64 1), (.string ⟨#[]⟩), (.string ⟨#[]⟩), (.slice none 0 0), (.slice (some ⟨206, 0, none⟩) 1 1)])]
def nl18 : List (Obj × Bool) := (.cells #[(.int .i64 2), (.string ⟨#[104, 116, 109, 108]⟩), (.string ⟨#[]⟩), (.slice none 0 0), (.slice (some ⟨219, 0, none⟩) 2 2)] 27 (0, 0), false) ::
  (.cells #[(.int .i64 2), (.string ⟨#[104, 116, 109, 108]⟩), (.string ⟨#[]⟩), (.slice none 0 0), (.slice (some ⟨219, 0, none⟩) 2 2)] 27 (0, 0), false) ::
  (.cells #[(.int .i64 2), (.string ⟨#[104, 101, 97, 100]⟩), (.string ⟨#[]⟩), (.slice none 0 0), (.slice none 0 0), (.int .i64 2), (.string ⟨#[98, 111, 100, 121]⟩), (.string ⟨#[]⟩), (.slice none 0 0), (.slice (some ⟨215, 0, none⟩) 1 1)] 27 (0, 0), false) ::
  (.cells #[(.int .i64 2), (.string ⟨#[98, 111, 100, 121]⟩), (.string ⟨#[]⟩), (.slice none 0 0), (.slice (some ⟨215, 0, none⟩) 1 1)] 27 (0, 0), false) ::
  (.cells #[(.int .i64 2), (.string ⟨#[104, 101, 97, 100]⟩), (.string ⟨#[]⟩), (.slice none 0 0), (.slice none 0 0)] 27 (0, 0), false) ::
  (.cells #[(.int .i64 1), (.string ⟨#[]⟩), (.string ⟨#[]⟩), (.slice none 0 0), (.slice (some ⟨221, 0, none⟩) 1 1)] 27 (0, 0), false) ::
  (.cells #[(.int .i64 2), (.string ⟨#[112]⟩), (.string ⟨#[]⟩), (.slice none 0 0), (.slice (some ⟨210, 0, none⟩) 1 1)] 27 (0, 0), false) ::
  (.cells #[(.int .i64 2), (.string ⟨#[100, 108]⟩), (.string ⟨#[]⟩), (.slice none 0 0), (.slice (some ⟨213, 0, none⟩) 1 1)] 27 (0, 0), false) ::
  (.cells #[(.int .i64 2), (.string ⟨#[100, 116]⟩), (.string ⟨#[]⟩), (.slice none 0 0), (.slice none 0 0)] 27 (0, 0), false) ::
  (.cells #[(.int .i64 2), (.string ⟨#[100, 116]⟩), (.string ⟨#[]⟩), (.slice none 0 0), (.slice none 0 0)] 27 (0, 0), false) ::
  (.cells #[(.int .i64 2), (.string ⟨#[112]⟩), (.string ⟨#[]⟩), (.slice none 0 0), (.slice (some ⟨210, 0, none⟩) 1 1)] 27 (0, 0), false) ::
  (.cells #[(.int .i64 2), (.string ⟨#[112, 114, 101]⟩), (.string ⟨#[]⟩), (.slice none 0 0), (.slice none 0 0)] 27 (0, 0), false) ::
  (.cells #[(.int .i64 2), (.string ⟨#[112, 114, 101]⟩), (.string ⟨#[]⟩), (.slice none 0 0), (.slice none 0 0)] 27 (0, 0), false) ::
  (.cells #[(.int .i64 2), (.string ⟨#[100, 108]⟩), (.string ⟨#[]⟩), (.slice none 0 0), (.slice (some ⟨213, 0, none⟩) 1 1)] 27 (0, 0), false) ::
  (.cells #[(.int .i64 2), (.string ⟨#[112]⟩), (.string ⟨#[]⟩), (.slice none 0 0), (.slice (some ⟨210, 0, none⟩) 1 1)] 27 (0, 0), false) ::
  nl17
def na18 : List Value := [(.agg #[(.int .i64 1), (.string ⟨#[]⟩), (.string ⟨#[]⟩), (.slice none 0 0), (.slice (some ⟨221, 0, none⟩) 1 1)])]
def nl19 : List (Obj × Bool) := (.cells #[(.int .i64 2), (.string ⟨#[104, 116, 109, 108]⟩), (.string ⟨#[]⟩), (.slice none 0 0), (.slice (some ⟨226, 0, none⟩) 2 2)] 27 (0, 0), false) ::
  (.cells #[(.int .i64 2), (.string ⟨#[104, 116, 109, 108]⟩), (.string ⟨#[]⟩), (.slice none 0 0), (.slice (some ⟨226, 0, none⟩) 2 2)] 27 (0, 0), false) ::
  (.cells #[(.int .i64 2), (.string ⟨#[104, 101, 97, 100]⟩), (.string ⟨#[]⟩), (.slice none 0 0), (.slice none 0 0), (.int .i64 2), (.string ⟨#[98, 111, 100, 121]⟩), (.string ⟨#[]⟩), (.slice none 0 0), (.slice (some ⟨222, 0, none⟩) 1 1)] 27 (0, 0), false) ::
  (.cells #[(.int .i64 2), (.string ⟨#[98, 111, 100, 121]⟩), (.string ⟨#[]⟩), (.slice none 0 0), (.slice (some ⟨222, 0, none⟩) 1 1)] 27 (0, 0), false) ::
  (.cells #[(.int .i64 2), (.string ⟨#[104, 101, 97, 100]⟩), (.string ⟨#[]⟩), (.slice none 0 0), (.slice none 0 0)] 27 (0, 0), false) ::
  (.cells #[(.int .i64 1), (.string ⟨#[]⟩), (.string ⟨#[]⟩), (.slice none 0 0), (.slice (some ⟨228, 0, none⟩) 1 1)] 27 (0, 0), false) ::
  (.cells #[(.int .i64 2), (.string ⟨#[100, 108]⟩), (.string ⟨#[]⟩), (.slice none 0 0), (.slice (some ⟨213, 0, none⟩) 1 1)] 27 (0, 0), false) ::
  nl18
def na19 : List Value := [(.agg #[(.int .i64 1), (.string ⟨#[]⟩), (.string ⟨#[]⟩), (.slice none 0 0), (.slice (some ⟨228, 0, none⟩) 1 1)])]
def nl20 : List (Obj × Bool) := (.cells #[(.int .i64 2), (.string ⟨#[104, 116, 109, 108]⟩), (.string ⟨#[]⟩), (.slice none 0 0), (.slice (some ⟨238, 0, none⟩) 2 2)] 27 (0, 0), false) ::
  (.cells #[(.int .i64 2), (.string ⟨#[104, 116, 109, 108]⟩), (.string ⟨#[]⟩), (.slice none 0 0), (.slice (some ⟨238, 0, none⟩) 2 2)] 27 (0, 0), false) ::
  (.cells #[(.int .i64 2), (.string ⟨#[104, 101, 97, 100]⟩), (.string ⟨#[]⟩), (.slice none 0 0), (.slice none 0 0), (.int .i64 2), (.string ⟨#[98, 111, 100, 121]⟩), (.string ⟨#[]⟩), (.slice none 0 0), (.slice (some ⟨234, 0, none⟩) 1 1)] 27 (0, 0), false) ::
  (.cells #[(.int .i64 2), (.string ⟨#[98, 111, 100, 121]⟩), (.string ⟨#[]⟩), (.slice none 0 0), (.slice (some ⟨234, 0, none⟩) 1 1)] 27 (0, 0), false) ::
  (.cells #[(.int .i64 2), (.string ⟨#[104, 101, 97, 100]⟩), (.string ⟨#[]⟩), (.slice none 0 0), (.slice none 0 0)] 27 (0, 0), false) ::
  (.cells #[(.int .i64 1), (.string ⟨#[]⟩), (.string ⟨#[]⟩), (.slice none 0 0), (.slice (some ⟨240, 0, none⟩) 1 1)] 27 (0, 0), false) ::
  (.cells #[(.int .i64 2), (.string ⟨#[112]⟩), (.string ⟨#[]⟩), (.slice none 0 0), (.slice (some ⟨232, 0, none⟩) 1 1)] 27 (0, 0), false) ::
  (.cells #[(.int .i64 2), (.string ⟨#[112]⟩), (.string ⟨#[]⟩), (.slice none 0 0), (.slice (some ⟨232, 0, none⟩) 1 1)] 27 (0, 0), false) ::
  (.cells #[(.int .i64 2), (.string ⟨#[115, 112, 97, 110]⟩), (.string ⟨#[]⟩), (.slice none 0 0), (.slice (some ⟨230, 0, none⟩) 1 1)] 27 (0, 0), false) ::
  (.cells #[(.int .i64 2), (.string ⟨#[115, 112, 97, 110]⟩), (.string ⟨#[]⟩), (.slice none 0 0), (.slice (some ⟨230, 0, none⟩) 1 1)] 27 (0, 0), false) ::
  (.cells #[(.int .i64 2), (.string ⟨#[112, 114, 101]⟩), (.string ⟨#[]⟩), (.slice none 0 0), (.slice none 0 0)] 27 (0, 0), false) ::
  (.cells #[(.int .i64 2), (.string ⟨#[112, 114, 101]⟩), (.string ⟨#[]⟩), (.slice none 0 0), (.slice none 0 0)] 27 (0, 0), false) ::
  nl19
def na20 : List Value := [(.agg #[(.int .i64 1), (.string ⟨#[]⟩), (.string ⟨#[]⟩), (.slice none 0 0), (.slice (some ⟨240, 0, none⟩) 1 1)])]
def nl21 : List (Obj × Bool) := (.cells #[(.int .i64 2), (.string ⟨#[104, 116, 109, 108]⟩), (.string ⟨#[]⟩), (.slice none 0 0), (.slice (some ⟨253, 0, none⟩) 2 2)] 27 (0, 0), false) ::
  (.cells #[(.int .i64 2), (.string ⟨#[104, 116, 109, 108]⟩), (.string ⟨#[]⟩), (.slice none 0 0), (.slice (some ⟨253, 0, none⟩) 2 2)] 27 (0, 0), false) ::
  (.cells #[(.int .i64 2), (.string ⟨#[104, 101, 97, 100]⟩), (.string ⟨#[]⟩), (.slice none 0 0), (.slice none 0 0), (.int .i64 2), (.string ⟨#[98, 111, 100, 121]⟩), (.string ⟨#[]⟩), (.slice none 0 0), (.slice (some ⟨249, 0, none⟩) 1 1)] 27 (0, 0), false) ::
  (.cells #[(.int .i64 2), (.string ⟨#[98, 111, 100, 121]⟩), (.string ⟨#[]⟩), (.slice none 0 0), (.slice (some ⟨249, 0, none⟩) 1 1)] 27 (0, 0), false) ::
  (.cells #[(.int .i64 2), (.string ⟨#[104, 101, 97, 100]⟩), (.string ⟨#[]⟩), (.slice none 0 0), (.slice none 0 0)] 27 (0, 0), false) ::
  (.cells #[(.int .i64 1), (.string ⟨#[]⟩), (.string ⟨#[]⟩), (.slice none 0 0), (.slice (some ⟨255, 0, none⟩) 1 1)] 27 (0, 0), false) ::
  (.cells #[(.int .i64 2), (.string ⟨#[104, 49]⟩), (.string ⟨#[]⟩), (.slice none 0 0), (.slice (some ⟨244, 0, none⟩) 1 1)] 27 (0, 0), false) ::
  (.cells #[(.int .i64 2), (.string ⟨#[100, 108]⟩), (.string ⟨#[]⟩), (.slice none 0 0), (.slice (some ⟨247, 0, none⟩) 1 1)] 27 (0, 0), false) ::
  (.cells #[(.int .i64 2), (.string ⟨#[100, 100]⟩), (.string ⟨#[]⟩), (.slice none 0 0), (.slice none 0 0)] 27 (0, 0), false) ::
  (.cells #[(.int .i64 2), (.string ⟨#[100, 100]⟩), (.string ⟨#[]⟩), (.slice none 0 0), (.slice none 0 0)] 27 (0, 0), false) ::
  (.cells #[(.int .i64 2), (.string ⟨#[104, 49]⟩), (.string ⟨#[]⟩), (.slice none 0 0), (.slice (some ⟨244, 0, none⟩) 1 1)] 27 (0, 0), false) ::
  (.cells #[(.int .i64 2), (.string ⟨#[104, 50]⟩), (.string ⟨#[]⟩), (.slice none 0 0), (.slice none 0 0)] 27 (0, 0), false) ::
  (.cells #[(.int .i64 2), (.string ⟨#[104, 50]⟩), (.string ⟨#[]⟩), (.slice none 0 0), (.slice none 0 0)] 27 (0, 0), false) ::
  (.cells #[(.int .i64 2), (.string ⟨#[100, 108]⟩), (.string ⟨#[]⟩), (.slice none 0 0), (.slice (some ⟨247, 0, none⟩) 1 1)] 27 (0, 0), false) ::
  (.cells #[(.int .i64 2), (.string ⟨#[104, 49]⟩), (.string ⟨#[]⟩), (.slice none 0 0), (.slice (some ⟨244, 0, none⟩) 1 1)] 27 (0, 0), false) ::
  nl20
def na21 : List Value := [(.agg #[(.int .i64 1), (.string ⟨#[]⟩), (.string ⟨#[]⟩), (.slice none 0 0), (.slice (some ⟨255, 0, none⟩) 1 1)])]
def nl22 : List (Obj × Bool) := (.cells #[(.int .i64 2), (.string ⟨#[104, 116, 109, 108]⟩), (.string ⟨#[]⟩), (.slice none 0 0), (.slice (some ⟨260, 0, none⟩) 2 2)] 27 (0, 0), false) ::
  (.cells #[(.int .i64 2), (.string ⟨#[104, 116, 109, 108]⟩), (.string ⟨#[]⟩), (.slice none 0 0), (.slice (some ⟨260, 0, none⟩) 2 2)] 27 (0, 0), false) ::
  (.cells #[(.int .i64 2), (.string ⟨#[104, 101, 97, 100]⟩), (.string ⟨#[]⟩), (.slice none 0 0), (.slice none 0 0), (.int .i64 2), (.string ⟨#[98, 111, 100, 121]⟩), (.string ⟨#[]⟩), (.slice none 0 0), (.slice (some ⟨256, 0, none⟩) 1 1)] 27 (0, 0), false) ::
  (.cells #[(.int .i64 2), (.string ⟨#[98, 111, 100, 121]⟩), (.string ⟨#[]⟩), (.slice none 0 0), (.slice (some ⟨256, 0, none⟩) 1 1)] 27 (0, 0), false) ::
  (.cells #[(.int .i64 2), (.string ⟨#[104, 101, 97, 100]⟩), (.string ⟨#[]⟩), (.slice none 0 0), (.slice none 0 0)] 27 (0, 0), false) ::
  (.cells #[(.int .i64 1), (.string ⟨#[]⟩), (.string ⟨#[]⟩), (.slice none 0 0), (.slice (some ⟨262, 0, none⟩) 1 1)] 27 (0, 0), false) ::
  (.cells #[(.int .i64 2), (.string ⟨#[100, 108]⟩), (.string ⟨#[]⟩), (.slice none 0 0), (.slice (some ⟨247, 0, none⟩) 1 1)] 27 (0, 0), false) ::
  nl21
def na22 : List Value := [(.agg #[(.int .i64 1), (.string ⟨#[]⟩), (.string ⟨#[]⟩), (.slice none 0 0), (.slice (some ⟨262, 0, none⟩) 1 1)])]
def nl23 : List (Obj × Bool) := (.cells #[(.int .i64 2), (.string ⟨#[104, 116, 109, 108]⟩), (.string ⟨#[]⟩), (.slice none 0 0), (.slice (some ⟨272, 0, none⟩) 2 2)] 27 (0, 0), false) ::
  (.cells #[(.int .i64 2), (.string ⟨#[104, 116, 109, 108]⟩), (.string ⟨#[]⟩), (.slice none 0 0), (.slice (some ⟨272, 0, none⟩) 2 2)] 27 (0, 0), false) ::
  (.cells #[(.int .i64 2), (.string ⟨#[104, 101, 97, 100]⟩), (.string ⟨#[]⟩), (.slice none 0 0), (.slice none 0 0), (.int .i64 2), (.string ⟨#[98, 111, 100, 121]⟩), (.string ⟨#[]⟩), (.slice none 0 0), (.slice (some ⟨268, 0, none⟩) 1 1)] 27 (0, 0), false) ::
  (.cells #[(.int .i64 2), (.string ⟨#[98, 111, 100, 121]⟩), (.string ⟨#[]⟩), (.slice none 0 0), (.slice (some ⟨268, 0, none⟩) 1 1)] 27 (0, 0), false) ::
  (.cells #[(.int .i64 2), (.string ⟨#[104, 101, 97, 100]⟩), (.string ⟨#[]⟩), (.slice none 0 0), (.slice none 0 0)] 27 (0, 0), false) ::
  (.cells #[(.int .i64 1), (.string ⟨#[]⟩), (.string ⟨#[]⟩), (.slice none 0 0), (.slice (some ⟨274, 0, none⟩) 1 1)] 27 (0, 0), false) ::
  (.cells #[(.int .i64 2), (.string ⟨#[104, 49]⟩), (.string ⟨#[]⟩), (.slice none 0 0), (.slice (some ⟨266, 0, none⟩) 1 1)] 27 (0, 0), false) ::
  (.cells #[(.int .i64 2), (.string ⟨#[104, 49]⟩), (.string ⟨#[]⟩), (.slice none 0 0), (.slice (some ⟨266, 0, none⟩) 1 1)] 27 (0, 0), false) ::
  (.cells #[(.int .i64 2), (.string ⟨#[115, 112, 97, 110]⟩), (.string ⟨#[]⟩), (.slice none 0 0), (.slice (some ⟨264, 0, none⟩) 1 1)] 27 (0, 0), false) ::
  (.cells #[(.int .i64 2), (.string ⟨#[115, 112, 97, 110]⟩), (.string ⟨#[]⟩), (.slice none 0 0), (.slice (some ⟨264, 0, none⟩) 1 1)] 27 (0, 0), false) ::
  (.cells #[(.int .i64 2), (.string ⟨#[104, 50]⟩), (.string ⟨#[]⟩), (.slice none 0 0), (.slice none 0 0)] 27 (0, 0), false) ::
  (.cells #[(.int .i64 2), (.string ⟨#[104, 50]⟩), (.string ⟨#[]⟩), (.slice none 0 0), (.slice none 0 0)] 27 (0, 0), false) ::
  nl22
def na23 : List Value := [(.agg #[(.int .i64 1), (.string ⟨#[]⟩), (.string ⟨#[]⟩), (.slice none 0 0), (.slice (some ⟨274, 0, none⟩) 1 1)])]
def nl24 : List (Obj × Bool) := (.cells #[(.int .i64 2), (.string ⟨#[104, 116, 109, 108]⟩), (.string ⟨#[]⟩), (.slice none 0 0), (.slice (some ⟨287, 0, none⟩) 2 2)] 27 (0, 0), false) ::
  (.cells #[(.int .i64 2), (.string ⟨#[104, 116, 109, 108]⟩), (.string ⟨#[]⟩), (.slice none 0 0), (.slice (some ⟨287, 0, none⟩) 2 2)] 27 (0, 0), false) ::
  (.cells #[(.int .i64 2), (.string ⟨#[104, 101, 97, 100]⟩), (.string ⟨#[]⟩), (.slice none 0 0), (.slice none 0 0), (.int .i64 2), (.string ⟨#[98, 111, 100, 121]⟩), (.string ⟨#[]⟩), (.slice none 0 0), (.slice (some ⟨283, 0, none⟩) 1 1)] 27 (0, 0), false) ::
  (.cells #[(.int .i64 2), (.string ⟨#[98, 111, 100, 121]⟩), (.string ⟨#[]⟩), (.slice none 0 0), (.slice (some ⟨283, 0, none⟩) 1 1)] 27 (0, 0), false) ::
  (.cells #[(.int .i64 2), (.string ⟨#[104, 101, 97, 100]⟩), (.string ⟨#[]⟩), (.slice none 0 0), (.slice none 0 0)] 27 (0, 0), false) ::
  (.cells #[(.int .i64 1), (.string ⟨#[]⟩), (.string ⟨#[]⟩), (.slice none 0 0), (.slice (some ⟨289, 0, none⟩) 1 1)] 27 (0, 0), false) ::
  (.cells #[(.int .i64 2), (.string ⟨#[104, 51]⟩), (.string ⟨#[]⟩), (.slice none 0 0), (.slice (some ⟨278, 0, none⟩) 1 1)] 27 (0, 0), false) ::
  (.cells #[(.int .i64 2), (.string ⟨#[104, 49]⟩), (.string ⟨#[]⟩), (.slice none 0 0), (.slice (some ⟨281, 0, none⟩) 1 1)] 27 (0, 0), false) ::
  (.cells #[(.int .i64 2), (.string ⟨#[98]⟩), (.string ⟨#[]⟩), (.slice none 0 0), (.slice none 0 0)] 27 (0, 0), false) ::
  (.cells #[(.int .i64 2), (.string ⟨#[98]⟩), (.string ⟨#[]⟩), (.slice none 0 0), (.slice none 0 0)] 27 (0, 0), false) ::
  (.cells #[(.int .i64 2), (.string ⟨#[104, 51]⟩), (.string ⟨#[]⟩), (.slice none 0 0), (.slice (some ⟨278, 0, none⟩) 1 1)] 27 (0, 0), false) ::
  (.cells #[(.int .i64 2), (.string ⟨#[104, 51]⟩), (.string ⟨#[]⟩), (.slice none 0 0), (.slice none 0 0)] 27 (0, 0), false) ::
  (.cells #[(.int .i64 2), (.string ⟨#[104, 51]⟩), (.string ⟨#[]⟩), (.slice none 0 0), (.slice none 0 0)] 27 (0, 0), false) ::
  (.cells #[(.int .i64 2), (.string ⟨#[104, 49]⟩), (.string ⟨#[]⟩), (.slice none 0 0), (.slice (some ⟨281, 0, none⟩) 1 1)] 27 (0, 0), false) ::
  (.cells #[(.int .i64 2), (.string ⟨#[104, 51]⟩), (.string ⟨#[]⟩), (.slice none 0 0), (.slice (some ⟨278, 0, none⟩) 1 1)] 27 (0, 0), false) ::
  nl23
def na24 : List Value := [(.agg #[(.int .i64 1), (.string ⟨#[]⟩), (.string ⟨#[]⟩), (.slice none 0 0), (.slice (some ⟨289, 0, none⟩) 1 1)])]
def nl25 : List (Obj × Bool) := (.cells #[(.int .i64 2), (.string ⟨#[104, 116, 109, 108]⟩), (.string ⟨#[]⟩), (.slice none 0 0), (.slice (some ⟨294, 0, none⟩) 2 2)] 27 (0, 0), false) ::
  (.cells #[(.int .i64 2), (.string ⟨#[104, 116, 109, 108]⟩), (.string ⟨#[]⟩), (.slice none 0 0), (.slice (some ⟨294, 0, none⟩) 2 2)] 27 (0, 0), false) ::
  (.cells #[(.int .i64 2), (.string ⟨#[104, 101, 97, 100]⟩), (.string ⟨#[]⟩), (.slice none 0 0), (.slice none 0 0), (.int .i64 2), (.string ⟨#[98, 111, 100, 121]⟩), (.string ⟨#[]⟩), (.slice none 0 0), (.slice (some ⟨290, 0, none⟩) 1 1)] 27 (0, 0), false) ::
  (.cells #[(.int .i64 2), (.string ⟨#[98, 111, 100, 121]⟩), (.string ⟨#[]⟩), (.slice none 0 0), (.slice (some ⟨290, 0, none⟩) 1 1)] 27 (0, 0), false) ::
  (.cells #[(.int .i64 2), (.string ⟨#[104, 101, 97, 100]⟩), (.string ⟨#[]⟩), (.slice none 0 0), (.slice none 0 0)] 27 (0, 0), false) ::
  (.cells #[(.int .i64 1), (.string ⟨#[]⟩), (.string ⟨#[]⟩), (.slice none 0 0), (.slice (some ⟨296, 0, none⟩) 1 1)] 27 (0, 0), false) ::
  (.cells #[(.int .i64 2), (.string ⟨#[104, 49]⟩), (.string ⟨#[]⟩), (.slice none 0 0), (.slice (some ⟨281, 0, none⟩) 1 1)] 27 (0, 0), false) ::
  nl24
def na25 : List Value := [(.agg #[(.int .i64 1), (.string ⟨#[]⟩), (.string ⟨#[]⟩), (.slice none 0 0), (.slice (some ⟨296, 0, none⟩) 1 1)])]
def nl26 : List (Obj × Bool) := (.cells #[(.int .i64 2), (.string ⟨#[104, 116, 109, 108]⟩), (.string ⟨#[]⟩), (.slice none 0 0), (.slice (some ⟨306, 0, none⟩) 2 2)] 27 (0, 0), false) ::
  (.cells #[(.int .i64 2), (.string ⟨#[104, 116, 109, 108]⟩), (.string ⟨#[]⟩), (.slice none 0 0), (.slice (some ⟨306, 0, none⟩) 2 2)] 27 (0, 0), false) ::
  (.cells #[(.int .i64 2), (.string ⟨#[104, 101, 97, 100]⟩), (.string ⟨#[]⟩), (.slice none 0 0), (.slice none 0 0), (.int .i64 2), (.string ⟨#[98, 111, 100, 121]⟩), (.string ⟨#[]⟩), (.slice none 0 0), (.slice (some ⟨302, 0, none⟩) 1 1)] 27 (0, 0), false) ::
  (.cells #[(.int .i64 2), (.string ⟨#[98, 111, 100, 121]⟩), (.string ⟨#[]⟩), (.slice none 0 0), (.slice (some ⟨302, 0, none⟩) 1 1)] 27 (0, 0), false) ::
  (.cells #[(.int .i64 2), (.string ⟨#[104, 101, 97, 100]⟩), (.string ⟨#[]⟩), (.slice none 0 0), (.slice none 0 0)] 27 (0, 0), false) ::
  (.cells #[(.int .i64 1), (.string ⟨#[]⟩), (.string ⟨#[]⟩), (.slice none 0 0), (.slice (some ⟨308, 0, none⟩) 1 1)] 27 (0, 0), false) ::
  (.cells #[(.int .i64 2), (.string ⟨#[104, 51]⟩), (.string ⟨#[]⟩), (.slice none 0 0), (.slice (some ⟨300, 0, none⟩) 1 1)] 27 (0, 0), false) ::
  (.cells #[(.int .i64 2), (.string ⟨#[104, 51]⟩), (.string ⟨#[]⟩), (.slice none 0 0), (.slice (some ⟨300, 0, none⟩) 1 1)] 27 (0, 0), false) ::
  (.cells #[(.int .i64 2), (.string ⟨#[115, 112, 97, 110]⟩), (.string ⟨#[]⟩), (.slice none 0 0), (.slice (some ⟨298, 0, none⟩) 1 1)] 27 (0, 0), false) ::
  (.cells #[(.int .i64 2), (.string ⟨#[115, 112, 97, 110]⟩), (.string ⟨#[]⟩), (.slice none 0 0), (.slice (some ⟨298, 0, none⟩) 1 1)] 27 (0, 0), false) ::
  (.cells #[(.int .i64 2), (.string ⟨#[104, 51]⟩), (.string ⟨#[]⟩), (.slice none 0 0), (.slice none 0 0)] 27 (0, 0), false) ::
  (.cells #[(.int .i64 2), (.string ⟨#[104, 51]⟩), (.string ⟨#[]⟩), (.slice none 0 0), (.slice none 0 0)] 27 (0, 0), false) ::
  nl25
def na26 : List Value := [(.agg #[(.int .i64 1), (.string ⟨#[]⟩), (.string ⟨#[]⟩), (.slice none 0 0), (.slice (some ⟨308, 0, none⟩) 1 1)])]
def nl27 : List (Obj × Bool) := (.cells #[(.int .i64 2), (.string ⟨#[104, 116, 109, 108]⟩), (.string ⟨#[]⟩), (.slice none 0 0), (.slice (some ⟨321, 0, none⟩) 2 2)] 27 (0, 0), false) ::
  (.cells #[(.int .i64 2), (.string ⟨#[104, 116, 109, 108]⟩), (.string ⟨#[]⟩), (.slice none 0 0), (.slice (some ⟨321, 0, none⟩) 2 2)] 27 (0, 0), false) ::
  (.cells #[(.int .i64 2), (.string ⟨#[104, 101, 97, 100]⟩), (.string ⟨#[]⟩), (.slice none 0 0), (.slice none 0 0), (.int .i64 2), (.string ⟨#[98, 111, 100, 121]⟩), (.string ⟨#[]⟩), (.slice none 0 0), (.slice (some ⟨317, 0, none⟩) 1 1)] 27 (0, 0), false) ::
  (.cells #[(.int .i64 2), (.string ⟨#[98, 111, 100, 121]⟩), (.string ⟨#[]⟩), (.slice none 0 0), (.slice (some ⟨317, 0, none⟩) 1 1)] 27 (0, 0), false) ::
  (.cells #[(.int .i64 2), (.string ⟨#[104, 101, 97, 100]⟩), (.string ⟨#[]⟩), (.slice none 0 0), (.slice none 0 0)] 27 (0, 0), false) ::
  (.cells #[(.int .i64 1), (.string ⟨#[]⟩), (.string ⟨#[]⟩), (.slice none 0 0), (.slice (some ⟨323, 0, none⟩) 1 1)] 27 (0, 0), false) ::
  (.cells #[(.int .i64 2), (.string ⟨#[97]⟩), (.string ⟨#[]⟩), (.slice none 0 0), (.slice (some ⟨312, 0, none⟩) 1 1)] 27 (0, 0), false) ::
  (.cells #[(.int .i64 2), (.string ⟨#[100, 105, 118]⟩), (.string ⟨#[]⟩), (.slice none 0 0), (.slice (some ⟨315, 0, none⟩) 1 1)] 27 (0, 0), false) ::
  (.cells #[(.int .i64 2), (.string ⟨#[104, 49]⟩), (.string ⟨#[]⟩), (.slice none 0 0), (.slice none 0 0)] 27 (0, 0), false) ::
  (.cells #[(.int .i64 2), (.string ⟨#[104, 49]⟩), (.string ⟨#[]⟩), (.slice none 0 0), (.slice none 0 0)] 27 (0, 0), false) ::
  (.cells #[(.int .i64 2), (.string ⟨#[97]⟩), (.string ⟨#[]⟩), (.slice none 0 0), (.slice (some ⟨312, 0, none⟩) 1 1)] 27 (0, 0), false) ::
  (.cells #[(.int .i64 2), (.string ⟨#[97]⟩), (.string ⟨#[]⟩), (.slice none 0 0), (.slice none 0 0)] 27 (0, 0), false) ::
  (.cells #[(.int .i64 2), (.string ⟨#[97]⟩), (.string ⟨#[]⟩), (.slice none 0 0), (.slice none 0 0)] 27 (0, 0), false) ::
  (.cells #[(.int .i64 2), (.string ⟨#[100, 105, 118]⟩), (.string ⟨#[]⟩), (.slice none 0 0), (.slice (some ⟨315, 0, none⟩) 1 1)] 27 (0, 0), false) ::
  (.cells #[(.int .i64 2), (.string ⟨#[97]⟩), (.string ⟨#[]⟩), (.slice none 0 0), (.slice (some ⟨312, 0, none⟩) 1 1)] 27 (0, 0), false) ::
  nl26
def na27 : List Value := [(.agg #[(.int .i64 1), (.string ⟨#[]⟩), (.string ⟨#[]⟩), (.slice none 0 0), (.slice (some ⟨323, 0, none⟩) 1 1)])]
def nl28 : List (Obj × Bool) := (.cells #[(.int .i64 2), (.string ⟨#[104, 116, 109, 108]⟩), (.string ⟨#[]⟩), (.slice none 0 0), (.slice (some ⟨328, 0, none⟩) 2 2)] 27 (0, 0), false) ::
  (.cells #[(.int .i64 2), (.string ⟨#[104, 116, 109, 108]⟩), (.string ⟨#[]⟩), (.slice none 0 0), (.slice (some ⟨328, 0, none⟩) 2 2)] 27 (0, 0), false) ::
  (.cells #[(.int .i64 2), (.string ⟨#[104, 101, 97, 100]⟩), (.string ⟨#[]⟩), (.slice none 0 0), (.slice none 0 0), (.int .i64 2), (.string ⟨#[98, 111, 100, 121]⟩), (.string ⟨#[]⟩), (.slice none 0 0), (.slice (some ⟨324, 0, none⟩) 1 1)] 27 (0, 0), false) ::
  (.cells #[(.int .i64 2), (.string ⟨#[98, 111, 100, 121]⟩), (.string ⟨#[]⟩), (.slice none 0 0), (.slice (some ⟨324, 0, none⟩) 1 1)] 27 (0, 0), false) ::
  (.cells #[(.int .i64 2), (.string ⟨#[104, 101, 97, 100]⟩), (.string ⟨#[]⟩), (.slice none 0 0), (.slice none 0 0)] 27 (0, 0), false) ::
  (.cells #[(.int .i64 1), (.string ⟨#[]⟩), (.string ⟨#[]⟩), (.slice none 0 0), (.slice (some ⟨330, 0, none⟩) 1 1)] 27 (0, 0), false) ::
  (.cells #[(.int .i64 2), (.string ⟨#[100, 105, 118]⟩), (.string ⟨#[]⟩), (.slice none 0 0), (.slice (some ⟨315, 0, none⟩) 1 1)] 27 (0, 0), false) ::
  nl27
def na28 : List Value := [(.agg #[(.int .i64 1), (.string ⟨#[]⟩), (.string ⟨#[]⟩), (.slice none 0 0), (.slice (some ⟨330, 0, none⟩) 1 1)])]
def nl29 : List (Obj × Bool) := (.cells #[(.int .i64 2), (.string ⟨#[104, 116, 109, 108]⟩), (.string ⟨#[]⟩), (.slice none 0 0), (.slice (some ⟨340, 0, none⟩) 2 2)] 27 (0, 0), false) ::
  (.cells #[(.int .i64 2), (.string ⟨#[104, 116, 109, 108]⟩), (.string ⟨#[]⟩), (.slice none 0 0), (.slice (some ⟨340, 0, none⟩) 2 2)] 27 (0, 0), false) ::
  (.cells #[(.int .i64 2), (.string ⟨#[104, 101, 97, 100]⟩), (.string ⟨#[]⟩), (.slice none 0 0), (.slice none 0 0), (.int .i64 2), (.string ⟨#[98, 111, 100, 121]⟩), (.string ⟨#[]⟩), (.slice none 0 0), (.slice (some ⟨336, 0, none⟩) 1 1)] 27 (0, 0), false) ::
  (.cells #[(.int .i64 2), (.string ⟨#[98, 111, 100, 121]⟩), (.string ⟨#[]⟩), (.slice none 0 0), (.slice (some ⟨336, 0, none⟩) 1 1)] 27 (0, 0), false) ::
  (.cells #[(.int .i64 2), (.string ⟨#[104, 101, 97, 100]⟩), (.string ⟨#[]⟩), (.slice none 0 0), (.slice none 0 0)] 27 (0, 0), false) ::
  (.cells #[(.int .i64 1), (.string ⟨#[]⟩), (.string ⟨#[]⟩), (.slice none 0 0), (.slice (some ⟨342, 0, none⟩) 1 1)] 27 (0, 0), false) ::
  (.cells #[(.int .i64 2), (.string ⟨#[97]⟩), (.string ⟨#[]⟩), (.slice none 0 0), (.slice (some ⟨334, 0, none⟩) 1 1)] 27 (0, 0), false) ::
  (.cells #[(.int .i64 2), (.string ⟨#[97]⟩), (.string ⟨#[]⟩), (.slice none 0 0), (.slice (some ⟨334, 0, none⟩) 1 1)] 27 (0, 0), false) ::
  (.cells #[(.int .i64 2), (.string ⟨#[115, 112, 97, 110]⟩), (.string ⟨#[]⟩), (.slice none 0 0), (.slice (some ⟨332, 0, none⟩) 1 1)] 27 (0, 0), false) ::
  (.cells #[(.int .i64 2), (.string ⟨#[115, 112, 97, 110]⟩), (.string ⟨#[]⟩), (.slice none 0 0), (.slice (some ⟨332, 0, none⟩) 1 1)] 27 (0, 0), false) ::
  (.cells #[(.int .i64 2), (.string ⟨#[97]⟩), (.string ⟨#[]⟩), (.slice none 0 0), (.slice none 0 0)] 27 (0, 0), false) ::
  (.cells #[(.int .i64 2), (.string ⟨#[97]⟩), (.string ⟨#[]⟩), (.slice none 0 0), (.slice none 0 0)] 27 (0, 0), false) ::
  nl28
def na29 : List Value := [(.agg #[(.int .i64 1), (.string ⟨#[]⟩), (.string ⟨#[]⟩), (.slice none 0 0), (.slice (some ⟨342, 0, none⟩) 1 1)])]
def nl30 : List (Obj × Bool) := (.cells #[(.int .i64 2), (.string ⟨#[104, 116, 109, 108]⟩), (.string ⟨#[]⟩), (.slice none 0 0), (.slice (some ⟨355, 0, none⟩) 2 2)] 27 (0, 0), false) ::
  (.cells #[(.int .i64 2), (.string ⟨#[104, 116, 109, 108]⟩), (.string ⟨#[]⟩), (.slice none 0 0), (.slice (some ⟨355, 0, none⟩) 2 2)] 27 (0, 0), false) ::
  (.cells #[(.int .i64 2), (.string ⟨#[104, 101, 97, 100]⟩), (.string ⟨#[]⟩), (.slice none 0 0), (.slice none 0 0), (.int .i64 2), (.string ⟨#[98, 111, 100, 121]⟩), (.string ⟨#[]⟩), (.slice none 0 0), (.slice (some ⟨351, 0, none⟩) 1 1)] 27 (0, 0), false) ::
  (.cells #[(.int .i64 2), (.string ⟨#[98, 111, 100, 121]⟩), (.string ⟨#[]⟩), (.slice none 0 0), (.slice (some ⟨351, 0, none⟩) 1 1)] 27 (0, 0), false) ::
  (.cells #[(.int .i64 2), (.string ⟨#[104, 101, 97, 100]⟩), (.string ⟨#[]⟩), (.slice none 0 0), (.slice none 0 0)] 27 (0, 0), false) ::
  (.cells #[(.int .i64 1), (.string ⟨#[]⟩), (.string ⟨#[]⟩), (.slice none 0 0), (.slice (some ⟨357, 0, none⟩) 1 1)] 27 (0, 0), false) ::
  (.cells #[(.int .i64 2), (.string ⟨#[98, 117, 116, 116, 111, 110]⟩), (.string ⟨#[]⟩), (.slice none 0 0), (.slice (some ⟨346, 0, none⟩) 1 1)] 27 (0, 0), false) ::
  (.cells #[(.int .i64 2), (.string ⟨#[98, 117, 116, 116, 111, 110]⟩), (.string ⟨#[]⟩), (.slice none 0 0), (.slice (some ⟨349, 0, none⟩) 1 1)] 27 (0, 0), false) ::
  (.cells #[(.int .i64 2), (.string ⟨#[112]⟩), (.string ⟨#[]⟩), (.slice none 0 0), (.slice none 0 0)] 27 (0, 0), false) ::
  (.cells #[(.int .i64 2), (.string ⟨#[112]⟩), (.string ⟨#[]⟩), (.slice none 0 0), (.slice none 0 0)] 27 (0, 0), false) ::
  (.cells #[(.int .i64 2), (.string ⟨#[98, 117, 116, 116, 111, 110]⟩), (.string ⟨#[]⟩), (.slice none 0 0), (.slice (some ⟨346, 0, none⟩) 1 1)] 27 (0, 0), false) ::
  (.cells #[(.int .i64 2), (.string ⟨#[98, 117, 116, 116, 111, 110]⟩), (.string ⟨#[]⟩), (.slice none 0 0), (.slice none 0 0)] 27 (0, 0), false) ::
  (.cells #[(.int .i64 2), (.string ⟨#[98, 117, 116, 116, 111, 110]⟩), (.string ⟨#[]⟩), (.slice none 0 0), (.slice none 0 0)] 27 (0, 0), false) ::
  (.cells #[(.int .i64 2), (.string ⟨#[98, 117, 116, 116, 111, 110]⟩), (.string ⟨#[]⟩), (.slice none 0 0), (.slice (some ⟨349, 0, none⟩) 1 1)] 27 (0, 0), false) ::
  (.cells #[(.int .i64 2), (.string ⟨#[98, 117, 116, 116, 111, 110]⟩), (.string ⟨#[]⟩), (.slice none 0 0), (.slice (some ⟨346, 0, none⟩) 1 1)] 27 (0, 0), false) ::
  nl29
def na30 : List Value := [(.agg #[(.int .i64 1), (.string ⟨#[]⟩), (.string ⟨#[]⟩), (.slice none 0 0), (.slice (some ⟨357, 0, none⟩) 1 1)])]
def nl31 : List (Obj × Bool) := (.cells #[(.int .i64 2), (.string ⟨#[104, 116, 109, 108]⟩), (.string ⟨#[]⟩), (.slice none 0 0), (.slice (some ⟨362, 0, none⟩) 2 2)] 27 (0, 0), false) ::
  (.cells #[(.int .i64 2), (.string ⟨#[104, 116, 109, 108]⟩), (.string ⟨#[]⟩), (.slice none 0 0), (.slice (some ⟨362, 0, none⟩) 2 2)] 27 (0, 0), false) ::
  (.cells #[(.int .i64 2), (.string ⟨#[104, 101, 97, 100]⟩), (.string ⟨#[]⟩), (.slice none 0 0), (.slice none 0 0), (.int .i64 2), (.string ⟨#[98, 111, 100, 121]⟩), (.string ⟨#[]⟩), (.slice none 0 0), (.slice (some ⟨358, 0, none⟩) 1 1)] 27 (0, 0), false) ::
  (.cells #[(.int .i64 2), (.string ⟨#[98, 111, 100, 121]⟩), (.string ⟨#[]⟩), (.slice none 0 0), (.slice (some ⟨358, 0, none⟩) 1 1)] 27 (0, 0), false) ::
  (.cells #[(.int .i64 2), (.string ⟨#[104, 101, 97, 100]⟩), (.string ⟨#[]⟩), (.slice none 0 0), (.slice none 0 0)] 27 (0, 0), false) ::
  (.cells #[(.int .i64 1), (.string ⟨#[]⟩), (.string ⟨#[]⟩), (.slice none 0 0), (.slice (some ⟨364, 0, none⟩) 1 1)] 27 (0, 0), false) ::
  (.cells #[(.int .i64 2), (.string ⟨#[98, 117, 116, 116, 111, 110]⟩), (.string ⟨#[]⟩), (.slice none 0 0), (.slice (some ⟨349, 0, none⟩) 1 1)] 27 (0, 0), false) ::
  nl30
def na31 : List Value := [(.agg #[(.int .i64 1), (.string ⟨#[]⟩), (.string ⟨#[]⟩), (.slice none 0 0), (.slice (some ⟨364, 0, none⟩) 1 1)])]
def nl32 : List (Obj × Bool) := (.cells #[(.int .i64 2), (.string ⟨#[104, 116, 109, 108]⟩), (.string ⟨#[]⟩), (.slice none 0 0), (.slice (some ⟨374, 0, none⟩) 2 2)] 27 (0, 0), false) ::
  (.cells #[(.int .i64 2), (.string ⟨#[104, 116, 109, 108]⟩), (.string ⟨#[]⟩), (.slice none 0 0), (.slice (some ⟨374, 0, none⟩) 2 2)] 27 (0, 0), false) ::
  (.cells #[(.int .i64 2), (.string ⟨#[104, 101, 97, 100]⟩), (.string ⟨#[]⟩), (.slice none 0 0), (.slice none 0 0), (.int .i64 2), (.string ⟨#[98, 111, 100, 121]⟩), (.string ⟨#[]⟩), (.slice none 0 0), (.slice (some ⟨370, 0, none⟩) 1 1)] 27 (0, 0), false) ::
  (.cells #[(.int .i64 2), (.string ⟨#[98, 111, 100, 121]⟩), (.string ⟨#[]⟩), (.slice none 0 0), (.slice (some ⟨370, 0, none⟩) 1 1)] 27 (0, 0), false) ::
  (.cells #[(.int .i64 2), (.string ⟨#[104, 101, 97, 100]⟩), (.string ⟨#[]⟩), (.slice none 0 0), (.slice none 0 0)] 27 (0, 0), false) ::
  (.cells #[(.int .i64 1), (.string ⟨#[]⟩), (.string ⟨#[]⟩), (.slice none 0 0), (.slice (some ⟨376, 0, none⟩) 1 1)] 27 (0, 0), false) ::
  (.cells #[(.int .i64 2), (.string ⟨#[98, 117, 116, 116, 111, 110]⟩), (.string ⟨#[]⟩), (.slice none 0 0), (.slice (some ⟨368, 0, none⟩) 1 1)] 27 (0, 0), false) ::
  (.cells #[(.int .i64 2), (.string ⟨#[98, 117, 116, 116, 111, 110]⟩), (.string ⟨#[]⟩), (.slice none 0 0), (.slice (some ⟨368, 0, none⟩) 1 1)] 27 (0, 0), false) ::
  (.cells #[(.int .i64 2), (.string ⟨#[115, 112, 97, 110]⟩), (.string ⟨#[]⟩), (.slice none 0 0), (.slice (some ⟨366, 0, none⟩) 1 1)] 27 (0, 0), false) ::
  (.cells #[(.int .i64 2), (.string ⟨#[115, 112, 97, 110]⟩), (.string ⟨#[]⟩), (.slice none 0 0), (.slice (some ⟨366, 0, none⟩) 1 1)] 27 (0, 0), false) ::
  (.cells #[(.int .i64 2), (.string ⟨#[98, 117, 116, 116, 111, 110]⟩), (.string ⟨#[]⟩), (.slice none 0 0), (.slice none 0 0)] 27 (0, 0), false) ::
  (.cells #[(.int .i64 2), (.string ⟨#[98, 117, 116, 116, 111, 110]⟩), (.string ⟨#[]⟩), (.slice none 0 0), (.slice none 0 0)] 27 (0, 0), false) ::
  nl31
def na32 : List Value := [(.agg #[(.int .i64 1), (.string ⟨#[]⟩), (.string ⟨#[]⟩), (.slice none 0 0), (.slice (some ⟨376, 0, none⟩) 1 1)])]
def nl33 : List (Obj × Bool) := (.cells #[(.int .i64 2), (.string ⟨#[104, 116, 109, 108]⟩), (.string ⟨#[]⟩), (.slice none 0 0), (.slice (some ⟨389, 0, none⟩) 2 2)] 27 (0, 0), false) ::
  (.cells #[(.int .i64 2), (.string ⟨#[104, 116, 109, 108]⟩), (.string ⟨#[]⟩), (.slice none 0 0), (.slice (some ⟨389, 0, none⟩) 2 2)] 27 (0, 0), false) ::
  (.cells #[(.int .i64 2), (.string ⟨#[104, 101, 97, 100]⟩), (.string ⟨#[]⟩), (.slice none 0 0), (.slice none 0 0), (.int .i64 2), (.string ⟨#[98, 111, 100, 121]⟩), (.string ⟨#[]⟩), (.slice none 0 0), (.slice (some ⟨385, 0, none⟩) 1 1)] 27 (0, 0), false) ::
  (.cells #[(.int .i64 2), (.string ⟨#[98, 111, 100, 121]⟩), (.string ⟨#[]⟩), (.slice none 0 0), (.slice (some ⟨385, 0, none⟩) 1 1)] 27 (0, 0), false) ::
  (.cells #[(.int .i64 2), (.string ⟨#[104, 101, 97, 100]⟩), (.string ⟨#[]⟩), (.slice none 0 0), (.slice none 0 0)] 27 (0, 0), false) ::
  (.cells #[(.int .i64 1), (.string ⟨#[]⟩), (.string ⟨#[]⟩), (.slice none 0 0), (.slice (some ⟨391, 0, none⟩) 1 1)] 27 (0, 0), false) ::
  (.cells #[(.int .i64 2), (.string ⟨#[100, 105, 118]⟩), (.string ⟨#[]⟩), (.slice none 0 0), (.slice (some ⟨380, 0, none⟩) 1 1)] 27 (0, 0), false) ::
  (.cells #[(.int .i64 2), (.string ⟨#[115, 101, 99, 116, 105, 111, 110]⟩), (.string ⟨#[]⟩), (.slice none 0 0), (.slice (some ⟨383, 0, none⟩) 1 1)] 27 (0, 0), false) ::
  (.cells #[(.int .i64 2), (.string ⟨#[116, 97, 98, 108, 101]⟩), (.string ⟨#[]⟩), (.slice none 0 0), (.slice none 0 0)] 27 (0, 0), false) ::
  (.cells #[(.int .i64 2), (.string ⟨#[116, 97, 98, 108, 101]⟩), (.string ⟨#[]⟩), (.slice none 0 0), (.slice none 0 0)] 27 (0, 0), false) ::
  (.cells #[(.int .i64 2), (.string ⟨#[100, 105, 118]⟩), (.string ⟨#[]⟩), (.slice none 0 0), (.slice (some ⟨380, 0, none⟩) 1 1)] 27 (0, 0), false) ::
  (.cells #[(.int .i64 2), (.string ⟨#[108, 105]⟩), (.string ⟨#[]⟩), (.slice none 0 0), (.slice none 0 0)] 27 (0, 0), false) ::
  (.cells #[(.int .i64 2), (.string ⟨#[108, 105]⟩), (.string ⟨#[]⟩), (.slice none 0 0), (.slice none 0 0)] 27 (0, 0), false) ::
  (.cells #[(.int .i64 2), (.string ⟨#[115, 101, 99, 116, 105, 111, 110]⟩), (.string ⟨#[]⟩), (.slice none 0 0), (.slice (some ⟨383, 0, none⟩) 1 1)] 27 (0, 0), false) ::
  (.cells #[(.int .i64 2), (.string ⟨#[100, 105, 118]⟩), (.string ⟨#[]⟩), (.slice none 0 0), (.slice (some ⟨380, 0, none⟩) 1 1)] 27 (0, 0), false) ::
  nl32
def na33 : List Value := [(.agg #[(.int .i64 1), (.string ⟨#[]⟩), (.string ⟨#[]⟩), (.slice none 0 0), (.slice (some ⟨391, 0, none⟩) 1 1)])]
def nl34 : List (Obj × Bool) := (.cells #[(.int .i64 2), (.string ⟨#[104, 116, 109, 108]⟩), (.string ⟨#[]⟩), (.slice none 0 0), (.slice (some ⟨396, 0, none⟩) 2 2)] 27 (0, 0), false) ::
  (.cells #[(.int .i64 2), (.string ⟨#[104, 116, 109, 108]⟩), (.string ⟨#[]⟩), (.slice none 0 0), (.slice (some ⟨396, 0, none⟩) 2 2)] 27 (0, 0), false) ::
  (.cells #[(.int .i64 2), (.string ⟨#[104, 101, 97, 100]⟩), (.string ⟨#[]⟩), (.slice none 0 0), (.slice none 0 0), (.int .i64 2), (.string ⟨#[98, 111, 100, 121]⟩), (.string ⟨#[]⟩), (.slice none 0 0), (.slice (some ⟨392, 0, none⟩) 1 1)] 27 (0, 0), false) ::
  (.cells #[(.int .i64 2), (.string ⟨#[98, 111, 100, 121]⟩), (.string ⟨#[]⟩), (.slice none 0 0), (.slice (some ⟨392, 0, none⟩) 1 1)] 27 (0, 0), false) ::
  (.cells #[(.int .i64 2), (.string ⟨#[104, 101, 97, 100]⟩), (.string ⟨#[]⟩), (.slice none 0 0), (.slice none 0 0)] 27 (0, 0), false) ::
  (.cells #[(.int .i64 1), (.string ⟨#[]⟩), (.string ⟨#[]⟩), (.slice none 0 0), (.slice (some ⟨398, 0, none⟩) 1 1)] 27 (0, 0), false) ::
  (.cells #[(.int .i64 2), (.string ⟨#[115, 101, 99, 116, 105, 111, 110]⟩), (.string ⟨#[]⟩), (.slice none 0 0), (.slice (some ⟨383, 0, none⟩) 1 1)] 27 (0, 0), false) ::
  nl33
def na34 : List Value := [(.agg #[(.int .i64 1), (.string ⟨#[]⟩), (.string ⟨#[]⟩), (.slice none 0 0), (.slice (some ⟨398, 0, none⟩) 1 1)])]
def nl35 : List (Obj × Bool) := (.cells #[(.int .i64 2), (.string ⟨#[104, 116, 109, 108]⟩), (.string ⟨#[]⟩), (.slice none 0 0), (.slice (some ⟨411, 0, none⟩) 2 2)] 27 (0, 0), false) ::
  (.cells #[(.int .i64 2), (.string ⟨#[104, 116, 109, 108]⟩), (.string ⟨#[]⟩), (.slice none 0 0), (.slice (some ⟨411, 0, none⟩) 2 2)] 27 (0, 0), false) ::
  (.cells #[(.int .i64 2), (.string ⟨#[104, 101, 97, 100]⟩), (.string ⟨#[]⟩), (.slice none 0 0), (.slice none 0 0), (.int .i64 2), (.string ⟨#[98, 111, 100, 121]⟩), (.string ⟨#[]⟩), (.slice none 0 0), (.slice (some ⟨407, 0, none⟩) 1 1)] 27 (0, 0), false) ::
  (.cells #[(.int .i64 2), (.string ⟨#[98, 111, 100, 121]⟩), (.string ⟨#[]⟩), (.slice none 0 0), (.slice (some ⟨407, 0, none⟩) 1 1)] 27 (0, 0), false) ::
  (.cells #[(.int .i64 2), (.string ⟨#[104, 101, 97, 100]⟩), (.string ⟨#[]⟩), (.slice none 0 0), (.slice none 0 0)] 27 (0, 0), false) ::
  (.cells #[(.int .i64 1), (.string ⟨#[]⟩), (.string ⟨#[]⟩), (.slice none 0 0), (.slice (some ⟨413, 0, none⟩) 1 1)] 27 (0, 0), false) ::
  (.cells #[(.int .i64 2), (.string ⟨#[117, 108]⟩), (.string ⟨#[]⟩), (.slice none 0 0), (.slice (some ⟨402, 0, none⟩) 1 1)] 27 (0, 0), false) ::
  (.cells #[(.int .i64 2), (.string ⟨#[98]⟩), (.string ⟨#[]⟩), (.slice none 0 0), (.slice (some ⟨405, 0, none⟩) 1 1)] 27 (0, 0), false) ::
  (.cells #[(.int .i64 2), (.string ⟨#[98]⟩), (.string ⟨#[]⟩), (.slice none 0 0), (.slice none 0 0)] 27 (0, 0), false) ::
  (.cells #[(.int .i64 2), (.string ⟨#[98]⟩), (.string ⟨#[]⟩), (.slice none 0 0), (.slice none 0 0)] 27 (0, 0), false) ::
  (.cells #[(.int .i64 2), (.string ⟨#[117, 108]⟩), (.string ⟨#[]⟩), (.slice none 0 0), (.slice (some ⟨402, 0, none⟩) 1 1)] 27 (0, 0), false) ::
  (.cells #[(.int .i64 2), (.string ⟨#[100, 100]⟩), (.string ⟨#[]⟩), (.slice none 0 0), (.slice none 0 0)] 27 (0, 0), false) ::
  (.cells #[(.int .i64 2), (.string ⟨#[100, 100]⟩), (.string ⟨#[]⟩), (.slice none 0 0), (.slice none 0 0)] 27 (0, 0), false) ::
  (.cells #[(.int .i64 2), (.string ⟨#[98]⟩), (.string ⟨#[]⟩), (.slice none 0 0), (.slice (some ⟨405, 0, none⟩) 1 1)] 27 (0, 0), false) ::
  (.cells #[(.int .i64 2), (.string ⟨#[117, 108]⟩), (.string ⟨#[]⟩), (.slice none 0 0), (.slice (some ⟨402, 0, none⟩) 1 1)] 27 (0, 0), false) ::
  nl34
def na35 : List Value := [(.agg #[(.int .i64 1), (.string ⟨#[]⟩), (.string ⟨#[]⟩), (.slice none 0 0), (.slice (some ⟨413, 0, none⟩) 1 1)])]
def nl36 : List (Obj × Bool) := (.cells #[(.int .i64 2), (.string ⟨#[104, 116, 109, 108]⟩), (.string ⟨#[]⟩), (.slice none 0 0), (.slice (some ⟨418, 0, none⟩) 2 2)] 27 (0, 0), false) ::
  (.cells #[(.int .i64 2), (.string ⟨#[104, 116, 109, 108]⟩), (.string ⟨#[]⟩), (.slice none 0 0), (.slice (some ⟨418, 0, none⟩) 2 2)] 27 (0, 0), false) ::
  (.cells #[(.int .i64 2), (.string ⟨#[104, 101, 97, 100]⟩), (.string ⟨#[]⟩), (.slice none 0 0), (.slice none 0 0), (.int .i64 2), (.string ⟨#[98, 111, 100, 121]⟩), (.string ⟨#[]⟩), (.slice none 0 0), (.slice (some ⟨414, 0, none⟩) 1 1)] 27 (0, 0), false) ::
  (.cells #[(.int .i64 2), (.string ⟨#[98, 111, 100, 121]⟩), (.string ⟨#[]⟩), (.slice none 0 0), (.slice (some ⟨414, 0, none⟩) 1 1)] 27 (0, 0), false) ::
  (.cells #[(.int .i64 2), (.string ⟨#[104, 101, 97, 100]⟩), (.string ⟨#[]⟩), (.slice none 0 0), (.slice none 0 0)] 27 (0, 0), false) ::
  (.cells #[(.int .i64 1), (.string ⟨#[]⟩), (.string ⟨#[]⟩), (.slice none 0 0), (.slice (some ⟨420, 0, none⟩) 1 1)] 27 (0, 0), false) ::
  (.cells #[(.int .i64 2), (.string ⟨#[98]⟩), (.string ⟨#[]⟩), (.slice none 0 0), (.slice (some ⟨405, 0, none⟩) 1 1)] 27 (0, 0), false) ::
  nl35
def na36 : List Value := [(.agg #[(.int .i64 1), (.string ⟨#[]⟩), (.string ⟨#[]⟩), (.slice none 0 0), (.slice (some ⟨420, 0, none⟩) 1 1)])]
def nl37 : List (Obj × Bool) := (.cells #[(.int .i64 2), (.string ⟨#[104, 116, 109, 108]⟩), (.string ⟨#[]⟩), (.slice none 0 0), (.slice (some ⟨433, 0, none⟩) 2 2)] 27 (0, 0), false) ::
  (.cells #[(.int .i64 2), (.string ⟨#[104, 116, 109, 108]⟩), (.string ⟨#[]⟩), (.slice none 0 0), (.slice (some ⟨433, 0, none⟩) 2 2)] 27 (0, 0), false) ::
  (.cells #[(.int .i64 2), (.string ⟨#[104, 101, 97, 100]⟩), (.string ⟨#[]⟩), (.slice none 0 0), (.slice none 0 0), (.int .i64 2), (.string ⟨#[98, 111, 100, 121]⟩), (.string ⟨#[]⟩), (.slice none 0 0), (.slice (some ⟨429, 0, none⟩) 1 1)] 27 (0, 0), false) ::
  (.cells #[(.int .i64 2), (.string ⟨#[98, 111, 100, 121]⟩), (.string ⟨#[]⟩), (.slice none 0 0), (.slice (some ⟨429, 0, none⟩) 1 1)] 27 (0, 0), false) ::
  (.cells #[(.int .i64 2), (.string ⟨#[104, 101, 97, 100]⟩), (.string ⟨#[]⟩), (.slice none 0 0), (.slice none 0 0)] 27 (0, 0), false) ::
  (.cells #[(.int .i64 1), (.string ⟨#[]⟩), (.string ⟨#[]⟩), (.slice none 0 0), (.slice (some ⟨435, 0, none⟩) 1 1)] 27 (0, 0), false) ::
  (.cells #[(.int .i64 2), (.string ⟨#[100, 105, 118]⟩), (.string ⟨#[]⟩), (.slice none 0 0), (.slice (some ⟨424, 0, none⟩) 1 1)] 27 (0, 0), false) ::
  (.cells #[(.int .i64 2), (.string ⟨#[120, 45, 121]⟩), (.string ⟨#[]⟩), (.slice none 0 0), (.slice (some ⟨427, 0, none⟩) 1 1)] 27 (0, 0), false) ::
  (.cells #[(.int .i64 2), (.string ⟨#[104, 114]⟩), (.string ⟨#[]⟩), (.slice none 0 0), (.slice none 0 0)] 27 (0, 0), false) ::
  (.cells #[(.int .i64 2), (.string ⟨#[104, 114]⟩), (.string ⟨#[]⟩), (.slice none 0 0), (.slice none 0 0)] 27 (0, 0), false) ::
  (.cells #[(.int .i64 2), (.string ⟨#[100, 105, 118]⟩), (.string ⟨#[]⟩), (.slice none 0 0), (.slice (some ⟨424, 0, none⟩) 1 1)] 27 (0, 0), false) ::
  (.cells #[(.int .i64 2), (.string ⟨#[116, 100]⟩), (.string ⟨#[]⟩), (.slice none 0 0), (.slice none 0 0)] 27 (0, 0), false) ::
  (.cells #[(.int .i64 2), (.string ⟨#[116, 100]⟩), (.string ⟨#[]⟩), (.slice none 0 0), (.slice none 0 0)] 27 (0, 0), false) ::
  (.cells #[(.int .i64 2), (.string ⟨#[120, 45, 121]⟩), (.string ⟨#[]⟩), (.slice none 0 0), (.slice (some ⟨427, 0, none⟩) 1 1)] 27 (0, 0), false) ::
  (.cells #[(.int .i64 2), (.string ⟨#[100, 105, 118]⟩), (.string ⟨#[]⟩), (.slice none 0 0), (.slice (some ⟨424, 0, none⟩) 1 1)] 27 (0, 0), false) ::
  nl36
def na37 : List Value := [(.agg #[(.int .i64 1), (.string ⟨#[]⟩), (.string ⟨#[]⟩), (.slice none 0 0), (.slice (some ⟨435, 0, none⟩) 1 1)])]
def nl38 : List (Obj × Bool) := (.cells #[(.int .i64 2), (.string ⟨#[104, 116, 109, 108]⟩), (.string ⟨#[]⟩), (.slice none 0 0), (.slice (some ⟨440, 0, none⟩) 2 2)] 27 (0, 0), false) ::
  (.cells #[(.int .i64 2), (.string ⟨#[104, 116, 109, 108]⟩), (.string ⟨#[]⟩), (.slice none 0 0), (.slice (some ⟨440, 0, none⟩) 2 2)] 27 (0, 0), false) ::
  (.cells #[(.int .i64 2), (.string ⟨#[104, 101, 97, 100]⟩), (.string ⟨#[]⟩), (.slice none 0 0), (.slice none 0 0), (.int .i64 2), (.string ⟨#[98, 111, 100, 121]⟩), (.string ⟨#[]⟩), (.slice none 0 0), (.slice (some ⟨436, 0, none⟩) 1 1)] 27 (0, 0), false) ::
  (.cells #[(.int .i64 2), (.string ⟨#[98, 111, 100, 121]⟩), (.string ⟨#[]⟩), (.slice none 0 0), (.slice (some ⟨436, 0, none⟩) 1 1)] 27 (0, 0), false) ::
  (.cells #[(.int .i64 2), (.string ⟨#[104, 101, 97, 100]⟩), (.string ⟨#[]⟩), (.slice none 0 0), (.slice none 0 0)] 27 (0, 0), false) ::
  (.cells #[(.int .i64 1), (.string ⟨#[]⟩), (.string ⟨#[]⟩), (.slice none 0 0), (.slice (some ⟨442, 0, none⟩) 1 1)] 27 (0, 0), false) ::
  (.cells #[(.int .i64 2), (.string ⟨#[120, 45, 121]⟩), (.string ⟨#[]⟩), (.slice none 0 0), (.slice (some ⟨427, 0, none⟩) 1 1)] 27 (0, 0), false) ::
  nl37
def na38 : List Value := [(.agg #[(.int .i64 1), (.string ⟨#[]⟩), (.string ⟨#[]⟩), (.slice none 0 0), (.slice (some ⟨442, 0, none⟩) 1 1)])]
end Go.Proofs.YtoiibhjenckooaaDoor.Runs
