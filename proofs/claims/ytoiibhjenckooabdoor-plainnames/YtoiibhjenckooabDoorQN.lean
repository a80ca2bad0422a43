/- A run of PlainNames, reckoned by the kernel, cut at each call of Plain. -/
import Derived.Test.YtoiibhjenckooabDoorEvDr
import Derived.Test.YtoiibhjenckooabDoorRM
namespace Go.Proofs.YtoiibhjenckooabDoor.Runs
open Go.Ev (noOrc orcOr orcB orcC orcD orcE orcM callNow baseH deadH fitB fitE saysB dead)
def mlN : Ev.Memo := [(25, [([.string ⟨#[97]⟩], .bool true),
    ([.string ⟨#[97, 45, 98]⟩], .bool true)]),
  (28, [([.string ⟨#[104, 116, 109, 108]⟩], .bool true),
    ([.string ⟨#[104, 101, 97, 100]⟩], .bool true),
    ([.string ⟨#[98, 111, 100, 121]⟩], .bool true),
    ([.string ⟨#[102, 114, 97, 109, 101, 115, 101, 116]⟩], .bool true),
    ([.string ⟨#[102, 114, 97, 109, 101]⟩], .bool true),
    ([.string ⟨#[112, 108, 97, 105, 110, 116, 101, 120, 116]⟩], .bool true),
    ([.string ⟨#[105, 109, 97, 103, 101]⟩], .bool true),
    ([.string ⟨#[110, 111, 98, 114]⟩], .bool true),
    ([.string ⟨#[114, 112]⟩], .bool true),
    ([.string ⟨#[114, 116]⟩], .bool true),
    ([.string ⟨#[111, 112, 116, 105, 111, 110]⟩], .bool true),
    ([.string ⟨#[115, 101, 108, 101, 99, 116]⟩], .bool true),
    ([.string ⟨#[111, 98, 106, 101, 99, 116]⟩], .bool true),
    ([.string ⟨#[108, 105, 110, 107]⟩], .bool true),
    ([.string ⟨#[116, 105, 116, 108, 101]⟩], .bool true),
    ([.string ⟨#[120, 109, 112]⟩], .bool true),
    ([.string ⟨#[116, 114]⟩], .bool true),
    ([.string ⟨#[49, 97]⟩], .bool true),
    ([.string ⟨#[115, 112, 97, 110]⟩], .bool true),
    ([.string ⟨#[100, 105, 118]⟩], .bool true),
    ([.string ⟨#[112]⟩], .bool true),
    ([.string ⟨#[98]⟩], .bool true),
    ([.string ⟨#[98, 114]⟩], .bool true),
    ([.string ⟨#[105, 109, 103]⟩], .bool true),
    ([.string ⟨#[105, 102, 114, 97, 109, 101]⟩], .bool true),
    ([.string ⟨#[116, 101, 120, 116, 97, 114, 101, 97]⟩], .bool true),
    ([.string ⟨#[108, 105, 115, 116, 105, 110, 103]⟩], .bool true),
    ([.string ⟨#[109, 101, 110, 117]⟩], .bool true),
    ([.string ⟨#[120, 45, 121, 49]⟩], .bool true),
    ([.string ⟨#[115, 118, 103]⟩], .bool true),
    ([.string ⟨#[116, 97, 98, 108, 101]⟩], .bool true),
    ([.string ⟨#[98, 117, 116, 116, 111, 110]⟩], .bool true)]),
  (44, [([.string ⟨#[97]⟩, .bool false], .string ⟨#[97]⟩)]),
  (46, [([.string ⟨#[104, 116, 109, 108]⟩, .int .i64 1], .bool false),
    ([.string ⟨#[104, 101, 97, 100]⟩, .int .i64 1], .bool false),
    ([.string ⟨#[98, 111, 100, 121]⟩, .int .i64 1], .bool false),
    ([.string ⟨#[104, 116, 109, 108]⟩, .int .i64 5], .bool false),
    ([.string ⟨#[104, 101, 97, 100]⟩, .int .i64 5], .bool false),
    ([.string ⟨#[98, 111, 100, 121]⟩, .int .i64 5], .bool false),
    ([.string ⟨#[102, 114, 97, 109, 101, 115, 101, 116]⟩, .int .i64 1], .bool false),
    ([.string ⟨#[102, 114, 97, 109, 101]⟩, .int .i64 1], .bool false),
    ([.string ⟨#[112, 108, 97, 105, 110, 116, 101, 120, 116]⟩, .int .i64 1], .bool false),
    ([.string ⟨#[105, 109, 97, 103, 101]⟩, .int .i64 1], .bool false),
    ([.string ⟨#[110, 111, 98, 114]⟩, .int .i64 1], .bool false),
    ([.string ⟨#[114, 112]⟩, .int .i64 1], .bool false),
    ([.string ⟨#[114, 116]⟩, .int .i64 1], .bool false),
    ([.string ⟨#[111, 112, 116, 105, 111, 110]⟩, .int .i64 1], .bool false),
    ([.string ⟨#[115, 101, 108, 101, 99, 116]⟩, .int .i64 1], .bool false),
    ([.string ⟨#[115, 101, 108, 101, 99, 116]⟩, .int .i64 6], .bool false),
    ([.string ⟨#[115, 101, 108, 101, 99, 116]⟩, .int .i64 5], .bool false),
    ([.string ⟨#[115, 101, 108, 101, 99, 116]⟩, .int .i64 3], .bool false),
    ([.string ⟨#[115, 101, 108, 101, 99, 116]⟩, .int .i64 2], .bool true),
    ([.string ⟨#[111, 98, 106, 101, 99, 116]⟩, .int .i64 1], .bool false),
    ([.string ⟨#[111, 98, 106, 101, 99, 116]⟩, .int .i64 6], .bool false),
    ([.string ⟨#[111, 98, 106, 101, 99, 116]⟩, .int .i64 5], .bool false),
    ([.string ⟨#[111, 98, 106, 101, 99, 116]⟩, .int .i64 3], .bool false),
    ([.string ⟨#[111, 98, 106, 101, 99, 116]⟩, .int .i64 2], .bool true),
    ([.string ⟨#[108, 105, 110, 107]⟩, .int .i64 1], .bool true),
    ([.string ⟨#[108, 105, 110, 107]⟩, .int .i64 6], .bool false),
    ([.string ⟨#[108, 105, 110, 107]⟩, .int .i64 5], .bool false),
    ([.string ⟨#[108, 105, 110, 107]⟩, .int .i64 3], .bool false),
    ([.string ⟨#[116, 105, 116, 108, 101]⟩, .int .i64 1], .bool false),
    ([.string ⟨#[116, 105, 116, 108, 101]⟩, .int .i64 6], .bool false),
    ([.string ⟨#[116, 105, 116, 108, 101]⟩, .int .i64 5], .bool false),
    ([.string ⟨#[116, 105, 116, 108, 101]⟩, .int .i64 3], .bool false),
    ([.string ⟨#[116, 105, 116, 108, 101]⟩, .int .i64 2], .bool true),
    ([.string ⟨#[120, 109, 112]⟩, .int .i64 1], .bool false),
    ([.string ⟨#[120, 109, 112]⟩, .int .i64 6], .bool false),
    ([.string ⟨#[120, 109, 112]⟩, .int .i64 5], .bool false),
    ([.string ⟨#[120, 109, 112]⟩, .int .i64 3], .bool false),
    ([.string ⟨#[120, 109, 112]⟩, .int .i64 2], .bool true),
    ([.string ⟨#[116, 114]⟩, .int .i64 1], .bool false),
    ([.string ⟨#[116, 114]⟩, .int .i64 6], .bool false),
    ([.string ⟨#[116, 114]⟩, .int .i64 5], .bool false),
    ([.string ⟨#[116, 114]⟩, .int .i64 3], .bool false),
    ([.string ⟨#[116, 114]⟩, .int .i64 2], .bool true),
    ([.string ⟨#[49, 97]⟩, .int .i64 1], .bool false),
    ([.string ⟨#[49, 97]⟩, .int .i64 6], .bool false),
    ([.string ⟨#[49, 97]⟩, .int .i64 5], .bool false),
    ([.string ⟨#[49, 97]⟩, .int .i64 3], .bool false),
    ([.string ⟨#[49, 97]⟩, .int .i64 2], .bool false),
    ([.string ⟨#[49, 97]⟩, .int .i64 4], .bool false),
    ([.string ⟨#[49, 97]⟩, .int .i64 7], .bool false),
    ([.string ⟨#[49, 97]⟩, .int .i64 8], .bool false),
    ([.string ⟨#[115, 112, 97, 110]⟩, .int .i64 1], .bool false),
    ([.string ⟨#[115, 112, 97, 110]⟩, .int .i64 6], .bool false),
    ([.string ⟨#[115, 112, 97, 110]⟩, .int .i64 5], .bool false),
    ([.string ⟨#[115, 112, 97, 110]⟩, .int .i64 3], .bool false),
    ([.string ⟨#[115, 112, 97, 110]⟩, .int .i64 2], .bool false),
    ([.string ⟨#[115, 112, 97, 110]⟩, .int .i64 4], .bool false),
    ([.string ⟨#[115, 112, 97, 110]⟩, .int .i64 7], .bool false),
    ([.string ⟨#[115, 112, 97, 110]⟩, .int .i64 8], .bool false),
    ([.string ⟨#[100, 105, 118]⟩, .int .i64 1], .bool false),
    ([.string ⟨#[100, 105, 118]⟩, .int .i64 6], .bool true),
    ([.string ⟨#[100, 105, 118]⟩, .int .i64 5], .bool false),
    ([.string ⟨#[112]⟩, .int .i64 1], .bool false),
    ([.string ⟨#[112]⟩, .int .i64 5], .bool false),
    ([.string ⟨#[98]⟩, .int .i64 1], .bool false),
    ([.string ⟨#[98]⟩, .int .i64 6], .bool false),
    ([.string ⟨#[98]⟩, .int .i64 5], .bool false),
    ([.string ⟨#[98]⟩, .int .i64 3], .bool true),
    ([.string ⟨#[98, 114]⟩, .int .i64 1], .bool true),
    ([.string ⟨#[105, 109, 103]⟩, .int .i64 1], .bool true),
    ([.string ⟨#[105, 102, 114, 97, 109, 101]⟩, .int .i64 1], .bool false),
    ([.string ⟨#[116, 101, 120, 116, 97, 114, 101, 97]⟩, .int .i64 1], .bool false),
    ([.string ⟨#[108, 105, 115, 116, 105, 110, 103]⟩, .int .i64 1], .bool false),
    ([.string ⟨#[108, 105, 115, 116, 105, 110, 103]⟩, .int .i64 5], .bool false),
    ([.string ⟨#[109, 101, 110, 117]⟩, .int .i64 1], .bool false),
    ([.string ⟨#[109, 101, 110, 117]⟩, .int .i64 6], .bool true),
    ([.string ⟨#[109, 101, 110, 117]⟩, .int .i64 5], .bool false),
    ([.string ⟨#[120, 45, 121, 49]⟩, .int .i64 1], .bool false),
    ([.string ⟨#[120, 45, 121, 49]⟩, .int .i64 6], .bool false),
    ([.string ⟨#[120, 45, 121, 49]⟩, .int .i64 5], .bool false),
    ([.string ⟨#[120, 45, 121, 49]⟩, .int .i64 3], .bool false),
    ([.string ⟨#[120, 45, 121, 49]⟩, .int .i64 2], .bool false),
    ([.string ⟨#[120, 45, 121, 49]⟩, .int .i64 4], .bool false),
    ([.string ⟨#[120, 45, 121, 49]⟩, .int .i64 7], .bool false),
    ([.string ⟨#[120, 45, 121, 49]⟩, .int .i64 8], .bool false),
    ([.string ⟨#[115, 118, 103]⟩, .int .i64 1], .bool false),
    ([.string ⟨#[115, 118, 103]⟩, .int .i64 6], .bool false),
    ([.string ⟨#[115, 118, 103]⟩, .int .i64 5], .bool false),
    ([.string ⟨#[115, 118, 103]⟩, .int .i64 3], .bool false),
    ([.string ⟨#[115, 118, 103]⟩, .int .i64 2], .bool false),
    ([.string ⟨#[115, 118, 103]⟩, .int .i64 4], .bool false),
    ([.string ⟨#[115, 118, 103]⟩, .int .i64 7], .bool false),
    ([.string ⟨#[115, 118, 103]⟩, .int .i64 8], .bool false),
    ([.string ⟨#[116, 97, 98, 108, 101]⟩, .int .i64 1], .bool false),
    ([.string ⟨#[116, 97, 98, 108, 101]⟩, .int .i64 5], .bool false),
    ([.string ⟨#[98, 117, 116, 116, 111, 110]⟩, .int .i64 1], .bool false),
    ([.string ⟨#[98, 117, 116, 116, 111, 110]⟩, .int .i64 5], .bool false)]),
  (47, [([.string ⟨#[104, 116, 109, 108]⟩], .int .i64 0),
    ([.string ⟨#[104, 101, 97, 100]⟩], .int .i64 0),
    ([.string ⟨#[98, 111, 100, 121]⟩], .int .i64 0),
    ([.string ⟨#[102, 114, 97, 109, 101, 115, 101, 116]⟩], .int .i64 0),
    ([.string ⟨#[102, 114, 97, 109, 101]⟩], .int .i64 0),
    ([.string ⟨#[112, 108, 97, 105, 110, 116, 101, 120, 116]⟩], .int .i64 0),
    ([.string ⟨#[105, 109, 97, 103, 101]⟩], .int .i64 0),
    ([.string ⟨#[110, 111, 98, 114]⟩], .int .i64 0),
    ([.string ⟨#[114, 112]⟩], .int .i64 0),
    ([.string ⟨#[114, 116]⟩], .int .i64 0),
    ([.string ⟨#[111, 112, 116, 105, 111, 110]⟩], .int .i64 0),
    ([.string ⟨#[115, 101, 108, 101, 99, 116]⟩], .int .i64 0),
    ([.string ⟨#[111, 98, 106, 101, 99, 116]⟩], .int .i64 0),
    ([.string ⟨#[116, 105, 116, 108, 101]⟩], .int .i64 1),
    ([.string ⟨#[120, 109, 112]⟩], .int .i64 2),
    ([.string ⟨#[116, 114]⟩], .int .i64 0),
    ([.string ⟨#[49, 97]⟩], .int .i64 0),
    ([.string ⟨#[115, 112, 97, 110]⟩], .int .i64 0),
    ([.string ⟨#[100, 105, 118]⟩], .int .i64 0),
    ([.string ⟨#[112]⟩], .int .i64 0),
    ([.string ⟨#[98]⟩], .int .i64 0),
    ([.string ⟨#[105, 102, 114, 97, 109, 101]⟩], .int .i64 2),
    ([.string ⟨#[116, 101, 120, 116, 97, 114, 101, 97]⟩], .int .i64 1),
    ([.string ⟨#[108, 105, 115, 116, 105, 110, 103]⟩], .int .i64 0),
    ([.string ⟨#[109, 101, 110, 117]⟩], .int .i64 0),
    ([.string ⟨#[120, 45, 121, 49]⟩], .int .i64 0),
    ([.string ⟨#[115, 118, 103]⟩], .int .i64 0),
    ([.string ⟨#[116, 97, 98, 108, 101]⟩], .int .i64 0),
    ([.string ⟨#[98, 117, 116, 116, 111, 110]⟩], .int .i64 0)]),
  (49, [([.string ⟨#[104, 116, 109, 108]⟩], .bool true),
    ([.string ⟨#[104, 101, 97, 100]⟩], .bool true),
    ([.string ⟨#[98, 111, 100, 121]⟩], .bool true),
    ([.string ⟨#[49, 97]⟩], .bool false),
    ([.string ⟨#[115, 112, 97, 110]⟩], .bool true),
    ([.string ⟨#[100, 105, 118]⟩], .bool true),
    ([.string ⟨#[112]⟩], .bool true),
    ([.string ⟨#[98]⟩], .bool true),
    ([.string ⟨#[98, 114]⟩], .bool true),
    ([.string ⟨#[105, 109, 103]⟩], .bool true),
    ([.string ⟨#[105, 102, 114, 97, 109, 101]⟩], .bool true),
    ([.string ⟨#[116, 101, 120, 116, 97, 114, 101, 97]⟩], .bool true),
    ([.string ⟨#[108, 105, 115, 116, 105, 110, 103]⟩], .bool true),
    ([.string ⟨#[109, 101, 110, 117]⟩], .bool true),
    ([.string ⟨#[120, 45, 121, 49]⟩], .bool true),
    ([.string ⟨#[115, 118, 103]⟩], .bool true),
    ([.string ⟨#[116, 97, 98, 108, 101]⟩], .bool true),
    ([.string ⟨#[98, 117, 116, 116, 111, 110]⟩], .bool true)])]
theorem mlN_ok : Ev.okM Tryd.prog noOrc 1000000 mlN = true := by kernel_rfl
def nl0 : List (Obj × Bool) := [(.cells #[(.int .i64 2), (.string ⟨#[104, 116, 109, 108]⟩), (.string ⟨#[]⟩), (.slice none 0 0), (.slice (some ⟨8, 0, none⟩) 2 2)] 28 (0, 0), false),
  (.cells #[(.int .i64 2), (.string ⟨#[104, 116, 109, 108]⟩), (.string ⟨#[]⟩), (.slice none 0 0), (.slice (some ⟨8, 0, none⟩) 2 2)] 28 (0, 0), false),
  (.cells #[(.int .i64 2), (.string ⟨#[104, 101, 97, 100]⟩), (.string ⟨#[]⟩), (.slice none 0 0), (.slice none 0 0), (.int .i64 2), (.string ⟨#[98, 111, 100, 121]⟩), (.string ⟨#[]⟩), (.slice none 0 0), (.slice (some ⟨4, 0, none⟩) 1 1)] 28 (0, 0), false),
  (.cells #[(.int .i64 2), (.string ⟨#[98, 111, 100, 121]⟩), (.string ⟨#[]⟩), (.slice none 0 0), (.slice (some ⟨4, 0, none⟩) 1 1)] 28 (0, 0), false),
  (.cells #[(.int .i64 2), (.string ⟨#[104, 101, 97, 100]⟩), (.string ⟨#[]⟩), (.slice none 0 0), (.slice none 0 0)] 28 (0, 0), false),
  (.cells #[(.int .i64 1), (.string ⟨#[]⟩), (.string ⟨#[]⟩), (.slice none 0 0), (.slice (some ⟨10, 0, none⟩) 1 1)] 28 (0, 0), false),
  (.cells #[(.int .i64 2), (.string ⟨#[104, 116, 109, 108]⟩), (.string ⟨#[]⟩), (.slice none 0 0), (.slice none 0 0)] 28 (0, 0), false),
  (.cells #[(.int .i64 2), (.string ⟨#[104, 116, 109, 108]⟩), (.string ⟨#[]⟩), (.slice none 0 0), (.slice none 0 0)] 28 (0, 0), false),
  (.cells #[(.string ⟨#[115, 112, 97, 110]⟩), (.string ⟨#[100, 105, 118]⟩), (.string ⟨#[112]⟩), (.string ⟨#[98]⟩), (.string ⟨#[98, 114]⟩), (.string ⟨#[105, 109, 103]⟩), (.string ⟨#[105, 102, 114, 97, 109, 101]⟩), (.string ⟨#[116, 101, 120, 116, 97, 114, 101, 97]⟩), (.string ⟨#[108, 105, 115, 116, 105, 110, 103]⟩), (.string ⟨#[109, 101, 110, 117]⟩), (.string ⟨#[120, 45, 121, 49]⟩), (.string ⟨#[115, 118, 103]⟩), (.string ⟨#[116, 97, 98, 108, 101]⟩), (.string ⟨#[98, 117, 116, 116, 111, 110]⟩)] 23 (0, 0), false),
  (.cells #[(.string ⟨#[104, 116, 109, 108]⟩), (.string ⟨#[104, 101, 97, 100]⟩), (.string ⟨#[98, 111, 100, 121]⟩), (.string ⟨#[102, 114, 97, 109, 101, 115, 101, 116]⟩), (.string ⟨#[102, 114, 97, 109, 101]⟩), (.string ⟨#[112, 108, 97, 105, 110, 116, 101, 120, 116]⟩), (.string ⟨#[105, 109, 97, 103, 101]⟩), (.string ⟨#[110, 111, 98, 114]⟩), (.string ⟨#[114, 112]⟩), (.string ⟨#[114, 116]⟩), (.string ⟨#[111, 112, 116, 105, 111, 110]⟩), (.string ⟨#[115, 101, 108, 101, 99, 116]⟩), (.string ⟨#[111, 98, 106, 101, 99, 116]⟩), (.string ⟨#[108, 105, 110, 107]⟩), (.string ⟨#[116, 105, 116, 108, 101]⟩), (.string ⟨#[120, 109, 112]⟩), (.string ⟨#[116, 114]⟩), (.string ⟨#[49, 97]⟩)] 22 (0, 0), false),
  (.cells #[(.chan (some 7))] 3 (0, 0), false)]
def na0 : List Value := [(.agg #[(.int .i64 1), (.string ⟨#[]⟩), (.string ⟨#[]⟩), (.slice none 0 0), (.slice (some ⟨10, 0, none⟩) 1 1)])]
theorem ne0 : fitE (callNow Tryd.prog (oM mlN) 1000000 6 na0 ⟨11, nl0⟩) (.bool false) ⟨11, nl0⟩ = true := by kernel_rfl
def nl1 : List (Obj × Bool) := (.cells #[(.int .i64 2), (.string ⟨#[104, 116, 109, 108]⟩), (.string ⟨#[]⟩), (.slice none 0 0), (.slice (some ⟨16, 0, none⟩) 2 2)] 28 (0, 0), false) ::
  (.cells #[(.int .i64 2), (.string ⟨#[104, 116, 109, 108]⟩), (.string ⟨#[]⟩), (.slice none 0 0), (.slice (some ⟨16, 0, none⟩) 2 2)] 28 (0, 0), false) ::
  (.cells #[(.int .i64 2), (.string ⟨#[104, 101, 97, 100]⟩), (.string ⟨#[]⟩), (.slice none 0 0), (.slice none 0 0), (.int .i64 2), (.string ⟨#[98, 111, 100, 121]⟩), (.string ⟨#[]⟩), (.slice none 0 0), (.slice (some ⟨12, 0, none⟩) 1 1)] 28 (0, 0), false) ::
  (.cells #[(.int .i64 2), (.string ⟨#[98, 111, 100, 121]⟩), (.string ⟨#[]⟩), (.slice none 0 0), (.slice (some ⟨12, 0, none⟩) 1 1)] 28 (0, 0), false) ::
  (.cells #[(.int .i64 2), (.string ⟨#[104, 101, 97, 100]⟩), (.string ⟨#[]⟩), (.slice none 0 0), (.slice none 0 0)] 28 (0, 0), false) ::
  (.cells #[(.int .i64 1), (.string ⟨#[]⟩), (.string ⟨#[]⟩), (.slice none 0 0), (.slice (some ⟨18, 0, none⟩) 1 1)] 28 (0, 0), false) ::
  (.cells #[(.int .i64 2), (.string ⟨#[104, 101, 97, 100]⟩), (.string ⟨#[]⟩), (.slice none 0 0), (.slice none 0 0)] 28 (0, 0), false) ::
  (.cells #[(.int .i64 2), (.string ⟨#[104, 101, 97, 100]⟩), (.string ⟨#[]⟩), (.slice none 0 0), (.slice none 0 0)] 28 (0, 0), false) ::
  nl0
def na1 : List Value := [(.agg #[(.int .i64 1), (.string ⟨#[]⟩), (.string ⟨#[]⟩), (.slice none 0 0), (.slice (some ⟨18, 0, none⟩) 1 1)])]
theorem ne1 : fitE (callNow Tryd.prog (oM mlN) 1000000 6 na1 ⟨19, nl1⟩) (.bool false) ⟨19, nl1⟩ = true := by kernel_rfl
def nl2 : List (Obj × Bool) := (.cells #[(.int .i64 2), (.string ⟨#[104, 116, 109, 108]⟩), (.string ⟨#[]⟩), (.slice none 0 0), (.slice (some ⟨24, 0, none⟩) 2 2)] 28 (0, 0), false) ::
  (.cells #[(.int .i64 2), (.string ⟨#[104, 116, 109, 108]⟩), (.string ⟨#[]⟩), (.slice none 0 0), (.slice (some ⟨24, 0, none⟩) 2 2)] 28 (0, 0), false) ::
  (.cells #[(.int .i64 2), (.string ⟨#[104, 101, 97, 100]⟩), (.string ⟨#[]⟩), (.slice none 0 0), (.slice none 0 0), (.int .i64 2), (.string ⟨#[98, 111, 100, 121]⟩), (.string ⟨#[]⟩), (.slice none 0 0), (.slice (some ⟨20, 0, none⟩) 1 1)] 28 (0, 0), false) ::
  (.cells #[(.int .i64 2), (.string ⟨#[98, 111, 100, 121]⟩), (.string ⟨#[]⟩), (.slice none 0 0), (.slice (some ⟨20, 0, none⟩) 1 1)] 28 (0, 0), false) ::
  (.cells #[(.int .i64 2), (.string ⟨#[104, 101, 97, 100]⟩), (.string ⟨#[]⟩), (.slice none 0 0), (.slice none 0 0)] 28 (0, 0), false) ::
  (.cells #[(.int .i64 1), (.string ⟨#[]⟩), (.string ⟨#[]⟩), (.slice none 0 0), (.slice (some ⟨26, 0, none⟩) 1 1)] 28 (0, 0), false) ::
  (.cells #[(.int .i64 2), (.string ⟨#[98, 111, 100, 121]⟩), (.string ⟨#[]⟩), (.slice none 0 0), (.slice none 0 0)] 28 (0, 0), false) ::
  (.cells #[(.int .i64 2), (.string ⟨#[98, 111, 100, 121]⟩), (.string ⟨#[]⟩), (.slice none 0 0), (.slice none 0 0)] 28 (0, 0), false) ::
  nl1
def na2 : List Value := [(.agg #[(.int .i64 1), (.string ⟨#[]⟩), (.string ⟨#[]⟩), (.slice none 0 0), (.slice (some ⟨26, 0, none⟩) 1 1)])]
theorem ne2 : fitE (callNow Tryd.prog (oM mlN) 1000000 6 na2 ⟨27, nl2⟩) (.bool false) ⟨27, nl2⟩ = true := by kernel_rfl
def nl3 : List (Obj × Bool) := (.cells #[(.int .i64 2), (.string ⟨#[104, 116, 109, 108]⟩), (.string ⟨#[]⟩), (.slice none 0 0), (.slice (some ⟨32, 0, none⟩) 2 2)] 28 (0, 0), false) ::
  (.cells #[(.int .i64 2), (.string ⟨#[104, 116, 109, 108]⟩), (.string ⟨#[]⟩), (.slice none 0 0), (.slice (some ⟨32, 0, none⟩) 2 2)] 28 (0, 0), false) ::
  (.cells #[(.int .i64 2), (.string ⟨#[104, 101, 97, 100]⟩), (.string ⟨#[]⟩), (.slice none 0 0), (.slice none 0 0), (.int .i64 2), (.string ⟨#[98, 111, 100, 121]⟩), (.string ⟨#[]⟩), (.slice none 0 0), (.slice (some ⟨28, 0, none⟩) 1 1)] 28 (0, 0), false) ::
  (.cells #[(.int .i64 2), (.string ⟨#[98, 111, 100, 121]⟩), (.string ⟨#[]⟩), (.slice none 0 0), (.slice (some ⟨28, 0, none⟩) 1 1)] 28 (0, 0), false) ::
  (.cells #[(.int .i64 2), (.string ⟨#[104, 101, 97, 100]⟩), (.string ⟨#[]⟩), (.slice none 0 0), (.slice none 0 0)] 28 (0, 0), false) ::
  (.cells #[(.int .i64 1), (.string ⟨#[]⟩), (.string ⟨#[]⟩), (.slice none 0 0), (.slice (some ⟨34, 0, none⟩) 1 1)] 28 (0, 0), false) ::
  (.cells #[(.int .i64 2), (.string ⟨#[102, 114, 97, 109, 101, 115, 101, 116]⟩), (.string ⟨#[]⟩), (.slice none 0 0), (.slice none 0 0)] 28 (0, 0), false) ::
  (.cells #[(.int .i64 2), (.string ⟨#[102, 114, 97, 109, 101, 115, 101, 116]⟩), (.string ⟨#[]⟩), (.slice none 0 0), (.slice none 0 0)] 28 (0, 0), false) ::
  nl2
def na3 : List Value := [(.agg #[(.int .i64 1), (.string ⟨#[]⟩), (.string ⟨#[]⟩), (.slice none 0 0), (.slice (some ⟨34, 0, none⟩) 1 1)])]
theorem ne3 : fitE (callNow Tryd.prog (oM mlN) 1000000 6 na3 ⟨35, nl3⟩) (.bool false) ⟨35, nl3⟩ = true := by kernel_rfl
def nl4 : List (Obj × Bool) := (.cells #[(.int .i64 2), (.string ⟨#[104, 116, 109, 108]⟩), (.string ⟨#[]⟩), (.slice none 0 0), (.slice (some ⟨40, 0, none⟩) 2 2)] 28 (0, 0), false) ::
  (.cells #[(.int .i64 2), (.string ⟨#[104, 116, 109, 108]⟩), (.string ⟨#[]⟩), (.slice none 0 0), (.slice (some ⟨40, 0, none⟩) 2 2)] 28 (0, 0), false) ::
  (.cells #[(.int .i64 2), (.string ⟨#[104, 101, 97, 100]⟩), (.string ⟨#[]⟩), (.slice none 0 0), (.slice none 0 0), (.int .i64 2), (.string ⟨#[98, 111, 100, 121]⟩), (.string ⟨#[]⟩), (.slice none 0 0), (.slice (some ⟨36, 0, none⟩) 1 1)] 28 (0, 0), false) ::
  (.cells #[(.int .i64 2), (.string ⟨#[98, 111, 100, 121]⟩), (.string ⟨#[]⟩), (.slice none 0 0), (.slice (some ⟨36, 0, none⟩) 1 1)] 28 (0, 0), false) ::
  (.cells #[(.int .i64 2), (.string ⟨#[104, 101, 97, 100]⟩), (.string ⟨#[]⟩), (.slice none 0 0), (.slice none 0 0)] 28 (0, 0), false) ::
  (.cells #[(.int .i64 1), (.string ⟨#[]⟩), (.string ⟨#[]⟩), (.slice none 0 0), (.slice (some ⟨42, 0, none⟩) 1 1)] 28 (0, 0), false) ::
  (.cells #[(.int .i64 2), (.string ⟨#[102, 114, 97, 109, 101]⟩), (.string ⟨#[]⟩), (.slice none 0 0), (.slice none 0 0)] 28 (0, 0), false) ::
  (.cells #[(.int .i64 2), (.string ⟨#[102, 114, 97, 109, 101]⟩), (.string ⟨#[]⟩), (.slice none 0 0), (.slice none 0 0)] 28 (0, 0), false) ::
  nl3
def na4 : List Value := [(.agg #[(.int .i64 1), (.string ⟨#[]⟩), (.string ⟨#[]⟩), (.slice none 0 0), (.slice (some ⟨42, 0, none⟩) 1 1)])]
theorem ne4 : fitE (callNow Tryd.prog (oM mlN) 1000000 6 na4 ⟨43, nl4⟩) (.bool false) ⟨43, nl4⟩ = true := by kernel_rfl
def nl5 : List (Obj × Bool) := (.cells #[(.int .i64 2), (.string ⟨#[104, 116, 109, 108]⟩), (.string ⟨#[]⟩), (.slice none 0 0), (.slice (some ⟨48, 0, none⟩) 2 2)] 28 (0, 0), false) ::
  (.cells #[(.int .i64 2), (.string ⟨#[104, 116, 109, 108]⟩), (.string ⟨#[]⟩), (.slice none 0 0), (.slice (some ⟨48, 0, none⟩) 2 2)] 28 (0, 0), false) ::
  (.cells #[(.int .i64 2), (.string ⟨#[104, 101, 97, 100]⟩), (.string ⟨#[]⟩), (.slice none 0 0), (.slice none 0 0), (.int .i64 2), (.string ⟨#[98, 111, 100, 121]⟩), (.string ⟨#[]⟩), (.slice none 0 0), (.slice (some ⟨44, 0, none⟩) 1 1)] 28 (0, 0), false) ::
  (.cells #[(.int .i64 2), (.string ⟨#[98, 111, 100, 121]⟩), (.string ⟨#[]⟩), (.slice none 0 0), (.slice (some ⟨44, 0, none⟩) 1 1)] 28 (0, 0), false) ::
  (.cells #[(.int .i64 2), (.string ⟨#[104, 101, 97, 100]⟩), (.string ⟨#[]⟩), (.slice none 0 0), (.slice none 0 0)] 28 (0, 0), false) ::
  (.cells #[(.int .i64 1), (.string ⟨#[]⟩), (.string ⟨#[]⟩), (.slice none 0 0), (.slice (some ⟨50, 0, none⟩) 1 1)] 28 (0, 0), false) ::
  (.cells #[(.int .i64 2), (.string ⟨#[112, 108, 97, 105, 110, 116, 101, 120, 116]⟩), (.string ⟨#[]⟩), (.slice none 0 0), (.slice none 0 0)] 28 (0, 0), false) ::
  (.cells #[(.int .i64 2), (.string ⟨#[112, 108, 97, 105, 110, 116, 101, 120, 116]⟩), (.string ⟨#[]⟩), (.slice none 0 0), (.slice none 0 0)] 28 (0, 0), false) ::
  nl4
def na5 : List Value := [(.agg #[(.int .i64 1), (.string ⟨#[]⟩), (.string ⟨#[]⟩), (.slice none 0 0), (.slice (some ⟨50, 0, none⟩) 1 1)])]
theorem ne5 : fitE (callNow Tryd.prog (oM mlN) 1000000 6 na5 ⟨51, nl5⟩) (.bool false) ⟨51, nl5⟩ = true := by kernel_rfl
def nl6 : List (Obj × Bool) := (.cells #[(.int .i64 2), (.string ⟨#[104, 116, 109, 108]⟩), (.string ⟨#[]⟩), (.slice none 0 0), (.slice (some ⟨56, 0, none⟩) 2 2)] 28 (0, 0), false) ::
  (.cells #[(.int .i64 2), (.string ⟨#[104, 116, 109, 108]⟩), (.string ⟨#[]⟩), (.slice none 0 0), (.slice (some ⟨56, 0, none⟩) 2 2)] 28 (0, 0), false) ::
  (.cells #[(.int .i64 2), (.string ⟨#[104, 101, 97, 100]⟩), (.string ⟨#[]⟩), (.slice none 0 0), (.slice none 0 0), (.int .i64 2), (.string ⟨#[98, 111, 100, 121]⟩), (.string ⟨#[]⟩), (.slice none 0 0), (.slice (some ⟨52, 0, none⟩) 1 1)] 28 (0, 0), false) ::
  (.cells #[(.int .i64 2), (.string ⟨#[98, 111, 100, 121]⟩), (.string ⟨#[]⟩), (.slice none 0 0), (.slice (some ⟨52, 0, none⟩) 1 1)] 28 (0, 0), false) ::
  (.cells #[(.int .i64 2), (.string ⟨#[104, 101, 97, 100]⟩), (.string ⟨#[]⟩), (.slice none 0 0), (.slice none 0 0)] 28 (0, 0), false) ::
  (.cells #[(.int .i64 1), (.string ⟨#[]⟩), (.string ⟨#[]⟩), (.slice none 0 0), (.slice (some ⟨58, 0, none⟩) 1 1)] 28 (0, 0), false) ::
  (.cells #[(.int .i64 2), (.string ⟨#[105, 109, 97, 103, 101]⟩), (.string ⟨#[]⟩), (.slice none 0 0), (.slice none 0 0)] 28 (0, 0), false) ::
  (.cells #[(.int .i64 2), (.string ⟨#[105, 109, 97, 103, 101]⟩), (.string ⟨#[]⟩), (.slice none 0 0), (.slice none 0 0)] 28 (0, 0), false) ::
  nl5
def na6 : List Value := [(.agg #[(.int .i64 1), (.string ⟨#[]⟩), (.string ⟨#[]⟩), (.slice none 0 0), (.slice (some ⟨58, 0, none⟩) 1 1)])]
theorem ne6 : fitE (callNow Tryd.prog (oM mlN) 1000000 6 na6 ⟨59, nl6⟩) (.bool false) ⟨59, nl6⟩ = true := by kernel_rfl
def nl7 : List (Obj × Bool) := (.cells #[(.int .i64 2), (.string ⟨#[104, 116, 109, 108]⟩), (.string ⟨#[]⟩), (.slice none 0 0), (.slice (some ⟨64, 0, none⟩) 2 2)] 28 (0, 0), false) ::
  (.cells #[(.int .i64 2), (.string ⟨#[104, 116, 109, 108]⟩), (.string ⟨#[]⟩), (.slice none 0 0), (.slice (some ⟨64, 0, none⟩) 2 2)] 28 (0, 0), false) ::
  (.cells #[(.int .i64 2), (.string ⟨#[104, 101, 97, 100]⟩), (.string ⟨#[]⟩), (.slice none 0 0), (.slice none 0 0), (.int .i64 2), (.string ⟨#[98, 111, 100, 121]⟩), (.string ⟨#[]⟩), (.slice none 0 0), (.slice (some ⟨60, 0, none⟩) 1 1)] 28 (0, 0), false) ::
  (.cells #[(.int .i64 2), (.string ⟨#[98, 111, 100, 121]⟩), (.string ⟨#[]⟩), (.slice none 0 0), (.slice (some ⟨60, 0, none⟩) 1 1)] 28 (0, 0), false) ::
  (.cells #[(.int .i64 2), (.string ⟨#[104, 101, 97, 100]⟩), (.string ⟨#[]⟩), (.slice none 0 0), (.slice none 0 0)] 28 (0, 0), false) ::
  (.cells #[(.int .i64 1), (.string ⟨#[]⟩), (.string ⟨#[]⟩), (.slice none 0 0), (.slice (some ⟨66, 0, none⟩) 1 1)] 28 (0, 0), false) ::
  (.cells #[(.int .i64 2), (.string ⟨#[110, 111, 98, 114]⟩), (.string ⟨#[]⟩), (.slice none 0 0), (.slice none 0 0)] 28 (0, 0), false) ::
  (.cells #[(.int .i64 2), (.string ⟨#[110, 111, 98, 114]⟩), (.string ⟨#[]⟩), (.slice none 0 0), (.slice none 0 0)] 28 (0, 0), false) ::
  nl6
def na7 : List Value := [(.agg #[(.int .i64 1), (.string ⟨#[]⟩), (.string ⟨#[]⟩), (.slice none 0 0), (.slice (some ⟨66, 0, none⟩) 1 1)])]
theorem ne7 : fitE (callNow Tryd.prog (oM mlN) 1000000 6 na7 ⟨67, nl7⟩) (.bool false) ⟨67, nl7⟩ = true := by kernel_rfl
def nl8 : List (Obj × Bool) := (.cells #[(.int .i64 2), (.string ⟨#[104, 116, 109, 108]⟩), (.string ⟨#[]⟩), (.slice none 0 0), (.slice (some ⟨72, 0, none⟩) 2 2)] 28 (0, 0), false) ::
  (.cells #[(.int .i64 2), (.string ⟨#[104, 116, 109, 108]⟩), (.string ⟨#[]⟩), (.slice none 0 0), (.slice (some ⟨72, 0, none⟩) 2 2)] 28 (0, 0), false) ::
  (.cells #[(.int .i64 2), (.string ⟨#[104, 101, 97, 100]⟩), (.string ⟨#[]⟩), (.slice none 0 0), (.slice none 0 0), (.int .i64 2), (.string ⟨#[98, 111, 100, 121]⟩), (.string ⟨#[]⟩), (.slice none 0 0), (.slice (some ⟨68, 0, none⟩) 1 1)] 28 (0, 0), false) ::
  (.cells #[(.int .i64 2), (.string ⟨#[98, 111, 100, 121]⟩), (.string ⟨#[]⟩), (.slice none 0 0), (.slice (some ⟨68, 0, none⟩) 1 1)] 28 (0, 0), false) ::
  (.cells #[(.int .i64 2), (.string ⟨#[104, 101, 97, 100]⟩), (.string ⟨#[]⟩), (.slice none 0 0), (.slice none 0 0)] 28 (0, 0), false) ::
  (.cells #[(.int .i64 1), (.string ⟨#[]⟩), (.string ⟨#[]⟩), (.slice none 0 0), (.slice (some ⟨74, 0, none⟩) 1 1)] 28 (0, 0), false) ::
  (.cells #[(.int .i64 2), (.string ⟨#[114, 112]⟩), (.string ⟨#[]⟩), (.slice none 0 0), (.slice none 0 0)] 28 (0, 0), false) ::
  (.cells #[(.int .i64 2), (.string ⟨#[114, 112]⟩), (.string ⟨#[]⟩), (.slice none 0 0), (.slice none 0 0)] 28 (0, 0), false) ::
  nl7
def na8 : List Value := [(.agg #[(.int .i64 1), (.string ⟨#[]⟩), (.string ⟨#[]⟩), (.slice none 0 0), (.slice (some ⟨74, 0, none⟩) 1 1)])]
theorem ne8 : fitE (callNow Tryd.prog (oM mlN) 1000000 6 na8 ⟨75, nl8⟩) (.bool false) ⟨75, nl8⟩ = true := by kernel_rfl
def nl9 : List (Obj × Bool) := (.cells #[(.int .i64 2), (.string ⟨#[104, 116, 109, 108]⟩), (.string ⟨#[]⟩), (.slice none 0 0), (.slice (some ⟨80, 0, none⟩) 2 2)] 28 (0, 0), false) ::
  (.cells #[(.int .i64 2), (.string ⟨#[104, 116, 109, 108]⟩), (.string ⟨#[]⟩), (.slice none 0 0), (.slice (some ⟨80, 0, none⟩) 2 2)] 28 (0, 0), false) ::
  (.cells #[(.int .i64 2), (.string ⟨#[104, 101, 97, 100]⟩), (.string ⟨#[]⟩), (.slice none 0 0), (.slice none 0 0), (.int .i64 2), (.string ⟨#[98, 111, 100, 121]⟩), (.string ⟨#[]⟩), (.slice none 0 0), (.slice (some ⟨76, 0, none⟩) 1 1)] 28 (0, 0), false) ::
  (.cells #[(.int .i64 2), (.string ⟨#[98, 111, 100, 121]⟩), (.string ⟨#[]⟩), (.slice none 0 0), (.slice (some ⟨76, 0, none⟩) 1 1)] 28 (0, 0), false) ::
  (.cells #[(.int .i64 2), (.string ⟨#[104, 101, 97, 100]⟩), (.string ⟨#[]⟩), (.slice none 0 0), (.slice none 0 0)] 28 (0, 0), false) ::
  (.cells #[(.int .i64 1), (.string ⟨#[]⟩), (.string ⟨#[]⟩), (.slice none 0 0), (.slice (some ⟨82, 0, none⟩) 1 1)] 28 (0, 0), false) ::
  (.cells #[(.int .i64 2), (.string ⟨#[114, 116]⟩), (.string ⟨#[]⟩), (.slice none 0 0), (.slice none 0 0)] 28 (0, 0), false) ::
  (.cells #[(.int .i64 2), (.string ⟨#[114, 116]⟩), (.string ⟨#[]⟩), (.slice none 0 0), (.slice none 0 0)] 28 (0, 0), false) ::
  nl8
def na9 : List Value := [(.agg #[(.int .i64 1), (.string ⟨#[]⟩), (.string ⟨#[]⟩), (.slice none 0 0), (.slice (some ⟨82, 0, none⟩) 1 1)])]
theorem ne9 : fitE (callNow Tryd.prog (oM mlN) 1000000 6 na9 ⟨83, nl9⟩) (.bool false) ⟨83, nl9⟩ = true := by kernel_rfl
def nl10 : List (Obj × Bool) := (.cells #[(.int .i64 2), (.string ⟨#[104, 116, 109, 108]⟩), (.string ⟨#[]⟩), (.slice none 0 0), (.slice (some ⟨88, 0, none⟩) 2 2)] 28 (0, 0), false) ::
  (.cells #[(.int .i64 2), (.string ⟨#[104, 116, 109, 108]⟩), (.string ⟨#[]⟩), (.slice none 0 0), (.slice (some ⟨88, 0, none⟩) 2 2)] 28 (0, 0), false) ::
  (.cells #[(.int .i64 2), (.string ⟨#[104, 101, 97, 100]⟩), (.string ⟨#[]⟩), (.slice none 0 0), (.slice none 0 0), (.int .i64 2), (.string ⟨#[98, 111, 100, 121]⟩), (.string ⟨#[]⟩), (.slice none 0 0), (.slice (some ⟨84, 0, none⟩) 1 1)] 28 (0, 0), false) ::
  (.cells #[(.int .i64 2), (.string ⟨#[98, 111, 100, 121]⟩), (.string ⟨#[]⟩), (.slice none 0 0), (.slice (some ⟨84, 0, none⟩) 1 1)] 28 (0, 0), false) ::
  (.cells #[(.int .i64 2), (.string ⟨#[104, 101, 97, 100]⟩), (.string ⟨#[]⟩), (.slice none 0 0), (.slice none 0 0)] 28 (0, 0), false) ::
  (.cells #[(.int .i64 1), (.string ⟨#[]⟩), (.string ⟨#[]⟩), (.slice none 0 0), (.slice (some ⟨90, 0, none⟩) 1 1)] 28 (0, 0), false) ::
  (.cells #[(.int .i64 2), (.string ⟨#[111, 112, 116, 105, 111, 110]⟩), (.string ⟨#[]⟩), (.slice none 0 0), (.slice none 0 0)] 28 (0, 0), false) ::
  (.cells #[(.int .i64 2), (.string ⟨#[111, 112, 116, 105, 111, 110]⟩), (.string ⟨#[]⟩), (.slice none 0 0), (.slice none 0 0)] 28 (0, 0), false) ::
  nl9
def na10 : List Value := [(.agg #[(.int .i64 1), (.string ⟨#[]⟩), (.string ⟨#[]⟩), (.slice none 0 0), (.slice (some ⟨90, 0, none⟩) 1 1)])]
theorem ne10 : fitE (callNow Tryd.prog (oM mlN) 1000000 6 na10 ⟨91, nl10⟩) (.bool false) ⟨91, nl10⟩ = true := by kernel_rfl
def nl11 : List (Obj × Bool) := (.cells #[(.int .i64 2), (.string ⟨#[104, 116, 109, 108]⟩), (.string ⟨#[]⟩), (.slice none 0 0), (.slice (some ⟨96, 0, none⟩) 2 2)] 28 (0, 0), false) ::
  (.cells #[(.int .i64 2), (.string ⟨#[104, 116, 109, 108]⟩), (.string ⟨#[]⟩), (.slice none 0 0), (.slice (some ⟨96, 0, none⟩) 2 2)] 28 (0, 0), false) ::
  (.cells #[(.int .i64 2), (.string ⟨#[104, 101, 97, 100]⟩), (.string ⟨#[]⟩), (.slice none 0 0), (.slice none 0 0), (.int .i64 2), (.string ⟨#[98, 111, 100, 121]⟩), (.string ⟨#[]⟩), (.slice none 0 0), (.slice (some ⟨92, 0, none⟩) 1 1)] 28 (0, 0), false) ::
  (.cells #[(.int .i64 2), (.string ⟨#[98, 111, 100, 121]⟩), (.string ⟨#[]⟩), (.slice none 0 0), (.slice (some ⟨92, 0, none⟩) 1 1)] 28 (0, 0), false) ::
  (.cells #[(.int .i64 2), (.string ⟨#[104, 101, 97, 100]⟩), (.string ⟨#[]⟩), (.slice none 0 0), (.slice none 0 0)] 28 (0, 0), false) ::
  (.cells #[(.int .i64 1), (.string ⟨#[]⟩), (.string ⟨#[]⟩), (.slice none 0 0), (.slice (some ⟨98, 0, none⟩) 1 1)] 28 (0, 0), false) ::
  (.cells #[(.int .i64 2), (.string ⟨#[115, 101, 108, 101, 99, 116]⟩), (.string ⟨#[]⟩), (.slice none 0 0), (.slice none 0 0)] 28 (0, 0), false) ::
  (.cells #[(.int .i64 2), (.string ⟨#[115, 101, 108, 101, 99, 116]⟩), (.string ⟨#[]⟩), (.slice none 0 0), (.slice none 0 0)] 28 (0, 0), false) ::
  nl10
def na11 : List Value := [(.agg #[(.int .i64 1), (.string ⟨#[]⟩), (.string ⟨#[]⟩), (.slice none 0 0), (.slice (some ⟨98, 0, none⟩) 1 1)])]
theorem ne11 : fitE (callNow Tryd.prog (oM mlN) 1000000 6 na11 ⟨99, nl11⟩) (.bool false) ⟨99, nl11⟩ = true := by kernel_rfl
def nl12 : List (Obj × Bool) := (.cells #[(.int .i64 2), (.string ⟨#[104, 116, 109, 108]⟩), (.string ⟨#[]⟩), (.slice none 0 0), (.slice (some ⟨104, 0, none⟩) 2 2)] 28 (0, 0), false) ::
  (.cells #[(.int .i64 2), (.string ⟨#[104, 116, 109, 108]⟩), (.string ⟨#[]⟩), (.slice none 0 0), (.slice (some ⟨104, 0, none⟩) 2 2)] 28 (0, 0), false) ::
  (.cells #[(.int .i64 2), (.string ⟨#[104, 101, 97, 100]⟩), (.string ⟨#[]⟩), (.slice none 0 0), (.slice none 0 0), (.int .i64 2), (.string ⟨#[98, 111, 100, 121]⟩), (.string ⟨#[]⟩), (.slice none 0 0), (.slice (some ⟨100, 0, none⟩) 1 1)] 28 (0, 0), false) ::
  (.cells #[(.int .i64 2), (.string ⟨#[98, 111, 100, 121]⟩), (.string ⟨#[]⟩), (.slice none 0 0), (.slice (some ⟨100, 0, none⟩) 1 1)] 28 (0, 0), false) ::
  (.cells #[(.int .i64 2), (.string ⟨#[104, 101, 97, 100]⟩), (.string ⟨#[]⟩), (.slice none 0 0), (.slice none 0 0)] 28 (0, 0), false) ::
  (.cells #[(.int .i64 1), (.string ⟨#[]⟩), (.string ⟨#[]⟩), (.slice none 0 0), (.slice (some ⟨106, 0, none⟩) 1 1)] 28 (0, 0), false) ::
  (.cells #[(.int .i64 2), (.string ⟨#[111, 98, 106, 101, 99, 116]⟩), (.string ⟨#[]⟩), (.slice none 0 0), (.slice none 0 0)] 28 (0, 0), false) ::
  (.cells #[(.int .i64 2), (.string ⟨#[111, 98, 106, 101, 99, 116]⟩), (.string ⟨#[]⟩), (.slice none 0 0), (.slice none 0 0)] 28 (0, 0), false) ::
  nl11
def na12 : List Value := [(.agg #[(.int .i64 1), (.string ⟨#[]⟩), (.string ⟨#[]⟩), (.slice none 0 0), (.slice (some ⟨106, 0, none⟩) 1 1)])]
theorem ne12 : fitE (callNow Tryd.prog (oM mlN) 1000000 6 na12 ⟨107, nl12⟩) (.bool false) ⟨107, nl12⟩ = true := by kernel_rfl
def nl13 : List (Obj × Bool) := (.cells #[(.int .i64 2), (.string ⟨#[104, 116, 109, 108]⟩), (.string ⟨#[]⟩), (.slice none 0 0), (.slice (some ⟨112, 0, none⟩) 2 2)] 28 (0, 0), false) ::
  (.cells #[(.int .i64 2), (.string ⟨#[104, 116, 109, 108]⟩), (.string ⟨#[]⟩), (.slice none 0 0), (.slice (some ⟨112, 0, none⟩) 2 2)] 28 (0, 0), false) ::
  (.cells #[(.int .i64 2), (.string ⟨#[104, 101, 97, 100]⟩), (.string ⟨#[]⟩), (.slice none 0 0), (.slice none 0 0), (.int .i64 2), (.string ⟨#[98, 111, 100, 121]⟩), (.string ⟨#[]⟩), (.slice none 0 0), (.slice (some ⟨108, 0, none⟩) 1 1)] 28 (0, 0), false) ::
  (.cells #[(.int .i64 2), (.string ⟨#[98, 111, 100, 121]⟩), (.string ⟨#[]⟩), (.slice none 0 0), (.slice (some ⟨108, 0, none⟩) 1 1)] 28 (0, 0), false) ::
  (.cells #[(.int .i64 2), (.string ⟨#[104, 101, 97, 100]⟩), (.string ⟨#[]⟩), (.slice none 0 0), (.slice none 0 0)] 28 (0, 0), false) ::
  (.cells #[(.int .i64 1), (.string ⟨#[]⟩), (.string ⟨#[]⟩), (.slice none 0 0), (.slice (some ⟨114, 0, none⟩) 1 1)] 28 (0, 0), false) ::
  (.cells #[(.int .i64 2), (.string ⟨#[108, 105, 110, 107]⟩), (.string ⟨#[]⟩), (.slice none 0 0), (.slice none 0 0)] 28 (0, 0), false) ::
  (.cells #[(.int .i64 2), (.string ⟨#[108, 105, 110, 107]⟩), (.string ⟨#[]⟩), (.slice none 0 0), (.slice none 0 0)] 28 (0, 0), false) ::
  nl12
def na13 : List Value := [(.agg #[(.int .i64 1), (.string ⟨#[]⟩), (.string ⟨#[]⟩), (.slice none 0 0), (.slice (some ⟨114, 0, none⟩) 1 1)])]
theorem ne13 : fitE (callNow Tryd.prog (oM mlN) 1000000 6 na13 ⟨115, nl13⟩) (.bool false) ⟨115, nl13⟩ = true := by kernel_rfl
def nl14 : List (Obj × Bool) := (.cells #[(.int .i64 2), (.string ⟨#[104, 116, 109, 108]⟩), (.string ⟨#[]⟩), (.slice none 0 0), (.slice (some ⟨120, 0, none⟩) 2 2)] 28 (0, 0), false) ::
  (.cells #[(.int .i64 2), (.string ⟨#[104, 116, 109, 108]⟩), (.string ⟨#[]⟩), (.slice none 0 0), (.slice (some ⟨120, 0, none⟩) 2 2)] 28 (0, 0), false) ::
  (.cells #[(.int .i64 2), (.string ⟨#[104, 101, 97, 100]⟩), (.string ⟨#[]⟩), (.slice none 0 0), (.slice none 0 0), (.int .i64 2), (.string ⟨#[98, 111, 100, 121]⟩), (.string ⟨#[]⟩), (.slice none 0 0), (.slice (some ⟨116, 0, none⟩) 1 1)] 28 (0, 0), false) ::
  (.cells #[(.int .i64 2), (.string ⟨#[98, 111, 100, 121]⟩), (.string ⟨#[]⟩), (.slice none 0 0), (.slice (some ⟨116, 0, none⟩) 1 1)] 28 (0, 0), false) ::
  (.cells #[(.int .i64 2), (.string ⟨#[104, 101, 97, 100]⟩), (.string ⟨#[]⟩), (.slice none 0 0), (.slice none 0 0)] 28 (0, 0), false) ::
  (.cells #[(.int .i64 1), (.string ⟨#[]⟩), (.string ⟨#[]⟩), (.slice none 0 0), (.slice (some ⟨122, 0, none⟩) 1 1)] 28 (0, 0), false) ::
  (.cells #[(.int .i64 2), (.string ⟨#[116, 105, 116, 108, 101]⟩), (.string ⟨#[]⟩), (.slice none 0 0), (.slice none 0 0)] 28 (0, 0), false) ::
  (.cells #[(.int .i64 2), (.string ⟨#[116, 105, 116, 108, 101]⟩), (.string ⟨#[]⟩), (.slice none 0 0), (.slice none 0 0)] 28 (0, 0), false) ::
  nl13
def na14 : List Value := [(.agg #[(.int .i64 1), (.string ⟨#[]⟩), (.string ⟨#[]⟩), (.slice none 0 0), (.slice (some ⟨122, 0, none⟩) 1 1)])]
theorem ne14 : fitE (callNow Tryd.prog (oM mlN) 1000000 6 na14 ⟨123, nl14⟩) (.bool false) ⟨123, nl14⟩ = true := by kernel_rfl
def nl15 : List (Obj × Bool) := (.cells #[(.int .i64 2), (.string ⟨#[104, 116, 109, 108]⟩), (.string ⟨#[]⟩), (.slice none 0 0), (.slice (some ⟨128, 0, none⟩) 2 2)] 28 (0, 0), false) ::
  (.cells #[(.int .i64 2), (.string ⟨#[104, 116, 109, 108]⟩), (.string ⟨#[]⟩), (.slice none 0 0), (.slice (some ⟨128, 0, none⟩) 2 2)] 28 (0, 0), false) ::
  (.cells #[(.int .i64 2), (.string ⟨#[104, 101, 97, 100]⟩), (.string ⟨#[]⟩), (.slice none 0 0), (.slice none 0 0), (.int .i64 2), (.string ⟨#[98, 111, 100, 121]⟩), (.string ⟨#[]⟩), (.slice none 0 0), (.slice (some ⟨124, 0, none⟩) 1 1)] 28 (0, 0), false) ::
  (.cells #[(.int .i64 2), (.string ⟨#[98, 111, 100, 121]⟩), (.string ⟨#[]⟩), (.slice none 0 0), (.slice (some ⟨124, 0, none⟩) 1 1)] 28 (0, 0), false) ::
  (.cells #[(.int .i64 2), (.string ⟨#[104, 101, 97, 100]⟩), (.string ⟨#[]⟩), (.slice none 0 0), (.slice none 0 0)] 28 (0, 0), false) ::
  (.cells #[(.int .i64 1), (.string ⟨#[]⟩), (.string ⟨#[]⟩), (.slice none 0 0), (.slice (some ⟨130, 0, none⟩) 1 1)] 28 (0, 0), false) ::
  (.cells #[(.int .i64 2), (.string ⟨#[120, 109, 112]⟩), (.string ⟨#[]⟩), (.slice none 0 0), (.slice none 0 0)] 28 (0, 0), false) ::
  (.cells #[(.int .i64 2), (.string ⟨#[120, 109, 112]⟩), (.string ⟨#[]⟩), (.slice none 0 0), (.slice none 0 0)] 28 (0, 0), false) ::
  nl14
def na15 : List Value := [(.agg #[(.int .i64 1), (.string ⟨#[]⟩), (.string ⟨#[]⟩), (.slice none 0 0), (.slice (some ⟨130, 0, none⟩) 1 1)])]
theorem ne15 : fitE (callNow Tryd.prog (oM mlN) 1000000 6 na15 ⟨131, nl15⟩) (.bool false) ⟨131, nl15⟩ = true := by kernel_rfl
def nl16 : List (Obj × Bool) := (.cells #[(.int .i64 2), (.string ⟨#[104, 116, 109, 108]⟩), (.string ⟨#[]⟩), (.slice none 0 0), (.slice (some ⟨136, 0, none⟩) 2 2)] 28 (0, 0), false) ::
  (.cells #[(.int .i64 2), (.string ⟨#[104, 116, 109, 108]⟩), (.string ⟨#[]⟩), (.slice none 0 0), (.slice (some ⟨136, 0, none⟩) 2 2)] 28 (0, 0), false) ::
  (.cells #[(.int .i64 2), (.string ⟨#[104, 101, 97, 100]⟩), (.string ⟨#[]⟩), (.slice none 0 0), (.slice none 0 0), (.int .i64 2), (.string ⟨#[98, 111, 100, 121]⟩), (.string ⟨#[]⟩), (.slice none 0 0), (.slice (some ⟨132, 0, none⟩) 1 1)] 28 (0, 0), false) ::
  (.cells #[(.int .i64 2), (.string ⟨#[98, 111, 100, 121]⟩), (.string ⟨#[]⟩), (.slice none 0 0), (.slice (some ⟨132, 0, none⟩) 1 1)] 28 (0, 0), false) ::
  (.cells #[(.int .i64 2), (.string ⟨#[104, 101, 97, 100]⟩), (.string ⟨#[]⟩), (.slice none 0 0), (.slice none 0 0)] 28 (0, 0), false) ::
  (.cells #[(.int .i64 1), (.string ⟨#[]⟩), (.string ⟨#[]⟩), (.slice none 0 0), (.slice (some ⟨138, 0, none⟩) 1 1)] 28 (0, 0), false) ::
  (.cells #[(.int .i64 2), (.string ⟨#[116, 114]⟩), (.string ⟨#[]⟩), (.slice none 0 0), (.slice none 0 0)] 28 (0, 0), false) ::
  (.cells #[(.int .i64 2), (.string ⟨#[116, 114]⟩), (.string ⟨#[]⟩), (.slice none 0 0), (.slice none 0 0)] 28 (0, 0), false) ::
  nl15
def na16 : List Value := [(.agg #[(.int .i64 1), (.string ⟨#[]⟩), (.string ⟨#[]⟩), (.slice none 0 0), (.slice (some ⟨138, 0, none⟩) 1 1)])]
theorem ne16 : fitE (callNow Tryd.prog (oM mlN) 1000000 6 na16 ⟨139, nl16⟩) (.bool false) ⟨139, nl16⟩ = true := by kernel_rfl
def nl17 : List (Obj × Bool) := (.cells #[(.int .i64 2), (.string ⟨#[104, 116, 109, 108]⟩), (.string ⟨#[]⟩), (.slice none 0 0), (.slice (some ⟨144, 0, none⟩) 2 2)] 28 (0, 0), false) ::
  (.cells #[(.int .i64 2), (.string ⟨#[104, 116, 109, 108]⟩), (.string ⟨#[]⟩), (.slice none 0 0), (.slice (some ⟨144, 0, none⟩) 2 2)] 28 (0, 0), false) ::
  (.cells #[(.int .i64 2), (.string ⟨#[104, 101, 97, 100]⟩), (.string ⟨#[]⟩), (.slice none 0 0), (.slice none 0 0), (.int .i64 2), (.string ⟨#[98, 111, 100, 121]⟩), (.string ⟨#[]⟩), (.slice none 0 0), (.slice (some ⟨140, 0, none⟩) 1 1)] 28 (0, 0), false) ::
  (.cells #[(.int .i64 2), (.string ⟨#[98, 111, 100, 121]⟩), (.string ⟨#[]⟩), (.slice none 0 0), (.slice (some ⟨140, 0, none⟩) 1 1)] 28 (0, 0), false) ::
  (.cells #[(.int .i64 2), (.string ⟨#[104, 101, 97, 100]⟩), (.string ⟨#[]⟩), (.slice none 0 0), (.slice none 0 0)] 28 (0, 0), false) ::
  (.cells #[(.int .i64 1), (.string ⟨#[]⟩), (.string ⟨#[]⟩), (.slice none 0 0), (.slice (some ⟨146, 0, none⟩) 1 1)] 28 (0, 0), false) ::
  (.cells #[(.int .i64 2), (.string ⟨#[49, 97]⟩), (.string ⟨#[]⟩), (.slice none 0 0), (.slice none 0 0)] 28 (0, 0), false) ::
  (.cells #[(.int .i64 2), (.string ⟨#[49, 97]⟩), (.string ⟨#[]⟩), (.slice none 0 0), (.slice none 0 0)] 28 (0, 0), false) ::
  nl16
def na17 : List Value := [(.agg #[(.int .i64 1), (.string ⟨#[]⟩), (.string ⟨#[]⟩), (.slice none 0 0), (.slice (some ⟨146, 0, none⟩) 1 1)])]
theorem ne17 : fitE (callNow Tryd.prog (oM mlN) 1000000 6 na17 ⟨147, nl17⟩) (.bool false) ⟨147, nl17⟩ = true := by kernel_rfl
def nl18 : List (Obj × Bool) := (.cells #[(.int .i64 2), (.string ⟨#[104, 116, 109, 108]⟩), (.string ⟨#[]⟩), (.slice none 0 0), (.slice (some ⟨152, 0, none⟩) 2 2)] 28 (0, 0), false) ::
  (.cells #[(.int .i64 2), (.string ⟨#[104, 116, 109, 108]⟩), (.string ⟨#[]⟩), (.slice none 0 0), (.slice (some ⟨152, 0, none⟩) 2 2)] 28 (0, 0), false) ::
  (.cells #[(.int .i64 2), (.string ⟨#[104, 101, 97, 100]⟩), (.string ⟨#[]⟩), (.slice none 0 0), (.slice none 0 0), (.int .i64 2), (.string ⟨#[98, 111, 100, 121]⟩), (.string ⟨#[]⟩), (.slice none 0 0), (.slice (some ⟨148, 0, none⟩) 1 1)] 28 (0, 0), false) ::
  (.cells #[(.int .i64 2), (.string ⟨#[98, 111, 100, 121]⟩), (.string ⟨#[]⟩), (.slice none 0 0), (.slice (some ⟨148, 0, none⟩) 1 1)] 28 (0, 0), false) ::
  (.cells #[(.int .i64 2), (.string ⟨#[104, 101, 97, 100]⟩), (.string ⟨#[]⟩), (.slice none 0 0), (.slice none 0 0)] 28 (0, 0), false) ::
  (.cells #[(.int .i64 1), (.string ⟨#[]⟩), (.string ⟨#[]⟩), (.slice none 0 0), (.slice (some ⟨154, 0, none⟩) 1 1)] 28 (0, 0), false) ::
  (.cells #[(.int .i64 2), (.string ⟨#[115, 112, 97, 110]⟩), (.string ⟨#[]⟩), (.slice none 0 0), (.slice none 0 0)] 28 (0, 0), false) ::
  (.cells #[(.int .i64 2), (.string ⟨#[115, 112, 97, 110]⟩), (.string ⟨#[]⟩), (.slice none 0 0), (.slice none 0 0)] 28 (0, 0), false) ::
  nl17
def na18 : List Value := [(.agg #[(.int .i64 1), (.string ⟨#[]⟩), (.string ⟨#[]⟩), (.slice none 0 0), (.slice (some ⟨154, 0, none⟩) 1 1)])]
theorem ne18 : fitE (callNow Tryd.prog (oM mlN) 1000000 6 na18 ⟨155, nl18⟩) (.bool true) ⟨155, nl18⟩ = true := by kernel_rfl
def nl19 : List (Obj × Bool) := (.cells #[(.int .i64 2), (.string ⟨#[104, 116, 109, 108]⟩), (.string ⟨#[]⟩), (.slice none 0 0), (.slice (some ⟨160, 0, none⟩) 2 2)] 28 (0, 0), false) ::
  (.cells #[(.int .i64 2), (.string ⟨#[104, 116, 109, 108]⟩), (.string ⟨#[]⟩), (.slice none 0 0), (.slice (some ⟨160, 0, none⟩) 2 2)] 28 (0, 0), false) ::
  (.cells #[(.int .i64 2), (.string ⟨#[104, 101, 97, 100]⟩), (.string ⟨#[]⟩), (.slice none 0 0), (.slice none 0 0), (.int .i64 2), (.string ⟨#[98, 111, 100, 121]⟩), (.string ⟨#[]⟩), (.slice none 0 0), (.slice (some ⟨156, 0, none⟩) 1 1)] 28 (0, 0), false) ::
  (.cells #[(.int .i64 2), (.string ⟨#[98, 111, 100, 121]⟩), (.string ⟨#[]⟩), (.slice none 0 0), (.slice (some ⟨156, 0, none⟩) 1 1)] 28 (0, 0), false) ::
  (.cells #[(.int .i64 2), (.string ⟨#[104, 101, 97, 100]⟩), (.string ⟨#[]⟩), (.slice none 0 0), (.slice none 0 0)] 28 (0, 0), false) ::
  (.cells #[(.int .i64 1), (.string ⟨#[]⟩), (.string ⟨#[]⟩), (.slice none 0 0), (.slice (some ⟨162, 0, none⟩) 1 1)] 28 (0, 0), false) ::
  (.cells #[(.int .i64 2), (.string ⟨#[100, 105, 118]⟩), (.string ⟨#[]⟩), (.slice none 0 0), (.slice none 0 0)] 28 (0, 0), false) ::
  (.cells #[(.int .i64 2), (.string ⟨#[100, 105, 118]⟩), (.string ⟨#[]⟩), (.slice none 0 0), (.slice none 0 0)] 28 (0, 0), false) ::
  nl18
def na19 : List Value := [(.agg #[(.int .i64 1), (.string ⟨#[]⟩), (.string ⟨#[]⟩), (.slice none 0 0), (.slice (some ⟨162, 0, none⟩) 1 1)])]
theorem ne19 : fitE (callNow Tryd.prog (oM mlN) 1000000 6 na19 ⟨163, nl19⟩) (.bool true) ⟨163, nl19⟩ = true := by kernel_rfl
def nl20 : List (Obj × Bool) := (.cells #[(.int .i64 2), (.string ⟨#[104, 116, 109, 108]⟩), (.string ⟨#[]⟩), (.slice none 0 0), (.slice (some ⟨168, 0, none⟩) 2 2)] 28 (0, 0), false) ::
  (.cells #[(.int .i64 2), (.string ⟨#[104, 116, 109, 108]⟩), (.string ⟨#[]⟩), (.slice none 0 0), (.slice (some ⟨168, 0, none⟩) 2 2)] 28 (0, 0), false) ::
  (.cells #[(.int .i64 2), (.string ⟨#[104, 101, 97, 100]⟩), (.string ⟨#[]⟩), (.slice none 0 0), (.slice none 0 0), (.int .i64 2), (.string ⟨#[98, 111, 100, 121]⟩), (.string ⟨#[]⟩), (.slice none 0 0), (.slice (some ⟨164, 0, none⟩) 1 1)] 28 (0, 0), false) ::
  (.cells #[(.int .i64 2), (.string ⟨#[98, 111, 100, 121]⟩), (.string ⟨#[]⟩), (.slice none 0 0), (.slice (some ⟨164, 0, none⟩) 1 1)] 28 (0, 0), false) ::
  (.cells #[(.int .i64 2), (.string ⟨#[104, 101, 97, 100]⟩), (.string ⟨#[]⟩), (.slice none 0 0), (.slice none 0 0)] 28 (0, 0), false) ::
  (.cells #[(.int .i64 1), (.string ⟨#[]⟩), (.string ⟨#[]⟩), (.slice none 0 0), (.slice (some ⟨170, 0, none⟩) 1 1)] 28 (0, 0), false) ::
  (.cells #[(.int .i64 2), (.string ⟨#[112]⟩), (.string ⟨#[]⟩), (.slice none 0 0), (.slice none 0 0)] 28 (0, 0), false) ::
  (.cells #[(.int .i64 2), (.string ⟨#[112]⟩), (.string ⟨#[]⟩), (.slice none 0 0), (.slice none 0 0)] 28 (0, 0), false) ::
  nl19
def na20 : List Value := [(.agg #[(.int .i64 1), (.string ⟨#[]⟩), (.string ⟨#[]⟩), (.slice none 0 0), (.slice (some ⟨170, 0, none⟩) 1 1)])]
theorem ne20 : fitE (callNow Tryd.prog (oM mlN) 1000000 6 na20 ⟨171, nl20⟩) (.bool true) ⟨171, nl20⟩ = true := by kernel_rfl
def nl21 : List (Obj × Bool) := (.cells #[(.int .i64 2), (.string ⟨#[104, 116, 109, 108]⟩), (.string ⟨#[]⟩), (.slice none 0 0), (.slice (some ⟨176, 0, none⟩) 2 2)] 28 (0, 0), false) ::
  (.cells #[(.int .i64 2), (.string ⟨#[104, 116, 109, 108]⟩), (.string ⟨#[]⟩), (.slice none 0 0), (.slice (some ⟨176, 0, none⟩) 2 2)] 28 (0, 0), false) ::
  (.cells #[(.int .i64 2), (.string ⟨#[104, 101, 97, 100]⟩), (.string ⟨#[]⟩), (.slice none 0 0), (.slice none 0 0), (.int .i64 2), (.string ⟨#[98, 111, 100, 121]⟩), (.string ⟨#[]⟩), (.slice none 0 0), (.slice (some ⟨172, 0, none⟩) 1 1)] 28 (0, 0), false) ::
  (.cells #[(.int .i64 2), (.string ⟨#[98, 111, 100, 121]⟩), (.string ⟨#[]⟩), (.slice none 0 0), (.slice (some ⟨172, 0, none⟩) 1 1)] 28 (0, 0), false) ::
  (.cells #[(.int .i64 2), (.string ⟨#[104, 101, 97, 100]⟩), (.string ⟨#[]⟩), (.slice none 0 0), (.slice none 0 0)] 28 (0, 0), false) ::
  (.cells #[(.int .i64 1), (.string ⟨#[]⟩), (.string ⟨#[]⟩), (.slice none 0 0), (.slice (some ⟨178, 0, none⟩) 1 1)] 28 (0, 0), false) ::
  (.cells #[(.int .i64 2), (.string ⟨#[98]⟩), (.string ⟨#[]⟩), (.slice none 0 0), (.slice none 0 0)] 28 (0, 0), false) ::
  (.cells #[(.int .i64 2), (.string ⟨#[98]⟩), (.string ⟨#[]⟩), (.slice none 0 0), (.slice none 0 0)] 28 (0, 0), false) ::
  nl20
def na21 : List Value := [(.agg #[(.int .i64 1), (.string ⟨#[]⟩), (.string ⟨#[]⟩), (.slice none 0 0), (.slice (some ⟨178, 0, none⟩) 1 1)])]
theorem ne21 : fitE (callNow Tryd.prog (oM mlN) 1000000 6 na21 ⟨179, nl21⟩) (.bool true) ⟨179, nl21⟩ = true := by kernel_rfl
def nl22 : List (Obj × Bool) := (.cells #[(.int .i64 2), (.string ⟨#[104, 116, 109, 108]⟩), (.string ⟨#[]⟩), (.slice none 0 0), (.slice (some ⟨184, 0, none⟩) 2 2)] 28 (0, 0), false) ::
  (.cells #[(.int .i64 2), (.string ⟨#[104, 116, 109, 108]⟩), (.string ⟨#[]⟩), (.slice none 0 0), (.slice (some ⟨184, 0, none⟩) 2 2)] 28 (0, 0), false) ::
  (.cells #[(.int .i64 2), (.string ⟨#[104, 101, 97, 100]⟩), (.string ⟨#[]⟩), (.slice none 0 0), (.slice none 0 0), (.int .i64 2), (.string ⟨#[98, 111, 100, 121]⟩), (.string ⟨#[]⟩), (.slice none 0 0), (.slice (some ⟨180, 0, none⟩) 1 1)] 28 (0, 0), false) ::
  (.cells #[(.int .i64 2), (.string ⟨#[98, 111, 100, 121]⟩), (.string ⟨#[]⟩), (.slice none 0 0), (.slice (some ⟨180, 0, none⟩) 1 1)] 28 (0, 0), false) ::
  (.cells #[(.int .i64 2), (.string ⟨#[104, 101, 97, 100]⟩), (.string ⟨#[]⟩), (.slice none 0 0), (.slice none 0 0)] 28 (0, 0), false) ::
  (.cells #[(.int .i64 1), (.string ⟨#[]⟩), (.string ⟨#[]⟩), (.slice none 0 0), (.slice (some ⟨186, 0, none⟩) 1 1)] 28 (0, 0), false) ::
  (.cells #[(.int .i64 2), (.string ⟨#[98, 114]⟩), (.string ⟨#[]⟩), (.slice none 0 0), (.slice none 0 0)] 28 (0, 0), false) ::
  (.cells #[(.int .i64 2), (.string ⟨#[98, 114]⟩), (.string ⟨#[]⟩), (.slice none 0 0), (.slice none 0 0)] 28 (0, 0), false) ::
  nl21
def na22 : List Value := [(.agg #[(.int .i64 1), (.string ⟨#[]⟩), (.string ⟨#[]⟩), (.slice none 0 0), (.slice (some ⟨186, 0, none⟩) 1 1)])]
theorem ne22 : fitE (callNow Tryd.prog (oM mlN) 1000000 6 na22 ⟨187, nl22⟩) (.bool true) ⟨187, nl22⟩ = true := by kernel_rfl
def nl23 : List (Obj × Bool) := (.cells #[(.int .i64 2), (.string ⟨#[104, 116, 109, 108]⟩), (.string ⟨#[]⟩), (.slice none 0 0), (.slice (some ⟨192, 0, none⟩) 2 2)] 28 (0, 0), false) ::
  (.cells #[(.int .i64 2), (.string ⟨#[104, 116, 109, 108]⟩), (.string ⟨#[]⟩), (.slice none 0 0), (.slice (some ⟨192, 0, none⟩) 2 2)] 28 (0, 0), false) ::
  (.cells #[(.int .i64 2), (.string ⟨#[104, 101, 97, 100]⟩), (.string ⟨#[]⟩), (.slice none 0 0), (.slice none 0 0), (.int .i64 2), (.string ⟨#[98, 111, 100, 121]⟩), (.string ⟨#[]⟩), (.slice none 0 0), (.slice (some ⟨188, 0, none⟩) 1 1)] 28 (0, 0), false) ::
  (.cells #[(.int .i64 2), (.string ⟨#[98, 111, 100, 121]⟩), (.string ⟨#[]⟩), (.slice none 0 0), (.slice (some ⟨188, 0, none⟩) 1 1)] 28 (0, 0), false) ::
  (.cells #[(.int .i64 2), (.string ⟨#[104, 101, 97, 100]⟩), (.string ⟨#[]⟩), (.slice none 0 0), (.slice none 0 0)] 28 (0, 0), false) ::
  (.cells #[(.int .i64 1), (.string ⟨#[]⟩), (.string ⟨#[]⟩), (.slice none 0 0), (.slice (some ⟨194, 0, none⟩) 1 1)] 28 (0, 0), false) ::
  (.cells #[(.int .i64 2), (.string ⟨#[105, 109, 103]⟩), (.string ⟨#[]⟩), (.slice none 0 0), (.slice none 0 0)] 28 (0, 0), false) ::
  (.cells #[(.int .i64 2), (.string ⟨#[105, 109, 103]⟩), (.string ⟨#[]⟩), (.slice none 0 0), (.slice none 0 0)] 28 (0, 0), false) ::
  nl22
def na23 : List Value := [(.agg #[(.int .i64 1), (.string ⟨#[]⟩), (.string ⟨#[]⟩), (.slice none 0 0), (.slice (some ⟨194, 0, none⟩) 1 1)])]
theorem ne23 : fitE (callNow Tryd.prog (oM mlN) 1000000 6 na23 ⟨195, nl23⟩) (.bool true) ⟨195, nl23⟩ = true := by kernel_rfl
def nl24 : List (Obj × Bool) := (.cells #[(.int .i64 2), (.string ⟨#[104, 116, 109, 108]⟩), (.string ⟨#[]⟩), (.slice none 0 0), (.slice (some ⟨200, 0, none⟩) 2 2)] 28 (0, 0), false) ::
  (.cells #[(.int .i64 2), (.string ⟨#[104, 116, 109, 108]⟩), (.string ⟨#[]⟩), (.slice none 0 0), (.slice (some ⟨200, 0, none⟩) 2 2)] 28 (0, 0), false) ::
  (.cells #[(.int .i64 2), (.string ⟨#[104, 101, 97, 100]⟩), (.string ⟨#[]⟩), (.slice none 0 0), (.slice none 0 0), (.int .i64 2), (.string ⟨#[98, 111, 100, 121]⟩), (.string ⟨#[]⟩), (.slice none 0 0), (.slice (some ⟨196, 0, none⟩) 1 1)] 28 (0, 0), false) ::
  (.cells #[(.int .i64 2), (.string ⟨#[98, 111, 100, 121]⟩), (.string ⟨#[]⟩), (.slice none 0 0), (.slice (some ⟨196, 0, none⟩) 1 1)] 28 (0, 0), false) ::
  (.cells #[(.int .i64 2), (.string ⟨#[104, 101, 97, 100]⟩), (.string ⟨#[]⟩), (.slice none 0 0), (.slice none 0 0)] 28 (0, 0), false) ::
  (.cells #[(.int .i64 1), (.string ⟨#[]⟩), (.string ⟨#[]⟩), (.slice none 0 0), (.slice (some ⟨202, 0, none⟩) 1 1)] 28 (0, 0), false) ::
  (.cells #[(.int .i64 2), (.string ⟨#[105, 102, 114, 97, 109, 101]⟩), (.string ⟨#[]⟩), (.slice none 0 0), (.slice none 0 0)] 28 (0, 0), false) ::
  (.cells #[(.int .i64 2), (.string ⟨#[105, 102, 114, 97, 109, 101]⟩), (.string ⟨#[]⟩), (.slice none 0 0), (.slice none 0 0)] 28 (0, 0), false) ::
  nl23
def na24 : List Value := [(.agg #[(.int .i64 1), (.string ⟨#[]⟩), (.string ⟨#[]⟩), (.slice none 0 0), (.slice (some ⟨202, 0, none⟩) 1 1)])]
theorem ne24 : fitE (callNow Tryd.prog (oM mlN) 1000000 6 na24 ⟨203, nl24⟩) (.bool true) ⟨203, nl24⟩ = true := by kernel_rfl
def nl25 : List (Obj × Bool) := (.cells #[(.int .i64 2), (.string ⟨#[104, 116, 109, 108]⟩), (.string ⟨#[]⟩), (.slice none 0 0), (.slice (some ⟨208, 0, none⟩) 2 2)] 28 (0, 0), false) ::
  (.cells #[(.int .i64 2), (.string ⟨#[104, 116, 109, 108]⟩), (.string ⟨#[]⟩), (.slice none 0 0), (.slice (some ⟨208, 0, none⟩) 2 2)] 28 (0, 0), false) ::
  (.cells #[(.int .i64 2), (.string ⟨#[104, 101, 97, 100]⟩), (.string ⟨#[]⟩), (.slice none 0 0), (.slice none 0 0), (.int .i64 2), (.string ⟨#[98, 111, 100, 121]⟩), (.string ⟨#[]⟩), (.slice none 0 0), (.slice (some ⟨204, 0, none⟩) 1 1)] 28 (0, 0), false) ::
  (.cells #[(.int .i64 2), (.string ⟨#[98, 111, 100, 121]⟩), (.string ⟨#[]⟩), (.slice none 0 0), (.slice (some ⟨204, 0, none⟩) 1 1)] 28 (0, 0), false) ::
  (.cells #[(.int .i64 2), (.string ⟨#[104, 101, 97, 100]⟩), (.string ⟨#[]⟩), (.slice none 0 0), (.slice none 0 0)] 28 (0, 0), false) ::
  (.cells #[(.int .i64 1), (.string ⟨#[]⟩), (.string ⟨#[]⟩), (.slice none 0 0), (.slice (some ⟨210, 0, none⟩) 1 1)] 28 (0, 0), false) ::
  (.cells #[(.int .i64 2), (.string ⟨#[116, 101, 120, 116, 97, 114, 101, 97]⟩), (.string ⟨#[]⟩), (.slice none 0 0), (.slice none 0 0)] 28 (0, 0), false) ::
  (.cells #[(.int .i64 2), (.string ⟨#[116, 101, 120, 116, 97, 114, 101, 97]⟩), (.string ⟨#[]⟩), (.slice none 0 0), (.slice none 0 0)] 28 (0, 0), false) ::
  nl24
def na25 : List Value := [(.agg #[(.int .i64 1), (.string ⟨#[]⟩), (.string ⟨#[]⟩), (.slice none 0 0), (.slice (some ⟨210, 0, none⟩) 1 1)])]
theorem ne25 : fitE (callNow Tryd.prog (oM mlN) 1000000 6 na25 ⟨211, nl25⟩) (.bool true) ⟨211, nl25⟩ = true := by kernel_rfl
def nl26 : List (Obj × Bool) := (.cells #[(.int .i64 2), (.string ⟨#[104, 116, 109, 108]⟩), (.string ⟨#[]⟩), (.slice none 0 0), (.slice (some ⟨216, 0, none⟩) 2 2)] 28 (0, 0), false) ::
  (.cells #[(.int .i64 2), (.string ⟨#[104, 116, 109, 108]⟩), (.string ⟨#[]⟩), (.slice none 0 0), (.slice (some ⟨216, 0, none⟩) 2 2)] 28 (0, 0), false) ::
  (.cells #[(.int .i64 2), (.string ⟨#[104, 101, 97, 100]⟩), (.string ⟨#[]⟩), (.slice none 0 0), (.slice none 0 0), (.int .i64 2), (.string ⟨#[98, 111, 100, 121]⟩), (.string ⟨#[]⟩), (.slice none 0 0), (.slice (some ⟨212, 0, none⟩) 1 1)] 28 (0, 0), false) ::
  (.cells #[(.int .i64 2), (.string ⟨#[98, 111, 100, 121]⟩), (.string ⟨#[]⟩), (.slice none 0 0), (.slice (some ⟨212, 0, none⟩) 1 1)] 28 (0, 0), false) ::
  (.cells #[(.int .i64 2), (.string ⟨#[104, 101, 97, 100]⟩), (.string ⟨#[]⟩), (.slice none 0 0), (.slice none 0 0)] 28 (0, 0), false) ::
  (.cells #[(.int .i64 1), (.string ⟨#[]⟩), (.string ⟨#[]⟩), (.slice none 0 0), (.slice (some ⟨218, 0, none⟩) 1 1)] 28 (0, 0), false) ::
  (.cells #[(.int .i64 2), (.string ⟨#[108, 105, 115, 116, 105, 110, 103]⟩), (.string ⟨#[]⟩), (.slice none 0 0), (.slice none 0 0)] 28 (0, 0), false) ::
  (.cells #[(.int .i64 2), (.string ⟨#[108, 105, 115, 116, 105, 110, 103]⟩), (.string ⟨#[]⟩), (.slice none 0 0), (.slice none 0 0)] 28 (0, 0), false) ::
  nl25
def na26 : List Value := [(.agg #[(.int .i64 1), (.string ⟨#[]⟩), (.string ⟨#[]⟩), (.slice none 0 0), (.slice (some ⟨218, 0, none⟩) 1 1)])]
theorem ne26 : fitE (callNow Tryd.prog (oM mlN) 1000000 6 na26 ⟨219, nl26⟩) (.bool true) ⟨219, nl26⟩ = true := by kernel_rfl
def nl27 : List (Obj × Bool) := (.cells #[(.int .i64 2), (.string ⟨#[104, 116, 109, 108]⟩), (.string ⟨#[]⟩), (.slice none 0 0), (.slice (some ⟨224, 0, none⟩) 2 2)] 28 (0, 0), false) ::
  (.cells #[(.int .i64 2), (.string ⟨#[104, 116, 109, 108]⟩), (.string ⟨#[]⟩), (.slice none 0 0), (.slice (some ⟨224, 0, none⟩) 2 2)] 28 (0, 0), false) ::
  (.cells #[(.int .i64 2), (.string ⟨#[104, 101, 97, 100]⟩), (.string ⟨#[]⟩), (.slice none 0 0), (.slice none 0 0), (.int .i64 2), (.string ⟨#[98, 111, 100, 121]⟩), (.string ⟨#[]⟩), (.slice none 0 0), (.slice (some ⟨220, 0, none⟩) 1 1)] 28 (0, 0), false) ::
  (.cells #[(.int .i64 2), (.string ⟨#[98, 111, 100, 121]⟩), (.string ⟨#[]⟩), (.slice none 0 0), (.slice (some ⟨220, 0, none⟩) 1 1)] 28 (0, 0), false) ::
  (.cells #[(.int .i64 2), (.string ⟨#[104, 101, 97, 100]⟩), (.string ⟨#[]⟩), (.slice none 0 0), (.slice none 0 0)] 28 (0, 0), false) ::
  (.cells #[(.int .i64 1), (.string ⟨#[]⟩), (.string ⟨#[]⟩), (.slice none 0 0), (.slice (some ⟨226, 0, none⟩) 1 1)] 28 (0, 0), false) ::
  (.cells #[(.int .i64 2), (.string ⟨#[109, 101, 110, 117]⟩), (.string ⟨#[]⟩), (.slice none 0 0), (.slice none 0 0)] 28 (0, 0), false) ::
  (.cells #[(.int .i64 2), (.string ⟨#[109, 101, 110, 117]⟩), (.string ⟨#[]⟩), (.slice none 0 0), (.slice none 0 0)] 28 (0, 0), false) ::
  nl26
def na27 : List Value := [(.agg #[(.int .i64 1), (.string ⟨#[]⟩), (.string ⟨#[]⟩), (.slice none 0 0), (.slice (some ⟨226, 0, none⟩) 1 1)])]
theorem ne27 : fitE (callNow Tryd.prog (oM mlN) 1000000 6 na27 ⟨227, nl27⟩) (.bool true) ⟨227, nl27⟩ = true := by kernel_rfl
def nl28 : List (Obj × Bool) := (.cells #[(.int .i64 2), (.string ⟨#[104, 116, 109, 108]⟩), (.string ⟨#[]⟩), (.slice none 0 0), (.slice (some ⟨232, 0, none⟩) 2 2)] 28 (0, 0), false) ::
  (.cells #[(.int .i64 2), (.string ⟨#[104, 116, 109, 108]⟩), (.string ⟨#[]⟩), (.slice none 0 0), (.slice (some ⟨232, 0, none⟩) 2 2)] 28 (0, 0), false) ::
  (.cells #[(.int .i64 2), (.string ⟨#[104, 101, 97, 100]⟩), (.string ⟨#[]⟩), (.slice none 0 0), (.slice none 0 0), (.int .i64 2), (.string ⟨#[98, 111, 100, 121]⟩), (.string ⟨#[]⟩), (.slice none 0 0), (.slice (some ⟨228, 0, none⟩) 1 1)] 28 (0, 0), false) ::
  (.cells #[(.int .i64 2), (.string ⟨#[98, 111, 100, 121]⟩), (.string ⟨#[]⟩), (.slice none 0 0), (.slice (some ⟨228, 0, none⟩) 1 1)] 28 (0, 0), false) ::
  (.cells #[(.int .i64 2), (.string ⟨#[104, 101, 97, 100]⟩), (.string ⟨#[]⟩), (.slice none 0 0), (.slice none 0 0)] 28 (0, 0), false) ::
  (.cells #[(.int .i64 1), (.string ⟨#[]⟩), (.string ⟨#[]⟩), (.slice none 0 0), (.slice (some ⟨234, 0, none⟩) 1 1)] 28 (0, 0), false) ::
  (.cells #[(.int .i64 2), (.string ⟨#[120, 45, 121, 49]⟩), (.string ⟨#[]⟩), (.slice none 0 0), (.slice none 0 0)] 28 (0, 0), false) ::
  (.cells #[(.int .i64 2), (.string ⟨#[120, 45, 121, 49]⟩), (.string ⟨#[]⟩), (.slice none 0 0), (.slice none 0 0)] 28 (0, 0), false) ::
  nl27
def na28 : List Value := [(.agg #[(.int .i64 1), (.string ⟨#[]⟩), (.string ⟨#[]⟩), (.slice none 0 0), (.slice (some ⟨234, 0, none⟩) 1 1)])]
theorem ne28 : fitE (callNow Tryd.prog (oM mlN) 1000000 6 na28 ⟨235, nl28⟩) (.bool true) ⟨235, nl28⟩ = true := by kernel_rfl
def nl29 : List (Obj × Bool) := (.cells #[(.int .i64 2), (.string ⟨#[104, 116, 109, 108]⟩), (.string ⟨#[]⟩), (.slice none 0 0), (.slice (some ⟨240, 0, none⟩) 2 2)] 28 (0, 0), false) ::
  (.cells #[(.int .i64 2), (.string ⟨#[104, 116, 109, 108]⟩), (.string ⟨#[]⟩), (.slice none 0 0), (.slice (some ⟨240, 0, none⟩) 2 2)] 28 (0, 0), false) ::
  (.cells #[(.int .i64 2), (.string ⟨#[104, 101, 97, 100]⟩), (.string ⟨#[]⟩), (.slice none 0 0), (.slice none 0 0), (.int .i64 2), (.string ⟨#[98, 111, 100, 121]⟩), (.string ⟨#[]⟩), (.slice none 0 0), (.slice (some ⟨236, 0, none⟩) 1 1)] 28 (0, 0), false) ::
  (.cells #[(.int .i64 2), (.string ⟨#[98, 111, 100, 121]⟩), (.string ⟨#[]⟩), (.slice none 0 0), (.slice (some ⟨236, 0, none⟩) 1 1)] 28 (0, 0), false) ::
  (.cells #[(.int .i64 2), (.string ⟨#[104, 101, 97, 100]⟩), (.string ⟨#[]⟩), (.slice none 0 0), (.slice none 0 0)] 28 (0, 0), false) ::
  (.cells #[(.int .i64 1), (.string ⟨#[]⟩), (.string ⟨#[]⟩), (.slice none 0 0), (.slice (some ⟨242, 0, none⟩) 1 1)] 28 (0, 0), false) ::
  (.cells #[(.int .i64 2), (.string ⟨#[115, 118, 103]⟩), (.string ⟨#[]⟩), (.slice none 0 0), (.slice none 0 0)] 28 (0, 0), false) ::
  (.cells #[(.int .i64 2), (.string ⟨#[115, 118, 103]⟩), (.string ⟨#[]⟩), (.slice none 0 0), (.slice none 0 0)] 28 (0, 0), false) ::
  nl28
def na29 : List Value := [(.agg #[(.int .i64 1), (.string ⟨#[]⟩), (.string ⟨#[]⟩), (.slice none 0 0), (.slice (some ⟨242, 0, none⟩) 1 1)])]
theorem ne29 : fitE (callNow Tryd.prog (oM mlN) 1000000 6 na29 ⟨243, nl29⟩) (.bool true) ⟨243, nl29⟩ = true := by kernel_rfl
def nl30 : List (Obj × Bool) := (.cells #[(.int .i64 2), (.string ⟨#[104, 116, 109, 108]⟩), (.string ⟨#[]⟩), (.slice none 0 0), (.slice (some ⟨248, 0, none⟩) 2 2)] 28 (0, 0), false) ::
  (.cells #[(.int .i64 2), (.string ⟨#[104, 116, 109, 108]⟩), (.string ⟨#[]⟩), (.slice none 0 0), (.slice (some ⟨248, 0, none⟩) 2 2)] 28 (0, 0), false) ::
  (.cells #[(.int .i64 2), (.string ⟨#[104, 101, 97, 100]⟩), (.string ⟨#[]⟩), (.slice none 0 0), (.slice none 0 0), (.int .i64 2), (.string ⟨#[98, 111, 100, 121]⟩), (.string ⟨#[]⟩), (.slice none 0 0), (.slice (some ⟨244, 0, none⟩) 1 1)] 28 (0, 0), false) ::
  (.cells #[(.int .i64 2), (.string ⟨#[98, 111, 100, 121]⟩), (.string ⟨#[]⟩), (.slice none 0 0), (.slice (some ⟨244, 0, none⟩) 1 1)] 28 (0, 0), false) ::
  (.cells #[(.int .i64 2), (.string ⟨#[104, 101, 97, 100]⟩), (.string ⟨#[]⟩), (.slice none 0 0), (.slice none 0 0)] 28 (0, 0), false) ::
  (.cells #[(.int .i64 1), (.string ⟨#[]⟩), (.string ⟨#[]⟩), (.slice none 0 0), (.slice (some ⟨250, 0, none⟩) 1 1)] 28 (0, 0), false) ::
  (.cells #[(.int .i64 2), (.string ⟨#[116, 97, 98, 108, 101]⟩), (.string ⟨#[]⟩), (.slice none 0 0), (.slice none 0 0)] 28 (0, 0), false) ::
  (.cells #[(.int .i64 2), (.string ⟨#[116, 97, 98, 108, 101]⟩), (.string ⟨#[]⟩), (.slice none 0 0), (.slice none 0 0)] 28 (0, 0), false) ::
  nl29
def na30 : List Value := [(.agg #[(.int .i64 1), (.string ⟨#[]⟩), (.string ⟨#[]⟩), (.slice none 0 0), (.slice (some ⟨250, 0, none⟩) 1 1)])]
theorem ne30 : fitE (callNow Tryd.prog (oM mlN) 1000000 6 na30 ⟨251, nl30⟩) (.bool true) ⟨251, nl30⟩ = true := by kernel_rfl
def nl31 : List (Obj × Bool) := (.cells #[(.int .i64 2), (.string ⟨#[104, 116, 109, 108]⟩), (.string ⟨#[]⟩), (.slice none 0 0), (.slice (some ⟨256, 0, none⟩) 2 2)] 28 (0, 0), false) ::
  (.cells #[(.int .i64 2), (.string ⟨#[104, 116, 109, 108]⟩), (.string ⟨#[]⟩), (.slice none 0 0), (.slice (some ⟨256, 0, none⟩) 2 2)] 28 (0, 0), false) ::
  (.cells #[(.int .i64 2), (.string ⟨#[104, 101, 97, 100]⟩), (.string ⟨#[]⟩), (.slice none 0 0), (.slice none 0 0), (.int .i64 2), (.string ⟨#[98, 111, 100, 121]⟩), (.string ⟨#[]⟩), (.slice none 0 0), (.slice (some ⟨252, 0, none⟩) 1 1)] 28 (0, 0), false) ::
  (.cells #[(.int .i64 2), (.string ⟨#[98, 111, 100, 121]⟩), (.string ⟨#[]⟩), (.slice none 0 0), (.slice (some ⟨252, 0, none⟩) 1 1)] 28 (0, 0), false) ::
  (.cells #[(.int .i64 2), (.string ⟨#[104, 101, 97, 100]⟩), (.string ⟨#[]⟩), (.slice none 0 0), (.slice none 0 0)] 28 (0, 0), false) ::
  (.cells #[(.int .i64 1), (.string ⟨#[]⟩), (.string ⟨#[]⟩), (.slice none 0 0), (.slice (some ⟨258, 0, none⟩) 1 1)] 28 (0, 0), false) ::
  (.cells #[(.int .i64 2), (.string ⟨#[98, 117, 116, 116, 111, 110]⟩), (.string ⟨#[]⟩), (.slice none 0 0), (.slice none 0 0)] 28 (0, 0), false) ::
  (.cells #[(.int .i64 2), (.string ⟨#[98, 117, 116, 116, 111, 110]⟩), (.string ⟨#[]⟩), (.slice none 0 0), (.slice none 0 0)] 28 (0, 0), false) ::
  nl30
def na31 : List Value := [(.agg #[(.int .i64 1), (.string ⟨#[]⟩), (.string ⟨#[]⟩), (.slice none 0 0), (.slice (some ⟨258, 0, none⟩) 1 1)])]
theorem ne31 : fitE (callNow Tryd.prog (oM mlN) 1000000 6 na31 ⟨259, nl31⟩) (.bool true) ⟨259, nl31⟩ = true := by kernel_rfl
abbrev nO : Ev.Orc := orcOr (orcE 6 na0 ⟨11, nl0⟩ (.bool false)) (orcOr (orcE 6 na1 ⟨19, nl1⟩ (.bool false)) (orcOr (orcE 6 na2 ⟨27, nl2⟩ (.bool false)) (orcOr (orcE 6 na3 ⟨35, nl3⟩ (.bool false)) (orcOr (orcE 6 na4 ⟨43, nl4⟩ (.bool false)) (orcOr (orcE 6 na5 ⟨51, nl5⟩ (.bool false)) (orcOr (orcE 6 na6 ⟨59, nl6⟩ (.bool false)) (orcOr (orcE 6 na7 ⟨67, nl7⟩ (.bool false)) (orcOr (orcE 6 na8 ⟨75, nl8⟩ (.bool false)) (orcOr (orcE 6 na9 ⟨83, nl9⟩ (.bool false)) (orcOr (orcE 6 na10 ⟨91, nl10⟩ (.bool false)) (orcOr (orcE 6 na11 ⟨99, nl11⟩ (.bool false)) (orcOr (orcE 6 na12 ⟨107, nl12⟩ (.bool false)) (orcOr (orcE 6 na13 ⟨115, nl13⟩ (.bool false)) (orcOr (orcE 6 na14 ⟨123, nl14⟩ (.bool false)) (orcOr (orcE 6 na15 ⟨131, nl15⟩ (.bool false)) (orcOr (orcE 6 na16 ⟨139, nl16⟩ (.bool false)) (orcOr (orcE 6 na17 ⟨147, nl17⟩ (.bool false)) (orcOr (orcE 6 na18 ⟨155, nl18⟩ (.bool true)) (orcOr (orcE 6 na19 ⟨163, nl19⟩ (.bool true)) (orcOr (orcE 6 na20 ⟨171, nl20⟩ (.bool true)) (orcOr (orcE 6 na21 ⟨179, nl21⟩ (.bool true)) (orcOr (orcE 6 na22 ⟨187, nl22⟩ (.bool true)) (orcOr (orcE 6 na23 ⟨195, nl23⟩ (.bool true)) (orcOr (orcE 6 na24 ⟨203, nl24⟩ (.bool true)) (orcOr (orcE 6 na25 ⟨211, nl25⟩ (.bool true)) (orcOr (orcE 6 na26 ⟨219, nl26⟩ (.bool true)) (orcOr (orcE 6 na27 ⟨227, nl27⟩ (.bool true)) (orcOr (orcE 6 na28 ⟨235, nl28⟩ (.bool true)) (orcOr (orcE 6 na29 ⟨243, nl29⟩ (.bool true)) (orcOr (orcE 6 na30 ⟨251, nl30⟩ (.bool true)) (orcOr (orcE 6 na31 ⟨259, nl31⟩ (.bool true)) (orcOr (orcB 9 [] (.bool true) bc 3) (oM mlN)))))))))))))))))))))))))))))))))
theorem nm : saysB (callNow Tryd.prog nO 1000000 3 [] (baseH bc 3)) bc 3 = true := by kernel_rfl
theorem nok [Inhabited Ev.Env] (hI : Ev.OrcS Tryd.prog ((oM mlN))) (hM : Ev.OrcS Tryd.prog (orcOr (orcB 9 [] (.bool true) bc 3) (oM mlN))) : Ev.OrcS Tryd.prog nO :=
  (Ev.orcOr_ok (Ev.orcE_ok mixed hI (by rw [← Ev.callNow_eq]; exact ne0)) (Ev.orcOr_ok (Ev.orcE_ok mixed hI (by rw [← Ev.callNow_eq]; exact ne1)) (Ev.orcOr_ok (Ev.orcE_ok mixed hI (by rw [← Ev.callNow_eq]; exact ne2)) (Ev.orcOr_ok (Ev.orcE_ok mixed hI (by rw [← Ev.callNow_eq]; exact ne3)) (Ev.orcOr_ok (Ev.orcE_ok mixed hI (by rw [← Ev.callNow_eq]; exact ne4)) (Ev.orcOr_ok (Ev.orcE_ok mixed hI (by rw [← Ev.callNow_eq]; exact ne5)) (Ev.orcOr_ok (Ev.orcE_ok mixed hI (by rw [← Ev.callNow_eq]; exact ne6)) (Ev.orcOr_ok (Ev.orcE_ok mixed hI (by rw [← Ev.callNow_eq]; exact ne7)) (Ev.orcOr_ok (Ev.orcE_ok mixed hI (by rw [← Ev.callNow_eq]; exact ne8)) (Ev.orcOr_ok (Ev.orcE_ok mixed hI (by rw [← Ev.callNow_eq]; exact ne9)) (Ev.orcOr_ok (Ev.orcE_ok mixed hI (by rw [← Ev.callNow_eq]; exact ne10)) (Ev.orcOr_ok (Ev.orcE_ok mixed hI (by rw [← Ev.callNow_eq]; exact ne11)) (Ev.orcOr_ok (Ev.orcE_ok mixed hI (by rw [← Ev.callNow_eq]; exact ne12)) (Ev.orcOr_ok (Ev.orcE_ok mixed hI (by rw [← Ev.callNow_eq]; exact ne13)) (Ev.orcOr_ok (Ev.orcE_ok mixed hI (by rw [← Ev.callNow_eq]; exact ne14)) (Ev.orcOr_ok (Ev.orcE_ok mixed hI (by rw [← Ev.callNow_eq]; exact ne15)) (Ev.orcOr_ok (Ev.orcE_ok mixed hI (by rw [← Ev.callNow_eq]; exact ne16)) (Ev.orcOr_ok (Ev.orcE_ok mixed hI (by rw [← Ev.callNow_eq]; exact ne17)) (Ev.orcOr_ok (Ev.orcE_ok mixed hI (by rw [← Ev.callNow_eq]; exact ne18)) (Ev.orcOr_ok (Ev.orcE_ok mixed hI (by rw [← Ev.callNow_eq]; exact ne19)) (Ev.orcOr_ok (Ev.orcE_ok mixed hI (by rw [← Ev.callNow_eq]; exact ne20)) (Ev.orcOr_ok (Ev.orcE_ok mixed hI (by rw [← Ev.callNow_eq]; exact ne21)) (Ev.orcOr_ok (Ev.orcE_ok mixed hI (by rw [← Ev.callNow_eq]; exact ne22)) (Ev.orcOr_ok (Ev.orcE_ok mixed hI (by rw [← Ev.callNow_eq]; exact ne23)) (Ev.orcOr_ok (Ev.orcE_ok mixed hI (by rw [← Ev.callNow_eq]; exact ne24)) (Ev.orcOr_ok (Ev.orcE_ok mixed hI (by rw [← Ev.callNow_eq]; exact ne25)) (Ev.orcOr_ok (Ev.orcE_ok mixed hI (by rw [← Ev.callNow_eq]; exact ne26)) (Ev.orcOr_ok (Ev.orcE_ok mixed hI (by rw [← Ev.callNow_eq]; exact ne27)) (Ev.orcOr_ok (Ev.orcE_ok mixed hI (by rw [← Ev.callNow_eq]; exact ne28)) (Ev.orcOr_ok (Ev.orcE_ok mixed hI (by rw [← Ev.callNow_eq]; exact ne29)) (Ev.orcOr_ok (Ev.orcE_ok mixed hI (by rw [← Ev.callNow_eq]; exact ne30)) (Ev.orcOr_ok (Ev.orcE_ok mixed hI (by rw [← Ev.callNow_eq]; exact ne31)) hM))))))))))))))))))))))))))))))))
end Go.Proofs.YtoiibhjenckooabDoor.Runs
