/- The map that the program makes of its places, and what a few calls of plain things say: reckoned by the kernel. -/
import Derived.Test.YtoiibhjenckooaaDoorEvDr
import Derived.Test.YtoiibhjenckooaaDoorBx
namespace Go.Proofs.YtoiibhjenckooaaDoor.Runs
open Go.Ev (noOrc orcOr orcB orcC orcD orcE orcM callNow baseH deadH fitB fitE saysB dead)
theorem es_ok : Ev.mapOf (callNow Tryd.prog noOrc 1000000 33 [] deadH) = some (.map es0 54, false) := by kernel_rfl
def mlA : Ev.Memo := [(22, [([.string ⟨#[97]⟩], .bool true),
    ([.string ⟨#[97, 45, 98]⟩], .bool true)]),
  (25, [([.string ⟨#[104, 116, 109, 108]⟩], .bool true),
    ([.string ⟨#[104, 101, 97, 100]⟩], .bool true),
    ([.string ⟨#[98, 111, 100, 121]⟩], .bool true),
    ([.string ⟨#[112]⟩], .bool true),
    ([.string ⟨#[100, 105, 118]⟩], .bool true)]),
  (41, [([.string ⟨#[97]⟩, .bool false], .string ⟨#[97]⟩)]),
  (43, [([.string ⟨#[104, 116, 109, 108]⟩, .int .i64 1], .bool false),
    ([.string ⟨#[104, 101, 97, 100]⟩, .int .i64 1], .bool false),
    ([.string ⟨#[98, 111, 100, 121]⟩, .int .i64 1], .bool false),
    ([.string ⟨#[112]⟩, .int .i64 1], .bool false),
    ([.string ⟨#[104, 116, 109, 108]⟩, .int .i64 5], .bool false),
    ([.string ⟨#[104, 101, 97, 100]⟩, .int .i64 5], .bool false),
    ([.string ⟨#[98, 111, 100, 121]⟩, .int .i64 5], .bool false),
    ([.string ⟨#[112]⟩, .int .i64 5], .bool false),
    ([.string ⟨#[100, 105, 118]⟩, .int .i64 1], .bool false),
    ([.string ⟨#[100, 105, 118]⟩, .int .i64 6], .bool true)]),
  (44, [([.string ⟨#[104, 116, 109, 108]⟩], .int .i64 0),
    ([.string ⟨#[104, 101, 97, 100]⟩], .int .i64 0),
    ([.string ⟨#[98, 111, 100, 121]⟩], .int .i64 0),
    ([.string ⟨#[112]⟩], .int .i64 0),
    ([.string ⟨#[100, 105, 118]⟩], .int .i64 0)]),
  (46, [([.string ⟨#[104, 116, 109, 108]⟩], .bool true),
    ([.string ⟨#[104, 101, 97, 100]⟩], .bool true),
    ([.string ⟨#[98, 111, 100, 121]⟩], .bool true),
    ([.string ⟨#[112]⟩], .bool true)])]
theorem mlA_ok : Ev.okM Tryd.prog noOrc 1000000 mlA = true := by kernel_rfl
abbrev oM (L : Ev.Memo) : Ev.Orc := orcOr (orcM 33 es0 54) (orcD L)
end Go.Proofs.YtoiibhjenckooaaDoor.Runs
