/- The document's example and two trees, reckoned by the kernel. -/
import Derived.Test.YtkojhgagkoeeiaaEB
import Derived.Test.YtkojhgagkoeeiaaRows
set_option linter.unusedVariables false
namespace Go.Proofs.Ytkojhgagkoeeiaa.Runs
open Go.Ev (noOrc orcOr orcC orcD callNow saysTrue fitC)
def mlA : Ev.Memo := [(82, [([.string ⟨#[]⟩], .int .u64 0),
    ([.string ⟨#[97]⟩], .int .u64 10286738107489768134)]),
  (74, [([.int .u64 1, .int .u64 0], .int .u64 14373476733088939230),
    ([.int .u64 14373476733088939230, .int .u64 0], .int .u64 1934304035460210827),
    ([.int .u64 1934304035460210827, .int .u64 0], .int .u64 18347514153648137513),
    ([.int .u64 18347514153648137513, .int .u64 1], .int .u64 5904815215467119874),
    ([.int .u64 3, .int .u64 0], .int .u64 6086068088759072405),
    ([.int .u64 6086068088759072405, .int .u64 10286738107489768134], .int .u64 14185571837692065313),
    ([.int .u64 14185571837692065313, .int .u64 0], .int .u64 12039763747494675555),
    ([.int .u64 12039763747494675555, .int .u64 0], .int .u64 11630176280187995383),
    ([.int .u64 5904815215467119874, .int .u64 11630176280187995383], .int .u64 4834644904960748076)])]
theorem mlA_ok : Ev.okM Try.prog noOrc 1000000 mlA = true := by kernel_rfl
theorem runA : fitC (callNow Try.prog (orcD mlA) 1000000 8 [] ⟨0, []⟩) (.bool true) = true := by kernel_rfl
end Go.Proofs.Ytkojhgagkoeeiaa.Runs
namespace Go.Proofs.Ytkojhgagkoeeiaa
open Go.RowKit
theorem mixed : Try.prog.follows .mixedOrders = true := Try.checked.mixed
theorem awake19_true (W : World) : Calls Try.prog 8 #[] W fun e W' => e = .returned (.bool true) ∧ Below W.heap.size W W' := by
  letI : Inhabited Ev.Env := ⟨⟨fun _ => 0, none⟩⟩
  have hs : Ev.saysTrue (Ev.evalCall Try.prog (Ev.orcD Runs.mlA) 1000000 8 [] ⟨0, []⟩) = true := by
    have h := Runs.runA
    rw [Ev.callNow_eq] at h
    unfold Ev.fitC at h
    split at h
    · rename_i u H' he
      rw [he]
      have h1 := (Ev.and2 h).1
      have := Ev.same1_eq h1
      subst this
      rfl
    · cases h
  exact Ev.closed_true rfl mixed (Ev.orcD_ok0 rfl mixed Ev.noOrc_ok Runs.mlA_ok) hs W
end Go.Proofs.Ytkojhgagkoeeiaa
