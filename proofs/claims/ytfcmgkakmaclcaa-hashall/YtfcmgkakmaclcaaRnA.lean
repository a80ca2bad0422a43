/- The document's example and two trees, reckoned by the kernel. -/
import Derived.Test.YtfcmgkakmaclcaaEB
import Derived.Test.YtfcmgkakmaclcaaRows
set_option linter.unusedVariables false
namespace Go.Proofs.Ytfcmgkakmaclcaa.Runs
open Go.Ev (noOrc orcOr orcC orcD callNow saysTrue fitC)
def mlA : Ev.Memo := [(14, [([.string ⟨#[]⟩], .int .u64 0),
    ([.string ⟨#[97]⟩], .int .u64 10286738107489768134),
    ([.string ⟨#[98]⟩], .int .u64 11616671296556501342)]),
  (26, [([.int .u64 3, .int .u64 0], .int .u64 6086068088759072405),
    ([.int .u64 6086068088759072405, .int .u64 10286738107489768134], .int .u64 14185571837692065313),
    ([.int .u64 14185571837692065313, .int .u64 0], .int .u64 12039763747494675555),
    ([.int .u64 12039763747494675555, .int .u64 0], .int .u64 11630176280187995383),
    ([.int .u64 6086068088759072405, .int .u64 11616671296556501342], .int .u64 15816479332856268157),
    ([.int .u64 15816479332856268157, .int .u64 0], .int .u64 3485225801952679865),
    ([.int .u64 3485225801952679865, .int .u64 0], .int .u64 722805165388460431)])]
theorem mlA_ok : Ev.okM Try.prog noOrc 1000000 mlA = true := by kernel_rfl
theorem runA : fitC (callNow Try.prog (orcD mlA) 1000000 10 [] ⟨0, []⟩) (.bool true) = true := by kernel_rfl
end Go.Proofs.Ytfcmgkakmaclcaa.Runs
namespace Go.Proofs.Ytfcmgkakmaclcaa
open Go.RowKit
theorem mixed : Try.prog.follows .mixedOrders = true := Try.checked.mixed
theorem awake_orc [Inhabited Ev.Env] (hb : (default : Ev.Env).base = none) : Ev.OrcS Try.prog (Ev.orcC 10 [] (.bool true)) :=
  Ev.orcC_ok hb mixed (Ev.orcD_ok0 hb mixed Ev.noOrc_ok Runs.mlA_ok) rfl (by rw [← Ev.callNow_eq]; exact Runs.runA)
theorem awake18_true (W : World) : Calls Try.prog 10 #[] W fun e W' => e = .returned (.bool true) ∧ Below W.heap.size W W' := by
  letI : Inhabited Ev.Env := ⟨⟨fun _ => 0, none⟩⟩
  have hs : Ev.saysTrue (Ev.evalCall Try.prog (Ev.orcD Runs.mlA) 1000000 10 [] ⟨0, []⟩) = true := by
    have h := Runs.runA
    rw [Ev.callNow_eq] at h
    unfold Ev.fitC at h
    split at h
    · rename_i u H' he
      rw [he]
      have h1 := (Ev.and2 h).1
      have := Ev.same1_eq h1
      subst this
      rfl
    · cases h
  exact Ev.closed_true rfl mixed (Ev.orcD_ok0 rfl mixed Ev.noOrc_ok Runs.mlA_ok) hs W
end Go.Proofs.Ytfcmgkakmaclcaa
