/- Place: any number as one of so many. -/
import Derived.Test.YtpnlcopohnjbeaaGreatDoorEvY
import Derived.Test.YtpnlcopohnjbeaaGreatDoorEvW
import Derived.Test.YtpnlcopohnjbeaaGreatDoorRows
import Derived.WalkKit
import Derived.Below
import Derived.Handy
set_option linter.unusedVariables false
namespace Go.Proofs.YtpnlcopohnjbeaaGreatDoor
open Go.RowKit
structure Fact (p : Prop) : Prop where out : p
theorem ret_int {k : IntKind} {a b : Int} (h : a = b) : Ending.returned (.int k a) = .returned (.int k b) := by rw [h]
/-- Place of a number among so many -/
def pl (v : Int) (n : Nat) : Nat := if v.tmod n < 0 then (v.tmod n + n).toNat else (v.tmod n).toNat
theorem pl_lt (v : Int) (n : Nat) (hn : 0 < n) : pl v n < n := by
  have h1 : -(n : Int) < v.tmod n := by have := Int.lt_tmod_of_pos v (show (0 : Int) < n by omega); omega
  have h2 : v.tmod n < n := Int.tmod_lt_of_pos v (by omega)
  unfold pl
  split <;> omega
set_option maxRecDepth 20000 in
set_option maxHeartbeats 1000000 in
theorem place_pl (v : Int) (n : Nat) (w : World) (hn : 0 < n) (hm : n ≤ 9223372036854775807) :
    Calls Tryz.prog 7 #[.int .i64 v, .int .i64 n] w fun e w' => e = .returned (.int .i64 (pl v n)) ∧ w' = w := by
  have h1 : -(n : Int) < v.tmod n := by have := Int.lt_tmod_of_pos v (show (0 : Int) < n by omega); omega
  have h2 : v.tmod n < n := Int.tmod_lt_of_pos v (by omega)
  have hn0 : ¬ (n : Int) = 0 := by omega
  have hp : (if v.tmod n < 0 then (v.tmod n + n).toNat else (v.tmod n).toNat) = pl v n := rfl
  have HP := Fact.mk hp
  clear hp
  obtain ⟨t, ht⟩ : ∃ t, v.tmod n = t := ⟨_, rfl⟩
  rw [ht] at h1 h2 HP
  by_cases h3 : t < 0
  · go_enter Tryz.func7, Tryz.ntmps7
    go_wp2
    go_ret
    exact ⟨ret_int (by rw [← HP.out, if_pos h3]; omega), rfl⟩
  · go_enter Tryz.func7, Tryz.ntmps7
    go_wp2
    go_ret
    exact ⟨ret_int (by rw [← HP.out, if_neg (by omega)]; omega), rfl⟩
theorem mixed : Tryz.prog.follows .mixedOrders = true := Tryz.checked.mixed
/-- what is known of Place at an unknown -/
theorem place_orc [Inhabited Ev.Env] (i n k : Nat) (hn : 0 < n) (hm : n ≤ 9223372036854775807) (h : pl ((default : Ev.Env).val i) n = k) :
    Ev.OrcS Tryz.prog (Ev.orcC 7 [.chan (some i), .int .i64 n] (.int .i64 k)) :=
  Ev.orcU_ok rfl (fun _ _ h => Ev.two_args h) (fun w => (place_pl _ n w hn hm).mono (by rintro e w' ⟨h1, h2⟩; rw [h] at h1; exact ⟨h1, h2⟩))
/-- a run told by the quicker form -/
theorem run_now [Inhabited Ev.Env] {P : Program} {orc : Ev.Orc} (hm : P.follows .mixedOrders = true) (hO : Ev.OrcS P orc) {F : Nat} {f : FuncId} {args args' : List Value} (ha : Ev.VL (fun _ => none) args args') (h : Ev.saysTrue (Ev.callNow P orc F f args ⟨0, []⟩) = true) (w : World) :
    Calls P f ⟨args'⟩ w fun e w' => e = .returned (.bool true) ∧ Below w.heap.size w w' := by
  rw [Ev.callNow_eq] at h
  exact Ev.args_true hm hO ha h w
theorem orc_now [Inhabited Ev.Env] {P : Program} {orc : Ev.Orc} (hm : P.follows .mixedOrders = true) (hO : Ev.OrcS P orc) {F : Nat} {f0 : FuncId} {args0 : List Value} {v : Value} (hcl : Ev.cloAll args0 = true) (he : Ev.fitC (Ev.callNow P orc F f0 args0 ⟨0, []⟩) v = true) : Ev.OrcS P (Ev.orcC f0 args0 v) := by
  rw [Ev.callNow_eq] at he
  exact Ev.orcC_ok hm hO hcl he
end Go.Proofs.YtpnlcopohnjbeaaGreatDoor
