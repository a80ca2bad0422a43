/- Runs of PlainTexts, reckoned by the kernel, one for each way its numbers may fall, cut at each call of Plain. -/
import Derived.Test.YtoiibhjenckooabDoorEvDr
import Derived.Test.YtoiibhjenckooabDoorRM
namespace Go.Proofs.YtoiibhjenckooabDoor.Runs
open Go.Ev (noOrc orcOr orcB orcC orcD orcE orcM callNow baseH deadH fitB fitE saysB dead)
def x2_1_l0 : List (Obj × Bool) := [(.cells #[(.int .i64 2), (.string ⟨#[104, 116, 109, 108]⟩), (.string ⟨#[]⟩), (.slice none 0 0), (.slice (some ⟨16, 0, none⟩) 2 2)] 28 (0, 0), false),
  (.cells #[(.int .i64 2), (.string ⟨#[104, 116, 109, 108]⟩), (.string ⟨#[]⟩), (.slice none 0 0), (.slice (some ⟨16, 0, none⟩) 2 2)] 28 (0, 0), false),
  (.cells #[(.int .i64 2), (.string ⟨#[104, 101, 97, 100]⟩), (.string ⟨#[]⟩), (.slice none 0 0), (.slice none 0 0), (.int .i64 2), (.string ⟨#[98, 111, 100, 121]⟩), (.string ⟨#[]⟩), (.slice none 0 0), (.slice (some ⟨6, 0, none⟩) 4 2199023255552)] 28 (0, 0), false),
  (.cells #[(.int .i64 2), (.string ⟨#[98, 111, 100, 121]⟩), (.string ⟨#[]⟩), (.slice none 0 0), (.slice (some ⟨6, 0, none⟩) 4 2199023255552)] 28 (0, 0), false),
  (.cells #[(.int .i64 2), (.string ⟨#[104, 101, 97, 100]⟩), (.string ⟨#[]⟩), (.slice none 0 0), (.slice none 0 0)] 28 (0, 0), false),
  (.cells #[(.int .i64 1), (.string ⟨#[]⟩), (.string ⟨#[]⟩), (.slice none 0 0), (.slice (some ⟨18, 0, none⟩) 1 1)] 28 (0, 0), false),
  (.cells #[(.int .i64 3), (.string ⟨#[]⟩), (.string ⟨#[97]⟩), (.slice none 0 0), (.slice none 0 0), (.int .i64 2), (.string ⟨#[98, 114]⟩), (.string ⟨#[]⟩), (.slice none 0 0), (.slice none 0 0), (.int .i64 3), (.string ⟨#[]⟩), (.string ⟨#[10, 98]⟩), (.slice none 0 0), (.slice none 0 0), (.int .i64 2), (.string ⟨#[98, 114]⟩), (.string ⟨#[]⟩), (.slice none 0 0), (.slice none 0 0)] 28 (0, 0), true),
  (.cells #[(.int .i64 3), (.string ⟨#[]⟩), (.string ⟨#[97]⟩), (.slice none 0 0), (.slice none 0 0), (.int .i64 2), (.string ⟨#[98, 114]⟩), (.string ⟨#[]⟩), (.slice none 0 0), (.slice none 0 0), (.int .i64 3), (.string ⟨#[]⟩), (.string ⟨#[97, 13, 98]⟩), (.slice none 0 0), (.slice none 0 0), (.int .i64 2), (.string ⟨#[98, 114]⟩), (.string ⟨#[]⟩), (.slice none 0 0), (.slice none 0 0)] 28 (0, 0), true),
  (.cells #[(.int .i64 3), (.string ⟨#[]⟩), (.string ⟨#[97]⟩), (.slice none 0 0), (.slice none 0 0), (.int .i64 2), (.string ⟨#[98, 114]⟩), (.string ⟨#[]⟩), (.slice none 0 0), (.slice none 0 0), (.int .i64 3), (.string ⟨#[]⟩), (.string ⟨#[98]⟩), (.slice none 0 0), (.slice none 0 0), (.int .i64 3), (.string ⟨#[]⟩), (.string ⟨#[97]⟩), (.slice none 0 0), (.slice none 0 0), (.int .i64 2), (.string ⟨#[98, 114]⟩), (.string ⟨#[]⟩), (.slice none 0 0), (.slice none 0 0)] 28 (0, 0), true),
  dead,
  dead,
  (.cells #[(.int .i64 3), (.string ⟨#[]⟩), (.string ⟨#[98]⟩), (.slice none 0 0), (.slice none 0 0)] 28 (0, 0), false),
  (.cells #[(.int .i64 3), (.string ⟨#[]⟩), (.string ⟨#[97]⟩), (.slice none 0 0), (.slice none 0 0), (.int .i64 2), (.string ⟨#[98, 114]⟩), (.string ⟨#[]⟩), (.slice none 0 0), (.slice none 0 0), (.int .i64 3), (.string ⟨#[]⟩), (.string ⟨#[97]⟩), (.slice none 0 0), (.slice none 0 0), (.int .i64 2), (.string ⟨#[98, 114]⟩), (.string ⟨#[]⟩), (.slice none 0 0), (.slice none 0 0)] 28 (0, 0), true),
  (.cells #[(.int .i64 3), (.string ⟨#[]⟩), (.string ⟨#[97]⟩), (.slice none 0 0), (.slice none 0 0), (.int .i64 2), (.string ⟨#[98, 114]⟩), (.string ⟨#[]⟩), (.slice none 0 0), (.slice none 0 0)] 28 (0, 0), false),
  (.cells #[(.int .i64 2), (.string ⟨#[98, 114]⟩), (.string ⟨#[]⟩), (.slice none 0 0), (.slice none 0 0)] 28 (0, 0), false),
  dead,
  (.cells #[(.int .i64 3), (.string ⟨#[]⟩), (.string ⟨#[97]⟩), (.slice none 0 0), (.slice none 0 0), (.int .i64 2), (.string ⟨#[98, 114]⟩), (.string ⟨#[]⟩), (.slice none 0 0), (.slice none 0 0)] 28 (0, 0), false),
  (.cells #[(.int .i64 2), (.string ⟨#[98, 114]⟩), (.string ⟨#[]⟩), (.slice none 0 0), (.slice none 0 0)] 28 (0, 0), false),
  (.cells #[(.chan (some 7))] 3 (0, 0), false)]
def x2_1_a0 : List Value := [(.agg #[(.int .i64 1), (.string ⟨#[]⟩), (.string ⟨#[]⟩), (.slice none 0 0), (.slice (some ⟨18, 0, none⟩) 1 1)])]
theorem x2_1_e0 : fitE (callNow Tryd.prog (orcOr (idxA ⟨#[97, 13, 98]⟩ ⟨#[194, 160]⟩ (-1)) (oM mlX)) 1000000 6 x2_1_a0 ⟨19, x2_1_l0⟩) (.bool true) ⟨19, x2_1_l0⟩ = true := by kernel_rfl
def x2_1_l1 : List (Obj × Bool) := (.cells #[(.int .i64 2), (.string ⟨#[104, 116, 109, 108]⟩), (.string ⟨#[]⟩), (.slice none 0 0), (.slice (some ⟨22, 0, none⟩) 2 2)] 28 (0, 0), false) ::
  (.cells #[(.int .i64 2), (.string ⟨#[104, 116, 109, 108]⟩), (.string ⟨#[]⟩), (.slice none 0 0), (.slice (some ⟨22, 0, none⟩) 2 2)] 28 (0, 0), false) ::
  (.cells #[(.int .i64 2), (.string ⟨#[104, 101, 97, 100]⟩), (.string ⟨#[]⟩), (.slice none 0 0), (.slice none 0 0), (.int .i64 2), (.string ⟨#[98, 111, 100, 121]⟩), (.string ⟨#[]⟩), (.slice none 0 0), (.slice (some ⟨10, 0, none⟩) 5 2199023255552)] 28 (0, 0), false) ::
  (.cells #[(.int .i64 2), (.string ⟨#[98, 111, 100, 121]⟩), (.string ⟨#[]⟩), (.slice none 0 0), (.slice (some ⟨10, 0, none⟩) 5 2199023255552)] 28 (0, 0), false) ::
  (.cells #[(.int .i64 2), (.string ⟨#[104, 101, 97, 100]⟩), (.string ⟨#[]⟩), (.slice none 0 0), (.slice none 0 0)] 28 (0, 0), false) ::
  (.cells #[(.int .i64 1), (.string ⟨#[]⟩), (.string ⟨#[]⟩), (.slice none 0 0), (.slice (some ⟨24, 0, none⟩) 1 1)] 28 (0, 0), false) ::
  x2_1_l0
def x2_1_a1 : List Value := [(.agg #[(.int .i64 1), (.string ⟨#[]⟩), (.string ⟨#[]⟩), (.slice none 0 0), (.slice (some ⟨24, 0, none⟩) 1 1)])]
theorem x2_1_e1 : fitE (callNow Tryd.prog (orcOr (idxA ⟨#[97, 13, 98]⟩ ⟨#[194, 160]⟩ (-1)) (oM mlX)) 1000000 6 x2_1_a1 ⟨25, x2_1_l1⟩) (.bool false) ⟨25, x2_1_l1⟩ = true := by kernel_rfl
def x2_1_l2 : List (Obj × Bool) := (.cells #[(.int .i64 2), (.string ⟨#[104, 116, 109, 108]⟩), (.string ⟨#[]⟩), (.slice none 0 0), (.slice (some ⟨28, 0, none⟩) 2 2)] 28 (0, 0), false) ::
  (.cells #[(.int .i64 2), (.string ⟨#[104, 116, 109, 108]⟩), (.string ⟨#[]⟩), (.slice none 0 0), (.slice (some ⟨28, 0, none⟩) 2 2)] 28 (0, 0), false) ::
  (.cells #[(.int .i64 2), (.string ⟨#[104, 101, 97, 100]⟩), (.string ⟨#[]⟩), (.slice none 0 0), (.slice none 0 0), (.int .i64 2), (.string ⟨#[98, 111, 100, 121]⟩), (.string ⟨#[]⟩), (.slice none 0 0), (.slice (some ⟨11, 0, none⟩) 4 2199023255552)] 28 (0, 0), false) ::
  (.cells #[(.int .i64 2), (.string ⟨#[98, 111, 100, 121]⟩), (.string ⟨#[]⟩), (.slice none 0 0), (.slice (some ⟨11, 0, none⟩) 4 2199023255552)] 28 (0, 0), false) ::
  (.cells #[(.int .i64 2), (.string ⟨#[104, 101, 97, 100]⟩), (.string ⟨#[]⟩), (.slice none 0 0), (.slice none 0 0)] 28 (0, 0), false) ::
  (.cells #[(.int .i64 1), (.string ⟨#[]⟩), (.string ⟨#[]⟩), (.slice none 0 0), (.slice (some ⟨30, 0, none⟩) 1 1)] 28 (0, 0), false) ::
  x2_1_l1
def x2_1_a2 : List Value := [(.agg #[(.int .i64 1), (.string ⟨#[]⟩), (.string ⟨#[]⟩), (.slice none 0 0), (.slice (some ⟨30, 0, none⟩) 1 1)])]
theorem x2_1_e2 : fitE (callNow Tryd.prog (orcOr (idxA ⟨#[97, 13, 98]⟩ ⟨#[194, 160]⟩ (-1)) (oM mlX)) 1000000 6 x2_1_a2 ⟨31, x2_1_l2⟩) (.bool false) ⟨31, x2_1_l2⟩ = true := by kernel_rfl
def x2_1_l3 : List (Obj × Bool) := (.cells #[(.int .i64 2), (.string ⟨#[104, 116, 109, 108]⟩), (.string ⟨#[]⟩), (.slice none 0 0), (.slice (some ⟨34, 0, none⟩) 2 2)] 28 (0, 0), false) ::
  (.cells #[(.int .i64 2), (.string ⟨#[104, 116, 109, 108]⟩), (.string ⟨#[]⟩), (.slice none 0 0), (.slice (some ⟨34, 0, none⟩) 2 2)] 28 (0, 0), false) ::
  (.cells #[(.int .i64 2), (.string ⟨#[104, 101, 97, 100]⟩), (.string ⟨#[]⟩), (.slice none 0 0), (.slice none 0 0), (.int .i64 2), (.string ⟨#[98, 111, 100, 121]⟩), (.string ⟨#[]⟩), (.slice none 0 0), (.slice (some ⟨12, 0, none⟩) 4 2199023255552)] 28 (0, 0), false) ::
  (.cells #[(.int .i64 2), (.string ⟨#[98, 111, 100, 121]⟩), (.string ⟨#[]⟩), (.slice none 0 0), (.slice (some ⟨12, 0, none⟩) 4 2199023255552)] 28 (0, 0), false) ::
  (.cells #[(.int .i64 2), (.string ⟨#[104, 101, 97, 100]⟩), (.string ⟨#[]⟩), (.slice none 0 0), (.slice none 0 0)] 28 (0, 0), false) ::
  (.cells #[(.int .i64 1), (.string ⟨#[]⟩), (.string ⟨#[]⟩), (.slice none 0 0), (.slice (some ⟨36, 0, none⟩) 1 1)] 28 (0, 0), false) ::
  x2_1_l2
def x2_1_a3 : List Value := [(.agg #[(.int .i64 1), (.string ⟨#[]⟩), (.string ⟨#[]⟩), (.slice none 0 0), (.slice (some ⟨36, 0, none⟩) 1 1)])]
theorem x2_1_e3 : fitE (callNow Tryd.prog (orcOr (idxA ⟨#[97, 13, 98]⟩ ⟨#[194, 160]⟩ (-1)) (oM mlX)) 1000000 6 x2_1_a3 ⟨37, x2_1_l3⟩) (.bool true) ⟨37, x2_1_l3⟩ = true := by kernel_rfl
def x2_1_l4 : List (Obj × Bool) := (.cells #[(.int .i64 2), (.string ⟨#[104, 116, 109, 108]⟩), (.string ⟨#[]⟩), (.slice none 0 0), (.slice (some ⟨42, 0, none⟩) 2 2)] 28 (0, 0), false) ::
  (.cells #[(.int .i64 2), (.string ⟨#[104, 116, 109, 108]⟩), (.string ⟨#[]⟩), (.slice none 0 0), (.slice (some ⟨42, 0, none⟩) 2 2)] 28 (0, 0), false) ::
  (.cells #[(.int .i64 2), (.string ⟨#[104, 101, 97, 100]⟩), (.string ⟨#[]⟩), (.slice none 0 0), (.slice none 0 0), (.int .i64 2), (.string ⟨#[98, 111, 100, 121]⟩), (.string ⟨#[]⟩), (.slice none 0 0), (.slice (some ⟨38, 0, none⟩) 1 1)] 28 (0, 0), false) ::
  (.cells #[(.int .i64 2), (.string ⟨#[98, 111, 100, 121]⟩), (.string ⟨#[]⟩), (.slice none 0 0), (.slice (some ⟨38, 0, none⟩) 1 1)] 28 (0, 0), false) ::
  (.cells #[(.int .i64 2), (.string ⟨#[104, 101, 97, 100]⟩), (.string ⟨#[]⟩), (.slice none 0 0), (.slice none 0 0)] 28 (0, 0), false) ::
  (.cells #[(.int .i64 1), (.string ⟨#[]⟩), (.string ⟨#[]⟩), (.slice none 0 0), (.slice (some ⟨44, 0, none⟩) 1 1)] 28 (0, 0), false) ::
  (.cells #[(.int .i64 2), (.string ⟨#[112, 114, 101]⟩), (.string ⟨#[]⟩), (.slice none 0 0), (.slice (some ⟨12, 0, none⟩) 4 2199023255552)] 28 (0, 0), false) ::
  (.cells #[(.int .i64 2), (.string ⟨#[112, 114, 101]⟩), (.string ⟨#[]⟩), (.slice none 0 0), (.slice (some ⟨12, 0, none⟩) 4 2199023255552)] 28 (0, 0), false) ::
  x2_1_l3
def x2_1_a4 : List Value := [(.agg #[(.int .i64 1), (.string ⟨#[]⟩), (.string ⟨#[]⟩), (.slice none 0 0), (.slice (some ⟨44, 0, none⟩) 1 1)])]
theorem x2_1_e4 : fitE (callNow Tryd.prog (orcOr (idxA ⟨#[97, 13, 98]⟩ ⟨#[194, 160]⟩ (-1)) (oM mlX)) 1000000 6 x2_1_a4 ⟨45, x2_1_l4⟩) (.bool true) ⟨45, x2_1_l4⟩ = true := by kernel_rfl
def x2_1_l5 : List (Obj × Bool) := (.cells #[(.int .i64 2), (.string ⟨#[104, 116, 109, 108]⟩), (.string ⟨#[]⟩), (.slice none 0 0), (.slice (some ⟨50, 0, none⟩) 2 2)] 28 (0, 0), false) ::
  (.cells #[(.int .i64 2), (.string ⟨#[104, 116, 109, 108]⟩), (.string ⟨#[]⟩), (.slice none 0 0), (.slice (some ⟨50, 0, none⟩) 2 2)] 28 (0, 0), false) ::
  (.cells #[(.int .i64 2), (.string ⟨#[104, 101, 97, 100]⟩), (.string ⟨#[]⟩), (.slice none 0 0), (.slice none 0 0), (.int .i64 2), (.string ⟨#[98, 111, 100, 121]⟩), (.string ⟨#[]⟩), (.slice none 0 0), (.slice (some ⟨46, 0, none⟩) 1 1)] 28 (0, 0), false) ::
  (.cells #[(.int .i64 2), (.string ⟨#[98, 111, 100, 121]⟩), (.string ⟨#[]⟩), (.slice none 0 0), (.slice (some ⟨46, 0, none⟩) 1 1)] 28 (0, 0), false) ::
  (.cells #[(.int .i64 2), (.string ⟨#[104, 101, 97, 100]⟩), (.string ⟨#[]⟩), (.slice none 0 0), (.slice none 0 0)] 28 (0, 0), false) ::
  (.cells #[(.int .i64 1), (.string ⟨#[]⟩), (.string ⟨#[]⟩), (.slice none 0 0), (.slice (some ⟨52, 0, none⟩) 1 1)] 28 (0, 0), false) ::
  (.cells #[(.int .i64 2), (.string ⟨#[100, 105, 118]⟩), (.string ⟨#[]⟩), (.slice none 0 0), (.slice (some ⟨12, 0, none⟩) 4 2199023255552)] 28 (0, 0), false) ::
  (.cells #[(.int .i64 2), (.string ⟨#[100, 105, 118]⟩), (.string ⟨#[]⟩), (.slice none 0 0), (.slice (some ⟨12, 0, none⟩) 4 2199023255552)] 28 (0, 0), false) ::
  x2_1_l4
def x2_1_a5 : List Value := [(.agg #[(.int .i64 1), (.string ⟨#[]⟩), (.string ⟨#[]⟩), (.slice none 0 0), (.slice (some ⟨52, 0, none⟩) 1 1)])]
theorem x2_1_e5 : fitE (callNow Tryd.prog (orcOr (idxA ⟨#[97, 13, 98]⟩ ⟨#[194, 160]⟩ (-1)) (oM mlX)) 1000000 6 x2_1_a5 ⟨53, x2_1_l5⟩) (.bool true) ⟨53, x2_1_l5⟩ = true := by kernel_rfl
abbrev x2_1_O : Ev.Orc := orcOr (orcE 6 x2_1_a0 ⟨19, x2_1_l0⟩ (.bool true)) (orcOr (orcE 6 x2_1_a1 ⟨25, x2_1_l1⟩ (.bool false)) (orcOr (orcE 6 x2_1_a2 ⟨31, x2_1_l2⟩ (.bool false)) (orcOr (orcE 6 x2_1_a3 ⟨37, x2_1_l3⟩ (.bool true)) (orcOr (orcE 6 x2_1_a4 ⟨45, x2_1_l4⟩ (.bool true)) (orcOr (orcE 6 x2_1_a5 ⟨53, x2_1_l5⟩ (.bool true)) (orcOr (orcC 10 [.chan (some 0), .int .i64 6] (.int .i64 1)) (orcOr (orcC 10 [.chan (some 1), .int .i64 2] (.int .i64 1)) (orcOr (orcB 9 [] (.bool true) bc 3) (orcOr (idxA ⟨#[97, 13, 98]⟩ ⟨#[194, 160]⟩ (-1)) (oM mlX))))))))))
theorem x2_1_m : saysB (callNow Tryd.prog x2_1_O 1000000 5 [.chan (some 0), .chan (some 1)] (baseH bc 3)) bc 3 = true := by kernel_rfl
theorem x2_1_ok [Inhabited Ev.Env] (hI : Ev.OrcS Tryd.prog ((orcOr (idxA ⟨#[97, 13, 98]⟩ ⟨#[194, 160]⟩ (-1)) (oM mlX)))) (hM : Ev.OrcS Tryd.prog (orcOr (orcC 10 [.chan (some 0), .int .i64 6] (.int .i64 1)) (orcOr (orcC 10 [.chan (some 1), .int .i64 2] (.int .i64 1)) (orcOr (orcB 9 [] (.bool true) bc 3) (orcOr (idxA ⟨#[97, 13, 98]⟩ ⟨#[194, 160]⟩ (-1)) (oM mlX)))))) : Ev.OrcS Tryd.prog x2_1_O :=
  (Ev.orcOr_ok (Ev.orcE_ok mixed hI (by rw [← Ev.callNow_eq]; exact x2_1_e0)) (Ev.orcOr_ok (Ev.orcE_ok mixed hI (by rw [← Ev.callNow_eq]; exact x2_1_e1)) (Ev.orcOr_ok (Ev.orcE_ok mixed hI (by rw [← Ev.callNow_eq]; exact x2_1_e2)) (Ev.orcOr_ok (Ev.orcE_ok mixed hI (by rw [← Ev.callNow_eq]; exact x2_1_e3)) (Ev.orcOr_ok (Ev.orcE_ok mixed hI (by rw [← Ev.callNow_eq]; exact x2_1_e4)) (Ev.orcOr_ok (Ev.orcE_ok mixed hI (by rw [← Ev.callNow_eq]; exact x2_1_e5)) hM))))))
def x3_0_l0 : List (Obj × Bool) := [(.cells #[(.int .i64 2), (.string ⟨#[104, 116, 109, 108]⟩), (.string ⟨#[]⟩), (.slice none 0 0), (.slice (some ⟨18, 0, none⟩) 2 2)] 28 (0, 0), false),
  (.cells #[(.int .i64 2), (.string ⟨#[104, 116, 109, 108]⟩), (.string ⟨#[]⟩), (.slice none 0 0), (.slice (some ⟨18, 0, none⟩) 2 2)] 28 (0, 0), false),
  (.cells #[(.int .i64 2), (.string ⟨#[104, 101, 97, 100]⟩), (.string ⟨#[]⟩), (.slice none 0 0), (.slice none 0 0), (.int .i64 2), (.string ⟨#[98, 111, 100, 121]⟩), (.string ⟨#[]⟩), (.slice none 0 0), (.slice (some ⟨9, 0, none⟩) 6 2199023255552)] 28 (0, 0), false),
  (.cells #[(.int .i64 2), (.string ⟨#[98, 111, 100, 121]⟩), (.string ⟨#[]⟩), (.slice none 0 0), (.slice (some ⟨9, 0, none⟩) 6 2199023255552)] 28 (0, 0), false),
  (.cells #[(.int .i64 2), (.string ⟨#[104, 101, 97, 100]⟩), (.string ⟨#[]⟩), (.slice none 0 0), (.slice none 0 0)] 28 (0, 0), false),
  (.cells #[(.int .i64 1), (.string ⟨#[]⟩), (.string ⟨#[]⟩), (.slice none 0 0), (.slice (some ⟨20, 0, none⟩) 1 1)] 28 (0, 0), false),
  (.cells #[(.int .i64 3), (.string ⟨#[]⟩), (.string ⟨#[10, 98]⟩), (.slice none 0 0), (.slice none 0 0), (.int .i64 2), (.string ⟨#[98, 114]⟩), (.string ⟨#[]⟩), (.slice none 0 0), (.slice none 0 0), (.int .i64 3), (.string ⟨#[]⟩), (.string ⟨#[97]⟩), (.slice none 0 0), (.slice none 0 0), (.int .i64 2), (.string ⟨#[98, 114]⟩), (.string ⟨#[]⟩), (.slice none 0 0), (.slice none 0 0), (.int .i64 3), (.string ⟨#[]⟩), (.string ⟨#[97]⟩), (.slice none 0 0), (.slice none 0 0), (.int .i64 2), (.string ⟨#[98, 114]⟩), (.string ⟨#[]⟩), (.slice none 0 0), (.slice none 0 0)] 28 (0, 0), true),
  (.cells #[(.int .i64 3), (.string ⟨#[]⟩), (.string ⟨#[97, 13, 98]⟩), (.slice none 0 0), (.slice none 0 0), (.int .i64 2), (.string ⟨#[98, 114]⟩), (.string ⟨#[]⟩), (.slice none 0 0), (.slice none 0 0), (.int .i64 3), (.string ⟨#[]⟩), (.string ⟨#[97]⟩), (.slice none 0 0), (.slice none 0 0), (.int .i64 2), (.string ⟨#[98, 114]⟩), (.string ⟨#[]⟩), (.slice none 0 0), (.slice none 0 0), (.int .i64 3), (.string ⟨#[]⟩), (.string ⟨#[97]⟩), (.slice none 0 0), (.slice none 0 0), (.int .i64 2), (.string ⟨#[98, 114]⟩), (.string ⟨#[]⟩), (.slice none 0 0), (.slice none 0 0)] 28 (0, 0), true),
  (.cells #[(.int .i64 3), (.string ⟨#[]⟩), (.string ⟨#[98]⟩), (.slice none 0 0), (.slice none 0 0), (.int .i64 3), (.string ⟨#[]⟩), (.string ⟨#[97]⟩), (.slice none 0 0), (.slice none 0 0), (.int .i64 2), (.string ⟨#[98, 114]⟩), (.string ⟨#[]⟩), (.slice none 0 0), (.slice none 0 0), (.int .i64 3), (.string ⟨#[]⟩), (.string ⟨#[97]⟩), (.slice none 0 0), (.slice none 0 0), (.int .i64 2), (.string ⟨#[98, 114]⟩), (.string ⟨#[]⟩), (.slice none 0 0), (.slice none 0 0), (.int .i64 3), (.string ⟨#[]⟩), (.string ⟨#[97]⟩), (.slice none 0 0), (.slice none 0 0), (.int .i64 2), (.string ⟨#[98, 114]⟩), (.string ⟨#[]⟩), (.slice none 0 0), (.slice none 0 0)] 28 (0, 0), true),
  dead,
  (.cells #[(.int .i64 3), (.string ⟨#[]⟩), (.string ⟨#[98]⟩), (.slice none 0 0), (.slice none 0 0)] 28 (0, 0), false),
  (.cells #[(.int .i64 3), (.string ⟨#[]⟩), (.string ⟨#[97]⟩), (.slice none 0 0), (.slice none 0 0), (.int .i64 2), (.string ⟨#[98, 114]⟩), (.string ⟨#[]⟩), (.slice none 0 0), (.slice none 0 0), (.int .i64 3), (.string ⟨#[]⟩), (.string ⟨#[97]⟩), (.slice none 0 0), (.slice none 0 0), (.int .i64 2), (.string ⟨#[98, 114]⟩), (.string ⟨#[]⟩), (.slice none 0 0), (.slice none 0 0), (.int .i64 3), (.string ⟨#[]⟩), (.string ⟨#[97]⟩), (.slice none 0 0), (.slice none 0 0), (.int .i64 2), (.string ⟨#[98, 114]⟩), (.string ⟨#[]⟩), (.slice none 0 0), (.slice none 0 0)] 28 (0, 0), true),
  (.cells #[(.int .i64 3), (.string ⟨#[]⟩), (.string ⟨#[97]⟩), (.slice none 0 0), (.slice none 0 0), (.int .i64 2), (.string ⟨#[98, 114]⟩), (.string ⟨#[]⟩), (.slice none 0 0), (.slice none 0 0)] 28 (0, 0), false),
  (.cells #[(.int .i64 2), (.string ⟨#[98, 114]⟩), (.string ⟨#[]⟩), (.slice none 0 0), (.slice none 0 0)] 28 (0, 0), false),
  dead,
  (.cells #[(.int .i64 3), (.string ⟨#[]⟩), (.string ⟨#[97]⟩), (.slice none 0 0), (.slice none 0 0), (.int .i64 2), (.string ⟨#[98, 114]⟩), (.string ⟨#[]⟩), (.slice none 0 0), (.slice none 0 0)] 28 (0, 0), false),
  (.cells #[(.int .i64 2), (.string ⟨#[98, 114]⟩), (.string ⟨#[]⟩), (.slice none 0 0), (.slice none 0 0)] 28 (0, 0), false),
  dead,
  (.cells #[(.int .i64 3), (.string ⟨#[]⟩), (.string ⟨#[97]⟩), (.slice none 0 0), (.slice none 0 0), (.int .i64 2), (.string ⟨#[98, 114]⟩), (.string ⟨#[]⟩), (.slice none 0 0), (.slice none 0 0)] 28 (0, 0), false),
  (.cells #[(.int .i64 2), (.string ⟨#[98, 114]⟩), (.string ⟨#[]⟩), (.slice none 0 0), (.slice none 0 0)] 28 (0, 0), false),
  (.cells #[(.chan (some 7))] 3 (0, 0), false)]
def x3_0_a0 : List Value := [(.agg #[(.int .i64 1), (.string ⟨#[]⟩), (.string ⟨#[]⟩), (.slice none 0 0), (.slice (some ⟨20, 0, none⟩) 1 1)])]
theorem x3_0_e0 : fitE (callNow Tryd.prog (orcOr (idxA ⟨#[97, 13, 98]⟩ ⟨#[194, 160]⟩ (-1)) (oM mlX)) 1000000 6 x3_0_a0 ⟨21, x3_0_l0⟩) (.bool true) ⟨21, x3_0_l0⟩ = true := by kernel_rfl
def x3_0_l1 : List (Obj × Bool) := (.cells #[(.int .i64 2), (.string ⟨#[104, 116, 109, 108]⟩), (.string ⟨#[]⟩), (.slice none 0 0), (.slice (some ⟨24, 0, none⟩) 2 2)] 28 (0, 0), false) ::
  (.cells #[(.int .i64 2), (.string ⟨#[104, 116, 109, 108]⟩), (.string ⟨#[]⟩), (.slice none 0 0), (.slice (some ⟨24, 0, none⟩) 2 2)] 28 (0, 0), false) ::
  (.cells #[(.int .i64 2), (.string ⟨#[104, 101, 97, 100]⟩), (.string ⟨#[]⟩), (.slice none 0 0), (.slice none 0 0), (.int .i64 2), (.string ⟨#[98, 111, 100, 121]⟩), (.string ⟨#[]⟩), (.slice none 0 0), (.slice (some ⟨12, 0, none⟩) 7 2199023255552)] 28 (0, 0), false) ::
  (.cells #[(.int .i64 2), (.string ⟨#[98, 111, 100, 121]⟩), (.string ⟨#[]⟩), (.slice none 0 0), (.slice (some ⟨12, 0, none⟩) 7 2199023255552)] 28 (0, 0), false) ::
  (.cells #[(.int .i64 2), (.string ⟨#[104, 101, 97, 100]⟩), (.string ⟨#[]⟩), (.slice none 0 0), (.slice none 0 0)] 28 (0, 0), false) ::
  (.cells #[(.int .i64 1), (.string ⟨#[]⟩), (.string ⟨#[]⟩), (.slice none 0 0), (.slice (some ⟨26, 0, none⟩) 1 1)] 28 (0, 0), false) ::
  x3_0_l0
def x3_0_a1 : List Value := [(.agg #[(.int .i64 1), (.string ⟨#[]⟩), (.string ⟨#[]⟩), (.slice none 0 0), (.slice (some ⟨26, 0, none⟩) 1 1)])]
theorem x3_0_e1 : fitE (callNow Tryd.prog (orcOr (idxA ⟨#[97, 13, 98]⟩ ⟨#[194, 160]⟩ (-1)) (oM mlX)) 1000000 6 x3_0_a1 ⟨27, x3_0_l1⟩) (.bool false) ⟨27, x3_0_l1⟩ = true := by kernel_rfl
def x3_0_l2 : List (Obj × Bool) := (.cells #[(.int .i64 2), (.string ⟨#[104, 116, 109, 108]⟩), (.string ⟨#[]⟩), (.slice none 0 0), (.slice (some ⟨30, 0, none⟩) 2 2)] 28 (0, 0), false) ::
  (.cells #[(.int .i64 2), (.string ⟨#[104, 116, 109, 108]⟩), (.string ⟨#[]⟩), (.slice none 0 0), (.slice (some ⟨30, 0, none⟩) 2 2)] 28 (0, 0), false) ::
  (.cells #[(.int .i64 2), (.string ⟨#[104, 101, 97, 100]⟩), (.string ⟨#[]⟩), (.slice none 0 0), (.slice none 0 0), (.int .i64 2), (.string ⟨#[98, 111, 100, 121]⟩), (.string ⟨#[]⟩), (.slice none 0 0), (.slice (some ⟨13, 0, none⟩) 6 2199023255552)] 28 (0, 0), false) ::
  (.cells #[(.int .i64 2), (.string ⟨#[98, 111, 100, 121]⟩), (.string ⟨#[]⟩), (.slice none 0 0), (.slice (some ⟨13, 0, none⟩) 6 2199023255552)] 28 (0, 0), false) ::
  (.cells #[(.int .i64 2), (.string ⟨#[104, 101, 97, 100]⟩), (.string ⟨#[]⟩), (.slice none 0 0), (.slice none 0 0)] 28 (0, 0), false) ::
  (.cells #[(.int .i64 1), (.string ⟨#[]⟩), (.string ⟨#[]⟩), (.slice none 0 0), (.slice (some ⟨32, 0, none⟩) 1 1)] 28 (0, 0), false) ::
  x3_0_l1
def x3_0_a2 : List Value := [(.agg #[(.int .i64 1), (.string ⟨#[]⟩), (.string ⟨#[]⟩), (.slice none 0 0), (.slice (some ⟨32, 0, none⟩) 1 1)])]
theorem x3_0_e2 : fitE (callNow Tryd.prog (orcOr (idxA ⟨#[97, 13, 98]⟩ ⟨#[194, 160]⟩ (-1)) (oM mlX)) 1000000 6 x3_0_a2 ⟨33, x3_0_l2⟩) (.bool false) ⟨33, x3_0_l2⟩ = true := by kernel_rfl
def x3_0_l3 : List (Obj × Bool) := (.cells #[(.int .i64 2), (.string ⟨#[104, 116, 109, 108]⟩), (.string ⟨#[]⟩), (.slice none 0 0), (.slice (some ⟨36, 0, none⟩) 2 2)] 28 (0, 0), false) ::
  (.cells #[(.int .i64 2), (.string ⟨#[104, 116, 109, 108]⟩), (.string ⟨#[]⟩), (.slice none 0 0), (.slice (some ⟨36, 0, none⟩) 2 2)] 28 (0, 0), false) ::
  (.cells #[(.int .i64 2), (.string ⟨#[104, 101, 97, 100]⟩), (.string ⟨#[]⟩), (.slice none 0 0), (.slice none 0 0), (.int .i64 2), (.string ⟨#[98, 111, 100, 121]⟩), (.string ⟨#[]⟩), (.slice none 0 0), (.slice (some ⟨14, 0, none⟩) 6 2199023255552)] 28 (0, 0), false) ::
  (.cells #[(.int .i64 2), (.string ⟨#[98, 111, 100, 121]⟩), (.string ⟨#[]⟩), (.slice none 0 0), (.slice (some ⟨14, 0, none⟩) 6 2199023255552)] 28 (0, 0), false) ::
  (.cells #[(.int .i64 2), (.string ⟨#[104, 101, 97, 100]⟩), (.string ⟨#[]⟩), (.slice none 0 0), (.slice none 0 0)] 28 (0, 0), false) ::
  (.cells #[(.int .i64 1), (.string ⟨#[]⟩), (.string ⟨#[]⟩), (.slice none 0 0), (.slice (some ⟨38, 0, none⟩) 1 1)] 28 (0, 0), false) ::
  x3_0_l2
def x3_0_a3 : List Value := [(.agg #[(.int .i64 1), (.string ⟨#[]⟩), (.string ⟨#[]⟩), (.slice none 0 0), (.slice (some ⟨38, 0, none⟩) 1 1)])]
theorem x3_0_e3 : fitE (callNow Tryd.prog (orcOr (idxA ⟨#[97, 13, 98]⟩ ⟨#[194, 160]⟩ (-1)) (oM mlX)) 1000000 6 x3_0_a3 ⟨39, x3_0_l3⟩) (.bool true) ⟨39, x3_0_l3⟩ = true := by kernel_rfl
def x3_0_l4 : List (Obj × Bool) := (.cells #[(.int .i64 2), (.string ⟨#[104, 116, 109, 108]⟩), (.string ⟨#[]⟩), (.slice none 0 0), (.slice (some ⟨44, 0, none⟩) 2 2)] 28 (0, 0), false) ::
  (.cells #[(.int .i64 2), (.string ⟨#[104, 116, 109, 108]⟩), (.string ⟨#[]⟩), (.slice none 0 0), (.slice (some ⟨44, 0, none⟩) 2 2)] 28 (0, 0), false) ::
  (.cells #[(.int .i64 2), (.string ⟨#[104, 101, 97, 100]⟩), (.string ⟨#[]⟩), (.slice none 0 0), (.slice none 0 0), (.int .i64 2), (.string ⟨#[98, 111, 100, 121]⟩), (.string ⟨#[]⟩), (.slice none 0 0), (.slice (some ⟨40, 0, none⟩) 1 1)] 28 (0, 0), false) ::
  (.cells #[(.int .i64 2), (.string ⟨#[98, 111, 100, 121]⟩), (.string ⟨#[]⟩), (.slice none 0 0), (.slice (some ⟨40, 0, none⟩) 1 1)] 28 (0, 0), false) ::
  (.cells #[(.int .i64 2), (.string ⟨#[104, 101, 97, 100]⟩), (.string ⟨#[]⟩), (.slice none 0 0), (.slice none 0 0)] 28 (0, 0), false) ::
  (.cells #[(.int .i64 1), (.string ⟨#[]⟩), (.string ⟨#[]⟩), (.slice none 0 0), (.slice (some ⟨46, 0, none⟩) 1 1)] 28 (0, 0), false) ::
  (.cells #[(.int .i64 2), (.string ⟨#[112, 114, 101]⟩), (.string ⟨#[]⟩), (.slice none 0 0), (.slice (some ⟨14, 0, none⟩) 6 2199023255552)] 28 (0, 0), false) ::
  (.cells #[(.int .i64 2), (.string ⟨#[112, 114, 101]⟩), (.string ⟨#[]⟩), (.slice none 0 0), (.slice (some ⟨14, 0, none⟩) 6 2199023255552)] 28 (0, 0), false) ::
  x3_0_l3
def x3_0_a4 : List Value := [(.agg #[(.int .i64 1), (.string ⟨#[]⟩), (.string ⟨#[]⟩), (.slice none 0 0), (.slice (some ⟨46, 0, none⟩) 1 1)])]
theorem x3_0_e4 : fitE (callNow Tryd.prog (orcOr (idxA ⟨#[97, 13, 98]⟩ ⟨#[194, 160]⟩ (-1)) (oM mlX)) 1000000 6 x3_0_a4 ⟨47, x3_0_l4⟩) (.bool false) ⟨47, x3_0_l4⟩ = true := by kernel_rfl
def x3_0_l5 : List (Obj × Bool) := (.cells #[(.int .i64 2), (.string ⟨#[104, 116, 109, 108]⟩), (.string ⟨#[]⟩), (.slice none 0 0), (.slice (some ⟨52, 0, none⟩) 2 2)] 28 (0, 0), false) ::
  (.cells #[(.int .i64 2), (.string ⟨#[104, 116, 109, 108]⟩), (.string ⟨#[]⟩), (.slice none 0 0), (.slice (some ⟨52, 0, none⟩) 2 2)] 28 (0, 0), false) ::
  (.cells #[(.int .i64 2), (.string ⟨#[104, 101, 97, 100]⟩), (.string ⟨#[]⟩), (.slice none 0 0), (.slice none 0 0), (.int .i64 2), (.string ⟨#[98, 111, 100, 121]⟩), (.string ⟨#[]⟩), (.slice none 0 0), (.slice (some ⟨48, 0, none⟩) 1 1)] 28 (0, 0), false) ::
  (.cells #[(.int .i64 2), (.string ⟨#[98, 111, 100, 121]⟩), (.string ⟨#[]⟩), (.slice none 0 0), (.slice (some ⟨48, 0, none⟩) 1 1)] 28 (0, 0), false) ::
  (.cells #[(.int .i64 2), (.string ⟨#[104, 101, 97, 100]⟩), (.string ⟨#[]⟩), (.slice none 0 0), (.slice none 0 0)] 28 (0, 0), false) ::
  (.cells #[(.int .i64 1), (.string ⟨#[]⟩), (.string ⟨#[]⟩), (.slice none 0 0), (.slice (some ⟨54, 0, none⟩) 1 1)] 28 (0, 0), false) ::
  (.cells #[(.int .i64 2), (.string ⟨#[100, 105, 118]⟩), (.string ⟨#[]⟩), (.slice none 0 0), (.slice (some ⟨14, 0, none⟩) 6 2199023255552)] 28 (0, 0), false) ::
  (.cells #[(.int .i64 2), (.string ⟨#[100, 105, 118]⟩), (.string ⟨#[]⟩), (.slice none 0 0), (.slice (some ⟨14, 0, none⟩) 6 2199023255552)] 28 (0, 0), false) ::
  x3_0_l4
def x3_0_a5 : List Value := [(.agg #[(.int .i64 1), (.string ⟨#[]⟩), (.string ⟨#[]⟩), (.slice none 0 0), (.slice (some ⟨54, 0, none⟩) 1 1)])]
theorem x3_0_e5 : fitE (callNow Tryd.prog (orcOr (idxA ⟨#[97, 13, 98]⟩ ⟨#[194, 160]⟩ (-1)) (oM mlX)) 1000000 6 x3_0_a5 ⟨55, x3_0_l5⟩) (.bool true) ⟨55, x3_0_l5⟩ = true := by kernel_rfl
abbrev x3_0_O : Ev.Orc := orcOr (orcE 6 x3_0_a0 ⟨21, x3_0_l0⟩ (.bool true)) (orcOr (orcE 6 x3_0_a1 ⟨27, x3_0_l1⟩ (.bool false)) (orcOr (orcE 6 x3_0_a2 ⟨33, x3_0_l2⟩ (.bool false)) (orcOr (orcE 6 x3_0_a3 ⟨39, x3_0_l3⟩ (.bool true)) (orcOr (orcE 6 x3_0_a4 ⟨47, x3_0_l4⟩ (.bool false)) (orcOr (orcE 6 x3_0_a5 ⟨55, x3_0_l5⟩ (.bool true)) (orcOr (orcC 10 [.chan (some 0), .int .i64 6] (.int .i64 2)) (orcOr (orcC 10 [.chan (some 1), .int .i64 3] (.int .i64 0)) (orcOr (orcB 9 [] (.bool true) bc 3) (orcOr (idxA ⟨#[97, 13, 98]⟩ ⟨#[194, 160]⟩ (-1)) (oM mlX))))))))))
theorem x3_0_m : saysB (callNow Tryd.prog x3_0_O 1000000 5 [.chan (some 0), .chan (some 1)] (baseH bc 3)) bc 3 = true := by kernel_rfl
theorem x3_0_ok [Inhabited Ev.Env] (hI : Ev.OrcS Tryd.prog ((orcOr (idxA ⟨#[97, 13, 98]⟩ ⟨#[194, 160]⟩ (-1)) (oM mlX)))) (hM : Ev.OrcS Tryd.prog (orcOr (orcC 10 [.chan (some 0), .int .i64 6] (.int .i64 2)) (orcOr (orcC 10 [.chan (some 1), .int .i64 3] (.int .i64 0)) (orcOr (orcB 9 [] (.bool true) bc 3) (orcOr (idxA ⟨#[97, 13, 98]⟩ ⟨#[194, 160]⟩ (-1)) (oM mlX)))))) : Ev.OrcS Tryd.prog x3_0_O :=
  (Ev.orcOr_ok (Ev.orcE_ok mixed hI (by rw [← Ev.callNow_eq]; exact x3_0_e0)) (Ev.orcOr_ok (Ev.orcE_ok mixed hI (by rw [← Ev.callNow_eq]; exact x3_0_e1)) (Ev.orcOr_ok (Ev.orcE_ok mixed hI (by rw [← Ev.callNow_eq]; exact x3_0_e2)) (Ev.orcOr_ok (Ev.orcE_ok mixed hI (by rw [← Ev.callNow_eq]; exact x3_0_e3)) (Ev.orcOr_ok (Ev.orcE_ok mixed hI (by rw [← Ev.callNow_eq]; exact x3_0_e4)) (Ev.orcOr_ok (Ev.orcE_ok mixed hI (by rw [← Ev.callNow_eq]; exact x3_0_e5)) hM))))))
end Go.Proofs.YtoiibhjenckooabDoor.Runs
