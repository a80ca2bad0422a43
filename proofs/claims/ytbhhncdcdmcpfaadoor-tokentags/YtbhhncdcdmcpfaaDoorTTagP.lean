/- TokenTags: its pieces by numbers. -/
import Derived.Test.YtbhhncdcdmcpfaaDoorTTagN
import Derived.Test.YtbhhncdcdmcpfaaDoorTSame
set_option linter.unusedVariables false
namespace Go.Proofs.YtbhhncdcdmcpfaaDoor
open Go.RowKit M

def pgp : Nat → List UInt8
  | 0 => [32]
  | 1 => [10]
  | 2 => [32, 47, 32]
  | _ => [9, 32]
def pqu : Nat → List UInt8
  | 0 => [34]
  | 1 => [39]
  | _ => []
def pnm (j : Nat) : List UInt8 := [107, UInt8.ofNat (48 + j)]
def pvl (p : Nat) : List UInt8 := ([118, 97, 108, 117, 101] : List UInt8).take (p + 1)
/-- the piece of a round -/
def pcs (j g q v : Nat) : Pc := ⟨pgp g, pnm j, pqu q, pvl v⟩
theorem eight8 {j : Nat} (h : j < 8) : j = 0 ∨ j = 1 ∨ j = 2 ∨ j = 3 ∨ j = 4 ∨ j = 5 ∨ j = 6 ∨ j = 7 := by omega
theorem pgp_ok {g : Nat} (h : g < 4) : (∃ c r, pgp g = c :: r ∧ blk c = true) ∧ (∀ c ∈ pgp g, stp [47] c = true) ∧ (pgp g).length ≤ 3 := by
  have : g = 0 ∨ g = 1 ∨ g = 2 ∨ g = 3 := by omega
  rcases this with rfl | rfl | rfl | rfl
  · exact ⟨⟨32, [], rfl, by decide⟩, by decide, by decide⟩
  · exact ⟨⟨10, [], rfl, by decide⟩, by decide, by decide⟩
  · exact ⟨⟨32, [47, 32], rfl, by decide⟩, by decide, by decide⟩
  · exact ⟨⟨9, [32], rfl, by decide⟩, by decide, by decide⟩
theorem pnm_ok {j : Nat} (h : j < 8) : (∃ c r, pnm j = c :: r ∧ stp [47] c = false ∧ c ≠ 62 ∧ ∀ d ∈ r, (!stp [47, 62, 61] d) = true) ∧ nmB (pnm j) = pnm j := by
  rcases eight8 h with rfl | rfl | rfl | rfl | rfl | rfl | rfl | rfl <;> exact ⟨⟨107, _, rfl, by decide, by decide, by decide⟩, by decide⟩
theorem pvl_ok {v : Nat} (h : v < 5) : (∃ c r, pvl v = c :: r) ∧ (∀ c ∈ pvl v, (!stp [62] c) = true ∧ c ≠ 34 ∧ c ≠ 39 ∧ c ≠ 38) ∧ (pvl v).length ≤ 5 := by
  have : v = 0 ∨ v = 1 ∨ v = 2 ∨ v = 3 ∨ v = 4 := by omega
  rcases this with rfl | rfl | rfl | rfl | rfl <;> exact ⟨⟨_, _, rfl⟩, by decide, by decide⟩
theorem pqu_ok (q : Nat) : (pqu q = [34] ∨ pqu q = [39] ∨ pqu q = []) ∧ (pqu q).length ≤ 1 := by
  match q with
  | 0 => exact ⟨Or.inl rfl, by decide⟩
  | 1 => exact ⟨Or.inr (Or.inl rfl), by decide⟩
  | _ + 2 => exact ⟨Or.inr (Or.inr rfl), Nat.zero_le _⟩
theorem pcs_ok {j g q v : Nat} (hj : j < 8) (hg : g < 4) (hv : v < 5) : (pcs j g q v).OK :=
  ⟨(pgp_ok hg).1, (pgp_ok hg).2.1, (pnm_ok hj).1, (pnm_ok hj).2, (pvl_ok hv).1, (pvl_ok hv).2.1, (pqu_ok q).1⟩
/-- the names of the first pieces -/
def nms (j : Nat) : List (List UInt8) := (List.range j).map pnm
theorem nms_ok {j : Nat} (h : j ≤ 8) : (nms j).Nodup ∧ (nms j).Pairwise (fun x y => x ≤ y) := by
  have : j < 8 ∨ j = 8 := by omega
  rcases this with h | rfl
  · rcases eight8 h with rfl | rfl | rfl | rfl | rfl | rfl | rfl | rfl <;> exact ⟨by decide, by decide⟩
  · exact ⟨by decide, by decide⟩
theorem nms_step (j : Nat) : nms (j + 1) = nms j ++ [pnm j] := by unfold nms; rw [List.range_succ, List.map_append]; rfl
theorem txtL_app (L : List Pc) (p : Pc) : txtL (L ++ [p]) = txtL L ++ p.txt := by
  induction L with
  | nil => simp [txtL]
  | cons q r ih => rw [List.cons_append, txtL, ih, txtL, List.append_assoc]
theorem atL_app (L : List Pc) (p : Pc) : atL (L ++ [p]) = atL L ++ [(p.n, p.v)] := by unfold atL; rw [List.map_append]; rfl
theorem atL_nm (L : List Pc) : (atL L).map (·.1) = L.map (·.n) := by unfold atL; rw [List.map_map]; rfl
theorem srt_atL {L : List Pc} {j : Nat} (h : L.map (·.n) = nms j) (hj : j ≤ 8) : srtA (atL L) = atL L := srt_same (by rw [atL_nm, h]; exact (nms_ok hj).2) (by rw [atL_nm, h]; exact (nms_ok hj).1)
def tnm : Nat → ByteArray
  | 0 => ⟨#[97]⟩
  | 1 => ⟨#[100, 105, 118]⟩
  | 2 => ⟨#[104, 49]⟩
  | 3 => ⟨#[120, 45, 121]⟩
  | _ => ⟨#[116, 97, 98, 108, 101]⟩
theorem tnm_ok {p : Nat} (h : (p : Int) < 5) : TnOK (tnm p).data.toList ∧ (tnm p).size ≤ 5 := by
  have : p = 0 ∨ p = 1 ∨ p = 2 ∨ p = 3 ∨ p = 4 := by omega
  rcases this with rfl | rfl | rfl | rfl | rfl <;> exact ⟨⟨⟨_, _, rfl, by decide⟩, by decide, by decide⟩, by decide⟩
end Go.Proofs.YtbhhncdcdmcpfaaDoor
