/- Sources of elements; sums of texts. -/
import Derived.Test.YtibagbnnplpfgaaDoorSm
import Derived.Test.YtibagbnnplpfgaaDoorNext
set_option linter.unusedVariables false
set_option linter.unusedSimpArgs false
namespace Go.Proofs.YtibagbnnplpfgaaDoor
open Go.Deep (BT)
open Go.RowKit M

theorem src_open {d : Nd} {k : M.F} (h : d.k = 2) (hv : isB d.n 1 = false) : srcB d k = fltP (tagP d) ++ (fltP (pcs (rawN d.n.data.toList == 2) k) ++ ((⟨#[60, 47]⟩ : ByteArray) ++ d.n ++ ⟨#[62]⟩).data.toList) := by
  have h1 : opn d = true := by unfold opn; rw [h, hv]; rfl
  have h2 : insK d = true := by unfold insK; rw [h1, Bool.or_true]
  have h3 : begP d false = tagP d := by rw [begP, if_neg (by omega), if_neg (by omega), if_neg (by omega), if_pos h]
  have h4 : insR d = (rawN d.n.data.toList == 2) := by unfold insR; rw [h1, Bool.true_and]
  have h5 : insE d = (⟨#[60, 47]⟩ : ByteArray) ++ d.n ++ ⟨#[62]⟩ := by unfold insE; rw [h1, if_pos rfl]
  unfold srcB
  rw [pcs, h2, if_pos rfl, h3, h4, h5, fltP_append, fltP_append, fltP_cons]
  simp [pcs, fltP_nil]
theorem cat (a b : ByteArray) : ∃ T : ByteArray, a ++ b = T ∧ T.size = a.size + b.size ∧ T.data.toList = a.data.toList ++ b.data.toList := ⟨_, rfl, ByteArray.size_append, app_data a b⟩
theorem pl_ex (v : Int) (n : Nat) (h : 0 < n) : ∃ q : Nat, Fact (pl v n = q) ∧ q < n := by
  exact ⟨pl v n, ⟨rfl⟩, pl_lt v n h⟩

end Go.Proofs.YtibagbnnplpfgaaDoor
