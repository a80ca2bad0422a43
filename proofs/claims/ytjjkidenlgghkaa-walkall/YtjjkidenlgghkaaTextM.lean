/- The texts in a tree, in plain terms. -/
import Derived.Test.YtjjkidenlgghkaaPostM
import Derived.Test.YtjjkidenlgghkaaSmallT
import Derived.Test.YtjjkidenlgghkaaBldS
set_option linter.unusedVariables false
namespace Go.Proofs.Ytjjkidenlgghkaa.M
open Go.Deep

def ownTx (d : Nd) : List UInt8 := if d.k = 3 then d.x.data.toList else []
def lastTx (x : Tl) : List UInt8 := match x.way.getLast? with | some s => ownTx s.d | none => []
/-- the texts of the nodes that were come to -/
def texts (l : List Tl) : List UInt8 := ((l.filter (fun x => !x.left)).map lastTx).flatten
def textF : F → List UInt8
  | .nil => []
  | .node _ _ d k r => ownTx d ++ textF k ++ textF r
theorem texts_append (a b : List Tl) : texts (a ++ b) = texts a ++ texts b := by simp [texts]
theorem texts_left (w : List St) (l : List Tl) : texts (⟨w, true⟩ :: l) = texts l := by simp [texts]
theorem texts_come (w : List St) (s : St) (l : List Tl) : texts (⟨w ++ [s], false⟩ :: l) = ownTx s.d ++ texts l := by simp [texts, lastTx]
theorem texts_evF : ∀ (f : F) (up : List St) (id place : Nat), texts (evF up f id place) = textF f
  | .nil, _, _, _ => rfl
  | .node xb xo d k r, up, id, place => by
    rw [evF, texts_come, texts_append, texts_left, texts_evF k, texts_evF r]
    simp [textF]
theorem texts_evT (d : Nd) (k : F) : texts (evT d k) = ownTx d ++ textF k := by
  rw [evT, texts_evF]; simp [textF]
theorem ownTx_len (d : Nd) : (ownTx d).length ≤ d.x.size := by
  unfold ownTx
  split
  · exact Nat.le_of_eq (by rw [Array.length_toList]; rfl)
  · exact Nat.zero_le _
theorem textF_len : ∀ (f : F), (textF f).length ≤ txs f
  | .nil => Nat.le_refl _
  | .node xb xo d k r => by
    have h1 := ownTx_len d
    have h2 := textF_len k
    have h3 := textF_len r
    simp only [textF, txs, List.length_append]
    omega
theorem texts_pre {a b : List Tl} (h : a <+: b) : (texts a).length ≤ (texts b).length := by
  obtain ⟨c, rfl⟩ := h
  rw [texts_append, List.length_append]
  omega
end Go.Proofs.Ytjjkidenlgghkaa.M
namespace Go.Proofs.Ytjjkidenlgghkaa
open M
theorem bytes_append (a b : List UInt8) : Lib.byteCells (a ++ b) = Lib.byteCells a ++ Lib.byteCells b := by simp [Lib.byteCells]
theorem str_bytes (s : ByteArray) : Lib.strCells s = Lib.byteCells s.data.toList := by simp [Lib.strCells, Lib.byteCells]
end Go.Proofs.Ytjjkidenlgghkaa
