/- Lists of bytes that a call has made: as cells, beside a text's iterator, turned into a text. -/
import Derived.Test.YtoolpkkbeegbdaaCalls
import Derived.Laws.IdiomStrings
namespace Go.Proofs.Ytoolpkkbeegbdaa
open Go.RowKit M

/-- a list of bytes as cells -/
def cl (l : List UInt8) : List Value := l.map fun b => Value.int .u8 b.toNat
theorem cl_length (l : List UInt8) : (cl l).length = l.length := by simp [cl]
theorem cl_append (a b : List UInt8) : cl (a ++ b) = cl a ++ cl b := by simp [cl]
theorem cl_str (s : ByteArray) : Lib.strCells s = cl s.data.toList := rfl
theorem cl_get (l : List UInt8) (j : Nat) : (cl l)[j]? = l[j]?.map fun b => Value.int .u8 b.toNat := by simp [cl]

theorem info5 : (Try.prog.info? 5).map (fun i => (i.zero, i.size, i.bytes)) = some (some (.int .u8 0), 1, 1) := by kernel_rfl

/-- moving the iterator on leaves what is owned -/
theorem own_it {w : World} {B n : Nat} {v : Value} {xs : List Value} {k : Nat} {s : ByteArray} {pos : Nat} (h : w.ownsRow B 5 1 v n xs) (hk : w.heap[k]? = some (.stringIter s pos)) (q : Nat) : (w.iterAt k s q).ownsRow B 5 1 v n xs := by
  refine ⟨h.1, ?_⟩
  rcases h.2 with h0 | ⟨g, cap, cur, hv, hb, hg, rest⟩
  · exact .inl h0
  · have hne : g ≠ k := by
      intro e
      rw [e, hk] at hg
      cases hg
    exact .inr ⟨g, cap, cur, hv, hb, (Lib.iterAt_other w k g s q hne).trans hg, rest⟩
/-- the iterator stays where what is owned grows -/
theorem it_grown {w w' : World} {B n : Nat} {v : Value} {xs : List Value} {k : Nat} {s : ByteArray} {pos : Nat} (h : w.ownsRow B 5 1 v n xs) (hk : w.heap[k]? = some (.stringIter s pos)) (hg : w.grownBy w' v.ownBlock) : w'.heap[k]? = some (.stringIter s pos) := by
  have hne : some k ≠ v.ownBlock := by
    rcases h.2 with ⟨rfl, _⟩ | ⟨g, cap, cur, rfl, hb, hgg, rest⟩
    · intro e; cases e
    · intro e
      have e2 : k = g := Option.some.inj e
      rw [← e2, hk] at hgg
      cases hgg
  exact (hg.block k (Array.getElem?_eq_some_iff.1 hk).1 hne).trans hk

theorem own_conv {w : World} {B : Nat} {v : Value} {out : List UInt8} (h : w.ownsRow B 5 1 v out.length (cl out)) : (convert 34 9 v).run Try.prog w = .ok (.string ⟨out.toArray⟩) w := by
  rcases h.2 with ⟨rfl, h0⟩ | ⟨g, cap, cur, rfl, hb, hgg, rest⟩
  · have e : out = [] := List.eq_nil_of_length_eq_zero h0
    rw [run_convert_bytes_nil w 34 5 Try.underlying34 Try.underlying5 0 0 9 Try.underlying9, e]
    rfl
  · refine run_convert_bytes_back w 34 9 5 ⟨g, 0, none⟩ cap out Try.underlying34 Try.underlying5 Try.underlying9 (fun j hj => ?_)
    exact h.cells (g := g) rfl j _ (by rw [cl_get, List.getElem?_eq_getElem hj]; rfl)
end Go.Proofs.Ytoolpkkbeegbdaa
