/- Texts that are next to one another put together, in plain terms. -/
import Derived.Test.YtibagbnnplpfgaaDoorSmallA
import Derived.Lib.Strings
set_option linter.unusedVariables false
set_option linter.unusedSimpArgs false
namespace Go.Proofs.YtibagbnnplpfgaaDoor.M
open Go.Deep (BT)

abbrev PT := Nd × F
/-- an empty text -/
def emp (d : Nd) : Bool := d.k == 3 && (d.x.toList == [])
/-- two texts of which one can be made -/
def fit2 (a b : Nd) : Bool := a.k == 3 && b.k == 3 && decide (a.x.size + b.x.size ≤ 4096)
def addT (a b : Nd) : Nd := { a with x := a.x ++ b.x }
/-- a tree behind others, the last one of these first -/
def jstP (acc : List PT) (p : PT) : List PT :=
  if emp p.1 = true then acc else match acc with
  | [] => [p]
  | l :: t => if fit2 l.1 p.1 = true then (addT l.1 p.1, l.2) :: t else p :: l :: t
def ofL : List PT → F
  | [] => .nil
  | p :: l => .cons p.1 p.2 (ofL l)
def toL : F → List PT
  | .nil => []
  | .node _ _ d k r => (d, k) :: toL r
def joinA : List PT → F → List PT
  | acc, .nil => acc
  | acc, .node _ _ d k r => joinA (jstP acc (d, ofL (joinA [] k).reverse)) r
/-- trees one behind the other, with their texts put together in all of their depth -/
def joinF (k : F) : F := ofL (joinA [] k).reverse
def jn2 (p : PT) : PT := (p.1, joinF p.2)
theorem joinA_node (acc : List PT) (xb xo : Nat) (d : Nd) (k r : F) : joinA acc (.node xb xo d k r) = joinA (jstP acc (d, joinF k)) r := rfl
theorem jst_map (acc : List PT) (p : PT) : (jstP acc p).map jn2 = jstP (acc.map jn2) (jn2 p) := by
  unfold jstP
  show _ = if emp p.1 = true then _ else _
  split
  · rfl
  · cases acc with
    | nil => rfl
    | cons l t =>
      show _ = if fit2 l.1 p.1 = true then _ else _
      dsimp only
      split <;> rfl
/-- first by itself, then within -/
theorem join_shallow : ∀ (f : F) (acc : List PT), joinA (acc.map jn2) f = ((toL f).foldl jstP acc).map jn2
  | .nil, acc => rfl
  | .node xb xo d k r, acc => by
    rw [joinA_node, toL, List.foldl_cons, ← join_shallow r]
    congr 1
    rw [jst_map]
    rfl
theorem joinF_shallow (k : F) : joinF k = ofL ((((toL k).foldl jstP []).map jn2).reverse) := by
  unfold joinF
  have := join_shallow k []
  rw [show ([] : List PT).map jn2 = [] from rfl] at this
  rw [this]
theorem toL_ofL : ∀ l : List PT, toL (ofL l) = l
  | [] => rfl
  | p :: l => by rw [ofL, toL, toL_ofL l]
theorem toL_len : ∀ f : F, (toL f).length = f.len
  | .nil => rfl
  | .node _ _ d k r => by rw [toL, List.length_cons, toL_len r]; rfl
theorem ofL_len (l : List PT) : (ofL l).len = l.length := by rw [← toL_len, toL_ofL]
theorem jst_len (acc : List PT) (p : PT) : (jstP acc p).length ≤ acc.length + 1 := by
  unfold jstP
  split
  · omega
  · cases acc with
    | nil => exact Nat.le_refl _
    | cons l t => dsimp only; split <;> simp

/-- what is put together can't be so again -/
def Good : List PT → Prop
  | [] => True
  | p :: l => emp p.1 = false ∧ joinF p.2 = p.2 ∧ (∀ q t, l = q :: t → fit2 q.1 p.1 = false) ∧ Good l
theorem emp_false {d : Nd} (h : emp d = false) (hk : d.k = 3) : d.x.toList ≠ [] := by
  unfold emp at h
  rw [hk] at h
  intro e
  rw [e] at h
  cases h
theorem good_step {acc : List PT} {p : PT} (h : Good acc) (hp : joinF p.2 = p.2) : Good (jstP acc p) := by
  unfold jstP
  split
  · exact h
  · rename_i he
    have he' : emp p.1 = false := by simpa using he
    cases acc with
    | nil => exact ⟨he', hp, fun q t e => (by cases e), trivial⟩
    | cons l t =>
      dsimp only
      obtain ⟨h1, h2, h3, h4⟩ := h
      split
      · rename_i hf
        unfold fit2 at hf
        simp only [Bool.and_eq_true, beq_iff_eq, decide_eq_true_eq] at hf
        refine ⟨?_, h2, fun q t' e => ?_, h4⟩
        · have hne := emp_false h1 hf.1.1
          unfold emp
          rw [show (addT l.1 p.1).x = l.1.x ++ p.1.x from rfl]
          rw [Bool.and_eq_false_iff]
          right
          rw [beq_eq_false_iff_ne]
          intro e
          apply hne
          have e2 : (l.1.x ++ p.1.x).toList = l.1.x.toList ++ p.1.x.toList := by
            rw [Lib.toList_data, Lib.toList_data, Lib.toList_data, ByteArray.data_append, Array.toList_append]
          rw [e2] at e
          exact (List.append_eq_nil_iff.1 e).1
        · have := h3 q t' e
          unfold fit2 at this ⊢
          rw [show (addT l.1 p.1).k = l.1.k from rfl, show (addT l.1 p.1).x = l.1.x ++ p.1.x from rfl, ByteArray.size_append]
          rw [Bool.and_eq_false_iff] at this ⊢
          rcases this with this | this
          · exact .inl this
          · right
            rw [decide_eq_false_iff_not] at this ⊢
            omega
      · rename_i hf
        exact ⟨he', hp, fun q t' e => (by cases e; simpa using hf), h1, h2, h3, h4⟩
theorem good_tail : ∀ (M acc : List PT), Good (M ++ acc) → Good acc
  | [], _, h => h
  | q :: M, acc, h => good_tail M acc h.2.2.2
theorem good_fix : ∀ (L acc : List PT), Good (L.reverse ++ acc) → joinA acc (ofL L) = L.reverse ++ acc
  | [], acc, _ => rfl
  | p :: L, acc, h => by
    rw [List.reverse_cons, List.append_assoc] at h ⊢
    have hg : Good (p :: acc) := good_tail L.reverse (p :: acc) h
    obtain ⟨h1, h2, h3, h4⟩ := hg
    have e : jstP acc (p.1, joinF p.2) = p :: acc := by
      rw [h2]
      unfold jstP
      rw [if_neg (by simp [h1])]
      cases acc with
      | nil => rfl
      | cons q t =>
        dsimp only
        rw [if_neg (by simp [h3 q t rfl])]
    show joinA (jstP acc (p.1, joinF p.2)) (ofL L) = _
    rw [e]
    exact good_fix L (p :: acc) h
theorem joinF_idem (k : F) : joinF (joinF k) = joinF k := by
  have key : ∀ (f : F), Hered (fun k => joinF (joinF k) = joinF k) f → ∀ acc, Good acc → Good (joinA acc f) := by
    intro f
    induction f with
    | nil => intro _ acc h; exact h
    | node xb xo d k r ihk ihr =>
      intro hh acc h
      rw [joinA_node]
      exact ihr hh.2 _ (good_step h hh.1)
  refine indH (P := fun k => joinF (joinF k) = joinF k) (fun f hf => ?_) k
  have hg := key f hf [] trivial
  have := good_fix (joinA [] f).reverse [] (by simpa using hg)
  unfold joinF
  rw [this]
  simp

theorem ofL_size : ∀ l : List PT, (ofL l).size = (l.map fun p => p.2.size + 1).sum
  | [] => rfl
  | p :: l => by
    have := ofL_size l
    simp only [ofL, BT.size, List.map_cons, List.sum_cons]
    omega
theorem sum_rev (l : List PT) : (l.reverse.map fun p => p.2.size + 1).sum = (l.map fun p => p.2.size + 1).sum := by
  rw [List.map_reverse, List.sum_reverse]
def szL (l : List PT) : Nat := (l.map fun p => p.2.size + 1).sum
theorem jst_size (acc : List PT) (p : PT) : szL (jstP acc p) ≤ szL acc + (p.2.size + 1) := by
  unfold jstP
  split
  · omega
  · cases acc with
    | nil => simp [szL]
    | cons l t =>
      dsimp only
      split <;> simp [szL] <;> omega
/-- what was not too much is not too much put together -/
def OkL (acc : List PT) : Prop := ∀ p ∈ acc, OKnd p.1 ∧ allF OKnd p.2
theorem jst_ok {acc : List PT} {p : PT} (h : OkL acc) (hp : OKnd p.1 ∧ allF OKnd p.2) : OkL (jstP acc p) := by
  unfold jstP
  split
  · exact h
  · cases acc with
    | nil => intro q hq; obtain rfl := List.mem_singleton.1 hq; exact hp
    | cons l t =>
      dsimp only
      split
      · rename_i hf
        intro q hq
        rcases List.mem_cons.1 hq with rfl | hq
        · have hl := h l List.mem_cons_self
          unfold fit2 at hf
          simp only [Bool.and_eq_true, beq_iff_eq, decide_eq_true_eq] at hf
          refine ⟨⟨hl.1.many, hl.1.name, ?_, hl.1.each⟩, hl.2⟩
          show (l.1.x ++ p.1.x).size ≤ 6000
          rw [ByteArray.size_append]
          omega
        · exact h q (List.mem_cons_of_mem _ hq)
      · intro q hq
        rcases List.mem_cons.1 hq with rfl | hq
        · exact hp
        · exact h q hq
theorem allF_ofL : ∀ {l : List PT}, OkL l → allF OKnd (ofL l)
  | [], _ => trivial
  | p :: l, h => ⟨(h p List.mem_cons_self).1, (h p List.mem_cons_self).2, allF_ofL (fun q hq => h q (List.mem_cons_of_mem _ hq))⟩
theorem joinA_ok : ∀ (f : F) (acc : List PT), allF OKnd f → OkL acc → OkL (joinA acc f) ∧ szL (joinA acc f) ≤ szL acc + f.size
  | .nil, acc, _, h => ⟨h, Nat.le_refl _⟩
  | .node xb xo d k r, acc, hf, h => by
    obtain ⟨h1, h2, h3⟩ := hf
    obtain ⟨k1, k2⟩ := joinA_ok k [] h2 (fun q hq => by cases hq)
    have hk : allF OKnd (joinF k) := by
      unfold joinF
      exact allF_ofL (fun q hq => k1 q (List.mem_reverse.1 hq))
    have hks : (joinF k).size ≤ k.size := by
      unfold joinF
      rw [ofL_size, sum_rev]
      have : szL ([] : List PT) = 0 := rfl
      unfold szL at k2 this
      omega
    rw [joinA_node]
    obtain ⟨r1, r2⟩ := joinA_ok r (jstP acc (d, joinF k)) h3 (jst_ok h ⟨h1, hk⟩)
    have := jst_size acc (d, joinF k)
    refine ⟨r1, ?_⟩
    simp only [BT.size]
    dsimp only at this
    omega
theorem joinF_ok {k : F} (h : allF OKnd k) : allF OKnd (joinF k) ∧ (joinF k).size ≤ k.size := by
  obtain ⟨h1, h2⟩ := joinA_ok k [] h (fun q hq => by cases hq)
  unfold joinF
  refine ⟨allF_ofL (fun q hq => h1 q (List.mem_reverse.1 hq)), ?_⟩
  rw [ofL_size, sum_rev]
  have : szL ([] : List PT) = 0 := rfl
  unfold szL at h2 this
  omega
theorem depth_size : ∀ f : F, f.depth ≤ f.size
  | .nil => Nat.le_refl _
  | .node _ _ d k r => by
    have := depth_size k
    have := depth_size r
    simp only [BT.depth, BT.size]
    omega
end Go.Proofs.YtibagbnnplpfgaaDoor.M
