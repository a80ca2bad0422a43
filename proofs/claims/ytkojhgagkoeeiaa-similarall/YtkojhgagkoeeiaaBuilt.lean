/- Lists of trees that a call has made by append: they lie in memory as trees. -/
import Derived.Test.YtkojhgagkoeeiaaAwake
import Derived.Laws.OwnMore
set_option linter.unusedVariables false
namespace Go.Proofs.Ytkojhgagkoeeiaa
open Go.Deep (BT)
open Go.RowKit M

/-- a tree with the values of its attributes and kids -/
structure Nw where
  d : Nd
  k : M.F
  av : Value
  kv : Value
def cells5 (r : Nw) : List Value := [.int .i64 r.d.k, .string r.d.n, .string r.d.x, r.av, r.kv]
def rowF (rs : List Nw) : List Value := rs.flatMap cells5
def forF : List Nw → M.F
  | [] => .nil
  | r :: rs => .cons r.d r.k (forF rs)
theorem rowF_len (rs : List Nw) : (rowF rs).length = rs.length * 5 := by
  unfold rowF
  induction rs with
  | nil => rfl
  | cons r rs ih => rw [List.flatMap_cons, List.length_append, ih]; simp [cells5]; omega
theorem rowF_snoc (rs : List Nw) (r : Nw) : rowF (rs ++ [r]) = rowF rs ++ cells5 r := by simp [rowF]
theorem forF_len : ∀ rs : List Nw, (forF rs).len = rs.length
  | [] => rfl
  | r :: rs => by show (forF rs).len + 1 = _; rw [forF_len rs]; rfl
/-- each of them lies there -/
def AllIn (S : Nat → Prop) (w : World) (rs : List Nw) : Prop := ∀ r ∈ rs, AS S w r.av r.d.ats ∧ FL S w r.kv r.k
theorem AllIn.like {S : Nat → Prop} {w w' : World} (h : Like S w w') {rs : List Nw} (ha : AllIn S w rs) : AllIn S w' rs := fun r hr => ⟨(ha r hr).1.like h, (ha r hr).2.like h⟩
theorem AllIn.mono {S S' : Nat → Prop} {w : World} (h : ∀ b, S b → S' b) {rs : List Nw} (ha : AllIn S w rs) : AllIn S' w rs := fun r hr => ⟨(ha r hr).1.mono h, (ha r hr).2.mono h⟩
theorem AllIn.snoc {S : Nat → Prop} {w : World} {rs : List Nw} {r : Nw} (ha : AllIn S w rs) (h1 : AS S w r.av r.d.ats) (h2 : FL S w r.kv r.k) : AllIn S w (rs ++ [r]) := fun x hx => by
  rcases List.mem_append.1 hx with hx | hx
  · exact ha x hx
  · rw [List.mem_singleton.1 hx]; exact ⟨h1, h2⟩

theorem own_FAt {S : Nat → Prop} {w : World} {g : Nat} (rs : List Nw) (hc : ∀ j u, (rowF rs)[j]? = some u → w.cell? ((⟨g, 0, none⟩ : Addr).add j) = some u) (ha : AllIn S w rs) :
    ∀ (pre suf : List Nw), rs = pre ++ suf → FAt S w (forF suf) g (pre.length * 5) := by
  intro pre suf
  induction suf generalizing pre with
  | nil => intro _; trivial
  | cons r suf ih =>
    intro e
    have hr := ha r (by rw [e]; simp)
    have hcell : ∀ j v, (cells5 r)[j]? = some v → w.cell? ⟨g, pre.length * 5 + j, none⟩ = some v := fun j v hv => by
      have hj : j < 5 := by have := (List.getElem?_eq_some_iff.1 hv).1; simpa [cells5] using this
      have h1 : (rowF rs)[pre.length * 5 + j]? = some v := by
        rw [e]
        unfold rowF
        rw [List.flatMap_append, List.flatMap_cons, List.getElem?_append_right (by have := rowF_len pre; unfold rowF at this; omega)]
        have := rowF_len pre
        unfold rowF at this
        rw [this, Nat.add_sub_cancel_left, List.getElem?_append_left (by simp [cells5]; omega)]
        exact hv
      have := hc _ _ h1
      unfold Addr.add at this
      split at this
      · next h0 => rw [h0]; exact this
      · simpa using this
    obtain ⟨ka, kc, e2, h3, h4, h5⟩ := hr.2
    refine ⟨⟨r.av, ka, kc, hcell 0 _ rfl, hcell 1 _ rfl, hcell 2 _ rfl, hcell 3 _ rfl, by rw [← e2]; exact hcell 4 _ rfl, hr.1, h3, h4, h5⟩, ?_⟩
    have := ih (pre ++ [r]) (by rw [e]; simp)
    rw [List.length_append, List.length_singleton, Nat.add_mul, Nat.one_mul] at this
    exact this
theorem own_FL {w : World} {base n : Nat} {v : Value} {rs : List Nw} (h : w.ownsRow base 25 5 v rs.length (rowF rs)) (ha : AllIn (Old w.heap.size) w rs) : FL (Old w.heap.size) w v (forF rs) := by
  rcases h.2 with ⟨rfl, h0⟩ | ⟨g, cap, cur, rfl, hg, hh, hc1, hc2, hs, ht⟩
  · rw [List.eq_nil_of_length_eq_zero h0]; exact FL.nothing
  · refine ⟨some ⟨g, 0, none⟩, cap, by rw [forF_len], by rw [forF_len]; exact hc1, hc2, .inr ⟨g, 0, rfl, (Array.getElem?_eq_some_iff.1 hh).1, ?_⟩⟩
    have := own_FAt rs (h.cells rfl) ha [] rs rfl
    simpa using this
theorem infoN : (Try.prog.info? 25).map (fun i => (i.zero, i.size, i.bytes)) = some (some (.agg #[.int .i64 0, .string ⟨#[]⟩, .string ⟨#[]⟩, .slice none 0 0, .slice none 0 0]), 5, 88) := by kernel_rfl
theorem cell_five_new (w : World) (a b c d e : Value) (t : TypeId) : ∀ (j : Nat) (u : Value), [a, b, c, d, e][j]? = some u → (w.alloc (.cells #[a, b, c, d, e] t)).cell? ((⟨w.heap.size, 0, none⟩ : Addr).add j) = some u := by
  intro j u h
  have hj : j < 5 := by have := (List.getElem?_eq_some_iff.1 h).1; simpa using this
  rcases (by omega : j = 0 ∨ j = 1 ∨ j = 2 ∨ j = 3 ∨ j = 4) with rfl | rfl | rfl | rfl | rfl
  · exact (World.cell?_alloc_new w _ _ 0).trans h
  · exact (World.cell?_alloc_new w _ _ 1).trans h
  · exact (World.cell?_alloc_new w _ _ 2).trans h
  · exact (World.cell?_alloc_new w _ _ 3).trans h
  · exact (World.cell?_alloc_new w _ _ 4).trans h
theorem own_succ {w : World} {B E z n : Nat} {v : Value} {xs : List Value} (h : w.ownsRow B E z v (n + 1) xs) : ∃ g cap, v = .slice (some ⟨g, 0, none⟩) (n + 1) cap ∧ B ≤ g := by
  rcases h.2 with ⟨_, h0⟩ | ⟨g, cap, cur, e, hg, _⟩
  · omega
  · exact ⟨g, cap, e, hg⟩
theorem own_shape {w : World} {B E z n : Nat} {v : Value} {xs : List Value} (h : w.ownsRow B E z v n xs) : ∃ a cap, v = .slice a n cap := by
  rcases h.2 with ⟨e, h0⟩ | ⟨g, cap, cur, e, hg, _⟩
  · exact ⟨none, 0, by rw [e, h0]⟩
  · exact ⟨_, cap, e⟩
end Go.Proofs.Ytkojhgagkoeeiaa
