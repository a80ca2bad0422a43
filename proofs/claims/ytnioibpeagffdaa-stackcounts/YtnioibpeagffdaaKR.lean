/- A list of numbers that came in, read; what Implied and Until count, over six names. -/
import Derived.Test.YtnioibpeagffdaaKP
import Derived.Deep.SlicePairs
set_option linter.unusedVariables false
namespace Go.Proofs.Ytnioibpeagffdaa
open Go.RowKit Go.Shelf Go.ChangeShapes Go.WideShapes

/-- a list of numbers -/
def IsL (n : Nat) (w : World) (v : Value) (ln : Nat) : Prop :=
  ∃ a cap b o, v = .slice a ln cap ∧ ln ≤ cap ∧ cap ≤ maxLen ∧ ∀ i, i < ln → a = some ⟨b, o, none⟩ ∧ b < n ∧ ∃ x : Int, w.cell? ⟨b, o + i, none⟩ = some (.int .i64 x)
theorem read_ints {H : Type} {enc : TypeId × Value → H} {w : World} {base : Nat} {spare : Nat → Bool} {held : Bool} {v : Value} {d : DataW H} {p : List MemPlace} (hv : ∃ a l c, v = .slice a l c) (h : DataW.Trod enc Try.prog w base spare held 34 v d p) :
    ∃ ln, IsL w.heap.size w v ln := by
  obtain ⟨a0, l0, c0, rfl⟩ := hv
  obtain ⟨fuel, hf⟩ := h
  rcases open_ints Try.underlying34 Try.underlying3 (by kernel_rfl) hf with ⟨hcs, _⟩ | ⟨x, l, c, zs, hcs, _, hl, hm, hz, _, hcell, _⟩
  · simp [Value.cells] at hcs
    obtain ⟨rfl, rfl, rfl⟩ := hcs
    exact ⟨0, none, 0, 0, 0, rfl, Nat.le_refl _, by unfold maxLen; omega, fun i hi => by omega⟩
  · simp [Value.cells] at hcs
    obtain ⟨rfl, rfl, rfl⟩ := hcs
    have hlz : l0 ≤ zs.length := by rw [hz]; split <;> omega
    by_cases h0 : l0 = 0
    · subst h0
      exact ⟨0, some x, c0, 0, 0, rfl, hl, hm, fun i hi => by omega⟩
    · have c1 := hcell 0 (by omega)
      rw [add0] at c1
      have ea := spotN c1
      refine ⟨l0, some x, c0, x.block, x.off, rfl, hl, hm, fun i hi => ⟨by rw [← ea], World.block_lt_of_cell? w _ c1, zs.getD i 0, ?_⟩⟩
      have := hcell i (by omega)
      rw [ea, add_cell] at this
      exact this

def N6 : List (List UInt8) := [[112], [108, 105], [100, 100], [100, 105, 118], [98], [111, 112, 116, 105, 111, 110]]
/-- one of the six names -/
def Six (y : ByteArray) : Prop := ∃ p, p < 6 ∧ y = tx (lits N6) p
theorem six_tab : ∀ p : Fin 6, hasL (sortL 4) (txL N6 p.val) = (!(txL N6 p.val == [100, 105, 118]) && !(txL N6 p.val == [98])) ∧ brd (txL N6 p.val) 4 = false := by decide
theorem Six.is {y : ByteArray} (h : Six y) : isB y 4 = (!(y.toList == [100, 105, 118]) && !(y.toList == [98])) := by
  obtain ⟨p, hp, rfl⟩ := h
  unfold isB
  rw [hasB_lits, tx_lits]
  exact (six_tab ⟨p, hp⟩).1
theorem Six.no {y : ByteArray} (h : Six y) : brd y.toList 4 = false := by
  obtain ⟨p, hp, rfl⟩ := h
  rw [tx_lits]
  exact (six_tab ⟨p, hp⟩).2
def All6 (l : List ByteArray) : Prop := ∀ i, i < l.length → Six (tx l i)
theorem All6.snoc {l : List ByteArray} (h : All6 l) {y : ByteArray} (hy : Six y) : All6 (l ++ [y]) := by
  intro i hi
  rw [List.length_append] at hi
  by_cases h1 : i < l.length
  · rw [show tx (l ++ [y]) i = tx l i by simp [tx, List.getElem?_append_left h1]]; exact h i h1
  · have : i = l.length := by simp at hi; omega
    subst this
    rw [show tx (l ++ [y]) l.length = y by simp [tx]]; exact hy
theorem six_new (w : World) : ∀ i, i < 6 → (w.alloc (.cells #[.string ⟨#[112]⟩, .string ⟨#[108, 105]⟩, .string ⟨#[100, 100]⟩, .string ⟨#[100, 105, 118]⟩, .string ⟨#[98]⟩, .string ⟨#[111, 112, 116, 105, 111, 110]⟩] 35)).cell? ⟨w.heap.size, i, none⟩ = some (.string (tx (lits N6) i)) := by
  intro i hi
  rw [World.cell?_alloc_new]
  obtain rfl | rfl | rfl | rfl | rfl | rfl : i = 0 ∨ i = 1 ∨ i = 2 ∨ i = 3 ∨ i = 4 ∨ i = 5 := by omega
  all_goals rfl

theorem imp_spec (l : List ByteArray) (x : ByteArray) : ∀ n i, i < n → (i < impK l x n → ((tx l (n - 1 - i)).toList == x.toList) = false ∧ isB (tx l (n - 1 - i)) 4 = true) ∧ (i = impK l x n → ¬ (((tx l (n - 1 - i)).toList == x.toList) = false ∧ isB (tx l (n - 1 - i)) 4 = true))
  | 0, i, h => by omega
  | m + 1, i, h => by
    unfold impK
    by_cases h1 : ((tx l m).toList == x.toList) = true
    · rw [if_pos h1]
      refine ⟨fun h2 => by omega, fun h2 h3 => ?_⟩
      subst h2
      rw [show m + 1 - 1 - 0 = m by omega, h1] at h3
      cases h3.1
    · rw [if_neg h1]
      by_cases h2 : isB (tx l m) 4 = false
      · rw [if_pos h2]
        refine ⟨fun h3 => by omega, fun h3 h4 => ?_⟩
        subst h3
        rw [show m + 1 - 1 - 0 = m by omega, h2] at h4
        cases h4.2
      · rw [if_neg h2]
        cases i with
        | zero =>
          refine ⟨fun _ => ?_, fun h3 => by omega⟩
          rw [show m + 1 - 1 - 0 = m by omega]
          exact ⟨by simpa using h1, by simpa using h2⟩
        | succ i =>
          have ih := imp_spec l x m i (by omega)
          rw [show m + 1 - 1 - (i + 1) = m - 1 - i by omega]
          exact ⟨fun h3 => ih.1 (by omega), fun h3 => ih.2 (by omega)⟩
theorem has_one (x y : ByteArray) : hasB [x] y = (x.toList == y.toList) := by
  unfold hasB
  cases h : (x.toList == y.toList)
  · rw [if_neg (by simp)]; rfl
  · rw [if_pos rfl]
theorem un_spec (l : List ByteArray) (x : ByteArray) (n : Nat) : ∀ j, j ≤ n → (unK l [x] n j = 0 ∧ ∀ i, i < j → ((tx l i).toList == x.toList) = false) ∨ (∃ i, i < j ∧ unK l [x] n j = n - i ∧ ((tx l i).toList == x.toList) = true ∧ ∀ i', i < i' → i' < j → ((tx l i').toList == x.toList) = false)
  | 0, _ => .inl ⟨rfl, fun i hi => by omega⟩
  | j + 1, h => by
    unfold unK
    rw [has_one, beq_turn]
    cases h1 : ((tx l j).toList == x.toList)
    · rw [if_neg (by simp)]
      have hall : ∀ i, i < j + 1 → (i < j → ((tx l i).toList == x.toList) = false) → ((tx l i).toList == x.toList) = false := fun i hi hk => by
        by_cases e : i < j
        · exact hk e
        · have : i = j := by omega
          subst this; exact h1
      rcases un_spec l x n j (by omega) with ⟨h2, h3⟩ | ⟨i, h2, h3, h4, h5⟩
      · exact .inl ⟨h2, fun i hi => hall i hi (h3 i)⟩
      · exact .inr ⟨i, by omega, h3, h4, fun i' hi hi' => hall i' hi' (h5 i' hi)⟩
    · rw [if_pos rfl]
      exact .inr ⟨j, by omega, rfl, h1, fun i' hi hi' => by omega⟩
theorem un_none (l : List ByteArray) (n : Nat) : ∀ j, unK l [] n j = 0
  | 0 => rfl
  | j + 1 => by
    show (if hasB [] (tx l j) = true then n - j else unK l [] n j) = 0
    rw [un_none l n j]
    rfl
theorem in_un (l : List ByteArray) (x : ByteArray) (n : Nat) : ∀ j, j ≤ n → (∀ i, i < j → brd (tx l i).toList 4 = false) → inK l x 4 j = decide (0 < unK l [x] n j)
  | 0, _, _ => rfl
  | j + 1, h, hb => by
    unfold inK unK
    rw [has_one, beq_turn x.toList]
    cases h1 : ((tx l j).toList == x.toList)
    · rw [hb j (by omega), if_neg (by simp), if_neg (by simp), if_neg (by simp)]
      exact in_un l x n j (by omega) (fun i hi => hb i (by omega))
    · rw [if_pos rfl, if_pos rfl, decide_eq_true (by omega)]
end Go.Proofs.Ytnioibpeagffdaa
