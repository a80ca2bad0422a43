/- The names of each sort. -/
import Derived.Test.YtibagbnnplpfgaaDoorNA
import Derived.Shelf.Abstract
import Derived.WalkMore
import Derived.Lib.Strings
set_option linter.unusedVariables false
namespace Go.Proofs.YtibagbnnplpfgaaDoor
open Go.RowKit Go.Shelf

def Q1 : List (List UInt8) := [[97, 114, 101, 97], [98, 97, 115, 101], [98, 114], [99, 111, 108], [101, 109, 98, 101, 100], [104, 114], [105, 109, 103], [105, 110, 112, 117, 116], [108, 105, 110, 107], [109, 101, 116, 97], [112, 97, 114, 97, 109], [115, 111, 117, 114, 99, 101], [116, 114, 97, 99, 107], [119, 98, 114]]
def Q2 : List (List UInt8) := [[97, 100, 100, 114, 101, 115, 115], [97, 112, 112, 108, 101, 116], [97, 114, 101, 97], [97, 114, 116, 105, 99, 108, 101], [97, 115, 105, 100, 101], [98, 97, 115, 101], [98, 108, 111, 99, 107, 113, 117, 111, 116, 101], [98, 111, 100, 121], [98, 114], [98, 117, 116, 116, 111, 110], [99, 97, 112, 116, 105, 111, 110], [99, 101, 110, 116, 101, 114], [99, 111, 108], [99, 111, 108, 103, 114, 111, 117, 112], [100, 100], [100, 101, 116, 97, 105, 108, 115], [100, 105, 114], [100, 105, 118], [100, 108], [100, 116], [101, 109, 98, 101, 100], [102, 105, 101, 108, 100, 115, 101, 116], [102, 105, 103, 99, 97, 112, 116, 105, 111, 110], [102, 105, 103, 117, 114, 101], [102, 111, 111, 116, 101, 114], [102, 111, 114, 109], [104, 49], [104, 50], [104, 51], [104, 52], [104, 53], [104, 54], [104, 101, 97, 100], [104, 101, 97, 100, 101, 114], [104, 103, 114, 111, 117, 112], [104, 114], [104, 116, 109, 108], [105, 102, 114, 97, 109, 101], [105, 109, 103], [105, 110, 112, 117, 116], [108, 105], [108, 105, 110, 107], [109, 97, 105, 110], [109, 97, 114, 113, 117, 101, 101], [109, 101, 110, 117], [109, 101, 116, 97], [110, 97, 118], [110, 111, 101, 109, 98, 101, 100], [110, 111, 102, 114, 97, 109, 101, 115], [111, 98, 106, 101, 99, 116], [111, 108], [112], [112, 97, 114, 97, 109], [112, 114, 101], [115, 99, 114, 105, 112, 116], [115, 101, 97, 114, 99, 104], [115, 101, 99, 116, 105, 111, 110], [115, 101, 108, 101, 99, 116], [115, 111, 117, 114, 99, 101], [115, 116, 121, 108, 101], [115, 117, 109, 109, 97, 114, 121], [116, 97, 98, 108, 101], [116, 98, 111, 100, 121], [116, 100], [116, 101, 120, 116, 97, 114, 101, 97], [116, 102, 111, 111, 116], [116, 104], [116, 104, 101, 97, 100], [116, 105, 116, 108, 101], [116, 114], [116, 114, 97, 99, 107], [117, 108], [119, 98, 114], [120, 109, 112]]
def Q3 : List (List UInt8) := [[97], [98], [98, 105, 103], [99, 111, 100, 101], [101, 109], [102, 111, 110, 116], [105], [110, 111, 98, 114], [115], [115, 109, 97, 108, 108], [115, 116, 114, 105, 107, 101], [115, 116, 114, 111, 110, 103], [116, 116], [117]]
def Q4 : List (List UInt8) := [[100, 100], [100, 116], [108, 105], [111, 112, 116, 105, 111, 110], [112], [114, 112], [114, 116]]
def Q5 : List (List UInt8) := [[104, 49], [104, 50], [104, 51], [104, 52], [104, 53], [104, 54]]
def Q6 : List (List UInt8) := [[97, 100, 100, 114, 101, 115, 115], [97, 114, 116, 105, 99, 108, 101], [97, 115, 105, 100, 101], [98, 108, 111, 99, 107, 113, 117, 111, 116, 101], [99, 101, 110, 116, 101, 114], [100, 101, 116, 97, 105, 108, 115], [100, 105, 114], [100, 105, 118], [100, 108], [102, 105, 101, 108, 100, 115, 101, 116], [102, 105, 103, 99, 97, 112, 116, 105, 111, 110], [102, 105, 103, 117, 114, 101], [102, 111, 111, 116, 101, 114], [102, 111, 114, 109], [104, 101, 97, 100, 101, 114], [104, 103, 114, 111, 117, 112], [109, 97, 105, 110], [109, 101, 110, 117], [110, 97, 118], [111, 108], [112, 114, 101], [115, 101, 97, 114, 99, 104], [115, 101, 99, 116, 105, 111, 110], [115, 117, 109, 109, 97, 114, 121], [117, 108]]
def Q7 : List (List UInt8) := [[97, 112, 112, 108, 101, 116], [109, 97, 114, 113, 117, 101, 101], [111, 98, 106, 101, 99, 116]]
def Q8 : List (List UInt8) := [[98, 97, 115, 101], [108, 105, 110, 107], [109, 101, 116, 97], [116, 105, 116, 108, 101], [115, 116, 121, 108, 101], [115, 99, 114, 105, 112, 116], [110, 111, 102, 114, 97, 109, 101, 115]]
def sortL : Nat → List (List UInt8)
  | 1 => Q1
  | 2 => Q2
  | 3 => Q3
  | 4 => Q4
  | 5 => Q5
  | 6 => Q6
  | 7 => Q7
  | 8 => Q8
  | _ => []
def lits (L : List (List UInt8)) : List ByteArray := L.map (fun n => ⟨n.toArray⟩)
def nmc (L : List (List UInt8)) : List Value := L.map (fun n => Value.string ⟨n.toArray⟩)
theorem lits_len (L : List (List UInt8)) : (lits L).length = L.length := by simp [lits]
theorem nmc_at (L : List (List UInt8)) (i : Nat) (h : i < L.length) : (nmc L)[i]? = some (.string (tx (lits L) i)) := by
  simp [nmc, tx, lits, h]
theorem lit_toList (l : List UInt8) : (⟨l.toArray⟩ : ByteArray).toList = l := Lib.toList_data ⟨l.toArray⟩

/-- a name is of a sort -/
def isB (x : ByteArray) (k : Int) : Bool := hasB (lits (sortL k.toNat)) x
theorem ss_new (w : World) (L : List (List UInt8)) (t : TypeId) (hL : L.length ≤ 100) : SS (w.heap.size + 1) (w.alloc (.cells (nmc L).toArray t)) (.slice (some ⟨w.heap.size, 0, none⟩) L.length L.length) (lits L) := by
  refine ⟨_, _, w.heap.size, 0, by rw [lits_len], by rw [lits_len]; exact Nat.le_refl _, by unfold maxLen; omega, fun i hi => ⟨rfl, by omega, ?_⟩⟩
  rw [lits_len] at hi
  have := World.cell?_alloc_new w (nmc L).toArray t (0 + i)
  rw [this]
  simpa using nmc_at L i hi

theorem wp_names (L : List (List UInt8)) (k d : Nat) {o : Oper} {a : Act} {w : World} {next : Act → World → Prop} {Q : Exit → Act → World → Prop} {parts : Array (Nat × Operand)} (_hd : o.dst = some d) (_hop : o.op = Op.buildSlice 42 k parts) (hk : L.length = k) (hL : L.length ≤ 100)
    (hrun : (execOp a.eval o).run Tryd.prog w = .ok (.value (.slice (some ⟨w.heap.size, 0, none⟩) k k)) (w.alloc (.cells (nmc L).toArray 9)))
    (h : ∀ W', Fact (Below w.heap.size w W') → Fact (W'.heap.size = w.heap.size + 1) → Fact (SS (w.heap.size + 1) W' (.slice (some ⟨w.heap.size, 0, none⟩) k k) (lits L)) → next (a.put o.dst (.slice (some ⟨w.heap.size, 0, none⟩) k k)) W') : o.wp Tryd.prog a w next Q := by
  unfold Oper.wp
  rw [hrun]
  subst hk
  exact h _ ⟨(Below.refl _ w).alloc (Nat.le_refl _) _⟩ ⟨by simp⟩ ⟨ss_new w L 9 hL⟩

theorem tab_any {w W1 W2 W3 W4 W5 W6 W7 W8 : World}
    (hb1 : Fact (Below w.heap.size w W1)) (hz1 : Fact (W1.heap.size = w.heap.size + 1)) (hs1 : Fact (SS (w.heap.size + 1) W1 (.slice (some ⟨w.heap.size, 0, none⟩) 14 14) (lits Q1)))
    (hb2 : Fact (Below W1.heap.size W1 W2)) (hz2 : Fact (W2.heap.size = W1.heap.size + 1)) (hs2 : Fact (SS (W1.heap.size + 1) W2 (.slice (some ⟨W1.heap.size, 0, none⟩) 74 74) (lits Q2)))
    (hb3 : Fact (Below W2.heap.size W2 W3)) (hz3 : Fact (W3.heap.size = W2.heap.size + 1)) (hs3 : Fact (SS (W2.heap.size + 1) W3 (.slice (some ⟨W2.heap.size, 0, none⟩) 14 14) (lits Q3)))
    (hb4 : Fact (Below W3.heap.size W3 W4)) (hz4 : Fact (W4.heap.size = W3.heap.size + 1)) (hs4 : Fact (SS (W3.heap.size + 1) W4 (.slice (some ⟨W3.heap.size, 0, none⟩) 7 7) (lits Q4)))
    (hb5 : Fact (Below W4.heap.size W4 W5)) (hz5 : Fact (W5.heap.size = W4.heap.size + 1)) (hs5 : Fact (SS (W4.heap.size + 1) W5 (.slice (some ⟨W4.heap.size, 0, none⟩) 6 6) (lits Q5)))
    (hb6 : Fact (Below W5.heap.size W5 W6)) (hz6 : Fact (W6.heap.size = W5.heap.size + 1)) (hs6 : Fact (SS (W5.heap.size + 1) W6 (.slice (some ⟨W5.heap.size, 0, none⟩) 25 25) (lits Q6)))
    (hb7 : Fact (Below W6.heap.size W6 W7)) (hz7 : Fact (W7.heap.size = W6.heap.size + 1)) (hs7 : Fact (SS (W6.heap.size + 1) W7 (.slice (some ⟨W6.heap.size, 0, none⟩) 3 3) (lits Q7)))
    (hb8 : Fact (Below W7.heap.size W7 W8)) (hz8 : Fact (W8.heap.size = W7.heap.size + 1)) (hs8 : Fact (SS (W7.heap.size + 1) W8 (.slice (some ⟨W7.heap.size, 0, none⟩) 7 7) (lits Q8)))
    (j : Nat) (h1 : 1 ≤ j) (h8 : j ≤ 8) : ∃ a n, (W8.alloc (.cells #[.slice none 0 0, .slice (some ⟨w.heap.size, 0, none⟩) 14 14, .slice (some ⟨W1.heap.size, 0, none⟩) 74 74, .slice (some ⟨W2.heap.size, 0, none⟩) 14 14, .slice (some ⟨W3.heap.size, 0, none⟩) 7 7, .slice (some ⟨W4.heap.size, 0, none⟩) 6 6, .slice (some ⟨W5.heap.size, 0, none⟩) 25 25, .slice (some ⟨W6.heap.size, 0, none⟩) 3 3, .slice (some ⟨W7.heap.size, 0, none⟩) 7 7] 83)).cell? ⟨W8.heap.size, j, none⟩ = some (.slice a n n) ∧ SS (W8.heap.size + 1) (W8.alloc (.cells #[.slice none 0 0, .slice (some ⟨w.heap.size, 0, none⟩) 14 14, .slice (some ⟨W1.heap.size, 0, none⟩) 74 74, .slice (some ⟨W2.heap.size, 0, none⟩) 14 14, .slice (some ⟨W3.heap.size, 0, none⟩) 7 7, .slice (some ⟨W4.heap.size, 0, none⟩) 6 6, .slice (some ⟨W5.heap.size, 0, none⟩) 25 25, .slice (some ⟨W6.heap.size, 0, none⟩) 3 3, .slice (some ⟨W7.heap.size, 0, none⟩) 7 7] 83)) (.slice a n n) (lits (sortL j)) ∧ Below w.heap.size w (W8.alloc (.cells #[.slice none 0 0, .slice (some ⟨w.heap.size, 0, none⟩) 14 14, .slice (some ⟨W1.heap.size, 0, none⟩) 74 74, .slice (some ⟨W2.heap.size, 0, none⟩) 14 14, .slice (some ⟨W3.heap.size, 0, none⟩) 7 7, .slice (some ⟨W4.heap.size, 0, none⟩) 6 6, .slice (some ⟨W5.heap.size, 0, none⟩) 25 25, .slice (some ⟨W6.heap.size, 0, none⟩) 3 3, .slice (some ⟨W7.heap.size, 0, none⟩) 7 7] 83)) := by
  have z1 := hz1.out
  have z2 := hz2.out
  have z3 := hz3.out
  have z4 := hz4.out
  have z5 := hz5.out
  have z6 := hz6.out
  have z7 := hz7.out
  have z8 := hz8.out
  have B8 : Below W8.heap.size W8 (W8.alloc (.cells #[.slice none 0 0, .slice (some ⟨w.heap.size, 0, none⟩) 14 14, .slice (some ⟨W1.heap.size, 0, none⟩) 74 74, .slice (some ⟨W2.heap.size, 0, none⟩) 14 14, .slice (some ⟨W3.heap.size, 0, none⟩) 7 7, .slice (some ⟨W4.heap.size, 0, none⟩) 6 6, .slice (some ⟨W5.heap.size, 0, none⟩) 25 25, .slice (some ⟨W6.heap.size, 0, none⟩) 3 3, .slice (some ⟨W7.heap.size, 0, none⟩) 7 7] 83)) := (Below.refl _ _).alloc (Nat.le_refl _) _
  have B7 : Below W7.heap.size W7 (W8.alloc (.cells #[.slice none 0 0, .slice (some ⟨w.heap.size, 0, none⟩) 14 14, .slice (some ⟨W1.heap.size, 0, none⟩) 74 74, .slice (some ⟨W2.heap.size, 0, none⟩) 14 14, .slice (some ⟨W3.heap.size, 0, none⟩) 7 7, .slice (some ⟨W4.heap.size, 0, none⟩) 6 6, .slice (some ⟨W5.heap.size, 0, none⟩) 25 25, .slice (some ⟨W6.heap.size, 0, none⟩) 3 3, .slice (some ⟨W7.heap.size, 0, none⟩) 7 7] 83)) := hb8.out.trans (B8.mono (by omega))
  have B6 : Below W6.heap.size W6 (W8.alloc (.cells #[.slice none 0 0, .slice (some ⟨w.heap.size, 0, none⟩) 14 14, .slice (some ⟨W1.heap.size, 0, none⟩) 74 74, .slice (some ⟨W2.heap.size, 0, none⟩) 14 14, .slice (some ⟨W3.heap.size, 0, none⟩) 7 7, .slice (some ⟨W4.heap.size, 0, none⟩) 6 6, .slice (some ⟨W5.heap.size, 0, none⟩) 25 25, .slice (some ⟨W6.heap.size, 0, none⟩) 3 3, .slice (some ⟨W7.heap.size, 0, none⟩) 7 7] 83)) := hb7.out.trans (B7.mono (by omega))
  have B5 : Below W5.heap.size W5 (W8.alloc (.cells #[.slice none 0 0, .slice (some ⟨w.heap.size, 0, none⟩) 14 14, .slice (some ⟨W1.heap.size, 0, none⟩) 74 74, .slice (some ⟨W2.heap.size, 0, none⟩) 14 14, .slice (some ⟨W3.heap.size, 0, none⟩) 7 7, .slice (some ⟨W4.heap.size, 0, none⟩) 6 6, .slice (some ⟨W5.heap.size, 0, none⟩) 25 25, .slice (some ⟨W6.heap.size, 0, none⟩) 3 3, .slice (some ⟨W7.heap.size, 0, none⟩) 7 7] 83)) := hb6.out.trans (B6.mono (by omega))
  have B4 : Below W4.heap.size W4 (W8.alloc (.cells #[.slice none 0 0, .slice (some ⟨w.heap.size, 0, none⟩) 14 14, .slice (some ⟨W1.heap.size, 0, none⟩) 74 74, .slice (some ⟨W2.heap.size, 0, none⟩) 14 14, .slice (some ⟨W3.heap.size, 0, none⟩) 7 7, .slice (some ⟨W4.heap.size, 0, none⟩) 6 6, .slice (some ⟨W5.heap.size, 0, none⟩) 25 25, .slice (some ⟨W6.heap.size, 0, none⟩) 3 3, .slice (some ⟨W7.heap.size, 0, none⟩) 7 7] 83)) := hb5.out.trans (B5.mono (by omega))
  have B3 : Below W3.heap.size W3 (W8.alloc (.cells #[.slice none 0 0, .slice (some ⟨w.heap.size, 0, none⟩) 14 14, .slice (some ⟨W1.heap.size, 0, none⟩) 74 74, .slice (some ⟨W2.heap.size, 0, none⟩) 14 14, .slice (some ⟨W3.heap.size, 0, none⟩) 7 7, .slice (some ⟨W4.heap.size, 0, none⟩) 6 6, .slice (some ⟨W5.heap.size, 0, none⟩) 25 25, .slice (some ⟨W6.heap.size, 0, none⟩) 3 3, .slice (some ⟨W7.heap.size, 0, none⟩) 7 7] 83)) := hb4.out.trans (B4.mono (by omega))
  have B2 : Below W2.heap.size W2 (W8.alloc (.cells #[.slice none 0 0, .slice (some ⟨w.heap.size, 0, none⟩) 14 14, .slice (some ⟨W1.heap.size, 0, none⟩) 74 74, .slice (some ⟨W2.heap.size, 0, none⟩) 14 14, .slice (some ⟨W3.heap.size, 0, none⟩) 7 7, .slice (some ⟨W4.heap.size, 0, none⟩) 6 6, .slice (some ⟨W5.heap.size, 0, none⟩) 25 25, .slice (some ⟨W6.heap.size, 0, none⟩) 3 3, .slice (some ⟨W7.heap.size, 0, none⟩) 7 7] 83)) := hb3.out.trans (B3.mono (by omega))
  have B1 : Below W1.heap.size W1 (W8.alloc (.cells #[.slice none 0 0, .slice (some ⟨w.heap.size, 0, none⟩) 14 14, .slice (some ⟨W1.heap.size, 0, none⟩) 74 74, .slice (some ⟨W2.heap.size, 0, none⟩) 14 14, .slice (some ⟨W3.heap.size, 0, none⟩) 7 7, .slice (some ⟨W4.heap.size, 0, none⟩) 6 6, .slice (some ⟨W5.heap.size, 0, none⟩) 25 25, .slice (some ⟨W6.heap.size, 0, none⟩) 3 3, .slice (some ⟨W7.heap.size, 0, none⟩) 7 7] 83)) := hb2.out.trans (B2.mono (by omega))
  have B0 : Below w.heap.size w (W8.alloc (.cells #[.slice none 0 0, .slice (some ⟨w.heap.size, 0, none⟩) 14 14, .slice (some ⟨W1.heap.size, 0, none⟩) 74 74, .slice (some ⟨W2.heap.size, 0, none⟩) 14 14, .slice (some ⟨W3.heap.size, 0, none⟩) 7 7, .slice (some ⟨W4.heap.size, 0, none⟩) 6 6, .slice (some ⟨W5.heap.size, 0, none⟩) 25 25, .slice (some ⟨W6.heap.size, 0, none⟩) 3 3, .slice (some ⟨W7.heap.size, 0, none⟩) 7 7] 83)) := hb1.out.trans (B1.mono (by omega))
  have hc : ∀ i, (W8.alloc (.cells #[.slice none 0 0, .slice (some ⟨w.heap.size, 0, none⟩) 14 14, .slice (some ⟨W1.heap.size, 0, none⟩) 74 74, .slice (some ⟨W2.heap.size, 0, none⟩) 14 14, .slice (some ⟨W3.heap.size, 0, none⟩) 7 7, .slice (some ⟨W4.heap.size, 0, none⟩) 6 6, .slice (some ⟨W5.heap.size, 0, none⟩) 25 25, .slice (some ⟨W6.heap.size, 0, none⟩) 3 3, .slice (some ⟨W7.heap.size, 0, none⟩) 7 7] 83)).cell? ⟨W8.heap.size, i, none⟩ = (#[.slice none 0 0, .slice (some ⟨w.heap.size, 0, none⟩) 14 14, .slice (some ⟨W1.heap.size, 0, none⟩) 74 74, .slice (some ⟨W2.heap.size, 0, none⟩) 14 14, .slice (some ⟨W3.heap.size, 0, none⟩) 7 7, .slice (some ⟨W4.heap.size, 0, none⟩) 6 6, .slice (some ⟨W5.heap.size, 0, none⟩) 25 25, .slice (some ⟨W6.heap.size, 0, none⟩) 3 3, .slice (some ⟨W7.heap.size, 0, none⟩) 7 7] : Array Value)[i]? := fun i => World.cell?_alloc_new W8 _ _ i
  obtain rfl | rfl | rfl | rfl | rfl | rfl | rfl | rfl : j = 1 ∨ j = 2 ∨ j = 3 ∨ j = 4 ∨ j = 5 ∨ j = 6 ∨ j = 7 ∨ j = 8 := by omega
  · exact ⟨_, _, hc 1, (hs1.out.below B1 (by omega)).mono (by omega), B0⟩
  · exact ⟨_, _, hc 2, (hs2.out.below B2 (by omega)).mono (by omega), B0⟩
  · exact ⟨_, _, hc 3, (hs3.out.below B3 (by omega)).mono (by omega), B0⟩
  · exact ⟨_, _, hc 4, (hs4.out.below B4 (by omega)).mono (by omega), B0⟩
  · exact ⟨_, _, hc 5, (hs5.out.below B5 (by omega)).mono (by omega), B0⟩
  · exact ⟨_, _, hc 6, (hs6.out.below B6 (by omega)).mono (by omega), B0⟩
  · exact ⟨_, _, hc 7, (hs7.out.below B7 (by omega)).mono (by omega), B0⟩
  · exact ⟨_, _, hc 8, (hs8.out.below B8 (by omega)).mono (by omega), B0⟩
set_option maxRecDepth 100000 in
set_option maxHeartbeats 4000000 in
theorem is_in (x : ByteArray) (j : Nat) (h1 : 1 ≤ j) (h8 : j ≤ 8) (w : World) (B : Bool) (hV : Fact (hasB (lits (sortL j)) x = B)) :
    Calls Tryd.prog 47 #[.string x, .int .i64 j] w fun e w' => e = .returned (.bool B) ∧ Below w.heap.size w w' := by
  have H1 := Fact.mk h1
  have H8 := Fact.mk h8
  have i1 : (0 : Int) < j := by omega
  have i2 : (j : Int) < 9 := by omega
  have i3 : (0 : Int) ≤ j := by omega
  have i4 : j < 9 := by omega
  have i5 : decide ((0 : Int) < j) = true := decide_eq_true i1
  have i6 : decide ((j : Int) < 9) = true := decide_eq_true i2
  clear h1 h8
  go_enter Tryd.func47, Tryd.ntmps47
  repeat (first | (refine wp_names Q1 14 6 (by with_reducible rfl) (by with_reducible rfl) rfl (by decide) ?hr1 ?_; (case hr1 => kernel_rfl); intro W1 hb1 hz1 hs1) | (refine wp_names Q2 74 7 (by with_reducible rfl) (by with_reducible rfl) rfl (by decide) ?hr2 ?_; (case hr2 => kernel_rfl); intro W2 hb2 hz2 hs2) | (refine wp_names Q3 14 8 (by with_reducible rfl) (by with_reducible rfl) rfl (by decide) ?hr3 ?_; (case hr3 => kernel_rfl); intro W3 hb3 hz3 hs3) | (refine wp_names Q4 7 9 (by with_reducible rfl) (by with_reducible rfl) rfl (by decide) ?hr4 ?_; (case hr4 => kernel_rfl); intro W4 hb4 hz4 hs4) | (refine wp_names Q5 6 10 (by with_reducible rfl) (by with_reducible rfl) rfl (by decide) ?hr5 ?_; (case hr5 => kernel_rfl); intro W5 hb5 hz5 hs5) | (refine wp_names Q6 25 11 (by with_reducible rfl) (by with_reducible rfl) rfl (by decide) ?hr6 ?_; (case hr6 => kernel_rfl); intro W6 hb6 hz6 hs6) | (refine wp_names Q7 3 12 (by with_reducible rfl) (by with_reducible rfl) rfl (by decide) ?hr7 ?_; (case hr7 => kernel_rfl); intro W7 hb7 hz7 hs7) | (refine wp_names Q8 7 13 (by with_reducible rfl) (by with_reducible rfl) rfl (by decide) ?hr8 ?_; (case hr8 => kernel_rfl); intro W8 hb8 hz8 hs8; obtain ⟨ta, tn, hcell, htab, hbel⟩ := tab_any hb1 hz1 hs1 hb2 hz2 hs2 hb3 hz3 hs3 hb4 hz4 hs4 hb5 hz5 hs5 hb6 hz6 hs6 hb7 hz7 hs7 hb8 hz8 hs8 j H1.out H8.out; have HT := Fact.mk htab; have HB := Fact.mk hbel; clear htab hbel hb1 hz1 hs1 hb2 hz2 hs2 hb3 hz3 hs3 hb4 hz4 hs4 hb5 hz5 hs5 hb6 hz6 hs6 hb7 hz7 hs7 hb8 hz8 hs8) | (go_at_call 52; refine (contains_any _ _ _ _ HT.out x B hV).mono ?_; rintro e w2 ⟨rfl, rfl⟩) | go_values | go_skip | go_guarded | go_step | go_upon | go_back)
  go_wp2
  go_ret
  exact ⟨rfl, HB.out⟩
theorem is_one (x : ByteArray) (w : World) (B : Bool) (hV : Fact (isB x 1 = B)) : Calls Tryd.prog 47 #[.string x, .int .i64 1] w fun e w' => e = .returned (.bool B) ∧ Below w.heap.size w w' :=
  is_in x 1 (by decide) (by decide) w B hV
set_option maxRecDepth 100000 in
set_option maxHeartbeats 4000000 in
theorem rSort1 (w : World) : Calls Tryd.prog 44 #[.int .i64 1] w fun e w' => ∃ a n, e = .returned (.slice a n n) ∧ Below w.heap.size w w' ∧ SS w'.heap.size w' (.slice a n n) (lits Q1) := by
  go_enter Tryd.func44, Tryd.ntmps44
  repeat (first | (refine wp_names Q1 14 6 (by with_reducible rfl) (by with_reducible rfl) rfl (by decide) ?hr ?_; (case hr => kernel_rfl); intro W1 hb hz hs) | go_values | go_skip | go_guarded | go_step | go_upon | go_back)
  go_ret
  exact ⟨_, _, rfl, hb.out, hs.out.mono (by rw [hz.out]; exact Nat.le_refl _)⟩
set_option maxRecDepth 20000 in
set_option maxHeartbeats 1000000 in
theorem rIs_one (x : ByteArray) (w : World) (B : Bool) (hV : Fact (isB x 1 = B)) :
    Calls Tryd.prog 34 #[.string x, .int .i64 1] w fun e w' => e = .returned (.bool B) ∧ Below w.heap.size w w' := by
  have hs := rSort1 w
  go_enter Tryd.func34, Tryd.ntmps34
  go_wp2_with (first | (go_at_call 44; refine hs.mono ?_; rintro e w1 ⟨a, n, rfl, hb, hs1⟩; have HB := Fact.mk hb; have HS := Fact.mk hs1; clear hb hs1 hs) | (go_at_call 43; refine (rHas_any _ _ _ _ HS.out x B hV).mono ?_; rintro e w2 ⟨rfl, rfl⟩))
  go_ret
  exact ⟨rfl, HB.out⟩

end Go.Proofs.YtibagbnnplpfgaaDoor
