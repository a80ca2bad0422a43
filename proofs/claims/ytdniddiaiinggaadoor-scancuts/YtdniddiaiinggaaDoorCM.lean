/- References in a text, plain mathematics: a byte at a place, digits, numbers, names, a text without references. -/
import Derived.Test.YtdniddiaiinggaaDoorCode
set_option linter.unusedVariables false
set_option linter.unusedSimpArgs false
namespace Go.Proofs.YtdniddiaiinggaaDoor
open Go.RowKit M

/-- the byte at a place, 0 behind the end -/
def bAt (l : List UInt8) (i : Nat) : UInt8 := l.getD i 0
theorem bAt_drop (l : List UInt8) (i j : Nat) : bAt (l.drop i) j = bAt l (i + j) := by
  unfold bAt
  rw [List.getD_eq_getElem?_getD, List.getD_eq_getElem?_getD, List.getElem?_drop]
theorem bAt_in {l : List UInt8} {i : Nat} (h : i < l.length) : bAt l i = l[i] := by
  unfold bAt
  rw [List.getD_eq_getElem?_getD, List.getElem?_eq_getElem h]
  rfl
theorem bAt_out {l : List UInt8} {i : Nat} (h : l.length ≤ i) : bAt l i = 0 := by
  unfold bAt
  rw [List.getD_eq_getElem?_getD, List.getElem?_eq_none h]
  rfl
theorem drop_cons {l : List UInt8} {i : Nat} (h : i < l.length) : l.drop i = bAt l i :: l.drop (i + 1) := by
  rw [bAt_in h]
  exact List.drop_eq_getElem_cons h

/-- what a byte is worth as a digit -/
def dgN (n : Nat) : Nat := if 48 ≤ n ∧ n ≤ 57 then n - 48 else if 65 ≤ n ∧ n ≤ 70 then n - 55 else if 97 ≤ n ∧ n ≤ 102 then n - 87 else 16
def dgt (c : UInt8) : Nat := dgN c.toNat
theorem dgN_le (n : Nat) : dgN n ≤ 16 := by unfold dgN; repeat' split
                                            all_goals omega
/-- the number by digits, and how many they are -/
def numL (b : Nat) : List UInt8 → Nat → Nat × Nat
  | [], n => (n, 0)
  | c :: r, n => if dgt c < b then ((numL b r (min (n * b + dgt c) 1114112)).1, (numL b r (min (n * b + dgt c) 1114112)).2 + 1) else (n, 0)
theorem numL_nil (b n : Nat) : numL b [] n = (n, 0) := rfl
theorem numL_hit {b n : Nat} {c : UInt8} {r : List UInt8} (h : dgt c < b) : numL b (c :: r) n = ((numL b r (min (n * b + dgt c) 1114112)).1, (numL b r (min (n * b + dgt c) 1114112)).2 + 1) := by rw [numL, if_pos h]
theorem numL_miss {b n : Nat} {c : UInt8} {r : List UInt8} (h : ¬ dgt c < b) : numL b (c :: r) n = (n, 0) := by rw [numL, if_neg h]
theorem numL_le (b : Nat) : ∀ (l : List UInt8) (n : Nat), n ≤ 1114112 → (numL b l n).1 ≤ 1114112 ∧ (numL b l n).2 ≤ l.length
  | [], n, h => ⟨h, Nat.le_refl _⟩
  | c :: r, n, h => by
    by_cases hd : dgt c < b
    · rw [numL_hit hd]
      have := numL_le b r (min (n * b + dgt c) 1114112) (Nat.min_le_right _ _)
      exact ⟨this.1, by simp only [List.length_cons]; omega⟩
    · rw [numL_miss hd]
      exact ⟨h, Nat.zero_le _⟩

def hexB (t : List UInt8) : Bool := decide (bAt t 2 = 120) || decide (bAt t 2 = 88)
def frm (t : List UInt8) : Nat := if hexB t = true then 3 else 2
def bas (t : List UInt8) : Nat := if hexB t = true then 16 else 10
def numP (t : List UInt8) : Nat × Nat := numL (bas t) (t.drop (frm t)) 0
/-- a text that begins with a reference by number -/
def numT (t : List UInt8) : List UInt8 × Nat :=
  if (numP t).2 = 0 then ([38], 1)
  else (en (codeB (numP t).1), if bAt t (frm t + (numP t).2) = 59 then frm t + (numP t).2 + 1 else frm t + (numP t).2)
def ltrN (n : Nat) : Bool := (decide (65 ≤ n) && decide (n ≤ 90)) || (decide (97 ≤ n) && decide (n ≤ 122))
def goesN (n : Nat) : Bool := ltrN n || decide (dgN n < 10) || decide (n = 61)
/-- a text that begins with a mark, by name -/
def nameT (t : List UInt8) (attr : Bool) : List UInt8 × Nat :=
  if (longB t 1).1 = 0 then ([38], 1)
  else if attr = true ∧ bAt t (longB t 1).1 ≠ 59 ∧ goesN (bAt t (1 + (longB t 1).1)).toNat = true then ([38], 1)
  else ((longB t 1).2, 1 + (longB t 1).1)
/-- what stands for what begins a text, and how many bytes that has -/
def refT (t : List UInt8) (attr : Bool) : List UInt8 × Nat :=
  if bAt t 0 ≠ 38 then ([], 0) else if bAt t 1 = 35 then numT t else nameT t attr
def refA (l : List UInt8) (a : Int) (attr : Bool) : List UInt8 × Nat := if a < 0 then ([], 0) else refT (l.drop a.toNat) attr

theorem longG_le (f : List UInt8 → List UInt8 × Bool) (t : List UInt8) : ∀ n, (longG f t n).1 ≤ n
  | 0 => Nat.le_refl _
  | n + 1 => by
    rw [longG]
    split
    · exact Nat.le_refl _
    · exact Nat.le_succ_of_le (longG_le f t n)
theorem longB_le (t : List UInt8) (k : Nat) : (longB t k).1 ≤ 7 ∧ (longB t k).1 ≤ t.length - k := by
  have := longG_le amongB (t.drop k) (min 7 (t.length - k))
  unfold longB
  omega
theorem longB_drop (t : List UInt8) (i k : Nat) : longB (t.drop i) k = longB t (i + k) := by
  unfold longB
  rw [List.drop_drop, List.length_drop, Nat.sub_sub]
theorem numT_le {t : List UInt8} (h : 1 ≤ t.length) : 1 ≤ (numT t).2 ∧ (numT t).2 ≤ t.length := by
  unfold numT
  split
  · exact ⟨Nat.le_refl _, h⟩
  · have h1 := (numL_le (bas t) (t.drop (frm t)) 0 (by omega)).2
    rw [List.length_drop] at h1
    have h2 : (numP t).2 = (numL (bas t) (t.drop (frm t)) 0).2 := rfl
    simp only
    split
    · rename_i hb
      refine ⟨by omega, ?_⟩
      by_cases hl : frm t + (numP t).2 < t.length
      · omega
      · rw [bAt_out (by omega)] at hb; cases hb
    · refine ⟨by omega, by omega⟩
theorem nameT_le {t : List UInt8} (attr : Bool) (h : 1 ≤ t.length) : 1 ≤ (nameT t attr).2 ∧ (nameT t attr).2 ≤ t.length := by
  have := longB_le t 1
  unfold nameT
  split
  · exact ⟨Nat.le_refl _, h⟩
  · split
    · exact ⟨Nat.le_refl _, h⟩
    · simp only; omega
theorem refT_le (t : List UInt8) (attr : Bool) : (refT t attr).2 ≤ t.length := by
  unfold refT
  split
  · exact Nat.zero_le _
  · rename_i h
    have h1 : 1 ≤ t.length := by
      by_cases hl : 0 < t.length
      · exact hl
      · exfalso; apply h; rw [bAt_out (by omega)]; decide
    split
    · exact (numT_le h1).2
    · exact (nameT_le attr h1).2
theorem refT_pos {t : List UInt8} {attr : Bool} (h : bAt t 0 = 38) : 1 ≤ (refT t attr).2 := by
  have h1 : 1 ≤ t.length := by
    by_cases hl : 0 < t.length
    · exact hl
    · exfalso; rw [bAt_out (by omega)] at h; cases h
  unfold refT
  rw [if_neg (by simp [h])]
  split
  · exact (numT_le h1).1
  · exact (nameT_le attr h1).1
theorem refT_none {t : List UInt8} {attr : Bool} (h : bAt t 0 ≠ 38) : refT t attr = ([], 0) := by unfold refT; rw [if_pos h]
theorem en_len (r : Int) : (en r).length ≤ 4 := by
  have := enc_size r
  rw [Lib.size_eq] at this
  exact this
theorem txt_len (a b : Int) : (txt a b).length ≤ 8 := by
  have := en_len a
  have := en_len b
  unfold txt
  split
  · omega
  · rw [List.length_append]; omega
theorem among_txt (l : List UInt8) : (amongB l).1.length ≤ 8 := by
  unfold amongB
  split
  · exact Nat.zero_le _
  · split
    · exact txt_len _ _
    · exact Nat.zero_le _
theorem longG_txt (t : List UInt8) : ∀ n, (longG amongB t n).2.length ≤ 8
  | 0 => Nat.zero_le _
  | n + 1 => by
    rw [longG]
    split
    · exact among_txt _
    · exact longG_txt t n
theorem refT_txt (t : List UInt8) (attr : Bool) : (refT t attr).1.length ≤ 8 := by
  unfold refT
  split
  · exact Nat.zero_le _
  · split
    · unfold numT
      split
      · simp
      · exact Nat.le_trans (en_len _) (by omega)
    · unfold nameT
      split
      · simp
      · split
        · simp
        · exact longG_txt _ _

/-- a text without references -/
def dec (attr : Bool) : Nat → List UInt8 → List UInt8
  | 0, _ => []
  | f + 1, t => if t = [] then [] else if (refT t attr).2 = 0 then t.take 1 ++ dec attr f (t.drop 1) else (refT t attr).1 ++ dec attr f (t.drop (refT t attr).2)
theorem dec_fuel (attr : Bool) : ∀ (f g : Nat) (t : List UInt8), t.length ≤ f → t.length ≤ g → dec attr f t = dec attr g t
  | 0, g, t, hf, hg => by
    have e : t = [] := List.eq_nil_of_length_eq_zero (by omega)
    subst e
    cases g <;> rfl
  | f + 1, 0, t, hf, hg => by
    have e : t = [] := List.eq_nil_of_length_eq_zero (by omega)
    subst e
    rfl
  | f + 1, g + 1, t, hf, hg => by
    rw [dec, dec]
    by_cases e : t = []
    · rw [if_pos e, if_pos e]
    · have hp : 0 < t.length := by cases t with | nil => exact absurd rfl e | cons => simp
      rw [if_neg e, if_neg e]
      by_cases hz : (refT t attr).2 = 0
      · rw [if_pos hz, if_pos hz, dec_fuel attr f g (t.drop 1) (by rw [List.length_drop]; omega) (by rw [List.length_drop]; omega)]
      · rw [if_neg hz, if_neg hz, dec_fuel attr f g (t.drop (refT t attr).2) (by rw [List.length_drop]; omega) (by rw [List.length_drop]; omega)]
def decB (attr : Bool) (t : List UInt8) : List UInt8 := dec attr t.length t
theorem decB_nil (attr : Bool) : decB attr [] = [] := rfl
theorem decB_plain {attr : Bool} {c : UInt8} {r : List UInt8} (h : c ≠ 38) : decB attr (c :: r) = c :: decB attr r := by
  have h0 : refT (c :: r) attr = ([], 0) := refT_none (by rw [bAt_in (by simp)]; exact h)
  unfold decB
  rw [List.length_cons, dec, if_neg (by simp), h0, if_pos rfl]
  rfl
theorem decB_ref {attr : Bool} {t : List UInt8} (h : bAt t 0 = 38) : decB attr t = (refT t attr).1 ++ decB attr (t.drop (refT t attr).2) := by
  have h1 := refT_pos (attr := attr) h
  have h2 := refT_le t attr
  unfold decB
  obtain ⟨n, hn⟩ : ∃ n, t.length = n + 1 := ⟨t.length - 1, by omega⟩
  have h3 : t ≠ [] := by intro e; rw [e] at hn; cases hn
  rw [hn, dec, if_neg h3, if_neg (by omega)]
  rw [dec_fuel attr n (t.drop (refT t attr).2).length _ (by rw [List.length_drop]; omega) (Nat.le_refl _)]
end Go.Proofs.YtdniddiaiinggaaDoor
