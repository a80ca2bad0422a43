/- Plain: places in a source, names, values, attributes, tags, and what Next says. -/
import Derived.Test.YtdniddiaiinggaaDoorCM
set_option linter.unusedVariables false
namespace Go.Proofs.YtdniddiaiinggaaDoor

/-- a blank -/
def blk (c : UInt8) : Bool := c == 9 || c == 10 || c == 12 || c == 32
/-- a blank, or one of these -/
def stp (sg : List UInt8) (c : UInt8) : Bool := blk c || sg.contains c
/-- how many ahead are such -/
def spN (p : UInt8 → Bool) : List UInt8 → Nat
  | [] => 0
  | c :: r => if p c = true then spN p r + 1 else 0
theorem spN_le (p : UInt8 → Bool) : ∀ l : List UInt8, spN p l ≤ l.length
  | [] => Nat.le_refl _
  | c :: r => by
    have := spN_le p r
    simp only [spN, List.length_cons]
    split <;> omega
/-- the place behind such, from a place on -/
def spE (p : UInt8 → Bool) (l : List UInt8) (k : Nat) : Nat := k + spN p (l.drop k)
theorem spE_ge (p : UInt8 → Bool) (l : List UInt8) (k : Nat) : k ≤ spE p l k := Nat.le_add_right _ _
theorem spE_le (p : UInt8 → Bool) {l : List UInt8} {k : Nat} (h : k ≤ l.length) : spE p l k ≤ l.length := by
  have := spN_le p (l.drop k)
  rw [List.length_drop] at this
  unfold spE
  omega
theorem spE_go {p : UInt8 → Bool} {l : List UInt8} {k : Nat} (h : k < l.length) (hp : p (bAt l k) = true) : spE p l (k + 1) = spE p l k := by
  unfold spE
  rw [drop_cons h, spN, if_pos hp]
  omega
theorem spE_stop {p : UInt8 → Bool} {l : List UInt8} {k : Nat} (h : k < l.length) (hp : p (bAt l k) = false) : spE p l k = k := by
  unfold spE
  rw [drop_cons h, spN, if_neg (by rw [hp]; simp)]
  rfl
theorem spE_end {p : UInt8 → Bool} {l : List UInt8} {k : Nat} (h : l.length ≤ k) : spE p l k = k := by
  unfold spE
  rw [List.drop_eq_nil_of_le h]
  rfl
/-- what stands from a place to another -/
def sub (l : List UInt8) (a b : Nat) : List UInt8 := (l.drop a).take (b - a)
theorem sub_len {l : List UInt8} {a b : Nat} (h : b ≤ l.length) : (sub l a b).length = b - a := by
  unfold sub
  rw [List.length_take, List.length_drop]
  omega
theorem sub_le (l : List UInt8) (a b : Nat) : (sub l a b).length ≤ l.length := by
  unfold sub
  rw [List.length_take, List.length_drop]
  omega

/-- a byte in lower case -/
def lw (b : UInt8) : UInt8 := if 65 ≤ b.toNat ∧ b.toNat ≤ 90 then b + 32 else b
def lwL (l : List UInt8) : List UInt8 := l.map lw
/-- a byte of a tag's name -/
def nmc (b : UInt8) : UInt8 := if b == 34 || b == 39 || b == 60 || b == 61 then 95 else b
def nmB (l : List UInt8) : List UInt8 := (lwL l).map nmc
theorem lwL_len (l : List UInt8) : (lwL l).length = l.length := by unfold lwL; rw [List.length_map]
theorem nmB_len (l : List UInt8) : (nmB l).length = l.length := by unfold nmB; rw [List.length_map, lwL_len]

theorem decB_len (attr : Bool) : ∀ (n : Nat) (t : List UInt8), t.length ≤ n → (decB attr t).length ≤ 8 * t.length
  | 0, t, h => by
    have : t = [] := List.eq_nil_of_length_eq_zero (by omega)
    subst this
    rw [decB_nil]
    exact Nat.zero_le _
  | n + 1, [], h => by rw [decB_nil]; exact Nat.zero_le _
  | n + 1, c :: r, h => by
    by_cases hc : c = 38
    · have h0 : bAt (c :: r) 0 = 38 := by subst hc; rfl
      have h1 := refT_pos (attr := attr) h0
      have h2 := refT_txt (c :: r) attr
      have h3 := refT_le (c :: r) attr
      rw [decB_ref h0, List.length_append]
      have h4 : ((c :: r).drop (refT (c :: r) attr).2).length ≤ n := by
        rw [List.length_drop]
        simp only [List.length_cons] at *
        omega
      have := decB_len attr n _ h4
      rw [List.length_drop] at this
      omega
    · rw [decB_plain hc]
      have := decB_len attr n r (by simpa using h)
      simp only [List.length_cons]
      omega

/-- a value that begins at a place, and the place behind it -/
def valB (l : List UInt8) (k : Nat) : List UInt8 × Nat :=
  if k < l.length ∧ (bAt l k = 34 ∨ bAt l k = 39) then
    (decB true (sub l (k + 1) (spE (fun c => c != bAt l k) l (k + 1))), min (spE (fun c => c != bAt l k) l (k + 1) + 1) l.length)
  else (decB true (sub l k (spE (fun c => !stp [62] c) l k)), spE (fun c => !stp [62] c) l k)
/-- where an attribute's name ends -/
def attE (l : List UInt8) (k : Nat) : Nat := spE (fun c => !stp [47, 62, 61] c) l (k + 1)
def attN (l : List UInt8) (k : Nat) : List UInt8 := nmB (sub l k (attE l k))
/-- an attribute that begins at a place: its value, and the place behind it -/
def attB (l : List UInt8) (k : Nat) : List UInt8 × Nat :=
  if spE blk l (attE l k) < l.length ∧ bAt l (spE blk l (attE l k)) = 61 then valB l (spE blk l (spE blk l (attE l k) + 1))
  else ([], spE blk l (attE l k))
theorem valB_le {l : List UInt8} {k : Nat} (h : k ≤ l.length) : k ≤ (valB l k).2 ∧ (valB l k).2 ≤ l.length := by
  unfold valB
  split
  · rename_i h1
    have h2 := spE_ge (fun c => c != bAt l k) l (k + 1)
    have h3 := spE_le (fun c => c != bAt l k) (l := l) (k := k + 1) h1.1
    simp only
    omega
  · exact ⟨spE_ge _ _ _, spE_le _ h⟩
theorem attE_le {l : List UInt8} {k : Nat} (h : k < l.length) : k + 1 ≤ attE l k ∧ attE l k ≤ l.length := ⟨spE_ge _ _ _, spE_le _ h⟩
theorem attB_le {l : List UInt8} {k : Nat} (h : k < l.length) : k + 1 ≤ (attB l k).2 ∧ (attB l k).2 ≤ l.length := by
  have h1 := attE_le h
  have h2 := spE_ge blk l (attE l k)
  have h3 := spE_le blk h1.2
  unfold attB
  split
  · rename_i hc
    have h4 := spE_ge blk l (spE blk l (attE l k) + 1)
    have h5 := spE_le blk (l := l) (k := spE blk l (attE l k) + 1) hc.1
    have h6 := valB_le h5
    omega
  · simp only
    omega
/-- passing by what may stand between attributes -/
def btw (l : List UInt8) (k : Nat) : Nat := spE (stp [47]) l k
theorem btw_le {l : List UInt8} {k : Nat} (h : k ≤ l.length) : k ≤ btw l k ∧ btw l k ≤ l.length := ⟨spE_ge _ _ _, spE_le _ h⟩

abbrev AL := List (List UInt8 × List UInt8)
/-- an attribute more, if there is none of its name -/
def addA (acc : AL) (n v : List UInt8) : AL := if n ∈ acc.map (·.1) then acc else acc ++ [(n, v)]
/-- the attributes from a place on, and where they end -/
def tagL (l : List UInt8) : Nat → Nat → AL → AL × Nat
  | 0, k, acc => (acc, k)
  | f + 1, k, acc => if k < l.length ∧ bAt l k ≠ 62 then tagL l f (btw l (attB l k).2) (addA acc (attN l k) (attB l k).1) else (acc, k)
theorem tagL_stop {l : List UInt8} {k : Nat} {acc : AL} (h : ¬ (k < l.length ∧ bAt l k ≠ 62)) : ∀ f, tagL l f k acc = (acc, k)
  | 0 => rfl
  | f + 1 => by rw [tagL, if_neg h]
theorem tagL_fuel (l : List UInt8) : ∀ (f g k : Nat) (acc : AL), k ≤ l.length → l.length - k ≤ f → l.length - k ≤ g → tagL l f k acc = tagL l g k acc
  | 0, g, k, acc, hk, hf, hg => by rw [tagL_stop (by omega), tagL_stop (by omega)]
  | f + 1, 0, k, acc, hk, hf, hg => by rw [tagL_stop (by omega), tagL_stop (by omega)]
  | f + 1, g + 1, k, acc, hk, hf, hg => by
    by_cases h : k < l.length ∧ bAt l k ≠ 62
    · rw [tagL, tagL, if_pos h, if_pos h]
      have h1 := attB_le h.1
      have h2 := btw_le h1.2
      exact tagL_fuel l f g _ _ h2.2 (by omega) (by omega)
    · rw [tagL_stop h, tagL_stop h]
def tagA (l : List UInt8) (k : Nat) (acc : AL) : AL × Nat := tagL l (l.length - k) k acc
theorem tagA_stop {l : List UInt8} {k : Nat} {acc : AL} (h : ¬ (k < l.length ∧ bAt l k ≠ 62)) : tagA l k acc = (acc, k) := tagL_stop h _
theorem tagA_go {l : List UInt8} {k : Nat} {acc : AL} (h : k < l.length ∧ bAt l k ≠ 62) : tagA l k acc = tagA l (btw l (attB l k).2) (addA acc (attN l k) (attB l k).1) := by
  have h1 := attB_le h.1
  have h2 := btw_le h1.2
  unfold tagA
  obtain ⟨f, hf⟩ : ∃ f, l.length - k = f + 1 := ⟨l.length - k - 1, by omega⟩
  rw [hf, tagL, if_pos h]
  exact tagL_fuel l _ _ _ _ h2.2 (by omega) (Nat.le_refl _)
theorem tagA_le (l : List UInt8) : ∀ (n k : Nat) (acc : AL), l.length - k ≤ n → k ≤ l.length → k ≤ (tagA l k acc).2 ∧ (tagA l k acc).2 ≤ l.length
  | n, k, acc, hn, hk => by
    by_cases h : k < l.length ∧ bAt l k ≠ 62
    · have h1 := attB_le h.1
      have h2 := btw_le h1.2
      rw [tagA_go h]
      obtain ⟨m, rfl⟩ : ∃ m, n = m + 1 := ⟨n - 1, by omega⟩
      have := tagA_le l m (btw l (attB l k).2) (addA acc (attN l k) (attB l k).1) (by omega) h2.2
      omega
    · rw [tagA_stop h]
      exact ⟨Nat.le_refl _, hk⟩

/-- of that name -/
def lookA (acc : AL) (n : List UInt8) : List UInt8 := ((acc.find? (fun x => x.1 == n)).map (·.2)).getD []
/-- by their names -/
def srtA (acc : AL) : AL := ((acc.map (·.1)).mergeSort (fun x y => decide (x ≤ y))).map (fun n => (n, lookA acc n))
/-- where a tag's name ends -/
def tagE (l : List UInt8) (k : Nat) : Nat := spE (fun c => !stp [47, 62] c) l k
def tagN (l : List UInt8) (k : Nat) : List UInt8 := nmB (sub l k (tagE l k))
/-- a tag's attributes and where they end -/
def tagB (l : List UInt8) (k : Nat) : AL × Nat := tagA l (btw l (tagE l k)) []
theorem tagE_le {l : List UInt8} {k : Nat} (h : k ≤ l.length) : k ≤ tagE l k ∧ tagE l k ≤ l.length := ⟨spE_ge _ _ _, spE_le _ h⟩
theorem tagB_le {l : List UInt8} {k : Nat} (h : k ≤ l.length) : k ≤ (tagB l k).2 ∧ (tagB l k).2 ≤ l.length := by
  have h1 := tagE_le h
  have h2 := btw_le h1.2
  have := tagA_le l _ _ [] (Nat.le_refl _) h2.2
  unfold tagB
  omega
end Go.Proofs.YtdniddiaiinggaaDoor
