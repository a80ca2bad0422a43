/- What holds of texts with and without references, plain mathematics. -/
import Derived.Test.YtlelnjheocbmnaaDoorCE
set_option linter.unusedVariables false
set_option linter.unusedSimpArgs false
namespace Go.Proofs.YtlelnjheocbmnaaDoor
open Go.RowKit M

theorem dec_app (attr : Bool) : ∀ (a b : List UInt8), (∀ x ∈ a, x ≠ 38) → decB attr (a ++ b) = a ++ decB attr b
  | [], b, _ => rfl
  | c :: a, b, h => by
    rw [List.cons_append, decB_plain (h c List.mem_cons_self), dec_app attr a b (fun x hx => h x (List.mem_cons_of_mem _ hx))]
    rfl
theorem dec_self (attr : Bool) (a : List UInt8) (h : ∀ x ∈ a, x ≠ 38) : decB attr a = a := by
  have := dec_app attr a [] h
  rw [List.append_nil, decB_nil, List.append_nil] at this
  exact this
theorem esc_app (attr : Bool) : ∀ (a b : List UInt8), (∀ x ∈ a, x ≠ 194) → escB attr (a ++ b) = escB attr a ++ escB attr b
  | [], b, _ => by rw [escB_nil]; rfl
  | c :: a, b, h => by
    have hc := h c List.mem_cons_self
    rw [List.cons_append, escB_one (by simp [hc]), escB_one (by simp [hc]), esc_app attr a b (fun x hx => h x (List.mem_cons_of_mem _ hx)), List.append_assoc]

/-- a name with its end, as a reference -/
theorem tab6 : Rf.all (fun e => decide (e.1.getD 0 0 ≠ 35)) = true := by kernel_rfl
theorem name_ref {w b : List UInt8} {a : Int} {c : Bool} (attr : Bool) (h : (w, a, c) ∈ Rf) : refT (38 :: (w ++ 59 :: b)) attr = (en a, w.length + 2) := by
  have hm := ref_mem h
  have h35 := of_decide_eq_true (List.all_eq_true.1 tab6 _ h)
  simp only at h35
  have hl := long_behind (x := [38]) (b := b) h
  have e : [38] ++ (w ++ [59]) ++ b = 38 :: (w ++ 59 :: b) := by simp
  rw [e] at hl
  simp only [List.length_cons, List.length_nil, Nat.zero_add] at hl
  unfold refT
  have b0 : bAt (38 :: (w ++ 59 :: b)) 0 = 38 := rfl
  have b1 : bAt (38 :: (w ++ 59 :: b)) 1 ≠ 35 := by
    cases w with
    | nil => have := hm.2.1; simp at this
    | cons d w => exact h35
  rw [if_neg (by simp [b0]), if_neg b1]
  unfold nameT
  rw [hl]
  simp only
  rw [if_neg (by omega), if_neg]
  · rw [Nat.add_comm 1, Nat.add_assoc]
  · intro hx
    apply hx.2.1
    rw [bAt_in (by simp)]
    simp
theorem dec_name {w b : List UInt8} {a : Int} {c : Bool} (attr : Bool) (h : (w, a, c) ∈ Rf) : decB attr (38 :: (w ++ 59 :: b)) = en a ++ decB attr b := by
  rw [decB_ref rfl, name_ref attr h]
  simp only
  congr 2
  have e : 38 :: (w ++ 59 :: b) = (38 :: (w ++ [59])) ++ b := by simp
  rw [e]
  exact List.drop_left' (by simp)
theorem en38 : en 38 = [38] := by kernel_rfl
theorem en60 : en 60 = [60] := by kernel_rfl
theorem en62 : en 62 = [62] := by kernel_rfl
theorem en34 : en 34 = [34] := by kernel_rfl
theorem en160 : en 160 = [194, 160] := by kernel_rfl
theorem dec_amp (attr : Bool) (b : List UInt8) : decB attr (amp ++ b) = 38 :: decB attr b := by
  have := dec_name (w := [97, 109, 112]) (a := 38) (c := true) (b := b) attr (by decide)
  rw [en38] at this
  exact this
theorem dec_lt (attr : Bool) (b : List UInt8) : decB attr (lt' ++ b) = 60 :: decB attr b := by
  have := dec_name (w := [108, 116]) (a := 60) (c := true) (b := b) attr (by decide)
  rw [en60] at this
  exact this
theorem dec_gt (attr : Bool) (b : List UInt8) : decB attr (gt' ++ b) = 62 :: decB attr b := by
  have := dec_name (w := [103, 116]) (a := 62) (c := true) (b := b) attr (by decide)
  rw [en62] at this
  exact this
theorem dec_quot (attr : Bool) (b : List UInt8) : decB attr (quot ++ b) = 34 :: decB attr b := by
  have := dec_name (w := [113, 117, 111, 116]) (a := 34) (c := true) (b := b) attr (by decide)
  rw [en34] at this
  exact this
theorem dec_nbsp (attr : Bool) (b : List UInt8) : decB attr (nbsp ++ b) = 194 :: 160 :: decB attr b := by
  have := dec_name (w := [110, 98, 115, 112]) (a := 160) (c := true) (b := b) attr (by decide)
  rw [en160] at this
  exact this
theorem dec_sgn (attr t : Bool) (c : UInt8) (b : List UInt8) : decB t (sgn attr c ++ b) = c :: decB t b := by
  unfold sgn
  by_cases h1 : c = 38
  · rw [if_pos h1, h1]; exact dec_amp t b
  rw [if_neg h1]
  by_cases h2 : c = 60
  · rw [if_pos h2, h2]; exact dec_lt t b
  rw [if_neg h2]
  by_cases h3 : c = 62
  · rw [if_pos h3, h3]; exact dec_gt t b
  rw [if_neg h3]
  by_cases h4 : c = 34 ∧ attr = true
  · rw [if_pos h4, h4.1]; exact dec_quot t b
  · rw [if_neg h4]; exact decB_plain h1
theorem dec_esc (attr t : Bool) : ∀ (n : Nat) (s : List UInt8), s.length ≤ n → decB t (escB attr s) = s
  | 0, s, h => by
    have e : s = [] := List.eq_nil_of_length_eq_zero (by omega)
    subst e
    rw [escB_nil]; rfl
  | n + 1, [], h => by rw [escB_nil]; rfl
  | n + 1, c :: r, h => by
    rw [List.length_cons] at h
    by_cases h2 : c = 194 ∧ r.head? = some 160
    · obtain ⟨h2, h3⟩ := h2
      subst h2
      obtain ⟨r', rfl⟩ := head_sp h3
      rw [escB_sp, dec_nbsp, dec_esc attr t n r' (by rw [List.length_cons] at h; omega)]
    · rw [escB_one h2, dec_sgn, dec_esc attr t n r (by omega)]
theorem sgn_no (attr : Bool) (c : UInt8) : ∀ x ∈ sgn attr c, x ≠ 60 ∧ x ≠ 62 ∧ (attr = true → x ≠ 34) := by
  unfold sgn
  by_cases h1 : c = 38
  · rw [if_pos h1]; decide +revert
  rw [if_neg h1]
  by_cases h2 : c = 60
  · rw [if_pos h2]; decide +revert
  rw [if_neg h2]
  by_cases h3 : c = 62
  · rw [if_pos h3]; decide +revert
  rw [if_neg h3]
  by_cases h4 : c = 34 ∧ attr = true
  · rw [if_pos h4]
    intro x hx
    have h5 : ∀ x ∈ quot, x ≠ 60 ∧ x ≠ 62 ∧ x ≠ 34 := by decide
    exact ⟨(h5 x hx).1, (h5 x hx).2.1, fun _ => (h5 x hx).2.2⟩
  · rw [if_neg h4]
    intro x hx
    rw [List.mem_singleton] at hx
    subst hx
    exact ⟨h2, h3, fun ha e => h4 ⟨e, ha⟩⟩
theorem esc_no (attr : Bool) : ∀ (n : Nat) (s : List UInt8), s.length ≤ n → ∀ x ∈ escB attr s, x ≠ 60 ∧ x ≠ 62 ∧ (attr = true → x ≠ 34)
  | 0, s, h, x, hx => by
    have e : s = [] := List.eq_nil_of_length_eq_zero (by omega)
    subst e
    rw [escB_nil] at hx; cases hx
  | n + 1, [], h, x, hx => by rw [escB_nil] at hx; cases hx
  | n + 1, c :: r, h, x, hx => by
    rw [List.length_cons] at h
    by_cases h2 : c = 194 ∧ r.head? = some 160
    · obtain ⟨h2, h3⟩ := h2
      subst h2
      obtain ⟨r', rfl⟩ := head_sp h3
      rw [escB_sp, List.mem_append] at hx
      rcases hx with hx | hx
      · revert x; unfold nbsp; decide +revert
      · exact esc_no attr n r' (by rw [List.length_cons] at h; omega) x hx
    · rw [escB_one h2, List.mem_append] at hx
      rcases hx with hx | hx
      · exact sgn_no attr c x hx
      · exact esc_no attr n r (by omega) x hx

/-- what digits are worth behind a number -/
def val (b : Nat) : List UInt8 → Nat → Nat
  | [], n => n
  | c :: r, n => val b r (n * b + dgt c)
theorem val_mono {b : Nat} (hb : 1 ≤ b) : ∀ (l : List UInt8) (x y : Nat), x ≤ y → val b l x ≤ val b l y
  | [], x, y, h => h
  | c :: r, x, y, h => val_mono hb r _ _ (by have := Nat.mul_le_mul_right b h; omega)
theorem val_ge {b : Nat} (hb : 1 ≤ b) : ∀ (l : List UInt8) (x : Nat), x ≤ val b l x
  | [], x => Nat.le_refl _
  | c :: r, x => Nat.le_trans (by have := Nat.le_mul_of_pos_right x hb; omega) (val_ge hb r (x * b + dgt c))
theorem val_min {b : Nat} (hb : 1 ≤ b) (l : List UInt8) (x : Nat) : min (val b l (min x 1114112)) 1114112 = min (val b l x) 1114112 := by
  by_cases h : x ≤ 1114112
  · rw [Nat.min_eq_left h]
  · have e : min x 1114112 = 1114112 := Nat.min_eq_right (by omega)
    rw [e]
    have h1 := val_ge hb l x
    have h2 := val_ge hb l 1114112
    omega
/-- digits alone, and then no digit -/
theorem num_all {b : Nat} (hb : 1 ≤ b) (rest : List UInt8) (hr : ∀ c ∈ rest.head?, ¬ dgt c < b) : ∀ (l : List UInt8) (n : Nat), (∀ c ∈ l, dgt c < b) → n ≤ 1114112 → numL b (l ++ rest) n = (min (val b l n) 1114112, l.length)
  | [], n, _, hn => by
    rw [List.nil_append]
    cases rest with
    | nil => rw [numL_nil, val, Nat.min_eq_left hn]; rfl
    | cons c r => rw [numL_miss (hr c rfl), val, Nat.min_eq_left hn]; rfl
  | c :: l, n, h, hn => by
    rw [List.cons_append, numL_hit (h c List.mem_cons_self), num_all hb rest hr l _ (fun x hx => h x (List.mem_cons_of_mem _ hx)) (Nat.min_le_right _ _)]
    rw [val_min hb, val]
    rfl
theorem val_zeros (b : Nat) (l : List UInt8) : ∀ z : Nat, val b (List.replicate z 48 ++ l) 0 = val b l 0
  | 0 => by simp
  | z + 1 => by
    rw [List.replicate_succ, List.cons_append, val]
    have : 0 * b + dgt 48 = 0 := by rw [Nat.zero_mul]; rfl
    rw [this]
    exact val_zeros b l z
/-- a reference by ten digits, with its end -/
theorem ref_ten {l rest : List UInt8} (attr : Bool) (h1 : l ≠ []) (hd : ∀ c ∈ l, dgt c < 10) : refT (38 :: 35 :: (l ++ 59 :: rest)) attr = (en (codeB ((min (val 10 l 0) 1114112 : Nat) : Int)), l.length + 3) := by
  obtain ⟨c, r, rfl⟩ : ∃ c r, l = c :: r := by cases l with
    | nil => exact absurd rfl h1
    | cons c r => exact ⟨c, r, rfl⟩
  have hc := hd c List.mem_cons_self
  have hx : hexB (38 :: 35 :: (c :: r ++ 59 :: rest)) = false := by
    have e : bAt (38 :: 35 :: (c :: r ++ 59 :: rest)) 2 = c := rfl
    unfold hexB
    rw [e, Bool.or_eq_false_iff]
    constructor <;> (apply decide_eq_false; intro e2; subst e2; revert hc; decide)
  have hf : frm (38 :: 35 :: (c :: r ++ 59 :: rest)) = 2 := by unfold frm; rw [hx]; rfl
  have hb : bas (38 :: 35 :: (c :: r ++ 59 :: rest)) = 10 := by unfold bas; rw [hx]; rfl
  have hn : numP (38 :: 35 :: (c :: r ++ 59 :: rest)) = (min (val 10 (c :: r) 0) 1114112, (c :: r).length) := by
    unfold numP
    rw [hf, hb]
    exact num_all (by decide) (59 :: rest) (fun x hx => by cases hx; decide) (c :: r) 0 hd (by decide)
  unfold refT
  have b1 : bAt (38 :: 35 :: (c :: r ++ 59 :: rest)) 1 = 35 := rfl
  rw [if_neg (by simp [bAt]), if_pos b1]
  unfold numT
  rw [hn, hf]
  simp only
  rw [if_neg (by simp)]
  have e : bAt (38 :: 35 :: (c :: r ++ 59 :: rest)) (2 + (c :: r).length) = 59 := by
    rw [bAt_in (by simp; omega)]
    simp [Nat.add_comm 2]
  rw [if_pos e]
  congr 1
  omega
theorem ref_hex {l rest : List UInt8} {x : UInt8} (attr : Bool) (hx : x = 120 ∨ x = 88) (h1 : l ≠ []) (hd : ∀ c ∈ l, dgt c < 16) (hr : ∀ c ∈ rest.head?, ¬ dgt c < 16) :
    refT (38 :: 35 :: x :: (l ++ rest)) attr = (en (codeB ((min (val 16 l 0) 1114112 : Nat) : Int)), if rest.head? = some 59 then l.length + 4 else l.length + 3) := by
  have hx2 : hexB (38 :: 35 :: x :: (l ++ rest)) = true := by
    have e : bAt (38 :: 35 :: x :: (l ++ rest)) 2 = x := rfl
    unfold hexB
    rw [e]
    simpa using hx
  have hf : frm (38 :: 35 :: x :: (l ++ rest)) = 3 := by unfold frm; rw [if_pos hx2]
  have hb : bas (38 :: 35 :: x :: (l ++ rest)) = 16 := by unfold bas; rw [if_pos hx2]
  have hn : numP (38 :: 35 :: x :: (l ++ rest)) = (min (val 16 l 0) 1114112, l.length) := by
    unfold numP
    rw [hf, hb]
    exact num_all (by decide) rest hr l 0 hd (by decide)
  have hl : l.length ≠ 0 := by cases l with
    | nil => exact absurd rfl h1
    | cons => simp
  unfold refT
  have b1 : bAt (38 :: 35 :: x :: (l ++ rest)) 1 = 35 := rfl
  rw [if_neg (by simp [bAt]), if_pos b1]
  unfold numT
  rw [hn, hf]
  simp only
  rw [if_neg hl]
  have e : bAt (38 :: 35 :: x :: (l ++ rest)) (3 + l.length) = bAt rest 0 := by
    unfold bAt
    rw [List.getD_eq_getElem?_getD, List.getD_eq_getElem?_getD]
    have : 38 :: 35 :: x :: (l ++ rest) = (38 :: 35 :: x :: l) ++ rest := rfl
    rw [this, List.getElem?_append_right (by simp; omega)]
    congr 2
    simp
    omega
  rw [e]
  have e2 : (bAt rest 0 = 59) ↔ rest.head? = some 59 := by
    cases rest with
    | nil => simp [bAt]
    | cons c r => simp [bAt]
  by_cases h59 : rest.head? = some 59
  · rw [if_pos (e2.2 h59), if_pos h59]; congr 1; omega
  · rw [if_neg (fun h => h59 (e2.1 h)), if_neg h59]; congr 1; omega
theorem dec_ten {l rest : List UInt8} (attr : Bool) (h1 : l ≠ []) (hd : ∀ c ∈ l, dgt c < 10) : decB attr (38 :: 35 :: (l ++ 59 :: rest)) = en (codeB ((min (val 10 l 0) 1114112 : Nat) : Int)) ++ decB attr rest := by
  rw [decB_ref rfl, ref_ten attr h1 hd]
  simp only
  congr 2
  have e : 38 :: 35 :: (l ++ 59 :: rest) = (38 :: 35 :: (l ++ [59])) ++ rest := by simp
  rw [e]
  exact List.drop_left' (by simp)
theorem dec_len (attr : Bool) : ∀ (n : Nat) (t : List UInt8), t.length ≤ n → (decB attr t).length ≤ 8 * t.length
  | 0, t, h => by
    have e : t = [] := List.eq_nil_of_length_eq_zero (by omega)
    subst e
    exact Nat.le_refl _
  | n + 1, [], h => Nat.le_refl _
  | n + 1, c :: r, h => by
    rw [List.length_cons] at h
    by_cases h38 : c = 38
    · have h0 : bAt (c :: r) 0 = 38 := h38
      have h1 := refT_pos (attr := attr) h0
      have h2 := refT_le (c :: r) attr
      have h3 := refT_txt (c :: r) attr
      rw [decB_ref h0, List.length_append]
      have h4 := dec_len attr n ((c :: r).drop (refT (c :: r) attr).2) (by rw [List.length_drop, List.length_cons]; omega)
      rw [List.length_drop] at h4
      omega
    · rw [decB_plain h38, List.length_cons, List.length_cons]
      have := dec_len attr n r (by omega)
      omega
end Go.Proofs.YtlelnjheocbmnaaDoor
