/- What Valid, Clean and Lower say of a text, as functions of its bytes, and what follows of them: cleaned it is right, and again the same; two texts cleaned one behind the other; in lower case it is as right as it was. -/
import Derived.Test.YtdniddiaiinggaaDoorUM
set_option linter.unusedVariables false
set_option linter.unusedSimpArgs false
namespace Go.Proofs.YtdniddiaiinggaaDoor.U

def vl : Nat → List UInt8 → Bool
  | 0, _ => true
  | f + 1, l => if l = [] then true else if (dc l).1 = 65533 ∧ ¬ [239, 191, 189] <+: l then false else vl f (l.drop (dc l).2)
/-- whether a text is right -/
def V (l : List UInt8) : Bool := vl l.length l
def cz (r : Nat) : Nat := if r = 0 then 65533 else if r = 13 then 10 else r
def cn : Nat → Bool → List UInt8 → List UInt8
  | 0, _, _ => []
  | f + 1, cr, l => if l = [] then [] else (if cr = true ∧ (dc l).1 = 10 then [] else en (cz (dc l).1)) ++ cn f (decide ((dc l).1 = 13)) (l.drop (dc l).2)
/-- a text cleaned; cr: behind a byte 13 -/
def C (cr : Bool) (l : List UInt8) : List UInt8 := cn l.length cr l
/-- a byte in lower case -/
def lw (b : UInt8) : UInt8 := if 65 ≤ b.toNat ∧ b.toNat ≤ 90 then b + 32 else b
def L (l : List UInt8) : List UInt8 := l.map lw

theorem drop_lt (l : List UInt8) (hl : l ≠ []) : (l.drop (dc l).2).length < l.length := by
  have := dc_pos l hl
  rw [List.length_drop]
  omega

theorem vl_s (f : Nat) (l : List UInt8) : vl (f + 1) l = if l = [] then true else if (dc l).1 = 65533 ∧ ¬ [239, 191, 189] <+: l then false else vl f (l.drop (dc l).2) := by rw [vl]
theorem vl_more : ∀ f l, l.length ≤ f → vl (f + 1) l = vl f l
  | 0, l, h => by
    have : l = [] := List.eq_nil_of_length_eq_zero (by omega)
    simp [vl, this]
  | f + 1, l, h => by
    rw [vl_s (f + 1) l, vl_s f l]
    by_cases hl : l = []
    · rw [if_pos hl, if_pos hl]
    · rw [if_neg hl, if_neg hl, vl_more f _ (by have := drop_lt l hl; omega)]
theorem vl_eq (l : List UInt8) : ∀ f, l.length ≤ f → vl f l = V l := by
  intro f h
  obtain ⟨k, rfl⟩ : ∃ k, f = l.length + k := ⟨f - l.length, by omega⟩
  induction k with
  | zero => rfl
  | succ k ih => rw [← Nat.add_assoc, vl_more _ _ (by omega), ih (by omega)]
theorem V_nil : V [] = true := rfl
theorem V_step (l : List UInt8) (hl : l ≠ []) (h : ¬ ((dc l).1 = 65533 ∧ ¬ [239, 191, 189] <+: l)) : V l = V (l.drop (dc l).2) := by
  have h1 := List.length_pos_iff.2 hl
  obtain ⟨f, hf⟩ : ∃ f, l.length = f + 1 := ⟨l.length - 1, by omega⟩
  unfold V
  rw [hf, vl, if_neg hl, if_neg h]
  exact vl_eq _ _ (by have := drop_lt l hl; omega)
theorem V_stop (l : List UInt8) (hl : l ≠ []) (h : (dc l).1 = 65533 ∧ ¬ [239, 191, 189] <+: l) : V l = false := by
  have h1 := List.length_pos_iff.2 hl
  obtain ⟨f, hf⟩ : ∃ f, l.length = f + 1 := ⟨l.length - 1, by omega⟩
  unfold V
  rw [hf, vl, if_neg hl, if_pos h]
theorem en_ne (r : Nat) (hr : IsR r) (m : List UInt8) : en r ++ m ≠ [] := by
  intro h
  have h1 := congrArg List.length h
  have := en_len r hr
  rw [List.length_append, List.length_nil] at h1
  omega
theorem V_bad (l : List UInt8) (h : Bad l) : V l = false := V_stop l h.ne ((bad_iff l h.ne).1 h)
theorem V_en (r : Nat) (hr : IsR r) (m : List UInt8) : V (en r ++ m) = V m := by
  rw [V_step _ (en_ne r hr m) (fun h => not_bad r hr m ((bad_iff _ (en_ne r hr m)).2 h)), dc_en r hr, List.drop_left]

theorem cn_s (f : Nat) (cr : Bool) (l : List UInt8) : cn (f + 1) cr l = if l = [] then [] else (if cr = true ∧ (dc l).1 = 10 then [] else en (cz (dc l).1)) ++ cn f (decide ((dc l).1 = 13)) (l.drop (dc l).2) := by rw [cn]
theorem cn_more : ∀ f cr l, l.length ≤ f → cn (f + 1) cr l = cn f cr l
  | 0, cr, l, h => by
    have : l = [] := List.eq_nil_of_length_eq_zero (by omega)
    simp [cn, this]
  | f + 1, cr, l, h => by
    rw [cn_s (f + 1) cr l, cn_s f cr l]
    by_cases hl : l = []
    · rw [if_pos hl, if_pos hl]
    · rw [if_neg hl, if_neg hl, cn_more f _ _ (by have := drop_lt l hl; omega)]
theorem cn_eq (cr : Bool) (l : List UInt8) : ∀ f, l.length ≤ f → cn f cr l = C cr l := by
  intro f h
  obtain ⟨k, rfl⟩ : ∃ k, f = l.length + k := ⟨f - l.length, by omega⟩
  induction k with
  | zero => rfl
  | succ k ih => rw [← Nat.add_assoc, cn_more _ _ _ (by omega), ih (by omega)]
theorem C_nil (cr : Bool) : C cr [] = [] := rfl
theorem C_step (cr : Bool) (l : List UInt8) (hl : l ≠ []) : C cr l = (if cr = true ∧ (dc l).1 = 10 then [] else en (cz (dc l).1)) ++ C (decide ((dc l).1 = 13)) (l.drop (dc l).2) := by
  have h1 := List.length_pos_iff.2 hl
  obtain ⟨f, hf⟩ : ∃ f, l.length = f + 1 := ⟨l.length - 1, by omega⟩
  show cn l.length cr l = _
  rw [hf, cn, if_neg hl]
  rw [cn_eq _ _ _ (by have := drop_lt l hl; omega)]
theorem C_en (cr : Bool) (r : Nat) (hr : IsR r) (m : List UInt8) : C cr (en r ++ m) = (if cr = true ∧ r = 10 then [] else en (cz r)) ++ C (decide (r = 13)) m := by
  rw [C_step _ _ (en_ne r hr m), dc_en r hr, List.drop_left]
theorem cz_bad (r : Nat) (h : r = 65533) : cz r = r := by unfold cz; rw [if_neg (by omega), if_neg (by omega)]
theorem C_bad (cr : Bool) (b : UInt8) (t : List UInt8) (h : Bad (b :: t)) : C cr (b :: t) = [239, 191, 189] ++ C false t := by
  rw [C_step _ _ h.ne]
  obtain ⟨r, hr⟩ : ∃ r, r = 65533 := ⟨65533, rfl⟩
  have e : dc (b :: t) = (r, 1) := by rw [hr]; exact h.dc
  rw [e]
  dsimp only
  rw [if_neg (by omega), cz_bad r hr, en_bad r hr, decide_eq_false (by omega)]
  rfl

theorem cz_is (r : Nat) (hr : IsR r) : IsR (cz r) ∧ cz r ≠ 0 ∧ cz r ≠ 13 := by
  have := hr.h
  unfold cz
  by_cases h0 : r = 0
  · rw [if_pos h0]; exact ⟨⟨by omega⟩, by omega, by omega⟩
  rw [if_neg h0]
  by_cases h1 : r = 13
  · rw [if_pos h1]; exact ⟨⟨by omega⟩, by omega, by omega⟩
  rw [if_neg h1]; exact ⟨hr, h0, h1⟩
theorem bad_rune : ∃ r : Nat, IsR r ∧ r = 65533 ∧ en r = [239, 191, 189] := ⟨65533, ⟨by omega⟩, rfl, en_bad _ rfl⟩

/-- P4.3 -/
theorem C_valid : ∀ l cr, V (C cr l) = true := by
  refine ind (fun cr => rfl) (fun r m hr ih cr => ?_) (fun b t h ih cr => ?_)
  · rw [C_en cr r hr]
    split
    · exact ih _
    · rw [V_en _ (cz_is r hr).1]; exact ih _
  · obtain ⟨r, hr, e, e2⟩ := bad_rune
    rw [C_bad cr b t h, ← e2, V_en r hr]; exact ih _
theorem C_again : ∀ l cr, C false (C cr l) = C cr l := by
  refine ind (fun cr => rfl) (fun r m hr ih cr => ?_) (fun b t h ih cr => ?_)
  · rw [C_en cr r hr]
    split
    · exact ih _
    · obtain ⟨h1, h2, h3⟩ := cz_is r hr
      have h4 : cz (cz r) = cz r := by unfold cz at h2 h3 ⊢; rw [if_neg h2, if_neg h3]
      rw [C_en false _ h1, if_neg (fun h => by cases h.1), h4, decide_eq_false h3, ih]
  · obtain ⟨r, hr, e, e2⟩ := bad_rune
    rw [C_bad cr b t h, ← e2, C_en false r hr, if_neg (fun h => by cases h.1), cz_bad r e, decide_eq_false (by omega), ih]
theorem en_low (r : Nat) (hr : IsR r) (h0 : r ≠ 0) (h1 : r ≠ 13) : ∀ b ∈ en r, b ≠ 0 ∧ b ≠ 13 := by
  by_cases h : r < 128
  · rw [en1 r hr h]
    intro b hb
    simp only [List.mem_cons, List.not_mem_nil, or_false] at hb
    constructor
    · intro e; rw [e] at hb; have := congrArg UInt8.toNat hb; rw [toNat_of r (by omega)] at this; exact h0 this.symm
    · intro e; rw [e] at hb; have := congrArg UInt8.toNat hb; rw [toNat_of r (by omega)] at this; exact h1 this.symm
  · intro b hb
    have := en_high r hr (by omega) b hb
    constructor
    · intro e; rw [e] at this; exact absurd this (by decide)
    · intro e; rw [e] at this; exact absurd this (by decide)
theorem C_no : ∀ l cr, ∀ b ∈ C cr l, b ≠ 0 ∧ b ≠ 13 := by
  refine ind (fun cr b hb => by cases hb) (fun r m hr ih cr b hb => ?_) (fun b t h ih cr c hc => ?_)
  · rw [C_en cr r hr] at hb
    obtain ⟨h1, h2, h3⟩ := cz_is r hr
    rcases List.mem_append.1 hb with hb | hb
    · split at hb
      · cases hb
      · exact en_low _ h1 h2 h3 b hb
    · exact ih _ b hb
  · rw [C_bad cr b t h] at hc
    rcases List.mem_append.1 hc with hc | hc
    · obtain ⟨r, hr, e, e2⟩ := bad_rune
      rw [← e2] at hc
      exact en_low r hr (by omega) (by omega) c hc
    · exact ih _ c hc
theorem cz_len (r : Nat) (hr : IsR r) : (en (cz r)).length ≤ 3 * (en r).length := by
  have h := en_len r hr
  unfold cz
  by_cases h0 : r = 0
  · rw [if_pos h0, en_bad _ rfl]; simp only [List.length_cons, List.length_nil]; omega
  rw [if_neg h0]
  by_cases h1 : r = 13
  · rw [if_pos h1, en1 10 ⟨by omega⟩ (by omega)]; simp only [List.length_cons, List.length_nil]; omega
  rw [if_neg h1]; omega
theorem C_len : ∀ l cr, (C cr l).length ≤ 3 * l.length := by
  refine ind (fun cr => Nat.le_refl _) (fun r m hr ih cr => ?_) (fun b t h ih cr => ?_)
  · rw [C_en cr r hr, List.length_append, List.length_append]
    have := ih (decide (r = 13))
    have := cz_len r hr
    split
    · simp only [List.length_nil]; omega
    · omega
  · rw [C_bad cr b t h, List.length_append, List.length_cons]
    have := ih false
    simp only [List.length_cons, List.length_nil]
    omega

/-- the last byte of what begins at l -/
theorem last13 (l : List UInt8) (hl : l ≠ []) : (l[(dc l).2 - 1]? = some 13 ↔ (dc l).1 = 13) := by
  rcases parts l hl with ⟨r, m, hr, el⟩ | h
  · have hlen := en_len r hr
    rw [el, dc_en r hr]
    dsimp only
    rw [List.getElem?_append_left (by omega)]
    by_cases h1 : r < 128
    · rw [en1 r hr h1]
      simp only [List.length_cons, List.length_nil, Nat.zero_add, Nat.sub_self, List.getElem?_cons_zero, Option.some.injEq]
      constructor
      · intro e; have := congrArg UInt8.toNat e; rw [toNat_of r (by omega)] at this; exact this
      · intro e; rw [e]; rfl
    · constructor
      · intro e
        have := en_high r hr (by omega) 13 (List.mem_of_getElem? e)
        exact absurd this (by decide)
      · intro e; omega
  · rw [h.dc]
    dsimp only
    constructor
    · intro e
      have h2 := h.hi
      unfold g at h2
      rw [List.getD_eq_getElem?_getD, e] at h2
      exact absurd h2 (by decide)
    · intro e; omega

theorem V_append : ∀ a b, V a = true → V (a ++ b) = V b := by
  refine ind (fun b _ => rfl) (fun r m hr ih b h => ?_) (fun c t h ih b hv => ?_)
  · rw [V_en r hr] at h
    rw [List.append_assoc, V_en r hr, ih b h]
  · rw [V_bad _ h] at hv; cases hv

theorem C_parts1 : ∀ a cr b, V a = true → (a = [] → cr = false) → a.getLast? ≠ some 13 → C cr (a ++ b) = C cr a ++ C false b := by
  refine ind (fun cr b _ h _ => by rw [h rfl]; rfl) (fun r m hr ih cr b hv hc hl => ?_) (fun c t h ih cr b hv _ _ => ?_)
  · rw [V_en r hr] at hv
    rw [List.append_assoc, C_en cr r hr, C_en cr r hr, ih _ b hv ?_ ?_, List.append_assoc]
    · intro hm
      apply decide_eq_false
      intro e
      apply hl
      rw [hm, List.append_nil, en1 r hr (by omega), e]
      rfl
    · intro e
      apply hl
      rw [List.getLast?_append, e]
      rfl
  · rw [V_bad _ h] at hv; cases hv
theorem C_parts (a b : List UInt8) (h : V a = true) (hl : a.getLast? ≠ some 13) : C false (a ++ b) = C false a ++ C false b := C_parts1 a false b h (fun _ => rfl) hl

theorem lw_high (b : UInt8) (h : 128 ≤ b.toNat) : lw b = b := by unfold lw; rw [if_neg (by omega)]
theorem lw_back (b : UInt8) (h : 128 ≤ (lw b).toNat) : lw b = b := by
  unfold lw at h ⊢
  split
  · rename_i hb
    rw [if_pos hb] at h
    rw [UInt8.toNat_add] at h
    have : (32 : UInt8).toNat = 32 := rfl
    omega
  · rfl
theorem lw_low (b : UInt8) (h : b.toNat < 128) : (lw b).toNat < 128 := by
  unfold lw
  split
  · rw [UInt8.toNat_add]
    have : (32 : UInt8).toNat = 32 := rfl
    omega
  · exact h
theorem L_high : ∀ l : List UInt8, (∀ b ∈ l, 128 ≤ b.toNat) → L l = l
  | [], _ => rfl
  | b :: t, h => by
    have h1 := L_high t (fun c hc => h c (List.mem_cons_of_mem _ hc))
    unfold L at h1 ⊢
    rw [List.map_cons, h1, lw_high b (h b List.mem_cons_self)]
theorem L_back : ∀ (l c m : List UInt8), (∀ b ∈ c, 128 ≤ b.toNat) → L l = c ++ m → ∃ m', l = c ++ m'
  | l, [], m, _, _ => ⟨l, rfl⟩
  | [], b :: c, m, _, e => by cases e
  | x :: l, b :: c, m, h, e => by
    unfold L at e
    rw [List.map_cons, List.cons_append, List.cons.injEq] at e
    obtain ⟨m', hm⟩ := L_back l c m (fun d hd => h d (List.mem_cons_of_mem _ hd)) e.2
    refine ⟨m', ?_⟩
    have hb := h b List.mem_cons_self
    rw [← e.1] at hb ⊢
    rw [hm, List.cons_append, lw_back x hb]
theorem V_lower : ∀ l, V (L l) = V l := by
  refine ind rfl (fun r m hr ih => ?_) (fun b t h ih => ?_)
  · have e : L (en r ++ m) = L (en r) ++ L m := List.map_append
    rw [e, V_en r hr]
    by_cases h1 : r < 128
    · rw [en1 r hr h1]
      have h2 := lw_low (UInt8.ofNat r) (by rw [toNat_of r (by omega)]; exact h1)
      have e2 : L [UInt8.ofNat r] = en ((lw (UInt8.ofNat r)).toNat : Nat) := by
        rw [en1 _ ⟨by omega⟩ h2]
        simp [L]
      rw [e2, V_en _ ⟨by omega⟩, ih]
    · rw [L_high _ (en_high r hr (by omega)), V_en r hr, ih]
  · rw [V_bad _ h]
    have hne : L (b :: t) ≠ [] := by unfold L; simp
    rcases parts (L (b :: t)) hne with ⟨r, m, hr, el⟩ | h2
    · exfalso
      have hb : 128 ≤ b.toNat := h.hi
      have h3 : 128 ≤ r := by
        by_cases h4 : r < 128
        · exfalso
          rw [en1 r hr h4] at el
          unfold L at el
          rw [List.map_cons, List.cons_append, List.cons.injEq, lw_high b hb] at el
          rw [el.1, toNat_of r (by omega)] at hb
          omega
        · omega
      obtain ⟨m', hm⟩ := L_back _ _ _ (en_high r hr h3) el
      rw [hm] at h
      exact not_bad r hr m' h
    · exact V_bad _ h2

theorem en_size (n : Int) : 1 ≤ (en n).length ∧ (en n).length ≤ 4 := by
  cases h : Utf8.valid n
  · rw [en_none n h]; decide
  · obtain ⟨k, rfl⟩ : ∃ k : Nat, n = k := ⟨n.toNat, by unfold Utf8.valid at h; simp only [Bool.or_eq_true, Bool.and_eq_true, decide_eq_true_eq] at h; omega⟩
    exact en_len k ((valid_iff k).1 h)
theorem V_put (n : Int) : V (en n) = true := by
  cases h : Utf8.valid n
  · obtain ⟨r, hr, _, e2⟩ := bad_rune
    rw [en_none n h, ← e2, ← List.append_nil (en r), V_en r hr]; rfl
  · obtain ⟨k, rfl⟩ : ∃ k : Nat, n = k := ⟨n.toNat, by unfold Utf8.valid at h; simp only [Bool.or_eq_true, Bool.and_eq_true, decide_eq_true_eq] at h; omega⟩
    rw [← List.append_nil (en k), V_en k ((valid_iff k).1 h)]; rfl
theorem en_same (n : Int) : (en n = [239, 191, 189] ∧ n ≠ 65533) ↔ Utf8.valid n = false := by
  cases h : Utf8.valid n
  · refine ⟨fun _ => rfl, fun _ => ⟨en_none n h, fun e => ?_⟩⟩
    rw [e] at h
    exact absurd h (by decide)
  · obtain ⟨k, rfl⟩ : ∃ k : Nat, n = k := ⟨n.toNat, by unfold Utf8.valid at h; simp only [Bool.or_eq_true, Bool.and_eq_true, decide_eq_true_eq] at h; omega⟩
    refine ⟨fun ⟨e, hn⟩ => ?_, fun h => by cases h⟩
    exfalso
    obtain ⟨r, hr, e1, e2⟩ := bad_rune
    have d1 := dc_en k ((valid_iff k).1 h) []
    have d2 := dc_en r hr []
    rw [e, ← e2, d2] at d1
    have : r = k := congrArg Prod.fst d1
    omega
end Go.Proofs.YtdniddiaiinggaaDoor.U
