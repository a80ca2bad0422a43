/- An evaluator for closed runs: drawn regions, what is plain about them. -/
import Derived.Test.YtfcmgkakmaclcaaEvK
import Derived.Orders
set_option linter.unusedSimpArgs false
set_option linter.unusedVariables false
set_option linter.unusedSectionVars false
namespace Go.Ev
variable [Inhabited Env]
theorem sameO_eq {a b : Option Nat} (h : sameO a b = true) : a = b := by
  cases a <;> cases b <;> first | rfl | cases h | (congr 1; exact Nat.eq_of_beq_eq_true h)
theorem sameA_eq {a b : Option Addr} (h : sameA a b = true) : a = b := by
  cases a with
  | none => cases b with | none => rfl | some b => cases h
  | some a => cases b with
    | none => cases h
    | some b =>
      obtain ⟨x, y, z⟩ := a; obtain ⟨x', y', z'⟩ := b
      obtain ⟨h1, h2, h3⟩ := and3 h
      rw [Nat.eq_of_beq_eq_true h1, Nat.eq_of_beq_eq_true h2, sameO_eq h3]
theorem bytes_eq {a b : ByteArray} (h : eqB a.data.toList b.data.toList = true) : a = b := by
  rw [eqB_eq] at h
  have h1 : a.data.toList = b.data.toList := eq_of_beq h
  exact ByteArray.ext (Array.ext' h1)
theorem sameV_eq {a b : Value} (h : sameV a b = true) : a = b := by
  unfold sameV at h
  split at h
  · rw [eq_of_beq h]
  · obtain ⟨h1, h2⟩ := and2 h; rw [of_decide_eq_true h1, of_decide_eq_true h2]
  · rw [bytes_eq h]
  · rw [sameA_eq h]
  · obtain ⟨h1, h2, h3⟩ := and3 h; rw [sameA_eq h1, Nat.eq_of_beq_eq_true h2, Nat.eq_of_beq_eq_true h3]
  · rw [sameO_eq h]
  · rfl
  · rfl
  · rw [Nat.eq_of_beq_eq_true h]
  · rw [Nat.eq_of_beq_eq_true h]
  · cases h
theorem sameL_eq : ∀ {a b : List Value}, sameL a b = true → a = b
  | [], [], _ => rfl
  | [], _ :: _, h => by cases h
  | _ :: _, [], h => by cases h
  | x :: a, y :: b, h => by
    unfold sameL at h
    split at h
    · rename_i hv; rw [sameV_eq hv, sameL_eq h]
    · cases h
theorem same1_eq {a b : Value} (h : same1 a b = true) : a = b := by
  unfold same1 at h
  split at h
  · rename_i x y; have := sameL_eq h; rw [Array.ext' this]
  · rename_i x y; have := sameL_eq h; rw [Array.ext' this]
  · exact sameV_eq h
theorem cellsSame_eq {a b : Obj} (h : cellsSame a b = true) : a = b := by
  unfold cellsSame at h
  split at h
  · obtain ⟨h1, h2⟩ := and2 h; rw [Nat.eq_of_beq_eq_true h1, sameL_eq h2]
  · cases h
/-! bits -/
theorem bit_lor (a b i : Nat) : Nat.testBit (Nat.lor a b) i = (Nat.testBit a i || Nat.testBit b i) := Nat.testBit_or a b i
theorem bit_land (a b i : Nat) : Nat.testBit (Nat.land a b) i = (Nat.testBit a i && Nat.testBit b i) := Nat.testBit_and a b i
theorem bit_one (n i : Nat) : Nat.testBit (Nat.shiftLeft 1 n) i = decide (n = i) := by
  have : Nat.shiftLeft 1 n = 2 ^ n := Nat.one_shiftLeft n
  rw [this, Nat.testBit_two_pow]
theorem bitsOf_mem : ∀ {l : List Nat} {j : Nat}, Nat.testBit (bitsOf l) j = true ↔ j ∈ l
  | [], j => by simp [bitsOf]
  | i :: r, j => by
    unfold bitsOf
    rw [bit_lor, bit_one, Bool.or_eq_true, bitsOf_mem (l := r), List.mem_cons]
    simp [eq_comm]
theorem land_zero {a b : Nat} : Nat.beq (Nat.land a b) 0 = true ↔ ∀ j, Nat.testBit a j = true → Nat.testBit b j = true → False := by
  constructor
  · intro h j h1 h2
    have h := Nat.eq_of_beq_eq_true h
    have : Nat.testBit (Nat.land a b) j = true := by rw [bit_land, h1, h2]; rfl
    rw [h] at this
    simp at this
  · intro h
    have : Nat.land a b = 0 := by
      apply Nat.eq_of_testBit_eq
      intro j
      rw [bit_land, Nat.zero_testBit]
      cases h1 : Nat.testBit a j with
      | false => rfl
      | true => cases h2 : Nat.testBit b j with
        | false => rfl
        | true => exact (h j h1 h2).elim
    rw [this]; rfl
theorem edgeBits_mem {acc : List Nat} : ∀ {l : List Edge} {j : Nat}, Nat.testBit (edgeBits acc l) j = true → ∃ e ∈ l, Region.binds .any e = true ∧ (j = e.on ∨ Nat.testBit ((nthL acc e.on).getD 0) j = true)
  | [], j, h => by simp [edgeBits] at h
  | e :: r, j, h => by
    unfold edgeBits at h
    split at h
    · rename_i hb
      rw [bit_lor, bit_lor, bit_one, Bool.or_eq_true, Bool.or_eq_true] at h
      rcases h with (h | h) | h
      · exact ⟨e, by simp, hb, .inl (of_decide_eq_true h).symm⟩
      · exact ⟨e, by simp, hb, .inr h⟩
      · obtain ⟨e', h1, h2⟩ := edgeBits_mem h; exact ⟨e', by simp [h1], h2⟩
    · obtain ⟨e', h1, h2⟩ := edgeBits_mem h; exact ⟨e', by simp [h1], h2⟩
theorem edgeBits_has {acc : List Nat} : ∀ {l : List Edge} {e : Edge}, e ∈ l → Region.binds .any e = true → Nat.testBit (edgeBits acc l) e.on = true
  | [], e, h, _ => by cases h
  | x :: r, e, h, hb => by
    unfold edgeBits
    rcases List.mem_cons.1 h with h | h
    · subst h
      rw [hb]
      simp only []
      rw [bit_lor, bit_lor, bit_one]; simp
    · split
      · rw [bit_lor, edgeBits_has h hb]; simp
      · exact edgeBits_has h hb
theorem backE_mem {i : Nat} : ∀ {l : List Edge} {e : Edge}, backE i l = true → e ∈ l → Region.binds .any e = true → e.on < i
  | [], e, _, h, _ => by cases h
  | x :: r, e, hb, h, hbind => by
    unfold backE at hb
    rcases List.mem_cons.1 h with h | h
    · subst h
      rw [hbind] at hb
      simp only [] at hb
      split at hb
      · rename_i h2; simpa [Nat.blt_eq] using h2
      · cases hb
    · split at hb
      · split at hb
        · exact backE_mem hb h hbind
        · cases hb
      · exact backE_mem hb h hbind
section
variable {P : Program}
theorem readsOK_mem {t b i : Nat} : ∀ {ops : List Oper} {bs : List Nat} {j0 : Nat}, readsOK P t b i ops bs j0 = true → ∀ j o c, ops[j]? = some o → bs[j]? = some c → o.dst = some t → Nat.testBit b (j0 + j) = true ∨ (kind P o.op = 3 ∧ (Nat.testBit c i = true ∨ i = j0 + j))
  | [], bs, j0, _, j, o, c, h, _, _ => by simp at h
  | x :: r, [], j0, _, j, o, c, _, h, _ => by simp at h
  | x :: r, y :: bs, j0, hr, j, o, c, h1, h2, h3 => by
    have rest : readsOK P t b i r bs (j0 + 1) = true := by
      unfold readsOK at hr
      split at hr
      · split at hr
        · cases hr
        · exact hr
      · exact hr
    cases j with
    | succ j =>
      have := readsOK_mem rest j o c (by simpa using h1) (by simpa using h2) h3
      rw [show j0 + (j + 1) = j0 + 1 + j by omega]
      exact this
    | zero =>
      simp at h1 h2
      subst h1 h2
      unfold readsOK at hr
      rw [h3] at hr
      simp only [Nat.beq_refl, Bool.true_and] at hr
      rw [Nat.add_zero]
      cases hb : Nat.testBit b j0 with
      | true => exact .inl rfl
      | false =>
        right
        rw [hb] at hr
        simp only [Bool.not_false, Bool.true_and] at hr
        split at hr
        · cases hr
        · rename_i hq
          simp only [Bool.not_eq_false', Bool.and_eq_true, Bool.or_eq_true] at hq
          obtain ⟨q1, q2⟩ := hq
          refine ⟨Nat.eq_of_beq_eq_true q1, ?_⟩
          rcases q2 with q2 | q2
          · exact .inl q2
          · exact .inr (Nat.eq_of_beq_eq_true q2)
theorem tmpsOK_mem {ops : List Oper} {bs : List Nat} {b i : Nat} : ∀ {xs : List Operand} {t : Tmp}, tmpsOK P ops bs b i xs = true → .tmp t ∈ xs → readsOK P t b i ops bs 0 = true
  | [], t, _, h => by cases h
  | .tmp u :: r, t, hx, h => by
    simp only [tmpsOK] at hx
    split at hx
    · rename_i hr
      rcases List.mem_cons.1 h with h | h
      · cases h; exact hr
      · exact tmpsOK_mem hx h
    · cases hx
  | .const u :: r, t, hx, h => by
    rcases List.mem_cons.1 h with h | h
    · cases h
    · exact tmpsOK_mem (by simpa only [tmpsOK] using hx) h
  | .global u :: r, t, hx, h => by
    rcases List.mem_cons.1 h with h | h
    · cases h
    · exact tmpsOK_mem (by simpa only [tmpsOK] using hx) h
  | .func u :: r, t, hx, h => by
    rcases List.mem_cons.1 h with h | h
    · cases h
    · exact tmpsOK_mem (by simpa only [tmpsOK] using hx) h
theorem noneW_mem {t : Tmp} : ∀ {ops : List Oper}, noneW t ops = true → ∀ o ∈ ops, o.dst ≠ some t
  | [], _, o, h => by cases h
  | x :: r, hn, o, h => by
    unfold noneW at hn
    rcases List.mem_cons.1 h with h | h
    · subst h
      intro hd
      rw [hd] at hn
      simp only [Nat.beq_refl] at hn
      cases hn
    · split at hn
      · split at hn
        · cases hn
        · exact noneW_mem hn o h
      · exact noneW_mem hn o h
theorem onceOK_mem : ∀ {ops : List Oper}, onceOK ops = true → ∀ (i j : Nat) (o p : Oper) (t : Tmp), i < j → ops[i]? = some o → ops[j]? = some p → o.dst = some t → p.dst ≠ some t
  | [], _, i, j, o, p, t, _, h, _, _ => by simp at h
  | x :: r, ho, i, j, o, p, t, hij, h1, h2, h3 => by
    obtain ⟨j, rfl⟩ : ∃ k, j = k + 1 := ⟨j - 1, by omega⟩
    simp at h2
    have rest : onceOK r = true := by
      unfold onceOK at ho
      split at ho
      · split at ho
        · exact ho
        · cases ho
      · exact ho
    cases i with
    | zero =>
      simp at h1
      subst h1
      unfold onceOK at ho
      rw [h3] at ho
      simp only [] at ho
      split at ho
      · rename_i hn
        exact noneW_mem hn p (List.mem_of_getElem? h2)
      · cases ho
    | succ i => exact onceOK_mem rest i j o p t (by omega) (by simpa using h1) h2 h3
theorem once_eq {ops : List Oper} (h : onceOK ops = true) {i j : Nat} {o p : Oper} {t : Tmp} (h1 : ops[i]? = some o) (h2 : ops[j]? = some p) (h3 : o.dst = some t) (h4 : p.dst = some t) : i = j := by
  rcases Nat.lt_trichotomy i j with hl | hl | hl
  · exact absurd h4 (onceOK_mem h i j o p t hl h1 h2 h3)
  · exact hl
  · exact absurd h3 (onceOK_mem h j i p o t hl h2 h1 h4)
theorem tidyL_mem {ops : List Oper} {bs : List Nat} {n : Nat} : ∀ {l : List Oper} {m : List Nat} {i0 : Nat}, tidyL P ops bs n l m i0 = true → ∀ i o, l[i]? = some o → ∃ b, m[i]? = some b ∧ tidyO P ops bs o b (i0 + i) n = true
  | [], [], i0, _, i, o, h => by simp at h
  | [], _ :: _, i0, ht, i, o, h => by simp at h
  | x :: r, [], i0, ht, i, o, h => by cases ht
  | x :: r, y :: m, i0, ht, i, o, h => by
    unfold tidyL at ht
    split at ht
    · rename_i hx
      cases i with
      | zero => simp at h; subst h; exact ⟨y, by simp, by simpa using hx⟩
      | succ i =>
        obtain ⟨b, h1, h2⟩ := tidyL_mem ht i o (by simpa using h)
        exact ⟨b, by simpa using h1, by rw [show i0 + (i + 1) = i0 + 1 + i by omega]; exact h2⟩
    · cases ht
theorem effL_mem : ∀ {ops : List Oper} {i0 e : Nat}, e ∈ effL P ops i0 ↔ ∃ i o, e = i0 + i ∧ ops[i]? = some o ∧ kind P o.op = 3
  | [], i0, e => by simp [effL]
  | x :: r, i0, e => by
    unfold effL
    have ih := effL_mem (ops := r) (i0 := i0 + 1) (e := e)
    have key : (∃ i o, e = i0 + i ∧ (x :: r)[i]? = some o ∧ kind P o.op = 3) ↔ (e = i0 ∧ kind P x.op = 3) ∨ ∃ i o, e = i0 + 1 + i ∧ r[i]? = some o ∧ kind P o.op = 3 := by
      constructor
      · rintro ⟨i, o, h1, h2, h3⟩
        cases i with
        | zero => simp at h2; subst h2; exact .inl ⟨by omega, h3⟩
        | succ i => exact .inr ⟨i, o, by omega, by simpa using h2, h3⟩
      · rintro (⟨h1, h2⟩ | ⟨i, o, h1, h2, h3⟩)
        · exact ⟨0, x, by omega, by simp, h2⟩
        · exact ⟨i + 1, o, by omega, by simpa using h2, h3⟩
    rw [key]
    split
    · rename_i hk
      have hk := Nat.eq_of_beq_eq_true hk
      rw [List.mem_cons, ih]
      simp [hk]
    · rename_i hk
      have hk := beq_false hk
      rw [ih]
      simp [hk]
theorem nowL_mem {left : Nat} {must : Option Nat} : ∀ {ops : List Oper} {bs : List Nat} {i0 j : Nat}, j ∈ nowL P left must ops bs i0 → ∃ i o b, j = i0 + i ∧ ops[i]? = some o ∧ bs[i]? = some b ∧ kind P o.op ≠ 3 ∧ Nat.beq (Nat.land b left) 0 = true ∧ ∀ e, must = some e → Nat.testBit b e = true
  | [], bs, i0, j, h => by simp [nowL] at h
  | x :: r, [], i0, j, h => by simp [nowL] at h
  | x :: r, y :: bs, i0, j, h => by
    unfold nowL at h
    have rest : j ∈ nowL P left must r bs (i0 + 1) → ∃ i o b, j = i0 + i ∧ (x :: r)[i]? = some o ∧ (y :: bs)[i]? = some b ∧ kind P o.op ≠ 3 ∧ Nat.beq (Nat.land b left) 0 = true ∧ ∀ e, must = some e → Nat.testBit b e = true := fun h => by
      obtain ⟨i, o, b, h1, h2, h3, h4⟩ := nowL_mem h
      exact ⟨i + 1, o, b, by omega, by simpa using h2, by simpa using h3, h4⟩
    split at h
    · exact rest h
    · rename_i hc
      rcases List.mem_cons.1 h with h | h
      · rw [Bool.or_eq_false_iff, Bool.or_eq_false_iff] at hc
        obtain ⟨⟨c1, c2⟩, c3⟩ := hc
        refine ⟨0, x, y, by omega, by simp, by simp, beq_false c1, by simpa using c2, fun e he => ?_⟩
        subst he
        simpa using c3
      · exact rest h
theorem againL_mem {ops : List Oper} {pend : List (Nat × Nat)} {left past : Nat} {tm : Tm} {H : Hp} : ∀ {l : List Oper} {bs : List Nat} {i0 : Nat}, againL P ops pend left past tm H l bs i0 = true → ∀ i o b, l[i]? = some o → bs[i]? = some b → kind P o.op ≠ 3 → Nat.beq (Nat.land b left) 0 = true → Nat.testBit past (i0 + i) = false → againO P ops pend (i0 + i) o tm H = true
  | [], bs, i0, _, i, o, b, h, _, _, _, _ => by simp at h
  | x :: r, [], i0, _, i, o, b, _, h, _, _, _ => by simp at h
  | x :: r, y :: bs, i0, ha, i, o, b, h1, h2, h3, h4, h5 => by
    unfold againL at ha
    have rest : againL P ops pend left past tm H r bs (i0 + 1) = true := by
      split at ha
      · exact ha
      · split at ha
        · exact ha
        · cases ha
    cases i with
    | succ i =>
      have := againL_mem rest i o b (by simpa using h1) (by simpa using h2) h3 h4 (by rw [show i0 + 1 + i = i0 + (i + 1) by omega]; exact h5)
      rw [show i0 + (i + 1) = i0 + 1 + i by omega]
      exact this
    | zero =>
      simp at h1 h2
      subst h1 h2
      rw [Nat.add_zero] at h5 ⊢
      have hk : Nat.beq (kind P x.op) 3 = false := by
        cases hq : Nat.beq (kind P x.op) 3 with
        | false => rfl
        | true => exact absurd (Nat.eq_of_beq_eq_true hq) h3
      rw [hk, h4, h5] at ha
      simp only [Bool.not_true, Bool.or_self] at ha
      split at ha
      · rename_i hx; exact hx
      · cases ha
theorem chain_mem {bs : List Nat} : ∀ {es : List Nat}, chainOK bs es = true → ∀ {a b : List Nat} {e f : Nat}, es = a ++ e :: f :: b → Nat.testBit ((nthL bs f).getD 0) e = true
  | [], _, a, b, e, f, h => by simp at h
  | [x], _, a, b, e, f, h => by
    have := congrArg List.length h
    simp at this
    omega
  | x :: y :: r, hc, a, b, e, f, h => by
    unfold chainOK at hc
    split at hc
    · rename_i hb
      cases a with
      | nil => simp at h; obtain ⟨h1, h2, _⟩ := h; subst h1 h2; exact hb
      | cons c a => simp at h; exact chain_mem hc h.2
    · cases hc
theorem hasP_mem : ∀ {p : List (Nat × Nat)} {j i : Nat}, hasP p j i = true → (j, i) ∈ p
  | [], j, i, h => by cases h
  | (a, b) :: r, j, i, h => by
    unfold hasP at h
    split at h
    · rename_i hq; obtain ⟨h1, h2⟩ := and2 hq; rw [Nat.eq_of_beq_eq_true h1, Nat.eq_of_beq_eq_true h2]; simp
    · exact List.mem_cons_of_mem _ (hasP_mem h)
end
end Go.Ev
