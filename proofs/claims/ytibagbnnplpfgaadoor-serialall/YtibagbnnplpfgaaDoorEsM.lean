/- A text with references, plain mathematics: all of one text replaced in another one, sign by sign. -/
import Derived.Test.YtibagbnnplpfgaaDoorNames
import Derived.Lib.Replace
import Derived.Lib.Strings
set_option linter.unusedVariables false
set_option linter.unusedSimpArgs false
namespace Go.Proofs.YtibagbnnplpfgaaDoor
open Go.RowKit M

/-- the byte at a place, 0 behind the end -/
def bAt (l : List UInt8) (i : Nat) : UInt8 := l.getD i 0
theorem bAt_drop (l : List UInt8) (i j : Nat) : bAt (l.drop i) j = bAt l (i + j) := by
  unfold bAt
  rw [List.getD_eq_getElem?_getD, List.getD_eq_getElem?_getD, List.getElem?_drop]
theorem bAt_in {l : List UInt8} {i : Nat} (h : i < l.length) : bAt l i = l[i] := by
  unfold bAt
  rw [List.getD_eq_getElem?_getD, List.getElem?_eq_getElem h]
  rfl
theorem bAt_out {l : List UInt8} {i : Nat} (h : l.length ≤ i) : bAt l i = 0 := by
  unfold bAt
  rw [List.getD_eq_getElem?_getD, List.getElem?_eq_none h]
  rfl
theorem drop_cons {l : List UInt8} {i : Nat} (h : i < l.length) : l.drop i = bAt l i :: l.drop (i + 1) := by
  rw [bAt_in h]
  exact List.drop_eq_getElem_cons h

/-- all of old replaced, by fuel -/
def repA (old new : List UInt8) : Nat → List UInt8 → List UInt8
  | 0, l => l
  | _ + 1, [] => []
  | f + 1, b :: r => if old.isPrefixOf (b :: r) = true then new ++ repA old new f ((b :: r).drop old.length) else b :: repA old new f r
def repK (old new s : List UInt8) : List UInt8 := Lib.replaceK old new (Lib.count s old) s
theorem repK_nil {old : List UInt8} (new : List UInt8) (h : old ≠ []) : repK old new [] = [] := by
  have hi : Lib.index [] old = -1 := by
    unfold Lib.index
    rw [if_neg]
    cases old with
    | nil => exact absurd rfl h
    | cons => simp
  unfold repK
  rw [Lib.count_miss hi]
  rfl
theorem repK_hit {old new s : List UInt8} (h : old ≠ []) (hp : old.isPrefixOf s = true) : repK old new s = new ++ repK old new (s.drop old.length) := by
  have hi : Lib.index s old = (0 : Nat) := by
    cases s with
    | nil => cases old with
      | nil => exact absurd rfl h
      | cons => simp at hp
    | cons b r => unfold Lib.index; rw [if_pos hp]; rfl
  have h1 : 1 ≤ old.length := by cases old with
    | nil => exact absurd rfl h
    | cons => simp
  unfold repK
  rw [Lib.count_hit h hi, Nat.zero_add, Nat.add_comm 1, Lib.replaceK_hit _ _ _ _ 0 hi, Nat.zero_add]
  simp
theorem repK_skip {old new r : List UInt8} {b : UInt8} (h : old ≠ []) (hp : old.isPrefixOf (b :: r) = false) : repK old new (b :: r) = b :: repK old new r := by
  have h1 : 1 ≤ old.length := by cases old with
    | nil => exact absurd rfl h
    | cons => simp
  have hx : Lib.index (b :: r) old = if Lib.index r old == -1 then -1 else Lib.index r old + 1 := by
    conv => lhs; unfold Lib.index
    rw [hp]
    rfl
  have hge := Lib.index_ge r old
  by_cases hm : Lib.index r old = -1
  · rw [hm] at hx
    have hx' : Lib.index (b :: r) old = -1 := hx
    unfold repK
    rw [Lib.count_miss hx', Lib.count_miss hm]
    rfl
  · obtain ⟨i, hi⟩ : ∃ i : Nat, Lib.index r old = i := ⟨(Lib.index r old).toNat, by omega⟩
    have hx' : Lib.index (b :: r) old = ((i + 1 : Nat) : Int) := by
      rw [hx, if_neg (by rw [beq_iff_eq]; exact hm), hi]
      rfl
    unfold repK
    rw [Lib.count_hit h hx', Lib.count_hit h hi, Nat.add_comm 1, Nat.add_comm 1, Lib.replaceK_hit _ _ _ _ _ hx', Lib.replaceK_hit _ _ _ _ _ hi]
    have e : (b :: r).drop (i + 1 + old.length) = r.drop (i + old.length) := by
      rw [show i + 1 + old.length = (i + old.length) + 1 by omega]
      rfl
    rw [e]
    rfl
theorem repl_eq {old new : List UInt8} (hne : (old == new) = false) (s : List UInt8) : Lib.replaceAll s old new = repK old new s := by
  unfold Lib.replaceAll Lib.replace repK
  rw [hne]
  simp only [Bool.false_eq_true, if_false]
  congr 1
theorem repK_len {old new : List UInt8} (h : old ≠ []) (h6 : new.length ≤ 6) : ∀ (n : Nat) (s : List UInt8), s.length ≤ n → (repK old new s).length ≤ 6 * s.length
  | 0, s, hs => by
    have e : s = [] := List.eq_nil_of_length_eq_zero (by omega)
    rw [e, repK_nil _ h]
    exact Nat.le_refl _
  | n + 1, [], hs => by rw [repK_nil _ h]; exact Nat.le_refl _
  | n + 1, b :: r, hs => by
    have h1 : 1 ≤ old.length := by cases old with
      | nil => exact absurd rfl h
      | cons => simp
    rw [List.length_cons] at hs
    cases hp : old.isPrefixOf (b :: r) with
    | true =>
      rw [repK_hit h hp, List.length_append]
      have := repK_len h h6 n ((b :: r).drop old.length) (by rw [List.length_drop, List.length_cons]; omega)
      rw [List.length_drop, List.length_cons] at this
      rw [List.length_cons]
      omega
    | false =>
      rw [repK_skip h hp, List.length_cons, List.length_cons]
      have := repK_len h h6 n r (by omega)
      omega

/-- one byte replaced -/
def rep1 (c : UInt8) (new l : List UInt8) : List UInt8 := l.flatMap fun b => if b = c then new else [b]
theorem rep1_eq (c : UInt8) (new : List UInt8) : ∀ l, repK [c] new l = rep1 c new l
  | [] => repK_nil _ (by simp)
  | b :: r => by
    have ih := rep1_eq c new r
    unfold rep1 at ih ⊢
    rw [List.flatMap_cons]
    by_cases h : b = c
    · subst h
      rw [repK_hit (by simp) (by simp), if_pos rfl]
      simp only [List.length_cons, List.length_nil, List.drop_succ_cons, List.drop_zero]
      rw [ih]
    · rw [repK_skip (by simp) (by simp [List.isPrefixOf, Ne.symm h]), if_neg h, ih]
      rfl
theorem rep1_app (c : UInt8) (new a b : List UInt8) : rep1 c new (a ++ b) = rep1 c new a ++ rep1 c new b := by unfold rep1; exact List.flatMap_append
theorem rep1_nil (c : UInt8) (new : List UInt8) : rep1 c new [] = [] := rfl
theorem rep1_hit (c : UInt8) (new r : List UInt8) : rep1 c new (c :: r) = new ++ rep1 c new r := by unfold rep1; rw [List.flatMap_cons, if_pos rfl]
theorem rep1_no {c b : UInt8} (h : b ≠ c) (new r : List UInt8) : rep1 c new (b :: r) = b :: rep1 c new r := by unfold rep1; rw [List.flatMap_cons, if_neg h]; rfl

def amp : List UInt8 := [38, 97, 109, 112, 59]
def nbsp : List UInt8 := [38, 110, 98, 115, 112, 59]
def lt' : List UInt8 := [38, 108, 116, 59]
def gt' : List UInt8 := [38, 103, 116, 59]
def quot : List UInt8 := [38, 113, 117, 111, 116, 59]
def rep2 (l : List UInt8) : List UInt8 := repK [194, 160] nbsp l
theorem rep2_nil : rep2 [] = [] := repK_nil _ (by simp)
theorem rep2_hit (r : List UInt8) : rep2 (194 :: 160 :: r) = nbsp ++ rep2 r := repK_hit (old := [194, 160]) (by simp) (by simp)
theorem rep2_no {b : UInt8} (h : b ≠ 194) (r : List UInt8) : rep2 (b :: r) = b :: rep2 r := repK_skip (by simp) (by simp [List.isPrefixOf, Ne.symm h])
theorem rep2_half {r : List UInt8} (h : r.head? ≠ some 160) : rep2 (194 :: r) = 194 :: rep2 r := by
  refine repK_skip (by simp) ?_
  cases r with
  | nil => rfl
  | cons d r =>
    simp only [List.head?_cons, ne_eq, Option.some.injEq] at h
    simp [List.isPrefixOf, Ne.symm h]
theorem rep2_app : ∀ (p r : List UInt8), (∀ b ∈ p, b ≠ 194) → rep2 (p ++ r) = p ++ rep2 r
  | [], r, _ => rfl
  | b :: p, r, h => by
    rw [List.cons_append, rep2_no (h b List.mem_cons_self), rep2_app p r (fun x hx => h x (List.mem_cons_of_mem _ hx))]
    rfl
/-- what the program makes of a text, step by step -/
def escP (attr : Bool) (l : List UInt8) : List UInt8 :=
  if attr = true then rep1 34 quot (rep1 62 gt' (rep1 60 lt' (rep2 (rep1 38 amp l)))) else rep1 62 gt' (rep1 60 lt' (rep2 (rep1 38 amp l)))
/-- the sign's own text -/
def sgn (attr : Bool) (c : UInt8) : List UInt8 := if c = 38 then amp else if c = 60 then lt' else if c = 62 then gt' else if c = 34 ∧ attr = true then quot else [c]
/-- a text with references, sign by sign -/
def escB (attr : Bool) : List UInt8 → List UInt8
  | [] => []
  | [c] => sgn attr c
  | c :: d :: r => if c = 194 ∧ d = 160 then nbsp ++ escB attr r else sgn attr c ++ escB attr (d :: r)
theorem escB_nil (attr : Bool) : escB attr [] = [] := by rw [escB]
theorem escB_sp (attr : Bool) (r : List UInt8) : escB attr (194 :: 160 :: r) = nbsp ++ escB attr r := by
  rw [escB, if_pos ⟨rfl, rfl⟩]
theorem escB_one {attr : Bool} {c : UInt8} {r : List UInt8} (h : ¬ (c = 194 ∧ r.head? = some 160)) : escB attr (c :: r) = sgn attr c ++ escB attr r := by
  cases r with
  | nil => rw [escB_nil, List.append_nil]; rfl
  | cons d r =>
    rw [escB, if_neg]
    intro h2
    exact h ⟨h2.1, by rw [h2.2]; rfl⟩
theorem head_sp {r : List UInt8} (h : r.head? = some 160) : ∃ r', r = 160 :: r' := by
  cases r with
  | nil => cases h
  | cons d r' => exact ⟨r', by rw [List.head?_cons] at h; rw [Option.some.inj h]⟩
theorem head_rep1 (r : List UInt8) (h : r.head? ≠ some 160) : (rep1 38 amp r).head? ≠ some 160 := by
  cases r with
  | nil => simp [rep1]
  | cons d r =>
    by_cases hd : d = 38
    · subst hd; rw [rep1_hit]; simp [amp]
    · rw [rep1_no hd]; exact h
theorem fin_app (attr : Bool) (a b : List UInt8) : (if attr = true then rep1 34 quot (rep1 62 gt' (rep1 60 lt' (a ++ b))) else rep1 62 gt' (rep1 60 lt' (a ++ b))) = (if attr = true then rep1 34 quot (rep1 62 gt' (rep1 60 lt' a)) else rep1 62 gt' (rep1 60 lt' a)) ++ (if attr = true then rep1 34 quot (rep1 62 gt' (rep1 60 lt' b)) else rep1 62 gt' (rep1 60 lt' b)) := by
  cases attr
  · simp only [Bool.false_eq_true, if_false, rep1_app]
  · simp only [if_true, rep1_app]
theorem fin_amp (attr : Bool) : (if attr = true then rep1 34 quot (rep1 62 gt' (rep1 60 lt' amp)) else rep1 62 gt' (rep1 60 lt' amp)) = amp := by cases attr <;> decide
theorem fin_nbsp (attr : Bool) : (if attr = true then rep1 34 quot (rep1 62 gt' (rep1 60 lt' nbsp)) else rep1 62 gt' (rep1 60 lt' nbsp)) = nbsp := by cases attr <;> decide
theorem fin_one (attr : Bool) (c : UInt8) (h : c ≠ 38) : (if attr = true then rep1 34 quot (rep1 62 gt' (rep1 60 lt' [c])) else rep1 62 gt' (rep1 60 lt' [c])) = sgn attr c := by
  unfold sgn
  rw [if_neg h]
  by_cases h1 : c = 60
  · subst h1; cases attr <;> decide
  by_cases h2 : c = 62
  · subst h2; cases attr <;> decide
  rw [if_neg h1, if_neg h2, rep1_no h1, rep1_nil, rep1_no h2, rep1_nil]
  cases attr
  · simp
  · by_cases h3 : c = 34
    · subst h3; decide
    · rw [if_pos rfl, rep1_no h3, rep1_nil, if_neg (by simp [h3])]
theorem escP_eq (attr : Bool) : ∀ (n : Nat) (l : List UInt8), l.length ≤ n → escP attr l = escB attr l
  | 0, l, h => by
    have e : l = [] := List.eq_nil_of_length_eq_zero (by omega)
    subst e
    rw [escB_nil, escP, rep1_nil, rep2_nil]
    cases attr <;> rfl
  | n + 1, [], h => by
    rw [escB_nil, escP, rep1_nil, rep2_nil]
    cases attr <;> rfl
  | n + 1, c :: r, h => by
    rw [List.length_cons] at h
    by_cases h1 : c = 38
    · subst h1
      have ih := escP_eq attr n r (by omega)
      unfold escP at ih ⊢
      rw [escB_one (by simp), rep1_hit, rep2_app amp _ (by decide), fin_app, fin_amp, ih]
      rfl
    by_cases h2 : c = 194
    · subst h2
      by_cases h3 : r.head? = some 160
      · obtain ⟨r', rfl⟩ := head_sp h3
        have ih := escP_eq attr n r' (by rw [List.length_cons] at h; omega)
        unfold escP at ih ⊢
        rw [escB_sp, rep1_no (by decide), rep1_no (by decide), rep2_hit, fin_app, fin_nbsp, ih]
      · have ih := escP_eq attr n r (by omega)
        unfold escP at ih ⊢
        rw [escB_one (by simp [h3]), rep1_no (by decide), rep2_half (head_rep1 r h3)]
        have e : ∀ x : List UInt8, (194 : UInt8) :: x = [194] ++ x := fun _ => rfl
        rw [e, fin_app, fin_one attr 194 (by decide), ih]
    · have ih := escP_eq attr n r (by omega)
      unfold escP at ih ⊢
      rw [escB_one (by simp [h2]), rep1_no h1, rep2_no h2]
      have e : ∀ x : List UInt8, c :: x = [c] ++ x := fun _ => rfl
      rw [e, fin_app, fin_one attr c h1, ih]
theorem sgn_len (attr : Bool) (c : UInt8) : (sgn attr c).length ≤ 6 := by
  unfold sgn
  repeat' split
  all_goals simp [amp, lt', gt', quot]
theorem escB_len (attr : Bool) : ∀ (n : Nat) (l : List UInt8), l.length ≤ n → (escB attr l).length ≤ 6 * l.length
  | 0, l, h => by
    have e : l = [] := List.eq_nil_of_length_eq_zero (by omega)
    subst e
    rw [escB_nil]; exact Nat.le_refl _
  | n + 1, [], h => by rw [escB_nil]; exact Nat.le_refl _
  | n + 1, c :: r, h => by
    rw [List.length_cons] at h
    by_cases h2 : c = 194 ∧ r.head? = some 160
    · obtain ⟨h2, h3⟩ := h2
      subst h2
      obtain ⟨r', rfl⟩ := head_sp h3
      rw [escB_sp, List.length_append, List.length_cons, List.length_cons]
      have := escB_len attr n r' (by rw [List.length_cons] at h; omega)
      have : nbsp.length = 6 := rfl
      omega
    · rw [escB_one h2, List.length_append, List.length_cons]
      have := escB_len attr n r (by omega)
      have := sgn_len attr c
      omega
/-- how far Escape has come -/
structure EMid (attr : Bool) (l : List UInt8) (k : Nat) (out : List UInt8) : Prop where
  all : out ++ escB attr (l.drop k) = escB attr l
  len : out.length ≤ 6 * k
theorem emid_start (attr : Bool) (l : List UInt8) : EMid attr l 0 [] := ⟨by simp, by simp⟩
theorem emid_sp {attr : Bool} {l out : List UInt8} {k : Nat} (h : EMid attr l k out) (h1 : k + 1 < l.length) (hc : bAt l k = 194) (hd : bAt l (k + 1) = 160) : EMid attr l (k + 2) (out ++ nbsp) := by
  refine ⟨?_, by have := h.len; rw [List.length_append]; have : nbsp.length = 6 := rfl; omega⟩
  have h0 : k < l.length := by omega
  have e1 : l.drop k = 194 :: 160 :: l.drop (k + 2) := by rw [drop_cons h0, hc, drop_cons h1, hd]
  rw [← h.all, e1, escB_sp, List.append_assoc]
theorem emid_one {attr : Bool} {l out t : List UInt8} {k : Nat} (h : EMid attr l k out) (h1 : k < l.length) (hn : ¬ (bAt l k = 194 ∧ k + 1 < l.length ∧ bAt l (k + 1) = 160)) (ht : sgn attr (bAt l k) = t) : EMid attr l (k + 1) (out ++ t) := by
  refine ⟨?_, by have := h.len; have := sgn_len attr (bAt l k); rw [List.length_append, ← ht]; omega⟩
  rw [← h.all, drop_cons h1, escB_one, ht, List.append_assoc]
  intro hx
  apply hn
  have h3 : k + 1 < l.length := by
    by_cases h4 : k + 1 < l.length
    · exact h4
    · rw [List.drop_eq_nil_of_le (by omega)] at hx; cases hx.2
  refine ⟨hx.1, h3, ?_⟩
  have := hx.2
  rw [drop_cons h3, List.head?_cons] at this
  exact Option.some.inj this
theorem emid_end {attr : Bool} {l out : List UInt8} {k : Nat} (h : EMid attr l k out) (hk : l.length ≤ k) : out = escB attr l := by
  have := h.all
  rw [List.drop_eq_nil_of_le hk, escB_nil, List.append_nil] at this
  exact this
theorem emid_lit {attr : Bool} {l out t : List UInt8} {k : Nat} (h : EMid attr l k out) (h1 : k < l.length) {c : UInt8} (hc : bAt l k = c) (h194 : c ≠ 194) (ht : sgn attr c = t) : EMid attr l (k + 1) (out ++ t) := emid_one h h1 (fun h2 => h194 (by rw [← hc]; exact h2.1)) (by rw [hc]; exact ht)
theorem ba_eq {E : ByteArray} {l : List UInt8} (h : l = E.data.toList) : (⟨l.toArray⟩ : ByteArray) = E := by subst h; rfl

structure IsLen (n : Nat) : Prop where
  le : n ≤ 9223372036854775807
theorem int_eq {a b : Int} (h : a = b) : Value.int .i64 a = .int .i64 b := by rw [h]
theorem wrap_ok {n : Int} {m : Nat} (h : n = m) (hm : IsLen m) : wrap64 n = m := by
  subst h
  have := hm.le
  unfold wrap64
  omega
theorem byte_at (s : ByteArray) (k : Nat) (h : k < s.size) : bAt s.data.toList k = s[k] := by
  rw [bAt_in (by rw [← Lib.size_eq]; exact h)]
  rfl
theorem meas_up {n k : Nat} (h : k < n) : n - (intOf (.int .i64 ((k + 1 : Nat) : Int))).toNat < n - (intOf (.int .i64 (k : Int))).toNat := by
  simp [intOf]
  omega
theorem meas_to {n k j : Nat} (h : k < n) (hj : k < j) : n - (intOf (.int .i64 (j : Int))).toNat < n - (intOf (.int .i64 (k : Int))).toNat := by
  simp [intOf]
  omega
theorem u8_ne {c : UInt8} {k : Nat} (hk : k < 256) (h : c ≠ UInt8.ofNat k) : ((c.toNat : Int) == (k : Int)) = false := by
  rw [beq_eq_false_iff_ne]
  intro e
  apply h
  apply UInt8.toNat_inj.1
  have e2 : c.toNat = k := by omega
  rw [e2]
  simp
  omega
theorem ext_data (s : ByteArray) (k m : Nat) : (s.extract k (k + m)).data.toList = (s.data.toList.drop k).take m := by
  have := Lib.extract_toList s k (k + m)
  rw [Lib.toList_data] at this
  rw [this, Nat.add_sub_cancel_left]
theorem one_byte (s : ByteArray) (k : Nat) (h : k < s.size) : (s.extract k (k + 1)).data.toList = [bAt s.data.toList k] := by
  rw [ext_data, drop_cons (by rw [← Lib.size_eq]; exact h)]
  rfl
theorem add_at (a b T : ByteArray) (h : a ++ b = T) (hs : a.size + b.size ≤ 100000000) (w : World) : (Op.stringOp .add a b).run Tryd.prog w = .ok (.string T) w := by
  have h1 := run_string_add_sum (P := Tryd.prog) (w := w) a b (by omega)
  rw [h] at h1
  exact h1
theorem app_data (a b : ByteArray) : (a ++ b).data.toList = a.data.toList ++ b.data.toList := by
  rw [ByteArray.data_append]
  simp
end Go.Proofs.YtibagbnnplpfgaaDoor
