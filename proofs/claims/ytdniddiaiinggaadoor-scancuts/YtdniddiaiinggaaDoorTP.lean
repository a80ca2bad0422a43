/- Next where what stands there is known; comments, doctypes: plain. -/
import Derived.Test.YtdniddiaiinggaaDoorTO
set_option linter.unusedVariables false
namespace Go.Proofs.YtdniddiaiinggaaDoor
open Go.RowKit M

theorem next_is (s raw N X : ByteArray) (k : Nat) (kd : Int) (L : AL) (r : Bool) (E : Nat) (ok : Bool) (hs : IsSm s.size) (hr : IsSm raw.size) (hk : k < s.size)
    (h : ∀ t' E' ok', NxR s.data.toList k raw.data.toList t' E' ok' → t'.Is kd N.data.toList X.data.toList L r ∧ E' = E ∧ ok' = ok) (w : World) (hl : Laid w) :
    Calls Tryd.prog 31 #[.string s, .int .i64 k, .string raw] w fun e w' => TokOut w ⟨kd, N, X, L, r⟩ E ok e w' := by
  refine (next_any s raw k hs hr hk w hl).mono ?_
  rintro e w' ⟨⟨kd', N', X', L', r'⟩, E', ok', hR, hT⟩
  obtain ⟨⟨e1, e2, e3, e4, e5⟩, rfl, rfl⟩ := h _ _ _ hR
  simp only at e1 e2 e3 e4 e5
  subst e1 e4 e5
  have eN : N' = N := tx_ext e2
  have eX : X' = X := tx_ext e3
  subst eN eX
  exact hT
theorem IsFirst.at_is {p : Nat → Bool} {n k E F : Nat} (h : IsFirst p n k E) (hk : k ≤ F) (hF : F < n) (hp : p F = true) (hn : ∀ j, k ≤ j → j < F → p j = false) : E = F := by
  rcases Nat.lt_trichotomy E F with h1 | h1 | h1
  · have := h.at_ (by omega)
    rw [hn E h.ge h1] at this
    cases this
  · exact h1
  · have := h.no F hk h1
    rw [hp] at this
    cases this
theorem IsFirst.end_is {p : Nat → Bool} {n k E : Nat} (h : IsFirst p n k E) (hn : ∀ j, k ≤ j → j < n → p j = false) : E = n := by
  rcases Nat.lt_or_eq_of_le h.le with h1 | h1
  · have := h.at_ h1
    rw [hn E h.ge h1] at this
    cases this
  · exact h1
theorem bAt_cons0 (c : UInt8) (r : List UInt8) : bAt (c :: r) 0 = c := rfl
theorem bAt_cons1 (c : UInt8) (r : List UInt8) (j : Nat) : bAt (c :: r) (j + 1) = bAt r j := rfl
theorem bAt_app {a b : List UInt8} {j : Nat} (h : j < a.length) : bAt (a ++ b) j = bAt a j := by
  rw [bAt_in h, bAt_in (by rw [List.length_append]; omega)]
  exact List.getElem_append_left h
theorem bAt_app2 {a b : List UInt8} {j : Nat} : bAt (a ++ b) (a.length + j) = bAt b j := by
  unfold bAt
  simp [List.getD, List.getElem?_append_right]
theorem pre2 {t p : List UInt8} {x y : UInt8} (h : (x :: y :: p).isPrefixOf t = true) : bAt t 0 = x ∧ bAt t 1 = y := by
  obtain ⟨r, rfl⟩ := List.isPrefixOf_iff_prefix.1 h
  exact ⟨rfl, rfl⟩
theorem cmE_two {t : List UInt8} (h : ¬ (bAt t 0 = 45 ∧ bAt t 1 = 45)) : cmE t = 0 := by
  unfold cmE
  rw [if_neg (fun e => h (pre2 e)), if_neg (fun e => h (pre2 e))]
/-- a text that does not end a comment -/
structure Cl (a : List UInt8) : Prop where
  ne : a ≠ []
  c1 : bAt a 0 ≠ 62
  c2 : bAt a 0 ≠ 45
  last : bAt a (a.length - 1) ≠ 45
  two : ∀ j, j + 1 < a.length → ¬ (bAt a j = 45 ∧ bAt a (j + 1) = 45)
theorem Cl.pos {a : List UInt8} (h : Cl a) : 0 < a.length := List.length_pos_iff.2 h.ne
theorem Cl.none {a x : List UInt8} (h : Cl a) {j : Nat} (hj : j < a.length) : cmE ((a ++ x).drop j) = 0 := by
  apply cmE_two
  rw [bAt_drop, bAt_drop, Nat.add_zero, bAt_app hj]
  rintro ⟨h1, h2⟩
  by_cases h3 : j + 1 < a.length
  · rw [bAt_app h3] at h2
    exact h.two j h3 ⟨h1, h2⟩
  · have e : j = a.length - 1 := by omega
    rw [e] at h1
    exact h.last h1
abbrev cmH : List UInt8 := [60, 33, 45, 45]
theorem drop4 (x : List UInt8) (j : Nat) : (cmH ++ x).drop (4 + j) = x.drop j := by
  rw [← List.drop_drop]
  rfl
theorem cm_open {x : List UInt8} {t : Tk} {E : Nat} {ok : Bool} (h : NxR (cmH ++ x) 0 [] t E ok) : ∃ T, CmT (cmH ++ x) 4 T E ∧ t.Is 4 [] T [] false ∧ ok = true := by
  unfold NxR at h
  rw [if_pos rfl] at h
  unfold NxN at h
  rw [if_pos (by rfl)] at h
  unfold OpR at h
  have l1 : ltrAt (cmH ++ x) 1 = false := by
    unfold ltrAt
    have : bAt (cmH ++ x) 1 = 33 := rfl
    rw [this]
    simp [ltrN]
  have p1 : [60, 47].isPrefixOf ((cmH ++ x).drop 0) = false := rfl
  have p2 : [60, 47, 62].isPrefixOf ((cmH ++ x).drop 0) = false := rfl
  have p3 : [60, 33, 45, 45].isPrefixOf ((cmH ++ x).drop 0) = true := rfl
  rw [Nat.zero_add, if_neg (by rw [l1]; decide), if_neg (by rw [p1]; simp), if_neg (by rw [p2]; simp), if_pos p3] at h
  exact h
theorem sub_head {a x : List UInt8} : sub (cmH ++ (a ++ x)) 4 (4 + a.length) = a := by
  have e : 4 + a.length - 4 = a.length := by omega
  unfold sub
  rw [e, show (cmH ++ (a ++ x)).drop 4 = a ++ x from rfl, List.take_left]
theorem cm_is {a x : List UInt8} {n : Nat} (h : Cl a) (hn : n ≠ 0) (hx : cmE x = n) {t : Tk} {E : Nat} {ok : Bool} (hR : NxR (cmH ++ (a ++ x)) 0 [] t E ok) : t.Is 4 [] a [] false ∧ E = 4 + a.length + n ∧ ok = true := by
  obtain ⟨T, hC, h2, h3⟩ := cm_open hR
  have hp := h.pos
  have hd : (cmH ++ (a ++ x)).drop 4 = a ++ x := rfl
  have hb : bAt (a ++ x) 0 = bAt a 0 := bAt_app hp
  have hxl : 0 < x.length := by
    cases x with
    | nil => exact absurd hx.symm hn
    | cons c r => simp
  have hlen : (cmH ++ (a ++ x)).length = 4 + (a.length + x.length) := by simp; omega
  rcases hC.is with ⟨h4, _⟩ | ⟨_, h4, _⟩ | ⟨_, _, i, hi, h4⟩
  · rw [hd] at h4
    obtain ⟨r, e⟩ := List.isPrefixOf_iff_prefix.1 h4
    rw [← e] at hb
    exact absurd hb.symm h.c1
  · rw [hd] at h4
    have := (pre2 h4).1
    rw [hb] at this
    exact absurd this h.c2
  · have e : i = 4 + a.length := by
      refine hi.at_is (by omega) (by omega) ?_ (fun j hj hj2 => ?_)
      · rw [drop4, List.drop_left, hx]
        exact decide_eq_true hn
      · obtain ⟨d, rfl⟩ : ∃ d, j = 4 + d := ⟨j - 4, by omega⟩
        rw [drop4, h.none (by omega)]
        rfl
    subst e
    rcases h4 with ⟨_, h5, h6⟩ | ⟨h5, _⟩
    · rw [drop4, List.drop_left, hx] at h6
      rw [sub_head] at h5
      subst h5
      exact ⟨h2, h6, h3⟩
    · omega
theorem suf_self (a p : List UInt8) : sufB (a ++ p) p = true := by
  unfold sufB
  have e : (a ++ p).length - p.length = a.length := by simp
  rw [e, List.drop_left]
  simp
theorem cm_cut {a : List UInt8} (h : Cl a) {t : Tk} {E : Nat} {ok : Bool} (hR : NxR (cmH ++ (a ++ [45, 45])) 0 [] t E ok) : t.Is 4 [] a [] false ∧ E = 4 + a.length + 2 ∧ ok = true := by
  obtain ⟨T, hC, h2, h3⟩ := cm_open hR
  have hp := h.pos
  have hd : (cmH ++ (a ++ [45, 45])).drop 4 = a ++ [45, 45] := rfl
  have hb : bAt (a ++ [45, 45]) 0 = bAt a 0 := bAt_app hp
  have hlen : (cmH ++ (a ++ [45, 45])).length = 4 + (a.length + 2) := by simp; omega
  rcases hC.is with ⟨h4, _⟩ | ⟨_, h4, _⟩ | ⟨_, _, i, hi, h4⟩
  · rw [hd] at h4
    obtain ⟨r, e⟩ := List.isPrefixOf_iff_prefix.1 h4
    rw [← e] at hb
    exact absurd hb.symm h.c1
  · rw [hd] at h4
    have := (pre2 h4).1
    rw [hb] at this
    exact absurd this h.c2
  · have e : i = (cmH ++ (a ++ [45, 45])).length := by
      refine hi.end_is (fun j hj hj2 => ?_)
      obtain ⟨d, rfl⟩ : ∃ d, j = 4 + d := ⟨j - 4, by omega⟩
      rw [drop4]
      by_cases hda : d < a.length
      · rw [h.none hda]
        rfl
      · have hd2 : d = a.length ∨ d = a.length + 1 := by omega
        rcases hd2 with rfl | rfl
        · rw [List.drop_left]
          rfl
        · rw [← List.drop_drop, List.drop_left]
          rfl
    rcases h4 with ⟨h5, _⟩ | ⟨_, h5, h6⟩
    · omega
    · rw [hd] at h5
      have e3 : sufB (a ++ [45, 45]) [45, 45, 33] = false := by
        unfold sufB
        have e1 : (a ++ [45, 45]).length - ([45, 45, 33] : List UInt8).length = a.length - 1 := by simp
        rw [e1, Bool.and_eq_false_iff]
        right
        rw [beq_eq_false_iff_ne]
        intro e2
        have e4 : bAt ((a ++ [45, 45]).drop (a.length - 1)) 2 = bAt [45, 45, 33] 2 := by rw [e2]
        rw [bAt_drop, show a.length - 1 + 2 = a.length + 1 by omega, bAt_app2] at e4
        exact absurd e4 (by decide)
      have e5 : wce (a ++ [45, 45]) = a := by
        unfold wce
        rw [if_neg (by rw [e3]; decide), if_pos (suf_self a [45, 45])]
        have e6 : (a ++ [45, 45]).length - 2 = a.length := by simp
        rw [e6, List.take_left]
      rw [e5] at h5
      subst h5
      exact ⟨h2, by rw [h6, hlen]; omega, h3⟩
end Go.Proofs.YtdniddiaiinggaaDoor
