/- An evaluator for closed runs: the heap and the world, and what may be done with both. -/
import Derived.Test.YtfcmgkakmaclcaaEvB
set_option linter.unusedSectionVars false
namespace Go.Ev
variable [Inhabited Env]

def Live (o : Obj) : Prop := ∀ z, o ≠ .coro z

/-- a block of the evaluator, and one of the world -/
def OR (P : Program) (s : Sg) (k : Nat) (u : Bool) : Obj → Obj → Prop
  | .cells c e f, o' => f = (0, 0) ∧ ∃ c' fr, o' = .cells ⟨c'⟩ e fr ∧
      (match u with
       | true => (∃ a b, c' = a ++ b ∧ VL s c.toList a) ∧ (∃ n, sizeF P e = some (n + 1) ∧ c'.length = k * (n + 1)) ∧ ∀ j, j < c'.length → ¬ (fr.1 ≤ j ∧ j < fr.2)
       | false => VL s c.toList c' ∧ fr = (0, 0))
  | .map es c, o' => o' = .map es c
  | .loop lp, o' => ∃ t' x, VL s lp.tmps.toList t' ∧ s lp.defers = some x ∧ o' = .loop { lp with tmps := ⟨t'⟩, defers := x.1 }
  | .deferred d, o' => (d = some [] ∨ d = none) ∧ o' = .deferred d
  | .stringIter t p, o' => o' = .stringIter t p
  | .mapIter m a b c, o' => (match m with | none => o' = .mapIter none a b c | some m => ∃ x, s m = some x ∧ o' = .mapIter (some x.1) a b c)
  | _, _ => False

theorem OR.mono {P : Program} {s t : Sg} {k : Nat} {u : Bool} {o o' : Obj} (h : s.le t) (r : OR P s k u o o') : OR P t k u o o' := by
  cases o with
  | cells c e f =>
    obtain ⟨hf, c', fr, e', r⟩ := r
    refine ⟨hf, c', fr, e', ?_⟩
    cases u with
    | true => obtain ⟨⟨a, b, e1, e2⟩, r2, r3⟩ := r; exact ⟨⟨a, b, e1, e2.mono h⟩, r2, r3⟩
    | false => exact ⟨r.1.mono h, r.2⟩
  | map es c => exact r
  | loop lp => obtain ⟨t', x, h1, h2, h3⟩ := r; exact ⟨t', x, h1.mono h, h _ _ h2, h3⟩
  | deferred d => exact r
  | stringIter t p => exact r
  | mapIter m a b c => cases m with
    | none => exact r
    | some m => obtain ⟨x, h1, h2⟩ := r; exact ⟨x, h _ _ h1, h2⟩
  | _ => exact r.elim

structure R (P : Program) (s : Sg) (H : Hp) (w : World) : Prop where
  ok : H.l.length = H.n
  dom : ∀ i x, s i = some x → i < H.n
  obj : ∀ i o u x, H.get i = some (o, u) → Live o → s i = some x → ∃ o', w.heap[x.1]? = some o' ∧ OR P s x.2 u o o'
  inj : ∀ i j o u o' u' x y, H.get i = some (o, u) → Live o → H.get j = some (o', u') → Live o' → s i = some x → s j = some y → x.1 = y.1 → i = j
  base : ∀ x, (default : Env).base = some x → s 0 = some x

def Owned (s : Sg) (H : Hp) (b : Nat) : Prop := ∃ i o u x, H.get i = some (o, u) ∧ Live o ∧ s i = some x ∧ x.1 = b

structure Post (P : Program) (s : Sg) (H : Hp) (w : World) (s' : Sg) (H' : Hp) (w' : World) : Prop where
  le : s.le s'
  ext : ∀ i x, s' i = some x → s i = some x ∨ (H.n ≤ i ∧ i < H'.n ∧ (w.heap.size ≤ x.1 ∨ Owned s H x.1))
  len : H.n ≤ H'.n
  keep : ∀ b, b < w.heap.size → ¬ Owned s H b → w'.heap[b]? = w.heap[b]?
  size : w.heap.size ≤ w'.heap.size
  os : w'.os = w.os
  tape : w'.tape = w.tape
  output : w'.output = w.output
  live : ∀ i o u, i < H.n → H'.get i = some (o, u) → Live o → ∃ o2 u2, H.get i = some (o2, u2) ∧ Live o2
  unb : ∀ i, i < H.n → s i = none → H'.get i = H.get i
  rel : R P s' H' w'

/-! the heap -/
theorem Hp.get_eq (H : Hp) (i : Nat) : H.get i = if i < H.n then H.l[H.n - 1 - i]? else none := by
  unfold Hp.get
  by_cases h : i < H.n
  · have : Nat.blt i H.n = true := by simpa [Nat.blt_eq] using h
    rw [this, if_pos h]; exact nthL_eq _ _
  · have : Nat.blt i H.n = false := by
      cases hb : Nat.blt i H.n with
      | false => rfl
      | true => exact absurd (by simpa [Nat.blt_eq] using hb) h
    rw [this, if_neg h]
theorem Hp.get_lt {H : Hp} {i : Nat} {o : Obj × Bool} (h : H.get i = some o) : i < H.n := by
  rw [Hp.get_eq] at h
  by_cases hi : i < H.n
  · exact hi
  · rw [if_neg hi] at h; cases h
theorem Hp.push_n (H : Hp) (o : Obj × Bool) : (H.push o).n = H.n + 1 := rfl
theorem Hp.set_n (H : Hp) (i : Nat) (o : Obj × Bool) : (H.set i o).n = H.n := rfl
theorem Hp.get_push_old {H : Hp} {o : Obj × Bool} {i : Nat} (h : i < H.n) : (H.push o).get i = H.get i := by
  rw [Hp.get_eq, Hp.get_eq, if_pos h, if_pos (by rw [Hp.push_n]; omega)]
  show (o :: H.l)[H.n + 1 - 1 - i]? = _
  have : H.n + 1 - 1 - i = (H.n - 1 - i) + 1 := by omega
  rw [this, List.getElem?_cons_succ]
theorem Hp.get_push_new (H : Hp) (o : Obj × Bool) : (H.push o).get H.n = some o := by
  rw [Hp.get_eq, if_pos (by rw [Hp.push_n]; omega)]
  show (o :: H.l)[H.n + 1 - 1 - H.n]? = _
  have : H.n + 1 - 1 - H.n = 0 := by omega
  rw [this]; rfl
theorem Hp.get_set_ne {H : Hp} {o : Obj × Bool} {i j : Nat} (h : i ≠ j) (hi : i < H.n) : (H.set i o).get j = H.get j := by
  rw [Hp.get_eq, Hp.get_eq, Hp.set_n]
  by_cases hj : j < H.n
  · rw [if_pos hj, if_pos hj]
    show (setL H.l (H.n - 1 - i) o)[H.n - 1 - j]? = _
    rw [setL_eq, List.getElem?_set_ne (by omega)]
  · rw [if_neg hj, if_neg hj]
theorem Hp.get_set_eq {H : Hp} {o : Obj × Bool} {i : Nat} (hi : i < H.n) (ok : H.l.length = H.n) : (H.set i o).get i = some o := by
  rw [Hp.get_eq, Hp.set_n, if_pos hi]
  show (setL H.l (H.n - 1 - i) o)[H.n - 1 - i]? = _
  rw [setL_eq, List.getElem?_set_self (by omega)]
theorem Hp.push_ok {H : Hp} {o : Obj × Bool} (ok : H.l.length = H.n) : (H.push o).l.length = (H.push o).n := by simp [Hp.push, ok]
theorem Hp.set_ok {H : Hp} {o : Obj × Bool} {i : Nat} (ok : H.l.length = H.n) : (H.set i o).l.length = (H.set i o).n := by simp [Hp.set, setL_eq, ok]

section
variable {P : Program} {s s1 s2 : Sg} {H H1 H2 : Hp} {w w1 w2 : World}

theorem R.of_heap (h : R P s H w) (e : w1.heap = w.heap) : R P s H w1 := ⟨h.ok, h.dom, fun i o u x a b c => by rw [e]; exact h.obj i o u x a b c, h.inj, h.base⟩
theorem Owned.lt (h : R P s H w) {b : Nat} (o : Owned s H b) : b < w.heap.size := by
  obtain ⟨i, o, u, x, h1, h2, h3, h4⟩ := o
  obtain ⟨o', h5, _⟩ := h.obj i o u x h1 h2 h3
  rw [← h4]
  exact (Array.getElem?_eq_some_iff.1 h5).1

theorem Post.refl (h : R P s H w) : Post P s H w s H w :=
  ⟨Sg.le.refl s, fun _ _ h => .inl h, Nat.le_refl _, fun _ _ _ => rfl, Nat.le_refl _, rfl, rfl, rfl, fun _ o u _ h1 h2 => ⟨o, u, h1, h2⟩, fun _ _ _ => rfl, h⟩
/-- the draws say nothing -/
theorem Post.of_heap (h : Post P s H w s1 H1 w1) (e : w2.heap = w1.heap) (e1 : w2.os = w1.os) (e2 : w2.tape = w1.tape) (e3 : w2.output = w1.output) : Post P s H w s1 H1 w2 :=
  ⟨h.le, h.ext, h.len, fun b hb hn => by rw [e]; exact h.keep b hb hn, by rw [e]; exact h.size, e1.trans h.os, e2.trans h.tape, e3.trans h.output, h.live, h.unb, h.rel.of_heap e⟩

theorem Post.owned (h : Post P s H w s1 H1 w1) (hr : R P s H w) {b : Nat} (o : Owned s1 H1 b) : Owned s H b ∨ w.heap.size ≤ b := by
  obtain ⟨i, o, u, x, h1, h2, h3, h4⟩ := o
  rcases h.ext i x h3 with h5 | ⟨_, _, h6 | h6⟩
  · have hi := hr.dom i x h5
    obtain ⟨o2, u2, h7, h8⟩ := h.live i o u hi h1 h2
    exact .inl ⟨i, o2, u2, x, h7, h8, h5, h4⟩
  · exact .inr (h4 ▸ h6)
  · exact .inl (h4 ▸ h6)

theorem Post.trans (h : Post P s H w s1 H1 w1) (k : Post P s1 H1 w1 s2 H2 w2) (hr : R P s H w) : Post P s H w s2 H2 w2 := by
  refine ⟨h.le.trans k.le, ?_, Nat.le_trans h.len k.len, ?_, Nat.le_trans h.size k.size, k.os.trans h.os, k.tape.trans h.tape, k.output.trans h.output, ?_, ?_, k.rel⟩
  · intro i x e
    rcases k.ext i x e with e1 | ⟨h1, h2, h3⟩
    · rcases h.ext i x e1 with e2 | ⟨g1, g2, g3⟩
      · exact .inl e2
      · exact .inr ⟨g1, Nat.lt_of_lt_of_le g2 k.len, g3⟩
    · refine .inr ⟨Nat.le_trans h.len h1, h2, ?_⟩
      rcases h3 with h3 | h3
      · exact .inl (Nat.le_trans h.size h3)
      · exact (h.owned hr h3).symm
  · intro b hb hn
    have hn1 : ¬ Owned s1 H1 b := fun ho => by
      rcases h.owned hr ho with h1 | h1
      · exact hn h1
      · omega
    rw [k.keep b (Nat.lt_of_lt_of_le hb h.size) hn1, h.keep b hb hn]
  · intro i o u hi h1 h2
    obtain ⟨o2, u2, h3, h4⟩ := k.live i o u (Nat.lt_of_lt_of_le hi h.len) h1 h2
    exact h.live i o2 u2 hi h3 h4
  · intro i hi hs
    have hs1 : s1 i = none := by
      cases e : s1 i with
      | none => rfl
      | some x =>
        rcases h.ext i x e with e2 | ⟨g1, _, _⟩
        · rw [hs] at e2; cases e2
        · omega
    rw [k.unb i (Nat.lt_of_lt_of_le hi h.len) hs1, h.unb i hi hs]

def upd (s : Sg) (i : Nat) (x : Nat × Nat) : Sg := fun j => if j = i then some x else s j
theorem upd_le (h : s H.n = none) (x : Nat × Nat) : s.le (upd s H.n x) := fun i y e => by
  unfold upd
  by_cases hi : i = H.n
  · subst hi; rw [h] at e; cases e
  · rw [if_neg hi]; exact e
theorem upd_same (s : Sg) (i : Nat) (x : Nat × Nat) : upd s i x i = some x := by simp [upd]
theorem upd_other (s : Sg) {i j : Nat} (h : j ≠ i) (x : Nat × Nat) : upd s i x j = s j := by simp [upd, h]
theorem R.fresh (h : R P s H w) : s H.n = none := by
  cases e : s H.n with
  | none => rfl
  | some x => exact absurd (h.dom _ _ e) (Nat.lt_irrefl _)

/-- A new block. -/
theorem R.push (h : R P s H w) {o o' : Obj} {u : Bool} {k : Nat} (ho : Live o → OR P (upd s H.n (w.heap.size, k)) k u o o') :
    Post P s H w (upd s H.n (w.heap.size, k)) (H.push (o, u)) { w with heap := w.heap.push o' } := by
  have hle := upd_le h.fresh (w.heap.size, k)
  refine ⟨hle, ?_, Nat.le_succ _, ?_, by simp, rfl, rfl, rfl, ?_, ?_, ⟨Hp.push_ok h.ok, ?_, ?_, ?_, fun y e => hle 0 y (h.base y e)⟩⟩
  · intro i x e
    by_cases hi : i = H.n
    · subst hi; rw [upd_same] at e; cases e; exact .inr ⟨Nat.le_refl _, Nat.lt_succ_self _, .inl (Nat.le_refl _)⟩
    · rw [upd_other s hi] at e; exact .inl e
  · intro b hb _
    show (w.heap.push o')[b]? = _
    rw [Array.getElem?_push, if_neg (by omega)]
  · intro i o2 u2 hi h1 h2
    rw [Hp.get_push_old hi] at h1
    exact ⟨o2, u2, h1, h2⟩
  · intro i hi _; exact Hp.get_push_old hi
  · intro i x e
    by_cases hi : i = H.n
    · subst hi; exact Nat.lt_succ_self _
    · rw [upd_other s hi] at e; exact Nat.lt_succ_of_lt (h.dom i x e)
  · intro i o2 u2 x h1 h2 h3
    by_cases hi : i = H.n
    · subst hi
      rw [Hp.get_push_new] at h1
      cases h1
      rw [upd_same] at h3
      cases h3
      refine ⟨o', ?_, ho h2⟩
      show (w.heap.push o')[w.heap.size]? = _
      simp
    · rw [upd_other s hi] at h3
      have hl := h.dom i x h3
      rw [Hp.get_push_old hl] at h1
      obtain ⟨o3, h4, h5⟩ := h.obj i o2 u2 x h1 h2 h3
      refine ⟨o3, ?_, h5.mono hle⟩
      show (w.heap.push o')[x.1]? = _
      have := (Array.getElem?_eq_some_iff.1 h4).1
      rw [Array.getElem?_push, if_neg (by omega)]
      exact h4
  · intro i j o2 u2 o3 u3 x y h1 h2 h3 h4 h5 h6 h7
    by_cases hi : i = H.n
    · by_cases hj : j = H.n
      · rw [hi, hj]
      · subst hi
        rw [upd_same] at h5
        cases h5
        rw [upd_other s hj] at h6
        have hl := h.dom j y h6
        rw [Hp.get_push_old hl] at h3
        obtain ⟨o4, h8, _⟩ := h.obj j o3 u3 y h3 h4 h6
        have := (Array.getElem?_eq_some_iff.1 h8).1
        simp at h7
        omega
    · rw [upd_other s hi] at h5
      have hl := h.dom i x h5
      rw [Hp.get_push_old hl] at h1
      by_cases hj : j = H.n
      · subst hj
        rw [upd_same] at h6
        cases h6
        obtain ⟨o4, h8, _⟩ := h.obj i o2 u2 x h1 h2 h5
        have := (Array.getElem?_eq_some_iff.1 h8).1
        simp at h7
        omega
      · rw [upd_other s hj] at h6
        rw [Hp.get_push_old (h.dom j y h6)] at h3
        exact h.inj i j o2 u2 o3 u3 x y h1 h2 h3 h4 h5 h6 h7

/-- Another thing in a block's place. -/
theorem R.set (h : R P s H w) {i : Nat} {o : Obj} {u : Bool} {x : Nat × Nat} (hg : H.get i = some (o, u)) (hl : Live o) (hs : s i = some x) {o2 o2' : Obj} {u2 : Bool} (ho : OR P s x.2 u2 o2 o2') :
    Post P s H w s (H.set i (o2, u2)) { w with heap := w.heap.setIfInBounds x.1 o2' } := by
  have hi := Hp.get_lt hg
  obtain ⟨o', h0, _⟩ := h.obj i o u x hg hl hs
  have hx := (Array.getElem?_eq_some_iff.1 h0).1
  refine ⟨Sg.le.refl s, fun _ _ e => .inl e, Nat.le_refl _, ?_, by simp, rfl, rfl, rfl, ?_, ?_, ⟨Hp.set_ok h.ok, h.dom, ?_, ?_, h.base⟩⟩
  · intro b hb hn
    show (w.heap.setIfInBounds x.1 o2')[b]? = _
    rw [Array.getElem?_setIfInBounds_ne]
    intro e; exact hn ⟨i, o, u, x, hg, hl, hs, e⟩
  · intro j o3 u3 hj h1 h2
    by_cases e : i = j
    · subst e; exact ⟨o, u, hg, hl⟩
    · rw [Hp.get_set_ne e hi] at h1; exact ⟨o3, u3, h1, h2⟩
  · intro j hj hn
    refine Hp.get_set_ne ?_ hi
    intro e; subst e; rw [hs] at hn; cases hn
  · intro j o3 u3 y h1 h2 h3
    by_cases e : i = j
    · subst e
      rw [Hp.get_set_eq hi h.ok] at h1
      cases h1
      rw [hs] at h3
      cases h3
      refine ⟨o2', ?_, ho⟩
      show (w.heap.setIfInBounds x.1 o2')[x.1]? = _
      rw [Array.getElem?_setIfInBounds_self_of_lt hx]
    · rw [Hp.get_set_ne e hi] at h1
      obtain ⟨o4, h4, h5⟩ := h.obj j o3 u3 y h1 h2 h3
      refine ⟨o4, ?_, h5⟩
      show (w.heap.setIfInBounds x.1 o2')[y.1]? = _
      rw [Array.getElem?_setIfInBounds_ne]
      · exact h4
      · intro e2; exact e (h.inj i j o u o3 u3 x y hg hl h1 h2 hs h3 e2)
  · intro a b oa ua ob ub x' y' h1 h2 h3 h4 h5 h6 h7
    have fix : ∀ c oc uc, (H.set i (o2, u2)).get c = some (oc, uc) → Live oc → ∃ oc2 uc2, H.get c = some (oc2, uc2) ∧ Live oc2 := by
      intro c oc uc hc hlc
      by_cases e : i = c
      · subst e; exact ⟨o, u, hg, hl⟩
      · rw [Hp.get_set_ne e hi] at hc; exact ⟨oc, uc, hc, hlc⟩
    obtain ⟨oa2, ua2, g1, g2⟩ := fix a oa ua h1 h2
    obtain ⟨ob2, ub2, g3, g4⟩ := fix b ob ub h3 h4
    exact h.inj a b oa2 ua2 ob2 ub2 x' y' g1 g2 g3 g4 h5 h6 h7
end
end Go.Ev
