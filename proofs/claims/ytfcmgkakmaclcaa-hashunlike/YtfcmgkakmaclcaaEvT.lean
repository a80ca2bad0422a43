/- An evaluator for closed runs: drawn regions, in whatever order. -/
import Derived.Test.YtfcmgkakmaclcaaEvS
set_option linter.unusedSimpArgs false
set_option linter.unusedVariables false
set_option linter.unusedSectionVars false
namespace Go.Ev
variable [Inhabited Env]
section
variable {P : Program} {s0 s : Sg} {H0 Hg H2 : Hp} {w0 w : World}
theorem Post.unborn (hP : Post P s0 H0 w0 s H2 w) (hn : H2.n ≤ Hg.n) (hok : Hg.l.length = Hg.n) (hget : ∀ i, i < H2.n → Hg.get i = H2.get i) : Post P s0 H0 w0 s Hg w := by
  refine ⟨hP.le, ?_, Nat.le_trans hP.len hn, hP.keep, hP.size, hP.os, hP.tape, hP.output, ?_, ?_, ⟨hok, ?_, ?_, ?_, hP.rel.base⟩⟩
  · intro i x e
    rcases hP.ext i x e with h | ⟨h1, h2, h3⟩
    · exact .inl h
    · exact .inr ⟨h1, Nat.lt_of_lt_of_le h2 hn, h3⟩
  · intro i o u hi h1 h2
    rw [hget i (Nat.lt_of_lt_of_le hi hP.len)] at h1
    exact hP.live i o u hi h1 h2
  · intro i hi hs
    rw [hget i (Nat.lt_of_lt_of_le hi hP.len)]
    exact hP.unb i hi hs
  · intro i x e; exact Nat.lt_of_lt_of_le (hP.rel.dom i x e) hn
  · intro i o u x h1 h2 h3
    rw [hget i (hP.rel.dom i x h3)] at h1
    exact hP.rel.obj i o u x h1 h2 h3
  · intro i j o u o' u' x y h1 h2 h3 h4 h5 h6 h7
    rw [hget i (hP.rel.dom i x h5)] at h1
    rw [hget j (hP.rel.dom j y h6)] at h3
    exact hP.rel.inj i j o u o' u' x y h1 h2 h3 h4 h5 h6 h7
theorem Post.born (hP : Post P s0 H0 w0 s Hg w) {id : Nat} {ob o' : Obj} (hid : H0.n ≤ id) (hlt : id < Hg.n) (hs : s id = none) (hg : Hg.get id = some (ob, false)) (ho : OR P (upd s id (w.heap.size, 0)) 0 false ob o') :
    Post P s0 H0 w0 (upd s id (w.heap.size, 0)) Hg { w with heap := w.heap.push o' } := by
  have hle : s.le (upd s id (w.heap.size, 0)) := fun j y e => by
    unfold upd
    by_cases hj : j = id
    · subst hj; rw [hs] at e; cases e
    · rw [if_neg hj]; exact e
  have hlt2 : ∀ j o u y, Hg.get j = some (o, u) → Live o → s j = some y → y.1 < w.heap.size := fun j o u y h1 h2 h3 => by
    obtain ⟨o2, h4, _⟩ := hP.rel.obj j o u y h1 h2 h3
    exact (Array.getElem?_eq_some_iff.1 h4).1
  refine ⟨hP.le.trans hle, ?_, hP.len, ?_, ?_, hP.os, hP.tape, hP.output, hP.live, hP.unb, ⟨hP.rel.ok, ?_, ?_, ?_, fun y e => hle 0 y (hP.rel.base y e)⟩⟩
  · intro i x e
    by_cases hi : i = id
    · subst hi; rw [upd_same] at e; cases e; exact .inr ⟨hid, hlt, .inl hP.size⟩
    · rw [upd_other s hi] at e; exact hP.ext i x e
  · intro b hb hn
    show (w.heap.push o')[b]? = _
    have := hP.size
    rw [Array.getElem?_push, if_neg (by omega)]
    exact hP.keep b hb hn
  · show w0.heap.size ≤ (w.heap.push o').size
    have := hP.size
    simp; omega
  · intro i x e
    by_cases hi : i = id
    · subst hi; exact hlt
    · rw [upd_other s hi] at e; exact hP.rel.dom i x e
  · intro i o u x h1 h2 h3
    by_cases hi : i = id
    · subst hi
      rw [hg] at h1
      cases h1
      rw [upd_same] at h3
      cases h3
      refine ⟨o', ?_, ho⟩
      show (w.heap.push o')[w.heap.size]? = _
      simp
    · rw [upd_other s hi] at h3
      obtain ⟨o3, h4, h5⟩ := hP.rel.obj i o u x h1 h2 h3
      refine ⟨o3, ?_, h5.mono hle⟩
      show (w.heap.push o')[x.1]? = _
      have := (Array.getElem?_eq_some_iff.1 h4).1
      rw [Array.getElem?_push, if_neg (by omega)]
      exact h4
  · intro i j o u o2 u2 x y h1 h2 h3 h4 h5 h6 h7
    by_cases hi : i = id
    · by_cases hj : j = id
      · rw [hi, hj]
      · subst hi
        rw [upd_same] at h5
        cases h5
        rw [upd_other s hj] at h6
        have := hlt2 j o2 u2 y h3 h4 h6
        simp at h7
        omega
    · rw [upd_other s hi] at h5
      by_cases hj : j = id
      · subst hj
        rw [upd_same] at h6
        cases h6
        have := hlt2 i o u x h1 h2 h5
        simp at h7
        omega
      · rw [upd_other s hj] at h6
        exact hP.rel.inj i j o u o2 u2 x y h1 h2 h3 h4 h5 h6 h7
end
theorem putC_same {arr : Array Value} {t : Tmp} {v : Value} (h : t < arr.size) : (putC arr (some t) v).getD t undef = v := by simp [putC, h]
theorem putC_other {arr : Array Value} {d : Option Tmp} {t : Tmp} {v : Value} (h : d ≠ some t) : (putC arr d v).getD t undef = arr.getD t undef := by
  cases d with
  | none => rfl
  | some d =>
    have hd : d ≠ t := fun e => h (by rw [e])
    simp only [putC, Array.getD_eq_getD_getElem?, Array.getElem?_setIfInBounds_ne hd]
theorem putC_size {arr : Array Value} {d : Option Tmp} {v : Value} : (putC arr d v).size = arr.size := by cases d <;> simp [putC]
theorem effL_sorted {P : Program} : ∀ {ops : List Oper} {i0 : Nat}, (effL P ops i0).Pairwise (· < ·)
  | [], _ => .nil
  | x :: r, i0 => by
    unfold effL
    split
    · refine .cons (fun e he => ?_) effL_sorted
      obtain ⟨i, o, h1, _⟩ := effL_mem.1 he
      omega
    · exact effL_sorted
structure Inv (P : Program) (orc : Orc) (rec : Rec) (L : List Oper) (bs : List Nat) (n : Nat) (tmF : Tm) (HF : Hp) (s0 : Sg) (H0 : Hp) (w0 : World) (listed : Array Bool) (s : Sg) (arr : Array Value) (w : World) (es' : List Nat) (past : Nat) (tmg : Tm) (Hg : Hp) (pend : List (Nat × Nat)) : Prop where
  gap : Gap P orc rec L bs tmF HF es' past tmg Hg pend
  post : Post P s0 H0 w0 s Hg w
  lsize : listed.size = L.length
  closed : ∀ i b, listed.getD i false = true → bs[i]? = some b → ∀ j, Nat.testBit b j = true → listed.getD j false = true
  left : ∀ e ∈ es', listed.getD e false = false
  effs : ∀ i o, L[i]? = some o → kind P o.op = 3 → listed.getD i false = false → i ∈ es'
  suf : ∃ a, effL P L 0 = a ++ es'
  past : ∀ i, Nat.testBit past i = true → listed.getD i false = true
  size : arr.size = n
  tms : ∀ t, (∃ j o, L[j]? = some o ∧ o.dst = some t ∧ listed.getD j false = false ∧ kind P o.op ≠ 3) ∨ V s (look tmg t) (arr.getD t undef)
  pends : ∀ j id, (j, id) ∈ pend → H0.n ≤ id ∧ id < Hg.n ∧ (listed.getD j false = false → s id = none)
  sorted : pend.Pairwise (fun a b => a.2 < b.2)
theorem set_self {listed : Array Bool} {i : Nat} (h : i < listed.size) : (listed.setIfInBounds i true).getD i false = true := by simp [h]
theorem set_other {listed : Array Bool} {i j : Nat} (h : j ≠ i) : (listed.setIfInBounds i true).getD j false = listed.getD j false := getD_set_ne false (Ne.symm h)
theorem set_false {listed : Array Bool} {i j : Nat} (h : (listed.setIfInBounds i true).getD j false = false) (hi : i < listed.size) : j ≠ i ∧ listed.getD j false = false := by
  by_cases e : j = i
  · subst e; rw [set_self hi] at h; cases h
  · rw [set_other e] at h; exact ⟨e, h⟩
theorem set_mono {listed : Array Bool} {i j : Nat} (h : listed.getD j false = true) : (listed.setIfInBounds i true).getD j false = true := getD_set_true h
theorem defer_kind {P : Program} {op : Op} (h : isDefer op = true) : kind P op = 1 := by cases op <;> first | (cases h; done) | rfl
end Go.Ev
