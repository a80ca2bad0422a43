/- An evaluator for closed runs: the operations, second part. -/
import Derived.Test.YtfcmgkakmaclcaaEvE
set_option linter.unusedSimpArgs false
set_option linter.unusedVariables false
set_option linter.unusedSectionVars false
namespace Go.Ev
variable [Inhabited Env]
section
variable {P : Program} {s : Sg} {H : Hp} {w : World}
theorem fExtract_run (h : R P s H w) {x x' : Value} {i : Nat} {n : Next} {H' : Hp} (he : fExtract x i H = some (n, H')) (hx : V s x x') : Does P s H w (do pure (.value (← Instr.extract x' i))) n H' := by
  unfold fExtract at he
  split at he
  · rename_i vs
    obtain ⟨v, e1, e2, e3⟩ := fVal_eq he
    subst e2 e3
    obtain ⟨l', h1, e⟩ := V.tuple.1 hx
    subst e
    rw [nthL_eq] at e1
    obtain ⟨v', e4, e5⟩ := h1.get i e1
    refine does_pure h (v' := v') ?_ e5
    simp [Instr.extract, e4]
  · cases he
theorem fNil_run (h : R P s H w) {x x' : Value} {n : Next} {H' : Hp} (he : fNil x H = some (n, H')) (hx : V s x x') {ρ : Operand → Value} {p : Operand} (hp : ρ p = x') {o : Oper} (ho : o.op = .nilCheck p) :
    Does P s H w (execOp ρ o) n H' := by
  unfold fNil at he
  split at he
  · rename_i a
    cases he
    obtain ⟨y, e1, e2⟩ := V.ptr.1 hx
    refine ⟨s, .value x', w, ?_, ⟨x', hx, rfl⟩, .refl h⟩
    subst e2
    unfold execOp
    rw [ho]
    simp only [hp]
    rfl
  · rename_i f a b
    cases he
    obtain ⟨fn', a', b', h0, h1, h2, e⟩ := V.func.1 hx
    refine ⟨s, .value x', w, ?_, ⟨x', hx, rfl⟩, .refl h⟩
    subst e
    cases h0
    unfold execOp
    rw [ho]
    simp only [hp]
    rfl
  · cases he
theorem fField_run (h : R P s H w) {x x' : Value} {t : TypeId} {f : Nat} {n : Next} {H' : Hp} (he : fField P x (descF P t) f H = some (n, H')) (hx : V s x x') : Does P s H w (do pure (.value (← Instr.fieldAt t x' f))) n H' := by
  unfold fField at he
  split at he
  · rename_i b off fs hd
    unfold fField2 at he
    split at he
    · rename_i fd hf
      split at he
      · rename_i m hz
        cases he
        obtain ⟨y, e1, e2⟩ := V.ptr.1 hx
        subst e2
        rw [nthL_eq] at hf
        have hf' : fs[f]? = some fd := by simpa using hf
        refine does_pure h (v' := .pointer (some ⟨y.1, off + fd.offset, none⟩)) ?_ (V.ptr.2 ⟨y, e1, rfl⟩)
        unfold Instr.fieldAt
        simp only [Sem.run_bind, run_under hd, Result.andThen_ok, hf', Instr.sureAddr, Sem.run_pure, fieldPlace, run_size hz]
        simp [add_at]
      · cases he
    · cases he
  · cases he
theorem fIdx_run (h : R P s H w) {x x' i i' : Value} {t : TypeId} {n : Next} {H' : Hp} (he : fIdx P (descF P t) x i H = some (n, H')) (hx : V s x x') (hi : V s i i') : Does P s H w (do pure (.value (← Instr.indexAt t x' i'))) n H' := by
  unfold fIdx at he
  split at he
  · rename_i e b off len c k j hd
    split at he
    · rename_i hb
      have hb : j < len := by simpa [Nat.blt_eq] using hb
      unfold fIdx2 at he
      split at he
      · rename_i m hz
        cases he
        cases hi
        have hnj : c ≠ junk ∨ c = junk := (Decidable.em _).symm
        rcases hnj with hc | hc
        · obtain ⟨y, e1, _, e2⟩ := (V.sl hc).1 hx
          subst e2
          refine does_pure h (v' := .pointer (some ⟨y.1, off + j * m, none⟩)) ?_ (V.ptr.2 ⟨y, e1, rfl⟩)
          unfold Instr.indexAt
          simp only [Sem.run_bind, asIntOf, Sem.run_pure, run_under hd, Result.andThen_ok, run_size hz]
          have h1 : (0 : Int) ≤ Int.ofNat j ∧ Int.ofNat j < (len : Int) := ⟨Int.natCast_nonneg j, Int.ofNat_lt.2 hb⟩
          simp [h1, run_size hz, add_at, hb]
        · subst hc
          obtain ⟨e, _⟩ := V.slJ.1 hx
          omega
      · cases he
    · cases he
  · rename_i len e b off k j hd
    split at he
    · rename_i hb
      have hb : j < len := by simpa [Nat.blt_eq] using hb
      unfold fIdx2 at he
      split at he
      · rename_i m hz
        cases he
        cases hi
        obtain ⟨y, e1, e2⟩ := V.ptr.1 hx
        subst e2
        refine does_pure h (v' := .pointer (some ⟨y.1, off + j * m, none⟩)) ?_ (V.ptr.2 ⟨y, e1, rfl⟩)
        unfold Instr.indexAt
        simp only [Sem.run_bind, asIntOf, Sem.run_pure, run_under hd, Result.andThen_ok, run_size hz, Instr.sureAddr]
        have h1 : (0 : Int) ≤ Int.ofNat j ∧ Int.ofNat j < (len : Int) := ⟨Int.natCast_nonneg j, Int.ofNat_lt.2 hb⟩
        simp [h1, run_size hz, add_at, hb]
      · cases he
    · cases he
  · cases he
theorem partF_run {t : TypeId} {cs cs' : List Value} {off : Nat} {v : Value} (hv : VL s cs cs') (he : partF P t cs off = some v) : ∃ v', V s v v' ∧ (part t ⟨cs'⟩ off).run P w = .ok v' w := by
  unfold partF at he
  split at he
  · rename_i hg
    split at he
    · rename_i n hz
      unfold loadN at he
      simp only [] at he
      cases hn : Nat.beq (partL cs n off).length n with
      | false => rw [hn] at he; cases he
      | true =>
        rw [hn] at he
        cases he
        rw [partL_eq]
        refine ⟨.agg ⟨(cs'.drop off).take n⟩, V.agg.2 ⟨_, (hv.drop off).take n, rfl⟩, ?_⟩
        unfold part
        simp only [Sem.run_bind, run_agg hg, Result.andThen_ok, if_true, run_size hz, Sem.run_pure]
        congr 2
        apply Array.ext'
        simp
    · cases he
  · rename_i hg
    rw [nthL_eq] at he
    obtain ⟨v', e1, e2⟩ := hv.get off he
    refine ⟨v', e2, ?_⟩
    unfold part
    simp only [Sem.run_bind, run_agg hg, Result.andThen_ok]
    simp [e1]
  · cases he
theorem fFieldV_run (h : R P s H w) {x x' : Value} {t : TypeId} {f : Nat} {n : Next} {H' : Hp} (he : fVal (fFieldV P x (descF P t) f) H = some (n, H')) (hx : V s x x') : Does P s H w (do pure (.value (← Instr.field t x' f))) n H' := by
  obtain ⟨v, e1, e2, e3⟩ := fVal_eq he
  subst e2 e3
  unfold fFieldV at e1
  split at e1
  · rename_i fs hd
    unfold fPart at e1
    split at e1
    · rename_i cs fd hf
      obtain ⟨l', h1, e⟩ := V.agg.1 hx
      subst e
      obtain ⟨v', g1, g2⟩ := partF_run (P := P) (w := w) h1 e1
      rw [nthL_eq] at hf
      have hf' : fs[f]? = some fd := by simpa using hf
      refine does_pure h (v' := v') ?_ g1
      unfold Instr.field
      simp only [Sem.run_bind, run_under hd, Result.andThen_ok, hf', asAgg, Sem.run_pure]
      exact g2
    · cases e1
  · cases e1
theorem fIndex_run (h : R P s H w) {x x' i i' : Value} {t : TypeId} {n : Next} {H' : Hp} (he : fVal (fIndex P (descF P t) x i) H = some (n, H')) (hx : V s x x') (hi : V s i i') : Does P s H w (do pure (.value (← Instr.index t x' i'))) n H' := by
  obtain ⟨v, e1, e2, e3⟩ := fVal_eq he
  subst e2 e3
  unfold fIndex at e1
  split at e1
  · rename_i b k j
    cases hx; cases hi
    split at e1
    · rename_i hd
      unfold byteV at e1
      split at e1
      · rename_i c hc
        cases e1
        rw [nthL_eq] at hc
        refine does_pure h (v' := .int .u8 c.toNat) ?_ rfl
        unfold Instr.index
        simp only [Sem.run_bind, asIntOf, Sem.run_pure, run_under hd, Result.andThen_ok]
        have h1 : (0 : Int) ≤ Int.ofNat j := Int.natCast_nonneg j
        have h2 : b[(Int.ofNat j).toNat]? = some c := by
          show b[j]? = some c
          have hl := (List.getElem?_eq_some_iff.1 hc)
          obtain ⟨hl, e⟩ := hl
          have hl' : j < b.size := hl
          rw [getElem?_pos b j hl']
          congr 1
        simp only [h1, if_true, h2, Sem.run_pure]
      · cases e1
    · cases e1
  · rename_i cs k j
    cases hi
    obtain ⟨l', h1, e⟩ := V.agg.1 hx
    subst e
    split at e1
    · rename_i len e hd
      split at e1
      · rename_i m hb hz
        have hb : j < len := by simpa [Nat.blt_eq] using hb
        obtain ⟨v', g1, g2⟩ := partF_run (P := P) (w := w) h1 e1
        refine does_pure h (v' := v') ?_ g1
        unfold Instr.index
        simp only [Sem.run_bind, asIntOf, Sem.run_pure, run_under hd, Result.andThen_ok]
        have h1 : (0 : Int) ≤ Int.ofNat j ∧ Int.ofNat j < (len : Int) := ⟨Int.natCast_nonneg j, Int.ofNat_lt.2 hb⟩
        simp only [h1, and_self, if_true, Sem.run_bind, run_size hz, Result.andThen_ok]
        exact g2
      · cases e1
    · cases e1
  · cases e1
theorem fLen_run {x x' : Value} {t : TypeId} {ts : Array TypeId} {ty : TypeId} {xs : Array Value} {v : Value} (he : fLen (descF P t) x = some v) (hx : V s x x') (ht : ts[0]? = some t) (hx0 : xs[0]? = some x') :
    V s v v ∧ (Builtin.len_ ts ty xs).run P w = .ok v w := by
  unfold fLen at he
  split at he
  · rename_i a l c e hd
    cases he
    refine ⟨rfl, ?_⟩
    unfold Builtin.len_
    have : ∃ a' c', x' = .slice a' l c' := by
      by_cases hc : c = junk
      · subst hc
        obtain ⟨e, a', c', e2⟩ := V.slJ.1 hx
        subst e; exact ⟨a', c', e2⟩
      · cases a with
        | none => exact ⟨none, c, (V.slN hc).1 hx⟩
        | some a => obtain ⟨y, _, _, e2⟩ := (V.sl hc).1 hx; exact ⟨_, _, e2⟩
    obtain ⟨a', c', e2⟩ := this
    subst e2
    simp [ht, hx0, run_under hd]
  · rename_i b hd
    cases he
    cases hx
    refine ⟨rfl, ?_⟩
    unfold Builtin.len_
    simp only [ht, hx0, Sem.run_bind, run_under hd, Result.andThen_ok]
    rfl
  · cases he
end
end Go.Ev
