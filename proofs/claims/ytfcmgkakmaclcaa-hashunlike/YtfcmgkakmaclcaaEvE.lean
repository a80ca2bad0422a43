/- An evaluator for closed runs: the operations, first part. -/
import Derived.Test.YtfcmgkakmaclcaaEvD
import Derived.Laws.Concat
import Derived.Laws.BitsLemmas
import Derived.Laws.Strings
import Derived.Lib.Bytes
set_option linter.unusedSectionVars false
namespace Go.Ev
variable [Inhabited Env]

def Nx (s : Sg) : Next → Next → Prop
  | .value v, n' => ∃ v', V s v v' ∧ n' = .value v'
  | .skip, n' => n' = .skip
  | .enter f a, n' => ∃ a', VL s a.toList a' ∧ n' = .enter f ⟨a'⟩
  | .round l f t a b, n' => ∃ x t', s l = some x ∧ VL s t.toList t' ∧ n' = .round x.1 f ⟨t'⟩ a b
  | _, _ => False
/-- The computation goes through, and says what the evaluator says. -/
def Does (P : Program) (s : Sg) (H : Hp) (w : World) (S : Sem Next) (n : Next) (H' : Hp) : Prop :=
  ∃ s' n' w', S.run P w = .ok n' w' ∧ Nx s' n n' ∧ Post P s H w s' H' w'

section
variable {P : Program} {s : Sg} {H : Hp} {w : World}
theorem does_val {S : Sem Value} {v v' : Value} {s' : Sg} {H' : Hp} {w' : World} (h1 : S.run P w = .ok v' w') (h2 : V s' v v') (h3 : Post P s H w s' H' w') :
    Does P s H w (do pure (.value (← S))) (.value v) H' := ⟨s', .value v', w', by simp [h1], ⟨v', h2, rfl⟩, h3⟩
theorem does_pure (h : R P s H w) {S : Sem Value} {v v' : Value} (h1 : S.run P w = .ok v' w) (h2 : V s v v') : Does P s H w (do pure (.value (← S))) (.value v) H := does_val h1 h2 (.refl h)
theorem does_unit {S : Sem Unit} {s' : Sg} {H' : Hp} {w' : World} (h1 : S.run P w = .ok () w') (h3 : Post P s H w s' H' w') :
    Does P s H w (do S; pure .skip) .skip H' := ⟨s', .skip, w', by simp [h1], rfl, h3⟩
theorem runP_run {α : Type} : ∀ (S : Sem α) (a : α), runP P S = some a → ∀ w, S.run P w = .ok a w
  | .pure b, a, h, w => by cases h; rfl
  | .program k, a, h, w => runP_run (k P) a h w
  | .mark m k, a, h, w => runP_run k a h w
  | .load .., a, h, w => by cases h
  | .store .., a, h, w => by cases h
  | .new .., a, h, w => by cases h
  | .shape .., a, h, w => by cases h
  | .freeze .., a, h, w => by cases h
  | .frozen .., a, h, w => by cases h
  | .getObj .., a, h, w => by cases h
  | .setObj .., a, h, w => by cases h
  | .choose .., a, h, w => by cases h
  | .sys .., a, h, w => by cases h
  | .halt .., a, h, w => by cases h
theorem fPure_eq {v : Option Value} {n : Next} {H' : Hp} (h : fPure v H = some (n, H')) : ∃ u, v = some u ∧ clo1 u = true ∧ n = .value u ∧ H' = H := by
  unfold fPure at h
  split at h
  · rename_i u
    cases hc : clo1 u with
    | false => rw [hc] at h; cases h
    | true => rw [hc] at h; cases h; exact ⟨u, rfl, hc, rfl, rfl⟩
  · cases h
theorem fVal_eq {v : Option Value} {n : Next} {H' : Hp} (h : fVal v H = some (n, H')) : ∃ u, v = some u ∧ n = .value u ∧ H' = H := by
  unfold fVal at h
  split at h
  · rename_i u; cases h; exact ⟨u, rfl, rfl, rfl⟩
  · cases h
theorem does_pureP (h : R P s H w) {S : Sem Value} {n : Next} {H' : Hp} (h1 : fPure (runP P S) H = some (n, H')) : Does P s H w (do pure (.value (← S))) n H' := by
  obtain ⟨u, e, hc, e1, e2⟩ := fPure_eq h1
  subst e1 e2
  exact does_pure h (runP_run S u e w) (clo1_self hc)

/-! sums and comparisons -/
theorem wrap_ok {n : Int} (h0 : -9223372036854775808 ≤ n) (h1 : n ≤ 9223372036854775807) : IntKind.i64.wrap n = n := by rw [IntKind.wrap_i64]; omega
theorem i64ok_eq {n : Int} {v : Value} (h : i64ok n = some v) : v = .int .i64 n ∧ IntKind.i64.wrap n = n := by
  unfold i64ok at h
  split at h
  · rename_i m
    split at h
    · rename_i hb
      cases h
      have := Nat.le_of_ble_eq_true hb
      have h2 : (m : Int) ≤ 9223372036854775807 := Int.ofNat_le.2 this
      have h3 : (0 : Int) ≤ (m : Int) := Int.natCast_nonneg m
      exact ⟨rfl, wrap_ok (Int.le_trans (by decide) h3) h2⟩
    · cases h
  · rename_i m
    split at h
    · rename_i hb
      cases h
      have := Nat.le_of_ble_eq_true hb
      exact ⟨rfl, wrap_ok (by omega) (by omega)⟩
    · cases h
theorem binI_eq {op : BinOp} {k k' : IntKind} {a b : Int} {v : Value} {t : TypeId} (h : binI op k k' a b = some v) : clo v = true ∧ binOp op t (.int k a) (.int k' b) = pure v := by
  unfold binI at h
  cases op <;> simp only [] at h <;> first | (cases h; done) | skip
  case add =>
    split at h
    · obtain ⟨e, e2⟩ := i64ok_eq h; subst e; exact ⟨rfl, by simp [binOp, Op.intArith, e2]⟩
    · cases h
  case sub =>
    split at h
    · obtain ⟨e, e2⟩ := i64ok_eq h; subst e; exact ⟨rfl, by simp [binOp, Op.intArith, e2]⟩
    · cases h
  all_goals
    split at h
    · rename_i hk
      cases h
      have hk := of_decide_eq_true hk
      subst hk
      refine ⟨rfl, ?_⟩
      simp only [binOp, Op.intCmp, ne_eq, not_true_eq_false, if_false]
      first | rfl | (congr 2; done) | skip
    · cases h
theorem eqB_eq : ∀ (a b : List UInt8), eqB a b = (a == b)
  | [], [] => rfl
  | [], _ :: _ => rfl
  | _ :: _, [] => rfl
  | x :: a, y :: b => by
    unfold eqB
    rw [List.cons_beq_cons, ← eqB_eq a b]
    by_cases h : x = y
    · subst h; simp
    · have h1 : Nat.beq x.toNat y.toNat = false := by
        cases hb : Nat.beq x.toNat y.toNat with
        | false => rfl
        | true => exact absurd (UInt8.toNat_inj.1 (Nat.eq_of_beq_eq_true hb)) h
      rw [h1]; simp [h]
theorem size_data (a : ByteArray) : a.size = a.data.toList.length := rfl
theorem append_data (a b : ByteArray) : a ++ b = ⟨⟨a.data.toList ++ b.data.toList⟩⟩ := by
  apply ByteArray.ext
  apply Array.ext'
  simp
theorem sum_small {m n : Nat} (h : Nat.blt (m + n) 1048576 = true) : m + n ≤ 9223372036854775807 := by
  have : m + n < 1048576 := Nat.blt_eq ▸ h
  omega
theorem binS_eq {op : BinOp} {a b : ByteArray} {v : Value} {t : TypeId} (h : binS op a b = some v) : clo v = true ∧ (binOp op t (.string a) (.string b)).run P w = .ok v w := by
  unfold binS at h
  cases op <;> simp only [] at h <;> first | (cases h; done) | skip
  case add =>
    split at h
    · rename_i hb
      cases h
      have hb := sum_small hb
      refine ⟨rfl, ?_⟩
      rw [binOp_string_add, run_string_add_sum w a b hb, append_data]
    · cases h
  case eql =>
    cases h
    refine ⟨rfl, ?_⟩
    rw [binOp_string_eql, eqB_eq, ByteArray.toList_eq, ByteArray.toList_eq]; rfl
  case neq =>
    cases h
    refine ⟨rfl, ?_⟩
    rw [binOp_string_neq, eqB_eq, ByteArray.toList_eq, ByteArray.toList_eq]; rfl
theorem eqGuard_none {op : BinOp} {t : TypeId} {x y : Operand} {a b : Value} (h : a ≠ .nilIface) (h2 : ∀ c, a ≠ .agg c) : (eqGuard op t x y a b).run P w = .ok () w := by
  unfold eqGuard
  cases op <;> first | rfl | skip
  all_goals (cases a <;> first | exact absurd rfl h | exact absurd rfl (h2 _) | rfl)
theorem eqGuard_other {op : BinOp} {t : TypeId} {x y : Operand} {a b : Value} (h : op ≠ .eql) (h2 : op ≠ .neq) : (eqGuard op t x y a b).run P w = .ok () w := by
  unfold eqGuard
  cases op <;> first | rfl | exact absurd rfl h | exact absurd rfl h2

/-- two blocks that lie there whole are one just if they are one -/
theorem R.same (h : R P s H w) {a b : Addr} {r : Bool} (he : eqPtr H a b = some r) {x y : Nat × Nat} (hx : s a.block = some x) (hy : s b.block = some y) :
    (sameAddr ⟨x.1, a.off, a.spot⟩ ⟨y.1, b.off, b.spot⟩).run P w = .ok r w := by
  unfold eqPtr at he
  split at he
  · rename_i c1 e1 c2 e2 hg1 hg2 hp1 hp2
    cases he
    obtain ⟨o1, h1, h2⟩ := h.obj _ _ _ x hg1 live_cells hx
    obtain ⟨o2, h3, h4⟩ := h.obj _ _ _ y hg2 live_cells hy
    obtain ⟨_, k1, f1, e3, _, e4⟩ := h2
    obtain ⟨_, k2, f2, e5, _, e6⟩ := h4
    subst e3 e4 e5 e6
    rw [hp1, hp2]
    unfold sameAddr
    by_cases hb : a.block = b.block
    · have hxy : x = y := by rw [hb, hy] at hx; cases hx; rfl
      subst hxy
      simp only [beq_self_eq_true, if_true, hb]
      have hr : ((⟨x.1, a.off, none⟩ : Addr) == ⟨x.1, b.off, none⟩) = (Nat.beq b.block b.block && Nat.beq a.off b.off) := by
        have h0 : Nat.beq b.block b.block = true := Nat.beq_refl _
        rw [h0, Bool.true_and]
        by_cases ho : a.off = b.off
        · rw [ho, Nat.beq_refl]; simp
        · have : Nat.beq a.off b.off = false := by
            cases hq : Nat.beq a.off b.off with
            | false => rfl
            | true => exact absurd (Nat.eq_of_beq_eq_true hq) ho
          rw [this]
          simp [ho]
      rw [hr]; rfl
    · have hne : x.1 ≠ y.1 := fun e => hb (h.inj _ _ _ _ _ _ x y hg1 live_cells hg2 live_cells hx hy e)
      have h0 : Nat.beq a.block b.block = false := by
        cases hq : Nat.beq a.block b.block with
        | false => rfl
        | true => exact absurd (Nat.eq_of_beq_eq_true hq) hb
      have hbe : (x.1 == y.1) = false := by simpa using hne
      rw [h0, Bool.false_and]
      simp [hbe, frozen, noView, viewAt, mayBeOne, stringish, shape, Sem.run, World.frozen?, World.shape?, h1, h3]
  · cases he
theorem equalIn_ptr (d : Nat) {t e : TypeId} {m : Nat} (hd : descF P t = some (.pointer e)) (hz : sizeF P e = some (m + 1)) (a b : Addr) :
    (Op.equalIn (d + 1) t (.pointer (some a)) (.pointer (some b))).run P w = (sameAddr a b).run P w := by
  simp [Op.equalIn, run_under hd, run_size hz]
theorem equal_ptr {t e : TypeId} {m : Nat} (hd : descF P t = some (.pointer e)) (hz : sizeF P e = some (m + 1)) (a b : Addr) :
    (Op.equal t (.pointer (some a)) (.pointer (some b))).run P w = (sameAddr a b).run P w := equalIn_ptr 9999 hd hz a b
theorem equalIn_ptrN (d : Nat) {t e : TypeId} (hd : descF P t = some (.pointer e)) (a : Addr) :
    (Op.equalIn (d + 1) t (.pointer none) (.pointer (some a))).run P w = .ok false w ∧ (Op.equalIn (d + 1) t (.pointer (some a)) (.pointer none)).run P w = .ok false w := by
  constructor <;> simp [Op.equalIn, run_under hd]
theorem equal_ptrN {t e : TypeId} (hd : descF P t = some (.pointer e)) (a : Addr) :
    (Op.equal t (.pointer none) (.pointer (some a))).run P w = .ok false w ∧ (Op.equal t (.pointer (some a)) (.pointer none)).run P w = .ok false w := equalIn_ptrN 9999 hd a
theorem equalIn_slN (d : Nat) {t e : TypeId} (hd : descF P t = some (.slice e)) (a : Addr) (l c l' c' : Nat) :
    (Op.equalIn (d + 1) t (.slice none l c) (.slice (some a) l' c')).run P w = .ok false w ∧ (Op.equalIn (d + 1) t (.slice (some a) l' c') (.slice none l c)).run P w = .ok false w := by
  constructor <;> simp [Op.equalIn, run_under hd]
theorem equal_slN {t e : TypeId} (hd : descF P t = some (.slice e)) (a : Addr) (l c l' c' : Nat) :
    (Op.equal t (.slice none l c) (.slice (some a) l' c')).run P w = .ok false w ∧ (Op.equal t (.slice (some a) l' c') (.slice none l c)).run P w = .ok false w := equalIn_slN 9999 hd a l c l' c'
theorem V.sl {s : Sg} {a : Addr} {l c : Nat} {v' : Value} (hc : c ≠ junk) : V s (.slice (some a) l c) v' ↔ ∃ x, s a.block = some x ∧ l ≤ capOf x.2 c ∧ v' = .slice (some ⟨x.1, a.off, a.spot⟩) l (capOf x.2 c) := by
  show (if c = junk then _ else _) ↔ _
  rw [if_neg hc]
theorem V.slN {s : Sg} {l c : Nat} {v' : Value} (hc : c ≠ junk) : V s (.slice none l c) v' ↔ v' = .slice none l c := by
  show (if c = junk then _ else _) ↔ _
  rw [if_neg hc]
theorem V.slJ {s : Sg} {a : Option Addr} {l : Nat} {v' : Value} : V s (.slice a l junk) v' ↔ l = 0 ∧ ∃ a' c', v' = .slice a' 0 c' := by
  rw [V.slice, if_pos rfl]
theorem beq_false {a b : Nat} (h : Nat.beq a b = false) : a ≠ b := fun e => by rw [e, Nat.beq_refl] at h; cases h
/-- what == and != say of values that are neither numbers nor texts -/
theorem binE_run (h : R P s H w) {op : BinOp} {t : TypeId} {x y x' y' : Value} {v : Value} (he : binE P H op t x y = some v) (hx : V s x x') (hy : V s y y') {p q : Operand} :
    clo v = true ∧ (do eqGuard op t p q x' y'; binOp op t x' y').run P w = .ok v w := by
  have main : ∀ r, eqV P H t x y = some r → (eqGuard op t p q x' y').run P w = .ok () w ∧ (Op.equal t x' y').run P w = .ok r w ∧
      (binOp .eql t x' y' = (do pure (.bool (← Op.equal t x' y')))) ∧ (binOp .neq t x' y' = (do pure (.bool (!(← Op.equal t x' y'))))) := by
    intro r hr
    unfold eqV at hr
    split at hr
    · rename_i a b
      obtain ⟨x1, e1, e2⟩ := V.ptr.1 hx
      obtain ⟨y1, e3, e4⟩ := V.ptr.1 hy
      subst e2 e4
      split at hr
      · rename_i e hd
        split at hr
        · rename_i m hz
          refine ⟨eqGuard_none (by simp) (by simp), ?_, rfl, rfl⟩
          rw [equal_ptr hd hz]
          exact h.same hr e1 e3
        · cases hr
      · cases hr
    · rename_i b
      cases hx
      obtain ⟨y1, e3, e4⟩ := V.ptr.1 hy
      subst e4
      split at hr
      · rename_i e hd
        cases hr
        exact ⟨eqGuard_none (by simp) (by simp), (equal_ptrN hd _).1, rfl, rfl⟩
      · cases hr
    · rename_i b
      cases hy
      obtain ⟨y1, e3, e4⟩ := V.ptr.1 hx
      subst e4
      split at hr
      · rename_i e hd
        cases hr
        exact ⟨eqGuard_none (by simp) (by simp), (equal_ptrN hd _).2, rfl, rfl⟩
      · cases hr
    · rename_i a l2 c2
      split at hr
      · rename_i e hd
        split at hr
        · cases hr
        · rename_i hj
          cases hr
          obtain ⟨y1, e3, _, e4⟩ := (V.sl (beq_false hj)).1 hy
          subst e4
          have hc : (0 : Nat) ≠ junk := by decide
          · cases (V.slN hc).1 hx
            exact ⟨eqGuard_none (by simp) (by simp), (equal_slN hd _ _ _ _ _).1, rfl, rfl⟩
      · cases hr
    · rename_i a l2 c2
      split at hr
      · rename_i e hd
        split at hr
        · cases hr
        · rename_i hj
          cases hr
          obtain ⟨y1, e3, _, e4⟩ := (V.sl (beq_false hj)).1 hx
          subst e4
          have hc : (0 : Nat) ≠ junk := by decide
          · cases (V.slN hc).1 hy
            exact ⟨eqGuard_none (by simp) (by simp), (equal_slN hd _ _ _ _ _).2, rfl, rfl⟩
      · cases hr
    · cases hr
  unfold binE at he
  split at he
  · cases hr : eqV P H t x y with
    | none => rw [hr] at he; cases he
    | some r =>
      rw [hr] at he; cases he
      obtain ⟨g1, g2, g3, _⟩ := main r hr
      exact ⟨rfl, by simp [g1, g3, g2]⟩
  · cases hr : eqV P H t x y with
    | none => rw [hr] at he; cases he
    | some r =>
      rw [hr] at he; cases he
      obtain ⟨g1, g2, _, g3⟩ := main r hr
      exact ⟨rfl, by simp [g1, g3, g2]⟩
  · cases he
end
end Go.Ev
