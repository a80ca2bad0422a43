/- An evaluator for closed runs: every operation. -/
import Derived.Test.YtkojhgagkoeeiaaEA
import Derived.Laws.Externs
import Derived.Orders
section
set_option linter.unusedSimpArgs false
set_option linter.unusedVariables false
set_option linter.unusedSectionVars false
namespace Go.Ev
variable [Inhabited Env]
section
variable {P : Program} {s : Sg} {H : Hp} {w : World}
theorem u1_eq {f : Value → Res} {x : Option Value} {r : Next × Hp} (h : u1 f x = some r) : ∃ v, x = some v ∧ f v = some r := by
  cases x with
  | none => cases h
  | some v => exact ⟨v, rfl, h⟩
theorem u2_eq {f : Value → Value → Res} {x y : Option Value} {r : Next × Hp} (h : u2 f x y = some r) : ∃ v u, x = some v ∧ y = some u ∧ f v u = some r := by
  cases x with
  | none => cases h
  | some v => cases y with
    | none => cases h
    | some u => exact ⟨v, u, rfl, rfl, h⟩
theorem u3_eq {f : Value → Value → Value → Res} {x y z : Option Value} {r : Next × Hp} (h : u3 f x y z = some r) : ∃ v u t, x = some v ∧ y = some u ∧ z = some t ∧ f v u t = some r := by
  cases x with
  | none => cases h
  | some v => cases y with
    | none => cases h
    | some u => cases z with
      | none => cases h
      | some t => exact ⟨v, u, t, rfl, rfl, rfl, h⟩
theorem opsA_V {tm : Tm} {ρ : Operand → Value} : ∀ {l : List Operand} {vs : List Value}, opsA tm l = some vs → (∀ x ∈ l, ∀ v, opA tm x = some v → V s v (ρ x)) → VL s vs (l.map ρ)
  | [], vs, h, _ => by cases h; rfl
  | x :: r, vs, h, hr => by
    unfold opsA at h
    split at h
    · rename_i v hv
      split at h
      · rename_i l hl
        cases h
        exact ⟨ρ x, r.map ρ, hr x (by simp) v hv, opsA_V hl (fun y hy => hr y (by simp [hy])), rfl⟩
      · cases h
    · cases h
theorem partsA_V {tm : Tm} {ρ : Operand → Value} : ∀ {l : List (Nat × Operand)} {vs : List (Nat × Value)}, partsA tm l = some vs → (∀ x ∈ l.map (·.2), ∀ v, opA tm x = some v → V s v (ρ x)) → PL s vs (l.map fun p => (p.1, ρ p.2))
  | [], vs, h, _ => by cases h; rfl
  | (i, x) :: r, vs, h, hr => by
    unfold partsA at h
    split at h
    · rename_i v hv
      split at h
      · rename_i l hl
        cases h
        exact ⟨ρ x, _, hr x (by simp) v hv, partsA_V hl (fun y hy => hr y (by simp at hy ⊢; exact .inr hy)), rfl⟩
      · cases h
    · cases h
theorem optA_V {tm : Tm} {ρ : Operand → Value} {x : Option Operand} {v : Option Value} {n : Option Nat} (h : optA tm x = some v) (hn : optInt v = some n) (hr : ∀ y ∈ x.toArray, ∀ u, opA tm y = some u → V s u (ρ y)) : x.map ρ = v := by
  cases x with
  | none => cases h; rfl
  | some y =>
    cases hu : opA tm y with
    | none => simp only [optA, hu] at h; cases h
    | some u =>
      simp only [optA, hu] at h
      cases h
      have h3 := hr y (by simp) u hu
      rcases optInt_eq hn with ⟨e, _⟩ | ⟨k, m, e, _⟩
      · cases e
      · cases e
        have h4 := V.int.1 h3
        simp [h4]
theorem fYield_run (h : R P s H w) {l : Nat} {x : Nat × Nat} {args args' : List Value} {n : Next} {H' : Hp} (he : fYield l (some args) H = some (n, H')) (hs : s l = some x) (ha : VL s args args') : Does P s H w (Instr.yield x.1 ⟨args'⟩) n H' := by
  unfold fYield at he
  split at he
  · rename_i args0 lp u e0 hg
    cases e0
    unfold yieldR at he
    split at he
    · rename_i hb
      have hb := Nat.eq_of_beq_eq_true hb
      cases he
      obtain ⟨o', h1, t', y, h2, h3, h4⟩ := h.obj l _ u x hg (fun z e => by cases e) hs
      subst h4
      have hfold : ∀ (ps : List Nat) (as as' : List Value) (tm tm' : List Value), VL s as as' → VL s tm tm' →
          VL s ((ps.zip as).foldl (fun tm p => setL tm p.1 p.2) tm) ((ps.zip as').foldl (fun (tm : Array Value) p => tm.setIfInBounds p.1 p.2) ⟨tm'⟩).toList := by
        intro ps
        induction ps with
        | nil => intro as as' tm tm' _ hv; simpa using hv
        | cons p r ih =>
          intro as as' tm tm' ha hv
          cases as with
          | nil => cases ha; simpa using hv
          | cons a as =>
            obtain ⟨a', r', q1, q2, e⟩ := ha
            subst e
            simp only [List.zip_cons_cons, List.foldl_cons]
            have e2 : (⟨tm'⟩ : Array Value).setIfInBounds p a' = ⟨tm'.set p a'⟩ := by simp
            rw [e2]
            refine ih as r' _ _ q2 ?_
            rw [setL_eq]
            clear ih e2
            induction p generalizing tm tm' with
            | zero => cases tm with
              | nil => cases hv; exact rfl
              | cons b tm => obtain ⟨b', tr, z1, z2, e⟩ := hv; subst e; exact ⟨a', tr, q1, z2, rfl⟩
            | succ p ihp => cases tm with
              | nil => cases hv; exact rfl
              | cons b tm => obtain ⟨b', tr, z1, z2, e⟩ := hv; subst e; exact ⟨b', _, z1, ihp tm tr z2, rfl⟩
      refine ⟨s, .round x.1 lp.fn (((lp.params.toList.zip args').foldl (fun (tm : Array Value) p => tm.setIfInBounds p.1 p.2) ⟨t'⟩)) lp.assign lp.body, w, ?_, ⟨x, _, hs, hfold lp.params.toList args args' lp.tmps.toList t' ha h2, rfl⟩, .refl h⟩
      unfold Instr.yield Instr.getLoop
      have hgo : (getObj x.1).run P w = .ok (.loop { lp with tmps := ⟨t'⟩, defers := y.1 }) w := by simp [getObj, Sem.run, h1]
      have hsz : ¬ (⟨args'⟩ : Array Value).size ≠ lp.params.size := by
        have : args'.length = lp.params.toList.length := by rw [ha.len, hb]
        simpa using this
      simp only [Sem.run_bind, hgo, Result.andThen_ok, Sem.run_pure, hsz, if_false]
      congr 2
      rw [← Array.foldl_toList]
      congr 1
      simp
    · cases he
  · cases he
theorem fCallV_run (h : R P s H w) {f f' : Value} {args args' : List Value} {n : Next} {H' : Hp} (he : fCallV P (some f) (some args) H = some (n, H')) (hf : V s f f') (ha : VL s args args') :
    Does P s H w (do let d ← Deferred.ofValue f' ⟨args'⟩; invoke d.target d.args) n H' := by
  unfold fCallV at he
  split at he
  · rename_i g first cap l e1 e2
    cases e1; cases e2
    obtain ⟨l, q1, q2, q3, q4⟩ := fEnter_eq he
    cases q1
    subst q3 q4
    obtain ⟨fn', a', b', h0, h1, h2, e⟩ := V.func.1 hf
    cases h0
    subst e
    refine ⟨s, .enter g ⟨a' ++ args' ++ b'⟩, w, ?_, ⟨_, (h1.append ha).append h2, rfl⟩, .refl h⟩
    simp only [Deferred.ofValue, Sem.run_bind, Sem.run_pure, Result.andThen_ok, invoke]
    rw [callFunc_run q2]
    congr 2
    apply Array.ext'; simp
  · rename_i k l e1 e2
    cases e1; cases e2
    obtain ⟨fn', a', b', ⟨x, hs, h0⟩, h1, h2, e⟩ := V.func.1 hf
    cases h1; cases h2
    subst h0 e
    have := fYield_run h he hs ha
    have e3 : (do let d ← Deferred.ofValue (.func (.yield x.1) ⟨[]⟩ ⟨[]⟩) ⟨args'⟩; invoke d.target d.args : Sem Next) = Instr.yield x.1 ((⟨[]⟩ : Array Value) ++ ⟨args'⟩) := rfl
    rw [e3]
    have e4 : (⟨[]⟩ : Array Value) ++ (⟨args'⟩ : Array Value) = ⟨args'⟩ := by apply Array.ext'; simp
    rw [e4]
    exact this
  · cases he
theorem pureB {S : Sem Value} (h : R P s H w) {n : Next} {H' : Hp} {xs xs' : List Value} (he : (match cloAll xs with | true => fPure (runP P S) H | false => none) = some (n, H')) (hx : VL s xs xs') :
    xs' = xs ∧ Does P s H w (do pure (.value (← S))) n H' := by
  cases hc : cloAll xs with
  | false => rw [hc] at he; cases he
  | true => rw [hc] at he; exact ⟨cloAll_V hc hx, does_pureP h he⟩
theorem fBuiltin_run (h : R P s H w) {b : Builtin} {ts : Array TypeId} {ty : TypeId} {cs : Array Bool} {xs xs' : List Value} {n : Next} {H' : Hp} (he : fBuiltin P b ts ty (some xs) H = some (n, H')) (hx : VL s xs xs') : Does P s H w (builtin b ts ty cs ⟨xs'⟩) n H' := by
  unfold fBuiltin at he
  split at he
  · -- len
    unfold fLen1 at he
    split at he
    · rename_i t tr x xr ht e0
      cases e0
      obtain ⟨x', r', g1, g2, e⟩ := hx
      subst e
      obtain ⟨v, e1, e2, e3⟩ := fVal_eq he
      subst e2 e3
      obtain ⟨k1, k2⟩ := fLen_run (P := P) (w := w) (ty := ty) (xs := ⟨x' :: r'⟩) e1 g1 (argsAt ht) rfl
      exact does_pure h k2 k1
    · cases he
  · exact fAppend_run h he hx
  · exact fCopy_run h he hx
  · exact fClear_run h he hx
  · exact fDelete_run h he hx
  · obtain ⟨e, hd⟩ := pureB h he hx
    subst e; exact hd
  · obtain ⟨e, hd⟩ := pureB h he hx
    subst e; exact hd
  · obtain ⟨e, hd⟩ := pureB h he hx
    subst e; exact hd
  · obtain ⟨e, hd⟩ := pureB h he hx
    subst e; exact hd
  · cases he
theorem fFuncV {f : FuncId} {v' : Value} (h : V s (.func (.func f) #[] #[]) v') : v' = .func (.func f) #[] #[] := by
  obtain ⟨fn', a', b', h0, h1, h2, e⟩ := V.func.1 h
  cases h0; cases h1; cases h2
  exact e
theorem eqGuard_agg {op : BinOp} {t : TypeId} {p q p' q' : Operand} {c : Array Value} {y : Value} : eqGuard op t p q (.agg c) y = eqGuard op t p' q' (.agg c) y := by
  cases y <;> rfl
theorem binO_run (h : R P s H w) {op : BinOp} {t : TypeId} {x y x' y' : Value} {n : Next} {H' : Hp} (he : binO P op t x y H (binF P H op t x y) = some (n, H')) (hx : V s x x') (hy : V s y y') (p q : Operand) :
    Does P s H w (do pure (.value (← (do eqGuard op t p q x' y'; binOp op t x' y')))) n H' := by
  unfold binO at he
  cases hr : binF P H op t x y with
  | some r =>
    rw [hr] at he
    cases he
    have key : clo r = true ∧ (do eqGuard op t p q x' y'; binOp op t x' y' : Sem Value).run P w = .ok r w := by
      unfold binF at hr
      split at hr
      · rename_i k a k' b
        have g1 := V.int.1 hx
        have g2 := V.int.1 hy
        subst g1 g2
        obtain ⟨q1, q2⟩ := binI_eq (t := t) hr
        refine ⟨q1, ?_⟩
        simp only [Sem.run_bind, eqGuard_none (P := P) (w := w) (op := op) (t := t) (x := p) (y := q) (a := .int k a) (b := .int k' b) (by simp) (by simp), Result.andThen_ok, q2]
        rfl
      · rename_i a b
        have g1 := V.string.1 hx
        have g2 := V.string.1 hy
        subst g1 g2
        obtain ⟨q1, q2⟩ := binS_eq (P := P) (w := w) (t := t) hr
        refine ⟨q1, ?_⟩
        simp only [Sem.run_bind, eqGuard_none (P := P) (w := w) (op := op) (t := t) (x := p) (y := q) (a := .string a) (b := .string b) (by simp) (by simp), Result.andThen_ok, q2]
      · exact binE_run h hr hx hy
    exact does_pure h key.2 (clo_self key.1)
  | none =>
    rw [hr] at he
    simp only [] at he
    split at he
    · rename_i hc1 hc2
      have g1 := clo1_V hc1 hx
      have g2 := clo1_V hc2 hy
      subst g1 g2
      split at he
      · cases he
      · cases he
      · obtain ⟨u, e, hc, e1, e2⟩ := fPure_eq he
        subst e1 e2
        rw [eqGuard_agg (p' := .tmp 0) (q' := .tmp 0)]
        exact does_pure h (runP_run _ _ e w) (clo1_self hc)
      · obtain ⟨u, e, hc, e1, e2⟩ := fPure_eq he
        subst e1 e2
        rw [eqGuard_agg (p' := .tmp 0) (q' := .tmp 0)]
        exact does_pure h (runP_run _ _ e w) (clo1_self hc)
      · rename_i hne1 hne2 hne3 hne4
        have key : (eqGuard op t p q x' y').run P w = .ok () w := by
          by_cases h1 : op = .eql
          · subst h1
            exact eqGuard_none (fun e => hne1 rfl e) (fun c e => hne3 _ rfl e)
          · by_cases h2 : op = .neq
            · subst h2
              exact eqGuard_none (fun e => hne2 rfl e) (fun c e => hne4 _ rfl e)
            · exact eqGuard_other h1 h2
        obtain ⟨u, e, hc, e1, e2⟩ := fPure_eq he
        subst e1 e2
        have hrun : (do eqGuard op t p q x' y'; binOp op t x' y' : Sem Value).run P w = .ok u w := by
          simp only [Sem.run_bind, key, Result.andThen_ok]
          exact runP_run _ _ e w
        exact does_pure h hrun (clo1_self hc)
    · cases he
set_option maxHeartbeats 4000000 in
/-- **Every operation that the evaluator takes does what it says.** -/
theorem exec_sound (h : R P s H w) {tm : Tm} {o : Oper} {n : Next} {H' : Hp} {ρ : Operand → Value} (he : execF P tm o.type o.op H = some (n, H')) (hρ : ∀ x ∈ o.op.operands, ∀ v, opA tm x = some v → V s v (ρ x)) :
    Does P s H w (execOp ρ o) n H' := by
  obtain ⟨dst, op, ty, pos, after, guard⟩ := o
  simp only at he hρ
  cases op <;> simp only [execF] at he <;> first | (cases he; done) | skip
  case move x =>
    obtain ⟨v, e1, e2, e3⟩ := fVal_eq he
    subst e2 e3
    exact ⟨s, .value (ρ x), w, rfl, ⟨_, hρ x (by simp [Op.operands]) v e1, rfl⟩, .refl h⟩
  case assign x =>
    obtain ⟨v, e1, e2, e3⟩ := fVal_eq he
    subst e2 e3
    exact ⟨s, .value (ρ x), w, rfl, ⟨_, hρ x (by simp [Op.operands]) v e1, rfl⟩, .refl h⟩
  case pick c a b =>
    obtain ⟨vc, va, vb, e1, e2, e3, e4⟩ := u3_eq he
    have h1 := hρ c (by simp [Op.operands]) vc e1
    have h2 := hρ a (by simp [Op.operands]) va e2
    have h3 := hρ b (by simp [Op.operands]) vb e3
    unfold fPick at e4
    split at e4
    · cases e4
      refine ⟨s, .value (ρ a), w, ?_, ⟨_, h2, rfl⟩, .refl h⟩
      simp only [execOp, V.bool.1 h1]; rfl
    · cases e4
      refine ⟨s, .value (ρ b), w, ?_, ⟨_, h3, rfl⟩, .refl h⟩
      simp only [execOp, V.bool.1 h1]; rfl
    · cases e4
  case alloc t => exact fAlloc_run h he
  case box t x =>
    obtain ⟨v, e1, e2⟩ := u1_eq he
    have h1 := hρ x (by simp [Op.operands]) v e1
    unfold fBox at e2
    split at e2
    · rename_i hs; exact fNew_run h e2 (h1.cells_of hs)
    · cases e2
  case build t ps =>
    obtain ⟨v, e1, e2, e3⟩ := fVal_eq he
    subst e2 e3
    cases hp : partsA tm ps.toList with
    | none => rw [hp] at e1; cases e1
    | some l =>
      rw [hp] at e1
      have := partsA_V (s := s) (ρ := ρ) hp (fun x hx => hρ x (by simpa [Op.operands] using hx))
      obtain ⟨v', k1, k2⟩ := fBuild_run (P := P) (w := w) (ps' := ps.map fun (i, x) => (i, ρ x)) e1 (by simpa using this)
      exact does_pure h k2 k1
  case buildSlice t len ps =>
    cases hp : partsA tm ps.toList with
    | none => rw [hp] at he; cases he
    | some l =>
      rw [hp] at he
      have := partsA_V (s := s) (ρ := ρ) hp (fun x hx => hρ x (by simpa [Op.operands] using hx))
      exact fBuildSlice_run (ps' := ps.map fun (i, x) => (i, ρ x)) h he (by simpa using this)
  case load t x =>
    obtain ⟨v, e1, e2⟩ := u1_eq he
    obtain ⟨u, e3, e4, e5⟩ := fVal_eq e2
    subst e4 e5
    obtain ⟨v', k1, k2⟩ := run_loadF h e3 (hρ x (by simp [Op.operands]) v e1)
    exact does_pure h k2 k1
  case store t x y =>
    obtain ⟨v, u, e1, e2, e3⟩ := u2_eq he
    unfold fHp at e3
    split at e3
    · rename_i H2 hst
      cases e3
      obtain ⟨w', k1, k2⟩ := run_storeF h hst (hρ x (by simp [Op.operands]) v e1) (hρ y (by simp [Op.operands]) u e2)
      exact does_unit k1 k2
    · cases e3
  case nilCheck x =>
    obtain ⟨v, e1, e2⟩ := u1_eq he
    exact fNil_run h e2 (hρ x (by simp [Op.operands]) v e1) rfl rfl
  case binOp op t x y yt =>
    obtain ⟨v, u, e1, e2, e3⟩ := u2_eq he
    exact binO_run h e3 (hρ x (by simp [Op.operands]) v e1) (hρ y (by simp [Op.operands]) u e2) x y
  case unOp op t x =>
    obtain ⟨v, e1, e2⟩ := u1_eq he
    have h1 := hρ x (by simp [Op.operands]) v e1
    split at e2
    · rename_i hc
      have g1 := clo_V hc h1
      have := does_pureP (P := P) (s := s) (w := w) h e2
      rw [← g1] at this
      exact this
    · cases e2
  case convert a b x =>
    obtain ⟨v, e1, e2⟩ := u1_eq he
    exact fConv_run h e2 (hρ x (by simp [Op.operands]) v e1)
  case makeFunc fn a b =>
    unfold fFunc at he
    split at he
    · rename_i f la lb hla hlb
      cases he
      have k1 := opsA_V (s := s) (ρ := ρ) hla (fun x hx => hρ x (by simp [Op.operands]; exact .inl (by simpa using hx)))
      have k2 := opsA_V (s := s) (ρ := ρ) hlb (fun x hx => hρ x (by simp [Op.operands]; exact .inr (by simpa using hx)))
      refine does_pure h (v' := .func (.func f) (a.map ρ) (b.map ρ)) rfl (V.func.2 ⟨.func f, a.toList.map ρ, b.toList.map ρ, rfl, k1, k2, ?_⟩)
      congr 1 <;> (apply Array.ext'; simp)
    · cases he
  case makeMap t r =>
    unfold fMakeMap at he
    split at he
    · cases he
      refine does_val (s' := upd s H.n (w.heap.size, 0)) (v' := .map (some w.heap.size)) ?_ (V.map.2 ⟨_, upd_same _ _ _, rfl⟩) (h.push (o := .map #[] 0) (o' := .map #[] 0) (fun _ => rfl))
      simp [Instr.makeMap, newObj, Sem.run]
    · cases he
  case makeSlice t l c =>
    obtain ⟨v, u, e1, e2, e3⟩ := u2_eq he
    exact fMake_run h e3 (hρ l (by simp [Op.operands]) v e1) (hρ c (by simp [Op.operands]) u e2)
  case slice t x lo hi mx =>
    obtain ⟨v, e1, e2⟩ := u1_eq he
    have h1 := hρ x (by simp [Op.operands]) v e1
    unfold slArgs at e2
    split at e2
    · rename_i lo' hi' mx' q1 q2 q3
      obtain ⟨u, e3, e4, e5⟩ := fVal_eq e2
      subst e4 e5
      have hopt : ∃ a b c, optInt lo' = some a ∧ optInt hi' = some b ∧ optInt mx' = some c := by
        unfold fSlice fSlice1 at e3
        split at e3
        · rename_i a b c ha hb hc; exact ⟨a, b, c, ha, hb, hc⟩
        · cases e3
      obtain ⟨a, b, c, ha, hb, hc⟩ := hopt
      have z1 := optA_V (s := s) (ρ := ρ) q1 ha (fun y hy => hρ y (by simp [Op.operands] at hy ⊢; simp [hy]))
      have z2 := optA_V (s := s) (ρ := ρ) q2 hb (fun y hy => hρ y (by simp [Op.operands] at hy ⊢; simp [hy]))
      have z3 := optA_V (s := s) (ρ := ρ) q3 hc (fun y hy => hρ y (by simp [Op.operands] at hy ⊢; simp [hy]))
      obtain ⟨v', k1, k2⟩ := fSlice_run h e3 h1
      rw [← z1, ← z2, ← z3] at k2
      exact does_pure h k2 k1
    · cases e2
  case fieldAddr t x f =>
    obtain ⟨v, e1, e2⟩ := u1_eq he
    exact fField_run h e2 (hρ x (by simp [Op.operands]) v e1)
  case field t x f =>
    obtain ⟨v, e1, e2⟩ := u1_eq he
    exact fFieldV_run h e2 (hρ x (by simp [Op.operands]) v e1)
  case indexAddr t x i =>
    obtain ⟨v, u, e1, e2, e3⟩ := u2_eq he
    exact fIdx_run h e3 (hρ x (by simp [Op.operands]) v e1) (hρ i (by simp [Op.operands]) u e2)
  case index t x i =>
    obtain ⟨v, u, e1, e2, e3⟩ := u2_eq he
    exact fIndex_run h e3 (hρ x (by simp [Op.operands]) v e1) (hρ i (by simp [Op.operands]) u e2)
  case lookup t m k ok =>
    obtain ⟨v, u, e1, e2, e3⟩ := u2_eq he
    exact fLook_run h e3 (hρ m (by simp [Op.operands]) v e1) (hρ k (by simp [Op.operands]) u e2)
  case mapUpdate t m k x =>
    obtain ⟨v, u, z, e1, e2, e3, e4⟩ := u3_eq he
    exact fUpd_run h e4 (hρ m (by simp [Op.operands]) v e1) (hρ k (by simp [Op.operands]) u e2) (hρ x (by simp [Op.operands]) z e3)
  case mapEntry t m k =>
    obtain ⟨v, u, e1, e2, e3⟩ := u2_eq he
    exact fEnt_run h e3 (hρ m (by simp [Op.operands]) v e1) (hρ k (by simp [Op.operands]) u e2)
  case entryStore t m k x =>
    obtain ⟨v, u, z, e1, e2, e3, e4⟩ := u3_eq he
    exact fSto_run h e4 (hρ m (by simp [Op.operands]) v e1) (hρ k (by simp [Op.operands]) u e2) (hρ x (by simp [Op.operands]) z e3)
  case range t x =>
    obtain ⟨v, e1, e2⟩ := u1_eq he
    exact fRange_run h e2 (hρ x (by simp [Op.operands]) v e1)
  case next x b =>
    obtain ⟨v, e1, e2⟩ := u1_eq he
    exact fNext_run h e2 (hρ x (by simp [Op.operands]) v e1)
  case extract x i =>
    obtain ⟨v, e1, e2⟩ := u1_eq he
    exact fExtract_run h e2 (hρ x (by simp [Op.operands]) v e1)
  case call c =>
    have hargs : ∀ x ∈ c.args.toList, ∀ v, opA tm x = some v → V s v (ρ x) := fun x hx => hρ x (by simp [Op.operands, Call.operands]; exact .inr (by simpa using hx))
    have hmap : (⟨c.args.toList.map ρ⟩ : Array Value) = c.args.map ρ := by apply Array.ext'; simp
    unfold fCall at he
    split at he
    · rename_i f hcal
      have hf := fFuncV (hρ (.func f) (by simp [Op.operands, Call.operands, hcal]) _ rfl)
      unfold fCallF at he
      split at he
      · obtain ⟨l, q1, q2, q3, q4⟩ := fEnter_eq he
        subst q3 q4
        have k1 := opsA_V (s := s) (ρ := ρ) q1 hargs
        refine ⟨s, .enter f ⟨c.args.toList.map ρ⟩, w, ?_, ⟨_, k1, rfl⟩, .refl h⟩
        simp only [execOp, resolve, hcal, hf, Deferred.ofValue, Sem.run_bind, Sem.run_pure, Result.andThen_ok, invoke]
        rw [callFunc_run q2, hmap]
        congr 2
        apply Array.ext'; simp
      · unfold fExt at he
        split at he
        · rename_i g l hg ha
          split at he
          · rename_i hcl
            split at he
            · rename_i e n1 n2 n3 n4
              have k1 := opsA_V (s := s) (ρ := ρ) ha hargs
              have e1 := cloAll_V hcl k1
              obtain ⟨s2, n', w2, r1, r2, r3⟩ := does_pureP h he
              have hg2 : P.funcs[f]? = some g := by rw [nthL_eq] at hg; simpa using hg
              refine ⟨s2, n', w2, ?_, r2, r3⟩
              have hx := run_callFunc_extern hg2 n1 n2 n3 n4 ⟨l⟩ w
              have e2 : (#[] ++ Array.map ρ c.args ++ #[] : Array Value) = ⟨l⟩ := by rw [← hmap, e1]; apply Array.ext'; simp
              simp only [execOp, resolve, hcal, hf, Deferred.ofValue, Sem.run_bind, Sem.run_pure, Result.andThen_ok, invoke]
              rw [e2, hx]
              simpa [Sem.run_bind] using r1
            · cases he
          · cases he
        · cases he
    · rename_i x hne hcal
      cases hx : opA tm x with
      | none => rw [hx] at he; unfold fCallV at he; cases he
      | some f =>
        rw [hx] at he
        cases ha : opsA tm c.args.toList with
        | none => rw [ha] at he; unfold fCallV at he; split at he <;> first | cases he | (rename_i e; cases e)
        | some l =>
          rw [ha] at he
          have k1 := opsA_V (s := s) (ρ := ρ) ha hargs
          have := fCallV_run h he (hρ x (by simp [Op.operands, Call.operands, hcal]) f hx) k1
          simp only [execOp, resolve, hcal]
          rw [hmap] at this
          exact this
    · rename_i b hcal
      cases ha : opsA tm c.args.toList with
      | none =>
        rw [ha] at he
        unfold fBuiltin at he
        split at he <;> first | (cases he; done) | (unfold fLen1 at he; split at he <;> first | (cases he; done) | (rename_i e; cases e)) | (unfold on2 at he; cases he)
      | some l =>
        rw [ha] at he
        have k1 := opsA_V (s := s) (ρ := ρ) ha hargs
        have := fBuiltin_run (cs := c.args.map fun | .const _ => true | _ => false) h he k1
        simp only [execOp, resolve, hcal]
        rw [hmap] at this
        exact this
    · cases he
end
end Go.Ev
end

/- An evaluator for closed runs: frames, step by step. -/
section
set_option linter.unusedSimpArgs false
set_option linter.unusedVariables false
set_option linter.unusedSectionVars false
namespace Go.Ev
variable [Inhabited Env]

def mk (f : FuncId) (t : Array Value) (td : List Item) (d : List Deferred) (r : Option Nat) : Frame := { fn := f, tmps := t, todo := td, defers := d, mode := .run, kind := .normal, roundOf := r }
/-- the frame's own look at an operand -/
def evA (t : Array Value) : Operand → Value
  | .tmp i => t.getD i undef
  | .const v => v
  | .global g => .pointer (some ⟨g, 0, none⟩)
  | .func f => .func (.func f) #[] #[]
section
variable {P : Program} {f : FuncId} {t : Array Value} {k : List Item} {d : List Deferred} {r : Option Nat} {cs : List Frame} {w : World}
theorem mk_eval : (mk f t k d r).eval = evA t := by funext x; cases x <;> rfl
theorem st_skip : step P (lone (mk f t (.code .skip :: k) d r) cs w) = .next (lone (mk f t k d r) cs w) := step_lone_go (by simp [stepG, stepG.exec, mk])
theorem st_label {l : Nat} : step P (lone (mk f t (.code (.label l) :: k) d r) cs w) = .next (lone (mk f t k d r) cs w) := step_lone_go (by simp [stepG, stepG.exec, mk])
theorem st_inBlock {l : Nat} : step P (lone (mk f t (.inBlock l :: k) d r) cs w) = .next (lone (mk f t k d r) cs w) := step_lone_go (by simp [stepG, stepG.exec, mk])
theorem st_inScope {b : Code} : step P (lone (mk f t (.inScope b :: k) d r) cs w) = .next (lone (mk f t k d r) cs w) := step_lone_go (by simp [stepG, stepG.exec, mk])
theorem st_seq {a b : Code} : step P (lone (mk f t (.code (.seq a b) :: k) d r) cs w) = .next (lone (mk f t (.code a :: .code b :: k) d r) cs w) := step_lone_go (by simp [stepG, stepG.exec, mk])
theorem st_cond {c : Operand} {a b : Code} {v : Bool} (h : evA t c = .bool v) : step P (lone (mk f t (.code (.cond c a b) :: k) d r) cs w) = .next (lone (mk f t (.code (if v then a else b) :: k) d r) cs w) :=
  step_lone_go (by
    have he := congrFun (mk_eval (f := f) (t := t) (k := .code (.cond c a b) :: k) (d := d) (r := r)) c
    simp only [mk] at he
    simp [stepG, stepG.exec, mk, he, h])
theorem st_block {l : Nat} {b : Code} : step P (lone (mk f t (.code (.block l b) :: k) d r) cs w) = .next (lone (mk f t (.code b :: .inBlock l :: k) d r) cs w) := step_lone_go (by simp [stepG, stepG.exec, mk])
theorem st_loop {b : Code} : step P (lone (mk f t (.code (.loop b) :: k) d r) cs w) = .next (lone (mk f t (.code b :: .inLoop b :: k) d r) cs w) := step_lone_go (by simp [stepG, stepG.exec, mk])
theorem st_inLoop {b : Code} : step P (lone (mk f t (.inLoop b :: k) d r) cs w) = .next (lone (mk f t (.code b :: .inLoop b :: k) d r) cs w) := step_lone_go (by simp [stepG, stepG.exec, mk])
theorem st_scope {b : Code} : step P (lone (mk f t (.code (.scope b) :: k) d r) cs w) = .next (lone (mk f t (.code b :: .inScope b :: k) d r) cs w) := step_lone_go (by simp [stepG, stepG.exec, mk])
theorem st_exit {l : Nat} {k' : List Item} (h : exitTo l k = some k') : step P (lone (mk f t (.code (.exit l) :: k) d r) cs w) = .next (lone (mk f t k' d r) cs w) := step_lone_go (by simp [stepG, stepG.exec, mk, h])
theorem st_goto {l : Nat} {k' : List Item} (h : gotoIn l k = some k') : step P (lone (mk f t (.code (.goto l) :: k) d r) cs w) = .next (lone (mk f t k' d r) cs w) := step_lone_go (by simp [stepG, stepG.exec, mk, h])
theorem st_region {id : Nat} {ops : Array Oper} : step P (lone (mk f t (.code (.region id ops false) :: k) d r) cs w) = .next (lone (mk f t (.inRegion ops (List.range ops.size) :: k) d r) cs w) := step_lone_go (by simp [stepG, stepG.exec, mk])
theorem st_draw {id : Nat} {ops : Array Oper} (hm : P.follows .mixedOrders = true) : step P (lone (mk f t (.code (.region id ops true) :: k) d r) cs w) =
    .next (lone (mk f t (.inRegion ops (Region.linearise .any ops (w.tape w.drawn (.order f id))) :: k) d r) cs (drew1 w)) :=
  step_lone_go (by simp [stepG, stepG.exec, mk, choose, Sem.run, Question.forced, Question.cut, hm, Region.schedule, drew1])
theorem st_rend {ops : Array Oper} : step P (lone (mk f t (.inRegion ops [] :: k) d r) cs w) = .next (lone (mk f t k d r) cs w) := step_lone_go (by simp [stepG, stepG.exec, mk])
def putC (t : Array Value) (dst : Option Tmp) (v : Value) : Array Value := match dst with | some x => t.setIfInBounds x v | none => t
theorem mk_finish {ops : Array Oper} {i : Nat} {rest : List Nat} {o : Oper} {v : Value} (ho : ops[i]? = some o) : (mk f t (.inRegion ops (i :: rest) :: k) d r).finish v = mk f (putC t o.dst v) (.inRegion ops rest :: k) d r := by
  simp only [Frame.finish, mk, ho, Option.bind_some, putC]
  cases o.dst <;> rfl
theorem st_unwanted {ops : Array Oper} {i : Nat} {rest : List Nat} {o : Oper} (ho : ops[i]? = some o) (hw : Region.wanted o (yielded ops t) = false) :
    step P (lone (mk f t (.inRegion ops (i :: rest) :: k) d r) cs w) = .next (lone (mk f (putC t o.dst undef) (.inRegion ops rest :: k) d r) cs w) := by
  rw [← mk_finish ho]
  exact step_lone_go (by simp [stepG, stepG.exec, mk, ho, hw])
def isDefer : Op → Bool
  | .defer _ => true
  | _ => false
theorem stG_op {ops : Array Oper} {i : Nat} {rest : List Nat} {o : Oper} (ho : ops[i]? = some o) (hw : Region.wanted o (yielded ops t) = true) (hd : isDefer o.op = false) :
    stepG P true { frame := mk f t (.inRegion ops (i :: rest) :: k) d r, callers := cs, status := .running, dying := none } w =
      stepG.apply P true (mk f t (.inRegion ops (i :: rest) :: k) d r) cs none (execOp (evA t) o) w := by
  have he := mk_eval (f := f) (t := t) (k := .inRegion ops (i :: rest) :: k) (d := d) (r := r)
  simp only [mk] at he
  obtain ⟨dst, op, ty, pos, after, guard⟩ := o
  cases r with
  | none => simp [stepG, stepG.exec, stepG.oper, Frame.oper?, mk, ho, hw, he]
  | some l => cases op <;> first | (cases hd; done) | simp [stepG, stepG.exec, stepG.oper, Frame.oper?, mk, ho, hw, he]
/-- what an operation says is done -/
theorem ap_value {fr : Frame} {S : Sem Next} {v : Value} {w' : World} (h : S.run P w = .ok (.value v) w') : (stepG.apply P true fr cs none S w).bare = .go { frame := fr.finish v, callers := cs, status := .running, dying := none } w' := by
  simp [stepG.apply, h]
theorem ap_skip {fr : Frame} {S : Sem Next} {w' : World} (h : S.run P w = .ok .skip w') : (stepG.apply P true fr cs none S w).bare = .go { frame := fr.finish undef, callers := cs, status := .running, dying := none } w' := by
  simp [stepG.apply, h]
theorem ap_enter {fr : Frame} {S : Sem Next} {g : FuncId} {a : Array Value} {w' : World} (h : S.run P w = .ok (.enter g a) w') (hk : ∀ x b c y z, fr.todo ≠ .call x b c y :: z) : (stepG.apply P true fr cs none S w).bare = .go { frame := Frame.enter P g a .normal, callers := fr :: cs, status := .running, dying := none } w' := by
  cases htd : fr.todo with
  | nil => simp [stepG.apply, h, htd]
  | cons it td => cases it <;> first | (exact absurd htd (hk _ _ _ _ _)) | simp [stepG.apply, h, htd]
theorem ap_round {fr : Frame} {S : Sem Next} {l g : Nat} {a : Array Value} {c b : Code} {w' : World} (h : S.run P w = .ok (.round l g a c b) w') : (stepG.apply P true fr cs none S w).bare = .go { frame := Frame.round l g a c b .normal, callers := fr :: cs, status := .running, dying := none } w' := by
  simp [stepG.apply, h]
theorem enter_mk {g : FuncId} {gf : Func} {c : Code} {a : Array Value} (h : P.funcs[g]? = some gf) (hb : gf.body = some c) : Frame.enter P g a .normal = mk g (a ++ Array.replicate (gf.ntmps - a.size) undef) [.code c] [] none := by
  simp [Frame.enter, mk, h, hb]
theorem round_mk {l g : Nat} {a : Array Value} {c b : Code} : Frame.round l g a c b .normal = mk g a [.code c, .beginRound, .code b] [] (some l) := rfl
/-! the end of a frame -/
theorem st_leaveR {l : Nat} {c : Frame} {td : List Item} {jump : Option Code} {v : Value} {w' : World} (htd : (td = [] ∧ jump = none) ∨ (∃ k, td = .code .ret :: k ∧ jump = some .ret) ∨ (∃ x k, td = .code (.exit x) :: k ∧ exitTo x k = none ∧ jump = some (.exit x)) ∨ (∃ x k, td = .code (.goto x) :: k ∧ gotoIn x k = none ∧ jump = some (.goto x)))
    (h : (Instr.endRound l jump).run P w = .ok v w') : step P (lone (mk f t td d (some l)) (c :: cs) w) = .next (lone (c.finish v) cs w') := by
  rcases htd with ⟨e1, e2⟩ | ⟨k, e1, e2⟩ | ⟨x, k, e1, e3, e2⟩ | ⟨x, k, e1, e3, e2⟩ <;> subst e1 e2
  · exact step_lone_go (by simp [stepG, stepG.exec, mk, h, doReturn])
  · exact step_lone_go (by simp [stepG, stepG.exec, mk, h, doReturn])
  · exact step_lone_go (by simp [stepG, stepG.exec, mk, h, doReturn, e3])
  · exact step_lone_go (by simp [stepG, stepG.exec, mk, h, doReturn, e3])
def gone (f : FuncId) (t : Array Value) (td : List Item) (d : List Deferred) : Frame := { fn := f, tmps := t, todo := td, defers := d, mode := .returning, kind := .normal, roundOf := none }
theorem st_leave {td : List Item} (htd : td = [] ∨ ∃ k, td = .code .ret :: k) : step P (lone (mk f t td d none) cs w) = .next (lone (gone f t td d) cs w) := by
  rcases htd with e | ⟨k, e⟩ <;> subst e
  · exact step_lone_go (by simp [stepG, stepG.exec, mk, gone])
  · exact step_lone_go (by simp [stepG, stepG.exec, mk, gone])
theorem st_take {td : List Item} {b : Nat} {as : Array Value} {w' : World} (h : (Instr.takeDeferred b).run P w = .ok [] w') : step P (lone (gone f t td ({ target := .collected b, args := as } :: d)) cs w) = .next (lone (gone f t td d) cs w') :=
  step_lone_go (by simp [stepG, unwind, gone, h])
theorem st_return {td : List Item} {c : Frame} {g : Func} {v : Value} (hf : P.funcs[f]? = some g) (h : (results g t).run P w = .ok v w) : step P (lone (gone f t td []) (c :: cs) w) = .next (lone (c.finish v) cs w) :=
  step_lone_go (by simp [stepG, unwind, gone, hf, h, doReturn])
/-! a range over a function -/
theorem st_range {fo : Operand} {ps : Array Tmp} {a b : Code} {l : Nat} {mark : List Deferred} {w1 w2 : World} {g : FuncId} {as : Array Value} (h1 : (Instr.enterLoop f t ps a b r).run P w = .ok (l, mark) w1)
    (h2 : (do let d ← resolve (evA t) { callee := .value fo, args := #[.const (.func (.yield l) #[] #[])], argTypes := #[] } 0; invoke d.target d.args : Sem Next).run P w1 = .ok (.enter g as) w2) :
    step P (lone (mk f t (.code (.rangeFunc fo ps a b) :: k) d r) cs w) = .next (lone (Frame.enter P g as .normal) (mk f t (.inRangeFunc l :: k) (mark ++ d) r :: cs) w2) := by
  have he := mk_eval (f := f) (t := t) (k := .inRangeFunc l :: k) (d := mark ++ d) (r := r)
  refine step_lone_go ?_
  have key := ap_enter (P := P) (cs := cs) (fr := mk f t (.inRangeFunc l :: k) (mark ++ d) r) h2 (by intro x b c y z e; simp [mk] at e)
  rw [← he] at key
  simp only [stepG, stepG.exec, mk, Sem.runT_eq, h1, GStep.bare_after] at key ⊢
  exact key
theorem fin_range {l : Nat} {v : Value} : (mk f t (.inRangeFunc l :: k) d r).finish v = mk f t (.endRangeFunc l :: k) d r := rfl
theorem st_endRange {l : Nat} {jump : Option Code} {w' : World} (h : (Instr.endLoop l).run P w = .ok jump w') : step P (lone (mk f t (.endRangeFunc l :: k) d r) cs w) = .next (lone (mk f t ((jump.map Item.code).toList ++ k) d r) cs w') :=
  step_lone_go (by simp [stepG, stepG.exec, mk, h])
theorem st_begin {l : Nat} {w' : World} (h : (Instr.beginRound l).run P w = .ok () w') : step P (lone (mk f t (.beginRound :: k) d (some l)) cs w) = .next (lone (mk f t k d (some l)) cs w') :=
  step_lone_go (by simp [stepG, stepG.exec, mk, stepG.apply, h, Frame.finish])
end
end Go.Ev
end

/- An evaluator for closed runs: frames of the evaluator, and of the machine. -/
section
set_option linter.unusedSimpArgs false
set_option linter.unusedVariables false
set_option linter.unusedSectionVars false
namespace Go.Ev
variable [Inhabited Env]
def TmR (s : Sg) (n : Nat) (tm : Tm) (arr : Array Value) : Prop := arr.size = n ∧ ∀ t, V s (look tm t) (arr.getD t undef)
def I1 (s : Sg) : Item → Item → Prop
  | .endRangeFunc l, i' => ∃ x, s l = some x ∧ i' = .endRangeFunc x.1
  | .code c, i' => i' = .code c
  | .inBlock b, i' => i' = .inBlock b
  | .inLoop b, i' => i' = .inLoop b
  | .inScope b, i' => i' = .inScope b
  | .inRegion a b, i' => i' = .inRegion a b
  | .beginRound, i' => i' = .beginRound
  | _, _ => False
def IL (s : Sg) : List Item → List Item → Prop
  | [], l' => l' = []
  | i :: r, l' => ∃ i' r', I1 s i i' ∧ IL s r r' ∧ l' = i' :: r'
def D1 (s : Sg) (d d' : Deferred) : Prop := ∃ r x, d.target = .collected r ∧ s r = some x ∧ d' = { target := .collected x.1, args := #[] }
def DL (s : Sg) : List Deferred → List Deferred → Prop
  | [], l' => l' = []
  | d :: r, l' => ∃ d' r', D1 s d d' ∧ DL s r r' ∧ l' = d' :: r'
def RR (s : Sg) : Option Nat → Option Nat → Prop
  | none, r' => r' = none
  | some l, r' => ∃ x, s l = some x ∧ r' = some x.1
section
variable {s t : Sg}
theorem TmR.mono (h : s.le t) {n : Nat} {tm : Tm} {arr : Array Value} (k : TmR s n tm arr) : TmR t n tm arr := ⟨k.1, fun i => (k.2 i).mono h⟩
theorem I1.mono (h : s.le t) {i i' : Item} (k : I1 s i i') : I1 t i i' := by
  cases i <;> first | exact k | exact k.elim | (obtain ⟨x, e1, e2⟩ := k; exact ⟨x, h _ _ e1, e2⟩)
theorem IL.mono (h : s.le t) : ∀ {l l' : List Item}, IL s l l' → IL t l l'
  | [], _, k => k
  | i :: r, l', k => by obtain ⟨i', r', h1, h2, e⟩ := k; exact ⟨i', r', h1.mono h, IL.mono h h2, e⟩
theorem DL.mono (h : s.le t) : ∀ {l l' : List Deferred}, DL s l l' → DL t l l'
  | [], _, k => k
  | i :: r, l', k => by obtain ⟨i', r', ⟨q, x, e1, e2, e3⟩, h2, e⟩ := k; exact ⟨i', r', ⟨q, x, e1, h _ _ e2, e3⟩, DL.mono h h2, e⟩
theorem RR.mono (h : s.le t) {r r' : Option Nat} (k : RR s r r') : RR t r r' := by
  cases r with
  | none => exact k
  | some l => obtain ⟨x, e1, e2⟩ := k; exact ⟨x, h _ _ e1, e2⟩
theorem TmR.op {n : Nat} {tm : Tm} {arr : Array Value} (k : TmR s n tm arr) {x : Operand} {v : Value} (h : opA tm x = some v) : V s v (evA arr x) := by
  cases x with
  | tmp i => cases h; exact k.2 i
  | const u =>
    cases hc : clo1 u with
    | true => simp only [opA, hc] at h; cases h; exact clo1_self hc
    | false => simp only [opA, hc] at h; cases h
  | global g => cases h
  | func f => cases h; exact V.func.2 ⟨.func f, [], [], rfl, rfl, rfl, rfl⟩
theorem TmR.put {n : Nat} {tm : Tm} {arr : Array Value} (k : TmR s n tm arr) {d : Option Tmp} {v v' : Value} (hd : okD d n = true) (hv : V s v v') : TmR s n (putA tm d v) (putC arr d v') := by
  cases d with
  | none => exact k
  | some d =>
    have hd : d < n := by simpa [okD, Nat.blt_eq] using hd
    refine ⟨by simp [putC, k.1], fun i => ?_⟩
    show V s (look ((d, v) :: tm) i) ((arr.setIfInBounds d v').getD i undef)
    unfold look
    by_cases hi : d = i
    · subst hi
      rw [Nat.beq_refl]
      have : (arr.setIfInBounds d v').getD d undef = v' := by simp [k.1, hd]
      rw [this]; exact hv
    · have hb : Nat.beq d i = false := by
        cases hb : Nat.beq d i with
        | false => rfl
        | true => exact absurd (Nat.eq_of_beq_eq_true hb) hi
      rw [hb]
      have : (arr.setIfInBounds d v').getD i undef = arr.getD i undef := by
        simp only [Array.getD_eq_getD_getElem?, Array.getElem?_setIfInBounds_ne hi]
      rw [this]; exact k.2 i
theorem V_bool {v : Value} {b : Bool} (h : V s v (.bool b)) : v = .bool b := by
  cases v with
  | bool c => cases h; rfl
  | pointer a => cases a with | none => cases h | some a => obtain ⟨x, _, e⟩ := h; cases e
  | slice a l c =>
    rw [V.slice] at h
    split at h
    · obtain ⟨_, a', c', e⟩ := h; cases e
    · cases a with | none => cases h | some a => obtain ⟨x, _, _, e⟩ := h; cases e
  | map a => cases a with | none => cases h | some a => obtain ⟨x, _, e⟩ := h; cases e
  | func fn a b => obtain ⟨fn', a', b', _, _, _, e⟩ := V.func.1 h; cases e
  | iface t u => obtain ⟨u', _, e⟩ := h; cases e
  | agg c => obtain ⟨l', _, e⟩ := V.agg.1 h; cases e
  | tuple c => obtain ⟨l', _, e⟩ := V.tuple.1 h; cases e
  | chan c => cases c with | none => exact False.elim h | some i => cases h
  | _ => cases h
def boolOf : Value → Option Bool
  | .bool c => some c
  | _ => none
theorem isB_eq {v v' : Value} {b : Bool} (h : V s v v') : isB v b = (boolOf v' == some b) := by
  cases hv : boolOf v' with
  | some c =>
    have e : v' = .bool c := by cases v' <;> first | (cases hv; rfl) | cases hv
    subst e
    rw [V_bool h]; cases c <;> cases b <;> rfl
  | none =>
    have : isB v b = false := by
      cases v <;> first | rfl | skip
      cases h
      cases hv
    rw [this]; rfl
/-- whether an operation is wanted -/
theorem TmR.wanted {n : Nat} {tm : Tm} {arr : Array Value} {ops : Array Oper} {o : Oper} (hv : ∀ j w d, o.guard = some (j, w) → dstOf (nthL ops.toList j) = some d → V s (look tm d) (arr.getD d undef)) : Region.wanted o (yielded ops arr) = wantedA ops.toList o.guard tm := by
  unfold Region.wanted wantedA
  cases hg : o.guard with
  | none => rfl
  | some jw =>
    obtain ⟨j, want⟩ := jw
    simp only []
    have hn : nthL ops.toList j = ops[j]? := by rw [nthL_eq]; simp
    unfold wantD
    cases hd : dstOf (nthL ops.toList j) with
    | none =>
      have : yielded ops arr j = none := by
        unfold yielded
        rw [hn] at hd
        unfold dstOf at hd
        cases ho : ops[j]? with
        | none => rfl
        | some o2 => rw [ho] at hd; simp only at hd; simp [hd]
      rw [this]; rfl
    | some d =>
      have hv := hv j want d hg hd
      have hy : yielded ops arr j = boolOf (arr.getD d undef) := by
        unfold yielded
        rw [hn] at hd
        unfold dstOf at hd
        cases ho : ops[j]? with
        | none => rw [ho] at hd; cases hd
        | some o2 =>
          rw [ho] at hd
          simp only at hd
          simp only [Option.bind_some, hd]
          rw [Array.getD_eq_getD_getElem?]
          cases ha : arr[d]? with
          | none => rfl
          | some u => cases u <;> rfl
      rw [hy, ← isB_eq hv]
theorem exitTo_R {id : Nat} : ∀ {k k' : List Item}, IL s k k' → (∀ k2, exitTo id k = some k2 → ∃ k2', exitTo id k' = some k2' ∧ IL s k2 k2') ∧ (exitTo id k = none → exitTo id k' = none)
  | [], k', h => by cases h; exact ⟨fun k2 e => (by cases e), fun _ => rfl⟩
  | i :: r, k', h => by
    obtain ⟨i', r', h1, h2, e⟩ := h
    subst e
    have ih := exitTo_R (id := id) h2
    cases i with
    | inBlock b =>
      cases h1
      simp only [exitTo]
      by_cases hb : (b == id) = true
      · simp only [hb, if_true]; exact ⟨fun k2 e => (by cases e; exact ⟨r', rfl, h2⟩), fun e => (by cases e)⟩
      · simp only [hb, if_false]; exact ih
    | endRangeFunc l => obtain ⟨x, _, e⟩ := h1; subst e; exact ih
    | _ => first | exact h1.elim | (cases h1; exact ih)
theorem gotoIn_R {id : Nat} : ∀ {k k' : List Item}, IL s k k' → (∀ k2, gotoIn id k = some k2 → ∃ k2', gotoIn id k' = some k2' ∧ IL s k2 k2') ∧ (gotoIn id k = none → gotoIn id k' = none)
  | [], k', h => by cases h; exact ⟨fun k2 e => (by cases e), fun _ => rfl⟩
  | i :: r, k', h => by
    obtain ⟨i', r', h1, h2, e⟩ := h
    subst e
    have ih := gotoIn_R (id := id) h2
    cases i with
    | inScope b =>
      cases h1
      simp only [gotoIn]
      cases hf : findLabel b id with
      | none => simp only []; exact ih
      | some rest => simp only []; exact ⟨fun k2 e => (by cases e; exact ⟨_, rfl, _, _, rfl, ⟨_, _, rfl, h2, rfl⟩, rfl⟩), fun e => (by cases e)⟩
    | endRangeFunc l => obtain ⟨x, _, e⟩ := h1; subst e; exact ih
    | _ => first | exact h1.elim | (cases h1; exact ih)
end
/-- the frame comes to its end -/
def Ends (P : Program) (fn : FuncId) (rnd : Option Nat) (cs : List Frame) (m : Machine) (v : Value) (w : World) : Prop := match rnd with
  | none => ∃ t td g, P.funcs[fn]? = some g ∧ (results g t).run P w = .ok v w ∧ Steps P m (lone (gone fn t td []) cs w)
  | some _ => ∀ c cs', cs = c :: cs' → Steps P m (lone (c.finish v) cs' w)
section
variable {P : Program}
theorem Ends.head {fn : FuncId} {rnd : Option Nat} {cs : List Frame} {m m1 : Machine} {v : Value} {w : World} (h : step P m = .next m1) (k : Ends P fn rnd cs m1 v w) : Ends P fn rnd cs m v w := by
  cases rnd with
  | none => obtain ⟨t, td, g, h1, h2, h3⟩ := k; exact ⟨t, td, g, h1, h2, .head h h3⟩
  | some l => exact fun c cs' e => .head h (k c cs' e)
theorem Ends.steps {fn : FuncId} {rnd : Option Nat} {cs : List Frame} {m m1 : Machine} {v : Value} {w : World} (h : Steps P m m1) (k : Ends P fn rnd cs m1 v w) : Ends P fn rnd cs m v w := by
  cases rnd with
  | none => obtain ⟨t, td, g, h1, h2, h3⟩ := k; exact ⟨t, td, g, h1, h2, h.trans h3⟩
  | some l => exact fun c cs' e => h.trans (k c cs' e)
theorem Ends.call {fn : FuncId} {rnd : Option Nat} {c : Frame} {cs : List Frame} {m : Machine} {v : Value} {w : World} (k : Ends P fn rnd (c :: cs) m v w) : Steps P m (lone (c.finish v) cs w) := by
  cases rnd with
  | none => obtain ⟨t, td, g, h1, h2, h3⟩ := k; exact h3.trans (.one (st_return h1 h2))
  | some l => exact k c cs rfl
/-- What the evaluator says of a frame, the machine does. -/
def Snd (P : Program) (rec : Rec) : Prop := ∀ fn rnd n tm todo ds H v H', rec fn rnd n tm todo ds H = some (v, H') → ∀ s w arr k' d' r', R P s H w → TmR s n tm arr → IL s todo k' → DL s ds d' → RR s rnd r' →
  ∀ cs, ∃ s' v' w', Ends P fn r' cs (lone (mk fn arr k' d' r') cs w) v' w' ∧ V s' v v' ∧ Post P s H w s' H' w'
/-- what is known of calls holds -/
def OrcS (P : Program) (orc : Orc) : Prop := ∀ f args H v H', orc f args H = some (v, H') → ∀ s w a', R P s H w → VL s args a' → ∀ c cs, ∃ s' v' w', Steps P (lone (Frame.enter P f ⟨a'⟩ .normal) (c :: cs) w) (lone (c.finish v') cs w') ∧ V s' v v' ∧ Post P s H w s' H' w'
/-- behind a step that turned the heap -/
theorem Snd.behind {rec : Rec} (hS : Snd P rec) {fn : FuncId} {rnd : Option Nat} {n : Nat} {tm : Tm} {todo : List Item} {ds : List Deferred} {H H1 : Hp} {v : Value} {H' : Hp} (he : rec fn rnd n tm todo ds H1 = some (v, H'))
    {s s1 : Sg} {w w1 : World} {arr : Array Value} {k' : List Item} {d' : List Deferred} {r' : Option Nat} (hR : R P s H w) (hP : Post P s H w s1 H1 w1) (ht : TmR s1 n tm arr) (hk : IL s1 todo k') (hd : DL s1 ds d') (hr : RR s1 rnd r') {cs : List Frame} {m : Machine}
    (hs : Steps P m (lone (mk fn arr k' d' r') cs w1)) : ∃ s' v' w', Ends P fn r' cs m v' w' ∧ V s' v v' ∧ Post P s H w s' H' w' := by
  obtain ⟨s', v', w', h1, h2, h3⟩ := hS fn rnd n tm todo ds H1 v H' he s1 w1 arr k' d' r' hP.rel ht hk hd hr cs
  exact ⟨s', v', w', h1.steps hs, h2, hP.trans h3 hR⟩
end
end Go.Ev
end

/- An evaluator for closed runs: one operation of a frame; frames without drawn regions. -/
section
set_option linter.unusedSimpArgs false
set_option linter.unusedVariables false
set_option linter.unusedSectionVars false
namespace Go.Ev
variable [Inhabited Env]
section
variable {P : Program} {s : Sg} {H : Hp} {w : World}
theorem look_args : ∀ (l : List Value) (i t : Nat), look (ofArgs l i) t = if t < i then undef else (l[t - i]?).getD undef
  | [], i, t => by simp [ofArgs, look]
  | v :: r, i, t => by
    unfold ofArgs look
    by_cases h : i = t
    · subst h; rw [Nat.beq_refl]; simp
    · have hb : Nat.beq i t = false := by
        cases hb : Nat.beq i t with
        | false => rfl
        | true => exact absurd (Nat.eq_of_beq_eq_true hb) h
      rw [hb]
      simp only []
      rw [look_args r (i + 1) t]
      by_cases h1 : t < i
      · rw [if_pos h1, if_pos (by omega)]
      · rw [if_neg h1, if_neg (by omega)]
        have : t - i = (t - (i + 1)) + 1 := by omega
        rw [this, List.getElem?_cons_succ]
theorem TmR_args {l l' : List Value} {n : Nat} (h : VL s l l') (hn : l.length ≤ n) : TmR s n (ofArgs l 0) ((⟨l'⟩ : Array Value) ++ Array.replicate (n - (⟨l'⟩ : Array Value).size) undef) := by
  have hl := h.len
  refine ⟨by simp; omega, fun t => ?_⟩
  rw [look_args, if_neg (by omega), Nat.sub_zero, Array.getD_eq_getD_getElem?]
  by_cases ht : t < l.length
  · obtain ⟨v', e1, e2⟩ := h.get t (List.getElem?_eq_getElem ht)
    have : ((⟨l'⟩ : Array Value) ++ Array.replicate (n - (⟨l'⟩ : Array Value).size) undef)[t]? = some v' := by
      rw [Array.getElem?_append_left (by simp; omega)]
      simpa using e1
    rw [this, List.getElem?_eq_getElem ht]
    exact e2
  · rw [List.getElem?_eq_none (by omega)]
    have : (((⟨l'⟩ : Array Value) ++ Array.replicate (n - (⟨l'⟩ : Array Value).size) undef)[t]?).getD undef = undef := by
      rw [Array.getElem?_append_right (by simp; omega)]
      rw [Array.getElem?_replicate]
      split <;> rfl
    rw [this]
    exact V.undef.2 rfl
theorem TmR_all {l l' : List Value} (h : VL s l l') : TmR s l.length (ofArgs l 0) ⟨l'⟩ := by
  have hl := h.len
  refine ⟨by simpa using hl, fun t => ?_⟩
  rw [look_args, if_neg (by omega), Nat.sub_zero, Array.getD_eq_getD_getElem?]
  by_cases ht : t < l.length
  · obtain ⟨v', e1, e2⟩ := h.get t (List.getElem?_eq_getElem ht)
    rw [List.getElem?_eq_getElem ht]
    have : (⟨l'⟩ : Array Value)[t]? = some v' := by simpa using e1
    rw [this]; exact e2
  · rw [List.getElem?_eq_none (by omega)]
    have : (⟨l'⟩ : Array Value)[t]? = none := by simp; omega
    rw [this]; exact V.undef.2 rfl
theorem not_defer {tm : Tm} {ty : TypeId} {o : Op} {r : Next × Hp} (h : execF P tm ty o H = some r) : isDefer o = false := by
  cases o <;> first | rfl | (simp only [execF] at h; cases h)
theorem enterG_run {orc : Orc} {rec : Rec} (hO : OrcS P orc) (hS : Snd P rec) (hR : R P s H w) {f : FuncId} {args : Array Value} {v : Value} {H' : Hp} (he : enterG orc rec f (nthL P.funcs.toList f) args H = some (v, H')) {a' : List Value} (ha : VL s args.toList a') (c : Frame) (cs : List Frame) :
    ∃ s' v' w', Steps P (lone (Frame.enter P f ⟨a'⟩ .normal) (c :: cs) w) (lone (c.finish v') cs w') ∧ V s' v v' ∧ Post P s H w s' H' w' := by
  unfold enterG at he
  split at he
  · rename_i r hr
    cases he
    exact hO f args.toList H v H' hr s w a' hR ha c cs
  unfold enterN at he
  split at he
  · rename_i g hg
    unfold enterB at he
    split at he
    · rename_i cd hc
      split at he
      · rename_i hb
        have hb := Nat.le_of_ble_eq_true hb
        have hg2 : P.funcs[f]? = some g := by rw [nthL_eq] at hg; simpa using hg
        rw [enter_mk hg2 hc]
        obtain ⟨s', v', w', h1, h2, h3⟩ := hS _ _ _ _ _ _ _ _ _ he s w _ [.code cd] [] none hR (TmR_args ha hb) ⟨_, [], rfl, rfl, rfl⟩ rfl rfl (c :: cs)
        exact ⟨s', v', w', h1.call, h2, h3⟩
      · cases he
    · cases he
  · cases he
/-- **One operation.** -/
theorem op_run {orc : Orc} {rec : Rec} (hO : OrcS P orc) (hS : Snd P rec) (hR : R P s H w) {tm : Tm} {o : Oper} {v : Value} {H1 : Hp} (he : sub P orc rec (execF P tm o.type o.op H) = some (v, H1)) {arr : Array Value} (hρ : ∀ x ∈ o.op.operands, ∀ v, opA tm x = some v → V s v (evA arr x))
    {f : FuncId} {ops : Array Oper} {i : Nat} {rest : List Nat} {k : List Item} {d : List Deferred} {r : Option Nat} (ho : ops[i]? = some o) (hw : Region.wanted o (yielded ops arr) = true) (cs : List Frame) :
    ∃ s1 v' w1, Steps P (lone (mk f arr (.inRegion ops (i :: rest) :: k) d r) cs w) (lone (mk f (putC arr o.dst v') (.inRegion ops rest :: k) d r) cs w1) ∧ V s1 v v' ∧ Post P s H w s1 H1 w1 := by
  unfold sub at he
  split at he
  · rename_i u H2 hx
    cases he
    have hd := not_defer hx
    obtain ⟨s1, n', w1, h1, ⟨v', h2, e⟩, h3⟩ := exec_sound hR hx hρ
    subst e
    refine ⟨s1, v', w1, .one ?_, h2, h3⟩
    rw [← mk_finish ho]
    exact step_lone_go (by rw [stG_op ho hw hd]; exact ap_value h1)
  · rename_i H2 hx
    cases he
    have hd := not_defer hx
    obtain ⟨s1, n', w1, h1, e, h3⟩ := exec_sound hR hx hρ
    cases e
    refine ⟨s1, undef, w1, .one ?_, V.undef.2 rfl, h3⟩
    rw [← mk_finish ho]
    exact step_lone_go (by rw [stG_op ho hw hd]; exact ap_skip h1)
  · rename_i g args H2 hx
    have hd := not_defer hx
    obtain ⟨s1, n', w1, h1, ⟨a', h2, e⟩, h3⟩ := exec_sound hR hx hρ
    subst e
    obtain ⟨s2, v', w2, k1, k2, k3⟩ := enterG_run hO hS h3.rel he h2 (mk f arr (.inRegion ops (i :: rest) :: k) d r) cs
    rw [mk_finish ho] at k1
    refine ⟨s2, v', w2, .head ?_ k1, k2, h3.trans k3 hR⟩
    exact step_lone_go (by rw [stG_op ho hw hd]; exact ap_enter h1 (by intro x b c y z e; simp [mk] at e))
  · rename_i l g tms a b H2 hx
    have hd := not_defer hx
    obtain ⟨s1, n', w1, h1, ⟨x, t', h2, h4, e⟩, h3⟩ := exec_sound hR hx hρ
    subst e
    obtain ⟨s2, v', w2, k1, k2, k3⟩ := hS _ _ _ _ _ _ _ _ _ he s1 w1 ⟨t'⟩ [.code a, .beginRound, .code b] [] (some x.1) h3.rel (TmR_all h4) ⟨_, _, rfl, ⟨_, _, rfl, ⟨_, [], rfl, rfl, rfl⟩, rfl⟩, rfl⟩ rfl ⟨x, h2, rfl⟩ (mk f arr (.inRegion ops (i :: rest) :: k) d r :: cs)
    have k4 := k1.call
    rw [mk_finish ho] at k4
    refine ⟨s2, v', w2, .head ?_ k4, k2, h3.trans k3 hR⟩
    rw [← round_mk]
    exact step_lone_go (by rw [stG_op ho hw hd]; exact ap_round h1)
  · cases he
theorem upL_eq : ∀ (n i : Nat), upL n i = (List.range' i n)
  | 0, i => rfl
  | n + 1, i => by simp [upL, upL_eq n (i + 1), List.range'_succ]
theorem upL_range (n : Nat) : upL n 0 = List.range n := by rw [upL_eq, List.range_eq_range']
def resS (arr : Array Value) : ResultVar → Sem Value
  | .tmp t => pure (arr.getD t undef)
  | .cell a t => do loadVar t (← asAddr (arr.getD a undef))
theorem results_eq (g : Func) (arr : Array Value) : results g arr = (do let vs ← g.results.mapM (resS arr); pure (if h : vs.size = 1 then vs[0] else .tuple vs)) := by
  unfold results
  congr 1
theorem retV_run (hR : R P s H w) {n : Nat} {tm : Tm} {arr : Array Value} (ht : TmR s n tm arr) {x : ResultVar} {v : Value} (h : retV P tm H x = some v) :
    ∃ v', V s v v' ∧ (resS arr x).run P w = .ok v' w := by
  cases x with
  | tmp t => cases h; exact ⟨_, ht.2 t, rfl⟩
  | cell a t =>
    simp only [retV] at h
    obtain ⟨v', h1, h2⟩ := run_loadF hR h (ht.2 a)
    refine ⟨v', h1, ?_⟩
    have : ∃ ad, arr.getD a undef = .pointer (some ad) := by
      have h3 := ht.2 a
      unfold loadF at h
      split at h
      · rename_i b off hl
        rw [hl] at h3
        obtain ⟨x, _, e⟩ := V.ptr.1 h3
        exact ⟨_, e⟩
      · cases h
    obtain ⟨ad, e⟩ := this
    rw [e] at h2
    show (do loadVar t (← asAddr (arr.getD a undef)) : Sem Value).run P w = _
    rw [e]
    exact h2
theorem retL_run (hR : R P s H w) {n : Nat} {tm : Tm} {arr : Array Value} (ht : TmR s n tm arr) : ∀ {xs : List ResultVar} {l : List Value}, retL P tm H xs = some l →
    ∃ l', VL s l l' ∧ (xs.mapM (resS arr) : Sem (List Value)).run P w = .ok l' w
  | [], l, h => by cases h; exact ⟨[], rfl, rfl⟩
  | x :: r, l, h => by
    unfold retL at h
    split at h
    · rename_i v hv
      split at h
      · rename_i l2 hl
        cases h
        obtain ⟨v', h1, h2⟩ := retV_run hR ht hv
        obtain ⟨l', h3, h4⟩ := retL_run hR ht hl
        refine ⟨v' :: l', ⟨v', l', h1, h3, rfl⟩, ?_⟩
        rw [List.mapM_cons]
        simp only [Sem.run_bind, h2, Result.andThen_ok, h4, Sem.run_pure]
      · cases h
    · cases h
theorem results_run (hR : R P s H w) {n : Nat} {tm : Tm} {arr : Array Value} (ht : TmR s n tm arr) {g : Func} {v : Value} {H' : Hp} (h : retO (retL P tm H g.results.toList) H = some (v, H')) : H' = H ∧ ∃ v', V s v v' ∧ (results g arr).run P w = .ok v' w := by
  unfold retO at h
  split at h
  · rename_i u hl
    cases h
    obtain ⟨l', h1, h2⟩ := retL_run hR ht hl
    obtain ⟨v', r', h3, h4, e⟩ := h1
    cases h4
    subst e
    refine ⟨rfl, v', h3, ?_⟩
    rw [results_eq, Array.mapM_eq_mapM_toList]
    simp only [Sem.run_bind, Sem.run_map, h2, Result.andThen_ok]
    rfl
  · rename_i l hne hl
    cases h
    obtain ⟨l', h1, h2⟩ := retL_run hR ht hl
    refine ⟨rfl, .tuple ⟨l'⟩, V.tuple.2 ⟨l', h1, rfl⟩, ?_⟩
    rw [results_eq, Array.mapM_eq_mapM_toList]
    simp only [Sem.run_bind, Sem.run_map, h2, Result.andThen_ok]
    have hlen : ¬ l'.toArray.size = 1 := by
      intro h3
      have h4 : l.length = 1 := by rw [← h1.len]; simpa using h3
      match l, h4 with
      | [x], _ => exact hne x rfl
    rw [Sem.run_pure, dif_neg hlen]
  · cases h
end
end Go.Ev
end

/- An evaluator for closed runs: every step of a frame. -/
section
set_option linter.unusedSimpArgs false
set_option linter.unusedVariables false
set_option linter.unusedSectionVars false
namespace Go.Ev
variable [Inhabited Env]
/-- what is asked of a drawn region -/
def SndD (P : Program) (orc : Orc) (rec : Rec) : Prop := ∀ (ops : Array Oper) n tm H tm' H', drawn P orc rec ops.toList n tm H = some (tm', H') → ∀ s w arr, R P s H w → TmR s n tm arr → ∀ (t : Nat) f k d r cs,
  ∃ s1 arr1 w1, Steps P (lone (mk f arr (.inRegion ops (Region.linearise .any ops t) :: k) d r) cs w) (lone (mk f arr1 (.inRegion ops [] :: k) d r) cs w1) ∧ TmR s1 n tm' arr1 ∧ Post P s H w s1 H' w1
section
variable {P : Program} {s : Sg} {H : Hp} {w : World}
theorem live_loop {l : Loop} : Live (.loop l) := fun z e => by cases e
theorem live_def {d : Option (List Deferred)} : Live (.deferred d) := fun z e => by cases e
theorem R.loop (h : R P s H w) {l : Nat} {x : Nat × Nat} {lp : Loop} {u : Bool} (hg : H.get l = some (.loop lp, u)) (hs : s l = some x) : ∃ t' y, VL s lp.tmps.toList t' ∧ s lp.defers = some y ∧ w.heap[x.1]? = some (.loop { lp with tmps := ⟨t'⟩, defers := y.1 }) := by
  obtain ⟨o', h1, t', y, h2, h3, h4⟩ := h.obj l _ u x hg live_loop hs
  subst h4
  exact ⟨t', y, h2, h3, h1⟩
theorem getLoop_run {l : Nat} {lp : Loop} (h : w.heap[l]? = some (.loop lp)) : (Instr.getLoop l).run P w = .ok lp w := by simp [Instr.getLoop, getObj, Sem.run, h]
theorem setLoop_run {l : Nat} {lp : Loop} {o : Obj} (h : w.heap[l]? = some (.loop lp)) : (setObj l o).run P w = .ok () { w with heap := w.heap.setIfInBounds l o } := by simp [setObj, Sem.run, h]
theorem endRd_run (h : R P s H w) {l : Nat} {x : Nat × Nat} {jump : Option Code} {v : Value} {H' : Hp} (he : endRd l jump H (H.get l) = some (v, H')) (hs : s l = some x) :
    ∃ w', (Instr.endRound x.1 jump).run P w = .ok v w' ∧ V s v v ∧ Post P s H w s H' w' := by
  unfold endRd at he
  split at he
  · rename_i lp u hg
    cases he
    obtain ⟨t', y, h1, h2, h3⟩ := h.loop hg hs
    have hp := h.set (o2 := .loop { lp with state := if jump.isNone then .ready else .done, pending := jump }) (u2 := u) hg live_loop hs ⟨t', y, h1, h2, rfl⟩
    refine ⟨_, ?_, rfl, hp⟩
    unfold Instr.endRound
    simp only [Sem.run_bind, getLoop_run h3, Result.andThen_ok, setLoop_run h3, Sem.run_pure]
  · cases he
theorem endR_run (h : R P s H w) {l : Nat} {x : Nat × Nat} {lp : Loop} {u : Bool} (hg : H.get l = some (.loop lp, u)) (hs : s l = some x) (hb : lp.state ≠ .busy) :
    ∃ w', (Instr.endLoop x.1).run P w = .ok lp.pending w' ∧ Post P s H w s (H.set l (.loop { lp with state := .exhausted }, u)) w' := by
  obtain ⟨t', y, h1, h2, h3⟩ := h.loop hg hs
  have hp := h.set (o2 := .loop { lp with state := .exhausted }) (u2 := u) hg live_loop hs ⟨t', y, h1, h2, rfl⟩
  refine ⟨_, ?_, hp⟩
  unfold Instr.endLoop
  have hb2 : (lp.state == LoopState.busy) = false := by cases hs : lp.state <;> first | rfl | exact absurd hs hb
  simp only [Sem.run_bind, getLoop_run h3, Result.andThen_ok, hb2, Bool.false_eq_true, if_false, Sem.run_pure, setLoop_run h3]
theorem beginR_run (h : R P s H w) {l : Nat} {x : Nat × Nat} {lp : Loop} {u : Bool} (hg : H.get l = some (.loop lp, u)) (hs : s l = some x) (hb : lp.state = .ready) :
    ∃ w', (Instr.beginRound x.1).run P w = .ok () w' ∧ Post P s H w s (H.set l (.loop { lp with state := .busy }, u)) w' := by
  obtain ⟨t', y, h1, h2, h3⟩ := h.loop hg hs
  have hp := h.set (o2 := .loop { lp with state := .busy }) (u2 := u) hg live_loop hs ⟨t', y, h1, h2, rfl⟩
  refine ⟨_, ?_, hp⟩
  unfold Instr.beginRound
  simp only [Sem.run_bind, getLoop_run h3, Result.andThen_ok, setLoop_run h3, hb, Sem.run_pure]
theorem take_run (h : R P s H w) {b : Nat} {x : Nat × Nat} {u : Bool} (hg : H.get b = some (.deferred (some []), u)) (hs : s b = some x) :
    ∃ w', (Instr.takeDeferred x.1).run P w = .ok [] w' ∧ Post P s H w s (H.set b (.deferred none, u)) w' := by
  obtain ⟨o', h1, _, h2⟩ := h.obj b _ u x hg live_def hs
  subst h2
  have hp := h.set (o2 := .deferred none) (o2' := .deferred none) (u2 := u) hg live_def hs ⟨.inr rfl, rfl⟩
  refine ⟨_, ?_, hp⟩
  unfold Instr.takeDeferred
  simp [getObj, setObj, Sem.run, h1]
theorem takeAll_run : ∀ {ds : List Deferred} {d' : List Deferred} {H : Hp} {w : World} {H1 : Hp}, R P s H w → takeAll ds H = some H1 → DL s ds d' → ∀ f t td cs, ∃ w1, Steps P (lone (gone f t td d') cs w) (lone (gone f t td []) cs w1) ∧ Post P s H w s H1 w1
  | [], d', H, w, H1, hR, he, hd, f, t, td, cs => by cases hd; cases he; exact ⟨w, .refl _ _, .refl hR⟩
  | d :: ds, d', H, w, H1, hR, he, hd, f, t, td, cs => by
    obtain ⟨dd, dr, ⟨q, x, e1, e2, e3⟩, h2, e⟩ := hd
    obtain ⟨tg, as⟩ := d
    simp only at e1
    subst e1 e3 e
    simp only [takeAll] at he
    split at he
    · rename_i H2 hto
      unfold takeO at hto
      split at hto
      · rename_i u hg
        cases hto
        obtain ⟨w1, h3, h4⟩ := take_run hR hg e2
        obtain ⟨w2, k1, k2⟩ := takeAll_run h4.rel he h2 f t td cs
        exact ⟨w2, .head (st_take h3) k1, h4.trans k2 hR⟩
      · cases hto
    · cases he
theorem allOf_V {n : Nat} {tm : Tm} {arr : Array Value} (ht : TmR s n tm arr) : VL s (allOf tm n 0) arr.toList := by
  have key : ∀ m i, i + m = n → VL s (allOf tm m i) (arr.toList.drop i) := by
    intro m
    induction m with
    | zero =>
      intro i hi
      have : arr.toList.drop i = [] := by rw [List.drop_eq_nil_iff, Array.length_toList, ht.1]; omega
      rw [this]; rfl
    | succ m ih =>
      intro i hi
      have hlt : i < arr.toList.length := by rw [Array.length_toList, ht.1]; omega
      rw [List.drop_eq_getElem_cons hlt]
      refine ⟨_, _, ?_, ih (i + 1) (by omega), rfl⟩
      have := ht.2 i
      have e : arr.getD i undef = arr.toList[i] := by
        have hi2 : i < arr.size := by rw [← Array.length_toList]; exact hlt
        simp [hi2]
      rw [e] at this
      exact this
  have := key n 0 (by omega)
  simpa using this
/-- a range over a function: from the loop's own block on -/
theorem range_run {orc : Orc} {rec : Rec} (hO : OrcS P orc) (hS : Snd P rec) {fn : FuncId} {rnd : Option Nat} {n : Nat} {tm : Tm} {fo : Operand} {l : Nat} {k : List Item} {ds : List Deferred} {H1 : Hp} {v : Value} {H' : Hp} (he : rangeG P orc rec fn rnd n tm (opA tm fo) l k ds H1 = some (v, H'))
    {s1 : Sg} {w1 : World} {arr : Array Value} {k' : List Item} {d' mark : List Deferred} {r' : Option Nat} {x : Nat × Nat} {ps : Array Tmp} {a b : Code} (hR : R P s H w) (hP : Post P s H w s1 H1 w1) (hs : s1 l = some x) (ht : TmR s1 n tm arr) (hk : IL s1 k k') (hd : DL s1 ds (mark ++ d')) (hr : RR s1 rnd r') {cs : List Frame}
    (h1 : (Instr.enterLoop fn arr ps a b r').run P w = .ok (x.1, mark) w1) :
    ∃ s' v' w', Ends P fn r' cs (lone (mk fn arr (.code (.rangeFunc fo ps a b) :: k') d' r') cs w) v' w' ∧ V s' v v' ∧ Post P s H w s' H' w' := by
  unfold rangeG rangeC at he
  split at he
  · rename_i u H3 hx
    cases hf : opA tm fo with
    | none => rw [hf] at hx; unfold fCallV at hx; simp only at hx; cases hx
    | some fv =>
      rw [hf] at hx
      split at hx
      · rename_i g args H2 hcv
        have hy : VL s1 [.func (.yield l) #[] #[]] [.func (.yield x.1) #[] #[]] := ⟨_, [], V.func.2 ⟨.yield x.1, [], [], ⟨x, hs, rfl⟩, rfl, rfl, rfl⟩, rfl, rfl⟩
        obtain ⟨s2, n', w2, k1, ⟨a', k2, e⟩, k3⟩ := fCallV_run hP.rel hcv (ht.op hf) hy
        subst e
        obtain ⟨s3, v3, w3, k4, k5, k6⟩ := enterG_run hO hS k3.rel hx k2 (mk fn arr (.inRangeFunc x.1 :: k') (mark ++ d') r') cs
        rw [fin_range] at k4
        have hres : resolve (evA arr) { callee := .value fo, args := #[.const (.func (.yield x.1) #[] #[])], argTypes := #[] } 0 = Deferred.ofValue (evA arr fo) ⟨[.func (.yield x.1) #[] #[]]⟩ := by
          unfold resolve
          simp [evA]
        rw [← hres] at k1
        have hP2 := (hP.trans k3 hR).trans k6 hR
        have hle : s1.le s3 := k3.le.trans k6.le
        exact hS.behind he hR hP2 (ht.mono hle) ⟨_, _, ⟨x, hle _ _ hs, rfl⟩, hk.mono hle, rfl⟩ (hd.mono hle) (hr.mono hle) (.head (st_range h1 k1) k4)
      · cases hx
  · cases he
theorem stepF_sound {orc : Orc} {rec : Rec} (hm : P.follows .mixedOrders = true) (hO : OrcS P orc) (hS : Snd P rec) (hD : SndD P orc rec) : Snd P (stepF P orc rec) := by
  intro fn rnd n tm todo ds H v H' he s w arr k' d' r' hR ht hk hd hr cs
  -- leaving a frame
  have hleave : ∀ (jump : Option Code) (k' : List Item), leave P fn rnd tm ds H jump = some (v, H') →
      ((k' = [] ∧ jump = none) ∨ (∃ k, k' = .code .ret :: k ∧ jump = some .ret) ∨ (rnd ≠ none ∧ ∃ x k, k' = .code (.exit x) :: k ∧ exitTo x k = none ∧ jump = some (.exit x)) ∨ (rnd ≠ none ∧ ∃ x k, k' = .code (.goto x) :: k ∧ gotoIn x k = none ∧ jump = some (.goto x))) →
      ∃ s' v' w', Ends P fn r' cs (lone (mk fn arr k' d' r') cs w) v' w' ∧ V s' v v' ∧ Post P s H w s' H' w' := by
    intro jump k' he htd
    unfold leave at he
    split at he
    · rename_i l
      obtain ⟨x, e1, e2⟩ := hr
      subst e2
      obtain ⟨w', h1, h2, h3⟩ := endRd_run hR he e1
      refine ⟨s, v, w', fun c cs' e => ?_, h2, h3⟩
      subst e
      refine .one (st_leaveR (jump := jump) ?_ h1)
      rcases htd with h | h | ⟨_, h⟩ | ⟨_, h⟩
      · exact .inl h
      · exact .inr (.inl h)
      · exact .inr (.inr (.inl h))
      · exact .inr (.inr (.inr h))
    · cases hr
      have htd2 : k' = [] ∨ ∃ k, k' = .code .ret :: k := by
        rcases htd with ⟨h, _⟩ | ⟨k, h, _⟩ | ⟨h, _⟩ | ⟨h, _⟩
        · exact .inl h
        · exact .inr ⟨k, h⟩
        · exact absurd rfl h
        · exact absurd rfl h
      unfold leaveH at he
      split at he
      · rename_i H1 hta
        obtain ⟨w1, k1, k2⟩ := takeAll_run hR hta hd fn arr k' cs
        unfold leaveL at he
        split at he
        · rename_i g hg
          have hg2 : P.funcs[fn]? = some g := by rw [nthL_eq] at hg; simpa using hg
          obtain ⟨e, v', h1, h2⟩ := results_run k2.rel ht he
          subst e
          exact ⟨s, v', w1, ⟨arr, k', g, hg2, h2, .head (st_leave htd2) k1⟩, h1, k2⟩
        · cases he
      · cases he
  have one : ∀ {todo2 : List Item} {k2 : List Item}, rec fn rnd n tm todo2 ds H = some (v, H') → IL s todo2 k2 → step P (lone (mk fn arr k' d' r') cs w) = .next (lone (mk fn arr k2 d' r') cs w) →
      ∃ s' v' w', Ends P fn r' cs (lone (mk fn arr k' d' r') cs w) v' w' ∧ V s' v v' ∧ Post P s H w s' H' w' := fun he2 hk2 hst => hS.behind he2 hR (.refl hR) ht hk2 hd hr (.one hst)
  unfold stepF at he
  split at he
  · cases hk; exact hleave none [] he (.inl ⟨rfl, rfl⟩)
  · rename_i it k
    obtain ⟨i', r2, h1, h2, e⟩ := hk
    subst e
    unfold stepI at he
    split at he
    · rename_i c
      cases h1
      unfold stepC at he
      split at he
      · exact hleave (some .ret) _ he (.inr (.inl ⟨r2, rfl, rfl⟩))
      · exact one he h2 st_skip
      · exact one he h2 st_label
      · exact one he ⟨_, _, rfl, ⟨_, _, rfl, h2, rfl⟩, rfl⟩ st_seq
      · rename_i c a b
        unfold goTo at he
        split at he
        · rename_i k2 hc
          unfold condTo at hc
          split at hc
          · rename_i hv
            cases hc
            have := V.bool.1 (ht.op hv)
            exact one he ⟨_, _, rfl, h2, rfl⟩ (st_cond this)
          · rename_i hv
            cases hc
            have := V.bool.1 (ht.op hv)
            exact one he ⟨_, _, rfl, h2, rfl⟩ (st_cond this)
          · cases hc
        · cases he
      · exact one he ⟨_, _, rfl, ⟨_, _, rfl, h2, rfl⟩, rfl⟩ st_block
      · exact one he ⟨_, _, rfl, ⟨_, _, rfl, h2, rfl⟩, rfl⟩ st_loop
      · exact one he ⟨_, _, rfl, ⟨_, _, rfl, h2, rfl⟩, rfl⟩ st_scope
      · rename_i id
        unfold jumpTo at he
        obtain ⟨x1, x2⟩ := exitTo_R (s := s) (id := id) h2
        split at he
        · rename_i k2 hk2
          obtain ⟨k2', e1, e2⟩ := x1 k2 hk2
          exact one he e2 (st_exit e1)
        · rename_i hk2
          split at he
          · exact hleave _ _ he (.inr (.inr (.inl ⟨by simp, id, r2, rfl, x2 hk2, rfl⟩)))
          · cases he
      · rename_i id
        unfold jumpTo at he
        obtain ⟨x1, x2⟩ := gotoIn_R (s := s) (id := id) h2
        split at he
        · rename_i k2 hk2
          obtain ⟨k2', e1, e2⟩ := x1 k2 hk2
          exact one he e2 (st_goto e1)
        · rename_i hk2
          split at he
          · exact hleave _ _ he (.inr (.inr (.inr ⟨by simp, id, r2, rfl, x2 hk2, rfl⟩)))
          · cases he
      · rename_i id ops draw
        unfold regionB at he
        split at he
        · unfold thenF at he
          split at he
          · rename_i tm2 H2 hdr
            have hR1 : R P s H (drew1 w) := hR.of_heap rfl
            obtain ⟨s1, arr1, w1, k1, k2, k3⟩ := hD ops n tm H tm2 H2 hdr s (drew1 w) arr hR1 ht (w.tape w.drawn (.order fn id)) fn r2 d' r' cs
            have hP : Post P s H w s1 H2 w1 := ((Post.refl hR).of_heap (w2 := drew1 w) rfl rfl rfl rfl).trans k3 hR
            exact hS.behind he hR hP k2 (h2.mono hP.le) (hd.mono hP.le) (hr.mono hP.le) (.head (st_draw hm) (k1.trans (.one st_rend)))
          · cases he
        · rename_i hdr
          have e1 : upL ops.toList.length 0 = List.range ops.size := by rw [upL_range, Array.length_toList]
          rw [e1] at he
          exact one he ⟨_, _, rfl, h2, rfl⟩ st_region
      · rename_i fo ps a b
        unfold rangeF at he
        split at he
        · cases hr
          have p1 := hR.push (o := .deferred (some [])) (o' := .deferred (some [])) (u := false) (k := 0) (fun _ => ⟨.inl rfl, rfl⟩)
          have hle1 := p1.le
          have p2 := p1.rel.push (o := .loop { state := .ready, pending := none, fn, tmps := ⟨allOf tm n 0⟩, params := ps, assign := a, body := b, defers := H.n }) (o' := .loop { state := .ready, pending := none, fn, tmps := arr, params := ps, assign := a, body := b, defers := w.heap.size }) (u := false) (k := 0)
            (fun _ => ⟨arr.toList, (w.heap.size, 0), (allOf_V ht).mono (hle1.trans (upd_le p1.rel.fresh _)), upd_le p1.rel.fresh _ _ _ (upd_same _ _ _), rfl⟩)
          have hP := p1.trans p2 hR
          refine range_run (mark := [{ target := .collected w.heap.size, args := #[] }]) hO hS he hR hP (upd_same _ _ _) (ht.mono hP.le) (h2.mono hP.le) ⟨_, _, ⟨H.n, (w.heap.size, 0), rfl, p2.le _ _ (upd_same _ _ _), rfl⟩, hd.mono hP.le, rfl⟩ rfl ?_
          unfold Instr.enterLoop
          simp [newObj, Sem.run]
          rfl
        · rename_i l
          obtain ⟨x, e1, e2⟩ := hr
          subst e2
          split at he
          · rename_i lp u hg
            obtain ⟨t', y, q1, q2, q3⟩ := hR.loop hg e1
            have p2 := hR.push (o := .loop { state := .ready, pending := none, fn, tmps := ⟨allOf tm n 0⟩, params := ps, assign := a, body := b, defers := lp.defers }) (o' := .loop { state := .ready, pending := none, fn, tmps := arr, params := ps, assign := a, body := b, defers := y.1 }) (u := false) (k := 0)
              (fun _ => ⟨arr.toList, y, (allOf_V ht).mono (upd_le hR.fresh _), upd_le hR.fresh _ _ _ q2, rfl⟩)
            refine range_run (mark := []) hO hS he hR p2 (upd_same _ _ _) (ht.mono p2.le) (h2.mono p2.le) (hd.mono p2.le) ⟨x, p2.le _ _ e1, rfl⟩ ?_
            unfold Instr.enterLoop
            simp only [Sem.run_bind, getLoop_run q3, Result.andThen_ok, Sem.run_pure]
            rfl
          · cases he
      · cases he
    · cases h1; exact one he h2 st_inBlock
    · cases h1; exact one he h2 st_inScope
    · cases h1; exact one he ⟨_, _, rfl, ⟨_, _, rfl, h2, rfl⟩, rfl⟩ st_inLoop
    · rename_i ops l
      cases h1
      unfold region at he
      split at he
      · exact one he h2 st_rend
      · rename_i i rest
        unfold operO at he
        split at he
        · rename_i o ho
          have ho2 : ops[i]? = some o := by rw [nthL_eq] at ho; simpa using ho
          split at he
          · rename_i hok
            have hwant := TmR.wanted (s := s) (n := n) (tm := tm) (arr := arr) (ops := ops) (o := o) (fun j w d _ _ => ht.2 d)
            unfold operT at he
            split at he
            · rename_i hw
              rw [hw] at hwant
              unfold cont at he
              split at he
              · rename_i u H1 hsub
                obtain ⟨s1, u', w1, k1, k2, k3⟩ := op_run hO hS hR hsub (fun x _ v hv => ht.op hv) (f := fn) (rest := rest) (k := r2) (d := d') (r := r') ho2 hwant cs
                exact hS.behind he hR k3 ((ht.mono k3.le).put hok k2) ⟨_, _, rfl, h2.mono k3.le, rfl⟩ (hd.mono k3.le) (hr.mono k3.le) k1
              · cases he
            · rename_i hw
              rw [hw] at hwant
              exact hS.behind he hR (.refl hR) (ht.put hok (V.undef.2 rfl)) ⟨_, _, rfl, h2, rfl⟩ hd hr (.one (st_unwanted ho2 hwant))
          · cases he
        · cases he
    · rename_i l
      obtain ⟨x, e1, e2⟩ := h1
      subst e2
      unfold endR at he
      split at he
      · rename_i lp u hg
        have hb : lp.state ≠ .busy := fun e => by rw [e] at he; cases he
        have he2 : rec fn rnd n tm (jumpL lp.pending k) ds (H.set l (.loop { lp with state := .exhausted }, u)) = some (v, H') := by
          split at he
          · cases he
          · exact he
        obtain ⟨w1, k1, k2⟩ := endR_run hR hg e1 hb
        have hj : IL s (jumpL lp.pending k) ((lp.pending.map Item.code).toList ++ r2) := by
          cases lp.pending with
          | none => simpa [jumpL] using h2
          | some c => exact ⟨_, _, rfl, h2, rfl⟩
        exact hS.behind he2 hR k2 ht hj hd hr (.one (st_endRange k1))
      · cases he
    · cases h1
      unfold beginR at he
      split at he
      · rename_i l
        obtain ⟨x, e1, e2⟩ := hr
        subst e2
        unfold beginO at he
        split at he
        · rename_i lp u hg
          have hb : lp.state = .ready := by
            cases hs : lp.state <;> rw [hs] at he <;> first | rfl | cases he
          have he2 : rec fn (some l) n tm k ds (H.set l (.loop { lp with state := .busy }, u)) = some (v, H') := by
            split at he
            · exact he
            · cases he
          obtain ⟨w1, k1, k2⟩ := beginR_run hR hg e1 hb
          exact hS.behind he2 hR k2 ht h2 hd ⟨x, e1, rfl⟩ (.one (st_begin k1))
        · cases he
      · cases he
    · cases he
end
end Go.Ev
end

/- An evaluator for closed runs: drawn regions, what is plain about them. -/
section
set_option linter.unusedSimpArgs false
set_option linter.unusedVariables false
set_option linter.unusedSectionVars false
namespace Go.Ev
variable [Inhabited Env]
theorem sameO_eq {a b : Option Nat} (h : sameO a b = true) : a = b := by
  cases a <;> cases b <;> first | rfl | cases h | (congr 1; exact Nat.eq_of_beq_eq_true h)
theorem sameA_eq {a b : Option Addr} (h : sameA a b = true) : a = b := by
  cases a with
  | none => cases b with | none => rfl | some b => cases h
  | some a => cases b with
    | none => cases h
    | some b =>
      obtain ⟨x, y, z⟩ := a; obtain ⟨x', y', z'⟩ := b
      obtain ⟨h1, h2, h3⟩ := and3 h
      rw [Nat.eq_of_beq_eq_true h1, Nat.eq_of_beq_eq_true h2, sameO_eq h3]
theorem bytes_eq {a b : ByteArray} (h : eqB a.data.toList b.data.toList = true) : a = b := by
  rw [eqB_eq] at h
  have h1 : a.data.toList = b.data.toList := eq_of_beq h
  exact ByteArray.ext (Array.ext' h1)
theorem sameV_eq {a b : Value} (h : sameV a b = true) : a = b := by
  unfold sameV at h
  split at h
  · rw [eq_of_beq h]
  · obtain ⟨h1, h2⟩ := and2 h; rw [of_decide_eq_true h1, of_decide_eq_true h2]
  · rw [bytes_eq h]
  · rw [sameA_eq h]
  · obtain ⟨h1, h2, h3⟩ := and3 h; rw [sameA_eq h1, Nat.eq_of_beq_eq_true h2, Nat.eq_of_beq_eq_true h3]
  · rw [sameO_eq h]
  · rfl
  · rfl
  · rw [Nat.eq_of_beq_eq_true h]
  · rw [Nat.eq_of_beq_eq_true h]
  · cases h
theorem sameL_eq : ∀ {a b : List Value}, sameL a b = true → a = b
  | [], [], _ => rfl
  | [], _ :: _, h => by cases h
  | _ :: _, [], h => by cases h
  | x :: a, y :: b, h => by
    unfold sameL at h
    split at h
    · rename_i hv; rw [sameV_eq hv, sameL_eq h]
    · cases h
theorem same1_eq {a b : Value} (h : same1 a b = true) : a = b := by
  unfold same1 at h
  split at h
  · rename_i x y; have := sameL_eq h; rw [Array.ext' this]
  · rename_i x y; have := sameL_eq h; rw [Array.ext' this]
  · exact sameV_eq h
theorem cellsSame_eq {a b : Obj} (h : cellsSame a b = true) : a = b := by
  unfold cellsSame at h
  split at h
  · obtain ⟨h1, h2⟩ := and2 h; rw [Nat.eq_of_beq_eq_true h1, sameL_eq h2]
  · cases h
/-! bits -/
theorem bit_lor (a b i : Nat) : Nat.testBit (Nat.lor a b) i = (Nat.testBit a i || Nat.testBit b i) := Nat.testBit_or a b i
theorem bit_land (a b i : Nat) : Nat.testBit (Nat.land a b) i = (Nat.testBit a i && Nat.testBit b i) := Nat.testBit_and a b i
theorem bit_one (n i : Nat) : Nat.testBit (Nat.shiftLeft 1 n) i = decide (n = i) := by
  have : Nat.shiftLeft 1 n = 2 ^ n := Nat.one_shiftLeft n
  rw [this, Nat.testBit_two_pow]
theorem bitsOf_mem : ∀ {l : List Nat} {j : Nat}, Nat.testBit (bitsOf l) j = true ↔ j ∈ l
  | [], j => by simp [bitsOf]
  | i :: r, j => by
    unfold bitsOf
    rw [bit_lor, bit_one, Bool.or_eq_true, bitsOf_mem (l := r), List.mem_cons]
    simp [eq_comm]
theorem land_zero {a b : Nat} : Nat.beq (Nat.land a b) 0 = true ↔ ∀ j, Nat.testBit a j = true → Nat.testBit b j = true → False := by
  constructor
  · intro h j h1 h2
    have h := Nat.eq_of_beq_eq_true h
    have : Nat.testBit (Nat.land a b) j = true := by rw [bit_land, h1, h2]; rfl
    rw [h] at this
    simp at this
  · intro h
    have : Nat.land a b = 0 := by
      apply Nat.eq_of_testBit_eq
      intro j
      rw [bit_land, Nat.zero_testBit]
      cases h1 : Nat.testBit a j with
      | false => rfl
      | true => cases h2 : Nat.testBit b j with
        | false => rfl
        | true => exact (h j h1 h2).elim
    rw [this]; rfl
theorem edgeBits_mem {acc : List Nat} : ∀ {l : List Edge} {j : Nat}, Nat.testBit (edgeBits acc l) j = true → ∃ e ∈ l, Region.binds .any e = true ∧ (j = e.on ∨ Nat.testBit ((nthL acc e.on).getD 0) j = true)
  | [], j, h => by simp [edgeBits] at h
  | e :: r, j, h => by
    unfold edgeBits at h
    split at h
    · rename_i hb
      rw [bit_lor, bit_lor, bit_one, Bool.or_eq_true, Bool.or_eq_true] at h
      rcases h with (h | h) | h
      · exact ⟨e, by simp, hb, .inl (of_decide_eq_true h).symm⟩
      · exact ⟨e, by simp, hb, .inr h⟩
      · obtain ⟨e', h1, h2⟩ := edgeBits_mem h; exact ⟨e', by simp [h1], h2⟩
    · obtain ⟨e', h1, h2⟩ := edgeBits_mem h; exact ⟨e', by simp [h1], h2⟩
theorem edgeBits_has {acc : List Nat} : ∀ {l : List Edge} {e : Edge}, e ∈ l → Region.binds .any e = true → Nat.testBit (edgeBits acc l) e.on = true
  | [], e, h, _ => by cases h
  | x :: r, e, h, hb => by
    unfold edgeBits
    rcases List.mem_cons.1 h with h | h
    · subst h
      rw [hb]
      simp only []
      rw [bit_lor, bit_lor, bit_one]; simp
    · split
      · rw [bit_lor, edgeBits_has h hb]; simp
      · exact edgeBits_has h hb
theorem backE_mem {i : Nat} : ∀ {l : List Edge} {e : Edge}, backE i l = true → e ∈ l → Region.binds .any e = true → e.on < i
  | [], e, _, h, _ => by cases h
  | x :: r, e, hb, h, hbind => by
    unfold backE at hb
    rcases List.mem_cons.1 h with h | h
    · subst h
      rw [hbind] at hb
      simp only [] at hb
      split at hb
      · rename_i h2; simpa [Nat.blt_eq] using h2
      · cases hb
    · split at hb
      · split at hb
        · exact backE_mem hb h hbind
        · cases hb
      · exact backE_mem hb h hbind
section
variable {P : Program}
theorem readsOK_mem {t b i : Nat} : ∀ {ops : List Oper} {bs : List Nat} {j0 : Nat}, readsOK P t b i ops bs j0 = true → ∀ j o c, ops[j]? = some o → bs[j]? = some c → o.dst = some t → Nat.testBit b (j0 + j) = true ∨ (kind P o.op = 3 ∧ (Nat.testBit c i = true ∨ i = j0 + j))
  | [], bs, j0, _, j, o, c, h, _, _ => by simp at h
  | x :: r, [], j0, _, j, o, c, _, h, _ => by simp at h
  | x :: r, y :: bs, j0, hr, j, o, c, h1, h2, h3 => by
    have rest : readsOK P t b i r bs (j0 + 1) = true := by
      unfold readsOK at hr
      split at hr
      · split at hr
        · cases hr
        · exact hr
      · exact hr
    cases j with
    | succ j =>
      have := readsOK_mem rest j o c (by simpa using h1) (by simpa using h2) h3
      rw [show j0 + (j + 1) = j0 + 1 + j by omega]
      exact this
    | zero =>
      simp at h1 h2
      subst h1 h2
      unfold readsOK at hr
      rw [h3] at hr
      simp only [Nat.beq_refl, Bool.true_and] at hr
      rw [Nat.add_zero]
      cases hb : Nat.testBit b j0 with
      | true => exact .inl rfl
      | false =>
        right
        rw [hb] at hr
        simp only [Bool.not_false, Bool.true_and] at hr
        split at hr
        · cases hr
        · rename_i hq
          simp only [Bool.not_eq_false', Bool.and_eq_true, Bool.or_eq_true] at hq
          obtain ⟨q1, q2⟩ := hq
          refine ⟨Nat.eq_of_beq_eq_true q1, ?_⟩
          rcases q2 with q2 | q2
          · exact .inl q2
          · exact .inr (Nat.eq_of_beq_eq_true q2)
theorem tmpsOK_mem {ops : List Oper} {bs : List Nat} {b i : Nat} : ∀ {xs : List Operand} {t : Tmp}, tmpsOK P ops bs b i xs = true → .tmp t ∈ xs → readsOK P t b i ops bs 0 = true
  | [], t, _, h => by cases h
  | .tmp u :: r, t, hx, h => by
    simp only [tmpsOK] at hx
    split at hx
    · rename_i hr
      rcases List.mem_cons.1 h with h | h
      · cases h; exact hr
      · exact tmpsOK_mem hx h
    · cases hx
  | .const u :: r, t, hx, h => by
    rcases List.mem_cons.1 h with h | h
    · cases h
    · exact tmpsOK_mem (by simpa only [tmpsOK] using hx) h
  | .global u :: r, t, hx, h => by
    rcases List.mem_cons.1 h with h | h
    · cases h
    · exact tmpsOK_mem (by simpa only [tmpsOK] using hx) h
  | .func u :: r, t, hx, h => by
    rcases List.mem_cons.1 h with h | h
    · cases h
    · exact tmpsOK_mem (by simpa only [tmpsOK] using hx) h
theorem noneW_mem {t : Tmp} : ∀ {ops : List Oper}, noneW t ops = true → ∀ o ∈ ops, o.dst ≠ some t
  | [], _, o, h => by cases h
  | x :: r, hn, o, h => by
    unfold noneW at hn
    rcases List.mem_cons.1 h with h | h
    · subst h
      intro hd
      rw [hd] at hn
      simp only [Nat.beq_refl] at hn
      cases hn
    · split at hn
      · split at hn
        · cases hn
        · exact noneW_mem hn o h
      · exact noneW_mem hn o h
theorem onceOK_mem : ∀ {ops : List Oper}, onceOK ops = true → ∀ (i j : Nat) (o p : Oper) (t : Tmp), i < j → ops[i]? = some o → ops[j]? = some p → o.dst = some t → p.dst ≠ some t
  | [], _, i, j, o, p, t, _, h, _, _ => by simp at h
  | x :: r, ho, i, j, o, p, t, hij, h1, h2, h3 => by
    obtain ⟨j, rfl⟩ : ∃ k, j = k + 1 := ⟨j - 1, by omega⟩
    simp at h2
    have rest : onceOK r = true := by
      unfold onceOK at ho
      split at ho
      · split at ho
        · exact ho
        · cases ho
      · exact ho
    cases i with
    | zero =>
      simp at h1
      subst h1
      unfold onceOK at ho
      rw [h3] at ho
      simp only [] at ho
      split at ho
      · rename_i hn
        exact noneW_mem hn p (List.mem_of_getElem? h2)
      · cases ho
    | succ i => exact onceOK_mem rest i j o p t (by omega) (by simpa using h1) h2 h3
theorem once_eq {ops : List Oper} (h : onceOK ops = true) {i j : Nat} {o p : Oper} {t : Tmp} (h1 : ops[i]? = some o) (h2 : ops[j]? = some p) (h3 : o.dst = some t) (h4 : p.dst = some t) : i = j := by
  rcases Nat.lt_trichotomy i j with hl | hl | hl
  · exact absurd h4 (onceOK_mem h i j o p t hl h1 h2 h3)
  · exact hl
  · exact absurd h3 (onceOK_mem h j i p o t hl h2 h1 h4)
theorem tidyL_mem {ops : List Oper} {bs : List Nat} {n : Nat} : ∀ {l : List Oper} {m : List Nat} {i0 : Nat}, tidyL P ops bs n l m i0 = true → ∀ i o, l[i]? = some o → ∃ b, m[i]? = some b ∧ tidyO P ops bs o b (i0 + i) n = true
  | [], [], i0, _, i, o, h => by simp at h
  | [], _ :: _, i0, ht, i, o, h => by simp at h
  | x :: r, [], i0, ht, i, o, h => by cases ht
  | x :: r, y :: m, i0, ht, i, o, h => by
    unfold tidyL at ht
    split at ht
    · rename_i hx
      cases i with
      | zero => simp at h; subst h; exact ⟨y, by simp, by simpa using hx⟩
      | succ i =>
        obtain ⟨b, h1, h2⟩ := tidyL_mem ht i o (by simpa using h)
        exact ⟨b, by simpa using h1, by rw [show i0 + (i + 1) = i0 + 1 + i by omega]; exact h2⟩
    · cases ht
theorem effL_mem : ∀ {ops : List Oper} {i0 e : Nat}, e ∈ effL P ops i0 ↔ ∃ i o, e = i0 + i ∧ ops[i]? = some o ∧ kind P o.op = 3
  | [], i0, e => by simp [effL]
  | x :: r, i0, e => by
    unfold effL
    have ih := effL_mem (ops := r) (i0 := i0 + 1) (e := e)
    have key : (∃ i o, e = i0 + i ∧ (x :: r)[i]? = some o ∧ kind P o.op = 3) ↔ (e = i0 ∧ kind P x.op = 3) ∨ ∃ i o, e = i0 + 1 + i ∧ r[i]? = some o ∧ kind P o.op = 3 := by
      constructor
      · rintro ⟨i, o, h1, h2, h3⟩
        cases i with
        | zero => simp at h2; subst h2; exact .inl ⟨by omega, h3⟩
        | succ i => exact .inr ⟨i, o, by omega, by simpa using h2, h3⟩
      · rintro (⟨h1, h2⟩ | ⟨i, o, h1, h2, h3⟩)
        · exact ⟨0, x, by omega, by simp, h2⟩
        · exact ⟨i + 1, o, by omega, by simpa using h2, h3⟩
    rw [key]
    split
    · rename_i hk
      have hk := Nat.eq_of_beq_eq_true hk
      rw [List.mem_cons, ih]
      simp [hk]
    · rename_i hk
      have hk := beq_false hk
      rw [ih]
      simp [hk]
theorem nowL_mem {left : Nat} {must : Option Nat} : ∀ {ops : List Oper} {bs : List Nat} {i0 j : Nat}, j ∈ nowL P left must ops bs i0 → ∃ i o b, j = i0 + i ∧ ops[i]? = some o ∧ bs[i]? = some b ∧ kind P o.op ≠ 3 ∧ Nat.beq (Nat.land b left) 0 = true ∧ ∀ e, must = some e → Nat.testBit b e = true
  | [], bs, i0, j, h => by simp [nowL] at h
  | x :: r, [], i0, j, h => by simp [nowL] at h
  | x :: r, y :: bs, i0, j, h => by
    unfold nowL at h
    have rest : j ∈ nowL P left must r bs (i0 + 1) → ∃ i o b, j = i0 + i ∧ (x :: r)[i]? = some o ∧ (y :: bs)[i]? = some b ∧ kind P o.op ≠ 3 ∧ Nat.beq (Nat.land b left) 0 = true ∧ ∀ e, must = some e → Nat.testBit b e = true := fun h => by
      obtain ⟨i, o, b, h1, h2, h3, h4⟩ := nowL_mem h
      exact ⟨i + 1, o, b, by omega, by simpa using h2, by simpa using h3, h4⟩
    split at h
    · exact rest h
    · rename_i hc
      rcases List.mem_cons.1 h with h | h
      · rw [Bool.or_eq_false_iff, Bool.or_eq_false_iff] at hc
        obtain ⟨⟨c1, c2⟩, c3⟩ := hc
        refine ⟨0, x, y, by omega, by simp, by simp, beq_false c1, by simpa using c2, fun e he => ?_⟩
        subst he
        simpa using c3
      · exact rest h
theorem againL_mem {ops : List Oper} {pend : List (Nat × Nat)} {left past : Nat} {tm : Tm} {H : Hp} : ∀ {l : List Oper} {bs : List Nat} {i0 : Nat}, againL P ops pend left past tm H l bs i0 = true → ∀ i o b, l[i]? = some o → bs[i]? = some b → kind P o.op ≠ 3 → Nat.beq (Nat.land b left) 0 = true → Nat.testBit past (i0 + i) = false → againO P ops pend (i0 + i) o tm H = true
  | [], bs, i0, _, i, o, b, h, _, _, _, _ => by simp at h
  | x :: r, [], i0, _, i, o, b, _, h, _, _, _ => by simp at h
  | x :: r, y :: bs, i0, ha, i, o, b, h1, h2, h3, h4, h5 => by
    unfold againL at ha
    have rest : againL P ops pend left past tm H r bs (i0 + 1) = true := by
      split at ha
      · exact ha
      · split at ha
        · exact ha
        · cases ha
    cases i with
    | succ i =>
      have := againL_mem rest i o b (by simpa using h1) (by simpa using h2) h3 h4 (by rw [show i0 + 1 + i = i0 + (i + 1) by omega]; exact h5)
      rw [show i0 + (i + 1) = i0 + 1 + i by omega]
      exact this
    | zero =>
      simp at h1 h2
      subst h1 h2
      rw [Nat.add_zero] at h5 ⊢
      have hk : Nat.beq (kind P x.op) 3 = false := by
        cases hq : Nat.beq (kind P x.op) 3 with
        | false => rfl
        | true => exact absurd (Nat.eq_of_beq_eq_true hq) h3
      rw [hk, h4, h5] at ha
      simp only [Bool.not_true, Bool.or_self] at ha
      split at ha
      · rename_i hx; exact hx
      · cases ha
theorem chain_mem {bs : List Nat} : ∀ {es : List Nat}, chainOK bs es = true → ∀ {a b : List Nat} {e f : Nat}, es = a ++ e :: f :: b → Nat.testBit ((nthL bs f).getD 0) e = true
  | [], _, a, b, e, f, h => by simp at h
  | [x], _, a, b, e, f, h => by
    have := congrArg List.length h
    simp at this
    omega
  | x :: y :: r, hc, a, b, e, f, h => by
    unfold chainOK at hc
    split at hc
    · rename_i hb
      cases a with
      | nil => simp at h; obtain ⟨h1, h2, _⟩ := h; subst h1 h2; exact hb
      | cons c a => simp at h; exact chain_mem hc h.2
    · cases hc
theorem hasP_mem : ∀ {p : List (Nat × Nat)} {j i : Nat}, hasP p j i = true → (j, i) ∈ p
  | [], j, i, h => by cases h
  | (a, b) :: r, j, i, h => by
    unfold hasP at h
    split at h
    · rename_i hq; obtain ⟨h1, h2⟩ := and2 hq; rw [Nat.eq_of_beq_eq_true h1, Nat.eq_of_beq_eq_true h2]; simp
    · exact List.mem_cons_of_mem _ (hasP_mem h)
end
end Go.Ev
end

/- An evaluator for closed runs: drawn regions: what does nothing, what makes a block. -/
section
set_option linter.unusedSimpArgs false
set_option linter.unusedVariables false
set_option linter.unusedSectionVars false
namespace Go.Ev
variable [Inhabited Env]
section
variable {P : Program} {s : Sg} {H : Hp} {w : World}
theorem fPure_H {v : Option Value} {n : Next} {H' : Hp} (h : fPure v H = some (n, H')) : H' = H ∧ ∃ u, n = .value u := by obtain ⟨u, _, _, e1, e2⟩ := fPure_eq h; exact ⟨e2, u, e1⟩
theorem fVal_H {v : Option Value} {n : Next} {H' : Hp} (h : fVal v H = some (n, H')) : H' = H ∧ ∃ u, n = .value u := by obtain ⟨u, _, e1, e2⟩ := fVal_eq h; exact ⟨e2, u, e1⟩
/-- what only looks turns nothing -/
theorem kind_look {tm : Tm} {ty : TypeId} {op : Op} {n : Next} {H' : Hp} (he : execF P tm ty op H = some (n, H')) (h3 : kind P op ≠ 3) (h2 : kind P op ≠ 2) : H' = H ∧ ∃ v, n = .value v := by
  cases op <;> simp only [execF] at he <;> first | (cases he; done) | (exact absurd rfl h3) | (exact absurd rfl h2) | skip
  case move x => exact fVal_H he
  case pick c a b =>
    obtain ⟨vc, va, vb, e1, e2, e3, e4⟩ := u3_eq he
    unfold fPick at e4
    split at e4 <;> first | (cases e4; exact ⟨rfl, _, rfl⟩) | cases e4
  case build t ps => exact fVal_H he
  case load t x => obtain ⟨v, _, e⟩ := u1_eq he; exact fVal_H e
  case nilCheck x =>
    obtain ⟨v, _, e⟩ := u1_eq he
    unfold fNil at e
    split at e <;> first | (cases e; exact ⟨rfl, _, rfl⟩) | cases e
  case binOp op t x y yt =>
    obtain ⟨v, u, _, _, e⟩ := u2_eq he
    unfold binO at e
    split at e
    · cases e; exact ⟨rfl, _, rfl⟩
    · split at e
      · split at e
        · cases e
        · cases e
        · exact fPure_H e
        · exact fPure_H e
        · exact fPure_H e
      · cases e
  case unOp op t x =>
    obtain ⟨v, _, e⟩ := u1_eq he
    split at e
    · exact fPure_H e
    · cases e
  case convert a b x =>
    obtain ⟨v, _, e⟩ := u1_eq he
    unfold fConv at e
    split at e
    · split at e
      · exact fVal_H e
      · cases e
    · rename_i ee bb hda hdb hop
      exact absurd (by simp only [kind, hdb]) h3
    · split at e
      · exact fPure_H e
      · cases e
  case makeFunc fn a b =>
    unfold fFunc at he
    split at he
    · cases he; exact ⟨rfl, _, rfl⟩
    · cases he
  case slice t x lo hi mx =>
    obtain ⟨v, _, e⟩ := u1_eq he
    unfold slArgs at e
    split at e
    · exact fVal_H e
    · cases e
  case fieldAddr t x f =>
    obtain ⟨v, _, e⟩ := u1_eq he
    unfold fField at e
    split at e
    · unfold fField2 at e
      split at e
      · split at e
        · cases e; exact ⟨rfl, _, rfl⟩
        · cases e
      · cases e
    · cases e
  case field t x f => obtain ⟨v, _, e⟩ := u1_eq he; exact fVal_H e
  case indexAddr t x i =>
    obtain ⟨v, u, _, _, e⟩ := u2_eq he
    unfold fIdx at e
    split at e
    · split at e
      · unfold fIdx2 at e
        split at e
        · cases e; exact ⟨rfl, _, rfl⟩
        · cases e
      · cases e
    · split at e
      · unfold fIdx2 at e
        split at e
        · cases e; exact ⟨rfl, _, rfl⟩
        · cases e
      · cases e
    · cases e
  case index t x i => obtain ⟨v, u, _, _, e⟩ := u2_eq he; exact fVal_H e
  case lookup t m k ok => obtain ⟨v, u, _, _, e⟩ := u2_eq he; exact fVal_H e
  case extract x i =>
    obtain ⟨v, _, e⟩ := u1_eq he
    unfold fExtract at e
    split at e
    · exact fVal_H e
    · cases e
  case call c =>
    unfold fCall at he
    cases hc : c.callee with
    | value f => exact absurd (by simp only [kind, hc]) h3
    | invoke r m => exact absurd (by simp only [kind, hc]) h3
    | builtin b =>
      simp only [hc] at he
      unfold fBuiltin at he
      cases b <;> simp only [] at he <;> first | (cases he; done) | (refine absurd ?_ h3; simp only [kind, hc]; done) | skip
      case len =>
        unfold fLen1 at he
        split at he
        · exact fVal_H he
        · cases he
      all_goals
        split at he
        · split at he
          · exact fPure_H he
          · cases he
        · cases he
/-- what makes a block makes one -/
theorem kind_new {tm : Tm} {ty : TypeId} {op : Op} {n : Next} {H' : Hp} (he : execF P tm ty op H = some (n, H')) (h2 : kind P op = 2) : ∃ v ob, n = .value v ∧ H' = H.push (ob, false) := by
  cases op <;> simp only [execF] at he <;> first | (cases he; done) | (cases h2; done) | skip
  case alloc t =>
    unfold fAlloc at he
    split at he
    · unfold fNew at he; cases he; exact ⟨_, _, rfl, rfl⟩
    · cases he
  case box t x =>
    obtain ⟨v, _, e⟩ := u1_eq he
    unfold fBox at e
    split at e
    · unfold fNew at e; cases e; exact ⟨_, _, rfl, rfl⟩
    · cases e
  case buildSlice t len ps =>
    unfold fBuildSlice at he
    split at he
    · unfold bsE at he
      split at he
      · split at he
        · unfold bsP at he
          split at he
          · cases he; exact ⟨_, _, rfl, rfl⟩
          · cases he
        · cases he
      · cases he
    · cases he
  case convert a b x => simp only [kind] at h2; split at h2 <;> cases h2
  case call c => simp only [kind] at h2; split at h2 <;> cases h2
end
end Go.Ev
end

/- An evaluator for closed runs: drawn regions. -/
section
set_option linter.unusedSimpArgs false
set_option linter.unusedVariables false
set_option linter.unusedSectionVars false
namespace Go.Ev
variable [Inhabited Env]
section
variable {P : Program}
/-- A new block, by itself. -/
theorem alloc_local {s : Sg} {w : World} {tm : Tm} {o : Oper} {i : Nat} {v : Value} {ob : Obj} {ρ : Operand → Value} (hk : kind P o.op = 2) (hn : newOf P tm o.type o.op i = some (v, ob)) (hρ : ∀ x ∈ o.op.operands, ∀ v, opA tm x = some v → V s v (ρ x)) (hs : s i = none) :
    ∃ v' o', (execOp ρ o).run P w = .ok (.value v') { w with heap := w.heap.push o' } ∧ V (upd s i (w.heap.size, 0)) v v' ∧ OR P (upd s i (w.heap.size, 0)) 0 false ob o' := by
  have hle : s.le (upd s i (w.heap.size, 0)) := fun j y e => by
    unfold upd
    by_cases hj : j = i
    · subst hj; rw [hs] at e; cases e
    · rw [if_neg hj]; exact e
  obtain ⟨dst, op, ty, pos, after, guard⟩ := o
  unfold newOf at hn
  simp only at hn hk hρ
  cases op <;> simp only [execF] at hn <;> first | (cases hk; done) | skip
  case alloc t =>
    unfold fAlloc at hn
    cases hz : zeroF P t with
    | none => rw [hz] at hn; cases hn
    | some z =>
      rw [hz] at hn
      simp only [fNew, Hp.push] at hn
      cases hn
      obtain ⟨h1, h2⟩ := run_zero (P := P) (w := w) hz
      refine ⟨.pointer (some ⟨w.heap.size, 0, none⟩), .cells ⟨z.cells.toList⟩ t, ?_, V.ptr.2 ⟨_, upd_same _ _ _, rfl⟩, rfl, _, _, rfl, (clo1_cells h2), rfl⟩
      simp [execOp, Instr.alloc, newVar, h1, newRow_run]
  case box t x =>
    cases hx : opA tm x with
    | none => rw [hx] at hn; cases hn
    | some u =>
      rw [hx] at hn
      simp only [u1, fBox] at hn
      cases hsc : scal u.cells.toList with
      | false => rw [hsc] at hn; cases hn
      | true =>
        rw [hsc] at hn
        simp only [fNew, Hp.push] at hn
        cases hn
        have h1 := hρ x (by simp [Op.operands]) u hx
        refine ⟨.pointer (some ⟨w.heap.size, 0, none⟩), .cells ⟨(ρ x).cells.toList⟩ t, ?_, V.ptr.2 ⟨_, upd_same _ _ _, rfl⟩, rfl, _, _, rfl, (h1.cells_of hsc).mono hle, rfl⟩
        simp [execOp, Instr.box, newVar, newRow_run]
  case buildSlice t len ps =>
    cases hp : partsA tm ps.toList with
    | none => rw [hp] at hn; cases hn
    | some l =>
      rw [hp] at hn
      have hpl := partsA_V (s := s) (ρ := ρ) hp (fun x hx => hρ x (by simpa [Op.operands] using hx))
      unfold fBuildSlice at hn
      cases hd : descF P t with
      | none => rw [hd] at hn; cases hn
      | some dd =>
        rw [hd] at hn
        cases dd <;> simp only [] at hn <;> first | (cases hn; done) | skip
        rename_i e
        unfold bsE at hn
        cases hz : zeroF P e with
        | none => rw [hz] at hn; cases hn
        | some z =>
          cases hsz : sizeF P e with
          | none => rw [hz, hsz] at hn; cases hn
          | some m0 =>
            rw [hz, hsz] at hn
            cases m0 with
            | zero => cases hn
            | succ m =>
              simp only [] at hn
              cases hb : (okSz (len * (m + 1)) && Nat.beq z.cells.toList.length (m + 1)) with
              | false => rw [hb] at hn; cases hn
              | true =>
                rw [hb] at hn
                simp only [] at hn
                obtain ⟨b1, b2⟩ := and2 hb
                have b1 := okSz_lt b1
                have b2 := Nat.eq_of_beq_eq_true b2
                obtain ⟨h1, h2⟩ := run_zero (P := P) (w := w) hz
                cases hf : fillL (elemPl (m + 1)) (repL z.cells.toList len) l with
                | none => rw [hf] at hn; cases hn
                | some cs =>
                  rw [hf] at hn
                  simp only [bsP, Hp.push] at hn
                  cases hn
                  obtain ⟨c', g1, g2⟩ := fill_run hf (cloL_rep (clo1_cells (s := s) h2) len) hpl
                  refine ⟨.slice (some ⟨w.heap.size, 0, none⟩) len len, .cells ⟨c'⟩ e, ?_, (V.sl (ne_junk_small (small_junk b1))).2 ⟨_, upd_same _ _ _, by rw [capOf_small (small_junk b1)]; exact Nat.le_refl _, by rw [capOf_small (small_junk b1)]⟩, rfl, _, _, rfl, g2.mono hle, rfl⟩
                  have hzs : z.cells.size = m + 1 := by rw [← Array.length_toList]; exact b2
                  have hlim : ¬ len * (m + 1) > 2 ^ 24 := by
                    have : (1048576 : Nat) ≤ 2 ^ 24 := by decide
                    omega
                  have hpf : (fun i => some (i * (m + 1), m + 1)) = elemPl (m + 1) := rfl
                  have hpe : (ps.map fun (x : Nat × Operand) => (x.1, ρ x.2)).toList = ps.toList.map fun p => (p.1, ρ p.2) := by simp
                  show (do pure (.value (← Instr.buildSlice t len (ps.map fun (x : Nat × Operand) => (x.1, ρ x.2)))) : Sem Next).run P w = _
                  have hbs : (Instr.buildSlice t len (ps.map fun (x : Nat × Operand) => (x.1, ρ x.2))).run P w = .ok (.slice (some ⟨w.heap.size, 0, none⟩) len len) { w with heap := w.heap.push (.cells ⟨c'⟩ e) } := by
                    unfold Instr.buildSlice
                    simp only [Sem.run_bind, run_under hd, Result.andThen_ok, run_size hsz, hlim, if_false, Sem.run_pure, hpf, hpe]
                    by_cases hl0 : len * (m + 1) = 0
                    · have hlen0 : len = 0 := by rcases Nat.mul_eq_zero.1 hl0 with h0 | h0; · exact h0
                                                 · cases h0
                      subst hlen0
                      have e2 : repL z.cells.toList 0 = [] := rfl
                      rw [e2] at g1
                      simp only [hl0, if_true, Sem.run_pure, Result.andThen_ok, pure_bind]
                      have e3 : ((Array.range 0).map fun i => (#[] : Array Value)[i % (#[] : Array Value).size]!) = ⟨[]⟩ := by simp
                      rw [e3, g1]
                      simp [newRow_run]
                    · simp only [hl0, if_false, Sem.run_bind, h1, Result.andThen_ok, Sem.run_pure]
                      have e3 := zeros_eq z.cells (by omega) len
                      rw [hzs] at e3
                      rw [hzs, e3, g1]
                      simp [newRow_run]
                  simp only [Sem.run_bind, hbs, Result.andThen_ok, Sem.run_pure]
  case convert a b x => simp only [kind] at hk; split at hk <;> cases hk
  case call c => simp only [kind] at hk; split at hk <;> cases hk

structure Gap (P : Program) (orc : Orc) (rec : Rec) (ops : List Oper) (bs : List Nat) (tmF : Tm) (HF : Hp) (es' : List Nat) (past : Nat) (tmg : Tm) (Hg : Hp) (pend : List (Nat × Nat)) : Prop where
  again : againL P ops pend (bitsOf es') past tmg Hg ops bs 0 = true
  done : es' = [] → tmg = tmF ∧ Hg = HF
  next : ∀ e es2, es' = e :: es2 → ∃ tm2 H2, effO P orc rec ops (nthL ops e) tmg Hg = some (tm2, H2) ∧ stages P orc rec ops bs es2 (Nat.lor past (Nat.lor (Nat.shiftLeft 1 e) ((nthL bs e).getD 0))) (quietL P ops (nowL P (bitsOf es2) (some e) ops bs 0) tm2 H2 pend) = some (tmF, HF)
theorem gapS_eq {ops : List Oper} {bs : List Nat} {left past : Nat} {r x : Option (Tm × Hp × List (Nat × Nat))} {y : Tm × Hp × List (Nat × Nat)} (h : gapS P ops bs left past r = some y) : r = some y ∧ againL P ops y.2.2 left past y.1 y.2.1 ops bs 0 = true := by
  unfold gapS at h
  split at h
  · split at h
    · rename_i ha; cases h; exact ⟨rfl, ha⟩
    · cases h
  · cases h
theorem stages_gap {orc : Orc} {rec : Rec} {ops : List Oper} {bs : List Nat} {es' : List Nat} {past : Nat} {r : Option (Tm × Hp × List (Nat × Nat))} {tmF : Tm} {HF : Hp} (h : stages P orc rec ops bs es' past r = some (tmF, HF)) :
    ∃ tmg Hg pend, r = some (tmg, Hg, pend) ∧ Gap P orc rec ops bs tmF HF es' past tmg Hg pend := by
  cases es' with
  | nil =>
    unfold stages at h
    split at h
    · rename_i tm H p hg
      cases h
      obtain ⟨e, ha⟩ := gapS_eq (x := none) hg
      exact ⟨_, _, _, e, ha, fun _ => ⟨rfl, rfl⟩, fun e es2 h => (by cases h)⟩
    · cases h
  | cons e es2 =>
    unfold stages at h
    split at h
    · rename_i tm H p hg
      obtain ⟨e0, ha⟩ := gapS_eq (x := none) hg
      split at h
      · rename_i tm2 H2 heff
        exact ⟨_, _, _, e0, ha, fun h => (by cases h), fun e' es' h' => (by cases h'; exact ⟨tm2, H2, heff, h⟩)⟩
      · cases h
    · cases h
theorem look_put {tm : Tm} {d : Option Tmp} {v : Value} {t : Tmp} (h : d ≠ some t) : look (putA tm d v) t = look tm t := by
  cases d with
  | none => rfl
  | some d =>
    show (match Nat.beq d t with | true => v | false => look tm t) = look tm t
    have hb : Nat.beq d t = false := by
      cases hb : Nat.beq d t with
      | false => rfl
      | true => exact absurd (by rw [Nat.eq_of_beq_eq_true hb]) h
    rw [hb]
theorem look_put_same {tm : Tm} {d : Tmp} {v : Value} : look (putA tm (some d) v) d = v := by
  show (match Nat.beq d d with | true => v | false => look tm d) = v
  rw [Nat.beq_refl]
theorem quietO_eq {L : List Oper} {o : Oper} {tm tm2 : Tm} {H H2 : Hp} (h : quietO P L (some o) tm H = some (tm2, H2)) (hk : kind P o.op ≠ 3) :
    ∃ v, tm2 = putA tm o.dst v ∧ ((Nat.beq (kind P o.op) 2 && wantedA L o.guard tm) = false ∧ H2 = H ∨ (Nat.beq (kind P o.op) 2 && wantedA L o.guard tm) = true ∧ ∃ ob, H2 = H.push ob) := by
  unfold quietO at h
  simp only [] at h
  split at h
  · rename_i hw
    unfold quietR at h
    split at h
    · rename_i v H1 hx
      cases h
      refine ⟨v, rfl, ?_⟩
      rw [hw, Bool.and_true]
      by_cases h2 : kind P o.op = 2
      · right
        obtain ⟨v', ob, _, e⟩ := kind_new hx h2
        exact ⟨by rw [h2]; rfl, _, e⟩
      · left
        obtain ⟨e, _⟩ := kind_look hx hk h2
        refine ⟨?_, e⟩
        cases hb : Nat.beq (kind P o.op) 2 with
        | false => rfl
        | true => exact absurd (Nat.eq_of_beq_eq_true hb) h2
    · cases h
  · rename_i hw
    cases h
    exact ⟨undef, rfl, .inl ⟨by rw [hw, Bool.and_false], rfl⟩⟩
theorem quietL_facts {L : List Oper} : ∀ {js : List Nat} {tm : Tm} {H : Hp} {p : List (Nat × Nat)} {tmg : Tm} {Hg : Hp} {pg : List (Nat × Nat)}, quietL P L js tm H p = some (tmg, Hg, pg) → (∀ j ∈ js, ∀ o, L[j]? = some o → kind P o.op ≠ 3) → H.l.length = H.n →
    H.n ≤ Hg.n ∧ Hg.l.length = Hg.n ∧ (∀ i, i < H.n → Hg.get i = H.get i) ∧ (∀ t, (∀ j ∈ js, ∀ o, L[j]? = some o → o.dst ≠ some t) → look tmg t = look tm t) ∧ ∃ q, pg = p ++ q ∧ (∀ x ∈ q, H.n ≤ x.2 ∧ x.2 < Hg.n) ∧ q.Pairwise (fun a b => a.2 < b.2)
  | [], tm, H, p, tmg, Hg, pg, h, _, hok => by
    cases h
    exact ⟨Nat.le_refl _, hok, fun _ _ => rfl, fun _ _ => rfl, [], by simp, by simp, .nil⟩
  | j :: r, tm, H, p, tmg, Hg, pg, h, hk, hok => by
    unfold quietL at h
    split at h
    · rename_i tm2 H2 hq
      cases ho : nthL L j with
      | none => rw [ho] at hq; cases hq
      | some o =>
        rw [ho] at hq h
        have ho2 : L[j]? = some o := by rw [← nthL_eq]; exact ho
        obtain ⟨v, e1, hc⟩ := quietO_eq hq (hk j (by simp) o ho2)
        have hH : H.n ≤ H2.n ∧ H2.l.length = H2.n ∧ (∀ i, i < H.n → H2.get i = H.get i) := by
          rcases hc with ⟨_, e⟩ | ⟨_, ob, e⟩
          · subst e; exact ⟨Nat.le_refl _, hok, fun _ _ => rfl⟩
          · subst e; exact ⟨Nat.le_succ _, Hp.push_ok hok, fun i hi => Hp.get_push_old hi⟩
        obtain ⟨g1, g2, g3, g4, q, g5, g6, g7⟩ := quietL_facts h (fun j' hj' => hk j' (by simp [hj'])) hH.2.1
        refine ⟨Nat.le_trans hH.1 g1, g2, fun i hi => by rw [g3 i (Nat.lt_of_lt_of_le hi hH.1), hH.2.2 i hi], ?_, ?_⟩
        · intro t ht
          rw [g4 t (fun j' hj' => ht j' (by simp [hj'])), e1, look_put (ht j (by simp) o ho2)]
        · rcases hc with ⟨hb, e⟩ | ⟨hb, ob, e⟩
          · have hp : pendA P L (some o) j tm H p = p := by unfold pendA; simp only [hb]
            rw [hp] at g5
            exact ⟨q, g5, fun x hx => ⟨Nat.le_trans hH.1 (g6 x hx).1, (g6 x hx).2⟩, g7⟩
          · have hp : pendA P L (some o) j tm H p = p ++ [(j, H.n)] := by unfold pendA; simp only [hb]
            rw [hp] at g5
            have hn2 : H2.n = H.n + 1 := by rw [e]; rfl
            refine ⟨(j, H.n) :: q, by rw [g5]; simp, ?_, ?_⟩
            · intro x hx
              rcases List.mem_cons.1 hx with hx | hx
              · subst hx; exact ⟨Nat.le_refl _, by simp only; omega⟩
              · exact ⟨Nat.le_trans hH.1 (g6 x hx).1, (g6 x hx).2⟩
            · refine .cons (fun x hx => ?_) g7
              have := (g6 x hx).1
              simp only; omega
    · cases h
theorem pw_inj : ∀ {p : List (Nat × Nat)}, p.Pairwise (fun a b => a.2 < b.2) → ∀ {a b i : Nat}, (a, i) ∈ p → (b, i) ∈ p → a = b
  | [], _, a, b, i, h, _ => by cases h
  | x :: r, hp, a, b, i, h1, h2 => by
    cases hp with
    | cons hx hr =>
      rcases List.mem_cons.1 h1 with h1 | h1 <;> rcases List.mem_cons.1 h2 with h2 | h2
      · rw [← h2] at h1; cases h1; rfl
      · have := hx _ h2; rw [← h1] at this; simp at this
      · have := hx _ h1; rw [← h2] at this; simp at this
      · exact pw_inj hr h1 h2
end
end Go.Ev
end

/- An evaluator for closed runs: drawn regions, in whatever order. -/
section
set_option linter.unusedSimpArgs false
set_option linter.unusedVariables false
set_option linter.unusedSectionVars false
namespace Go.Ev
variable [Inhabited Env]
section
variable {P : Program} {s0 s : Sg} {H0 Hg H2 : Hp} {w0 w : World}
theorem Post.unborn (hP : Post P s0 H0 w0 s H2 w) (hn : H2.n ≤ Hg.n) (hok : Hg.l.length = Hg.n) (hget : ∀ i, i < H2.n → Hg.get i = H2.get i) : Post P s0 H0 w0 s Hg w := by
  refine ⟨hP.le, ?_, Nat.le_trans hP.len hn, hP.keep, hP.size, hP.os, hP.tape, hP.output, ?_, ?_, ⟨hok, ?_, ?_, ?_, hP.rel.base⟩⟩
  · intro i x e
    rcases hP.ext i x e with h | ⟨h1, h2, h3⟩
    · exact .inl h
    · exact .inr ⟨h1, Nat.lt_of_lt_of_le h2 hn, h3⟩
  · intro i o u hi h1 h2
    rw [hget i (Nat.lt_of_lt_of_le hi hP.len)] at h1
    exact hP.live i o u hi h1 h2
  · intro i hi hs
    rw [hget i (Nat.lt_of_lt_of_le hi hP.len)]
    exact hP.unb i hi hs
  · intro i x e; exact Nat.lt_of_lt_of_le (hP.rel.dom i x e) hn
  · intro i o u x h1 h2 h3
    rw [hget i (hP.rel.dom i x h3)] at h1
    exact hP.rel.obj i o u x h1 h2 h3
  · intro i j o u o' u' x y h1 h2 h3 h4 h5 h6 h7
    rw [hget i (hP.rel.dom i x h5)] at h1
    rw [hget j (hP.rel.dom j y h6)] at h3
    exact hP.rel.inj i j o u o' u' x y h1 h2 h3 h4 h5 h6 h7
theorem Post.born (hP : Post P s0 H0 w0 s Hg w) {id : Nat} {ob o' : Obj} (hid : H0.n ≤ id) (hlt : id < Hg.n) (hs : s id = none) (hg : Hg.get id = some (ob, false)) (ho : OR P (upd s id (w.heap.size, 0)) 0 false ob o') :
    Post P s0 H0 w0 (upd s id (w.heap.size, 0)) Hg { w with heap := w.heap.push o' } := by
  have hle : s.le (upd s id (w.heap.size, 0)) := fun j y e => by
    unfold upd
    by_cases hj : j = id
    · subst hj; rw [hs] at e; cases e
    · rw [if_neg hj]; exact e
  have hlt2 : ∀ j o u y, Hg.get j = some (o, u) → Live o → s j = some y → y.1 < w.heap.size := fun j o u y h1 h2 h3 => by
    obtain ⟨o2, h4, _⟩ := hP.rel.obj j o u y h1 h2 h3
    exact (Array.getElem?_eq_some_iff.1 h4).1
  refine ⟨hP.le.trans hle, ?_, hP.len, ?_, ?_, hP.os, hP.tape, hP.output, hP.live, hP.unb, ⟨hP.rel.ok, ?_, ?_, ?_, fun y e => hle 0 y (hP.rel.base y e)⟩⟩
  · intro i x e
    by_cases hi : i = id
    · subst hi; rw [upd_same] at e; cases e; exact .inr ⟨hid, hlt, .inl hP.size⟩
    · rw [upd_other s hi] at e; exact hP.ext i x e
  · intro b hb hn
    show (w.heap.push o')[b]? = _
    have := hP.size
    rw [Array.getElem?_push, if_neg (by omega)]
    exact hP.keep b hb hn
  · show w0.heap.size ≤ (w.heap.push o').size
    have := hP.size
    simp; omega
  · intro i x e
    by_cases hi : i = id
    · subst hi; exact hlt
    · rw [upd_other s hi] at e; exact hP.rel.dom i x e
  · intro i o u x h1 h2 h3
    by_cases hi : i = id
    · subst hi
      rw [hg] at h1
      cases h1
      rw [upd_same] at h3
      cases h3
      refine ⟨o', ?_, ho⟩
      show (w.heap.push o')[w.heap.size]? = _
      simp
    · rw [upd_other s hi] at h3
      obtain ⟨o3, h4, h5⟩ := hP.rel.obj i o u x h1 h2 h3
      refine ⟨o3, ?_, h5.mono hle⟩
      show (w.heap.push o')[x.1]? = _
      have := (Array.getElem?_eq_some_iff.1 h4).1
      rw [Array.getElem?_push, if_neg (by omega)]
      exact h4
  · intro i j o u o2 u2 x y h1 h2 h3 h4 h5 h6 h7
    by_cases hi : i = id
    · by_cases hj : j = id
      · rw [hi, hj]
      · subst hi
        rw [upd_same] at h5
        cases h5
        rw [upd_other s hj] at h6
        have := hlt2 j o2 u2 y h3 h4 h6
        simp at h7
        omega
    · rw [upd_other s hi] at h5
      by_cases hj : j = id
      · subst hj
        rw [upd_same] at h6
        cases h6
        have := hlt2 i o u x h1 h2 h5
        simp at h7
        omega
      · rw [upd_other s hj] at h6
        exact hP.rel.inj i j o u o2 u2 x y h1 h2 h3 h4 h5 h6 h7
end
theorem putC_same {arr : Array Value} {t : Tmp} {v : Value} (h : t < arr.size) : (putC arr (some t) v).getD t undef = v := by simp [putC, h]
theorem putC_other {arr : Array Value} {d : Option Tmp} {t : Tmp} {v : Value} (h : d ≠ some t) : (putC arr d v).getD t undef = arr.getD t undef := by
  cases d with
  | none => rfl
  | some d =>
    have hd : d ≠ t := fun e => h (by rw [e])
    simp only [putC, Array.getD_eq_getD_getElem?, Array.getElem?_setIfInBounds_ne hd]
theorem putC_size {arr : Array Value} {d : Option Tmp} {v : Value} : (putC arr d v).size = arr.size := by cases d <;> simp [putC]
theorem effL_sorted {P : Program} : ∀ {ops : List Oper} {i0 : Nat}, (effL P ops i0).Pairwise (· < ·)
  | [], _ => .nil
  | x :: r, i0 => by
    unfold effL
    split
    · refine .cons (fun e he => ?_) effL_sorted
      obtain ⟨i, o, h1, _⟩ := effL_mem.1 he
      omega
    · exact effL_sorted
structure Inv (P : Program) (orc : Orc) (rec : Rec) (L : List Oper) (bs : List Nat) (n : Nat) (tmF : Tm) (HF : Hp) (s0 : Sg) (H0 : Hp) (w0 : World) (listed : Array Bool) (s : Sg) (arr : Array Value) (w : World) (es' : List Nat) (past : Nat) (tmg : Tm) (Hg : Hp) (pend : List (Nat × Nat)) : Prop where
  gap : Gap P orc rec L bs tmF HF es' past tmg Hg pend
  post : Post P s0 H0 w0 s Hg w
  lsize : listed.size = L.length
  closed : ∀ i b, listed.getD i false = true → bs[i]? = some b → ∀ j, Nat.testBit b j = true → listed.getD j false = true
  left : ∀ e ∈ es', listed.getD e false = false
  effs : ∀ i o, L[i]? = some o → kind P o.op = 3 → listed.getD i false = false → i ∈ es'
  suf : ∃ a, effL P L 0 = a ++ es'
  past : ∀ i, Nat.testBit past i = true → listed.getD i false = true
  size : arr.size = n
  tms : ∀ t, (∃ j o, L[j]? = some o ∧ o.dst = some t ∧ listed.getD j false = false ∧ kind P o.op ≠ 3) ∨ V s (look tmg t) (arr.getD t undef)
  pends : ∀ j id, (j, id) ∈ pend → H0.n ≤ id ∧ id < Hg.n ∧ (listed.getD j false = false → s id = none)
  sorted : pend.Pairwise (fun a b => a.2 < b.2)
theorem set_self {listed : Array Bool} {i : Nat} (h : i < listed.size) : (listed.setIfInBounds i true).getD i false = true := by simp [h]
theorem set_other {listed : Array Bool} {i j : Nat} (h : j ≠ i) : (listed.setIfInBounds i true).getD j false = listed.getD j false := getD_set_ne false (Ne.symm h)
theorem set_false {listed : Array Bool} {i j : Nat} (h : (listed.setIfInBounds i true).getD j false = false) (hi : i < listed.size) : j ≠ i ∧ listed.getD j false = false := by
  by_cases e : j = i
  · subst e; rw [set_self hi] at h; cases h
  · rw [set_other e] at h; exact ⟨e, h⟩
theorem set_mono {listed : Array Bool} {i j : Nat} (h : listed.getD j false = true) : (listed.setIfInBounds i true).getD j false = true := getD_set_true h
theorem defer_kind {P : Program} {op : Op} (h : isDefer op = true) : kind P op = 1 := by cases op <;> first | (cases h; done) | rfl
end Go.Ev
end

/- An evaluator for closed runs: drawn regions: whichever comes up. -/
section
set_option linter.unusedSimpArgs false
set_option linter.unusedVariables false
set_option linter.unusedSectionVars false
namespace Go.Ev
variable [Inhabited Env]
section
variable {P : Program} {orc : Orc} {rec : Rec} {ops : Array Oper} {bs : List Nat} {n : Nat} {tmF : Tm} {HF : Hp} {s0 : Sg} {H0 : Hp} {w0 : World} {listed : Array Bool} {s : Sg} {arr : Array Value} {w : World} {es' : List Nat} {past : Nat} {tmg : Tm} {Hg : Hp} {pend : List (Nat × Nat)}
/-- what one that does nothing leaves -/
theorem inv_quiet (inv : Inv P orc rec ops.toList bs n tmF HF s0 H0 w0 listed s arr w es' past tmg Hg pend) {i : Nat} {o : Oper} {b : Nat} (ho : ops.toList[i]? = some o) (hb : bs[i]? = some b) (hil : i < listed.size) (hk : kind P o.op ≠ 3) (hpre : ∀ j, Nat.testBit b j = true → listed.getD j false = true) (hdn : ∀ d, o.dst = some d → d < n)
    {s1 : Sg} {w1 : World} {v' : Value} (hpost : Post P s0 H0 w0 s1 Hg w1) (hle : s.le s1) (hv : ∀ d, o.dst = some d → V s1 (look tmg d) v') (hp : ∀ j id, (j, id) ∈ pend → j ≠ i → s id = none → s1 id = none) :
    Inv P orc rec ops.toList bs n tmF HF s0 H0 w0 (listed.setIfInBounds i true) s1 (putC arr o.dst v') w1 es' past tmg Hg pend := by
  refine ⟨inv.gap, hpost, by simp [inv.lsize], ?_, ?_, ?_, inv.suf, fun j hj => set_mono (inv.past j hj), by rw [putC_size]; exact inv.size, ?_, ?_, inv.sorted⟩
  · intro j c hj hc x hx
    by_cases e : j = i
    · subst e; rw [hb] at hc; cases hc; exact set_mono (hpre x hx)
    · rw [set_other e] at hj; exact set_mono (inv.closed j c hj hc x hx)
  · intro e he
    have : e ≠ i := fun h => by
      subst h
      obtain ⟨a, ha⟩ := inv.suf
      obtain ⟨i2, o2, h1, h2, h3⟩ := effL_mem.1 (show e ∈ effL P ops.toList 0 by rw [ha]; exact List.mem_append_right _ he)
      rw [Nat.zero_add] at h1
      subst h1
      rw [ho] at h2
      cases h2
      exact hk h3
    rw [set_other this]; exact inv.left e he
  · intro j o2 h1 h2 h3
    exact inv.effs j o2 h1 h2 (set_false h3 hil).2
  · intro t
    by_cases hd : o.dst = some t
    · right
      rw [hd, putC_same (by rw [inv.size]; exact hdn t hd)]
      exact hv t hd
    · rw [putC_other hd]
      rcases inv.tms t with ⟨j, o2, h1, h2, h3, h4⟩ | h
      · left
        refine ⟨j, o2, h1, h2, ?_, h4⟩
        rw [set_other]
        · exact h3
        · intro e; subst e; rw [ho] at h1; cases h1; exact hd h2
      · exact .inr (h.mono hle)
  · intro j id hj
    obtain ⟨h1, h2, h3⟩ := inv.pends j id hj
    exact ⟨h1, h2, fun hl => by obtain ⟨q1, q2⟩ := set_false hl hil; exact hp j id hj q1 (h3 q2)⟩
theorem pred_of {e i : Nat} {es2 : List Nat} (h : i ∈ es2) : ∃ pre p post, e :: es2 = pre ++ p :: i :: post := by
  obtain ⟨c, d, rfl⟩ := List.append_of_mem h
  rcases List.eq_nil_or_concat c with rfl | ⟨c2, p, rfl⟩
  · exact ⟨[], e, d, rfl⟩
  · exact ⟨e :: c2, p, d, by simp⟩
set_option maxHeartbeats 2000000 in
theorem inv_step (hO : OrcS P orc) (hS : Snd P rec) (hR0 : R P s0 H0 w0) (htidy : tidyL P ops.toList bs n ops.toList bs 0 = true) (honce : onceOK ops.toList = true) (hchain : chainOK bs (effL P ops.toList 0) = true)
    (inv : Inv P orc rec ops.toList bs n tmF HF s0 H0 w0 listed s arr w es' past tmg Hg pend) {i : Nat} (hi : i ∈ Region.ready .any ops listed) (f : FuncId) (rest : List Nat) (k : List Item) (d : List Deferred) (r : Option Nat) (cs : List Frame) :
    ∃ s1 arr1 w1 es1 past1 tm1 H1 pend1, Steps P (lone (mk f arr (.inRegion ops (i :: rest) :: k) d r) cs w) (lone (mk f arr1 (.inRegion ops rest :: k) d r) cs w1) ∧
      Inv P orc rec ops.toList bs n tmF HF s0 H0 w0 (listed.setIfInBounds i true) s1 arr1 w1 es1 past1 tm1 H1 pend1 := by
  obtain ⟨hun, o, ho0, hdeps⟩ := mem_ready.1 hi
  have ho : ops.toList[i]? = some o := by simpa using ho0
  have hlt : i < ops.toList.length := (List.getElem?_eq_some_iff.1 ho).1
  have hil : i < listed.size := by rw [inv.lsize]; exact hlt
  have hunf : listed.getD i false = false := by simpa [hil] using hun
  obtain ⟨b, hb, hty⟩ := tidyL_mem htidy i o ho
  rw [Nat.zero_add] at hty
  unfold tidyO at hty
  obtain ⟨hty, t5⟩ := and2 hty
  obtain ⟨hty, t4⟩ := and2 hty
  obtain ⟨t1, t2, t3⟩ := and3 hty
  have t1 := Nat.eq_of_beq_eq_true t1
  have hdn : ∀ d, o.dst = some d → d < n := fun d hd => by rw [hd] at t5; simpa [Nat.blt_eq] using t5
  -- what it leans on has come up
  have hpre : ∀ j, Nat.testBit b j = true → listed.getD j false = true := by
    intro j hj
    rw [t1] at hj
    obtain ⟨e, he, hbd, h | h⟩ := edgeBits_mem hj
    · rw [h]; exact hdeps e (by simpa using he) hbd
    · cases hc : nthL bs e.on with
      | none => rw [hc] at h; simp at h
      | some c =>
        rw [hc] at h
        rw [nthL_eq] at hc
        exact inv.closed e.on c (hdeps e (by simpa using he) hbd) hc j h
  -- what it reads is there
  have hreads : ∀ t, readsOK P t b i ops.toList bs 0 = true → V s (look tmg t) (arr.getD t undef) := by
    intro t ht
    rcases inv.tms t with ⟨j, o2, h1, h2, h3, h4⟩ | h
    · obtain ⟨c, hc, _⟩ := tidyL_mem htidy j o2 h1
      rcases readsOK_mem ht j o2 c h1 hc h2 with h5 | ⟨h5, _⟩
      · rw [Nat.zero_add] at h5
        rw [hpre j h5] at h3; cases h3
      · exact absurd h5 h4
    · exact h
  have hρ : ∀ x ∈ o.op.operands, ∀ v, opA tmg x = some v → V s v (evA arr x) := by
    intro x hx v hv
    cases x with
    | tmp t => cases hv; exact hreads t (tmpsOK_mem t3 (by simpa using hx))
    | const u =>
      cases hc : clo1 u with
      | true => simp only [opA, hc] at hv; cases hv; exact clo1_self hc
      | false => simp only [opA, hc] at hv; cases hv
    | global g => cases hv
    | func g => cases hv; exact V.func.2 ⟨.func g, [], [], rfl, rfl, rfl, rfl⟩
  have hwant : Region.wanted o (yielded ops arr) = wantedA ops.toList o.guard tmg := TmR.wanted (n := n) (fun j wv dd hg hdd => by
    rw [hg] at t4
    simp only [guardOK, hdd] at t4
    exact hreads dd t4)
  have hRg := inv.post.rel
  by_cases hk : kind P o.op = 3
  · -- the next one that does something
    have hmem := inv.effs i o ho hk hunf
    cases es' with
    | nil => cases hmem
    | cons e es2 =>
      have hie : i = e := by
        rcases List.mem_cons.1 hmem with h | h
        · exact h
        · exfalso
          obtain ⟨pre, p, post, hpp⟩ := pred_of (e := e) h
          obtain ⟨a, ha⟩ := inv.suf
          rw [hpp] at ha
          have h1 := chain_mem hchain (a := a ++ pre) (b := post) (e := p) (f := i) (by rw [ha]; simp)
          rw [nthL_eq, hb] at h1
          have h2 := hpre p h1
          have h3 := inv.left p (by rw [hpp]; simp)
          rw [h2] at h3; cases h3
      subst hie
      obtain ⟨tm2, H2, heff, hst⟩ := inv.gap.next i es2 rfl
      obtain ⟨tmg2, Hg2, pend2, hq, hgap2⟩ := stages_gap hst
      -- the step
      have hstep : ∃ v v' s1 w1, tm2 = putA tmg o.dst v ∧ Steps P (lone (mk f arr (.inRegion ops (i :: rest) :: k) d r) cs w) (lone (mk f (putC arr o.dst v') (.inRegion ops rest :: k) d r) cs w1) ∧ V s1 v v' ∧ Post P s Hg w s1 H2 w1 := by
        have hnth : nthL ops.toList i = some o := by rw [nthL_eq]; exact ho
        rw [hnth] at heff
        unfold effO at heff
        simp only [] at heff
        split at heff
        · rename_i hw
          unfold effR at heff
          split at heff
          · rename_i v H3 hsub
            cases heff
            obtain ⟨s1, v', w1, q1, q2, q3⟩ := op_run hO hS hRg hsub hρ (f := f) (rest := rest) (k := k) (d := d) (r := r) ho0 (by rw [hwant]; exact hw) cs
            exact ⟨v, v', s1, w1, rfl, q1, q2, q3⟩
          · cases heff
        · rename_i hw
          cases heff
          exact ⟨undef, undef, s, w, rfl, .one (st_unwanted ho0 (by rw [hwant]; exact hw)), V.undef.2 rfl, .refl hRg⟩
      obtain ⟨v, v', s1, w1, etm, hsteps, hvv, hpost1⟩ := hstep
      have hjs : ∀ j ∈ nowL P (bitsOf es2) (some i) ops.toList bs 0, ∀ o2, ops.toList[j]? = some o2 → kind P o2.op ≠ 3 ∧ listed.getD j false = false ∧ j ≠ i := by
        intro j hj o2 h1
        obtain ⟨j2, o3, c, e1, e2, e3, e4, _, e5⟩ := nowL_mem hj
        rw [Nat.zero_add] at e1
        subst e1
        rw [h1] at e2
        cases e2
        have hbit := e5 i rfl
        refine ⟨e4, ?_, fun e => by subst e; rw [ho] at h1; cases h1; exact e4 hk⟩
        cases hl : listed.getD j false with
        | false => rfl
        | true =>
          have := inv.closed j c hl e3 i hbit
          rw [hunf] at this; cases this
      obtain ⟨g1, g2, g3, g4, q, g5, g6, g7⟩ := quietL_facts hq (fun j hj o2 h => (hjs j hj o2 h).1) hpost1.rel.ok
      have hpostF : Post P s0 H0 w0 s1 Hg2 w1 := (inv.post.trans hpost1 hR0).unborn g1 g2 g3
      have hsnone : ∀ id, id < Hg.n → s id = none → s1 id = none := by
        intro id hid hs
        cases e : s1 id with
        | none => rfl
        | some x =>
          rcases hpost1.ext id x e with h | ⟨h, _, _⟩
          · rw [hs] at h; cases h
          · omega
      obtain ⟨a, ha⟩ := inv.suf
      have hnd : ∀ x ∈ es2, x ≠ i := by
        intro x hx e
        subst e
        have hs := effL_sorted (P := P) (ops := ops.toList) (i0 := 0)
        rw [ha] at hs
        have hs2 := (List.pairwise_append.1 hs).2.1
        cases hs2 with
        | cons h1 _ => exact absurd (h1 x hx) (Nat.lt_irrefl _)
      refine ⟨s1, putC arr o.dst v', w1, es2, _, tmg2, Hg2, pend2, hsteps, hgap2, hpostF, by simp [inv.lsize], ?_, ?_, ?_, ⟨a ++ [i], by rw [ha]; simp⟩, ?_, by rw [putC_size]; exact inv.size, ?_, ?_, ?_⟩
      · intro j c hj hc x hx
        by_cases e : j = i
        · subst e; rw [hb] at hc; cases hc; exact set_mono (hpre x hx)
        · rw [set_other e] at hj; exact set_mono (inv.closed j c hj hc x hx)
      · intro x hx
        rw [set_other (hnd x hx)]
        exact inv.left x (by simp [hx])
      · intro j o2 h1 h2 h3
        obtain ⟨q1, q2⟩ := set_false h3 hil
        rcases List.mem_cons.1 (inv.effs j o2 h1 h2 q2) with h | h
        · exact absurd h q1
        · exact h
      · intro j hj
        rw [bit_lor, bit_lor, bit_one, Bool.or_eq_true, Bool.or_eq_true] at hj
        rcases hj with hj | hj | hj
        · exact set_mono (inv.past j hj)
        · have := of_decide_eq_true hj; subst this; exact set_self hil
        · rw [nthL_eq, hb] at hj; exact set_mono (hpre j hj)
      · intro t
        by_cases hex : ∃ j ∈ nowL P (bitsOf es2) (some i) ops.toList bs 0, ∃ o2, ops.toList[j]? = some o2 ∧ o2.dst = some t
        · obtain ⟨j, hj, o2, h1, h2⟩ := hex
          obtain ⟨q1, q2, q3⟩ := hjs j hj o2 h1
          exact .inl ⟨j, o2, h1, h2, by rw [set_other q3]; exact q2, q1⟩
        · have hlk : look tmg2 t = look tm2 t := g4 t (fun j hj o2 h1 h2 => hex ⟨j, hj, o2, h1, h2⟩)
          rw [hlk, etm]
          by_cases hd : o.dst = some t
          · right
            rw [hd, putC_same (by rw [inv.size]; exact hdn t hd), look_put_same]
            exact hvv
          · rw [putC_other hd, look_put hd]
            rcases inv.tms t with ⟨j, o2, h1, h2, h3, h4⟩ | h
            · left
              refine ⟨j, o2, h1, h2, ?_, h4⟩
              rw [set_other]
              · exact h3
              · intro e; subst e; rw [ho] at h1; cases h1; exact h4 hk
            · exact .inr (h.mono hpost1.le)
      · intro j id hj
        rw [g5] at hj
        rcases List.mem_append.1 hj with hj | hj
        · obtain ⟨h1, h2, h3⟩ := inv.pends j id hj
          refine ⟨h1, Nat.lt_of_lt_of_le h2 (Nat.le_trans hpost1.len g1), fun hl => hsnone id h2 (h3 (set_false hl hil).2)⟩
        · obtain ⟨h1, h2⟩ := g6 (j, id) hj
          simp only at h1 h2
          refine ⟨Nat.le_trans (Nat.le_trans inv.post.len hpost1.len) h1, h2, fun _ => ?_⟩
          cases e : s1 id with
          | none => rfl
          | some x => have := hpost1.rel.dom id x e; omega
      · rw [g5, List.pairwise_append]
        refine ⟨inv.sorted, g7, fun x hx y hy => ?_⟩
        have h1 := (inv.pends x.1 x.2 hx).2.1
        have h2 := (g6 y hy).1
        have h3 := hpost1.len
        omega
  · -- one that does nothing
    have helig : Nat.beq (Nat.land b (bitsOf es')) 0 = true := land_zero.2 fun j h1 h2 => by
      have h3 := hpre j h1
      have h4 := inv.left j (bitsOf_mem.1 h2)
      rw [h3] at h4; cases h4
    have hpast : Nat.testBit past (0 + i) = false := by
      rw [Nat.zero_add]
      cases h : Nat.testBit past i with
      | false => rfl
      | true => have := inv.past i h; rw [hunf] at this; cases this
    have hag := againL_mem inv.gap.again i o b ho hb hk helig hpast
    rw [Nat.zero_add] at hag
    unfold againO at hag
    split at hag
    · rename_i hw
      have hw2 : Region.wanted o (yielded ops arr) = true := by rw [hwant]; exact hw
      split at hag
      · rename_i h2
        have h2 := Nat.eq_of_beq_eq_true h2
        split at hag
        · rename_i dd hdd
          unfold newAt at hag
          split at hag
          · rename_i id hid
            obtain ⟨hns, hp⟩ := and2 hag
            have hp := hasP_mem hp
            obtain ⟨p1, p2, p3⟩ := inv.pends i id hp
            have hs := p3 hunf
            unfold newSame at hns
            split at hns
            · rename_i v ob ob' hnew hget
              obtain ⟨q1, q2⟩ := and2 hns
              have q1 := same1_eq q1
              have q2 := cellsSame_eq q2
              subst q2
              obtain ⟨v', o', r1, r2, r3⟩ := alloc_local (P := P) (w := w) (ρ := evA arr) h2 hnew hρ hs
              have hdf : isDefer o.op = false := by
                cases hq : isDefer o.op with
                | false => rfl
                | true => rw [defer_kind hq] at h2; cases h2
              have hpost := inv.post.born p1 p2 hs hget r3
              have hle : s.le (upd s id (w.heap.size, 0)) := fun j y e => by
                unfold upd
                by_cases hj : j = id
                · subst hj; rw [hs] at e; cases e
                · rw [if_neg hj]; exact e
              refine ⟨_, putC arr o.dst v', _, es', past, tmg, Hg, pend, .one ?_, inv_quiet inv ho hb hil hk hpre hdn hpost hle (fun d hd => ?_) (fun j id2 hj hne hs2 => ?_)⟩
              · rw [← mk_finish ho0]
                exact step_lone_go (by rw [stG_op ho0 hw2 hdf]; exact ap_value r1)
              · rw [hdd] at hd; cases hd; rw [← q1]; exact r2
              · rw [upd_other]
                · exact hs2
                · intro e; subst e; exact hne (pw_inj inv.sorted hj hp)
            · cases hns
          · cases hag
        · cases hag
      · rename_i h2
        have h2 := beq_false h2
        unfold lookD at hag
        split at hag
        · rename_i v H2 hx
          obtain ⟨e, _⟩ := kind_look hx hk h2
          subst e
          have hsub : sub P orc rec (execF P tmg o.type o.op H2) = some (v, H2) := by rw [hx]; rfl
          obtain ⟨s1, v', w1, q1, q2, q3⟩ := op_run hO hS hRg hsub hρ (f := f) (rest := rest) (k := k) (d := d) (r := r) ho0 hw2 cs
          refine ⟨s1, putC arr o.dst v', w1, es', past, tmg, H2, pend, q1, inv_quiet inv ho hb hil hk hpre hdn (inv.post.trans q3 hR0) q3.le (fun d hd => ?_) (fun j id hj _ hs => ?_)⟩
          · rw [hd] at hag
            simp only [] at hag
            rw [← same1_eq hag]; exact q2
          · cases e : s1 id with
            | none => rfl
            | some x =>
              rcases q3.ext id x e with h | ⟨h3, h4, _⟩
              · rw [hs] at h; cases h
              · omega
        · cases hag
    · rename_i hw
      have hw2 : Region.wanted o (yielded ops arr) = false := by rw [hwant]; exact hw
      refine ⟨s, putC arr o.dst undef, w, es', past, tmg, Hg, pend, .one (st_unwanted ho0 hw2), inv_quiet inv ho hb hil hk hpre hdn inv.post (Sg.le.refl s) (fun d hd => ?_) (fun _ _ _ _ hs => hs)⟩
      rw [hd] at hag
      simp only [] at hag
      rw [same1_eq hag]; exact V.undef.2 rfl
end
end Go.Ev
end

/- An evaluator for closed runs: it is sound. -/
section
set_option linter.unusedSimpArgs false
set_option linter.unusedVariables false
set_option linter.unusedSectionVars false
namespace Go.Ev
variable [Inhabited Env]
def cnt (listed : Array Bool) : Nat → Nat
  | 0 => 0
  | n + 1 => cnt listed n + (if listed.getD n false = true then 0 else 1)
theorem cnt_same {listed : Array Bool} {i : Nat} : ∀ {n : Nat}, n ≤ i → cnt (listed.setIfInBounds i true) n = cnt listed n
  | 0, _ => rfl
  | n + 1, h => by
    unfold cnt
    rw [cnt_same (by omega), set_other (by omega)]
theorem cnt_set {listed : Array Bool} {i : Nat} (hi : i < listed.size) (hu : listed.getD i false = false) : ∀ {n : Nat}, i < n → cnt (listed.setIfInBounds i true) n + 1 = cnt listed n
  | 0, h => by omega
  | n + 1, h => by
    unfold cnt
    by_cases e : i = n
    · subst e
      rw [cnt_same (Nat.le_refl _), set_self hi, hu]
      simp
    · have := cnt_set hi hu (n := n) (by omega)
      rw [set_other (fun h => e h.symm)]
      omega
theorem cnt_zero {listed : Array Bool} : ∀ {n : Nat}, cnt listed n = 0 → ∀ j, j < n → listed.getD j false = true
  | 0, _, j, hj => by omega
  | n + 1, h, j, hj => by
    unfold cnt at h
    by_cases e : j = n
    · subst e
      by_cases hl : listed.getD j false = true
      · exact hl
      · rw [if_neg hl] at h; omega
    · exact cnt_zero (n := n) (by omega) j (by omega)
theorem cnt_rep {m : Nat} : ∀ {n : Nat}, cnt (Array.replicate m false) n = n
  | 0 => rfl
  | n + 1 => by
    unfold cnt
    rw [cnt_rep]
    have : (Array.replicate m false).getD n false = false := by
      rw [Array.getD_eq_getD_getElem?, Array.getElem?_replicate]
      split <;> rfl
    rw [this]; simp
section
variable {P : Program} {orc : Orc} {rec : Rec} {ops : Array Oper} {bs : List Nat} {n : Nat} {tmF : Tm} {HF : Hp} {s0 : Sg} {H0 : Hp} {w0 : World}
theorem inv_end {listed : Array Bool} {s : Sg} {arr : Array Value} {w : World} {es' : List Nat} {past : Nat} {tmg : Tm} {Hg : Hp} {pend : List (Nat × Nat)} (inv : Inv P orc rec ops.toList bs n tmF HF s0 H0 w0 listed s arr w es' past tmg Hg pend)
    (hall : ∀ j, j < ops.toList.length → listed.getD j false = true) : TmR s n tmF arr ∧ Post P s0 H0 w0 s HF w := by
  have hes : es' = [] := by
    cases es' with
    | nil => rfl
    | cons e es2 =>
      exfalso
      obtain ⟨a, ha⟩ := inv.suf
      obtain ⟨i, o, h1, h2, _⟩ := effL_mem.1 (show e ∈ effL P ops.toList 0 by rw [ha]; simp)
      rw [Nat.zero_add] at h1
      subst h1
      have h3 := hall e (List.getElem?_eq_some_iff.1 h2).1
      have h4 := inv.left e (by simp)
      rw [h3] at h4; cases h4
  obtain ⟨e1, e2⟩ := inv.gap.done hes
  refine ⟨⟨inv.size, fun t => ?_⟩, by rw [← e2]; exact inv.post⟩
  rcases inv.tms t with ⟨j, o, h1, _, h3, _⟩ | h
  · have := hall j (List.getElem?_eq_some_iff.1 h1).1
    rw [this] at h3; cases h3
  · rw [← e1]; exact h
theorem any_run (hO : OrcS P orc) (hS : Snd P rec) (hR0 : R P s0 H0 w0) (htidy : tidyL P ops.toList bs n ops.toList bs 0 = true) (honce : onceOK ops.toList = true) (hchain : chainOK bs (effL P ops.toList 0) = true) (f : FuncId) (k : List Item) (d : List Deferred) (r : Option Nat) (cs : List Frame) :
    ∀ (fuel t : Nat) (listed : Array Bool) (s : Sg) (arr : Array Value) (w : World) (es' : List Nat) (past : Nat) (tmg : Tm) (Hg : Hp) (pend : List (Nat × Nat)), Inv P orc rec ops.toList bs n tmF HF s0 H0 w0 listed s arr w es' past tmg Hg pend → cnt listed ops.toList.length ≤ fuel →
    ∃ s1 arr1 w1, Steps P (lone (mk f arr (.inRegion ops (Region.linearise.go .any ops fuel t listed []) :: k) d r) cs w) (lone (mk f arr1 (.inRegion ops [] :: k) d r) cs w1) ∧ TmR s1 n tmF arr1 ∧ Post P s0 H0 w0 s1 HF w1 := by
  intro fuel
  induction fuel with
  | zero =>
    intro t listed s arr w es' past tmg Hg pend inv hc
    obtain ⟨h1, h2⟩ := inv_end inv (cnt_zero (by omega))
    exact ⟨s, arr, w, .refl _ _, h1, h2⟩
  | succ fuel ih =>
    intro t listed s arr w es' past tmg Hg pend inv hc
    simp only [Region.linearise.go]
    change ∃ s1 arr1 w1, Steps P (lone (mk f arr (.inRegion ops (match (Region.ready .any ops listed)[t % (Region.ready .any ops listed).length]? with
      | some i => Region.linearise.go .any ops fuel (t / (Region.ready .any ops listed).length) (listed.setIfInBounds i true) [i]
      | none => [].reverse) :: k) d r) cs w) (lone (mk f arr1 (.inRegion ops [] :: k) d r) cs w1) ∧ TmR s1 n tmF arr1 ∧ Post P s0 H0 w0 s1 HF w1
    cases hi : (Region.ready .any ops listed)[t % (Region.ready .any ops listed).length]? with
    | none =>
      have hnil : Region.ready .any ops listed = [] := by
        cases hr : Region.ready .any ops listed with
        | nil => rfl
        | cons x xs =>
          rw [hr] at hi
          have hlt : t % (x :: xs).length < (x :: xs).length := Nat.mod_lt _ (by simp)
          rw [List.getElem?_eq_getElem hlt] at hi
          cases hi
      have hall : ∀ j, j < ops.toList.length → listed.getD j false = true := by
        intro j
        induction j using Nat.strongRecOn with
        | _ j ihj =>
          intro hj
          cases hl : listed.getD j false with
          | true => rfl
          | false =>
            exfalso
            have ho : ops.toList[j]? = some ops.toList[j] := List.getElem?_eq_getElem hj
            obtain ⟨b, hb, hty⟩ := tidyL_mem htidy j _ ho
            rw [Nat.zero_add] at hty
            unfold tidyO at hty
            obtain ⟨hty, t5⟩ := and2 hty
            obtain ⟨hty, t4⟩ := and2 hty
            obtain ⟨t1, t2, t3⟩ := and3 hty
            have hmem : j ∈ Region.ready .any ops listed := mem_ready.2 ⟨by
              have : j < listed.size := by rw [inv.lsize]; exact hj
              simpa [this] using hl, ops.toList[j], by simp, fun e he hbd => by
              have hlt := backE_mem t2 (by simpa using he) hbd
              exact ihj e.on hlt (by omega)⟩
            rw [hnil] at hmem
            cases hmem
      obtain ⟨h1, h2⟩ := inv_end inv hall
      exact ⟨s, arr, w, .refl _ _, h1, h2⟩
    | some i =>
      have hmem := List.mem_of_getElem? hi
      obtain ⟨hun, o, ho0, _⟩ := mem_ready.1 hmem
      have ho : ops.toList[i]? = some o := by simpa using ho0
      have hlt : i < ops.toList.length := (List.getElem?_eq_some_iff.1 ho).1
      have hil : i < listed.size := by rw [inv.lsize]; exact hlt
      have hunf : listed.getD i false = false := by simpa [hil] using hun
      simp only []
      rw [linearise_go_acc, List.reverse_singleton, List.singleton_append]
      obtain ⟨s1, arr1, w1, es1, past1, tm1, H1, pend1, hst, inv1⟩ := inv_step hO hS hR0 htidy honce hchain inv hmem f (Region.linearise.go .any ops fuel (t / (Region.ready .any ops listed).length) (listed.setIfInBounds i true) []) k d r cs
      have hcs := cnt_set hil hunf hlt
      obtain ⟨s2, arr2, w2, h1, h2, h3⟩ := ih (t / (Region.ready .any ops listed).length) _ s1 arr1 w1 es1 past1 tm1 H1 pend1 inv1 (by omega)
      exact ⟨s2, arr2, w2, hst.trans h1, h2, h3⟩
end
theorem drawn_sound {P : Program} {orc : Orc} {rec : Rec} (hO : OrcS P orc) (hS : Snd P rec) : SndD P orc rec := by
  intro ops n tm H tm' H' he s w arr hR ht t f k d r cs
  unfold drawn drawn1 drawn2 at he
  split at he
  · rename_i hc
    obtain ⟨c1, c2, c3⟩ := and3 hc
    obtain ⟨tmg, Hg, pend, hq, hgap⟩ := stages_gap he
    have hk : ∀ j ∈ nowL P (bitsOf (effL P ops.toList 0)) none ops.toList (beforeL ops.toList []) 0, ∀ o, ops.toList[j]? = some o → kind P o.op ≠ 3 := by
      intro j hj o ho
      obtain ⟨j2, o2, c, e1, e2, _, e4, _⟩ := nowL_mem hj
      rw [Nat.zero_add] at e1
      subst e1
      rw [ho] at e2; cases e2; exact e4
    obtain ⟨g1, g2, g3, g4, q, g5, g6, g7⟩ := quietL_facts hq hk hR.ok
    have hrep : ∀ j, (Array.replicate ops.size false).getD j false = false := fun j => by
      rw [Array.getD_eq_getD_getElem?, Array.getElem?_replicate]
      split <;> rfl
    have inv : Inv P orc rec ops.toList (beforeL ops.toList []) n tm' H' s H w (Array.replicate ops.size false) s arr w (effL P ops.toList 0) 0 tmg Hg pend := by
      refine ⟨hgap, (Post.refl hR).unborn g1 g2 g3, by simp, ?_, fun e _ => hrep e, ?_, ⟨[], rfl⟩, ?_, ht.1, ?_, ?_, ?_⟩
      · intro i b hi; rw [hrep] at hi; cases hi
      · intro i o h1 h2 _; exact effL_mem.2 ⟨i, o, by omega, h1, h2⟩
      · intro i hi; simp at hi
      · intro t2
        by_cases hex : ∃ j ∈ nowL P (bitsOf (effL P ops.toList 0)) none ops.toList (beforeL ops.toList []) 0, ∃ o2, ops.toList[j]? = some o2 ∧ o2.dst = some t2
        · obtain ⟨j, hj, o2, h1, h2⟩ := hex
          exact .inl ⟨j, o2, h1, h2, hrep j, hk j hj o2 h1⟩
        · right
          rw [g4 t2 (fun j hj o2 h1 h2 => hex ⟨j, hj, o2, h1, h2⟩)]
          exact ht.2 t2
      · intro j id hj
        rw [g5, List.nil_append] at hj
        obtain ⟨h1, h2⟩ := g6 (j, id) hj
        refine ⟨h1, h2, fun _ => ?_⟩
        cases e : s id with
        | none => rfl
        | some x => have := hR.dom id x e; simp only at h1; omega
      · rw [g5, List.nil_append]; exact g7
    exact any_run hO hS hR c1 c2 c3 f k d r cs ops.size t _ s arr w _ 0 tmg Hg pend inv (by rw [cnt_rep]; simp)
  · cases he
/-- **The evaluator is sound.** -/
theorem evalF_sound {P : Program} {orc : Orc} (hm : P.follows .mixedOrders = true) (hO : OrcS P orc) : ∀ F, Snd P (evalF P orc F)
  | 0 => fun fn rnd n tm todo ds H v H' he => by cases he
  | F + 1 => stepF_sound hm hO (evalF_sound hm hO F) (drawn_sound hO (evalF_sound hm hO F))
/-- A call, from any heap of the evaluator. -/
theorem call_sound {P : Program} {orc : Orc} (hm : P.follows .mixedOrders = true) (hO : OrcS P orc) {F : Nat} {f : FuncId} {args : List Value} {H : Hp} {v : Value} {H' : Hp} (he : evalCall P orc F f args H = some (v, H')) {s : Sg} {w : World} (hR : R P s H w) {args' : List Value} (ha : VL s args args') :
    Calls P f ⟨args'⟩ w fun e w' => ∃ s' v', e = .returned v' ∧ V s' v v' ∧ Post P s H w s' H' w' := by
  intro cs
  unfold evalCall enterN at he
  split at he
  · rename_i g hg
    unfold enterB at he
    split at he
    · rename_i cd hc
      split at he
      · rename_i hb
        have hb := Nat.le_of_ble_eq_true hb
        have hg2 : P.funcs[f]? = some g := by rw [nthL_eq] at hg; simpa using hg
        obtain ⟨s', v', w', ⟨t, td, g', e1, e2, e3⟩, h2, h3⟩ := evalF_sound hm hO F _ _ _ _ _ _ _ _ _ he s w _ [.code cd] [] none hR (TmR_args ha hb) ⟨_, [], rfl, rfl, rfl⟩ rfl rfl cs
        refine ⟨.returned v', w', gone f t td [], ⟨s', v', rfl, h2, h3⟩, ?_, rfl, rfl, rfl, rfl, g', e1, e2⟩
        rw [enter_mk hg2 hc]
        exact e3
      · cases he
    · cases he
  · cases he
/-- **A closed call: whatever memory it is made in, it says what the evaluator says, and turns nothing that was there.** -/
theorem closed_call {P : Program} {orc : Orc} (hbase : (default : Env).base = none) (hm : P.follows .mixedOrders = true) (hO : OrcS P orc) {F : Nat} {f : FuncId} {v : Value} {H' : Hp} (he : evalCall P orc F f [] ⟨0, []⟩ = some (v, H')) (hv : clo v = true) (w : World) :
    Calls P f #[] w fun e w' => e = .returned v ∧ RowKit.Below w.heap.size w w' := by
  have hR : R P (fun _ => none) ⟨0, []⟩ w := ⟨rfl, fun i x h => (by cases h), fun i o u x h1 h2 h3 => (by cases h3), fun i j o u o' u' x y h1 h2 h3 h4 h5 => (by cases h5), fun x e => by rw [hbase] at e; cases e⟩
  refine (call_sound hm hO he hR (args' := []) rfl).mono ?_
  rintro e w' ⟨s', v', e1, h1, h2⟩
  rw [clo_V hv h1] at e1
  refine ⟨e1, h2.os, h2.tape, h2.output, h2.size, fun k hk => h2.keep k hk ?_⟩
  rintro ⟨i, o, u, x, _, _, h3, _⟩
  cases h3
end Go.Ev
end

/- An evaluator for closed runs: what is known of calls already. -/
section
set_option linter.unusedSimpArgs false
set_option linter.unusedVariables false
set_option linter.unusedSectionVars false
namespace Go.Ev
variable [Inhabited Env]
def noOrc : Orc := fun _ _ _ => none
theorem noOrc_ok {P : Program} : OrcS P noOrc := fun f args H v H' h => by cases h
/-- a call goes back to whoever made it -/
theorem calls_back {P : Program} {f : FuncId} {a : Array Value} {w : World} {Q : Value → World → Prop} (h : Calls P f a w fun e w' => ∃ v, e = .returned v ∧ Q v w') (c : Frame) (cs : List Frame) :
    ∃ v w', Steps P (lone (Frame.enter P f a .normal) (c :: cs) w) (lone (c.finish v) cs w') ∧ Q v w' := by
  obtain ⟨e, w', fr, ⟨v, e1, hq⟩, hc, _, hl⟩ := h (c :: cs)
  subst e1
  exact ⟨v, w', Steps.trans hc (.one (step_leave_returned hl)), hq⟩
def isDead : Obj → Bool
  | .coro none => true
  | _ => false
def sameB (a b : Obj × Bool) : Bool := match a, b with
  | (.coro none, true), (.coro none, true) => true
  | (a, u), (b, v) => cellsSame a b && (u == v)
theorem sameB_eq {a b : Obj × Bool} (h : sameB a b = true) : a = b := by
  unfold sameB at h
  split at h
  · rfl
  · obtain ⟨h1, h2⟩ := and2 h; rw [cellsSame_eq h1, eq_of_beq h2]
/-- the right one has what the left one has, or nothing -/
def fitL : List (Obj × Bool) → List (Obj × Bool) → Bool
  | [], [] => true
  | a :: r, b :: q => (match isDead b.1 with
    | true => fitL r q
    | false => (match sameB a b with | true => fitL r q | false => false))
  | _, _ => false
def sameHL : List (Obj × Bool) → List (Obj × Bool) → Bool
  | [], [] => true
  | a :: r, b :: q => (match sameB a b with | true => sameHL r q | false => false)
  | _, _ => false
theorem sameHL_eq : ∀ {a b : List (Obj × Bool)}, sameHL a b = true → a = b
  | [], [], _ => rfl
  | [], _ :: _, h => by cases h
  | _ :: _, [], h => by cases h
  | x :: a, y :: b, h => by
    unfold sameHL at h
    split at h
    · rename_i hb; rw [sameB_eq hb, sameHL_eq h]
    · cases h
theorem fitL_len : ∀ {a b : List (Obj × Bool)}, fitL a b = true → a.length = b.length
  | [], [], _ => rfl
  | [], _ :: _, h => by cases h
  | _ :: _, [], h => by cases h
  | x :: a, y :: b, h => by
    unfold fitL at h
    split at h
    · simp [fitL_len h]
    · split at h
      · simp [fitL_len h]
      · cases h
theorem fitL_get : ∀ {a b : List (Obj × Bool)} {p : Nat} {o : Obj} {u : Bool}, fitL a b = true → b[p]? = some (o, u) → Live o → a[p]? = some (o, u)
  | [], [], p, o, u, _, h, _ => by simp at h
  | [], _ :: _, p, o, u, h, _, _ => by cases h
  | _ :: _, [], p, o, u, h, _, _ => by cases h
  | x :: a, y :: b, p, o, u, h, h1, h2 => by
    unfold fitL at h
    cases p with
    | zero =>
      simp at h1
      subst h1
      split at h
      · rename_i hd
        exfalso
        cases o <;> first | (cases hd; done) | skip
        rename_i z
        cases z with
        | none => exact h2 none rfl
        | some z => cases hd
      · split at h
        · rename_i hb; rw [sameB_eq hb]; simp
        · cases h
    | succ p =>
      have rest : fitL a b = true := by
        split at h
        · exact h
        · split at h
          · exact h
          · cases h
      simpa using fitL_get rest (by simpa using h1) h2
def fitH (H Hc : Hp) : Bool := Nat.beq H.n Hc.n && fitL H.l Hc.l
theorem fitH_get {H Hc : Hp} (h : fitH H Hc = true) {i : Nat} {o : Obj} {u : Bool} (hg : Hc.get i = some (o, u)) (hl : Live o) : H.get i = some (o, u) := by
  obtain ⟨h1, h2⟩ := and2 h
  have h1 := Nat.eq_of_beq_eq_true h1
  have hi := Hp.get_lt hg
  rw [Hp.get_eq, if_pos hi] at hg
  rw [Hp.get_eq, h1, if_pos hi]
  exact fitL_get h2 hg hl
section
variable {P : Program} {s0 s : Sg} {H0 H Hc : Hp} {w0 w : World}
theorem Post.fit (hP : Post P s0 H0 w0 s H w) (hf : fitH H Hc = true) (ht : ∃ new, Hc.l = new ++ H0.l ∧ Hc.n = H0.n + new.length) (hok0 : H0.l.length = H0.n) : Post P s0 H0 w0 s Hc w := by
  obtain ⟨h1, h2⟩ := and2 hf
  have hn := Nat.eq_of_beq_eq_true h1
  obtain ⟨new, e1, e2⟩ := ht
  have hget0 : ∀ i, i < H0.n → Hc.get i = H0.get i := fun i hi => by
    rw [Hp.get_eq, Hp.get_eq, if_pos hi, if_pos (by omega), e1, List.getElem?_append_right (by omega)]
    congr 1; omega
  refine ⟨hP.le, ?_, by omega, hP.keep, hP.size, hP.os, hP.tape, hP.output, ?_, fun i hi _ => hget0 i hi, ⟨by rw [← hn, ← hP.rel.ok, fitL_len h2], ?_, ?_, ?_, hP.rel.base⟩⟩
  · intro i x e
    rcases hP.ext i x e with h | ⟨g1, g2, g3⟩
    · exact .inl h
    · exact .inr ⟨g1, by omega, g3⟩
  · intro i o u hi g1 g2
    exact hP.live i o u hi (fitH_get hf g1 g2) g2
  · intro i x e; have := hP.rel.dom i x e; omega
  · intro i o u x g1 g2 g3; exact hP.rel.obj i o u x (fitH_get hf g1 g2) g2 g3
  · intro i j o u o' u' x y g1 g2 g3 g4 g5 g6 g7
    exact hP.rel.inj i j o u o' u' x y (fitH_get hf g1 g2) g2 (fitH_get hf g3 g4) g4 g5 g6 g7
theorem Post.still (h : R P s H w) {w' : World} (hk : ∀ b, b < w.heap.size → w'.heap[b]? = w.heap[b]?) (hsz : w.heap.size ≤ w'.heap.size) (h1 : w'.os = w.os) (h2 : w'.tape = w.tape) (h3 : w'.output = w.output) : Post P s H w s H w' := by
  refine ⟨Sg.le.refl s, fun _ _ e => .inl e, Nat.le_refl _, fun b hb _ => hk b hb, hsz, h1, h2, h3, fun _ o u _ g1 g2 => ⟨o, u, g1, g2⟩, fun _ _ _ => rfl, ⟨h.ok, h.dom, ?_, h.inj, h.base⟩⟩
  intro i o u x g1 g2 g3
  obtain ⟨o', g4, g5⟩ := h.obj i o u x g1 g2 g3
  exact ⟨o', by rw [hk x.1 (Array.getElem?_eq_some_iff.1 g4).1]; exact g4, g5⟩
end
/-! one call, from one heap -/
def fitR (r : Option (Value × Hp)) (v : Value) (Hc : Hp) : Bool := match r with
  | some (u, H) => same1 u v && fitH H Hc
  | none => false
def orc1 (f0 : FuncId) (args0 : List Value) (H0 : Hp) (v : Value) (Hc : Hp) : Orc := fun f args H => match Nat.beq f f0 && sameL args args0 && (Nat.beq H.n H0.n && sameHL H.l H0.l) with
  | true => some (v, Hc)
  | false => none
theorem orc1_ok {P : Program} (hm : P.follows .mixedOrders = true) {orc : Orc} (hO : OrcS P orc) {F : Nat} {f0 : FuncId} {args0 : List Value} {H0 Hc : Hp} {v : Value} (he : fitR (evalCall P orc F f0 args0 H0) v Hc = true) (ht : ∃ new, Hc.l = new ++ H0.l ∧ Hc.n = H0.n + new.length) :
    OrcS P (orc1 f0 args0 H0 v Hc) := by
  intro f args H v2 H2 h s w a' hR ha c cs
  unfold orc1 at h
  split at h
  · rename_i hq
    cases h
    obtain ⟨q1, q2, q3⟩ := and3 hq
    obtain ⟨q3, q4⟩ := and2 q3
    have q1 := Nat.eq_of_beq_eq_true q1
    have q2 := sameL_eq q2
    have q3 := Nat.eq_of_beq_eq_true q3
    have q4 := sameHL_eq q4
    have hH : H = H0 := by cases H; cases H0; simp only at q3 q4; rw [q3, q4]
    subst q1 q2 hH
    unfold fitR at he
    split at he
    · rename_i u H' hev
      obtain ⟨e1, e2⟩ := and2 he
      have e1 := same1_eq e1
      subst e1
      have hc := (call_sound hm hO hev hR ha).mono (R' := fun e w' => ∃ v', e = .returned v' ∧ ∃ s', V s' u v' ∧ Post P s H w s' H' w') (by rintro e w' ⟨s', v', h1, h2, h3⟩; exact ⟨v', h1, s', h2, h3⟩)
      obtain ⟨v', w', k1, s', k2, k3⟩ := calls_back hc c cs
      exact ⟨s', v', w', k1, k2, k3.fit e2 ht hR.ok⟩
    · cases he
  · cases h
/-! one call of plain things, from any heap -/
def fitC (r : Option (Value × Hp)) (v : Value) : Bool := match r with
  | some (u, _) => same1 u v && clo v
  | none => false
def orcC (f0 : FuncId) (args0 : List Value) (v : Value) : Orc := fun f args H => match Nat.beq f f0 && sameL args args0 with
  | true => some (v, H)
  | false => none
theorem orcC_ok {P : Program} (hbase : (default : Env).base = none) (hm : P.follows .mixedOrders = true) {orc : Orc} (hO : OrcS P orc) {F : Nat} {f0 : FuncId} {args0 : List Value} {v : Value} (hcl : cloAll args0 = true) (he : fitC (evalCall P orc F f0 args0 ⟨0, []⟩) v = true) : OrcS P (orcC f0 args0 v) := by
  intro f args H v2 H2 h s w a' hR ha c cs
  unfold orcC at h
  split at h
  · rename_i hq
    cases h
    obtain ⟨q1, q2⟩ := and2 hq
    have q1 := Nat.eq_of_beq_eq_true q1
    have q2 := sameL_eq q2
    subst q1 q2
    unfold fitC at he
    split at he
    · rename_i u H' hev
      obtain ⟨e1, e2⟩ := and2 he
      have e1 := same1_eq e1
      subst e1
      have e3 := cloAll_V hcl ha
      subst e3
      have hR0 : R P (fun _ => none) ⟨0, []⟩ w := ⟨rfl, fun i x h => (by cases h), fun i o u x h1 h2 h3 => (by cases h3), fun i j o u o' u' x y h1 h2 h3 h4 h5 => (by cases h5), fun x e => by rw [hbase] at e; cases e⟩
      have hc := (call_sound hm hO hev hR0 (cloAll_self hcl)).mono (R' := fun e w' => ∃ v', e = .returned v' ∧ ∃ s', V s' u v' ∧ Post P (fun _ => none) ⟨0, []⟩ w s' H' w') (by rintro e w' ⟨s', v', h1, h2, h3⟩; exact ⟨v', h1, s', h2, h3⟩)
      obtain ⟨v', w', k1, s', k2, k3⟩ := calls_back hc c cs
      have e4 := clo_V e2 k2
      subst e4
      refine ⟨s, v', w', k1, clo_self e2, Post.still hR (fun b hb => k3.keep b hb ?_) k3.size k3.os k3.tape k3.output⟩
      rintro ⟨i, o, u, x, _, _, h3, _⟩
      cases h3
    · cases he
  · cases h
def orcOr (a b : Orc) : Orc := fun f args H => match a f args H with
  | some r => some r
  | none => b f args H
theorem orcOr_ok {P : Program} {a b : Orc} (ha : OrcS P a) (hb : OrcS P b) : OrcS P (orcOr a b) := by
  intro f args H v H' h
  unfold orcOr at h
  split at h
  · rename_i r hr; cases h; exact ha f args H v H' hr
  · exact hb f args H v H' h
def saysTrue (r : Option (Value × Hp)) : Bool := match r with
  | some (.bool b, _) => b
  | _ => false
theorem closed_true {P : Program} {orc : Orc} (hbase : (default : Env).base = none) (hm : P.follows .mixedOrders = true) (hO : OrcS P orc) {F : Nat} {f : FuncId} (h : saysTrue (evalCall P orc F f [] ⟨0, []⟩) = true) (w : World) :
    Calls P f #[] w fun e w' => e = .returned (.bool true) ∧ RowKit.Below w.heap.size w w' := by
  unfold saysTrue at h
  split at h
  · rename_i b H' he
    subst h
    exact closed_call hbase hm hO he rfl w
  · cases h
end Go.Ev
end

/- An evaluator for runs: unknown whole numbers are handed on; what a call says of them is known beforehand. -/
section
set_option linter.unusedSimpArgs false
set_option linter.unusedVariables false
set_option linter.unusedSectionVars false
namespace Go.Ev
/-- a call of what is known, or of unknowns: it says the same whatever memory it is made in -/
theorem orcU_ok [Inhabited Env] {P : Program} {f0 : FuncId} {args0 a0 : List Value} {v : Value} (hv : clo v = true) (ha : ∀ s a', VL s args0 a' → a' = a0) (hc : ∀ w, Calls P f0 ⟨a0⟩ w fun e w' => e = .returned v ∧ w' = w) : OrcS P (orcC f0 args0 v) := by
  intro f args H v2 H2 h s w a' hR ha' c cs
  unfold orcC at h
  split at h
  · rename_i hq
    cases h
    obtain ⟨q1, q2⟩ := and2 hq
    have q1 := Nat.eq_of_beq_eq_true q1
    have q2 := sameL_eq q2
    subst q1 q2
    have e1 := ha s a' ha'
    subst e1
    have hd := (hc w).mono (R' := fun e w' => ∃ v', e = .returned v' ∧ (v' = v ∧ w' = w)) (by rintro e w' ⟨h1, h2⟩; exact ⟨v, h1, rfl, h2⟩)
    obtain ⟨v', w', k1, k2, k3⟩ := calls_back hd c cs
    subst k2 k3
    exact ⟨s, v', w', k1, clo_self hv, Post.still hR (fun b hb => rfl) (Nat.le_refl _) rfl rfl rfl⟩
  · cases h
/-- **A call of plain things and unknowns: whatever memory it is made in, it says what the evaluator says.** -/
theorem args_true [Inhabited Env] {P : Program} {orc : Orc} (hbase : (default : Env).base = none) (hm : P.follows .mixedOrders = true) (hO : OrcS P orc) {F : Nat} {f : FuncId} {args args' : List Value} (ha : VL (fun _ => none) args args') (h : saysTrue (evalCall P orc F f args ⟨0, []⟩) = true) (w : World) :
    Calls P f ⟨args'⟩ w fun e w' => e = .returned (.bool true) ∧ RowKit.Below w.heap.size w w' := by
  unfold saysTrue at h
  split at h
  · rename_i b H' he
    subst h
    have hR : R P (fun _ => none) ⟨0, []⟩ w := ⟨rfl, fun i x h => (by cases h), fun i o u x h1 h2 h3 => (by cases h3), fun i j o u o' u' x y h1 h2 h3 h4 h5 => (by cases h5), fun x e => by rw [hbase] at e; cases e⟩
    refine (call_sound hm hO he hR ha).mono ?_
    rintro e w' ⟨s', v', e1, h1, h2⟩
    rw [clo_V rfl h1] at e1
    refine ⟨e1, h2.os, h2.tape, h2.output, h2.size, fun k hk => h2.keep k hk ?_⟩
    rintro ⟨i, o, u, x, _, _, h3, _⟩
    cases h3
  · cases h
/-- a place of an unknown -/
theorem two_args [Inhabited Env] {s : Sg} {i : Nat} {n : Int} {a' : List Value} (h : VL s [.chan (some i), .int .i64 n] a') : a' = [.int .i64 ((default : Env).val i), .int .i64 n] := by
  obtain ⟨v', r', h1, ⟨v2, r2, h3, h4, e2⟩, e1⟩ := h
  cases h4
  cases h3
  cases h1
  rw [e1, e2]
end Go.Ev
end

/- An evaluator for closed runs: the same once more, in a form that the kernel reckons in fewer steps. -/
section
set_option linter.unusedSimpArgs false
set_option linter.unusedVariables false
namespace Go.Ev
abbrev lookQ (tm : Tm) (t : Nat) : Value := look tm t
theorem lookQ_eq (tm : Tm) (t : Nat) : lookQ tm t = look tm t := rfl
abbrev nthQ {α : Type} (l : List α) (n : Nat) : Option α := nthL l n
theorem nthQ_eq {α : Type} (l : List α) (n : Nat) : nthQ l n = nthL l n := rfl
def opQ (x : Operand) (tm : Tm) : Option Value := @Operand.casesOn  (fun _ => Tm → Option Value) x (fun t tm => some (lookQ tm t)) (fun v _ => @Bool.casesOn  (fun _ => Option Value) (clo1 v) none (some v)) (fun _ _ => none) (fun f _ => some (.func (.func f) #[] #[])) tm
theorem opQ_eq (x : Operand) (tm : Tm) : opQ x tm = opA tm x := by
  cases x with
  | tmp t => show some (lookQ tm t) = _; rw [lookQ_eq]; rfl
  | const v => show @Bool.casesOn  (fun _ => Option Value) (clo1 v) none (some v) = (match clo1 v with | true => some v | false => none); cases clo1 v <;> rfl
  | global g => rfl
  | func f => rfl
abbrev opsQ (xs : List Operand) (tm : Tm) : Option (List Value) := opsA tm xs
theorem opsQ_eq (xs : List Operand) (tm : Tm) : opsQ xs tm = opsA tm xs := rfl
def u1Q (f : Value → Res) (x : Option Value) : Res := @Option.casesOn Value (fun _ => Res) x none f
def u2Q (f : Value → Value → Res) (x y : Option Value) : Res := @Option.casesOn Value (fun _ => Res) x none (fun x => @Option.casesOn Value (fun _ => Res) y none (f x))
def u3Q (f : Value → Value → Value → Res) (x y z : Option Value) : Res := @Option.casesOn Value (fun _ => Res) x none (fun x => @Option.casesOn Value (fun _ => Res) y none (fun y => @Option.casesOn Value (fun _ => Res) z none (f x y)))
theorem u1Q_eq (f : Value → Res) (x : Option Value) : u1Q f x = u1 f x := by cases x <;> rfl
theorem u2Q_eq (f : Value → Value → Res) (x y : Option Value) : u2Q f x y = u2 f x y := by cases x <;> cases y <;> rfl
theorem u3Q_eq (f : Value → Value → Value → Res) (x y z : Option Value) : u3Q f x y z = u3 f x y z := by cases x <;> cases y <;> cases z <;> rfl
def optQ (x : Option Operand) (tm : Tm) : Option (Option Value) := @Option.casesOn Operand (fun _ => Option (Option Value)) x (some none) (fun x => @Option.casesOn Value (fun _ => Option (Option Value)) (opQ x tm) none (fun v => some (some v)))
theorem optQ_eq (x : Option Operand) (tm : Tm) : optQ x tm = optA tm x := by
  cases x with
  | none => rfl
  | some x =>
    show @Option.casesOn Value (fun _ => Option (Option Value)) (opQ x tm) none (fun v => some (some v)) = _
    rw [opQ_eq]
    show _ = (match opA tm x with | some v => some (some v) | none => none)
    cases opA tm x <;> rfl
abbrev partsQ (l : List (Nat × Operand)) (tm : Tm) : Option (List (Nat × Value)) := partsA tm l
theorem partsQ_eq (l : List (Nat × Operand)) (tm : Tm) : partsQ l tm = partsA tm l := rfl
def callQ (c : Call) (P : Program) (tm : Tm) (ty : TypeId) (H : Hp) : Res :=
  @Callee.casesOn  (fun _ => Call → Program → Tm → TypeId → Hp → Res) c.callee (fun x => @Operand.casesOn  (fun _ => Call → Program → Tm → TypeId → Hp → Res) x (fun t c P tm ty H => fCallV P (some (lookQ tm t)) (opsQ c.args.toList tm) H) (fun v c P tm ty H => fCallV P (opQ (.const v) tm) (opsQ c.args.toList tm) H) (fun g _ _ _ _ _ => none) (fun f c P tm ty H => fCallF P f (opsQ c.args.toList tm) H)) (fun _ _ _ _ _ _ _ => none) (fun b c P tm ty H => fBuiltin P b c.argTypes ty (opsQ c.args.toList tm) H) c P tm ty H
theorem callQ_eq (c : Call) (P : Program) (tm : Tm) (ty : TypeId) (H : Hp) : callQ c P tm ty H = fCall P tm c ty H := by
  unfold callQ fCall
  cases c.callee with
  | value x =>
    cases x with
    | tmp t => show fCallV P (some (lookQ tm t)) (opsQ c.args.toList tm) H = _; rw [opsQ_eq, lookQ_eq]; rfl
    | const v => show fCallV P (opQ (.const v) tm) (opsQ c.args.toList tm) H = _; rw [opsQ_eq, opQ_eq]
    | global g => show none = fCallV P none _ H; rfl
    | func f => show fCallF P f (opsQ c.args.toList tm) H = _; rw [opsQ_eq]
  | invoke r m => rfl
  | builtin b => show fBuiltin P b c.argTypes ty (opsQ c.args.toList tm) H = _; rw [opsQ_eq]
def execQ (o : Op) (P : Program) (tm : Tm) (ty : TypeId) (H : Hp) : Res :=
  @Op.casesOn  (fun _ => Program → Tm → TypeId → Hp → Res) o (fun x P tm ty H => fVal (opQ x tm) H)
      (fun x P tm ty H => fVal (opQ x tm) H)
      (fun c a b P tm ty H => u3Q (fun c a b => fPick c a b H) (opQ c tm) (opQ a tm) (opQ b tm))
      (fun t P tm ty H => fAlloc P t H)
      (fun t x P tm ty H => u1Q (fun x => fBox H t x) (opQ x tm))
      (fun t ps P tm ty H => fVal (fBuild P t (partsQ ps.toList tm)) H)
      (fun t n ps P tm ty H => fBuildSlice P t n (partsQ ps.toList tm) H)
      (fun _ _ _ _ _ _ _ _ => none)
      (fun t x P tm ty H => u1Q (fun x => fVal (loadF P t x H) H) (opQ x tm))
      (fun t x y P tm ty H => u2Q (fun x y => fHp (storeF P t x y H)) (opQ x tm) (opQ y tm))
      (fun _ _ _ _ _ => none)
      (fun _ _ _ _ _ => none)
      (fun x P tm ty H => u1Q (fun x => fNil x H) (opQ x tm))
      (fun op t x y y2 P tm ty H => u2Q (fun x y => binO P op t x y H (binF P H op t x y)) (opQ x tm) (opQ y tm))
      (fun op t x P tm ty H => u1Q (fun x => (match clo x with | true => fPure (runP P (Op.unary op x)) H | false => none)) (opQ x tm))
      (fun a b x P tm ty H => u1Q (fun x => fConv P a b x H) (opQ x tm))
      (fun _ _ _ _ _ _ => none)
      (fun _ _ _ _ _ _ => none)
      (fun fn a b P tm ty H => fFunc fn (opsQ a.toList tm) (opsQ b.toList tm) H)
      (fun t r P tm ty H => fMakeMap r H)
      (fun _ _ _ _ _ _ => none)
      (fun t l c P tm ty H => u2Q (fun l c => fMake P t l c H) (opQ l tm) (opQ c tm))
      (fun t x lo hi mx P tm ty H => u1Q (fun x => slArgs P H t x (optQ lo tm) (optQ hi tm) (optQ mx tm)) (opQ x tm))
      (fun s x f P tm ty H => u1Q (fun x => fField P x (descF P s) f H) (opQ x tm))
      (fun s x f P tm ty H => u1Q (fun x => fVal (fFieldV P x (descF P s) f) H) (opQ x tm))
      (fun t x i P tm ty H => u2Q (fun x i => fIdx P (descF P t) x i H) (opQ x tm) (opQ i tm))
      (fun t x i P tm ty H => u2Q (fun x i => fVal (fIndex P (descF P t) x i) H) (opQ x tm) (opQ i tm))
      (fun t m k ok P tm ty H => u2Q (fun m k => fVal (fLook P H t m k ok) H) (opQ m tm) (opQ k tm))
      (fun t m k x P tm ty H => u3Q (fun m k x => fUpd P H t m k x) (opQ m tm) (opQ k tm) (opQ x tm))
      (fun t m k P tm ty H => u2Q (fun m k => fEnt P H t m k) (opQ m tm) (opQ k tm))
      (fun t m s x P tm ty H => u3Q (fun m s x => fSto P H m s x) (opQ m tm) (opQ s tm) (opQ x tm))
      (fun t x P tm ty H => u1Q (fun x => fRange (descF P t) x H) (opQ x tm))
      (fun x b P tm ty H => u1Q (fun x => fNext x b H) (opQ x tm))
      (fun _ _ _ _ _ => none)
      (fun _ _ _ _ _ _ _ _ => none)
      (fun x i P tm ty H => u1Q (fun x => fExtract x i H) (opQ x tm))
      (fun c P tm ty H => callQ c P tm ty H)
      (fun _ _ _ _ _ => none)
      (fun _ _ _ _ _ => none)
      (fun _ _ _ _ _ => none)
      (fun _ _ _ _ _ _ => none)
      (fun _ _ _ _ _ _ _ => none)
      (fun _ _ _ _ _ _ => none) P tm ty H
theorem execQ_eq (o : Op) (P : Program) (tm : Tm) (ty : TypeId) (H : Hp) : execQ o P tm ty H = execF P tm ty o H := by
  unfold execQ execF
  cases o <;> first | rfl | (simp only [opQ_eq, opsQ_eq, u1Q_eq, u2Q_eq, u3Q_eq, callQ_eq, optQ_eq, partsQ_eq]; done) | (simp only [opQ_eq, u1Q_eq]; rfl)
def putQ (tm : Tm) (d : Option Tmp) (v : Value) : Tm := @Option.casesOn Tmp (fun _ => Tm) d tm (fun d => (d, v) :: tm)
theorem putQ_eq (tm : Tm) (d : Option Tmp) (v : Value) : putQ tm d v = putA tm d v := by cases d <;> rfl
def wantQ (ops : List Oper) (g : Option (Nat × Bool)) (tm : Tm) : Bool := @Option.casesOn (Nat × Bool) (fun _ => Bool) g true (fun p => @Option.casesOn Oper (fun _ => Bool) (nthQ ops p.1) false (fun o => @Option.casesOn Tmp (fun _ => Bool) o.dst false (fun d => isB (lookQ tm d) p.2)))
theorem wantQ_eq (ops : List Oper) (g : Option (Nat × Bool)) (tm : Tm) : wantQ ops g tm = wantedA ops g tm := by
  unfold wantQ wantedA
  cases g with
  | none => rfl
  | some p =>
    obtain ⟨j, w⟩ := p
    show @Option.casesOn Oper (fun _ => Bool) (nthQ ops j) false (fun o => @Option.casesOn Tmp (fun _ => Bool) o.dst false (fun d => isB (lookQ tm d) w)) = wantD (dstOf (nthL ops j)) w tm
    rw [nthQ_eq]
    cases nthL ops j with
    | none => rfl
    | some o =>
      show @Option.casesOn Tmp (fun _ => Bool) o.dst false (fun d => isB (lookQ tm d) w) = wantD o.dst w tm
      cases o.dst with
      | none => rfl
      | some d => show isB (lookQ tm d) w = _; rw [lookQ_eq]; rfl
def okQ (d : Option Tmp) (n : Nat) : Bool := @Option.casesOn Tmp (fun _ => Bool) d true (fun d => Nat.blt d n)
theorem okQ_eq (d : Option Tmp) (n : Nat) : okQ d n = okD d n := by cases d <;> rfl
abbrev StT := Program → Orc → Rec → FuncId → Option Nat → Nat → Tm → List Item → List Deferred → Hp → Option (Value × Hp)
/-- what an operation says, and then the rest of the region -/
def subQ (P : Program) (orc : Orc) (rec : Rec) (x : Res) (go : Value → Hp → Option (Value × Hp)) : Option (Value × Hp) :=
  @Option.casesOn (Next × Hp) (fun _ => Option (Value × Hp)) x none (fun q =>
    @Next.casesOn  (fun _ => Program → Orc → Rec → Hp → (Value → Hp → Option (Value × Hp)) → Option (Value × Hp)) q.1 (fun v _ _ _ H go => go v H)
      (fun _ _ _ H go => go undef H)
      (fun f args P orc rec H go => @Option.casesOn (Value × Hp) (fun _ => Option (Value × Hp)) (enterG orc rec f (nthL P.funcs.toList f) args H) none (fun r => go r.1 r.2))
      (fun l f tms assign body P orc rec H go => @Option.casesOn (Value × Hp) (fun _ => Option (Value × Hp)) (rec f (some l) tms.toList.length (ofArgs tms.toList 0) [.code assign, .beginRound, .code body] [] H) none (fun r => go r.1 r.2))
      (fun _ _ _ _ _ _ => none)
      (fun _ _ _ _ _ => none)
      (fun _ _ _ _ _ _ => none)
      (fun _ _ _ _ _ _ _ _ => none)
      (fun _ _ _ _ _ => none)
      (fun _ _ _ _ _ => none)
      (fun _ _ _ _ _ _ => none)
      (fun _ _ _ _ _ _ _ => none)
      (fun _ _ _ _ _ _ _ => none)
      (fun _ _ _ _ _ _ => none)
      (fun _ _ _ _ _ _ => none)
      (fun _ _ _ _ _ _ _ => none)
      (fun _ _ _ _ _ _ _ _ _ => none)
      (fun _ _ _ _ _ _ _ => none)
      (fun _ _ _ _ _ _ _ => none) P orc rec q.2 go)
def subThen (P : Program) (orc : Orc) (rec : Rec) (x : Res) (go : Value → Hp → Option (Value × Hp)) : Option (Value × Hp) := match sub P orc rec x with
  | some (v, H) => go v H
  | none => none
theorem subQ_eq (P : Program) (orc : Orc) (rec : Rec) (x : Res) (go : Value → Hp → Option (Value × Hp)) : subQ P orc rec x go = subThen P orc rec x go := by
  unfold subThen subQ sub
  cases x with
  | none => rfl
  | some q =>
    obtain ⟨n, H⟩ := q
    cases n with
    | value v => rfl
    | skip => rfl
    | enter f args => dsimp only; cases enterG orc rec f (nthL P.funcs.toList f) args H <;> rfl
    | round l f tms a b => dsimp only; cases rec f (some l) tms.toList.length (ofArgs tms.toList 0) [.code a, .beginRound, .code b] [] H <;> rfl
    | _ => rfl
def operQ (P : Program) (orc : Orc) (rec : Rec) (fn : FuncId) (rnd : Option Nat) (n : Nat) (tm : Tm) (ops : Array Oper) (rest : List Nat) (k : List Item) (ds : List Deferred) (H : Hp) (o : Oper) : Option (Value × Hp) :=
  @Bool.casesOn  (fun _ => Option (Value × Hp)) (okQ o.dst n) none (@Bool.casesOn  (fun _ => Option (Value × Hp)) (wantQ ops.toList o.guard tm) (rec fn rnd n (putQ tm o.dst undef) (.inRegion ops rest :: k) ds H) (subQ P orc rec (execQ o.op P tm o.type H) (fun v H => rec fn rnd n (putQ tm o.dst v) (.inRegion ops rest :: k) ds H)))
theorem operQ_eq (P : Program) (orc : Orc) (rec : Rec) (fn : FuncId) (rnd : Option Nat) (n : Nat) (tm : Tm) (ops : Array Oper) (rest : List Nat) (k : List Item) (ds : List Deferred) (H : Hp) (o : Oper) :
    operQ P orc rec fn rnd n tm ops rest k ds H o = operO P orc rec fn rnd n tm ops (some o) rest k ds H := by
  unfold operQ operO
  simp only [okQ_eq, wantQ_eq, putQ_eq, subQ_eq, execQ_eq]
  cases okD o.dst n with
  | false => rfl
  | true =>
    dsimp only
    unfold operT
    cases wantedA ops.toList o.guard tm with
    | false => rfl
    | true =>
      dsimp only
      unfold subThen cont
      cases sub P orc rec (execF P tm o.type o.op H) with
      | none => rfl
      | some r => rfl
def regionQ (ops : Array Oper) (l : List Nat) : StT := fun P orc rec fn rnd n tm k ds H =>
  @List.casesOn Nat (fun _ => Option (Value × Hp)) l (rec fn rnd n tm k ds H) (fun i rest => @Option.casesOn Oper (fun _ => Option (Value × Hp)) (nthQ ops.toList i) none (operQ P orc rec fn rnd n tm ops rest k ds H))
theorem regionQ_eq (ops : Array Oper) (l : List Nat) (P : Program) (orc : Orc) (rec : Rec) (fn : FuncId) (rnd : Option Nat) (n : Nat) (tm : Tm) (k : List Item) (ds : List Deferred) (H : Hp) :
    regionQ ops l P orc rec fn rnd n tm k ds H = region P orc rec fn rnd n tm ops l k ds H := by
  unfold regionQ region
  cases l with
  | nil => rfl
  | cons i rest =>
    show @Option.casesOn Oper (fun _ => Option (Value × Hp)) (nthQ ops.toList i) none (operQ P orc rec fn rnd n tm ops rest k ds H) = operO P orc rec fn rnd n tm ops (nthL ops.toList i) rest k ds H
    rw [nthQ_eq]
    cases nthL ops.toList i with
    | none => rfl
    | some o => exact operQ_eq ..
def retVQ (P : Program) (tm : Tm) (H : Hp) (x : ResultVar) : Option Value := match x with
  | .tmp t => some (lookQ tm t)
  | .cell a t => loadF P t (lookQ tm a) H
theorem retVQ_eq (P : Program) (tm : Tm) (H : Hp) (x : ResultVar) : retVQ P tm H x = retV P tm H x := by cases x <;> (simp only [retVQ, retV, lookQ_eq]) <;> rfl
def retLQ (P : Program) (tm : Tm) (H : Hp) : List ResultVar → Option (List Value)
  | [] => some []
  | x :: r => match retVQ P tm H x with
    | some v => (match retLQ P tm H r with | some l => some (v :: l) | none => none)
    | none => none
theorem retLQ_eq (P : Program) (tm : Tm) (H : Hp) (l : List ResultVar) : retLQ P tm H l = retL P tm H l := by
  induction l with
  | nil => rfl
  | cons x r ih => unfold retLQ retL; rw [retVQ_eq, ih]; cases retV P tm H x <;> cases retL P tm H r <;> rfl
def leaveLQ (P : Program) (g : Option Func) (tm : Tm) (H : Hp) : Option (Value × Hp) := match g with
  | some f => retO (retLQ P tm H f.results.toList) H
  | none => none
theorem leaveLQ_eq (P : Program) (g : Option Func) (tm : Tm) (H : Hp) : leaveLQ P g tm H = leaveL P g tm H := by cases g <;> (simp only [leaveLQ, leaveL, retLQ_eq]) <;> rfl
def leaveHQ (P : Program) (g : Option Func) (tm : Tm) (h : Option Hp) : Option (Value × Hp) := match h with
  | some H => leaveLQ P g tm H
  | none => none
theorem leaveHQ_eq (P : Program) (g : Option Func) (tm : Tm) (h : Option Hp) : leaveHQ P g tm h = leaveH P g tm h := by cases h <;> (simp only [leaveHQ, leaveH, leaveLQ_eq]) <;> rfl
def leaveQ (P : Program) (fn : FuncId) (rnd : Option Nat) (tm : Tm) (ds : List Deferred) (H : Hp) (jump : Option Code) : Option (Value × Hp) := match rnd with
  | some l => endRd l jump H (H.get l)
  | none => leaveHQ P (nthL P.funcs.toList fn) tm (takeAll ds H)
theorem leaveQ_eq (P : Program) (fn : FuncId) (rnd : Option Nat) (tm : Tm) (ds : List Deferred) (H : Hp) (jump : Option Code) : leaveQ P fn rnd tm ds H jump = leave P fn rnd tm ds H jump := by cases rnd <;> (simp only [leaveQ, leave, leaveHQ_eq]) <;> rfl
/-! drawn regions -/
def newOfQ (P : Program) (tm : Tm) (ty : TypeId) (o : Op) (i : Nat) : Option (Value × Obj) := match execQ o P tm ty ⟨i, []⟩ with
  | some (.value v, ⟨_, (ob, false) :: _⟩) => some (v, ob)
  | _ => none
theorem newOfQ_eq (P : Program) (tm : Tm) (ty : TypeId) (o : Op) (i : Nat) : newOfQ P tm ty o i = newOf P tm ty o i := by (simp only [newOfQ, newOf, execQ_eq]) <;> rfl
def newAtQ (P : Program) (pend : List (Nat × Nat)) (j : Nat) (tm : Tm) (ty : TypeId) (o : Op) (H : Hp) (v : Value) (b : Option Nat) : Bool := match b with
  | some i => newSame v (H.get i) (newOfQ P tm ty o i) && hasP pend j i
  | none => false
theorem newAtQ_eq (P : Program) (pend : List (Nat × Nat)) (j : Nat) (tm : Tm) (ty : TypeId) (o : Op) (H : Hp) (v : Value) (b : Option Nat) : newAtQ P pend j tm ty o H v b = newAt P pend j tm ty o H v b := by cases b <;> (simp only [newAtQ, newAt, newOfQ_eq]) <;> rfl
def lookDQ (d : Option Tmp) (tm : Tm) (r : Res) : Bool := match r with
  | some (.value v, _) => (match d with | some d => same1 v (lookQ tm d) | none => true)
  | _ => false
theorem lookDQ_eq (d : Option Tmp) (tm : Tm) (r : Res) : lookDQ d tm r = lookD d tm r := by unfold lookDQ lookD; (simp only [lookQ_eq]) <;> rfl
def againOQ (P : Program) (ops : List Oper) (pend : List (Nat × Nat)) (j : Nat) (o : Oper) (tm : Tm) (H : Hp) : Bool := match wantQ ops o.guard tm with
  | true => (match Nat.beq (kind P o.op) 2 with
    | true => (match o.dst with | some d => newAtQ P pend j tm o.type o.op H (lookQ tm d) (blockOf (lookQ tm d)) | none => false)
    | false => lookDQ o.dst tm (execQ o.op P tm o.type H))
  | false => (match o.dst with | some d => same1 (lookQ tm d) undef | none => true)
theorem againOQ_eq (P : Program) (ops : List Oper) (pend : List (Nat × Nat)) (j : Nat) (o : Oper) (tm : Tm) (H : Hp) : againOQ P ops pend j o tm H = againO P ops pend j o tm H := by
  unfold againOQ againO; (simp only [wantQ_eq, newAtQ_eq, lookQ_eq, lookDQ_eq, execQ_eq]) <;> rfl
def againLQ (P : Program) (ops : List Oper) (pend : List (Nat × Nat)) (left past : Nat) (tm : Tm) (H : Hp) : List Oper → List Nat → Nat → Bool
  | o :: r, b :: bs, i => (match Nat.beq (kind P o.op) 3 || !(Nat.beq (Nat.land b left) 0) || Nat.testBit past i with
    | true => againLQ P ops pend left past tm H r bs (i + 1)
    | false => (match againOQ P ops pend i o tm H with | true => againLQ P ops pend left past tm H r bs (i + 1) | false => false))
  | _, _, _ => true
theorem againLQ_eq (P : Program) (ops : List Oper) (pend : List (Nat × Nat)) (left past : Nat) (tm : Tm) (H : Hp) : ∀ (l : List Oper) (bs : List Nat) (i : Nat), againLQ P ops pend left past tm H l bs i = againL P ops pend left past tm H l bs i := by
  intro l
  induction l with
  | nil => intro bs i; cases bs <;> rfl
  | cons o r ih =>
    intro bs i
    cases bs with
    | nil => rfl
    | cons b bs => unfold againLQ againL; rw [againOQ_eq, ih]; rfl
def quietOQ (P : Program) (ops : List Oper) (o : Option Oper) (tm : Tm) (H : Hp) : Option (Tm × Hp) := match o with
  | some o => (match wantQ ops o.guard tm with
    | true => quietR tm o.dst (execQ o.op P tm o.type H)
    | false => some (putQ tm o.dst undef, H))
  | none => none
theorem quietOQ_eq (P : Program) (ops : List Oper) (o : Option Oper) (tm : Tm) (H : Hp) : quietOQ P ops o tm H = quietO P ops o tm H := by
  cases o with
  | none => rfl
  | some o => (simp only [quietOQ, quietO, wantQ_eq, execQ_eq, putQ_eq]) <;> rfl
def pendQ (P : Program) (ops : List Oper) (o : Option Oper) (j : Nat) (tm : Tm) (H : Hp) (p : List (Nat × Nat)) : List (Nat × Nat) := match o with
  | some o => (match Nat.beq (kind P o.op) 2 && wantQ ops o.guard tm with | true => p ++ [(j, H.n)] | false => p)
  | none => p
theorem pendQ_eq (P : Program) (ops : List Oper) (o : Option Oper) (j : Nat) (tm : Tm) (H : Hp) (p : List (Nat × Nat)) : pendQ P ops o j tm H p = pendA P ops o j tm H p := by
  cases o with
  | none => rfl
  | some o => (simp only [pendQ, pendA, wantQ_eq]) <;> rfl
def quietLQ (P : Program) (ops : List Oper) : List Nat → Tm → Hp → List (Nat × Nat) → Option (Tm × Hp × List (Nat × Nat))
  | [], tm, H, p => some (tm, H, p)
  | j :: r, tm, H, p => (match quietOQ P ops (nthQ ops j) tm H with | some (tm', H') => quietLQ P ops r tm' H' (pendQ P ops (nthQ ops j) j tm H p) | none => none)
theorem quietLQ_eq (P : Program) (ops : List Oper) : ∀ (l : List Nat) (tm : Tm) (H : Hp) (p : List (Nat × Nat)), quietLQ P ops l tm H p = quietL P ops l tm H p := by
  intro l
  induction l with
  | nil => intro tm H p; rfl
  | cons j r ih =>
    intro tm H p
    unfold quietLQ quietL
    rw [nthQ_eq, quietOQ_eq, pendQ_eq]
    cases quietO P ops (nthL ops j) tm H with
    | none => rfl
    | some q => exact ih ..
def gapQ (P : Program) (ops : List Oper) (bs : List Nat) (left past : Nat) (r : Option (Tm × Hp × List (Nat × Nat))) : Option (Tm × Hp × List (Nat × Nat)) := match r with
  | some (tm, H, p) => (match againLQ P ops p left past tm H ops bs 0 with | true => some (tm, H, p) | false => none)
  | none => none
theorem gapQ_eq (P : Program) (ops : List Oper) (bs : List Nat) (left past : Nat) (r : Option (Tm × Hp × List (Nat × Nat))) : gapQ P ops bs left past r = gapS P ops bs left past r := by
  unfold gapQ gapS; (simp only [againLQ_eq]) <;> rfl
def effQ (P : Program) (orc : Orc) (rec : Rec) (ops : List Oper) (o : Option Oper) (tm : Tm) (H : Hp) : Option (Tm × Hp) := match o with
  | some o => (match wantQ ops o.guard tm with
    | true => effR tm o.dst (sub P orc rec (execQ o.op P tm o.type H))
    | false => some (putQ tm o.dst undef, H))
  | none => none
theorem effQ_eq (P : Program) (orc : Orc) (rec : Rec) (ops : List Oper) (o : Option Oper) (tm : Tm) (H : Hp) : effQ P orc rec ops o tm H = effO P orc rec ops o tm H := by
  cases o with
  | none => rfl
  | some o => (simp only [effQ, effO, wantQ_eq, execQ_eq, putQ_eq]) <;> rfl
def stagesQ (P : Program) (orc : Orc) (rec : Rec) (ops : List Oper) (bs : List Nat) : List Nat → Nat → Option (Tm × Hp × List (Nat × Nat)) → Option (Tm × Hp)
  | [], past, r => (match gapQ P ops bs 0 past r with | some (tm, H, _) => some (tm, H) | none => none)
  | e :: es, past, r => (match gapQ P ops bs (bitsOf (e :: es)) past r with
    | some (tm, H, p) => (match effQ P orc rec ops (nthQ ops e) tm H with
      | some (tm2, H2) => stagesQ P orc rec ops bs es (Nat.lor past (Nat.lor (Nat.shiftLeft 1 e) ((nthL bs e).getD 0))) (quietLQ P ops (nowL P (bitsOf es) (some e) ops bs 0) tm2 H2 p)
      | none => none)
    | none => none)
theorem stagesQ_eq (P : Program) (orc : Orc) (rec : Rec) (ops : List Oper) (bs : List Nat) : ∀ (l : List Nat) (past : Nat) (r : Option (Tm × Hp × List (Nat × Nat))), stagesQ P orc rec ops bs l past r = stages P orc rec ops bs l past r := by
  intro l
  induction l with
  | nil => intro past r; unfold stagesQ stages; rw [gapQ_eq]; rfl
  | cons e es ih =>
    intro past r
    unfold stagesQ stages
    rw [gapQ_eq]
    cases gapS P ops bs (bitsOf (e :: es)) past r with
    | none => rfl
    | some q =>
      obtain ⟨tm, H, p⟩ := q
      dsimp only
      rw [nthQ_eq, effQ_eq]
      cases effO P orc rec ops (nthL ops e) tm H with
      | none => rfl
      | some q => dsimp only; rw [quietLQ_eq]; exact ih ..
def drawn2Q (P : Program) (orc : Orc) (rec : Rec) (ops : List Oper) (bs es : List Nat) (n : Nat) (tm : Tm) (H : Hp) : Option (Tm × Hp) :=
  match tidyL P ops bs n ops bs 0 && onceOK ops && chainOK bs es with
  | true => stagesQ P orc rec ops bs es 0 (quietLQ P ops (nowL P (bitsOf es) none ops bs 0) tm H [])
  | false => none
def drawnQ (P : Program) (orc : Orc) (rec : Rec) (ops : List Oper) (n : Nat) (tm : Tm) (H : Hp) : Option (Tm × Hp) := drawn2Q P orc rec ops (beforeL ops []) (effL P ops 0) n tm H
theorem drawnQ_eq (P : Program) (orc : Orc) (rec : Rec) (ops : List Oper) (n : Nat) (tm : Tm) (H : Hp) : drawnQ P orc rec ops n tm H = drawn P orc rec ops n tm H := by
  unfold drawnQ drawn drawn1 drawn2Q drawn2; (simp only [stagesQ_eq, quietLQ_eq]) <;> rfl
def codeQ (c : Code) : StT :=
  @Code.casesOn  (fun _ => StT) c (fun P orc rec fn rnd n tm k ds H => rec fn rnd n tm k ds H)
      (fun _ ops draw P orc rec fn rnd n tm k ds H => @Bool.casesOn  (fun _ => Option (Value × Hp)) draw (rec fn rnd n tm (.inRegion ops (upL ops.toList.length 0) :: k) ds H) (thenF rec fn rnd n k ds (drawnQ P orc rec ops.toList n tm H)))
      (fun a b P orc rec fn rnd n tm k ds H => rec fn rnd n tm (.code a :: .code b :: k) ds H)
      (fun c a b P orc rec fn rnd n tm k ds H => goTo rec fn rnd n tm ds H (condTo (opQ c tm) a b k))
      (fun id b P orc rec fn rnd n tm k ds H => rec fn rnd n tm (.code b :: .inBlock id :: k) ds H)
      (fun b P orc rec fn rnd n tm k ds H => rec fn rnd n tm (.code b :: .inLoop b :: k) ds H)
      (fun f params assign body P orc rec fn rnd n tm k ds H => rangeF P orc rec fn rnd n tm f params assign body k ds H)
      (fun id P orc rec fn rnd n tm k ds H => jumpTo P rec fn rnd n tm ds H (.exit id) (exitTo id k))
      (fun b P orc rec fn rnd n tm k ds H => rec fn rnd n tm (.code b :: .inScope b :: k) ds H)
      (fun _ P orc rec fn rnd n tm k ds H => rec fn rnd n tm k ds H)
      (fun l P orc rec fn rnd n tm k ds H => jumpTo P rec fn rnd n tm ds H (.goto l) (gotoIn l k))
      (fun P orc rec fn rnd n tm k ds H => leaveQ P fn rnd tm ds H (some .ret))
      (fun _ _ _ _ _ _ _ _ _ _ _ => none)
theorem codeQ_eq (c : Code) (P : Program) (orc : Orc) (rec : Rec) (fn : FuncId) (rnd : Option Nat) (n : Nat) (tm : Tm) (k : List Item) (ds : List Deferred) (H : Hp) :
    codeQ c P orc rec fn rnd n tm k ds H = stepC P orc rec fn rnd n tm c k ds H := by
  unfold codeQ stepC
  cases c with
  | region i ops draw => unfold regionB; cases draw; · rfl
                         · show thenF rec fn rnd n k ds (drawnQ P orc rec ops.toList n tm H) = _; rw [drawnQ_eq]
  | cond c a b => simp only [opQ_eq]
  | ret => exact leaveQ_eq ..
  | _ => rfl
def itemQ (i : Item) : StT :=
  @Item.casesOn  (fun _ => StT) i codeQ
      (fun _ P orc rec fn rnd n tm k ds H => rec fn rnd n tm k ds H)
      (fun b P orc rec fn rnd n tm k ds H => rec fn rnd n tm (.code b :: .inLoop b :: k) ds H)
      (fun _ P orc rec fn rnd n tm k ds H => rec fn rnd n tm k ds H)
      regionQ
      (fun _ _ _ _ _ _ _ _ _ _ _ => none)
      (fun l P orc rec fn rnd n tm k ds H => endR rec fn rnd n tm l k ds H (H.get l))
      (fun P orc rec fn rnd n tm k ds H => beginR rec fn rnd n tm k ds H)
      (fun _ _ _ _ _ _ _ _ _ _ _ _ _ _ => none)
      (fun _ _ _ _ _ _ _ _ _ _ _ _ => none)
theorem itemQ_eq (i : Item) (P : Program) (orc : Orc) (rec : Rec) (fn : FuncId) (rnd : Option Nat) (n : Nat) (tm : Tm) (k : List Item) (ds : List Deferred) (H : Hp) :
    itemQ i P orc rec fn rnd n tm k ds H = stepI P orc rec fn rnd n tm i k ds H := by
  unfold itemQ stepI
  cases i with
  | code c => exact codeQ_eq ..
  | inRegion ops l => exact regionQ_eq ..
  | _ => rfl
def stepQ (P : Program) (orc : Orc) (rec : Rec) : Rec := fun fn rnd n tm todo ds H => @List.casesOn Item (fun _ => Option (Value × Hp)) todo (leaveQ P fn rnd tm ds H none) (fun i k => itemQ i P orc rec fn rnd n tm k ds H)
theorem stepQ_eq (P : Program) (orc : Orc) (rec : Rec) : stepQ P orc rec = stepF P orc rec := by
  funext fn rnd n tm todo ds H
  unfold stepQ stepF
  cases todo with
  | nil => exact leaveQ_eq ..
  | cons i k => exact itemQ_eq ..
def evalQ (P : Program) (orc : Orc) : Nat → Rec
  | 0 => fun _ _ _ _ _ _ _ => none
  | F + 1 => stepQ P orc (evalQ P orc F)
theorem evalQ_eq (P : Program) (orc : Orc) (F : Nat) : evalQ P orc F = evalF P orc F := by
  induction F with
  | zero => rfl
  | succ F ih =>
    show stepQ P orc (evalQ P orc F) = stepF P orc (evalF P orc F)
    rw [ih, stepQ_eq]
def callNow (P : Program) (orc : Orc) (F : Nat) (f : FuncId) (args : List Value) (H : Hp) : Option (Value × Hp) := enterN (evalQ P orc F) f (nthL P.funcs.toList f) ⟨args⟩ H
theorem callNow_eq (P : Program) (orc : Orc) (F : Nat) (f : FuncId) (args : List Value) (H : Hp) : callNow P orc F f args H = evalCall P orc F f args H := by
  unfold callNow evalCall
  rw [evalQ_eq]
end Go.Ev
end

/- An evaluator for runs: one block lies in the world from the beginning (a variable of the program), and is block 0 of the evaluator's heap. -/
section
set_option linter.unusedSimpArgs false
set_option linter.unusedVariables false
set_option linter.unusedSectionVars false
namespace Go.Ev
variable [Inhabited Env]
/-- the heap with that block alone -/
def baseH (c : List Value) (e : TypeId) : Hp := ⟨1, [(.cells ⟨c⟩ e (0, 0), false)]⟩
def hasBase (H : Hp) (c : List Value) (e : TypeId) : Bool := match H.get 0 with
  | some ob => sameB ob (.cells ⟨c⟩ e (0, 0), false)
  | none => false
theorem hasBase_get {H : Hp} {c : List Value} {e : TypeId} (h : hasBase H c e = true) : H.get 0 = some (.cells ⟨c⟩ e (0, 0), false) := by
  unfold hasBase at h
  split at h
  · rename_i ob hg; rw [hg, sameB_eq h]
  · cases h
section
variable {P : Program} {s : Sg} {H : Hp} {w : World} {c c1 : List Value} {e : TypeId} {x : Nat × Nat}
theorem base_world (hb : (default : Env).base = some x) (hc : ∀ (s : Sg) (l : List Value), VL s c l ↔ l = c1) (hR : R P s H w) (h : hasBase H c e = true) : w.heap[x.1]? = some (.cells ⟨c1⟩ e (0, 0)) := by
  obtain ⟨o', h1, h2, c', fr, h3, h4, h5⟩ := hR.obj 0 _ _ x (hasBase_get h) live_cells (hR.base x hb)
  have h4 := (hc _ _).1 h4
  subst h3 h4 h5
  exact h1
def sg0 (x : Nat × Nat) : Sg := fun i => if i = 0 then some x else none
theorem sg0_some {x y : Nat × Nat} {i : Nat} (h : sg0 x i = some y) : i = 0 ∧ y = x := by
  unfold sg0 at h
  split at h
  · rename_i e; exact ⟨e, (Option.some.inj h).symm⟩
  · cases h
theorem baseR (hb : (default : Env).base = some x) (hc : ∀ (s : Sg) (l : List Value), VL s c l ↔ l = c1) (hw : w.heap[x.1]? = some (.cells ⟨c1⟩ e (0, 0))) : R P (sg0 x) (baseH c e) w := by
  refine ⟨rfl, ?_, ?_, ?_, ?_⟩
  · intro i y h; obtain ⟨rfl, rfl⟩ := sg0_some h; exact Nat.zero_lt_one
  · intro i o u y h1 h2 h3
    obtain ⟨rfl, rfl⟩ := sg0_some h3
    have h1 : (some (.cells ⟨c⟩ e (0, 0), false) : Option (Obj × Bool)) = some (o, u) := h1
    cases h1
    exact ⟨_, hw, rfl, c1, (0, 0), rfl, (hc _ _).2 rfl, rfl⟩
  · intro i j o u o' u' y z h1 h2 h3 h4 h5 h6 h7
    rw [(sg0_some h5).1, (sg0_some h6).1]
  · intro y h
    rw [hb] at h; cases h
    rfl
theorem base_owned {b : Nat} (h : Owned (sg0 x) (baseH c e) b) : b = x.1 := by
  obtain ⟨i, o, u, y, _, _, h3, h4⟩ := h
  rw [← h4, (sg0_some h3).2]
/-- behind a call from that heap all that was there is as it was -/
theorem base_keep (hb : (default : Env).base = some x) (hc : ∀ (s : Sg) (l : List Value), VL s c l ↔ l = c1) (hw : w.heap[x.1]? = some (.cells ⟨c1⟩ e (0, 0))) {s' : Sg} {H' : Hp} {w' : World} (hP : Post P (sg0 x) (baseH c e) w s' H' w') (h : hasBase H' c e = true) : ∀ b, b < w.heap.size → w'.heap[b]? = w.heap[b]? := by
  intro b hlt
  by_cases hx : b = x.1
  · subst hx
    rw [hw]; exact base_world hb hc hP.rel h
  · exact hP.keep b hlt (fun ho => hx (base_owned ho))
end
/-! a call of plain things, from any heap that has that block -/
def fitB (r : Option (Value × Hp)) (v : Value) (c : List Value) (e : TypeId) : Bool := match r with
  | some (u, H) => same1 u v && clo v && hasBase H c e
  | none => false
def orcB (f0 : FuncId) (args0 : List Value) (v : Value) (c : List Value) (e : TypeId) : Orc := fun f args H => match Nat.beq f f0 with
  | true => (match sameL args args0 && hasBase H c e with
    | true => some (v, H)
    | false => none)
  | false => none
theorem orcB_eq {f0 : FuncId} {args0 : List Value} {v : Value} {c : List Value} {e : TypeId} {f : FuncId} {args : List Value} {H : Hp} {v2 : Value} {H2 : Hp} (h : orcB f0 args0 v c e f args H = some (v2, H2)) : f = f0 ∧ args = args0 ∧ hasBase H c e = true ∧ v2 = v ∧ H2 = H := by
  unfold orcB at h
  split at h
  · rename_i q1
    split at h
    · rename_i hq
      cases h
      obtain ⟨q2, q3⟩ := and2 hq
      exact ⟨Nat.eq_of_beq_eq_true q1, sameL_eq q2, q3, rfl, rfl⟩
    · cases h
  · cases h
theorem orcB_ok {P : Program} {x : Nat × Nat} {c c1 : List Value} {e : TypeId} (hb : (default : Env).base = some x) (hc : ∀ (s : Sg) (l : List Value), VL s c l ↔ l = c1) (hm : P.follows .mixedOrders = true) {orc : Orc} (hO : OrcS P orc) {F : Nat} {f0 : FuncId} {args0 : List Value} {v : Value} (hcl : cloAll args0 = true) (he : fitB (evalCall P orc F f0 args0 (baseH c e)) v c e = true) : OrcS P (orcB f0 args0 v c e) := by
  intro f args H v2 H2 h s w a' hR ha d cs
  obtain ⟨rfl, rfl, q3, rfl, rfl⟩ := orcB_eq h
  unfold fitB at he
  split at he
  · rename_i u H' hev
    obtain ⟨e1, e2, e3⟩ := and3 he
    have e1 := same1_eq e1
    subst e1
    have e4 := cloAll_V hcl ha
    subst e4
    have hw := base_world hb hc hR q3
    have hd := (call_sound hm hO hev (baseR hb hc hw) (cloAll_self hcl)).mono (R' := fun r w' => ∃ v', r = .returned v' ∧ ∃ s', V s' u v' ∧ Post P (sg0 x) (baseH c e) w s' H' w') (by rintro r w' ⟨s', v', h1, h2, h3⟩; exact ⟨v', h1, s', h2, h3⟩)
    obtain ⟨v', w', k1, s', k2, k3⟩ := calls_back hd d cs
    have e5 := clo_V e2 k2
    subst e5
    exact ⟨s, v', w', k1, clo_self e2, Post.still hR (base_keep hb hc hw k3 e3) k3.size k3.os k3.tape k3.output⟩
  · cases he
/-- a call that is known by other means -/
theorem orcG_ok {P : Program} {x : Nat × Nat} {c c1 : List Value} {e : TypeId} (hb : (default : Env).base = some x) (hc : ∀ (s : Sg) (l : List Value), VL s c l ↔ l = c1) {f0 : FuncId} {args0 : List Value} {v : Value} (hcl : cloAll args0 = true) (hv : clo v = true) (hd : ∀ w : World, w.heap[x.1]? = some (.cells ⟨c1⟩ e (0, 0)) → Calls P f0 ⟨args0⟩ w fun r w' => r = .returned v ∧ RowKit.Below w.heap.size w w') : OrcS P (orcB f0 args0 v c e) := by
  intro f args H v2 H2 h s w a' hR ha d cs
  obtain ⟨rfl, rfl, q3, rfl, rfl⟩ := orcB_eq h
  have e4 := cloAll_V hcl ha
  subst e4
  have hd := (hd w (base_world hb hc hR q3)).mono (R' := fun r w' => ∃ v', r = .returned v' ∧ (v' = v2 ∧ RowKit.Below w.heap.size w w')) (by rintro r w' ⟨h1, h2⟩; exact ⟨v2, h1, rfl, h2⟩)
  obtain ⟨v', w', k1, k2, k3⟩ := calls_back hd d cs
  subst k2
  exact ⟨s, v', w', k1, clo_self hv, Post.still hR k3.block k3.size k3.os k3.tape k3.output⟩
/-! where nothing of that block is asked -/
def deadH : Hp := ⟨1, [dead]⟩
theorem dead_get {i : Nat} {o : Obj} {u : Bool} (h : deadH.get i = some (o, u)) (hl : Live o) : False := by
  have hi := Hp.get_lt h
  have hi : i < 1 := hi
  obtain rfl : i = 0 := by omega
  have h : (some dead : Option (Obj × Bool)) = some (o, u) := h
  cases h
  exact hl none rfl
theorem dead_owned {x : Nat × Nat} {b : Nat} : ¬ Owned (sg0 x) deadH b := by
  rintro ⟨i, o, u, y, h1, h2, _, _⟩
  exact dead_get h1 h2
theorem deadR {P : Program} {w : World} {x : Nat × Nat} (hb : (default : Env).base = some x) : R P (sg0 x) deadH w := by
  refine ⟨rfl, ?_, ?_, ?_, ?_⟩
  · intro i y h; obtain ⟨rfl, rfl⟩ := sg0_some h; exact Nat.zero_lt_one
  · intro i o u y h1 h2 h3; exact (dead_get h1 h2).elim
  · intro i j o u o' u' y z h1 h2; exact (dead_get h1 h2).elim
  · intro y h
    rw [hb] at h; cases h
    rfl
/-- calls of plain things that are known, by function -/
abbrev Memo := List (FuncId × List (List Value × Value))
def memoA : List (List Value × Value) → List Value → Option Value
  | [], _ => none
  | (a, v) :: r, args => match sameL args a with | true => some v | false => memoA r args
def memoF : Memo → FuncId → List Value → Option Value
  | [], _, _ => none
  | (f0, l) :: r, f, args => match Nat.beq f f0 with | true => memoA l args | false => memoF r f args
def orcD (L : Memo) : Orc := fun f args H => match memoF L f args with
  | some v => some (v, H)
  | none => none
def fitD (r : Option (Value × Hp)) (v : Value) : Bool := match r with
  | some (u, _) => same1 u v && clo v
  | none => false
def okA (P : Program) (orc : Orc) (F : Nat) (f : FuncId) : List (List Value × Value) → Bool
  | [] => true
  | (a, v) :: r => match cloAll a && fitD (callNow P orc F f a deadH) v with | true => okA P orc F f r | false => false
def okM (P : Program) (orc : Orc) (F : Nat) : Memo → Bool
  | [] => true
  | (f, l) :: r => match okA P orc F f l with | true => okM P orc F r | false => false
theorem memoA_ok {P : Program} {orc : Orc} {F : Nat} {f : FuncId} : ∀ {l : List (List Value × Value)} {args : List Value} {v : Value}, okA P orc F f l = true → memoA l args = some v → cloAll args = true ∧ fitD (evalCall P orc F f args deadH) v = true
  | [], _, _, _, h => by cases h
  | (a, u) :: r, args, v, h1, h2 => by
    unfold okA at h1
    split at h1
    · rename_i hq
      obtain ⟨q1, q2⟩ := and2 hq
      rw [callNow_eq] at q2
      unfold memoA at h2
      split at h2
      · rename_i hs
        cases h2
        have := sameL_eq hs
        subst this
        exact ⟨q1, q2⟩
      · exact memoA_ok h1 h2
    · cases h1
theorem memoF_ok {P : Program} {orc : Orc} {F : Nat} {f : FuncId} : ∀ {L : Memo} {args : List Value} {v : Value}, okM P orc F L = true → memoF L f args = some v → cloAll args = true ∧ fitD (evalCall P orc F f args deadH) v = true
  | [], _, _, _, h => by cases h
  | (f0, l) :: r, args, v, h1, h2 => by
    unfold okM at h1
    split at h1
    · rename_i hq
      unfold memoF at h2
      split at h2
      · rename_i hs
        have := Nat.eq_of_beq_eq_true hs
        subst this
        exact memoA_ok hq h2
      · exact memoF_ok h1 h2
    · cases h1
theorem orcD_ok {P : Program} {x : Nat × Nat} (hb : (default : Env).base = some x) (hm : P.follows .mixedOrders = true) {orc : Orc} (hO : OrcS P orc) {F : Nat} {L : Memo} (he : okM P orc F L = true) : OrcS P (orcD L) := by
  intro f args H v2 H2 h s w a' hR ha d cs
  unfold orcD at h
  split at h
  · rename_i v hq
    cases h
    obtain ⟨hcl, hf⟩ := memoF_ok he hq
    unfold fitD at hf
    split at hf
    · rename_i u H' hev
      obtain ⟨e1, e2⟩ := and2 hf
      have e1 := same1_eq e1
      subst e1
      have e4 := cloAll_V hcl ha
      subst e4
      have hd := (call_sound hm hO hev (deadR hb) (cloAll_self hcl)).mono (R' := fun r w' => ∃ v', r = .returned v' ∧ ∃ s', V s' u v' ∧ Post P (sg0 x) deadH w s' H' w') (by rintro r w' ⟨s', v', h1, h2, h3⟩; exact ⟨v', h1, s', h2, h3⟩)
      obtain ⟨v', w', k1, s', k2, k3⟩ := calls_back hd d cs
      have e5 := clo_V e2 k2
      subst e5
      exact ⟨s, v', w', k1, clo_self e2, Post.still hR (fun b hb => k3.keep b hb dead_owned) k3.size k3.os k3.tape k3.output⟩
    · cases hf
  · cases h
/-! a call that takes nothing and says a new map of plain things -/
def mapOf (r : Option (Value × Hp)) : Option (Obj × Bool) := match r with
  | some (.map (some i), H) => H.get i
  | _ => none
def orcM (f0 : FuncId) (es : Array MapEntry) (n : Nat) : Orc := fun f args H => match Nat.beq f f0 with
  | true => (match args with | [] => some (.map (some H.n), H.push (.map es n, false)) | _ :: _ => none)
  | false => none
theorem orcM_ok {P : Program} {x : Nat × Nat} (hb : (default : Env).base = some x) (hm : P.follows .mixedOrders = true) {orc : Orc} (hO : OrcS P orc) {F : Nat} {f0 : FuncId} {es : Array MapEntry} {n : Nat} {u : Bool} (he : mapOf (evalCall P orc F f0 [] deadH) = some (.map es n, u)) : OrcS P (orcM f0 es n) := by
  intro f args H v2 H2 h s w a' hR ha d cs
  unfold orcM at h
  split at h
  · rename_i hq
    have hq := Nat.eq_of_beq_eq_true hq
    subst hq
    cases args with
    | cons _ _ => cases h
    | nil =>
    cases h
    cases ha
    unfold mapOf at he
    split at he
    · rename_i i H0 hev
      have hd := (call_sound hm hO hev (deadR hb) (args' := []) rfl).mono (R' := fun r w' => ∃ v', r = .returned v' ∧ ∃ s', V s' (.map (some i)) v' ∧ Post P (sg0 x) deadH w s' H0 w') (by rintro r w' ⟨s', v', h1, h2, h3⟩; exact ⟨v', h1, s', h2, h3⟩)
      obtain ⟨v', w', k1, s', k2, k3⟩ := calls_back hd d cs
      rw [V.map] at k2
      obtain ⟨z, e1, e2⟩ := k2
      have hlive : Live (.map es n) := fun z e => by cases e
      obtain ⟨o', g1, g2⟩ := k3.rel.obj i _ _ z he hlive e1
      have g2 : o' = .map es n := g2
      subst g2
      have hi0 : i ≠ 0 := fun h0 => by
        subst h0
        obtain ⟨o2, u2, h3, h4⟩ := k3.live 0 _ _ Nat.zero_lt_one he hlive
        exact dead_get h3 h4
      have hnew : w.heap.size ≤ z.1 := by
        rcases k3.ext i z e1 with h | ⟨_, _, h | h⟩
        · exact absurd (sg0_some h).1 hi0
        · exact h
        · exact absurd h dead_owned
      have hkeep := fun b hb => k3.keep b hb dead_owned
      have hold : ∀ j y, s j = some y → j < H.n := hR.dom
      have hne : ∀ j y, s j = some y → j ≠ H.n := fun j y e => by have := hold j y e; omega
      obtain ⟨t, ht⟩ : ∃ t : Sg, (fun j => if j = H.n then some z else s j) = t := ⟨_, rfl⟩
      have t1 : ∀ j, j ≠ H.n → t j = s j := fun j h => by rw [← ht]; show (if _ then _ else _) = _; rw [if_neg h]
      have t2 : t H.n = some z := by rw [← ht]; show (if _ then _ else _) = _; rw [if_pos rfl]
      have hle : s.le t := fun j y e => by rw [t1 j (hne j y e)]; exact e
      have hobj : ∀ j o u y, H.get j = some (o, u) → Live o → s j = some y → y.1 < w.heap.size := fun j o u y h1 h2 h3 => by
        obtain ⟨o', h4, _⟩ := hR.obj j o u y h1 h2 h3
        exact (Array.getElem?_eq_some_iff.1 h4).1
      refine ⟨t, v', w', k1, ?_, ⟨hle, ?_, by simp [Hp.push], fun b hb _ => hkeep b hb, k3.size, k3.os, k3.tape, k3.output, ?_, ?_, ⟨Hp.push_ok hR.ok, ?_, ?_, ?_, fun y e => hle 0 y (hR.base y e)⟩⟩⟩
      · rw [V.map]; exact ⟨z, t2, e2⟩
      · intro j y e
        by_cases hj : j = H.n
        · subst hj
          rw [t2] at e; cases e
          exact .inr ⟨Nat.le_refl _, by simp [Hp.push], .inl hnew⟩
        · rw [t1 j hj] at e; exact .inl e
      · intro j o u hj h1 h2
        rw [Hp.get_push_old hj] at h1
        exact ⟨o, u, h1, h2⟩
      · intro j hj _; exact Hp.get_push_old hj
      · intro j y e
        rw [Hp.push_n]
        by_cases hj : j = H.n
        · omega
        · rw [t1 j hj] at e; have := hold j y e; omega
      · intro j o u y h1 h2 h3
        by_cases hj : j = H.n
        · subst hj
          rw [t2] at h3; cases h3
          rw [Hp.get_push_new] at h1; cases h1
          exact ⟨_, g1, rfl⟩
        · rw [t1 j hj] at h3
          have hjl := hold j y h3
          rw [Hp.get_push_old hjl] at h1
          obtain ⟨o', h4, h5⟩ := hR.obj j o u y h1 h2 h3
          exact ⟨o', by rw [hkeep y.1 (hobj j o u y h1 h2 h3)]; exact h4, h5.mono hle⟩
      · intro j k o u o' u' y q h1 h2 h3 h4 h5 h6 h7
        by_cases hj : j = H.n
        · by_cases hk : k = H.n
          · omega
          · exfalso
            subst hj
            rw [t2] at h5; cases h5
            rw [t1 k hk] at h6
            rw [Hp.get_push_old (hold k q h6)] at h3
            have := hobj k o' u' q h3 h4 h6
            omega
        · rw [t1 j hj] at h5
          have hjl := hold j y h5
          rw [Hp.get_push_old hjl] at h1
          by_cases hk : k = H.n
          · exfalso
            subst hk
            rw [t2] at h6; cases h6
            have := hobj j o u y h1 h2 h5
            omega
          · rw [t1 k hk] at h6
            rw [Hp.get_push_old (hold k q h6)] at h3
            exact hR.inj j k o u o' u' y q h1 h2 h3 h4 h5 h6 h7
    · cases he
  · cases h
/-! the whole -/
def saysB (r : Option (Value × Hp)) (c : List Value) (e : TypeId) : Bool := match r with
  | some (.bool b, H) => b && hasBase H c e
  | _ => false
/-- **A call of plain things and unknowns: whatever memory it is made in, if that block lies there, it says what the evaluator says.** -/
theorem base_true {P : Program} {orc : Orc} {x : Nat × Nat} {c c1 : List Value} {e : TypeId} (hb : (default : Env).base = some x) (hc : ∀ (s : Sg) (l : List Value), VL s c l ↔ l = c1) (hm : P.follows .mixedOrders = true) (hO : OrcS P orc) {F : Nat} {f : FuncId} {args args' : List Value} (ha : VL (sg0 x) args args') (h : saysB (evalCall P orc F f args (baseH c e)) c e = true) (w : World) (hw : w.heap[x.1]? = some (.cells ⟨c1⟩ e (0, 0))) :
    Calls P f ⟨args'⟩ w fun r w' => r = .returned (.bool true) ∧ RowKit.Below w.heap.size w w' := by
  unfold saysB at h
  split at h
  · rename_i b H' he
    obtain ⟨hb1, hb2⟩ := and2 h
    subst hb1
    refine (call_sound hm hO he (baseR hb hc hw) ha).mono ?_
    rintro r w' ⟨s', v', e1, h1, h2⟩
    rw [clo_V rfl h1] at e1
    exact ⟨e1, h2.os, h2.tape, h2.output, h2.size, base_keep hb hc hw h2 hb2⟩
  · cases h
end Go.Ev
end

/- A memo of calls of plain things, where no block of the world is known. -/
section
set_option linter.unusedVariables false
namespace Go.Ev
theorem orcD_ok0 [Inhabited Env] {P : Program} (hbase : (default : Env).base = none) (hm : P.follows .mixedOrders = true) {orc : Orc} (hO : OrcS P orc) {F : Nat} {L : Memo} (he : okM P orc F L = true) : OrcS P (orcD L) := by
  intro f args H v2 H2 h s w a' hR ha d cs
  unfold orcD at h
  split at h
  · rename_i v hq
    cases h
    obtain ⟨hcl, hf⟩ := memoF_ok he hq
    unfold fitD at hf
    split at hf
    · rename_i u H' hev
      obtain ⟨e1, e2⟩ := and2 hf
      have e1 := same1_eq e1
      subst e1
      have e4 := cloAll_V hcl ha
      subst e4
      have hR0 : R P (fun _ => none) deadH w := ⟨rfl, fun i x h => (by cases h), fun i o u x h1 h2 h3 => (by cases h3), fun i j o u o' u' x y h1 h2 h3 h4 h5 => (by cases h5), fun x e => by rw [hbase] at e; cases e⟩
      have hd := (call_sound hm hO hev hR0 (cloAll_self hcl)).mono (R' := fun r w' => ∃ v', r = .returned v' ∧ ∃ s', V s' u v' ∧ Post P (fun _ => none) deadH w s' H' w') (by rintro r w' ⟨s', v', h1, h2, h3⟩; exact ⟨v', h1, s', h2, h3⟩)
      obtain ⟨v', w', k1, s', k2, k3⟩ := calls_back hd d cs
      have e5 := clo_V e2 k2
      subst e5
      refine ⟨s, v', w', k1, clo_self e2, Post.still hR (fun b hb => k3.keep b hb ?_) k3.size k3.os k3.tape k3.output⟩
      rintro ⟨i, o, u, x, _, _, h3, _⟩
      cases h3
    · cases hf
  · cases h
end Go.Ev
end
