/- An evaluator for closed runs: every operation. -/
import Derived.Laws.Externs
import Derived.Test.YtfcmgkakmaclcaaEvK
import Derived.Test.YtfcmgkakmaclcaaEvZ
set_option linter.unusedSimpArgs false
set_option linter.unusedVariables false
set_option linter.unusedSectionVars false
namespace Go.Ev
variable [Inhabited Env]
section
variable {P : Program} {s : Sg} {H : Hp} {w : World}
theorem u1_eq {f : Value → Res} {x : Option Value} {r : Next × Hp} (h : u1 f x = some r) : ∃ v, x = some v ∧ f v = some r := by
  cases x with
  | none => cases h
  | some v => exact ⟨v, rfl, h⟩
theorem u2_eq {f : Value → Value → Res} {x y : Option Value} {r : Next × Hp} (h : u2 f x y = some r) : ∃ v u, x = some v ∧ y = some u ∧ f v u = some r := by
  cases x with
  | none => cases h
  | some v => cases y with
    | none => cases h
    | some u => exact ⟨v, u, rfl, rfl, h⟩
theorem u3_eq {f : Value → Value → Value → Res} {x y z : Option Value} {r : Next × Hp} (h : u3 f x y z = some r) : ∃ v u t, x = some v ∧ y = some u ∧ z = some t ∧ f v u t = some r := by
  cases x with
  | none => cases h
  | some v => cases y with
    | none => cases h
    | some u => cases z with
      | none => cases h
      | some t => exact ⟨v, u, t, rfl, rfl, rfl, h⟩
theorem opsA_V {tm : Tm} {ρ : Operand → Value} : ∀ {l : List Operand} {vs : List Value}, opsA tm l = some vs → (∀ x ∈ l, ∀ v, opA tm x = some v → V s v (ρ x)) → VL s vs (l.map ρ)
  | [], vs, h, _ => by cases h; rfl
  | x :: r, vs, h, hr => by
    unfold opsA at h
    split at h
    · rename_i v hv
      split at h
      · rename_i l hl
        cases h
        exact ⟨ρ x, r.map ρ, hr x (by simp) v hv, opsA_V hl (fun y hy => hr y (by simp [hy])), rfl⟩
      · cases h
    · cases h
theorem partsA_V {tm : Tm} {ρ : Operand → Value} : ∀ {l : List (Nat × Operand)} {vs : List (Nat × Value)}, partsA tm l = some vs → (∀ x ∈ l.map (·.2), ∀ v, opA tm x = some v → V s v (ρ x)) → PL s vs (l.map fun p => (p.1, ρ p.2))
  | [], vs, h, _ => by cases h; rfl
  | (i, x) :: r, vs, h, hr => by
    unfold partsA at h
    split at h
    · rename_i v hv
      split at h
      · rename_i l hl
        cases h
        exact ⟨ρ x, _, hr x (by simp) v hv, partsA_V hl (fun y hy => hr y (by simp at hy ⊢; exact .inr hy)), rfl⟩
      · cases h
    · cases h
theorem optA_V {tm : Tm} {ρ : Operand → Value} {x : Option Operand} {v : Option Value} {n : Option Nat} (h : optA tm x = some v) (hn : optInt v = some n) (hr : ∀ y ∈ x.toArray, ∀ u, opA tm y = some u → V s u (ρ y)) : x.map ρ = v := by
  cases x with
  | none => cases h; rfl
  | some y =>
    cases hu : opA tm y with
    | none => simp only [optA, hu] at h; cases h
    | some u =>
      simp only [optA, hu] at h
      cases h
      have h3 := hr y (by simp) u hu
      rcases optInt_eq hn with ⟨e, _⟩ | ⟨k, m, e, _⟩
      · cases e
      · cases e
        have h4 := V.int.1 h3
        simp [h4]
theorem fYield_run (h : R P s H w) {l : Nat} {x : Nat × Nat} {args args' : List Value} {n : Next} {H' : Hp} (he : fYield l (some args) H = some (n, H')) (hs : s l = some x) (ha : VL s args args') : Does P s H w (Instr.yield x.1 ⟨args'⟩) n H' := by
  unfold fYield at he
  split at he
  · rename_i args0 lp u e0 hg
    cases e0
    unfold yieldR at he
    split at he
    · rename_i hb
      have hb := Nat.eq_of_beq_eq_true hb
      cases he
      obtain ⟨o', h1, t', y, h2, h3, h4⟩ := h.obj l _ u x hg (fun z e => by cases e) hs
      subst h4
      have hfold : ∀ (ps : List Nat) (as as' : List Value) (tm tm' : List Value), VL s as as' → VL s tm tm' →
          VL s ((ps.zip as).foldl (fun tm p => setL tm p.1 p.2) tm) ((ps.zip as').foldl (fun (tm : Array Value) p => tm.setIfInBounds p.1 p.2) ⟨tm'⟩).toList := by
        intro ps
        induction ps with
        | nil => intro as as' tm tm' _ hv; simpa using hv
        | cons p r ih =>
          intro as as' tm tm' ha hv
          cases as with
          | nil => cases ha; simpa using hv
          | cons a as =>
            obtain ⟨a', r', q1, q2, e⟩ := ha
            subst e
            simp only [List.zip_cons_cons, List.foldl_cons]
            have e2 : (⟨tm'⟩ : Array Value).setIfInBounds p a' = ⟨tm'.set p a'⟩ := by simp
            rw [e2]
            refine ih as r' _ _ q2 ?_
            rw [setL_eq]
            clear ih e2
            induction p generalizing tm tm' with
            | zero => cases tm with
              | nil => cases hv; exact rfl
              | cons b tm => obtain ⟨b', tr, z1, z2, e⟩ := hv; subst e; exact ⟨a', tr, q1, z2, rfl⟩
            | succ p ihp => cases tm with
              | nil => cases hv; exact rfl
              | cons b tm => obtain ⟨b', tr, z1, z2, e⟩ := hv; subst e; exact ⟨b', _, z1, ihp tm tr z2, rfl⟩
      refine ⟨s, .round x.1 lp.fn (((lp.params.toList.zip args').foldl (fun (tm : Array Value) p => tm.setIfInBounds p.1 p.2) ⟨t'⟩)) lp.assign lp.body, w, ?_, ⟨x, _, hs, hfold lp.params.toList args args' lp.tmps.toList t' ha h2, rfl⟩, .refl h⟩
      unfold Instr.yield Instr.getLoop
      have hgo : (getObj x.1).run P w = .ok (.loop { lp with tmps := ⟨t'⟩, defers := y.1 }) w := by simp [getObj, Sem.run, h1]
      have hsz : ¬ (⟨args'⟩ : Array Value).size ≠ lp.params.size := by
        have : args'.length = lp.params.toList.length := by rw [ha.len, hb]
        simpa using this
      simp only [Sem.run_bind, hgo, Result.andThen_ok, Sem.run_pure, hsz, if_false]
      congr 2
      rw [← Array.foldl_toList]
      congr 1
      simp
    · cases he
  · cases he
theorem fCallV_run (h : R P s H w) {f f' : Value} {args args' : List Value} {n : Next} {H' : Hp} (he : fCallV P (some f) (some args) H = some (n, H')) (hf : V s f f') (ha : VL s args args') :
    Does P s H w (do let d ← Deferred.ofValue f' ⟨args'⟩; invoke d.target d.args) n H' := by
  unfold fCallV at he
  split at he
  · rename_i g first cap l e1 e2
    cases e1; cases e2
    obtain ⟨l, q1, q2, q3, q4⟩ := fEnter_eq he
    cases q1
    subst q3 q4
    obtain ⟨fn', a', b', h0, h1, h2, e⟩ := V.func.1 hf
    cases h0
    subst e
    refine ⟨s, .enter g ⟨a' ++ args' ++ b'⟩, w, ?_, ⟨_, (h1.append ha).append h2, rfl⟩, .refl h⟩
    simp only [Deferred.ofValue, Sem.run_bind, Sem.run_pure, Result.andThen_ok, invoke]
    rw [callFunc_run q2]
    congr 2
    apply Array.ext'; simp
  · rename_i k l e1 e2
    cases e1; cases e2
    obtain ⟨fn', a', b', ⟨x, hs, h0⟩, h1, h2, e⟩ := V.func.1 hf
    cases h1; cases h2
    subst h0 e
    have := fYield_run h he hs ha
    have e3 : (do let d ← Deferred.ofValue (.func (.yield x.1) ⟨[]⟩ ⟨[]⟩) ⟨args'⟩; invoke d.target d.args : Sem Next) = Instr.yield x.1 ((⟨[]⟩ : Array Value) ++ ⟨args'⟩) := rfl
    rw [e3]
    have e4 : (⟨[]⟩ : Array Value) ++ (⟨args'⟩ : Array Value) = ⟨args'⟩ := by apply Array.ext'; simp
    rw [e4]
    exact this
  · cases he
theorem pureB {S : Sem Value} (h : R P s H w) {n : Next} {H' : Hp} {xs xs' : List Value} (he : (match cloAll xs with | true => fPure (runP P S) H | false => none) = some (n, H')) (hx : VL s xs xs') :
    xs' = xs ∧ Does P s H w (do pure (.value (← S))) n H' := by
  cases hc : cloAll xs with
  | false => rw [hc] at he; cases he
  | true => rw [hc] at he; exact ⟨cloAll_V hc hx, does_pureP h he⟩
theorem fBuiltin_run (h : R P s H w) {b : Builtin} {ts : Array TypeId} {ty : TypeId} {cs : Array Bool} {xs xs' : List Value} {n : Next} {H' : Hp} (he : fBuiltin P b ts ty (some xs) H = some (n, H')) (hx : VL s xs xs') : Does P s H w (builtin b ts ty cs ⟨xs'⟩) n H' := by
  unfold fBuiltin at he
  split at he
  · -- len
    unfold fLen1 at he
    split at he
    · rename_i t tr x xr ht e0
      cases e0
      obtain ⟨x', r', g1, g2, e⟩ := hx
      subst e
      obtain ⟨v, e1, e2, e3⟩ := fVal_eq he
      subst e2 e3
      obtain ⟨k1, k2⟩ := fLen_run (P := P) (w := w) (ty := ty) (xs := ⟨x' :: r'⟩) e1 g1 (argsAt ht) rfl
      exact does_pure h k2 k1
    · cases he
  · exact fAppend_run h he hx
  · exact fCopy_run h he hx
  · exact fClear_run h he hx
  · exact fDelete_run h he hx
  · obtain ⟨e, hd⟩ := pureB h he hx
    subst e; exact hd
  · obtain ⟨e, hd⟩ := pureB h he hx
    subst e; exact hd
  · obtain ⟨e, hd⟩ := pureB h he hx
    subst e; exact hd
  · obtain ⟨e, hd⟩ := pureB h he hx
    subst e; exact hd
  · cases he
theorem fFuncV {f : FuncId} {v' : Value} (h : V s (.func (.func f) #[] #[]) v') : v' = .func (.func f) #[] #[] := by
  obtain ⟨fn', a', b', h0, h1, h2, e⟩ := V.func.1 h
  cases h0; cases h1; cases h2
  exact e
theorem binO_run (h : R P s H w) {op : BinOp} {t : TypeId} {x y x' y' : Value} {n : Next} {H' : Hp} (he : binO P op t x y H (binF P H op t x y) = some (n, H')) (hx : V s x x') (hy : V s y y') (p q : Operand) :
    Does P s H w (do pure (.value (← (do eqGuard op t p q x' y'; binOp op t x' y')))) n H' := by
  unfold binO at he
  cases hr : binF P H op t x y with
  | some r =>
    rw [hr] at he
    cases he
    have key : clo r = true ∧ (do eqGuard op t p q x' y'; binOp op t x' y' : Sem Value).run P w = .ok r w := by
      unfold binF at hr
      split at hr
      · rename_i k a k' b
        have g1 := V.int.1 hx
        have g2 := V.int.1 hy
        subst g1 g2
        obtain ⟨q1, q2⟩ := binI_eq (t := t) hr
        refine ⟨q1, ?_⟩
        simp only [Sem.run_bind, eqGuard_none (P := P) (w := w) (op := op) (t := t) (x := p) (y := q) (a := .int k a) (b := .int k' b) (by simp) (by simp), Result.andThen_ok, q2]
        rfl
      · rename_i a b
        have g1 := V.string.1 hx
        have g2 := V.string.1 hy
        subst g1 g2
        obtain ⟨q1, q2⟩ := binS_eq (P := P) (w := w) (t := t) hr
        refine ⟨q1, ?_⟩
        simp only [Sem.run_bind, eqGuard_none (P := P) (w := w) (op := op) (t := t) (x := p) (y := q) (a := .string a) (b := .string b) (by simp) (by simp), Result.andThen_ok, q2]
      · exact binE_run h hr hx hy
    exact does_pure h key.2 (clo_self key.1)
  | none =>
    rw [hr] at he
    simp only [] at he
    split at he
    · rename_i hc1 hc2
      have g1 := clo_V hc1 hx
      have g2 := clo_V hc2 hy
      subst g1 g2
      have key : (eqGuard op t p q x' y').run P w = .ok () w ∧ fPure (runP P (binOp op t x' y')) H = some (n, H') := by
        split at he
        · cases he
        · cases he
        · rename_i hne1 hne2
          refine ⟨?_, he⟩
          by_cases h1 : op = .eql
          · subst h1
            exact eqGuard_none (fun e => hne1 rfl e) (fun c e => by rw [e] at hc1; cases hc1)
          · by_cases h2 : op = .neq
            · subst h2
              exact eqGuard_none (fun e => hne2 rfl e) (fun c e => by rw [e] at hc1; cases hc1)
            · exact eqGuard_other h1 h2
      obtain ⟨u, e, hc, e1, e2⟩ := fPure_eq key.2
      subst e1 e2
      have hrun : (do eqGuard op t p q x' y'; binOp op t x' y' : Sem Value).run P w = .ok u w := by
        simp only [Sem.run_bind, key.1, Result.andThen_ok]
        exact runP_run _ _ e w
      exact does_pure h hrun (clo1_self hc)
    · cases he
set_option maxHeartbeats 4000000 in
/-- **Every operation that the evaluator takes does what it says.** -/
theorem exec_sound (h : R P s H w) {tm : Tm} {o : Oper} {n : Next} {H' : Hp} {ρ : Operand → Value} (he : execF P tm o.type o.op H = some (n, H')) (hρ : ∀ x ∈ o.op.operands, ∀ v, opA tm x = some v → V s v (ρ x)) :
    Does P s H w (execOp ρ o) n H' := by
  obtain ⟨dst, op, ty, pos, after, guard⟩ := o
  simp only at he hρ
  cases op <;> simp only [execF] at he <;> first | (cases he; done) | skip
  case move x =>
    obtain ⟨v, e1, e2, e3⟩ := fVal_eq he
    subst e2 e3
    exact ⟨s, .value (ρ x), w, rfl, ⟨_, hρ x (by simp [Op.operands]) v e1, rfl⟩, .refl h⟩
  case assign x =>
    obtain ⟨v, e1, e2, e3⟩ := fVal_eq he
    subst e2 e3
    exact ⟨s, .value (ρ x), w, rfl, ⟨_, hρ x (by simp [Op.operands]) v e1, rfl⟩, .refl h⟩
  case pick c a b =>
    obtain ⟨vc, va, vb, e1, e2, e3, e4⟩ := u3_eq he
    have h1 := hρ c (by simp [Op.operands]) vc e1
    have h2 := hρ a (by simp [Op.operands]) va e2
    have h3 := hρ b (by simp [Op.operands]) vb e3
    unfold fPick at e4
    split at e4
    · cases e4
      refine ⟨s, .value (ρ a), w, ?_, ⟨_, h2, rfl⟩, .refl h⟩
      simp only [execOp, V.bool.1 h1]; rfl
    · cases e4
      refine ⟨s, .value (ρ b), w, ?_, ⟨_, h3, rfl⟩, .refl h⟩
      simp only [execOp, V.bool.1 h1]; rfl
    · cases e4
  case alloc t => exact fAlloc_run h he
  case box t x =>
    obtain ⟨v, e1, e2⟩ := u1_eq he
    have h1 := hρ x (by simp [Op.operands]) v e1
    unfold fBox at e2
    split at e2
    · rename_i hs; exact fNew_run h e2 (h1.cells_of hs)
    · cases e2
  case build t ps =>
    obtain ⟨v, e1, e2, e3⟩ := fVal_eq he
    subst e2 e3
    cases hp : partsA tm ps.toList with
    | none => rw [hp] at e1; cases e1
    | some l =>
      rw [hp] at e1
      have := partsA_V (s := s) (ρ := ρ) hp (fun x hx => hρ x (by simpa [Op.operands] using hx))
      obtain ⟨v', k1, k2⟩ := fBuild_run (P := P) (w := w) (ps' := ps.map fun (i, x) => (i, ρ x)) e1 (by simpa using this)
      exact does_pure h k2 k1
  case buildSlice t len ps =>
    cases hp : partsA tm ps.toList with
    | none => rw [hp] at he; cases he
    | some l =>
      rw [hp] at he
      have := partsA_V (s := s) (ρ := ρ) hp (fun x hx => hρ x (by simpa [Op.operands] using hx))
      exact fBuildSlice_run (ps' := ps.map fun (i, x) => (i, ρ x)) h he (by simpa using this)
  case load t x =>
    obtain ⟨v, e1, e2⟩ := u1_eq he
    obtain ⟨u, e3, e4, e5⟩ := fVal_eq e2
    subst e4 e5
    obtain ⟨v', k1, k2⟩ := run_loadF h e3 (hρ x (by simp [Op.operands]) v e1)
    exact does_pure h k2 k1
  case store t x y =>
    obtain ⟨v, u, e1, e2, e3⟩ := u2_eq he
    unfold fHp at e3
    split at e3
    · rename_i H2 hst
      cases e3
      obtain ⟨w', k1, k2⟩ := run_storeF h hst (hρ x (by simp [Op.operands]) v e1) (hρ y (by simp [Op.operands]) u e2)
      exact does_unit k1 k2
    · cases e3
  case nilCheck x =>
    obtain ⟨v, e1, e2⟩ := u1_eq he
    exact fNil_run h e2 (hρ x (by simp [Op.operands]) v e1) rfl rfl
  case binOp op t x y yt =>
    obtain ⟨v, u, e1, e2, e3⟩ := u2_eq he
    exact binO_run h e3 (hρ x (by simp [Op.operands]) v e1) (hρ y (by simp [Op.operands]) u e2) x y
  case unOp op t x =>
    obtain ⟨v, e1, e2⟩ := u1_eq he
    have h1 := hρ x (by simp [Op.operands]) v e1
    split at e2
    · rename_i hc
      have g1 := clo_V hc h1
      have := does_pureP (P := P) (s := s) (w := w) h e2
      rw [← g1] at this
      exact this
    · cases e2
  case convert a b x =>
    obtain ⟨v, e1, e2⟩ := u1_eq he
    exact fConv_run h e2 (hρ x (by simp [Op.operands]) v e1)
  case makeFunc fn a b =>
    unfold fFunc at he
    split at he
    · rename_i f la lb hla hlb
      cases he
      have k1 := opsA_V (s := s) (ρ := ρ) hla (fun x hx => hρ x (by simp [Op.operands]; exact .inl (by simpa using hx)))
      have k2 := opsA_V (s := s) (ρ := ρ) hlb (fun x hx => hρ x (by simp [Op.operands]; exact .inr (by simpa using hx)))
      refine does_pure h (v' := .func (.func f) (a.map ρ) (b.map ρ)) rfl (V.func.2 ⟨.func f, a.toList.map ρ, b.toList.map ρ, rfl, k1, k2, ?_⟩)
      congr 1 <;> (apply Array.ext'; simp)
    · cases he
  case makeMap t r =>
    unfold fMakeMap at he
    split at he
    · cases he
      refine does_val (s' := upd s H.n (w.heap.size, 0)) (v' := .map (some w.heap.size)) ?_ (V.map.2 ⟨_, upd_same _ _ _, rfl⟩) (h.push (o := .map #[] 0) (o' := .map #[] 0) (fun _ => rfl))
      simp [Instr.makeMap, newObj, Sem.run]
    · cases he
  case makeSlice t l c =>
    obtain ⟨v, u, e1, e2, e3⟩ := u2_eq he
    exact fMake_run h e3 (hρ l (by simp [Op.operands]) v e1) (hρ c (by simp [Op.operands]) u e2)
  case slice t x lo hi mx =>
    obtain ⟨v, e1, e2⟩ := u1_eq he
    have h1 := hρ x (by simp [Op.operands]) v e1
    unfold slArgs at e2
    split at e2
    · rename_i lo' hi' mx' q1 q2 q3
      obtain ⟨u, e3, e4, e5⟩ := fVal_eq e2
      subst e4 e5
      have hopt : ∃ a b c, optInt lo' = some a ∧ optInt hi' = some b ∧ optInt mx' = some c := by
        unfold fSlice fSlice1 at e3
        split at e3
        · rename_i a b c ha hb hc; exact ⟨a, b, c, ha, hb, hc⟩
        · cases e3
      obtain ⟨a, b, c, ha, hb, hc⟩ := hopt
      have z1 := optA_V (s := s) (ρ := ρ) q1 ha (fun y hy => hρ y (by simp [Op.operands] at hy ⊢; simp [hy]))
      have z2 := optA_V (s := s) (ρ := ρ) q2 hb (fun y hy => hρ y (by simp [Op.operands] at hy ⊢; simp [hy]))
      have z3 := optA_V (s := s) (ρ := ρ) q3 hc (fun y hy => hρ y (by simp [Op.operands] at hy ⊢; simp [hy]))
      obtain ⟨v', k1, k2⟩ := fSlice_run h e3 h1
      rw [← z1, ← z2, ← z3] at k2
      exact does_pure h k2 k1
    · cases e2
  case fieldAddr t x f =>
    obtain ⟨v, e1, e2⟩ := u1_eq he
    exact fField_run h e2 (hρ x (by simp [Op.operands]) v e1)
  case field t x f =>
    obtain ⟨v, e1, e2⟩ := u1_eq he
    exact fFieldV_run h e2 (hρ x (by simp [Op.operands]) v e1)
  case indexAddr t x i =>
    obtain ⟨v, u, e1, e2, e3⟩ := u2_eq he
    exact fIdx_run h e3 (hρ x (by simp [Op.operands]) v e1) (hρ i (by simp [Op.operands]) u e2)
  case index t x i =>
    obtain ⟨v, u, e1, e2, e3⟩ := u2_eq he
    exact fIndex_run h e3 (hρ x (by simp [Op.operands]) v e1) (hρ i (by simp [Op.operands]) u e2)
  case lookup t m k ok =>
    obtain ⟨v, u, e1, e2, e3⟩ := u2_eq he
    exact fLook_run h e3 (hρ m (by simp [Op.operands]) v e1) (hρ k (by simp [Op.operands]) u e2)
  case mapUpdate t m k x =>
    obtain ⟨v, u, z, e1, e2, e3, e4⟩ := u3_eq he
    exact fUpd_run h e4 (hρ m (by simp [Op.operands]) v e1) (hρ k (by simp [Op.operands]) u e2) (hρ x (by simp [Op.operands]) z e3)
  case mapEntry t m k =>
    obtain ⟨v, u, e1, e2, e3⟩ := u2_eq he
    exact fEnt_run h e3 (hρ m (by simp [Op.operands]) v e1) (hρ k (by simp [Op.operands]) u e2)
  case entryStore t m k x =>
    obtain ⟨v, u, z, e1, e2, e3, e4⟩ := u3_eq he
    exact fSto_run h e4 (hρ m (by simp [Op.operands]) v e1) (hρ k (by simp [Op.operands]) u e2) (hρ x (by simp [Op.operands]) z e3)
  case range t x =>
    obtain ⟨v, e1, e2⟩ := u1_eq he
    exact fRange_run h e2 (hρ x (by simp [Op.operands]) v e1)
  case next x b =>
    obtain ⟨v, e1, e2⟩ := u1_eq he
    exact fNext_run h e2 (hρ x (by simp [Op.operands]) v e1)
  case extract x i =>
    obtain ⟨v, e1, e2⟩ := u1_eq he
    exact fExtract_run h e2 (hρ x (by simp [Op.operands]) v e1)
  case call c =>
    have hargs : ∀ x ∈ c.args.toList, ∀ v, opA tm x = some v → V s v (ρ x) := fun x hx => hρ x (by simp [Op.operands, Call.operands]; exact .inr (by simpa using hx))
    have hmap : (⟨c.args.toList.map ρ⟩ : Array Value) = c.args.map ρ := by apply Array.ext'; simp
    unfold fCall at he
    split at he
    · rename_i f hcal
      have hf := fFuncV (hρ (.func f) (by simp [Op.operands, Call.operands, hcal]) _ rfl)
      unfold fCallF at he
      split at he
      · obtain ⟨l, q1, q2, q3, q4⟩ := fEnter_eq he
        subst q3 q4
        have k1 := opsA_V (s := s) (ρ := ρ) q1 hargs
        refine ⟨s, .enter f ⟨c.args.toList.map ρ⟩, w, ?_, ⟨_, k1, rfl⟩, .refl h⟩
        simp only [execOp, resolve, hcal, hf, Deferred.ofValue, Sem.run_bind, Sem.run_pure, Result.andThen_ok, invoke]
        rw [callFunc_run q2, hmap]
        congr 2
        apply Array.ext'; simp
      · unfold fExt at he
        split at he
        · rename_i g l hg ha
          split at he
          · rename_i hcl
            split at he
            · rename_i e n1 n2 n3 n4
              have k1 := opsA_V (s := s) (ρ := ρ) ha hargs
              have e1 := cloAll_V hcl k1
              obtain ⟨s2, n', w2, r1, r2, r3⟩ := does_pureP h he
              have hg2 : P.funcs[f]? = some g := by rw [nthL_eq] at hg; simpa using hg
              refine ⟨s2, n', w2, ?_, r2, r3⟩
              have hx := run_callFunc_extern hg2 n1 n2 n3 n4 ⟨l⟩ w
              have e2 : (#[] ++ Array.map ρ c.args ++ #[] : Array Value) = ⟨l⟩ := by rw [← hmap, e1]; apply Array.ext'; simp
              simp only [execOp, resolve, hcal, hf, Deferred.ofValue, Sem.run_bind, Sem.run_pure, Result.andThen_ok, invoke]
              rw [e2, hx]
              simpa [Sem.run_bind] using r1
            · cases he
          · cases he
        · cases he
    · rename_i x hne hcal
      cases hx : opA tm x with
      | none => rw [hx] at he; unfold fCallV at he; cases he
      | some f =>
        rw [hx] at he
        cases ha : opsA tm c.args.toList with
        | none => rw [ha] at he; unfold fCallV at he; split at he <;> first | cases he | (rename_i e; cases e)
        | some l =>
          rw [ha] at he
          have k1 := opsA_V (s := s) (ρ := ρ) ha hargs
          have := fCallV_run h he (hρ x (by simp [Op.operands, Call.operands, hcal]) f hx) k1
          simp only [execOp, resolve, hcal]
          rw [hmap] at this
          exact this
    · rename_i b hcal
      cases ha : opsA tm c.args.toList with
      | none =>
        rw [ha] at he
        unfold fBuiltin at he
        split at he <;> first | (cases he; done) | (unfold fLen1 at he; split at he <;> first | (cases he; done) | (rename_i e; cases e)) | (unfold on2 at he; cases he)
      | some l =>
        rw [ha] at he
        have k1 := opsA_V (s := s) (ρ := ρ) ha hargs
        have := fBuiltin_run (cs := c.args.map fun | .const _ => true | _ => false) h he k1
        simp only [execOp, resolve, hcal]
        rw [hmap] at this
        exact this
    · cases he
end
end Go.Ev
