/- An evaluator for closed runs: every step of a frame. -/
import Derived.Test.YtfcmgkakmaclcaaEvO
set_option linter.unusedSimpArgs false
set_option linter.unusedVariables false
set_option linter.unusedSectionVars false
namespace Go.Ev
variable [Inhabited Env]
/-- what is asked of a drawn region -/
def SndD (P : Program) (orc : Orc) (rec : Rec) : Prop := ∀ (ops : Array Oper) n tm H tm' H', drawn P orc rec ops.toList n tm H = some (tm', H') → ∀ s w arr, R P s H w → TmR s n tm arr → ∀ (t : Nat) f k d r cs,
  ∃ s1 arr1 w1, Steps P (lone (mk f arr (.inRegion ops (Region.linearise .any ops t) :: k) d r) cs w) (lone (mk f arr1 (.inRegion ops [] :: k) d r) cs w1) ∧ TmR s1 n tm' arr1 ∧ Post P s H w s1 H' w1
section
variable {P : Program} {s : Sg} {H : Hp} {w : World}
theorem live_loop {l : Loop} : Live (.loop l) := fun z e => by cases e
theorem live_def {d : Option (List Deferred)} : Live (.deferred d) := fun z e => by cases e
theorem R.loop (h : R P s H w) {l : Nat} {x : Nat × Nat} {lp : Loop} {u : Bool} (hg : H.get l = some (.loop lp, u)) (hs : s l = some x) : ∃ t' y, VL s lp.tmps.toList t' ∧ s lp.defers = some y ∧ w.heap[x.1]? = some (.loop { lp with tmps := ⟨t'⟩, defers := y.1 }) := by
  obtain ⟨o', h1, t', y, h2, h3, h4⟩ := h.obj l _ u x hg live_loop hs
  subst h4
  exact ⟨t', y, h2, h3, h1⟩
theorem getLoop_run {l : Nat} {lp : Loop} (h : w.heap[l]? = some (.loop lp)) : (Instr.getLoop l).run P w = .ok lp w := by simp [Instr.getLoop, getObj, Sem.run, h]
theorem setLoop_run {l : Nat} {lp : Loop} {o : Obj} (h : w.heap[l]? = some (.loop lp)) : (setObj l o).run P w = .ok () { w with heap := w.heap.setIfInBounds l o } := by simp [setObj, Sem.run, h]
theorem endRd_run (h : R P s H w) {l : Nat} {x : Nat × Nat} {jump : Option Code} {v : Value} {H' : Hp} (he : endRd l jump H (H.get l) = some (v, H')) (hs : s l = some x) :
    ∃ w', (Instr.endRound x.1 jump).run P w = .ok v w' ∧ V s v v ∧ Post P s H w s H' w' := by
  unfold endRd at he
  split at he
  · rename_i lp u hg
    cases he
    obtain ⟨t', y, h1, h2, h3⟩ := h.loop hg hs
    have hp := h.set (o2 := .loop { lp with state := if jump.isNone then .ready else .done, pending := jump }) (u2 := u) hg live_loop hs ⟨t', y, h1, h2, rfl⟩
    refine ⟨_, ?_, rfl, hp⟩
    unfold Instr.endRound
    simp only [Sem.run_bind, getLoop_run h3, Result.andThen_ok, setLoop_run h3, Sem.run_pure]
  · cases he
theorem endR_run (h : R P s H w) {l : Nat} {x : Nat × Nat} {lp : Loop} {u : Bool} (hg : H.get l = some (.loop lp, u)) (hs : s l = some x) (hb : lp.state ≠ .busy) :
    ∃ w', (Instr.endLoop x.1).run P w = .ok lp.pending w' ∧ Post P s H w s (H.set l (.loop { lp with state := .exhausted }, u)) w' := by
  obtain ⟨t', y, h1, h2, h3⟩ := h.loop hg hs
  have hp := h.set (o2 := .loop { lp with state := .exhausted }) (u2 := u) hg live_loop hs ⟨t', y, h1, h2, rfl⟩
  refine ⟨_, ?_, hp⟩
  unfold Instr.endLoop
  have hb2 : (lp.state == LoopState.busy) = false := by cases hs : lp.state <;> first | rfl | exact absurd hs hb
  simp only [Sem.run_bind, getLoop_run h3, Result.andThen_ok, hb2, Bool.false_eq_true, if_false, Sem.run_pure, setLoop_run h3]
theorem beginR_run (h : R P s H w) {l : Nat} {x : Nat × Nat} {lp : Loop} {u : Bool} (hg : H.get l = some (.loop lp, u)) (hs : s l = some x) (hb : lp.state = .ready) :
    ∃ w', (Instr.beginRound x.1).run P w = .ok () w' ∧ Post P s H w s (H.set l (.loop { lp with state := .busy }, u)) w' := by
  obtain ⟨t', y, h1, h2, h3⟩ := h.loop hg hs
  have hp := h.set (o2 := .loop { lp with state := .busy }) (u2 := u) hg live_loop hs ⟨t', y, h1, h2, rfl⟩
  refine ⟨_, ?_, hp⟩
  unfold Instr.beginRound
  simp only [Sem.run_bind, getLoop_run h3, Result.andThen_ok, setLoop_run h3, hb, Sem.run_pure]
theorem take_run (h : R P s H w) {b : Nat} {x : Nat × Nat} {u : Bool} (hg : H.get b = some (.deferred (some []), u)) (hs : s b = some x) :
    ∃ w', (Instr.takeDeferred x.1).run P w = .ok [] w' ∧ Post P s H w s (H.set b (.deferred none, u)) w' := by
  obtain ⟨o', h1, _, h2⟩ := h.obj b _ u x hg live_def hs
  subst h2
  have hp := h.set (o2 := .deferred none) (o2' := .deferred none) (u2 := u) hg live_def hs ⟨.inr rfl, rfl⟩
  refine ⟨_, ?_, hp⟩
  unfold Instr.takeDeferred
  simp [getObj, setObj, Sem.run, h1]
theorem takeAll_run : ∀ {ds : List Deferred} {d' : List Deferred} {H : Hp} {w : World} {H1 : Hp}, R P s H w → takeAll ds H = some H1 → DL s ds d' → ∀ f t td cs, ∃ w1, Steps P (lone (gone f t td d') cs w) (lone (gone f t td []) cs w1) ∧ Post P s H w s H1 w1
  | [], d', H, w, H1, hR, he, hd, f, t, td, cs => by cases hd; cases he; exact ⟨w, .refl _ _, .refl hR⟩
  | d :: ds, d', H, w, H1, hR, he, hd, f, t, td, cs => by
    obtain ⟨dd, dr, ⟨q, x, e1, e2, e3⟩, h2, e⟩ := hd
    obtain ⟨tg, as⟩ := d
    simp only at e1
    subst e1 e3 e
    simp only [takeAll] at he
    split at he
    · rename_i H2 hto
      unfold takeO at hto
      split at hto
      · rename_i u hg
        cases hto
        obtain ⟨w1, h3, h4⟩ := take_run hR hg e2
        obtain ⟨w2, k1, k2⟩ := takeAll_run h4.rel he h2 f t td cs
        exact ⟨w2, .head (st_take h3) k1, h4.trans k2 hR⟩
      · cases hto
    · cases he
theorem allOf_V {n : Nat} {tm : Tm} {arr : Array Value} (ht : TmR s n tm arr) : VL s (allOf tm n 0) arr.toList := by
  have key : ∀ m i, i + m = n → VL s (allOf tm m i) (arr.toList.drop i) := by
    intro m
    induction m with
    | zero =>
      intro i hi
      have : arr.toList.drop i = [] := by rw [List.drop_eq_nil_iff, Array.length_toList, ht.1]; omega
      rw [this]; rfl
    | succ m ih =>
      intro i hi
      have hlt : i < arr.toList.length := by rw [Array.length_toList, ht.1]; omega
      rw [List.drop_eq_getElem_cons hlt]
      refine ⟨_, _, ?_, ih (i + 1) (by omega), rfl⟩
      have := ht.2 i
      have e : arr.getD i undef = arr.toList[i] := by
        have hi2 : i < arr.size := by rw [← Array.length_toList]; exact hlt
        simp [hi2]
      rw [e] at this
      exact this
  have := key n 0 (by omega)
  simpa using this
/-- a range over a function: from the loop's own block on -/
theorem range_run {orc : Orc} {rec : Rec} (hO : OrcS P orc) (hS : Snd P rec) {fn : FuncId} {rnd : Option Nat} {n : Nat} {tm : Tm} {fo : Operand} {l : Nat} {k : List Item} {ds : List Deferred} {H1 : Hp} {v : Value} {H' : Hp} (he : rangeG P orc rec fn rnd n tm (opA tm fo) l k ds H1 = some (v, H'))
    {s1 : Sg} {w1 : World} {arr : Array Value} {k' : List Item} {d' mark : List Deferred} {r' : Option Nat} {x : Nat × Nat} {ps : Array Tmp} {a b : Code} (hR : R P s H w) (hP : Post P s H w s1 H1 w1) (hs : s1 l = some x) (ht : TmR s1 n tm arr) (hk : IL s1 k k') (hd : DL s1 ds (mark ++ d')) (hr : RR s1 rnd r') {cs : List Frame}
    (h1 : (Instr.enterLoop fn arr ps a b r').run P w = .ok (x.1, mark) w1) :
    ∃ s' v' w', Ends P fn r' cs (lone (mk fn arr (.code (.rangeFunc fo ps a b) :: k') d' r') cs w) v' w' ∧ V s' v v' ∧ Post P s H w s' H' w' := by
  unfold rangeG rangeC at he
  split at he
  · rename_i u H3 hx
    cases hf : opA tm fo with
    | none => rw [hf] at hx; unfold fCallV at hx; simp only at hx; cases hx
    | some fv =>
      rw [hf] at hx
      split at hx
      · rename_i g args H2 hcv
        have hy : VL s1 [.func (.yield l) #[] #[]] [.func (.yield x.1) #[] #[]] := ⟨_, [], V.func.2 ⟨.yield x.1, [], [], ⟨x, hs, rfl⟩, rfl, rfl, rfl⟩, rfl, rfl⟩
        obtain ⟨s2, n', w2, k1, ⟨a', k2, e⟩, k3⟩ := fCallV_run hP.rel hcv (ht.op hf) hy
        subst e
        obtain ⟨s3, v3, w3, k4, k5, k6⟩ := enterG_run hO hS k3.rel hx k2 (mk fn arr (.inRangeFunc x.1 :: k') (mark ++ d') r') cs
        rw [fin_range] at k4
        have hres : resolve (evA arr) { callee := .value fo, args := #[.const (.func (.yield x.1) #[] #[])], argTypes := #[] } 0 = Deferred.ofValue (evA arr fo) ⟨[.func (.yield x.1) #[] #[]]⟩ := by
          unfold resolve
          simp [evA]
        rw [← hres] at k1
        have hP2 := (hP.trans k3 hR).trans k6 hR
        have hle : s1.le s3 := k3.le.trans k6.le
        exact hS.behind he hR hP2 (ht.mono hle) ⟨_, _, ⟨x, hle _ _ hs, rfl⟩, hk.mono hle, rfl⟩ (hd.mono hle) (hr.mono hle) (.head (st_range h1 k1) k4)
      · cases hx
  · cases he
theorem stepF_sound {orc : Orc} {rec : Rec} (hm : P.follows .mixedOrders = true) (hO : OrcS P orc) (hS : Snd P rec) (hD : SndD P orc rec) : Snd P (stepF P orc rec) := by
  intro fn rnd n tm todo ds H v H' he s w arr k' d' r' hR ht hk hd hr cs
  -- leaving a frame
  have hleave : ∀ (jump : Option Code) (k' : List Item), leave P fn rnd tm ds H jump = some (v, H') →
      ((k' = [] ∧ jump = none) ∨ (∃ k, k' = .code .ret :: k ∧ jump = some .ret) ∨ (rnd ≠ none ∧ ∃ x k, k' = .code (.exit x) :: k ∧ exitTo x k = none ∧ jump = some (.exit x)) ∨ (rnd ≠ none ∧ ∃ x k, k' = .code (.goto x) :: k ∧ gotoIn x k = none ∧ jump = some (.goto x))) →
      ∃ s' v' w', Ends P fn r' cs (lone (mk fn arr k' d' r') cs w) v' w' ∧ V s' v v' ∧ Post P s H w s' H' w' := by
    intro jump k' he htd
    unfold leave at he
    split at he
    · rename_i l
      obtain ⟨x, e1, e2⟩ := hr
      subst e2
      obtain ⟨w', h1, h2, h3⟩ := endRd_run hR he e1
      refine ⟨s, v, w', fun c cs' e => ?_, h2, h3⟩
      subst e
      refine .one (st_leaveR (jump := jump) ?_ h1)
      rcases htd with h | h | ⟨_, h⟩ | ⟨_, h⟩
      · exact .inl h
      · exact .inr (.inl h)
      · exact .inr (.inr (.inl h))
      · exact .inr (.inr (.inr h))
    · cases hr
      have htd2 : k' = [] ∨ ∃ k, k' = .code .ret :: k := by
        rcases htd with ⟨h, _⟩ | ⟨k, h, _⟩ | ⟨h, _⟩ | ⟨h, _⟩
        · exact .inl h
        · exact .inr ⟨k, h⟩
        · exact absurd rfl h
        · exact absurd rfl h
      unfold leaveH at he
      split at he
      · rename_i H1 hta
        obtain ⟨w1, k1, k2⟩ := takeAll_run hR hta hd fn arr k' cs
        unfold leaveL at he
        split at he
        · rename_i g hg
          have hg2 : P.funcs[fn]? = some g := by rw [nthL_eq] at hg; simpa using hg
          obtain ⟨e, v', h1, h2⟩ := results_run k2.rel ht he
          subst e
          exact ⟨s, v', w1, ⟨arr, k', g, hg2, h2, .head (st_leave htd2) k1⟩, h1, k2⟩
        · cases he
      · cases he
  have one : ∀ {todo2 : List Item} {k2 : List Item}, rec fn rnd n tm todo2 ds H = some (v, H') → IL s todo2 k2 → step P (lone (mk fn arr k' d' r') cs w) = .next (lone (mk fn arr k2 d' r') cs w) →
      ∃ s' v' w', Ends P fn r' cs (lone (mk fn arr k' d' r') cs w) v' w' ∧ V s' v v' ∧ Post P s H w s' H' w' := fun he2 hk2 hst => hS.behind he2 hR (.refl hR) ht hk2 hd hr (.one hst)
  unfold stepF at he
  split at he
  · cases hk; exact hleave none [] he (.inl ⟨rfl, rfl⟩)
  · rename_i it k
    obtain ⟨i', r2, h1, h2, e⟩ := hk
    subst e
    unfold stepI at he
    split at he
    · rename_i c
      cases h1
      unfold stepC at he
      split at he
      · exact hleave (some .ret) _ he (.inr (.inl ⟨r2, rfl, rfl⟩))
      · exact one he h2 st_skip
      · exact one he h2 st_label
      · exact one he ⟨_, _, rfl, ⟨_, _, rfl, h2, rfl⟩, rfl⟩ st_seq
      · rename_i c a b
        unfold goTo at he
        split at he
        · rename_i k2 hc
          unfold condTo at hc
          split at hc
          · rename_i hv
            cases hc
            have := V.bool.1 (ht.op hv)
            exact one he ⟨_, _, rfl, h2, rfl⟩ (st_cond this)
          · rename_i hv
            cases hc
            have := V.bool.1 (ht.op hv)
            exact one he ⟨_, _, rfl, h2, rfl⟩ (st_cond this)
          · cases hc
        · cases he
      · exact one he ⟨_, _, rfl, ⟨_, _, rfl, h2, rfl⟩, rfl⟩ st_block
      · exact one he ⟨_, _, rfl, ⟨_, _, rfl, h2, rfl⟩, rfl⟩ st_loop
      · exact one he ⟨_, _, rfl, ⟨_, _, rfl, h2, rfl⟩, rfl⟩ st_scope
      · rename_i id
        unfold jumpTo at he
        obtain ⟨x1, x2⟩ := exitTo_R (s := s) (id := id) h2
        split at he
        · rename_i k2 hk2
          obtain ⟨k2', e1, e2⟩ := x1 k2 hk2
          exact one he e2 (st_exit e1)
        · rename_i hk2
          split at he
          · exact hleave _ _ he (.inr (.inr (.inl ⟨by simp, id, r2, rfl, x2 hk2, rfl⟩)))
          · cases he
      · rename_i id
        unfold jumpTo at he
        obtain ⟨x1, x2⟩ := gotoIn_R (s := s) (id := id) h2
        split at he
        · rename_i k2 hk2
          obtain ⟨k2', e1, e2⟩ := x1 k2 hk2
          exact one he e2 (st_goto e1)
        · rename_i hk2
          split at he
          · exact hleave _ _ he (.inr (.inr (.inr ⟨by simp, id, r2, rfl, x2 hk2, rfl⟩)))
          · cases he
      · rename_i id ops draw
        unfold regionB at he
        split at he
        · unfold thenF at he
          split at he
          · rename_i tm2 H2 hdr
            have hR1 : R P s H (drew1 w) := hR.of_heap rfl
            obtain ⟨s1, arr1, w1, k1, k2, k3⟩ := hD ops n tm H tm2 H2 hdr s (drew1 w) arr hR1 ht (w.tape w.drawn (.order fn id)) fn r2 d' r' cs
            have hP : Post P s H w s1 H2 w1 := ((Post.refl hR).of_heap (w2 := drew1 w) rfl rfl rfl rfl).trans k3 hR
            exact hS.behind he hR hP k2 (h2.mono hP.le) (hd.mono hP.le) (hr.mono hP.le) (.head (st_draw hm) (k1.trans (.one st_rend)))
          · cases he
        · rename_i hdr
          have e1 : upL ops.toList.length 0 = List.range ops.size := by rw [upL_range, Array.length_toList]
          rw [e1] at he
          exact one he ⟨_, _, rfl, h2, rfl⟩ st_region
      · rename_i fo ps a b
        unfold rangeF at he
        split at he
        · cases hr
          have p1 := hR.push (o := .deferred (some [])) (o' := .deferred (some [])) (u := false) (k := 0) (fun _ => ⟨.inl rfl, rfl⟩)
          have hle1 := p1.le
          have p2 := p1.rel.push (o := .loop { state := .ready, pending := none, fn, tmps := ⟨allOf tm n 0⟩, params := ps, assign := a, body := b, defers := H.n }) (o' := .loop { state := .ready, pending := none, fn, tmps := arr, params := ps, assign := a, body := b, defers := w.heap.size }) (u := false) (k := 0)
            (fun _ => ⟨arr.toList, (w.heap.size, 0), (allOf_V ht).mono (hle1.trans (upd_le p1.rel.fresh _)), upd_le p1.rel.fresh _ _ _ (upd_same _ _ _), rfl⟩)
          have hP := p1.trans p2 hR
          refine range_run (mark := [{ target := .collected w.heap.size, args := #[] }]) hO hS he hR hP (upd_same _ _ _) (ht.mono hP.le) (h2.mono hP.le) ⟨_, _, ⟨H.n, (w.heap.size, 0), rfl, p2.le _ _ (upd_same _ _ _), rfl⟩, hd.mono hP.le, rfl⟩ rfl ?_
          unfold Instr.enterLoop
          simp [newObj, Sem.run]
          rfl
        · rename_i l
          obtain ⟨x, e1, e2⟩ := hr
          subst e2
          split at he
          · rename_i lp u hg
            obtain ⟨t', y, q1, q2, q3⟩ := hR.loop hg e1
            have p2 := hR.push (o := .loop { state := .ready, pending := none, fn, tmps := ⟨allOf tm n 0⟩, params := ps, assign := a, body := b, defers := lp.defers }) (o' := .loop { state := .ready, pending := none, fn, tmps := arr, params := ps, assign := a, body := b, defers := y.1 }) (u := false) (k := 0)
              (fun _ => ⟨arr.toList, y, (allOf_V ht).mono (upd_le hR.fresh _), upd_le hR.fresh _ _ _ q2, rfl⟩)
            refine range_run (mark := []) hO hS he hR p2 (upd_same _ _ _) (ht.mono p2.le) (h2.mono p2.le) (hd.mono p2.le) ⟨x, p2.le _ _ e1, rfl⟩ ?_
            unfold Instr.enterLoop
            simp only [Sem.run_bind, getLoop_run q3, Result.andThen_ok, Sem.run_pure]
            rfl
          · cases he
      · cases he
    · cases h1; exact one he h2 st_inBlock
    · cases h1; exact one he h2 st_inScope
    · cases h1; exact one he ⟨_, _, rfl, ⟨_, _, rfl, h2, rfl⟩, rfl⟩ st_inLoop
    · rename_i ops l
      cases h1
      unfold region at he
      split at he
      · exact one he h2 st_rend
      · rename_i i rest
        unfold operO at he
        split at he
        · rename_i o ho
          have ho2 : ops[i]? = some o := by rw [nthL_eq] at ho; simpa using ho
          split at he
          · rename_i hok
            have hwant := TmR.wanted (s := s) (n := n) (tm := tm) (arr := arr) (ops := ops) (o := o) (fun j w d _ _ => ht.2 d)
            unfold operT at he
            split at he
            · rename_i hw
              rw [hw] at hwant
              unfold cont at he
              split at he
              · rename_i u H1 hsub
                obtain ⟨s1, u', w1, k1, k2, k3⟩ := op_run hO hS hR hsub (fun x _ v hv => ht.op hv) (f := fn) (rest := rest) (k := r2) (d := d') (r := r') ho2 hwant cs
                exact hS.behind he hR k3 ((ht.mono k3.le).put hok k2) ⟨_, _, rfl, h2.mono k3.le, rfl⟩ (hd.mono k3.le) (hr.mono k3.le) k1
              · cases he
            · rename_i hw
              rw [hw] at hwant
              exact hS.behind he hR (.refl hR) (ht.put hok (V.undef.2 rfl)) ⟨_, _, rfl, h2, rfl⟩ hd hr (.one (st_unwanted ho2 hwant))
          · cases he
        · cases he
    · rename_i l
      obtain ⟨x, e1, e2⟩ := h1
      subst e2
      unfold endR at he
      split at he
      · rename_i lp u hg
        have hb : lp.state ≠ .busy := fun e => by rw [e] at he; cases he
        have he2 : rec fn rnd n tm (jumpL lp.pending k) ds (H.set l (.loop { lp with state := .exhausted }, u)) = some (v, H') := by
          split at he
          · cases he
          · exact he
        obtain ⟨w1, k1, k2⟩ := endR_run hR hg e1 hb
        have hj : IL s (jumpL lp.pending k) ((lp.pending.map Item.code).toList ++ r2) := by
          cases lp.pending with
          | none => simpa [jumpL] using h2
          | some c => exact ⟨_, _, rfl, h2, rfl⟩
        exact hS.behind he2 hR k2 ht hj hd hr (.one (st_endRange k1))
      · cases he
    · cases h1
      unfold beginR at he
      split at he
      · rename_i l
        obtain ⟨x, e1, e2⟩ := hr
        subst e2
        unfold beginO at he
        split at he
        · rename_i lp u hg
          have hb : lp.state = .ready := by
            cases hs : lp.state <;> rw [hs] at he <;> first | rfl | cases he
          have he2 : rec fn (some l) n tm k ds (H.set l (.loop { lp with state := .busy }, u)) = some (v, H') := by
            split at he
            · exact he
            · cases he
          obtain ⟨w1, k1, k2⟩ := beginR_run hR hg e1 hb
          exact hS.behind he2 hR k2 ht h2 hd ⟨x, e1, rfl⟩ (.one (st_begin k1))
        · cases he
      · cases he
    · cases he
end
end Go.Ev
