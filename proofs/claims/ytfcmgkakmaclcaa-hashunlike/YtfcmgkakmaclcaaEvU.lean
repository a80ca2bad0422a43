/- An evaluator for closed runs: drawn regions: whichever comes up. -/
import Derived.Test.YtfcmgkakmaclcaaEvT
set_option linter.unusedSimpArgs false
set_option linter.unusedVariables false
set_option linter.unusedSectionVars false
namespace Go.Ev
variable [Inhabited Env]
section
variable {P : Program} {orc : Orc} {rec : Rec} {ops : Array Oper} {bs : List Nat} {n : Nat} {tmF : Tm} {HF : Hp} {s0 : Sg} {H0 : Hp} {w0 : World} {listed : Array Bool} {s : Sg} {arr : Array Value} {w : World} {es' : List Nat} {past : Nat} {tmg : Tm} {Hg : Hp} {pend : List (Nat × Nat)}
/-- what one that does nothing leaves -/
theorem inv_quiet (inv : Inv P orc rec ops.toList bs n tmF HF s0 H0 w0 listed s arr w es' past tmg Hg pend) {i : Nat} {o : Oper} {b : Nat} (ho : ops.toList[i]? = some o) (hb : bs[i]? = some b) (hil : i < listed.size) (hk : kind P o.op ≠ 3) (hpre : ∀ j, Nat.testBit b j = true → listed.getD j false = true) (hdn : ∀ d, o.dst = some d → d < n)
    {s1 : Sg} {w1 : World} {v' : Value} (hpost : Post P s0 H0 w0 s1 Hg w1) (hle : s.le s1) (hv : ∀ d, o.dst = some d → V s1 (look tmg d) v') (hp : ∀ j id, (j, id) ∈ pend → j ≠ i → s id = none → s1 id = none) :
    Inv P orc rec ops.toList bs n tmF HF s0 H0 w0 (listed.setIfInBounds i true) s1 (putC arr o.dst v') w1 es' past tmg Hg pend := by
  refine ⟨inv.gap, hpost, by simp [inv.lsize], ?_, ?_, ?_, inv.suf, fun j hj => set_mono (inv.past j hj), by rw [putC_size]; exact inv.size, ?_, ?_, inv.sorted⟩
  · intro j c hj hc x hx
    by_cases e : j = i
    · subst e; rw [hb] at hc; cases hc; exact set_mono (hpre x hx)
    · rw [set_other e] at hj; exact set_mono (inv.closed j c hj hc x hx)
  · intro e he
    have : e ≠ i := fun h => by
      subst h
      obtain ⟨a, ha⟩ := inv.suf
      obtain ⟨i2, o2, h1, h2, h3⟩ := effL_mem.1 (show e ∈ effL P ops.toList 0 by rw [ha]; exact List.mem_append_right _ he)
      rw [Nat.zero_add] at h1
      subst h1
      rw [ho] at h2
      cases h2
      exact hk h3
    rw [set_other this]; exact inv.left e he
  · intro j o2 h1 h2 h3
    exact inv.effs j o2 h1 h2 (set_false h3 hil).2
  · intro t
    by_cases hd : o.dst = some t
    · right
      rw [hd, putC_same (by rw [inv.size]; exact hdn t hd)]
      exact hv t hd
    · rw [putC_other hd]
      rcases inv.tms t with ⟨j, o2, h1, h2, h3, h4⟩ | h
      · left
        refine ⟨j, o2, h1, h2, ?_, h4⟩
        rw [set_other]
        · exact h3
        · intro e; subst e; rw [ho] at h1; cases h1; exact hd h2
      · exact .inr (h.mono hle)
  · intro j id hj
    obtain ⟨h1, h2, h3⟩ := inv.pends j id hj
    exact ⟨h1, h2, fun hl => by obtain ⟨q1, q2⟩ := set_false hl hil; exact hp j id hj q1 (h3 q2)⟩
theorem pred_of {e i : Nat} {es2 : List Nat} (h : i ∈ es2) : ∃ pre p post, e :: es2 = pre ++ p :: i :: post := by
  obtain ⟨c, d, rfl⟩ := List.append_of_mem h
  rcases List.eq_nil_or_concat c with rfl | ⟨c2, p, rfl⟩
  · exact ⟨[], e, d, rfl⟩
  · exact ⟨e :: c2, p, d, by simp⟩
set_option maxHeartbeats 2000000 in
theorem inv_step (hO : OrcS P orc) (hS : Snd P rec) (hR0 : R P s0 H0 w0) (htidy : tidyL P ops.toList bs n ops.toList bs 0 = true) (honce : onceOK ops.toList = true) (hchain : chainOK bs (effL P ops.toList 0) = true)
    (inv : Inv P orc rec ops.toList bs n tmF HF s0 H0 w0 listed s arr w es' past tmg Hg pend) {i : Nat} (hi : i ∈ Region.ready .any ops listed) (f : FuncId) (rest : List Nat) (k : List Item) (d : List Deferred) (r : Option Nat) (cs : List Frame) :
    ∃ s1 arr1 w1 es1 past1 tm1 H1 pend1, Steps P (lone (mk f arr (.inRegion ops (i :: rest) :: k) d r) cs w) (lone (mk f arr1 (.inRegion ops rest :: k) d r) cs w1) ∧
      Inv P orc rec ops.toList bs n tmF HF s0 H0 w0 (listed.setIfInBounds i true) s1 arr1 w1 es1 past1 tm1 H1 pend1 := by
  obtain ⟨hun, o, ho0, hdeps⟩ := mem_ready.1 hi
  have ho : ops.toList[i]? = some o := by simpa using ho0
  have hlt : i < ops.toList.length := (List.getElem?_eq_some_iff.1 ho).1
  have hil : i < listed.size := by rw [inv.lsize]; exact hlt
  have hunf : listed.getD i false = false := by simpa [hil] using hun
  obtain ⟨b, hb, hty⟩ := tidyL_mem htidy i o ho
  rw [Nat.zero_add] at hty
  unfold tidyO at hty
  obtain ⟨hty, t5⟩ := and2 hty
  obtain ⟨hty, t4⟩ := and2 hty
  obtain ⟨t1, t2, t3⟩ := and3 hty
  have t1 := Nat.eq_of_beq_eq_true t1
  have hdn : ∀ d, o.dst = some d → d < n := fun d hd => by rw [hd] at t5; simpa [Nat.blt_eq] using t5
  -- what it leans on has come up
  have hpre : ∀ j, Nat.testBit b j = true → listed.getD j false = true := by
    intro j hj
    rw [t1] at hj
    obtain ⟨e, he, hbd, h | h⟩ := edgeBits_mem hj
    · rw [h]; exact hdeps e (by simpa using he) hbd
    · cases hc : nthL bs e.on with
      | none => rw [hc] at h; simp at h
      | some c =>
        rw [hc] at h
        rw [nthL_eq] at hc
        exact inv.closed e.on c (hdeps e (by simpa using he) hbd) hc j h
  -- what it reads is there
  have hreads : ∀ t, readsOK P t b i ops.toList bs 0 = true → V s (look tmg t) (arr.getD t undef) := by
    intro t ht
    rcases inv.tms t with ⟨j, o2, h1, h2, h3, h4⟩ | h
    · obtain ⟨c, hc, _⟩ := tidyL_mem htidy j o2 h1
      rcases readsOK_mem ht j o2 c h1 hc h2 with h5 | ⟨h5, _⟩
      · rw [Nat.zero_add] at h5
        rw [hpre j h5] at h3; cases h3
      · exact absurd h5 h4
    · exact h
  have hρ : ∀ x ∈ o.op.operands, ∀ v, opA tmg x = some v → V s v (evA arr x) := by
    intro x hx v hv
    cases x with
    | tmp t => cases hv; exact hreads t (tmpsOK_mem t3 (by simpa using hx))
    | const u =>
      cases hc : clo1 u with
      | true => simp only [opA, hc] at hv; cases hv; exact clo1_self hc
      | false => simp only [opA, hc] at hv; cases hv
    | global g => cases hv
    | func g => cases hv; exact V.func.2 ⟨.func g, [], [], rfl, rfl, rfl, rfl⟩
  have hwant : Region.wanted o (yielded ops arr) = wantedA ops.toList o.guard tmg := TmR.wanted (n := n) (fun j wv dd hg hdd => by
    rw [hg] at t4
    simp only [guardOK, hdd] at t4
    exact hreads dd t4)
  have hRg := inv.post.rel
  by_cases hk : kind P o.op = 3
  · -- the next one that does something
    have hmem := inv.effs i o ho hk hunf
    cases es' with
    | nil => cases hmem
    | cons e es2 =>
      have hie : i = e := by
        rcases List.mem_cons.1 hmem with h | h
        · exact h
        · exfalso
          obtain ⟨pre, p, post, hpp⟩ := pred_of (e := e) h
          obtain ⟨a, ha⟩ := inv.suf
          rw [hpp] at ha
          have h1 := chain_mem hchain (a := a ++ pre) (b := post) (e := p) (f := i) (by rw [ha]; simp)
          rw [nthL_eq, hb] at h1
          have h2 := hpre p h1
          have h3 := inv.left p (by rw [hpp]; simp)
          rw [h2] at h3; cases h3
      subst hie
      obtain ⟨tm2, H2, heff, hst⟩ := inv.gap.next i es2 rfl
      obtain ⟨tmg2, Hg2, pend2, hq, hgap2⟩ := stages_gap hst
      -- the step
      have hstep : ∃ v v' s1 w1, tm2 = putA tmg o.dst v ∧ Steps P (lone (mk f arr (.inRegion ops (i :: rest) :: k) d r) cs w) (lone (mk f (putC arr o.dst v') (.inRegion ops rest :: k) d r) cs w1) ∧ V s1 v v' ∧ Post P s Hg w s1 H2 w1 := by
        have hnth : nthL ops.toList i = some o := by rw [nthL_eq]; exact ho
        rw [hnth] at heff
        unfold effO at heff
        simp only [] at heff
        split at heff
        · rename_i hw
          unfold effR at heff
          split at heff
          · rename_i v H3 hsub
            cases heff
            obtain ⟨s1, v', w1, q1, q2, q3⟩ := op_run hO hS hRg hsub hρ (f := f) (rest := rest) (k := k) (d := d) (r := r) ho0 (by rw [hwant]; exact hw) cs
            exact ⟨v, v', s1, w1, rfl, q1, q2, q3⟩
          · cases heff
        · rename_i hw
          cases heff
          exact ⟨undef, undef, s, w, rfl, .one (st_unwanted ho0 (by rw [hwant]; exact hw)), V.undef.2 rfl, .refl hRg⟩
      obtain ⟨v, v', s1, w1, etm, hsteps, hvv, hpost1⟩ := hstep
      have hjs : ∀ j ∈ nowL P (bitsOf es2) (some i) ops.toList bs 0, ∀ o2, ops.toList[j]? = some o2 → kind P o2.op ≠ 3 ∧ listed.getD j false = false ∧ j ≠ i := by
        intro j hj o2 h1
        obtain ⟨j2, o3, c, e1, e2, e3, e4, _, e5⟩ := nowL_mem hj
        rw [Nat.zero_add] at e1
        subst e1
        rw [h1] at e2
        cases e2
        have hbit := e5 i rfl
        refine ⟨e4, ?_, fun e => by subst e; rw [ho] at h1; cases h1; exact e4 hk⟩
        cases hl : listed.getD j false with
        | false => rfl
        | true =>
          have := inv.closed j c hl e3 i hbit
          rw [hunf] at this; cases this
      obtain ⟨g1, g2, g3, g4, q, g5, g6, g7⟩ := quietL_facts hq (fun j hj o2 h => (hjs j hj o2 h).1) hpost1.rel.ok
      have hpostF : Post P s0 H0 w0 s1 Hg2 w1 := (inv.post.trans hpost1 hR0).unborn g1 g2 g3
      have hsnone : ∀ id, id < Hg.n → s id = none → s1 id = none := by
        intro id hid hs
        cases e : s1 id with
        | none => rfl
        | some x =>
          rcases hpost1.ext id x e with h | ⟨h, _, _⟩
          · rw [hs] at h; cases h
          · omega
      obtain ⟨a, ha⟩ := inv.suf
      have hnd : ∀ x ∈ es2, x ≠ i := by
        intro x hx e
        subst e
        have hs := effL_sorted (P := P) (ops := ops.toList) (i0 := 0)
        rw [ha] at hs
        have hs2 := (List.pairwise_append.1 hs).2.1
        cases hs2 with
        | cons h1 _ => exact absurd (h1 x hx) (Nat.lt_irrefl _)
      refine ⟨s1, putC arr o.dst v', w1, es2, _, tmg2, Hg2, pend2, hsteps, hgap2, hpostF, by simp [inv.lsize], ?_, ?_, ?_, ⟨a ++ [i], by rw [ha]; simp⟩, ?_, by rw [putC_size]; exact inv.size, ?_, ?_, ?_⟩
      · intro j c hj hc x hx
        by_cases e : j = i
        · subst e; rw [hb] at hc; cases hc; exact set_mono (hpre x hx)
        · rw [set_other e] at hj; exact set_mono (inv.closed j c hj hc x hx)
      · intro x hx
        rw [set_other (hnd x hx)]
        exact inv.left x (by simp [hx])
      · intro j o2 h1 h2 h3
        obtain ⟨q1, q2⟩ := set_false h3 hil
        rcases List.mem_cons.1 (inv.effs j o2 h1 h2 q2) with h | h
        · exact absurd h q1
        · exact h
      · intro j hj
        rw [bit_lor, bit_lor, bit_one, Bool.or_eq_true, Bool.or_eq_true] at hj
        rcases hj with hj | hj | hj
        · exact set_mono (inv.past j hj)
        · have := of_decide_eq_true hj; subst this; exact set_self hil
        · rw [nthL_eq, hb] at hj; exact set_mono (hpre j hj)
      · intro t
        by_cases hex : ∃ j ∈ nowL P (bitsOf es2) (some i) ops.toList bs 0, ∃ o2, ops.toList[j]? = some o2 ∧ o2.dst = some t
        · obtain ⟨j, hj, o2, h1, h2⟩ := hex
          obtain ⟨q1, q2, q3⟩ := hjs j hj o2 h1
          exact .inl ⟨j, o2, h1, h2, by rw [set_other q3]; exact q2, q1⟩
        · have hlk : look tmg2 t = look tm2 t := g4 t (fun j hj o2 h1 h2 => hex ⟨j, hj, o2, h1, h2⟩)
          rw [hlk, etm]
          by_cases hd : o.dst = some t
          · right
            rw [hd, putC_same (by rw [inv.size]; exact hdn t hd), look_put_same]
            exact hvv
          · rw [putC_other hd, look_put hd]
            rcases inv.tms t with ⟨j, o2, h1, h2, h3, h4⟩ | h
            · left
              refine ⟨j, o2, h1, h2, ?_, h4⟩
              rw [set_other]
              · exact h3
              · intro e; subst e; rw [ho] at h1; cases h1; exact h4 hk
            · exact .inr (h.mono hpost1.le)
      · intro j id hj
        rw [g5] at hj
        rcases List.mem_append.1 hj with hj | hj
        · obtain ⟨h1, h2, h3⟩ := inv.pends j id hj
          refine ⟨h1, Nat.lt_of_lt_of_le h2 (Nat.le_trans hpost1.len g1), fun hl => hsnone id h2 (h3 (set_false hl hil).2)⟩
        · obtain ⟨h1, h2⟩ := g6 (j, id) hj
          simp only at h1 h2
          refine ⟨Nat.le_trans (Nat.le_trans inv.post.len hpost1.len) h1, h2, fun _ => ?_⟩
          cases e : s1 id with
          | none => rfl
          | some x => have := hpost1.rel.dom id x e; omega
      · rw [g5, List.pairwise_append]
        refine ⟨inv.sorted, g7, fun x hx y hy => ?_⟩
        have h1 := (inv.pends x.1 x.2 hx).2.1
        have h2 := (g6 y hy).1
        have h3 := hpost1.len
        omega
  · -- one that does nothing
    have helig : Nat.beq (Nat.land b (bitsOf es')) 0 = true := land_zero.2 fun j h1 h2 => by
      have h3 := hpre j h1
      have h4 := inv.left j (bitsOf_mem.1 h2)
      rw [h3] at h4; cases h4
    have hpast : Nat.testBit past (0 + i) = false := by
      rw [Nat.zero_add]
      cases h : Nat.testBit past i with
      | false => rfl
      | true => have := inv.past i h; rw [hunf] at this; cases this
    have hag := againL_mem inv.gap.again i o b ho hb hk helig hpast
    rw [Nat.zero_add] at hag
    unfold againO at hag
    split at hag
    · rename_i hw
      have hw2 : Region.wanted o (yielded ops arr) = true := by rw [hwant]; exact hw
      split at hag
      · rename_i h2
        have h2 := Nat.eq_of_beq_eq_true h2
        split at hag
        · rename_i dd hdd
          unfold newAt at hag
          split at hag
          · rename_i id hid
            obtain ⟨hns, hp⟩ := and2 hag
            have hp := hasP_mem hp
            obtain ⟨p1, p2, p3⟩ := inv.pends i id hp
            have hs := p3 hunf
            unfold newSame at hns
            split at hns
            · rename_i v ob ob' hnew hget
              obtain ⟨q1, q2⟩ := and2 hns
              have q1 := same1_eq q1
              have q2 := cellsSame_eq q2
              subst q2
              obtain ⟨v', o', r1, r2, r3⟩ := alloc_local (P := P) (w := w) (ρ := evA arr) h2 hnew hρ hs
              have hdf : isDefer o.op = false := by
                cases hq : isDefer o.op with
                | false => rfl
                | true => rw [defer_kind hq] at h2; cases h2
              have hpost := inv.post.born p1 p2 hs hget r3
              have hle : s.le (upd s id (w.heap.size, 0)) := fun j y e => by
                unfold upd
                by_cases hj : j = id
                · subst hj; rw [hs] at e; cases e
                · rw [if_neg hj]; exact e
              refine ⟨_, putC arr o.dst v', _, es', past, tmg, Hg, pend, .one ?_, inv_quiet inv ho hb hil hk hpre hdn hpost hle (fun d hd => ?_) (fun j id2 hj hne hs2 => ?_)⟩
              · rw [← mk_finish ho0]
                exact step_lone_go (by rw [stG_op ho0 hw2 hdf]; exact ap_value r1)
              · rw [hdd] at hd; cases hd; rw [← q1]; exact r2
              · rw [upd_other]
                · exact hs2
                · intro e; subst e; exact hne (pw_inj inv.sorted hj hp)
            · cases hns
          · cases hag
        · cases hag
      · rename_i h2
        have h2 := beq_false h2
        unfold lookD at hag
        split at hag
        · rename_i v H2 hx
          obtain ⟨e, _⟩ := kind_look hx hk h2
          subst e
          have hsub : sub P orc rec (execF P tmg o.type o.op H2) = some (v, H2) := by rw [hx]; rfl
          obtain ⟨s1, v', w1, q1, q2, q3⟩ := op_run hO hS hRg hsub hρ (f := f) (rest := rest) (k := k) (d := d) (r := r) ho0 hw2 cs
          refine ⟨s1, putC arr o.dst v', w1, es', past, tmg, H2, pend, q1, inv_quiet inv ho hb hil hk hpre hdn (inv.post.trans q3 hR0) q3.le (fun d hd => ?_) (fun j id hj _ hs => ?_)⟩
          · rw [hd] at hag
            simp only [] at hag
            rw [← same1_eq hag]; exact q2
          · cases e : s1 id with
            | none => rfl
            | some x =>
              rcases q3.ext id x e with h | ⟨h3, h4, _⟩
              · rw [hs] at h; cases h
              · omega
        · cases hag
    · rename_i hw
      have hw2 : Region.wanted o (yielded ops arr) = false := by rw [hwant]; exact hw
      refine ⟨s, putC arr o.dst undef, w, es', past, tmg, Hg, pend, .one (st_unwanted ho0 hw2), inv_quiet inv ho hb hil hk hpre hdn inv.post (Sg.le.refl s) (fun d hd => ?_) (fun _ _ _ _ hs => hs)⟩
      rw [hd] at hag
      simp only [] at hag
      rw [same1_eq hag]; exact V.undef.2 rfl
end
end Go.Ev
