/- An evaluator for closed runs: drawn regions. -/
import Derived.Test.YtfcmgkakmaclcaaEvP
import Derived.Test.YtfcmgkakmaclcaaEvR
set_option linter.unusedSimpArgs false
set_option linter.unusedVariables false
set_option linter.unusedSectionVars false
namespace Go.Ev
variable [Inhabited Env]
section
variable {P : Program}
/-- A new block, by itself. -/
theorem alloc_local {s : Sg} {w : World} {tm : Tm} {o : Oper} {i : Nat} {v : Value} {ob : Obj} {ρ : Operand → Value} (hk : kind P o.op = 2) (hn : newOf P tm o.type o.op i = some (v, ob)) (hρ : ∀ x ∈ o.op.operands, ∀ v, opA tm x = some v → V s v (ρ x)) (hs : s i = none) :
    ∃ v' o', (execOp ρ o).run P w = .ok (.value v') { w with heap := w.heap.push o' } ∧ V (upd s i (w.heap.size, 0)) v v' ∧ OR P (upd s i (w.heap.size, 0)) 0 false ob o' := by
  have hle : s.le (upd s i (w.heap.size, 0)) := fun j y e => by
    unfold upd
    by_cases hj : j = i
    · subst hj; rw [hs] at e; cases e
    · rw [if_neg hj]; exact e
  obtain ⟨dst, op, ty, pos, after, guard⟩ := o
  unfold newOf at hn
  simp only at hn hk hρ
  cases op <;> simp only [execF] at hn <;> first | (cases hk; done) | skip
  case alloc t =>
    unfold fAlloc at hn
    cases hz : zeroF P t with
    | none => rw [hz] at hn; cases hn
    | some z =>
      rw [hz] at hn
      simp only [fNew, Hp.push] at hn
      cases hn
      obtain ⟨h1, h2⟩ := run_zero (P := P) (w := w) hz
      refine ⟨.pointer (some ⟨w.heap.size, 0, none⟩), .cells ⟨z.cells.toList⟩ t, ?_, V.ptr.2 ⟨_, upd_same _ _ _, rfl⟩, rfl, _, _, rfl, (clo1_cells h2), rfl⟩
      simp [execOp, Instr.alloc, newVar, h1, newRow_run]
  case box t x =>
    cases hx : opA tm x with
    | none => rw [hx] at hn; cases hn
    | some u =>
      rw [hx] at hn
      simp only [u1, fBox] at hn
      cases hsc : scal u.cells.toList with
      | false => rw [hsc] at hn; cases hn
      | true =>
        rw [hsc] at hn
        simp only [fNew, Hp.push] at hn
        cases hn
        have h1 := hρ x (by simp [Op.operands]) u hx
        refine ⟨.pointer (some ⟨w.heap.size, 0, none⟩), .cells ⟨(ρ x).cells.toList⟩ t, ?_, V.ptr.2 ⟨_, upd_same _ _ _, rfl⟩, rfl, _, _, rfl, (h1.cells_of hsc).mono hle, rfl⟩
        simp [execOp, Instr.box, newVar, newRow_run]
  case buildSlice t len ps =>
    cases hp : partsA tm ps.toList with
    | none => rw [hp] at hn; cases hn
    | some l =>
      rw [hp] at hn
      have hpl := partsA_V (s := s) (ρ := ρ) hp (fun x hx => hρ x (by simpa [Op.operands] using hx))
      unfold fBuildSlice at hn
      cases hd : descF P t with
      | none => rw [hd] at hn; cases hn
      | some dd =>
        rw [hd] at hn
        cases dd <;> simp only [] at hn <;> first | (cases hn; done) | skip
        rename_i e
        unfold bsE at hn
        cases hz : zeroF P e with
        | none => rw [hz] at hn; cases hn
        | some z =>
          cases hsz : sizeF P e with
          | none => rw [hz, hsz] at hn; cases hn
          | some m0 =>
            rw [hz, hsz] at hn
            cases m0 with
            | zero => cases hn
            | succ m =>
              simp only [] at hn
              cases hb : (okSz (len * (m + 1)) && Nat.beq z.cells.toList.length (m + 1)) with
              | false => rw [hb] at hn; cases hn
              | true =>
                rw [hb] at hn
                simp only [] at hn
                obtain ⟨b1, b2⟩ := and2 hb
                have b1 := okSz_lt b1
                have b2 := Nat.eq_of_beq_eq_true b2
                obtain ⟨h1, h2⟩ := run_zero (P := P) (w := w) hz
                cases hf : fillL (elemPl (m + 1)) (repL z.cells.toList len) l with
                | none => rw [hf] at hn; cases hn
                | some cs =>
                  rw [hf] at hn
                  simp only [bsP, Hp.push] at hn
                  cases hn
                  obtain ⟨c', g1, g2⟩ := fill_run hf (cloL_rep (clo1_cells (s := s) h2) len) hpl
                  refine ⟨.slice (some ⟨w.heap.size, 0, none⟩) len len, .cells ⟨c'⟩ e, ?_, (V.sl (ne_junk_small (small_junk b1))).2 ⟨_, upd_same _ _ _, by rw [capOf_small (small_junk b1)]; exact Nat.le_refl _, by rw [capOf_small (small_junk b1)]⟩, rfl, _, _, rfl, g2.mono hle, rfl⟩
                  have hzs : z.cells.size = m + 1 := by rw [← Array.length_toList]; exact b2
                  have hlim : ¬ len * (m + 1) > 2 ^ 24 := by
                    have : (1048576 : Nat) ≤ 2 ^ 24 := by decide
                    omega
                  have hpf : (fun i => some (i * (m + 1), m + 1)) = elemPl (m + 1) := rfl
                  have hpe : (ps.map fun (x : Nat × Operand) => (x.1, ρ x.2)).toList = ps.toList.map fun p => (p.1, ρ p.2) := by simp
                  show (do pure (.value (← Instr.buildSlice t len (ps.map fun (x : Nat × Operand) => (x.1, ρ x.2)))) : Sem Next).run P w = _
                  have hbs : (Instr.buildSlice t len (ps.map fun (x : Nat × Operand) => (x.1, ρ x.2))).run P w = .ok (.slice (some ⟨w.heap.size, 0, none⟩) len len) { w with heap := w.heap.push (.cells ⟨c'⟩ e) } := by
                    unfold Instr.buildSlice
                    simp only [Sem.run_bind, run_under hd, Result.andThen_ok, run_size hsz, hlim, if_false, Sem.run_pure, hpf, hpe]
                    by_cases hl0 : len * (m + 1) = 0
                    · have hlen0 : len = 0 := by rcases Nat.mul_eq_zero.1 hl0 with h0 | h0; · exact h0
                                                 · cases h0
                      subst hlen0
                      have e2 : repL z.cells.toList 0 = [] := rfl
                      rw [e2] at g1
                      simp only [hl0, if_true, Sem.run_pure, Result.andThen_ok, pure_bind]
                      have e3 : ((Array.range 0).map fun i => (#[] : Array Value)[i % (#[] : Array Value).size]!) = ⟨[]⟩ := by simp
                      rw [e3, g1]
                      simp [newRow_run]
                    · simp only [hl0, if_false, Sem.run_bind, h1, Result.andThen_ok, Sem.run_pure]
                      have e3 := zeros_eq z.cells (by omega) len
                      rw [hzs] at e3
                      rw [hzs, e3, g1]
                      simp [newRow_run]
                  simp only [Sem.run_bind, hbs, Result.andThen_ok, Sem.run_pure]
  case convert a b x => simp only [kind] at hk; split at hk <;> cases hk
  case call c => simp only [kind] at hk; split at hk <;> cases hk

structure Gap (P : Program) (orc : Orc) (rec : Rec) (ops : List Oper) (bs : List Nat) (tmF : Tm) (HF : Hp) (es' : List Nat) (past : Nat) (tmg : Tm) (Hg : Hp) (pend : List (Nat × Nat)) : Prop where
  again : againL P ops pend (bitsOf es') past tmg Hg ops bs 0 = true
  done : es' = [] → tmg = tmF ∧ Hg = HF
  next : ∀ e es2, es' = e :: es2 → ∃ tm2 H2, effO P orc rec ops (nthL ops e) tmg Hg = some (tm2, H2) ∧ stages P orc rec ops bs es2 (Nat.lor past (Nat.lor (Nat.shiftLeft 1 e) ((nthL bs e).getD 0))) (quietL P ops (nowL P (bitsOf es2) (some e) ops bs 0) tm2 H2 pend) = some (tmF, HF)
theorem gapS_eq {ops : List Oper} {bs : List Nat} {left past : Nat} {r x : Option (Tm × Hp × List (Nat × Nat))} {y : Tm × Hp × List (Nat × Nat)} (h : gapS P ops bs left past r = some y) : r = some y ∧ againL P ops y.2.2 left past y.1 y.2.1 ops bs 0 = true := by
  unfold gapS at h
  split at h
  · split at h
    · rename_i ha; cases h; exact ⟨rfl, ha⟩
    · cases h
  · cases h
theorem stages_gap {orc : Orc} {rec : Rec} {ops : List Oper} {bs : List Nat} {es' : List Nat} {past : Nat} {r : Option (Tm × Hp × List (Nat × Nat))} {tmF : Tm} {HF : Hp} (h : stages P orc rec ops bs es' past r = some (tmF, HF)) :
    ∃ tmg Hg pend, r = some (tmg, Hg, pend) ∧ Gap P orc rec ops bs tmF HF es' past tmg Hg pend := by
  cases es' with
  | nil =>
    unfold stages at h
    split at h
    · rename_i tm H p hg
      cases h
      obtain ⟨e, ha⟩ := gapS_eq (x := none) hg
      exact ⟨_, _, _, e, ha, fun _ => ⟨rfl, rfl⟩, fun e es2 h => (by cases h)⟩
    · cases h
  | cons e es2 =>
    unfold stages at h
    split at h
    · rename_i tm H p hg
      obtain ⟨e0, ha⟩ := gapS_eq (x := none) hg
      split at h
      · rename_i tm2 H2 heff
        exact ⟨_, _, _, e0, ha, fun h => (by cases h), fun e' es' h' => (by cases h'; exact ⟨tm2, H2, heff, h⟩)⟩
      · cases h
    · cases h
theorem look_put {tm : Tm} {d : Option Tmp} {v : Value} {t : Tmp} (h : d ≠ some t) : look (putA tm d v) t = look tm t := by
  cases d with
  | none => rfl
  | some d =>
    show (match Nat.beq d t with | true => v | false => look tm t) = look tm t
    have hb : Nat.beq d t = false := by
      cases hb : Nat.beq d t with
      | false => rfl
      | true => exact absurd (by rw [Nat.eq_of_beq_eq_true hb]) h
    rw [hb]
theorem look_put_same {tm : Tm} {d : Tmp} {v : Value} : look (putA tm (some d) v) d = v := by
  show (match Nat.beq d d with | true => v | false => look tm d) = v
  rw [Nat.beq_refl]
theorem quietO_eq {L : List Oper} {o : Oper} {tm tm2 : Tm} {H H2 : Hp} (h : quietO P L (some o) tm H = some (tm2, H2)) (hk : kind P o.op ≠ 3) :
    ∃ v, tm2 = putA tm o.dst v ∧ ((Nat.beq (kind P o.op) 2 && wantedA L o.guard tm) = false ∧ H2 = H ∨ (Nat.beq (kind P o.op) 2 && wantedA L o.guard tm) = true ∧ ∃ ob, H2 = H.push ob) := by
  unfold quietO at h
  simp only [] at h
  split at h
  · rename_i hw
    unfold quietR at h
    split at h
    · rename_i v H1 hx
      cases h
      refine ⟨v, rfl, ?_⟩
      rw [hw, Bool.and_true]
      by_cases h2 : kind P o.op = 2
      · right
        obtain ⟨v', ob, _, e⟩ := kind_new hx h2
        exact ⟨by rw [h2]; rfl, _, e⟩
      · left
        obtain ⟨e, _⟩ := kind_look hx hk h2
        refine ⟨?_, e⟩
        cases hb : Nat.beq (kind P o.op) 2 with
        | false => rfl
        | true => exact absurd (Nat.eq_of_beq_eq_true hb) h2
    · cases h
  · rename_i hw
    cases h
    exact ⟨undef, rfl, .inl ⟨by rw [hw, Bool.and_false], rfl⟩⟩
theorem quietL_facts {L : List Oper} : ∀ {js : List Nat} {tm : Tm} {H : Hp} {p : List (Nat × Nat)} {tmg : Tm} {Hg : Hp} {pg : List (Nat × Nat)}, quietL P L js tm H p = some (tmg, Hg, pg) → (∀ j ∈ js, ∀ o, L[j]? = some o → kind P o.op ≠ 3) → H.l.length = H.n →
    H.n ≤ Hg.n ∧ Hg.l.length = Hg.n ∧ (∀ i, i < H.n → Hg.get i = H.get i) ∧ (∀ t, (∀ j ∈ js, ∀ o, L[j]? = some o → o.dst ≠ some t) → look tmg t = look tm t) ∧ ∃ q, pg = p ++ q ∧ (∀ x ∈ q, H.n ≤ x.2 ∧ x.2 < Hg.n) ∧ q.Pairwise (fun a b => a.2 < b.2)
  | [], tm, H, p, tmg, Hg, pg, h, _, hok => by
    cases h
    exact ⟨Nat.le_refl _, hok, fun _ _ => rfl, fun _ _ => rfl, [], by simp, by simp, .nil⟩
  | j :: r, tm, H, p, tmg, Hg, pg, h, hk, hok => by
    unfold quietL at h
    split at h
    · rename_i tm2 H2 hq
      cases ho : nthL L j with
      | none => rw [ho] at hq; cases hq
      | some o =>
        rw [ho] at hq h
        have ho2 : L[j]? = some o := by rw [← nthL_eq]; exact ho
        obtain ⟨v, e1, hc⟩ := quietO_eq hq (hk j (by simp) o ho2)
        have hH : H.n ≤ H2.n ∧ H2.l.length = H2.n ∧ (∀ i, i < H.n → H2.get i = H.get i) := by
          rcases hc with ⟨_, e⟩ | ⟨_, ob, e⟩
          · subst e; exact ⟨Nat.le_refl _, hok, fun _ _ => rfl⟩
          · subst e; exact ⟨Nat.le_succ _, Hp.push_ok hok, fun i hi => Hp.get_push_old hi⟩
        obtain ⟨g1, g2, g3, g4, q, g5, g6, g7⟩ := quietL_facts h (fun j' hj' => hk j' (by simp [hj'])) hH.2.1
        refine ⟨Nat.le_trans hH.1 g1, g2, fun i hi => by rw [g3 i (Nat.lt_of_lt_of_le hi hH.1), hH.2.2 i hi], ?_, ?_⟩
        · intro t ht
          rw [g4 t (fun j' hj' => ht j' (by simp [hj'])), e1, look_put (ht j (by simp) o ho2)]
        · rcases hc with ⟨hb, e⟩ | ⟨hb, ob, e⟩
          · have hp : pendA P L (some o) j tm H p = p := by unfold pendA; simp only [hb]
            rw [hp] at g5
            exact ⟨q, g5, fun x hx => ⟨Nat.le_trans hH.1 (g6 x hx).1, (g6 x hx).2⟩, g7⟩
          · have hp : pendA P L (some o) j tm H p = p ++ [(j, H.n)] := by unfold pendA; simp only [hb]
            rw [hp] at g5
            have hn2 : H2.n = H.n + 1 := by rw [e]; rfl
            refine ⟨(j, H.n) :: q, by rw [g5]; simp, ?_, ?_⟩
            · intro x hx
              rcases List.mem_cons.1 hx with hx | hx
              · subst hx; exact ⟨Nat.le_refl _, by simp only; omega⟩
              · exact ⟨Nat.le_trans hH.1 (g6 x hx).1, (g6 x hx).2⟩
            · refine .cons (fun x hx => ?_) g7
              have := (g6 x hx).1
              simp only; omega
    · cases h
theorem pw_inj : ∀ {p : List (Nat × Nat)}, p.Pairwise (fun a b => a.2 < b.2) → ∀ {a b i : Nat}, (a, i) ∈ p → (b, i) ∈ p → a = b
  | [], _, a, b, i, h, _ => by cases h
  | x :: r, hp, a, b, i, h1, h2 => by
    cases hp with
    | cons hx hr =>
      rcases List.mem_cons.1 h1 with h1 | h1 <;> rcases List.mem_cons.1 h2 with h2 | h2
      · rw [← h2] at h1; cases h1; rfl
      · have := hx _ h2; rw [← h1] at this; simp at this
      · have := hx _ h1; rw [← h2] at this; simp at this
      · exact pw_inj hr h1 h2
end
end Go.Ev
