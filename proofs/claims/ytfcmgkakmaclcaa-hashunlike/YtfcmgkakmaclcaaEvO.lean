/- An evaluator for closed runs: one operation of a frame; frames without drawn regions. -/
import Derived.Test.YtfcmgkakmaclcaaEvN
set_option linter.unusedSimpArgs false
set_option linter.unusedVariables false
set_option linter.unusedSectionVars false
namespace Go.Ev
variable [Inhabited Env]
section
variable {P : Program} {s : Sg} {H : Hp} {w : World}
theorem look_args : ∀ (l : List Value) (i t : Nat), look (ofArgs l i) t = if t < i then undef else (l[t - i]?).getD undef
  | [], i, t => by simp [ofArgs, look]
  | v :: r, i, t => by
    unfold ofArgs look
    by_cases h : i = t
    · subst h; rw [Nat.beq_refl]; simp
    · have hb : Nat.beq i t = false := by
        cases hb : Nat.beq i t with
        | false => rfl
        | true => exact absurd (Nat.eq_of_beq_eq_true hb) h
      rw [hb]
      simp only []
      rw [look_args r (i + 1) t]
      by_cases h1 : t < i
      · rw [if_pos h1, if_pos (by omega)]
      · rw [if_neg h1, if_neg (by omega)]
        have : t - i = (t - (i + 1)) + 1 := by omega
        rw [this, List.getElem?_cons_succ]
theorem TmR_args {l l' : List Value} {n : Nat} (h : VL s l l') (hn : l.length ≤ n) : TmR s n (ofArgs l 0) ((⟨l'⟩ : Array Value) ++ Array.replicate (n - (⟨l'⟩ : Array Value).size) undef) := by
  have hl := h.len
  refine ⟨by simp; omega, fun t => ?_⟩
  rw [look_args, if_neg (by omega), Nat.sub_zero, Array.getD_eq_getD_getElem?]
  by_cases ht : t < l.length
  · obtain ⟨v', e1, e2⟩ := h.get t (List.getElem?_eq_getElem ht)
    have : ((⟨l'⟩ : Array Value) ++ Array.replicate (n - (⟨l'⟩ : Array Value).size) undef)[t]? = some v' := by
      rw [Array.getElem?_append_left (by simp; omega)]
      simpa using e1
    rw [this, List.getElem?_eq_getElem ht]
    exact e2
  · rw [List.getElem?_eq_none (by omega)]
    have : (((⟨l'⟩ : Array Value) ++ Array.replicate (n - (⟨l'⟩ : Array Value).size) undef)[t]?).getD undef = undef := by
      rw [Array.getElem?_append_right (by simp; omega)]
      rw [Array.getElem?_replicate]
      split <;> rfl
    rw [this]
    exact V.undef.2 rfl
theorem TmR_all {l l' : List Value} (h : VL s l l') : TmR s l.length (ofArgs l 0) ⟨l'⟩ := by
  have hl := h.len
  refine ⟨by simpa using hl, fun t => ?_⟩
  rw [look_args, if_neg (by omega), Nat.sub_zero, Array.getD_eq_getD_getElem?]
  by_cases ht : t < l.length
  · obtain ⟨v', e1, e2⟩ := h.get t (List.getElem?_eq_getElem ht)
    rw [List.getElem?_eq_getElem ht]
    have : (⟨l'⟩ : Array Value)[t]? = some v' := by simpa using e1
    rw [this]; exact e2
  · rw [List.getElem?_eq_none (by omega)]
    have : (⟨l'⟩ : Array Value)[t]? = none := by simp; omega
    rw [this]; exact V.undef.2 rfl
theorem not_defer {tm : Tm} {ty : TypeId} {o : Op} {r : Next × Hp} (h : execF P tm ty o H = some r) : isDefer o = false := by
  cases o <;> first | rfl | (simp only [execF] at h; cases h)
theorem enterG_run {orc : Orc} {rec : Rec} (hO : OrcS P orc) (hS : Snd P rec) (hR : R P s H w) {f : FuncId} {args : Array Value} {v : Value} {H' : Hp} (he : enterG orc rec f (nthL P.funcs.toList f) args H = some (v, H')) {a' : List Value} (ha : VL s args.toList a') (c : Frame) (cs : List Frame) :
    ∃ s' v' w', Steps P (lone (Frame.enter P f ⟨a'⟩ .normal) (c :: cs) w) (lone (c.finish v') cs w') ∧ V s' v v' ∧ Post P s H w s' H' w' := by
  unfold enterG at he
  split at he
  · rename_i r hr
    cases he
    exact hO f args.toList H v H' hr s w a' hR ha c cs
  unfold enterN at he
  split at he
  · rename_i g hg
    unfold enterB at he
    split at he
    · rename_i cd hc
      split at he
      · rename_i hb
        have hb := Nat.le_of_ble_eq_true hb
        have hg2 : P.funcs[f]? = some g := by rw [nthL_eq] at hg; simpa using hg
        rw [enter_mk hg2 hc]
        obtain ⟨s', v', w', h1, h2, h3⟩ := hS _ _ _ _ _ _ _ _ _ he s w _ [.code cd] [] none hR (TmR_args ha hb) ⟨_, [], rfl, rfl, rfl⟩ rfl rfl (c :: cs)
        exact ⟨s', v', w', h1.call, h2, h3⟩
      · cases he
    · cases he
  · cases he
/-- **One operation.** -/
theorem op_run {orc : Orc} {rec : Rec} (hO : OrcS P orc) (hS : Snd P rec) (hR : R P s H w) {tm : Tm} {o : Oper} {v : Value} {H1 : Hp} (he : sub P orc rec (execF P tm o.type o.op H) = some (v, H1)) {arr : Array Value} (hρ : ∀ x ∈ o.op.operands, ∀ v, opA tm x = some v → V s v (evA arr x))
    {f : FuncId} {ops : Array Oper} {i : Nat} {rest : List Nat} {k : List Item} {d : List Deferred} {r : Option Nat} (ho : ops[i]? = some o) (hw : Region.wanted o (yielded ops arr) = true) (cs : List Frame) :
    ∃ s1 v' w1, Steps P (lone (mk f arr (.inRegion ops (i :: rest) :: k) d r) cs w) (lone (mk f (putC arr o.dst v') (.inRegion ops rest :: k) d r) cs w1) ∧ V s1 v v' ∧ Post P s H w s1 H1 w1 := by
  unfold sub at he
  split at he
  · rename_i u H2 hx
    cases he
    have hd := not_defer hx
    obtain ⟨s1, n', w1, h1, ⟨v', h2, e⟩, h3⟩ := exec_sound hR hx hρ
    subst e
    refine ⟨s1, v', w1, .one ?_, h2, h3⟩
    rw [← mk_finish ho]
    exact step_lone_go (by rw [stG_op ho hw hd]; exact ap_value h1)
  · rename_i H2 hx
    cases he
    have hd := not_defer hx
    obtain ⟨s1, n', w1, h1, e, h3⟩ := exec_sound hR hx hρ
    cases e
    refine ⟨s1, undef, w1, .one ?_, V.undef.2 rfl, h3⟩
    rw [← mk_finish ho]
    exact step_lone_go (by rw [stG_op ho hw hd]; exact ap_skip h1)
  · rename_i g args H2 hx
    have hd := not_defer hx
    obtain ⟨s1, n', w1, h1, ⟨a', h2, e⟩, h3⟩ := exec_sound hR hx hρ
    subst e
    obtain ⟨s2, v', w2, k1, k2, k3⟩ := enterG_run hO hS h3.rel he h2 (mk f arr (.inRegion ops (i :: rest) :: k) d r) cs
    rw [mk_finish ho] at k1
    refine ⟨s2, v', w2, .head ?_ k1, k2, h3.trans k3 hR⟩
    exact step_lone_go (by rw [stG_op ho hw hd]; exact ap_enter h1 (by intro x b c y z e; simp [mk] at e))
  · rename_i l g tms a b H2 hx
    have hd := not_defer hx
    obtain ⟨s1, n', w1, h1, ⟨x, t', h2, h4, e⟩, h3⟩ := exec_sound hR hx hρ
    subst e
    obtain ⟨s2, v', w2, k1, k2, k3⟩ := hS _ _ _ _ _ _ _ _ _ he s1 w1 ⟨t'⟩ [.code a, .beginRound, .code b] [] (some x.1) h3.rel (TmR_all h4) ⟨_, _, rfl, ⟨_, _, rfl, ⟨_, [], rfl, rfl, rfl⟩, rfl⟩, rfl⟩ rfl ⟨x, h2, rfl⟩ (mk f arr (.inRegion ops (i :: rest) :: k) d r :: cs)
    have k4 := k1.call
    rw [mk_finish ho] at k4
    refine ⟨s2, v', w2, .head ?_ k4, k2, h3.trans k3 hR⟩
    rw [← round_mk]
    exact step_lone_go (by rw [stG_op ho hw hd]; exact ap_round h1)
  · cases he
theorem upL_eq : ∀ (n i : Nat), upL n i = (List.range' i n)
  | 0, i => rfl
  | n + 1, i => by simp [upL, upL_eq n (i + 1), List.range'_succ]
theorem upL_range (n : Nat) : upL n 0 = List.range n := by rw [upL_eq, List.range_eq_range']
def resS (arr : Array Value) : ResultVar → Sem Value
  | .tmp t => pure (arr.getD t undef)
  | .cell a t => do loadVar t (← asAddr (arr.getD a undef))
theorem results_eq (g : Func) (arr : Array Value) : results g arr = (do let vs ← g.results.mapM (resS arr); pure (if h : vs.size = 1 then vs[0] else .tuple vs)) := by
  unfold results
  congr 1
theorem retV_run (hR : R P s H w) {n : Nat} {tm : Tm} {arr : Array Value} (ht : TmR s n tm arr) {x : ResultVar} {v : Value} (h : retV P tm H x = some v) :
    ∃ v', V s v v' ∧ (resS arr x).run P w = .ok v' w := by
  cases x with
  | tmp t => cases h; exact ⟨_, ht.2 t, rfl⟩
  | cell a t =>
    simp only [retV] at h
    obtain ⟨v', h1, h2⟩ := run_loadF hR h (ht.2 a)
    refine ⟨v', h1, ?_⟩
    have : ∃ ad, arr.getD a undef = .pointer (some ad) := by
      have h3 := ht.2 a
      unfold loadF at h
      split at h
      · rename_i b off hl
        rw [hl] at h3
        obtain ⟨x, _, e⟩ := V.ptr.1 h3
        exact ⟨_, e⟩
      · cases h
    obtain ⟨ad, e⟩ := this
    rw [e] at h2
    show (do loadVar t (← asAddr (arr.getD a undef)) : Sem Value).run P w = _
    rw [e]
    exact h2
theorem retL_run (hR : R P s H w) {n : Nat} {tm : Tm} {arr : Array Value} (ht : TmR s n tm arr) : ∀ {xs : List ResultVar} {l : List Value}, retL P tm H xs = some l →
    ∃ l', VL s l l' ∧ (xs.mapM (resS arr) : Sem (List Value)).run P w = .ok l' w
  | [], l, h => by cases h; exact ⟨[], rfl, rfl⟩
  | x :: r, l, h => by
    unfold retL at h
    split at h
    · rename_i v hv
      split at h
      · rename_i l2 hl
        cases h
        obtain ⟨v', h1, h2⟩ := retV_run hR ht hv
        obtain ⟨l', h3, h4⟩ := retL_run hR ht hl
        refine ⟨v' :: l', ⟨v', l', h1, h3, rfl⟩, ?_⟩
        rw [List.mapM_cons]
        simp only [Sem.run_bind, h2, Result.andThen_ok, h4, Sem.run_pure]
      · cases h
    · cases h
theorem results_run (hR : R P s H w) {n : Nat} {tm : Tm} {arr : Array Value} (ht : TmR s n tm arr) {g : Func} {v : Value} {H' : Hp} (h : retO (retL P tm H g.results.toList) H = some (v, H')) : H' = H ∧ ∃ v', V s v v' ∧ (results g arr).run P w = .ok v' w := by
  unfold retO at h
  split at h
  · rename_i u hl
    cases h
    obtain ⟨l', h1, h2⟩ := retL_run hR ht hl
    obtain ⟨v', r', h3, h4, e⟩ := h1
    cases h4
    subst e
    refine ⟨rfl, v', h3, ?_⟩
    rw [results_eq, Array.mapM_eq_mapM_toList]
    simp only [Sem.run_bind, Sem.run_map, h2, Result.andThen_ok]
    rfl
  · rename_i l hne hl
    cases h
    obtain ⟨l', h1, h2⟩ := retL_run hR ht hl
    refine ⟨rfl, .tuple ⟨l'⟩, V.tuple.2 ⟨l', h1, rfl⟩, ?_⟩
    rw [results_eq, Array.mapM_eq_mapM_toList]
    simp only [Sem.run_bind, Sem.run_map, h2, Result.andThen_ok]
    have hlen : ¬ l'.toArray.size = 1 := by
      intro h3
      have h4 : l.length = 1 := by rw [← h1.len]; simpa using h3
      match l, h4 with
      | [x], _ => exact hne x rfl
    rw [Sem.run_pure, dif_neg hlen]
  · cases h
end
end Go.Ev
