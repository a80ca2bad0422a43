/- An evaluator for closed runs: frames of the evaluator, and of the machine. -/
import Derived.Test.YtfcmgkakmaclcaaEvM
set_option linter.unusedSimpArgs false
set_option linter.unusedVariables false
set_option linter.unusedSectionVars false
namespace Go.Ev
variable [Inhabited Env]
def TmR (s : Sg) (n : Nat) (tm : Tm) (arr : Array Value) : Prop := arr.size = n ∧ ∀ t, V s (look tm t) (arr.getD t undef)
def I1 (s : Sg) : Item → Item → Prop
  | .endRangeFunc l, i' => ∃ x, s l = some x ∧ i' = .endRangeFunc x.1
  | .code c, i' => i' = .code c
  | .inBlock b, i' => i' = .inBlock b
  | .inLoop b, i' => i' = .inLoop b
  | .inScope b, i' => i' = .inScope b
  | .inRegion a b, i' => i' = .inRegion a b
  | .beginRound, i' => i' = .beginRound
  | _, _ => False
def IL (s : Sg) : List Item → List Item → Prop
  | [], l' => l' = []
  | i :: r, l' => ∃ i' r', I1 s i i' ∧ IL s r r' ∧ l' = i' :: r'
def D1 (s : Sg) (d d' : Deferred) : Prop := ∃ r x, d.target = .collected r ∧ s r = some x ∧ d' = { target := .collected x.1, args := #[] }
def DL (s : Sg) : List Deferred → List Deferred → Prop
  | [], l' => l' = []
  | d :: r, l' => ∃ d' r', D1 s d d' ∧ DL s r r' ∧ l' = d' :: r'
def RR (s : Sg) : Option Nat → Option Nat → Prop
  | none, r' => r' = none
  | some l, r' => ∃ x, s l = some x ∧ r' = some x.1
section
variable {s t : Sg}
theorem TmR.mono (h : s.le t) {n : Nat} {tm : Tm} {arr : Array Value} (k : TmR s n tm arr) : TmR t n tm arr := ⟨k.1, fun i => (k.2 i).mono h⟩
theorem I1.mono (h : s.le t) {i i' : Item} (k : I1 s i i') : I1 t i i' := by
  cases i <;> first | exact k | exact k.elim | (obtain ⟨x, e1, e2⟩ := k; exact ⟨x, h _ _ e1, e2⟩)
theorem IL.mono (h : s.le t) : ∀ {l l' : List Item}, IL s l l' → IL t l l'
  | [], _, k => k
  | i :: r, l', k => by obtain ⟨i', r', h1, h2, e⟩ := k; exact ⟨i', r', h1.mono h, IL.mono h h2, e⟩
theorem DL.mono (h : s.le t) : ∀ {l l' : List Deferred}, DL s l l' → DL t l l'
  | [], _, k => k
  | i :: r, l', k => by obtain ⟨i', r', ⟨q, x, e1, e2, e3⟩, h2, e⟩ := k; exact ⟨i', r', ⟨q, x, e1, h _ _ e2, e3⟩, DL.mono h h2, e⟩
theorem RR.mono (h : s.le t) {r r' : Option Nat} (k : RR s r r') : RR t r r' := by
  cases r with
  | none => exact k
  | some l => obtain ⟨x, e1, e2⟩ := k; exact ⟨x, h _ _ e1, e2⟩
theorem TmR.op {n : Nat} {tm : Tm} {arr : Array Value} (k : TmR s n tm arr) {x : Operand} {v : Value} (h : opA tm x = some v) : V s v (evA arr x) := by
  cases x with
  | tmp i => cases h; exact k.2 i
  | const u =>
    cases hc : clo1 u with
    | true => simp only [opA, hc] at h; cases h; exact clo1_self hc
    | false => simp only [opA, hc] at h; cases h
  | global g => cases h
  | func f => cases h; exact V.func.2 ⟨.func f, [], [], rfl, rfl, rfl, rfl⟩
theorem TmR.put {n : Nat} {tm : Tm} {arr : Array Value} (k : TmR s n tm arr) {d : Option Tmp} {v v' : Value} (hd : okD d n = true) (hv : V s v v') : TmR s n (putA tm d v) (putC arr d v') := by
  cases d with
  | none => exact k
  | some d =>
    have hd : d < n := by simpa [okD, Nat.blt_eq] using hd
    refine ⟨by simp [putC, k.1], fun i => ?_⟩
    show V s (look ((d, v) :: tm) i) ((arr.setIfInBounds d v').getD i undef)
    unfold look
    by_cases hi : d = i
    · subst hi
      rw [Nat.beq_refl]
      have : (arr.setIfInBounds d v').getD d undef = v' := by simp [k.1, hd]
      rw [this]; exact hv
    · have hb : Nat.beq d i = false := by
        cases hb : Nat.beq d i with
        | false => rfl
        | true => exact absurd (Nat.eq_of_beq_eq_true hb) hi
      rw [hb]
      have : (arr.setIfInBounds d v').getD i undef = arr.getD i undef := by
        simp only [Array.getD_eq_getD_getElem?, Array.getElem?_setIfInBounds_ne hi]
      rw [this]; exact k.2 i
theorem V_bool {v : Value} {b : Bool} (h : V s v (.bool b)) : v = .bool b := by
  cases v with
  | bool c => cases h; rfl
  | pointer a => cases a with | none => cases h | some a => obtain ⟨x, _, e⟩ := h; cases e
  | slice a l c =>
    rw [V.slice] at h
    split at h
    · obtain ⟨_, a', c', e⟩ := h; cases e
    · cases a with | none => cases h | some a => obtain ⟨x, _, _, e⟩ := h; cases e
  | map a => cases a with | none => cases h | some a => obtain ⟨x, _, e⟩ := h; cases e
  | func fn a b => obtain ⟨fn', a', b', _, _, _, e⟩ := V.func.1 h; cases e
  | iface t u => obtain ⟨u', _, e⟩ := h; cases e
  | agg c => obtain ⟨l', _, e⟩ := V.agg.1 h; cases e
  | tuple c => obtain ⟨l', _, e⟩ := V.tuple.1 h; cases e
  | chan c => cases c with | none => exact False.elim h | some i => cases h
  | _ => cases h
def boolOf : Value → Option Bool
  | .bool c => some c
  | _ => none
theorem isB_eq {v v' : Value} {b : Bool} (h : V s v v') : isB v b = (boolOf v' == some b) := by
  cases hv : boolOf v' with
  | some c =>
    have e : v' = .bool c := by cases v' <;> first | (cases hv; rfl) | cases hv
    subst e
    rw [V_bool h]; cases c <;> cases b <;> rfl
  | none =>
    have : isB v b = false := by
      cases v <;> first | rfl | skip
      cases h
      cases hv
    rw [this]; rfl
/-- whether an operation is wanted -/
theorem TmR.wanted {n : Nat} {tm : Tm} {arr : Array Value} {ops : Array Oper} {o : Oper} (hv : ∀ j w d, o.guard = some (j, w) → dstOf (nthL ops.toList j) = some d → V s (look tm d) (arr.getD d undef)) : Region.wanted o (yielded ops arr) = wantedA ops.toList o.guard tm := by
  unfold Region.wanted wantedA
  cases hg : o.guard with
  | none => rfl
  | some jw =>
    obtain ⟨j, want⟩ := jw
    simp only []
    have hn : nthL ops.toList j = ops[j]? := by rw [nthL_eq]; simp
    unfold wantD
    cases hd : dstOf (nthL ops.toList j) with
    | none =>
      have : yielded ops arr j = none := by
        unfold yielded
        rw [hn] at hd
        unfold dstOf at hd
        cases ho : ops[j]? with
        | none => rfl
        | some o2 => rw [ho] at hd; simp only at hd; simp [hd]
      rw [this]; rfl
    | some d =>
      have hv := hv j want d hg hd
      have hy : yielded ops arr j = boolOf (arr.getD d undef) := by
        unfold yielded
        rw [hn] at hd
        unfold dstOf at hd
        cases ho : ops[j]? with
        | none => rw [ho] at hd; cases hd
        | some o2 =>
          rw [ho] at hd
          simp only at hd
          simp only [Option.bind_some, hd]
          rw [Array.getD_eq_getD_getElem?]
          cases ha : arr[d]? with
          | none => rfl
          | some u => cases u <;> rfl
      rw [hy, ← isB_eq hv]
theorem exitTo_R {id : Nat} : ∀ {k k' : List Item}, IL s k k' → (∀ k2, exitTo id k = some k2 → ∃ k2', exitTo id k' = some k2' ∧ IL s k2 k2') ∧ (exitTo id k = none → exitTo id k' = none)
  | [], k', h => by cases h; exact ⟨fun k2 e => (by cases e), fun _ => rfl⟩
  | i :: r, k', h => by
    obtain ⟨i', r', h1, h2, e⟩ := h
    subst e
    have ih := exitTo_R (id := id) h2
    cases i with
    | inBlock b =>
      cases h1
      simp only [exitTo]
      by_cases hb : (b == id) = true
      · simp only [hb, if_true]; exact ⟨fun k2 e => (by cases e; exact ⟨r', rfl, h2⟩), fun e => (by cases e)⟩
      · simp only [hb, if_false]; exact ih
    | endRangeFunc l => obtain ⟨x, _, e⟩ := h1; subst e; exact ih
    | _ => first | exact h1.elim | (cases h1; exact ih)
theorem gotoIn_R {id : Nat} : ∀ {k k' : List Item}, IL s k k' → (∀ k2, gotoIn id k = some k2 → ∃ k2', gotoIn id k' = some k2' ∧ IL s k2 k2') ∧ (gotoIn id k = none → gotoIn id k' = none)
  | [], k', h => by cases h; exact ⟨fun k2 e => (by cases e), fun _ => rfl⟩
  | i :: r, k', h => by
    obtain ⟨i', r', h1, h2, e⟩ := h
    subst e
    have ih := gotoIn_R (id := id) h2
    cases i with
    | inScope b =>
      cases h1
      simp only [gotoIn]
      cases hf : findLabel b id with
      | none => simp only []; exact ih
      | some rest => simp only []; exact ⟨fun k2 e => (by cases e; exact ⟨_, rfl, _, _, rfl, ⟨_, _, rfl, h2, rfl⟩, rfl⟩), fun e => (by cases e)⟩
    | endRangeFunc l => obtain ⟨x, _, e⟩ := h1; subst e; exact ih
    | _ => first | exact h1.elim | (cases h1; exact ih)
end
/-- the frame comes to its end -/
def Ends (P : Program) (fn : FuncId) (rnd : Option Nat) (cs : List Frame) (m : Machine) (v : Value) (w : World) : Prop := match rnd with
  | none => ∃ t td g, P.funcs[fn]? = some g ∧ (results g t).run P w = .ok v w ∧ Steps P m (lone (gone fn t td []) cs w)
  | some _ => ∀ c cs', cs = c :: cs' → Steps P m (lone (c.finish v) cs' w)
section
variable {P : Program}
theorem Ends.head {fn : FuncId} {rnd : Option Nat} {cs : List Frame} {m m1 : Machine} {v : Value} {w : World} (h : step P m = .next m1) (k : Ends P fn rnd cs m1 v w) : Ends P fn rnd cs m v w := by
  cases rnd with
  | none => obtain ⟨t, td, g, h1, h2, h3⟩ := k; exact ⟨t, td, g, h1, h2, .head h h3⟩
  | some l => exact fun c cs' e => .head h (k c cs' e)
theorem Ends.steps {fn : FuncId} {rnd : Option Nat} {cs : List Frame} {m m1 : Machine} {v : Value} {w : World} (h : Steps P m m1) (k : Ends P fn rnd cs m1 v w) : Ends P fn rnd cs m v w := by
  cases rnd with
  | none => obtain ⟨t, td, g, h1, h2, h3⟩ := k; exact ⟨t, td, g, h1, h2, h.trans h3⟩
  | some l => exact fun c cs' e => h.trans (k c cs' e)
theorem Ends.call {fn : FuncId} {rnd : Option Nat} {c : Frame} {cs : List Frame} {m : Machine} {v : Value} {w : World} (k : Ends P fn rnd (c :: cs) m v w) : Steps P m (lone (c.finish v) cs w) := by
  cases rnd with
  | none => obtain ⟨t, td, g, h1, h2, h3⟩ := k; exact h3.trans (.one (st_return h1 h2))
  | some l => exact k c cs rfl
/-- What the evaluator says of a frame, the machine does. -/
def Snd (P : Program) (rec : Rec) : Prop := ∀ fn rnd n tm todo ds H v H', rec fn rnd n tm todo ds H = some (v, H') → ∀ s w arr k' d' r', R P s H w → TmR s n tm arr → IL s todo k' → DL s ds d' → RR s rnd r' →
  ∀ cs, ∃ s' v' w', Ends P fn r' cs (lone (mk fn arr k' d' r') cs w) v' w' ∧ V s' v v' ∧ Post P s H w s' H' w'
/-- what is known of calls holds -/
def OrcS (P : Program) (orc : Orc) : Prop := ∀ f args H v H', orc f args H = some (v, H') → ∀ s w a', R P s H w → VL s args a' → ∀ c cs, ∃ s' v' w', Steps P (lone (Frame.enter P f ⟨a'⟩ .normal) (c :: cs) w) (lone (c.finish v') cs w') ∧ V s' v v' ∧ Post P s H w s' H' w'
/-- behind a step that turned the heap -/
theorem Snd.behind {rec : Rec} (hS : Snd P rec) {fn : FuncId} {rnd : Option Nat} {n : Nat} {tm : Tm} {todo : List Item} {ds : List Deferred} {H H1 : Hp} {v : Value} {H' : Hp} (he : rec fn rnd n tm todo ds H1 = some (v, H'))
    {s s1 : Sg} {w w1 : World} {arr : Array Value} {k' : List Item} {d' : List Deferred} {r' : Option Nat} (hR : R P s H w) (hP : Post P s H w s1 H1 w1) (ht : TmR s1 n tm arr) (hk : IL s1 todo k') (hd : DL s1 ds d') (hr : RR s1 rnd r') {cs : List Frame} {m : Machine}
    (hs : Steps P m (lone (mk fn arr k' d' r') cs w1)) : ∃ s' v' w', Ends P fn r' cs m v' w' ∧ V s' v v' ∧ Post P s H w s' H' w' := by
  obtain ⟨s', v', w', h1, h2, h3⟩ := hS fn rnd n tm todo ds H1 v H' he s1 w1 arr k' d' r' hP.rel ht hk hd hr cs
  exact ⟨s', v', w', h1.steps hs, h2, hP.trans h3 hR⟩
end
end Go.Ev
