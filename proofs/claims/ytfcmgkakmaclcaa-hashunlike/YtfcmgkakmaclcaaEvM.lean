/- An evaluator for closed runs: frames, step by step. -/
import Derived.Test.YtfcmgkakmaclcaaEvL
set_option linter.unusedSimpArgs false
set_option linter.unusedVariables false
set_option linter.unusedSectionVars false
namespace Go.Ev
variable [Inhabited Env]

def mk (f : FuncId) (t : Array Value) (td : List Item) (d : List Deferred) (r : Option Nat) : Frame := { fn := f, tmps := t, todo := td, defers := d, mode := .run, kind := .normal, roundOf := r }
/-- the frame's own look at an operand -/
def evA (t : Array Value) : Operand → Value
  | .tmp i => t.getD i undef
  | .const v => v
  | .global g => .pointer (some ⟨g, 0, none⟩)
  | .func f => .func (.func f) #[] #[]
section
variable {P : Program} {f : FuncId} {t : Array Value} {k : List Item} {d : List Deferred} {r : Option Nat} {cs : List Frame} {w : World}
theorem mk_eval : (mk f t k d r).eval = evA t := by funext x; cases x <;> rfl
theorem st_skip : step P (lone (mk f t (.code .skip :: k) d r) cs w) = .next (lone (mk f t k d r) cs w) := step_lone_go (by simp [stepG, stepG.exec, mk])
theorem st_label {l : Nat} : step P (lone (mk f t (.code (.label l) :: k) d r) cs w) = .next (lone (mk f t k d r) cs w) := step_lone_go (by simp [stepG, stepG.exec, mk])
theorem st_inBlock {l : Nat} : step P (lone (mk f t (.inBlock l :: k) d r) cs w) = .next (lone (mk f t k d r) cs w) := step_lone_go (by simp [stepG, stepG.exec, mk])
theorem st_inScope {b : Code} : step P (lone (mk f t (.inScope b :: k) d r) cs w) = .next (lone (mk f t k d r) cs w) := step_lone_go (by simp [stepG, stepG.exec, mk])
theorem st_seq {a b : Code} : step P (lone (mk f t (.code (.seq a b) :: k) d r) cs w) = .next (lone (mk f t (.code a :: .code b :: k) d r) cs w) := step_lone_go (by simp [stepG, stepG.exec, mk])
theorem st_cond {c : Operand} {a b : Code} {v : Bool} (h : evA t c = .bool v) : step P (lone (mk f t (.code (.cond c a b) :: k) d r) cs w) = .next (lone (mk f t (.code (if v then a else b) :: k) d r) cs w) :=
  step_lone_go (by
    have he := congrFun (mk_eval (f := f) (t := t) (k := .code (.cond c a b) :: k) (d := d) (r := r)) c
    simp only [mk] at he
    simp [stepG, stepG.exec, mk, he, h])
theorem st_block {l : Nat} {b : Code} : step P (lone (mk f t (.code (.block l b) :: k) d r) cs w) = .next (lone (mk f t (.code b :: .inBlock l :: k) d r) cs w) := step_lone_go (by simp [stepG, stepG.exec, mk])
theorem st_loop {b : Code} : step P (lone (mk f t (.code (.loop b) :: k) d r) cs w) = .next (lone (mk f t (.code b :: .inLoop b :: k) d r) cs w) := step_lone_go (by simp [stepG, stepG.exec, mk])
theorem st_inLoop {b : Code} : step P (lone (mk f t (.inLoop b :: k) d r) cs w) = .next (lone (mk f t (.code b :: .inLoop b :: k) d r) cs w) := step_lone_go (by simp [stepG, stepG.exec, mk])
theorem st_scope {b : Code} : step P (lone (mk f t (.code (.scope b) :: k) d r) cs w) = .next (lone (mk f t (.code b :: .inScope b :: k) d r) cs w) := step_lone_go (by simp [stepG, stepG.exec, mk])
theorem st_exit {l : Nat} {k' : List Item} (h : exitTo l k = some k') : step P (lone (mk f t (.code (.exit l) :: k) d r) cs w) = .next (lone (mk f t k' d r) cs w) := step_lone_go (by simp [stepG, stepG.exec, mk, h])
theorem st_goto {l : Nat} {k' : List Item} (h : gotoIn l k = some k') : step P (lone (mk f t (.code (.goto l) :: k) d r) cs w) = .next (lone (mk f t k' d r) cs w) := step_lone_go (by simp [stepG, stepG.exec, mk, h])
theorem st_region {id : Nat} {ops : Array Oper} : step P (lone (mk f t (.code (.region id ops false) :: k) d r) cs w) = .next (lone (mk f t (.inRegion ops (List.range ops.size) :: k) d r) cs w) := step_lone_go (by simp [stepG, stepG.exec, mk])
theorem st_draw {id : Nat} {ops : Array Oper} (hm : P.follows .mixedOrders = true) : step P (lone (mk f t (.code (.region id ops true) :: k) d r) cs w) =
    .next (lone (mk f t (.inRegion ops (Region.linearise .any ops (w.tape w.drawn (.order f id))) :: k) d r) cs (drew1 w)) :=
  step_lone_go (by simp [stepG, stepG.exec, mk, choose, Sem.run, Question.forced, Question.cut, hm, Region.schedule, drew1])
theorem st_rend {ops : Array Oper} : step P (lone (mk f t (.inRegion ops [] :: k) d r) cs w) = .next (lone (mk f t k d r) cs w) := step_lone_go (by simp [stepG, stepG.exec, mk])
def putC (t : Array Value) (dst : Option Tmp) (v : Value) : Array Value := match dst with | some x => t.setIfInBounds x v | none => t
theorem mk_finish {ops : Array Oper} {i : Nat} {rest : List Nat} {o : Oper} {v : Value} (ho : ops[i]? = some o) : (mk f t (.inRegion ops (i :: rest) :: k) d r).finish v = mk f (putC t o.dst v) (.inRegion ops rest :: k) d r := by
  simp only [Frame.finish, mk, ho, Option.bind_some, putC]
  cases o.dst <;> rfl
theorem st_unwanted {ops : Array Oper} {i : Nat} {rest : List Nat} {o : Oper} (ho : ops[i]? = some o) (hw : Region.wanted o (yielded ops t) = false) :
    step P (lone (mk f t (.inRegion ops (i :: rest) :: k) d r) cs w) = .next (lone (mk f (putC t o.dst undef) (.inRegion ops rest :: k) d r) cs w) := by
  rw [← mk_finish ho]
  exact step_lone_go (by simp [stepG, stepG.exec, mk, ho, hw])
def isDefer : Op → Bool
  | .defer _ => true
  | _ => false
theorem stG_op {ops : Array Oper} {i : Nat} {rest : List Nat} {o : Oper} (ho : ops[i]? = some o) (hw : Region.wanted o (yielded ops t) = true) (hd : isDefer o.op = false) :
    stepG P true { frame := mk f t (.inRegion ops (i :: rest) :: k) d r, callers := cs, status := .running, dying := none } w =
      stepG.apply P true (mk f t (.inRegion ops (i :: rest) :: k) d r) cs none (execOp (evA t) o) w := by
  have he := mk_eval (f := f) (t := t) (k := .inRegion ops (i :: rest) :: k) (d := d) (r := r)
  simp only [mk] at he
  obtain ⟨dst, op, ty, pos, after, guard⟩ := o
  cases r with
  | none => simp [stepG, stepG.exec, stepG.oper, Frame.oper?, mk, ho, hw, he]
  | some l => cases op <;> first | (cases hd; done) | simp [stepG, stepG.exec, stepG.oper, Frame.oper?, mk, ho, hw, he]
/-- what an operation says is done -/
theorem ap_value {fr : Frame} {S : Sem Next} {v : Value} {w' : World} (h : S.run P w = .ok (.value v) w') : (stepG.apply P true fr cs none S w).bare = .go { frame := fr.finish v, callers := cs, status := .running, dying := none } w' := by
  simp [stepG.apply, h]
theorem ap_skip {fr : Frame} {S : Sem Next} {w' : World} (h : S.run P w = .ok .skip w') : (stepG.apply P true fr cs none S w).bare = .go { frame := fr.finish undef, callers := cs, status := .running, dying := none } w' := by
  simp [stepG.apply, h]
theorem ap_enter {fr : Frame} {S : Sem Next} {g : FuncId} {a : Array Value} {w' : World} (h : S.run P w = .ok (.enter g a) w') (hk : ∀ x b c y z, fr.todo ≠ .call x b c y :: z) : (stepG.apply P true fr cs none S w).bare = .go { frame := Frame.enter P g a .normal, callers := fr :: cs, status := .running, dying := none } w' := by
  cases htd : fr.todo with
  | nil => simp [stepG.apply, h, htd]
  | cons it td => cases it <;> first | (exact absurd htd (hk _ _ _ _ _)) | simp [stepG.apply, h, htd]
theorem ap_round {fr : Frame} {S : Sem Next} {l g : Nat} {a : Array Value} {c b : Code} {w' : World} (h : S.run P w = .ok (.round l g a c b) w') : (stepG.apply P true fr cs none S w).bare = .go { frame := Frame.round l g a c b .normal, callers := fr :: cs, status := .running, dying := none } w' := by
  simp [stepG.apply, h]
theorem enter_mk {g : FuncId} {gf : Func} {c : Code} {a : Array Value} (h : P.funcs[g]? = some gf) (hb : gf.body = some c) : Frame.enter P g a .normal = mk g (a ++ Array.replicate (gf.ntmps - a.size) undef) [.code c] [] none := by
  simp [Frame.enter, mk, h, hb]
theorem round_mk {l g : Nat} {a : Array Value} {c b : Code} : Frame.round l g a c b .normal = mk g a [.code c, .beginRound, .code b] [] (some l) := rfl
/-! the end of a frame -/
theorem st_leaveR {l : Nat} {c : Frame} {td : List Item} {jump : Option Code} {v : Value} {w' : World} (htd : (td = [] ∧ jump = none) ∨ (∃ k, td = .code .ret :: k ∧ jump = some .ret) ∨ (∃ x k, td = .code (.exit x) :: k ∧ exitTo x k = none ∧ jump = some (.exit x)) ∨ (∃ x k, td = .code (.goto x) :: k ∧ gotoIn x k = none ∧ jump = some (.goto x)))
    (h : (Instr.endRound l jump).run P w = .ok v w') : step P (lone (mk f t td d (some l)) (c :: cs) w) = .next (lone (c.finish v) cs w') := by
  rcases htd with ⟨e1, e2⟩ | ⟨k, e1, e2⟩ | ⟨x, k, e1, e3, e2⟩ | ⟨x, k, e1, e3, e2⟩ <;> subst e1 e2
  · exact step_lone_go (by simp [stepG, stepG.exec, mk, h, doReturn])
  · exact step_lone_go (by simp [stepG, stepG.exec, mk, h, doReturn])
  · exact step_lone_go (by simp [stepG, stepG.exec, mk, h, doReturn, e3])
  · exact step_lone_go (by simp [stepG, stepG.exec, mk, h, doReturn, e3])
def gone (f : FuncId) (t : Array Value) (td : List Item) (d : List Deferred) : Frame := { fn := f, tmps := t, todo := td, defers := d, mode := .returning, kind := .normal, roundOf := none }
theorem st_leave {td : List Item} (htd : td = [] ∨ ∃ k, td = .code .ret :: k) : step P (lone (mk f t td d none) cs w) = .next (lone (gone f t td d) cs w) := by
  rcases htd with e | ⟨k, e⟩ <;> subst e
  · exact step_lone_go (by simp [stepG, stepG.exec, mk, gone])
  · exact step_lone_go (by simp [stepG, stepG.exec, mk, gone])
theorem st_take {td : List Item} {b : Nat} {as : Array Value} {w' : World} (h : (Instr.takeDeferred b).run P w = .ok [] w') : step P (lone (gone f t td ({ target := .collected b, args := as } :: d)) cs w) = .next (lone (gone f t td d) cs w') :=
  step_lone_go (by simp [stepG, unwind, gone, h])
theorem st_return {td : List Item} {c : Frame} {g : Func} {v : Value} (hf : P.funcs[f]? = some g) (h : (results g t).run P w = .ok v w) : step P (lone (gone f t td []) (c :: cs) w) = .next (lone (c.finish v) cs w) :=
  step_lone_go (by simp [stepG, unwind, gone, hf, h, doReturn])
/-! a range over a function -/
theorem st_range {fo : Operand} {ps : Array Tmp} {a b : Code} {l : Nat} {mark : List Deferred} {w1 w2 : World} {g : FuncId} {as : Array Value} (h1 : (Instr.enterLoop f t ps a b r).run P w = .ok (l, mark) w1)
    (h2 : (do let d ← resolve (evA t) { callee := .value fo, args := #[.const (.func (.yield l) #[] #[])], argTypes := #[] } 0; invoke d.target d.args : Sem Next).run P w1 = .ok (.enter g as) w2) :
    step P (lone (mk f t (.code (.rangeFunc fo ps a b) :: k) d r) cs w) = .next (lone (Frame.enter P g as .normal) (mk f t (.inRangeFunc l :: k) (mark ++ d) r :: cs) w2) := by
  have he := mk_eval (f := f) (t := t) (k := .inRangeFunc l :: k) (d := mark ++ d) (r := r)
  refine step_lone_go ?_
  have key := ap_enter (P := P) (cs := cs) (fr := mk f t (.inRangeFunc l :: k) (mark ++ d) r) h2 (by intro x b c y z e; simp [mk] at e)
  rw [← he] at key
  simp only [stepG, stepG.exec, mk, Sem.runT_eq, h1, GStep.bare_after] at key ⊢
  exact key
theorem fin_range {l : Nat} {v : Value} : (mk f t (.inRangeFunc l :: k) d r).finish v = mk f t (.endRangeFunc l :: k) d r := rfl
theorem st_endRange {l : Nat} {jump : Option Code} {w' : World} (h : (Instr.endLoop l).run P w = .ok jump w') : step P (lone (mk f t (.endRangeFunc l :: k) d r) cs w) = .next (lone (mk f t ((jump.map Item.code).toList ++ k) d r) cs w') :=
  step_lone_go (by simp [stepG, stepG.exec, mk, h])
theorem st_begin {l : Nat} {w' : World} (h : (Instr.beginRound l).run P w = .ok () w') : step P (lone (mk f t (.beginRound :: k) d (some l)) cs w) = .next (lone (mk f t k d (some l)) cs w') :=
  step_lone_go (by simp [stepG, stepG.exec, mk, stepG.apply, h, Frame.finish])
end
end Go.Ev
