/- An evaluator for closed runs: the same once more, in a form that the kernel reckons in fewer steps. -/
import Derived.Test.YtfcmgkakmaclcaaEvA
set_option linter.unusedSimpArgs false
set_option linter.unusedVariables false
namespace Go.Ev
abbrev lookQ (tm : Tm) (t : Nat) : Value := look tm t
theorem lookQ_eq (tm : Tm) (t : Nat) : lookQ tm t = look tm t := rfl
abbrev nthQ {α : Type} (l : List α) (n : Nat) : Option α := nthL l n
theorem nthQ_eq {α : Type} (l : List α) (n : Nat) : nthQ l n = nthL l n := rfl
def opQ (x : Operand) (tm : Tm) : Option Value := @Operand.casesOn  (fun _ => Tm → Option Value) x (fun t tm => some (lookQ tm t)) (fun v _ => @Bool.casesOn  (fun _ => Option Value) (clo1 v) none (some v)) (fun _ _ => none) (fun f _ => some (.func (.func f) #[] #[])) tm
theorem opQ_eq (x : Operand) (tm : Tm) : opQ x tm = opA tm x := by
  cases x with
  | tmp t => show some (lookQ tm t) = _; rw [lookQ_eq]; rfl
  | const v => show @Bool.casesOn  (fun _ => Option Value) (clo1 v) none (some v) = (match clo1 v with | true => some v | false => none); cases clo1 v <;> rfl
  | global g => rfl
  | func f => rfl
abbrev opsQ (xs : List Operand) (tm : Tm) : Option (List Value) := opsA tm xs
theorem opsQ_eq (xs : List Operand) (tm : Tm) : opsQ xs tm = opsA tm xs := rfl
def u1Q (f : Value → Res) (x : Option Value) : Res := @Option.casesOn Value (fun _ => Res) x none f
def u2Q (f : Value → Value → Res) (x y : Option Value) : Res := @Option.casesOn Value (fun _ => Res) x none (fun x => @Option.casesOn Value (fun _ => Res) y none (f x))
def u3Q (f : Value → Value → Value → Res) (x y z : Option Value) : Res := @Option.casesOn Value (fun _ => Res) x none (fun x => @Option.casesOn Value (fun _ => Res) y none (fun y => @Option.casesOn Value (fun _ => Res) z none (f x y)))
theorem u1Q_eq (f : Value → Res) (x : Option Value) : u1Q f x = u1 f x := by cases x <;> rfl
theorem u2Q_eq (f : Value → Value → Res) (x y : Option Value) : u2Q f x y = u2 f x y := by cases x <;> cases y <;> rfl
theorem u3Q_eq (f : Value → Value → Value → Res) (x y z : Option Value) : u3Q f x y z = u3 f x y z := by cases x <;> cases y <;> cases z <;> rfl
def optQ (x : Option Operand) (tm : Tm) : Option (Option Value) := @Option.casesOn Operand (fun _ => Option (Option Value)) x (some none) (fun x => @Option.casesOn Value (fun _ => Option (Option Value)) (opQ x tm) none (fun v => some (some v)))
theorem optQ_eq (x : Option Operand) (tm : Tm) : optQ x tm = optA tm x := by
  cases x with
  | none => rfl
  | some x =>
    show @Option.casesOn Value (fun _ => Option (Option Value)) (opQ x tm) none (fun v => some (some v)) = _
    rw [opQ_eq]
    show _ = (match opA tm x with | some v => some (some v) | none => none)
    cases opA tm x <;> rfl
abbrev partsQ (l : List (Nat × Operand)) (tm : Tm) : Option (List (Nat × Value)) := partsA tm l
theorem partsQ_eq (l : List (Nat × Operand)) (tm : Tm) : partsQ l tm = partsA tm l := rfl
def callQ (c : Call) (P : Program) (tm : Tm) (ty : TypeId) (H : Hp) : Res :=
  @Callee.casesOn  (fun _ => Call → Program → Tm → TypeId → Hp → Res) c.callee (fun x => @Operand.casesOn  (fun _ => Call → Program → Tm → TypeId → Hp → Res) x (fun t c P tm ty H => fCallV P (some (lookQ tm t)) (opsQ c.args.toList tm) H) (fun v c P tm ty H => fCallV P (opQ (.const v) tm) (opsQ c.args.toList tm) H) (fun g _ _ _ _ _ => none) (fun f c P tm ty H => fCallF P f (opsQ c.args.toList tm) H)) (fun _ _ _ _ _ _ _ => none) (fun b c P tm ty H => fBuiltin P b c.argTypes ty (opsQ c.args.toList tm) H) c P tm ty H
theorem callQ_eq (c : Call) (P : Program) (tm : Tm) (ty : TypeId) (H : Hp) : callQ c P tm ty H = fCall P tm c ty H := by
  unfold callQ fCall
  cases c.callee with
  | value x =>
    cases x with
    | tmp t => show fCallV P (some (lookQ tm t)) (opsQ c.args.toList tm) H = _; rw [opsQ_eq, lookQ_eq]; rfl
    | const v => show fCallV P (opQ (.const v) tm) (opsQ c.args.toList tm) H = _; rw [opsQ_eq, opQ_eq]
    | global g => show none = fCallV P none _ H; rfl
    | func f => show fCallF P f (opsQ c.args.toList tm) H = _; rw [opsQ_eq]
  | invoke r m => rfl
  | builtin b => show fBuiltin P b c.argTypes ty (opsQ c.args.toList tm) H = _; rw [opsQ_eq]
def execQ (o : Op) (P : Program) (tm : Tm) (ty : TypeId) (H : Hp) : Res :=
  @Op.casesOn  (fun _ => Program → Tm → TypeId → Hp → Res) o (fun x P tm ty H => fVal (opQ x tm) H)
      (fun x P tm ty H => fVal (opQ x tm) H)
      (fun c a b P tm ty H => u3Q (fun c a b => fPick c a b H) (opQ c tm) (opQ a tm) (opQ b tm))
      (fun t P tm ty H => fAlloc P t H)
      (fun t x P tm ty H => u1Q (fun x => fBox H t x) (opQ x tm))
      (fun t ps P tm ty H => fVal (fBuild P t (partsQ ps.toList tm)) H)
      (fun t n ps P tm ty H => fBuildSlice P t n (partsQ ps.toList tm) H)
      (fun _ _ _ _ _ _ _ _ => none)
      (fun t x P tm ty H => u1Q (fun x => fVal (loadF P t x H) H) (opQ x tm))
      (fun t x y P tm ty H => u2Q (fun x y => fHp (storeF P t x y H)) (opQ x tm) (opQ y tm))
      (fun _ _ _ _ _ => none)
      (fun _ _ _ _ _ => none)
      (fun x P tm ty H => u1Q (fun x => fNil x H) (opQ x tm))
      (fun op t x y y2 P tm ty H => u2Q (fun x y => binO P op t x y H (binF P H op t x y)) (opQ x tm) (opQ y tm))
      (fun op t x P tm ty H => u1Q (fun x => (match clo x with | true => fPure (runP P (Op.unary op x)) H | false => none)) (opQ x tm))
      (fun a b x P tm ty H => u1Q (fun x => fConv P a b x H) (opQ x tm))
      (fun _ _ _ _ _ _ => none)
      (fun _ _ _ _ _ _ => none)
      (fun fn a b P tm ty H => fFunc fn (opsQ a.toList tm) (opsQ b.toList tm) H)
      (fun t r P tm ty H => fMakeMap r H)
      (fun _ _ _ _ _ _ => none)
      (fun t l c P tm ty H => u2Q (fun l c => fMake P t l c H) (opQ l tm) (opQ c tm))
      (fun t x lo hi mx P tm ty H => u1Q (fun x => slArgs P H t x (optQ lo tm) (optQ hi tm) (optQ mx tm)) (opQ x tm))
      (fun s x f P tm ty H => u1Q (fun x => fField P x (descF P s) f H) (opQ x tm))
      (fun s x f P tm ty H => u1Q (fun x => fVal (fFieldV P x (descF P s) f) H) (opQ x tm))
      (fun t x i P tm ty H => u2Q (fun x i => fIdx P (descF P t) x i H) (opQ x tm) (opQ i tm))
      (fun t x i P tm ty H => u2Q (fun x i => fVal (fIndex P (descF P t) x i) H) (opQ x tm) (opQ i tm))
      (fun t m k ok P tm ty H => u2Q (fun m k => fVal (fLook P H t m k ok) H) (opQ m tm) (opQ k tm))
      (fun t m k x P tm ty H => u3Q (fun m k x => fUpd P H t m k x) (opQ m tm) (opQ k tm) (opQ x tm))
      (fun t m k P tm ty H => u2Q (fun m k => fEnt P H t m k) (opQ m tm) (opQ k tm))
      (fun t m s x P tm ty H => u3Q (fun m s x => fSto P H m s x) (opQ m tm) (opQ s tm) (opQ x tm))
      (fun t x P tm ty H => u1Q (fun x => fRange (descF P t) x H) (opQ x tm))
      (fun x b P tm ty H => u1Q (fun x => fNext x b H) (opQ x tm))
      (fun _ _ _ _ _ => none)
      (fun _ _ _ _ _ _ _ _ => none)
      (fun x i P tm ty H => u1Q (fun x => fExtract x i H) (opQ x tm))
      (fun c P tm ty H => callQ c P tm ty H)
      (fun _ _ _ _ _ => none)
      (fun _ _ _ _ _ => none)
      (fun _ _ _ _ _ => none)
      (fun _ _ _ _ _ _ => none)
      (fun _ _ _ _ _ _ _ => none)
      (fun _ _ _ _ _ _ => none) P tm ty H
theorem execQ_eq (o : Op) (P : Program) (tm : Tm) (ty : TypeId) (H : Hp) : execQ o P tm ty H = execF P tm ty o H := by
  unfold execQ execF
  cases o <;> first | rfl | (simp only [opQ_eq, opsQ_eq, u1Q_eq, u2Q_eq, u3Q_eq, callQ_eq, optQ_eq, partsQ_eq]; done) | (simp only [opQ_eq, u1Q_eq]; rfl)
def putQ (tm : Tm) (d : Option Tmp) (v : Value) : Tm := @Option.casesOn Tmp (fun _ => Tm) d tm (fun d => (d, v) :: tm)
theorem putQ_eq (tm : Tm) (d : Option Tmp) (v : Value) : putQ tm d v = putA tm d v := by cases d <;> rfl
def wantQ (ops : List Oper) (g : Option (Nat × Bool)) (tm : Tm) : Bool := @Option.casesOn (Nat × Bool) (fun _ => Bool) g true (fun p => @Option.casesOn Oper (fun _ => Bool) (nthQ ops p.1) false (fun o => @Option.casesOn Tmp (fun _ => Bool) o.dst false (fun d => isB (lookQ tm d) p.2)))
theorem wantQ_eq (ops : List Oper) (g : Option (Nat × Bool)) (tm : Tm) : wantQ ops g tm = wantedA ops g tm := by
  unfold wantQ wantedA
  cases g with
  | none => rfl
  | some p =>
    obtain ⟨j, w⟩ := p
    show @Option.casesOn Oper (fun _ => Bool) (nthQ ops j) false (fun o => @Option.casesOn Tmp (fun _ => Bool) o.dst false (fun d => isB (lookQ tm d) w)) = wantD (dstOf (nthL ops j)) w tm
    rw [nthQ_eq]
    cases nthL ops j with
    | none => rfl
    | some o =>
      show @Option.casesOn Tmp (fun _ => Bool) o.dst false (fun d => isB (lookQ tm d) w) = wantD o.dst w tm
      cases o.dst with
      | none => rfl
      | some d => show isB (lookQ tm d) w = _; rw [lookQ_eq]; rfl
def okQ (d : Option Tmp) (n : Nat) : Bool := @Option.casesOn Tmp (fun _ => Bool) d true (fun d => Nat.blt d n)
theorem okQ_eq (d : Option Tmp) (n : Nat) : okQ d n = okD d n := by cases d <;> rfl
abbrev StT := Program → Orc → Rec → FuncId → Option Nat → Nat → Tm → List Item → List Deferred → Hp → Option (Value × Hp)
/-- what an operation says, and then the rest of the region -/
def subQ (P : Program) (orc : Orc) (rec : Rec) (x : Res) (go : Value → Hp → Option (Value × Hp)) : Option (Value × Hp) :=
  @Option.casesOn (Next × Hp) (fun _ => Option (Value × Hp)) x none (fun q =>
    @Next.casesOn  (fun _ => Program → Orc → Rec → Hp → (Value → Hp → Option (Value × Hp)) → Option (Value × Hp)) q.1 (fun v _ _ _ H go => go v H)
      (fun _ _ _ H go => go undef H)
      (fun f args P orc rec H go => @Option.casesOn (Value × Hp) (fun _ => Option (Value × Hp)) (enterG orc rec f (nthL P.funcs.toList f) args H) none (fun r => go r.1 r.2))
      (fun l f tms assign body P orc rec H go => @Option.casesOn (Value × Hp) (fun _ => Option (Value × Hp)) (rec f (some l) tms.toList.length (ofArgs tms.toList 0) [.code assign, .beginRound, .code body] [] H) none (fun r => go r.1 r.2))
      (fun _ _ _ _ _ _ => none)
      (fun _ _ _ _ _ => none)
      (fun _ _ _ _ _ _ => none)
      (fun _ _ _ _ _ _ _ _ => none)
      (fun _ _ _ _ _ => none)
      (fun _ _ _ _ _ => none)
      (fun _ _ _ _ _ _ => none)
      (fun _ _ _ _ _ _ _ => none)
      (fun _ _ _ _ _ _ _ => none)
      (fun _ _ _ _ _ _ => none)
      (fun _ _ _ _ _ _ => none)
      (fun _ _ _ _ _ _ _ => none)
      (fun _ _ _ _ _ _ _ _ _ => none)
      (fun _ _ _ _ _ _ _ => none)
      (fun _ _ _ _ _ _ _ => none) P orc rec q.2 go)
def subThen (P : Program) (orc : Orc) (rec : Rec) (x : Res) (go : Value → Hp → Option (Value × Hp)) : Option (Value × Hp) := match sub P orc rec x with
  | some (v, H) => go v H
  | none => none
theorem subQ_eq (P : Program) (orc : Orc) (rec : Rec) (x : Res) (go : Value → Hp → Option (Value × Hp)) : subQ P orc rec x go = subThen P orc rec x go := by
  unfold subThen subQ sub
  cases x with
  | none => rfl
  | some q =>
    obtain ⟨n, H⟩ := q
    cases n with
    | value v => rfl
    | skip => rfl
    | enter f args => dsimp only; cases enterG orc rec f (nthL P.funcs.toList f) args H <;> rfl
    | round l f tms a b => dsimp only; cases rec f (some l) tms.toList.length (ofArgs tms.toList 0) [.code a, .beginRound, .code b] [] H <;> rfl
    | _ => rfl
def operQ (P : Program) (orc : Orc) (rec : Rec) (fn : FuncId) (rnd : Option Nat) (n : Nat) (tm : Tm) (ops : Array Oper) (rest : List Nat) (k : List Item) (ds : List Deferred) (H : Hp) (o : Oper) : Option (Value × Hp) :=
  @Bool.casesOn  (fun _ => Option (Value × Hp)) (okQ o.dst n) none (@Bool.casesOn  (fun _ => Option (Value × Hp)) (wantQ ops.toList o.guard tm) (rec fn rnd n (putQ tm o.dst undef) (.inRegion ops rest :: k) ds H) (subQ P orc rec (execQ o.op P tm o.type H) (fun v H => rec fn rnd n (putQ tm o.dst v) (.inRegion ops rest :: k) ds H)))
theorem operQ_eq (P : Program) (orc : Orc) (rec : Rec) (fn : FuncId) (rnd : Option Nat) (n : Nat) (tm : Tm) (ops : Array Oper) (rest : List Nat) (k : List Item) (ds : List Deferred) (H : Hp) (o : Oper) :
    operQ P orc rec fn rnd n tm ops rest k ds H o = operO P orc rec fn rnd n tm ops (some o) rest k ds H := by
  unfold operQ operO
  simp only [okQ_eq, wantQ_eq, putQ_eq, subQ_eq, execQ_eq]
  cases okD o.dst n with
  | false => rfl
  | true =>
    dsimp only
    unfold operT
    cases wantedA ops.toList o.guard tm with
    | false => rfl
    | true =>
      dsimp only
      unfold subThen cont
      cases sub P orc rec (execF P tm o.type o.op H) with
      | none => rfl
      | some r => rfl
def regionQ (ops : Array Oper) (l : List Nat) : StT := fun P orc rec fn rnd n tm k ds H =>
  @List.casesOn Nat (fun _ => Option (Value × Hp)) l (rec fn rnd n tm k ds H) (fun i rest => @Option.casesOn Oper (fun _ => Option (Value × Hp)) (nthQ ops.toList i) none (operQ P orc rec fn rnd n tm ops rest k ds H))
theorem regionQ_eq (ops : Array Oper) (l : List Nat) (P : Program) (orc : Orc) (rec : Rec) (fn : FuncId) (rnd : Option Nat) (n : Nat) (tm : Tm) (k : List Item) (ds : List Deferred) (H : Hp) :
    regionQ ops l P orc rec fn rnd n tm k ds H = region P orc rec fn rnd n tm ops l k ds H := by
  unfold regionQ region
  cases l with
  | nil => rfl
  | cons i rest =>
    show @Option.casesOn Oper (fun _ => Option (Value × Hp)) (nthQ ops.toList i) none (operQ P orc rec fn rnd n tm ops rest k ds H) = operO P orc rec fn rnd n tm ops (nthL ops.toList i) rest k ds H
    rw [nthQ_eq]
    cases nthL ops.toList i with
    | none => rfl
    | some o => exact operQ_eq ..
def retVQ (P : Program) (tm : Tm) (H : Hp) (x : ResultVar) : Option Value := match x with
  | .tmp t => some (lookQ tm t)
  | .cell a t => loadF P t (lookQ tm a) H
theorem retVQ_eq (P : Program) (tm : Tm) (H : Hp) (x : ResultVar) : retVQ P tm H x = retV P tm H x := by cases x <;> (simp only [retVQ, retV, lookQ_eq]) <;> rfl
def retLQ (P : Program) (tm : Tm) (H : Hp) : List ResultVar → Option (List Value)
  | [] => some []
  | x :: r => match retVQ P tm H x with
    | some v => (match retLQ P tm H r with | some l => some (v :: l) | none => none)
    | none => none
theorem retLQ_eq (P : Program) (tm : Tm) (H : Hp) (l : List ResultVar) : retLQ P tm H l = retL P tm H l := by
  induction l with
  | nil => rfl
  | cons x r ih => unfold retLQ retL; rw [retVQ_eq, ih]; cases retV P tm H x <;> cases retL P tm H r <;> rfl
def leaveLQ (P : Program) (g : Option Func) (tm : Tm) (H : Hp) : Option (Value × Hp) := match g with
  | some f => retO (retLQ P tm H f.results.toList) H
  | none => none
theorem leaveLQ_eq (P : Program) (g : Option Func) (tm : Tm) (H : Hp) : leaveLQ P g tm H = leaveL P g tm H := by cases g <;> (simp only [leaveLQ, leaveL, retLQ_eq]) <;> rfl
def leaveHQ (P : Program) (g : Option Func) (tm : Tm) (h : Option Hp) : Option (Value × Hp) := match h with
  | some H => leaveLQ P g tm H
  | none => none
theorem leaveHQ_eq (P : Program) (g : Option Func) (tm : Tm) (h : Option Hp) : leaveHQ P g tm h = leaveH P g tm h := by cases h <;> (simp only [leaveHQ, leaveH, leaveLQ_eq]) <;> rfl
def leaveQ (P : Program) (fn : FuncId) (rnd : Option Nat) (tm : Tm) (ds : List Deferred) (H : Hp) (jump : Option Code) : Option (Value × Hp) := match rnd with
  | some l => endRd l jump H (H.get l)
  | none => leaveHQ P (nthL P.funcs.toList fn) tm (takeAll ds H)
theorem leaveQ_eq (P : Program) (fn : FuncId) (rnd : Option Nat) (tm : Tm) (ds : List Deferred) (H : Hp) (jump : Option Code) : leaveQ P fn rnd tm ds H jump = leave P fn rnd tm ds H jump := by cases rnd <;> (simp only [leaveQ, leave, leaveHQ_eq]) <;> rfl
/-! drawn regions -/
def newOfQ (P : Program) (tm : Tm) (ty : TypeId) (o : Op) (i : Nat) : Option (Value × Obj) := match execQ o P tm ty ⟨i, []⟩ with
  | some (.value v, ⟨_, (ob, false) :: _⟩) => some (v, ob)
  | _ => none
theorem newOfQ_eq (P : Program) (tm : Tm) (ty : TypeId) (o : Op) (i : Nat) : newOfQ P tm ty o i = newOf P tm ty o i := by (simp only [newOfQ, newOf, execQ_eq]) <;> rfl
def newAtQ (P : Program) (pend : List (Nat × Nat)) (j : Nat) (tm : Tm) (ty : TypeId) (o : Op) (H : Hp) (v : Value) (b : Option Nat) : Bool := match b with
  | some i => newSame v (H.get i) (newOfQ P tm ty o i) && hasP pend j i
  | none => false
theorem newAtQ_eq (P : Program) (pend : List (Nat × Nat)) (j : Nat) (tm : Tm) (ty : TypeId) (o : Op) (H : Hp) (v : Value) (b : Option Nat) : newAtQ P pend j tm ty o H v b = newAt P pend j tm ty o H v b := by cases b <;> (simp only [newAtQ, newAt, newOfQ_eq]) <;> rfl
def lookDQ (d : Option Tmp) (tm : Tm) (r : Res) : Bool := match r with
  | some (.value v, _) => (match d with | some d => same1 v (lookQ tm d) | none => true)
  | _ => false
theorem lookDQ_eq (d : Option Tmp) (tm : Tm) (r : Res) : lookDQ d tm r = lookD d tm r := by unfold lookDQ lookD; (simp only [lookQ_eq]) <;> rfl
def againOQ (P : Program) (ops : List Oper) (pend : List (Nat × Nat)) (j : Nat) (o : Oper) (tm : Tm) (H : Hp) : Bool := match wantQ ops o.guard tm with
  | true => (match Nat.beq (kind P o.op) 2 with
    | true => (match o.dst with | some d => newAtQ P pend j tm o.type o.op H (lookQ tm d) (blockOf (lookQ tm d)) | none => false)
    | false => lookDQ o.dst tm (execQ o.op P tm o.type H))
  | false => (match o.dst with | some d => same1 (lookQ tm d) undef | none => true)
theorem againOQ_eq (P : Program) (ops : List Oper) (pend : List (Nat × Nat)) (j : Nat) (o : Oper) (tm : Tm) (H : Hp) : againOQ P ops pend j o tm H = againO P ops pend j o tm H := by
  unfold againOQ againO; (simp only [wantQ_eq, newAtQ_eq, lookQ_eq, lookDQ_eq, execQ_eq]) <;> rfl
def againLQ (P : Program) (ops : List Oper) (pend : List (Nat × Nat)) (left past : Nat) (tm : Tm) (H : Hp) : List Oper → List Nat → Nat → Bool
  | o :: r, b :: bs, i => (match Nat.beq (kind P o.op) 3 || !(Nat.beq (Nat.land b left) 0) || Nat.testBit past i with
    | true => againLQ P ops pend left past tm H r bs (i + 1)
    | false => (match againOQ P ops pend i o tm H with | true => againLQ P ops pend left past tm H r bs (i + 1) | false => false))
  | _, _, _ => true
theorem againLQ_eq (P : Program) (ops : List Oper) (pend : List (Nat × Nat)) (left past : Nat) (tm : Tm) (H : Hp) : ∀ (l : List Oper) (bs : List Nat) (i : Nat), againLQ P ops pend left past tm H l bs i = againL P ops pend left past tm H l bs i := by
  intro l
  induction l with
  | nil => intro bs i; cases bs <;> rfl
  | cons o r ih =>
    intro bs i
    cases bs with
    | nil => rfl
    | cons b bs => unfold againLQ againL; rw [againOQ_eq, ih]; rfl
def quietOQ (P : Program) (ops : List Oper) (o : Option Oper) (tm : Tm) (H : Hp) : Option (Tm × Hp) := match o with
  | some o => (match wantQ ops o.guard tm with
    | true => quietR tm o.dst (execQ o.op P tm o.type H)
    | false => some (putQ tm o.dst undef, H))
  | none => none
theorem quietOQ_eq (P : Program) (ops : List Oper) (o : Option Oper) (tm : Tm) (H : Hp) : quietOQ P ops o tm H = quietO P ops o tm H := by
  cases o with
  | none => rfl
  | some o => (simp only [quietOQ, quietO, wantQ_eq, execQ_eq, putQ_eq]) <;> rfl
def pendQ (P : Program) (ops : List Oper) (o : Option Oper) (j : Nat) (tm : Tm) (H : Hp) (p : List (Nat × Nat)) : List (Nat × Nat) := match o with
  | some o => (match Nat.beq (kind P o.op) 2 && wantQ ops o.guard tm with | true => p ++ [(j, H.n)] | false => p)
  | none => p
theorem pendQ_eq (P : Program) (ops : List Oper) (o : Option Oper) (j : Nat) (tm : Tm) (H : Hp) (p : List (Nat × Nat)) : pendQ P ops o j tm H p = pendA P ops o j tm H p := by
  cases o with
  | none => rfl
  | some o => (simp only [pendQ, pendA, wantQ_eq]) <;> rfl
def quietLQ (P : Program) (ops : List Oper) : List Nat → Tm → Hp → List (Nat × Nat) → Option (Tm × Hp × List (Nat × Nat))
  | [], tm, H, p => some (tm, H, p)
  | j :: r, tm, H, p => (match quietOQ P ops (nthQ ops j) tm H with | some (tm', H') => quietLQ P ops r tm' H' (pendQ P ops (nthQ ops j) j tm H p) | none => none)
theorem quietLQ_eq (P : Program) (ops : List Oper) : ∀ (l : List Nat) (tm : Tm) (H : Hp) (p : List (Nat × Nat)), quietLQ P ops l tm H p = quietL P ops l tm H p := by
  intro l
  induction l with
  | nil => intro tm H p; rfl
  | cons j r ih =>
    intro tm H p
    unfold quietLQ quietL
    rw [nthQ_eq, quietOQ_eq, pendQ_eq]
    cases quietO P ops (nthL ops j) tm H with
    | none => rfl
    | some q => exact ih ..
def gapQ (P : Program) (ops : List Oper) (bs : List Nat) (left past : Nat) (r : Option (Tm × Hp × List (Nat × Nat))) : Option (Tm × Hp × List (Nat × Nat)) := match r with
  | some (tm, H, p) => (match againLQ P ops p left past tm H ops bs 0 with | true => some (tm, H, p) | false => none)
  | none => none
theorem gapQ_eq (P : Program) (ops : List Oper) (bs : List Nat) (left past : Nat) (r : Option (Tm × Hp × List (Nat × Nat))) : gapQ P ops bs left past r = gapS P ops bs left past r := by
  unfold gapQ gapS; (simp only [againLQ_eq]) <;> rfl
def effQ (P : Program) (orc : Orc) (rec : Rec) (ops : List Oper) (o : Option Oper) (tm : Tm) (H : Hp) : Option (Tm × Hp) := match o with
  | some o => (match wantQ ops o.guard tm with
    | true => effR tm o.dst (sub P orc rec (execQ o.op P tm o.type H))
    | false => some (putQ tm o.dst undef, H))
  | none => none
theorem effQ_eq (P : Program) (orc : Orc) (rec : Rec) (ops : List Oper) (o : Option Oper) (tm : Tm) (H : Hp) : effQ P orc rec ops o tm H = effO P orc rec ops o tm H := by
  cases o with
  | none => rfl
  | some o => (simp only [effQ, effO, wantQ_eq, execQ_eq, putQ_eq]) <;> rfl
def stagesQ (P : Program) (orc : Orc) (rec : Rec) (ops : List Oper) (bs : List Nat) : List Nat → Nat → Option (Tm × Hp × List (Nat × Nat)) → Option (Tm × Hp)
  | [], past, r => (match gapQ P ops bs 0 past r with | some (tm, H, _) => some (tm, H) | none => none)
  | e :: es, past, r => (match gapQ P ops bs (bitsOf (e :: es)) past r with
    | some (tm, H, p) => (match effQ P orc rec ops (nthQ ops e) tm H with
      | some (tm2, H2) => stagesQ P orc rec ops bs es (Nat.lor past (Nat.lor (Nat.shiftLeft 1 e) ((nthL bs e).getD 0))) (quietLQ P ops (nowL P (bitsOf es) (some e) ops bs 0) tm2 H2 p)
      | none => none)
    | none => none)
theorem stagesQ_eq (P : Program) (orc : Orc) (rec : Rec) (ops : List Oper) (bs : List Nat) : ∀ (l : List Nat) (past : Nat) (r : Option (Tm × Hp × List (Nat × Nat))), stagesQ P orc rec ops bs l past r = stages P orc rec ops bs l past r := by
  intro l
  induction l with
  | nil => intro past r; unfold stagesQ stages; rw [gapQ_eq]; rfl
  | cons e es ih =>
    intro past r
    unfold stagesQ stages
    rw [gapQ_eq]
    cases gapS P ops bs (bitsOf (e :: es)) past r with
    | none => rfl
    | some q =>
      obtain ⟨tm, H, p⟩ := q
      dsimp only
      rw [nthQ_eq, effQ_eq]
      cases effO P orc rec ops (nthL ops e) tm H with
      | none => rfl
      | some q => dsimp only; rw [quietLQ_eq]; exact ih ..
def drawn2Q (P : Program) (orc : Orc) (rec : Rec) (ops : List Oper) (bs es : List Nat) (n : Nat) (tm : Tm) (H : Hp) : Option (Tm × Hp) :=
  match tidyL P ops bs n ops bs 0 && onceOK ops && chainOK bs es with
  | true => stagesQ P orc rec ops bs es 0 (quietLQ P ops (nowL P (bitsOf es) none ops bs 0) tm H [])
  | false => none
def drawnQ (P : Program) (orc : Orc) (rec : Rec) (ops : List Oper) (n : Nat) (tm : Tm) (H : Hp) : Option (Tm × Hp) := drawn2Q P orc rec ops (beforeL ops []) (effL P ops 0) n tm H
theorem drawnQ_eq (P : Program) (orc : Orc) (rec : Rec) (ops : List Oper) (n : Nat) (tm : Tm) (H : Hp) : drawnQ P orc rec ops n tm H = drawn P orc rec ops n tm H := by
  unfold drawnQ drawn drawn1 drawn2Q drawn2; (simp only [stagesQ_eq, quietLQ_eq]) <;> rfl
def codeQ (c : Code) : StT :=
  @Code.casesOn  (fun _ => StT) c (fun P orc rec fn rnd n tm k ds H => rec fn rnd n tm k ds H)
      (fun _ ops draw P orc rec fn rnd n tm k ds H => @Bool.casesOn  (fun _ => Option (Value × Hp)) draw (rec fn rnd n tm (.inRegion ops (upL ops.toList.length 0) :: k) ds H) (thenF rec fn rnd n k ds (drawnQ P orc rec ops.toList n tm H)))
      (fun a b P orc rec fn rnd n tm k ds H => rec fn rnd n tm (.code a :: .code b :: k) ds H)
      (fun c a b P orc rec fn rnd n tm k ds H => goTo rec fn rnd n tm ds H (condTo (opQ c tm) a b k))
      (fun id b P orc rec fn rnd n tm k ds H => rec fn rnd n tm (.code b :: .inBlock id :: k) ds H)
      (fun b P orc rec fn rnd n tm k ds H => rec fn rnd n tm (.code b :: .inLoop b :: k) ds H)
      (fun f params assign body P orc rec fn rnd n tm k ds H => rangeF P orc rec fn rnd n tm f params assign body k ds H)
      (fun id P orc rec fn rnd n tm k ds H => jumpTo P rec fn rnd n tm ds H (.exit id) (exitTo id k))
      (fun b P orc rec fn rnd n tm k ds H => rec fn rnd n tm (.code b :: .inScope b :: k) ds H)
      (fun _ P orc rec fn rnd n tm k ds H => rec fn rnd n tm k ds H)
      (fun l P orc rec fn rnd n tm k ds H => jumpTo P rec fn rnd n tm ds H (.goto l) (gotoIn l k))
      (fun P orc rec fn rnd n tm k ds H => leaveQ P fn rnd tm ds H (some .ret))
      (fun _ _ _ _ _ _ _ _ _ _ _ => none)
theorem codeQ_eq (c : Code) (P : Program) (orc : Orc) (rec : Rec) (fn : FuncId) (rnd : Option Nat) (n : Nat) (tm : Tm) (k : List Item) (ds : List Deferred) (H : Hp) :
    codeQ c P orc rec fn rnd n tm k ds H = stepC P orc rec fn rnd n tm c k ds H := by
  unfold codeQ stepC
  cases c with
  | region i ops draw => unfold regionB; cases draw; · rfl
                         · show thenF rec fn rnd n k ds (drawnQ P orc rec ops.toList n tm H) = _; rw [drawnQ_eq]
  | cond c a b => simp only [opQ_eq]
  | ret => exact leaveQ_eq ..
  | _ => rfl
def itemQ (i : Item) : StT :=
  @Item.casesOn  (fun _ => StT) i codeQ
      (fun _ P orc rec fn rnd n tm k ds H => rec fn rnd n tm k ds H)
      (fun b P orc rec fn rnd n tm k ds H => rec fn rnd n tm (.code b :: .inLoop b :: k) ds H)
      (fun _ P orc rec fn rnd n tm k ds H => rec fn rnd n tm k ds H)
      regionQ
      (fun _ _ _ _ _ _ _ _ _ _ _ => none)
      (fun l P orc rec fn rnd n tm k ds H => endR rec fn rnd n tm l k ds H (H.get l))
      (fun P orc rec fn rnd n tm k ds H => beginR rec fn rnd n tm k ds H)
      (fun _ _ _ _ _ _ _ _ _ _ _ _ _ _ => none)
      (fun _ _ _ _ _ _ _ _ _ _ _ _ => none)
theorem itemQ_eq (i : Item) (P : Program) (orc : Orc) (rec : Rec) (fn : FuncId) (rnd : Option Nat) (n : Nat) (tm : Tm) (k : List Item) (ds : List Deferred) (H : Hp) :
    itemQ i P orc rec fn rnd n tm k ds H = stepI P orc rec fn rnd n tm i k ds H := by
  unfold itemQ stepI
  cases i with
  | code c => exact codeQ_eq ..
  | inRegion ops l => exact regionQ_eq ..
  | _ => rfl
def stepQ (P : Program) (orc : Orc) (rec : Rec) : Rec := fun fn rnd n tm todo ds H => @List.casesOn Item (fun _ => Option (Value × Hp)) todo (leaveQ P fn rnd tm ds H none) (fun i k => itemQ i P orc rec fn rnd n tm k ds H)
theorem stepQ_eq (P : Program) (orc : Orc) (rec : Rec) : stepQ P orc rec = stepF P orc rec := by
  funext fn rnd n tm todo ds H
  unfold stepQ stepF
  cases todo with
  | nil => exact leaveQ_eq ..
  | cons i k => exact itemQ_eq ..
def evalQ (P : Program) (orc : Orc) : Nat → Rec
  | 0 => fun _ _ _ _ _ _ _ => none
  | F + 1 => stepQ P orc (evalQ P orc F)
theorem evalQ_eq (P : Program) (orc : Orc) (F : Nat) : evalQ P orc F = evalF P orc F := by
  induction F with
  | zero => rfl
  | succ F ih =>
    show stepQ P orc (evalQ P orc F) = stepF P orc (evalF P orc F)
    rw [ih, stepQ_eq]
def callNow (P : Program) (orc : Orc) (F : Nat) (f : FuncId) (args : List Value) (H : Hp) : Option (Value × Hp) := enterN (evalQ P orc F) f (nthL P.funcs.toList f) ⟨args⟩ H
theorem callNow_eq (P : Program) (orc : Orc) (F : Nat) (f : FuncId) (args : List Value) (H : Hp) : callNow P orc F f args H = evalCall P orc F f args H := by
  unfold callNow evalCall
  rw [evalQ_eq]
end Go.Ev
