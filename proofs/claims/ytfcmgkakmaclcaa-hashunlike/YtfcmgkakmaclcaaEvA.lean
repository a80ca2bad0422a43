/- An evaluator for closed runs of a program of the model: its definitions. Nothing is claimed here. -/
import GoSem.Step
import Derived.KernelRfl
namespace Go.Ev

def nthL {α : Type} : List α → Nat → Option α
  | [], _ => none
  | x :: r, n => match n with | 0 => some x | m + 1 => nthL r m
def setL {α : Type} : List α → Nat → α → List α
  | [], _, _ => []
  | x :: r, n, v => match n with | 0 => v :: r | m + 1 => x :: setL r m v
/-- n of them, behind k -/
def partL {α : Type} : List α → Nat → Nat → List α
  | [], _, _ => []
  | x :: r, n, k => match k with
    | 0 => (match n with | 0 => [] | m + 1 => x :: partL r m 0)
    | j + 1 => partL r n j
/-- these in the place of those behind k -/
def overL {α : Type} : List α → Nat → List α → Option (List α)
  | l, _, [] => some l
  | [], _, _ :: _ => none
  | x :: r, k, v :: vs => match k with
    | 0 => (match overL r 0 vs with | some l => some (v :: l) | none => none)
    | j + 1 => (match overL r j (v :: vs) with | some l => some (x :: l) | none => none)
def eqB : List UInt8 → List UInt8 → Bool
  | [], [] => true
  | a :: x, b :: y => match Nat.beq a.toNat b.toNat with | true => eqB x y | false => false
  | _, _ => false

/-- the heap: how many blocks; the newest first; beside each: is its room unknown? -/
structure Hp where
  n : Nat
  l : List (Obj × Bool)
def Hp.get (H : Hp) (i : Nat) : Option (Obj × Bool) := match Nat.blt i H.n with | true => nthL H.l (H.n - 1 - i) | false => none
def Hp.set (H : Hp) (i : Nat) (o : Obj × Bool) : Hp := ⟨H.n, setL H.l (H.n - 1 - i) o⟩
def Hp.push (H : Hp) (o : Obj × Bool) : Hp := ⟨H.n + 1, o :: H.l⟩
def dead : Obj × Bool := (.coro none, true)

/-- the great number that stands for unknown room; half of it; the room of an empty slice of which nothing else is known -/
def big : Nat := 2199023255552
def half : Nat := 1099511627776
def junk : Nat := 549755813888

/-- does a value name no block? -/
def clo : Value → Bool
  | .bool _ | .int _ _ | .string _ | .pointer none | .slice none 0 0 | .map none | .nilFunc | .nilIface => true
  | _ => false
def cloL : List Value → Bool
  | [] => true
  | v :: r => match clo v with | true => cloL r | false => false
/-- one level deeper -/
def clo1 : Value → Bool
  | .agg cs => cloL cs.toList
  | v => clo v
/-- Where nothing of the heap is asked. -/
def runP {α : Type} (P : Program) : Sem α → Option α
  | .pure a => some a
  | .program k => runP P (k P)
  | .mark _ k => runP P k
  | _ => none

/-! temporaries: the newest first -/
abbrev Tm := List (Nat × Value)
def look : List (Nat × Value) → Nat → Value
  | [], _ => undef
  | (i, v) :: r, t => match Nat.beq i t with | true => v | false => look r t
def ofArgs : List Value → Nat → List (Nat × Value)
  | [], _ => []
  | v :: r, i => (i, v) :: ofArgs r (i + 1)
def allOf (tm : Tm) : Nat → Nat → List Value
  | 0, _ => []
  | n + 1, i => look tm i :: allOf tm n (i + 1)
def opA (tm : Tm) : Operand → Option Value
  | .tmp t => some (look tm t)
  | .const v => (match clo1 v with | true => some v | false => none)
  | .global _ => none
  | .func f => some (.func (.func f) #[] #[])
def opsA (tm : Tm) : List Operand → Option (List Value)
  | [] => some []
  | x :: r => match opA tm x with
    | some v => (match opsA tm r with | some l => some (v :: l) | none => none)
    | none => none
def optA (tm : Tm) : Option Operand → Option (Option Value)
  | none => some none
  | some x => match opA tm x with | some v => some (some v) | none => none
def cloAll : List Value → Bool
  | [] => true
  | v :: r => match clo1 v with | true => cloAll r | false => false

/-! types -/
def infoF (P : Program) (t : TypeId) : Option TypeInfo := nthL P.types.toList t
def descF (P : Program) (t : TypeId) : Option TypeDesc :=
  match infoF P t with
  | some i => (match i.desc with | .named _ u => (match infoF P u with | some j => some j.desc | none => none) | d => some d)
  | none => none
def isAggD : TypeDesc → Bool
  | .struct _ | .array _ _ => true
  | _ => false
def isAggF : Option TypeDesc → Option Bool
  | some d => some (isAggD d)
  | none => none
def sizeF (P : Program) (t : TypeId) : Option Nat := match infoF P t with | some i => some i.size | none => none
def bytesF (P : Program) (t : TypeId) : Option Nat := match infoF P t with | some i => some i.bytes | none => none
def zeroF (P : Program) (t : TypeId) : Option Value := match infoF P t with
  | some i => (match i.zero with | some v => (match clo1 v with | true => some v | false => none) | none => none)
  | none => none

/-! what the operations do -/
abbrev Res := Option (Next × Hp)
def fVal (v : Option Value) (H : Hp) : Res := match v with | some v => some (.value v, H) | none => none
def fPure (v : Option Value) (H : Hp) : Res := match v with | some v => (match clo1 v with | true => some (.value v, H) | false => none) | none => none
def fHp (h : Option Hp) : Res := match h with | some H => some (.skip, H) | none => none
def fPick (c a b : Value) (H : Hp) : Res := match c with | .bool true => some (.value a, H) | .bool false => some (.value b, H) | _ => none
def fNil (x : Value) (H : Hp) : Res := match x with | .pointer (some a) => some (.value (.pointer (some a)), H) | .func (.func f) a b => some (.value (.func (.func f) a b), H) | _ => none
def fExtract (x : Value) (i : Nat) (H : Hp) : Res := match x with | .tuple vs => fVal (nthL vs.toList i) H | _ => none
def i64ok (n : Int) : Option Value := match n with
  | .ofNat m => (match Nat.ble m 9223372036854775807 with | true => some (.int .i64 (.ofNat m)) | false => none)
  | .negSucc m => (match Nat.ble m 9223372036854775807 with | true => some (.int .i64 (.negSucc m)) | false => none)
def binI (op : BinOp) (k k' : IntKind) (a b : Int) : Option Value := match op with
    | .eql => (match decide (k = k') with | true => some (.bool (decide (a = b))) | false => none)
    | .neq => (match decide (k = k') with | true => some (.bool (!decide (a = b))) | false => none)
    | .lss => (match decide (k = k') with | true => some (.bool (decide (a < b))) | false => none)
    | .leq => (match decide (k = k') with | true => some (.bool (decide (a ≤ b))) | false => none)
    | .gtr => (match decide (k = k') with | true => some (.bool (decide (b < a))) | false => none)
    | .geq => (match decide (k = k') with | true => some (.bool (decide (b ≤ a))) | false => none)
    | .add => (match k, k' with | .i64, .i64 => i64ok (a + b) | _, _ => none)
    | .sub => (match k, k' with | .i64, .i64 => i64ok (a - b) | _, _ => none)
    | _ => none
def binS (op : BinOp) (a b : ByteArray) : Option Value := match op with
    | .eql => some (.bool (eqB a.data.toList b.data.toList))
    | .neq => some (.bool (!eqB a.data.toList b.data.toList))
    | .add => (match Nat.blt (a.data.toList.length + b.data.toList.length) 1048576 with | true => some (.string ⟨⟨a.data.toList ++ b.data.toList⟩⟩) | false => none)
    | _ => none
def eqPtr (H : Hp) (a b : Addr) : Option Bool :=
  match H.get a.block, H.get b.block, a.spot, b.spot with
  | some (.cells _ _ (0, 0), false), some (.cells _ _ (0, 0), false), none, none => some (Nat.beq a.block b.block && Nat.beq a.off b.off)
  | _, _, _, _ => none
/-- 0: none of these -/
def eqV (P : Program) (H : Hp) (t : TypeId) (x y : Value) : Option Bool := match x, y with
  | .pointer (some a), .pointer (some b) => (match descF P t with
    | some (.pointer e) => (match sizeF P e with | some (_ + 1) => eqPtr H a b | _ => none)
    | _ => none)
  | .pointer none, .pointer (some _) | .pointer (some _), .pointer none => (match descF P t with | some (.pointer _) => some false | _ => none)
  | .slice none 0 0, .slice (some _) _ c => (match descF P t with | some (.slice _) => (match Nat.beq c junk with | true => none | false => some false) | _ => none)
  | .slice (some _) _ c, .slice none 0 0 => (match descF P t with | some (.slice _) => (match Nat.beq c junk with | true => none | false => some false) | _ => none)
  | _, _ => none
def notO : Option Bool → Option Value
  | some b => some (.bool (!b))
  | none => none
def boolO : Option Bool → Option Value
  | some b => some (.bool b)
  | none => none
def binE (P : Program) (H : Hp) (op : BinOp) (t : TypeId) (x y : Value) : Option Value := match op with
  | .eql => boolO (eqV P H t x y)
  | .neq => notO (eqV P H t x y)
  | _ => none
def binF (P : Program) (H : Hp) (op : BinOp) (t : TypeId) (x y : Value) : Option Value := match x, y with
  | .int k a, .int k' b => binI op k k' a b
  | .string a, .string b => binS op a b
  | x, y => binE P H op t x y
def cellsAt (H : Hp) (b : Nat) : Option (List Value) := match H.get b with
  | some (.cells c _ _, _) => some c.toList
  | _ => none
def loadN (n off : Nat) (c : Option (List Value)) : Option (List Value) := match c with
  | some c => (let l := partL c n off; match Nat.beq l.length n with | true => some l | false => none)
  | none => none
def aggO : Option (List Value) → Option Value
  | some l => some (.agg ⟨l⟩)
  | none => none
def loadF (P : Program) (t : TypeId) (a : Value) (H : Hp) : Option Value := match a with
  | .pointer (some ⟨b, off, none⟩) => (match isAggF (descF P t) with
    | some true => (match sizeF P t with | some n => aggO (loadN n off (cellsAt H b)) | none => none)
    | some false => (match cellsAt H b with | some c => nthL c off | none => none)
    | none => none)
  | _ => none
def scal : List Value → Bool
  | [] => true
  | .agg _ :: _ => false
  | .tuple _ :: _ => false
  | _ :: r => scal r
def storeB (H : Hp) (b : Nat) (u : Bool) (e : TypeId) (l : Option (List Value)) : Option Hp := match l with
  | some l => some (H.set b (.cells ⟨l⟩ e (0, 0), u))
  | none => none
def storeN (H : Hp) (b off : Nat) (vs : List Value) : Option Hp := match H.get b with
  | some (.cells c e (0, 0), u) => (match scal vs with | true => storeB H b u e (overL c.toList off vs) | false => none)
  | _ => none
def storeF (P : Program) (t : TypeId) (a v : Value) (H : Hp) : Option Hp := match a with
  | .pointer (some ⟨b, off, none⟩) => (match sizeF P t with
    | some n => (match Nat.beq v.cells.toList.length n with | true => storeN H b off v.cells.toList | false => none)
    | none => none)
  | _ => none
def fNew (H : Hp) (e : TypeId) (cs : List Value) : Res := some (.value (.pointer (some ⟨H.n, 0, none⟩)), H.push (.cells ⟨cs⟩ e, false))
def fBox (H : Hp) (t : TypeId) (x : Value) : Res := match scal x.cells.toList with | true => fNew H t x.cells.toList | false => none
def fAlloc (P : Program) (t : TypeId) (H : Hp) : Res := match zeroF P t with | some v => fNew H t v.cells.toList | none => none
def fField2 (P : Program) (b off : Nat) (fd : Option Field) (H : Hp) : Res := match fd with
  | some fd => (match sizeF P fd.type with | some (_ + 1) => some (.value (.pointer (some ⟨b, off + fd.offset, none⟩)), H) | _ => none)
  | none => none
def fField (P : Program) (x : Value) (d : Option TypeDesc) (f : Nat) (H : Hp) : Res := match x, d with
    | .pointer (some ⟨b, off, none⟩), some (.struct fs) => fField2 P b off (nthL fs.toList f) H
    | _, _ => none
def fIdx2 (b off j : Nat) (s : Option Nat) (H : Hp) : Res := match s with | some n => some (.value (.pointer (some ⟨b, off + j * n, none⟩)), H) | none => none
def fIdx (P : Program) (d : Option TypeDesc) (x i : Value) (H : Hp) : Res := match d, x, i with
    | some (.slice e), .slice (some ⟨b, off, none⟩) len _, .int _ (.ofNat j) => (match Nat.blt j len with | true => fIdx2 b off j (sizeF P e) H | false => none)
    | some (.array len e), .pointer (some ⟨b, off, none⟩), .int _ (.ofNat j) => (match Nat.blt j len with | true => fIdx2 b off j (sizeF P e) H | false => none)
    | _, _, _ => none
def partF (P : Program) (t : TypeId) (cs : List Value) (off : Nat) : Option Value := match isAggF (descF P t) with
  | some true => (match sizeF P t with | some n => aggO (loadN n off (some cs)) | none => none)
  | some false => nthL cs off
  | none => none
def fPart (P : Program) (x : Value) (fd : Option Field) : Option Value := match x, fd with
  | .agg cs, some f => partF P f.type cs.toList f.offset
  | _, _ => none
def fFieldV (P : Program) (x : Value) (d : Option TypeDesc) (f : Nat) : Option Value := match d with
  | some (.struct fs) => fPart P x (nthL fs.toList f)
  | _ => none
def byteV (b : Option UInt8) : Option Value := match b with | some b => some (.int .u8 b.toNat) | none => none
def fIndex (P : Program) (d : Option TypeDesc) (x i : Value) : Option Value := match x, i with
    | .string s, .int _ (.ofNat j) => (match d with | some .string => byteV (nthL s.data.toList j) | _ => none)
    | .agg cs, .int _ (.ofNat j) => (match d with
      | some (.array len e) => (match Nat.blt j len, sizeF P e with | true, some n => partF P e cs.toList (j * n) | _, _ => none)
      | _ => none)
    | _, _ => none
def fLen (d : Option TypeDesc) (x : Value) : Option Value := match x, d with
  | .slice _ n _, some (.slice _) => some (goInt n)
  | .string s, some .string => some (goInt s.data.toList.length)
  | _, _ => none

def isSz : Option Nat → Nat → Bool
  | some a, b => Nat.beq a b
  | none, _ => false
def reaches (P : Program) (H : Hp) (a : Option Addr) (size cap h : Nat) : Bool :=
  match a with
  | some ad => (match H.get ad.block, ad.spot with
    | some (.cells c e _, true), none => Nat.beq ad.off ((big - cap) * size) && Nat.ble (ad.off + h * size) c.toList.length && Nat.ble cap big && isSz (sizeF P e) size
    | _, _ => false)
  | none => false
/-- the cells of what is appended or copied: n elements -/
def srcF (H : Hp) (size n : Nat) (x : Value) : Option (List Value) := match x with
  | .slice (some ⟨b, off, none⟩) _ _ => loadN (n * size) off (cellsAt H b)
  | .slice none _ _ => (match n with | 0 => some [] | _ + 1 => none)
  | .string s => (match size with | 1 => some ((partL s.data.toList n 0).map fun b => .int .u8 b.toNat) | _ => none)
  | _ => none
def lenF : Value → Option Nat
  | .slice _ n _ => some n
  | .string s => some s.data.toList.length
  | _ => none
def okSz (n : Nat) : Bool := Nat.blt n 1048576
def appKill (H : Hp) (b : Nat) (e : TypeId) (c new : List Value) (len n size : Nat) : Res :=
  some (.value (.slice (some ⟨H.n, 0, none⟩) (len + n) big), (H.set b dead).push (.cells ⟨partL c (len * size) 0 ++ new⟩ e, true))
def appPut (b off len n cap : Nat) (h : Option Hp) : Res := match h with
  | some H' => some (.value (.slice (some ⟨b, off, none⟩) (len + n) cap), H')
  | none => none
def appNew (H : Hp) (e : TypeId) (len n : Nat) (old : Option (List Value)) (new : List Value) : Res := match old with
  | some o => some (.value (.slice (some ⟨H.n, 0, none⟩) (len + n) big), H.push (.cells ⟨o ++ new⟩ e, true))
  | none => none
/-- the room is unknown -/
def appU (P : Program) (H : Hp) (b off len cap n size : Nat) (elem : TypeId) (new : List Value) : Res := match H.get b with
  | some (.cells c e (0, 0), true) => (match Nat.beq e elem && okSz (len + n) with
    | true => (match reaches P H (some ⟨b, off, none⟩) size cap (len + n) with
      | true => appPut b off len n cap (storeN H b (off + len * size) new)
      | false => (match Nat.beq off 0 && Nat.beq cap big && Nat.ble (len * size) c.toList.length with
        | true => appKill H b elem c.toList new len n size
        | false => none))
    | false => none)
  | _ => none
/-- the room is known -/
def appK (H : Hp) (b off len cap n size : Nat) (elem : TypeId) (new : List Value) : Res := match okSz (len + n) with
  | true => (match Nat.ble (len + n) cap with
    | true => appPut b off len n cap (storeN H b (off + len * size) new)
    | false => appNew H elem len n (loadN (len * size) off (cellsAt H b)) new)
  | false => none
def app0 (n : Nat) (H : Hp) (elem : TypeId) (new : List Value) : Res := match n with
  | 0 => some (.value (.slice none 0 0), H)
  | n + 1 => (match okSz (n + 1) with | true => appNew H elem 0 (n + 1) (some []) new | false => none)
def appB (P : Program) (H : Hp) (base : Option Addr) (len cap n size : Nat) (elem : TypeId) (new : List Value) : Res := match base with
    | none => (match len, cap with | 0, 0 => app0 n H elem new | _, _ => none)
    | some ⟨b, off, none⟩ => (match n with
      | 0 => (match Nat.beq cap junk with | true => none | false => some (.value (.slice (some ⟨b, off, none⟩) len cap), H))
      | n + 1 => (match Nat.ble half cap with
        | true => appU P H b off len cap (n + 1) size elem new
        | false => (match Nat.blt cap junk with | true => appK H b off len cap (n + 1) size elem new | false => none)))
    | _ => none
def appN (P : Program) (H : Hp) (base : Option Addr) (len cap n size : Nat) (elem : TypeId) (new : Option (List Value)) : Res := match new with
  | some new => (match scal new with | true => appB P H base len cap n size elem new | false => none)
  | none => none
def appS (P : Program) (H : Hp) (base : Option Addr) (len cap : Nat) (elem : TypeId) (size : Option Nat) (x : Value) : Res := match size, lenF x with
  | some (m + 1), some n => (match zeroF P elem, bytesF P elem with
    | some z, some b => (match Nat.beq z.cells.toList.length (m + 1) && Nat.blt b 1048576 with
      | true => appN P H base len cap n (m + 1) elem (srcF H (m + 1) n x)
      | false => none)
    | _, _ => none)
  | _, _ => none
def notIntD : Option TypeDesc → Bool
  | some (.int _) => false
  | some _ => true
  | none => false
def fAppend (P : Program) (ts : List TypeId) (xs : List Value) (H : Hp) : Res := match ts, xs with
  | t :: t' :: _, .slice base len cap :: x :: _ => (match descF P t, notIntD (descF P t') with
    | some (.slice e), true => appS P H base len cap e (sizeF P e) x
    | _, _ => none)
  | _, _ => none
def copyP (H : Hp) (b off n : Nat) (vs : Option (List Value)) : Res := match vs with
  | some vs => (match storeN H b off vs with | some H' => some (.value (goInt n), H') | none => none)
  | none => none
def copyS (H : Hp) (base : Option Addr) (n : Nat) (size : Option Nat) (src : Value) : Res := match n with
  | 0 => (match size with | some _ => some (.value (goInt 0), H) | none => none)
  | n + 1 => (match base, size with
    | some ⟨b, off, none⟩, some s => copyP H b off (n + 1) (srcF H s (n + 1) src)
    | _, _ => none)
def fCopy (P : Program) (ts : List TypeId) (xs : List Value) (H : Hp) : Res := match ts, xs with
  | t :: _, .slice base len _ :: x :: _ => (match descF P t, lenF x with
    | some (.slice e), some m => copyS H base (Nat.min m len) (sizeF P e) x
    | _, _ => none)
  | _, _ => none
def clearP (h : Option Hp) : Res := match h with | some H' => some (.value (.tuple #[]), H') | none => none
def repL {α : Type} (z : List α) : Nat → List α
  | 0 => []
  | n + 1 => z ++ repL z n
def fClear (P : Program) (ts : List TypeId) (xs : List Value) (H : Hp) : Res := match ts, xs with
  | t :: _, .slice _ 0 _ :: _ => (match descF P t with | some (.slice _) => some (.value (.tuple #[]), H) | _ => none)
  | t :: _, .slice (some ⟨b, off, none⟩) (n + 1) _ :: _ => (match descF P t with
    | some (.slice e) => (match zeroF P e with
      | some z => (match Nat.blt 0 z.cells.toList.length with | true => clearP (storeN H b off (repL z.cells.toList (n + 1))) | false => none)
      | none => none)
    | _ => none)
  | _, _ => none
def optInt : Option Value → Option (Option Nat)
  | none => some none
  | some (.int _ (.ofNat n)) => some (some n)
  | _ => none
def slJ (x : Value) (l h : Nat) (m : Option Nat) : Option Value := match l, h, m with | 0, 0, none => some x | _, _, _ => none
def movA (a : Option Addr) (n : Nat) : Option Addr := match a with
  | some ⟨b, off, _⟩ => some ⟨b, off + n, none⟩
  | none => none
def plainS : Option Addr → Bool
  | some ⟨_, _, none⟩ => true
  | _ => false
def plainA : Option Addr → Bool
  | some ⟨_, _, none⟩ => true
  | none => true
  | _ => false
def slK (a : Option Addr) (l h m size : Nat) : Option Value := match Nat.ble l h && Nat.ble h m && plainA a with
  | true => some (.slice (match Nat.beq m l with | true => a | false => movA a (l * size)) (h - l) (m - l))
  | false => none
def slU (a : Option Addr) (l h size cap : Nat) : Option Value := match Nat.beq l 0 with
  | true => some (.slice a h cap)
  | false => (match Nat.blt l h && Nat.ble half (cap - l) with
    | true => some (.slice (movA a (l * size)) (h - l) (cap - l))
    | false => (match Nat.beq l h with | true => some (.slice none 0 junk) | false => none))
def slB (P : Program) (H : Hp) (a : Option Addr) (len cap l h size : Nat) (m : Option Nat) (hi : Bool) : Option Value := match Nat.ble half cap with
  | true => (match m with
    | some m => (match Nat.ble m len && hi && Nat.blt m junk with | true => slK a l h m size | false => none)
    | none => (match Nat.ble l h && (Nat.ble h len || reaches P H a size cap h) && plainS a with | true => slU a l h size cap | false => none))
  | false => (match Nat.blt cap junk with
    | true => (match m with
      | some m => (match Nat.ble m cap && hi with | true => slK a l h m size | false => none)
      | none => slK a l h cap size)
    | false => none)
def slA (P : Program) (H : Hp) (x : Value) (a : Option Addr) (len cap : Nat) (lo hi m : Option Nat) (size : Option Nat) : Option Value := match size with
  | some (k + 1) => (match Nat.beq cap junk with
    | true => slJ x (lo.getD 0) (hi.getD len) m
    | false => slB P H a len cap (lo.getD 0) (hi.getD len) (k + 1) m hi.isSome)
  | _ => none
def slS (s : ByteArray) (lo hi : Option Nat) (n : Nat) : Option Value := (match Nat.ble (lo.getD 0) (hi.getD n) && Nat.ble (hi.getD n) n with
  | true => some (.string ⟨⟨partL s.data.toList ((hi.getD n) - (lo.getD 0)) (lo.getD 0)⟩⟩)
  | false => none)
def fSlice2 (P : Program) (H : Hp) (d : Option TypeDesc) (x : Value) (lo hi mx : Option Nat) : Option Value := match d, x with
  | some .string, .string s => (match mx with | none => slS s lo hi s.data.toList.length | some _ => none)
  | some (.slice e), .slice a len cap => slA P H x a len cap lo hi mx (sizeF P e)
  | some (.array n e), .pointer (some ⟨b, off, none⟩) => (match mx, sizeF P e with
    | none, some k => (match Nat.blt n junk with | true => slK (some ⟨b, off, none⟩) (lo.getD 0) (hi.getD n) n k | false => none)
    | _, _ => none)
  | _, _ => none
def fSlice1 (P : Program) (H : Hp) (d : Option TypeDesc) (x : Value) (lo hi mx : Option (Option Nat)) : Option Value := match lo, hi, mx with
  | some lo, some hi, some mx => fSlice2 P H d x lo hi mx
  | _, _, _ => none
def fSlice (P : Program) (H : Hp) (t : TypeId) (x : Value) (lo hi mx : Option Value) : Option Value := fSlice1 P H (descF P t) x (optInt lo) (optInt hi) (optInt mx)

/-- the parts of a struct or an array, laid over its zero -/
def fillL (place : Nat → Option (Nat × Nat)) : List Value → List (Nat × Value) → Option (List Value)
  | cells, [] => some cells
  | cells, (i, v) :: rest => match place i with
    | some (off, n) => (match Nat.beq v.cells.toList.length n && scal v.cells.toList && Nat.blt 0 n with
      | true => (match overL cells off v.cells.toList with | some c => fillL place c rest | none => none)
      | false => none)
    | none => none
def placesL (P : Program) : List Field → Option (List (Nat × Nat))
  | [] => some []
  | f :: r => match sizeF P f.type with
    | some n => (match placesL P r with | some l => some ((f.offset, n) :: l) | none => none)
    | none => none
def elemPl (n i : Nat) : Option (Nat × Nat) := some (i * n, n)
def partsA (tm : Tm) : List (Nat × Operand) → Option (List (Nat × Value))
  | [] => some []
  | (i, x) :: r => match opA tm x with
    | some v => (match partsA tm r with | some l => some ((i, v) :: l) | none => none)
    | none => none
def fBuild2 (P : Program) (d : Option TypeDesc) (z : List Value) (ps : List (Nat × Value)) : Option Value := match d with
  | some (.struct fs) => (match placesL P fs.toList with | some pl => aggO (fillL (nthL pl) z ps) | none => none)
  | some (.array _ e) => (match sizeF P e with | some n => aggO (fillL (elemPl n) z ps) | none => none)
  | _ => none
def fBuild (P : Program) (t : TypeId) (ps : Option (List (Nat × Value))) : Option Value := match ps, zeroF P t with
  | some ps, some z => fBuild2 P (descF P t) z.cells.toList ps
  | _, _ => none
def bsP (H : Hp) (e : TypeId) (len : Nat) (cs : Option (List Value)) : Res := match cs with
  | some cs => some (.value (.slice (some ⟨H.n, 0, none⟩) len len), H.push (.cells ⟨cs⟩ e, false))
  | none => none
def bsE (H : Hp) (e : TypeId) (len : Nat) (z : Option Value) (size : Option Nat) (ps : List (Nat × Value)) : Res := match z, size with
  | some z, some (m + 1) => (match okSz (len * (m + 1)) && Nat.beq z.cells.toList.length (m + 1) with
    | true => bsP H e len (fillL (elemPl (m + 1)) (repL z.cells.toList len) ps)
    | false => none)
  | _, _ => none
def fBuildSlice (P : Program) (t : TypeId) (len : Nat) (ps : Option (List (Nat × Value))) (H : Hp) : Res := match ps, descF P t with
  | some ps, some (.slice e) => bsE H e len (zeroF P e) (sizeF P e) ps
  | _, _ => none
def fMake (P : Program) (t : TypeId) (len cap : Value) (H : Hp) : Res := match descF P t, len, cap with
  | some (.slice e), .int .i64 (.ofNat l), .int .i64 (.ofNat c) => (match zeroF P e, sizeF P e, bytesF P e with
    | some z, some (m + 1), some b => (match okSz (c * (m + 1)) && Nat.ble l c && Nat.beq z.cells.toList.length (m + 1) && Nat.blt b 1048576 with
      | true => some (.value (.slice (some ⟨H.n, 0, none⟩) l c), H.push (.cells ⟨repL z.cells.toList c⟩ e, false))
      | false => none)
    | _, _, _ => none)
  | _, _, _ => none
def bytesO : List Value → Option (List UInt8)
  | [] => some []
  | .int .u8 n :: r => (match bytesO r with | some l => some (UInt8.ofNat n.toNat :: l) | none => none)
  | _ :: _ => none
def strO : Option (List UInt8) → Option Value
  | some l => some (.string ⟨⟨l⟩⟩)
  | none => none
def bytesL : Option (List Value) → Option Value
  | some l => strO (bytesO l)
  | none => none
def convB (H : Hp) (e : TypeId) (s : ByteArray) : Res := match okSz s.data.toList.length with
  | true => some (.value (.slice (some ⟨H.n, 0, none⟩) s.data.toList.length big), H.push (.cells ⟨s.data.toList.map fun b => .int .u8 b.toNat⟩ e, true))
  | false => none
def isU8 : Option TypeDesc → Bool
  | some (.int .u8) => true
  | _ => false
def fConv (P : Program) (src dst : TypeId) (x : Value) (H : Hp) : Res := match descF P src, descF P dst, x with
  | some (.slice e), some .string, .slice (some ⟨b, off, none⟩) len c => (match isU8 (descF P e), Nat.beq c junk with | true, false => fVal (bytesL (loadN len off (cellsAt H b))) H | _, _ => none)
  | some .string, some (.slice e), .string s => (match isU8 (descF P e), isSz (sizeF P e) 1 with | true, true => convB H e s | _, _ => none)
  | _, _, x => (match clo1 x with | true => fPure (runP P (convert src dst x)) H | false => none)
def mapAt (H : Hp) (r : Nat) : Option (Array MapEntry × Nat) := match H.get r with
  | some (.map es c, _) => some (es, c)
  | _ => none
def cloR : Value → Bool
  | .tuple vs => cloAll vs.toList
  | v => clo1 v
def cloO : Option Value → Option Value
  | some v => (match cloR v with | true => some v | false => none)
  | none => none
/-! what is done with a map's entries; keys are looked for as the model does it -/
def keyFits (P : Program) (none? : Bool) (t : TypeId) (k : Value) : Bool := match runP P (Instr.checkKey none? 10000 t k) with | some _ => true | none => false
def keyAt (es : Array MapEntry) (i : Nat) (k : Value) : Value := ((es[i]?).map (·.key)).getD k
def bornAt (es : Array MapEntry) (i : Nat) : Int := ((es[i]?).map (fun e => (e.born : Int))).getD 0
def whereIs (P : Program) (none? : Bool) (t : TypeId) (k : Value) (es : Array MapEntry) : Option (Option (Nat × Value)) := match keyFits P none? t k with
  | true => runP P (Instr.findKey t k es.toList)
  | false => none
def answer (ok : Bool) (v : Value) (b : Bool) : Value := match ok with | true => .tuple #[v, .bool b] | false => v
def lookM (P : Program) (t e : TypeId) (es : Array MapEntry) (k : Value) (ok : Bool) : Option Value := match whereIs P es.isEmpty t k es with
  | some (some p) => some (answer ok p.2 true)
  | some none => (match runP P (zeroValue e) with | some z => some (answer ok z false) | none => none)
  | none => none
def updM (P : Program) (t : TypeId) (es : Array MapEntry) (c : Nat) (k x : Value) : Option (Array MapEntry × Nat) := match whereIs P false t k es with
  | some (some p) => (match runP P (Instr.keyThatStays (keyAt es p.1 k) k) with | some k' => some (es.modify p.1 (fun e => ⟨k', x, e.born⟩), c) | none => none)
  | some none => some (es.push ⟨k, x, c⟩, c + 1)
  | none => none
def entM (P : Program) (t e : TypeId) (es : Array MapEntry) (c : Nat) (k : Value) : Option (Value × (Array MapEntry × Nat)) := match whereIs P false t k es with
  | some (some p) => (match runP P (Instr.keyThatStays (keyAt es p.1 k) k) with | some k' => some (.tuple #[p.2, goInt (bornAt es p.1)], (es.modify p.1 (fun e => ⟨k', e.val, e.born⟩), c)) | none => none)
  | some none => (match runP P (zeroValue e) with | some z => some (.tuple #[z, goInt c], (es.push ⟨k, z, c⟩, c + 1)) | none => none)
  | none => none
def stoM (P : Program) (es : Array MapEntry) (c : Nat) (k x : Value) : Option (Array MapEntry × Nat) := match runP P (asInt k) with
  | some b => (match es.findIdx? (fun e => (e.born : Int) == b) with | some i => some (es.modify i (fun e => ⟨e.key, x, e.born⟩), c) | none => none)
  | none => none
def delM (P : Program) (t : TypeId) (es : Array MapEntry) (c : Nat) (k : Value) : Option (Array MapEntry × Nat) := match whereIs P es.isEmpty t k es with
  | some (some p) => some (es.eraseIdxIfInBounds p.1, c)
  | some none => some (es, c)
  | none => none
def mapT : Option TypeDesc → Option (TypeId × TypeId)
  | some (.map k e) => some (k, e)
  | _ => none
def setM (H : Hp) (r : Nat) (n : Next) (m : Option (Array MapEntry × Nat)) : Res := match m with
  | some (es, c) => some (n, H.set r (.map es c, false))
  | none => none
def setE (H : Hp) (r : Nat) (m : Option (Value × (Array MapEntry × Nat))) : Res := match m with
  | some (v, (es, c)) => (match cloR v with | true => some (.value v, H.set r (.map es c, false)) | false => none)
  | none => none
def lookE (P : Program) (t : Option (TypeId × TypeId)) (e : Option (Array MapEntry × Nat)) (k : Value) (ok : Bool) : Option Value := match t, e with
  | some (key, elem), some (es, _) => cloO (lookM P key elem es k ok)
  | _, _ => none
def fLook (P : Program) (H : Hp) (t : TypeId) (m k : Value) (ok : Bool) : Option Value := match m, clo1 k with
  | .map (some r), true => lookE P (mapT (descF P t)) (mapAt H r) k ok
  | _, _ => none
def updE (P : Program) (H : Hp) (r : Nat) (t : Option (TypeId × TypeId)) (e : Option (Array MapEntry × Nat)) (k x : Value) : Res := match t, e with
  | some (key, _), some (es, c) => setM H r .skip (updM P key es c k x)
  | _, _ => none
def fUpd (P : Program) (H : Hp) (t : TypeId) (m k x : Value) : Res := match m, clo1 k, clo1 x with
  | .map (some r), true, true => updE P H r (mapT (descF P t)) (mapAt H r) k x
  | _, _, _ => none
def entE (P : Program) (H : Hp) (r : Nat) (t : Option (TypeId × TypeId)) (e : Option (Array MapEntry × Nat)) (k : Value) : Res := match t, e with
  | some (key, elem), some (es, c) => setE H r (entM P key elem es c k)
  | _, _ => none
def fEnt (P : Program) (H : Hp) (t : TypeId) (m k : Value) : Res := match m, clo1 k with
  | .map (some r), true => entE P H r (mapT (descF P t)) (mapAt H r) k
  | _, _ => none
def stoE (P : Program) (H : Hp) (r : Nat) (e : Option (Array MapEntry × Nat)) (k x : Value) : Res := match e with
  | some (es, c) => setM H r .skip (stoM P es c k x)
  | none => none
def fSto (P : Program) (H : Hp) (m k x : Value) : Res := match m, clo1 k, clo1 x with
  | .map (some r), true, true => stoE P H r (mapAt H r) k x
  | _, _, _ => none
def delE (P : Program) (H : Hp) (r : Nat) (t : Option (TypeId × TypeId)) (e : Option (Array MapEntry × Nat)) (k : Value) : Res := match t, e with
  | some (key, _), some (es, c) => setM H r (.value (.tuple #[])) (delM P key es c k)
  | _, _ => none
def hasBody (P : Program) (f : FuncId) : Bool := match nthL P.funcs.toList f with
  | some g => (match g.body with | some _ => !(g.name == "runtime.NumGoroutine") | none => false)
  | none => false
def fEnter (P : Program) (f : FuncId) (args : Option (List Value)) (H : Hp) : Res := match hasBody P f, args with | true, some l => some (.enter f ⟨l⟩, H) | _, _ => none
def yieldR (lp : Loop) (l : Nat) (args : List Value) (H : Hp) : Res := match Nat.beq args.length lp.params.toList.length with
  | true => some (.round l lp.fn ⟨(lp.params.toList.zip args).foldl (fun tm p => setL tm p.1 p.2) lp.tmps.toList⟩ lp.assign lp.body, H)
  | false => none
def fYield (l : Nat) (args : Option (List Value)) (H : Hp) : Res := match args, H.get l with
  | some args, some (.loop lp, _) => yieldR lp l args H
  | _, _ => none
def fCallV (P : Program) (f : Option Value) (args : Option (List Value)) (H : Hp) : Res := match f, args with
  | some (.func (.func g) first cap), some l => fEnter P g (some (first.toList ++ l ++ cap.toList)) H
  | some (.func (.yield k) ⟨[]⟩ ⟨[]⟩), some l => fYield k (some l) H
  | _, _ => none
def fLen1 (P : Program) (ts : List TypeId) (xs : Option (List Value)) (H : Hp) : Res := match ts, xs with
  | t :: _, some (x :: _) => fVal (fLen (descF P t) x) H
  | _, _ => none
def on2 (f : List Value → Hp → Res) (xs : Option (List Value)) (H : Hp) : Res := match xs with
  | some xs => f xs H
  | none => none
def fDelete (P : Program) (ts : List TypeId) (xs : List Value) (H : Hp) : Res := match ts, xs with
  | t :: _, .map (some r) :: k :: _ => (match clo1 k with | true => delE P H r (mapT (descF P t)) (mapAt H r) k | false => none)
  | _, _ => none
def fBuiltin (P : Program) (b : Builtin) (ts : Array TypeId) (ty : TypeId) (xs : Option (List Value)) (H : Hp) : Res := match b with
  | .len => fLen1 P ts.toList xs H
  | .append => on2 (fAppend P ts.toList) xs H
  | .copy => on2 (fCopy P ts.toList) xs H
  | .clear => on2 (fClear P ts.toList) xs H
  | .delete => on2 (fDelete P ts.toList) xs H
  | .unsafeSliceData => (match xs with | some xs => (match cloAll xs with | true => fPure (runP P (Builtin.unsafeSliceData_ ts ty ⟨xs⟩)) H | false => none) | none => none)
  | .unsafeString => (match xs with | some xs => (match cloAll xs with | true => fPure (runP P (Builtin.unsafeString_ ts ty ⟨xs⟩)) H | false => none) | none => none)
  | .min => (match xs with | some xs => (match cloAll xs with | true => fPure (runP P (Builtin.min_ ts ty ⟨xs⟩)) H | false => none) | none => none)
  | .max => (match xs with | some xs => (match cloAll xs with | true => fPure (runP P (Builtin.max_ ts ty ⟨xs⟩)) H | false => none) | none => none)
  | _ => none
/-- a call of a function without a body: what the model's own entry says, where it asks nothing of the heap -/
def fExt (P : Program) (g : Option Func) (args : Option (List Value)) (H : Hp) : Res := match g, args with
  | some g, some l => (match cloAll l with
    | true => (match g.name == "runtime.NumGoroutine", g.body.isNone, Extern.findNext g, Extern.find g with
      | false, true, none, some e => fPure (runP P (e ⟨l⟩)) H
      | _, _, _, _ => none)
    | false => none)
  | _, _ => none
def fCallF (P : Program) (f : FuncId) (args : Option (List Value)) (H : Hp) : Res := match hasBody P f with
  | true => fEnter P f args H
  | false => fExt P (nthL P.funcs.toList f) args H
def fCall (P : Program) (tm : Tm) (c : Call) (ty : TypeId) (H : Hp) : Res := match c.callee with
  | .value (.func f) => fCallF P f (opsA tm c.args.toList) H
  | .value x => fCallV P (opA tm x) (opsA tm c.args.toList) H
  | .builtin b => fBuiltin P b c.argTypes ty (opsA tm c.args.toList) H
  | _ => none
def fFunc (fn : Fn) (a b : Option (List Value)) (H : Hp) : Res := match fn, a, b with
  | .func f, some a, some b => some (.value (.func (.func f) ⟨a⟩ ⟨b⟩), H)
  | _, _, _ => none
def fMakeMap (r : Option Operand) (H : Hp) : Res := match r with
  | none => some (.value (.map (some H.n)), H.push (.map #[] 0, false))
  | some _ => none
/-! a text or a map gone through -/
def decA (s : ByteArray) (b : Option UInt8) (pos : Nat) : Nat × Nat := match b with
  | some b => (match Nat.blt b.toNat 128 with | true => (b.toNat, 1) | false => Utf8.decode s pos)
  | none => Utf8.decode s pos
def fIter (H : Hp) (o : Obj) : Res := some (.value (.pointer (some ⟨H.n, 0, none⟩)), H.push (o, false))
def fIterM (H : Hp) (m : Nat) (e : Option (Array MapEntry × Nat)) : Res := match e with
  | some (_, c) => fIter H (.mapIter (some m) c #[] c)
  | none => none
def fRange (d : Option TypeDesc) (x : Value) (H : Hp) : Res := match d, x with
  | some .string, .string s => fIter H (.stringIter s 0)
  | some (.map _ _), .map none => fIter H (.mapIter none 0 #[] 0)
  | some (.map _ _), .map (some m) => fIterM H m (mapAt H m)
  | _, _ => none
def nextS2 (H : Hp) (r : Nat) (s : ByteArray) (pos : Nat) (u : Bool) (d : Nat × Nat) : Res :=
  some (.value (.tuple #[.bool true, goInt pos, .int .i32 d.1]), H.set r (.stringIter s (pos + d.2), u))
def nextS (H : Hp) (r : Nat) (s : ByteArray) (pos : Nat) (u : Bool) : Res := match Nat.blt pos s.data.toList.length with
  | true => nextS2 H r s pos u (decA s (nthL s.data.toList pos) pos)
  | false => some (.value (.tuple #[.bool false]), H)
def isIn (l : List Nat) (n : Nat) : Bool := match l with
  | [] => false
  | a :: r => (match Nat.beq a n with | true => true | false => isIn r n)
def oldM (since : Nat) (seen : List Nat) : List MapEntry → List MapEntry
  | [] => []
  | e :: r => (match isIn seen e.born with
    | true => oldM since seen r
    | false => (match Nat.blt e.born since with | true => e :: oldM since seen r | false => oldM since seen r))
def newM (since : Nat) (seen : List Nat) : List MapEntry → List MapEntry
  | [] => []
  | e :: r => (match isIn seen e.born with
    | true => newM since seen r
    | false => (match Nat.blt e.born since with | true => newM since seen r | false => e :: newM since seen r))
def allNew (last : Nat) : List MapEntry → Bool
  | [] => true
  | e :: r => (match Nat.ble last e.born with | true => allNew last r | false => false)
def isNil {α : Type} (l : List α) : Bool := match l with | [] => true | _ :: _ => false
def nextE (H : Hp) (r m since : Nat) (seen : Array Nat) (c : Nat) (u : Bool) (e : MapEntry) (v : Value) : Res := match cloR v with
  | true => some (.value v, H.set r (.mapIter (some m) since (seen.push e.born) c, u))
  | false => none
def nextM2 (H : Hp) (r m since : Nat) (seen : Array Nat) (c : Nat) (u : Bool) (o n : List MapEntry) : Res := match o, n with
  | [], [] => some (.value (.tuple #[.bool false]), H)
  | [e], [] => nextE H r m since seen c u e (.tuple #[.bool true, e.key, e.val])
  | _, _ => none
def nextM (H : Hp) (r m since : Nat) (seen : Array Nat) (last : Nat) (u : Bool) (e : Option (Array MapEntry × Nat)) : Res := match e with
  | some (es, c) => (match !isNil seen.toList && !isNil es.toList && allNew last es.toList with
    | true => none
    | false => nextM2 H r m since seen c u (oldM since seen.toList es.toList) (newM since seen.toList es.toList))
  | none => none
def fNextO (H : Hp) (r : Nat) (isS : Bool) (o : Option (Obj × Bool)) : Res := match o, isS with
  | some (.stringIter s pos, u), true => nextS H r s pos u
  | some (.mapIter none _ _ _, _), false => some (.value (.tuple #[.bool false]), H)
  | some (.mapIter (some m) since seen last, u), false => nextM H r m since seen last u (mapAt H m)
  | _, _ => none
def fNext (x : Value) (isS : Bool) (H : Hp) : Res := match x with
  | .pointer (some ⟨r, 0, none⟩) => fNextO H r isS (H.get r)
  | _ => none
def u1 (f : Value → Res) (x : Option Value) : Res := match x with | some x => f x | none => none
def u2 (f : Value → Value → Res) (x y : Option Value) : Res := match x with | some x => (match y with | some y => f x y | none => none) | none => none
def u3 (f : Value → Value → Value → Res) (x y z : Option Value) : Res := match x with | some x => (match y with | some y => (match z with | some z => f x y z | none => none) | none => none) | none => none
def slArgs (P : Program) (H : Hp) (t : TypeId) (x : Value) (lo hi mx : Option (Option Value)) : Res := match lo, hi, mx with
  | some lo, some hi, some mx => fVal (fSlice P H t x lo hi mx) H
  | _, _, _ => none
def binO (P : Program) (op : BinOp) (t : TypeId) (x y : Value) (H : Hp) (r : Option Value) : Res := match r with
  | some v => some (.value v, H)
  | none => (match clo x, clo y with
    | true, true => (match op, x with
      | .eql, .nilIface => none
      | .neq, .nilIface => none
      | _, _ => fPure (runP P (binOp op t x y)) H)
    | _, _ => none)
def execF (P : Program) (tm : Tm) (ty : TypeId) (o : Op) (H : Hp) : Res :=
  match o with
  | .move x => fVal (opA tm x) H
  | .assign x => fVal (opA tm x) H
  | .binOp op t x y _ => u2 (fun x y => binO P op t x y H (binF P H op t x y)) (opA tm x) (opA tm y)
  | .load t x => u1 (fun x => fVal (loadF P t x H) H) (opA tm x)
  | .store t x y => u2 (fun x y => fHp (storeF P t x y H)) (opA tm x) (opA tm y)
  | .pick c a b => u3 (fun c a b => fPick c a b H) (opA tm c) (opA tm a) (opA tm b)
  | .nilCheck x => u1 (fun x => fNil x H) (opA tm x)
  | .extract x i => u1 (fun x => fExtract x i H) (opA tm x)
  | .fieldAddr s x f => u1 (fun x => fField P x (descF P s) f H) (opA tm x)
  | .field s x f => u1 (fun x => fVal (fFieldV P x (descF P s) f) H) (opA tm x)
  | .indexAddr t x i => u2 (fun x i => fIdx P (descF P t) x i H) (opA tm x) (opA tm i)
  | .index t x i => u2 (fun x i => fVal (fIndex P (descF P t) x i) H) (opA tm x) (opA tm i)
  | .call c => fCall P tm c ty H
  | .slice t x lo hi mx => u1 (fun x => slArgs P H t x (optA tm lo) (optA tm hi) (optA tm mx)) (opA tm x)
  | .alloc t => fAlloc P t H
  | .box t x => u1 (fun x => fBox H t x) (opA tm x)
  | .build t ps => fVal (fBuild P t (partsA tm ps.toList)) H
  | .buildSlice t n ps => fBuildSlice P t n (partsA tm ps.toList) H
  | .makeSlice t l c => u2 (fun l c => fMake P t l c H) (opA tm l) (opA tm c)
  | .convert a b x => u1 (fun x => fConv P a b x H) (opA tm x)
  | .unOp op _ x => u1 (fun x => (match clo x with | true => fPure (runP P (Op.unary op x)) H | false => none)) (opA tm x)
  | .makeFunc fn a b => fFunc fn (opsA tm a.toList) (opsA tm b.toList) H
  | .makeMap _ r => fMakeMap r H
  | .lookup t m k ok => u2 (fun m k => fVal (fLook P H t m k ok) H) (opA tm m) (opA tm k)
  | .mapUpdate t m k x => u3 (fun m k x => fUpd P H t m k x) (opA tm m) (opA tm k) (opA tm x)
  | .mapEntry t m k => u2 (fun m k => fEnt P H t m k) (opA tm m) (opA tm k)
  | .entryStore _ m s x => u3 (fun m s x => fSto P H m s x) (opA tm m) (opA tm s) (opA tm x)
  | .range t x => u1 (fun x => fRange (descF P t) x H) (opA tm x)
  | .next x b => u1 (fun x => fNext x b H) (opA tm x)
  | _ => none

/-! regions -/
/-- 0: says its value whatever the heap is; 1: looks at the heap; 2: makes a block; 3: does something -/
def kind (P : Program) : Op → Nat
  | .alloc _ | .box .. | .buildSlice .. => 2
  | .load .. | .binOp .. | .slice .. | .lookup .. => 1
  | .convert _ b _ => (match descF P b with | some (.slice _) => 3 | _ => 1)
  | .assign _ | .makeSlice .. | .makeMap .. | .store .. | .mapUpdate .. | .mapEntry .. | .entryStore .. | .range .. | .next .. => 3
  | .call c => (match c.callee with | .builtin .len | .builtin .min | .builtin .max | .builtin .unsafeSliceData => 1 | _ => 3)
  | _ => 1
def putA (tm : Tm) (d : Option Tmp) (v : Value) : Tm := match d with | some d => (d, v) :: tm | none => tm
def isB (v : Value) (want : Bool) : Bool := match v with
  | .bool true => want
  | .bool false => !want
  | _ => false
def dstOf (o : Option Oper) : Option Tmp := match o with | some o => o.dst | none => none
def wantD (d : Option Tmp) (want : Bool) (tm : Tm) : Bool := match d with | some d => isB (look tm d) want | none => false
def wantedA (ops : List Oper) (g : Option (Nat × Bool)) (tm : Tm) : Bool := match g with
  | none => true
  | some (j, want) => wantD (dstOf (nthL ops j)) want tm
/-- what an operation leans on, as bits -/
def edgeBits (acc : List Nat) : List Edge → Nat
  | [] => 0
  | e :: r => (match Region.binds .any e with
    | true => Nat.lor (Nat.lor (Nat.shiftLeft 1 e.on) ((nthL acc e.on).getD 0)) (edgeBits acc r)
    | false => edgeBits acc r)
def beforeL : List Oper → List Nat → List Nat
  | [], acc => acc
  | o :: r, acc => beforeL r (acc ++ [edgeBits acc o.after.toList])
/-- each edge leads back -/
def backE (i : Nat) : List Edge → Bool
  | [] => true
  | e :: r => (match Region.binds .any e with
    | true => (match Nat.blt e.on i with | true => backE i r | false => false)
    | false => backE i r)
/-- is a temporary written by nobody, or by one that was before, or by one that does something, behind this one? -/
def readsOK (P : Program) (t : Tmp) (b i : Nat) : List Oper → List Nat → Nat → Bool
  | o :: r, c :: bs, j => (match o.dst with
    | some d => (match Nat.beq d t && !Nat.testBit b j && !(Nat.beq (kind P o.op) 3 && (Nat.testBit c i || Nat.beq i j)) with | true => false | false => readsOK P t b i r bs (j + 1))
    | none => readsOK P t b i r bs (j + 1))
  | _, _, _ => true
def tmpsOK (P : Program) (ops : List Oper) (bs : List Nat) (b i : Nat) : List Operand → Bool
  | [] => true
  | .tmp t :: r => (match readsOK P t b i ops bs 0 with | true => tmpsOK P ops bs b i r | false => false)
  | _ :: r => tmpsOK P ops bs b i r
def guardOK (P : Program) (ops : List Oper) (bs : List Nat) (b i : Nat) : Option (Nat × Bool) → Bool
  | none => true
  | some (j, _) => (match dstOf (nthL ops j) with | some d => readsOK P d b i ops bs 0 | none => true)
def noneW (t : Tmp) : List Oper → Bool
  | [] => true
  | o :: r => (match o.dst with | some d => (match Nat.beq d t with | true => false | false => noneW t r) | none => noneW t r)
/-- a temporary is written by one alone -/
def onceOK : List Oper → Bool
  | [] => true
  | o :: r => (match o.dst with
    | some d => (match noneW d r with | true => onceOK r | false => false)
    | none => onceOK r)
def tidyO (P : Program) (ops : List Oper) (bs : List Nat) (o : Oper) (b i n : Nat) : Bool :=
  Nat.beq b (edgeBits bs o.after.toList) && backE i o.after.toList && tmpsOK P ops bs b i o.op.operands.toList && guardOK P ops bs b i o.guard && (match o.dst with | some d => Nat.blt d n | none => true)
def tidyL (P : Program) (ops : List Oper) (bs : List Nat) (n : Nat) : List Oper → List Nat → Nat → Bool
  | [], [], _ => true
  | o :: r, b :: bs', i => (match tidyO P ops bs o b i n with | true => tidyL P ops bs n r bs' (i + 1) | false => false)
  | _, _, _ => false
/-- those that do something -/
def effL (P : Program) : List Oper → Nat → List Nat
  | [], _ => []
  | o :: r, i => (match Nat.beq (kind P o.op) 3 with | true => i :: effL P r (i + 1) | false => effL P r (i + 1))
/-- they lean on one another, one by one -/
def chainOK (bs : List Nat) : List Nat → Bool
  | [] => true
  | [_] => true
  | e :: f :: r => (match Nat.testBit ((nthL bs f).getD 0) e with | true => chainOK bs (f :: r) | false => false)
def bitsOf : List Nat → Nat
  | [] => 0
  | i :: r => Nat.lor (Nat.shiftLeft 1 i) (bitsOf r)
/-- those that may come now (none of the bits is in the way) and, with a bit named, not before -/
def nowL (P : Program) (left : Nat) (must : Option Nat) : List Oper → List Nat → Nat → List Nat
  | o :: r, b :: bs, i => (match Nat.beq (kind P o.op) 3 || !(Nat.beq (Nat.land b left) 0) || (match must with | some e => !Nat.testBit b e | none => false) with
    | true => nowL P left must r bs (i + 1)
    | false => i :: nowL P left must r bs (i + 1))
  | _, _, _ => []
def sameO : Option Nat → Option Nat → Bool
  | none, none => true
  | some a, some b => Nat.beq a b
  | _, _ => false
def sameA : Option Addr → Option Addr → Bool
  | none, none => true
  | some ⟨a, b, c⟩, some ⟨x, y, z⟩ => Nat.beq a x && Nat.beq b y && sameO c z
  | _, _ => false
def sameV : Value → Value → Bool
  | .bool a, .bool b => a == b
  | .int k a, .int j b => decide (k = j) && decide (a = b)
  | .string a, .string b => eqB a.data.toList b.data.toList
  | .pointer a, .pointer b => sameA a b
  | .slice a l c, .slice b m d => sameA a b && Nat.beq l m && Nat.beq c d
  | .map a, .map b => sameO a b
  | .nilFunc, .nilFunc => true
  | .nilIface, .nilIface => true
  | .chan (some a), .chan (some b) => Nat.beq a b
  | .func (.func f) ⟨[]⟩ ⟨[]⟩, .func (.func g) ⟨[]⟩ ⟨[]⟩ => Nat.beq f g
  | _, _ => false
def sameL : List Value → List Value → Bool
  | [], [] => true
  | a :: x, b :: y => (match sameV a b with | true => sameL x y | false => false)
  | _, _ => false
def same1 : Value → Value → Bool
  | .agg a, .agg b => sameL a.toList b.toList
  | .tuple a, .tuple b => sameL a.toList b.toList
  | a, b => sameV a b
/-- it says the same again -/
def lookD (d : Option Tmp) (tm : Tm) (r : Res) : Bool := match r with
  | some (.value v, _) => (match d with | some d => same1 v (look tm d) | none => true)
  | _ => false
/-- the block that it makes, and its value, by the block's number -/
def newOf (P : Program) (tm : Tm) (ty : TypeId) (o : Op) (i : Nat) : Option (Value × Obj) := match execF P tm ty o ⟨i, []⟩ with
  | some (.value v, ⟨_, (ob, false) :: _⟩) => some (v, ob)
  | _ => none
def cellsSame (a b : Obj) : Bool := match a, b with
  | .cells ⟨x⟩ e (0, 0), .cells ⟨y⟩ f (0, 0) => Nat.beq e f && sameL x y
  | _, _ => false
def newSame (v' : Value) (ob' : Option (Obj × Bool)) (r : Option (Value × Obj)) : Bool := match r, ob' with
  | some (v, ob), some (ob', false) => same1 v v' && cellsSame ob ob'
  | _, _ => false
def blockOf : Value → Option Nat
  | .pointer (some a) => some a.block
  | .slice (some a) _ _ => some a.block
  | _ => none
def hasP : List (Nat × Nat) → Nat → Nat → Bool
  | [], _, _ => false
  | (a, b) :: r, j, i => (match Nat.beq a j && Nat.beq b i with | true => true | false => hasP r j i)
def newAt (P : Program) (pend : List (Nat × Nat)) (j : Nat) (tm : Tm) (ty : TypeId) (o : Op) (H : Hp) (v : Value) (b : Option Nat) : Bool := match b with
  | some i => newSame v (H.get i) (newOf P tm ty o i) && hasP pend j i
  | none => false
def againO (P : Program) (ops : List Oper) (pend : List (Nat × Nat)) (j : Nat) (o : Oper) (tm : Tm) (H : Hp) : Bool := match wantedA ops o.guard tm with
  | true => (match Nat.beq (kind P o.op) 2 with
    | true => (match o.dst with | some d => newAt P pend j tm o.type o.op H (look tm d) (blockOf (look tm d)) | none => false)
    | false => lookD o.dst tm (execF P tm o.type o.op H))
  | false => (match o.dst with | some d => same1 (look tm d) undef | none => true)
/-- all that may come at this time say what they said -/
def againL (P : Program) (ops : List Oper) (pend : List (Nat × Nat)) (left past : Nat) (tm : Tm) (H : Hp) : List Oper → List Nat → Nat → Bool
  | o :: r, b :: bs, i => (match Nat.beq (kind P o.op) 3 || !(Nat.beq (Nat.land b left) 0) || Nat.testBit past i with
    | true => againL P ops pend left past tm H r bs (i + 1)
    | false => (match againO P ops pend i o tm H with | true => againL P ops pend left past tm H r bs (i + 1) | false => false))
  | _, _, _ => true
/-- one that does nothing -/
def quietR (tm : Tm) (d : Option Tmp) (r : Res) : Option (Tm × Hp) := match r with
  | some (.value v, H) => some (putA tm d v, H)
  | _ => none
def quietO (P : Program) (ops : List Oper) (o : Option Oper) (tm : Tm) (H : Hp) : Option (Tm × Hp) := match o with
  | some o => (match wantedA ops o.guard tm with
    | true => quietR tm o.dst (execF P tm o.type o.op H)
    | false => some (putA tm o.dst undef, H))
  | none => none
/-- the blocks that are made, by whom -/
def pendA (P : Program) (ops : List Oper) (o : Option Oper) (j : Nat) (tm : Tm) (H : Hp) (p : List (Nat × Nat)) : List (Nat × Nat) := match o with
  | some o => (match Nat.beq (kind P o.op) 2 && wantedA ops o.guard tm with | true => p ++ [(j, H.n)] | false => p)
  | none => p
def quietL (P : Program) (ops : List Oper) : List Nat → Tm → Hp → List (Nat × Nat) → Option (Tm × Hp × List (Nat × Nat))
  | [], tm, H, p => some (tm, H, p)
  | j :: r, tm, H, p => (match quietO P ops (nthL ops j) tm H with | some (tm', H') => quietL P ops r tm' H' (pendA P ops (nthL ops j) j tm H p) | none => none)

/-! frames -/
abbrev Rec := FuncId → Option Nat → Nat → Tm → List Item → List Deferred → Hp → Option (Value × Hp)
def retV (P : Program) (tm : Tm) (H : Hp) : ResultVar → Option Value
  | .tmp t => some (look tm t)
  | .cell a t => loadF P t (look tm a) H
def retL (P : Program) (tm : Tm) (H : Hp) : List ResultVar → Option (List Value)
  | [] => some []
  | x :: r => match retV P tm H x with
    | some v => (match retL P tm H r with | some l => some (v :: l) | none => none)
    | none => none
def retO (l : Option (List Value)) (H : Hp) : Option (Value × Hp) := match l with
  | some [v] => some (v, H)
  | some l => some (.tuple ⟨l⟩, H)
  | none => none
def leaveL (P : Program) (g : Option Func) (tm : Tm) (H : Hp) : Option (Value × Hp) := match g with
  | some f => retO (retL P tm H f.results.toList) H
  | none => none
def takeO (r : Nat) (H : Hp) (o : Option (Obj × Bool)) : Option Hp := match o with
  | some (.deferred (some []), u) => some (H.set r (.deferred none, u))
  | _ => none
def takeAll : List Deferred → Hp → Option Hp
  | [], H => some H
  | { target := .collected r, .. } :: ds, H => (match takeO r H (H.get r) with | some H' => takeAll ds H' | none => none)
  | _, _ => none
def leaveH (P : Program) (g : Option Func) (tm : Tm) (h : Option Hp) : Option (Value × Hp) := match h with
  | some H => leaveL P g tm H
  | none => none
def endRd (l : Nat) (jump : Option Code) (H : Hp) (o : Option (Obj × Bool)) : Option (Value × Hp) := match o with
  | some (.loop lp, u) => some (.bool jump.isNone, H.set l (.loop { lp with state := if jump.isNone then .ready else .done, pending := jump }, u))
  | _ => none
def leave (P : Program) (fn : FuncId) (rnd : Option Nat) (tm : Tm) (ds : List Deferred) (H : Hp) (jump : Option Code) : Option (Value × Hp) := match rnd with
  | some l => endRd l jump H (H.get l)
  | none => leaveH P (nthL P.funcs.toList fn) tm (takeAll ds H)
def condTo (v : Option Value) (a b : Code) (k : List Item) : Option (List Item) := match v with
  | some (.bool true) => some (.code a :: k)
  | some (.bool false) => some (.code b :: k)
  | _ => none
def goTo (rec : Rec) (fn : FuncId) (rnd : Option Nat) (n : Nat) (tm : Tm) (ds : List Deferred) (H : Hp) (k : Option (List Item)) : Option (Value × Hp) := match k with
  | some k => rec fn rnd n tm k ds H
  | none => none
def jumpTo (P : Program) (rec : Rec) (fn : FuncId) (rnd : Option Nat) (n : Nat) (tm : Tm) (ds : List Deferred) (H : Hp) (c : Code) (k : Option (List Item)) : Option (Value × Hp) := match k with
  | some k => rec fn rnd n tm k ds H
  | none => (match rnd with | some _ => leave P fn rnd tm ds H (some c) | none => none)
def cont (rec : Rec) (fn : FuncId) (rnd : Option Nat) (n : Nat) (tm : Tm) (d : Option Tmp) (ops : Array Oper) (rest : List Nat) (k : List Item) (ds : List Deferred) (r : Option (Value × Hp)) : Option (Value × Hp) := match r with
  | some (v, H) => rec fn rnd n (putA tm d v) (.inRegion ops rest :: k) ds H
  | none => none
def enterB (rec : Rec) (f : FuncId) (m : Nat) (c : Option Code) (args : Array Value) (H : Hp) : Option (Value × Hp) := match c with
  | some c => (match Nat.ble args.toList.length m with | true => rec f none m (ofArgs args.toList 0) [.code c] [] H | false => none)
  | none => none
def enterN (rec : Rec) (f : FuncId) (g : Option Func) (args : Array Value) (H : Hp) : Option (Value × Hp) := match g with
  | some g => enterB rec f g.ntmps g.body args H
  | none => none
/-- what is known of calls already -/
abbrev Orc := FuncId → List Value → Hp → Option (Value × Hp)
def enterG (orc : Orc) (rec : Rec) (f : FuncId) (g : Option Func) (args : Array Value) (H : Hp) : Option (Value × Hp) := match orc f args.toList H with
  | some r => some r
  | none => enterN rec f g args H
def sub (P : Program) (orc : Orc) (rec : Rec) (x : Res) : Option (Value × Hp) := match x with
  | some (.value v, H) => some (v, H)
  | some (.skip, H) => some (undef, H)
  | some (.enter f args, H) => enterG orc rec f (nthL P.funcs.toList f) args H
  | some (.round l f tms assign body, H) => rec f (some l) tms.toList.length (ofArgs tms.toList 0) [.code assign, .beginRound, .code body] [] H
  | _ => none
def okD (d : Option Tmp) (n : Nat) : Bool := match d with | some d => Nat.blt d n | none => true
def operT (P : Program) (orc : Orc) (rec : Rec) (fn : FuncId) (rnd : Option Nat) (n : Nat) (tm : Tm) (ops : Array Oper) (o : Oper) (rest : List Nat) (k : List Item) (ds : List Deferred) (H : Hp) (w : Bool) : Option (Value × Hp) := match w with
  | true => cont rec fn rnd n tm o.dst ops rest k ds (sub P orc rec (execF P tm o.type o.op H))
  | false => rec fn rnd n (putA tm o.dst undef) (.inRegion ops rest :: k) ds H
def operO (P : Program) (orc : Orc) (rec : Rec) (fn : FuncId) (rnd : Option Nat) (n : Nat) (tm : Tm) (ops : Array Oper) (o : Option Oper) (rest : List Nat) (k : List Item) (ds : List Deferred) (H : Hp) : Option (Value × Hp) := match o with
  | some o => (match okD o.dst n with | true => operT P orc rec fn rnd n tm ops o rest k ds H (wantedA ops.toList o.guard tm) | false => none)
  | none => none
def effR (tm : Tm) (d : Option Tmp) (r : Option (Value × Hp)) : Option (Tm × Hp) := match r with
  | some (v, H) => some (putA tm d v, H)
  | none => none
def effO (P : Program) (orc : Orc) (rec : Rec) (ops : List Oper) (o : Option Oper) (tm : Tm) (H : Hp) : Option (Tm × Hp) := match o with
  | some o => (match wantedA ops o.guard tm with
    | true => effR tm o.dst (sub P orc rec (execF P tm o.type o.op H))
    | false => some (putA tm o.dst undef, H))
  | none => none
/-- the look, then the next one that does something, then all that come then -/
def gapS (P : Program) (ops : List Oper) (bs : List Nat) (left past : Nat) (r : Option (Tm × Hp × List (Nat × Nat))) : Option (Tm × Hp × List (Nat × Nat)) := match r with
  | some (tm, H, p) => (match againL P ops p left past tm H ops bs 0 with | true => some (tm, H, p) | false => none)
  | none => none
def stages (P : Program) (orc : Orc) (rec : Rec) (ops : List Oper) (bs : List Nat) : List Nat → Nat → Option (Tm × Hp × List (Nat × Nat)) → Option (Tm × Hp)
  | [], past, r => (match gapS P ops bs 0 past r with | some (tm, H, _) => some (tm, H) | none => none)
  | e :: es, past, r => (match gapS P ops bs (bitsOf (e :: es)) past r with
    | some (tm, H, p) => (match effO P orc rec ops (nthL ops e) tm H with
      | some (tm2, H2) => stages P orc rec ops bs es (Nat.lor past (Nat.lor (Nat.shiftLeft 1 e) ((nthL bs e).getD 0))) (quietL P ops (nowL P (bitsOf es) (some e) ops bs 0) tm2 H2 p)
      | none => none)
    | none => none)
def drawn2 (P : Program) (orc : Orc) (rec : Rec) (ops : List Oper) (bs es : List Nat) (n : Nat) (tm : Tm) (H : Hp) : Option (Tm × Hp) :=
  match tidyL P ops bs n ops bs 0 && onceOK ops && chainOK bs es with
  | true => stages P orc rec ops bs es 0 (quietL P ops (nowL P (bitsOf es) none ops bs 0) tm H [])
  | false => none
def drawn1 (P : Program) (orc : Orc) (rec : Rec) (ops : List Oper) (bs : List Nat) (n : Nat) (tm : Tm) (H : Hp) : Option (Tm × Hp) := drawn2 P orc rec ops bs (effL P ops 0) n tm H
def drawn (P : Program) (orc : Orc) (rec : Rec) (ops : List Oper) (n : Nat) (tm : Tm) (H : Hp) : Option (Tm × Hp) := drawn1 P orc rec ops (beforeL ops []) n tm H
def thenF (rec : Rec) (fn : FuncId) (rnd : Option Nat) (n : Nat) (k : List Item) (ds : List Deferred) (r : Option (Tm × Hp)) : Option (Value × Hp) := match r with
  | some (tm, H) => rec fn rnd n tm k ds H
  | none => none
def upL : Nat → Nat → List Nat
  | 0, _ => []
  | n + 1, i => i :: upL n (i + 1)
def regionB (P : Program) (orc : Orc) (rec : Rec) (fn : FuncId) (rnd : Option Nat) (n : Nat) (tm : Tm) (ops : Array Oper) (draw : Bool) (k : List Item) (ds : List Deferred) (H : Hp) : Option (Value × Hp) := match draw with
  | true => thenF rec fn rnd n k ds (drawn P orc rec ops.toList n tm H)
  | false => rec fn rnd n tm (.inRegion ops (upL ops.toList.length 0) :: k) ds H
def region (P : Program) (orc : Orc) (rec : Rec) (fn : FuncId) (rnd : Option Nat) (n : Nat) (tm : Tm) (ops : Array Oper) (l : List Nat) (k : List Item) (ds : List Deferred) (H : Hp) : Option (Value × Hp) := match l with
  | [] => rec fn rnd n tm k ds H
  | i :: rest => operO P orc rec fn rnd n tm ops (nthL ops.toList i) rest k ds H
def rangeC (rec : Rec) (fn : FuncId) (rnd : Option Nat) (n : Nat) (tm : Tm) (l : Nat) (k : List Item) (ds : List Deferred) (r : Option (Value × Hp)) : Option (Value × Hp) := match r with
  | some (_, H) => rec fn rnd n tm (.endRangeFunc l :: k) ds H
  | none => none
def rangeG (P : Program) (orc : Orc) (rec : Rec) (fn : FuncId) (rnd : Option Nat) (n : Nat) (tm : Tm) (f : Option Value) (l : Nat) (k : List Item) (ds : List Deferred) (H : Hp) : Option (Value × Hp) :=
  rangeC rec fn rnd n tm l k ds (match fCallV P f (some [.func (.yield l) #[] #[]]) H with
    | some (.enter g args, H) => enterG orc rec g (nthL P.funcs.toList g) args H
    | _ => none)
def rangeF (P : Program) (orc : Orc) (rec : Rec) (fn : FuncId) (rnd : Option Nat) (n : Nat) (tm : Tm) (f : Operand) (params : Array Tmp) (assign body : Code) (k : List Item) (ds : List Deferred) (H : Hp) : Option (Value × Hp) := match rnd with
  | none => rangeG P orc rec fn rnd n tm (opA tm f) (H.n + 1) k ({ target := .collected H.n, args := #[] } :: ds)
      ((H.push (.deferred (some []), false)).push (.loop { state := .ready, pending := none, fn, tmps := ⟨allOf tm n 0⟩, params, assign, body, defers := H.n }, false))
  | some l => (match H.get l with
    | some (.loop lp, _) => rangeG P orc rec fn rnd n tm (opA tm f) H.n k ds
        (H.push (.loop { state := .ready, pending := none, fn, tmps := ⟨allOf tm n 0⟩, params, assign, body, defers := lp.defers }, false))
    | _ => none)
def jumpL : Option Code → List Item → List Item
  | some c, k => .code c :: k
  | none, k => k
def endR (rec : Rec) (fn : FuncId) (rnd : Option Nat) (n : Nat) (tm : Tm) (l : Nat) (k : List Item) (ds : List Deferred) (H : Hp) (o : Option (Obj × Bool)) : Option (Value × Hp) := match o with
  | some (.loop lp, u) => (match lp.state with
    | .busy => none
    | _ => rec fn rnd n tm (jumpL lp.pending k) ds (H.set l (.loop { lp with state := .exhausted }, u)))
  | _ => none
def beginO (rec : Rec) (fn : FuncId) (rnd : Option Nat) (n : Nat) (tm : Tm) (l : Nat) (k : List Item) (ds : List Deferred) (H : Hp) (o : Option (Obj × Bool)) : Option (Value × Hp) := match o with
  | some (.loop lp, u) => (match lp.state with
    | .ready => rec fn rnd n tm k ds (H.set l (.loop { lp with state := .busy }, u))
    | _ => none)
  | _ => none
def beginR (rec : Rec) (fn : FuncId) (rnd : Option Nat) (n : Nat) (tm : Tm) (k : List Item) (ds : List Deferred) (H : Hp) : Option (Value × Hp) := match rnd with
  | some l => beginO rec fn rnd n tm l k ds H (H.get l)
  | none => none
def stepC (P : Program) (orc : Orc) (rec : Rec) (fn : FuncId) (rnd : Option Nat) (n : Nat) (tm : Tm) (c : Code) (k : List Item) (ds : List Deferred) (H : Hp) : Option (Value × Hp) :=
    match c with
    | .ret => leave P fn rnd tm ds H (some .ret)
    | .skip => rec fn rnd n tm k ds H
    | .label _ => rec fn rnd n tm k ds H
    | .seq a b => rec fn rnd n tm (.code a :: .code b :: k) ds H
    | .cond c a b => goTo rec fn rnd n tm ds H (condTo (opA tm c) a b k)
    | .block id b => rec fn rnd n tm (.code b :: .inBlock id :: k) ds H
    | .loop b => rec fn rnd n tm (.code b :: .inLoop b :: k) ds H
    | .scope b => rec fn rnd n tm (.code b :: .inScope b :: k) ds H
    | .exit id => jumpTo P rec fn rnd n tm ds H (.exit id) (exitTo id k)
    | .goto l => jumpTo P rec fn rnd n tm ds H (.goto l) (gotoIn l k)
    | .region _ ops draw => regionB P orc rec fn rnd n tm ops draw k ds H
    | .rangeFunc f params assign body => rangeF P orc rec fn rnd n tm f params assign body k ds H
    | .refuse _ => none
def stepI (P : Program) (orc : Orc) (rec : Rec) (fn : FuncId) (rnd : Option Nat) (n : Nat) (tm : Tm) (i : Item) (k : List Item) (ds : List Deferred) (H : Hp) : Option (Value × Hp) :=
    match i with
    | .code c => stepC P orc rec fn rnd n tm c k ds H
    | .inBlock _ => rec fn rnd n tm k ds H
    | .inScope _ => rec fn rnd n tm k ds H
    | .inLoop b => rec fn rnd n tm (.code b :: .inLoop b :: k) ds H
    | .inRegion ops l => region P orc rec fn rnd n tm ops l k ds H
    | .endRangeFunc l => endR rec fn rnd n tm l k ds H (H.get l)
    | .beginRound => beginR rec fn rnd n tm k ds H
    | _ => none
def stepF (P : Program) (orc : Orc) (rec : Rec) (fn : FuncId) (rnd : Option Nat) (n : Nat) (tm : Tm) (todo : List Item) (ds : List Deferred) (H : Hp) : Option (Value × Hp) :=
    match todo with
    | [] => leave P fn rnd tm ds H none
    | i :: k => stepI P orc rec fn rnd n tm i k ds H
/-- Run a frame till it returns. -/
def evalF (P : Program) (orc : Orc) : Nat → Rec
  | 0 => fun _ _ _ _ _ _ _ => none
  | F + 1 => stepF P orc (evalF P orc F)
def evalCall (P : Program) (orc : Orc) (F : Nat) (f : FuncId) (args : List Value) (H : Hp) : Option (Value × Hp) := enterN (evalF P orc F) f (nthL P.funcs.toList f) ⟨args⟩ H
end Go.Ev
