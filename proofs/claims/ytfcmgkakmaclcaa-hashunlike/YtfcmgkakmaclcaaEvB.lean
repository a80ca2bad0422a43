/- An evaluator for closed runs: what a heap of the evaluator says of a world. -/
import Derived.Test.YtfcmgkakmaclcaaEvA
import Derived.Below
set_option linter.unusedSectionVars false
namespace Go.Ev
/-- the unknowns -/
structure Env where
  val : Nat → Int
  /-- where the evaluator's block 0 lies in the world, if it is there from the beginning -/
  base : Option (Nat × Nat)
variable [Inhabited Env]

/-- the blocks' places: for each number the block in the world, and its room in elements -/
abbrev Sg := Nat → Option (Nat × Nat)
def Sg.le (s t : Sg) : Prop := ∀ i x, s i = some x → t i = some x
theorem Sg.le.refl (s : Sg) : s.le s := fun _ _ h => h
theorem Sg.le.trans {s t u : Sg} (h : s.le t) (k : t.le u) : s.le u := fun i x e => k i x (h i x e)

def capOf (k c : Nat) : Nat := if c < half then c else k + c - big

def FnR (s : Sg) : Fn → Fn → Prop
  | .yield l, f' => ∃ x, s l = some x ∧ f' = .yield x.1
  | f, f' => f' = f

/-- a value of the evaluator, and one of the world -/
def V (s : Sg) (v : Value) : Value → Prop :=
  Value.rec (motive_1 := fun _ => Value → Prop) (motive_2 := fun _ => Array Value → Prop) (motive_3 := fun _ => List Value → Prop)
    (fun b v' => v' = .bool b) (fun k n v' => v' = .int k n) (fun k b v' => v' = .float k b) (fun k a b v' => v' = .complex k a b) (fun t v' => v' = .string t)
    (fun a v' => match a with | none => v' = .pointer none | some a => ∃ x, s a.block = some x ∧ v' = .pointer (some ⟨x.1, a.off, a.spot⟩))
    (fun a l c v' => if c = junk then l = 0 ∧ ∃ a' c', v' = .slice a' 0 c' else
      match a with | none => v' = .slice none l c | some a => ∃ x, s a.block = some x ∧ l ≤ capOf x.2 c ∧ v' = .slice (some ⟨x.1, a.off, a.spot⟩) l (capOf x.2 c))
    (fun r v' => match r with | none => v' = .map none | some r => ∃ x, s r = some x ∧ v' = .map (some x.1))
    (fun c v' => match c with | none => False | some i => v' = .int .i64 ((default : Env).val i))
    (fun fn _ _ ha hb v' => ∃ fn' a' b', FnR s fn fn' ∧ ha a' ∧ hb b' ∧ v' = .func fn' a' b')
    (fun v' => v' = .nilFunc) (fun t _ h v' => ∃ u, h u ∧ v' = .iface t u) (fun v' => v' = .nilIface)
    (fun _ h v' => ∃ c', h c' ∧ v' = .agg c') (fun _ h v' => ∃ c', h c' ∧ v' = .tuple c')
    (fun _ h a' => h a'.toList) (fun l' => l' = []) (fun _ _ h hl l' => ∃ v' r', h v' ∧ hl r' ∧ l' = v' :: r') v

/-- lists of values -/
def VL (s : Sg) : List Value → List Value → Prop
  | [], l' => l' = []
  | v :: r, l' => ∃ v' r', V s v v' ∧ VL s r r' ∧ l' = v' :: r'

section
variable {s : Sg}
theorem V.bool {b : Bool} {v' : Value} : V s (.bool b) v' ↔ v' = .bool b := Iff.rfl
theorem V.int {k : IntKind} {n : Int} {v' : Value} : V s (.int k n) v' ↔ v' = .int k n := Iff.rfl
theorem V.string {t : ByteArray} {v' : Value} : V s (.string t) v' ↔ v' = .string t := Iff.rfl
theorem V.ptrN {v' : Value} : V s (.pointer none) v' ↔ v' = .pointer none := Iff.rfl
theorem V.ptr {a : Addr} {v' : Value} : V s (.pointer (some a)) v' ↔ ∃ x, s a.block = some x ∧ v' = .pointer (some ⟨x.1, a.off, a.spot⟩) := Iff.rfl
theorem V.slice {a : Option Addr} {l c : Nat} {v' : Value} : V s (.slice a l c) v' ↔ (if c = junk then l = 0 ∧ ∃ a' c', v' = .slice a' 0 c' else
      match a with | none => v' = .slice none l c | some a => ∃ x, s a.block = some x ∧ l ≤ capOf x.2 c ∧ v' = .slice (some ⟨x.1, a.off, a.spot⟩) l (capOf x.2 c)) := Iff.rfl
theorem V.mapN {v' : Value} : V s (.map none) v' ↔ v' = .map none := Iff.rfl
theorem V.map {r : Nat} {v' : Value} : V s (.map (some r)) v' ↔ ∃ x, s r = some x ∧ v' = .map (some x.1) := Iff.rfl
theorem V.nilFunc {v' : Value} : V s .nilFunc v' ↔ v' = .nilFunc := Iff.rfl
theorem V.nilIface {v' : Value} : V s .nilIface v' ↔ v' = .nilIface := Iff.rfl
theorem VL_iff (l l' : List Value) : (Value.rec_2 (motive_1 := fun _ => Value → Prop) (motive_2 := fun _ => Array Value → Prop) (motive_3 := fun _ => List Value → Prop)
    (fun b v' => v' = .bool b) (fun k n v' => v' = .int k n) (fun k b v' => v' = .float k b) (fun k a b v' => v' = .complex k a b) (fun t v' => v' = .string t)
    (fun a v' => match a with | none => v' = .pointer none | some a => ∃ x, s a.block = some x ∧ v' = .pointer (some ⟨x.1, a.off, a.spot⟩))
    (fun a l c v' => if c = junk then l = 0 ∧ ∃ a' c', v' = .slice a' 0 c' else
      match a with | none => v' = .slice none l c | some a => ∃ x, s a.block = some x ∧ l ≤ capOf x.2 c ∧ v' = .slice (some ⟨x.1, a.off, a.spot⟩) l (capOf x.2 c))
    (fun r v' => match r with | none => v' = .map none | some r => ∃ x, s r = some x ∧ v' = .map (some x.1))
    (fun c v' => match c with | none => False | some i => v' = .int .i64 ((default : Env).val i))
    (fun fn _ _ ha hb v' => ∃ fn' a' b', FnR s fn fn' ∧ ha a' ∧ hb b' ∧ v' = .func fn' a' b')
    (fun v' => v' = .nilFunc) (fun t _ h v' => ∃ u, h u ∧ v' = .iface t u) (fun v' => v' = .nilIface)
    (fun _ h v' => ∃ c', h c' ∧ v' = .agg c') (fun _ h v' => ∃ c', h c' ∧ v' = .tuple c')
    (fun _ h a' => h a'.toList) (fun l' => l' = []) (fun _ _ h hl l' => ∃ v' r', h v' ∧ hl r' ∧ l' = v' :: r') l) l' ↔ VL s l l' := by
  induction l generalizing l' with
  | nil => exact Iff.rfl
  | cons v r ih =>
    constructor
    · rintro ⟨v', r', h1, h2, h3⟩; exact ⟨v', r', h1, (ih r').1 h2, h3⟩
    · rintro ⟨v', r', h1, h2, h3⟩; exact ⟨v', r', h1, (ih r').2 h2, h3⟩
theorem V.agg {c : Array Value} {v' : Value} : V s (.agg c) v' ↔ ∃ l', VL s c.toList l' ∧ v' = .agg ⟨l'⟩ := by
  obtain ⟨l⟩ := c
  constructor
  · rintro ⟨⟨c'⟩, h, e⟩; exact ⟨c', (VL_iff l c').1 h, e⟩
  · rintro ⟨l', h, e⟩; exact ⟨⟨l'⟩, (VL_iff l l').2 h, e⟩
theorem V.tuple {c : Array Value} {v' : Value} : V s (.tuple c) v' ↔ ∃ l', VL s c.toList l' ∧ v' = .tuple ⟨l'⟩ := by
  obtain ⟨l⟩ := c
  constructor
  · rintro ⟨⟨c'⟩, h, e⟩; exact ⟨c', (VL_iff l c').1 h, e⟩
  · rintro ⟨l', h, e⟩; exact ⟨⟨l'⟩, (VL_iff l l').2 h, e⟩
theorem V.func {fn : Fn} {a b : Array Value} {v' : Value} : V s (.func fn a b) v' ↔ ∃ fn' a' b', FnR s fn fn' ∧ VL s a.toList a' ∧ VL s b.toList b' ∧ v' = .func fn' ⟨a'⟩ ⟨b'⟩ := by
  obtain ⟨a⟩ := a; obtain ⟨b⟩ := b
  constructor
  · rintro ⟨fn', ⟨a'⟩, ⟨b'⟩, h0, h1, h2, e⟩; exact ⟨fn', a', b', h0, (VL_iff a a').1 h1, (VL_iff b b').1 h2, e⟩
  · rintro ⟨fn', a', b', h0, h1, h2, e⟩; exact ⟨fn', ⟨a'⟩, ⟨b'⟩, h0, (VL_iff a a').2 h1, (VL_iff b b').2 h2, e⟩
theorem V.undef {v' : Value} : V s undef v' ↔ v' = undef := by
  unfold Go.undef
  rw [V.tuple]
  constructor
  · rintro ⟨l', h, e⟩; cases h; exact e
  · intro e; exact ⟨[], rfl, e⟩
end

theorem FnR.mono {s t : Sg} (h : s.le t) {f f' : Fn} (k : FnR s f f') : FnR t f f' := by
  cases f with
  | yield l => obtain ⟨x, e, e'⟩ := k; exact ⟨x, h _ _ e, e'⟩
  | _ => exact k

theorem V.mono {s t : Sg} (h : s.le t) (v : Value) : ∀ v', V s v v' → V t v v' := by
  refine Value.rec (motive_1 := fun v => ∀ v', V s v v' → V t v v') (motive_2 := fun a => ∀ l', VL s a.toList l' → VL t a.toList l') (motive_3 := fun l => ∀ l', VL s l l' → VL t l l')
    ?_ ?_ ?_ ?_ ?_ ?_ ?_ ?_ ?_ ?_ ?_ ?_ ?_ ?_ ?_ ?_ ?_ ?_ v
  · exact fun _ _ h => h
  · exact fun _ _ _ h => h
  · exact fun _ _ _ h => h
  · exact fun _ _ _ _ h => h
  · exact fun _ _ h => h
  · intro a v' k
    cases a with
    | none => exact k
    | some a => obtain ⟨x, e, e'⟩ := k; exact ⟨x, h _ _ e, e'⟩
  · intro a l c v' k
    show (if c = junk then _ else _)
    have k : (if c = junk then _ else _) := k
    by_cases hc : c = junk
    · rw [if_pos hc] at k ⊢; exact k
    · rw [if_neg hc] at k ⊢
      cases a with
      | none => exact k
      | some a => obtain ⟨x, e, e'⟩ := k; exact ⟨x, h _ _ e, e'⟩
  · intro r v' k
    cases r with
    | none => exact k
    | some r => obtain ⟨x, e, e'⟩ := k; exact ⟨x, h _ _ e, e'⟩
  · exact fun _ _ h => h
  · intro fn a b ha hb v' k
    rw [V.func] at k ⊢
    obtain ⟨fn', a', b', h0, h1, h2, e⟩ := k
    exact ⟨fn', a', b', h0.mono h, ha _ h1, hb _ h2, e⟩
  · exact fun _ h => h
  · rintro ty u ih v' ⟨u', h1, e⟩; exact ⟨u', ih _ h1, e⟩
  · exact fun _ h => h
  · intro c ih v' k
    rw [V.agg] at k ⊢
    obtain ⟨l', h1, e⟩ := k
    exact ⟨l', ih _ h1, e⟩
  · intro c ih v' k
    rw [V.tuple] at k ⊢
    obtain ⟨l', h1, e⟩ := k
    exact ⟨l', ih _ h1, e⟩
  · exact fun l ih => ih
  · exact fun _ h => h
  · rintro v r ih ihr l' ⟨v', r', h1, h2, e⟩; exact ⟨v', r', ih _ h1, ihr _ h2, e⟩
theorem VL.mono {s t : Sg} (h : s.le t) : ∀ (l l' : List Value), VL s l l' → VL t l l'
  | [], _, k => k
  | v :: r, l', k => by obtain ⟨v', r', h1, h2, e⟩ := k; exact ⟨v', r', h1.mono h, VL.mono h _ _ h2, e⟩

/-! what is plain is the same -/
theorem clo_V {s : Sg} {v v' : Value} (h : clo v = true) (k : V s v v') : v' = v := by
  cases v with
  | bool | int | string | nilFunc | nilIface => exact k
  | pointer a => cases a with | none => exact k | some a => cases h
  | slice a l c => cases a with
    | some a => cases h
    | none => cases l with
      | succ l => cases h
      | zero => cases c with
        | succ c => cases h
        | zero => exact k
  | map r => cases r with | none => exact k | some a => cases h
  | _ => cases h
theorem clo_self {s : Sg} {v : Value} (h : clo v = true) : V s v v := by
  cases v with
  | bool | int | string | nilFunc | nilIface => exact rfl
  | pointer a => cases a with | none => exact rfl | some a => cases h
  | slice a l c => cases a with
    | some a => cases h
    | none => cases l with
      | succ l => cases h
      | zero => cases c with
        | succ c => cases h
        | zero => exact rfl
  | map r => cases r with | none => exact rfl | some a => cases h
  | _ => cases h
theorem cloL_V {s : Sg} : ∀ {l l' : List Value}, cloL l = true → VL s l l' → l' = l
  | [], _, _, k => k
  | v :: r, l', h, k => by
    obtain ⟨v', r', h1, h2, e⟩ := k
    unfold cloL at h
    cases hv : clo v with
    | false => rw [hv] at h; cases h
    | true => rw [hv] at h; rw [e, clo_V hv h1, cloL_V h h2]
theorem cloL_self {s : Sg} : ∀ {l : List Value}, cloL l = true → VL s l l
  | [], _ => rfl
  | v :: r, h => by
    unfold cloL at h
    cases hv : clo v with
    | false => rw [hv] at h; cases h
    | true => rw [hv] at h; exact ⟨v, r, clo_self hv, cloL_self h, rfl⟩
theorem clo1_V {s : Sg} {v v' : Value} (h : clo1 v = true) (k : V s v v') : v' = v := by
  cases v with
  | agg c =>
    rw [V.agg] at k
    obtain ⟨l', h1, e⟩ := k
    have := cloL_V h h1
    subst this
    exact e
  | _ => exact clo_V h k
theorem clo1_self {s : Sg} {v : Value} (h : clo1 v = true) : V s v v := by
  cases v with
  | agg c => exact V.agg.2 ⟨c.toList, cloL_self h, rfl⟩
  | _ => exact clo_self h
theorem cloAll_V {s : Sg} : ∀ {l l' : List Value}, cloAll l = true → VL s l l' → l' = l
  | [], _, _, k => k
  | v :: r, l', h, k => by
    obtain ⟨v', r', h1, h2, e⟩ := k
    unfold cloAll at h
    cases hv : clo1 v with
    | false => rw [hv] at h; cases h
    | true => rw [hv] at h; rw [e, clo1_V hv h1, cloAll_V h h2]
theorem cloAll_self {s : Sg} : ∀ {l : List Value}, cloAll l = true → VL s l l
  | [], _ => rfl
  | v :: r, h => by
    unfold cloAll at h
    cases hv : clo1 v with
    | false => rw [hv] at h; cases h
    | true => rw [hv] at h; exact ⟨v, r, clo1_self hv, cloAll_self h, rfl⟩
theorem cloR_self {s : Sg} {v : Value} (h : cloR v = true) : V s v v := by
  cases v with
  | tuple c => exact V.tuple.2 ⟨c.toList, cloAll_self h, rfl⟩
  | _ => exact clo1_self h

/-! lists -/
theorem nthL_eq {α : Type} : ∀ (l : List α) (i : Nat), nthL l i = l[i]?
  | [], _ => by simp [nthL]
  | x :: r, 0 => by simp [nthL]
  | x :: r, i + 1 => by simp [nthL, nthL_eq r i]
theorem setL_eq {α : Type} : ∀ (l : List α) (i : Nat) (v : α), setL l i v = l.set i v
  | [], _, _ => by simp [setL]
  | x :: r, 0, v => by simp [setL]
  | x :: r, i + 1, v => by simp [setL, setL_eq r i v]
theorem partL_eq {α : Type} : ∀ (l : List α) (n k : Nat), partL l n k = (l.drop k).take n
  | [], n, k => by simp [partL]
  | x :: r, 0, 0 => by simp [partL]
  | x :: r, n + 1, 0 => by simp [partL, partL_eq r n 0]
  | x :: r, n, k + 1 => by simp [partL, partL_eq r n k]
theorem overL_eq {α : Type} : ∀ (l : List α) (k : Nat) (vs : List α) (c : List α), overL l k vs = some c → k + vs.length ≤ l.length ∨ vs = [] 
  | l, k, [], c, h => .inr rfl
  | [], k, v :: vs, c, h => by simp [overL] at h
  | x :: r, 0, v :: vs, c, h => by
    unfold overL at h
    cases hr : overL r 0 vs with
    | none => simp [hr] at h
    | some l => rcases overL_eq r 0 vs l hr with h1 | h1 <;> left <;> simp_all <;> omega
  | x :: r, k + 1, v :: vs, c, h => by
    unfold overL at h
    cases hr : overL r k (v :: vs) with
    | none => simp [hr] at h
    | some l => rcases overL_eq r k (v :: vs) l hr with h1 | h1 <;> first | (left; simp at h1 ⊢; omega) | cases h1
theorem overL_len {α : Type} : ∀ (l : List α) (k : Nat) (vs : List α) (c : List α), overL l k vs = some c → c.length = l.length
  | l, k, [], c, h => by simp [overL] at h; rw [h]
  | [], k, v :: vs, c, h => by simp [overL] at h
  | x :: r, 0, v :: vs, c, h => by
    unfold overL at h
    cases hr : overL r 0 vs with
    | none => simp [hr] at h
    | some l => simp [hr] at h; subst h; simp [overL_len r 0 vs l hr]
  | x :: r, k + 1, v :: vs, c, h => by
    unfold overL at h
    cases hr : overL r k (v :: vs) with
    | none => simp [hr] at h
    | some l => simp [hr] at h; subst h; simp [overL_len r k (v :: vs) l hr]
/-- one by one: first the first, then the rest one place on -/
theorem overL_cons {α : Type} : ∀ (l : List α) (k : Nat) (v : α) (vs : List α) (c : List α), overL l k (v :: vs) = some c → k < l.length ∧ overL (l.set k v) (k + 1) vs = some c
  | [], k, v, vs, c, h => by simp [overL] at h
  | x :: r, 0, v, vs, c, h => by
    unfold overL at h
    cases hr : overL r 0 vs with
    | none => simp [hr] at h
    | some l =>
      simp [hr] at h; subst h
      refine ⟨by simp, ?_⟩
      cases vs with
      | nil => simp [overL] at hr ⊢; exact hr
      | cons u us => simp [overL, hr]
  | x :: r, k + 1, v, vs, c, h => by
    unfold overL at h
    cases hr : overL r k (v :: vs) with
    | none => simp [hr] at h
    | some l =>
      simp [hr] at h; subst h
      obtain ⟨h1, h2⟩ := overL_cons r k v vs l hr
      refine ⟨by simpa using h1, ?_⟩
      cases vs with
      | nil => simp [overL] at h2 ⊢; exact h2
      | cons u us => simp [overL, h2]
theorem VL.len {s : Sg} : ∀ {l l' : List Value}, VL s l l' → l'.length = l.length
  | [], _, k => by cases k; rfl
  | v :: r, l', k => by obtain ⟨v', r', _, h2, e⟩ := k; subst e; simp [VL.len h2]
theorem VL.get {s : Sg} : ∀ {l l' : List Value} (i : Nat) {v : Value}, VL s l l' → l[i]? = some v → ∃ v', l'[i]? = some v' ∧ V s v v'
  | [], _, i, v, _, h => by simp at h
  | u :: r, l', 0, v, k, h => by obtain ⟨v', r', h1, _, e⟩ := k; subst e; simp at h; subst h; exact ⟨v', by simp, h1⟩
  | u :: r, l', i + 1, v, k, h => by obtain ⟨v', r', _, h2, e⟩ := k; subst e; simp at h; obtain ⟨v2, e2, h3⟩ := VL.get i h2 h; exact ⟨v2, by simpa using e2, h3⟩
theorem VL.drop {s : Sg} : ∀ {l l' : List Value} (i : Nat), VL s l l' → VL s (l.drop i) (l'.drop i)
  | _, _, 0, k => by simpa using k
  | [], _, i + 1, k => by cases k; simp; exact rfl
  | u :: r, l', i + 1, k => by obtain ⟨v', r', _, h2, e⟩ := k; subst e; simpa using VL.drop i h2
theorem VL.take {s : Sg} : ∀ {l l' : List Value} (i : Nat), VL s l l' → VL s (l.take i) (l'.take i)
  | _, _, 0, k => by simp; exact rfl
  | [], _, i + 1, k => by cases k; simp; exact rfl
  | u :: r, l', i + 1, k => by obtain ⟨v', r', h1, h2, e⟩ := k; subst e; simp; exact ⟨v', _, h1, VL.take i h2, rfl⟩
theorem VL.append {s : Sg} : ∀ {l l' m m' : List Value}, VL s l l' → VL s m m' → VL s (l ++ m) (l' ++ m')
  | [], _, m, m', k, h => by cases k; simpa using h
  | u :: r, l', m, m', k, h => by obtain ⟨v', r', h1, h2, e⟩ := k; subst e; exact ⟨v', _, h1, VL.append h2 h, rfl⟩
theorem VL.over {s : Sg} : ∀ {l l' : List Value} (k : Nat) {vs vs' : List Value} {c : List Value}, VL s l l' → VL s vs vs' → overL l k vs = some c → ∃ c', overL l' k vs' = some c' ∧ VL s c c'
  | l, l', k, [], vs', c, h, hv, ho => by cases hv; simp [overL] at ho ⊢; subst ho; exact h
  | [], l', k, v :: vs, vs', c, h, hv, ho => by simp [overL] at ho
  | x :: r, l', 0, v :: vs, vs', c, h, hv, ho => by
    obtain ⟨x', r', h1, h2, e⟩ := h; subst e
    obtain ⟨v', vs2, g1, g2, e⟩ := hv; subst e
    unfold overL at ho
    cases hr : overL r 0 vs with
    | none => simp [hr] at ho
    | some l2 =>
      simp [hr] at ho; subst ho
      obtain ⟨c', e1, e2⟩ := VL.over 0 h2 g2 hr
      exact ⟨v' :: c', by simp [overL, e1], v', c', g1, e2, rfl⟩
  | x :: r, l', k + 1, v :: vs, vs', c, h, hv, ho => by
    obtain ⟨x', r', h1, h2, e⟩ := h; subst e
    unfold overL at ho
    cases hr : overL r k (v :: vs) with
    | none => simp [hr] at ho
    | some l2 =>
      simp [hr] at ho; subst ho
      obtain ⟨c', e1, e2⟩ := VL.over k h2 hv hr
      obtain ⟨v', vs2, g1, g2, e⟩ := hv; subst e
      exact ⟨x' :: c', by simp [overL, e1], x', c', h1, e2, rfl⟩
/-- more behind -/
theorem overL_more {α : Type} : ∀ (l m : List α) (k : Nat) (vs : List α) (c : List α), overL l k vs = some c → overL (l ++ m) k vs = some (c ++ m)
  | l, m, k, [], c, h => by simp [overL] at h ⊢; rw [h]
  | [], m, k, v :: vs, c, h => by simp [overL] at h
  | x :: r, m, 0, v :: vs, c, h => by
    unfold overL at h
    cases hr : overL r 0 vs with
    | none => simp [hr] at h
    | some l => simp [hr] at h; subst h; simp [overL, overL_more r m 0 vs l hr]
  | x :: r, m, k + 1, v :: vs, c, h => by
    unfold overL at h
    cases hr : overL r k (v :: vs) with
    | none => simp [hr] at h
    | some l => simp [hr] at h; subst h; simp [overL, overL_more r m k (v :: vs) l hr]
end Go.Ev
