/- An evaluator for runs: one block lies in the world from the beginning (a variable of the program), and is block 0 of the evaluator's heap. -/
import Derived.Test.YtfcmgkakmaclcaaEvY
import Derived.Test.YtfcmgkakmaclcaaEvW
set_option linter.unusedSimpArgs false
set_option linter.unusedVariables false
set_option linter.unusedSectionVars false
namespace Go.Ev
variable [Inhabited Env]
/-- the heap with that block alone -/
def baseH (c : List Value) (e : TypeId) : Hp := ⟨1, [(.cells ⟨c⟩ e (0, 0), false)]⟩
def hasBase (H : Hp) (c : List Value) (e : TypeId) : Bool := match H.get 0 with
  | some ob => sameB ob (.cells ⟨c⟩ e (0, 0), false)
  | none => false
theorem hasBase_get {H : Hp} {c : List Value} {e : TypeId} (h : hasBase H c e = true) : H.get 0 = some (.cells ⟨c⟩ e (0, 0), false) := by
  unfold hasBase at h
  split at h
  · rename_i ob hg; rw [hg, sameB_eq h]
  · cases h
section
variable {P : Program} {s : Sg} {H : Hp} {w : World} {c c1 : List Value} {e : TypeId} {x : Nat × Nat}
theorem base_world (hb : (default : Env).base = some x) (hc : ∀ (s : Sg) (l : List Value), VL s c l ↔ l = c1) (hR : R P s H w) (h : hasBase H c e = true) : w.heap[x.1]? = some (.cells ⟨c1⟩ e (0, 0)) := by
  obtain ⟨o', h1, h2, c', fr, h3, h4, h5⟩ := hR.obj 0 _ _ x (hasBase_get h) live_cells (hR.base x hb)
  have h4 := (hc _ _).1 h4
  subst h3 h4 h5
  exact h1
def sg0 (x : Nat × Nat) : Sg := fun i => if i = 0 then some x else none
theorem sg0_some {x y : Nat × Nat} {i : Nat} (h : sg0 x i = some y) : i = 0 ∧ y = x := by
  unfold sg0 at h
  split at h
  · rename_i e; exact ⟨e, (Option.some.inj h).symm⟩
  · cases h
theorem baseR (hb : (default : Env).base = some x) (hc : ∀ (s : Sg) (l : List Value), VL s c l ↔ l = c1) (hw : w.heap[x.1]? = some (.cells ⟨c1⟩ e (0, 0))) : R P (sg0 x) (baseH c e) w := by
  refine ⟨rfl, ?_, ?_, ?_, ?_⟩
  · intro i y h; obtain ⟨rfl, rfl⟩ := sg0_some h; exact Nat.zero_lt_one
  · intro i o u y h1 h2 h3
    obtain ⟨rfl, rfl⟩ := sg0_some h3
    have h1 : (some (.cells ⟨c⟩ e (0, 0), false) : Option (Obj × Bool)) = some (o, u) := h1
    cases h1
    exact ⟨_, hw, rfl, c1, (0, 0), rfl, (hc _ _).2 rfl, rfl⟩
  · intro i j o u o' u' y z h1 h2 h3 h4 h5 h6 h7
    rw [(sg0_some h5).1, (sg0_some h6).1]
  · intro y h
    rw [hb] at h; cases h
    rfl
theorem base_owned {b : Nat} (h : Owned (sg0 x) (baseH c e) b) : b = x.1 := by
  obtain ⟨i, o, u, y, _, _, h3, h4⟩ := h
  rw [← h4, (sg0_some h3).2]
/-- behind a call from that heap all that was there is as it was -/
theorem base_keep (hb : (default : Env).base = some x) (hc : ∀ (s : Sg) (l : List Value), VL s c l ↔ l = c1) (hw : w.heap[x.1]? = some (.cells ⟨c1⟩ e (0, 0))) {s' : Sg} {H' : Hp} {w' : World} (hP : Post P (sg0 x) (baseH c e) w s' H' w') (h : hasBase H' c e = true) : ∀ b, b < w.heap.size → w'.heap[b]? = w.heap[b]? := by
  intro b hlt
  by_cases hx : b = x.1
  · subst hx
    rw [hw]; exact base_world hb hc hP.rel h
  · exact hP.keep b hlt (fun ho => hx (base_owned ho))
end
/-! a call of plain things, from any heap that has that block -/
def fitB (r : Option (Value × Hp)) (v : Value) (c : List Value) (e : TypeId) : Bool := match r with
  | some (u, H) => same1 u v && clo v && hasBase H c e
  | none => false
def orcB (f0 : FuncId) (args0 : List Value) (v : Value) (c : List Value) (e : TypeId) : Orc := fun f args H => match Nat.beq f f0 with
  | true => (match sameL args args0 && hasBase H c e with
    | true => some (v, H)
    | false => none)
  | false => none
theorem orcB_eq {f0 : FuncId} {args0 : List Value} {v : Value} {c : List Value} {e : TypeId} {f : FuncId} {args : List Value} {H : Hp} {v2 : Value} {H2 : Hp} (h : orcB f0 args0 v c e f args H = some (v2, H2)) : f = f0 ∧ args = args0 ∧ hasBase H c e = true ∧ v2 = v ∧ H2 = H := by
  unfold orcB at h
  split at h
  · rename_i q1
    split at h
    · rename_i hq
      cases h
      obtain ⟨q2, q3⟩ := and2 hq
      exact ⟨Nat.eq_of_beq_eq_true q1, sameL_eq q2, q3, rfl, rfl⟩
    · cases h
  · cases h
theorem orcB_ok {P : Program} {x : Nat × Nat} {c c1 : List Value} {e : TypeId} (hb : (default : Env).base = some x) (hc : ∀ (s : Sg) (l : List Value), VL s c l ↔ l = c1) (hm : P.follows .mixedOrders = true) {orc : Orc} (hO : OrcS P orc) {F : Nat} {f0 : FuncId} {args0 : List Value} {v : Value} (hcl : cloAll args0 = true) (he : fitB (evalCall P orc F f0 args0 (baseH c e)) v c e = true) : OrcS P (orcB f0 args0 v c e) := by
  intro f args H v2 H2 h s w a' hR ha d cs
  obtain ⟨rfl, rfl, q3, rfl, rfl⟩ := orcB_eq h
  unfold fitB at he
  split at he
  · rename_i u H' hev
    obtain ⟨e1, e2, e3⟩ := and3 he
    have e1 := same1_eq e1
    subst e1
    have e4 := cloAll_V hcl ha
    subst e4
    have hw := base_world hb hc hR q3
    have hd := (call_sound hm hO hev (baseR hb hc hw) (cloAll_self hcl)).mono (R' := fun r w' => ∃ v', r = .returned v' ∧ ∃ s', V s' u v' ∧ Post P (sg0 x) (baseH c e) w s' H' w') (by rintro r w' ⟨s', v', h1, h2, h3⟩; exact ⟨v', h1, s', h2, h3⟩)
    obtain ⟨v', w', k1, s', k2, k3⟩ := calls_back hd d cs
    have e5 := clo_V e2 k2
    subst e5
    exact ⟨s, v', w', k1, clo_self e2, Post.still hR (base_keep hb hc hw k3 e3) k3.size k3.os k3.tape k3.output⟩
  · cases he
/-- a call that is known by other means -/
theorem orcG_ok {P : Program} {x : Nat × Nat} {c c1 : List Value} {e : TypeId} (hb : (default : Env).base = some x) (hc : ∀ (s : Sg) (l : List Value), VL s c l ↔ l = c1) {f0 : FuncId} {args0 : List Value} {v : Value} (hcl : cloAll args0 = true) (hv : clo v = true) (hd : ∀ w : World, w.heap[x.1]? = some (.cells ⟨c1⟩ e (0, 0)) → Calls P f0 ⟨args0⟩ w fun r w' => r = .returned v ∧ RowKit.Below w.heap.size w w') : OrcS P (orcB f0 args0 v c e) := by
  intro f args H v2 H2 h s w a' hR ha d cs
  obtain ⟨rfl, rfl, q3, rfl, rfl⟩ := orcB_eq h
  have e4 := cloAll_V hcl ha
  subst e4
  have hd := (hd w (base_world hb hc hR q3)).mono (R' := fun r w' => ∃ v', r = .returned v' ∧ (v' = v2 ∧ RowKit.Below w.heap.size w w')) (by rintro r w' ⟨h1, h2⟩; exact ⟨v2, h1, rfl, h2⟩)
  obtain ⟨v', w', k1, k2, k3⟩ := calls_back hd d cs
  subst k2
  exact ⟨s, v', w', k1, clo_self hv, Post.still hR k3.block k3.size k3.os k3.tape k3.output⟩
/-! where nothing of that block is asked -/
def deadH : Hp := ⟨1, [dead]⟩
theorem dead_get {i : Nat} {o : Obj} {u : Bool} (h : deadH.get i = some (o, u)) (hl : Live o) : False := by
  have hi := Hp.get_lt h
  have hi : i < 1 := hi
  obtain rfl : i = 0 := by omega
  have h : (some dead : Option (Obj × Bool)) = some (o, u) := h
  cases h
  exact hl none rfl
theorem dead_owned {x : Nat × Nat} {b : Nat} : ¬ Owned (sg0 x) deadH b := by
  rintro ⟨i, o, u, y, h1, h2, _, _⟩
  exact dead_get h1 h2
theorem deadR {P : Program} {w : World} {x : Nat × Nat} (hb : (default : Env).base = some x) : R P (sg0 x) deadH w := by
  refine ⟨rfl, ?_, ?_, ?_, ?_⟩
  · intro i y h; obtain ⟨rfl, rfl⟩ := sg0_some h; exact Nat.zero_lt_one
  · intro i o u y h1 h2 h3; exact (dead_get h1 h2).elim
  · intro i j o u o' u' y z h1 h2; exact (dead_get h1 h2).elim
  · intro y h
    rw [hb] at h; cases h
    rfl
/-- calls of plain things that are known, by function -/
abbrev Memo := List (FuncId × List (List Value × Value))
def memoA : List (List Value × Value) → List Value → Option Value
  | [], _ => none
  | (a, v) :: r, args => match sameL args a with | true => some v | false => memoA r args
def memoF : Memo → FuncId → List Value → Option Value
  | [], _, _ => none
  | (f0, l) :: r, f, args => match Nat.beq f f0 with | true => memoA l args | false => memoF r f args
def orcD (L : Memo) : Orc := fun f args H => match memoF L f args with
  | some v => some (v, H)
  | none => none
def fitD (r : Option (Value × Hp)) (v : Value) : Bool := match r with
  | some (u, _) => same1 u v && clo v
  | none => false
def okA (P : Program) (orc : Orc) (F : Nat) (f : FuncId) : List (List Value × Value) → Bool
  | [] => true
  | (a, v) :: r => match cloAll a && fitD (callNow P orc F f a deadH) v with | true => okA P orc F f r | false => false
def okM (P : Program) (orc : Orc) (F : Nat) : Memo → Bool
  | [] => true
  | (f, l) :: r => match okA P orc F f l with | true => okM P orc F r | false => false
theorem memoA_ok {P : Program} {orc : Orc} {F : Nat} {f : FuncId} : ∀ {l : List (List Value × Value)} {args : List Value} {v : Value}, okA P orc F f l = true → memoA l args = some v → cloAll args = true ∧ fitD (evalCall P orc F f args deadH) v = true
  | [], _, _, _, h => by cases h
  | (a, u) :: r, args, v, h1, h2 => by
    unfold okA at h1
    split at h1
    · rename_i hq
      obtain ⟨q1, q2⟩ := and2 hq
      rw [callNow_eq] at q2
      unfold memoA at h2
      split at h2
      · rename_i hs
        cases h2
        have := sameL_eq hs
        subst this
        exact ⟨q1, q2⟩
      · exact memoA_ok h1 h2
    · cases h1
theorem memoF_ok {P : Program} {orc : Orc} {F : Nat} {f : FuncId} : ∀ {L : Memo} {args : List Value} {v : Value}, okM P orc F L = true → memoF L f args = some v → cloAll args = true ∧ fitD (evalCall P orc F f args deadH) v = true
  | [], _, _, _, h => by cases h
  | (f0, l) :: r, args, v, h1, h2 => by
    unfold okM at h1
    split at h1
    · rename_i hq
      unfold memoF at h2
      split at h2
      · rename_i hs
        have := Nat.eq_of_beq_eq_true hs
        subst this
        exact memoA_ok hq h2
      · exact memoF_ok h1 h2
    · cases h1
theorem orcD_ok {P : Program} {x : Nat × Nat} (hb : (default : Env).base = some x) (hm : P.follows .mixedOrders = true) {orc : Orc} (hO : OrcS P orc) {F : Nat} {L : Memo} (he : okM P orc F L = true) : OrcS P (orcD L) := by
  intro f args H v2 H2 h s w a' hR ha d cs
  unfold orcD at h
  split at h
  · rename_i v hq
    cases h
    obtain ⟨hcl, hf⟩ := memoF_ok he hq
    unfold fitD at hf
    split at hf
    · rename_i u H' hev
      obtain ⟨e1, e2⟩ := and2 hf
      have e1 := same1_eq e1
      subst e1
      have e4 := cloAll_V hcl ha
      subst e4
      have hd := (call_sound hm hO hev (deadR hb) (cloAll_self hcl)).mono (R' := fun r w' => ∃ v', r = .returned v' ∧ ∃ s', V s' u v' ∧ Post P (sg0 x) deadH w s' H' w') (by rintro r w' ⟨s', v', h1, h2, h3⟩; exact ⟨v', h1, s', h2, h3⟩)
      obtain ⟨v', w', k1, s', k2, k3⟩ := calls_back hd d cs
      have e5 := clo_V e2 k2
      subst e5
      exact ⟨s, v', w', k1, clo_self e2, Post.still hR (fun b hb => k3.keep b hb dead_owned) k3.size k3.os k3.tape k3.output⟩
    · cases hf
  · cases h
/-! a call that takes nothing and says a new map of plain things -/
def mapOf (r : Option (Value × Hp)) : Option (Obj × Bool) := match r with
  | some (.map (some i), H) => H.get i
  | _ => none
def orcM (f0 : FuncId) (es : Array MapEntry) (n : Nat) : Orc := fun f args H => match Nat.beq f f0 with
  | true => (match args with | [] => some (.map (some H.n), H.push (.map es n, false)) | _ :: _ => none)
  | false => none
theorem orcM_ok {P : Program} {x : Nat × Nat} (hb : (default : Env).base = some x) (hm : P.follows .mixedOrders = true) {orc : Orc} (hO : OrcS P orc) {F : Nat} {f0 : FuncId} {es : Array MapEntry} {n : Nat} {u : Bool} (he : mapOf (evalCall P orc F f0 [] deadH) = some (.map es n, u)) : OrcS P (orcM f0 es n) := by
  intro f args H v2 H2 h s w a' hR ha d cs
  unfold orcM at h
  split at h
  · rename_i hq
    have hq := Nat.eq_of_beq_eq_true hq
    subst hq
    cases args with
    | cons _ _ => cases h
    | nil =>
    cases h
    cases ha
    unfold mapOf at he
    split at he
    · rename_i i H0 hev
      have hd := (call_sound hm hO hev (deadR hb) (args' := []) rfl).mono (R' := fun r w' => ∃ v', r = .returned v' ∧ ∃ s', V s' (.map (some i)) v' ∧ Post P (sg0 x) deadH w s' H0 w') (by rintro r w' ⟨s', v', h1, h2, h3⟩; exact ⟨v', h1, s', h2, h3⟩)
      obtain ⟨v', w', k1, s', k2, k3⟩ := calls_back hd d cs
      rw [V.map] at k2
      obtain ⟨z, e1, e2⟩ := k2
      have hlive : Live (.map es n) := fun z e => by cases e
      obtain ⟨o', g1, g2⟩ := k3.rel.obj i _ _ z he hlive e1
      have g2 : o' = .map es n := g2
      subst g2
      have hi0 : i ≠ 0 := fun h0 => by
        subst h0
        obtain ⟨o2, u2, h3, h4⟩ := k3.live 0 _ _ Nat.zero_lt_one he hlive
        exact dead_get h3 h4
      have hnew : w.heap.size ≤ z.1 := by
        rcases k3.ext i z e1 with h | ⟨_, _, h | h⟩
        · exact absurd (sg0_some h).1 hi0
        · exact h
        · exact absurd h dead_owned
      have hkeep := fun b hb => k3.keep b hb dead_owned
      have hold : ∀ j y, s j = some y → j < H.n := hR.dom
      have hne : ∀ j y, s j = some y → j ≠ H.n := fun j y e => by have := hold j y e; omega
      obtain ⟨t, ht⟩ : ∃ t : Sg, (fun j => if j = H.n then some z else s j) = t := ⟨_, rfl⟩
      have t1 : ∀ j, j ≠ H.n → t j = s j := fun j h => by rw [← ht]; show (if _ then _ else _) = _; rw [if_neg h]
      have t2 : t H.n = some z := by rw [← ht]; show (if _ then _ else _) = _; rw [if_pos rfl]
      have hle : s.le t := fun j y e => by rw [t1 j (hne j y e)]; exact e
      have hobj : ∀ j o u y, H.get j = some (o, u) → Live o → s j = some y → y.1 < w.heap.size := fun j o u y h1 h2 h3 => by
        obtain ⟨o', h4, _⟩ := hR.obj j o u y h1 h2 h3
        exact (Array.getElem?_eq_some_iff.1 h4).1
      refine ⟨t, v', w', k1, ?_, ⟨hle, ?_, by simp [Hp.push], fun b hb _ => hkeep b hb, k3.size, k3.os, k3.tape, k3.output, ?_, ?_, ⟨Hp.push_ok hR.ok, ?_, ?_, ?_, fun y e => hle 0 y (hR.base y e)⟩⟩⟩
      · rw [V.map]; exact ⟨z, t2, e2⟩
      · intro j y e
        by_cases hj : j = H.n
        · subst hj
          rw [t2] at e; cases e
          exact .inr ⟨Nat.le_refl _, by simp [Hp.push], .inl hnew⟩
        · rw [t1 j hj] at e; exact .inl e
      · intro j o u hj h1 h2
        rw [Hp.get_push_old hj] at h1
        exact ⟨o, u, h1, h2⟩
      · intro j hj _; exact Hp.get_push_old hj
      · intro j y e
        rw [Hp.push_n]
        by_cases hj : j = H.n
        · omega
        · rw [t1 j hj] at e; have := hold j y e; omega
      · intro j o u y h1 h2 h3
        by_cases hj : j = H.n
        · subst hj
          rw [t2] at h3; cases h3
          rw [Hp.get_push_new] at h1; cases h1
          exact ⟨_, g1, rfl⟩
        · rw [t1 j hj] at h3
          have hjl := hold j y h3
          rw [Hp.get_push_old hjl] at h1
          obtain ⟨o', h4, h5⟩ := hR.obj j o u y h1 h2 h3
          exact ⟨o', by rw [hkeep y.1 (hobj j o u y h1 h2 h3)]; exact h4, h5.mono hle⟩
      · intro j k o u o' u' y q h1 h2 h3 h4 h5 h6 h7
        by_cases hj : j = H.n
        · by_cases hk : k = H.n
          · omega
          · exfalso
            subst hj
            rw [t2] at h5; cases h5
            rw [t1 k hk] at h6
            rw [Hp.get_push_old (hold k q h6)] at h3
            have := hobj k o' u' q h3 h4 h6
            omega
        · rw [t1 j hj] at h5
          have hjl := hold j y h5
          rw [Hp.get_push_old hjl] at h1
          by_cases hk : k = H.n
          · exfalso
            subst hk
            rw [t2] at h6; cases h6
            have := hobj j o u y h1 h2 h5
            omega
          · rw [t1 k hk] at h6
            rw [Hp.get_push_old (hold k q h6)] at h3
            exact hR.inj j k o u o' u' y q h1 h2 h3 h4 h5 h6 h7
    · cases he
  · cases h
/-! the whole -/
def saysB (r : Option (Value × Hp)) (c : List Value) (e : TypeId) : Bool := match r with
  | some (.bool b, H) => b && hasBase H c e
  | _ => false
/-- **A call of plain things and unknowns: whatever memory it is made in, if that block lies there, it says what the evaluator says.** -/
theorem base_true {P : Program} {orc : Orc} {x : Nat × Nat} {c c1 : List Value} {e : TypeId} (hb : (default : Env).base = some x) (hc : ∀ (s : Sg) (l : List Value), VL s c l ↔ l = c1) (hm : P.follows .mixedOrders = true) (hO : OrcS P orc) {F : Nat} {f : FuncId} {args args' : List Value} (ha : VL (sg0 x) args args') (h : saysB (evalCall P orc F f args (baseH c e)) c e = true) (w : World) (hw : w.heap[x.1]? = some (.cells ⟨c1⟩ e (0, 0))) :
    Calls P f ⟨args'⟩ w fun r w' => r = .returned (.bool true) ∧ RowKit.Below w.heap.size w w' := by
  unfold saysB at h
  split at h
  · rename_i b H' he
    obtain ⟨hb1, hb2⟩ := and2 h
    subst hb1
    refine (call_sound hm hO he (baseR hb hc hw) ha).mono ?_
    rintro r w' ⟨s', v', e1, h1, h2⟩
    rw [clo_V rfl h1] at e1
    exact ⟨e1, h2.os, h2.tape, h2.output, h2.size, base_keep hb hc hw h2 hb2⟩
  · cases h
end Go.Ev
