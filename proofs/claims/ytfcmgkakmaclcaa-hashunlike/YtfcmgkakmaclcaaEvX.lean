/- An evaluator for closed runs: what is known of calls already. -/
import Derived.Test.YtfcmgkakmaclcaaEvV
set_option linter.unusedSimpArgs false
set_option linter.unusedVariables false
set_option linter.unusedSectionVars false
namespace Go.Ev
variable [Inhabited Env]
def noOrc : Orc := fun _ _ _ => none
theorem noOrc_ok {P : Program} : OrcS P noOrc := fun f args H v H' h => by cases h
/-- a call goes back to whoever made it -/
theorem calls_back {P : Program} {f : FuncId} {a : Array Value} {w : World} {Q : Value → World → Prop} (h : Calls P f a w fun e w' => ∃ v, e = .returned v ∧ Q v w') (c : Frame) (cs : List Frame) :
    ∃ v w', Steps P (lone (Frame.enter P f a .normal) (c :: cs) w) (lone (c.finish v) cs w') ∧ Q v w' := by
  obtain ⟨e, w', fr, ⟨v, e1, hq⟩, hc, _, hl⟩ := h (c :: cs)
  subst e1
  exact ⟨v, w', Steps.trans hc (.one (step_leave_returned hl)), hq⟩
def isDead : Obj → Bool
  | .coro none => true
  | _ => false
def sameB (a b : Obj × Bool) : Bool := match a, b with
  | (.coro none, true), (.coro none, true) => true
  | (a, u), (b, v) => cellsSame a b && (u == v)
theorem sameB_eq {a b : Obj × Bool} (h : sameB a b = true) : a = b := by
  unfold sameB at h
  split at h
  · rfl
  · obtain ⟨h1, h2⟩ := and2 h; rw [cellsSame_eq h1, eq_of_beq h2]
/-- the right one has what the left one has, or nothing -/
def fitL : List (Obj × Bool) → List (Obj × Bool) → Bool
  | [], [] => true
  | a :: r, b :: q => (match isDead b.1 with
    | true => fitL r q
    | false => (match sameB a b with | true => fitL r q | false => false))
  | _, _ => false
def sameHL : List (Obj × Bool) → List (Obj × Bool) → Bool
  | [], [] => true
  | a :: r, b :: q => (match sameB a b with | true => sameHL r q | false => false)
  | _, _ => false
theorem sameHL_eq : ∀ {a b : List (Obj × Bool)}, sameHL a b = true → a = b
  | [], [], _ => rfl
  | [], _ :: _, h => by cases h
  | _ :: _, [], h => by cases h
  | x :: a, y :: b, h => by
    unfold sameHL at h
    split at h
    · rename_i hb; rw [sameB_eq hb, sameHL_eq h]
    · cases h
theorem fitL_len : ∀ {a b : List (Obj × Bool)}, fitL a b = true → a.length = b.length
  | [], [], _ => rfl
  | [], _ :: _, h => by cases h
  | _ :: _, [], h => by cases h
  | x :: a, y :: b, h => by
    unfold fitL at h
    split at h
    · simp [fitL_len h]
    · split at h
      · simp [fitL_len h]
      · cases h
theorem fitL_get : ∀ {a b : List (Obj × Bool)} {p : Nat} {o : Obj} {u : Bool}, fitL a b = true → b[p]? = some (o, u) → Live o → a[p]? = some (o, u)
  | [], [], p, o, u, _, h, _ => by simp at h
  | [], _ :: _, p, o, u, h, _, _ => by cases h
  | _ :: _, [], p, o, u, h, _, _ => by cases h
  | x :: a, y :: b, p, o, u, h, h1, h2 => by
    unfold fitL at h
    cases p with
    | zero =>
      simp at h1
      subst h1
      split at h
      · rename_i hd
        exfalso
        cases o <;> first | (cases hd; done) | skip
        rename_i z
        cases z with
        | none => exact h2 none rfl
        | some z => cases hd
      · split at h
        · rename_i hb; rw [sameB_eq hb]; simp
        · cases h
    | succ p =>
      have rest : fitL a b = true := by
        split at h
        · exact h
        · split at h
          · exact h
          · cases h
      simpa using fitL_get rest (by simpa using h1) h2
def fitH (H Hc : Hp) : Bool := Nat.beq H.n Hc.n && fitL H.l Hc.l
theorem fitH_get {H Hc : Hp} (h : fitH H Hc = true) {i : Nat} {o : Obj} {u : Bool} (hg : Hc.get i = some (o, u)) (hl : Live o) : H.get i = some (o, u) := by
  obtain ⟨h1, h2⟩ := and2 h
  have h1 := Nat.eq_of_beq_eq_true h1
  have hi := Hp.get_lt hg
  rw [Hp.get_eq, if_pos hi] at hg
  rw [Hp.get_eq, h1, if_pos hi]
  exact fitL_get h2 hg hl
section
variable {P : Program} {s0 s : Sg} {H0 H Hc : Hp} {w0 w : World}
theorem Post.fit (hP : Post P s0 H0 w0 s H w) (hf : fitH H Hc = true) (ht : ∃ new, Hc.l = new ++ H0.l ∧ Hc.n = H0.n + new.length) (hok0 : H0.l.length = H0.n) : Post P s0 H0 w0 s Hc w := by
  obtain ⟨h1, h2⟩ := and2 hf
  have hn := Nat.eq_of_beq_eq_true h1
  obtain ⟨new, e1, e2⟩ := ht
  have hget0 : ∀ i, i < H0.n → Hc.get i = H0.get i := fun i hi => by
    rw [Hp.get_eq, Hp.get_eq, if_pos hi, if_pos (by omega), e1, List.getElem?_append_right (by omega)]
    congr 1; omega
  refine ⟨hP.le, ?_, by omega, hP.keep, hP.size, hP.os, hP.tape, hP.output, ?_, fun i hi _ => hget0 i hi, ⟨by rw [← hn, ← hP.rel.ok, fitL_len h2], ?_, ?_, ?_, hP.rel.base⟩⟩
  · intro i x e
    rcases hP.ext i x e with h | ⟨g1, g2, g3⟩
    · exact .inl h
    · exact .inr ⟨g1, by omega, g3⟩
  · intro i o u hi g1 g2
    exact hP.live i o u hi (fitH_get hf g1 g2) g2
  · intro i x e; have := hP.rel.dom i x e; omega
  · intro i o u x g1 g2 g3; exact hP.rel.obj i o u x (fitH_get hf g1 g2) g2 g3
  · intro i j o u o' u' x y g1 g2 g3 g4 g5 g6 g7
    exact hP.rel.inj i j o u o' u' x y (fitH_get hf g1 g2) g2 (fitH_get hf g3 g4) g4 g5 g6 g7
theorem Post.still (h : R P s H w) {w' : World} (hk : ∀ b, b < w.heap.size → w'.heap[b]? = w.heap[b]?) (hsz : w.heap.size ≤ w'.heap.size) (h1 : w'.os = w.os) (h2 : w'.tape = w.tape) (h3 : w'.output = w.output) : Post P s H w s H w' := by
  refine ⟨Sg.le.refl s, fun _ _ e => .inl e, Nat.le_refl _, fun b hb _ => hk b hb, hsz, h1, h2, h3, fun _ o u _ g1 g2 => ⟨o, u, g1, g2⟩, fun _ _ _ => rfl, ⟨h.ok, h.dom, ?_, h.inj, h.base⟩⟩
  intro i o u x g1 g2 g3
  obtain ⟨o', g4, g5⟩ := h.obj i o u x g1 g2 g3
  exact ⟨o', by rw [hk x.1 (Array.getElem?_eq_some_iff.1 g4).1]; exact g4, g5⟩
end
/-! one call, from one heap -/
def fitR (r : Option (Value × Hp)) (v : Value) (Hc : Hp) : Bool := match r with
  | some (u, H) => same1 u v && fitH H Hc
  | none => false
def orc1 (f0 : FuncId) (args0 : List Value) (H0 : Hp) (v : Value) (Hc : Hp) : Orc := fun f args H => match Nat.beq f f0 && sameL args args0 && (Nat.beq H.n H0.n && sameHL H.l H0.l) with
  | true => some (v, Hc)
  | false => none
theorem orc1_ok {P : Program} (hm : P.follows .mixedOrders = true) {orc : Orc} (hO : OrcS P orc) {F : Nat} {f0 : FuncId} {args0 : List Value} {H0 Hc : Hp} {v : Value} (he : fitR (evalCall P orc F f0 args0 H0) v Hc = true) (ht : ∃ new, Hc.l = new ++ H0.l ∧ Hc.n = H0.n + new.length) :
    OrcS P (orc1 f0 args0 H0 v Hc) := by
  intro f args H v2 H2 h s w a' hR ha c cs
  unfold orc1 at h
  split at h
  · rename_i hq
    cases h
    obtain ⟨q1, q2, q3⟩ := and3 hq
    obtain ⟨q3, q4⟩ := and2 q3
    have q1 := Nat.eq_of_beq_eq_true q1
    have q2 := sameL_eq q2
    have q3 := Nat.eq_of_beq_eq_true q3
    have q4 := sameHL_eq q4
    have hH : H = H0 := by cases H; cases H0; simp only at q3 q4; rw [q3, q4]
    subst q1 q2 hH
    unfold fitR at he
    split at he
    · rename_i u H' hev
      obtain ⟨e1, e2⟩ := and2 he
      have e1 := same1_eq e1
      subst e1
      have hc := (call_sound hm hO hev hR ha).mono (R' := fun e w' => ∃ v', e = .returned v' ∧ ∃ s', V s' u v' ∧ Post P s H w s' H' w') (by rintro e w' ⟨s', v', h1, h2, h3⟩; exact ⟨v', h1, s', h2, h3⟩)
      obtain ⟨v', w', k1, s', k2, k3⟩ := calls_back hc c cs
      exact ⟨s', v', w', k1, k2, k3.fit e2 ht hR.ok⟩
    · cases he
  · cases h
/-! one call of plain things, from any heap -/
def fitC (r : Option (Value × Hp)) (v : Value) : Bool := match r with
  | some (u, _) => same1 u v && clo v
  | none => false
def orcC (f0 : FuncId) (args0 : List Value) (v : Value) : Orc := fun f args H => match Nat.beq f f0 && sameL args args0 with
  | true => some (v, H)
  | false => none
theorem orcC_ok {P : Program} (hbase : (default : Env).base = none) (hm : P.follows .mixedOrders = true) {orc : Orc} (hO : OrcS P orc) {F : Nat} {f0 : FuncId} {args0 : List Value} {v : Value} (hcl : cloAll args0 = true) (he : fitC (evalCall P orc F f0 args0 ⟨0, []⟩) v = true) : OrcS P (orcC f0 args0 v) := by
  intro f args H v2 H2 h s w a' hR ha c cs
  unfold orcC at h
  split at h
  · rename_i hq
    cases h
    obtain ⟨q1, q2⟩ := and2 hq
    have q1 := Nat.eq_of_beq_eq_true q1
    have q2 := sameL_eq q2
    subst q1 q2
    unfold fitC at he
    split at he
    · rename_i u H' hev
      obtain ⟨e1, e2⟩ := and2 he
      have e1 := same1_eq e1
      subst e1
      have e3 := cloAll_V hcl ha
      subst e3
      have hR0 : R P (fun _ => none) ⟨0, []⟩ w := ⟨rfl, fun i x h => (by cases h), fun i o u x h1 h2 h3 => (by cases h3), fun i j o u o' u' x y h1 h2 h3 h4 h5 => (by cases h5), fun x e => by rw [hbase] at e; cases e⟩
      have hc := (call_sound hm hO hev hR0 (cloAll_self hcl)).mono (R' := fun e w' => ∃ v', e = .returned v' ∧ ∃ s', V s' u v' ∧ Post P (fun _ => none) ⟨0, []⟩ w s' H' w') (by rintro e w' ⟨s', v', h1, h2, h3⟩; exact ⟨v', h1, s', h2, h3⟩)
      obtain ⟨v', w', k1, s', k2, k3⟩ := calls_back hc c cs
      have e4 := clo_V e2 k2
      subst e4
      refine ⟨s, v', w', k1, clo_self e2, Post.still hR (fun b hb => k3.keep b hb ?_) k3.size k3.os k3.tape k3.output⟩
      rintro ⟨i, o, u, x, _, _, h3, _⟩
      cases h3
    · cases he
  · cases h
def orcOr (a b : Orc) : Orc := fun f args H => match a f args H with
  | some r => some r
  | none => b f args H
theorem orcOr_ok {P : Program} {a b : Orc} (ha : OrcS P a) (hb : OrcS P b) : OrcS P (orcOr a b) := by
  intro f args H v H' h
  unfold orcOr at h
  split at h
  · rename_i r hr; cases h; exact ha f args H v H' hr
  · exact hb f args H v H' h
def saysTrue (r : Option (Value × Hp)) : Bool := match r with
  | some (.bool b, _) => b
  | _ => false
theorem closed_true {P : Program} {orc : Orc} (hbase : (default : Env).base = none) (hm : P.follows .mixedOrders = true) (hO : OrcS P orc) {F : Nat} {f : FuncId} (h : saysTrue (evalCall P orc F f [] ⟨0, []⟩) = true) (w : World) :
    Calls P f #[] w fun e w' => e = .returned (.bool true) ∧ RowKit.Below w.heap.size w w' := by
  unfold saysTrue at h
  split at h
  · rename_i b H' he
    subst h
    exact closed_call hbase hm hO he rfl w
  · cases h
end Go.Ev
