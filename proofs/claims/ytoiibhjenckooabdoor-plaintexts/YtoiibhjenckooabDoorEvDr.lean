/- An evaluator for runs: a call that says a plain thing and turns nothing that was there: what it made is forgotten. -/
import Derived.Test.YtoiibhjenckooabDoorEvBs
set_option linter.unusedSimpArgs false
set_option linter.unusedVariables false
set_option linter.unusedSectionVars false
namespace Go.Ev
variable [Inhabited Env]
/-- what a value meant before, it means still -/
theorem V.back {s t : Sg} (h : s.le t) (v : Value) : ∀ v0 v', V s v v0 → V t v v' → V s v v' := by
  refine Value.rec (motive_1 := fun v => ∀ v0 v', V s v v0 → V t v v' → V s v v') (motive_2 := fun a => ∀ l0 l', VL s a.toList l0 → VL t a.toList l' → VL s a.toList l') (motive_3 := fun l => ∀ l0 l', VL s l l0 → VL t l l' → VL s l l')
    ?_ ?_ ?_ ?_ ?_ ?_ ?_ ?_ ?_ ?_ ?_ ?_ ?_ ?_ ?_ ?_ ?_ ?_ v
  · exact fun _ _ _ _ h => h
  · exact fun _ _ _ _ _ h => h
  · exact fun _ _ _ _ _ h => h
  · exact fun _ _ _ _ _ _ h => h
  · exact fun _ _ _ _ h => h
  · intro a v0 v' k0 k
    cases a with
    | none => exact k
    | some a =>
      obtain ⟨x, e, _⟩ := k0
      obtain ⟨y, f, f'⟩ := k
      rw [h _ _ e] at f
      cases f
      exact ⟨x, e, f'⟩
  · intro a l c v0 v' k0 k
    have k0 : (if c = junk then _ else _) := k0
    have k : (if c = junk then _ else _) := k
    show (if c = junk then _ else _)
    by_cases hc : c = junk
    · rw [if_pos hc] at k ⊢; exact k
    · rw [if_neg hc] at k0 k ⊢
      cases a with
      | none => exact k
      | some a =>
        obtain ⟨x, e, _⟩ := k0
        obtain ⟨y, f, f'⟩ := k
        rw [h _ _ e] at f
        cases f
        exact ⟨x, e, f'⟩
  · intro r v0 v' k0 k
    cases r with
    | none => exact k
    | some r =>
      obtain ⟨x, e, _⟩ := k0
      obtain ⟨y, f, f'⟩ := k
      rw [h _ _ e] at f
      cases f
      exact ⟨x, e, f'⟩
  · exact fun _ _ _ _ h => h
  · intro fn a b ha hb v0 v' k0 k
    rw [V.func] at k0 k ⊢
    obtain ⟨fn0, a0, b0, p0, p1, p2, _⟩ := k0
    obtain ⟨fn', a', b', h0, h1, h2, e⟩ := k
    refine ⟨fn', a', b', ?_, ha _ _ p1 h1, hb _ _ p2 h2, e⟩
    cases fn with
    | yield l =>
      obtain ⟨x, q1, _⟩ := p0
      obtain ⟨y, q2, q3⟩ := h0
      rw [h _ _ q1] at q2
      cases q2
      exact ⟨x, q1, q3⟩
    | _ => exact h0
  · exact fun _ _ _ h => h
  · rintro ty u ih v0 v' ⟨u0, h0, _⟩ ⟨u', h1, e⟩; exact ⟨u', ih _ _ h0 h1, e⟩
  · exact fun _ _ _ h => h
  · intro c ih v0 v' k0 k
    rw [V.agg] at k0 k ⊢
    obtain ⟨l0, h0, _⟩ := k0
    obtain ⟨l', h1, e⟩ := k
    exact ⟨l', ih _ _ h0 h1, e⟩
  · intro c ih v0 v' k0 k
    rw [V.tuple] at k0 k ⊢
    obtain ⟨l0, h0, _⟩ := k0
    obtain ⟨l', h1, e⟩ := k
    exact ⟨l', ih _ _ h0 h1, e⟩
  · exact fun _ ih => ih
  · exact fun _ _ _ h => h
  · rintro v r ihv ihr l0 l' ⟨v0, r0, p1, p2, _⟩ ⟨v', r', h1, h2, e⟩
    exact ⟨v', r', ihv _ _ p1 h1, ihr _ _ p2 h2, e⟩
theorem VL.back {s t : Sg} (h : s.le t) : ∀ (l : List Value) (l0 l' : List Value), VL s l l0 → VL t l l' → VL s l l'
  | [], _, _, _, k => k
  | v :: r, l0, l', ⟨v0, r0, p1, p2, _⟩, ⟨v', r', h1, h2, e⟩ => ⟨v', r', V.back h v _ _ p1 h1, VL.back h r _ _ p2 h2, e⟩
/-- is all that is there of a sort that may be kept? -/
def keepO : Obj × Bool → Bool
  | (.cells _ _ _, _) => true
  | (.map _ _, _) => true
  | (.coro none, _) => true
  | _ => false
def keepL : List (Obj × Bool) → Bool
  | [] => true
  | o :: r => match keepO o with | true => keepL r | false => false
theorem keepL_mem : ∀ {l : List (Obj × Bool)} {o : Obj × Bool}, keepL l = true → o ∈ l → keepO o = true
  | [], _, _, h => by cases h
  | p :: r, o, h, hm => by
    unfold keepL at h
    split at h
    · rename_i hp
      rcases List.mem_cons.1 hm with rfl | hm
      · exact hp
      · exact keepL_mem h hm
    · cases h
theorem OR.back {P : Program} {s t : Sg} {k : Nat} {u : Bool} {o o0 o' : Obj} (h : s.le t) (hk : keepO (o, u) = true) (r0 : OR P s k u o o0) (r : OR P t k u o o') : OR P s k u o o' := by
  cases o with
  | cells c e f =>
    obtain ⟨hf, c0, fr0, e0, r0⟩ := r0
    obtain ⟨_, c', fr, e', r⟩ := r
    refine ⟨hf, c', fr, e', ?_⟩
    cases u with
    | true =>
      obtain ⟨⟨a0, b0, q1, q2⟩, _⟩ := r0
      obtain ⟨⟨a, b, e1, e2⟩, r2, r3⟩ := r
      exact ⟨⟨a, b, e1, VL.back h _ _ _ q2 e2⟩, r2, r3⟩
    | false => exact ⟨VL.back h _ _ _ r0.1 r.1, r.2⟩
  | map es c => exact r
  | coro z => exact r.elim
  | _ => cases hk
/-- is what was there, there still? -/
def dropN : Nat → List (Obj × Bool) → List (Obj × Bool)
  | 0, l => l
  | _ + 1, [] => []
  | n + 1, _ :: l => dropN n l
theorem dropN_eq : ∀ (n : Nat) (l : List (Obj × Bool)), dropN n l = l.drop n
  | 0, l => rfl
  | n + 1, [] => by simp [dropN]
  | n + 1, x :: l => by rw [dropN, dropN_eq n l]; rfl
/-- the one says a plain thing, and its heap is the old one with blocks ahead -/
def fitE (r : Option (Value × Hp)) (v : Value) (H : Hp) : Bool := match r with
  | some (u, H') => same1 u v && clo v && (Nat.ble H.n H'.n && fitL (dropN (H'.n - H.n) H'.l) H.l && keepL H.l)
  | none => false
def sameK : List Value → List Value → Bool
  | [], [] => true
  | a :: x, b :: y => (match same1 a b with | true => sameK x y | false => false)
  | _, _ => false
theorem sameK_eq : ∀ {a b : List Value}, sameK a b = true → a = b
  | [], [], _ => rfl
  | [], _ :: _, h => by cases h
  | _ :: _, [], h => by cases h
  | x :: a, y :: b, h => by
    unfold sameK at h
    split at h
    · rename_i hb; rw [same1_eq hb, sameK_eq h]
    · cases h
def orcE (f0 : FuncId) (args0 : List Value) (H0 : Hp) (v : Value) : Orc := fun f args H => match Nat.beq f f0 && Nat.beq H.n H0.n with
  | true => (match sameK args args0 && sameHL H.l H0.l with
    | true => some (v, H)
    | false => none)
  | false => none
theorem orcE_ok {P : Program} (hm : P.follows .mixedOrders = true) {orc : Orc} (hO : OrcS P orc) {F : Nat} {f0 : FuncId} {args0 : List Value} {H0 : Hp} {v : Value} (he : fitE (evalCall P orc F f0 args0 H0) v H0 = true) : OrcS P (orcE f0 args0 H0 v) := by
  intro f args H v2 H2 h s w a' hR ha c cs
  unfold orcE at h
  split at h
  · rename_i hq
    split at h
    · rename_i hq2
      cases h
      obtain ⟨q1, q3⟩ := and2 hq
      obtain ⟨q2, q4⟩ := and2 hq2
      have q1 := Nat.eq_of_beq_eq_true q1
      have q2 := sameK_eq q2
      have q3 := Nat.eq_of_beq_eq_true q3
      have q4 := sameHL_eq q4
      have hH : H = H0 := by cases H; cases H0; simp only at q3 q4; rw [q3, q4]
      subst q1 q2 hH
      unfold fitE at he
      split at he
      · rename_i u H' hev
        obtain ⟨e1, e2, e3⟩ := and3 he
        obtain ⟨e3, e4, e5⟩ := and3 e3
        have e1 := same1_eq e1
        subst e1
        have e3 := Nat.le_of_ble_eq_true e3
        rw [dropN_eq] at e4
        have hc := (call_sound hm hO hev hR ha).mono (R' := fun e w' => ∃ v', e = .returned v' ∧ ∃ s', V s' u v' ∧ Post P s H w s' H' w') (by rintro e w' ⟨s', v', h1, h2, h3⟩; exact ⟨v', h1, s', h2, h3⟩)
        obtain ⟨v', w', k1, s', k2, k3⟩ := calls_back hc c cs
        have e6 := clo_V e2 k2
        subst e6
        have hget : ∀ i o b, H.get i = some (o, b) → Live o → H'.get i = some (o, b) := fun i o b h1 h2 => by
          have hi := Hp.get_lt h1
          rw [Hp.get_eq, if_pos hi] at h1
          rw [Hp.get_eq, if_pos (by omega)]
          have := fitL_get e4 h1 h2
          rw [List.getElem?_drop] at this
          rw [show H'.n - 1 - i = H'.n - H.n + (H.n - 1 - i) by omega]
          exact this
        refine ⟨s, v', w', k1, clo_self e2, Sg.le.refl s, fun _ _ e => .inl e, Nat.le_refl _, k3.keep, k3.size, k3.os, k3.tape, k3.output, fun _ o b _ h1 h2 => ⟨o, b, h1, h2⟩, fun _ _ _ => rfl, ⟨hR.ok, hR.dom, ?_, hR.inj, hR.base⟩⟩
        intro i o b x h1 h2 h3
        obtain ⟨o0, g1, g2⟩ := hR.obj i o b x h1 h2 h3
        obtain ⟨o', g3, g4⟩ := k3.rel.obj i o b x (hget i o b h1 h2) h2 (k3.le _ _ h3)
        have hmem : (o, b) ∈ H.l := by
          rw [Hp.get_eq] at h1
          split at h1
          · exact List.mem_of_getElem? h1
          · cases h1
        exact ⟨o', g3, OR.back k3.le (keepL_mem e5 hmem) g2 g4⟩
      · cases he
    · cases h
  · cases h
end Go.Ev
