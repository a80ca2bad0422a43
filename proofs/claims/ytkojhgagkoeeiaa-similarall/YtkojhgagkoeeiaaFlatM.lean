/- Flat, in plain terms: the nodes by their numbers; what is told of each while the tree is gone through. -/
import Derived.Test.YtkojhgagkoeeiaaStM
set_option linter.unusedVariables false
set_option linter.unusedSimpArgs false
namespace Go.Proofs.Ytkojhgagkoeeiaa.M
open Go.Deep

/-- a node, by its number -/
structure Im where
  p : Int
  z : Int
  dp : Nat
  h : Int
  pl : Nat
  d : Nd
/-- a parent's number -/
def par (up : List St) : Int := match up.getLast? with | some t => t.id | none => -1
/-- a node that is left is counted in its parent -/
def cnt (y x : Im) : Im := { x with z := IntKind.i64.wrap (x.z + y.z), h := max x.h (IntKind.i64.wrap (y.h + 1)) }
def tell (l : List Im) (id : Nat) : List Im := match l[id]? with | none => l | some y => if y.p = -1 then l else l.modify y.p.toNat (cnt y)
def stepI (l : List Im) (x : Tl) : List Im := match x.way.getLast? with
  | none => l
  | some s => if x.left then tell l s.id else l ++ [⟨par x.way.dropLast, 1, x.way.length - 1, 1, s.place, s.d⟩]
/-- what is known when so much was told -/
def runs (l : List Im) (e : List Tl) : List Im := e.foldl stepI l
theorem runs_append (l : List Im) (a b : List Tl) : runs l (a ++ b) = runs (runs l a) b := by simp [runs]
theorem runs_cons (l : List Im) (x : Tl) (b : List Tl) : runs l (x :: b) = runs (stepI l x) b := rfl
theorem runs_nil (l : List Im) : runs l [] = l := rfl
theorem step_come (l : List Im) (up : List St) (s : St) : stepI l ⟨up ++ [s], false⟩ = l ++ [⟨par up, 1, up.length, 1, s.place, s.d⟩] := by
  simp [stepI]
theorem step_left (l : List Im) (up : List St) (s : St) : stepI l ⟨up ++ [s], true⟩ = tell l s.id := by simp [stepI]
theorem tell_len (l : List Im) (id : Nat) : (tell l id).length = l.length := by
  unfold tell
  split
  · rfl
  · split
    · rfl
    · simp

/-- the nodes by their numbers -/
def flatF : Int → Nat → Nat → Nat → F → List Im
  | _, _, _, _, .nil => []
  | p, dp, pl, id, .node _ _ d k r => ⟨p, k.size + 1, dp, k.depth + 1, pl, d⟩ :: (flatF id (dp + 1) 0 (id + 1) k ++ flatF p dp (pl + 1) (id + 1 + k.size) r)
def flatT (d : Nd) (k : F) : List Im := ⟨-1, k.size + 1, 0, k.depth + 1, 0, d⟩ :: flatF 0 1 0 1 k
theorem flatF_len : ∀ (f : F) (p : Int) (dp pl id : Nat), (flatF p dp pl id f).length = f.size
  | .nil, _, _, _, _ => rfl
  | .node _ _ d k r, p, dp, pl, id => by simp [flatF, BT.size, flatF_len k, flatF_len r]; omega
theorem flatT_len (d : Nd) (k : F) : (flatT d k).length = k.size + 1 := by simp [flatT, flatF_len]

theorem wrap_id {x : Int} (h : -4611686018427387904 ≤ x) (h2 : x ≤ 4611686018427387904) : IntKind.i64.wrap x = x := by
  unfold IntKind.wrap; simp [IntKind.bits, IntKind.signed]; omega

theorem mod_left {L M : List Im} {i : Nat} (h : i < L.length) (f : Im → Im) : (L ++ M).modify i f = L.modify i f ++ M := by
  apply List.ext_getElem?
  intro j
  rw [List.getElem?_modify, List.getElem?_append, List.getElem?_append, List.length_modify, List.getElem?_modify]
  by_cases hj : j < L.length
  · simp [hj]
  · simp [hj, show ¬ i = j by omega]
theorem mod_last (L : List Im) (y : Im) (f : Im → Im) : (L ++ [y]).modify L.length f = L ++ [f y] := by
  apply List.ext_getElem?
  intro j
  rw [List.getElem?_modify, List.getElem?_append, List.getElem?_append]
  by_cases hj : j < L.length
  · simp [hj, show ¬ L.length = j by omega]
  · by_cases h2 : L.length = j
    · subst h2; simp
    · simp [hj, h2]; rw [List.getElem?_eq_none (by simp; omega), List.getElem?_eq_none (by simp; omega)]
theorem mod_twice {L : List Im} {i : Nat} {x : Im} (hx : L[i]? = some x) {f g h : Im → Im} (e : g (f x) = h x) : (L.modify i f).modify i g = L.modify i h := by
  apply List.ext_getElem?
  intro j
  rw [List.getElem?_modify, List.getElem?_modify, List.getElem?_modify]
  by_cases hj : i = j
  · subst hj; rw [hx]; simp [e]
  · simp [hj]

/-- trees whose parent is number q -/
theorem runs_evF : ∀ (f : F) (up : List St) (t : St) (L : List Im) (x : Im) (pl : Nat), L[t.id]? = some x → 1 ≤ x.h → 0 ≤ x.z → x.z + f.size ≤ 1000000000000 → f.depth ≤ 1000000000 →
    runs L (evF (up ++ [t]) f L.length pl) = L.modify t.id (fun x => { x with z := x.z + f.size, h := max x.h (f.depth + 1) }) ++ flatF t.id (up.length + 1) pl L.length f
  | .nil, up, t, L, x, pl, hx, h1, _, _, _ => by
    rw [evF, runs_nil, flatF, List.append_nil]
    apply List.ext_getElem?
    intro i
    rw [List.getElem?_modify]
    by_cases hi : t.id = i
    · subst hi
      rw [hx]
      simp only [Option.map_some, if_true, BT.size, BT.depth]
      congr 1
      obtain ⟨p, z, dp, h, pl', d⟩ := x
      simp only at h1 ⊢
      congr 1
      · simp
      · simp; omega
    · simp [hi]
  | .node xb xo d k r, up, t, L, x, pl, hx, h1, h2, h3, h4 => by
    have hlt : t.id < L.length := (List.getElem?_eq_some_iff.1 hx).1
    have hsz : (BT.node xb xo d k r).size = 1 + k.size + r.size := rfl
    have hdp : (BT.node xb xo d k r).depth = max (k.depth + 1) r.depth := rfl
    rw [hsz] at h3 ⊢
    rw [hdp] at h4 ⊢
    rw [evF, runs_cons, step_come, runs_append, runs_cons]
    have hpar : par (up ++ [t]) = t.id := by simp [par]
    rw [hpar]
    have hL1 : (L ++ [(⟨t.id, 1, (up ++ [t]).length, 1, pl, d⟩ : Im)]).length = L.length + 1 := by simp
    have ih1 := runs_evF k (up ++ [t]) ⟨d, k, L.length, pl⟩ (L ++ [⟨t.id, 1, (up ++ [t]).length, 1, pl, d⟩]) ⟨t.id, 1, (up ++ [t]).length, 1, pl, d⟩ 0 (by simp) (by show (1:Int) ≤ 1; omega) (by show (0:Int) ≤ 1; omega) (by show (1:Int) + _ ≤ _; omega) (by omega)
    rw [hL1] at ih1
    rw [ih1]
    have hm1 : (L ++ [(⟨t.id, 1, (up ++ [t]).length, 1, pl, d⟩ : Im)]).modify L.length (fun x => { x with z := x.z + k.size, h := max x.h (k.depth + 1) }) = L ++ [⟨t.id, k.size + 1, (up ++ [t]).length, k.depth + 1, pl, d⟩] := by
      rw [mod_last]
      congr 2
      simp only [Im.mk.injEq, and_true, true_and]
      omega
    dsimp only
    rw [hm1, step_left]
    dsimp only
    obtain ⟨y, hy⟩ : ∃ y : Im, (⟨t.id, k.size + 1, (up ++ [t]).length, k.depth + 1, pl, d⟩ : Im) = y := ⟨_, rfl⟩
    obtain ⟨M, hM⟩ : ∃ M, flatF (L.length : Nat) ((up ++ [t]).length + 1) 0 (L.length + 1) k = M := ⟨_, rfl⟩
    have hMl : M.length = k.size := by rw [← hM, flatF_len]
    rw [hy, hM]
    have hget : ((L ++ [y]) ++ M)[L.length]? = some y := by
      rw [List.append_assoc, List.getElem?_append_right (by omega)]
      simp
    have hyp : y.p = t.id := by rw [← hy]
    have ht : tell ((L ++ [y]) ++ M) L.length = L.modify t.id (cnt y) ++ ([y] ++ M) := by
      unfold tell
      rw [hget]
      dsimp only
      rw [if_neg (by rw [hyp]; omega), hyp, Int.toNat_natCast, List.append_assoc, mod_left hlt]
    rw [ht]
    have hx3 : (L.modify t.id (cnt y) ++ ([y] ++ M))[t.id]? = some (cnt y x) := by
      rw [List.getElem?_append_left (by rw [List.length_modify]; exact hlt), List.getElem?_modify, hx]
      simp
    have hc : cnt y x = { x with z := x.z + (k.size + 1), h := max x.h (k.depth + 2) } := by
      unfold cnt
      rw [← hy]
      dsimp only
      rw [wrap_id (by omega) (by omega), wrap_id (by omega) (by omega)]
      congr 2
    have hl3 : (L.modify t.id (cnt y) ++ ([y] ++ M)).length = L.length + 1 + k.size := by simp [hMl]; omega
    have ih2 := runs_evF r up t (L.modify t.id (cnt y) ++ ([y] ++ M)) (cnt y x) (pl + 1) hx3 (by rw [hc]; dsimp only; omega) (by rw [hc]; dsimp only; omega) (by rw [hc]; dsimp only; omega) (by omega)
    rw [hl3] at ih2
    rw [ih2, mod_left (by rw [List.length_modify]; exact hlt)]
    rw [mod_twice hx (h := fun x => { x with z := x.z + (1 + k.size + r.size : Nat), h := max x.h ((max (k.depth + 1) r.depth : Nat) + 1) }) (by
      rw [hc]
      dsimp only
      congr 1
      · omega
      · omega)]
    rw [List.append_assoc, flatF]
    rw [← hy, ← hM]
    simp

theorem runs_evT (d : Nd) (k : F) (hk : k.size ≤ 1000000000) (hd : k.depth ≤ 100000000) : runs [] (evT d k) = flatT d k := by
  have e : evT d k = ⟨[] ++ [⟨d, k, 0, 0⟩], false⟩ :: (evF ([] ++ [⟨d, k, 0, 0⟩]) k 1 0 ++ [⟨[] ++ [⟨d, k, 0, 0⟩], true⟩]) := by simp [evT, evF]
  rw [e, runs_cons, step_come, runs_append, runs_cons, runs_nil]
  have h := runs_evF k [] ⟨d, k, 0, 0⟩ (([] : List Im) ++ [(⟨par [], 1, ([] : List St).length, 1, 0, d⟩ : Im)]) ⟨-1, 1, 0, 1, 0, d⟩ 0 rfl (by show (1:Int) ≤ 1; omega) (by show (0:Int) ≤ 1; omega) (by show (1:Int) + _ ≤ _; omega) (by omega)
  have hl : (([] : List Im) ++ [(⟨par [], 1, ([] : List St).length, 1, 0, d⟩ : Im)]).length = 1 := rfl
  rw [hl] at h
  rw [h, step_left]
  have e2 : (([] : List Im) ++ [(⟨par [], 1, ([] : List St).length, 1, 0, d⟩ : Im)]).modify 0 (fun x => { x with z := x.z + k.size, h := max x.h (k.depth + 1) }) = [⟨-1, k.size + 1, 0, k.depth + 1, 0, d⟩] := by
    show [(⟨-1, (1:Int) + k.size, 0, max (1:Int) (k.depth + 1), 0, d⟩ : Im)] = _
    congr 2
    · omega
    · omega
  rw [e2]
  rfl

/-- which numbers are told: n nodes were come to before -/
def WFe : Nat → List Tl → Prop
  | _, [] => True
  | n, x :: l => (∃ up s, x.way = up ++ [s] ∧ ((x.left = false ∧ s.id = n ∧ (∀ t, up.getLast? = some t → t.id < n) ∧ WFe (n + 1) l) ∨ (x.left = true ∧ s.id < n ∧ WFe n l)))
/-- how many are come to -/
def comes (l : List Tl) : Nat := (l.filter (fun x => !x.left)).length
theorem WFe_append : ∀ (a b : List Tl) (n : Nat), WFe n a → WFe (n + comes a) b → WFe n (a ++ b)
  | [], b, n, _, h => h
  | x :: a, b, n, ha, hb => by
    obtain ⟨up, s, e, h | h⟩ := ha
    · refine ⟨up, s, e, .inl ⟨h.1, h.2.1, h.2.2.1, WFe_append a b _ h.2.2.2 ?_⟩⟩
      have : comes (x :: a) = comes a + 1 := by simp [comes, h.1]
      rw [this] at hb
      rw [show n + 1 + comes a = n + (comes a + 1) by omega]
      exact hb
    · refine ⟨up, s, e, .inr ⟨h.1, h.2.1, WFe_append a b _ h.2.2 ?_⟩⟩
      have : comes (x :: a) = comes a := by simp [comes, h.1]
      rw [this] at hb
      exact hb
theorem comes_evF : ∀ (f : F) (up : List St) (id pl : Nat), comes (evF up f id pl) = f.size
  | .nil, _, _, _ => rfl
  | .node xb xo d k r, up, id, pl => by
    have h1 := comes_evF k (up ++ [⟨d, k, id, pl⟩]) (id + 1) 0
    have h2 := comes_evF r up (id + 1 + k.size) (pl + 1)
    simp only [comes, evF] at h1 h2 ⊢
    simp [h1, h2, BT.size]
    omega
theorem WFe_evF : ∀ (f : F) (up : List St) (id pl : Nat), (∀ t, up.getLast? = some t → t.id < id) → WFe id (evF up f id pl)
  | .nil, _, _, _, _ => trivial
  | .node xb xo d k r, up, id, pl, h => by
    refine ⟨up, _, rfl, .inl ⟨rfl, rfl, h, WFe_append _ _ _ (WFe_evF k _ _ _ (fun t ht => ?_)) ⟨up, _, rfl, .inr ⟨rfl, ?_, ?_⟩⟩⟩⟩
    · simp at ht; subst ht; exact Nat.lt_succ_self _
    · show id < id + 1 + _; omega
    · rw [comes_evF]
      exact WFe_evF r up _ _ (fun t ht => by have := h t ht; omega)
theorem WFe_evT (d : Nd) (k : F) : WFe 0 (evT d k) := WFe_evF _ _ _ _ (fun t ht => by cases ht)
/-- parents stand ahead -/
def Ahead (l : List Im) : Prop := ∀ (i : Nat) (y : Im), l[i]? = some y → y.p = -1 ∨ (0 ≤ y.p ∧ y.p < i)
theorem ahead_tell {l : List Im} (h : Ahead l) (id : Nat) : Ahead (tell l id) := by
  unfold tell
  split
  · exact h
  · split
    · exact h
    · intro i y hy
      rw [List.getElem?_modify] at hy
      cases hl : l[i]? with
      | none => rw [hl] at hy; cases hy
      | some u =>
        rw [hl] at hy
        have hu := h i u hl
        simp only [Option.map_eq_map, Option.map_some, Option.some.injEq] at hy
        subst hy
        split
        · exact hu
        · exact hu
theorem runs_ok : ∀ (e : List Tl) (l : List Im), WFe l.length e → Ahead l → ∀ pre x post, e = pre ++ x :: post →
    Ahead (runs l pre) ∧ ∃ up s, x.way = up ++ [s] ∧ ((x.left = false ∧ s.id = (runs l pre).length ∧ (∀ t, up.getLast? = some t → t.id < (runs l pre).length)) ∨ (x.left = true ∧ s.id < (runs l pre).length))
  | e, l, hw, ha, [], x, post, he => by
    subst he
    obtain ⟨up, s, e, h | h⟩ := hw
    · exact ⟨ha, up, s, e, .inl ⟨h.1, h.2.1, h.2.2.1⟩⟩
    · exact ⟨ha, up, s, e, .inr ⟨h.1, h.2.1⟩⟩
  | e, l, hw, ha, y :: pre, x, post, he => by
    subst he
    obtain ⟨up, s, e, h | h⟩ := hw
    · obtain ⟨yw, yl⟩ := y
      have e' : yw = up ++ [s] := e
      subst e'
      have e2 : yl = _ := h.1
      subst e2
      rw [runs_cons]
      refine runs_ok (pre ++ x :: post) _ ?_ ?_ pre x post rfl
      · rw [step_come]; simpa using h.2.2.2
      · rw [step_come]
        intro i y hy
        rw [List.getElem?_append] at hy
        split at hy
        · exact ha i y hy
        · rename_i hi
          have hi0 : i - l.length = 0 := by
            cases hq : i - l.length with
            | zero => rfl
            | succ q => rw [hq] at hy; simp at hy
          rw [hi0] at hy
          simp at hy
          subst hy
          unfold par
          cases hu : up.getLast? with
          | none => exact .inl rfl
          | some t => have := h.2.2.1 t hu; exact .inr ⟨by dsimp only; omega, by dsimp only; omega⟩
    · obtain ⟨yw, yl⟩ := y
      have e' : yw = up ++ [s] := e
      subst e'
      have e2 : yl = _ := h.1
      subst e2
      rw [runs_cons]
      refine runs_ok (pre ++ x :: post) _ ?_ ?_ pre x post rfl
      · rw [step_left, tell_len]; exact h.2.2
      · rw [step_left]; exact ahead_tell ha _
theorem last_slots : ∀ (f : F) (up : List St) (id pl : Nat) (x : Tl), x ∈ evF up f id pl → ∀ s, x.way.getLast? = some s → s.d.ats.length ≤ f.slots
  | .nil, _, _, _, x, hx, _, _ => by cases hx
  | .node xb xo d k r, up, id, pl, x, hx, s, hs => by
    have hz : (BT.node xb xo d k r).slots = d.ats.length + k.slots + r.slots := rfl
    rw [evF] at hx
    rcases List.mem_cons.1 hx with rfl | hx
    · simp at hs; subst hs; rw [hz]; dsimp only; omega
    · rcases List.mem_append.1 hx with hx | hx
      · have := last_slots k _ _ _ x hx s hs; rw [hz]; omega
      · rcases List.mem_cons.1 hx with rfl | hx
        · simp at hs; subst hs; rw [hz]; dsimp only; omega
        · have := last_slots r _ _ _ x hx s hs; rw [hz]; omega
theorem last_slotsT (d : Nd) (k : F) (x : Tl) (hx : x ∈ evT d k) (s : St) (hs : x.way.getLast? = some s) : s.d.ats.length ≤ d.ats.length + k.slots := by
  have := last_slots _ _ _ _ x hx s hs
  simpa [BT.slots] using this
theorem step_len (l : List Im) (x : Tl) : (stepI l x).length ≤ l.length + 1 := by
  unfold stepI
  split
  · omega
  · split
    · rw [tell_len]; omega
    · simp
theorem runs_len : ∀ (e : List Tl) (l : List Im), (runs l e).length ≤ l.length + e.length
  | [], l => by simp [runs]
  | x :: e, l => by
    have h1 := runs_len e (stepI l x)
    have h2 := step_len l x
    rw [runs_cons]
    simp only [List.length_cons]
    omega
end Go.Proofs.Ytkojhgagkoeeiaa.M
