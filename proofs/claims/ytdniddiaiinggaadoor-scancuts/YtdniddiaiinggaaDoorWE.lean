/- A source, and another one behind a whole tag: the pieces of both (plain, for ScanCuts). -/
import Derived.Test.YtdniddiaiinggaaDoorWC
set_option linter.unusedVariables false
namespace Go.Proofs.YtdniddiaiinggaaDoor
open Go.RowKit M

/-- the place behind pieces, and the raw element -/
def endp : Nat → List Pc → Nat
  | k, [] => k
  | _, p :: r => endp p.E r
def endr : List UInt8 → List Pc → List UInt8
  | raw, [] => raw
  | raw, p :: r => endr (rawB p.t raw) r
theorem TrF.app {l : List UInt8} : ∀ (t1 t2 : List Pc) (k : Nat) (raw : List UInt8), TrF l k raw (t1 ++ t2) ↔ TrF l k raw t1 ∧ TrF l (endp k t1) (endr raw t1) t2
  | [], t2, k, raw => ⟨fun h => ⟨trivial, h⟩, fun h => h.2⟩
  | p :: r, t2, k, raw => by
    show (StpR l k raw p ∧ TrF l p.E (rawB p.t raw) (r ++ t2)) ↔ (StpR l k raw p ∧ TrF l p.E (rawB p.t raw) r) ∧ _
    rw [TrF.app r t2 p.E (rawB p.t raw)]
    exact ⟨fun h => ⟨⟨h.1, h.2.1⟩, h.2.2⟩, fun h => ⟨h.1.1, h.1.2, h.2⟩⟩
theorem stp_nx {l : List UInt8} {k : Nat} {raw : List UInt8} {p : Pc} (h : StpR l k raw p) (h6 : p.t.kd ≠ 6) : k < l.length ∧ NxR l k raw p.t p.E p.ok := by
  unfold StpR at h
  split at h
  · rename_i g
    exact ⟨g, h⟩
  · exact absurd h.1.kd h6
theorem endp_ge {l : List UInt8} : ∀ (tr : List Pc) (k : Nat) (raw : List UInt8), TrF l k raw tr → (∀ y ∈ tr, y.t.kd ≠ 6) → k ≤ endp k tr
  | [], k, _, _, _ => Nat.le_refl _
  | p :: r, k, raw, h, h6 => by
    obtain ⟨g1, g2⟩ := stp_nx h.1 (h6 p (by simp))
    have := (g2.goes g1).gt
    have := endp_ge r p.E (rawB p.t raw) h.2 (fun y hy => h6 y (List.mem_cons_of_mem _ hy))
    show k ≤ endp p.E r
    omega
theorem ag_tr {N : Nat} {l l' : List UInt8} (h : Ag N l l') (hQ : ∀ k, l.drop k ≠ [60, 47]) (hend : ∀ raw, RawOK raw → raw ≠ [] → ∀ j, j < N → endT (lwL raw) (l'.drop j) = endT (lwL raw) (l.drop j)) :
    ∀ (tr : List Pc) (k : Nat) (raw : List UInt8), RawOK raw → TrF l k raw tr → (∀ y ∈ tr, y.t.kd ≠ 6) → endp k tr < N → TrF l' k raw tr
  | [], _, _, _, _, _, _ => trivial
  | p :: r, k, raw, hr, ht, h6, hE => by
    obtain ⟨g1, g2⟩ := stp_nx ht.1 (h6 p (by simp))
    have g3 := g2.goes g1
    have hr6 : ∀ y ∈ r, y.t.kd ≠ 6 := fun y hy => h6 y (List.mem_cons_of_mem _ hy)
    have g4 := endp_ge r p.E (rawB p.t raw) ht.2 hr6
    have hE' : endp p.E r < N := hE
    have h5 := h.nx g2 g3.gt (by omega) (hQ k) (fun e => hend raw hr e)
    refine ⟨?_, ag_tr h hQ hend r p.E (rawB p.t raw) (hr.behind p.t) ht.2 hr6 hE'⟩
    unfold StpR
    have := h.le'
    have := g3.gt
    rw [if_pos (by omega)]
    exact h5
theorem tr_pre {l : List UInt8} {x : Pc} (h6 : x.t.kd = 6) : ∀ (pre tr : List Pc) (k : Nat) (raw : List UInt8), TrF l k raw pre → TrF l k raw (tr ++ [x]) → (∀ y ∈ pre, y.t.kd ≠ 6) → pre <+: tr
  | [], tr, _, _, _, _, _ => ⟨tr, rfl⟩
  | p :: r, [], k, raw, h, h', hn => by
    have e : x = p := StpR.one h.1 h'.1
    exact absurd (by rw [← e]; exact h6) (hn p (by simp))
  | p :: r, q :: r', k, raw, h, h', hn => by
    have e : q = p := StpR.one h.1 h'.1
    subst e
    obtain ⟨z, hz⟩ := tr_pre h6 r r' _ _ h.2 h'.2 (fun y hy => hn y (List.mem_cons_of_mem _ hy))
    exact ⟨z, by rw [← hz]; rfl⟩
theorem sayd_app (a b : List Pc) : sayd (a ++ b) = sayd a ++ sayd b := by unfold sayd; rw [List.filter_append, List.map_append]
theorem sayd_sh (m : Nat) : ∀ tr : List Pc, sayd (tr.map (shP m)) = sayd tr
  | [] => rfl
  | p :: r => by
    have ih := sayd_sh m r
    have e1 : ∀ (q : Pc) (s : List Pc), sayd (q :: s) = (if q.ok = true then [q.t] else []) ++ sayd s := by
      intro q s
      have := sayd_app [q] s
      rw [List.singleton_append] at this
      rw [this]
      congr 1
      unfold sayd
      cases ho : q.ok <;> simp [ho]
    rw [List.map_cons, e1, e1, ih]
    rfl
/-- the raw element that is open behind tokens -/
def rawT (ts : List Tk) : List UInt8 := ts.foldl (fun r t => rawB t r) []
theorem endr_say {l : List UInt8} : ∀ (tr : List Pc) (k : Nat) (raw : List UInt8), TrF l k raw tr → (∀ y ∈ tr, y.t.kd ≠ 6) → endr raw tr = (sayd tr).foldl (fun r t => rawB t r) raw
  | [], _, _, _, _ => rfl
  | p :: r, k, raw, h, h6 => by
    obtain ⟨g1, g2⟩ := stp_nx h.1 (h6 p (by simp))
    have ih := endr_say r p.E (rawB p.t raw) h.2 (fun y hy => h6 y (List.mem_cons_of_mem _ hy))
    show endr (rawB p.t raw) r = _
    rw [ih]
    cases ho : p.ok
    · have h0 := ((g2.goes g1).no ho).kd
      have e : rawB p.t raw = raw := by
        unfold rawB
        rw [h0]
        simp
      have e2 : sayd (p :: r) = sayd r := by unfold sayd; simp [ho]
      rw [e, e2]
    · have e2 : sayd (p :: r) = p.t :: sayd r := by unfold sayd; simp [ho]
      rw [e2]; rfl

theorem lw_at {l : List UInt8} {j : Nat} (h : j < l.length) : bAt (lwL l) j = lw (bAt l j) := by
  rw [bAt_in (by rw [lwL_len]; exact h), bAt_in h]
  simp [lwL]
theorem stp60 : stp [47, 62] 60 = false := rfl
/-- the end of a raw element does not hang on what stands behind -/
theorem end_more {L u v : List UInt8} (h0 : u ≠ []) (h : (u.getLast? = some 62 ∧ (62 : UInt8) ∉ L) ∨ (∃ v', v = 60 :: v' ∧ (60 : UInt8) ∉ L)) : endT L (u ++ v) = endT L u := by
  by_cases hl : L.length + 2 < u.length
  · unfold endT
    have e1 : (60 :: 47 :: L).isPrefixOf (lwL (u ++ v)) = (60 :: 47 :: L).isPrefixOf (lwL u) := by
      rw [← pre_take (60 :: 47 :: L) (lwL (u ++ v)) (Nat.le_refl _), ← pre_take (60 :: 47 :: L) (lwL u) (Nat.le_refl _)]
      have e2 : lwL (u ++ v) = lwL u ++ lwL v := by unfold lwL; rw [List.map_append]
      rw [e2, List.take_append_of_le_length (by rw [lwL_len]; simp; omega)]
    rw [e1, bAt_app hl, decide_eq_true hl, decide_eq_true (by rw [List.length_append]; omega)]
  · have ef : endT L u = false := by
      unfold endT
      rw [decide_eq_false hl, Bool.and_false, Bool.false_and]
    rw [ef]
    rw [Bool.eq_false_iff]
    intro e
    unfold endT at e
    rw [Bool.and_eq_true, Bool.and_eq_true] at e
    obtain ⟨⟨e1, e2⟩, e3⟩ := e
    obtain ⟨q, hq⟩ := List.isPrefixOf_iff_prefix.1 e1
    have hul : 0 < u.length := List.length_pos_iff.2 h0
    -- the sign at a place of the pattern
    have hat : ∀ j, j < L.length + 2 → j < (u ++ v).length → bAt (60 :: 47 :: L) j = lw (bAt (u ++ v) j) := by
      intro j hj hj2
      have e5 : bAt (lwL (u ++ v)) j = lw (bAt (u ++ v) j) := lw_at hj2
      rw [← e5, ← hq, bAt_app (by simp; omega)]
    have hin : ∀ j, 0 < j → j < L.length + 2 → ∀ c : UInt8, c ∉ L → c ≠ 47 → bAt (60 :: 47 :: L) j ≠ c := by
      intro j hj1 hj2 c hc h47 hb
      cases j with
      | zero => omega
      | succ j =>
        cases j with
        | zero => exact h47 hb.symm
        | succ j =>
          have e6 : bAt (60 :: 47 :: L) (j + 1 + 1) = bAt L j := rfl
          rw [e6, bAt_in (by omega : j < L.length)] at hb
          exact hc (hb ▸ List.getElem_mem _)
    rcases h with ⟨h62, hn⟩ | ⟨v', rfl, hn⟩
    · have e7 : bAt (u ++ v) (u.length - 1) = 62 := by
        rw [bAt_app (by omega)]
        rw [List.getLast?_eq_getElem?] at h62
        unfold bAt
        rw [List.getD_eq_getElem?_getD, h62]; rfl
      have e8 := hat (u.length - 1) (by omega) (by rw [List.length_append]; omega)
      rw [e7] at e8
      by_cases h1 : u.length - 1 = 0
      · rw [h1] at e8
        have e9 : (60 : UInt8) = lw 62 := e8
        exact absurd e9 (by decide)
      · exact hin (u.length - 1) (by omega) (by omega) 62 hn (by decide) e8
    · have e7 : bAt (u ++ 60 :: v') u.length = 60 := by
        have := bAt_app2 (a := u) (b := 60 :: v') (j := 0)
        rw [Nat.add_zero] at this
        rw [this]; rfl
      by_cases h1 : u.length = L.length + 2
      · rw [← h1, e7, stp60] at e3
        cases e3
      · have e8 := hat u.length (by omega) (by rw [List.length_append]; simp)
        rw [e7] at e8
        exact hin u.length hul (by omega) 60 hn (by decide) e8
theorem raw_signs {raw : List UInt8} (h : RawOK raw) (h0 : raw ≠ []) : (60 : UInt8) ∉ lwL raw ∧ (62 : UInt8) ∉ lwL raw := by
  have h1 := h.is.resolve_left h0
  unfold rawN at h1
  split at h1
  · rename_i g
    simp at g
    rcases g with rfl | rfl <;> decide
  split at h1
  · rename_i g
    simp at g
    rcases g with rfl | rfl | rfl | rfl | rfl | rfl <;> decide
  · exact absurd rfl h1

/-- an end tag is one, wherever it stands -/
theorem nx_two {l : List UInt8} {k : Nat} {raw : List UInt8} {t : Tk} {E : Nat} {ok : Bool} (h : NxR l k raw t E ok) (hk : k < l.length) (h2 : t.kd = 2) :
    (TagR l (k + 2) 2 t E ok ∧ bAt l k = 60 ∧ ltrAt l (k + 1) = false ∧ [60, 47].isPrefixOf (l.drop k) = true ∧ ltrAt l (k + 2) = true) ∧ (raw ≠ [] → endT (lwL raw) (l.drop k) = true) := by
  have key : NxN l k t E ok → TagR l (k + 2) 2 t E ok ∧ bAt l k = 60 ∧ ltrAt l (k + 1) = false ∧ [60, 47].isPrefixOf (l.drop k) = true ∧ ltrAt l (k + 2) = true := by
    intro hN
    unfold NxN at hN
    split at hN
    · rename_i g0
      unfold OpR at hN
      split at hN
      · rcases hN.is with ⟨_, b, _⟩ | ⟨_, b, _⟩ <;> (rw [b.kd] at h2; exact absurd h2 (by decide))
      rename_i g1
      split at hN
      · rename_i g
        rw [Bool.and_eq_true] at g
        exact ⟨hN, g0, by simpa using g1, g.1, g.2⟩
      split at hN
      · have := hN.1.kd; rw [h2] at this; exact absurd this (by decide)
      split at hN
      · obtain ⟨T, _, b, _⟩ := hN
        rw [b.kd] at h2; exact absurd h2 (by decide)
      split at hN
      · have := hN.1.kd; rw [h2] at this; exact absurd this (by decide)
      split at hN
      · have := hN.1.kd; rw [h2] at this; exact absurd this (by decide)
      split at hN
      · have := hN.1.kd; rw [h2] at this; exact absurd this (by decide)
      · have := hN.1.kd; rw [h2] at this; exact absurd this (by decide)
    · have := hN.1.kd; rw [h2] at this; exact absurd this (by decide)
  unfold NxR at h
  split at h
  · rename_i g
    exact ⟨key h, fun e => absurd g e⟩
  · obtain ⟨B, hB, h⟩ := h
    split at h
    · have := h.1.kd; rw [h2] at this; exact absurd this (by decide)
    · rename_i g
      refine ⟨key h, fun _ => ?_⟩
      have e : B = k := by have := hB.ge; omega
      have := hB.at_ (by omega)
      rw [e] at this
      exact this
theorem nx_two_mk {l : List UInt8} {k : Nat} {raw : List UInt8} {t : Tk} {E : Nat} {ok : Bool} (hk : k < l.length) (h : (TagR l (k + 2) 2 t E ok ∧ bAt l k = 60 ∧ ltrAt l (k + 1) = false ∧ [60, 47].isPrefixOf (l.drop k) = true ∧ ltrAt l (k + 2) = true) ∧ (raw ≠ [] → endT (lwL raw) (l.drop k) = true)) : NxR l k raw t E ok := by
  obtain ⟨⟨h1, h2, h3, h4, h5⟩, h6⟩ := h
  have key : NxN l k t E ok := by
    unfold NxN
    rw [if_pos h2]
    unfold OpR
    rw [h3, h4, h5, if_neg (by simp), if_pos (by rfl)]
    exact h1
  unfold NxR
  by_cases g : raw = []
  · rw [if_pos g]; exact key
  · rw [if_neg g]
    refine ⟨k, ⟨Nat.le_refl _, Nat.le_of_lt hk, fun j h7 h8 => by omega, fun _ => h6 g⟩, ?_⟩
    rw [if_neg (Nat.lt_irrefl _)]
    exact key
/-- what says nothing begins with the sign of a tag -/
theorem nx_no {l : List UInt8} {k : Nat} {raw : List UInt8} {t : Tk} {E : Nat} (h : NxR l k raw t E false) : bAt l k = 60 ∧ OpR l k t E false := by
  have key : NxN l k t E false → bAt l k = 60 ∧ OpR l k t E false := by
    intro hN
    unfold NxN at hN
    split at hN
    · rename_i g
      exact ⟨g, hN⟩
    · cases hN.2.2
  unfold NxR at h
  split at h
  · exact key h
  · obtain ⟨B, hB, h⟩ := h
    split at h
    · cases h.2.2
    · exact key h

def cut4 : List UInt8 := [60, 47, 98, 62]
theorem cut_tag : (tagB cut4 2).2 = 3 := by decide
/-- a whole b's end tag says something -/
theorem cut_said {α : List UInt8} {t : Tk} {E : Nat} {ok : Bool} (h : OpR (α ++ cut4) (α.length + 0) t E ok) : ok = true := by
  unfold OpR at h
  rw [Nat.add_assoc, Nat.add_assoc, sh_ltr, sh_ltr, sh_drop, if_neg (by decide), if_pos (by decide)] at h
  have e := (sh_tag (a := α) (b := cut4) (k := 2) (by decide)).1
  rcases h.is with ⟨a1, _⟩ | ⟨_, _, _, a4⟩
  · exfalso
    rw [show α.length + (0 + 2) = α.length + 2 by omega, e, sh_len] at a1
    simp only [cut_tag] at a1
    have : cut4.length = 4 := rfl
    omega
  · exact a4
theorem drop_last {l : List UInt8} {k : Nat} (hk : k < l.length) : (l.drop k).getLast? = l.getLast? := by
  rw [List.getLast?_eq_getElem?, List.getLast?_eq_getElem?, List.length_drop, List.getElem?_drop]
  congr 1
  omega
theorem cut_last (α : List UInt8) : (α ++ cut4).getLast? = some 62 := by simp [cut4]
theorem cut_noQ (α : List UInt8) (k : Nat) : (α ++ cut4).drop k ≠ [60, 47] := by
  intro e
  have hk : k < (α ++ cut4).length := by
    rcases Nat.lt_or_ge k (α ++ cut4).length with h | h
    · exact h
    · rw [List.drop_eq_nil_of_le h] at e; cases e
  have := drop_last hk
  rw [e, cut_last] at this
  exact absurd this (by decide)

/-- the law: the pieces of both -/
theorem cuts_main {α β : List UInt8} {trx tra try_ trz : List Pc} {ex ea ey ez : Pc}
    (hx : TrF (α ++ cut4) 0 [] (trx ++ [ex])) (hx6 : ex.t.kd = 6) (hxn : ∀ y ∈ trx, y.t.kd ≠ 6)
    (ha : TrF α 0 [] (tra ++ [ea])) (ha6 : ea.t.kd = 6) (han : ∀ y ∈ tra, y.t.kd ≠ 6)
    (hy : TrF β 0 [] (try_ ++ [ey])) (hy6 : ey.t.kd = 6) (hyn : ∀ y ∈ try_, y.t.kd ≠ 6)
    (hz : TrF ((α ++ cut4) ++ β) 0 [] (trz ++ [ez])) (hz6 : ez.t.kd = 6) (hzn : ∀ y ∈ trz, y.t.kd ≠ 6)
    (hcount : (sayd trx).length = (sayd tra).length + 1) (hlast : ∃ t, (sayd trx).getLast? = some t ∧ t.kd = 2) (hopen : rawT (sayd trx) = []) :
    sayd trz = sayd trx ++ sayd try_ := by
  have hne : trx ≠ [] := by
    rintro rfl
    simp [sayd] at hcount
  obtain ⟨pre, p, rfl⟩ : ∃ pre p, trx = pre ++ [p] := by
    rcases List.eq_nil_or_concat trx with h | ⟨q, z, h⟩
    · exact absurd h hne
    · exact ⟨q, z, by rw [h, List.concat_eq_append]⟩
  have hpn : ∀ y ∈ pre, y.t.kd ≠ 6 := fun y hy => hxn y (List.mem_append_left _ hy)
  obtain ⟨hx1, hx2⟩ := (TrF.app _ _ _ _).1 hx
  obtain ⟨hpre, hp⟩ := (TrF.app _ _ _ _).1 hx1
  have hp1 : StpR (α ++ cut4) (endp 0 pre) (endr [] pre) p := hp.1
  obtain ⟨hk, hnx⟩ := stp_nx hp1 (hxn p (by simp))
  obtain ⟨k, hke⟩ : ∃ k, endp 0 pre = k := ⟨_, rfl⟩
  obtain ⟨raw, hre⟩ : ∃ raw, endr [] pre = raw := ⟨_, rfl⟩
  rw [hke, hre] at hnx
  rw [hke] at hk
  have hgo := hnx.goes hk
  have hepp : endp 0 (pre ++ [p]) = p.E := by
    have : ∀ (t : List Pc) (k : Nat), endp k (t ++ [p]) = p.E := by
      intro t
      induction t with
      | nil => intro k; rfl
      | cons q r ih => intro k; exact ih q.E
    exact this pre 0
  have hrr : ∀ (t : List Pc) (r : List UInt8), RawOK r → RawOK (endr r t) := by
    intro t
    induction t with
    | nil => intro r h; exact h
    | cons q s ih => intro r h; exact ih _ (h.behind q.t)
  have hrok : RawOK raw := by rw [← hre]; exact hrr pre [] ⟨.inl rfl⟩
  have hpE : p.E = (α ++ cut4).length := by
    have h1 : StpR (α ++ cut4) (endp 0 (pre ++ [p])) (endr [] (pre ++ [p])) ex := hx2.1
    rw [hepp] at h1
    unfold StpR at h1
    split at h1
    · rename_i g
      exact absurd hx6 (h1.goes g).kd
    · have := hgo.le
      omega
  have hQ := cut_noQ α
  have hendA : ∀ raw, RawOK raw → raw ≠ [] → ∀ j, j < (α ++ cut4).length → endT (lwL raw) (((α ++ cut4) ++ β).drop j) = endT (lwL raw) ((α ++ cut4).drop j) := by
    intro raw h1 h2 j hj
    rw [List.drop_append_of_le_length (by omega)]
    refine end_more (fun e => ?_) (.inl ⟨?_, (raw_signs h1 h2).2⟩)
    · have := congrArg List.length e
      rw [List.length_drop] at this
      simp only [List.length_nil] at this
      omega
    · rw [drop_last hj, cut_last]
  have hagZ : Ag (α ++ cut4).length (α ++ cut4) ((α ++ cut4) ++ β) := ⟨by rw [List.take_left, List.take_of_length_le (Nat.le_refl _)], Nat.le_refl _, by rw [List.length_append (bs := β)]; omega⟩
  cases hok : p.ok
  · exfalso
    rw [hok] at hnx
    obtain ⟨h60, hop⟩ := nx_no hnx
    have hkα : k < α.length := by
      rcases Nat.lt_or_ge k α.length with h | h
      · exact h
      · exfalso
        obtain ⟨i, rfl⟩ : ∃ i, k = α.length + i := ⟨k - α.length, by omega⟩
        rw [bAt_app2] at h60
        have hi : i < 4 := by rw [sh_len] at hk; have : cut4.length = 4 := rfl; omega
        have h0 : i = 0 := by
          have : ∀ i : Fin 4, bAt cut4 i.val = 60 → i.val = 0 := by decide
          exact this ⟨i, hi⟩ h60
        subst h0
        have := cut_said hop
        cases this
    have hagα : Ag α.length (α ++ cut4) α := ⟨by rw [List.take_left, List.take_of_length_le (Nat.le_refl _)], by rw [sh_len]; omega, Nat.le_refl _⟩
    have hendα : ∀ raw, RawOK raw → raw ≠ [] → ∀ j, j < α.length → endT (lwL raw) (α.drop j) = endT (lwL raw) ((α ++ cut4).drop j) := by
      intro raw h1 h2 j hj
      rw [List.drop_append_of_le_length (by omega)]
      refine (end_more (fun e => ?_) (.inr ⟨[47, 98, 62], rfl, (raw_signs h1 h2).1⟩)).symm
      have := congrArg List.length e
      rw [List.length_drop] at this
      simp only [List.length_nil] at this
      omega
    have h1 := ag_tr hagα hQ hendα pre 0 [] ⟨.inl rfl⟩ hpre hpn (by rw [hke]; exact hkα)
    obtain ⟨z, hz'⟩ := tr_pre ha6 pre tra 0 [] h1 ha hpn
    have e1 : sayd (pre ++ [p]) = sayd pre := by rw [sayd_snoc, if_neg (by rw [hok]; simp), List.append_nil]
    have e2 : (sayd tra).length = (sayd pre).length + (sayd z).length := by rw [← hz', sayd_app, List.length_append]
    rw [e1] at hcount
    omega
  · have e1 : sayd (pre ++ [p]) = sayd pre ++ [p.t] := by rw [sayd_snoc, if_pos hok]
    obtain ⟨t, ht1, ht2⟩ := hlast
    rw [e1, List.getLast?_concat] at ht1
    have ht : p.t = t := Option.some.inj ht1
    rw [← ht] at ht2
    obtain ⟨⟨c1, c2, c3, c4, c5⟩, c6⟩ := nx_two hnx hk ht2
    have hk2 := pre_roomL c4 (Nat.le_of_lt hk)
    have hk2' : k + 2 ≤ (α ++ cut4).length := hk2
    have hk3 : k + 2 < (α ++ cut4).length := by
      unfold ltrAt at c5
      rw [Bool.and_eq_true] at c5
      simpa using c5.1
    have htb : (tagB (α ++ cut4) (k + 2)).2 < (α ++ cut4).length := by
      rw [hok] at c1
      rcases c1.is with ⟨_, _, _, a4⟩ | ⟨a1, _⟩
      · cases a4
      · exact a1
    have hzp : NxR ((α ++ cut4) ++ β) k raw p.t p.E p.ok := by
      refine nx_two_mk (by rw [List.length_append]; omega) ⟨⟨hagZ.tagR hk2' htb c1, (hagZ.bat hk).trans c2, (hagZ.ltr (by omega)).trans c3, (hagZ.pre _ (by simp; simp at hk2'; omega)).trans c4, (hagZ.ltr hk3).trans c5⟩, fun e => ?_⟩
      rw [hendA raw hrok e k hk]
      exact c6 e
    have hzpre := ag_tr hagZ hQ hendA pre 0 [] ⟨.inl rfl⟩ hpre hpn (by rw [hke]; exact hk)
    have hraw : endr [] (pre ++ [p]) = [] := by
      rw [endr_say (pre ++ [p]) 0 [] hx1 hxn]; exact hopen
    have hsh := sh_tr (a := α ++ cut4) (try_ ++ [ey]) 0 [] hy
    have hall : TrF ((α ++ cut4) ++ β) 0 [] ((pre ++ [p]) ++ (try_ ++ [ey]).map (shP (α ++ cut4).length)) := by
      refine (TrF.app _ _ _ _).2 ⟨(TrF.app _ _ _ _).2 ⟨hzpre, ?_, trivial⟩, ?_⟩
      · rw [hke, hre]
        unfold StpR
        rw [if_pos (by rw [List.length_append]; omega)]
        exact hzp
      · rw [hepp, hpE, hraw]
        exact hsh
    rw [List.map_append, ← List.append_assoc] at hall
    have hone := TrF.one (x := ez) (x' := shP (α ++ cut4).length ey) hz6 hy6 trz ((pre ++ [p]) ++ try_.map (shP (α ++ cut4).length)) 0 [] hz hall hzn (fun y hy' => by
      rcases List.mem_append.1 hy' with h | h
      · exact hxn y h
      · obtain ⟨q, hq, rfl⟩ := List.mem_map.1 h
        exact hyn q hq)
    rw [← hone, sayd_app, sayd_sh]
end Go.Proofs.YtdniddiaiinggaaDoor
