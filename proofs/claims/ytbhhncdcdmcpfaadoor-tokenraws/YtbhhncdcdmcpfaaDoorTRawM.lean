/- TokenRaws, plain. -/
import Derived.Test.YtbhhncdcdmcpfaaDoorTQ
set_option linter.unusedVariables false
namespace Go.Proofs.YtbhhncdcdmcpfaaDoor
open Go.RowKit M

theorem decB_none {attr : Bool} : ∀ {t : List UInt8}, (∀ c ∈ t, c ≠ 38) → decB attr t = t
  | [], _ => decB_nil attr
  | c :: r, h => by rw [decB_plain (h c (List.mem_cons_self ..)), decB_none (fun x hx => h x (List.mem_cons_of_mem _ hx))]
theorem lw_only {c d : UInt8} (h : lw c = d) (hd : d.toNat < 97) (hd2 : ¬ (65 ≤ d.toNat ∧ d.toNat ≤ 90)) : c = d := by
  unfold lw at h
  split at h
  · rename_i h1
    exfalso
    have e := congrArg UInt8.toNat h
    rw [UInt8.toNat_add] at e
    have : (32 : UInt8).toNat = 32 := rfl
    omega
  · exact h
theorem end_two {L t : List UInt8} (h : ¬ (bAt t 0 = 60 ∧ bAt t 1 = 47)) : endT L t = false := by
  unfold endT
  have : (60 :: 47 :: L).isPrefixOf (lwL t) = false := by
    rw [← Bool.not_eq_true]
    intro hp
    have hl := pre_len hp
    rw [lwL_len] at hl
    simp at hl
    obtain ⟨h1, h2⟩ := pre2 hp
    rw [lwL_at (by omega)] at h1 h2
    exact h ⟨lw_only h1 (by decide) (by decide), lw_only h2 (by decide) (by decide)⟩
  rw [this, Bool.false_and, Bool.false_and]
/-- a raw element's name -/
structure NmOK (n : List UInt8) : Prop where
  ne : n ≠ []
  hd : bAt n 0 ≠ 98
  all : ∀ c ∈ n, lw c = c ∧ c ≠ 60 ∧ c ≠ 38
  nm : n.map nmc = n
/-- the name as it stands in its end tag -/
structure UpOK (u n : List UInt8) : Prop where
  lw : lwL u = n
  all : ∀ c ∈ u, (!stp [47, 62] c) = true
  hd : ltrN (bAt u 0).toNat = true
theorem UpOK.len {u n : List UInt8} (h : UpOK u n) : u.length = n.length := by rw [← h.lw, lwL_len]
theorem lwL_app (a b : List UInt8) : lwL (a ++ b) = lwL a ++ lwL b := by unfold lwL; rw [List.map_append]
theorem map_same {f : UInt8 → UInt8} : ∀ {n : List UInt8}, (∀ c ∈ n, f c = c) → n.map f = n
  | [], _ => rfl
  | c :: r, h => by rw [List.map_cons, h c (List.mem_cons_self ..), map_same (fun x hx => h x (List.mem_cons_of_mem _ hx))]
theorem NmOK.lwL {n : List UInt8} (h : NmOK n) : lwL n = n := map_same (fun c hc => (h.all c hc).1)
theorem pre_app (p r : List UInt8) : p.isPrefixOf (p ++ r) = true := List.isPrefixOf_iff_prefix.2 (List.prefix_append _ _)
/-- the text ahead of the end tag -/
def rwS (a n : List UInt8) : List UInt8 := a ++ ([60, 47, 98, 62, 60, 47] ++ (n ++ [120, 62]))
def rwE (u T : List UInt8) : List UInt8 := [60, 47] ++ (u ++ T)
theorem rwS_len (a n : List UInt8) : (rwS a n).length = a.length + n.length + 8 := by unfold rwS; simp; omega
theorem rwE_len (u T : List UInt8) : (rwE u T).length = 2 + u.length + T.length := by unfold rwE; simp; omega
theorem raws_end {n u T : List UInt8} (hn : NmOK n) (hu : UpOK u n) (hT : T = [62] ∨ T = [32, 62]) : endT n (rwE u T) = true := by
  unfold endT
  have e1 : lwL (rwE u T) = (60 :: 47 :: n) ++ lwL T := by
    unfold rwE
    rw [lwL_app, lwL_app, hu.lw]
    rfl
  have e2 : bAt (rwE u T) (n.length + 2) = bAt T 0 := by
    unfold rwE
    rw [← hu.len, show u.length + 2 = ([60, 47] : List UInt8).length + (u.length + 0) by simp; omega, bAt_app2, bAt_app2]
  rw [e1, pre_app, e2, rwE_len, hu.len, Bool.true_and]
  have h1 : decide (n.length + 2 < 2 + n.length + T.length) = true := decide_eq_true (by rcases hT with rfl | rfl <;> simp <;> omega)
  rw [h1, Bool.true_and]
  rcases hT with rfl | rfl <;> decide
theorem raws_none {a n x : List UInt8} (hn : NmOK n) (ha : ∀ c ∈ a, c ≠ 47) {j : Nat} (hj : j < (rwS a n).length) : endT n ((rwS a n ++ x).drop j) = false := by
  have hl : (rwS a n).length = a.length + n.length + 8 := rwS_len a n
  have e0 : rwS a n ++ x = a ++ ([60, 47, 98, 62, 60, 47] ++ (n ++ ([120, 62] ++ x))) := by unfold rwS; simp
  rw [e0]
  by_cases h1 : j + 1 < a.length
  · apply end_two
    rw [bAt_drop, bAt_drop, bAt_app h1]
    rintro ⟨_, h3⟩
    rw [bAt_in h1] at h3
    exact ha _ (List.getElem_mem _) h3
  by_cases h2 : j + 1 = a.length
  · apply end_two
    rw [bAt_drop, bAt_drop, h2, show bAt (a ++ ([60, 47, 98, 62, 60, 47] ++ (n ++ ([120, 62] ++ x)))) a.length = 60 from (bAt_app2 (a := a) (j := 0))]
    rintro ⟨_, h3⟩
    exact absurd h3 (by decide)
  obtain ⟨d, rfl⟩ : ∃ d, j = a.length + d := ⟨j - a.length, by omega⟩
  rw [← List.drop_drop, List.drop_left]
  have hd : d < n.length + 8 := by omega
  by_cases h3 : d = 0
  · subst h3
    unfold endT
    obtain ⟨c, r, rfl⟩ : ∃ c r, n = c :: r := by
      cases n with
      | nil => exact absurd rfl hn.ne
      | cons c r => exact ⟨c, r, rfl⟩
    have hc : (c == 98) = false := by
      rw [beq_eq_false_iff_ne]
      exact hn.hd
    have : (60 :: 47 :: c :: r).isPrefixOf (lwL (([60, 47, 98, 62, 60, 47] ++ (c :: r ++ ([120, 62] ++ x))).drop 0)) = false := by
      show (60 == 60 && (47 == 47 && (c == 98 && _))) = false
      rw [hc]
      rfl
    rw [this, Bool.false_and, Bool.false_and]
  by_cases h4 : d = 4
  · subst h4
    unfold endT
    have e : bAt (([60, 47, 98, 62, 60, 47] ++ (n ++ ([120, 62] ++ x))).drop 4) (n.length + 2) = 120 := by
      rw [bAt_drop, show 4 + (n.length + 2) = ([60, 47, 98, 62, 60, 47] : List UInt8).length + (n.length + 0) by simp; omega, bAt_app2, bAt_app2]
      rfl
    rw [e, Bool.and_eq_false_iff]
    exact Or.inr (by decide)
  apply end_no
  rw [bAt_drop, Nat.add_zero]
  by_cases h5 : d < 6
  · rw [bAt_app (by simpa using h5)]
    have : d = 1 ∨ d = 2 ∨ d = 3 ∨ d = 5 := by omega
    rcases this with rfl | rfl | rfl | rfl <;> decide
  obtain ⟨f, rfl⟩ : ∃ f, d = ([60, 47, 98, 62, 60, 47] : List UInt8).length + f := ⟨d - 6, by simp; omega⟩
  rw [bAt_app2]
  have hf : f < n.length + 2 := by simp at hd; omega
  by_cases h6 : f < n.length
  · rw [bAt_app h6, bAt_in h6]
    exact (hn.all _ (List.getElem_mem _)).2.1
  obtain ⟨g, rfl⟩ : ∃ g, f = n.length + g := ⟨f - n.length, by omega⟩
  rw [bAt_app2]
  have : g = 0 ∨ g = 1 := by omega
  rcases this with rfl | rfl
  · show (120 : UInt8) ≠ 60
    decide
  · show (62 : UInt8) ≠ 60
    decide
theorem raws_one {a n u T : List UInt8} (hn : NmOK n) (hu : UpOK u n) (hT : T = [62] ∨ T = [32, 62]) (ha : ∀ c ∈ a, c ≠ 47 ∧ c ≠ 38) {t : Tk} {E : Nat} {ok : Bool} (h : NxR (rwS a n ++ rwE u T) 0 n t E ok) :
    t.Is 3 [] (rwS a n) [] true ∧ E = (rwS a n).length ∧ ok = true := by
  unfold NxR at h
  rw [if_neg hn.ne] at h
  obtain ⟨B, hB, h⟩ := h
  have hl := rwS_len a n
  have he := rwE_len u T
  have e : B = (rwS a n).length := by
    refine hB.at_is (Nat.zero_le _) (by rw [List.length_append]; omega) ?_ (fun j _ hj => ?_)
    · rw [hn.lwL, List.drop_left]
      exact raws_end hn hu hT
    · rw [hn.lwL]
      exact raws_none hn (fun c hc => (ha c hc).1) hj
  subst e
  rw [if_pos (by omega)] at h
  have e1 : sub (rwS a n ++ rwE u T) 0 (rwS a n).length = rwS a n := by
    unfold sub
    rw [List.drop_zero, Nat.sub_zero, List.take_left]
  have e2 : rawX (rwS a n) n = rwS a n := by
    unfold rawX
    split
    · apply decB_none
      intro c hc
      unfold rwS at hc
      rcases List.mem_append.1 hc with hc | hc
      · exact (ha c hc).2
      rcases List.mem_append.1 hc with hc | hc
      · exact (show ∀ c ∈ ([60, 47, 98, 62, 60, 47] : List UInt8), c ≠ 38 by decide) c hc
      rcases List.mem_append.1 hc with hc | hc
      · exact (hn.all c hc).2.2
      · exact (show ∀ c ∈ ([120, 62] : List UInt8), c ≠ 38 by decide) c hc
    · rfl
  rw [e1, e2] at h
  exact h
theorem raws_two {a n u T : List UInt8} (hn : NmOK n) (hu : UpOK u n) (hT : T = [62] ∨ T = [32, 62]) {t : Tk} {E : Nat} {ok : Bool} (h : NxR (rwS a n ++ rwE u T) (rwS a n).length n t E ok) :
    t.Is 2 n [] [] false ∧ E = (rwS a n).length + (rwE u T).length ∧ ok = true := by
  unfold NxR at h
  rw [if_neg hn.ne] at h
  obtain ⟨B, hB, h⟩ := h
  have he := rwE_len u T
  have hTl : 0 < T.length := by rcases hT with rfl | rfl <;> decide
  have hul : 0 < u.length := by
    rw [hu.len]
    exact List.length_pos_iff.2 hn.ne
  have hlen : (rwS a n ++ rwE u T).length = (rwS a n).length + (rwE u T).length := List.length_append
  have e : B = (rwS a n).length := by
    refine hB.at_is (Nat.le_refl _) (by omega) ?_ (fun j h1 hj => by omega)
    rw [hn.lwL, List.drop_left]
    exact raws_end hn hu hT
  subst e
  rw [if_neg (by omega)] at h
  obtain ⟨S, hS⟩ : ∃ S, rwS a n = S := ⟨_, rfl⟩
  rw [hS] at h hlen ⊢
  have dd : ∀ i, (S ++ rwE u T).drop (S.length + i) = (rwE u T).drop i := fun i => by rw [← List.drop_drop, List.drop_left]
  have bb : ∀ i, bAt (S ++ rwE u T) (S.length + i) = bAt (rwE u T) i := fun i => bAt_app2
  have b0 : bAt (S ++ rwE u T) S.length = 60 := bb 0
  unfold NxN at h
  rw [if_pos b0] at h
  unfold OpR at h
  have l1 : ltrAt (S ++ rwE u T) (S.length + 1) = false := by
    unfold ltrAt
    rw [bb 1]
    have : bAt (rwE u T) 1 = 47 := rfl
    rw [this]
    simp [ltrN]
  have p1 : [60, 47].isPrefixOf ((S ++ rwE u T).drop S.length) = true := by
    rw [show S.length = S.length + 0 from rfl, dd 0]
    exact pre_app [60, 47] _
  have bu : bAt (rwE u T) 2 = bAt u 0 := by
    unfold rwE
    rw [show 2 = ([60, 47] : List UInt8).length + 0 from rfl, bAt_app2, bAt_app hul]
  have l2 : ltrAt (S ++ rwE u T) (S.length + 2) = true := by
    unfold ltrAt
    rw [bb 2, bu, hu.hd, hlen, he, Bool.and_true]
    exact decide_eq_true (by omega)
  rw [if_neg (by rw [l1]; decide), if_pos (by rw [p1, l2]; rfl)] at h
  have d2 : (S ++ rwE u T).drop (S.length + 2) = u ++ T := by rw [dd 2]; rfl
  have eE : tagE (S ++ rwE u T) (S.length + 2) = S.length + 2 + u.length := by
    unfold tagE spE
    rw [d2, spN_app hu.all]
    rcases hT with rfl | rfl
    · rw [spN_stop (by decide)]
      omega
    · rw [spN_stop (by decide)]
      omega
  have eN : tagN (S ++ rwE u T) (S.length + 2) = n := by
    unfold tagN sub
    rw [eE, d2, show S.length + 2 + u.length - (S.length + 2) = u.length by omega, List.take_left]
    unfold nmB
    rw [hu.lw, hn.nm]
  have d3 : (S ++ rwE u T).drop (S.length + 2 + u.length) = T := by rw [← List.drop_drop, d2, List.drop_left]
  have hpl : (S ++ rwE u T).length = S.length + 2 + u.length + T.length := by omega
  have eB : tagB (S ++ rwE u T) (S.length + 2) = ([], S.length + 2 + u.length + T.length - 1) := by
    unfold tagB
    rw [eE]
    have e1 : btw (S ++ rwE u T) (S.length + 2 + u.length) = S.length + 2 + u.length + T.length - 1 := by
      unfold btw spE
      rw [d3]
      rcases hT with rfl | rfl
      · rw [spN_stop (by decide)]
        simp
      · rw [show ([32, 62] : List UInt8) = [32] ++ [62] from rfl, spN_app (by decide), spN_stop (by decide)]
        simp
    rw [e1]
    apply tagA_stop
    rintro ⟨_, h2⟩
    apply h2
    have e2 : S.length + 2 + u.length + T.length - 1 = S.length + 2 + u.length + (T.length - 1) := by omega
    rw [e2, ← bAt_drop, d3]
    rcases hT with rfl | rfl <;> rfl
  rcases h.is with ⟨h1, _⟩ | ⟨_, h2, h3, h4⟩
  · rw [eB, hpl] at h1
    simp only at h1
    omega
  · rw [eN, if_neg (by decide)] at h2
    rw [eB] at h3
    simp only at h3
    exact ⟨h2, by omega, h4⟩
end Go.Proofs.YtbhhncdcdmcpfaaDoor
