/- ScanTexts, plain: the pieces of a source without tags. -/
import Derived.Test.YtdniddiaiinggaaDoorST0
set_option linter.unusedVariables false
namespace Go.Proofs.YtdniddiaiinggaaDoor
open Go.RowKit M

theorem spE_stops {p : UInt8 → Bool} {l : List UInt8} {k j : Nat} (hk : k ≤ j) (hj : j < l.length) (hp : p (bAt l j) = false) : spE p l k ≤ j := by
  have key : ∀ d k, j - k = d → k ≤ j → spE p l k ≤ j := by
    intro d
    induction d with
    | zero =>
      intro k h1 h2
      obtain rfl : k = j := by omega
      rw [spE_stop hj hp]
      exact Nat.le_refl _
    | succ d ih =>
      intro k h1 h2
      cases hb : p (bAt l k) with
      | false => rw [spE_stop (by omega) hb]; exact h2
      | true =>
        rw [← spE_go (by omega) hb]
        exact ih (k + 1) (by omega) (by omega)
  exact key _ k rfl hk
theorem sub_split (l : List UInt8) {a b : Nat} (h : a ≤ b) : l.drop a = sub l a b ++ l.drop b := by
  unfold sub
  have e : l.drop b = (l.drop a).drop (b - a) := by rw [List.drop_drop]; congr 1; omega
  rw [e, List.take_append_drop]
theorem sub_mem {l : List UInt8} {a b : Nat} {c : UInt8} (hc : c ∈ sub l a b) (hb : b ≤ l.length) : ∃ i, a ≤ i ∧ i < b ∧ bAt l i = c := by
  obtain ⟨i, hi0, e⟩ := List.getElem_of_mem hc
  have e2 : (sub l a b)[i]? = some c := by rw [List.getElem?_eq_getElem hi0, e]
  have hi := hi0
  rw [sub_len hb] at hi
  unfold sub at e2
  rw [List.getElem?_take_of_lt hi, List.getElem?_drop] at e2
  refine ⟨a + i, by omega, by omega, ?_⟩
  rw [bAt_in (by omega)]
  exact (List.getElem?_eq_some_iff.1 e2).2
/-- a source without tags, one reference between blanks -/
structure TxS (l A r B : List UInt8) : Prop where
  eq : l = A ++ 32 :: (r ++ 32 :: B)
  pa : Pl A
  pb : Pl B
  rf : Rf1 r
  r60 : ∀ c ∈ r, c ≠ 60
theorem bAt_mem {l : List UInt8} {i : Nat} (h : i < l.length) : bAt l i ∈ l := by
  rw [bAt_in h]
  exact List.getElem_mem h
theorem TxS.no60 {l A r B : List UInt8} (h : TxS l A r B) {k : Nat} (hk : k < l.length) : bAt l k ≠ 60 := by
  have hm := bAt_mem hk
  have : ∀ c ∈ l, c ≠ 60 := by
    rw [h.eq]
    intro c hc
    simp at hc
    rcases hc with hc | rfl | hc | rfl | hc
    · exact (h.pa c hc).1
    · decide
    · exact h.r60 c hc
    · decide
    · exact (h.pb c hc).1
  exact this _ hm
theorem TxS.len {l A r B : List UInt8} (h : TxS l A r B) : l.length = A.length + 1 + r.length + 1 + B.length := by
  rw [h.eq]
  simp
  omega
theorem TxS.low {l A r B : List UInt8} (h : TxS l A r B) {i : Nat} (hi : i < A.length + 1) : bAt l i ≠ 38 := by
  have e : l = (A ++ [32]) ++ (r ++ 32 :: B) := by rw [h.eq]; simp
  have e2 : bAt l i = bAt (A ++ [32]) i := by
    rw [e, bAt_in (by simp; omega), bAt_in (by simp; omega)]
    exact List.getElem_append_left _
  rw [e2]
  have hm := bAt_mem (l := A ++ [32]) (i := i) (by simp; omega)
  rcases List.mem_append.1 hm with hm | hm
  · exact (h.pa _ hm).2
  · rw [List.mem_singleton] at hm
    rw [hm]
    decide
theorem TxS.high {l A r B : List UInt8} (h : TxS l A r B) {i : Nat} (hi : A.length + 1 + r.length ≤ i) (hl : i < l.length) : bAt l i ≠ 38 := by
  have e : l = (A ++ 32 :: r) ++ (32 :: B) := by rw [h.eq]; simp
  have hz : (A ++ 32 :: r).length = A.length + 1 + r.length := by simp; omega
  have e2 : bAt l i = bAt (32 :: B) (i - (A ++ 32 :: r).length) := by
    rw [e] at hl ⊢
    have hl2 := hl
    rw [List.length_append] at hl2
    rw [bAt_in hl, bAt_in (by omega)]
    exact List.getElem_append_right (by omega)
  rw [e2]
  have hlen := h.len
  have hm := bAt_mem (l := 32 :: B) (i := i - (A ++ 32 :: r).length) (by rw [hz]; simp; omega)
  rcases List.mem_cons.1 hm with hm | hm
  · rw [hm]; decide
  · exact (h.pb _ hm).2
theorem TxS.mid {l A r B : List UInt8} (h : TxS l A r B) : l.drop (A.length + 1) = r ++ 32 :: B ∧ bAt l (A.length + 1) = 38 ∧ bAt l A.length = 32 := by
  have e : l = (A ++ [32]) ++ (r ++ 32 :: B) := by rw [h.eq]; simp
  have hz : (A ++ [32]).length = A.length + 1 := by simp
  have hd : l.drop (A.length + 1) = r ++ 32 :: B := by rw [e, ← hz, List.drop_left]
  refine ⟨hd, ?_, ?_⟩
  · have : bAt (l.drop (A.length + 1)) 0 = bAt l (A.length + 1 + 0) := bAt_drop ..
    rw [Nat.add_zero] at this
    rw [← this, hd]
    have := h.rf.amp
    cases r with
    | nil => exact absurd this (by decide)
    | cons c q => exact this
  · have hl := h.len
    rw [bAt_in (by omega)]
    have : l[A.length]? = some 32 := by rw [h.eq]; simp
    exact (List.getElem?_eq_some_iff.1 this).2
/-- one piece of it -/
theorem TxS.piece {l A r B : List UInt8} (h : TxS l A r B) {k E : Nat} (hk : k < l.length) (hp : k ≤ A.length + 1 ∨ A.length + 1 + r.length ≤ k) (hE : E = spE (txP (blk (bAt l k))) l k) :
    decB false (l.drop k) = decB false (sub l k E) ++ decB false (l.drop E) ∧ (E ≤ A.length + 1 ∨ A.length + 1 + r.length ≤ E) := by
  have hg : k ≤ E := by rw [hE]; exact spE_ge _ _ _
  have hle : E ≤ l.length := by rw [hE]; exact spE_le _ (Nat.le_of_lt hk)
  have hlen := h.len
  obtain ⟨hd, h38, h32⟩ := h.mid
  have plain : (∀ i, k ≤ i → i < E → bAt l i ≠ 38) → decB false (l.drop k) = decB false (sub l k E) ++ decB false (l.drop E) := by
    intro hn
    have hs : ∀ c ∈ sub l k E, c ≠ 38 := fun c hc => by
      obtain ⟨i, h1, h2, h3⟩ := sub_mem hc hle
      rw [← h3]
      exact hn i h1 h2
    rw [sub_split l hg, decB_pl _ _ hs]
    have := decB_pl (attr := false) (sub l k E) [] hs
    rw [List.append_nil, decB_nil, List.append_nil] at this
    rw [this]
  rcases hp with hp | hp
  · rcases Nat.lt_or_eq_of_le hp with hlt | heq
    · have hEle : E ≤ A.length + 1 := by
        rw [hE]
        cases hb : blk (bAt l k) with
        | true => exact spE_stops (by omega) (by omega) (by rw [h38]; decide)
        | false => exact Nat.le_trans (spE_stops (j := A.length) (by omega) (by omega) (by rw [h32]; decide)) (by omega)
      exact ⟨plain (fun i h1 h2 => h.low (by omega)), Or.inl hEle⟩
    · subst heq
      have hb : blk (bAt l (A.length + 1)) = false := by rw [h38]; decide
      have hEe : E = A.length + 1 + r.length := by
        rw [hE, hb]
        unfold spE
        rw [hd, spN_app h.rf.nb, spN_stop (by decide)]; rfl
      refine ⟨?_, Or.inr (by omega)⟩
      have hs : sub l (A.length + 1) E = r := by
        unfold sub
        rw [hd, hEe, show A.length + 1 + r.length - (A.length + 1) = r.length by omega, List.take_left]
      have hdE : l.drop E = 32 :: B := by
        rw [hEe, ← List.drop_drop, hd, List.drop_left]
      rw [hd, hs, hdE]
      exact decB_rf h.rf B
  · exact ⟨plain (fun i h1 h2 => h.high (by omega) (by omega)), Or.inr (by omega)⟩
/-- all of them -/
theorem TxS.all {l A r B : List UInt8} (h : TxS l A r B) {x : Pc} (h6 : x.t.kd = 6) : ∀ (tr : List Pc) (k : Nat), (k ≤ A.length + 1 ∨ A.length + 1 + r.length ≤ k) → k ≤ l.length → TrF l k [] (tr ++ [x]) → (∀ y ∈ tr, y.t.kd ≠ 6) →
    (∀ t ∈ sayd tr, t.kd = 3) ∧ (sayd tr).flatMap (fun t => t.x.data.toList) = decB false (l.drop k)
  | [], k, hp, hk, hF, hn => by
    have hk2 : k = l.length := by
      rcases Nat.lt_or_eq_of_le hk with h1 | h1
      · obtain ⟨p, q, e, _⟩ := hF.head h6 h1
        cases e
      · exact h1
    subst hk2
    refine ⟨fun t ht => by simp [sayd] at ht, ?_⟩
    rw [List.drop_length, decB_nil]
    rfl
  | p :: q, k, hp, hk, hF, hn => by
    have hlt : k < l.length := by
      rcases Nat.lt_or_eq_of_le hk with h1 | h1
      · exact h1
      · have := hF.tail hn (by omega)
        cases this
    obtain ⟨h1, h2⟩ := hF
    unfold StpR at h1
    rw [if_pos hlt] at h1
    unfold NxR at h1
    rw [if_pos rfl] at h1
    unfold NxN at h1
    rw [if_neg (h.no60 hlt)] at h1
    obtain ⟨hi, hE, ho⟩ := h1
    obtain ⟨hd, hp2⟩ := h.piece hlt hp hE
    have hw : rawB p.t [] = [] := by
      unfold rawB
      rw [hi.kd, if_neg (fun e => absurd e.1 (by decide)), if_neg (by rintro (e | e); exact absurd e (by decide); exact absurd e.1 (by decide))]
    rw [hw] at h2
    have hEl : p.E ≤ l.length := by rw [hE]; exact spE_le _ hk
    obtain ⟨r1, r2⟩ := TxS.all h h6 q p.E hp2 hEl h2 (fun y hy => hn y (List.mem_cons_of_mem _ hy))
    have es : sayd (p :: q) = p.t :: sayd q := by simp [sayd, ho]
    rw [es]
    refine ⟨fun t ht => ?_, ?_⟩
    · rcases List.mem_cons.1 ht with rfl | ht
      · exact hi.kd
      · exact r1 t ht
    · rw [List.flatMap_cons, r2, hd, hi.x, hE]
/-- the cleaned source -/
theorem tx_clean {a b r : List UInt8} (ha : Pl a) (hb : Pl b) (hr : Rf1 r) (hc : ∀ c ∈ r, 32 ≤ c.toNat ∧ c.toNat < 128 ∧ c ≠ 60) : TxS (U.C false (((a ++ [32]) ++ r ++ [32]) ++ b)) (U.C false a) r (U.C false b) := by
  refine ⟨?_, C_pl a false ha, C_pl b false hb, hr, fun c h => (hc c h).2.2⟩
  have e : ((a ++ [32]) ++ r ++ [32]) ++ b = a ++ 32 :: (r ++ 32 :: b) := by simp
  rw [e, C_blank, C_blank, C_plain (fun c h => ⟨(hc c h).1, (hc c h).2.1⟩)]
end Go.Proofs.YtdniddiaiinggaaDoor
