/- ScanTexts, plain: a source without tags. -/
import Derived.Test.YtdniddiaiinggaaDoorSR0
import Derived.Test.YtdniddiaiinggaaDoorTQ
set_option linter.unusedVariables false
namespace Go.Proofs.YtdniddiaiinggaaDoor
open Go.RowKit M

/-- what is bad stays so ahead of a blank -/
theorem bad_more {b : UInt8} {t y : List UInt8} (h : U.Bad (b :: t)) : U.Bad (b :: (t ++ 32 :: y)) := by
  rcases U.parts (b :: (t ++ 32 :: y)) (by simp) with ⟨r, m, hr, e⟩ | h2
  · exfalso
    have e' : (b :: t) ++ (32 :: y) = U.en r ++ m := e
    rcases List.append_eq_append_iff.1 e' with ⟨q, e1, e2⟩ | ⟨q, e1, e2⟩
    · cases q with
      | nil =>
        rw [List.append_nil] at e1
        have : b :: t = U.en r ++ [] := by rw [List.append_nil]; exact e1.symm
        rw [this] at h
        exact U.not_bad r hr [] h
      | cons c q =>
        have hc : c = 32 := by
          have := congrArg List.head? e2
          simp at this
          exact this.symm
        have hlen : 2 ≤ (U.en r).length := by rw [e1]; simp; omega
        have hr128 : 128 ≤ r := by
          rcases Nat.lt_or_ge r 128 with h1 | h1
          · rw [U.en1 r hr h1] at hlen
            simp at hlen
          · exact h1
        have := U.en_high r hr hr128 c (by rw [e1]; simp)
        rw [hc] at this
        exact absurd this (by decide)
    · have : b :: t = U.en r ++ q := e1
      rw [this] at h
      exact U.not_bad r hr q h
  · exact h2
theorem C_blank : ∀ (a : List UInt8) (cr : Bool) (y : List UInt8), U.C cr (a ++ 32 :: y) = U.C cr a ++ 32 :: U.C false y := by
  refine U.ind (P := fun a => ∀ (cr : Bool) (y : List UInt8), U.C cr (a ++ 32 :: y) = U.C cr a ++ 32 :: U.C false y) ?_ ?_ ?_
  · intro cr y
    have hr : U.IsR 32 := ⟨by omega⟩
    have e1 : U.en ((32 : Nat) : Int) = [32] := by rw [U.en1 32 hr (by omega)]; rfl
    have e2 : ([] : List UInt8) ++ 32 :: y = U.en ((32 : Nat) : Int) ++ y := by rw [e1]; rfl
    rw [e2, U.C_en cr 32 hr y, if_neg (by simp), show U.cz 32 = 32 from rfl, e1, U.C_nil]
    rfl
  · intro r m hr ih cr y
    rw [List.append_assoc, U.C_en cr r hr, U.C_en cr r hr, ih, List.append_assoc]
  · intro b t hb ih cr y
    have h1 : (b :: t) ++ 32 :: y = b :: (t ++ 32 :: y) := rfl
    rw [h1, U.C_bad cr b _ (bad_more hb), U.C_bad cr b t hb, ih, List.append_assoc]
/-- neither sign -/
def Pl (l : List UInt8) : Prop := ∀ c ∈ l, c ≠ 60 ∧ c ≠ 38
theorem Pl.app {a b : List UInt8} (h : Pl (a ++ b)) : Pl a ∧ Pl b := ⟨fun c hc => h c (List.mem_append_left _ hc), fun c hc => h c (List.mem_append_right _ hc)⟩
theorem pl_bad : Pl [239, 191, 189] := by
  intro c hc
  simp at hc
  rcases hc with rfl | rfl | rfl <;> decide
theorem Pl.both {a b : List UInt8} (h : Pl a) (h' : Pl b) : Pl (a ++ b) := fun c hc => by
  rcases List.mem_append.1 hc with hc | hc
  · exact h c hc
  · exact h' c hc
theorem C_pl : ∀ (a : List UInt8) (cr : Bool), Pl a → Pl (U.C cr a) := by
  refine U.ind (P := fun a => ∀ (cr : Bool), Pl a → Pl (U.C cr a)) ?_ ?_ ?_
  · intro cr _ c hc
    rw [U.C_nil] at hc
    cases hc
  · intro r m hr ih cr h
    rw [U.C_en cr r hr]
    refine Pl.both ?_ (ih _ h.app.2)
    split
    · intro c hc
      cases hc
    · unfold U.cz
      split
      · rw [U.en_bad 65533 rfl]
        exact pl_bad
      split
      · have e1 : U.en ((10 : Nat) : Int) = [10] := by rw [U.en1 10 ⟨by omega⟩ (by omega)]; rfl
        rw [e1]
        intro c hc
        simp at hc
        subst hc
        decide
      · exact h.app.1
  · intro b t hb ih cr h
    rw [U.C_bad cr b t hb]
    exact Pl.both pl_bad (ih _ (fun c hc => h c (List.mem_cons_of_mem _ hc)))
theorem decB_pl {attr : Bool} : ∀ (x y : List UInt8), (∀ c ∈ x, c ≠ 38) → decB attr (x ++ y) = x ++ decB attr y
  | [], y, _ => rfl
  | c :: r, y, h => by
    rw [List.cons_append, decB_plain (h c (by simp)), decB_pl r y (fun d hd => h d (List.mem_cons_of_mem _ hd))]
    rfl
/-- a reference that is taken whole, whatever stands behind a blank -/
structure Rf1 (r : List UInt8) : Prop where
  nb : ∀ c ∈ r, txP false c = true
  amp : bAt r 0 = 38
  one : ∀ y, ∃ x, refT (r ++ 32 :: y) false = (x, r.length) ∧ refT r false = (x, r.length)
theorem decB_rf {r : List UInt8} (h : Rf1 r) (y : List UInt8) : decB false (r ++ 32 :: y) = decB false r ++ decB false (32 :: y) := by
  obtain ⟨x, h1, h2⟩ := h.one y
  have hne : r ≠ [] := fun e => by have := h.amp; rw [e] at this; exact absurd this (by decide)
  have h0 : bAt (r ++ 32 :: y) 0 = 38 := by
    cases r with
    | nil => exact absurd rfl hne
    | cons c q => exact h.amp
  rw [decB_ref h0, h1, decB_ref h.amp, h2]
  simp only [List.drop_left]
  rw [List.drop_length, decB_nil, List.append_nil]
theorem names_no : Tb.all (fun e => !e.1.contains 32) = true := by kernel_rfl
theorem look_no {w : List UInt8} (h : 32 ∈ w) : M.look w = none := by
  unfold M.look
  cases hl : Tb.lookup w with
  | none => rfl
  | some v =>
    exfalso
    have hm : ∃ e ∈ Tb, e.1 = w := by
      have key : ∀ (T : List (List UInt8 × Int × Int × Bool)), T.lookup w = some v → ∃ e ∈ T, e.1 = w := by
        intro T
        induction T with
        | nil => intro h; cases h
        | cons q T ih =>
          intro hq
          obtain ⟨n, d⟩ := q
          rw [List.lookup_cons] at hq
          split at hq
          · rename_i hb
            exact ⟨_, List.mem_cons_self .., (beq_iff_eq.1 hb).symm⟩
          · obtain ⟨e, he, e2⟩ := ih hq
            exact ⟨e, List.mem_cons_of_mem _ he, e2⟩
      exact key Tb hl
    obtain ⟨e, he, e2⟩ := hm
    have := List.all_eq_true.1 names_no e he
    rw [e2] at this
    simp at this
    exact this h
theorem word_mem {l : List UInt8} (h : 32 ∈ l) : 32 ∈ word l := by
  unfold word
  split
  · rename_i he
    unfold ends at he
    rw [decide_eq_true_eq] at he
    obtain ⟨q, hq⟩ : ∃ q, l = q ++ [59] := by
      rcases List.eq_nil_or_concat l with rfl | ⟨q, z, rfl⟩
      · cases h
      · rw [List.concat_eq_append] at he ⊢
        simp at he
        exact ⟨q, by rw [he]⟩
    rw [hq] at h ⊢
    simp at h ⊢
    exact h
  · exact h
theorem among_no {l : List UInt8} (h : 32 ∈ l) : (amongB l).2 = false := by
  unfold amongB
  rw [look_no (word_mem h)]
theorem longG_skip (t : List UInt8) (q : Nat) : ∀ n, q ≤ n → (∀ j, q < j → j ≤ n → (amongB (t.take j)).2 = false) → longG amongB t n = longG amongB t q
  | 0, h, _ => by
    obtain rfl : q = 0 := Nat.le_zero.1 h
    rfl
  | n + 1, h, hj => by
    by_cases e : q = n + 1
    · rw [e]
    · rw [longG, if_neg (by rw [hj (n + 1) (by omega) (Nat.le_refl _)]; simp)]
      exact longG_skip t q n (by omega) (fun j h1 h2 => hj j h1 (by omega))
/-- by name -/
theorem name_rf {nm x : List UInt8} (hl : nm.length ≤ 6) (h1 : 1 ≤ nm.length) (ha : amongB nm = (x, true)) (h35 : bAt nm 0 ≠ 35) (y : List UInt8) : refT ((38 :: nm) ++ 32 :: y) false = (x, nm.length + 1) ∧ refT (38 :: nm) false = (x, nm.length + 1) := by
  obtain ⟨m, hm⟩ : ∃ m, nm.length = m + 1 := ⟨nm.length - 1, by omega⟩
  have take_eq : ∀ z, (nm ++ z).take (m + 1) = nm := fun z => by rw [← hm, List.take_left]
  have lg : ∀ z, longG amongB (nm ++ z) (m + 1) = (m + 1, x) := fun z => by
    rw [longG, take_eq z, ha, if_pos rfl]
  have key : ∀ t, longB t 1 = (m + 1, x) → bAt t 0 = 38 → bAt t 1 ≠ 35 → refT t false = (x, nm.length + 1) := by
    intro t hb h0 h2
    unfold refT
    rw [if_neg (by rw [h0]; simp), if_neg h2]
    unfold nameT
    rw [hb, if_neg (by simp), if_neg (by simp), hm]
    simp [Nat.add_comm]
  have b1 : ∀ z, bAt ((38 :: nm) ++ z) 1 = bAt nm 0 := fun z => by
    cases nm with
    | nil => simp at h1
    | cons c q => rfl
  constructor
  · refine key _ ?_ rfl (by rw [b1]; exact h35)
    unfold longB
    have e : ((38 :: nm) ++ 32 :: y).drop 1 = nm ++ 32 :: y := rfl
    have e2 : ((38 :: nm) ++ 32 :: y).length - 1 = nm.length + 1 + y.length := by simp; omega
    rw [e, e2, longG_skip _ (m + 1) _ (by omega) (fun j h3 h4 => ?_)]
    · exact lg _
    · apply among_no
      have : (nm ++ 32 :: y).take j = nm ++ (32 :: y).take (j - nm.length) := by rw [List.take_append, List.take_of_length_le (by omega)]
      rw [this]
      obtain ⟨i, hi⟩ : ∃ i, j - nm.length = i + 1 := ⟨j - nm.length - 1, by omega⟩
      rw [hi]
      simp
  · have := key (38 :: nm) ?_ rfl (by have := b1 []; rw [List.append_nil] at this; rw [this]; exact h35)
    · exact this
    · unfold longB
      have e : (38 :: nm).drop 1 = nm := rfl
      have e2 : min 7 ((38 :: nm).length - 1) = m + 1 := by simp; omega
      rw [e, e2]
      have := lg []
      rw [List.append_nil] at this
      exact this
theorem rf_name {nm x : List UInt8} (hl : nm.length ≤ 6) (h1 : 1 ≤ nm.length) (ha : amongB nm = (x, true)) (h35 : bAt nm 0 ≠ 35) (hb : ∀ c ∈ nm, txP false c = true) : Rf1 (38 :: nm) :=
  ⟨fun c hc => by
    rcases List.mem_cons.1 hc with rfl | hc
    · decide
    · exact hb c hc, rfl, fun y => ⟨x, name_rf hl h1 ha h35 y⟩⟩
theorem rf_num : Rf1 [38, 35, 54, 53, 59] :=
  ⟨by decide, rfl, fun y => ⟨[65], by
    constructor
    · unfold refT
      rw [if_neg (by simp [bAt, List.getD]), if_pos (by rfl)]
      unfold numT
      have e : numP ([38, 35, 54, 53, 59] ++ 32 :: y) = (65, 2) := rfl
      rw [e]
      rfl
    · rfl⟩⟩
def rf4 : Nat → List UInt8
  | 0 => [38, 97, 109, 112, 59]
  | 1 => [38, 35, 54, 53, 59]
  | 2 => [38, 108, 116, 59]
  | _ => [38, 110, 98, 115, 112, 59]
theorem rf4_ok {p : Nat} (h : (p : Int) < 4) : Rf1 (rf4 p) ∧ (rf4 p).length ≤ 6 ∧ (∀ c ∈ rf4 p, 32 ≤ c.toNat ∧ c.toNat < 128 ∧ c ≠ 60) := by
  have : p = 0 ∨ p = 1 ∨ p = 2 ∨ p = 3 := by omega
  rcases this with rfl | rfl | rfl | rfl
  · exact ⟨rf_name (nm := [97, 109, 112, 59]) (x := (amongB [97, 109, 112, 59]).1) (by decide) (by decide) (by kernel_rfl) (by decide) (by decide), by decide, by decide⟩
  · exact ⟨rf_num, by decide, by decide⟩
  · exact ⟨rf_name (nm := [108, 116, 59]) (x := (amongB [108, 116, 59]).1) (by decide) (by decide) (by kernel_rfl) (by decide) (by decide), by decide, by decide⟩
  · exact ⟨rf_name (nm := [110, 98, 115, 112, 59]) (x := (amongB [110, 98, 115, 112, 59]).1) (by decide) (by decide) (by kernel_rfl) (by decide) (by decide), by decide, by decide⟩
end Go.Proofs.YtdniddiaiinggaaDoor
