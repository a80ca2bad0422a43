/- An evaluator for closed runs: types, loads, stores, new blocks. -/
import Derived.Test.YtfcmgkakmaclcaaEvC
import Derived.Laws.Cells
import Derived.Laws.CopyRow
import Derived.Laws.Entries
set_option linter.unusedSectionVars false
namespace Go.Ev
variable [Inhabited Env]

theorem infoF_eq {P : Program} {t : TypeId} {i : TypeInfo} (h : infoF P t = some i) : P.info? t = some i := by
  unfold infoF at h
  rw [nthL_eq] at h
  have h' : P.types[t]? = some i := by simpa using h
  have hl := (Array.getElem?_eq_some_iff.1 h').1
  unfold Tables.info?
  rw [if_pos hl]
  exact h'
theorem descF_eq {P : Program} {t : TypeId} {d : TypeDesc} (h : descF P t = some d) : P.underlying t = some d := by
  unfold descF at h
  unfold Program.underlying
  cases hi : infoF P t with
  | none => rw [hi] at h; cases h
  | some i =>
    rw [hi] at h
    rw [infoF_eq hi]
    obtain ⟨d0⟩ := i
    cases d0 <;> simp only [] at h ⊢ <;> try exact h
    rename_i u
    cases hu : infoF P u with
    | none => rw [hu] at h; cases h
    | some j => rw [hu] at h; rw [infoF_eq hu]; exact h
section
variable {P : Program} {w : World}
theorem run_under {t : TypeId} {d : TypeDesc} (h : descF P t = some d) : (underlying t).run P w = .ok d w := run_underlying (descF_eq h) w
theorem run_info {t : TypeId} {i : TypeInfo} (h : infoF P t = some i) : (typeInfo t).run P w = .ok i w := by
  unfold typeInfo
  simp [program, Sem.run, infoF_eq h]
theorem run_size {t : TypeId} {n : Nat} (h : sizeF P t = some n) : (sizeOf t).run P w = .ok n w := by
  unfold sizeF at h
  cases hi : infoF P t with
  | none => rw [hi] at h; cases h
  | some i => rw [hi] at h; cases h; unfold sizeOf; simp [run_info hi]
theorem run_zero {t : TypeId} {v : Value} (h : zeroF P t = some v) : (zeroValue t).run P w = .ok v w ∧ clo1 v = true := by
  unfold zeroF at h
  cases hi : infoF P t with
  | none => rw [hi] at h; cases h
  | some i =>
    rw [hi] at h
    simp only [] at h
    cases hz : i.zero with
    | none => rw [hz] at h; cases h
    | some z =>
      rw [hz] at h
      simp only [] at h
      cases hc : clo1 z with
      | false => rw [hc] at h; cases h
      | true => rw [hc] at h; cases h; exact ⟨by unfold zeroValue; simp [run_info hi, hz], hc⟩
theorem run_agg {t : TypeId} {b : Bool} (h : isAggF (descF P t) = some b) : (isAgg t).run P w = .ok b w := by
  unfold isAgg
  cases hd : descF P t with
  | none => rw [hd] at h; cases h
  | some d =>
    rw [hd] at h
    cases h
    simp only [Sem.run_bind, run_under hd, Result.andThen_ok]
    cases d <;> rfl
end

/-! cells -/
theorem cellsAt_eq {H : Hp} {b : Nat} {c : List Value} (h : cellsAt H b = some c) : ∃ e f u, H.get b = some (.cells ⟨c⟩ e f, u) := by
  unfold cellsAt at h
  split at h
  · rename_i c0 e f u hg
    cases h
    exact ⟨e, f, u, hg⟩
  · cases h
theorem live_cells {c : Array Value} {e : TypeId} {f : Nat × Nat} : Live (.cells c e f) := fun z h => by cases h
section
variable {P : Program} {s : Sg} {H : Hp} {w : World}
/-- the cells that are known lie there -/
theorem R.cells (h : R P s H w) {b : Nat} {x : Nat × Nat} {c : Array Value} {e : TypeId} {f : Nat × Nat} {u : Bool} (hg : H.get b = some (.cells c e f, u)) (hs : s b = some x) :
    ∃ a r fr, w.heap[x.1]? = some (.cells ⟨a ++ r⟩ e fr) ∧ VL s c.toList a ∧ f = (0, 0) ∧ ∀ j, j < (a ++ r).length → ¬ (fr.1 ≤ j ∧ j < fr.2) := by
  obtain ⟨o', h1, h2⟩ := h.obj b _ u x hg live_cells hs
  obtain ⟨hf, c', fr, e', h3⟩ := h2
  subst e'
  cases u with
  | true =>
    obtain ⟨⟨a, r, e1, e2⟩, _, h4⟩ := h3
    subst e1
    exact ⟨a, r, fr, h1, e2, hf, h4⟩
  | false =>
    obtain ⟨e2, e3⟩ := h3
    subst e3
    exact ⟨c', [], (0, 0), by simpa using h1, e2, hf, fun j _ => by simp⟩
theorem add_at (b off j : Nat) : (⟨b, off, none⟩ : Addr).add j = ⟨b, off + j, none⟩ := by
  unfold Addr.add
  split
  · rename_i h; subst h; rfl
  · rfl
theorem cell_at {b j : Nat} {c : List Value} {e : TypeId} {fr : Nat × Nat} (h : w.heap[b]? = some (.cells ⟨c⟩ e fr)) : w.cell? ⟨b, j, none⟩ = c[j]? := by
  simp [World.cell?, h]
theorem R.load (h : R P s H w) {b off n : Nat} {x : Nat × Nat} {l : List Value} (hs : s b = some x) (hl : loadN n off (cellsAt H b) = some l) :
    ∃ l', VL s l l' ∧ (loadCells ⟨x.1, off, none⟩ n).run P w = .ok ⟨l'⟩ w := by
  unfold loadN at hl
  cases hc : cellsAt H b with
  | none => rw [hc] at hl; cases hl
  | some c =>
    rw [hc] at hl
    simp only [] at hl
    cases hn : Nat.beq (partL c n off).length n with
    | false => rw [hn] at hl; cases hl
    | true =>
      rw [hn] at hl
      cases hl
      have hn' : (partL c n off).length = n := Nat.eq_of_beq_eq_true hn
      obtain ⟨e, f, u, hg⟩ := cellsAt_eq hc
      obtain ⟨a, r, fr, h1, h2, _, _⟩ := h.cells hg hs
      rw [partL_eq] at hn' ⊢
      have hv : VL s ((c.drop off).take n) ((a.drop off).take n) := (h2.drop off).take n
      refine ⟨(a.drop off).take n, hv, ?_⟩
      have hlen : ((a.drop off).take n).length = n := by rw [hv.len, hn']
      have key := run_loadCells_list (P := P) w ⟨x.1, off, none⟩ ((a.drop off).take n) (by
        intro j v hj
        rw [add_at, cell_at h1]
        have hj2 : j < n := by have := (List.getElem?_eq_some_iff.1 hj).1; omega
        rw [List.getElem?_take_of_lt hj2, List.getElem?_drop] at hj
        have := (List.getElem?_eq_some_iff.1 hj).1
        rw [List.getElem?_append_left this]
        exact hj)
      rw [hlen] at key
      exact key
theorem R.cell (h : R P s H w) {b off : Nat} {x : Nat × Nat} {c : List Value} {v : Value} (hs : s b = some x) (hc : cellsAt H b = some c) (hv : nthL c off = some v) :
    ∃ v', V s v v' ∧ (Go.load ⟨x.1, off, none⟩).run P w = .ok v' w := by
  obtain ⟨e, f, u, hg⟩ := cellsAt_eq hc
  obtain ⟨a, r, fr, h1, h2, _, _⟩ := h.cells hg hs
  rw [nthL_eq] at hv
  obtain ⟨v', e1, e2⟩ := h2.get off hv
  refine ⟨v', e2, ?_⟩
  have := (List.getElem?_eq_some_iff.1 e1).1
  rw [run_load, cell_at h1, List.getElem?_append_left this, e1]
theorem run_loadF {t : TypeId} {a : Value} {v : Value} (h : R P s H w) (hl : loadF P t a H = some v) {a' : Value} (ha : V s a a') :
    ∃ v', V s v v' ∧ (Instr.loadAt t a').run P w = .ok v' w := by
  unfold loadF at hl
  split at hl
  · rename_i b off
    obtain ⟨x, hs, e⟩ := V.ptr.1 ha
    subst e
    have e0 : Instr.loadAt t (.pointer (some ⟨x.1, off, none⟩)) = loadVar t ⟨x.1, off, none⟩ := rfl
    show ∃ v', V s v v' ∧ (Instr.loadAt t (.pointer (some ⟨x.1, off, none⟩))).run P w = .ok v' w
    rw [e0]
    unfold loadVar
    split at hl
    · rename_i hg
      cases hz : sizeF P t with
      | none => rw [hz] at hl; cases hl
      | some n =>
        rw [hz] at hl
        simp only [] at hl
        cases hn : loadN n off (cellsAt H b) with
        | none => rw [hn] at hl; cases hl
        | some l =>
          rw [hn] at hl
          cases hl
          obtain ⟨l', h1, h2⟩ := h.load hs hn
          refine ⟨.agg ⟨l'⟩, V.agg.2 ⟨l', h1, rfl⟩, ?_⟩
          simp [run_agg hg, run_size hz, h2]
    · rename_i hg
      cases hc : cellsAt H b with
      | none => rw [hc] at hl; cases hl
      | some c =>
        rw [hc] at hl
        obtain ⟨v', h1, h2⟩ := h.cell hs hc hl
        refine ⟨v', h1, ?_⟩
        simp only [Sem.run_bind, run_agg hg, Result.andThen_ok]
        exact h2
    · cases hl
  · cases hl

/-! stores -/
theorem scal_one : ∀ {vs : List Value}, scal vs = true → ∀ v ∈ vs, v.oneCell' = true
  | [], _, v, hv => by cases hv
  | u :: r, h, v, hv => by
    have hu : u.oneCell' = true ∧ scal r = true := by cases u <;> first | exact ⟨rfl, h⟩ | cases h
    rcases List.mem_cons.1 hv with e | e
    · subst e; exact hu.1
    · exact scal_one hu.2 v e
theorem one_V {s : Sg} {u u' : Value} (hu : u.oneCell' = true) (h1 : V s u u') : u'.oneCell' = true := by
  cases u <;> first | (cases hu; done) | skip
  case pointer a => cases a with | none => cases h1; rfl | some a => obtain ⟨x, _, e⟩ := h1; subst e; rfl
  case slice a l c =>
    have h1 : (if c = junk then _ else _) := h1
    split at h1
    · obtain ⟨_, a', c', e⟩ := h1; subst e; rfl
    · cases a with | none => cases h1; rfl | some a => obtain ⟨x, _, _, e⟩ := h1; subst e; rfl
  case map a => cases a with | none => cases h1; rfl | some a => obtain ⟨x, _, e⟩ := h1; subst e; rfl
  case func fn a b => obtain ⟨fn', a', b', _, _, _, e⟩ := V.func.1 h1; subst e; rfl
  case iface t u => obtain ⟨u', _, e⟩ := h1; subst e; rfl
  case chan c => cases c with | none => exact False.elim h1 | some i => cases h1; rfl
  all_goals (cases h1; rfl)
theorem scal_V {s : Sg} : ∀ {vs vs' : List Value}, scal vs = true → VL s vs vs' → ∀ v ∈ vs', v.oneCell' = true
  | [], vs', _, k, v, hv => by cases k; cases hv
  | u :: r, vs', h, k, v, hv => by
    have hu : u.oneCell' = true ∧ scal r = true := by cases u <;> first | exact ⟨rfl, h⟩ | cases h
    obtain ⟨u', r', h1, h2, e⟩ := k
    subst e
    rcases List.mem_cons.1 hv with e | e
    · subst e; exact one_V hu.1 h1
    · exact scal_V hu.2 h2 v e
theorem run_storesF (e : TypeId) (fr : Nat × Nat) (b o : Nat) : ∀ (vs : List Value) (i : Nat) (c c2 : List Value) (w : World), w.heap[b]? = some (.cells ⟨c⟩ e fr) → overL c (o + i) vs = some c2 →
    (∀ v ∈ vs, v.oneCell' = true) → (∀ j, j < c.length → ¬ (fr.1 ≤ j ∧ j < fr.2)) →
    (storeCells ⟨b, o, none⟩ vs i).run P w = .ok () { w with heap := w.heap.setIfInBounds b (.cells ⟨c2⟩ e fr) }
  | [], i, c, c2, w, hg, ho, _, _ => by
    simp [overL] at ho
    subst ho
    show Result.ok () w = _
    congr 1
    cases w
    simp only at hg ⊢
    congr 1
    apply Array.ext_getElem?
    intro j
    by_cases hj : b = j
    · subst hj
      rw [Array.getElem?_setIfInBounds_self_of_lt ((Array.getElem?_eq_some_iff.1 hg).1)]; exact hg
    · rw [Array.getElem?_setIfInBounds_ne hj]
  | v :: vs, i, c, c2, w, hg, ho, h1, hf => by
    obtain ⟨hk, h2⟩ := overL_cons c (o + i) v vs c2 ho
    have hlt := (Array.getElem?_eq_some_iff.1 hg).1
    have hcell : w.cell? ⟨b, o + i, none⟩ = some c[o + i] := by rw [cell_at hg, List.getElem?_eq_getElem hk]
    have hfro : w.frozen? ⟨b, o + i, none⟩ = false := by
      simp only [World.frozen?, hg]
      have := hf (o + i) hk
      rw [Bool.and_eq_false_iff]
      by_cases h3 : fr.1 ≤ o + i
      · right
        simp only [decide_eq_false_iff_not]
        exact fun h4 => this ⟨h3, h4⟩
      · left
        simpa using h3
    have hset : w.setCell ⟨b, o + i, none⟩ v = { w with heap := w.heap.setIfInBounds b (.cells ⟨c.set (o + i) v⟩ e fr) } := by
      unfold World.setCell
      congr 1
      apply Array.ext_getElem?
      intro j
      rw [Array.getElem?_modify]
      by_cases hj : b = j
      · subst hj
        rw [if_pos rfl, hg, Array.getElem?_setIfInBounds_self_of_lt hlt]
        simp [Array.setIfInBounds, hk]
      · rw [if_neg hj, Array.getElem?_setIfInBounds_ne hj]
    have hg2 : ({ w with heap := w.heap.setIfInBounds b (.cells ⟨c.set (o + i) v⟩ e fr) } : World).heap[b]? = some (.cells ⟨c.set (o + i) v⟩ e fr) := by
      show (w.heap.setIfInBounds b _)[b]? = _
      rw [Array.getElem?_setIfInBounds_self_of_lt hlt]
    have ih := run_storesF e fr b o vs (i + 1) (c.set (o + i) v) c2 _ hg2 (by simpa [Nat.add_assoc] using h2) (fun x hx => h1 x (by simp [hx])) (fun j hj => hf j (by simpa using hj))
    simp only [storeCells, Sem.run_bind, add_at]
    rw [run_store P w _ v _ (h1 v (by simp)), hcell]
    simp only [hfro, Bool.false_eq_true, if_false, Result.andThen_ok]
    rw [hset, ih]
    simp

theorem R.stores (h : R P s H w) {b off : Nat} {x : Nat × Nat} {vs vs' : List Value} {H' : Hp} (hs : s b = some x) (hv : VL s vs vs') (ho : storeN H b off vs = some H') :
    ∃ w', (storeCells ⟨x.1, off, none⟩ vs').run P w = .ok () w' ∧ Post P s H w s H' w' := by
  unfold storeN at ho
  split at ho
  · rename_i c e u hg
    cases hsc : scal vs with
    | false => rw [hsc] at ho; cases ho
    | true =>
      rw [hsc] at ho
      simp only [] at ho
      unfold storeB at ho
      split at ho
      · rename_i l hl
        cases ho
        obtain ⟨o', h1, h2⟩ := h.obj b _ u x hg live_cells hs
        obtain ⟨hf, c', fr, e', h3⟩ := h2
        subst e'
        have key : ∀ l', overL c' (off + 0) vs' = some l' → (∀ j, j < c'.length → ¬ (fr.1 ≤ j ∧ j < fr.2)) → OR P s x.2 u (.cells ⟨l⟩ e (0, 0)) (.cells ⟨l'⟩ e fr) →
            ∃ w', (storeCells ⟨x.1, off, none⟩ vs').run P w = .ok () w' ∧ Post P s H w s (H.set b (.cells ⟨l⟩ e (0, 0), u)) w' := by
          intro l' hl' hfr hor
          exact ⟨_, run_storesF e fr x.1 off vs' 0 c' l' w h1 hl' (scal_V hsc hv) hfr, h.set hg live_cells hs hor⟩
        cases u with
        | true =>
          obtain ⟨⟨a, r, e1, e2⟩, ⟨n, e3, e4⟩, h4⟩ := h3
          subst e1
          obtain ⟨a2, g1, g2⟩ := e2.over off hv hl
          have g3 := overL_more a r off vs' a2 g1
          refine key _ g3 h4 ⟨rfl, _, _, rfl, ⟨a2, r, rfl, g2⟩, ⟨n, e3, ?_⟩, ?_⟩
          · rw [← e4]; simp [overL_len a off vs' a2 g1]
          · intro j hj; exact h4 j (by simpa [overL_len a off vs' a2 g1] using hj)
        | false =>
          obtain ⟨e2, e3⟩ := h3
          subst e3
          obtain ⟨a2, g1, g2⟩ := e2.over off hv hl
          exact key _ g1 (fun j _ => by simp) ⟨rfl, _, _, rfl, g2, rfl⟩
      · cases ho
  · cases ho
theorem V.cells_of {v v' : Value} (h : V s v v') (hn : scal v.cells.toList = true) : VL s v.cells.toList v'.cells.toList := by
  cases v with
  | agg c => obtain ⟨l', h1, e⟩ := V.agg.1 h; subst e; exact h1
  | tuple c => cases hn
  | _ =>
    have h1 : v'.oneCell' = true := one_V rfl h
    refine ⟨v', [], h, rfl, ?_⟩
    cases v' <;> first | rfl | cases h1
theorem run_storeF {t : TypeId} {a v a' v' : Value} {H' : Hp} (h : R P s H w) (hl : storeF P t a v H = some H') (ha : V s a a') (hv : V s v v') :
    ∃ w', (Instr.storeAt t a' v').run P w = .ok () w' ∧ Post P s H w s H' w' := by
  unfold storeF at hl
  split at hl
  · rename_i b off
    obtain ⟨x, hs, e⟩ := V.ptr.1 ha
    subst e
    cases hz : sizeF P t with
    | none => rw [hz] at hl; cases hl
    | some n =>
      rw [hz] at hl
      simp only [] at hl
      cases hn : Nat.beq v.cells.toList.length n with
      | false => rw [hn] at hl; cases hl
      | true =>
        rw [hn] at hl
        simp only [] at hl
        have hsc : scal v.cells.toList = true := by
          unfold storeN at hl
          split at hl
          · cases hsc : scal v.cells.toList with
            | true => rfl
            | false => rw [hsc] at hl; cases hl
          · cases hl
        have hc := hv.cells_of hsc
        obtain ⟨w', h1, h2⟩ := h.stores hs hc hl
        refine ⟨w', ?_, h2⟩
        have e0 : Instr.storeAt t (.pointer (some ⟨x.1, off, none⟩)) v' = storeVar t ⟨x.1, off, none⟩ v' := rfl
        show (Instr.storeAt t (.pointer (some ⟨x.1, off, none⟩)) v').run P w = _
        rw [e0]
        unfold storeVar
        have hlen : v'.cells.size = n := by
          have := hc.len
          have h3 := Nat.eq_of_beq_eq_true hn
          rw [← Array.length_toList, this, h3]
        simp [run_size hz, hlen, h1]
  · cases hl
end
end Go.Ev
