/- An evaluator for closed runs: a text, or a map, gone through. -/
import Derived.Test.YtfcmgkakmaclcaaEvK
import Derived.Laws.RangeString
set_option linter.unusedSimpArgs false
set_option linter.unusedVariables false
set_option linter.unusedSectionVars false
namespace Go.Ev
variable [Inhabited Env]
section
variable {P : Program} {s : Sg} {H : Hp} {w : World}
theorem live_it {t : ByteArray} {p : Nat} : Live (.stringIter t p) := fun z e => by cases e
theorem live_mi {m : Option Nat} {a : Nat} {b : Array Nat} {c : Nat} : Live (.mapIter m a b c) := fun z e => by cases e
theorem fIter_run (h : R P s H w) {o o' : Obj} {n : Next} {H' : Hp} (he : fIter H o = some (n, H')) (ho : OR P (upd s H.n (w.heap.size, 0)) 0 false o o') {S : Sem Value} (hS : S.run P w = (newObj o' >>= fun r => pure (.pointer (some ⟨r, 0, none⟩)) : Sem Value).run P w) :
    Does P s H w (do pure (.value (← S))) n H' := by
  unfold fIter at he
  cases he
  refine does_val (s' := upd s H.n (w.heap.size, 0)) (v' := .pointer (some ⟨w.heap.size, 0, none⟩)) ?_ (V.ptr.2 ⟨_, upd_same _ _ _, rfl⟩) (h.push (o := o) (o' := o') (fun _ => ho))
  rw [hS]
  simp [newObj, Sem.run]
theorem fRange_run (h : R P s H w) {t : TypeId} {x x' : Value} {n : Next} {H' : Hp} (he : fRange (descF P t) x H = some (n, H')) (hx : V s x x') : Does P s H w (do pure (.value (← Instr.range t x'))) n H' := by
  unfold fRange at he
  split at he
  · rename_i b hd
    cases hx
    refine fIter_run h he (o' := .stringIter b 0) rfl ?_
    unfold Instr.range
    simp only [Sem.run_bind, run_under hd, Result.andThen_ok, Sem.run_pure]
  · rename_i a b hd
    cases hx
    refine fIter_run h he (o' := .mapIter none 0 #[] 0) rfl ?_
    unfold Instr.range
    simp only [Sem.run_bind, run_under hd, Result.andThen_ok, Sem.run_pure]
  · rename_i a b m hd
    obtain ⟨y, g1, g2⟩ := V.map.1 hx
    subst g2
    unfold fIterM at he
    split at he
    · rename_i es c hme
      have hw := h.getMap hme g1
      refine fIter_run h he (o' := .mapIter (some y.1) c #[] c) ⟨y, ?_, rfl⟩ ?_
      · rw [upd_other s (by have := h.dom _ _ g1; omega)]; exact g1
      · unfold Instr.range
        simp only [Sem.run_bind, run_under hd, Result.andThen_ok, getObj_run hw, Sem.run_pure]
    · cases he
  · cases he
theorem decA_eq (t : ByteArray) (pos : Nat) : decA t (nthL t.data.toList pos) pos = Utf8.decode t pos := by
  rw [nthL_eq]
  unfold decA
  split
  · rename_i b hb
    split
    · rename_i hl
      have hl : b.toNat < 128 := by simpa [Nat.blt_eq] using hl
      obtain ⟨h1, h2⟩ := List.getElem?_eq_some_iff.1 hb
      have h3 : pos < t.size := by simpa using h1
      have h4 : t[pos]'h3 = b := by rw [← h2]; rfl
      rw [decode_ascii t pos h3 (by rw [h4]; exact hl), h4]
    · rfl
  · rfl
theorem R.iter (h : R P s H w) {r : Nat} {y : Nat × Nat} {t : ByteArray} {pos : Nat} {u : Bool} (hg : H.get r = some (.stringIter t pos, u)) (hs : s r = some y) : w.heap[y.1]? = some (.stringIter t pos) := by
  obtain ⟨o', h1, h2⟩ := h.obj r _ u y hg live_it hs
  cases h2
  exact h1
theorem nextS_run (h : R P s H w) {r : Nat} {y : Nat × Nat} {t : ByteArray} {pos : Nat} {u : Bool} {ty : TypeId} {n : Next} {H' : Hp} (hg : H.get r = some (.stringIter t pos, u)) (hs : s r = some y) (he : nextS H r t pos u = some (n, H')) :
    Does P s H w (do pure (.value (← Instr.next (.pointer (some ⟨y.1, 0, none⟩)) true ty))) n H' := by
  have hw := h.iter hg hs
  have hlen : t.data.toList.length = t.size := by rw [Array.length_toList]; rfl
  have hob : (getObj y.1).run P w = .ok (.stringIter t pos) w := by simp [getObj, Sem.run, hw]
  unfold nextS at he
  split at he
  · rename_i hb
    have hb : pos < t.size := by rw [hlen] at hb; simpa [Nat.blt_eq] using hb
    rw [decA_eq] at he
    unfold nextS2 at he
    cases he
    have hso : ∀ o, (setObj y.1 o).run P w = .ok () { w with heap := w.heap.setIfInBounds y.1 o } := fun o => by simp [setObj, Sem.run, hw]
    refine does_val (s' := s) (v' := .tuple #[.bool true, goInt pos, .int .i32 (Utf8.decode t pos).1]) ?_ (V.tuple.2 ⟨_, ⟨_, _, rfl, ⟨_, _, rfl, ⟨_, _, rfl, rfl, rfl⟩, rfl⟩, rfl⟩, rfl⟩) (h.set hg live_it hs (o2 := .stringIter t (pos + (Utf8.decode t pos).2)) (o2' := .stringIter t (pos + (Utf8.decode t pos).2)) rfl)
    unfold Instr.next
    simp only [Sem.run_bind, hob, Result.andThen_ok, if_pos hb, hso, Sem.run_pure]
  · rename_i hb
    have hb : ¬ pos < t.size := by rw [hlen] at hb; intro h3; have : Nat.blt pos t.size = true := by simpa [Nat.blt_eq] using h3
                                   rw [this] at hb; cases hb
    cases he
    refine does_pure h (v' := .tuple #[.bool false]) ?_ (V.tuple.2 ⟨_, ⟨_, _, rfl, rfl, rfl⟩, rfl⟩)
    unfold Instr.next
    simp only [Sem.run_bind, hob, Result.andThen_ok, if_neg hb, Sem.run_pure]
theorem isIn_eq : ∀ (l : List Nat) (n : Nat), isIn l n = l.contains n
  | [], n => rfl
  | a :: r, n => by
    unfold isIn
    rw [List.contains_cons, ← isIn_eq r n]
    by_cases h : a = n
    · subst h; rw [Nat.beq_refl]; simp
    · have h1 : Nat.beq a n = false := by
        cases hb : Nat.beq a n with
        | false => rfl
        | true => exact absurd (Nat.eq_of_beq_eq_true hb) h
      have h2 : (n == a) = false := by simpa using fun e => h e.symm
      rw [h1, h2]; simp
theorem blt_dec (a b : Nat) : Nat.blt a b = decide (a < b) := by
  by_cases h : a < b
  · rw [decide_eq_true h]; simpa [Nat.blt_eq] using h
  · rw [decide_eq_false h]
    cases hb : Nat.blt a b with
    | false => rfl
    | true => exact absurd (by simpa [Nat.blt_eq] using hb) h
theorem oldM_eq (since : Nat) (seen : List Nat) : ∀ (l : List MapEntry), oldM since seen l = (l.filter fun e => !seen.contains e.born).filter fun e => decide (e.born < since)
  | [] => rfl
  | e :: r => by
    unfold oldM
    rw [isIn_eq, blt_dec, oldM_eq since seen r]
    cases h1 : seen.contains e.born with
    | true => simp only [List.filter_cons, h1, Bool.not_true, if_false, Bool.false_eq_true]
    | false =>
      by_cases h2 : e.born < since
      · simp only [List.filter_cons, h1, Bool.not_false, if_true, decide_eq_true h2]
      · simp only [List.filter_cons, h1, Bool.not_false, if_true, decide_eq_false h2, if_false, Bool.false_eq_true]
theorem newM_eq (since : Nat) (seen : List Nat) : ∀ (l : List MapEntry), newM since seen l = (l.filter fun e => !seen.contains e.born).filter fun e => decide (e.born ≥ since)
  | [] => rfl
  | e :: r => by
    unfold newM
    rw [isIn_eq, blt_dec, newM_eq since seen r]
    cases h1 : seen.contains e.born with
    | true => simp only [List.filter_cons, h1, Bool.not_true, if_false, Bool.false_eq_true]
    | false =>
      by_cases h2 : e.born < since
      · simp only [List.filter_cons, h1, Bool.not_false, if_true, decide_eq_true h2, decide_eq_false (Nat.not_le.2 h2), if_false, Bool.false_eq_true]
      · simp only [List.filter_cons, h1, Bool.not_false, if_true, decide_eq_false h2, decide_eq_true (Nat.not_lt.1 h2)]
theorem allNew_eq (last : Nat) : ∀ (l : List MapEntry), allNew last l = l.all fun e => decide (e.born ≥ last)
  | [] => rfl
  | e :: r => by
    unfold allNew
    rw [allNew_eq last r, List.all_cons]
    by_cases h : last ≤ e.born
    · have : Nat.ble last e.born = true := Nat.ble_eq_true_of_le h
      rw [this]; simp [h]
    · have : Nat.ble last e.born = false := by
        cases hb : Nat.ble last e.born with
        | false => rfl
        | true => exact absurd (Nat.le_of_ble_eq_true hb) h
      rw [this]; simp [h]
theorem isNil_arr {α : Type} (a : Array α) : isNil a.toList = a.isEmpty := by
  obtain ⟨l⟩ := a
  cases l <;> rfl
theorem R.mapIt (h : R P s H w) {r : Nat} {y : Nat × Nat} {m since : Nat} {seen : Array Nat} {last : Nat} {u : Bool} (hg : H.get r = some (.mapIter (some m) since seen last, u)) (hs : s r = some y) : ∃ z, s m = some z ∧ w.heap[y.1]? = some (.mapIter (some z.1) since seen last) := by
  obtain ⟨o', h1, h2⟩ := h.obj r _ u y hg live_mi hs
  obtain ⟨z, h3, h4⟩ := h2
  subst h4
  exact ⟨z, h3, h1⟩
theorem nextM_run (h : R P s H w) {r : Nat} {y : Nat × Nat} {m since : Nat} {seen : Array Nat} {last : Nat} {u : Bool} {ty : TypeId} {n : Next} {H' : Hp} (hg : H.get r = some (.mapIter (some m) since seen last, u)) (hs : s r = some y) (he : nextM H r m since seen last u (mapAt H m) = some (n, H')) :
    Does P s H w (do pure (.value (← Instr.next (.pointer (some ⟨y.1, 0, none⟩)) false ty))) n H' := by
  obtain ⟨z, g1, hw⟩ := h.mapIt hg hs
  have hob : (getObj y.1).run P w = .ok (.mapIter (some z.1) since seen last) w := by simp [getObj, Sem.run, hw]
  unfold nextM at he
  split at he
  · rename_i es c hme
    have hw2 := h.getMap hme g1
    split at he
    · cases he
    · rename_i hq
      rw [isNil_arr, isNil_arr, allNew_eq, Array.all_toList] at hq
      rw [oldM_eq, newM_eq] at he
      have eo : ((es.filter fun e => !seen.contains e.born).filter fun e => decide (e.born < since)).toList = (es.toList.filter fun e => !seen.toList.contains e.born).filter fun e => decide (e.born < since) := by simp
      have en : ((es.filter fun e => !seen.contains e.born).filter fun e => decide (e.born ≥ since)).toList = (es.toList.filter fun e => !seen.toList.contains e.born).filter fun e => decide (e.born ≥ since) := by simp
      rw [← eo, ← en] at he
      unfold nextM2 at he
      split at he
      · rename_i ho hn
        cases he
        have ho : ((es.filter fun e => !seen.contains e.born).filter fun e => decide (e.born < since)) = #[] := by simpa using ho
        have hn : ((es.filter fun e => !seen.contains e.born).filter fun e => decide (e.born ≥ since)) = #[] := by simpa using hn
        refine does_pure h (v' := .tuple #[.bool false]) ?_ (V.tuple.2 ⟨_, ⟨_, _, rfl, rfl, rfl⟩, rfl⟩)
        unfold Instr.next
        simp only [Sem.run_bind, hob, Result.andThen_ok, getObj_run hw2, hq, ho, hn, Sem.run_pure, Bool.false_eq_true, if_false]
        have hch : (choose (.mapNext ((if (#[] : Array MapEntry).isEmpty = true then (#[none] : Array (Option MapEntry)) else #[]) ++ ((#[] : Array MapEntry) ++ #[]).map some).size)).run P w = .ok 0 w := by simp [choose, Sem.run, Question.forced]
        rw [hch]
        have hat : ((if (#[] : Array MapEntry).isEmpty = true then (#[none] : Array (Option MapEntry)) else #[]) ++ ((#[] : Array MapEntry) ++ #[]).map some)[0]? = some none := by simp
        simp only [Result.andThen_ok, hat, Sem.run_pure]
      · rename_i e ho hn
        have ho : ((es.filter fun e => !seen.contains e.born).filter fun e => decide (e.born < since)) = #[e] := by apply Array.ext'; simpa using ho
        have hn : ((es.filter fun e => !seen.contains e.born).filter fun e => decide (e.born ≥ since)) = #[] := by simpa using hn
        unfold nextE at he
        split at he
        · rename_i hc
          cases he
          have hso : ∀ o, (setObj y.1 o).run P w = .ok () { w with heap := w.heap.setIfInBounds y.1 o } := fun o => by simp [setObj, Sem.run, hw]
          refine does_val (s' := s) (v' := .tuple #[.bool true, e.key, e.val]) ?_ (cloR_self hc) (h.set hg live_mi hs (o2 := .mapIter (some m) since (seen.push e.born) c) (o2' := .mapIter (some z.1) since (seen.push e.born) c) ⟨z, g1, rfl⟩)
          unfold Instr.next
          simp only [Sem.run_bind, hob, Result.andThen_ok, getObj_run hw2, hq, ho, hn, Sem.run_pure, Bool.false_eq_true, if_false]
          have hch : (choose (.mapNext ((if (#[e] : Array MapEntry).isEmpty = true then (#[none] : Array (Option MapEntry)) else #[]) ++ ((#[e] : Array MapEntry) ++ #[]).map some).size)).run P w = .ok 0 w := by simp [choose, Sem.run, Question.forced]
          rw [hch]
          have hat : ((if (#[e] : Array MapEntry).isEmpty = true then (#[none] : Array (Option MapEntry)) else #[]) ++ ((#[e] : Array MapEntry) ++ #[]).map some)[0]? = some (some e) := by simp
          simp only [Result.andThen_ok, hat, Sem.run_bind, hso, Sem.run_pure]
        · cases he
      · cases he
  · cases he
theorem fNext_run (h : R P s H w) {x x' : Value} {b : Bool} {ty : TypeId} {n : Next} {H' : Hp} (he : fNext x b H = some (n, H')) (hx : V s x x') : Does P s H w (do pure (.value (← Instr.next x' b ty))) n H' := by
  unfold fNext at he
  split at he
  · rename_i r
    obtain ⟨y, g1, g2⟩ := V.ptr.1 hx
    subst g2
    unfold fNextO at he
    split at he
    · rename_i t pos u hg; exact nextS_run h hg g1 he
    · rename_i a c d u hg
      cases he
      obtain ⟨o', h1, h2⟩ := h.obj r _ _ y hg live_mi g1
      cases h2
      have hob : (getObj y.1).run P w = .ok (.mapIter none a c d) w := by simp [getObj, Sem.run, h1]
      refine does_pure h (v' := .tuple #[.bool false]) ?_ (V.tuple.2 ⟨_, ⟨_, _, rfl, rfl, rfl⟩, rfl⟩)
      unfold Instr.next
      simp only [Sem.run_bind, hob, Result.andThen_ok, Sem.run_pure]
    · rename_i m since seen last u hg; exact nextM_run h hg g1 he
    · cases he
  · cases he
end
end Go.Ev
