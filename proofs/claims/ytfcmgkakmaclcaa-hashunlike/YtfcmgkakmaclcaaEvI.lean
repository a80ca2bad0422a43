/- An evaluator for closed runs: slices that are made, copied, cleared; appends. -/
import Derived.Test.YtfcmgkakmaclcaaEvH
set_option linter.unusedSimpArgs false
set_option linter.unusedVariables false
set_option linter.unusedSectionVars false
namespace Go.Ev
variable [Inhabited Env]
section
variable {P : Program} {s : Sg} {H : Hp} {w : World}
theorem okSz_lt {n : Nat} (h : okSz n = true) : n < 1048576 := by unfold okSz at h; exact Nat.blt_eq ▸ h
theorem newSl (h : R P s H w) {k l c : Nat} (hc : c < junk) (hl : l ≤ c) : V (upd s H.n (w.heap.size, k)) (.slice (some ⟨H.n, 0, none⟩) l c) (.slice (some ⟨w.heap.size, 0, none⟩) l c) :=
  (V.sl (ne_junk_small hc)).2 ⟨_, upd_same _ _ _, by rw [capOf_small hc]; exact hl, by rw [capOf_small hc]⟩
theorem small_junk {n m : Nat} (h : n * (m + 1) < 1048576) : n < junk := by
  have h1 : n ≤ n * (m + 1) := Nat.le_mul_of_pos_right n (Nat.succ_pos m)
  exact Nat.lt_of_le_of_lt h1 (Nat.lt_trans h (by decide))
theorem fBuildSlice_run (h : R P s H w) {t : TypeId} {len : Nat} {ps : List (Nat × Value)} {ps' : Array (Nat × Value)} {n : Next} {H' : Hp} (he : fBuildSlice P t len (some ps) H = some (n, H')) (hp : PL s ps ps'.toList) :
    Does P s H w (do pure (.value (← Instr.buildSlice t len ps'))) n H' := by
  unfold fBuildSlice at he
  split at he
  · rename_i ps0 e e0 hd
    cases e0
    unfold bsE at he
    split at he
    · rename_i z m hz hs
      split at he
      · rename_i hb
        obtain ⟨b1, b2⟩ := and2 hb
        have b1 := okSz_lt b1
        have b2 := Nat.eq_of_beq_eq_true b2
        obtain ⟨h1, h2⟩ := run_zero (P := P) (w := w) hz
        unfold bsP at he
        split at he
        · rename_i cs hcs
          cases he
          obtain ⟨c', g1, g2⟩ := fill_run hcs (cloL_rep (clo1_cells (s := s) h2) len) hp
          refine does_val (s' := upd s H.n (w.heap.size, 0)) (v' := .slice (some ⟨w.heap.size, 0, none⟩) len len) ?_ (newSl h (small_junk b1) (Nat.le_refl _)) (h.pushCells (e := e) g2)
          unfold Instr.buildSlice
          have hzs : z.cells.size = m + 1 := by rw [← Array.length_toList]; exact b2
          have hlim : ¬ len * (m + 1) > 2 ^ 24 := by
            have : (1048576 : Nat) ≤ 2 ^ 24 := by decide
            omega
          have hpl : (fun i => some (i * (m + 1), m + 1)) = elemPl (m + 1) := rfl
          simp only [Sem.run_bind, run_under hd, Result.andThen_ok, run_size hs, hlim, if_false, Sem.run_pure, hpl]
          by_cases hl0 : len * (m + 1) = 0
          · have hlen0 : len = 0 := by rcases Nat.mul_eq_zero.1 hl0 with h0 | h0; · exact h0
                                       · cases h0
            subst hlen0
            have e2 : repL z.cells.toList 0 = [] := rfl
            rw [e2] at g1
            simp only [hl0, if_true, Sem.run_pure, Result.andThen_ok, pure_bind]
            have e3 : ((Array.range 0).map fun i => (#[] : Array Value)[i % (#[] : Array Value).size]!) = ⟨[]⟩ := by simp
            rw [e3, g1]
            simp [newRow_run]
          · simp only [hl0, if_false, Sem.run_bind, h1, Result.andThen_ok, Sem.run_pure]
            have e3 := zeros_eq z.cells (by omega) len
            rw [hzs] at e3
            rw [hzs, e3, g1]
            simp [newRow_run]
        · cases he
      · cases he
    · cases he
  · cases he
theorem run_bytes {t : TypeId} {b : Nat} (h : bytesF P t = some b) : ∃ i, infoF P t = some i ∧ i.bytes = b := by
  unfold bytesF at h
  cases hi : infoF P t with
  | none => rw [hi] at h; cases h
  | some i => rw [hi] at h; cases h; exact ⟨i, rfl, rfl⟩
theorem room_run {n : Nat} : (askRoom n).run P w = .ok () w := by unfold askRoom; split <;> rfl
theorem fMake_run (h : R P s H w) {t : TypeId} {l c l' c' : Value} {n : Next} {H' : Hp} (he : fMake P t l c H = some (n, H')) (hl : V s l l') (hc : V s c c') : Does P s H w (do pure (.value (← Instr.makeSlice t l' c'))) n H' := by
  unfold fMake at he
  split at he
  · rename_i e l c hd
    cases hl; cases hc
    split at he
    · rename_i z m b hz hs hbt
      split at he
      · rename_i hb
        obtain ⟨b0, b4⟩ := and2 hb
        obtain ⟨b1, b2, b3⟩ := and3 b0
        have b1 := okSz_lt b1
        have b2 := Nat.le_of_ble_eq_true b2
        have b3 := Nat.eq_of_beq_eq_true b3
        have b4 : b < 1048576 := by simpa [Nat.blt_eq] using b4
        cases he
        obtain ⟨h1, h2⟩ := run_zero (P := P) (w := w) hz
        obtain ⟨i, hi, hib⟩ := run_bytes hbt
        refine does_val (s' := upd s H.n (w.heap.size, 0)) (v' := .slice (some ⟨w.heap.size, 0, none⟩) l c) ?_ (newSl h (small_junk b1) b2) (h.pushCells (e := e) (cloL_rep (clo1_cells (s := s) h2) c))
        have hcs : c < 1048576 := Nat.lt_of_le_of_lt (Nat.le_mul_of_pos_right c (Nat.succ_pos m)) b1
        have hw1 : IntKind.i64.wrap (l : Int) = (l : Int) := wrap_ok (by omega) (by omega)
        have hw2 : IntKind.i64.wrap (c : Int) = (c : Int) := wrap_ok (by omega) (by omega)
        have hbc : ((b : Int) * (c : Int)) ≤ 2 ^ 48 := by
          have h3 : b * c ≤ 1048576 * 1048576 := Nat.mul_le_mul (Nat.le_of_lt b4) (Nat.le_of_lt hcs)
          have h4 : ((b * c : Nat) : Int) ≤ ((1048576 * 1048576 : Nat) : Int) := Int.ofNat_le.2 h3
          rw [Int.natCast_mul] at h4
          exact Int.le_trans h4 (by decide)
        have hzs : z.cells.size = m + 1 := by rw [← Array.length_toList]; exact b3
        have e3 := zeros_eq z.cells (by omega) c
        rw [hzs] at e3
        unfold Instr.makeSlice
        have g1 : ¬ ((c : Int) < 0) := by omega
        have g2 : ¬ ((l : Int) < 0) := by omega
        have g3 : ¬ ((l : Int) > (c : Int)) := by omega
        have g4 : ¬ ((b : Int) * (c : Int) > 2 ^ 48) := by omega
        subst hib
        simp only [Sem.run_bind, run_under hd, Result.andThen_ok, asInt, asIntOf, Sem.run_pure, run_info hi, Int.ofNat_eq_natCast, hw1, hw2, g1, g2, g3, g4, decide_false, Bool.or_false, Bool.false_eq_true, if_false, room_run, run_size hs, Int.toNat_natCast]
        by_cases hc0 : c * (m + 1) = 0
        · have hlen0 : c = 0 := by rcases Nat.mul_eq_zero.1 hc0 with h0 | h0; · exact h0
                                   · cases h0
          subst hlen0
          have hd0 : Array.map (fun (_ : Nat) => (default : Value)) (Array.range 0) = ⟨[]⟩ := by apply Array.ext'; simp
          simp [newRow_run, repL]
          rw [hd0]
        · simp only [hc0, if_false, Sem.run_bind, h1, Result.andThen_ok, Sem.run_pure]
          rw [hzs, e3]
          simp [newRow_run]
      · cases he
    · cases he
  · cases he
/-! what is copied or appended -/
theorem lenF_run {x x' : Value} {n : Nat} (he : lenF x = some n) (hx : V s x x') : (Builtin.lenOf x').run P w = .ok n w := by
  unfold lenF at he
  split at he
  · rename_i a l c
    cases he
    by_cases hc : c = junk
    · subst hc
      obtain ⟨e, a', c', e2⟩ := V.slJ.1 hx
      subst e e2; rfl
    · obtain ⟨a', c', _, e, _⟩ := V.slR hc hx
      subst e; rfl
  · cases he; cases hx; rfl
  · cases he
theorem bytes_self : ∀ (l : List UInt8), VL s (l.map fun b => (.int .u8 b.toNat : Value)) (l.map fun b => .int .u8 b.toNat)
  | [] => rfl
  | b :: r => ⟨_, _, rfl, bytes_self r, rfl⟩
theorem srcF_run (h : R P s H w) {x x' : Value} {size n : Nat} {l : List Value} (he : srcF H size n x = some l) (hx : V s x x') (hn : lenF x = some n ∨ ∃ m, lenF x = some m ∧ n ≤ m) : ∃ l', VL s l l' ∧ (Builtin.firstCells size n x').run P w = .ok ⟨l'⟩ w := by
  unfold srcF at he
  split at he
  · rename_i b off len c
    by_cases hc : c = junk
    · subst hc
      obtain ⟨e, a', c', e2⟩ := V.slJ.1 hx
      subst e e2
      have hn0 : n = 0 := by
        rcases hn with hn | ⟨m, hn, hm⟩
        · simp [lenF] at hn; exact hn.symm
        · simp [lenF] at hn; omega
      subst hn0
      have : l = [] := by
        unfold loadN at he
        split at he
        · simp [partL_eq] at he; first | exact he | exact he.symm
        · cases he
      subst this
      refine ⟨[], rfl, ?_⟩
      cases a' <;> simp [Builtin.firstCells, loadCells, loadCellsFrom]
    · obtain ⟨y, e1, _, e2⟩ := (V.sl hc).1 hx
      subst e2
      obtain ⟨l', g1, g2⟩ := h.load e1 he
      exact ⟨l', g1, g2⟩
  · rename_i len c
    split at he
    · cases he
      refine ⟨[], rfl, ?_⟩
      by_cases hc : c = junk
      · subst hc
        obtain ⟨e, a', c', e2⟩ := V.slJ.1 hx
        subst e2
        cases a' <;> simp [Builtin.firstCells, loadCells, loadCellsFrom]
      · cases (V.slN hc).1 hx
        rfl
    · cases he
  · rename_i b
    split at he
    rotate_left
    · cases he
    cases he
    cases hx
    refine ⟨_, bytes_self _, ?_⟩
    show (pure ((b.extract 0 n).data.map fun b => (.int .u8 b.toNat : Value)) : Sem (Array Value)).run P w = _
    rw [extract_data]
    simp
  · cases he
theorem argsAt {ts : Array TypeId} {t : TypeId} {r : List TypeId} (h : ts.toList = t :: r) : ts[0]? = some t := by
  have : ts = ⟨t :: r⟩ := by cases ts; cases h; rfl
  subst this; rfl
theorem first0 {x x' : Value} {m size : Nat} (hx : V s x x') (hm : lenF x = some m) : (Builtin.firstCells size 0 x').run P w = .ok ⟨[]⟩ w := by
  unfold lenF at hm
  split at hm
  · rename_i a l c
    by_cases hc : c = junk
    · subst hc
      obtain ⟨e, a', c', e2⟩ := V.slJ.1 hx
      subst e2
      cases a' <;> simp [Builtin.firstCells, loadCells, loadCellsFrom]
    · obtain ⟨a', c', _, e, _⟩ := V.slR hc hx
      subst e
      cases a' <;> simp [Builtin.firstCells, loadCells, loadCellsFrom]
  · rename_i b
    cases hx
    show (pure ((b.extract 0 0).data.map fun b => (.int .u8 b.toNat : Value)) : Sem (Array Value)).run P w = _
    rw [extract_data, partL_eq]
    simp
  · cases hm
theorem fCopy_run (h : R P s H w) {ts : Array TypeId} {ty : TypeId} {xs xs' : List Value} {n : Next} {H' : Hp} (he : fCopy P ts.toList xs H = some (n, H')) (hx : VL s xs xs') : Does P s H w (do pure (.value (← Builtin.copy_ ts ty ⟨xs'⟩))) n H' := by
  unfold fCopy at he
  split at he
  · rename_i t tr base len c x xr ht
    obtain ⟨d', r1, g1, g2, e⟩ := hx
    obtain ⟨x', r2, g3, g4, e2⟩ := g2
    subst e2 e
    have ht0 := argsAt ht
    split at he
    · rename_i e m hd hm
      unfold copyS at he
      have hlenx := lenF_run (P := P) (w := w) hm g3
      have hbase : ∃ a' c', d' = .slice a' len c' ∧ (c ≠ junk → AR s base a') ∧ (c = junk → len = 0) := by
        by_cases hc : c = junk
        · subst hc; obtain ⟨e0, a', c', e1⟩ := V.slJ.1 g1; subst e0; exact ⟨a', c', e1, fun h => absurd rfl h, fun _ => rfl⟩
        · obtain ⟨a', c', h1, h2, _⟩ := V.slR hc g1; exact ⟨a', c', h2, fun _ => h1, fun h => absurd h hc⟩
      obtain ⟨a', c', e1, har, hj0⟩ := hbase
      subst e1
      split at he
      · rename_i hn0
        split at he
        · rename_i size hs
          cases he
          refine does_pure h (v' := goInt 0) ?_ rfl
          unfold Builtin.copy_
          simp only [ht0, List.getElem?_toArray, List.getElem?_cons_zero, List.getElem?_cons_succ, Sem.run_bind, run_under hd, Result.andThen_ok, hlenx, run_size hs, hn0, first0 g3 hm]
          cases a' <;> rfl
        · cases he
      · rename_i k hk
        split at he
        · rename_i b off size hs
          unfold copyP at he
          split at he
          · rename_i vs hvs
            split at he
            · rename_i H2 hst
              cases he
              have hc : c ≠ junk := fun e => by
                have h0 := hj0 e
                have h5 : Nat.min m len ≤ len := Nat.min_le_right m len
                rw [hk, h0] at h5
                omega
              obtain ⟨y, e3, e4⟩ := har hc
              subst e4
              obtain ⟨l', k1, k2⟩ := srcF_run h hvs g3 (.inr ⟨m, hm, by
                have h5 : Nat.min m len ≤ m := Nat.min_le_left m len
                rw [hk] at h5
                exact h5⟩)
              obtain ⟨w', k3, k4⟩ := h.stores e3 k1 hst
              refine does_val (v' := goInt (k + 1 : Nat)) ?_ rfl k4
              unfold Builtin.copy_
              simp only [ht0, List.getElem?_toArray, List.getElem?_cons_zero, List.getElem?_cons_succ, Sem.run_bind, run_under hd, Result.andThen_ok, hlenx, run_size hs, hk, k2]
              rw [k3]
              rfl
            · cases he
          · cases he
        · cases he
    · cases he
  · cases he
theorem fClear_run (h : R P s H w) {ts : Array TypeId} {ty : TypeId} {xs xs' : List Value} {n : Next} {H' : Hp} (he : fClear P ts.toList xs H = some (n, H')) (hx : VL s xs xs') : Does P s H w (do pure (.value (← Builtin.clear_ ts ty ⟨xs'⟩))) n H' := by
  unfold fClear at he
  split at he
  · rename_i t tr a c xr ht
    obtain ⟨d', r1, g1, g2, e⟩ := hx
    subst e
    have ht0 := argsAt ht
    split at he
    · rename_i e hd
      cases he
      refine does_pure h (v' := .tuple #[]) ?_ (V.tuple.2 ⟨[], rfl, rfl⟩)
      have : ∃ a' c', d' = .slice a' 0 c' := by
        by_cases hc : c = junk
        · subst hc; obtain ⟨_, a', c', e1⟩ := V.slJ.1 g1; exact ⟨a', c', e1⟩
        · obtain ⟨a', c', _, e, _⟩ := V.slR hc g1; exact ⟨a', c', e⟩
      obtain ⟨a', c', e1⟩ := this
      subst e1
      unfold Builtin.clear_
      simp only [ht0, List.getElem?_toArray, List.getElem?_cons_zero, Sem.run_bind, run_under hd, Result.andThen_ok]
      cases a' <;> rfl
    · cases he
  · rename_i t tr b off n c xr ht
    obtain ⟨d', r1, g1, g2, e⟩ := hx
    subst e
    have ht0 := argsAt ht
    split at he
    · rename_i e hd
      split at he
      · rename_i z hz
        split at he
        · rename_i hb
          have hb : 0 < z.cells.toList.length := by simpa [Nat.blt_eq] using hb
          obtain ⟨h1, h2⟩ := run_zero (P := P) (w := w) hz
          unfold clearP at he
          split at he
          · rename_i H2 hst
            cases he
            have hc : c ≠ junk := fun e => by subst e; obtain ⟨e0, _⟩ := V.slJ.1 g1; cases e0
            obtain ⟨y, e3, _, e4⟩ := (V.sl hc).1 g1
            subst e4
            obtain ⟨w', k3, k4⟩ := h.stores e3 (cloL_rep (clo1_cells (s := s) h2) (n + 1)) hst
            refine does_val (v' := .tuple #[]) ?_ (V.tuple.2 ⟨[], rfl, rfl⟩) k4
            unfold Builtin.clear_
            have e5 : Builtin.zeroCells z.cells (n + 1) = ⟨repL z.cells.toList (n + 1)⟩ := zeros_eq z.cells (by rw [← Array.length_toList]; exact hb) (n + 1)
            simp only [ht0, List.getElem?_toArray, List.getElem?_cons_zero, Sem.run_bind, run_under hd, Result.andThen_ok, h1, e5]
            rw [k3]
            rfl
          · cases he
        · cases he
      · cases he
    · cases he
  · cases he
end
end Go.Ev
