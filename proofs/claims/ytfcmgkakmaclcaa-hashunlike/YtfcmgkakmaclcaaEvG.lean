/- An evaluator for closed runs: slices of slices, of arrays, of texts. -/
import Derived.Test.YtfcmgkakmaclcaaEvF
set_option linter.unusedSimpArgs false
set_option linter.unusedVariables false
set_option linter.unusedSectionVars false
namespace Go.Ev
variable [Inhabited Env]
section
variable {P : Program} {s : Sg} {H : Hp} {w : World}
theorem optInt_eq {v : Option Value} {n : Option Nat} (h : optInt v = some n) : (v = none ∧ n = none) ∨ ∃ k m, v = some (.int k (.ofNat m)) ∧ n = some m := by
  unfold optInt at h
  split at h
  · cases h; exact .inl ⟨rfl, rfl⟩
  · rename_i k m; cases h; exact .inr ⟨k, m, rfl, rfl⟩
  · cases h
theorem bound_run {k : IntKind} {m y : Nat} {c : BoundsCode} (h : m ≤ y) : (Instr.sliceBound (.int k (m : Int)) y c).run P w = .ok m w := by
  unfold Instr.sliceBound
  have h1 : (0 : Int) ≤ (m : Int) ∧ (m : Int) ≤ (y : Int) := ⟨Int.natCast_nonneg m, Int.ofNat_le.2 h⟩
  simp only [asIntOf, Sem.run_bind, Sem.run_pure, Result.andThen_ok, h1, and_self, if_true]
  rfl
/-- the bounds hold -/
theorem bounds_run {b : Bool} {len cap : Nat} {lo hi mx : Option Value} {l h m : Option Nat} (hl : optInt lo = some l) (hh : optInt hi = some h) (hm : optInt mx = some m)
    (h1 : m.getD cap ≤ cap) (h2 : h.getD len ≤ m.getD cap ∨ h = none) (h3 : l.getD 0 ≤ h.getD len) (h4 : m ≠ none → h ≠ none) :
    (Instr.sliceBounds b len cap lo hi mx).run P w = .ok (l.getD 0, h.getD len, m.getD cap) w := by
  unfold Instr.sliceBounds
  rcases optInt_eq hm with ⟨e1, e2⟩ | ⟨k1, m1, e1, e2⟩ <;> subst e1 e2
  · rcases optInt_eq hh with ⟨e3, e4⟩ | ⟨k2, m2, e3, e4⟩ <;> subst e3 e4
    · rcases optInt_eq hl with ⟨e5, e6⟩ | ⟨k3, m3, e5, e6⟩ <;> subst e5 e6
      · simp
      · simp only [Option.getD_some, Option.getD_none] at h3
        simp [bound_run h3]
    · have g2 : m2 ≤ cap := by rcases h2 with h2 | h2; · simpa using h2
                               · cases h2
      rcases optInt_eq hl with ⟨e5, e6⟩ | ⟨k3, m3, e5, e6⟩ <;> subst e5 e6
      · simp [bound_run g2]
      · simp only [Option.getD_some] at h3
        simp [bound_run g2, bound_run h3]
  · rcases optInt_eq hh with ⟨e3, e4⟩ | ⟨k2, m2, e3, e4⟩ <;> subst e3 e4
    · exact absurd rfl (h4 (by simp))
    · simp only [Option.getD_some] at h1
      have g2 : m2 ≤ m1 := by rcases h2 with h2 | h2; · simpa using h2
                              · cases h2
      rcases optInt_eq hl with ⟨e5, e6⟩ | ⟨k3, m3, e5, e6⟩ <;> subst e5 e6
      · simp [bound_run g2, bound_run h1]
      · simp only [Option.getD_some] at h3
        simp [bound_run g2, bound_run h3, bound_run h1]
theorem sl_run {t e : TypeId} {size : Nat} {a : Option Addr} {len cap : Nat} {lo hi mx : Option Value} {l h m : Nat} (hd : descF P t = some (.slice e)) (hz : sizeF P e = some size)
    (hb : (Instr.sliceBounds true len cap lo hi mx).run P w = .ok (l, h, m) w) :
    (Instr.sliceAt t (.slice a len cap) lo hi mx).run P w = .ok (.slice (if m = l then a else a.map (·.add (l * size))) (h - l) (m - l)) w := by
  unfold Instr.sliceAt
  simp only [Sem.run_bind, run_under hd, Result.andThen_ok]
  unfold Instr.slice
  simp only [Sem.run_bind, run_under hd, Result.andThen_ok, hb, run_size hz, Sem.run_pure]
theorem and3 {a b c : Bool} (h : (a && b && c) = true) : a = true ∧ b = true ∧ c = true := by cases a <;> cases b <;> cases c <;> simp_all
theorem and2 {a b : Bool} (h : (a && b) = true) : a = true ∧ b = true := by cases a <;> cases b <;> simp_all
theorem capOf_small {k c : Nat} (h : c < junk) : capOf k c = c := by unfold capOf; rw [if_pos (Nat.lt_trans h (by decide))]
theorem capOf_big {k c : Nat} (h : half ≤ c) : capOf k c = k + c - big := by unfold capOf; rw [if_neg (by omega)]
theorem ne_junk_small {c : Nat} (h : c < junk) : c ≠ junk := Nat.ne_of_lt h
theorem ne_junk_big {c : Nat} (h : half ≤ c) : c ≠ junk := fun e => by rw [e] at h; exact absurd h (by decide)
/-- how an address stands in the world -/
def AR (s : Sg) : Option Addr → Option Addr → Prop
  | none, a' => a' = none
  | some a, a' => ∃ x, s a.block = some x ∧ a' = some ⟨x.1, a.off, a.spot⟩
theorem V.slR {a : Option Addr} {l c : Nat} {v' : Value} (hc : c ≠ junk) (h : V s (.slice a l c) v') : ∃ a' c', AR s a a' ∧ v' = .slice a' l c' ∧ (a = none → c' = c) ∧ ∀ ad, a = some ad → ∃ x, s ad.block = some x ∧ c' = capOf x.2 c ∧ l ≤ c' := by
  cases a with
  | none => exact ⟨none, c, rfl, (V.slN hc).1 h, fun _ => rfl, fun ad e => by cases e⟩
  | some a => obtain ⟨x, e1, e2, e3⟩ := (V.sl hc).1 h; exact ⟨_, _, ⟨x, e1, rfl⟩, e3, fun e => (by cases e), fun ad e => by cases e; exact ⟨x, e1, rfl, e2⟩⟩
/-- a slice with known room, cut -/
theorem slK_run {t e : TypeId} {size : Nat} {a a' : Option Addr} {len cap' : Nat} {lo hi mx : Option Value} {l h m : Option Nat} {M : Nat} {v : Value}
    (ha : AR s a a') (hd : descF P t = some (.slice e)) (hz : sizeF P e = some size) (hl : optInt lo = some l) (hh : optInt hi = some h) (hm : optInt mx = some m)
    (hM : m.getD cap' = M) (h1 : M ≤ cap') (h4 : m ≠ none → h ≠ none) (hj : M < junk) (hv : slK a (l.getD 0) (h.getD len) M size = some v) :
    ∃ v', V s v v' ∧ (Instr.sliceAt t (.slice a' len cap') lo hi mx).run P w = .ok v' w := by
  unfold slK at hv
  split at hv
  · rename_i hb
    obtain ⟨b1, b2, b3⟩ := and3 hb
    have b1 := Nat.le_of_ble_eq_true b1
    have b2 := Nat.le_of_ble_eq_true b2
    cases hv
    have hrun := sl_run (P := P) (w := w) (a := a') hd hz (bounds_run hl hh hm (by rw [hM]; exact h1) (.inl (by rw [hM]; exact b2)) b1 h4)
    rw [hM] at hrun
    refine ⟨_, ?_, hrun⟩
    have hjj : M - l.getD 0 ≠ junk := by omega
    cases a with
    | none =>
      cases ha
      have e2 : (if M = l.getD 0 then (none : Option Addr) else (none : Option Addr).map (fun z => z.add (l.getD 0 * size))) = none := by split <;> rfl
      rw [e2]
      cases Nat.beq M (l.getD 0) <;> exact (V.slN hjj).2 rfl
    | some ad =>
      obtain ⟨x, e1, e2⟩ := ha
      subst e2
      obtain ⟨b, off, spot⟩ := ad
      cases spot with
      | some _ => cases b3
      | none =>
        by_cases hq : M = l.getD 0
        · rw [hq, Nat.beq_refl, if_pos rfl]
          refine (V.sl (by omega)).2 ⟨x, e1, ?_, ?_⟩
          · rw [capOf_small (by omega)]; omega
          · rw [capOf_small (by omega)]
        · have hq' : Nat.beq M (l.getD 0) = false := by
            cases hb : Nat.beq M (l.getD 0) with
            | false => rfl
            | true => exact absurd (Nat.eq_of_beq_eq_true hb) hq
          rw [hq', if_neg hq]
          refine (V.sl hjj).2 ⟨x, e1, ?_, ?_⟩
          · rw [capOf_small (by omega)]; omega
          · rw [capOf_small (by omega)]; simp [add_at]
  · cases hv
/-- what reaches so far has the room -/
theorem reaches_cap (h : R P s H w) {ad : Addr} {size cap n : Nat} {x : Nat × Nat} (hr : reaches P H (some ad) size cap n = true) (hs : s ad.block = some x) (hc : half ≤ cap) (hz : 0 < size) : n ≤ capOf x.2 cap := by
  unfold reaches at hr
  simp only [] at hr
  split at hr
  · rename_i c e f hg hp
    obtain ⟨b1, b2⟩ := and2 hr
    obtain ⟨b1, b3, b4⟩ := and3 b1
    have b1 := Nat.eq_of_beq_eq_true b1
    have b3 := Nat.le_of_ble_eq_true b3
    have b4 := Nat.le_of_ble_eq_true b4
    obtain ⟨o', h1, h2⟩ := h.obj _ _ _ x hg live_cells hs
    obtain ⟨_, c', fr, e', ⟨a, r, e1, e2⟩, ⟨m, e3, e4⟩, _⟩ := h2
    rw [e3] at b2
    have b2 : m + 1 = size := Nat.eq_of_beq_eq_true b2
    rw [b2] at e4
    have hl : c.toList.length ≤ x.2 * size := by rw [← e4, e1, List.length_append, e2.len]; omega
    rw [capOf_big hc]
    rw [b1, ← Nat.add_mul] at b3
    have := Nat.le_of_mul_le_mul_right (Nat.le_trans b3 hl) hz
    omega
  · cases hr
theorem slA_run (h : R P s H w) {t e : TypeId} {a : Option Addr} {len cap : Nat} {lo hi mx : Option Value} {l hh m : Option Nat} {v x' : Value} (hd : descF P t = some (.slice e))
    (hl : optInt lo = some l) (hh' : optInt hi = some hh) (hm : optInt mx = some m) (hv : slA P H (.slice a len cap) a len cap l hh m (sizeF P e) = some v) (hx : V s (.slice a len cap) x') :
    ∃ v', V s v v' ∧ (Instr.sliceAt t x' lo hi mx).run P w = .ok v' w := by
  unfold slA at hv
  split at hv
  · rename_i k hz
    split at hv
    · rename_i hj
      have hj := Nat.eq_of_beq_eq_true hj
      subst hj
      obtain ⟨e0, a', c', e1⟩ := V.slJ.1 hx
      subst e0 e1
      unfold slJ at hv
      split at hv
      · rename_i g1 g2
        cases hv
        refine ⟨_, hx, ?_⟩
        rw [sl_run (P := P) (w := w) hd hz (bounds_run hl hh' hm (by simp) (.inl (by simp [g2])) (by omega) (by simp))]
        rw [g1, g2]
        simp [Addr.add]
      · cases hv
    · rename_i hj
      have hj := beq_false hj
      obtain ⟨a', c', har, e1, hn, hs⟩ := V.slR hj hx
      subst e1
      unfold slB at hv
      split at hv
      · rename_i hb
        have hb := Nat.le_of_ble_eq_true hb
        split at hv
        · rename_i mm
          split at hv
          · rename_i hq
            obtain ⟨q1, q2, q3⟩ := and3 hq
            have q1 := Nat.le_of_ble_eq_true q1
            have q3 : mm < junk := by simpa [Nat.blt_eq] using q3
            have hle : mm ≤ c' := by
              cases a with
              | none => rw [hn rfl]; exact Nat.le_of_lt (Nat.lt_of_lt_of_le q3 (Nat.le_trans (by decide : junk ≤ half) hb))
              | some ad => obtain ⟨x, _, _, h3⟩ := hs ad rfl; omega
            exact slK_run har hd hz hl hh' hm rfl hle (fun _ e => by rw [e] at q2; cases q2) q3 hv
          · cases hv
        · split at hv
          · rename_i hq
            obtain ⟨q1, q2, q3⟩ := and3 hq
            have q1 := Nat.le_of_ble_eq_true q1
            cases a with
            | none => cases q3
            | some ad =>
              obtain ⟨x, hx1, hx2, hx3⟩ := hs ad rfl
              obtain ⟨x', e3, e4⟩ := har
              rw [hx1] at e3
              cases e3
              subst e4
              obtain ⟨b, off, spot⟩ := ad
              cases spot with
              | some _ => cases q3
              | none =>
                have hhc : hh.getD len ≤ c' := by
                  rw [Bool.or_eq_true] at q2
                  rcases q2 with q2 | q2
                  · exact Nat.le_trans (Nat.le_of_ble_eq_true q2) hx3
                  · rw [hx2]; exact reaches_cap h q2 hx1 hb (by omega)
                have hrun := sl_run (P := P) (w := w) (a := some ⟨x.1, off, none⟩) hd hz (bounds_run hl hh' hm (by simp) (.inl (by simpa using hhc)) q1 (by simp))
                simp only [Option.getD_none] at hrun
                refine ⟨_, ?_, hrun⟩
                unfold slU at hv
                split at hv
                · rename_i hz0
                  have hz0 := Nat.eq_of_beq_eq_true hz0
                  cases hv
                  rw [hz0]
                  refine (V.sl (ne_junk_big hb)).2 ⟨x, hx1, ?_, ?_⟩
                  · rw [← hx2]; exact hhc
                  · rw [← hx2]; simp [Addr.add]
                · split at hv
                  · rename_i hlt
                    obtain ⟨g1, g2⟩ := and2 hlt
                    have g1 : l.getD 0 < hh.getD len := by simpa [Nat.blt_eq] using g1
                    have g2 := Nat.le_of_ble_eq_true g2
                    cases hv
                    have hpos : 0 < half := by decide
                    have hcc : capOf x.2 (cap - l.getD 0) = c' - l.getD 0 := by rw [hx2, capOf_big hb, capOf_big g2]; omega
                    refine (V.sl (ne_junk_big g2)).2 ⟨x, hx1, ?_, ?_⟩
                    · rw [hcc]; omega
                    · rw [hcc, if_neg (by omega)]; simp [add_at]
                  · split at hv
                    · rename_i hq
                      have hq := Nat.eq_of_beq_eq_true hq
                      cases hv
                      rw [hq, Nat.sub_self]
                      exact V.slJ.2 ⟨rfl, _, _, rfl⟩
                    · cases hv
          · cases hv
      · split at hv
        · rename_i hb hq
          have hq : cap < junk := by simpa [Nat.blt_eq] using hq
          have hcc : c' = cap := by
            cases a with
            | none => exact hn rfl
            | some ad => obtain ⟨x, _, h2, _⟩ := hs ad rfl; rw [h2, capOf_small hq]
          subst hcc
          split at hv
          · rename_i mm
            split at hv
            · rename_i hq2
              obtain ⟨q1, q2⟩ := and2 hq2
              have q1 := Nat.le_of_ble_eq_true q1
              exact slK_run har hd hz hl hh' hm rfl q1 (fun _ e => by rw [e] at q2; cases q2) (by simp; omega) hv
            · cases hv
          · exact slK_run har hd hz hl hh' hm rfl (by simp) (by simp) (by simpa using hq) hv
        · cases hv
  · cases hv
theorem extract_data (b : ByteArray) (l h : Nat) : b.extract l h = ⟨⟨partL b.data.toList (h - l) l⟩⟩ := by
  apply ByteArray.ext
  apply Array.ext'
  rw [partL_eq]
  simp
theorem fSlice_run (h : R P s H w) {t : TypeId} {x x' : Value} {lo hi mx : Option Value} {v : Value} (he : fSlice P H t x lo hi mx = some v) (hx : V s x x') :
    ∃ v', V s v v' ∧ (Instr.sliceAt t x' lo hi mx).run P w = .ok v' w := by
  unfold fSlice fSlice1 at he
  split at he
  · rename_i l hh m hl hh' hm
    unfold fSlice2 at he
    split at he
    · rename_i b hd
      cases hx
      split at he
      · unfold slS at he
        split at he
        · rename_i hb
          obtain ⟨b1, b2⟩ := and2 hb
          have b1 := Nat.le_of_ble_eq_true b1
          have b2 := Nat.le_of_ble_eq_true b2
          cases he
          refine ⟨_, rfl, ?_⟩
          have hmx : mx = none := by rcases optInt_eq hm with ⟨e, _⟩ | ⟨k, m, _, e⟩; · exact e
                                     · cases e
          subst hmx
          have hb := bounds_run (P := P) (w := w) (b := false) (len := b.size) (cap := b.size) hl hh' hm (by simp) (.inl b2) b1 (by simp)
          unfold Instr.sliceAt
          simp only [Sem.run_bind, run_under hd, Result.andThen_ok]
          unfold Instr.slice
          simp only [Sem.run_bind, run_under hd, Result.andThen_ok, Option.isSome_none, Bool.false_eq_true, if_false, hb, Sem.run_pure, extract_data]
          rfl
        · cases he
      · cases he
    · rename_i e a len cap hd
      exact slA_run h hd hl hh' hm he hx
    · rename_i n e b off hd
      split at he
      · rename_i k hz
        obtain ⟨y, e1, e2⟩ := V.ptr.1 hx
        subst e2
        split at he
        · rename_i hj
          have hj : n < junk := by simpa [Nat.blt_eq] using hj
          unfold slK at he
          split at he
          · rename_i hb
            obtain ⟨b1, b2, b3⟩ := and3 hb
            have b1 := Nat.le_of_ble_eq_true b1
            have b2 := Nat.le_of_ble_eq_true b2
            cases he
            have hbd := bounds_run (P := P) (w := w) (b := false) (len := n) (cap := n) hl hh' hm (by simp) (.inl (by simpa using b2)) b1 (by simp)
            simp only [Option.getD_none] at hbd
            refine ⟨.slice (some (if n = l.getD 0 then ⟨y.1, off, none⟩ else (⟨y.1, off, none⟩ : Addr).add (l.getD 0 * k))) (hh.getD n - l.getD 0) (n - l.getD 0), ?_, ?_⟩
            · by_cases hq : n = l.getD 0
              · rw [← hq, Nat.beq_refl, if_pos rfl]
                refine (V.sl (by omega)).2 ⟨y, e1, ?_, ?_⟩
                · rw [capOf_small (by omega)]; omega
                · rw [capOf_small (by omega)]
              · have hq' : Nat.beq n (l.getD 0) = false := by
                  cases hb : Nat.beq n (l.getD 0) with
                  | false => rfl
                  | true => exact absurd (Nat.eq_of_beq_eq_true hb) hq
                rw [hq', if_neg hq]
                refine (V.sl (by omega)).2 ⟨y, e1, ?_, ?_⟩
                · rw [capOf_small (by omega)]; omega
                · rw [capOf_small (by omega), add_at]
            · unfold Instr.sliceAt
              simp only [Sem.run_bind, run_under hd, Result.andThen_ok, Instr.sureAddr, Sem.run_pure, hbd, run_size hz]
          · cases he
        · cases he
      · cases he
    · cases he
  · cases he

/-! new blocks -/
theorem newRow_run {e : TypeId} {cs : Array Value} : (newRow e cs).run P w = .ok ⟨w.heap.size, 0, none⟩ { w with heap := w.heap.push (.cells cs e) } := by
  unfold newRow
  simp [newObj, Sem.run]
theorem R.pushCells (h : R P s H w) {e : TypeId} {cs cs' : List Value} (hv : VL s cs cs') :
    Post P s H w (upd s H.n (w.heap.size, 0)) (H.push (.cells ⟨cs⟩ e, false)) { w with heap := w.heap.push (.cells ⟨cs'⟩ e) } :=
  h.push fun _ => ⟨rfl, cs', (0, 0), rfl, hv.mono (upd_le h.fresh _), rfl⟩
theorem newPtr (h : R P s H w) {k : Nat} : V (upd s H.n (w.heap.size, k)) (.pointer (some ⟨H.n, 0, none⟩)) (.pointer (some ⟨w.heap.size, 0, none⟩)) := V.ptr.2 ⟨_, upd_same _ _ _, rfl⟩
theorem fNew_run (h : R P s H w) {e : TypeId} {v v' : Value} {n : Next} {H' : Hp} (he : fNew H e v.cells.toList = some (n, H')) (hv : VL s v.cells.toList v'.cells.toList) : Does P s H w (do pure (.value (← Instr.box e v'))) n H' := by
  unfold fNew at he
  cases he
  refine does_val (s' := upd s H.n (w.heap.size, 0)) (v' := .pointer (some ⟨w.heap.size, 0, none⟩)) ?_ (newPtr h) (h.pushCells (e := e) hv)
  unfold Instr.box newVar
  simp [newRow_run]
theorem clo1_cells {z : Value} (h : clo1 z = true) : VL s z.cells.toList z.cells.toList := by
  cases z with
  | agg c => exact cloL_self h
  | _ => exact ⟨_, [], clo_self h, rfl, rfl⟩
theorem fAlloc_run (h : R P s H w) {t : TypeId} {n : Next} {H' : Hp} (he : fAlloc P t H = some (n, H')) : Does P s H w (do pure (.value (← Instr.alloc t true (.tuple #[])))) n H' := by
  unfold fAlloc at he
  split at he
  · rename_i z hz
    obtain ⟨h1, h2⟩ := run_zero (P := P) (w := w) hz
    unfold fNew at he
    cases he
    refine does_val (s' := upd s H.n (w.heap.size, 0)) (v' := .pointer (some ⟨w.heap.size, 0, none⟩)) ?_ (newPtr h) (h.pushCells (e := t) (clo1_cells h2))
    unfold Instr.alloc newVar
    simp [h1, newRow_run]
  · cases he
end
end Go.Ev
