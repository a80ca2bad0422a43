/- An evaluator for closed runs: appends. -/
import Derived.Test.YtfcmgkakmaclcaaEvI
set_option linter.unusedSimpArgs false
set_option linter.unusedVariables false
set_option linter.unusedSectionVars false
namespace Go.Ev
variable [Inhabited Env]
section
variable {P : Program} {s : Sg} {H : Hp} {w : World}
theorem dead_not {o : Obj} {u : Bool} (h : dead = (o, u)) (hl : Live o) : False := by cases h; exact hl none rfl
/-- A block is another one's from now on. -/
theorem R.reuse (h : R P s H w) {b : Nat} {o : Obj} {u : Bool} {x : Nat × Nat} (hg : H.get b = some (o, u)) (hl : Live o) (hs : s b = some x) {o2 o2' : Obj} {u2 : Bool} {k : Nat} (ho : OR P (upd s H.n (x.1, k)) k u2 o2 o2') :
    Post P s H w (upd s H.n (x.1, k)) ((H.set b dead).push (o2, u2)) { w with heap := w.heap.setIfInBounds x.1 o2' } := by
  have hb := Hp.get_lt hg
  have hle := upd_le h.fresh (x.1, k)
  obtain ⟨o', h0, _⟩ := h.obj b o u x hg hl hs
  have hx := (Array.getElem?_eq_some_iff.1 h0).1
  have hget : ∀ i, i < H.n → i ≠ b → ((H.set b dead).push (o2, u2)).get i = H.get i := fun i hi hne => by
    rw [Hp.get_push_old (by rw [Hp.set_n]; exact hi), Hp.get_set_ne (Ne.symm hne) hb]
  have hgetb : ((H.set b dead).push (o2, u2)).get b = some dead := by
    rw [Hp.get_push_old (by rw [Hp.set_n]; exact hb), Hp.get_set_eq hb h.ok]
  have hgetn : ((H.set b dead).push (o2, u2)).get H.n = some (o2, u2) := Hp.get_push_new (H.set b dead) (o2, u2)
  -- an old one that lives is not b
  have old : ∀ i oi ui y, ((H.set b dead).push (o2, u2)).get i = some (oi, ui) → Live oi → i ≠ H.n → upd s H.n (x.1, k) i = some y → H.get i = some (oi, ui) ∧ s i = some y ∧ i ≠ b ∧ y.1 ≠ x.1 := by
    intro i oi ui y h1 h2 h3 h4
    rw [upd_other s h3] at h4
    have hi := h.dom i y h4
    have hib : i ≠ b := fun e => by
      subst e
      rw [hgetb] at h1
      exact dead_not (Option.some.inj h1) h2
    rw [hget i hi hib] at h1
    refine ⟨h1, h4, hib, fun e => hib (h.inj i b oi ui o u y x h1 h2 hg hl h4 hs e)⟩
  refine ⟨hle, ?_, Nat.le_succ _, ?_, by simp, rfl, rfl, rfl, ?_, ?_, ⟨Hp.push_ok (Hp.set_ok h.ok), ?_, ?_, ?_, fun y e => hle 0 y (h.base y e)⟩⟩
  · intro i y e
    by_cases hi : i = H.n
    · subst hi; rw [upd_same] at e; cases e
      exact .inr ⟨Nat.le_refl _, Nat.lt_succ_self _, .inr ⟨b, o, u, x, hg, hl, hs, rfl⟩⟩
    · rw [upd_other s hi] at e; exact .inl e
  · intro c hc hn
    show (w.heap.setIfInBounds x.1 o2')[c]? = _
    rw [Array.getElem?_setIfInBounds_ne]
    intro e; exact hn ⟨b, o, u, x, hg, hl, hs, e⟩
  · intro i oi ui hi h1 h2
    by_cases e : i = b
    · subst e; exact ⟨o, u, hg, hl⟩
    · rw [hget i hi e] at h1; exact ⟨oi, ui, h1, h2⟩
  · intro i hi hn
    refine hget i hi ?_
    intro e; subst e; rw [hs] at hn; cases hn
  · intro i y e
    by_cases hi : i = H.n
    · subst hi; exact Nat.lt_succ_self _
    · rw [upd_other s hi] at e; exact Nat.lt_succ_of_lt (h.dom i y e)
  · intro i oi ui y h1 h2 h3
    by_cases hi : i = H.n
    · subst hi
      rw [hgetn] at h1
      cases h1
      rw [upd_same] at h3
      cases h3
      refine ⟨o2', ?_, ho⟩
      show (w.heap.setIfInBounds x.1 o2')[x.1]? = _
      rw [Array.getElem?_setIfInBounds_self_of_lt hx]
    · obtain ⟨g1, g2, g3, g4⟩ := old i oi ui y h1 h2 hi h3
      obtain ⟨o3, h4, h5⟩ := h.obj i oi ui y g1 h2 g2
      refine ⟨o3, ?_, h5.mono hle⟩
      show (w.heap.setIfInBounds x.1 o2')[y.1]? = _
      rw [Array.getElem?_setIfInBounds_ne (Ne.symm g4)]
      exact h4
  · intro i j oi ui oj uj y z h1 h2 h3 h4 h5 h6 h7
    by_cases hi : i = H.n
    · by_cases hj : j = H.n
      · rw [hi, hj]
      · obtain ⟨_, _, _, g4⟩ := old j oj uj z h3 h4 hj h6
        subst hi
        rw [upd_same] at h5
        cases h5
        exact absurd h7.symm g4
    · obtain ⟨g1, g2, _, g4⟩ := old i oi ui y h1 h2 hi h5
      by_cases hj : j = H.n
      · subst hj
        rw [upd_same] at h6
        cases h6
        exact absurd h7 g4
      · obtain ⟨k1, k2, _, _⟩ := old j oj uj z h3 h4 hj h6
        exact h.inj i j oi ui oj uj y z g1 h2 k1 h4 g2 k2 h7
/-- A block that nobody asks for any more. -/
theorem R.kill (h : R P s H w) {b : Nat} (hb : b < H.n) (hs : s b ≠ none) : Post P s H w s (H.set b dead) w := by
  have old : ∀ i oi ui, (H.set b dead).get i = some (oi, ui) → Live oi → H.get i = some (oi, ui) ∧ i ≠ b := by
    intro i oi ui h1 h2
    by_cases e : b = i
    · subst e; rw [Hp.get_set_eq hb h.ok] at h1; exact (dead_not (Option.some.inj h1) h2).elim
    · rw [Hp.get_set_ne e hb] at h1; exact ⟨h1, Ne.symm e⟩
  refine ⟨Sg.le.refl s, fun _ _ e => .inl e, Nat.le_refl _, fun _ _ _ => rfl, Nat.le_refl _, rfl, rfl, rfl, ?_, ?_, ⟨Hp.set_ok h.ok, h.dom, ?_, ?_, h.base⟩⟩
  · intro i oi ui _ h1 h2; exact ⟨oi, ui, (old i oi ui h1 h2).1, h2⟩
  · intro i hi hn
    refine Hp.get_set_ne ?_ hb
    intro e; subst e; exact hs hn
  · intro i oi ui x h1 h2 h3; exact h.obj i oi ui x (old i oi ui h1 h2).1 h2 h3
  · intro i j oi ui oj uj x y h1 h2 h3 h4; exact h.inj i j oi ui oj uj x y (old i oi ui h1 h2).1 h2 (old j oj uj h3 h4).1 h4
theorem overL_spec {α : Type} : ∀ (l : List α) (k : Nat) (vs : List α), k + vs.length ≤ l.length → overL l k vs = some (l.take k ++ vs ++ l.drop (k + vs.length))
  | l, k, [], _ => by simp [overL]
  | [], k, v :: vs, h => by simp at h
  | x :: r, 0, v :: vs, h => by
    have := overL_spec r 0 vs (by simpa using h)
    simp [overL, this]
  | x :: r, k + 1, v :: vs, h => by
    have := overL_spec r k (v :: vs) (by simp at h ⊢; omega)
    simp only [overL, this]
    have e : k + 1 + (v :: vs).length = (k + (v :: vs).length) + 1 := by omega
    rw [e]
    simp
theorem nextcap_le {n c : Nat} (h : c < n) : Builtin.nextslicecap n c ≤ 4 * n + 4000 := by
  unfold Builtin.nextslicecap
  split
  · omega
  · split
    · omega
    · simp only [Builtin.growBy]
      repeat' split
      all_goals omega
/-! the model's own, put together: room there is -/
theorem app_in {ts : Array TypeId} {ty t t' e : TypeId} {tr : List TypeId} {base : Option Addr} {len cap n size : Nat} {x' : Value} {r new : List Value} {w' : World} (ht : ts.toList = t :: t' :: tr) (hd : descF P t = some (.slice e))
    (hn : notIntD (descF P t') = true) (hz : sizeF P e = some size) (hlen : (Builtin.lenOf x').run P w = .ok n w) (hfc : (Builtin.firstCells size n x').run P w = .ok ⟨new⟩ w) (hc : len + n ≤ cap)
    (hst : ∀ a, base = some a → (storeCells (a.add (len * size)) new).run P w = .ok () w') (hw : base = none → w' = w) :
    (Builtin.append_ ts ty ⟨.slice base len cap :: x' :: r⟩).run P w = .ok (.slice base (len + n) cap) w' := by
  have ht0 : ts[0]? = some t := argsAt ht
  have ht1 : ts[1]? = some t' := by
    have : ts = ⟨t :: t' :: tr⟩ := by cases ts; cases ht; rfl
    subst this; rfl
  cases hd' : descF P t' with
  | none => rw [hd'] at hn; cases hn
  | some d' =>
    rw [hd'] at hn
    cases d' with
    | int => cases hn
    | _ =>
      unfold Builtin.append_
      simp only [ht0, ht1, List.getElem?_toArray, List.getElem?_cons_zero, List.getElem?_cons_succ, Sem.run_bind, run_under hd, run_under hd', Result.andThen_ok, run_size hz, Sem.run_pure, Bool.false_eq_true, if_false, hlen, hc, if_true, hfc, Bool.not_false]
      cases base with
      | none => rw [hw rfl]; rfl
      | some a =>
        simp only [Sem.run_bind, hst a rfl, Result.andThen_ok, Sem.run_pure]
def drew1 (w : World) : World := { w with drawn := w.drawn + 1 }
theorem app_grow {ts : Array TypeId} {ty t t' e : TypeId} {tr : List TypeId} {base : Option Addr} {len cap n size : Nat} {x' z : Value} {r new old : List Value} {i : TypeInfo} (ht : ts.toList = t :: t' :: tr) (hd : descF P t = some (.slice e))
    (hn : notIntD (descF P t') = true) (hz : sizeF P e = some size) (hi : infoF P e = some i) (hib : i.bytes < 1048576) (hzz : zeroF P e = some z) (hzl : z.cells.toList.length = size) (hpos : 0 < size)
    (hlen : (Builtin.lenOf x').run P w = .ok n w) (hfc : (Builtin.firstCells size n x').run P (drew1 w) = .ok ⟨new⟩ (drew1 w))
    (hold : (Builtin.firstCells size len (.slice base len cap)).run P (drew1 w) = .ok ⟨old⟩ (drew1 w)) (hc : ¬ len + n ≤ cap) (hsm : len + n < 1048576) :
    ∃ k rest w', len + n ≤ k ∧ rest.length = (k - (len + n)) * size ∧ w'.heap = w.heap.push (.cells ⟨old ++ new ++ rest⟩ e) ∧ w'.os = w.os ∧ w'.tape = w.tape ∧ w'.output = w.output ∧
      (Builtin.append_ ts ty ⟨.slice base len cap :: x' :: r⟩).run P w = .ok (.slice (some ⟨w.heap.size, 0, none⟩) (len + n) k) w' := by
  have ht0 : ts[0]? = some t := argsAt ht
  have ht1 : ts[1]? = some t' := by
    have : ts = ⟨t :: t' :: tr⟩ := by cases ts; cases ht; rfl
    subst this; rfl
  have hzc : (zeroValue e).run P (drew1 w) = .ok z (drew1 w) := (run_zero hzz).1
  have hnc := nextcap_le (n := len + n) (c := cap) (by omega)
  have hbig : ¬ Builtin.nextslicecap (len + n) cap * i.bytes > 2 ^ 48 := by
    have h1 : Builtin.nextslicecap (len + n) cap * i.bytes ≤ (4 * 1048576 + 4000) * 1048576 := Nat.mul_le_mul (by omega) (by omega)
    have h2 : (4 * 1048576 + 4000) * 1048576 ≤ 2 ^ 48 := by decide
    omega
  have hmax : ¬ (((len + n : Nat) : Int) > IntKind.i64.max) := by
    have : ((len + n : Nat) : Int) < ((1048576 : Nat) : Int) := Int.ofNat_lt.2 hsm
    have h2 : ((1048576 : Nat) : Int) ≤ IntKind.i64.max := by decide
    exact Int.not_lt.2 (Int.le_trans (Int.le_of_lt this) h2)
  let q := (Question.appendCap (len + n) cap e).cut (w.tape w.drawn (.appendCap (len + n) cap e))
  have hq : len + n ≤ q := Nat.le_add_right _ _
  have e5 : Builtin.zeroCells z.cells (q - (len + n)) = ⟨repL z.cells.toList (q - (len + n))⟩ := zeros_eq z.cells (by rw [← Array.length_toList]; omega) _
  refine ⟨q, repL z.cells.toList (q - (len + n)), { drew1 w with heap := w.heap.push (.cells ⟨old ++ new ++ repL z.cells.toList (q - (len + n))⟩ e) }, hq, by rw [repL_len, hzl], rfl, rfl, rfl, rfl, ?_⟩
  have hch : (choose (.appendCap (len + n) cap e)).run P w = .ok q (drew1 w) := by
    rw [run_choose]
    rfl
  have hnr : (newRow e ((⟨old⟩ : Array Value) ++ (⟨new⟩ : Array Value) ++ Builtin.zeroCells z.cells (q - (len + n)))).run P (drew1 w) = .ok ⟨w.heap.size, 0, none⟩ { drew1 w with heap := w.heap.push (.cells ⟨old ++ new ++ repL z.cells.toList (q - (len + n))⟩ e) } := by
    rw [newRow_run, e5]
    have : (⟨old⟩ : Array Value) ++ (⟨new⟩ : Array Value) ++ (⟨repL z.cells.toList (q - (len + n))⟩ : Array Value) = ⟨old ++ new ++ repL z.cells.toList (q - (len + n))⟩ := by apply Array.ext'; simp
    rw [this]
    rfl
  cases hd' : descF P t' with
  | none => rw [hd'] at hn; cases hn
  | some d' =>
    rw [hd'] at hn
    cases d' with
    | int => cases hn
    | _ =>
      unfold Builtin.append_
      simp only [ht0, ht1, List.getElem?_toArray, List.getElem?_cons_zero, List.getElem?_cons_succ, Sem.run_bind, run_under hd, run_under hd', Result.andThen_ok, run_size hz, Sem.run_pure, Bool.false_eq_true, if_false, hlen, hc, run_info hi, hmax, false_and, hbig, hch, room_run, hold, hfc, hzc, if_true, Bool.not_false, hnr]
theorem srcF_len {x : Value} {size n : Nat} {l : List Value} (he : srcF H size n x = some l) (hn : lenF x = some n) : l.length = n * size := by
  unfold srcF at he
  split at he
  · unfold loadN at he
    split at he
    · simp only [] at he
      split at he
      · rename_i hb; cases he; exact Nat.eq_of_beq_eq_true hb
      · cases he
    · cases he
  · split at he
    · cases he; simp
    · cases he
  · rename_i b
    split at he
    · cases he
      cases hn
      rw [partL_eq]
      simp
    · cases he
  · cases he
theorem loadN_eq {n off : Nat} {c : Option (List Value)} {l : List Value} (h : loadN n off c = some l) : ∃ c0, c = some c0 ∧ l = partL c0 n off ∧ l.length = n := by
  unfold loadN at h
  split at h
  · rename_i c0
    simp only [] at h
    split at h
    · rename_i hb; cases h; exact ⟨c0, rfl, rfl, Nat.eq_of_beq_eq_true hb⟩
    · cases h
  · cases h
theorem big_V {k : Nat} {s2 : Sg} {i b l : Nat} (hs : s2 i = some (b, k)) (hl : l ≤ k) : V s2 (.slice (some ⟨i, 0, none⟩) l big) (.slice (some ⟨b, 0, none⟩) l k) := by
  have hc : capOf k big = k := by rw [capOf_big (by decide)]; omega
  exact (V.sl (ne_junk_big (by decide))).2 ⟨(b, k), hs, by rw [hc]; exact hl, by rw [hc]⟩
theorem fAppend_run (h : R P s H w) {ts : Array TypeId} {ty : TypeId} {xs xs' : List Value} {n : Next} {H' : Hp} (he : fAppend P ts.toList xs H = some (n, H')) (hx : VL s xs xs') : Does P s H w (do pure (.value (← Builtin.append_ ts ty ⟨xs'⟩))) n H' := by
  unfold fAppend at he
  split at he
  · rename_i t t' tr base len cap x xr ht
    obtain ⟨d', r1, g1, g2, e⟩ := hx
    obtain ⟨x', r2, g3, g4, e2⟩ := g2
    subst e2 e
    split at he
    · rename_i e hd hni
      unfold appS at he
      split at he
      · rename_i m n hz hln
        split at he
        · rename_i z b hzz hbt
          split at he
          · rename_i hb
            obtain ⟨b1, b2⟩ := and2 hb
            have hzl := Nat.eq_of_beq_eq_true b1
            have hbb : b < 1048576 := by simpa [Nat.blt_eq] using b2
            obtain ⟨i, hi, hib⟩ := run_bytes hbt
            have hib2 : i.bytes < 1048576 := by rw [hib]; exact hbb
            have hlen := lenF_run (P := P) (w := w) hln g3
            unfold appN at he
            split at he
            · rename_i new hnew
              split at he
              · rename_i hsc
                obtain ⟨new', k1, k2⟩ := srcF_run h hnew g3 (.inl hln)
                have hR1 : R P s H (drew1 w) := h.of_heap rfl
                obtain ⟨new2, k3, k4⟩ := srcF_run hR1 hnew g3 (.inl hln)
                -- the new block
                have fresh : ∀ {old old' : List Value} {base' : Option Addr} {len cap' : Nat}, VL s old old' → (Builtin.firstCells (m + 1) len (.slice base' len cap')).run P (drew1 w) = .ok ⟨old'⟩ (drew1 w) → old.length = len * (m + 1) → new.length = n * (m + 1) →
                    ¬ len + n ≤ cap' → len + n < 1048576 → ∀ H1, Post P s H w s H1 w → H1.n = H.n →
                    Does P s H w (do pure (.value (← Builtin.append_ ts ty ⟨.slice base' len cap' :: x' :: r2⟩))) (.value (.slice (some ⟨H.n, 0, none⟩) (len + n) big)) (H1.push (.cells ⟨old ++ new⟩ e, true)) := by
                  intro old old' base' len cap' hv hold hl1 hl2 hc hsm H1 hP hn1
                  obtain ⟨k, rest, w', q1, q2, q3, q4, q5, q6, q7⟩ := app_grow (P := P) (w := w) (ty := ty) (r := r2) ht hd hni hz hi hib2 hzz hzl (Nat.succ_pos m) hlen k4 hold hc hsm
                  have hpush := hP.rel.push (o := .cells ⟨old ++ new⟩ e) (o' := .cells ⟨old' ++ new2 ++ rest⟩ e) (u := true) (k := k) (fun _ => by
                    have hle := upd_le (hP.rel.fresh) (w.heap.size, k)
                    refine ⟨rfl, old' ++ new2 ++ rest, (0, 0), rfl, ⟨old' ++ new2, rest, rfl, (hv.mono hle).append (k3.mono hle)⟩, ⟨m, hz, ?_⟩, fun j _ => by simp⟩
                    rw [List.length_append, List.length_append, hv.len, k3.len, hl1, hl2, q2, ← Nat.add_mul, ← Nat.add_mul]
                    congr 1; omega)
                  have hpost := (hP.trans hpush h).of_heap (w2 := w') q3 q4 q5 q6
                  rw [hn1] at hpost
                  exact does_val q7 (big_V (upd_same _ _ _) q1) hpost
                have hnl : new.length = n * (m + 1) := srcF_len hnew hln
                have hnl' : new'.length = n * (m + 1) := by rw [k1.len]; exact hnl
                unfold appB at he
                split at he
                · split at he
                  · unfold app0 at he
                    cases (V.slN (by decide)).1 g1
                    split at he
                    · cases he
                      have hin := app_in (P := P) (w := w) (w' := w) (ty := ty) (r := r2) (base := none) (len := 0) (cap := 0) ht hd hni hz hlen k2 (by omega) (fun a e => by cases e) (fun _ => rfl)
                      exact does_pure h hin rfl
                    · rename_i n
                      split at he
                      · rename_i hok
                        have hok := okSz_lt hok
                        unfold appNew at he
                        cases he
                        have := fresh (old := []) (old' := []) (base' := none) (len := 0) (cap' := 0) rfl rfl (by simp) hnl (by omega) (by omega) H (.refl h) rfl
                        rw [Nat.zero_add] at this ⊢
                        exact this
                      · cases he
                  · cases he
                · rename_i bb off
                  split at he
                  · split at he
                    · cases he
                    · rename_i hj
                      cases he
                      obtain ⟨a', c', har, e5, _, hcs⟩ := V.slR (beq_false hj) g1
                      subst e5
                      obtain ⟨y, _, _, hle⟩ := hcs _ rfl
                      have hn0 : new' = [] := by
                        have : new'.length = 0 := by rw [hnl']; omega
                        exact List.eq_nil_of_length_eq_zero this
                      subst hn0
                      have hin := app_in (P := P) (w := w) (w' := w) (ty := ty) (r := r2) (base := a') (len := len) (cap := c') ht hd hni hz hlen k2 (by omega) (fun a e => rfl) (fun _ => rfl)
                      exact does_pure h hin g1
                  · rename_i n
                    split at he
                    · rename_i hbig
                      have hbig := Nat.le_of_ble_eq_true hbig
                      obtain ⟨y, e3, hlc, e4⟩ := (V.sl (ne_junk_big hbig)).1 g1
                      subst e4
                      unfold appU at he
                      split at he
                      · rename_i c e' hg
                        split at he
                        · rename_i hq
                          obtain ⟨q1, q2⟩ := and2 hq
                          have q1 := Nat.eq_of_beq_eq_true q1
                          have q2 := okSz_lt q2
                          subst q1
                          split at he
                          · rename_i hre
                            have hcc := reaches_cap h hre e3 hbig (Nat.succ_pos m)
                            unfold appPut at he
                            split at he
                            · rename_i H2 hst
                              cases he
                              obtain ⟨w', k5, k6⟩ := h.stores e3 k1 hst
                              have hin := app_in (P := P) (w := w) (w' := w') (ty := ty) (r := r2) (base := some ⟨y.1, off, none⟩) (len := len) (cap := capOf y.2 cap) ht hd hni hz hlen k2 hcc (fun a e => by cases e; rw [add_at]; exact k5) (fun e => by cases e)
                              exact does_val hin ((V.sl (ne_junk_big hbig)).2 ⟨y, e3, hcc, rfl⟩) k6
                            · cases he
                          · split at he
                            · rename_i hq3
                              obtain ⟨p1, p2, p3⟩ := and3 hq3
                              have p1 := Nat.eq_of_beq_eq_true p1
                              have p2 := Nat.eq_of_beq_eq_true p2
                              have p3 := Nat.le_of_ble_eq_true p3
                              subst p1 p2
                              have hcb : capOf y.2 big = y.2 := by rw [capOf_big (by decide)]; omega
                              rw [hcb] at hlc g1 ⊢
                              unfold appKill at he
                              cases he
                              obtain ⟨o', z1, z2⟩ := h.obj bb _ true y hg live_cells e3
                              obtain ⟨_, C, fr, z3, ⟨a, r, z4, z5⟩, ⟨m2, z6, z7⟩, z8⟩ := z2
                              subst z3
                              rw [hz] at z6
                              cases z6
                              have hca : cellsAt H bb = some c.toList := by unfold cellsAt; rw [hg]
                              by_cases hroom : len + (n + 1) ≤ y.2
                              · -- in place
                                have hle2 : len * (m + 1) + new'.length ≤ C.length := by
                                  rw [hnl', z7, ← Nat.add_mul]
                                  exact Nat.mul_le_mul_right _ hroom
                                have hov := overL_spec C (len * (m + 1)) new' hle2
                                have hrun := run_storesF (P := P) e' fr y.1 (len * (m + 1)) new' 0 C _ w z1 (by rw [Nat.add_zero]; exact hov) (scal_V hsc k1) z8
                                have hin := app_in (P := P) (w := w) (ty := ty) (r := r2) (base := some ⟨y.1, 0, none⟩) (len := len) (cap := y.2) ht hd hni hz hlen k2 hroom (fun a e => by cases e; rw [add_at, Nat.zero_add]; exact hrun) (fun e => by cases e)
                                have hpost := h.reuse (k := y.2) (u2 := true) (o2 := .cells ⟨partL c.toList (len * (m + 1)) 0 ++ new⟩ e') hg live_cells e3 (o2' := .cells ⟨C.take (len * (m + 1)) ++ new' ++ C.drop (len * (m + 1) + new'.length)⟩ e' fr) (by
                                  have hle := upd_le h.fresh (y.1, y.2)
                                  refine ⟨rfl, _, fr, rfl, ⟨C.take (len * (m + 1)) ++ new', C.drop (len * (m + 1) + new'.length), rfl, ?_⟩, ⟨m, hz, ?_⟩, ?_⟩
                                  · refine VL.append ?_ (k1.mono hle)
                                    rw [partL_eq, List.drop_zero, z4, List.take_append_of_le_length (by rw [z5.len]; exact p3)]
                                    exact (z5.mono hle).take _
                                  · rw [← z7]; simp; omega
                                  · intro j hj
                                    refine z8 j ?_
                                    simp at hj; omega)
                                exact does_val hin (big_V (upd_same _ _ _) hroom) hpost
                              · have hll : (partL c.toList (len * (m + 1)) 0).length = len * (m + 1) := by rw [partL_eq, List.drop_zero, List.length_take, Nat.min_eq_left p3]
                                have hld : loadN (len * (m + 1)) 0 (cellsAt H bb) = some (partL c.toList (len * (m + 1)) 0) := by
                                  rw [hca]; unfold loadN; simp only []; rw [hll, Nat.beq_refl]
                                obtain ⟨l', z9, z10⟩ := hR1.load e3 hld
                                have hkill := h.kill (Hp.get_lt hg) (by rw [e3]; simp)
                                exact fresh (base' := some ⟨y.1, 0, none⟩) z9 z10 hll hnl hroom q2 _ hkill rfl
                            · cases he
                        · cases he
                      · cases he
                    · split at he
                      · rename_i hsmall
                        have hsmall : cap < junk := by simpa [Nat.blt_eq] using hsmall
                        obtain ⟨y, e3, hlc, e4⟩ := (V.sl (ne_junk_small hsmall)).1 g1
                        subst e4
                        rw [capOf_small hsmall] at hlc g1 ⊢
                        unfold appK at he
                        split at he
                        · rename_i hok
                          have hok := okSz_lt hok
                          split at he
                          · rename_i hroom
                            have hroom := Nat.le_of_ble_eq_true hroom
                            unfold appPut at he
                            split at he
                            · rename_i H2 hst
                              cases he
                              obtain ⟨w', k5, k6⟩ := h.stores e3 k1 hst
                              have hin := app_in (P := P) (w := w) (w' := w') (ty := ty) (r := r2) (base := some ⟨y.1, off, none⟩) (len := len) (cap := cap) ht hd hni hz hlen k2 hroom (fun a e => by cases e; rw [add_at]; exact k5) (fun e => by cases e)
                              exact does_val hin ((V.sl (ne_junk_small hsmall)).2 ⟨y, e3, by rw [capOf_small hsmall]; exact hroom, by rw [capOf_small hsmall]⟩) k6
                            · cases he
                          · rename_i hroom
                            have hroom : ¬ len + (n + 1) ≤ cap := fun hle => by rw [Nat.ble_eq_true_of_le hle] at hroom; cases hroom
                            unfold appNew at he
                            split at he
                            · rename_i o ho
                              cases he
                              obtain ⟨c0, q1, q2, q3⟩ := loadN_eq ho
                              obtain ⟨l', z9, z10⟩ := hR1.load e3 ho
                              exact fresh (base' := some ⟨y.1, off, none⟩) z9 z10 q3 hnl hroom hok H (.refl h) rfl
                            · cases he
                        · cases he
                      · cases he
                · cases he
              · cases he
            · cases he
          · cases he
        · cases he
      · cases he
    · cases he
  · cases he
end
end Go.Ev
