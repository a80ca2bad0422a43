/- An evaluator for closed runs: conversions, maps, calls. -/
import Derived.Test.YtfcmgkakmaclcaaEvJ
import Derived.Laws.BytesString
set_option linter.unusedSimpArgs false
set_option linter.unusedVariables false
set_option linter.unusedSectionVars false
namespace Go.Ev
variable [Inhabited Env]
section
variable {P : Program} {s : Sg} {H : Hp} {w : World}
theorem isU8_eq {t : TypeId} (h : isU8 (descF P t) = true) : descF P t = some (.int .u8) := by
  unfold isU8 at h
  split at h
  · rename_i hd; exact hd
  · cases h
theorem bytesO_eq : ∀ {l : List Value} {bs : List UInt8}, bytesO l = some bs → ∃ ns : List Int, l = ns.map (fun n => .int .u8 n) ∧ bs = ns.map (fun n => UInt8.ofNat n.toNat)
  | [], bs, h => by cases h; exact ⟨[], rfl, rfl⟩
  | v :: r, bs, h => by
    cases v <;> first | (cases h; done) | skip
    rename_i k n
    cases k <;> first | (cases h; done) | skip
    unfold bytesO at h
    split at h
    · rename_i l hl
      cases h
      obtain ⟨ns, e1, e2⟩ := bytesO_eq hl
      exact ⟨n :: ns, by rw [e1]; rfl, by rw [e2]; rfl⟩
    · cases h
theorem ints_V : ∀ {ns : List Int} {l' : List Value}, VL s (ns.map (fun n => (.int .u8 n : Value))) l' → l' = ns.map (fun n => .int .u8 n)
  | [], _, h => h
  | n :: r, l', h => by obtain ⟨v', r', h1, h2, e⟩ := h; cases h1; rw [e, ints_V h2]; rfl
theorem fConv_run (h : R P s H w) {src dst : TypeId} {x x' : Value} {n : Next} {H' : Hp} (he : fConv P src dst x H = some (n, H')) (hx : V s x x') : Does P s H w (do pure (.value (← convert src dst x'))) n H' := by
  unfold fConv at he
  split at he
  · rename_i e b off len c hd1 hd2
    split at he
    · rename_i hu hj
      have hu := isU8_eq hu
      obtain ⟨v, e1, e2, e3⟩ := fVal_eq he
      subst e2 e3
      obtain ⟨y, g1, _, g2⟩ := (V.sl (beq_false hj)).1 hx
      subst g2
      unfold bytesL at e1
      split at e1
      · rename_i l hl
        unfold strO at e1
        split at e1
        · rename_i bs hbs
          cases e1
          obtain ⟨ns, q1, q2⟩ := bytesO_eq hbs
          obtain ⟨c0, r1, r2, r3⟩ := loadN_eq hl
          subst q1 q2
          obtain ⟨l', z1, z2⟩ := h.load g1 hl
          have z3 := ints_V z1
          subst z3
          have hf : ∀ (ns : List Int) (a : List UInt8), ns.foldl (fun (r : ByteArray) n => r.push (UInt8.ofNat n.toNat)) ⟨⟨a⟩⟩ = ⟨⟨a ++ ns.map (fun n => UInt8.ofNat n.toNat)⟩⟩ := by
            intro ns
            induction ns with
            | nil => intro a; simp
            | cons n r ih =>
              intro a
              have e0 : (⟨⟨a⟩⟩ : ByteArray).push (UInt8.ofNat n.toNat) = ⟨⟨a ++ [UInt8.ofNat n.toNat]⟩⟩ := by simp [ByteArray.push]
              rw [List.foldl_cons, e0, ih]
              simp
          have hrun : (convert src dst (.slice (some ⟨y.1, off, none⟩) len (capOf y.2 c))).run P w = .ok (.string ⟨⟨ns.map (fun n => UInt8.ofNat n.toNat)⟩⟩) w := by
            rw [run_convert_bytes_string w src dst e _ len _ (descF_eq hd1) (descF_eq hu) (descF_eq hd2), run_bytesToString w _ len _ ns (by rw [z2])]
            have := hf ns []
            rw [List.nil_append] at this
            rw [← this]
            rfl
          exact does_pure h hrun rfl
        · cases e1
      · cases e1
    · cases he
  · rename_i e b hd1 hd2
    split at he
    · rename_i hu hsz
      have hu := isU8_eq hu
      unfold convB at he
      split at he
      · rename_i hok
        have hok := okSz_lt hok
        cases he
        cases hx
        let q := (Question.appendCap b.size 0 e).cut (w.tape w.drawn (.appendCap b.size 0 e))
        have hq : b.size ≤ q := Nat.le_add_right _ _
        have hz : sizeF P e = some 1 := by
          unfold isSz at hsz
          split at hsz
          · rename_i a ha; rw [ha, Nat.eq_of_beq_eq_true hsz]
          · cases hsz
        have hl : (b.data.toList.map fun b => (.int .u8 b.toNat : Value)).length = b.size := by rw [List.length_map]; rfl
        let rest := List.replicate (q - b.size) (.int .u8 0 : Value)
        let o' : Obj := .cells ⟨(b.data.toList.map fun b => (.int .u8 b.toNat : Value)) ++ rest⟩ e (q, q + 1)
        have hlo : ((b.data.toList.map fun b => (.int .u8 b.toNat : Value)) ++ rest).length = q := by rw [List.length_append, hl, List.length_replicate]; omega
        have hpush := (h.of_heap (w1 := drew1 w) rfl).push (o := .cells ⟨b.data.toList.map fun b => .int .u8 b.toNat⟩ e) (o' := o') (u := true) (k := q) (fun _ =>
          ⟨rfl, _, (q, q + 1), rfl, ⟨_, rest, rfl, bytes_self _⟩, ⟨0, hz, by rw [hlo]; omega⟩, fun j hj => by rw [hlo] at hj; simp only []; omega⟩)
        refine does_val (s' := upd s H.n (w.heap.size, q)) (v' := .slice (some ⟨w.heap.size, 0, none⟩) b.size q) (w' := { drew1 w with heap := (drew1 w).heap.push o' }) ?_ (big_V (upd_same _ _ _) hq) ?_
        · have hch : (choose (.appendCap b.size 0 e)).run P w = .ok q (drew1 w) := by rw [run_choose]; rfl
          have hc0 : (convert src dst (.string b)).run P w = (Conv.stringToBytes e b).run P w := by
            unfold convert
            simp only [Sem.run_bind, run_under hd1, run_under hd2, Result.andThen_ok, run_under hu]
          rw [hc0]
          unfold Conv.stringToBytes
          simp only [Sem.run_bind, hch, Result.andThen_ok, newRow_run, Sem.run_pure]
          have harr : (b.data.map fun b => (.int .u8 b.toNat : Value)) ++ Array.replicate (q - b.size) (.int .u8 0) = ⟨(b.data.toList.map fun b => (.int .u8 b.toNat : Value)) ++ rest⟩ := by
            apply Array.ext'; simp [rest]
          rw [harr]
          have hsz2 : (⟨(b.data.toList.map fun b => (.int .u8 b.toNat : Value)) ++ rest⟩ : Array Value).size = q := hlo
          unfold markStringish
          have hshape : (shape w.heap.size).run P { drew1 w with heap := (drew1 w).heap.push (.cells ⟨(b.data.toList.map fun b => (.int .u8 b.toNat : Value)) ++ rest⟩ e) } = .ok (some (e, q)) { drew1 w with heap := (drew1 w).heap.push (.cells ⟨(b.data.toList.map fun b => (.int .u8 b.toNat : Value)) ++ rest⟩ e) } := by
            simp only [shape, Sem.run, World.shape?]
            have : ((drew1 w).heap.push (Obj.cells ⟨(b.data.toList.map fun b => (.int .u8 b.toNat : Value)) ++ rest⟩ e))[w.heap.size]? = some (Obj.cells ⟨(b.data.toList.map fun b => (.int .u8 b.toNat : Value)) ++ rest⟩ e) := by
              show (w.heap.push _)[w.heap.size]? = _
              simp
            rw [this]
            simp only [hsz2]
          have hsize : (drew1 w).heap.size = w.heap.size := rfl
          simp only [hsize, Sem.run_bind, hshape, Result.andThen_ok, freeze, Sem.run, World.freeze]
          congr 1
          simp only [Nat.one_ne_zero, if_false, World.mk.injEq, and_true, true_and]
          apply Array.ext_getElem?
          intro j
          rw [Array.getElem?_modify]
          show (if w.heap.size = j then _ else _) = (w.heap.push o')[j]?
          by_cases hj : w.heap.size = j
          · subst hj
            rw [if_pos rfl]
            show Option.map _ (w.heap.push _)[w.heap.size]? = _
            simp [o']
          · rw [if_neg hj]
            show (w.heap.push _)[j]? = _
            rw [Array.getElem?_push, Array.getElem?_push, if_neg (Ne.symm hj), if_neg (Ne.symm hj)]
        · exact ((Post.refl h).of_heap (w2 := drew1 w) rfl rfl rfl rfl).trans hpush h
      · cases he
    · cases he
  · split at he
    · rename_i hc
      have := clo1_V hc hx
      subst this
      exact does_pureP h he
    · cases he
/-! maps of plain things -/
theorem runP_bind {α β : Type} {F : α → Sem β} : ∀ {A : Sem α} {b : β}, runP P (A >>= F) = some b → ∃ a, runP P A = some a ∧ runP P (F a) = some b
  | .pure a, b, h => ⟨a, rfl, h⟩
  | .program k, b, h => runP_bind (A := k P) h
  | .mark m k, b, h => runP_bind (A := k) h
  | .load .., b, h => by cases h
  | .store .., b, h => by cases h
  | .new .., b, h => by cases h
  | .shape .., b, h => by cases h
  | .freeze .., b, h => by cases h
  | .frozen .., b, h => by cases h
  | .getObj .., b, h => by cases h
  | .setObj .., b, h => by cases h
  | .choose .., b, h => by cases h
  | .sys .., b, h => by cases h
  | .halt .., b, h => by cases h
theorem mapT_eq {t : TypeId} {k e : TypeId} (h : mapT (descF P t) = some (k, e)) : descF P t = some (.map k e) := by
  unfold mapT at h
  split at h
  · rename_i hd; cases h; exact hd
  · cases h
theorem mapAt_eq {r : Nat} {es : Array MapEntry} {c : Nat} (h : mapAt H r = some (es, c)) : ∃ u, H.get r = some (.map es c, u) := by
  unfold mapAt at h
  split at h
  · rename_i es c u hg; cases h; exact ⟨u, hg⟩
  · cases h
theorem live_map {es : Array MapEntry} {c : Nat} : Live (.map es c) := fun z h => by cases h
theorem R.getMap (h : R P s H w) {r : Nat} {x : Nat × Nat} {es : Array MapEntry} {c : Nat} (hm : mapAt H r = some (es, c)) (hs : s r = some x) : w.heap[x.1]? = some (.map es c) := by
  obtain ⟨u, hg⟩ := mapAt_eq hm
  obtain ⟨o', h1, h2⟩ := h.obj r _ u x hg live_map hs
  cases h2
  exact h1
theorem getObj_run {r : Nat} {es : Array MapEntry} {c : Nat} (h : w.heap[r]? = some (.map es c)) : (getObj r).run P w = .ok (.map es c) w := by
  simp [getObj, Sem.run, h]
theorem setObj_run {r : Nat} {es : Array MapEntry} {c : Nat} {o : Obj} (h : w.heap[r]? = some (.map es c)) : (setObj r o).run P w = .ok () { w with heap := w.heap.setIfInBounds r o } := by
  simp [setObj, Sem.run, h]
theorem R.setMap (h : R P s H w) {r : Nat} {x : Nat × Nat} {es es' : Array MapEntry} {c c' : Nat} (hm : mapAt H r = some (es, c)) (hs : s r = some x) :
    Post P s H w s (H.set r (.map es' c', false)) { w with heap := w.heap.setIfInBounds x.1 (.map es' c') } := by
  obtain ⟨u, hg⟩ := mapAt_eq hm
  exact h.set hg live_map hs rfl
theorem cloO_eq {v : Option Value} {u : Value} (h : cloO v = some u) : v = some u ∧ cloR u = true := by
  unfold cloO at h
  split at h
  · rename_i v
    split at h
    · rename_i hc; cases h; exact ⟨rfl, hc⟩
    · cases h
  · cases h
theorem whereIs_run {b : Bool} {t : TypeId} {k : Value} {es : Array MapEntry} {r : Option (Nat × Value)} (h : whereIs P b t k es = some r) (w : World) : (Instr.checkKey b 10000 t k).run P w = .ok () w ∧ (Instr.findKey t k es.toList).run P w = .ok r w := by
  unfold whereIs keyFits at h
  split at h
  · rename_i hk
    refine ⟨?_, runP_run _ _ h w⟩
    split at hk
    · rename_i u hu; exact runP_run _ _ hu w
    · cases hk
  · cases h
theorem fLook_run (h : R P s H w) {t : TypeId} {m m' k k' : Value} {ok : Bool} {n : Next} {H' : Hp} (he : fVal (fLook P H t m k ok) H = some (n, H')) (hm : V s m m') (hk : V s k k') : Does P s H w (do pure (.value (← Instr.lookup t m' k' ok))) n H' := by
  obtain ⟨v, e1, e2, e3⟩ := fVal_eq he
  subst e2 e3
  unfold fLook at e1
  split at e1
  · rename_i r hc
    have := clo1_V hc hk
    subst this
    obtain ⟨x, g1, g2⟩ := V.map.1 hm
    subst g2
    unfold lookE at e1
    split at e1
    · rename_i key elem es c ht hme
      obtain ⟨q1, q2⟩ := cloO_eq e1
      have hd := mapT_eq ht
      have hw := h.getMap hme g1
      refine does_pure h (v' := v) ?_ (cloR_self q2)
      unfold Instr.lookup
      unfold lookM at q1
      split at q1
      · rename_i p hp
        obtain ⟨p1, p2⟩ := whereIs_run hp w
        cases q1
        simp only [Sem.run_bind, run_under hd, Result.andThen_ok, getObj_run hw, Sem.run_pure, p1, p2]
        cases ok <;> rfl
      · rename_i hp
        obtain ⟨p1, p2⟩ := whereIs_run hp w
        split at q1
        · rename_i z hz
          cases q1
          simp only [Sem.run_bind, run_under hd, Result.andThen_ok, getObj_run hw, Sem.run_pure, p1, p2, runP_run _ _ hz w]
          cases ok <;> rfl
        · cases q1
      · cases q1
    · cases e1
  · cases e1
theorem setM_eq {r : Nat} {nx n : Next} {m : Option (Array MapEntry × Nat)} {H' : Hp} (h : setM H r nx m = some (n, H')) : ∃ es c, m = some (es, c) ∧ n = nx ∧ H' = H.set r (.map es c, false) := by
  unfold setM at h
  split at h
  · rename_i es c; cases h; exact ⟨es, c, rfl, rfl, rfl⟩
  · cases h
theorem fUpd_run (h : R P s H w) {t : TypeId} {m m' k k' x x' : Value} {n : Next} {H' : Hp} (he : fUpd P H t m k x = some (n, H')) (hm : V s m m') (hk : V s k k') (hx : V s x x') : Does P s H w (do Instr.mapUpdate t m' k' x'; pure .skip) n H' := by
  unfold fUpd at he
  split at he
  · rename_i r hc1 hc2
    have e1 := clo1_V hc1 hk
    have e2 := clo1_V hc2 hx
    subst e1 e2
    obtain ⟨y, g1, g2⟩ := V.map.1 hm
    subst g2
    unfold updE at he
    split at he
    · rename_i key elem es c ht hme
      obtain ⟨es', c', q1, q2, q3⟩ := setM_eq he
      subst q2 q3
      have hd := mapT_eq ht
      have hw := h.getMap hme g1
      refine does_unit ?_ (h.setMap hme g1)
      unfold Instr.mapUpdate
      unfold updM at q1
      split at q1
      · rename_i p hp
        obtain ⟨i, v⟩ := p
        obtain ⟨p1, p2⟩ := whereIs_run hp w
        split at q1
        · rename_i k2 p3
          have p3 := runP_run _ _ p3 w
          unfold keyAt at p3
          cases q1
          simp only [Sem.run_bind, run_under hd, Result.andThen_ok, getObj_run hw, p1, p2, p3]
          exact setObj_run hw
        · cases q1
      · rename_i hp
        obtain ⟨p1, p2⟩ := whereIs_run hp w
        cases q1
        simp only [Sem.run_bind, run_under hd, Result.andThen_ok, getObj_run hw, p1, p2]
        exact setObj_run hw
      · cases q1
    · cases he
  · cases he
theorem fEnt_run (h : R P s H w) {t : TypeId} {m m' k k' : Value} {n : Next} {H' : Hp} (he : fEnt P H t m k = some (n, H')) (hm : V s m m') (hk : V s k k') : Does P s H w (do pure (.value (← Instr.mapEntry t m' k'))) n H' := by
  unfold fEnt at he
  split at he
  · rename_i r hc1
    have e1 := clo1_V hc1 hk
    subst e1
    obtain ⟨y, g1, g2⟩ := V.map.1 hm
    subst g2
    unfold entE at he
    split at he
    · rename_i key elem es c ht hme
      have hd := mapT_eq ht
      have hw := h.getMap hme g1
      unfold setE at he
      split at he
      · rename_i v es' c' q1
        split at he
        · rename_i hcv
          cases he
          refine does_val ?_ (cloR_self hcv) (h.setMap (es' := es') (c' := c') hme g1)
          unfold Instr.mapEntry
          unfold entM at q1
          split at q1
          · rename_i p hp
            obtain ⟨i, v⟩ := p
            obtain ⟨p1, p2⟩ := whereIs_run hp w
            split at q1
            · rename_i k2 p3
              have p3 := runP_run _ _ p3 w
              unfold keyAt at p3
              cases q1
              simp only [Sem.run_bind, run_under hd, Result.andThen_ok, getObj_run hw, p1, p2, p3, setObj_run hw, Sem.run_pure, bornAt]
            · cases q1
          · rename_i hp
            obtain ⟨p1, p2⟩ := whereIs_run hp w
            split at q1
            · rename_i z hz
              cases q1
              simp only [Sem.run_bind, run_under hd, Result.andThen_ok, getObj_run hw, p1, p2, runP_run _ _ hz w, setObj_run hw, Sem.run_pure]
            · cases q1
          · cases q1
        · cases he
      · cases he
    · cases he
  · cases he
theorem fSto_run (h : R P s H w) {t : TypeId} {m m' k k' x x' : Value} {n : Next} {H' : Hp} (he : fSto P H m k x = some (n, H')) (hm : V s m m') (hk : V s k k') (hx : V s x x') : Does P s H w (do Instr.entryStore t m' k' x'; pure .skip) n H' := by
  unfold fSto at he
  split at he
  · rename_i r hc1 hc2
    have e1 := clo1_V hc1 hk
    have e2 := clo1_V hc2 hx
    subst e1 e2
    obtain ⟨y, g1, g2⟩ := V.map.1 hm
    subst g2
    unfold stoE at he
    split at he
    · rename_i es c hme
      obtain ⟨es', c', q1, q2, q3⟩ := setM_eq he
      subst q2 q3
      have hw := h.getMap hme g1
      refine does_unit ?_ (h.setMap hme g1)
      unfold Instr.entryStore
      unfold stoM at q1
      split at q1
      · rename_i b p1
        split at q1
        · rename_i i hf
          cases q1
          simp only [Sem.run_bind, getObj_run hw, Result.andThen_ok, runP_run _ _ p1 w, hf]
          exact setObj_run hw
        · cases q1
      · cases q1
    · cases he
  · cases he
theorem fDelete_run (h : R P s H w) {ts : Array TypeId} {ty : TypeId} {xs xs' : List Value} {n : Next} {H' : Hp} (he : fDelete P ts.toList xs H = some (n, H')) (hx : VL s xs xs') : Does P s H w (do pure (.value (← Builtin.delete_ ts ty ⟨xs'⟩))) n H' := by
  unfold fDelete at he
  split at he
  · rename_i t tr r k xr ht
    obtain ⟨m', r1, g1, g2, e⟩ := hx
    obtain ⟨k', r2, g3, g4, e2⟩ := g2
    subst e2 e
    have ht0 := argsAt ht
    split at he
    · rename_i hc1
      have e1 := clo1_V hc1 g3
      subst e1
      obtain ⟨y, g5, g6⟩ := V.map.1 g1
      subst g6
      unfold delE at he
      split at he
      · rename_i key elem es c htt hme
        obtain ⟨es', c', q1, q2, q3⟩ := setM_eq he
        subst q2 q3
        have hd := mapT_eq htt
        have hw := h.getMap hme g5
        refine does_val ?_ (V.tuple.2 ⟨[], rfl, rfl⟩) (h.setMap (es' := es') (c' := c') hme g5)
        unfold Builtin.delete_
        unfold delM at q1
        split at q1
        · rename_i p hp
          obtain ⟨i, v⟩ := p
          obtain ⟨p1, p2⟩ := whereIs_run hp w
          cases q1
          simp only [ht0, List.getElem?_toArray, List.getElem?_cons_zero, List.getElem?_cons_succ, Sem.run_bind, run_under hd, Result.andThen_ok, getObj_run hw, p1, p2, setObj_run hw, Sem.run_pure]
        · rename_i hp
          obtain ⟨p1, p2⟩ := whereIs_run hp w
          cases q1
          simp only [ht0, List.getElem?_toArray, List.getElem?_cons_zero, List.getElem?_cons_succ, Sem.run_bind, run_under hd, Result.andThen_ok, getObj_run hw, p1, p2, setObj_run hw, Sem.run_pure]
        · cases q1
      · cases he
    · cases he
  · cases he
/-! calls -/
theorem hasBody_eq {f : FuncId} (h : hasBody P f = true) : ∃ g c, P.funcs[f]? = some g ∧ nthL P.funcs.toList f = some g ∧ g.body = some c ∧ g.name ≠ "runtime.NumGoroutine" := by
  unfold hasBody at h
  split at h
  · rename_i g hg
    split at h
    · rename_i c hc
      have hg2 : P.funcs[f]? = some g := by rw [nthL_eq] at hg; simpa using hg
      exact ⟨g, c, hg2, hg, hc, by simpa using h⟩
    · cases h
  · cases h
theorem callFunc_run {f : FuncId} {args : Array Value} (h : hasBody P f = true) : (callFunc f args).run P w = .ok (.enter f args) w := by
  obtain ⟨g, c, h1, _, h2, h3⟩ := hasBody_eq h
  unfold callFunc
  simp [program, Sem.run, h1, h2, h3]
theorem fEnter_eq {f : FuncId} {a : Option (List Value)} {n : Next} {H' : Hp} (h : fEnter P f a H = some (n, H')) : ∃ l, a = some l ∧ hasBody P f = true ∧ n = .enter f ⟨l⟩ ∧ H' = H := by
  unfold fEnter at h
  split at h
  · rename_i l hb; cases h; exact ⟨l, rfl, hb, rfl, rfl⟩
  · cases h
end
end Go.Ev
