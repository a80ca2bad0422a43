/- An evaluator for closed runs: things that are built; zeros. -/
import Derived.Test.YtfcmgkakmaclcaaEvG
set_option linter.unusedSimpArgs false
set_option linter.unusedVariables false
set_option linter.unusedSectionVars false
namespace Go.Ev
variable [Inhabited Env]
section
variable {P : Program} {s : Sg} {H : Hp} {w : World}
theorem fold_over (off : Nat) : ∀ (vs : List Value) (k : Nat) (cs c2 : List Value), overL cs (off + k) vs = some c2 →
    (vs.zipIdx k).foldl (fun (a : Array Value) (p : Value × Nat) => a.setIfInBounds (off + p.2) p.1) ⟨cs⟩ = ⟨c2⟩
  | [], k, cs, c2, h => by simp [overL] at h; subst h; rfl
  | v :: vs, k, cs, c2, h => by
    obtain ⟨h1, h2⟩ := overL_cons cs (off + k) v vs c2 h
    simp only [List.zipIdx_cons, List.foldl_cons]
    have e : (⟨cs⟩ : Array Value).setIfInBounds (off + k) v = ⟨cs.set (off + k) v⟩ := by simp
    rw [e]
    exact fold_over off vs (k + 1) (cs.set (off + k) v) c2 (by rw [← Nat.add_assoc]; exact h2)
def PL (s : Sg) : List (Nat × Value) → List (Nat × Value) → Prop
  | [], l' => l' = []
  | p :: r, l' => ∃ v' r', V s p.2 v' ∧ PL s r r' ∧ l' = (p.1, v') :: r'
theorem fill_run {pl : Nat → Option (Nat × Nat)} : ∀ {ps ps' : List (Nat × Value)} {cs cs' c : List Value}, fillL pl cs ps = some c → VL s cs cs' → PL s ps ps' → ∃ c', Instr.fill pl ⟨cs'⟩ ps' = some ⟨c'⟩ ∧ VL s c c'
  | [], ps', cs, cs', c, h, hv, hp => by cases hp; simp [fillL] at h; subst h; exact ⟨cs', rfl, hv⟩
  | (i, v) :: r, ps', cs, cs', c, h, hv, hp => by
    obtain ⟨v', r', h1, h2, e⟩ := hp
    subst e
    unfold fillL at h
    split at h
    · rename_i off n hpl
      split at h
      · rename_i hb
        obtain ⟨b1, b2, b3⟩ := and3 hb
        have b1 := Nat.eq_of_beq_eq_true b1
        have b3 : 0 < n := by simpa [Nat.blt_eq] using b3
        split at h
        · rename_i c1 ho
          have hc := V.cells_of h1 b2
          obtain ⟨c1', g1, g2⟩ := hv.over off hc ho
          obtain ⟨c', g3, g4⟩ := fill_run h g2 h2
          refine ⟨c', ?_, g4⟩
          unfold Instr.fill
          simp only [hpl]
          have hlen : v'.cells.size = n := by rw [← Array.length_toList, hc.len, b1]
          have hle : off + v'.cells.toList.length ≤ cs'.length ∨ v'.cells.toList = [] := overL_eq cs' off _ _ g1
          have hcond : (decide (v'.cells.size ≠ n) || decide (off + v'.cells.size > (⟨cs'⟩ : Array Value).size)) = false := by
            rcases hle with hle | hle
            · have h3 : v'.cells.toList.length = n := by rw [Array.length_toList]; exact hlen
              rw [Bool.or_eq_false_iff]
              refine ⟨by simp [hlen], ?_⟩
              rw [decide_eq_false_iff_not]
              show ¬ (cs'.length < off + v'.cells.size)
              rw [hlen]; rw [h3] at hle; omega
            · have : v'.cells.toList.length = 0 := by rw [hle]; rfl
              rw [Array.length_toList] at this; omega
          have hf := fold_over off v'.cells.toList 0 cs' c1' (by simpa using g1)
          have hfold : v'.cells.zipIdx.foldl (fun (cs : Array Value) (x : Value × Nat) => match x with | (c, j) => cs.setIfInBounds (off + j) c) ⟨cs'⟩ = ⟨c1'⟩ := by
            rw [← hf, ← Array.foldl_toList]
            simp
          rw [if_neg (by rw [hcond]; simp)]
          rw [hfold]
          exact g3
        · cases h
      · cases h
    · cases h
theorem places_run : ∀ {fs : List Field} {pl : List (Nat × Nat)}, placesL P fs = some pl → (fs.mapM (fun f => do pure (f.offset, ← sizeOf f.type)) : Sem (List (Nat × Nat))).run P w = .ok pl w
  | [], pl, h => by cases h; rfl
  | f :: r, pl, h => by
    unfold placesL at h
    split at h
    · rename_i n hz
      split at h
      · rename_i l hl
        cases h
        rw [List.mapM_cons]
        simp only [Sem.run_bind, run_size hz, Result.andThen_ok, Sem.run_pure, places_run hl]
      · cases h
    · cases h
theorem aggO_eq {l : Option (List Value)} {v : Value} (h : aggO l = some v) : ∃ c, l = some c ∧ v = .agg ⟨c⟩ := by
  cases l with
  | none => cases h
  | some c => cases h; exact ⟨c, rfl, rfl⟩
theorem fBuild_run {t : TypeId} {ps : List (Nat × Value)} {ps' : Array (Nat × Value)} {v : Value} (he : fBuild P t (some ps) = some v) (hp : PL s ps ps'.toList) : ∃ v', V s v v' ∧ (Instr.build t ps').run P w = .ok v' w := by
  unfold fBuild at he
  split at he
  · rename_i ps0 z e0 hz
    cases e0
    obtain ⟨h1, h2⟩ := run_zero (P := P) (w := w) hz
    have hc := clo1_cells (s := s) h2
    unfold fBuild2 at he
    unfold Instr.build
    split at he
    · rename_i fs hd
      split at he
      · rename_i pl hpl
        obtain ⟨c, e1, e2⟩ := aggO_eq he
        subst e2
        obtain ⟨c', g1, g2⟩ := fill_run e1 hc hp
        refine ⟨.agg ⟨c'⟩, V.agg.2 ⟨c', g2, rfl⟩, ?_⟩
        have hm : (fs.mapM (fun f => do pure (f.offset, ← sizeOf f.type)) : Sem (Array (Nat × Nat))).run P w = .ok ⟨pl⟩ w := by
          rw [Array.mapM_eq_mapM_toList, Sem.run_map, places_run hpl]; rfl
        have hnth : (fun i => (⟨pl⟩ : Array (Nat × Nat))[i]?) = nthL pl := by funext i; rw [nthL_eq]; simp
        have hz2 : z.cells = ⟨z.cells.toList⟩ := rfl
        simp only [Sem.run_bind, h1, Result.andThen_ok, run_under hd, hm, hnth]
        rw [hz2, g1]
        rfl
      · cases he
    · rename_i m e hd
      split at he
      · rename_i n hz3
        obtain ⟨c, e1, e2⟩ := aggO_eq he
        subst e2
        obtain ⟨c', g1, g2⟩ := fill_run e1 hc hp
        refine ⟨.agg ⟨c'⟩, V.agg.2 ⟨c', g2, rfl⟩, ?_⟩
        have hz2 : z.cells = ⟨z.cells.toList⟩ := rfl
        have hpl : (fun i => some (i * n, n)) = elemPl n := rfl
        simp only [Sem.run_bind, h1, Result.andThen_ok, run_under hd, run_size hz3, hpl]
        rw [hz2, g1]
        rfl
      · cases he
    · cases he
  · cases he
/-! zeros -/
theorem repL_len (z : List Value) : ∀ n, (repL z n).length = n * z.length
  | 0 => by simp [repL]
  | n + 1 => by simp [repL, repL_len z n, Nat.succ_mul]; omega
theorem repL_get (z : List Value) (hz : 0 < z.length) : ∀ n i, i < n * z.length → (repL z n)[i]? = z[i % z.length]?
  | 0, i, h => by simp at h
  | n + 1, i, h => by
    unfold repL
    by_cases hi : i < z.length
    · rw [List.getElem?_append_left hi, Nat.mod_eq_of_lt hi]
    · have h1 : z.length ≤ i := Nat.le_of_not_lt hi
      rw [List.getElem?_append_right h1, repL_get z hz n (i - z.length) (by rw [Nat.succ_mul] at h; omega), Nat.mod_eq_sub_mod h1]
theorem zeros_eq (z : Array Value) (hz : 0 < z.size) (n : Nat) : ((Array.range (n * z.size)).map (fun i => z[i % z.size]!)) = ⟨repL z.toList n⟩ := by
  apply Array.ext_getElem?
  intro i
  have hl : z.toList.length = z.size := Array.length_toList
  by_cases hi : i < n * z.size
  · have h1 : (repL z.toList n)[i]? = z.toList[i % z.size]? := by rw [repL_get z.toList (by omega) n i (by rw [hl]; exact hi), hl]
    have h2 : i % z.size < z.size := Nat.mod_lt _ hz
    simp [hi, h1, h2]
  · have h1 : (repL z.toList n)[i]? = none := by rw [List.getElem?_eq_none_iff, repL_len, hl]; omega
    simp [hi, h1]
theorem cloL_rep {z : List Value} (h : VL s z z) : ∀ n, VL s (repL z n) (repL z n)
  | 0 => rfl
  | n + 1 => h.append (cloL_rep h n)
end
end Go.Ev
