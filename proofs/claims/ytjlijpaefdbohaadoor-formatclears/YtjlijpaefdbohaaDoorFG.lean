/- The map that counts entries by their keys. -/
import Derived.Test.YtjlijpaefdbohaaDoorFF
set_option linter.unusedVariables false
namespace Go.Proofs.YtjlijpaefdbohaaDoor
open Go.RowKit
open Go.ChangeMaps (setBlock heap_setBlock_same heap_setBlock_other)

theorem infoI : (Tryd.prog.info? 3).map (fun i => (i.zero, i.size, i.bytes)) = some (some (.int .i64 0), 1, 8) := by kernel_rfl
theorem zeroI (w : World) : (zeroValue 3).run Tryd.prog w = .ok (.int .i64 0) w := by
  obtain ⟨i0, hii, hz0, hz1, hz2⟩ := info_parts infoI
  simp [zeroValue, typeInfo, hii, hz0]

/-- a map from keys to numbers, as a function; 0 where there is none -/
def MapK (w : World) (b c : Nat) (f : Ky → Int) : Prop :=
  ∃ D : DataW Unit, w.ownsMap Tryd.prog 77 (plainElem Tryd.prog 3) b c D ∧ ∀ k : Ky, k.Ok → ∀ l, keyOf Tryd.prog 77 (kV k) = some l → D.atKey l (.lit (.int .i64 0)) = .lit (.int .i64 (f k))

theorem MapK.made (w : World) : MapK (w.alloc (.map #[] 0)) w.heap.size 0 (fun _ => 0) :=
  ⟨.map [], World.ownsMap_made w _ _ _, fun k _ l _ => rfl⟩
theorem MapK.block {w w' : World} {b c : Nat} {f : Ky → Int} (h : MapK w b c f) (hb : w'.heap[b]? = w.heap[b]?) : MapK w' b c f := by
  obtain ⟨D, ⟨es, clock, h1, h3⟩, h2⟩ := h
  exact ⟨D, ⟨es, clock, hb.trans h1, h3⟩, h2⟩
theorem MapK.isMap {w : World} {b c : Nat} {f : Ky → Int} (h : MapK w b c f) : ∃ es clock, w.heap[b]? = some (.map es clock) := by
  obtain ⟨D, ⟨es, clock, h1, h3⟩, h2⟩ := h
  exact ⟨es, clock, h1⟩
theorem MapK.mono {w : World} {b c c' : Nat} {f : Ky → Int} (h : MapK w b c f) (hc : c ≤ c') : MapK w b c' f := by
  obtain ⟨D, h1, h2⟩ := h
  exact ⟨D, h1.mono hc, h2⟩
theorem MapK.look {w : World} {b c : Nat} {f : Ky → Int} (h : MapK w b c f) {k : Ky} (hk : k.Ok) :
    (Instr.lookup 62 (.map (some b)) (kV k) false).run Tryd.prog w = .ok (.int .i64 (f k)) w := by
  obtain ⟨D, h1, h2⟩ := h
  obtain ⟨l, hl⟩ := key_lit k hk
  obtain ⟨v, hr, hc, _⟩ := h1.lookup_int keyedK Tryd.underlying62 Tryd.underlying3 (zeroI w) hl
  rw [h2 k hk l hl] at hc
  cases hc
  exact hr
theorem key_ne {k k' : Ky} (h : k ≠ k') {l l' : Lit} (hl : keyOf Tryd.prog 77 (kV k) = some l) (hl' : keyOf Tryd.prog 77 (kV k') = some l') : l ≠ l' := by
  rintro rfl
  exact h (kV_inj (keyedK.inj hl hl'))
open Classical in
theorem put_at {w w' : World} {b c c' : Nat} {D : DataW Unit} {f : Ky → Int} {k : Ky} {l : Lit} {y : Int} (hl : keyOf Tryd.prog 77 (kV k) = some l) (hm : Maps.IsMap D)
    (h2 : ∀ k : Ky, k.Ok → ∀ l, keyOf Tryd.prog 77 (kV k) = some l → D.atKey l (.lit (.int .i64 0)) = .lit (.int .i64 (f k)))
    (h3 : w'.ownsMap Tryd.prog 77 (plainElem Tryd.prog 3) b c' (D.put l (.lit (.int .i64 y)))) : MapK w' b c' (fun z => if z = k then y else f z) := by
  refine ⟨_, h3, fun z hz l' hl' => ?_⟩
  by_cases e : z = k
  · subst e
    rw [hl] at hl'
    cases hl'
    simp only [if_true]
    exact Maps.atKey_put_same hm (keyedK.key hl) _ _
  · simp only [e, if_false]
    rw [Maps.atKey_put_other (key_ne e hl' hl)]
    exact h2 z hz l' hl'
open Classical in
theorem MapK.entry {w : World} {b c : Nat} {f : Ky → Int} (h : MapK w b c f) {k : Ky} (hk : k.Ok) (hc : c < maxLen) :
    ∃ v0 st w1, (Instr.mapEntry 62 (.map (some b)) (kV k)).run Tryd.prog w = .ok (.tuple #[v0, goInt st]) w1 ∧ MapK w1 b (c + 1) f ∧ w.grownBy w1 (some b) ∧
      ∀ (w2 : World) (y : Int), w2.heap[b]? = w1.heap[b]? → Is64 y → ∃ w3, (Instr.entryStore 62 (.map (some b)) (goInt st) (.int .i64 y)).run Tryd.prog w2 = .ok () w3 ∧ MapK w3 b (c + 1) (fun z => if z = k then y else f z) ∧ w2.grownBy w3 (some b) := by
  obtain ⟨l, hl⟩ := key_lit k hk
  obtain ⟨D, h1, h2⟩ := h
  obtain ⟨es, clock, hb, F, hs, hD⟩ := h1
  have h1 : w.ownsMap Tryd.prog 77 (plainElem Tryd.prog 3) b c D := ⟨es, clock, hb, F, hs, hD⟩
  obtain ⟨v0, st, es1, clock1, hr, hor, hst⟩ := WideElems.entry_then_store lawK Tryd.underlying62 zeroI hb F hl
  have hgr : ∀ (w2 : World) (o : Obj), (∃ es clock, w2.heap[b]? = some (.map es clock)) → w2.grownBy (setBlock w2 b o) (some b) := fun w2 o ⟨es, clock, e⟩ =>
    ⟨rfl, rfl, rfl, by simp [setBlock], fun i _ hi => heap_setBlock_other e _ (fun e => hi (by rw [e]))⟩
  refine ⟨v0, st, _, hr, ?_, hgr _ _ ⟨_, _, hb⟩, fun w2 y hw2 hy => ?_⟩
  · rcases lawK.find w hl es.toList F.keys with ⟨q1, q2⟩ | ⟨j, e0, q1, q2, q3⟩
    · have hr2 : (Instr.mapEntry 62 (.map (some b)) (kV k)).run Tryd.prog w = .ok (.tuple #[.int .i64 0, goInt clock]) (setBlock w b (.map (es.push ⟨kV k, .int .i64 0, clock⟩) (clock + 1))) := by
        simp [Instr.mapEntry, run_underlying Tryd.underlying62, MapKept.run_getObj_map hb, lawK.check w false hl, q1, MapKept.run_setObj_map _ hb, setBlock]
      have hu : (Instr.mapUpdate 62 (.map (some b)) (kV k) (.int .i64 0)).run Tryd.prog w = .ok () (setBlock w b (.map (es.push ⟨kV k, .int .i64 0, clock⟩) (clock + 1))) := by
        simp [Instr.mapUpdate, run_underlying Tryd.underlying62, MapKept.run_getObj_map hb, lawK.check w false hl, q1, MapKept.run_setObj_map _ hb, setBlock]
      obtain ⟨w', e1, e2, _⟩ := h1.update keyedK Tryd.underlying62 hc hl (plainElem_int Tryd.underlying3 (a := 0) (by decide))
      rw [hr] at hr2
      rw [hu] at e1
      injection hr2 with _ e3
      injection e1 with _ e4
      rw [e3, e4]
      have e5 := put_at hl h1.isMap h2 e2 (w := w) (c := c)
      have hf : f k = 0 := by
        obtain ⟨v, hv, hc2, _⟩ := h1.lookup_int keyedK Tryd.underlying62 Tryd.underlying3 (zeroI w) hl
        rw [h2 k hk l hl] at hc2
        cases hc2
        have hv2 : (Instr.lookup 62 (.map (some b)) (kV k) false).run Tryd.prog w = .ok (.int .i64 0) w := by
          simp [Instr.lookup, run_underlying Tryd.underlying62, MapKept.run_getObj_map hb, lawK.check w _ hl, q1]
        rw [hv] at hv2
        simp only [Result.ok.injEq, Value.int.injEq, true_and, and_true] at hv2
        exact hv2
      have e7 : (fun z => if z = k then 0 else f z) = f := by
        funext z
        by_cases e : z = k
        · subst e; simp [hf]
        · simp [e]
      rw [e7] at e5
      exact e5
    · have hj : es[j]? = some e0 := by simpa using q2
      have hr2 : (Instr.mapEntry 62 (.map (some b)) (kV k)).run Tryd.prog w = .ok (.tuple #[e0.val, goInt e0.born]) (setBlock w b (.map (es.modify j (fun e => { e with key := kV k })) clock)) := by
        simp [Instr.mapEntry, run_underlying Tryd.underlying62, MapKept.run_getObj_map hb, lawK.check w false hl, q1, hj, q3, lawK.stays w hl, MapKept.run_setObj_map _ hb, setBlock]
      have hsame : es.modify j (fun e => { e with key := kV k }) = es := by
        apply Array.ext_getElem?
        intro i
        rw [Array.getElem?_modify]
        split
        · next e => subst e; rw [hj, ← q3]; rfl
        · rfl
      rw [hr, hsame] at hr2
      injection hr2 with _ e3
      rw [e3]
      exact MapK.block (w := w) ⟨D, h1.mono (by omega), h2⟩ (by rw [heap_setBlock_same hb, hb])
  · obtain ⟨es', clock', e1, e2⟩ := hst w2 (.int .i64 y) (hw2.trans (heap_setBlock_same hb _))
    obtain ⟨w', e3, e4, _⟩ := h1.update keyedK Tryd.underlying62 hc hl (plainElem_int Tryd.underlying3 hy.out)
    rw [e2] at e3
    injection e3 with _ e5
    have e6 := put_at hl h1.isMap h2 e4 (w := w) (c := c)
    have hb2 : w2.heap[b]? = some (.map es1 clock1) := hw2.trans (heap_setBlock_same hb _)
    exact ⟨_, e1, e6.block (by rw [heap_setBlock_same hb2, ← e5, heap_setBlock_same hb]), hgr _ _ ⟨_, _, hb2⟩⟩
open Classical in
theorem MapK.drop {w : World} {b c : Nat} {f : Ky → Int} (h : MapK w b c f) {k : Ky} (hk : k.Ok) (ty : TypeId) :
    ∃ w', (Builtin.delete_ #[62, 77] ty #[.map (some b), kV k]).run Tryd.prog w = .ok (.tuple #[]) w' ∧ MapK w' b c (fun z => if z = k then 0 else f z) ∧ w.grownBy w' (some b) := by
  obtain ⟨l, hl⟩ := key_lit k hk
  obtain ⟨D, h1, h2⟩ := h
  obtain ⟨w', hr, h3, h4⟩ := h1.drop keyedK Tryd.underlying62 hl ty
  refine ⟨w', hr, ⟨_, h3, fun z hz l' hl' => ?_⟩, h4.grown⟩
  by_cases e : z = k
  · subst e
    rw [hl] at hl'
    cases hl'
    simp only [if_true]
    exact Maps.atKey_del_same _
  · simp only [e, if_false]
    rw [Maps.atKey_del_other (key_ne e hl' hl)]
    exact h2 z hz l' hl'
end Go.Proofs.YtjlijpaefdbohaaDoor
