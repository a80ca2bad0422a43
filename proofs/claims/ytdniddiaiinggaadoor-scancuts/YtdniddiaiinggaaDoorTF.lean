/- The map of attributes, byName: what it answers. -/
import Derived.Test.YtdniddiaiinggaaDoorTE
import Derived.Test.YtdniddiaiinggaaDoorKeysL
import Derived.Sort.KeysCollected
import Derived.Maps.OwnSet
import Derived.Maps.Views
import Derived.Maps.AppendAt
set_option linter.unusedVariables false
namespace Go.Proofs.YtdniddiaiinggaaDoor
open Go.RowKit M

/-- a text of these bytes -/
abbrev tx (l : List UInt8) : ByteArray := ⟨l.toArray⟩
theorem zeroAt (w : World) : (zeroValue 30).run Tryd.prog w = .ok (attV ⟨#[]⟩ ⟨#[]⟩) w := by kernel_rfl
def atD (n v : List UInt8) : DataW Unit := .agg [.lit (.string n), .lit (.string v)]
def atElem : Value → Option (DataW Unit × List MemPlace)
  | .agg ⟨[.string a, .string b]⟩ => some (atD a.data.toList b.data.toList, [])
  | _ => none
theorem atElem_mk (a b : ByteArray) : atElem (attV a b) = some (atD a.data.toList b.data.toList, []) := rfl
theorem atElem_inv {x : Value} {n v : List UInt8} {ps : List MemPlace} (h : atElem x = some (atD n v, ps)) : x = attV (tx n) (tx v) := by
  unfold atElem at h
  split at h
  · rename_i a b
    simp only [atD, Option.some.injEq, Prod.mk.injEq, DataW.agg.injEq, List.cons.injEq, DataW.lit.injEq, Lit.string.injEq, and_true] at h
    obtain ⟨⟨rfl, rfl⟩, _⟩ := h
    rfl
  · cases h
/-- the map of attributes -/
structure MapA (w : World) (b : Nat) (acc : AL) : Prop where
  ex : ∃ D : DataW Unit, w.ownsMap Tryd.prog 9 atElem b acc.length D ∧ (∀ x, Maps.has D (.string x) = true ↔ x ∈ acc.map (·.1)) ∧ ∀ x v, (x, v) ∈ acc → ∀ z, D.atKey (.string x) z = atD x v
  nodup : (acc.map (·.1)).Nodup
theorem MapA.lt {w : World} {b : Nat} {acc : AL} (h : MapA w b acc) : b < w.heap.size := by
  obtain ⟨D, h1, _⟩ := h.ex
  exact h1.lt
theorem MapA.same {w w' : World} {b : Nat} {acc : AL} (h : MapA w b acc) (e : w'.heap[b]? = w.heap[b]?) : MapA w' b acc := by
  obtain ⟨D, ⟨es, clock, h1, h3⟩, h2⟩ := h.ex
  exact ⟨⟨D, ⟨es, clock, e.trans h1, h3⟩, h2⟩, h.nodup⟩
theorem MapA.keep {w w' : World} {b : Nat} {acc : AL} (h : MapA w b acc) (hb : Below w.heap.size w w') : MapA w' b acc := h.same (hb.block _ h.lt)
theorem MapA.set {w : World} {b : Nat} {acc : AL} (h : MapA w b acc) (c o : Nat) (v : Value) (hc : b ≠ c) : MapA (w.setCell ⟨c, o, none⟩ v) b acc := by
  obtain ⟨D, h1, h2⟩ := h.ex
  exact ⟨⟨D, h1.setCell (a := ⟨c, o, none⟩) hc v, h2⟩, h.nodup⟩
theorem MapA.made (w : World) : MapA (w.alloc (.map #[] 0)) w.heap.size [] :=
  ⟨⟨.map [], World.ownsMap_made _ _ _ _, fun x => by simp [Maps.has], fun x v h => by cases h⟩, List.nodup_nil⟩
theorem key9 (s : ByteArray) (h : s.size ≤ 1000000000) : keyOf Tryd.prog 9 (.string s) = some (.string s.data.toList) := Go.WideMaps.keyOf_string_mk Tryd.underlying9 (by unfold maxLen; omega)
theorem MapA.look_ok {w : World} {b : Nat} {acc : AL} (h : MapA w b acc) (s : ByteArray) (hs : s.size ≤ 1000000000) :
    ∃ a c, (Instr.lookup 90 (.map (some b)) (.string s) true).run Tryd.prog w = .ok (.tuple #[attV a c, .bool (decide (s.data.toList ∈ acc.map (·.1)))]) w := by
  obtain ⟨D, h1, h2, h3⟩ := h.ex
  obtain ⟨v, ps, hr, hv⟩ := h1.look_ok law9 Tryd.underlying90 (zeroAt w) (atElem_mk ⟨#[]⟩ ⟨#[]⟩) (key9 s hs)
  have e : Maps.has D (.string s.data.toList) = decide (s.data.toList ∈ acc.map (·.1)) := by
    rw [Bool.eq_iff_iff, decide_eq_true_eq]
    exact h2 _
  rw [e] at hr
  by_cases hm : s.data.toList ∈ acc.map (·.1)
  · obtain ⟨⟨x, y⟩, hy, e3⟩ := List.mem_map.1 hm
    have e4 : x = s.data.toList := e3
    rw [← e4, h3 x y hy] at hv
    rw [atElem_inv hv] at hr
    exact ⟨_, _, hr⟩
  · have hn : Maps.has D (.string s.data.toList) = false := by rw [e]; exact decide_eq_false hm
    rw [Maps.atKey_of_not_has hn] at hv
    rw [atElem_inv hv] at hr
    exact ⟨_, _, hr⟩
theorem MapA.look {w : World} {b : Nat} {acc : AL} (h : MapA w b acc) {x v : List UInt8} (hx : (x, v) ∈ acc) (hs : x.length ≤ 1000000000) :
    (Instr.lookup 90 (.map (some b)) (.string (tx x)) false).run Tryd.prog w = .ok (attV (tx x) (tx v)) w := by
  obtain ⟨D, h1, h2, h3⟩ := h.ex
  obtain ⟨u, ps, hr, hv⟩ := h1.lookup law9 Tryd.underlying90 (zeroAt w) (atElem_mk ⟨#[]⟩ ⟨#[]⟩) (key9 (tx x) (by rw [Lib.size_eq]; exact hs))
  rw [h3 x v hx] at hv
  rw [atElem_inv hv] at hr
  exact hr
theorem MapA.put {w : World} {b : Nat} {acc : AL} (h : MapA w b acc) (n v : ByteArray) (hs : n.size ≤ 1000000000) (hl : acc.length ≤ 1000000000) (hnew : n.data.toList ∉ acc.map (·.1)) :
    ∃ w', (Instr.mapUpdate 90 (.map (some b)) (.string n) (attV n v)).run Tryd.prog w = .ok () w' ∧ MapA w' b (acc ++ [(n.data.toList, v.data.toList)]) ∧ w.grownBy w' (some b) := by
  obtain ⟨D, h1, h2, h3⟩ := h.ex
  obtain ⟨w', hr, h4, h5⟩ := h1.update law9 Tryd.underlying90 (by unfold maxLen; omega) (key9 n hs) (atElem_mk n v)
  refine ⟨w', hr, ⟨⟨_, by rw [List.length_append]; exact h4, fun x => ?_, fun x u hx z => ?_⟩, ?_⟩, h5⟩
  · rw [List.map_append, List.mem_append]
    by_cases e : x = n.data.toList
    · subst e
      rw [Maps.has_put_same h1.isMap (show WideAt.IsKeyLit (.string n.data.toList) from trivial)]
      simp
    · rw [Maps.has_put_other (by intro e2; exact e (by cases e2; rfl)), h2 x]
      simp [e]
  · rcases List.mem_append.1 hx with hx | hx
    · have ne : x ≠ n.data.toList := fun e => hnew (e ▸ List.mem_map.2 ⟨(x, u), hx, rfl⟩)
      rw [Maps.atKey_put_other (by intro e2; exact ne (by cases e2; rfl))]
      exact h3 x u hx z
    · simp only [List.mem_singleton, Prod.mk.injEq] at hx
      obtain ⟨rfl, rfl⟩ := hx
      exact Maps.atKey_put_same h1.isMap (show WideAt.IsKeyLit (.string n.data.toList) from trivial) _ _
  · rw [List.map_append]
    refine List.nodup_append.2 ⟨h.nodup, by simp, fun a ha c hc e => ?_⟩
    simp at hc
    subst hc
    exact hnew (e ▸ ha)
theorem MapA.perm {w : World} {b : Nat} {acc : AL} (h : MapA w b acc) : ∃ D : DataW Unit, w.ownsMap Tryd.prog 9 atElem b acc.length D ∧ (acc.map (·.1)).Perm (strKeys D) ∧ Maps.size D ≤ acc.length := by
  obtain ⟨D, h1, h2, h3⟩ := h.ex
  refine ⟨D, h1, ?_, h1.size_le⟩
  exact Collected.perm (left := fun _ => false) ⟨h.nodup, fun x => by rw [h2 x]; simp⟩ h1 law9 Tryd.underlying9 (fun _ => rfl)

/-- the cells of a row of attributes -/
def rowA (L : AL) : List Value := L.flatMap fun p => [.string (tx p.1), .string (tx p.2)]
theorem rowA_len (L : AL) : (rowA L).length = L.length * 2 := by
  induction L with
  | nil => rfl
  | cons p r ih =>
    rw [rowA, List.flatMap_cons, List.length_append, ← rowA, ih]
    simp
    omega
theorem rowA_app (L : AL) (n v : List UInt8) : rowA (L ++ [(n, v)]) = rowA L ++ [.string (tx n), .string (tx v)] := by
  unfold rowA
  rw [List.flatMap_append]
  rfl
/-- the names in their order -/
def keysA (acc : AL) : List (List UInt8) := (acc.map (·.1)).mergeSort (fun x y => decide (x ≤ y))
theorem keysA_len (acc : AL) : (keysA acc).length = acc.length := by unfold keysA; rw [List.length_mergeSort, List.length_map]
theorem srtA_len (acc : AL) : (srtA acc).length = acc.length := by unfold srtA; rw [List.length_map, List.length_mergeSort, List.length_map]
theorem lookA_mem {acc : AL} {x : List UInt8} (h : x ∈ acc.map (·.1)) : (x, lookA acc x) ∈ acc := by
  induction acc with
  | nil => simp at h
  | cons p r ih =>
    unfold lookA
    rw [List.find?_cons]
    by_cases e : p.1 = x
    · have e2 : (p.1 == x) = true := by simpa using e
      rw [e2]
      subst e
      exact List.mem_cons_self ..
    · have e2 : (p.1 == x) = false := by simpa using e
      rw [e2]
      have h2 : x ∈ r.map (·.1) := by
        rcases List.mem_cons.1 h with h3 | h3
        · exact absurd h3.symm e
        · exact h3
      exact List.mem_cons_of_mem _ (ih h2)
theorem keysA_mem {acc : AL} {j : Nat} {x : List UInt8} (h : (keysA acc)[j]? = some x) : (x, lookA acc x) ∈ acc := by
  apply lookA_mem
  have := List.mem_of_getElem? h
  unfold keysA at this
  exact (List.mergeSort_perm _ _).mem_iff.1 this
theorem srtA_take {acc : AL} {j : Nat} {x : List UInt8} (h : (keysA acc)[j]? = some x) : (srtA acc).take (j + 1) = (srtA acc).take j ++ [(x, lookA acc x)] := by
  have e : (srtA acc)[j]? = some (x, lookA acc x) := by
    unfold srtA
    rw [List.getElem?_map]
    have h2 : ((acc.map (·.1)).mergeSort (fun x y => decide (x ≤ y)))[j]? = some x := h
    rw [h2]
    rfl
  rw [List.take_add_one, e]
  rfl
theorem keys_any (b : Nat) (W : World) : Calls Tryd.prog 84 #[.map (some b)] W fun e w' => e = .returned (.func (.func 93) #[] #[.pointer (some ⟨W.heap.size, 0, none⟩)]) ∧ w' = W.alloc (.cells #[.map (some b)] 90) :=
  callsIn_wide.1 (keys_call (some b) W)
theorem sorted_any (b : Nat) (acc : AL) (w : World) (h : MapA w b acc) (hl : acc.length ≤ 1000000000) :
    Calls Tryd.prog 83 #[.func (.func 93) #[] #[.pointer (some ⟨w.heap.size, 0, none⟩)]] (w.alloc (.cells #[.map (some b)] 90)) fun e w' => ∃ v : Value, e = .returned v ∧
      w'.ownsRow w.heap.size 9 1 v acc.length ((keysA acc).map fun x => .string (tx x)) ∧ Below w.heap.size w w' := by
  obtain ⟨D, h1, h2, h3⟩ := h.perm
  refine (callsIn_wide.1 (sorted_call b acc.length D atElem w h1 (by unfold maxLen; omega) (by omega))).mono ?_
  rintro e w' ⟨v, ss, rfl, hp, hrow, hnil, hb⟩
  have hp2 : ss.Perm (acc.map (·.1)) := hp.trans h2.symm
  have e1 : ss.mergeSort (fun x y => decide (x ≤ y)) = keysA acc := mergeSort_of_perm hp2
  have e2 : ss.length = acc.length := by rw [hp2.length_eq, List.length_map]
  rw [e1, e2] at hrow
  refine ⟨v, rfl, ?_, (bl1 w _).trans (hb.mono (bl1 w _).size)⟩
  refine ⟨hrow.1, ?_⟩
  rcases hrow.2 with h0 | ⟨g, cap, cur, q1, q2, q3, q4⟩
  · exact .inl h0
  · exact .inr ⟨g, cap, cur, q1, Nat.le_trans (bl1 w _).size q2, q3, q4⟩

theorem add_cell (b o j : Nat) : (⟨b, o, none⟩ : Addr).add j = ⟨b, o + j, none⟩ := by
  unfold Addr.add
  split
  · next h => rw [h]; rfl
  · rfl
theorem infoA : (Tryd.prog.info? 30).map (fun i => (i.zero, i.size, i.bytes)) = some (some (.agg #[.string ⟨#[]⟩, .string ⟨#[]⟩]), 2, 32) := by kernel_rfl
theorem own_keep {w w' : World} {B : Nat} {e : TypeId} {size : Nat} {u : Value} {m : Nat} {xs : List Value} (ho : w.ownsRow B e size u m xs) (hb : Below w.heap.size w w') : w'.ownsRow B e size u m xs := by
  refine ⟨ho.1, ?_⟩
  rcases ho.2 with h0 | ⟨g, cap, cur, h1, h2, h3, h4⟩
  · exact .inl h0
  · exact .inr ⟨g, cap, cur, h1, h2, (hb.block g (Array.getElem?_eq_some_iff.1 h3).1).trans h3, h4⟩
theorem own_low {w : World} {B B' : Nat} {e : TypeId} {size : Nat} {u : Value} {m : Nat} {xs : List Value} (ho : w.ownsRow B e size u m xs) (hB : B' ≤ B) : w.ownsRow B' e size u m xs := by
  refine ⟨ho.1, ?_⟩
  rcases ho.2 with h0 | ⟨g, cap, cur, h1, h2, h3, h4⟩
  · exact .inl h0
  · exact .inr ⟨g, cap, cur, h1, by omega, h3, h4⟩
/-- one attribute more behind a row -/
theorem append_att {w : World} {B : Nat} {v : Value} {L : AL} {n u : List UInt8} (h : w.ownsRow B 30 2 v L.length (rowA L)) (hm : L.length ≤ 1000000000) (hB : B ≤ w.heap.size) :
    ∃ v' w', (Builtin.append_ #[25, 25] 25 #[v, .slice (some ⟨w.heap.size, 0, none⟩) 1 1]).run Tryd.prog (w.alloc (.cells #[.string (tx n), .string (tx u)] 30)) = .ok v' w' ∧
      w'.ownsRow B 30 2 v' (L.length + 1) (rowA (L ++ [(n, u)])) ∧ Below B w w' := by
  obtain ⟨i0, hii, hz0, hz1, hz2⟩ := info_split infoA
  have hA := own_keep h (bl1 w (.cells #[.string (tx n), .string (tx u)] 30))
  obtain ⟨v', w1, hr, hown, hgrow, _, hblk⟩ := run_append_own_at (P := Tryd.prog) (w.alloc (.cells #[.string (tx n), .string (tx u)] 30)) B 25 25 30 i0 _ 2 32 Tryd.underlying25 hii hz0 hz1 hz2 rfl (by decide) v L.length (rowA L) hA ⟨w.heap.size, 0, none⟩ 1 1 [.string (tx n), .string (tx u)] rfl
    (fun j x hx => by
      have e9 := World.alloc_heap_new w (.cells #[.string (tx n), .string (tx u)] 30)
      have hj : j = 0 ∨ j = 1 := by have := (List.getElem?_eq_some_iff.1 hx).1; simp at this; omega
      rw [add_cell]
      rcases hj with rfl | rfl
      · simp at hx
        subst hx
        simp only [World.cell?, Nat.add_zero, e9]
        rfl
      · simp at hx
        subst hx
        simp only [World.cell?, Nat.zero_add, e9]
        rfl) (by simp [Value.oneCell']) (by unfold maxLen; omega) (by omega) (Nat.le_trans hB (bl1 w _).size)
  refine ⟨v', w1, hr, by rw [rowA_app]; exact hown, ?_⟩
  have hb0 : Below B w (w.alloc (.cells #[.string (tx n), .string (tx u)] 30)) := (Below.refl _ _).alloc hB _
  exact hb0.grown hgrow (Nat.le_trans hB (bl1 w _).size) (fun j hj => (hA.lt j hj).1)
end Go.Proofs.YtdniddiaiinggaaDoor
