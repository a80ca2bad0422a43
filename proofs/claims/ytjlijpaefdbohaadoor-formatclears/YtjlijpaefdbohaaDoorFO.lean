/- putIn. -/
import Derived.Test.YtjlijpaefdbohaaDoorFN
set_option linter.unusedVariables false
set_option linter.unusedSimpArgs false
namespace Go.Proofs.YtjlijpaefdbohaaDoor
open Go.RowKit

open Classical in
theorem cnt_split (A B : List It) (x : It) (z : Ky) : cnt (A ++ x :: B) z = cnt (A ++ B) z + (if (!x.mr && decide (x.ky = z)) = true then 1 else 0) := by
  unfold cnt
  rw [List.countP_append, List.countP_append, List.countP_cons]
  split <;> omega
theorem cnt_le (L : List It) (z : Ky) : 0 ≤ cnt L z ∧ cnt L z ≤ L.length := by
  unfold cnt
  have := List.countP_le_length (p := fun x : It => !x.mr && @decide (x.ky = z) (Classical.propDecidable _)) (l := L)
  constructor
  · exact Int.natCast_nonneg _
  · exact Int.ofNat_le.2 this
theorem take_drop_ins (L : List It) (i : Nat) (x : It) (z : Ky) (hm : x.mr = true) : cnt (L.take i ++ x :: L.drop i) z = cnt L z := by
  rw [cnt_split, List.take_append_drop]; simp [hm]
open Classical in
theorem cnt_ins (L : List It) (i : Nat) (x : It) (hm : x.mr = false) : cnt (L.take i ++ x :: L.drop i) = fun z => if z = x.ky then cnt L x.ky + 1 else cnt L z := by
  funext z
  rw [cnt_split, List.take_append_drop]
  by_cases e : z = x.ky
  · subst e; simp [hm]
  · have e' : ¬ x.ky = z := fun h => e h.symm
    simp [hm, e, e']
theorem split_at (L : List It) (i : Nat) (x : It) (h : L[i]? = some x) : L = L.take i ++ x :: L.drop (i + 1) := by
  have hi := (List.getElem?_eq_some_iff.1 h).1
  have e := (List.getElem?_eq_some_iff.1 h).2
  have := List.take_append_drop i L
  rw [List.drop_eq_getElem_cons hi, e] at this
  exact this.symm
open Classical in
theorem cnt_del (L : List It) (i : Nat) (x : It) (h : L[i]? = some x) (hm : x.mr = false) : cnt (L.take i ++ L.drop (i + 1)) = fun z => if z = x.ky then cnt L x.ky + (-1) else cnt L z := by
  funext z
  have e0 := cnt_split (L.take i) (L.drop (i + 1)) x z
  have e1 := cnt_split (L.take i) (L.drop (i + 1)) x x.ky
  rw [← split_at L i x h] at e0 e1
  by_cases e : z = x.ky
  · subst e; simp [hm] at e1 ⊢; omega
  · have e' : ¬ x.ky = z := fun h => e h.symm
    simp [hm, e'] at e0; simp [e]; omega
theorem cnt_delm (L : List It) (i : Nat) (x : It) (h : L[i]? = some x) (hm : x.mr = true) : cnt (L.take i ++ L.drop (i + 1)) = cnt L := by
  funext z
  have e0 := cnt_split (L.take i) (L.drop (i + 1)) x z
  rw [← split_at L i x h] at e0
  simp [hm] at e0
  exact e0.symm

/-- the list behind a call that turns the map alone -/
theorem FL.turn {w w' : World} {B p mb c c' : Nat} {L : List It} {v : Value} {f : Ky → Int} (box : w.heap[p]? = some (.cells #[v, .map (some mb)] 65)) (row : w.ownsRow B 68 5 v L.length (rowT L)) (ats : ∀ x ∈ L, w.ownsRow B 53 2 x.av x.ats.length (rowA x.ats))
    (m0 : MapK w mb c f) (hk : KeepX w w' (fun k => k = mb)) (map : MapK w' mb c' (cnt L)) (few : L.length ≤ 1000) (cfew : c' ≤ 100000) (at' : B ≤ p ∧ B ≤ mb) (ok : ∀ x ∈ L, x.Ok) : FL w' B p L v mb c' := by
  obtain ⟨es, clock, hm⟩ := m0.isMap
  have hown : ∀ {e size n : Nat} {u : Value} {r : List Value}, w.ownsRow B e size u n r → w'.ownsRow B e size u n r := fun {e size n u r} h => own_keepX hk h (fun k hk1 hk2 => by
    rcases h.2 with ⟨rfl, _⟩ | ⟨g, cap, cur, rfl, _, hh, _⟩
    · cases hk1
    · obtain rfl : g = k := Option.some.inj hk1
      subst hk2
      rw [hm] at hh; cases hh)
  have hpm : p ≠ mb := fun e => by rw [e, hm] at box; cases box
  exact ⟨(hk.block p (Array.getElem?_eq_some_iff.1 box).1 hpm).trans box, hown row, fun x hx => hown (ats x hx), map, few, cfew, at', ok⟩

theorem five_at {w : World} {b : Nat} {t : TypeId} {u0 u1 u2 u3 u4 : Value} (h : w.heap[b]? = some (.cells #[u0, u1, u2, u3, u4] t)) :
    w.cell? ⟨b, 0, none⟩ = some u0 ∧ w.cell? ⟨b, 1, none⟩ = some u1 ∧ w.cell? ⟨b, 2, none⟩ = some u2 ∧ w.cell? ⟨b, 3, none⟩ = some u3 ∧ w.cell? ⟨b, 4, none⟩ = some u4 := by
  simp [World.cell?, h]

/-- the item's own row is put in: what comes of the memory -/
theorem put_mem {w V V2 w3 : World} {B p mb c i : Nat} {L : List It} {v v' : Value} {x : It} (h : FL w B p L v mb c) (hx : x.Ok) (hax : w.ownsRow B 53 2 x.av x.ats.length (rowA x.ats)) (hi : i ≤ L.length) (hV : Below w.heap.size w V) (hg : V.grownBy V2 v.ownBlock)
    (ho : V2.ownsRow B 68 5 v' (L.length + 1) ((rowT L).take (i * 5) ++ cellsT x ++ (rowT L).drop (i * 5))) (hb : v'.ownBlock = v.ownBlock ∨ v'.ownBlock = some V.heap.size) (e3 : V2.setCell ⟨p, 0, none⟩ v' = w3) :
    w3.heap[p]? = some (.cells #[v', .map (some mb)] 65) ∧ w3.ownsRow B 68 5 v' (L.take i ++ x :: L.drop i).length (rowT (L.take i ++ x :: L.drop i)) ∧ (∀ y ∈ L.take i ++ x :: L.drop i, w3.ownsRow B 53 2 y.av y.ats.length (rowA y.ats)) ∧ MapK w3 mb c (cnt L) ∧ KeepX w w3 (inF p mb v) ∧ (∀ y ∈ L.take i ++ x :: L.drop i, y.Ok) := by
  have hF := h.below hV (Nat.le_refl _)
  have hpV : p < V.heap.size := hF.lt p (.inl rfl)
  obtain ⟨es, clock, hm⟩ := hF.map.isMap
  have hpm : p ≠ mb := fun e => by have := hF.box; rw [e, hm] at this; cases this
  have hpv : v.ownBlock ≠ some p := fun e => by
    rcases hF.row.2 with ⟨rfl, _⟩ | ⟨g, cap, cur, rfl, _, hh, _⟩
    · cases e
    · obtain rfl : g = p := Option.some.inj e
      rw [hF.box] at hh; simp at hh
  have hmv : v.ownBlock ≠ some mb := fun e => by
    rcases hF.row.2 with ⟨rfl, _⟩ | ⟨g, cap, cur, rfl, _, hh, _⟩
    · cases e
    · obtain rfl : g = mb := Option.some.inj e
      rw [hm] at hh; cases hh
  have b2 : V2.heap[p]? = some (.cells #[v, .map (some mb)] 65) := (hg.block p hpV (fun e => hpv e.symm)).trans hF.box
  have k3 : KeepX V w3 (inF p mb v) := ⟨by rw [← e3]; exact hg.os, by rw [← e3]; exact hg.tape, by rw [← e3]; exact hg.output, by rw [← e3]; simp [World.setCell]; exact hg.size, fun k hk hn => by
    rw [← e3, Below.heap_setCell V2 ⟨p, 0, none⟩ v' k (fun e => hn (.inl e))]
    exact hg.block k hk (fun e => hn (.inr (.inr e.symm)))⟩
  have hxv := own_below hax hV (Nat.le_refl _)
  refine ⟨?_, ?_, ?_, ?_, ?_, ?_⟩
  · rw [← e3]; exact set_heap (i := 0) (v := v') b2
  · have el : (L.take i ++ x :: L.drop i).length = L.length + 1 := by simp; omega
    have er : rowT (L.take i ++ x :: L.drop i) = (rowT L).take (i * 5) ++ cellsT x ++ (rowT L).drop (i * 5) := by
      rw [rowT_app, rowT_take, show rowT (x :: L.drop i) = cellsT x ++ rowT (L.drop i) from rfl, rowT_drop, List.append_assoc]
    rw [el, er]
    refine ⟨ho.1, ?_⟩
    rcases ho.2 with h0 | ⟨g, cap, cur, rfl, q2, q3, q4⟩
    · exact .inl h0
    · refine .inr ⟨g, cap, cur, rfl, q2, ?_, q4⟩
      rw [← e3, Below.heap_setCell V2 ⟨p, 0, none⟩ _ g (fun e => ?_)]
      · exact q3
      · have e' : g = p := e
        rw [e', b2] at q3; simp at q3
  · intro y hy
    have hyV : V.ownsRow B 53 2 y.av y.ats.length (rowA y.ats) := by
      rcases List.mem_append.1 hy with hy | hy
      · exact hF.ats y (List.mem_of_mem_take hy)
      · rcases List.mem_cons.1 hy with rfl | hy
        · exact hxv
        · exact hF.ats y (List.mem_of_mem_drop hy)
    exact own_keepX k3 hyV (hF.atsOut hyV)
  · have hmbV : mb < V.heap.size := hF.lt mb (.inr (.inl rfl))
    refine hF.map.block ?_
    rw [← e3, Below.heap_setCell V2 ⟨p, 0, none⟩ v' mb (fun e => hpm e.symm)]
    exact hg.block mb hmbV (fun e => hmv e.symm)
  · exact (KeepX.of_below hV).trans k3 (fun _ _ h => h)
  · intro y hy
    rcases List.mem_append.1 hy with hy | hy
    · exact h.ok y (List.mem_of_mem_take hy)
    · rcases List.mem_cons.1 hy with rfl | hy
      · exact hx
      · exact h.ok y (List.mem_of_mem_drop hy)
end Go.Proofs.YtjlijpaefdbohaaDoor
