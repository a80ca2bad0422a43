/- IndexFunc; first. -/
import Derived.Test.YtjlijpaefdbohaaDoorFT
set_option linter.unusedVariables false
set_option linter.unusedSimpArgs false
namespace Go.Proofs.YtjlijpaefdbohaaDoor
open Go.RowKit

open Classical in
/-- where the first entry of a key stands, from j on -/
noncomputable def fsF (k : Ky) : List It → Int → Int
  | [], _ => -1
  | x :: r, j => if (!x.mr && decide (x.ky = k)) = true then j else fsF k r (j + 1)
open Classical in
theorem fsF_drop (k : Ky) (L : List It) (j : Nat) (x : It) (h : L[j]? = some x) (q : Int) : fsF k (L.drop j) q = if (!x.mr && decide (x.ky = k)) = true then q else fsF k (L.drop (j + 1)) (q + 1) := by
  have hj : j < L.length := (List.getElem?_eq_some_iff.1 h).1
  rw [List.drop_eq_getElem_cons hj]
  have e : L[j] = x := (List.getElem?_eq_some_iff.1 h).2
  rw [e]
  rfl

set_option maxRecDepth 20000 in
set_option maxHeartbeats 1000000 in
theorem index_any (L : List It) (B p mb c kb : Nat) (v : Value) (w : World) (k : Ky) (h : FL w B p L v mb c) (hk : k.Ok) (hkb : w.heap[kb]? = some (.cells (kC k).toArray 77 (0, 0))) (P : Int) (hP : Fact (fsF k L 0 = P)) :
    Calls Tryd.prog 49 #[v, .func (.func 50) #[] #[.pointer (some ⟨kb, 0, none⟩)]] w fun e w' => e = .returned (.int .i64 P) ∧ Below w.heap.size w w' := by
  have HF := Fact.mk h
  obtain ⟨a, cap, ev, hc1, hc2⟩ := own_val h.row
  obtain ⟨al, hal⟩ : ∃ al, L.length = al := ⟨_, rfl⟩
  rw [hal] at ev hc1
  subst ev
  unfold maxLen at hc2
  have hf := h.few
  rw [hal] at hf
  have HA := Fact.mk hal
  have HK := Fact.mk hk
  have HKB := Fact.mk hkb
  clear h hal hk hkb
  go_enter Tryd.func49, Tryd.ntmps49
  go_wp2_with fail
  go_loopw [8] (fun i wx => ∃ j : Nat, j ≤ al ∧ i = .int .i64 j ∧ Fact (fsF k (L.drop j) j = P) ∧ Fact (Below w.heap.size w wx)) (fun i _ => al - (intOf i).toNat)
  case atStart => exact ⟨0, Nat.zero_le _, rfl, ⟨hP.out⟩, ⟨Below.refl _ _⟩⟩
  case round =>
    rename World => wx
    obtain ⟨j, hj, rfl, hI, hb⟩ := hrel
    by_cases hlt : j < al
    · obtain ⟨x, hx⟩ : ∃ x, L[j]? = some x := ⟨_, List.getElem?_eq_getElem (by rw [HA.out]; exact hlt)⟩
      have hd := fsF_drop k L j x hx j
      rw [hI.out] at hd
      have hw := HF.out.below hb.out (Nat.le_refl _)
      obtain ⟨g, cap', e, q1, q2, q3, q4, hat, _⟩ := own_get hw.row (by rw [HA.out]; omega)
      rw [HA.out] at e
      cases e
      have hr := hw.row
      rw [HA.out] at hr
      obtain ⟨y0, y1, y2, y3, y4⟩ := five_cells wx L B g al cap j x hr hx
      have hmem := List.mem_of_getElem? hx
      obtain ⟨ka, kc, ek, _⟩ := own_val (hw.ats x hmem)
      obtain ⟨b, hbb⟩ : ∃ b, (!x.mr && @decide (x.ky = k) (Classical.propDecidable _)) = b := ⟨_, rfl⟩
      have HPR := Fact.mk (pred_any x k kb wx (hw.ok x hmem) HK.out (hw.on hmem) ((hb.out.block kb (Array.getElem?_eq_some_iff.1 HKB.out).1).trans HKB.out) b hbb)
      rw [hbb] at hd
      obtain ⟨id', nm, ats, mr, ms, av⟩ := x
      dsimp only at y0 y1 y2 y3 y4 hd ek HPR
      subst ek
      have HD := Fact.mk hd
      clear hat hr hw q3 q4 hd hx hI hP hmem hbb
      generalize ats.length = an at *
      cases b with
      | true =>
        go_wp2_with (go_at_call 50; refine HPR.out.mono ?_; rintro e w1 ⟨rfl, hb1⟩; have HB1 := Fact.mk (hb.out.trans (hb1.mono hb.out.size)); clear hb1 HPR)
        go_ret
        exact ⟨ret_int (by have := HD.out; simp at this; exact this.symm), HB1.out⟩
      | false =>
        go_wp2_with (go_at_call 50; refine HPR.out.mono ?_; rintro e w1 ⟨rfl, hb1⟩; have HB1 := Fact.mk (hb.out.trans (hb1.mono hb.out.size)); clear hb1 HPR)
        go_roundw
        case rel => exact ⟨j + 1, by omega, by go_num, ⟨by have := HD.out; simp at this; rw [this]; rfl⟩, HB1⟩
        case measure => simp [intOf]; omega
    · have hjl : j = al := by omega
      subst hjl
      have hz := hI.out
      rw [List.drop_eq_nil_of_le (by rw [HA.out]; exact Nat.le_refl _)] at hz
      have HZ := Fact.mk hz
      clear hz hI hP
      go_wp2_with fail
      go_ret
      exact ⟨ret_int (by rw [← HZ.out]; rfl), hb.out⟩

set_option maxRecDepth 20000 in
set_option maxHeartbeats 1000000 in
theorem first_any (L : List It) (B p mb c : Nat) (v : Value) (w : World) (k : Ky) (h : FL w B p L v mb c) (hk : k.Ok) (P : Int) (hP : Fact (fsF k L 0 = P)) :
    Calls Tryd.prog 42 #[.pointer (some ⟨p, 0, none⟩), .agg (kC k).toArray] w fun e w' => e = .returned (.int .i64 P) ∧ Below w.heap.size w w' := by
  obtain ⟨W, hW⟩ : ∃ W, w.alloc (.cells (kC k).toArray 77) = W := ⟨_, rfl⟩
  have hbW : Below w.heap.size w W := by rw [← hW]; exact (Below.refl _ _).alloc (Nat.le_refl _) _
  have hF := h.below hbW (Nat.le_refl _)
  have hc : (w.alloc (.cells (kC k).toArray 77)).cell? ⟨p, 0, none⟩ = some v := by rw [hW]; simp [World.cell?, hF.box]
  obtain ⟨a, cap, ev, _⟩ := own_val h.row
  have HI := Fact.mk (index_any L B p mb c w.heap.size v W k hF hk (by rw [← hW]; exact heap_alloc_new w _) P hP)
  have HW := Fact.mk hW
  have HBW := Fact.mk hbW
  have h28 := kC_len k hk
  subst ev
  generalize L.length = n at *
  clear h hF hW hbW hk hP
  go_enter Tryd.func42, Tryd.ntmps42
  go_wp2_with (first
    | (go_at_call 49; rw [HW.out]; refine HI.out.mono ?_; rintro e w1 ⟨rfl, hb⟩; have HB := Fact.mk hb; clear hb))
  go_ret
  exact ⟨rfl, HBW.out.trans (HB.out.mono HBW.out.size)⟩
end Go.Proofs.YtjlijpaefdbohaaDoor
