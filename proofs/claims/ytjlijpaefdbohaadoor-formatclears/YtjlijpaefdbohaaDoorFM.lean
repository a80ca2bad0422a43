/- Place; At. -/
import Derived.Test.YtjlijpaefdbohaaDoorFK
set_option linter.unusedVariables false
namespace Go.Proofs.YtjlijpaefdbohaaDoor
open Go.RowKit

/-- where the first entry of a number stands, from j on -/
def plF (id : Int) : List It → Int → Int
  | [], _ => -1
  | x :: r, j => if (!x.mr && (x.id == id)) = true then j else plF id r (j + 1)
def plc (L : List It) (id : Int) : Int := plF id L 0
theorem plF_drop (id : Int) (L : List It) (j : Nat) (x : It) (h : L[j]? = some x) (q : Int) : plF id (L.drop j) q = if (!x.mr && (x.id == id)) = true then q else plF id (L.drop (j + 1)) (q + 1) := by
  have hj : j < L.length := (List.getElem?_eq_some_iff.1 h).1
  rw [List.drop_eq_getElem_cons hj]
  have e : L[j] = x := (List.getElem?_eq_some_iff.1 h).2
  rw [e]
  rfl

theorem five_cells (w : World) (L : List It) (B g n cap : Nat) (i : Nat) (x : It) (h : w.ownsRow B 68 5 (.slice (some ⟨g, 0, none⟩) n cap) n (rowT L)) (hi : L[i]? = some x) :
    w.cell? ⟨g, i * 5, none⟩ = some (.int .i64 x.id) ∧ w.cell? ⟨g, i * 5 + 1, none⟩ = some (.string x.nm) ∧ w.cell? ⟨g, i * 5 + 2, none⟩ = some x.av ∧ w.cell? ⟨g, i * 5 + 3, none⟩ = some (.bool x.mr) ∧ w.cell? ⟨g, i * 5 + 4, none⟩ = some (.int .i64 x.ms) := by
  have hat : ∀ j u, (rowT L)[j]? = some u → w.cell? ⟨g, j, none⟩ = some u := fun j u hu => by
    have := h.cells (g := g) rfl j u hu
    rw [add_cell, Nat.zero_add] at this
    exact this
  have y0 := hat _ _ (rowT_get L i x hi 0 _ rfl)
  rw [Nat.add_zero] at y0
  exact ⟨y0, hat _ _ (rowT_get L i x hi 1 _ rfl), hat _ _ (rowT_get L i x hi 2 _ rfl), hat _ _ (rowT_get L i x hi 3 _ rfl), hat _ _ (rowT_get L i x hi 4 _ rfl)⟩
theorem five_new {w W : World} {t : TypeId} {u0 u1 u2 u3 u4 : Value} (hW : w.alloc (.cells #[u0, u1, u2, u3, u4] t) = W) :
    Below w.heap.size w W ∧ W.cell? ⟨w.heap.size, 0, none⟩ = some u0 ∧ W.cell? ⟨w.heap.size, 1, none⟩ = some u1 ∧ W.cell? ⟨w.heap.size, 2, none⟩ = some u2 ∧ W.cell? ⟨w.heap.size, 3, none⟩ = some u3 ∧ W.cell? ⟨w.heap.size, 4, none⟩ = some u4 := by
  subst hW
  have e := heap_alloc_new w (.cells #[u0, u1, u2, u3, u4] t)
  refine ⟨(Below.refl _ _).alloc (Nat.le_refl _) _, ?_⟩
  simp only [World.cell?, e]
  simp

set_option maxRecDepth 20000 in
set_option maxHeartbeats 1000000 in
theorem place_any (L : List It) (B p mb c : Nat) (v : Value) (w : World) (id : Int) (h : FL w B p L v mb c) (P : Int) (hP : Fact (plc L id = P)) :
    Calls Tryd.prog 27 #[.pointer (some ⟨p, 0, none⟩), .int .i64 id] w fun e w' => e = .returned (.int .i64 P) ∧ Below w.heap.size w w' := by
  have hc : w.cell? ⟨p, 0, none⟩ = some v := by simp [World.cell?, h.box]
  have HF := Fact.mk h
  obtain ⟨a, cap, ev, hc1, hc2⟩ := own_val h.row
  obtain ⟨al, hal⟩ : ∃ al, L.length = al := ⟨_, rfl⟩
  rw [hal] at ev hc1
  subst ev
  unfold maxLen at hc2
  have hf := h.few
  rw [hal] at hf
  have HA := Fact.mk hal
  clear h hal
  go_enter Tryd.func27, Tryd.ntmps27
  go_wp2_with fail
  go_loopw [12] (fun i wx => ∃ j : Nat, j ≤ al ∧ i = .int .i64 j ∧ Fact (plF id (L.drop j) j = P) ∧ Fact (Below w.heap.size w wx)) (fun i _ => al - (intOf i).toNat)
  case atStart => exact ⟨0, Nat.zero_le _, rfl, ⟨hP.out⟩, ⟨Below.refl _ _⟩⟩
  case round =>
    rename World => wx
    obtain ⟨j, hj, rfl, hI, hb⟩ := hrel
    by_cases hlt : j < al
    · obtain ⟨x, hx⟩ : ∃ x, L[j]? = some x := ⟨_, List.getElem?_eq_getElem (by rw [HA.out]; exact hlt)⟩
      have hd := plF_drop id L j x hx j
      rw [hI.out] at hd
      have hw := HF.out.below hb.out (Nat.le_refl _)
      obtain ⟨g, cap', e, q1, q2, q3, q4, hat, _⟩ := own_get hw.row (by rw [HA.out]; omega)
      rw [HA.out] at e
      cases e
      have hr := hw.row
      rw [HA.out] at hr
      obtain ⟨y0, y1, y2, y3, y4⟩ := five_cells wx L B g al cap j x hr hx
      obtain ⟨ka, kc, ek, _⟩ := own_val (hw.ats x (List.mem_of_getElem? hx))
      obtain ⟨id', nm, ats, mr, ms, av⟩ := x
      dsimp only at y0 y1 y2 y3 y4 hd ek
      subst ek
      obtain ⟨W, hW⟩ : ∃ W, wx.alloc (.cells #[.int .i64 id', .string nm, .slice ka ats.length kc, .bool mr, .int .i64 ms] 68) = W := ⟨_, rfl⟩
      obtain ⟨hbW, z0, z1, z2, z3, z4⟩ := five_new hW
      have HBW := Fact.mk (hb.out.trans (hbW.mono hb.out.size))
      have HW := Fact.mk hW
      have HD := Fact.mk hd
      clear hat hr hw q3 q4 hW hd hx hI hP hbW
      generalize ats.length = an at *
      cases mr with
      | true =>
        go_wp2_with fail
        go_roundw
        case rel => exact ⟨j + 1, by omega, by go_num, ⟨by have := HD.out; simp at this; rw [this]; rfl⟩, ⟨by rw [HW.out]; exact HBW.out⟩⟩
        case measure => simp [intOf]; omega
      | false =>
        by_cases ht : id' = id
        · subst ht
          go_wp2_with fail
          go_ret
          refine ⟨ret_int ?_, by rw [HW.out]; exact HBW.out⟩
          have := HD.out
          simp at this
          exact this.symm
        · have ht' : (id' == id) = false := by simpa using ht
          go_wp2_with fail
          go_roundw
          case rel => exact ⟨j + 1, by omega, by go_num, ⟨by have := HD.out; simp [ht] at this; rw [this]; rfl⟩, ⟨by rw [HW.out]; exact HBW.out⟩⟩
          case measure => simp [intOf]; omega
    · have hjl : j = al := by omega
      subst hjl
      have hz := hI.out
      rw [List.drop_eq_nil_of_le (by rw [HA.out]; exact Nat.le_refl _)] at hz
      have HZ := Fact.mk hz
      clear hz hI hP
      go_wp2_with fail
      go_ret
      exact ⟨ret_int (by rw [← HZ.out]; rfl), hb.out⟩

theorem results_en {fn : Func} (c q : Nat) (hf : fn.results = #[.cell c 36, .tmp q]) {tm : Array Value} {w : World} {b : Nat} {v0 v1 v2 y : Value} (h6 : tm.getD c undef = .pointer (some ⟨b, 0, none⟩)) (h8 : tm.getD q undef = y)
    (c0 : w.cell? ⟨b, 0, none⟩ = some v0) (c1 : w.cell? ⟨b, 1, none⟩ = some v1) (c2 : w.cell? ⟨b, 2, none⟩ = some v2) :
    (results fn tm).run Tryd.prog w = .ok (.tuple #[.agg #[v0, v1, v2], y]) w := by
  simp only [Array.getD_eq_getD_getElem?] at h6 h8
  simp [results, hf, go_sem, h6, h8, c0, c1, c2]
theorem three_set {w w1 : World} {n B : Nat} {u0 u1 u2 v0 v1 v2 : Value} {t : TypeId} (hB : n ≤ B) (h : w.heap[B]? = some (.cells #[u0, u1, u2] t))
    (e : ((w.setCell ⟨B, 0, none⟩ v0).setCell ⟨B, 1, none⟩ v1).setCell ⟨B, 2, none⟩ v2 = w1) :
    (w1.cell? ⟨B, 0, none⟩ = some v0 ∧ w1.cell? ⟨B, 1, none⟩ = some v1 ∧ w1.cell? ⟨B, 2, none⟩ = some v2) ∧ Below n w w1 ∧ (∀ k, k ≠ B → w1.heap[k]? = w.heap[k]?) := by
  have h1 := set_heap (i := 2) (v := v2) (set_heap (i := 1) (v := v1) (set_heap (i := 0) (v := v0) h))
  rw [e] at h1
  refine ⟨?_, ?_, fun k k1 => ?_⟩
  · simp only [World.cell?, h1]; simp
  · rw [← e]
    exact (((Below.refl n w).setCell (p := ⟨B, 0, none⟩) hB _).setCell (p := ⟨B, 1, none⟩) hB _).setCell (p := ⟨B, 2, none⟩) hB _
  · rw [← e, Below.heap_setCell _ _ _ _ k1, Below.heap_setCell _ _ _ _ k1, Below.heap_setCell _ _ _ _ k1]

set_option maxRecDepth 20000 in
set_option maxHeartbeats 1000000 in
theorem at_any (L : List It) (B p mb c : Nat) (v : Value) (w : World) (i : Nat) (x : It) (h : FL w B p L v mb c) (hi : L[i]? = some x) :
    Calls Tryd.prog 31 #[.pointer (some ⟨p, 0, none⟩), .int .i64 i] w fun e w' => ∃ av', e = .returned (.tuple #[enV x.id x.nm av', .bool true]) ∧ w'.ownsRow w.heap.size 53 2 av' x.ats.length (rowA x.ats) ∧ Below w.heap.size w w' := by
  obtain ⟨W, hW⟩ : ∃ W, w.alloc (.cells #[.int .i64 0, .string ⟨#[]⟩, .slice none 0 0] 36) = W := ⟨_, rfl⟩
  have hbW : Below w.heap.size w W := by rw [← hW]; exact (Below.refl _ _).alloc (Nat.le_refl _) _
  have hzW : W.heap.size = w.heap.size + 1 := by rw [← hW]; simp
  have c0 : W.heap[w.heap.size]? = some (.cells #[.int .i64 0, .string ⟨#[]⟩, .slice none 0 0] 36) := by rw [← hW]; exact heap_alloc_new w _
  have hF := h.below hbW (Nat.le_refl _)
  have hL : i < L.length := (List.getElem?_eq_some_iff.1 hi).1
  have hc : W.cell? ⟨p, 0, none⟩ = some v := by simp [World.cell?, hF.box]
  obtain ⟨g, cap, ev, q1, q2, q3, q4, hat, _⟩ := own_get hF.row (by omega)
  have hr := hF.row
  have HON := Fact.mk (hF.on (List.mem_of_getElem? hi))
  have HF := Fact.mk hF
  have HEV := Fact.mk ev
  rw [ev] at hr hc
  obtain ⟨y0, y1, y2, y3, y4⟩ := five_cells W L B g L.length cap i x hr hi
  obtain ⟨ka, kc, ek, _⟩ := own_val (hF.ats x (List.mem_of_getElem? hi))
  have hka : x.ats.length ≤ 12 := (h.ok x (List.mem_of_getElem? hi)).ky.ats
  have hf := h.few
  obtain ⟨al, hal⟩ : ∃ al, L.length = al := ⟨_, rfl⟩
  have HA := Fact.mk hal
  rw [hal] at hc hL hf
  unfold maxLen at q2
  obtain ⟨id', nm, ats, mr, ms, av⟩ := x
  dsimp only at y0 y1 y2 y3 y4 ek HON hka ⊢
  subst ek
  have C0 := Fact.mk c0
  have HZ := Fact.mk hzW
  have HBW := Fact.mk hbW
  have HW := Fact.mk hW
  have hlt : decide ((i : Int) < 0) = false := by simp
  have hge : decide ((al : Int) ≤ (i : Int)) = false := by simp; omega
  clear h hat hr hF q3 q4 hi ev hal hbW hzW c0 hW q1 y3 y4
  obtain ⟨an, han⟩ : ∃ an, ats.length = an := ⟨_, rfl⟩
  have HAN := Fact.mk han
  rw [han] at y2 hka
  clear han
  go_enter Tryd.func31, Tryd.ntmps31
  go_wp2_with (first
    | (go_at_call 29; rw [HW.out]; refine (len_any L B p mb c v _ HF.out).mono ?_; rintro e w1 ⟨rfl, h⟩; have h' := h.symm; subst h'; rw [HA.out])
    | (go_at_call 37; have HON2 := HON.out; rw [HAN.out] at HON2; refine (copied_any id' nm ats _ _ (by rw [HAN.out]; exact HON2) (by rw [HAN.out]; omega)).mono ?_; rintro e w2 ⟨av', rfl, ho, hb2⟩; obtain ⟨va, vc, ev, _⟩ := own_val ho; rw [HAN.out] at ev; subst ev; have d0 : w2.heap[w.heap.size]? = some (.cells #[.int .i64 0, .string ⟨#[]⟩, .slice none 0 0] 36) := (hb2.block _ (by have := HZ.out; omega)).trans C0.out; obtain ⟨s0, s1, s2, sf⟩ := three_at d0; have f0 := sf 0; have f1 := sf 1; have f2 := sf 2; have D0 := Fact.mk d0; have HO := Fact.mk ho; have HB2 := Fact.mk hb2; clear d0 ho hb2 sf HON2))
  obtain ⟨w3, hw3⟩ : ∃ w3, ((w2.setCell ⟨w.heap.size, 0, none⟩ (.int .i64 id')).setCell ⟨w.heap.size, 1, none⟩ (.string nm)).setCell ⟨w.heap.size, 2, none⟩ (.slice va an vc) = w3 := ⟨_, rfl⟩
  obtain ⟨⟨t0, t1, t2⟩, hb3, hk3⟩ := three_set (n := w.heap.size) (Nat.le_refl _) D0.out hw3
  rw [hw3]
  refine bodyPost_ret (results_en 4 5 rfl rfl rfl t0 t1 t2) rfl ?_
  refine ⟨_, rfl, ?_, HBW.out.trans ((HB2.out.mono (by have := HZ.out; omega)).trans hb3)⟩
  have ho := HO.out
  refine ⟨ho.1, ?_⟩
  rcases ho.2 with h0 | ⟨g', cp, cur, e1, e2, e3, e4⟩
  · exact .inl (by rw [HAN.out] at h0 ⊢; exact h0)
  · exact .inr ⟨g', cp, cur, by rw [HAN.out] at e1 ⊢; exact e1, by have := HZ.out; omega, (hk3 g' (by have := HZ.out; omega)).trans e3, e4⟩
end Go.Proofs.YtjlijpaefdbohaaDoor
