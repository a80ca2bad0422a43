/- Last. -/
import Derived.Test.YtjlijpaefdbohaaDoorFW
set_option linter.unusedVariables false
set_option linter.unusedSimpArgs false
namespace Go.Proofs.YtjlijpaefdbohaaDoor
open Go.RowKit Go.Shelf
attribute [local go_sem] Oper.semAt_some

/-- the last entry of a name among the first j, behind the last marker -/
def laF (L : List It) (x : ByteArray) : Nat → Option It
  | 0 => none
  | j + 1 => if (tI L j).mr = true then none else if ((tI L j).nm.toList == x.toList) = true then some (tI L j) else laF L x j
/-- what Last tells -/
def LaR (R : Option It) (id : Int) (nm : ByteArray) (ok : Bool) : Prop := (R = none ∧ id = 0 ∧ nm = ⟨#[]⟩ ∧ ok = false) ∨ ∃ y, R = some y ∧ id = y.id ∧ nm = y.nm ∧ ok = true
theorem results_la {fn : Func} (c q : Nat) (hf : fn.results = #[.cell c 36, .cell q 4]) {tm : Array Value} {w : World} {b b2 : Nat} {v0 v1 v2 : Value} {y : Bool} (h6 : tm.getD c undef = .pointer (some ⟨b, 0, none⟩)) (h8 : tm.getD q undef = .pointer (some ⟨b2, 0, none⟩))
    (c0 : w.heap[b]? = some (.cells #[v0, v1, v2] 36)) (c1 : w.heap[b2]? = some (.cells #[.bool y] 4)) :
    (results fn tm).run Tryd.prog w = .ok (.tuple #[.agg #[v0, v1, v2], .bool y]) w := by
  obtain ⟨q0, q1, q2, _⟩ := three_at c0
  have q3 : w.cell? ⟨b2, 0, none⟩ = some (.bool y) := by simp [World.cell?, c1]
  simp only [Array.getD_eq_getD_getElem?] at h6 h8
  simp [results, hf, go_sem, h6, h8, q0, q1, q2, q3]
theorem one_at {w : World} {b : Nat} {t : TypeId} {u : Value} (h : w.heap[b]? = some (.cells #[u] t)) : w.cell? ⟨b, 0, none⟩ = some u ∧ w.frozen? ⟨b, 0, none⟩ = false := by simp [World.cell?, World.frozen?, h]

set_option maxRecDepth 100000 in
set_option maxHeartbeats 4000000 in
theorem last_any (L : List It) (B p mb c : Nat) (v : Value) (w : World) (x : ByteArray) (h : FL w B p L v mb c) (R : Option It) (hR : Fact (laF L x L.length = R)) :
    Calls Tryd.prog 15 #[.pointer (some ⟨p, 0, none⟩), .string x] w fun e w' => ∃ id nm a n k ok, e = .returned (.tuple #[enV id nm (.slice a n k), .bool ok]) ∧ LaR R id nm ok ∧ Below w.heap.size w w' := by
  refine (callsIn_wide (n := 4)).1 ?_
  obtain ⟨a, cp, ev, _⟩ := own_val h.row
  subst ev
  have HF := Fact.mk h
  have hl1 := h.few
  have hTS := h.ts
  have HP := Fact.mk (h.lt p (.inl rfl))
  have HBX := Fact.mk h.box
  clear h
  refine callsIn_of_wp_marks Tryd.func15 rfl trivial ?_ rfl
  simp only [Tryd.ntmps15, List.size_toArray, List.length_cons, List.length_nil, Nat.reduceAdd, Nat.reduceSub, Array.replicate_succ, Array.replicate_zero, List.push_toArray, List.append_toArray, List.nil_append, List.cons_append]
  have hp : (((w.alloc (.cells #[.string x] 9)).alloc (.cells #[.int .i64 0, .string ⟨#[]⟩, .slice none 0 0] 36)).alloc (.cells #[.bool false] 4)).cell? ⟨p, 0, none⟩ = some (.slice a L.length cp) := by
    have e : (((w.alloc (.cells #[.string x] 9)).alloc (.cells #[.int .i64 0, .string ⟨#[]⟩, .slice none 0 0] 36)).alloc (.cells #[.bool false] 4)).heap[p]? = some (.cells #[.slice a L.length cp, .map (some mb)] 65) := by
      have := HP.out
      rw [Below.heap_alloc _ _ _ (by simp only [World.size_alloc]; omega), Below.heap_alloc _ _ _ (by simp only [World.size_alloc]; omega), Below.heap_alloc _ _ _ (by omega)]; exact HBX.out
    simp [World.cell?, e]
  gi_wp2_with (refine ⟨trivial, ?_⟩; gi_at_call 36; refine (backward_in Fence.wide _ trivial rfl _ _ _ _).mono ?_; rintro e w' ⟨rfl, rfl⟩)
  obtain ⟨W0, hW0⟩ : ∃ W0, (((w.alloc (.cells #[.string x] 9)).alloc (.cells #[.int .i64 0, .string ⟨#[]⟩, .slice none 0 0] 36)).alloc (.cells #[.bool false] 4)).alloc (.cells #[.slice a L.length cp] 63) = W0 := ⟨_, rfl⟩
  have hz : W0.heap.size = w.heap.size + 4 := by rw [← hW0]; simp
  have hB0 : Below w.heap.size w W0 := by rw [← hW0]; exact ((((Below.refl _ w).alloc (Nat.le_refl _) _).alloc (by simp) _).alloc (by simp only [World.size_alloc]; omega) _).alloc (by simp only [World.size_alloc]; omega) _
  have b0 : W0.heap[w.heap.size]? = some (.cells #[.string x] 9) := by
    rw [← hW0, Below.heap_alloc _ _ _ (by simp only [World.size_alloc]; omega), Below.heap_alloc _ _ _ (by simp only [World.size_alloc]; omega), Below.heap_alloc _ _ _ (by simp)]; exact heap_alloc_new w _
  have b1 : W0.heap[w.heap.size + 1]? = some (.cells #[.int .i64 0, .string ⟨#[]⟩, .slice none 0 0] 36) := by
    rw [← hW0, Below.heap_alloc _ _ _ (by simp only [World.size_alloc]; omega), Below.heap_alloc _ _ _ (by simp)]
    have := heap_alloc_new (w.alloc (.cells #[.string x] 9)) (.cells #[.int .i64 0, .string ⟨#[]⟩, .slice none 0 0] 36)
    rw [World.size_alloc] at this; exact this
  have b2 : W0.heap[w.heap.size + 1 + 1]? = some (.cells #[.bool false] 4) := by
    rw [← hW0, Below.heap_alloc _ _ _ (by simp)]
    have := heap_alloc_new ((w.alloc (.cells #[.string x] 9)).alloc (.cells #[.int .i64 0, .string ⟨#[]⟩, .slice none 0 0] 36)) (.cells #[.bool false] 4)
    rw [World.size_alloc, World.size_alloc] at this; exact this
  have b3 : W0.cell? ⟨w.heap.size + 1 + 1 + 1, 0, none⟩ = some (.slice a L.length cp) := by
    have e : W0.heap[w.heap.size + 1 + 1 + 1]? = some (.cells #[.slice a L.length cp] 63) := by
      rw [← hW0]
      have := heap_alloc_new (((w.alloc (.cells #[.string x] 9)).alloc (.cells #[.int .i64 0, .string ⟨#[]⟩, .slice none 0 0] 36)).alloc (.cells #[.bool false] 4)) (.cells #[.slice a L.length cp] 63)
      rw [World.size_alloc, World.size_alloc, World.size_alloc] at this; exact this
    simp [World.cell?, e]
  rw [hW0]
  clear hW0 hp
  have hgv := back_gives Fence.wide (4 - 1) trivial rfl (by omega) w.heap.size (w.heap.size + 1 + 1 + 1) _ L (fun k => k < w.heap.size + 4 ∧ k ≠ w.heap.size + 1 ∧ k ≠ w.heap.size + 1 + 1) W0 (hTS.below hB0 (Nat.le_refl _)) (by omega) (fun k hk => ⟨by omega, by omega, by omega⟩) (by omega) ⟨by omega, by omega, by omega⟩ b3 hl1
  obtain ⟨al, hal⟩ : ∃ al, L.length = al := ⟨_, rfl⟩
  have HAL := Fact.mk hal
  rw [hal] at hgv hR hl1 ⊢
  refine wpIn_range rfl (by omega) (gf := 47) (lb := #[.pointer (some ⟨w.heap.size + 1 + 1 + 1, 0, none⟩)]) rfl trivial (enters_of Tryd.func47 (by kernel_rfl) rfl) hgv (fun k hk => by omega) (Below.refl _ _) (fun _ => rfl)
    (fun pre W => (W.heap[w.heap.size]? = some (.cells #[.string x] 9) ∧ W.heap[w.heap.size + 1]? = some (.cells #[.int .i64 0, .string ⟨#[]⟩, .slice none 0 0] 36) ∧ W.heap[w.heap.size + 1 + 1]? = some (.cells #[.bool false] 4)) ∧ Below w.heap.size w W ∧ Fact (∃ j, al = pre.length + j ∧ laF L x j = R))
    (fun c pre W => ((c = .exit 0 ∧ R = none ∧ W.heap[w.heap.size + 1]? = some (.cells #[.int .i64 0, .string ⟨#[]⟩, .slice none 0 0] 36) ∧ W.heap[w.heap.size + 1 + 1]? = some (.cells #[.bool false] 4)) ∨ (c = .ret ∧ ∃ y a n k, R = some y ∧ W.heap[w.heap.size + 1]? = some (.cells #[.int .i64 y.id, .string y.nm, .slice a n k] 36) ∧ W.heap[w.heap.size + 1 + 1]? = some (.cells #[.bool true] 4))) ∧ Below w.heap.size w W)
    (fun s A A' hs hb => ⟨⟨(hb.block _ (by omega)).trans hs.1.1, (hb.block _ (by omega)).trans hs.1.2.1, (hb.block _ (by omega)).trans hs.1.2.2⟩, hs.2.1.trans (hb.mono (by omega)), hs.2.2⟩)
    (fun c s A A' hs hb => ⟨hs.1.imp (fun q => ⟨q.1, q.2.1, (hb.block _ (by omega)).trans q.2.2.1, (hb.block _ (by omega)).trans q.2.2.2⟩) (fun ⟨q1, y, a, n, k, q2, q3, q4⟩ => ⟨q1, y, a, n, k, q2, (hb.block _ (by omega)).trans q3, (hb.block _ (by omega)).trans q4⟩), hs.2.trans (hb.mono (by omega))⟩)
    ⟨⟨b0, b1, b2⟩, hB0, ⟨al, by simp, hR.out⟩⟩
    (fun y a' W => ∃ b, w.heap.size + 4 + 1 < b ∧ a' = { tmps := #[.pointer (some ⟨p, 0, none⟩), .string x, undef, .pointer (some ⟨w.heap.size, 0, none⟩), .pointer (some ⟨w.heap.size + 1, 0, none⟩), .pointer (some ⟨w.heap.size + 1 + 1, 0, none⟩), undef, .pointer (some ⟨b, 0, none⟩), .pointer (some ⟨p, 0, none⟩), .pointer (some ⟨p, 0, none⟩), .pointer (some ⟨p, 0, none⟩), .slice a al cp, .func (.func 47) #[] #[.pointer (some ⟨w.heap.size + 1 + 1 + 1, 0, none⟩)], .int .i64 y.1, itV y.2, undef, undef, undef, undef, undef, undef, undef, undef, undef, undef, undef], defers := [] } ∧ W.heap[b]? = some (.cells #[.int .i64 y.2.id, .string y.2.nm, y.2.av, .bool y.2.mr, .int .i64 y.2.ms] 68))
    (fun y a' W o hA hlt => ?ax) ?assign ?body ?done ?stop
  case ax =>
    obtain ⟨b, hb, e, hc⟩ := hA
    exact ⟨b, hb, e, (World.putObj_heap_other (by omega)).trans hc⟩
  case assign =>
    intro lp pre y W K hi hp hlt hK
    obtain ⟨j, e1, rfl⟩ := bk_pre L al pre y hp
    have hx := tI_get L j (by rw [HAL.out]; omega)
    obtain ⟨xa, xc, eav, _⟩ := own_val (HF.out.ats _ (List.mem_of_getElem? hx))
    obtain ⟨Y, hY⟩ : ∃ Y, tI L j = Y := ⟨_, rfl⟩
    rw [hY] at eav hK ⊢
    obtain ⟨id, nm, ats, mr, ms, av⟩ := Y
    dsimp only at eav hK
    subst eav
    simp only [encB]
    rw [fold2]
    have HLT := Fact.mk hlt
    clear hgv hx hY hp e1 hlt
    generalize ats.length = an at *
    gi_wp2
    exact hK _ _ ((Below.refl _ W).alloc (Nat.le_refl _) _) ⟨W.heap.size, by have := HLT.out; omega, rfl, heap_alloc_new W _⟩
  case body =>
    rintro lp pre y a' W ⟨⟨c0, c1, c2⟩, hB, hI⟩ ⟨b, hb, rfl, hbl⟩ hp hlt
    obtain ⟨j, e1, rfl⟩ := bk_pre L al pre y hp
    obtain ⟨j', e2, e3⟩ := hI.out
    obtain rfl : j' = j + 1 := by omega
    have e4 : al = (pre ++ [(j, tI L j)]).length + j := by rw [List.length_append]; simp; omega
    have hx := tI_get L j (by rw [HAL.out]; omega)
    have hmem := List.mem_of_getElem? hx
    obtain ⟨xa, xc, eav, _⟩ := own_val (HF.out.ats _ hmem)
    have hon := (HF.out.on hmem).below hB
    have hats := (HF.out.ok _ hmem).ky.ats
    unfold laF at e3
    obtain ⟨Y, hY⟩ : ∃ Y, tI L j = Y := ⟨_, rfl⟩
    rw [hY] at e3 e4 eav hbl hon hats ⊢
    obtain ⟨id, nm, ats, mr, ms, av⟩ := Y
    dsimp only [It.ky] at eav e3 e4 hbl hon hats
    subst eav
    obtain ⟨m0, m1, m2, m3, m4⟩ := five_at hbl
    obtain ⟨n0, nf⟩ := one_at c0
    have HCP := Fact.mk (copied_any id nm ats _ W hon (by omega))
    have E4 := Fact.mk e4
    have C0 := Fact.mk c0
    have C1 := Fact.mk c1
    have C2 := Fact.mk c2
    have HLT := Fact.mk hlt
    have HBB := Fact.mk hB
    clear hgv hx hY hp e1 e2 hI hmem hon hats c0 c1 c2 hbl e4 nf hlt
    generalize ats.length = an at *
    cases mr with
    | true =>
      rw [if_pos rfl] at e3
      have E3 := Fact.mk e3
      clear e3
      gi_wp2
      exact ⟨Keep.refl _ _ _, .inl ⟨rfl, E3.out.symm, C1.out, C2.out⟩, HBB.out⟩
    | false =>
      rw [if_neg (by simp)] at e3
      cases h1 : (nm.toList == x.toList)
      · rw [h1, if_neg (by simp)] at e3
        have E3 := Fact.mk e3
        clear e3
        gi_wp2
        exact ⟨Keep.refl _ _ _, ⟨C0.out, C1.out, C2.out⟩, HBB.out, ⟨j, E4.out, E3.out⟩⟩
      · rw [h1, if_pos rfl] at e3
        have E3 := Fact.mk e3
        clear e3
        gi_wp2_with (refine ⟨trivial, ?_⟩; gi_at_call 37; refine (CallsIn.inRound lp (callsIn_wide.2 HCP.out)).mono ?_; rintro e w2 ⟨av', rfl, ho, hb2⟩; obtain ⟨va, vc, ev, _⟩ := own_val ho; clear ho; subst ev; have d1 : w2.heap[w.heap.size + 1]? = some (.cells #[.int .i64 0, .string ⟨#[]⟩, .slice none 0 0] 36) := (hb2.block _ (Array.getElem?_eq_some_iff.1 C1.out).1).trans C1.out; have d2 : w2.heap[w.heap.size + 1 + 1]? = some (.cells #[.bool false] 4) := (hb2.block _ (Array.getElem?_eq_some_iff.1 C2.out).1).trans C2.out; obtain ⟨r0, r1, r2, rf⟩ := three_at d1; obtain ⟨r3, rf3⟩ := one_at d2; have rf0 := rf 0; have rf1 := rf 1; have rf2 := rf 2; have D1 := Fact.mk d1; have D2 := Fact.mk d2; have HB2 := Fact.mk hb2; clear d1 d2 hb2 rf)
        obtain ⟨w3, hw3⟩ : ∃ w3, (((w2.setCell ⟨w.heap.size + 1, 0, none⟩ (.int .i64 id)).setCell ⟨w.heap.size + 1, 1, none⟩ (.string nm)).setCell ⟨w.heap.size + 1, 2, none⟩ (.slice va an vc)).setCell ⟨w.heap.size + 1 + 1, 0, none⟩ (.bool true) = w3 := ⟨_, rfl⟩
        rw [hw3]
        have e1 : w3.heap[w.heap.size + 1]? = some (.cells #[.int .i64 id, .string nm, .slice va an vc] 36) := by
          rw [← hw3, Below.heap_setCell _ ⟨w.heap.size + 1 + 1, 0, none⟩ _ (w.heap.size + 1) (by show w.heap.size + 1 ≠ w.heap.size + 1 + 1; omega)]
          exact set_heap (i := 2) (set_heap (i := 1) (set_heap (i := 0) D1.out))
        have e2 : w3.heap[w.heap.size + 1 + 1]? = some (.cells #[.bool true] 4) := by
          rw [← hw3]
          refine set_heap (i := 0) (cur := #[.bool false]) ?_
          rw [Below.heap_setCell _ ⟨w.heap.size + 1, 2, none⟩ _ (w.heap.size + 1 + 1) (by show w.heap.size + 1 + 1 ≠ w.heap.size + 1; omega), Below.heap_setCell _ ⟨w.heap.size + 1, 1, none⟩ _ (w.heap.size + 1 + 1) (by show w.heap.size + 1 + 1 ≠ w.heap.size + 1; omega), Below.heap_setCell _ ⟨w.heap.size + 1, 0, none⟩ _ (w.heap.size + 1 + 1) (by show w.heap.size + 1 + 1 ≠ w.heap.size + 1; omega)]
          exact D2.out
        have e5 : ∀ k, k ≠ w.heap.size + 1 → k ≠ w.heap.size + 1 + 1 → w3.heap[k]? = w2.heap[k]? := fun k k1 k2 => by
          rw [← hw3, Below.heap_setCell _ _ _ _ k2, Below.heap_setCell _ _ _ _ k1, Below.heap_setCell _ _ _ _ k1, Below.heap_setCell _ _ _ _ k1]
        have hb3 : Below w.heap.size w w3 := by
          have := HBB.out.trans (HB2.out.mono HBB.out.size)
          exact ⟨by rw [← hw3]; exact this.os, by rw [← hw3]; exact this.tape, by rw [← hw3]; exact this.output, by rw [← hw3]; simp [World.setCell]; exact this.size, fun k hk => by rw [e5 k (by omega) (by omega)]; exact this.block k hk⟩
        refine ⟨⟨by rw [← hw3]; exact HB2.out.os, by rw [← hw3]; exact HB2.out.tape, by rw [← hw3]; exact HB2.out.output, by rw [← hw3]; simp [World.setCell]; exact HB2.out.size, fun k hk hc => ?_⟩, .inr ⟨rfl, ⟨id, nm, ats, false, ms, .slice xa an xc⟩, va, an, vc, E3.out.symm, e1, e2⟩, hb3⟩
        have hne : k ≠ w.heap.size + 1 ∧ k ≠ w.heap.size + 1 + 1 := by
          rcases hc with hc | hc
          · exact ⟨hc.2.1, hc.2.2⟩
          · omega
        rw [e5 k hne.1 hne.2]
        exact HB2.out.block k hk
  case done =>
    rintro D W hD ⟨⟨c0, c1, c2⟩, hB, hI⟩ hK
    obtain ⟨j, e1, e2⟩ := hI.out
    rw [bk_len] at e1
    obtain rfl : j = 0 := by omega
    have g1 : W.heap[w.heap.size + 1]? = some (.cells #[.int .i64 0, .string ⟨#[]⟩, .slice none 0 0] 36) := c1
    have g2 : W.heap[w.heap.size + 1 + 1]? = some (.cells #[.bool false] 4) := c2
    obtain ⟨r0, r1, r2, rf⟩ := three_at g1
    obtain ⟨r3, rf3⟩ := one_at g2
    have rf0 := rf 0
    have rf1 := rf 1
    have rf2 := rf 2
    obtain ⟨W', hW'⟩ : ∃ W', (((W.setCell ⟨w.heap.size + 1, 0, none⟩ (.int .i64 0)).setCell ⟨w.heap.size + 1, 1, none⟩ (.string ⟨#[]⟩)).setCell ⟨w.heap.size + 1, 2, none⟩ (.slice none 0 0)).setCell ⟨w.heap.size + 1 + 1, 0, none⟩ (.bool false) = W' := ⟨_, rfl⟩
    have hsame : W' = W := by
      rw [← hW', set_same r0, set_same r1, set_same r2, set_same r3]
    rw [hsame] at hW'
    have HW' := Fact.mk hW'
    have G1 := Fact.mk g1
    have G2 := Fact.mk g2
    clear hgv hW' hsame rf g1 g2
    gi_wp2
    rw [HW'.out]
    refine ⟨by simp, .inl ⟨_, _, rfl, run_takeDeferred hK, ?_⟩⟩
    refine ⟨_, results_la 4 5 rfl rfl rfl ((World.putObj_heap_other (by omega)).trans G1.out) ((World.putObj_heap_other (by omega)).trans G2.out), ?_⟩
    exact ⟨0, ⟨#[]⟩, none, 0, 0, false, rfl, .inl ⟨e2.symm, rfl, rfl, rfl⟩, below_putObj hB (by omega) (by have := hB.size; omega) _⟩
  case stop =>
    rintro D c pre W hD hpre ⟨(⟨rfl, hr, d1, d2⟩ | ⟨rfl, y, a', n', k', hr, d1, d2⟩), hB⟩ hK
    · have g1 : W.heap[w.heap.size + 1]? = some (.cells #[.int .i64 0, .string ⟨#[]⟩, .slice none 0 0] 36) := d1
      have g2 : W.heap[w.heap.size + 1 + 1]? = some (.cells #[.bool false] 4) := d2
      obtain ⟨r0, r1, r2, rf⟩ := three_at g1
      obtain ⟨r3, rf3⟩ := one_at g2
      have rf0 := rf 0
      have rf1 := rf 1
      have rf2 := rf 2
      obtain ⟨W', hW'⟩ : ∃ W', (((W.setCell ⟨w.heap.size + 1, 0, none⟩ (.int .i64 0)).setCell ⟨w.heap.size + 1, 1, none⟩ (.string ⟨#[]⟩)).setCell ⟨w.heap.size + 1, 2, none⟩ (.slice none 0 0)).setCell ⟨w.heap.size + 1 + 1, 0, none⟩ (.bool false) = W' := ⟨_, rfl⟩
      have hsame : W' = W := by
        rw [← hW', set_same r0, set_same r1, set_same r2, set_same r3]
      rw [hsame] at hW'
      have HW' := Fact.mk hW'
      have G1 := Fact.mk g1
      have G2 := Fact.mk g2
      clear hgv hW' hsame rf g1 g2
      gi_wp2
      rw [HW'.out]
      refine ⟨by simp, .inl ⟨_, _, rfl, run_takeDeferred hK, ?_⟩⟩
      refine ⟨_, results_la 4 5 rfl rfl rfl ((World.putObj_heap_other (by omega)).trans G1.out) ((World.putObj_heap_other (by omega)).trans G2.out), ?_⟩
      exact ⟨0, ⟨#[]⟩, none, 0, 0, false, rfl, .inl ⟨hr, rfl, rfl, rfl⟩, below_putObj hB (by omega) (by have := hB.size; omega) _⟩
    · have G1 := Fact.mk d1
      have G2 := Fact.mk d2
      clear hgv d1 d2
      gi_wp2
      refine ⟨by simp, .inl ⟨_, _, rfl, run_takeDeferred hK, ?_⟩⟩
      refine ⟨_, results_la 4 5 rfl rfl rfl ((World.putObj_heap_other (by omega)).trans G1.out) ((World.putObj_heap_other (by omega)).trans G2.out), ?_⟩
      exact ⟨y.id, y.nm, a', n', k', true, rfl, .inr ⟨y, hr, rfl, rfl, rfl⟩, below_putObj hB (by omega) (by have := hB.size; omega) _⟩
end Go.Proofs.YtjlijpaefdbohaaDoor
