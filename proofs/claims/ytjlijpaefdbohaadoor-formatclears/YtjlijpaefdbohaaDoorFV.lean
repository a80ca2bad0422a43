/- Push. -/
import Derived.Test.YtjlijpaefdbohaaDoorFU
import Derived.Deep.DeepCutAuto
set_option linter.unusedVariables false
set_option linter.unusedSimpArgs false
namespace Go.Proofs.YtjlijpaefdbohaaDoor
open Go.RowKit

theorem exec_allocK {w : World} {o : Oper} {a : Act} (ho : o.op = Op.alloc 77) : (execOp a.eval o).run Tryd.prog w = .ok (.value (.pointer (some ⟨w.heap.size, 0, none⟩))) (w.alloc (.cells (mK 0 ⟨#[]⟩ 0).toArray 77)) := by
  unfold execOp
  simp only [ho, Sem.run_bind, Sem.run_pure, Result.andThen_ok, run_allocK]
theorem exec_storeK {w : World} {o : Oper} {a : Act} (x y : Operand) (ho : o.op = Op.store 77 x y) (B : Nat) (hx : a.eval x = .pointer (some ⟨B, 0, none⟩)) (cs : List Value) (hy : a.eval y = .agg cs.toArray) (old : Array Value) (hB : w.heap[B]? = some (.cells old 77 (0, 0))) (hl : cs.length = 28) (ho28 : old.size = 28) (h1 : ∀ u ∈ cs, u.oneCell' = true) :
    (execOp a.eval o).run Tryd.prog w = .ok .skip (w.setRow B cs.toArray) := by
  have hr := run_storeVar_row (P := Tryd.prog) w B 77 77 old cs.toArray hB (by simp only [List.size_toArray, hl]; kernel_rfl) (by simp [hl, ho28]) (by simpa using h1)
  unfold execOp
  simp only [ho, hx, hy, Instr.storeAt, Instr.sureAddr, Sem.run_bind, Sem.run_pure, Result.andThen_ok, hr]
theorem wp_skip_known {Q : Exit → Act → World → Prop} {o : Oper} {a : Act} {w : World} {K : Act → World → Prop} {w' : World} (hr : (execOp a.eval o).run Tryd.prog w = .ok .skip w') (h : K (a.put o.dst undef) w') : o.wp Tryd.prog a w K Q := by
  unfold Oper.wp
  rw [hr]
  exact h

/-- what Push leaves ahead of the new entry -/
def Left (L L1 : List It) (k : Ky) : Prop := (cnt L k < 3 ∧ L1 = L) ∨ ∃ (i : Nat) (x : It), 3 ≤ cnt L k ∧ fsF k L 0 = (i : Int) ∧ L[i]? = some x ∧ L1 = L.take i ++ L.drop (i + 1)

set_option maxRecDepth 20000 in
set_option maxHeartbeats 4000000 in
theorem push_any (L L1 : List It) (B p mb c : Nat) (v : Value) (w : World) (id : Int) (nm : ByteArray) (ats : List (ByteArray × ByteArray)) (av : Value) (h : FL w B p L v mb c) (ha : RowOn w av ats.length 2 (rowA ats)) (hout : ∀ k, av.ownBlock = some k → ¬ inF p mb v k) (hid : Is64 id)
    (hk : Ky.Ok ⟨msA L L.length, nm, ats⟩) (hk1 : Ky.Ok ⟨msA L1 L1.length, nm, ats⟩) (hL1 : Left L L1 ⟨msA L L.length, nm, ats⟩) (hl : L.length < 1000) (hc : c + 1 < 100000) :
    Calls Tryd.prog 24 #[.pointer (some ⟨p, 0, none⟩), enV id nm av] w fun e w' => e = .returned (.tuple #[]) ∧ ∃ av', Tn w w' B p mb v (L1 ++ [⟨id, nm, ats, false, msA L1 L1.length, av'⟩]) (c + 2) := by
  obtain ⟨a, cp, ev, _⟩ := ha.at'
  subst ev
  obtain ⟨k, hkk⟩ : ∃ k : Ky, (⟨msA L L.length, nm, ats⟩ : Ky) = k := ⟨_, rfl⟩
  rw [hkk] at hk hL1
  obtain ⟨W, hW⟩ : ∃ W, w.alloc (.cells #[.int .i64 id, .string nm, .slice a ats.length cp] 36) = W := ⟨_, rfl⟩
  have hbW : Below w.heap.size w W := by rw [← hW]; exact (Below.refl _ _).alloc (Nat.le_refl _) _
  have hzW : W.heap.size = w.heap.size + 1 := by rw [← hW]; simp
  have c0 : W.heap[w.heap.size]? = some (.cells #[.int .i64 id, .string nm, .slice a ats.length cp] 36) := by rw [← hW]; exact heap_alloc_new w _
  have hF := h.below hbW (Nat.le_refl _)
  have HLEN : Fact (∀ U, Below W.heap.size W U → Calls Tryd.prog 29 #[.pointer (some ⟨p, 0, none⟩)] U fun e w' => e = .returned (.int .i64 L.length) ∧ w' = U) := ⟨fun U hU => len_any L B p mb c v U (hF.below hU (Nat.le_refl _))⟩
  have HAHD : Fact (∀ U, Below W.heap.size W U → Calls Tryd.prog 33 #[.pointer (some ⟨p, 0, none⟩), .int .i64 L.length] U fun e w' => e = .returned (.int .i64 (msA L L.length)) ∧ w' = U) := ⟨fun U hU => ahead_any L B p mb c v U L.length (hF.below hU (Nat.le_refl _)) (Nat.le_refl _)⟩
  have HKEY : Fact (∀ U, Below W.heap.size W U → Calls Tryd.prog 41 #[enV id nm (.slice a ats.length cp), .int .i64 (msA L L.length)] U fun e w' => e = .returned (kV k) ∧ Below U.heap.size U w') := ⟨fun U hU => by
    have := keyOf_any id (msA L L.length) nm ats _ U ((ha.below hbW).below hU) hk1.ats
    rw [hkk] at this
    exact this⟩
  have HS3 : Fact (∀ U : World, U.heap[w.heap.size]? = some (.cells #[.int .i64 id, .string nm, .slice a ats.length cp] 36) → U.cell? ⟨w.heap.size, 0, none⟩ = some (.int .i64 id) ∧ U.cell? ⟨w.heap.size, 1, none⟩ = some (.string nm) ∧ U.cell? ⟨w.heap.size, 2, none⟩ = some (.slice a ats.length cp)) := ⟨fun U hU => ⟨(three_at hU).1, (three_at hU).2.1, (three_at hU).2.2.1⟩⟩
  have HSB : Fact (∀ U, Below W.heap.size W U → U.cell? ⟨w.heap.size, 0, none⟩ = some (.int .i64 id) ∧ U.cell? ⟨w.heap.size, 1, none⟩ = some (.string nm) ∧ U.cell? ⟨w.heap.size, 2, none⟩ = some (.slice a ats.length cp)) := ⟨fun U hU => HS3.out U ((hU.block _ (by omega)).trans c0)⟩
  have S0 := HSB.out W.drew (Below.refl _ _).drew
  have HBD : Fact (Below W.heap.size W W.drew) := ⟨(Below.refl _ _).drew⟩
  -- what comes behind the key is made
  have HREST : Fact (∀ wc kb, Below w.heap.size w wc → wc.heap[w.heap.size]? = some (.cells #[.int .i64 id, .string nm, .slice a ats.length cp] 36) → w.heap.size < kb → wc.heap[kb]? = some (.cells (kC k).toArray 77 (0, 0)) →
      (Instr.lookup 62 (.map (some mb)) (.agg (kC k).toArray) false).run Tryd.prog wc.drew = .ok (.int .i64 (cnt L k)) wc.drew ∧ wc.cell? ⟨p, 1, none⟩ = some (.map (some mb)) ∧ FL wc B p L v mb c) := ⟨fun wc kb hb _ _ _ => by
    have hFc := h.below hb (Nat.le_refl _)
    exact ⟨MapK.look (w := wc.drew) (hFc.map.block rfl) hk, by simp [World.cell?, hFc.box], hFc⟩⟩
  have HTAKE : Fact (∀ wc (i : Nat) x, Below w.heap.size w wc → wc.heap[w.heap.size]? = some (.cells #[.int .i64 id, .string nm, .slice a ats.length cp] 36) → L[i]? = some x → L1 = L.take i ++ L.drop (i + 1) →
      Calls Tryd.prog 34 #[.pointer (some ⟨p, 0, none⟩), .int .i64 i] wc fun e w' => e = .returned (.tuple #[]) ∧ ∃ v1, FL w' B p L1 v1 mb (c + 1) ∧ KeepX w w' (inF p mb v) ∧ (v1.ownBlock = v.ownBlock ∨ ∃ g, v1.ownBlock = some g ∧ w.heap.size ≤ g) ∧ w'.heap[w.heap.size]? = some (.cells #[.int .i64 id, .string nm, .slice a ats.length cp] 36)) := ⟨fun wc i x hb hbx hx e1 => by
    refine (takeOut_any L B p mb c v wc i x (h.below hb (Nat.le_refl _)) hx (by omega)).mono ?_
    rintro e w2 ⟨rfl, ht⟩
    obtain ⟨v1, f1, k1, o1⟩ := ht.out
    refine ⟨rfl, v1, by rw [e1]; exact f1, (KeepX.of_below hb).trans k1 (fun _ _ h => h), o1.imp (fun h => h) (fun ⟨g, e, hg⟩ => ⟨g, e, Nat.le_trans hb.size hg⟩), ?_⟩
    rw [k1.block _ (Array.getElem?_eq_some_iff.1 hbx).1 (fun hin => by have := h.lt _ hin; omega)]
    exact hbx⟩
  have hL1l : L1.length ≤ L.length := by
    rcases hL1 with ⟨_, e⟩ | ⟨i, x, _, _, _, e⟩
    · rw [e]; exact Nat.le_refl _
    · rw [e]; simp; omega
  have HEND : Fact (∀ wd v1 c1, c1 ≤ c + 1 → FL wd B p L1 v1 mb c1 → KeepX w wd (inF p mb v) → (v1.ownBlock = v.ownBlock ∨ ∃ g, v1.ownBlock = some g ∧ w.heap.size ≤ g) → wd.heap[w.heap.size]? = some (.cells #[.int .i64 id, .string nm, .slice a ats.length cp] 36) →
      Calls Tryd.prog 40 #[.pointer (some ⟨p, 0, none⟩), .int .i64 L1.length, enV id nm (.slice a ats.length cp)] wd fun e w' => e = .returned (.tuple #[]) ∧ (∃ av', Tn w w' B p mb v (L1 ++ [⟨id, nm, ats, false, msA L1 L1.length, av'⟩]) (c + 2)) ∧ w'.heap[w.heap.size]? = some (.cells #[.int .i64 id, .string nm, .slice a ats.length cp] 36)) := ⟨fun wd v1 c1 hc1 hf hkx ho hbx => by
    have hp := putEntry_any L1 B p mb c1 v1 wd L1.length id nm ats (.slice a ats.length cp) hf (ha.keepX hkx hout) hid hk1 (Nat.le_refl _) (by omega) (by omega)
    rw [List.take_length, List.drop_length] at hp
    refine hp.mono ?_
    rintro e w' ⟨rfl, av', ht⟩
    obtain ⟨v2, f2, k2, o2⟩ := ht.out
    refine ⟨rfl, ⟨av', Tn.trans hkx ho ⟨v2, f2.mono (by omega) (by omega), k2, o2⟩⟩, ?_⟩
    rw [k2.block _ (Array.getElem?_eq_some_iff.1 hbx).1 (fun hin => by
      rcases hin with e | e | e
      · have := h.lt p (.inl rfl); omega
      · have := h.lt mb (.inr (.inl rfl)); omega
      · rcases ho with o | ⟨g, o, hg⟩
        · rw [o] at e; have := h.lt _ (.inr (.inr e)); omega
        · have := (hf.row.lt _ e).2
          rcases hf.row.2 with ⟨e0, _⟩ | ⟨g', cap', cur', e1, _, hh, _⟩
          · rw [e0] at e; cases e
          · rw [e1] at e
            obtain rfl : g' = w.heap.size := Option.some.inj e
            rw [hbx] at hh; simp at hh)]
    exact hbx⟩
  have HL1 := Fact.mk hL1
  have HFST : Fact (∀ wc, Below w.heap.size w wc → ∀ P, fsF k L 0 = P → Calls Tryd.prog 42 #[.pointer (some ⟨p, 0, none⟩), .agg (kC k).toArray] wc fun e w' => e = .returned (.int .i64 P) ∧ Below wc.heap.size wc w') := ⟨fun wc hb P hP => first_any L B p mb c v wc k (h.below hb (Nat.le_refl _)) hk P ⟨hP⟩⟩
  have HLEN2 : Fact (∀ wd v1 c1, FL wd B p L1 v1 mb c1 → Calls Tryd.prog 29 #[.pointer (some ⟨p, 0, none⟩)] wd fun e w' => e = .returned (.int .i64 L1.length) ∧ w' = wd) := ⟨fun wd v1 c1 hf => len_any L1 B p mb c1 v1 wd hf⟩
  have H28 := Fact.mk (kC_len k hk)
  have HW := Fact.mk hW
  have HBW := Fact.mk hbW
  have HZ := Fact.mk hzW
  have C0 := Fact.mk c0
  clear hF hW hbW hzW c0 ha hout hid hk hk1 hL1 h hkk hL1l hl hc
  generalize msA L L.length = m0 at *
  generalize L.length = n0 at *
  generalize ats.length = an at *
  go_enter Tryd.func24, Tryd.ntmps24
  go_wp2_with fail
  rw [HW.out]
  go_cut [4] (fun xv wc => ∃ kb : Nat, xv = .pointer (some ⟨kb, 0, none⟩) ∧ Fact (Below w.heap.size w wc ∧ wc.heap[w.heap.size]? = some (.cells #[.int .i64 id, .string nm, .slice a an cp] 36) ∧ w.heap.size < kb ∧ wc.heap[kb]? = some (.cells (kC k).toArray 77 (0, 0))))
  case first =>
    refine wp_region_held_drew (S := fun U => U.cell? ⟨w.heap.size, 0, none⟩ = some (.int .i64 id) ∧ U.cell? ⟨w.heap.size, 1, none⟩ = some (.string nm) ∧ U.cell? ⟨w.heap.size, 2, none⟩ = some (.slice a an cp)) (by kernel_rfl) S0 (fun _ => ?_)
    refine wpAnyH_take (i := 0) (v := ?v0n1) rfl (by kernel_rfl) (by kernel_rfl) (by kernel_rfl) (fun _ _ _ h => h) (Or.inl ⟨by rfl, ?hy0n1⟩) S0 ?rr0n1
    case hy0n1 =>
      intro w hSw
      go_simp
      try with_reducible rfl
    try simp only [Act.put, List.getElem_toArray, List.getElem_cons_succ, List.getElem_cons_zero, List.setIfInBounds_toArray, List.set_cons_zero, List.set_cons_succ]
    refine wpAnyH_take (i := 1) (v := ?v1n2) rfl (by kernel_rfl) (by kernel_rfl) (by kernel_rfl) (fun _ _ _ h => h) (Or.inl ⟨by rfl, ?hy1n2⟩) S0 ?rr1n2
    case hy1n2 =>
      intro w hSw
      go_simp
      try with_reducible rfl
    try simp only [Act.put, List.getElem_toArray, List.getElem_cons_succ, List.getElem_cons_zero, List.setIfInBounds_toArray, List.set_cons_zero, List.set_cons_succ]
    refine wpAnyH_take (i := 2) (v := ?v2n3) rfl (by kernel_rfl) (by kernel_rfl) (by kernel_rfl) (fun _ _ _ h => h) (Or.inl ⟨by rfl, ?hy2n3⟩) S0 ?rr2n3
    case hy2n3 =>
      intro w hSw
      go_simp
      try with_reducible rfl
    try simp only [Act.put, List.getElem_toArray, List.getElem_cons_succ, List.getElem_cons_zero, List.setIfInBounds_toArray, List.set_cons_zero, List.set_cons_succ]
    refine wpAnyH_ready (rs := [3, 6]) (by kernel_rfl) (by simp) ?_
    refine AllReadyH.cons rfl (fun K hK => ?_) (AllReadyH.cons rfl (fun K hK => ?_) AllReadyH.nil)
    · skip
      go_simp
      go_at_call 29
      refine (HLEN.out _ HBD.out).mono ?_
      rintro e w' ⟨rfl, e'⟩
      have e'' := e'.symm
      subst e''
      refine hK.out _ _ S0 (fun _ => ?_)
      clear hK K
      try simp only [Act.put, List.getElem_toArray, List.getElem_cons_succ, List.getElem_cons_zero, List.setIfInBounds_toArray, List.set_cons_zero, List.set_cons_succ]
      refine wpAnyH_ready (rs := [4, 6]) (by kernel_rfl) (by simp) ?_
      refine AllReadyH.cons rfl (fun K hK => ?_) (AllReadyH.cons rfl (fun K hK => ?_) AllReadyH.nil)
      · skip
        go_simp
        go_at_call 33
        refine (HAHD.out _ HBD.out).mono ?_
        rintro e w' ⟨rfl, e'⟩
        have e'' := e'.symm
        subst e''
        refine hK.out _ _ S0 (fun _ => ?_)
        clear hK K
        try simp only [Act.put, List.getElem_toArray, List.getElem_cons_succ, List.getElem_cons_zero, List.setIfInBounds_toArray, List.set_cons_zero, List.set_cons_succ]
        refine wpAnyH_ready (rs := [5, 6]) (by kernel_rfl) (by simp) ?_
        refine AllReadyH.cons rfl (fun K hK => ?_) (AllReadyH.cons rfl (fun K hK => ?_) AllReadyH.nil)
        · skip
          go_simp
          go_at_call 41
          refine (HKEY.out _ HBD.out).mono ?_
          rintro e w1 ⟨rfl, hb1⟩
          have H1 : Fact (Below W.heap.size W w1) := ⟨(HBD.out).trans (hb1.mono (HBD.out).size)⟩
          have HB1 := Fact.mk hb1
          have S1 := HSB.out w1 H1.out
          refine hK.out _ _ S1 (fun _ => ?_)
          clear hK K hb1
          unfold kV
          try simp only [Act.put, List.getElem_toArray, List.getElem_cons_succ, List.getElem_cons_zero, List.setIfInBounds_toArray, List.set_cons_zero, List.set_cons_succ]
          refine wpAnyH_ready (rs := [6]) (by kernel_rfl) (by simp) ?_
          refine AllReadyH.cons rfl (fun K hK => ?_) AllReadyH.nil
          rw [if_pos (by rfl)]
          refine wp_run_known (exec_allocK rfl) ?_
          obtain ⟨V, hV⟩ : ∃ V, World.alloc (w1) (.cells (mK 0 ⟨#[]⟩ 0).toArray 77) = V := ⟨_, rfl⟩
          rw [hV]
          have HV : Fact (Below W.heap.size W V ∧ V.heap[(w1).heap.size]? = some (.cells (mK 0 ⟨#[]⟩ 0).toArray 77 (0, 0)) ∧ V.heap.size = (w1).heap.size + 1) := ⟨by rw [← hV]; exact ⟨(H1.out).alloc (H1.out).size _, heap_alloc_new _ _, by simp⟩⟩
          have SV := HSB.out V HV.out.1
          refine hK.out _ _ SV (fun _ => ?_)
          clear hK K hV
          try simp only [Act.put, List.getElem_toArray, List.getElem_cons_succ, List.getElem_cons_zero, List.setIfInBounds_toArray, List.set_cons_zero, List.set_cons_succ]
          refine wpAnyH_ready (rs := [7]) (by kernel_rfl) (by simp) ?_
          refine AllReadyH.cons rfl (fun K hK => ?_) AllReadyH.nil
          rw [if_pos (by rfl)]
          refine wp_skip_known (exec_storeK (.tmp 4) (.tmp 10) rfl (w1.heap.size) rfl (kC k) rfl (mK 0 ⟨#[]⟩ 0).toArray (HV.out.2.1) H28.out rfl (kC_one _)) ?_
          obtain ⟨w2, hw2⟩ : ∃ w2, World.setRow V (w1.heap.size) (kC k).toArray = w2 := ⟨_, rfl⟩
          rw [hw2]
          have H2 : Fact (Below w.heap.size w w2 ∧ w2.heap[w.heap.size]? = some (.cells #[.int .i64 id, .string nm, .slice a an cp] 36) ∧ ∃ kb, (w1.heap.size) = kb ∧ w.heap.size < kb ∧ w2.heap[kb]? = some (.cells (kC k).toArray 77 (0, 0))) := ⟨by
            have hkw : w.heap.size < (w1.heap.size) := by have := HZ.out; have := H1.out.size; omega
            rw [← hw2]
            refine ⟨below_setRow (HBW.out.trans ((HV.out.1).mono HBW.out.size)) (Nat.le_of_lt hkw) _, ?_, _, rfl, hkw, setRow_heap _ _ _ _ _ _ (HV.out.2.1)⟩
            rw [heap_setRow_other _ _ _ _ (by omega)]
            exact ((HV.out.1).block _ (by have := HZ.out; omega)).trans C0.out⟩
          refine hK.out _ _ (HS3.out w2 H2.out.2.1) (fun _ => ?_)
          clear hK K hw2
          refine wpAnyH_done (by kernel_rfl) ?_ _
          go_wp2_with fail
          go_meet
          case rel => exact ⟨_, rfl, by obtain ⟨q1, q2, kb, rfl, q3, q4⟩ := H2.out; exact ⟨q1, q2, q3, q4⟩⟩
        · skip
          rw [if_pos (by rfl)]
          refine wp_run_known (exec_allocK rfl) ?_
          obtain ⟨V, hV⟩ : ∃ V, World.alloc (W.drew) (.cells (mK 0 ⟨#[]⟩ 0).toArray 77) = V := ⟨_, rfl⟩
          rw [hV]
          have HV : Fact (Below W.heap.size W V ∧ V.heap[(W.drew).heap.size]? = some (.cells (mK 0 ⟨#[]⟩ 0).toArray 77 (0, 0)) ∧ V.heap.size = (W.drew).heap.size + 1) := ⟨by rw [← hV]; exact ⟨(HBD.out).alloc (HBD.out).size _, heap_alloc_new _ _, by simp⟩⟩
          have SV := HSB.out V HV.out.1
          refine hK.out _ _ SV (fun _ => ?_)
          clear hK K hV
          try simp only [Act.put, List.getElem_toArray, List.getElem_cons_succ, List.getElem_cons_zero, List.setIfInBounds_toArray, List.set_cons_zero, List.set_cons_succ]
          refine wpAnyH_ready (rs := [5]) (by kernel_rfl) (by simp) ?_
          refine AllReadyH.cons rfl (fun K hK => ?_) AllReadyH.nil
          go_simp
          go_at_call 41
          refine (HKEY.out _ HV.out.1).mono ?_
          rintro e w1 ⟨rfl, hb1⟩
          have H1 : Fact (Below W.heap.size W w1) := ⟨(HV.out.1).trans (hb1.mono (HV.out.1).size)⟩
          have HB1 := Fact.mk hb1
          have S1 := HSB.out w1 H1.out
          refine hK.out _ _ S1 (fun _ => ?_)
          clear hK K hb1
          unfold kV
          try simp only [Act.put, List.getElem_toArray, List.getElem_cons_succ, List.getElem_cons_zero, List.setIfInBounds_toArray, List.set_cons_zero, List.set_cons_succ]
          refine wpAnyH_ready (rs := [7]) (by kernel_rfl) (by simp) ?_
          refine AllReadyH.cons rfl (fun K hK => ?_) AllReadyH.nil
          rw [if_pos (by rfl)]
          refine wp_skip_known (exec_storeK (.tmp 4) (.tmp 10) rfl (W.drew.heap.size) rfl (kC k) rfl (mK 0 ⟨#[]⟩ 0).toArray ((HB1.out.block _ (by have := HV.out.2.2; omega)).trans HV.out.2.1) H28.out rfl (kC_one _)) ?_
          obtain ⟨w2, hw2⟩ : ∃ w2, World.setRow w1 (W.drew.heap.size) (kC k).toArray = w2 := ⟨_, rfl⟩
          rw [hw2]
          have H2 : Fact (Below w.heap.size w w2 ∧ w2.heap[w.heap.size]? = some (.cells #[.int .i64 id, .string nm, .slice a an cp] 36) ∧ ∃ kb, (W.drew.heap.size) = kb ∧ w.heap.size < kb ∧ w2.heap[kb]? = some (.cells (kC k).toArray 77 (0, 0))) := ⟨by
            have hkw : w.heap.size < (W.drew.heap.size) := by have := HZ.out; show w.heap.size < W.heap.size; omega
            rw [← hw2]
            refine ⟨below_setRow (HBW.out.trans ((H1.out).mono HBW.out.size)) (Nat.le_of_lt hkw) _, ?_, _, rfl, hkw, setRow_heap _ _ _ _ _ _ ((HB1.out.block _ (by have := HV.out.2.2; omega)).trans HV.out.2.1)⟩
            rw [heap_setRow_other _ _ _ _ (by omega)]
            exact ((H1.out).block _ (by have := HZ.out; omega)).trans C0.out⟩
          refine hK.out _ _ (HS3.out w2 H2.out.2.1) (fun _ => ?_)
          clear hK K hw2
          refine wpAnyH_done (by kernel_rfl) ?_ _
          go_wp2_with fail
          go_meet
          case rel => exact ⟨_, rfl, by obtain ⟨q1, q2, kb, rfl, q3, q4⟩ := H2.out; exact ⟨q1, q2, q3, q4⟩⟩
      · skip
        rw [if_pos (by rfl)]
        refine wp_run_known (exec_allocK rfl) ?_
        obtain ⟨V, hV⟩ : ∃ V, World.alloc (W.drew) (.cells (mK 0 ⟨#[]⟩ 0).toArray 77) = V := ⟨_, rfl⟩
        rw [hV]
        have HV : Fact (Below W.heap.size W V ∧ V.heap[(W.drew).heap.size]? = some (.cells (mK 0 ⟨#[]⟩ 0).toArray 77 (0, 0)) ∧ V.heap.size = (W.drew).heap.size + 1) := ⟨by rw [← hV]; exact ⟨(HBD.out).alloc (HBD.out).size _, heap_alloc_new _ _, by simp⟩⟩
        have SV := HSB.out V HV.out.1
        refine hK.out _ _ SV (fun _ => ?_)
        clear hK K hV
        try simp only [Act.put, List.getElem_toArray, List.getElem_cons_succ, List.getElem_cons_zero, List.setIfInBounds_toArray, List.set_cons_zero, List.set_cons_succ]
        refine wpAnyH_ready (rs := [4]) (by kernel_rfl) (by simp) ?_
        refine AllReadyH.cons rfl (fun K hK => ?_) AllReadyH.nil
        go_simp
        go_at_call 33
        refine (HAHD.out _ HV.out.1).mono ?_
        rintro e w' ⟨rfl, e'⟩
        have e'' := e'.symm
        subst e''
        refine hK.out _ _ SV (fun _ => ?_)
        clear hK K
        try simp only [Act.put, List.getElem_toArray, List.getElem_cons_succ, List.getElem_cons_zero, List.setIfInBounds_toArray, List.set_cons_zero, List.set_cons_succ]
        refine wpAnyH_ready (rs := [5]) (by kernel_rfl) (by simp) ?_
        refine AllReadyH.cons rfl (fun K hK => ?_) AllReadyH.nil
        go_simp
        go_at_call 41
        refine (HKEY.out _ HV.out.1).mono ?_
        rintro e w1 ⟨rfl, hb1⟩
        have H1 : Fact (Below W.heap.size W w1) := ⟨(HV.out.1).trans (hb1.mono (HV.out.1).size)⟩
        have HB1 := Fact.mk hb1
        have S1 := HSB.out w1 H1.out
        refine hK.out _ _ S1 (fun _ => ?_)
        clear hK K hb1
        unfold kV
        try simp only [Act.put, List.getElem_toArray, List.getElem_cons_succ, List.getElem_cons_zero, List.setIfInBounds_toArray, List.set_cons_zero, List.set_cons_succ]
        refine wpAnyH_ready (rs := [7]) (by kernel_rfl) (by simp) ?_
        refine AllReadyH.cons rfl (fun K hK => ?_) AllReadyH.nil
        rw [if_pos (by rfl)]
        refine wp_skip_known (exec_storeK (.tmp 4) (.tmp 10) rfl (W.drew.heap.size) rfl (kC k) rfl (mK 0 ⟨#[]⟩ 0).toArray ((HB1.out.block _ (by have := HV.out.2.2; omega)).trans HV.out.2.1) H28.out rfl (kC_one _)) ?_
        obtain ⟨w2, hw2⟩ : ∃ w2, World.setRow w1 (W.drew.heap.size) (kC k).toArray = w2 := ⟨_, rfl⟩
        rw [hw2]
        have H2 : Fact (Below w.heap.size w w2 ∧ w2.heap[w.heap.size]? = some (.cells #[.int .i64 id, .string nm, .slice a an cp] 36) ∧ ∃ kb, (W.drew.heap.size) = kb ∧ w.heap.size < kb ∧ w2.heap[kb]? = some (.cells (kC k).toArray 77 (0, 0))) := ⟨by
          have hkw : w.heap.size < (W.drew.heap.size) := by have := HZ.out; show w.heap.size < W.heap.size; omega
          rw [← hw2]
          refine ⟨below_setRow (HBW.out.trans ((H1.out).mono HBW.out.size)) (Nat.le_of_lt hkw) _, ?_, _, rfl, hkw, setRow_heap _ _ _ _ _ _ ((HB1.out.block _ (by have := HV.out.2.2; omega)).trans HV.out.2.1)⟩
          rw [heap_setRow_other _ _ _ _ (by omega)]
          exact ((H1.out).block _ (by have := HZ.out; omega)).trans C0.out⟩
        refine hK.out _ _ (HS3.out w2 H2.out.2.1) (fun _ => ?_)
        clear hK K hw2
        refine wpAnyH_done (by kernel_rfl) ?_ _
        go_wp2_with fail
        go_meet
        case rel => exact ⟨_, rfl, by obtain ⟨q1, q2, kb, rfl, q3, q4⟩ := H2.out; exact ⟨q1, q2, q3, q4⟩⟩
    · skip
      rw [if_pos (by rfl)]
      refine wp_run_known (exec_allocK rfl) ?_
      obtain ⟨V, hV⟩ : ∃ V, World.alloc (W.drew) (.cells (mK 0 ⟨#[]⟩ 0).toArray 77) = V := ⟨_, rfl⟩
      rw [hV]
      have HV : Fact (Below W.heap.size W V ∧ V.heap[(W.drew).heap.size]? = some (.cells (mK 0 ⟨#[]⟩ 0).toArray 77 (0, 0)) ∧ V.heap.size = (W.drew).heap.size + 1) := ⟨by rw [← hV]; exact ⟨(HBD.out).alloc (HBD.out).size _, heap_alloc_new _ _, by simp⟩⟩
      have SV := HSB.out V HV.out.1
      refine hK.out _ _ SV (fun _ => ?_)
      clear hK K hV
      try simp only [Act.put, List.getElem_toArray, List.getElem_cons_succ, List.getElem_cons_zero, List.setIfInBounds_toArray, List.set_cons_zero, List.set_cons_succ]
      refine wpAnyH_ready (rs := [3]) (by kernel_rfl) (by simp) ?_
      refine AllReadyH.cons rfl (fun K hK => ?_) AllReadyH.nil
      go_simp
      go_at_call 29
      refine (HLEN.out _ HV.out.1).mono ?_
      rintro e w' ⟨rfl, e'⟩
      have e'' := e'.symm
      subst e''
      refine hK.out _ _ SV (fun _ => ?_)
      clear hK K
      try simp only [Act.put, List.getElem_toArray, List.getElem_cons_succ, List.getElem_cons_zero, List.setIfInBounds_toArray, List.set_cons_zero, List.set_cons_succ]
      refine wpAnyH_ready (rs := [4]) (by kernel_rfl) (by simp) ?_
      refine AllReadyH.cons rfl (fun K hK => ?_) AllReadyH.nil
      go_simp
      go_at_call 33
      refine (HAHD.out _ HV.out.1).mono ?_
      rintro e w' ⟨rfl, e'⟩
      have e'' := e'.symm
      subst e''
      refine hK.out _ _ SV (fun _ => ?_)
      clear hK K
      try simp only [Act.put, List.getElem_toArray, List.getElem_cons_succ, List.getElem_cons_zero, List.setIfInBounds_toArray, List.set_cons_zero, List.set_cons_succ]
      refine wpAnyH_ready (rs := [5]) (by kernel_rfl) (by simp) ?_
      refine AllReadyH.cons rfl (fun K hK => ?_) AllReadyH.nil
      go_simp
      go_at_call 41
      refine (HKEY.out _ HV.out.1).mono ?_
      rintro e w1 ⟨rfl, hb1⟩
      have H1 : Fact (Below W.heap.size W w1) := ⟨(HV.out.1).trans (hb1.mono (HV.out.1).size)⟩
      have HB1 := Fact.mk hb1
      have S1 := HSB.out w1 H1.out
      refine hK.out _ _ S1 (fun _ => ?_)
      clear hK K hb1
      unfold kV
      try simp only [Act.put, List.getElem_toArray, List.getElem_cons_succ, List.getElem_cons_zero, List.setIfInBounds_toArray, List.set_cons_zero, List.set_cons_succ]
      refine wpAnyH_ready (rs := [7]) (by kernel_rfl) (by simp) ?_
      refine AllReadyH.cons rfl (fun K hK => ?_) AllReadyH.nil
      rw [if_pos (by rfl)]
      refine wp_skip_known (exec_storeK (.tmp 4) (.tmp 10) rfl (W.drew.heap.size) rfl (kC k) rfl (mK 0 ⟨#[]⟩ 0).toArray ((HB1.out.block _ (by have := HV.out.2.2; omega)).trans HV.out.2.1) H28.out rfl (kC_one _)) ?_
      obtain ⟨w2, hw2⟩ : ∃ w2, World.setRow w1 (W.drew.heap.size) (kC k).toArray = w2 := ⟨_, rfl⟩
      rw [hw2]
      have H2 : Fact (Below w.heap.size w w2 ∧ w2.heap[w.heap.size]? = some (.cells #[.int .i64 id, .string nm, .slice a an cp] 36) ∧ ∃ kb, (W.drew.heap.size) = kb ∧ w.heap.size < kb ∧ w2.heap[kb]? = some (.cells (kC k).toArray 77 (0, 0))) := ⟨by
        have hkw : w.heap.size < (W.drew.heap.size) := by have := HZ.out; show w.heap.size < W.heap.size; omega
        rw [← hw2]
        refine ⟨below_setRow (HBW.out.trans ((H1.out).mono HBW.out.size)) (Nat.le_of_lt hkw) _, ?_, _, rfl, hkw, setRow_heap _ _ _ _ _ _ ((HB1.out.block _ (by have := HV.out.2.2; omega)).trans HV.out.2.1)⟩
        rw [heap_setRow_other _ _ _ _ (by omega)]
        exact ((H1.out).block _ (by have := HZ.out; omega)).trans C0.out⟩
      refine hK.out _ _ (HS3.out w2 H2.out.2.1) (fun _ => ?_)
      clear hK K hw2
      refine wpAnyH_done (by kernel_rfl) ?_ _
      go_wp2_with fail
      go_meet
      case rel => exact ⟨_, rfl, by obtain ⟨q1, q2, kb, rfl, q3, q4⟩ := H2.out; exact ⟨q1, q2, q3, q4⟩⟩
  case rest =>
    obtain ⟨kb, rfl, hcx⟩ := hcut
    rename World => wc
    obtain ⟨hb, hbx, hkl, hkb⟩ := hcx.out
    obtain ⟨hlook, hcell, hFc⟩ := HREST.out wc kb hb hbx hkl hkb
    obtain ⟨q, hq⟩ : ∃ q, cnt L k = q := ⟨_, rfl⟩
    rw [hq] at hlook
    have HQ := Fact.mk hq
    have HFC := Fact.mk hFc
    have HB := Fact.mk hb
    have HBX := Fact.mk hbx
    have HKB := Fact.mk hkb
    clear hq hFc hcx hkl hb hbx hkb
    go_wp2_with fail
    refine wp_region_held_drew (S := fun U => U = wc.drew) (by kernel_rfl) rfl (fun _ => ?_)
    refine wpAnyH_take (i := 0) (v := ?v0n4) rfl (by kernel_rfl) (by kernel_rfl) (by kernel_rfl) (fun _ _ _ h => h) (Or.inl ⟨by rfl, ?hy0n4⟩) rfl ?rr0n4
    case hy0n4 =>
      intro w hSw
      subst hSw
      go_simp
      try with_reducible rfl
    try simp only [Act.put, List.getElem_toArray, List.getElem_cons_succ, List.getElem_cons_zero, List.setIfInBounds_toArray, List.set_cons_zero, List.set_cons_succ]
    refine wpAnyH_take (i := 1) (v := ?v1n5) rfl (by kernel_rfl) (by kernel_rfl) (by kernel_rfl) (fun _ _ _ h => h) (Or.inl ⟨by rfl, ?hy1n5⟩) rfl ?rr1n5
    case hy1n5 =>
      intro w hSw
      subst hSw
      go_simp
      try with_reducible rfl
    try simp only [Act.put, List.getElem_toArray, List.getElem_cons_succ, List.getElem_cons_zero, List.setIfInBounds_toArray, List.set_cons_zero, List.set_cons_succ]
    refine wpAnyH_take (i := 2) (v := ?v2n6) rfl (by kernel_rfl) (by kernel_rfl) (by kernel_rfl) (fun _ _ _ h => h) (Or.inl ⟨by rfl, ?hy2n6⟩) rfl ?rr2n6
    case hy2n6 =>
      intro w hSw
      subst hSw
      go_simp
      try with_reducible rfl
    try simp only [Act.put, List.getElem_toArray, List.getElem_cons_succ, List.getElem_cons_zero, List.setIfInBounds_toArray, List.set_cons_zero, List.set_cons_succ]
    refine wpAnyH_take (i := 3) (v := ?v3n7) rfl (by kernel_rfl) (by kernel_rfl) (by kernel_rfl) (fun _ _ _ h => h) (Or.inl ⟨by rfl, ?hy3n7⟩) rfl ?rr3n7
    case hy3n7 =>
      intro w hSw
      subst hSw
      go_simp
      try with_reducible rfl
    try simp only [Act.put, List.getElem_toArray, List.getElem_cons_succ, List.getElem_cons_zero, List.setIfInBounds_toArray, List.set_cons_zero, List.set_cons_succ]
    refine wpAnyH_take (i := 4) (v := .agg (kC k).toArray) rfl (by kernel_rfl) (by kernel_rfl) (by kernel_rfl) (fun _ _ _ h => h) (Or.inl ⟨by rfl, ?hy4⟩) rfl ?rr4
    case hy4 => intro w' hSw; rw [hSw]; exact exec_loadK (.tmp 4) rfl kb rfl (kC k) HKB.out H28.out
    try simp only [Act.put, List.getElem_toArray, List.getElem_cons_succ, List.getElem_cons_zero, List.setIfInBounds_toArray, List.set_cons_zero, List.set_cons_succ]
    refine wpAnyH_take (i := 5) (v := ?v5n8) rfl (by kernel_rfl) (by kernel_rfl) (by kernel_rfl) (fun _ _ _ h => h) (Or.inl ⟨by rfl, ?hy5n8⟩) rfl ?rr5n8
    case hy5n8 =>
      intro w hSw
      subst hSw
      go_simp
      try with_reducible rfl
    try simp only [Act.put, List.getElem_toArray, List.getElem_cons_succ, List.getElem_cons_zero, List.setIfInBounds_toArray, List.set_cons_zero, List.set_cons_succ]
    refine wpAnyH_take (i := 6) (v := ?v6n9) rfl (by kernel_rfl) (by kernel_rfl) (by kernel_rfl) (fun _ _ _ h => h) (Or.inl ⟨by rfl, ?hy6n9⟩) rfl ?rr6n9
    case hy6n9 =>
      intro w hSw
      subst hSw
      go_simp
      try with_reducible rfl
    try simp only [Act.put, List.getElem_toArray, List.getElem_cons_succ, List.getElem_cons_zero, List.setIfInBounds_toArray, List.set_cons_zero, List.set_cons_succ]
    refine wpAnyH_done (by kernel_rfl) ?_ _
    rcases HL1.out with ⟨hlt, hL⟩ | ⟨i, x, hge, hfs, hx, hL⟩
    · have hn3 : ¬ (3 : Int) ≤ q := by rw [HQ.out] at hlt; omega
      have hdec : decide ((3 : Int) ≤ q) = false := by simpa using hn3
      have H4 : Fact (FL wc.drew.drew B p L1 v mb c ∧ KeepX w wc.drew.drew (inF p mb v) ∧ wc.drew.drew.heap[w.heap.size]? = some (.cells #[.int .i64 id, .string nm, .slice a an cp] 36)) := ⟨by rw [hL]; exact HFC.out.below ((Below.refl _ _).drew.drew) (Nat.le_refl _), KeepX.of_below HB.out.drew.drew, HBX.out⟩
      have S4 := HS3.out wc.drew.drew HBX.out
      clear hlook hcell hlt hL
      go_wp2_with fail
      refine wp_region_held_drew (S := fun U => U.cell? ⟨w.heap.size, 0, none⟩ = some (.int .i64 id) ∧ U.cell? ⟨w.heap.size, 1, none⟩ = some (.string nm) ∧ U.cell? ⟨w.heap.size, 2, none⟩ = some (.slice a an cp)) (by kernel_rfl) S4 (fun _ => ?_)
      refine wpAnyH_take (i := 0) (v := ?v0n10) rfl (by kernel_rfl) (by kernel_rfl) (by kernel_rfl) (fun _ _ _ h => h) (Or.inl ⟨by rfl, ?hy0n10⟩) S4 ?rr0n10
      case hy0n10 =>
        intro w hSw
        go_simp
        try with_reducible rfl
      try simp only [Act.put, List.getElem_toArray, List.getElem_cons_succ, List.getElem_cons_zero, List.setIfInBounds_toArray, List.set_cons_zero, List.set_cons_succ]
      refine wpAnyH_take (i := 1) (v := ?v1n11) rfl (by kernel_rfl) (by kernel_rfl) (by kernel_rfl) (fun _ _ _ h => h) (Or.inl ⟨by rfl, ?hy1n11⟩) S4 ?rr1n11
      case hy1n11 =>
        intro w hSw
        go_simp
        try with_reducible rfl
      try simp only [Act.put, List.getElem_toArray, List.getElem_cons_succ, List.getElem_cons_zero, List.setIfInBounds_toArray, List.set_cons_zero, List.set_cons_succ]
      refine wpAnyH_take (i := 3) (v := ?v3n12) rfl (by kernel_rfl) (by kernel_rfl) (by kernel_rfl) (fun _ _ _ h => h) (Or.inl ⟨by rfl, ?hy3n12⟩) S4 ?rr3n12
      case hy3n12 =>
        intro w hSw
        go_simp
        try with_reducible rfl
      try simp only [Act.put, List.getElem_toArray, List.getElem_cons_succ, List.getElem_cons_zero, List.setIfInBounds_toArray, List.set_cons_zero, List.set_cons_succ]
      refine wpAnyH_ready (rs := [2]) (by kernel_rfl) (by simp) ?_
      refine AllReadyH.cons rfl (fun K hK => ?_) AllReadyH.nil
      go_simp
      go_at_call 29
      refine (HLEN2.out _ _ _ H4.out.1).mono ?_
      rintro e w' ⟨rfl, e'⟩
      have e'' := e'.symm
      subst e''
      refine hK.out _ _ S4 (fun _ => ?_)
      clear hK K
      try simp only [Act.put, List.getElem_toArray, List.getElem_cons_succ, List.getElem_cons_zero, List.setIfInBounds_toArray, List.set_cons_zero, List.set_cons_succ]
      refine wpAnyH_ready (rs := [4]) (by kernel_rfl) (by simp) ?_
      refine AllReadyH.cons rfl (fun K hK => ?_) AllReadyH.nil
      go_simp
      go_at_call 40
      refine (HEND.out _ _ _ (by omega) H4.out.1 H4.out.2.1 (.inl rfl) H4.out.2.2).mono ?_
      rintro e w' ⟨rfl, ht, hbx'⟩
      have HT := Fact.mk ht
      refine hK.out _ _ (HS3.out _ hbx') (fun _ => ?_)
      clear hK K ht hbx'
      refine wpAnyH_done (by kernel_rfl) ?_ _
      go_wp2_with fail
      go_end0
      exact ⟨rfl, HT.out⟩
    · have hn3 : (3 : Int) ≤ q := by rw [HQ.out] at hge; omega
      have hdec : decide ((3 : Int) ≤ q) = true := by simpa using hn3
      have HL := Fact.mk hL
      have HX := Fact.mk hx
      have HFS := Fact.mk hfs
      have HKD : Fact (wc.drew.heap[kb]? = some (.cells (kC k).toArray 77 (0, 0))) := ⟨HKB.out⟩
      clear hlook hcell hge hL hx hfs
      go_wp2_with (first
        | (with_reducible refine wpList_loadK rfl (.tmp 4) rfl kb rfl (kC k) HKD.out H28.out ?_)
        | (go_at_call 42; refine (HFST.out wc.drew HB.out.drew i HFS.out).mono ?_; rintro e w3 ⟨rfl, hb3⟩; have HB3 : Fact (Below w.heap.size w w3) := ⟨HB.out.drew.trans (hb3.mono HB.out.size)⟩; have HBX3 : Fact (w3.heap[w.heap.size]? = some (.cells #[.int .i64 id, .string nm, .slice a an cp] 36)) := ⟨(hb3.block _ (Array.getElem?_eq_some_iff.1 HBX.out).1).trans HBX.out⟩; clear hb3)
        | (go_at_call 34; refine (HTAKE.out w3 i x HB3.out HBX3.out HX.out HL.out).mono ?_; rintro e w4 ⟨rfl, v1, f1, k1, o1, b1⟩; have F1 := Fact.mk f1; have K1 := Fact.mk k1; have O1 := Fact.mk o1; have B1 := Fact.mk b1; clear f1 k1 o1 b1))
      have H4 : Fact (FL w4.drew B p L1 v1 mb (c + 1) ∧ KeepX w w4.drew (inF p mb v) ∧ w4.drew.heap[w.heap.size]? = some (.cells #[.int .i64 id, .string nm, .slice a an cp] 36)) := ⟨F1.out.below ((Below.refl _ _).drew) (Nat.le_refl _), ⟨K1.out.os, K1.out.tape, K1.out.output, K1.out.size, K1.out.block⟩, B1.out⟩
      have S4 := HS3.out w4.drew B1.out
      refine wp_region_held_drew (S := fun U => U.cell? ⟨w.heap.size, 0, none⟩ = some (.int .i64 id) ∧ U.cell? ⟨w.heap.size, 1, none⟩ = some (.string nm) ∧ U.cell? ⟨w.heap.size, 2, none⟩ = some (.slice a an cp)) (by kernel_rfl) S4 (fun _ => ?_)
      refine wpAnyH_take (i := 0) (v := ?v0n13) rfl (by kernel_rfl) (by kernel_rfl) (by kernel_rfl) (fun _ _ _ h => h) (Or.inl ⟨by rfl, ?hy0n13⟩) S4 ?rr0n13
      case hy0n13 =>
        intro w hSw
        go_simp
        try with_reducible rfl
      try simp only [Act.put, List.getElem_toArray, List.getElem_cons_succ, List.getElem_cons_zero, List.setIfInBounds_toArray, List.set_cons_zero, List.set_cons_succ]
      refine wpAnyH_take (i := 1) (v := ?v1n14) rfl (by kernel_rfl) (by kernel_rfl) (by kernel_rfl) (fun _ _ _ h => h) (Or.inl ⟨by rfl, ?hy1n14⟩) S4 ?rr1n14
      case hy1n14 =>
        intro w hSw
        go_simp
        try with_reducible rfl
      try simp only [Act.put, List.getElem_toArray, List.getElem_cons_succ, List.getElem_cons_zero, List.setIfInBounds_toArray, List.set_cons_zero, List.set_cons_succ]
      refine wpAnyH_take (i := 3) (v := ?v3n15) rfl (by kernel_rfl) (by kernel_rfl) (by kernel_rfl) (fun _ _ _ h => h) (Or.inl ⟨by rfl, ?hy3n15⟩) S4 ?rr3n15
      case hy3n15 =>
        intro w hSw
        go_simp
        try with_reducible rfl
      try simp only [Act.put, List.getElem_toArray, List.getElem_cons_succ, List.getElem_cons_zero, List.setIfInBounds_toArray, List.set_cons_zero, List.set_cons_succ]
      refine wpAnyH_ready (rs := [2]) (by kernel_rfl) (by simp) ?_
      refine AllReadyH.cons rfl (fun K hK => ?_) AllReadyH.nil
      go_simp
      go_at_call 29
      refine (HLEN2.out _ _ _ H4.out.1).mono ?_
      rintro e w' ⟨rfl, e'⟩
      have e'' := e'.symm
      subst e''
      refine hK.out _ _ S4 (fun _ => ?_)
      clear hK K
      try simp only [Act.put, List.getElem_toArray, List.getElem_cons_succ, List.getElem_cons_zero, List.setIfInBounds_toArray, List.set_cons_zero, List.set_cons_succ]
      refine wpAnyH_ready (rs := [4]) (by kernel_rfl) (by simp) ?_
      refine AllReadyH.cons rfl (fun K hK => ?_) AllReadyH.nil
      go_simp
      go_at_call 40
      refine (HEND.out _ _ _ (Nat.le_refl _) H4.out.1 H4.out.2.1 O1.out H4.out.2.2).mono ?_
      rintro e w' ⟨rfl, ht, hbx'⟩
      have HT := Fact.mk ht
      refine hK.out _ _ (HS3.out _ hbx') (fun _ => ?_)
      clear hK K ht hbx'
      refine wpAnyH_done (by kernel_rfl) ?_ _
      go_wp2_with fail
      go_end0
      exact ⟨rfl, HT.out⟩
end Go.Proofs.YtjlijpaefdbohaaDoor
