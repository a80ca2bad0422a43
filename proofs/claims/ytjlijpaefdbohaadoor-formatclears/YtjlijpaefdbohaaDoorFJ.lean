/- keyOf: the key of an entry. -/
import Derived.Test.YtjlijpaefdbohaaDoorFI
set_option linter.unusedVariables false
namespace Go.Proofs.YtjlijpaefdbohaaDoor
open Go.RowKit

/-- a load of a key -/
theorem exec_loadK {w : World} {o : Oper} {a : Act} (x : Operand) (ho : o.op = Op.load 77 x) (B : Nat) (hx : a.eval x = .pointer (some ⟨B, 0, none⟩)) (cs : List Value) (hB : w.heap[B]? = some (.cells cs.toArray 77 (0, 0))) (hl : cs.length = 28) :
    (execOp a.eval o).run Tryd.prog w = .ok (.value (.agg cs.toArray)) w := by
  have hr := run_loadVar_row (P := Tryd.prog) w B 77 77 cs.toArray (0, 0) _ hB Tryd.underlying77 rfl (by simp only [List.size_toArray, hl]; kernel_rfl)
  unfold execOp
  simp only [ho, hx, Instr.loadAt, Instr.sureAddr, Sem.run_bind, Sem.run_pure, Result.andThen_ok, hr]

theorem wpList_loadK {w : World} {ops : Array Oper} {rest : List Oper} {o : Oper} {a : Act} {Q : Exit → Act → World → Prop} (hgd : o.guard = none) (x : Operand) (ho : o.op = Op.load 77 x) (B : Nat) (hx : a.eval x = .pointer (some ⟨B, 0, none⟩))
    (cs : List Value) (hB : w.heap[B]? = some (.cells cs.toArray 77 (0, 0))) (hl : cs.length = 28) (h : wpList Tryd.prog ops Q rest (a.put o.dst (.agg cs.toArray)) w) : wpList Tryd.prog ops Q (o :: rest) a w := by
  refine wpList_plain hgd fun K hK => ?_
  have hr := run_loadVar_row (P := Tryd.prog) w B 77 77 cs.toArray (0, 0) _ hB Tryd.underlying77 rfl (by simp only [List.size_toArray, hl]; kernel_rfl)
  unfold Oper.wp execOp
  simp only [ho, hx, Instr.loadAt, Instr.sureAddr, Sem.run_bind, Sem.run_pure, Result.andThen_ok, hr]
  exact hK _ _ h
theorem wpList_storeK {w : World} {ops : Array Oper} {rest : List Oper} {o : Oper} {a : Act} {Q : Exit → Act → World → Prop} (hgd : o.guard = none) (x y : Operand) (ho : o.op = Op.store 77 x y) (B : Nat) (hx : a.eval x = .pointer (some ⟨B, 0, none⟩))
    (cs : List Value) (hy : a.eval y = .agg cs.toArray) (old : Array Value) (hB : w.heap[B]? = some (.cells old 77 (0, 0))) (hl : cs.length = 28) (ho28 : old.size = 28) (h1 : ∀ u ∈ cs, u.oneCell' = true) (h : wpList Tryd.prog ops Q rest (a.put o.dst undef) (w.setRow B cs.toArray)) : wpList Tryd.prog ops Q (o :: rest) a w := by
  refine wpList_plain hgd fun K hK => ?_
  have hr := run_storeVar_row (P := Tryd.prog) w B 77 77 old cs.toArray hB (by simp only [List.size_toArray, hl]; kernel_rfl) (by simp [hl, ho28]) (by simpa using h1)
  unfold Oper.wp execOp
  simp only [ho, hx, hy, Instr.storeAt, Instr.sureAddr, Sem.run_bind, Sem.run_pure, Result.andThen_ok, hr]
  exact hK _ _ h
theorem run_storeK (w : World) (B : Nat) (old : Array Value) (cs : List Value) (hB : w.heap[B]? = some (.cells old 77 (0, 0))) (hl : cs.length = 28) (ho : old.size = 28) (h1 : ∀ u ∈ cs, u.oneCell' = true) :
    (storeCells ⟨B, 0, none⟩ cs).run Tryd.prog w = .ok () (w.setRow B cs.toArray) := by
  have hst := run_storeCells_at Tryd.prog B 0 77 cs 0 old w hB (by omega) h1
  rw [hst]
  congr 3
  simp only [Nat.add_zero, List.take_zero, List.nil_append, Nat.zero_add]
  rw [List.drop_eq_nil_of_le (by simp; omega), List.append_nil]
theorem run_loadK (w : World) (B : Nat) (cs : List Value) (hB : w.heap[B]? = some (.cells cs.toArray 77 (0, 0))) (hl : cs.length = 28) :
    (loadCells ⟨B, 0, none⟩ 28).run Tryd.prog w = .ok cs.toArray w := by
  have := run_loadCells_list (P := Tryd.prog) w ⟨B, 0, none⟩ cs (cells_of hB)
  rw [hl] at this
  exact this
theorem results_key {fn : Func} (c : Nat) (hf : fn.results = #[.cell c 77]) {tm : Array Value} {w : World} {B : Nat} {cs : List Value} (h6 : tm.getD c undef = .pointer (some ⟨B, 0, none⟩)) (hB : w.heap[B]? = some (.cells cs.toArray 77 (0, 0))) (hl : cs.length = 28) :
    (results fn tm).run Tryd.prog w = .ok (.agg cs.toArray) w := by
  have hr := run_loadVar_row (P := Tryd.prog) w B 77 77 cs.toArray (0, 0) _ hB Tryd.underlying77 rfl (by simp only [List.size_toArray, hl]; kernel_rfl)
  simp only [Array.getD_eq_getD_getElem?] at h6
  simp [results, hf, asAddr, h6, hr]

/-- a key without attributes, so many told -/
def mK (m : Int) (nm : ByteArray) (n : Int) : List Value := [.int .i64 m, .string nm, .int .i64 n] ++ List.replicate 25 (.string ⟨#[]⟩)
theorem mK_len (m : Int) (nm : ByteArray) (n : Int) : (mK m nm n).length = 28 := rfl
theorem mK_one (m : Int) (nm : ByteArray) (n : Int) : ∀ u ∈ mK m nm n, u.oneCell' = true := by
  intro u hu
  simp only [mK, List.mem_append, List.mem_cons, List.mem_replicate, List.not_mem_nil, or_false] at hu
  rcases hu with (rfl | rfl | rfl) | hu
  · rfl
  · rfl
  · rfl
  · rw [hu.2]; rfl
theorem run_allocK (w : World) : (Instr.alloc 77 true (.tuple #[])).run Tryd.prog w = .ok (.pointer (some ⟨w.heap.size, 0, none⟩)) (w.alloc (.cells (mK 0 ⟨#[]⟩ 0).toArray 77)) := by kernel_rfl
theorem run_buildK (w : World) (m : Int) (nm : ByteArray) (n : Int) : (Instr.build 77 #[(0, .int .i64 m), (1, .string nm), (2, .int .i64 n)]).run Tryd.prog w = .ok (.agg (mK m nm n).toArray) w := by kernel_rfl
theorem wpList_allocK {w : World} {ops : Array Oper} {rest : List Oper} {o : Oper} {a : Act} {Q : Exit → Act → World → Prop} (hgd : o.guard = none) (ho : o.op = Op.alloc 77)
    (h : wpList Tryd.prog ops Q rest (a.put o.dst (.pointer (some ⟨w.heap.size, 0, none⟩))) (w.alloc (.cells (mK 0 ⟨#[]⟩ 0).toArray 77))) : wpList Tryd.prog ops Q (o :: rest) a w := by
  refine wpList_plain hgd fun K hK => ?_
  unfold Oper.wp execOp
  simp only [ho, Sem.run_bind, Sem.run_pure, Result.andThen_ok, run_allocK]
  exact hK _ _ h
theorem wpList_buildK {w : World} {ops : Array Oper} {rest : List Oper} {o : Oper} {a : Act} {Q : Exit → Act → World → Prop} (hgd : o.guard = none) (x y z : Operand) (ho : o.op = Op.build 77 #[(0, x), (1, y), (2, z)]) (m : Int) (nm : ByteArray) (n : Int)
    (hx : a.eval x = .int .i64 m) (hy : a.eval y = .string nm) (hz : a.eval z = .int .i64 n) (h : wpList Tryd.prog ops Q rest (a.put o.dst (.agg (mK m nm n).toArray)) w) : wpList Tryd.prog ops Q (o :: rest) a w := by
  refine wpList_plain hgd fun K hK => ?_
  unfold Oper.wp execOp
  simp only [ho, List.map_toArray, List.map_cons, List.map_nil, hx, hy, hz, Sem.run_bind, Sem.run_pure, Result.andThen_ok, run_buildK]
  exact hK _ _ h

theorem keyOf_cells (m : Int) (nm : ByteArray) (ats : List (ByteArray × ByteArray)) (n : Nat) (hn : ats.length = n) (hm : n ≤ 12) :
    (mK m nm n).take 3 ++ rowA ats ++ (mK m nm n).drop (3 + (rowA ats).length) = kC ⟨m, nm, ats⟩ := by
  have hl := rowA_len ats
  rw [mK, hl, hn]
  rw [List.take_append_of_le_length (by simp), List.drop_append, List.drop_eq_nil_of_le (by simp), List.nil_append]
  simp only [List.length_cons, List.length_nil, List.drop_replicate, kC, padA, hn]
  have e2 : (25 - (3 + n * 2 - (0 + 1 + 1 + 1))) = (24 - n * 2) + 1 := by omega
  rw [e2, List.replicate_succ']
  simp

theorem kC_one (k : Ky) : ∀ u ∈ kC k, u.oneCell' = true := by
  intro u hu
  simp only [kC, List.mem_cons, List.mem_append, padA, List.mem_replicate, List.not_mem_nil, or_false] at hu
  rcases hu with rfl | rfl | rfl | (hu | hu) | rfl
  · rfl
  · rfl
  · rfl
  · exact rowA_one _ _ hu
  · rw [hu.2]; rfl
  · rfl

theorem kC_last (k : Ky) (h : k.ats.length ≤ 12) {V : World} {b : Nat} (hV : V.heap[b]? = some (.cells (kC k).toArray 77)) : V.cell? ⟨b, 27, none⟩ = some (.string ⟨#[]⟩) ∧ V.frozen? ⟨b, 27, none⟩ = false ∧ V.setCell ⟨b, 27, none⟩ (.string ⟨#[]⟩) = V := by
  have hc27 : (kC k)[27]? = some (.string ⟨#[]⟩) := by
    simp only [kC, List.getElem?_cons_succ]
    rw [List.getElem?_append_right (by rw [padA_len k.ats h]; omega), padA_len k.ats h]
    rfl
  have hc : V.cell? ⟨b, 27, none⟩ = some (.string ⟨#[]⟩) := by simp only [World.cell?, hV]; simpa using hc27
  exact ⟨hc, by simp [World.frozen?, hV], set_same hc⟩

theorem keyOf_copy (w W : World) (m : Int) (nm : ByteArray) (ats : List (ByteArray × ByteArray)) (a : Option Addr) (n cap b : Nat) (hn : ats.length = n) (hm : n ≤ 12) (hat : n = 0 ∨ ∃ ad, a = some ad ∧ ∀ j u, (rowA ats)[j]? = some u → w.cell? (ad.add j) = some u) (hg : w.grownBy W none) (c2 : W.heap[b]? = some (.cells (mK m nm n).toArray 77)) :
    ∃ W1, (∀ ty, (Builtin.copy_ #[29, 29] ty #[.slice (some ⟨b, 3, none⟩) 12 12, .slice a n cap]).run Tryd.prog W.drew = .ok (goInt n) W1) ∧ W1.heap[b]? = some (.cells (kC ⟨m, nm, ats⟩).toArray 77) ∧ (∀ k, k ≠ b → W1.heap[k]? = W.heap[k]?) ∧ (∀ B, B ≤ b → Below B W W1) ∧ W1.heap.size = W.heap.size := by
  obtain ⟨i0, hii, hz0, hz1, hz2⟩ := info_parts infoAt
  have hce := keyOf_cells m nm ats n hn hm
  have hl := rowA_len ats
  rw [hn] at hl
  by_cases h0 : n = 0
  · subst h0
    have hat0 : ats = [] := List.eq_nil_of_length_eq_zero hn
    subst hat0
    refine ⟨W.drew, fun ty => run_copy_zero _ _ _ ty 53 _ _ _ _ _ _ Tryd.underlying29 (by rw [hii]; rfl) (by simp), ?_, fun k _ => rfl, fun B _ => (Below.refl _ _).drew, rfl⟩
    rw [← hce]
    exact c2
  · obtain ⟨ad, rfl, hc⟩ := hat.resolve_left h0
    refine ⟨W.drew.setRow b (kC ⟨m, nm, ats⟩).toArray, fun ty => ?_, setRow_heap _ _ _ _ _ _ c2, fun k hk => heap_setRow_other _ _ _ _ hk, fun B hB => below_setRow (Below.refl _ _).drew hB _, by simp [World.setRow]⟩
    rw [← hce]
    have := run_copy_at W.drew 29 29 ty 53 b 3 12 12 n cap n 2 ad (mK m nm n).toArray 77 (rowA ats) Tryd.underlying29 (by rw [hii]; simp [hz1]) c2 (by simp only [Nat.min_def]; split <;> omega) hl
      (fun j u hu => hg.cell (hc j u hu) (by simp)) (by rw [hl, List.size_toArray, mK_len]; omega) (rowA_one ats)
    exact this

set_option maxRecDepth 20000 in
set_option maxHeartbeats 2000000 in
theorem keyOf_any (id m : Int) (nm : ByteArray) (ats : List (ByteArray × ByteArray)) (av : Value) (w : World) (h : RowOn w av ats.length 2 (rowA ats)) (hm : ats.length ≤ 12) :
    Calls Tryd.prog 41 #[enV id nm av, .int .i64 m] w fun e w' => e = .returned (kV ⟨m, nm, ats⟩) ∧ Below w.heap.size w w' := by
  obtain ⟨hl, h1, a, cap, rfl, hc1, hc2, hat⟩ := h
  obtain ⟨n, hn⟩ : ∃ n, ats.length = n := ⟨_, rfl⟩
  rw [hn] at hm hc1 hat hl ⊢
  unfold maxLen at hc2
  obtain ⟨K0, hK0⟩ : ∃ K0, (mK 0 ⟨#[]⟩ 0).toArray = K0 := ⟨_, rfl⟩
  obtain ⟨K1, hK1⟩ : ∃ K1, (mK m nm n).toArray = K1 := ⟨_, rfl⟩
  obtain ⟨V, hV⟩ : ∃ V, ((w.alloc (.cells #[.int .i64 id, .string nm, .slice a n cap] 36)).alloc (.cells K0 77)).alloc (.cells K0 77) = V := ⟨_, rfl⟩
  have hB0 : Below w.heap.size w V := by rw [← hV]; exact (((Below.refl _ _).alloc (Nat.le_refl _) _).alloc (by simp) _).alloc (by simp; omega) _
  have hz0 : V.heap.size = w.heap.size + 3 := by rw [← hV]; simp
  have v0 : V.heap[w.heap.size]? = some (.cells #[.int .i64 id, .string nm, .slice a n cap] 36) := by
    rw [← hV, Below.heap_alloc _ _ _ (by simp; omega), Below.heap_alloc _ _ _ (by simp)]; exact heap_alloc_new w _
  have v1 : V.heap[w.heap.size + 1]? = some (.cells K0 77) := by
    rw [← hV, Below.heap_alloc _ _ _ (by simp)]
    have := heap_alloc_new (w.alloc (.cells #[.int .i64 id, .string nm, .slice a n cap] 36)) (.cells K0 77)
    rw [World.size_alloc] at this
    exact this
  have v2 : V.heap[w.heap.size + 1 + 1]? = some (.cells K0 77) := by
    rw [← hV]
    have := heap_alloc_new ((w.alloc (.cells #[.int .i64 id, .string nm, .slice a n cap] 36)).alloc (.cells K0 77)) (.cells K0 77)
    rw [World.size_alloc, World.size_alloc] at this
    exact this
  have hK0s : K0.size = 28 := by rw [← hK0]; rfl
  obtain ⟨W, hW⟩ : ∃ W, V.setRow (w.heap.size + 1 + 1) K1 = W := ⟨_, rfl⟩
  have hB : Below w.heap.size w W := by rw [← hW]; exact below_setRow hB0 (by omega) _
  have hz : W.heap.size = w.heap.size + 3 := by rw [← hW]; simp [World.setRow]; exact hz0
  have c2 : W.heap[w.heap.size + 1 + 1]? = some (.cells (mK m nm n).toArray 77) := by rw [← hW, hK1]; exact setRow_heap _ _ _ _ _ _ v2
  have c0 : W.heap[w.heap.size]? = some (.cells #[.int .i64 id, .string nm, .slice a n cap] 36) := by rw [← hW, heap_setRow_other _ _ _ _ (by omega)]; exact v0
  have c1 : W.heap[w.heap.size + 1]? = some (.cells K0 77) := by rw [← hW, heap_setRow_other _ _ _ _ (by omega)]; exact v1
  obtain ⟨W1, hr1, e2, eo, hB1', hz1⟩ := keyOf_copy w W m nm ats a n cap (w.heap.size + 1 + 1) hn hm hat (grown_below hB) c2
  have hB1 : Below w.heap.size w W1 := hB.trans (hB1' w.heap.size (by omega))
  have d0 : W1.heap[w.heap.size]? = some (.cells #[.int .i64 id, .string nm, .slice a n cap] 36) := (eo _ (by omega)).trans c0
  have d1 : W1.heap[w.heap.size + 1]? = some (.cells K0 77) := (eo _ (by omega)).trans c1
  have hk28 : (kC ⟨m, nm, ats⟩).length = 28 := by simp [kC, padA_len ats (by omega)]
  have hlast : ∀ V : World, V.heap[w.heap.size + 1 + 1]? = some (.cells (kC ⟨m, nm, ats⟩).toArray 77) → V.cell? ⟨w.heap.size + 1 + 1, 27, none⟩ = some (.string ⟨#[]⟩) ∧ V.frozen? ⟨w.heap.size + 1 + 1, 27, none⟩ = false ∧ V.setCell ⟨w.heap.size + 1 + 1, 27, none⟩ (.string ⟨#[]⟩) = V := fun V hV => kC_last _ (by show ats.length ≤ 12; omega) hV
  obtain ⟨p0, p1, p2, pf⟩ := three_at v0
  obtain ⟨q0, q1, q2, qf⟩ := three_at c0
  obtain ⟨x0, x1, x2, xf⟩ := three_at d0
  have hbox : ∀ o, ((w.alloc (.cells #[.int .i64 id, .string nm, .slice a n cap] 36)).alloc o).cell? ⟨w.heap.size, 1, none⟩ = some (.string nm) ∧ ((w.alloc (.cells #[.int .i64 id, .string nm, .slice a n cap] 36)).alloc o).cell? ⟨w.heap.size, 2, none⟩ = some (.slice a n cap) := fun o => by
    have e : ((w.alloc (.cells #[.int .i64 id, .string nm, .slice a n cap] 36)).alloc o).heap[w.heap.size]? = some (.cells #[.int .i64 id, .string nm, .slice a n cap] 36) := by rw [Below.heap_alloc _ _ _ (by simp)]; exact heap_alloc_new w _
    exact ⟨(three_at e).2.1, (three_at e).2.2.1⟩
  have HBX := Fact.mk hbox
  have hst1 : (storeCells ⟨w.heap.size + 1 + 1, 0, none⟩ (mK m nm n)).run Tryd.prog V = .ok () W := by
    rw [← hW, ← hK1]; exact run_storeK V _ _ _ v2 (mK_len _ _ _) hK0s (mK_one _ _ _)
  have HV := Fact.mk hV
  have HW := Fact.mk hW
  have HK0 := Fact.mk hK0
  have HK1 := Fact.mk hK1
  have HS0 := Fact.mk hK0s
  have V2 := Fact.mk v2
  have HB1 := Fact.mk hB1
  have E2 := Fact.mk e2
  have D1 := Fact.mk d1
  have HL := Fact.mk hlast
  have H28 := Fact.mk hk28
  have HZ1 := Fact.mk (hz1.trans hz)
  have hr1' := hr1 3
  obtain ⟨y1, y2⟩ := hbox (.cells K0 77)
  clear hbox hlast hW hB1 e2 d1 hr1 eo d0 c0 c1 c2 hB hz hat hl h1 qf xf pf hk28 hz1 v0 v1 v2 hV hK0 hK1 hK0s hB0 hz0 hB1'
  have tok1 : True := trivial
  go_enter Tryd.func41, Tryd.ntmps41
  go_wp2_with (first
    | (have _t := tok1; with_reducible refine wpList_allocK rfl rfl ?_; rw [HK0.out]; clear tok1 _t)
    | (with_reducible refine wpList_buildK rfl (.tmp 7) (.tmp 9) (.tmp 12) rfl m nm n rfl rfl rfl ?_)
    | (with_reducible refine wpList_allocK rfl rfl ?_; rw [HK0.out, HV.out]))
  go_region
  by_cases hcc : cap = n
  all_goals
    go_wp2_with (first
      | (go_at_call 48; refine (joined_nil _ _ _).mono ?_; rintro e w2 ⟨rfl, hb2⟩; have f2 : w2.heap[w.heap.size + 1 + 1]? = some (.cells (kC ⟨m, nm, ats⟩).toArray 77) := (hb2.block _ (by have := HZ1.out; omega)).trans E2.out; have f1 : w2.heap[w.heap.size + 1]? = some (.cells K0 77) := (hb2.block _ (by have := HZ1.out; omega)).trans D1.out; obtain ⟨l1, l2, l3⟩ := HL.out w2 f2; have HB2 := Fact.mk (HB1.out.trans (hb2.mono (by have := HZ1.out; omega))); have F1 := Fact.mk f1; have F2 := Fact.mk f2; have hst2 := run_storeK w2 _ _ (kC ⟨m, nm, ats⟩) f1 H28.out HS0.out (kC_one _); have h28 := H28.out; clear f1 f2 hb2 HL)
      | (with_reducible refine wpList_loadK rfl (.tmp 5) rfl (w.heap.size + 1 + 1) rfl (kC ⟨m, nm, ats⟩) F2.out H28.out ?_))
    refine bodyPost_ret (results_key 4 rfl rfl (setRow_heap _ _ _ _ _ _ F1.out) H28.out) rfl ?_
    exact ⟨rfl, below_setRow HB2.out (by omega) _⟩
end Go.Proofs.YtjlijpaefdbohaaDoor
