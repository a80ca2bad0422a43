/- All: what holds while the list grows. -/
import Derived.Test.YtdniddiaiinggaaDoorXI
import Derived.Test.YtdniddiaiinggaaDoorUC
import Derived.Test.YtdniddiaiinggaaDoorXL
import Derived.RangeFuncBox
import Derived.Maps.AppendAt
set_option linter.unusedVariables false
namespace Go.Proofs.YtdniddiaiinggaaDoor
open Go.RowKit M

def cells5 (p : Tk × Value) : List Value := [.int .i64 p.1.kd, .string p.1.n, .string p.1.x, p.2, .bool p.1.raw]
def cellsT (l : List (Tk × Value)) : List Value := l.flatMap cells5
theorem cellsT_append (a b : List (Tk × Value)) : cellsT (a ++ b) = cellsT a ++ cellsT b := by simp [cellsT]
theorem cellsT_one (p : Tk × Value) : cellsT [p] = cells5 p := by simp [cellsT]
theorem cellsT_len (l : List (Tk × Value)) : (cellsT l).length = l.length * 5 := by
  induction l with
  | nil => rfl
  | cons p r ih =>
    have : cellsT (p :: r) = cells5 p ++ cellsT r := by simp [cellsT]
    rw [this, List.length_append, ih, List.length_cons]
    show 5 + _ = _
    omega
theorem own_ne {w : World} {B B' E E' z z' n n' : Nat} {v v' : Value} {xs xs' : List Value} (h : w.ownsRow B E z v n xs) (h' : w.ownsRow B' E' z' v' n' xs') (hE : E ≠ E') {b : Nat} (hb : some b = v.ownBlock) : some b ≠ v'.ownBlock := by
  intro hb'
  rcases h.2 with ⟨rfl, _⟩ | ⟨g, cap, cur, rfl, _, hg, _⟩
  · cases hb
  rcases h'.2 with ⟨rfl, _⟩ | ⟨g', cap', cur', rfl, _, hg', _⟩
  · cases hb'
  have e : b = g := Option.some.inj hb
  have e' : b = g' := Option.some.inj hb'
  subst e
  subst e'
  rw [hg] at hg'
  injection Option.some.inj hg' with _ h2
  exact hE h2
theorem ownBlock_none_of (w : World) : ∀ b, some b = (Value.slice none 0 0).ownBlock → False := fun b e => by cases e

/-- the list so far, in a box of its caller's, its attributes in new memory; the iterator's blocks are others -/
structure ScI (w : World) (B X : Nat) (T : Nat → Prop) (W : World) (its : List (Tk × Value)) (v : Value) : Prop where
  below : Below w.heap.size w W
  size : B ≤ W.heap.size
  mine : ∀ k, T k → B ≤ k
  cell : W.cell? ⟨X, 0, none⟩ = some v
  froz : W.frozen? ⟨X, 0, none⟩ = false
  row : W.ownsRow B 27 5 v its.length (cellsT its)
  notT : ∀ b, some b = v.ownBlock → ¬ T b
  avs : ∀ y ∈ its, W.ownsRow B 30 2 y.2 y.1.at_.length (rowA y.1.at_) ∧ ∀ b, some b = y.2.ownBlock → ¬ T b
theorem ScI.bide {w : World} {B X : Nat} {T T' : Nat → Prop} {W W' : World} {its : List (Tk × Value)} {v : Value} (h : ScI w B X T W its v) (hX : X < B) (hwB : w.heap.size ≤ B) (hk : Kept (fun k => ¬ T k) W W') (hT : ∀ k, T' k → T k ∨ W.heap.size ≤ k) : ScI w B X T' W' its v := by
  have hs := hk.size
  have hw := h.below.size
  have hz := h.size
  have nX : ¬ T X := fun e => by have := h.mine _ e; omega
  have nT : ∀ {b : Nat} {E z n : Nat} {u : Value} {xs : List Value}, W.ownsRow B E z u n xs → some b = u.ownBlock → ¬ T b → ¬ T' b := fun hr hb hn e => by
    rcases hT _ e with e | e
    · exact hn e
    · have := (hr.lt _ hb.symm).2
      omega
  refine ⟨h.below.trans ⟨hk.os, hk.tape, hk.output, hk.size, fun k hk' => hk.block k (by omega) (fun e => by have := h.mine _ e; omega)⟩, by omega, fun k e => ?_, hk.cell nX h.cell, ?_, own_block h.row (fun k e hk' => hk.block k hk' (h.notT k e)), fun b hb => nT h.row hb (h.notT b hb), fun y hy => ?_⟩
  · rcases hT k e with e | e
    · exact h.mine k e
    · omega
  · exact (World.frozen?_of_block (a := ⟨X, 0, none⟩) (hk.block X (by omega) nX)).trans h.froz
  · have ha := h.avs y hy
    exact ⟨own_block ha.1 (fun k e hk' => hk.block k hk' (ha.2 k e)), fun b hb => nT ha.1 hb (ha.2 b hb)⟩
/-- a token more -/
theorem ScI.come {w : World} {B X : Nat} {T : Nat → Prop} {W W1 w3 : World} {its : List (Tk × Value)} {v v' : Value} {o : Obj} {t : Tk} {av : Value} (h : ScI w B X T W its v) (hX : w.heap.size ≤ X ∧ X < B) (hT : ∀ k, T k → k < W.heap.size)
    (ha : W.ownsRow B 30 2 av t.at_.length (rowA t.at_)) (hna : ∀ b, some b = av.ownBlock → ¬ T b) (h1 : W1.heap = (W.alloc o).heap ∧ W1.os = W.os ∧ W1.tape = W.tape ∧ W1.output = W.output)
    (hown : w3.ownsRow B 27 5 v' (its.length + 1) (cellsT its ++ cells5 (t, av))) (hgr : W1.grownBy w3 v.ownBlock) (hat : v'.ownBlock = v.ownBlock ∨ v'.ownBlock = some W1.heap.size) :
    Kept (fun k => T k ∨ (k < B ∧ k ≠ X)) W (w3.setCell ⟨X, 0, none⟩ v') ∧ ScI w B X T (w3.setCell ⟨X, 0, none⟩ v') (its ++ [(t, av)]) v' := by
  have hsz := h.size
  have hz1 : W1.heap.size = W.heap.size + 1 := by rw [h1.1]; simp
  have hz3 := hgr.size
  have hzs : (w3.setCell ⟨X, 0, none⟩ v').heap.size = w3.heap.size := by simp [World.setCell]
  have hne : ∀ k, k < B → some k ≠ v.ownBlock := fun k hk e => by have := (h.row.lt k e.symm).1; omega
  have blk : ∀ k, k < W.heap.size → k ≠ X → some k ≠ v.ownBlock → (w3.setCell ⟨X, 0, none⟩ v').heap[k]? = W.heap[k]? := fun k hk hX' hn => by
    rw [Below.heap_setCell _ _ _ _ hX', hgr.block k (by omega) hn, h1.1]
    exact Below.heap_alloc _ _ _ hk
  have hX3 : w3.heap[X]? = W.heap[X]? := by
    rw [hgr.block X (by omega) (hne X (by omega)), h1.1, Below.heap_alloc _ _ _ (by omega)]
  have os' : (w3.setCell ⟨X, 0, none⟩ v').os = W.os := hgr.os.trans h1.2.1
  have tp' : (w3.setCell ⟨X, 0, none⟩ v').tape = W.tape := hgr.tape.trans h1.2.2.1
  have ou' : (w3.setCell ⟨X, 0, none⟩ v').output = W.output := hgr.output.trans h1.2.2.2
  have row' : ∀ {u : Value} {n : Nat} {xs : List Value}, W.ownsRow B 30 2 u n xs → (w3.setCell ⟨X, 0, none⟩ v').ownsRow B 30 2 u n xs := fun hr =>
    own_block hr (fun k e hk => blk k hk (by have := (hr.lt k e.symm).1; omega) (own_ne hr h.row (by decide) e))
  refine ⟨⟨os', tp', ou', by omega, fun k hk hc => ?_⟩, h.below.trans ⟨os', tp', ou', by omega, fun k hk => blk k (by have := h.below.size; omega) (by omega) (hne k (by omega))⟩, by omega, h.mine, ?_, ?_, ?_, fun b hb' hTb => ?_, fun y hy => ?_⟩
  · rcases hc with hc | hc
    · exact blk k hk (fun e => by have := h.mine k hc; omega) (fun e => h.notT k e hc)
    · exact blk k hk hc.2 (hne k hc.1)
  · exact World.cell?_setCell_same' _ _ _ (by rw [World.cell?_of_block (w := W) (a := ⟨X, 0, none⟩) hX3, h.cell]; rfl)
  · rw [World.frozen?_setCell, World.frozen?_of_block (w := W) (a := ⟨X, 0, none⟩) hX3]; exact h.froz
  · rw [List.length_append, List.length_singleton, cellsT_append, cellsT_one]
    exact own_block hown (fun k e hk => Below.heap_setCell _ _ _ _ (fun e' => by have := (hown.lt k e.symm).1; have e2 : k = X := e'; omega))
  · rcases hat with h' | h'
    · exact h.notT b (hb'.trans h') hTb
    · have := Option.some.inj (hb'.trans h')
      have := hT b hTb
      omega
  · rcases List.mem_append.1 hy with hy | hy
    · exact ⟨row' (h.avs y hy).1, (h.avs y hy).2⟩
    · rw [List.mem_singleton] at hy
      subst hy
      exact ⟨row' ha, hna⟩
theorem infoTok : (Tryd.prog.info? 27).map (fun i => (i.zero, i.size, i.bytes)) = some (some (.agg #[.int .i64 0, .string ⟨#[]⟩, .string ⟨#[]⟩, .slice none 0 0, .bool false]), 5, 72) := by kernel_rfl
theorem cells_new (w : World) (c : Array Value) (t : TypeId) : ∀ j u, c.toList[j]? = some u → (w.alloc (.cells c t)).cell? ((⟨w.heap.size, 0, none⟩ : Addr).add j) = some u := fun j u h => by
  have e : (⟨w.heap.size, 0, none⟩ : Addr).add j = ⟨w.heap.size, j, none⟩ := by cases j <;> simp [Addr.add]
  rw [e]
  refine (World.cell?_alloc_new w c t j).trans ?_
  simpa using h
/-- an append of one token to a list of the call's own -/
theorem app_tok {W : World} {B : Nat} {its : List (Tk × Value)} {v : Value} (t : Tk) (a1 : Option Addr) (a2 a3 : Nat) (hrow : W.ownsRow B 27 5 v its.length (cellsT its)) (hB : B ≤ W.heap.size) (hlen : its.length ≤ 1000000000) :
    ∃ g' cap' w3, (Builtin.append_ #[23, 23] 23 #[v, .slice (some ⟨W.heap.size, 0, none⟩) 1 1]).run Tryd.prog (W.alloc (.cells #[.int .i64 t.kd, .string t.n, .string t.x, .slice a1 a2 a3, .bool t.raw] 27)) = .ok (.slice (some ⟨g', 0, none⟩) (its.length + 1) cap') w3 ∧
      w3.ownsRow B 27 5 (.slice (some ⟨g', 0, none⟩) (its.length + 1) cap') (its.length + 1) (cellsT its ++ cells5 (t, .slice a1 a2 a3)) ∧ (W.alloc (.cells #[.int .i64 t.kd, .string t.n, .string t.x, .slice a1 a2 a3, .bool t.raw] 27)).grownBy w3 v.ownBlock ∧
      ((Value.slice (some ⟨g', 0, none⟩) (its.length + 1) cap').ownBlock = v.ownBlock ∨ (Value.slice (some ⟨g', 0, none⟩) (its.length + 1) cap').ownBlock = some (W.heap.size + 1)) := by
  obtain ⟨i0, hi, hz0', hz1, hz2⟩ := info_split infoTok
  obtain ⟨W1, hW1⟩ : ∃ W1, W.alloc (.cells #[.int .i64 t.kd, .string t.n, .string t.x, .slice a1 a2 a3, .bool t.raw] 27) = W1 := ⟨_, rfl⟩
  have hzW : W1.heap.size = W.heap.size + 1 := by rw [← hW1]; simp
  have hrow1 : W1.ownsRow B 27 5 v its.length (cellsT its) := by rw [← hW1]; exact hrow.alloc _
  obtain ⟨v', w3, hrun, hown3, hgr, _, hat3⟩ := run_append_own_at (P := Tryd.prog) W1 B 23 23 27 i0 _ 5 72 Tryd.underlying23 hi hz0' hz1 hz2 rfl (by decide) v its.length (cellsT its) hrow1 ⟨W.heap.size, 0, none⟩ 1 1 (cells5 (t, .slice a1 a2 a3)) rfl (by rw [← hW1]; exact cells_new W _ _) (by simp [cells5, Value.oneCell']) (by unfold maxLen; omega) (by omega) (by omega)
  obtain ⟨g', cap', rfl⟩ := ownsRow_succ hown3
  rw [hW1]
  rw [hzW] at hat3
  exact ⟨g', cap', w3, hrun, hown3, hgr, hat3⟩
end Go.Proofs.YtdniddiaiinggaaDoor
/- All: what it answers. -/
set_option linter.unusedVariables false
set_option linter.unusedSimpArgs false
namespace Go.Proofs.YtdniddiaiinggaaDoor
open Go.RowKit M
attribute [local go_sem] Oper.semAt_some

/-- what was said -/
def sayd (tr : List Pc) : List Tk := (tr.filter (·.ok)).map (·.t)
theorem sayd_snoc (tr : List Pc) (x : Pc) : sayd (tr ++ [x]) = sayd tr ++ (if x.ok = true then [x.t] else []) := by
  unfold sayd
  rw [List.filter_append, List.map_append]
  congr 1
  cases h : x.ok <;> simp [h]
theorem sayd_len (tr : List Pc) : (sayd tr).length ≤ tr.length := by
  unfold sayd
  rw [List.length_map]
  exact List.length_filter_le _ _
theorem snoc_ind {α : Type} {P : List α → Prop} (h0 : P []) (h1 : ∀ l x, P l → P (l ++ [x])) (l : List α) : P l := by
  have key : ∀ n (l : List α), l.length = n → P l := by
    intro n
    induction n with
    | zero => intro l h; rw [List.eq_nil_of_length_eq_zero h]; exact h0
    | succ n ih =>
      intro l h
      rcases List.eq_nil_or_concat l with rfl | ⟨q, z, rfl⟩
      · exact h0
      · rw [List.concat_eq_append] at h ⊢
        exact h1 q z (ih q (by simpa using h))
  exact key _ l rfl
/-- pieces ahead of the end -/
theorem TrR.len {l : List UInt8} (tr : List Pc) : TrR l tr → (∀ y ∈ tr, y.t.kd ≠ 6) → tr.length ≤ (posS tr).1 ∧ (posS tr).1 ≤ l.length := by
  refine snoc_ind (P := fun tr => TrR l tr → (∀ y ∈ tr, y.t.kd ≠ 6) → tr.length ≤ (posS tr).1 ∧ (posS tr).1 ≤ l.length) ?_ ?_ tr
  · intro _ _
    exact ⟨Nat.le_refl _, Nat.zero_le _⟩
  · intro tr x ih h h6
    have h1 := ih h.pre (fun y hy => h6 y (List.mem_append_left _ hy))
    have h2 := h.last.goes h1.2
    have h3 := h6 x (by simp)
    rw [posS_snoc, List.length_append, List.length_singleton]
    simp only
    omega
/-- tokens as they lie in memory -/
structure TokL (w : World) (B : Nat) (v : Value) (its : List (Tk × Value)) : Prop where
  row : w.ownsRow B 27 5 v its.length (cellsT its)
  avs : ∀ y ∈ its, w.ownsRow B 30 2 y.2 y.1.at_.length (rowA y.1.at_)
abbrev endTk : Tk := ⟨6, ⟨#[]⟩, ⟨#[]⟩, [], false⟩
structure AllI (w : World) (B X : Nat) (pre : List Pc) (T : Nat → Prop) (W : World) : Prop where
  is : (∀ y ∈ pre, y.t.kd ≠ 6) ∧ ∃ its v, ScI w B X T W its v ∧ its.map (·.1) = sayd pre
structure AllX (w : World) (B X : Nat) (c : Code) (pre : List Pc) (T : Nat → Prop) (W : World) : Prop where
  is : c = .exit 0 ∧ T (B + 1) ∧ ∃ pre0 x, pre = pre0 ++ [x] ∧ x.t.kd = 6 ∧ (∀ y ∈ pre0, y.t.kd ≠ 6) ∧ ∃ its v, ScI w B X T W its v ∧ its.map (·.1) = sayd pre0
/-- what All answers -/
structure AllR (w : World) (l : List UInt8) (w' : World) (v : Value) (tr : List Pc) (x : Pc) (its : List (Tk × Value)) : Prop where
  below : Below w.heap.size w w'
  trs : TrR l (tr ++ [x])
  six : x.t.kd = 6
  no6 : ∀ y ∈ tr, y.t.kd ≠ 6
  map : its.map (·.1) = sayd tr
  toks : TokL w' w.heap.size v (its ++ [(endTk, .slice none 0 0)])
theorem wpListIn_append_at {F : Fence} {n : Nat} {P : Program} (w : World) {ops : Array Oper} {rest : List Oper} {o : Oper} {a : Act} {Q : Exit → Act → World → Prop}
    (hg : o.guard = none) (s x : Operand) (t : TypeId) (hop : o.op = Op.call { callee := Callee.builtin Builtin.append, args := #[s, x], argTypes := #[t, t] })
    (base : Nat) (e : TypeId) (i : TypeInfo) (z : Value) (size bytes : Nat) (h1 : P.underlying t = some (.slice e)) (h2 : P.info? e = some i) (h3 : i.zero = some z) (h4 : i.size = size) (h5 : i.bytes = bytes) (h6 : z.cells.size = size) (h7 : 0 < size)
    (v : Value) (k : Nat) (xs : List Value) (hs : a.eval s = v) (hown : w.ownsRow base e size v k xs) (ad : Addr) (m c : Nat) (news : List Value) (hx : a.eval x = .slice (some ad) m c) (hn : news.length = m * size)
    (hc : ∀ j u, news[j]? = some u → w.cell? (ad.add j) = some u) (h1c : ∀ u ∈ news, u.oneCell' = true) (b1 : k + m ≤ maxLen) (b2 : (k + m) * bytes ≤ 140737488355328) (b3 : base ≤ w.heap.size)
    (hK : ∀ v' w', w'.ownsRow base e size v' (k + m) (xs ++ news) → w.grownBy w' v.ownBlock → (v'.ownBlock = v.ownBlock ∨ v'.ownBlock = some w.heap.size) → wpListIn F n P ops Q rest (a.put o.dst v') w') :
    wpListIn F n P ops Q (o :: rest) a w := by
  refine wpListIn_plain hg fun K hK' => ?_
  obtain ⟨v', w', hrun, r1, r2, _, r3⟩ := run_append_own_at (P := P) w base t o.type e i z size bytes h1 h2 h3 h4 h5 h6 h7 v k xs hown ad m c news hn hc h1c b1 b2 b3
  unfold Oper.wpIn
  refine ⟨?_, ?_⟩
  · simp [Oper.about, hop, resolve, Target.leads, Sem.run_pure]
  · rw [Oper.semAt_plain F _ _ (by rw [hop]; intro c hc'; cases hc')]
    simp [execOp, hop, resolve, invoke, builtin, hs, hx, hrun, Result.andThen]
    exact hK' _ _ (hK v' w' r1 r2 r3)
theorem fold2 (t : Array Value) (p q : Tmp) (u v : Value) : (#[p, q].zip #[u, v]).foldl (fun t (x, y) => t.setIfInBounds x y) t = (t.setIfInBounds p u).setIfInBounds q v := by
  simp
theorem five_put {W : World} {b l : Nat} {v0 v1 v2 v3 v4 : Value} (F : Five W b v0 v1 v2 v3 v4) (hb : b ≠ l) (o : Obj) : Five (W.putObj l o) b v0 v1 v2 v3 v4 := by
  exact F.same (World.putObj_heap_other hb)
theorem StpR.six {l : List UInt8} {k : Nat} {raw : List UInt8} {p : Pc} (h : StpR l k raw p) (h6 : p.t.kd = 6) : p.ok = true := by
  unfold StpR at h
  split at h
  · rename_i h1
    exact absurd h6 (h.goes h1).kd
  · exact h.2.2
set_option maxRecDepth 100000 in
set_option maxHeartbeats 4000000 in
theorem all_in (n : Nat) (hn : 4 ≤ n) (s : ByteArray) (hs : s.size ≤ 20000) (w : World) (hl : Laid w) :
    CallsIn Fence.wide n Tryd.prog 9 #[.string s] w fun e w' => ∃ v tr x its, e = .returned v ∧ AllR w (U.C false s.data.toList) w' v tr x its := by
  have h1 : 1 ≤ n := by omega
  have HL := Fact.mk hl
  clear hl
  obtain ⟨S, hS⟩ : ∃ S : ByteArray, (⟨(U.C false s.data.toList).toArray⟩ : ByteArray) = S := ⟨_, rfl⟩
  have hSd : U.C false s.data.toList = S.data.toList := by rw [← hS]
  have hSs : S.size ≤ 60000 := by
    rw [Lib.size_eq, ← hSd]
    have := U.C_len s.data.toList false
    rw [← Lib.size_eq] at this
    omega
  refine callsIn_of_wp_marks Tryd.func9 rfl trivial ?_ rfl
  simp only [Tryd.ntmps9, List.size_toArray, List.length_cons, List.length_nil, Nat.reduceAdd, Nat.reduceSub, Array.replicate_succ, Array.replicate_zero, List.push_toArray, List.append_toArray, List.nil_append, List.cons_append]
  gi_wp2
  refine wpIn_scope ?_
  gi_wp2
  refine wpIn_label ?_
  gi_wp2_with (first | (refine ⟨trivial, ?_⟩; gi_at_call 19; refine (callsIn_wide.2 (clean_any s _ hs)).mono ?_; rintro e w2 ⟨rfl, hb2⟩; have HB2 := Fact.mk hb2; rw [hS]; clear hb2) | (refine ⟨trivial, ?_⟩; gi_at_call 18; refine (pieces_call _ _ _).mono ?_; rintro e w3 ⟨rfl, rfl⟩))
  obtain ⟨W0, hW0⟩ : ∃ W0, w2.alloc (.cells #[.string S] 9) = W0 := ⟨_, rfl⟩
  have hz0 : W0.heap.size = w2.heap.size + 1 := by rw [← hW0]; simp
  have hw2 : w.heap.size + 1 ≤ w2.heap.size := by have := HB2.out.size; rw [World.size_alloc] at this; exact this
  have hBa : Below w.heap.size w (w.alloc (.cells #[.slice none 0 0] 23)) := bl1 w _
  have hBw2 : Below w.heap.size w w2 := hBa.trans (HB2.out.mono hBa.size)
  have hB0 : Below w.heap.size w W0 := by rw [← hW0]; exact hBw2.alloc hBw2.size _
  have hX0 : W0.heap[w.heap.size]? = some (.cells #[.slice none 0 0] 23) := by
    rw [← hW0, Below.heap_alloc _ _ _ (by omega), HB2.out.block _ (by simp)]
    exact World.alloc_heap_new w _
  have hcx : W0.cell? ⟨w.heap.size, 0, none⟩ = some (.slice none 0 0) := by simp only [World.cell?, hX0]; rfl
  have hfx : W0.frozen? ⟨w.heap.size, 0, none⟩ = false := by simp [World.frozen?, hX0]
  have hcs : W0.cell? ⟨w2.heap.size, 0, none⟩ = some (.string S) := by rw [← hW0]; exact World.cell?_alloc_new w2 _ _ 0
  rw [hW0]
  have hgv := pieces_tells (n - 1) (by omega) w2.heap.size S ⟨by omega⟩ (fun k => k < W0.heap.size ∧ k ≠ w.heap.size) ⟨by omega, by omega⟩ (by have := HL.out.pos; have := hB0.size; exact ⟨by omega, by omega⟩) W0 (by omega) (HL.out.since hB0) hcs
  refine wpIn_rangeX rfl h1 (gf := 30) (lb := #[.pointer (some ⟨w2.heap.size, 0, none⟩)]) rfl trivial (enters_of Tryd.func30 (by kernel_rfl) rfl) hgv (fun k h => h.1) (Below.refl _ _) (fun B T W x args h => by obtain ⟨v, rfl, _⟩ := h; rfl) (fun T T' W W' x args h h1 h2 => h.keep h1 h2)
    (AllI w W0.heap.size w.heap.size)
    (AllX w W0.heap.size w.heap.size)
    (fun s T T' A B hs hk hT => by obtain ⟨h6, its, v, h, hm⟩ := hs; exact ⟨h6, its, v, h.bide (by omega) hB0.size hk hT, hm⟩)
    (fun c s T W o h hl => by
      obtain ⟨hc, hT, pre0, x, e, h6, hn6, its, v, h, hm⟩ := h
      exact ⟨hc, hT, pre0, x, e, h6, hn6, its, v, h.bide (by omega) hB0.size (Kept.putObj o (fun h => h hT)) (fun k h => .inl h), hm⟩)
    ⟨(fun _ h => (by cases h)), [], .slice none 0 0, ⟨hB0, Nat.le_refl _, fun _ h => h.elim, hcx, hfx, World.ownsRow_nil _ _ _ _, (fun b e => by cases e), (fun _ h => (by cases h))⟩, rfl⟩
    (fun tr T W h e => by obtain ⟨pre, x, rfl, e6⟩ := e; exact h.is.1 x (by simp) e6)
    (fun args a' W => ∃ (kd : Int) (nm x : ByteArray) (a1 : Option Addr) (a2 a3 : Nat) (r ok : Bool) (b : Nat), args = #[tokV kd nm x (.slice a1 a2 a3) r, .bool ok] ∧ a' = { tmps := #[.string s, undef, .slice none 0 0, .pointer (some ⟨w.heap.size, 0, none⟩), .pointer (some ⟨b, 0, none⟩), .bool ok, .string s, .string S, .func (.func 30) #[] #[.pointer (some ⟨w2.heap.size, 0, none⟩)], tokV kd nm x (.slice a1 a2 a3) r, .bool ok, undef, undef, undef, undef, undef, undef, undef, undef, undef, undef, undef, undef, undef, undef, undef], defers := [] } ∧ Five W b (.int .i64 kd) (.string nm) (.string x) (.slice a1 a2 a3) (.bool r) ∧ W0.heap.size + 1 < b)
    (fun args a' W o h hl => by obtain ⟨kd, nm, x, a1, a2, a3, r, ok, b, e1, e2, F, hb⟩ := h; exact ⟨kd, nm, x, a1, a2, a3, r, ok, b, e1, e2, five_put F (by omega) o, hb⟩)
    ?assign ?body ?stop
  case assign =>
    intro l x T args W K henc hlt hK
    obtain ⟨v, rfl, hrow, hnT⟩ := henc
    obtain ⟨va, vc, rfl⟩ := row_slice hrow
    rw [fold2]
    gi_wp2
    exact hK _ _ (bl1 W _) ⟨_, _, _, _, _, _, _, _, _, rfl, rfl, Five.new W _ _ _ _ _ _, hlt⟩
  case body =>
    rintro l pre x T args a' W ⟨⟨h6, its, v, hI, hm⟩⟩ ⟨v', e1, hrow, hnT⟩ ⟨kd, nm, X, a1, a2, a3, r, ok, b, rfl, rfl, F, hb⟩ hG hT hlt hTL
    obtain ⟨⟨kd', nm', X', AA, r'⟩, E, ok'⟩ := x
    dsimp only at e1 hrow
    obtain ⟨rfl, rfl, rfl, rfl, rfl, rfl⟩ : kd = kd' ∧ nm = nm' ∧ X = X' ∧ v' = .slice a1 a2 a3 ∧ r = r' ∧ ok = ok' := by
      simp [tokV] at e1
      exact ⟨e1.1.1, e1.1.2.1, e1.1.2.2.1, e1.1.2.2.2.1.symm, e1.1.2.2.2.2, e1.2⟩
    have HG := Fact.mk hG
    have HI := Fact.mk hI
    have HM := Fact.mk hm
    have HROW := Fact.mk hrow
    have HT := Fact.mk hT
    have HNT := Fact.mk hnT
    have HF := Fact.mk F
    have hv := hI.cell
    have hfz := hI.froz
    have hn6 : ok = false → kd ≠ 6 := fun e e6 => by
      have := hG.last.six e6
      dsimp only at this
      rw [e] at this
      cases this
    have HN6 := Fact.mk hn6
    have HZ0 := Fact.mk hz0
    have H6 := Fact.mk h6
    clear hG hm hrow hT hnT hn6 h6 hI hgv e1 hz0
    obtain ⟨c0, c1, c2, c3, c4, fz⟩ := F
    cases ok with
    | false =>
      clear hv hfz c1 c2 c3 c4
      gi_wp2
      refine ⟨Kept.refl _ _, ⟨fun y hy => ?_, its, v, HI.out, ?_⟩⟩
      · rcases List.mem_append.1 hy with hy | hy
        · exact H6.out y hy
        · rw [List.mem_singleton] at hy
          subst hy
          exact HN6.out (by first | rfl | trivial)
      · rw [sayd_snoc, HM.out]
        simp
    | true =>
      by_cases hk6 : kd = 6
      · subst hk6
        gi_wp2
        exact ⟨Kept.refl _ _, ⟨rfl, hTL, pre, _, rfl, rfl, H6.out, its, v, HI.out, HM.out⟩⟩
      · have q6 : (kd == 6) = false := by rw [beq_eq_false_iff_ne]; exact hk6
        have hlen : its.length ≤ 60000 := by
          have h1 := congrArg List.length HM.out
          rw [List.length_map] at h1
          have h2 := sayd_len pre
          have h3 := TrR.len pre HG.out.pre H6.out
          rw [← Lib.size_eq] at h3
          omega
        obtain ⟨i0, hi, hz0', hz1, hz2⟩ := info_split infoTok
        have hsW : W0.heap.size ≤ W.heap.size := HI.out.size
        gi_wp2_with (gi_at_builtin; refine wpListIn_append_at _ rfl _ _ 23 rfl W0.heap.size 27 i0 _ 5 72 Tryd.underlying23 hi hz0' hz1 hz2 rfl (by decide) _ _ _ rfl (HI.out.row.alloc _) ⟨W.heap.size, 0, none⟩ 1 1 (cells5 (⟨kd, nm, X, AA, r⟩, .slice a1 a2 a3)) rfl rfl (cells_new _ _ _) (by simp [cells5, Value.oneCell']) (by unfold maxLen; omega) (by omega) (by simp; omega) ?_; intro v' w3 hown3 hgr hat3; obtain ⟨g', cap', rfl⟩ := ownsRow_succ hown3; have HC := Fact.mk (HI.out.come (t := ⟨kd, nm, X, AA, r⟩) (o := .cells #[.int .i64 kd, .string nm, .string X, .slice a1 a2 a3, .bool r] 27) ⟨Nat.le_refl _, (by have := HZ0.out; omega)⟩ (fun k h => (HT.out k h).2) (own_low HROW.out (by omega)) HNT.out ⟨rfl, rfl, rfl, rfl⟩ hown3 hgr hat3); have hX3 : w3.heap[w.heap.size]? = W.heap[w.heap.size]? := (by have h0 := HZ0.out; rw [hgr.block _ (by simp; omega) (fun e => by have := (HI.out.row.lt _ e.symm).1; omega), Below.heap_alloc _ _ _ (by omega)]); have hv3 : w3.cell? ⟨w.heap.size, 0, none⟩ = some v := (World.cell?_of_block (w := W) (a := ⟨w.heap.size, 0, none⟩) hX3).trans hv; have hf3 : w3.frozen? ⟨w.heap.size, 0, none⟩ = false := (World.frozen?_of_block (w := W) (a := ⟨w.heap.size, 0, none⟩) hX3).trans hfz; clear hX3 hown3 hgr hat3)
        refine ⟨HC.out.1, ⟨fun y hy => ?_, _, _, HC.out.2, ?_⟩⟩
        · rcases List.mem_append.1 hy with hy | hy
          · exact H6.out y hy
          · rw [List.mem_singleton] at hy
            subst hy
            exact hk6
        · rw [sayd_snoc, List.map_append, HM.out]
          simp
  case stop =>
    rintro D c pre T W hD hp ⟨⟨rfl, hTL, pre0, x, rfl, e6, hn6, its, v, hI, hm⟩⟩ hK hTD
    have HI := Fact.mk hI
    have HM := Fact.mk hm
    have HP := Fact.mk hp
    have HE := Fact.mk e6
    have HN := Fact.mk hn6
    have HK := Fact.mk hK
    have HTD := Fact.mk hTD
    have HZ0 := Fact.mk hz0
    have hv := hI.cell
    have hlen : its.length ≤ 60000 := by
      have h1 := congrArg List.length hm
      rw [List.length_map] at h1
      have h2 := sayd_len pre0
      have h3 := TrR.len pre0 hp.pre hn6
      rw [← Lib.size_eq] at h3
      omega
    obtain ⟨i0, hi, hz0', hz1, hz2⟩ := info_split infoTok
    have hsW : W0.heap.size ≤ W.heap.size := hI.size
    clear hI hm hp e6 hn6 hK hTD hz0 hgv
    gi_wp2_with (gi_at_builtin; refine wpListIn_append_at _ rfl _ _ 23 rfl W0.heap.size 27 i0 _ 5 72 Tryd.underlying23 hi hz0' hz1 hz2 rfl (by decide) _ _ _ rfl (HI.out.row.alloc _) ⟨W.heap.size, 0, none⟩ 1 1 (cells5 (endTk, .slice none 0 0)) rfl rfl (cells_new _ _ _) (by simp [cells5, Value.oneCell']) (by unfold maxLen; omega) (by omega) (by simp; omega) ?_; intro v' w3 hown3 hgr hat3)
    rw [Exit.noGoto_ret]
    have hDlt : D < W.heap.size := (Array.getElem?_eq_some_iff.1 HK.out).1
    have blk : ∀ k, k < W.heap.size → some k ≠ v.ownBlock → w3.heap[k]? = W.heap[k]? := fun k hk hn => by
      rw [hgr.block k (by simp; omega) hn, Below.heap_alloc _ _ _ hk]
    have nD : some D ≠ v.ownBlock := fun e => HI.out.notT D e HTD.out
    have hz3 := hgr.size
    have hwz := HI.out.below.size
    have hb3 : Below w.heap.size w w3 := HI.out.below.trans ⟨hgr.os, hgr.tape, hgr.output, by rw [World.size_alloc] at hz3; omega, fun k hk => blk k (by omega) (fun e => by have := (HI.out.row.lt k e.symm).1; have := hB0.size; omega)⟩
    have hDw : w.heap.size ≤ D := by have := HZ0.out; omega
    refine ⟨by simp, .inl ⟨_, _, rfl, run_takeDeferred ((blk D hDlt nD).trans HK.out), ?_⟩⟩
    refine ⟨_, results_tmp rfl _ _ _, _, pre0, x, its, rfl, ⟨below_putObj hb3 hDw (by rw [World.size_alloc] at hz3; omega) _, by rw [hSd]; exact HP.out, HE.out, HN.out, HM.out, ⟨?_, fun y hy => ?_⟩⟩⟩
    · rw [List.length_append, List.length_singleton, cellsT_append, cellsT_one]
      refine own_block (own_low hown3 hB0.size) (fun k e hk => World.putObj_heap_other (fun e' => ?_))
      subst e'
      rcases hat3 with h | h
      · exact nD (e.trans h)
      · have := Option.some.inj (e.trans h)
        rw [World.size_alloc] at this
        omega
    · rcases List.mem_append.1 hy with hy | hy
      · have ha := HI.out.avs y hy
        refine own_low (own_block ha.1 (fun k e hk => ?_)) hB0.size
        rw [World.putObj_heap_other (fun e' => ha.2 k e (by rw [e']; exact HTD.out)), blk k hk (own_ne ha.1 HI.out.row (by decide) e)]
      · rw [List.mem_singleton] at hy
        subst hy
        exact World.ownsRow_nil _ _ _ _
theorem all_any (s : ByteArray) (hs : s.size ≤ 20000) (w : World) (hl : Laid w) : Calls Tryd.prog 9 #[.string s] w fun e w' => ∃ v tr x its, e = .returned v ∧ AllR w (U.C false s.data.toList) w' v tr x its :=
  (callsIn_wide (n := 4)).1 (all_in 4 (by omega) s hs w hl)
end Go.Proofs.YtdniddiaiinggaaDoor
