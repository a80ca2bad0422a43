/- Flat: the nodes by their numbers. -/
import Derived.Test.YtkojhgagkoeeiaaFlatI
set_option linter.unusedVariables false
set_option linter.unusedSimpArgs false
namespace Go.Proofs.Ytkojhgagkoeeiaa
open Go.Deep (BT)
open Go.RowKit Go.Shelf M
attribute [local go_sem] Oper.semAt_some

theorem infoItem : (Try.prog.info? 65).map (fun i => (i.zero, i.size, i.bytes)) = some (some (.agg #[.int .i64 0, .int .i64 0, .int .i64 0, .int .i64 0, .int .i64 0, .int .i64 0, .string ⟨#[]⟩, .string ⟨#[]⟩, .slice none 0 0, .slice none 0 0]), 10, 128) := by kernel_rfl
theorem map_set1 (l : List (Im × Value)) (q : Nat) (y : Im × Value) : (l.set q y).map (·.1) = (l.map (·.1)).set q y.1 := by rw [List.map_set]
theorem modify_set {l : List Im} {q : Nat} {x : Im} (h : l[q]? = some x) (f : Im → Im) : l.modify q f = l.set q (f x) := by
  apply List.ext_getElem?
  intro i
  rw [List.getElem?_modify, List.getElem?_set]
  by_cases hq : q = i
  · subst hq; rw [h]; simp [(List.getElem?_eq_some_iff.1 h).1]
  · simp [hq]

structure Aside2 (p : Prop) : Prop where
  out : p
/-- the list with a node more, appended and kept in its box -/
theorem come_all {w W w2 : World} {T : Nat → Prop} {l : List Im} {its : List (Im × Value)} {v : Value} {im : Im} {x1 : Option Addr} {x2 x3 : Nat} (h : FlatI w (w.heap.size + 1) T W l its v) (hT : ∀ k, T k → k < W.heap.size) (h2 : Below W.heap.size W w2) (ha : AS (fun b => W.heap.size ≤ b) w2 (.slice x1 x2 x3) im.d.ats) (hlen : its.length ≤ 4000000000) :
    ∃ g' cap' w3, (Builtin.append_ #[56, 56] 56 #[v, .slice (some ⟨w2.heap.size, 0, none⟩) 1 1]).run Try.prog (w2.alloc (.cells #[.int .i64 im.p, .int .i64 im.z, .int .i64 im.dp, .int .i64 im.h, .int .i64 im.pl, .int .i64 im.d.k, .string im.d.n, .string im.d.x, .slice x1 x2 x3, .slice none 0 0] 65)) = .ok (.slice (some ⟨g', 0, none⟩) (its.length + 1) cap') w3 ∧
      w3.cell? ⟨w.heap.size + 1, 0, none⟩ = some v ∧ w3.frozen? ⟨w.heap.size + 1, 0, none⟩ = false ∧
      Kept (fun k => T k ∨ k < w.heap.size) W (w3.setCell ⟨w.heap.size + 1, 0, none⟩ (.slice (some ⟨g', 0, none⟩) (its.length + 1) cap')) ∧ FlatI w (w.heap.size + 1) T (w3.setCell ⟨w.heap.size + 1, 0, none⟩ (.slice (some ⟨g', 0, none⟩) (its.length + 1) cap')) (l ++ [im]) (its ++ [(im, .slice x1 x2 x3)]) (.slice (some ⟨g', 0, none⟩) (its.length + 1) cap') := by
  obtain ⟨i0, hi, hz0', hz1, hz2⟩ := info_parts infoItem
  have hsz := h.size
  have hz2' := h2.size
  obtain ⟨W1, hW1⟩ : ∃ W1, w2.alloc (.cells #[.int .i64 im.p, .int .i64 im.z, .int .i64 im.dp, .int .i64 im.h, .int .i64 im.pl, .int .i64 im.d.k, .string im.d.n, .string im.d.x, .slice x1 x2 x3, .slice none 0 0] 65) = W1 := ⟨_, rfl⟩
  have hzW : W1.heap.size = w2.heap.size + 1 := by rw [← hW1]; simp
  have bW1 : ∀ k, k < w2.heap.size → W1.heap[k]? = w2.heap[k]? := fun k hk => by rw [← hW1]; exact Below.heap_alloc _ _ _ hk
  have hrow1 : W1.ownsRow (w.heap.size + 3) 65 10 v its.length (cellsIt its) := own_block h.row (fun k e hk => by rw [bW1 k (by omega)]; exact h2.block k hk)
  obtain ⟨v', w3, hrun, hown3, hgr, _, hat3⟩ := run_append_own_at (P := Try.prog) W1 (w.heap.size + 3) 56 56 65 i0 _ 10 128 Try.underlying56 hi hz0' hz1 hz2 rfl (by decide) v its.length (cellsIt its) hrow1 ⟨w2.heap.size, 0, none⟩ 1 1 (cells10 (im, .slice x1 x2 x3)) rfl (by rw [← hW1]; exact cells_new w2 _ _) (by simp [cells10, Value.oneCell']) (by unfold maxLen; omega) (by omega) (by omega)
  obtain ⟨g', cap', rfl⟩ := ownsRow_succ hown3
  have hX3 : w3.heap[w.heap.size + 1]? = W.heap[w.heap.size + 1]? := by
    rw [hgr.block _ (by omega) (fun e => by have := (h.row.lt _ e.symm).1; omega), bW1 _ (by omega)]
    exact h2.block _ (by omega)
  refine ⟨g', cap', w3, by rw [hW1]; exact hrun, (World.cell?_of_block (w := W) (a := ⟨w.heap.size + 1, 0, none⟩) hX3).trans h.cell, (World.frozen?_of_block (w := W) (a := ⟨w.heap.size + 1, 0, none⟩) hX3).trans h.froz, ?_⟩
  exact h.come (by omega) hT h2 ha (o := .cells #[.int .i64 im.p, .int .i64 im.z, .int .i64 im.dp, .int .i64 im.h, .int .i64 im.pl, .int .i64 im.d.k, .string im.d.n, .string im.d.x, .slice x1 x2 x3, .slice none 0 0] 65) (by rw [← hW1]; exact ⟨rfl, rfl, rfl, rfl⟩) hown3 hgr hat3
/-- tellParent, whoever the node is -/
theorem tell_any (its : List (Im × Value)) (g cap base id : Nat) (w : World) (hown : w.ownsRow base 65 10 (.slice (some ⟨g, 0, none⟩) its.length cap) its.length (cellsIt its)) (hid : id < its.length) (ha : Ahead (its.map (·.1))) (hn : its.length ≤ 4000000000) :
    Calls Try.prog 63 #[.slice (some ⟨g, 0, none⟩) its.length cap, .int .i64 id] w fun e w' => (∃ v, e = .returned v) ∧ ∃ its', w'.ownsRow base 65 10 (.slice (some ⟨g, 0, none⟩) its.length cap) its.length (cellsIt its') ∧ its'.map (·.1) = tell (its.map (·.1)) id ∧ its'.length = its.length ∧ (∀ y ∈ its', ∃ x ∈ its, x.2 = y.2 ∧ x.1.d = y.1.d) ∧ Kept (fun k => k ≠ g) w w' := by
  obtain ⟨y, hy⟩ : ∃ y, its[id]? = some y := ⟨its[id], by simp⟩
  have hy1 : (its.map (·.1))[id]? = some y.1 := by rw [List.getElem?_map, hy]; rfl
  rcases ha id y.1 hy1 with hp | ⟨h0, hlt⟩
  · refine (tell_none its g cap base its.length id y w hown hy hp (by omega)).mono ?_
    rintro e w' ⟨h1, rfl⟩
    refine ⟨h1, its, hown, ?_, rfl, fun y hy => ⟨y, hy, rfl, rfl⟩, Kept.refl _ _⟩
    unfold tell
    rw [hy1]
    dsimp only
    rw [if_pos hp]
  · obtain ⟨q, hq⟩ : ∃ q : Nat, y.1.p = q := ⟨y.1.p.toNat, by omega⟩
    have hql : q < its.length := by omega
    obtain ⟨x, hx⟩ : ∃ x, its[q]? = some x := ⟨its[q], by simp⟩
    have hx1 : (its.map (·.1))[q]? = some x.1 := by rw [List.getElem?_map, hx]; rfl
    refine (tell_up its g cap base its.length id q y x w hown hy hx hq (by omega) (by omega)).mono ?_
    rintro e w' ⟨h1, h2, h3⟩
    refine ⟨h1, its.set q (cnt y.1 x.1, x.2), h2, ?_, by simp, fun u hu => ?_, h3⟩
    · rw [map_set1]
      unfold tell
      rw [hy1]
      dsimp only
      rw [if_neg (by omega), hq, Int.toNat_natCast, modify_set hx1]
    · rcases List.mem_or_eq_of_mem_set hu with hu | rfl
      · exact ⟨u, hu, rfl, rfl⟩
      · exact ⟨x, List.mem_of_getElem? hx, rfl, rfl⟩

set_option maxRecDepth 100000 in
set_option maxHeartbeats 4000000 in
theorem flat_in (n : Nat) (hn : 4 ≤ n) (d : Nd) (k : M.F) (av kv : Value) (w : World)
    (ha : AS (Old w.heap.size) w av d.ats) (hf : FL (Old w.heap.size) w kv k) (hk : k.depth + 1 ≤ 1000000) (hs : k.size + 1 ≤ 1000000000) (hsl : d.ats.length + k.slots ≤ 1000000) :
    CallsIn Fence.wide n Try.prog 49 #[nodeV d av kv] w fun e w' => ∃ v its, e = .returned v ∧ Below w.heap.size w w' ∧ its.map (·.1) = flatT d k ∧ w'.ownsRow w.heap.size 65 10 v (k.size + 1) (cellsIt its) ∧ (∀ y ∈ its, AS (fun b => w.heap.size ≤ b) w' y.2 y.1.d.ats) := by
  have h1 : 1 ≤ n := by omega
  obtain ⟨a1, b1, c1, eav⟩ := ha.val
  obtain ⟨ka, kc, ekv⟩ := hf.val
  have ha' := ha
  have hf' := hf
  subst eav ekv
  have HA : Aside (AS (Old w.heap.size) w (.slice a1 b1 c1) d.ats) := ha'
  have HF : Aside (FL (Old w.heap.size) w (.slice ka k.len kc) k) := hf'
  clear ha' hf' ha hf
  refine callsIn_of_wp_marks Try.func49 rfl trivial ?_ rfl
  simp only [Try.ntmps49, List.size_toArray, List.length_cons, List.length_nil, Nat.reduceAdd, Nat.reduceSub, Array.replicate_succ, Array.replicate_zero, List.push_toArray, List.append_toArray, List.nil_append, List.cons_append]
  gi_wp2
  refine ⟨trivial, ?_⟩
  refine (steps_call (n - 1) d _ _ _ ⟨_, _, _, rfl⟩ ⟨_, _, _, rfl⟩).mono ?_
  rintro e w' ⟨rfl, rfl⟩
  gi_wp2
  obtain ⟨W0, hW0⟩ : ∃ W0, ((w.alloc (.cells #[.int .i64 d.k, .string d.n, .string d.x, .slice a1 b1 c1, .slice ka k.len kc] 25)).alloc (.cells #[.slice none 0 0] 56)).alloc (.cells #[.int .i64 d.k, .string d.n, .string d.x, .slice a1 b1 c1, .slice ka k.len kc] 25) = W0 := ⟨_, rfl⟩
  have hz : W0.heap.size = w.heap.size + 3 := by rw [← hW0]; simp
  have hB0 : Below w.heap.size w W0 := by rw [← hW0]; exact (((Below.refl _ w).alloc (Nat.le_refl _) _).alloc (by simp) _).alloc (by simp; omega) _
  have hcs : W0.cell? ⟨w.heap.size + 1, 0, none⟩ = some (.slice none 0 0) ∧ W0.frozen? ⟨w.heap.size + 1, 0, none⟩ = false := by
    have h := box_new (w.alloc (.cells #[.int .i64 d.k, .string d.n, .string d.x, .slice a1 b1 c1, .slice ka k.len kc] 25)) #[.slice none 0 0] 56 (.cells #[.int .i64 d.k, .string d.n, .string d.x, .slice a1 b1 c1, .slice ka k.len kc] 25)
    rw [hW0, World.size_alloc] at h
    exact ⟨h.1 0 _ rfl, h.2⟩
  have hct : ∀ i v, (#[.int .i64 d.k, .string d.n, .string d.x, .slice a1 b1 c1, .slice ka k.len kc] : Array Value)[i]? = some v → W0.cell? ⟨w.heap.size + 1 + 1, i, none⟩ = some v := by
    intro i v hv
    have h := World.cell?_alloc_new ((w.alloc (.cells #[.int .i64 d.k, .string d.n, .string d.x, .slice a1 b1 c1, .slice ka k.len kc] 25)).alloc (.cells #[.slice none 0 0] 56)) #[.int .i64 d.k, .string d.n, .string d.x, .slice a1 b1 c1, .slice ka k.len kc] 25 i
    rw [hW0, World.size_alloc, World.size_alloc] at h
    exact h.trans hv
  rw [hW0]
  have hgv := steps_tells (n - 1) (by omega) w.heap.size (w.heap.size + 1 + 1) d k (.slice a1 b1 c1) ka kc W0 hk hs hB0.size (by omega)
    ⟨hct 0 _ rfl, hct 1 _ rfl, hct 2 _ rfl, hct 3 _ rfl, hct 4 _ rfl⟩ (AS.like (like_below hB0) HA.out) (FL.like (like_below hB0) HF.out)
  refine wpIn_range2 rfl h1 (gf := 71) (lb := #[.pointer (some ⟨w.heap.size + 1 + 1, 0, none⟩)]) rfl trivial (enters_of Try.func71 (by kernel_rfl) rfl) hgv hB0.size (Below.refl _ _) (fun T W x args h => h.size) (fun T T' W W' x args h h1 h2 => h.keep h1 h2)
    (fun pre T W => ∃ its v, FlatI w (w.heap.size + 1) T W (runs [] pre) its v)
    (fun _ _ _ _ => False)
    (fun s T T' A B hs hk hT => by obtain ⟨its, v, h⟩ := hs; exact ⟨its, v, h.bide (by omega) hk hT⟩)
    (fun _ _ _ _ _ h _ => h)
    ⟨[], _, rfl, hB0, by omega, fun _ h => h.elim, hcs.1, hcs.2, World.ownsRow_nil _ _ _ _, (fun _ h => (by cases h)), (fun _ h => (by cases h))⟩
    (fun args a' => ∃ v b, args = #[v, b] ∧ a' = { tmps := #[nodeV d (.slice a1 b1 c1) (.slice ka k.len kc), .pointer (some ⟨w.heap.size, 0, none⟩), .slice none 0 0, .pointer (some ⟨w.heap.size + 1, 0, none⟩), v, b, .agg #[.int .i64 d.k, .string d.n, .string d.x, .slice a1 b1 c1, .slice ka k.len kc], .func (.func 71) #[] #[.pointer (some ⟨w.heap.size + 1 + 1, 0, none⟩)], v, b, undef, undef, undef, undef, undef, undef, undef, undef, undef, undef, undef, undef, undef, undef, undef, undef], defers := [] })
    ?assign ?body ?done ?stop
  case assign =>
    intro l x T args W K henc hK
    obtain ⟨L, g, cap, base, e1, e2, rfl, _⟩ := henc
    rw [fold2]
    gi_wp2
    exact hK _ _ (Below.refl _ _) ⟨_, _, rfl, rfl⟩
  case body =>
    rintro l pre x T args a' W hI henc ⟨v, b, rfl, rfl⟩ hp hT hlt hTL
    obtain ⟨L, g, cap, base, e1, e2, e3, hTg, hng, hown, hok, hLl⟩ := henc
    obtain ⟨rfl, rfl⟩ : v = .slice (some ⟨g, 0, none⟩) L.length cap ∧ b = .bool x.left := by simpa using e3
    obtain ⟨its, v, hI⟩ := hI
    have hxm : x ∈ evT d k := by obtain ⟨post, hp⟩ := hp; rw [← hp]; simp
    have hlen : its.length ≤ 4000000000 := by
      have h1 := congrArg List.length hI.map
      rw [List.length_map] at h1
      have h2 := runs_len pre []
      have h3 := hp.length_le
      rw [evT, evF_len] at h3
      simp [BT.size] at h3
      simp at h2
      omega
    obtain ⟨post, hpe⟩ := hp
    obtain ⟨hAh, up, s, hws, hor⟩ := runs_ok (evT d k) [] (WFe_evT d k) (fun i y hy => by simp at hy) pre x post (by rw [← hpe]; simp)
    cases L with
    | nil => exact absurd rfl e2
    | cons f L =>
    obtain ⟨xw, xl⟩ := x
    obtain rfl : wayOf L ++ [f.s] = xw := e1
    obtain ⟨m, hm⟩ : ∃ m, L.length = m := ⟨_, rfl⟩
    obtain ⟨e4, e5⟩ : up = wayOf L ∧ s = f.s := by
      have := hws
      dsimp only at this
      have h2 := List.append_inj' this (by simp)
      exact ⟨h2.1.symm, by simpa using h2.2.symm⟩
    subst e4 e5
    simp only [List.length_cons, hm] at hown hLl ⊢
    obtain ⟨hat, _, _, hg2, hcp, hcm⟩ := own8_at hown hm
    have hats : f.s.d.ats.length ≤ 1000000 := Nat.le_trans (last_slotsT d k _ hxm f.s (by simp)) hsl
    cases xl with
    | false =>
      have hpp : runs [] (pre ++ [⟨wayOf L ++ [f.s], false⟩]) = runs [] pre ++ [⟨parL L, 1, m, 1, f.s.place, f.s.d⟩] := by
        rw [runs_append, runs_cons, runs_nil, step_come, parL_eq, wayOf_len, hm]
      have hv := hI.cell
      gi_wp2
      refine wpIn_region_held (S := fun _ => True) (by kernel_rfl) (by kernel_rfl) trivial (fun _ => ?_)
      refine wpAnyH_take (i := 1) (v := ?v1n1) rfl (by kernel_rfl) (by kernel_rfl) (by kernel_rfl) (fun _ _ _ h => h) (Or.inl ⟨by rfl, ?hy1n1⟩) trivial ?rr1n1
      case hy1n1 =>
        intro w hSw
        go_simp
        try with_reducible rfl
      try simp only [Act.put, List.getElem_toArray, List.getElem_cons_succ, List.getElem_cons_zero, List.setIfInBounds_toArray, List.set_cons_zero, List.set_cons_succ]
      refine wpAnyH_ready (rs := [0, 2]) (by kernel_rfl) (by simp) ?_
      refine AllReadyH.cons rfl (fun K hK => ?_) (AllReadyH.cons rfl (fun K hK => ?_) AllReadyH.nil)
      ·
        go_simp
        refine hK.out _ _ trivial (fun _ => ?_)
        clear hK K
        refine wpAnyH_ready (rs := [2]) (by kernel_rfl) (by simp) ?_
        refine AllReadyH.cons rfl (fun K hK => ?_) AllReadyH.nil
        go_simp
        refine (opened_any f L g cap base w.heap.size m W.drew hm hown (hok.1.at_.like (fun _ _ _ => rfl)) (by show _ ≤ W.heap.size; omega) hats (by omega)).mono ?_
        rintro e w2 ⟨x1, x2, x3, rfl, ha2, hb2⟩
        obtain ⟨g', cap', w3, hrun, hv3, hf3, HG⟩ := come_all hI (fun k h => (hT k h).2) ⟨hb2.os, hb2.tape, hb2.output, hb2.size, hb2.block⟩ (im := ⟨parL L, 1, m, 1, f.s.place, f.s.d⟩) ha2 hlen
        have hv2 : w2.cell? ⟨w.heap.size + 1, 0, none⟩ = some v := (hb2.cell (p := ⟨w.heap.size + 1, 0, none⟩) (by show w.heap.size + 1 < W.heap.size; omega)).trans hv
        have hv2a : ∀ o, (w2.alloc o).cell? ⟨w.heap.size + 1, 0, none⟩ = some v := fun o => (World.cell?_alloc_lt w2 _ _ (World.block_lt_of_cell? w2 _ hv2)).trans hv2
        refine hK.out _ _ trivial (fun _ => ?_)
        clear hK K ha2 hb2
        refine wpAnyH_ready (rs := [3]) (by kernel_rfl) (by simp) ?_
        refine AllReadyH.cons rfl (fun K hK => ?_) AllReadyH.nil
        go_simp
        refine hK.out _ _ trivial (fun _ => ?_)
        clear hK K
        refine wpAnyH_ready (rs := [4]) (by kernel_rfl) (by simp) ?_
        refine AllReadyH.cons rfl (fun K hK => ?_) AllReadyH.nil
        rw [if_pos (by rfl)]
        refine wp_append_run rfl rfl rfl hrun ?_
        refine hK.out _ _ trivial (fun _ => ?_)
        clear hK K
        try simp only [Act.put, List.setIfInBounds_toArray, List.set_cons_zero, List.set_cons_succ]
        refine wpAnyH_ready (rs := [5]) (by kernel_rfl) (by simp) ?_
        refine AllReadyH.cons rfl (fun K hK => ?_) AllReadyH.nil
        go_simp
        refine hK.out _ _ trivial (fun _ => ?_)
        clear hK K
        refine wpAnyH_done (by kernel_rfl) ?_ _
        show Kept _ W _ ∧ ∃ its v, FlatI _ _ T _ _ its v
        rw [hpp]
        exact ⟨HG.1, _, _, HG.2⟩
      ·
        go_simp
        refine (opened_any f L g cap base w.heap.size m W.drew hm hown (hok.1.at_.like (fun _ _ _ => rfl)) (by show _ ≤ W.heap.size; omega) hats (by omega)).mono ?_
        rintro e w2 ⟨x1, x2, x3, rfl, ha2, hb2⟩
        obtain ⟨g', cap', w3, hrun, hv3, hf3, HG⟩ := come_all hI (fun k h => (hT k h).2) ⟨hb2.os, hb2.tape, hb2.output, hb2.size, hb2.block⟩ (im := ⟨parL L, 1, m, 1, f.s.place, f.s.d⟩) ha2 hlen
        have hv2 : w2.cell? ⟨w.heap.size + 1, 0, none⟩ = some v := (hb2.cell (p := ⟨w.heap.size + 1, 0, none⟩) (by show w.heap.size + 1 < W.heap.size; omega)).trans hv
        have hv2a : ∀ o, (w2.alloc o).cell? ⟨w.heap.size + 1, 0, none⟩ = some v := fun o => (World.cell?_alloc_lt w2 _ _ (World.block_lt_of_cell? w2 _ hv2)).trans hv2
        refine hK.out _ _ trivial (fun _ => ?_)
        clear hK K ha2 hb2
        refine wpAnyH_ready (rs := [0, 3]) (by kernel_rfl) (by simp) ?_
        refine AllReadyH.cons rfl (fun K hK => ?_) (AllReadyH.cons rfl (fun K hK => ?_) AllReadyH.nil)
        ·
          go_simp
          refine hK.out _ _ trivial (fun _ => ?_)
          clear hK K
          refine wpAnyH_ready (rs := [3]) (by kernel_rfl) (by simp) ?_
          refine AllReadyH.cons rfl (fun K hK => ?_) AllReadyH.nil
          go_simp
          refine hK.out _ _ trivial (fun _ => ?_)
          clear hK K
          refine wpAnyH_ready (rs := [4]) (by kernel_rfl) (by simp) ?_
          refine AllReadyH.cons rfl (fun K hK => ?_) AllReadyH.nil
          rw [if_pos (by rfl)]
          refine wp_append_run rfl rfl rfl hrun ?_
          refine hK.out _ _ trivial (fun _ => ?_)
          clear hK K
          try simp only [Act.put, List.setIfInBounds_toArray, List.set_cons_zero, List.set_cons_succ]
          refine wpAnyH_ready (rs := [5]) (by kernel_rfl) (by simp) ?_
          refine AllReadyH.cons rfl (fun K hK => ?_) AllReadyH.nil
          go_simp
          refine hK.out _ _ trivial (fun _ => ?_)
          clear hK K
          refine wpAnyH_done (by kernel_rfl) ?_ _
          show Kept _ W _ ∧ ∃ its v, FlatI _ _ T _ _ its v
          rw [hpp]
          exact ⟨HG.1, _, _, HG.2⟩
        ·
          go_simp
          refine hK.out _ _ trivial (fun _ => ?_)
          clear hK K
          refine wpAnyH_ready (rs := [0]) (by kernel_rfl) (by simp) ?_
          refine AllReadyH.cons rfl (fun K hK => ?_) AllReadyH.nil
          go_simp
          refine hK.out _ _ trivial (fun _ => ?_)
          clear hK K
          refine wpAnyH_ready (rs := [4]) (by kernel_rfl) (by simp) ?_
          refine AllReadyH.cons rfl (fun K hK => ?_) AllReadyH.nil
          rw [if_pos (by rfl)]
          refine wp_append_run rfl rfl rfl hrun ?_
          refine hK.out _ _ trivial (fun _ => ?_)
          clear hK K
          try simp only [Act.put, List.setIfInBounds_toArray, List.set_cons_zero, List.set_cons_succ]
          refine wpAnyH_ready (rs := [5]) (by kernel_rfl) (by simp) ?_
          refine AllReadyH.cons rfl (fun K hK => ?_) AllReadyH.nil
          go_simp
          refine hK.out _ _ trivial (fun _ => ?_)
          clear hK K
          refine wpAnyH_done (by kernel_rfl) ?_ _
          show Kept _ W _ ∧ ∃ its v, FlatI _ _ T _ _ its v
          rw [hpp]
          exact ⟨HG.1, _, _, HG.2⟩
    | true =>
      have hpp : runs [] (pre ++ [⟨wayOf L ++ [f.s], true⟩]) = tell (runs [] pre) f.s.id := by
        rw [runs_append, runs_cons, runs_nil, step_left]
      have hid : f.s.id < its.length := by
        rcases hor with h | h
        · cases h.1
        · have h1 := congrArg List.length hI.map
          rw [List.length_map] at h1
          omega
      obtain ⟨g2, cap2, ev⟩ : ∃ g2 cap2, v = .slice (some ⟨g2, 0, none⟩) its.length cap2 := by
        rcases hI.row.2 with ⟨_, e⟩ | ⟨g', c', cur, e, _⟩
        · omega
        · exact ⟨g', c', e⟩
      subst ev
      have hv := hI.cell
      have z5 : W.cell? ⟨g, m * 8 + 5, none⟩ = some (.int .i64 f.s.id) := hat 5 _ rfl
      have wm : IntKind.i64.wrap (m : Int) = m := wrap_id (by omega) (by omega)
      have hmm : (m : Int) < m + 1 := by omega
      rw [← hI.map] at hAh
      have HT := Aside2.mk (tell_any its g2 cap2 (w.heap.size + 3) f.s.id W.drew hI.row hid hAh hlen)
      gi_wp2
      refine wpIn_region_held (S := fun _ => True) (by kernel_rfl) (by kernel_rfl) trivial (fun _ => ?_)
      refine wpAnyH_take (i := 1) (v := ?v1n2) rfl (by kernel_rfl) (by kernel_rfl) (by kernel_rfl) (fun _ _ _ h => h) (Or.inl ⟨by rfl, ?hy1n2⟩) trivial ?rr1n2
      case hy1n2 =>
        intro w hSw
        go_simp
        try with_reducible rfl
      try simp only [Act.put, List.getElem_toArray, List.getElem_cons_succ, List.getElem_cons_zero, List.setIfInBounds_toArray, List.set_cons_zero, List.set_cons_succ]
      refine wpAnyH_take (i := 2) (v := ?v2n3) rfl (by kernel_rfl) (by kernel_rfl) (by kernel_rfl) (fun _ _ _ h => h) (Or.inl ⟨by rfl, ?hy2n3⟩) trivial ?rr2n3
      case hy2n3 =>
        intro w hSw
        go_simp
        try with_reducible rfl
      try simp only [Act.put, List.getElem_toArray, List.getElem_cons_succ, List.getElem_cons_zero, List.setIfInBounds_toArray, List.set_cons_zero, List.set_cons_succ]
      refine wpAnyH_take (i := 3) (v := ?v3n4) rfl (by kernel_rfl) (by kernel_rfl) (by kernel_rfl) (fun _ _ _ h => h) (Or.inl ⟨by rfl, ?hy3n4⟩) trivial ?rr3n4
      case hy3n4 =>
        intro w hSw
        go_simp
        try with_reducible rfl
      try simp only [Act.put, List.getElem_toArray, List.getElem_cons_succ, List.getElem_cons_zero, List.setIfInBounds_toArray, List.set_cons_zero, List.set_cons_succ]
      refine wpAnyH_take (i := 4) (v := ?v4n5) rfl (by kernel_rfl) (by kernel_rfl) (by kernel_rfl) (fun _ _ _ h => h) (Or.inl ⟨by rfl, ?hy4n5⟩) trivial ?rr4n5
      case hy4n5 =>
        intro w hSw
        go_simp
        try with_reducible rfl
      try simp only [Act.put, List.getElem_toArray, List.getElem_cons_succ, List.getElem_cons_zero, List.setIfInBounds_toArray, List.set_cons_zero, List.set_cons_succ]
      refine wpAnyH_take (i := 5) (v := ?v5n6) rfl (by kernel_rfl) (by kernel_rfl) (by kernel_rfl) (fun _ _ _ h => h) (Or.inl ⟨by rfl, ?hy5n6⟩) trivial ?rr5n6
      case hy5n6 =>
        intro w hSw
        go_simp
        try with_reducible rfl
      try simp only [Act.put, List.getElem_toArray, List.getElem_cons_succ, List.getElem_cons_zero, List.setIfInBounds_toArray, List.set_cons_zero, List.set_cons_succ]
      refine wpAnyH_take (i := 6) (v := ?v6n7) rfl (by kernel_rfl) (by kernel_rfl) (by kernel_rfl) (fun _ _ _ h => h) (Or.inl ⟨by rfl, ?hy6n7⟩) trivial ?rr6n7
      case hy6n7 =>
        intro w hSw
        go_simp
        try with_reducible rfl
      try simp only [Act.put, List.getElem_toArray, List.getElem_cons_succ, List.getElem_cons_zero, List.setIfInBounds_toArray, List.set_cons_zero, List.set_cons_succ]
      refine wpAnyH_ready (rs := [0, 7]) (by kernel_rfl) (by simp) ?_
      refine AllReadyH.cons rfl (fun K hK => ?_) (AllReadyH.cons rfl (fun K hK => ?_) AllReadyH.nil)
      ·
        go_simp
        refine hK.out _ _ trivial (fun _ => ?_)
        clear hK K
        refine wpAnyH_ready (rs := [7]) (by kernel_rfl) (by simp) ?_
        refine AllReadyH.cons rfl (fun K hK => ?_) AllReadyH.nil
        go_simp
        refine hK.out _ _ trivial (fun _ => ?_)
        clear hK K
        refine wpAnyH_ready (rs := [8]) (by kernel_rfl) (by simp) ?_
        refine AllReadyH.cons rfl (fun K hK => ?_) AllReadyH.nil
        go_simp
        refine HT.out.mono ?_
        rintro e w2 ⟨⟨u, rfl⟩, its', hr, hmp, hl, hav, hk2⟩
        refine hK.out _ _ trivial (fun _ => ?_)
        clear hK K
        refine wpAnyH_done (by kernel_rfl) ?_ _
        unfold Norm
        dsimp only
        have HG := hI.told (by omega) ⟨hk2.os, hk2.tape, hk2.output, hk2.size, hk2.block⟩ hr hl (by rw [hmp, hI.map]) hav
        rw [← hpp] at HG
        clear hr hmp hl hav hk2
        gi_wp2
        exact ⟨HG.1, _, _, HG.2⟩
      ·
        go_simp
        refine hK.out _ _ trivial (fun _ => ?_)
        clear hK K
        refine wpAnyH_ready (rs := [0]) (by kernel_rfl) (by simp) ?_
        refine AllReadyH.cons rfl (fun K hK => ?_) AllReadyH.nil
        go_simp
        refine hK.out _ _ trivial (fun _ => ?_)
        clear hK K
        refine wpAnyH_ready (rs := [8]) (by kernel_rfl) (by simp) ?_
        refine AllReadyH.cons rfl (fun K hK => ?_) AllReadyH.nil
        go_simp
        refine HT.out.mono ?_
        rintro e w2 ⟨⟨u, rfl⟩, its', hr, hmp, hl, hav, hk2⟩
        refine hK.out _ _ trivial (fun _ => ?_)
        clear hK K
        refine wpAnyH_done (by kernel_rfl) ?_ _
        unfold Norm
        dsimp only
        have HG := hI.told (by omega) ⟨hk2.os, hk2.tape, hk2.output, hk2.size, hk2.block⟩ hr hl (by rw [hmp, hI.map]) hav
        rw [← hpp] at HG
        clear hr hmp hl hav hk2
        gi_wp2
        exact ⟨HG.1, _, _, HG.2⟩
  case done =>
    rintro D T W hD ⟨its, v, hI⟩ hK hTD
    rw [runs_evT d k (by omega) (by omega)] at hI
    have hlen : its.length = k.size + 1 := by
      have h1 := congrArg List.length hI.map
      rw [List.length_map, flatT_len] at h1
      exact h1
    have hv := hI.cell
    gi_wp2
    refine ⟨by simp, .inl ⟨_, _, rfl, run_takeDeferred hK, ?_⟩⟩
    have nD : ¬ some D = v.ownBlock := fun e => hI.notT D e hTD
    have hrow := hI.row
    rw [hlen] at hrow
    have hsz := hI.size
    exact ⟨_, results_tmp rfl _ _ _, _, its, rfl, below_putObj hI.below (by omega) (by omega) _, hI.map, own_block (own_lessP hrow (by omega)) (fun k e hk => World.putObj_heap_other (fun e' => nD (by rw [e'] at e; exact e))),
      fun y hy => ((hI.avs y hy).like (fun b hb _ => World.putObj_heap_other (fun e' => hb.2.2.1 (by rw [e']; exact hTD)))).mono (fun b hb => by show _ ≤ b; omega)⟩
  case stop =>
    rintro D c pre T W _ _ h _ _
    exact h.elim

theorem flat_any (d : Nd) (k : M.F) (av kv : Value) (w : World) (ha : AS (Old w.heap.size) w av d.ats) (hf : FL (Old w.heap.size) w kv k) (hk : k.depth + 1 ≤ 1000000) (hs : k.size + 1 ≤ 1000000000) (hsl : d.ats.length + k.slots ≤ 1000000) :
    Calls Try.prog 49 #[nodeV d av kv] w fun e w' => ∃ v its, e = .returned v ∧ Below w.heap.size w w' ∧ its.map (·.1) = flatT d k ∧ w'.ownsRow w.heap.size 65 10 v (k.size + 1) (cellsIt its) ∧ (∀ y ∈ its, AS (fun b => w.heap.size ≤ b) w' y.2 y.1.d.ats) :=
  (callsIn_wide (n := 4)).1 (flat_in 4 (by omega) d k av kv w ha hf hk hs hsl)
end Go.Proofs.Ytkojhgagkoeeiaa
