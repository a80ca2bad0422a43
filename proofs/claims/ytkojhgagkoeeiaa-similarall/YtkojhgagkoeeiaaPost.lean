/- Post: the numbers, a node behind its kids. -/
import Derived.Test.YtkojhgagkoeeiaaPostM
import Derived.Test.YtkojhgagkoeeiaaSteps
import Derived.Test.YtkojhgagkoeeiaaHeld2
import Derived.Test.YtkojhgagkoeeiaaAwake
set_option linter.unusedVariables false
set_option linter.unusedSimpArgs false
namespace Go.Proofs.Ytkojhgagkoeeiaa
open Go.Deep (BT)
open Go.RowKit Go.Shelf M
attribute [local go_sem] Oper.semAt_some

theorem infoInt : (Try.prog.info? 3).map (fun i => (i.zero, i.size, i.bytes)) = some (some (.int .i64 0), 1, 8) := by kernel_rfl

theorem own_lessP {w : World} {B B' E z n : Nat} {v : Value} {xs : List Value} (h : w.ownsRow B E z v n xs) (hB : B' ≤ B) : w.ownsRow B' E z v n xs := by
  obtain ⟨h1, h2⟩ := h
  refine ⟨h1, h2.imp id ?_⟩
  rintro ⟨g, cap, cur, e, hg, r⟩
  exact ⟨g, cap, cur, e, Nat.le_trans hB hg, r⟩

/-- a list that grows, in a box of its caller's: what is in it so far; the iterator's blocks are others -/
structure Grows (w : World) (X E z : Nat) (T : Nat → Prop) (W : World) (n : Nat) (xs : List Value) : Prop where
  below : Below w.heap.size w W
  size : w.heap.size + 3 ≤ W.heap.size
  mine : ∀ k, T k → w.heap.size + 3 ≤ k
  row : ∃ v, W.cell? ⟨X, 0, none⟩ = some v ∧ W.frozen? ⟨X, 0, none⟩ = false ∧ W.ownsRow (w.heap.size + 3) E z v n xs ∧ (∀ b, some b = v.ownBlock → ¬ T b)
theorem Grows.bide {w : World} {X E z : Nat} {T T' : Nat → Prop} {W W' : World} {n : Nat} {xs : List Value} (h : Grows w X E z T W n xs) (hX : X < w.heap.size + 3) (hk : Kept (fun k => ¬ T k) W W') (hT : ∀ k, T' k → T k ∨ W.heap.size ≤ k) : Grows w X E z T' W' n xs := by
  obtain ⟨h1, h2, h3, v, h4, h5, h6, h7⟩ := h
  have hs := hk.size
  have hw := h1.size
  have nX : ¬ T X := fun e => by have := h3 _ e; omega
  refine ⟨h1.trans ⟨hk.os, hk.tape, hk.output, hk.size, fun k hk' => hk.block k (by omega) (fun e => by have := h3 _ e; omega)⟩, by omega, fun k e => ?_, v, hk.cell nX h4, ?_, own_block h6 (fun k e hk' => hk.block k hk' (h7 k e)), fun b hb hT' => ?_⟩
  · rcases hT k e with e | e
    · exact h3 k e
    · omega
  · exact (World.frozen?_of_block (a := ⟨X, 0, none⟩) (hk.block X (by omega) nX)).trans h5
  · rcases hT b hT' with e | e
    · exact h7 b hb e
    · have := (h6.lt b hb.symm).2
      omega

theorem Grows.push {w : World} {X E z : Nat} {T : Nat → Prop} {W W1 w3 : World} {n m : Nat} {xs ys : List Value} {v v' : Value} (h : Grows w X E z T W n xs) (hX : w.heap.size ≤ X ∧ X < w.heap.size + 3) (hT : ∀ k, T k → k < W.heap.size)
    (hv : W.cell? ⟨X, 0, none⟩ = some v) (hrow : W.ownsRow (w.heap.size + 3) E z v n xs) (hnT : ∀ b, some b = v.ownBlock → ¬ T b) (h1 : Below W.heap.size W W1) (hown : w3.ownsRow (w.heap.size + 3) E z v' (n + m) (xs ++ ys)) (hgr : W1.grownBy w3 v.ownBlock) (hat : v'.ownBlock = v.ownBlock ∨ v'.ownBlock = some W1.heap.size) :
    Kept (fun k => T k ∨ k < w.heap.size) W (w3.setCell ⟨X, 0, none⟩ v') ∧ Grows w X E z T (w3.setCell ⟨X, 0, none⟩ v') (n + m) (xs ++ ys) := by
  obtain ⟨hb, hsz, hmine, _, hv0, hvf, _, _⟩ := h
  have hz1 := h1.size
  have hz3 := hgr.size
  have hzs : (w3.setCell ⟨X, 0, none⟩ v').heap.size = w3.heap.size := by simp [World.setCell]
  have hne : ∀ k, k < w.heap.size + 3 → some k ≠ v.ownBlock := fun k hk e => by have := (hrow.lt k e.symm).1; omega
  have blk : ∀ k, k < W.heap.size → k ≠ X → some k ≠ v.ownBlock → (w3.setCell ⟨X, 0, none⟩ v').heap[k]? = W.heap[k]? := fun k hk hX' hn =>
    (Below.heap_setCell _ _ _ _ hX').trans ((hgr.block k (by omega) hn).trans (h1.block k hk))
  have hX3 : w3.heap[X]? = W.heap[X]? := (hgr.block X (by omega) (hne X (by omega))).trans (h1.block X (by omega))
  refine ⟨⟨hgr.os.trans h1.os, hgr.tape.trans h1.tape, hgr.output.trans h1.output, by omega, fun k hk hc => ?_⟩, hb.trans ⟨hgr.os.trans h1.os, hgr.tape.trans h1.tape, hgr.output.trans h1.output, by omega, fun k hk => blk k (by have := hb.size; omega) (by omega) (hne k (by omega))⟩, by omega, hmine, v', ?_, ?_, ?_, fun b hb' hTb => ?_⟩
  · rcases hc with hc | hc
    · exact blk k hk (fun e => by have := hmine k hc; omega) (fun e => hnT k e hc)
    · exact blk k hk (by omega) (hne k (by omega))
  · exact World.cell?_setCell_same' _ _ _ (by rw [World.cell?_of_block (w := W) (a := ⟨X, 0, none⟩) hX3, hv]; rfl)
  · rw [World.frozen?_setCell, World.frozen?_of_block (w := W) (a := ⟨X, 0, none⟩) hX3]; exact hvf
  · exact own_block hown (fun k e hk => Below.heap_setCell _ _ _ _ (fun e' => by have := (hown.lt k e.symm).1; have e2 : k = X := e'; omega))
  · rcases hat with h | h
    · exact hnT b (hb'.trans h) hTb
    · have := Option.some.inj (hb'.trans h)
      have := hT b hTb
      omega

set_option maxRecDepth 100000 in
set_option maxHeartbeats 2000000 in
theorem post_in (n : Nat) (hn : 4 ≤ n) (d : Nd) (k : M.F) (av kv : Value) (w : World)
    (ha : AS (Old w.heap.size) w av d.ats) (hf : FL (Old w.heap.size) w kv k) (hk : k.depth + 1 ≤ 1000000) (hs : k.size + 1 ≤ 1000000000) :
    CallsIn Fence.wide n Try.prog 76 #[nodeV d av kv] w fun e w' => ∃ v, e = .returned v ∧ Below w.heap.size w w' ∧ w'.ownsRow w.heap.size 3 1 v (k.size + 1) (cI (postF k 1 ++ [0])) := by
  have h1 : 1 ≤ n := by omega
  obtain ⟨a1, b1, c1, eav⟩ := ha.val
  obtain ⟨ka, kc, ekv⟩ := hf.val
  have ha' := ha
  have hf' := hf
  subst eav ekv
  have HA : Aside (AS (Old w.heap.size) w (.slice a1 b1 c1) d.ats) := ha'
  have HF : Aside (FL (Old w.heap.size) w (.slice ka k.len kc) k) := hf'
  clear ha' hf' ha hf
  refine callsIn_of_wp_marks Try.func76 rfl trivial ?_ rfl
  simp only [Try.ntmps76, List.size_toArray, List.length_cons, List.length_nil, Nat.reduceAdd, Nat.reduceSub, Array.replicate_succ, Array.replicate_zero, List.push_toArray, List.append_toArray, List.nil_append, List.cons_append]
  gi_wp2
  refine ⟨trivial, ?_⟩
  refine (steps_call (n - 1) d _ _ _ ⟨_, _, _, rfl⟩ ⟨_, _, _, rfl⟩).mono ?_
  rintro e w' ⟨rfl, rfl⟩
  gi_wp2
  obtain ⟨W0, hW0⟩ : ∃ W0, ((w.alloc (.cells #[.int .i64 d.k, .string d.n, .string d.x, .slice a1 b1 c1, .slice ka k.len kc] 25)).alloc (.cells #[.slice none 0 0] 39)).alloc (.cells #[.int .i64 d.k, .string d.n, .string d.x, .slice a1 b1 c1, .slice ka k.len kc] 25) = W0 := ⟨_, rfl⟩
  have hz : W0.heap.size = w.heap.size + 3 := by rw [← hW0]; simp
  have hB0 : Below w.heap.size w W0 := by rw [← hW0]; exact (((Below.refl _ w).alloc (Nat.le_refl _) _).alloc (by simp) _).alloc (by simp; omega) _
  have hcs : W0.cell? ⟨w.heap.size + 1, 0, none⟩ = some (.slice none 0 0) ∧ W0.frozen? ⟨w.heap.size + 1, 0, none⟩ = false := by
    have h := box_new (w.alloc (.cells #[.int .i64 d.k, .string d.n, .string d.x, .slice a1 b1 c1, .slice ka k.len kc] 25)) #[.slice none 0 0] 39 (.cells #[.int .i64 d.k, .string d.n, .string d.x, .slice a1 b1 c1, .slice ka k.len kc] 25)
    rw [hW0, World.size_alloc] at h
    exact ⟨h.1 0 _ rfl, h.2⟩
  have hct : ∀ i v, (#[.int .i64 d.k, .string d.n, .string d.x, .slice a1 b1 c1, .slice ka k.len kc] : Array Value)[i]? = some v → W0.cell? ⟨w.heap.size + 1 + 1, i, none⟩ = some v := by
    intro i v hv
    have h := World.cell?_alloc_new ((w.alloc (.cells #[.int .i64 d.k, .string d.n, .string d.x, .slice a1 b1 c1, .slice ka k.len kc] 25)).alloc (.cells #[.slice none 0 0] 39)) #[.int .i64 d.k, .string d.n, .string d.x, .slice a1 b1 c1, .slice ka k.len kc] 25 i
    rw [hW0, World.size_alloc, World.size_alloc] at h
    exact h.trans hv
  rw [hW0]
  have hgv := steps_tells (n - 1) (by omega) w.heap.size (w.heap.size + 1 + 1) d k (.slice a1 b1 c1) ka kc W0 hk hs hB0.size (by omega)
    ⟨hct 0 _ rfl, hct 1 _ rfl, hct 2 _ rfl, hct 3 _ rfl, hct 4 _ rfl⟩ (AS.like (like_below hB0) HA.out) (FL.like (like_below hB0) HF.out)
  refine wpIn_range2 rfl h1 (gf := 71) (lb := #[.pointer (some ⟨w.heap.size + 1 + 1, 0, none⟩)]) rfl trivial (enters_of Try.func71 (by kernel_rfl) rfl) hgv hB0.size (Below.refl _ _) (fun T W x args h => h.size) (fun T T' W W' x args h h1 h2 => h.keep h1 h2)
    (fun pre T W => Grows w (w.heap.size + 1) 3 1 T W (posts pre).length (cI (posts pre)))
    (fun _ _ _ _ => False)
    (fun s T T' A B hs hk hT => hs.bide (by omega) hk hT)
    (fun _ _ _ _ _ h _ => h)
    ⟨hB0, by omega, fun _ h => h.elim, _, hcs.1, hcs.2, World.ownsRow_nil _ _ _ _, fun _ h => by cases h⟩
    (fun args a' => ∃ v b, args = #[v, b] ∧ a' = { tmps := #[nodeV d (.slice a1 b1 c1) (.slice ka k.len kc), .pointer (some ⟨w.heap.size, 0, none⟩), .slice none 0 0, .pointer (some ⟨w.heap.size + 1, 0, none⟩), v, b, .agg #[.int .i64 d.k, .string d.n, .string d.x, .slice a1 b1 c1, .slice ka k.len kc], .func (.func 71) #[] #[.pointer (some ⟨w.heap.size + 1 + 1, 0, none⟩)], v, b, undef, undef, undef, undef, undef, undef, undef, undef, undef, undef, undef, undef], defers := [] })
    ?assign ?body ?done ?stop
  case assign =>
    intro l x T args W K henc hK
    obtain ⟨L, g, cap, base, e1, e2, rfl, _⟩ := henc
    rw [fold2]
    gi_wp2
    exact hK _ _ (Below.refl _ _) ⟨_, _, rfl, rfl⟩
  case body =>
    rintro l pre x T args a' W hI henc ⟨v, b, rfl, rfl⟩ hp hT hlt hTL
    obtain ⟨L, g, cap, base, e1, e2, e3, hTg, hng, hown, hok, hLl⟩ := henc
    obtain ⟨rfl, rfl⟩ : v = .slice (some ⟨g, 0, none⟩) L.length cap ∧ b = .bool x.left := by simpa using e3
    cases L with
    | nil => exact absurd rfl e2
    | cons f L =>
    cases hx : x.left with
    | false => 
      have hpp : posts (pre ++ [x]) = posts pre := by
        obtain ⟨xw, xl⟩ := x
        cases hx
        rw [posts_append, posts_come]; simp [posts]
      gi_wp2
      show Kept _ W W ∧ Grows _ _ _ _ T W _ _
      rw [hpp]
      exact ⟨Kept.refl _ _, hI⟩
    | true =>
      have hpp : posts (pre ++ [x]) = posts pre ++ [f.s.id] := by
        obtain ⟨xw, xl⟩ := x
        cases hx
        obtain rfl : wayOf L ++ [f.s] = xw := e1
        rw [posts_append, posts_left]; simp [posts]
      have HI : Aside (Grows w (w.heap.size + 1) 3 1 T W (posts pre).length (cI (posts pre))) := hI
      obtain ⟨hb, hsz, hmine, v, hv, hvf, hrow, hnT⟩ := hI
      obtain ⟨m, hm⟩ : ∃ m, L.length = m := ⟨_, rfl⟩
      simp only [List.length_cons, hm] at hown hLl ⊢
      obtain ⟨hat, _, _, hg2, hcp, hcm⟩ := own8_at hown hm
      have z5 : W.cell? ⟨g, m * 8 + 5, none⟩ = some (.int .i64 f.s.id) := hat 5 _ rfl
      obtain ⟨id, hid⟩ : ∃ id, f.s.id = id := ⟨_, rfl⟩
      rw [hid] at z5 hpp
      obtain ⟨i0, hi, hz0', hz1, hz2⟩ := info_parts infoInt
      have hlen : (posts pre).length + 1 ≤ 2000000000 := by
        have h1 := posts_le pre
        have h2 := hp.length_le
        rw [evT, evF_len] at h2
        simp [BT.size] at h2
        omega
      obtain ⟨v', w3, hrun, hown3, hgr, _, hat3⟩ := run_append_own_at (P := Try.prog) (W.alloc (.cells #[.int .i64 id] 3)).drew (w.heap.size + 3) 39 39 3 i0 _ 1 8 Try.underlying39 hi hz0' hz1 hz2 rfl (by decide) v _ _ ((hrow.alloc _)) ⟨W.heap.size, 0, none⟩ 1 1 [.int .i64 id] rfl (cells_new W _ _) (by simp [Value.oneCell']) (by unfold maxLen; omega) (by omega) (by show _ ≤ (W.alloc _).heap.size; simp; omega)
      have wm : IntKind.i64.wrap (m : Int) = m := by unfold IntKind.wrap; simp [IntKind.bits, IntKind.signed]; omega
      have hmm : (m : Int) < m + 1 := by omega
      obtain ⟨g', cap', rfl⟩ := ownsRow_succ hown3
      have hv3 : w3.cell? ⟨w.heap.size + 1, 0, none⟩ = some v := (World.cell?_of_block (w := (W.alloc (.cells #[.int .i64 id] 3)).drew) (a := ⟨w.heap.size + 1, 0, none⟩) (hgr.block (w.heap.size + 1) (by show w.heap.size + 1 < (W.alloc _).heap.size; simp; omega) (fun e => by have := (hrow.lt _ e.symm).1; omega))).trans ((World.cell?_alloc_lt W _ _ (by show w.heap.size + 1 < _; omega)).trans hv)
      have hf3 : w3.frozen? ⟨w.heap.size + 1, 0, none⟩ = false := (World.frozen?_of_block (w := (W.alloc (.cells #[.int .i64 id] 3)).drew) (a := ⟨w.heap.size + 1, 0, none⟩) (hgr.block (w.heap.size + 1) (by show w.heap.size + 1 < (W.alloc _).heap.size; simp; omega) (fun e => by have := (hrow.lt _ e.symm).1; omega))).trans ((World.frozen?_of_block (w := W) (a := ⟨w.heap.size + 1, 0, none⟩) (Below.heap_alloc W _ _ (by show w.heap.size + 1 < _; omega))).trans hvf)
      have HG : Aside (Kept (fun k => T k ∨ k < w.heap.size) W (w3.setCell ⟨w.heap.size + 1, 0, none⟩ (.slice (some ⟨g', 0, none⟩) ((posts pre).length + 1) cap')) ∧ Grows w (w.heap.size + 1) 3 1 T (w3.setCell ⟨w.heap.size + 1, 0, none⟩ (.slice (some ⟨g', 0, none⟩) ((posts pre).length + 1) cap')) (posts (pre ++ [x])).length (cI (posts (pre ++ [x])))) := by
        have := HI.out.push (by omega) (fun k h => (hT k h).2) hv hrow hnT (W1 := (W.alloc (.cells #[.int .i64 id] 3)).drew) ⟨rfl, rfl, rfl, by simp, fun k hk => Below.heap_alloc W _ _ hk⟩ hown3 hgr hat3
        rw [hpp, cI_snoc, List.length_append]
        exact this
      have hva : ∀ o, (W.alloc o).cell? ⟨w.heap.size + 1, 0, none⟩ = some v := fun o => (World.cell?_alloc_lt W _ _ (by show w.heap.size + 1 < _; omega)).trans hv
      clear hpp hown3 hgr hat3 hnT hmine
      gi_wp2
      refine wpIn_region_held (S := fun _ => True) (by kernel_rfl) (by kernel_rfl) trivial (fun _ => ?_)
      refine wpAnyH_take (i := 1) (v := ?v1n1) rfl (by kernel_rfl) (by kernel_rfl) (by kernel_rfl) (fun _ _ _ h => h) (Or.inl ⟨by rfl, ?hy1n1⟩) trivial ?rr1n1
      case hy1n1 =>
        intro w hSw
        go_simp
        try with_reducible rfl
      try simp only [Act.put, List.getElem_toArray, List.getElem_cons_succ, List.getElem_cons_zero, List.setIfInBounds_toArray, List.set_cons_zero, List.set_cons_succ]
      refine wpAnyH_take (i := 2) (v := ?v2n2) rfl (by kernel_rfl) (by kernel_rfl) (by kernel_rfl) (fun _ _ _ h => h) (Or.inl ⟨by rfl, ?hy2n2⟩) trivial ?rr2n2
      case hy2n2 =>
        intro w hSw
        go_simp
        try with_reducible rfl
      try simp only [Act.put, List.getElem_toArray, List.getElem_cons_succ, List.getElem_cons_zero, List.setIfInBounds_toArray, List.set_cons_zero, List.set_cons_succ]
      refine wpAnyH_take (i := 3) (v := ?v3n3) rfl (by kernel_rfl) (by kernel_rfl) (by kernel_rfl) (fun _ _ _ h => h) (Or.inl ⟨by rfl, ?hy3n3⟩) trivial ?rr3n3
      case hy3n3 =>
        intro w hSw
        go_simp
        try with_reducible rfl
      try simp only [Act.put, List.getElem_toArray, List.getElem_cons_succ, List.getElem_cons_zero, List.setIfInBounds_toArray, List.set_cons_zero, List.set_cons_succ]
      refine wpAnyH_take (i := 4) (v := ?v4n4) rfl (by kernel_rfl) (by kernel_rfl) (by kernel_rfl) (fun _ _ _ h => h) (Or.inl ⟨by rfl, ?hy4n4⟩) trivial ?rr4n4
      case hy4n4 =>
        intro w hSw
        go_simp
        try with_reducible rfl
      try simp only [Act.put, List.getElem_toArray, List.getElem_cons_succ, List.getElem_cons_zero, List.setIfInBounds_toArray, List.set_cons_zero, List.set_cons_succ]
      refine wpAnyH_take (i := 5) (v := ?v5n5) rfl (by kernel_rfl) (by kernel_rfl) (by kernel_rfl) (fun _ _ _ h => h) (Or.inl ⟨by rfl, ?hy5n5⟩) trivial ?rr5n5
      case hy5n5 =>
        intro w hSw
        go_simp
        try with_reducible rfl
      try simp only [Act.put, List.getElem_toArray, List.getElem_cons_succ, List.getElem_cons_zero, List.setIfInBounds_toArray, List.set_cons_zero, List.set_cons_succ]
      refine wpAnyH_take (i := 6) (v := ?v6n6) rfl (by kernel_rfl) (by kernel_rfl) (by kernel_rfl) (fun _ _ _ h => h) (Or.inl ⟨by rfl, ?hy6n6⟩) trivial ?rr6n6
      case hy6n6 =>
        intro w hSw
        go_simp
        try with_reducible rfl
      try simp only [Act.put, List.getElem_toArray, List.getElem_cons_succ, List.getElem_cons_zero, List.setIfInBounds_toArray, List.set_cons_zero, List.set_cons_succ]
      refine wpAnyH_ready (rs := [0, 7]) (by kernel_rfl) (by simp) ?_
      refine AllReadyH.cons rfl (fun K hK => ?_) (AllReadyH.cons rfl (fun K hK => ?_) AllReadyH.nil)
      ·
        go_simp
        refine hK.out _ _ trivial (fun _ => ?_)
        clear hK K
        refine wpAnyH_ready (rs := [7]) (by kernel_rfl) (by simp) ?_
        refine AllReadyH.cons rfl (fun K hK => ?_) AllReadyH.nil
        go_simp
        refine hK.out _ _ trivial (fun _ => ?_)
        clear hK K
        refine wpAnyH_ready (rs := [8]) (by kernel_rfl) (by simp) ?_
        refine AllReadyH.cons rfl (fun K hK => ?_) AllReadyH.nil
        go_simp
        refine hK.out _ _ trivial (fun _ => ?_)
        clear hK K
        refine wpAnyH_ready (rs := [9]) (by kernel_rfl) (by simp) ?_
        refine AllReadyH.cons rfl (fun K hK => ?_) AllReadyH.nil
        rw [if_pos (by rfl)]
        refine wp_append_run rfl rfl rfl hrun ?_
        refine hK.out _ _ trivial (fun _ => ?_)
        clear hK K
        try simp only [Act.put, List.setIfInBounds_toArray, List.set_cons_zero, List.set_cons_succ]
        refine wpAnyH_ready (rs := [10]) (by kernel_rfl) (by simp) ?_
        refine AllReadyH.cons rfl (fun K hK => ?_) AllReadyH.nil
        go_simp
        refine hK.out _ _ trivial (fun _ => ?_)
        clear hK K
        refine wpAnyH_done (by kernel_rfl) ?_ _
        exact HG.out
      ·
        go_simp
        refine hK.out _ _ trivial (fun _ => ?_)
        clear hK K
        refine wpAnyH_ready (rs := [0, 8]) (by kernel_rfl) (by simp) ?_
        refine AllReadyH.cons rfl (fun K hK => ?_) (AllReadyH.cons rfl (fun K hK => ?_) AllReadyH.nil)
        ·
          go_simp
          refine hK.out _ _ trivial (fun _ => ?_)
          clear hK K
          refine wpAnyH_ready (rs := [8]) (by kernel_rfl) (by simp) ?_
          refine AllReadyH.cons rfl (fun K hK => ?_) AllReadyH.nil
          go_simp
          refine hK.out _ _ trivial (fun _ => ?_)
          clear hK K
          refine wpAnyH_ready (rs := [9]) (by kernel_rfl) (by simp) ?_
          refine AllReadyH.cons rfl (fun K hK => ?_) AllReadyH.nil
          rw [if_pos (by rfl)]
          refine wp_append_run rfl rfl rfl hrun ?_
          refine hK.out _ _ trivial (fun _ => ?_)
          clear hK K
          try simp only [Act.put, List.setIfInBounds_toArray, List.set_cons_zero, List.set_cons_succ]
          refine wpAnyH_ready (rs := [10]) (by kernel_rfl) (by simp) ?_
          refine AllReadyH.cons rfl (fun K hK => ?_) AllReadyH.nil
          go_simp
          refine hK.out _ _ trivial (fun _ => ?_)
          clear hK K
          refine wpAnyH_done (by kernel_rfl) ?_ _
          exact HG.out
        ·
          go_simp
          refine hK.out _ _ trivial (fun _ => ?_)
          clear hK K
          refine wpAnyH_ready (rs := [0]) (by kernel_rfl) (by simp) ?_
          refine AllReadyH.cons rfl (fun K hK => ?_) AllReadyH.nil
          go_simp
          refine hK.out _ _ trivial (fun _ => ?_)
          clear hK K
          refine wpAnyH_ready (rs := [9]) (by kernel_rfl) (by simp) ?_
          refine AllReadyH.cons rfl (fun K hK => ?_) AllReadyH.nil
          rw [if_pos (by rfl)]
          refine wp_append_run rfl rfl rfl hrun ?_
          refine hK.out _ _ trivial (fun _ => ?_)
          clear hK K
          try simp only [Act.put, List.setIfInBounds_toArray, List.set_cons_zero, List.set_cons_succ]
          refine wpAnyH_ready (rs := [10]) (by kernel_rfl) (by simp) ?_
          refine AllReadyH.cons rfl (fun K hK => ?_) AllReadyH.nil
          go_simp
          refine hK.out _ _ trivial (fun _ => ?_)
          clear hK K
          refine wpAnyH_done (by kernel_rfl) ?_ _
          exact HG.out
  case done =>
    rintro D T W hD hI hK hTD
    obtain ⟨hb, hsz, hmine, v, hv, hvf, hrow, hnT⟩ := hI
    have hlen : (posts (evT d k)).length = k.size + 1 := by rw [posts_evT]; simp [postF_len]
    rw [hlen, posts_evT] at hrow
    gi_wp2
    refine ⟨by simp, .inl ⟨_, _, rfl, run_takeDeferred hK, ?_⟩⟩
    have nD : ¬ some D = v.ownBlock := fun e => hnT D e hTD
    exact ⟨_, results_tmp rfl _ _ _, _, rfl, below_putObj hb (by omega) (by omega) _, own_block (own_lessP hrow (by omega)) (fun k e hk => World.putObj_heap_other (fun e' => nD (by rw [e'] at e; exact e)))⟩
  case stop =>
    rintro D c pre T W _ _ h _ _
    exact h.elim

theorem post_any (d : Nd) (k : M.F) (av kv : Value) (w : World) (ha : AS (Old w.heap.size) w av d.ats) (hf : FL (Old w.heap.size) w kv k) (hk : k.depth + 1 ≤ 1000000) (hs : k.size + 1 ≤ 1000000000) :
    Calls Try.prog 76 #[nodeV d av kv] w fun e w' => ∃ v, e = .returned v ∧ Below w.heap.size w w' ∧ w'.ownsRow w.heap.size 3 1 v (k.size + 1) (cI (postF k 1 ++ [0])) :=
  (callsIn_wide (n := 4)).1 (post_in 4 (by omega) d k av kv w ha hf hk hs)
end Go.Proofs.Ytkojhgagkoeeiaa
