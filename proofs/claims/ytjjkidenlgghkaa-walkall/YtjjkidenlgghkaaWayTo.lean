/- wayTo: the steps from a tree to its node of a number. -/
import Derived.Test.YtjjkidenlgghkaaFlat
import Derived.Test.YtjjkidenlgghkaaLaw3
set_option linter.unusedVariables false
set_option linter.unusedSimpArgs false
namespace Go.Proofs.Ytjjkidenlgghkaa
open Go.Deep (BT)
open Go.RowKit Go.Shelf M
attribute [local go_sem] Oper.semAt_some

/-- what is held while nobody of that number was met -/
structure Seek (w : World) (id : Int) (T : Nat → Prop) (W : World) (pre : List Tl) : Prop where
  below : Below w.heap.size w W
  size : w.heap.size + 4 ≤ W.heap.size
  mine : ∀ k, T k → w.heap.size + 4 ≤ k
  idc : W.cell? ⟨w.heap.size + 1, 0, Option.none⟩ = some (.int .i64 id)
  res : W.cell? ⟨w.heap.size + 1 + 1, 0, Option.none⟩ = some (.slice Option.none 0 0)
  froz : W.frozen? ⟨w.heap.size + 1 + 1, 0, Option.none⟩ = false
  nobody : ∀ y ∈ pre, (lastId y : Int) ≠ id
theorem Seek.bide {w : World} {id : Int} {T T' : Nat → Prop} {W W' : World} {pre : List Tl} (h : Seek w id T W pre) (hk : Kept (fun k => ¬ T k) W W') (hT : ∀ k, T' k → T k ∨ W.heap.size ≤ k) : Seek w id T' W' pre := by
  have hs := hk.size
  have hz := h.size
  have nk : ∀ k, k < w.heap.size + 4 → ¬ T k := fun k hk e => by have := h.mine _ e; omega
  refine ⟨h.below.trans ⟨hk.os, hk.tape, hk.output, hk.size, fun k hk' => hk.block k (by omega) (nk k (by omega))⟩, by omega, fun k e => ?_, hk.cell (nk _ (by omega)) h.idc, hk.cell (nk _ (by omega)) h.res, (World.frozen?_of_block (a := ⟨w.heap.size + 1 + 1, 0, Option.none⟩) (hk.block (w.heap.size + 1 + 1) (by omega) (nk _ (by omega)))).trans h.froz, h.nobody⟩
  rcases hT k e with e | e
  · exact h.mine k e
  · omega
/-- what comes out: the way -/
structure Found (w : World) (id : Int) (evs : List Tl) (w' : World) (v : Value) : Prop where
  way : ∃ pre x L g cap base, pre ++ [x] <+: evs ∧ (∀ y ∈ pre, (lastId y : Int) ≠ id) ∧ (lastId x : Int) = id ∧ wayOf L = x.way ∧ L ≠ [] ∧ v = .slice (some ⟨g, 0, Option.none⟩) L.length cap ∧ w.heap.size ≤ g ∧ w'.ownsRow base 61 8 v L.length (cellsW L) ∧ AllOK (Old w.heap.size) w' L ∧ L.length ≤ 1000000

theorem Found.like {w W W' : World} {id : Int} {evs : List Tl} {v : Value} (h : Found w id evs W v) (hb : ∀ k, k < W.heap.size → (k < w.heap.size ∨ some k = v.ownBlock) → W'.heap[k]? = W.heap[k]?) : Found w id evs W' v := by
  obtain ⟨pre, x, L, g, cap, base, h1, h2, h3, h4, h5, h6, h7, h8, h9, h10⟩ := h
  exact ⟨pre, x, L, g, cap, base, h1, h2, h3, h4, h5, h6, h7, own_block h8 (fun k e hk => hb k hk (.inr e)), AllOK.like (fun b hb' hz => hb b hz (.inl hb')) h9, h10⟩

set_option maxRecDepth 100000 in
set_option maxHeartbeats 1000000 in
theorem wayTo_in (n : Nat) (hn : 4 ≤ n) (d : Nd) (k : M.F) (av kv : Value) (id : Int) (w : World)
    (ha : AS (Old w.heap.size) w av d.ats) (hf : FL (Old w.heap.size) w kv k) (hk : k.depth + 1 ≤ 1000000) (hs : k.size + 1 ≤ 1000000000) :
    CallsIn Fence.wide n Try.prog 33 #[nodeV d av kv, .int .i64 id] w fun e w' => Below w.heap.size w w' ∧ ((∃ v, e = .returned v ∧ Found w id (evT d k) w' v) ∨ (e = .returned (.slice none 0 0) ∧ ∀ y ∈ evT d k, (lastId y : Int) ≠ id)) := by
  have h1 : 1 ≤ n := by omega
  obtain ⟨a1, b1, c1, eav⟩ := ha.val
  obtain ⟨ka, kc, ekv⟩ := hf.val
  have ha' := ha
  have hf' := hf
  subst eav ekv
  have HA : Aside (AS (Old w.heap.size) w (.slice a1 b1 c1) d.ats) := ha'
  have HF : Aside (FL (Old w.heap.size) w (.slice ka k.len kc) k) := hf'
  clear ha' hf' ha hf
  refine callsIn_of_wp_marks Try.func33 rfl trivial ?_ rfl
  simp only [Try.ntmps33, List.size_toArray, List.length_cons, List.length_nil, Nat.reduceAdd, Nat.reduceSub, Array.replicate_succ, Array.replicate_zero, List.push_toArray, List.append_toArray, List.nil_append, List.cons_append]
  gi_wp2
  refine ⟨trivial, ?_⟩
  refine (steps_call (n - 1) d _ _ _ ⟨_, _, _, rfl⟩ ⟨_, _, _, rfl⟩).mono ?_
  rintro e w' ⟨rfl, rfl⟩
  gi_wp2
  obtain ⟨W0, hW0⟩ : ∃ W0, (((w.alloc (.cells #[.int .i64 d.k, .string d.n, .string d.x, .slice a1 b1 c1, .slice ka k.len kc] 25)).alloc (.cells #[.int .i64 id] 3)).alloc (.cells #[.slice none 0 0] 58)).alloc (.cells #[.int .i64 d.k, .string d.n, .string d.x, .slice a1 b1 c1, .slice ka k.len kc] 25) = W0 := ⟨_, rfl⟩
  have hz : W0.heap.size = w.heap.size + 4 := by rw [← hW0]; simp
  have hB0 : Below w.heap.size w W0 := by rw [← hW0]; exact ((((Below.refl _ w).alloc (Nat.le_refl _) _).alloc (by simp) _).alloc (by simp; omega) _).alloc (by simp; omega) _
  have hblk : W0.heap[w.heap.size + 1]? = some (.cells #[.int .i64 id] 3) ∧ W0.heap[w.heap.size + 1 + 1]? = some (.cells #[.slice none 0 0] 58) ∧ W0.heap[w.heap.size + 1 + 1 + 1]? = some (.cells #[.int .i64 d.k, .string d.n, .string d.x, .slice a1 b1 c1, .slice ka k.len kc] 25) := by
    rw [← hW0]
    refine ⟨?_, ?_, ?_⟩
    · rw [Below.heap_alloc _ _ _ (by simp), Below.heap_alloc _ _ _ (by simp)]
      have := World.alloc_heap_new (w.alloc (.cells #[.int .i64 d.k, .string d.n, .string d.x, .slice a1 b1 c1, .slice ka k.len kc] 25)) (.cells #[.int .i64 id] 3)
      rwa [World.size_alloc] at this
    · rw [Below.heap_alloc _ _ _ (by simp)]
      have := World.alloc_heap_new ((w.alloc (.cells #[.int .i64 d.k, .string d.n, .string d.x, .slice a1 b1 c1, .slice ka k.len kc] 25)).alloc (.cells #[.int .i64 id] 3)) (.cells #[.slice none 0 0] 58)
      rwa [World.size_alloc, World.size_alloc] at this
    · have := World.alloc_heap_new (((w.alloc (.cells #[.int .i64 d.k, .string d.n, .string d.x, .slice a1 b1 c1, .slice ka k.len kc] 25)).alloc (.cells #[.int .i64 id] 3)).alloc (.cells #[.slice none 0 0] 58)) (.cells #[.int .i64 d.k, .string d.n, .string d.x, .slice a1 b1 c1, .slice ka k.len kc] 25)
      rwa [World.size_alloc, World.size_alloc, World.size_alloc] at this
  obtain ⟨e1, e2, e3⟩ := hblk
  have hct : ∀ i v, (#[.int .i64 d.k, .string d.n, .string d.x, .slice a1 b1 c1, .slice ka k.len kc] : Array Value)[i]? = some v → W0.cell? ⟨w.heap.size + 1 + 1 + 1, i, none⟩ = some v := fun i v hv => by simp only [World.cell?, e3]; exact hv
  rw [hW0]
  have hgv := steps_tells (n - 1) (by omega) w.heap.size (w.heap.size + 1 + 1 + 1) d k (.slice a1 b1 c1) ka kc W0 hk hs hB0.size (by omega)
    ⟨hct 0 _ rfl, hct 1 _ rfl, hct 2 _ rfl, hct 3 _ rfl, hct 4 _ rfl⟩ (AS.like (like_below hB0) HA.out) (FL.like (like_below hB0) HF.out)
  refine wpIn_range3 rfl h1 (gf := 41) (lb := #[.pointer (some ⟨w.heap.size + 1 + 1 + 1, 0, none⟩)]) rfl trivial (enters_of Try.func41 (by kernel_rfl) rfl) hgv hB0.size (Below.refl _ _) (fun T W x args h => h.size) (fun T T' W W' x args h h1 h2 => h.keep h1 h2)
    (fun pre T W => Seek w id T W pre)
    (fun c pre T W => c = .ret ∧ Below w.heap.size w W ∧ w.heap.size + 6 ≤ W.heap.size ∧ ∃ v, W.cell? ⟨w.heap.size + 1 + 1, 0, none⟩ = some v ∧ (∀ b, some b = v.ownBlock → b ≠ w.heap.size + 4 ∧ b ≠ w.heap.size + 5) ∧ Found w id (evT d k) W v)
    (fun s T T' A B hs hk hT => hs.bide hk hT)
    (fun c s T W o h hl => by
      obtain ⟨h1, h3, h4, v, h5, h6, h7⟩ := h
      have hLe : W0.heap.size + 1 = w.heap.size + 5 := by omega
      rw [hLe]
      have oth : ∀ k, k ≠ w.heap.size + 5 → (W.putObj (w.heap.size + 5) o).heap[k]? = W.heap[k]? := fun k hk => World.putObj_heap_other hk
      refine ⟨h1, below_putObj h3 (by omega) (by omega) _, Nat.le_trans h4 (grownBy_putObj' W _ o).size, v, ?_, h6, h7.like (fun k _ hk1 => oth k (fun e => by
        rcases hk1 with hk2 | hk2
        · omega
        · exact (h6 k hk2).2 e))⟩
      exact (World.cell?_of_block (w := W) (a := ⟨w.heap.size + 1 + 1, 0, none⟩) (oth (w.heap.size + 1 + 1) (by omega))).trans h5)
    ⟨hB0, by omega, fun _ h => h.elim, by simp [World.cell?, e1], by simp [World.cell?, e2], by simp [World.frozen?, e2], (fun _ h => (by cases h))⟩
    (fun args a' => ∃ v b, args = #[v, b] ∧ a' = { tmps := #[nodeV d (.slice a1 b1 c1) (.slice ka k.len kc), .int .i64 id, .pointer (some ⟨w.heap.size, 0, none⟩), .pointer (some ⟨w.heap.size + 1, 0, none⟩), .pointer (some ⟨w.heap.size + 1 + 1, 0, none⟩), v, .agg #[.int .i64 d.k, .string d.n, .string d.x, .slice a1 b1 c1, .slice ka k.len kc], .func (.func 41) #[] #[.pointer (some ⟨w.heap.size + 1 + 1 + 1, 0, none⟩)], v, b, undef, undef, undef, undef, undef, undef, undef, undef, undef, undef], defers := [] })
    ?assign ?body ?done ?stop
  case assign =>
    intro l x T args W K henc hK
    obtain ⟨L, g, cap, base, e1, e2, rfl, _⟩ := henc
    rw [fold2]
    gi_wp2
    exact hK _ _ (Below.refl _ _) ⟨_, _, rfl, rfl⟩
  case body =>
    rintro l pre x T args a' W hI henc ⟨v, b, rfl, rfl⟩ hp hT hlt hTL hLr hDr
    obtain ⟨L, g, cap, base, e1, e2, e3, hTg, hng, hown, hok, hLl⟩ := henc
    obtain ⟨rfl, rfl⟩ : v = .slice (some ⟨g, 0, none⟩) L.length cap ∧ b = .bool x.left := by simpa using e3
    cases L with
    | nil => exact absurd rfl e2
    | cons f L =>
    obtain ⟨m, hm⟩ : ∃ m, L.length = m := ⟨_, rfl⟩
    have hlast : lastId x = f.s.id := by
      obtain ⟨xw, xl⟩ := x
      obtain rfl : wayOf L ++ [f.s] = xw := e1
      simp [lastId]
    have HOWN := Aside2.mk hown
    simp only [List.length_cons, hm] at hown hLl ⊢
    obtain ⟨hat, _, _, hg2, hcp, hcm⟩ := own8_at hown hm
    have z5 : W.cell? ⟨g, m * 8 + 5, none⟩ = some (.int .i64 f.s.id) := hat 5 _ rfl
    have wm : IntKind.i64.wrap (m : Int) = m := wrap_id (by omega) (by omega)
    have hmm : (m : Int) < m + 1 := by omega
    have hid := hI.idc
    have hres := hI.res
    have hfz := hI.froz
    have HI := Aside2.mk hI
    have HX := Aside2.mk (And.intro e1 (And.intro hlast (And.intro hp hT)))
    have HOK := Aside2.mk hok
    have hgW : w.heap.size + 4 ≤ g := hI.mine g hTg
    have hcg : ∃ cur, W.heap[g]? = some (.cells cur 61) := by
      rcases hown.2 with ⟨e, _⟩ | ⟨g', c', cur, e, _, hh, _⟩
      · cases e
      · cases e; exact ⟨cur, hh⟩
    have hg45 : g ≠ w.heap.size + 4 ∧ g ≠ w.heap.size + 5 := by
      obtain ⟨cur, hh⟩ := hcg
      obtain ⟨r, hr⟩ := hLr
      rw [hz] at hr hDr
      refine ⟨fun e => ?_, fun e => ?_⟩
      · rw [e, hDr] at hh; cases hh
      · rw [e, show w.heap.size + 5 = w.heap.size + 4 + 1 by omega, hr] at hh; cases hh
    have HTg := Aside2.mk (And.intro hTg hTL)
    have hszW := hI.size
    clear hI e1 hlast hp hT hok hat e3 e2 hown hTg hTL
    by_cases heq : (f.s.id : Int) = id
    · have hbe : ((f.s.id : Int) == id) = true := by simp [heq]
      gi_wp2
      refine wpIn_region_held (S := fun w' => w' = W.drew) (by kernel_rfl) (by kernel_rfl) rfl (fun _ => ?_)
      refine wpAnyH_take (i := 0) (v := ?v0n1) rfl (by kernel_rfl) (by kernel_rfl) (by kernel_rfl) (fun _ _ _ h => h) (Or.inl ⟨by rfl, ?hy0n1⟩) rfl ?rr0n1
      case hy0n1 =>
        intro w hSw
        subst hSw
        go_simp
        try with_reducible rfl
      try simp only [Act.put, List.getElem_toArray, List.getElem_cons_succ, List.getElem_cons_zero, List.setIfInBounds_toArray, List.set_cons_zero, List.set_cons_succ]
      refine wpAnyH_take (i := 1) (v := ?v1n2) rfl (by kernel_rfl) (by kernel_rfl) (by kernel_rfl) (fun _ _ _ h => h) (Or.inl ⟨by rfl, ?hy1n2⟩) rfl ?rr1n2
      case hy1n2 =>
        intro w hSw
        subst hSw
        go_simp
        try with_reducible rfl
      try simp only [Act.put, List.getElem_toArray, List.getElem_cons_succ, List.getElem_cons_zero, List.setIfInBounds_toArray, List.set_cons_zero, List.set_cons_succ]
      refine wpAnyH_take (i := 2) (v := ?v2n3) rfl (by kernel_rfl) (by kernel_rfl) (by kernel_rfl) (fun _ _ _ h => h) (Or.inl ⟨by rfl, ?hy2n3⟩) rfl ?rr2n3
      case hy2n3 =>
        intro w hSw
        subst hSw
        go_simp
        try with_reducible rfl
      try simp only [Act.put, List.getElem_toArray, List.getElem_cons_succ, List.getElem_cons_zero, List.setIfInBounds_toArray, List.set_cons_zero, List.set_cons_succ]
      refine wpAnyH_take (i := 3) (v := ?v3n4) rfl (by kernel_rfl) (by kernel_rfl) (by kernel_rfl) (fun _ _ _ h => h) (Or.inl ⟨by rfl, ?hy3n4⟩) rfl ?rr3n4
      case hy3n4 =>
        intro w hSw
        subst hSw
        go_simp
        try with_reducible rfl
      try simp only [Act.put, List.getElem_toArray, List.getElem_cons_succ, List.getElem_cons_zero, List.setIfInBounds_toArray, List.set_cons_zero, List.set_cons_succ]
      refine wpAnyH_take (i := 4) (v := ?v4n5) rfl (by kernel_rfl) (by kernel_rfl) (by kernel_rfl) (fun _ _ _ h => h) (Or.inl ⟨by rfl, ?hy4n5⟩) rfl ?rr4n5
      case hy4n5 =>
        intro w hSw
        subst hSw
        go_simp
        try with_reducible rfl
      try simp only [Act.put, List.getElem_toArray, List.getElem_cons_succ, List.getElem_cons_zero, List.setIfInBounds_toArray, List.set_cons_zero, List.set_cons_succ]
      refine wpAnyH_take (i := 5) (v := ?v5n6) rfl (by kernel_rfl) (by kernel_rfl) (by kernel_rfl) (fun _ _ _ h => h) (Or.inl ⟨by rfl, ?hy5n6⟩) rfl ?rr5n6
      case hy5n6 =>
        intro w hSw
        subst hSw
        go_simp
        try with_reducible rfl
      try simp only [Act.put, List.getElem_toArray, List.getElem_cons_succ, List.getElem_cons_zero, List.setIfInBounds_toArray, List.set_cons_zero, List.set_cons_succ]
      refine wpAnyH_take (i := 6) (v := ?v6n7) rfl (by kernel_rfl) (by kernel_rfl) (by kernel_rfl) (fun _ _ _ h => h) (Or.inl ⟨by rfl, ?hy6n7⟩) rfl ?rr6n7
      case hy6n7 =>
        intro w hSw
        subst hSw
        go_simp
        try with_reducible rfl
      try simp only [Act.put, List.getElem_toArray, List.getElem_cons_succ, List.getElem_cons_zero, List.setIfInBounds_toArray, List.set_cons_zero, List.set_cons_succ]
      refine wpAnyH_take (i := 7) (v := ?v7n8) rfl (by kernel_rfl) (by kernel_rfl) (by kernel_rfl) (fun _ _ _ h => h) (Or.inl ⟨by rfl, ?hy7n8⟩) rfl ?rr7n8
      case hy7n8 =>
        intro w hSw
        subst hSw
        go_simp
        try with_reducible rfl
      try simp only [Act.put, List.getElem_toArray, List.getElem_cons_succ, List.getElem_cons_zero, List.setIfInBounds_toArray, List.set_cons_zero, List.set_cons_succ]
      refine wpAnyH_take (i := 8) (v := ?v8n9) rfl (by kernel_rfl) (by kernel_rfl) (by kernel_rfl) (fun _ _ _ h => h) (Or.inl ⟨by rfl, ?hy8n9⟩) rfl ?rr8n9
      case hy8n9 =>
        intro w hSw
        subst hSw
        go_simp
        try with_reducible rfl
      try simp only [Act.put, List.getElem_toArray, List.getElem_cons_succ, List.getElem_cons_zero, List.setIfInBounds_toArray, List.set_cons_zero, List.set_cons_succ]
      refine wpAnyH_done (by kernel_rfl) ?_ _
      unfold Norm
      dsimp only
      have hset : ∀ k, k ≠ w.heap.size + 1 + 1 → (W.setCell ⟨w.heap.size + 1 + 1, 0, none⟩ (.slice (some ⟨g, 0, none⟩) (m + 1) cap)).heap[k]? = W.heap[k]? := fun k hk => Below.heap_setCell W _ _ _ hk
      have hF : Found w id (evT d k) (W.setCell ⟨w.heap.size + 1 + 1, 0, none⟩ (.slice (some ⟨g, 0, none⟩) (m + 1) cap)).drew (.slice (some ⟨g, 0, none⟩) (m + 1) cap) := by
        refine ⟨pre, x, f :: L, g, cap, base, HX.out.2.2.1, HI.out.nobody, by rw [HX.out.2.1]; exact heq, HX.out.1, by simp, by simp [hm], by omega, ?_, ?_, by simp [hm]; omega⟩
        · have h9 := HOWN.out
          simp only [List.length_cons, hm] at h9 ⊢
          exact own_block h9 (fun k e hk => hset k (by have e' := own_blk1 e; omega))
        · exact AllOK.like (w' := (W.setCell ⟨w.heap.size + 1 + 1, 0, none⟩ (.slice (some ⟨g, 0, none⟩) (m + 1) cap)).drew) (fun b hb' _ => hset b (by have hb2 : b < w.heap.size := hb'; omega)) HOK.out
      have HFF := Aside2.mk hF
      clear hF
      gi_wp2
      show Kept _ W _ ∧ _
      refine ⟨⟨rfl, rfl, rfl, by simp [World.setCell], fun k _ hk => hset k (fun e => ?_)⟩, rfl, HI.out.below.trans ⟨rfl, rfl, rfl, by simp [World.setCell], fun k hk => hset k (by omega)⟩, by simp [World.setCell]; omega, _, World.cell?_setCell_same' _ _ _ (by rw [hres]; rfl), fun b hb => by have := own_blk1 hb; subst this; exact hg45, ?_⟩
      · rcases hk with hk | hk
        · have := HI.out.mine k hk; omega
        · omega
      · exact HFF.out
    · have hbe : ((f.s.id : Int) == id) = false := by simp [heq]
      gi_wp2
      refine wpIn_region_held (S := fun w' => w' = W.drew) (by kernel_rfl) (by kernel_rfl) rfl (fun _ => ?_)
      refine wpAnyH_take (i := 0) (v := ?v0n10) rfl (by kernel_rfl) (by kernel_rfl) (by kernel_rfl) (fun _ _ _ h => h) (Or.inl ⟨by rfl, ?hy0n10⟩) rfl ?rr0n10
      case hy0n10 =>
        intro w hSw
        subst hSw
        go_simp
        try with_reducible rfl
      try simp only [Act.put, List.getElem_toArray, List.getElem_cons_succ, List.getElem_cons_zero, List.setIfInBounds_toArray, List.set_cons_zero, List.set_cons_succ]
      refine wpAnyH_take (i := 1) (v := ?v1n11) rfl (by kernel_rfl) (by kernel_rfl) (by kernel_rfl) (fun _ _ _ h => h) (Or.inl ⟨by rfl, ?hy1n11⟩) rfl ?rr1n11
      case hy1n11 =>
        intro w hSw
        subst hSw
        go_simp
        try with_reducible rfl
      try simp only [Act.put, List.getElem_toArray, List.getElem_cons_succ, List.getElem_cons_zero, List.setIfInBounds_toArray, List.set_cons_zero, List.set_cons_succ]
      refine wpAnyH_take (i := 2) (v := ?v2n12) rfl (by kernel_rfl) (by kernel_rfl) (by kernel_rfl) (fun _ _ _ h => h) (Or.inl ⟨by rfl, ?hy2n12⟩) rfl ?rr2n12
      case hy2n12 =>
        intro w hSw
        subst hSw
        go_simp
        try with_reducible rfl
      try simp only [Act.put, List.getElem_toArray, List.getElem_cons_succ, List.getElem_cons_zero, List.setIfInBounds_toArray, List.set_cons_zero, List.set_cons_succ]
      refine wpAnyH_take (i := 3) (v := ?v3n13) rfl (by kernel_rfl) (by kernel_rfl) (by kernel_rfl) (fun _ _ _ h => h) (Or.inl ⟨by rfl, ?hy3n13⟩) rfl ?rr3n13
      case hy3n13 =>
        intro w hSw
        subst hSw
        go_simp
        try with_reducible rfl
      try simp only [Act.put, List.getElem_toArray, List.getElem_cons_succ, List.getElem_cons_zero, List.setIfInBounds_toArray, List.set_cons_zero, List.set_cons_succ]
      refine wpAnyH_take (i := 4) (v := ?v4n14) rfl (by kernel_rfl) (by kernel_rfl) (by kernel_rfl) (fun _ _ _ h => h) (Or.inl ⟨by rfl, ?hy4n14⟩) rfl ?rr4n14
      case hy4n14 =>
        intro w hSw
        subst hSw
        go_simp
        try with_reducible rfl
      try simp only [Act.put, List.getElem_toArray, List.getElem_cons_succ, List.getElem_cons_zero, List.setIfInBounds_toArray, List.set_cons_zero, List.set_cons_succ]
      refine wpAnyH_take (i := 5) (v := ?v5n15) rfl (by kernel_rfl) (by kernel_rfl) (by kernel_rfl) (fun _ _ _ h => h) (Or.inl ⟨by rfl, ?hy5n15⟩) rfl ?rr5n15
      case hy5n15 =>
        intro w hSw
        subst hSw
        go_simp
        try with_reducible rfl
      try simp only [Act.put, List.getElem_toArray, List.getElem_cons_succ, List.getElem_cons_zero, List.setIfInBounds_toArray, List.set_cons_zero, List.set_cons_succ]
      refine wpAnyH_take (i := 6) (v := ?v6n16) rfl (by kernel_rfl) (by kernel_rfl) (by kernel_rfl) (fun _ _ _ h => h) (Or.inl ⟨by rfl, ?hy6n16⟩) rfl ?rr6n16
      case hy6n16 =>
        intro w hSw
        subst hSw
        go_simp
        try with_reducible rfl
      try simp only [Act.put, List.getElem_toArray, List.getElem_cons_succ, List.getElem_cons_zero, List.setIfInBounds_toArray, List.set_cons_zero, List.set_cons_succ]
      refine wpAnyH_take (i := 7) (v := ?v7n17) rfl (by kernel_rfl) (by kernel_rfl) (by kernel_rfl) (fun _ _ _ h => h) (Or.inl ⟨by rfl, ?hy7n17⟩) rfl ?rr7n17
      case hy7n17 =>
        intro w hSw
        subst hSw
        go_simp
        try with_reducible rfl
      try simp only [Act.put, List.getElem_toArray, List.getElem_cons_succ, List.getElem_cons_zero, List.setIfInBounds_toArray, List.set_cons_zero, List.set_cons_succ]
      refine wpAnyH_take (i := 8) (v := ?v8n18) rfl (by kernel_rfl) (by kernel_rfl) (by kernel_rfl) (fun _ _ _ h => h) (Or.inl ⟨by rfl, ?hy8n18⟩) rfl ?rr8n18
      case hy8n18 =>
        intro w hSw
        subst hSw
        go_simp
        try with_reducible rfl
      try simp only [Act.put, List.getElem_toArray, List.getElem_cons_succ, List.getElem_cons_zero, List.setIfInBounds_toArray, List.set_cons_zero, List.set_cons_succ]
      refine wpAnyH_done (by kernel_rfl) ?_ _
      unfold Norm
      dsimp only
      gi_wp2
      show Kept _ W _ ∧ Seek _ _ _ _ _
      refine ⟨⟨rfl, rfl, rfl, Nat.le_refl _, fun _ _ _ => rfl⟩, HI.out.below.trans ⟨rfl, rfl, rfl, Nat.le_refl _, fun _ _ => rfl⟩, HI.out.size, HI.out.mine, HI.out.idc, HI.out.res, HI.out.froz, fun y hy => ?_⟩
      rcases List.mem_append.1 hy with hy | hy
      · exact HI.out.nobody y hy
      · rw [List.mem_singleton] at hy
        subst hy
        rw [HX.out.2.1]
        exact heq
  case done =>
    rintro D T W hD hI hK hTD
    have hres := hI.res
    have hfz := hI.froz
    have hDm := hI.mine D hTD
    have hsz := hI.size
    gi_wp2
    refine ⟨by simp, .inl ⟨_, _, rfl, run_takeDeferred ((Below.heap_setCell W ⟨w.heap.size + 1 + 1, 0, none⟩ (.slice none 0 0) D (by show D ≠ w.heap.size + 1 + 1; omega)).trans hK), ?_⟩⟩
    obtain ⟨w9, hw9⟩ : ∃ w9, (W.setCell ⟨w.heap.size + 1 + 1, 0, none⟩ (.slice none 0 0)).putObj D (.deferred none) = w9 := ⟨_, rfl⟩
    have hc9 : w9.cell? ⟨w.heap.size + 1 + 1, 0, none⟩ = some (.slice none 0 0) := by
      rw [← hw9, World.cell?_of_block (w := W.setCell ⟨w.heap.size + 1 + 1, 0, none⟩ (.slice none 0 0)) (a := ⟨w.heap.size + 1 + 1, 0, none⟩) (World.putObj_heap_other (by show w.heap.size + 1 + 1 ≠ D; omega))]
      exact World.cell?_setCell_same' _ _ _ (by rw [hres]; rfl)
    have hb9 : Below w.heap.size w w9 := by
      rw [← hw9]
      exact below_putObj (hI.below.setCell (p := ⟨w.heap.size + 1 + 1, 0, none⟩) (by show w.heap.size ≤ w.heap.size + 1 + 1; omega) _) (by omega) (by simp [World.setCell]; omega) _
    rw [hw9]
    exact ⟨_, by simp [results, Try.f33, go_sem, hc9], hb9, .inr ⟨rfl, hI.nobody⟩⟩
  case stop =>
    rintro D c pre T W hD hp h hK hTD
    obtain ⟨rfl, hB, hsz, v, hv, hvb, hF⟩ := h
    have hDe : w.heap.size + 4 ≤ D := by omega
    gi_wp2
    refine ⟨by simp, .inl ⟨_, _, rfl, run_takeDeferred hK, ?_⟩⟩
    obtain ⟨w9, hw9⟩ : ∃ w9, W.putObj D (.deferred none) = w9 := ⟨_, rfl⟩
    have hnb : ∀ b, some b = v.ownBlock → b ≠ D := fun b hb e => by
      have := (hvb b hb).1
      omega
    have hc9 : w9.cell? ⟨w.heap.size + 1 + 1, 0, none⟩ = some v := by
      rw [← hw9, World.cell?_of_block (w := W) (a := ⟨w.heap.size + 1 + 1, 0, none⟩) (World.putObj_heap_other (by show w.heap.size + 1 + 1 ≠ D; omega))]
      exact hv
    have hb9 : Below w.heap.size w w9 := by
      rw [← hw9]
      exact below_putObj hB (by omega) (by omega) _
    have hF9 : Found w id (evT d k) w9 v := hF.like (fun k _ hk1 => by
      rw [← hw9]
      exact World.putObj_heap_other (fun e => by
        rcases hk1 with hk2 | hk2
        · omega
        · exact hnb k hk2 e))
    rw [hw9]
    exact ⟨_, by simp [results, Try.f33, go_sem, hc9], hb9, .inl ⟨v, rfl, hF9⟩⟩
end Go.Proofs.Ytjjkidenlgghkaa
