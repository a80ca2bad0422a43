/- What Size, Depth and Slots answer: how many nodes a tree has, how deep it is, how many attributes. -/
import Derived.Test.YtllimmmgjpnhkaaIter
set_option linter.unusedVariables false
namespace Go.Proofs.Ytllimmmgjpnhkaa
open Go.Deep (BT)
open Go.RowKit Go.Shelf M
attribute [local go_sem] Oper.semAt_some

theorem iter_gives (F : Fence) (n : Nat) (hf : F.fn 99) (hro : F.round = none) (hn : 1 ≤ n) (n₀ Bn : Nat) (d : Nd) (k : M.F) (av : Value) (ka : Option Addr) (kc : Nat) (w : World)
    (hk : k.depth + 2 ≤ 1000000) (hn₀ : n₀ ≤ w.heap.size) (hB : Bn < w.heap.size)
    (hc : w.cell? ⟨Bn, 0, none⟩ = some (.int .i64 d.k) ∧ w.cell? ⟨Bn, 1, none⟩ = some (.string d.n) ∧ w.cell? ⟨Bn, 2, none⟩ = some (.string d.x) ∧ w.cell? ⟨Bn, 3, none⟩ = some av ∧ w.cell? ⟨Bn, 4, none⟩ = some (.slice ka k.len kc))
    (ha : AS (Old n₀) w av d.ats) (hfs : FL (Old n₀) w (.slice ka k.len kc) k) :
    ∃ xs : List Ev, xs.map (·.1) = pre 1 (.cons d k .nil) ∧ (∀ x ∈ xs, IsAt (Old n₀) w x) ∧ Gives F n Try.prog 99 #[.pointer (some ⟨Bn, 0, none⟩)] encs n₀ xs w := by
  obtain ⟨l2, he⟩ := hfs.ev 2
  refine ⟨(⟨1, d, k⟩, av, .slice ka k.len kc) :: l2, ?_, ?_, ?_⟩
  · have := he.fst
    simp [pre, this]
  · intro x hx
    rcases List.mem_cons.1 hx with rfl | hx
    · exact ⟨ha, hfs⟩
    · exact he.is x hx
  · intro l J Jx W hW hJ hJx hY h0
    have hlk := like_below (hW.mono hn₀)
    have hcl : ∀ o, W.cell? ⟨Bn, o, none⟩ = w.cell? ⟨Bn, o, none⟩ := fun o => hW.cell (p := ⟨Bn, o, none⟩) hB
    refine iter_in F n hf hro hn 1000000 n₀ l Bn d k av ka kc J Jx _ W (Nat.le_refl _) hk (Nat.le_trans hn₀ hW.size) hJ hY h0 ⟨(hcl 0).trans hc.1, (hcl 1).trans hc.2.1, (hcl 2).trans hc.2.2.1, (hcl 3).trans hc.2.2.2.1, (hcl 4).trans hc.2.2.2.2⟩ l2 rfl (he.like hlk) (ha.like hlk) (hfs.like hlk)

theorem nodes_in (F : Fence) (n : Nat) (hf : F.fn 69) (hro : F.round = none) (d : Nd) (av kv : Value) (w : World) (h : ∃ a b c, av = .slice a b c) (h2 : ∃ a b c, kv = .slice a b c) :
    CallsIn F n Try.prog 69 #[nodeV d av kv] w fun e w' => e = .returned (.func (.func 99) #[] #[.pointer (some ⟨w.heap.size, 0, none⟩)]) ∧ w' = w.alloc (.cells #[.int .i64 d.k, .string d.n, .string d.x, av, kv] 25) := by
  obtain ⟨a1, b1, c1, rfl⟩ := h
  obtain ⟨a2, b2, c2, rfl⟩ := h2
  refine callsIn_of_wp Try.func69 rfl hf ?_ hro
  simp only [Try.ntmps69, List.size_toArray, List.length_cons, List.length_nil, Nat.reduceAdd, Nat.reduceSub, Array.replicate_succ, Array.replicate_zero, List.push_toArray, List.append_toArray, List.nil_append, List.cons_append]
  gi_wp2
  go_ret
  exact ⟨rfl, rfl⟩

theorem AS.val {S : Nat → Prop} {w : World} {v : Value} {l : List (ByteArray × ByteArray)} (h : AS S w v l) : ∃ a b c, v = .slice a b c := by
  obtain ⟨a, c, e, _⟩ := h
  exact ⟨a, _, c, e⟩
theorem FL.val {S : Nat → Prop} {w : World} {v : Value} {f : M.F} (h : FL S w v f) : ∃ a c, v = .slice a f.len c := by
  obtain ⟨a, c, e, _⟩ := h
  exact ⟨a, c, e⟩

theorem fold2 (t : Array Value) (p q : Tmp) (u v : Value) : (#[p, q].zip #[u, v]).foldl (fun t (x, y) => t.setIfInBounds x y) t = (t.setIfInBounds p u).setIfInBounds q v := by
  simp
theorem box_new (w : World) (c : Array Value) (t : TypeId) (o : Obj) : (∀ i v, c[i]? = some v → ((w.alloc (.cells c t)).alloc o).cell? ⟨w.heap.size, i, none⟩ = some v) ∧ ((w.alloc (.cells c t)).alloc o).frozen? ⟨w.heap.size, 0, none⟩ = false := by
  constructor
  · intro i v h
    rw [World.cell?_alloc_lt _ _ _ (by simp)]
    exact (World.cell?_alloc_new w c t i).trans h
  · have e : ((w.alloc (.cells c t)).alloc o).heap[w.heap.size]? = some (.cells c t) := (Below.heap_alloc _ _ _ (by simp)).trans (World.alloc_heap_new w _)
    simp [World.frozen?, e]

set_option maxRecDepth 100000 in
set_option maxHeartbeats 2000000 in
theorem size_in (F : Fence) (n : Nat) (hF : ∀ f, F.fn f) (hro : F.round = none) (hn : 4 ≤ n) (d : Nd) (k : M.F) (av kv : Value) (w : World)
    (ha : AS (Old w.heap.size) w av d.ats) (hf : FL (Old w.heap.size) w kv k) (hk : k.depth + 2 ≤ 1000000) (hs : k.size ≤ 1000000000) :
    CallsIn F n Try.prog 26 #[nodeV d av kv] w fun e w' => e = .returned (.int .i64 (k.size + 1 : Nat)) ∧ Below w.heap.size w w' := by
  have h1 : 1 ≤ n := by omega
  obtain ⟨a1, b1, c1, eav⟩ := ha.val
  obtain ⟨ka, kc, ekv⟩ := hf.val
  have ha' := ha
  have hf' := hf
  subst eav ekv
  have HA : Aside (AS (Old w.heap.size) w (.slice a1 b1 c1) d.ats) := ha'
  have HF : Aside (FL (Old w.heap.size) w (.slice ka k.len kc) k) := hf'
  clear ha' hf' ha hf
  refine callsIn_of_wp_marks Try.func26 rfl (hF _) ?_ hro
  simp only [Try.ntmps26, List.size_toArray, List.length_cons, List.length_nil, Nat.reduceAdd, Nat.reduceSub, Array.replicate_succ, Array.replicate_zero, List.push_toArray, List.append_toArray, List.nil_append, List.cons_append]
  gi_wp2_with (gi_at_call 69; refine (nodes_in F (n - 1) (hF _) hro d _ _ _ ⟨_, _, _, rfl⟩ ⟨_, _, _, rfl⟩).mono ?_; rintro e w' ⟨rfl, rfl⟩)
  obtain ⟨W0, hW0⟩ : ∃ W0, ((w.alloc (.cells #[.int .i64 d.k, .string d.n, .string d.x, .slice a1 b1 c1, .slice ka k.len kc] 25)).alloc (.cells #[.int .i64 0] 3)).alloc (.cells #[.int .i64 d.k, .string d.n, .string d.x, .slice a1 b1 c1, .slice ka k.len kc] 25) = W0 := ⟨_, rfl⟩
  have hz : W0.heap.size = w.heap.size + 3 := by rw [← hW0]; simp
  have hB0 : Below w.heap.size w W0 := by rw [← hW0]; exact (((Below.refl _ w).alloc (Nat.le_refl _) _).alloc (by simp) _).alloc (by simp; omega) _
  have hcs : W0.cell? ⟨w.heap.size + 1, 0, none⟩ = some (.int .i64 0) ∧ W0.frozen? ⟨w.heap.size + 1, 0, none⟩ = false := by
    have h := box_new (w.alloc (.cells #[.int .i64 d.k, .string d.n, .string d.x, .slice a1 b1 c1, .slice ka k.len kc] 25)) #[.int .i64 0] 3 (.cells #[.int .i64 d.k, .string d.n, .string d.x, .slice a1 b1 c1, .slice ka k.len kc] 25)
    rw [hW0, World.size_alloc] at h
    exact ⟨h.1 0 _ rfl, h.2⟩
  have hct : ∀ i v, (#[.int .i64 d.k, .string d.n, .string d.x, .slice a1 b1 c1, .slice ka k.len kc] : Array Value)[i]? = some v → W0.cell? ⟨w.heap.size + 1 + 1, i, none⟩ = some v := by
    intro i v hv
    have h := World.cell?_alloc_new ((w.alloc (.cells #[.int .i64 d.k, .string d.n, .string d.x, .slice a1 b1 c1, .slice ka k.len kc] 25)).alloc (.cells #[.int .i64 0] 3)) #[.int .i64 d.k, .string d.n, .string d.x, .slice a1 b1 c1, .slice ka k.len kc] 25 i
    rw [hW0, World.size_alloc, World.size_alloc] at h
    exact h.trans hv
  rw [hW0]
  obtain ⟨xs, hxs, his, hgv⟩ := iter_gives F (n - 1) (hF _) hro (by omega) w.heap.size (w.heap.size + 1 + 1) d k (.slice a1 b1 c1) ka kc W0 hk hB0.size (by omega)
    ⟨hct 0 _ rfl, hct 1 _ rfl, hct 2 _ rfl, hct 3 _ rfl, hct 4 _ rfl⟩ (AS.like (like_below hB0) HA.out) (FL.like (like_below hB0) HF.out)
  have hlen : xs.length = k.size + 1 := by
    have := congrArg List.length hxs
    rw [List.length_map, pre_length] at this
    rw [this]; simp [BT.size]; omega
  refine wpIn_range hro h1 (gf := 99) (lb := #[.pointer (some ⟨w.heap.size + 1 + 1, 0, none⟩)]) rfl (hF _) (enters_of Try.func99 (by kernel_rfl) rfl) hgv hB0.size (Below.refl _ _) (fun _ => rfl)
    (fun pre W => (W.cell? ⟨w.heap.size + 1, 0, none⟩ = some (.int .i64 pre.length) ∧ W.frozen? ⟨w.heap.size + 1, 0, none⟩ = false) ∧ Below w.heap.size w W)
    (fun _ _ _ => False)
    (fun s A B hs hb => ⟨⟨(hb.cell (p := ⟨w.heap.size + 1, 0, none⟩) (by show w.heap.size + 1 < _; omega)).trans hs.1.1, (hb.frozen (p := ⟨w.heap.size + 1, 0, none⟩) (by show w.heap.size + 1 < _; omega)).trans hs.1.2⟩, hs.2.trans (hb.mono hB0.size)⟩)
    (fun _ _ _ _ hs _ => hs)
    ⟨hcs, hB0⟩
    (fun x a' W => a' = { tmps := #[nodeV d (.slice a1 b1 c1) (.slice ka k.len kc), .pointer (some ⟨w.heap.size, 0, none⟩), .int .i64 0, .pointer (some ⟨w.heap.size + 1, 0, none⟩), .agg #[.int .i64 d.k, .string d.n, .string d.x, .slice a1 b1 c1, .slice ka k.len kc], .func (.func 99) #[] #[.pointer (some ⟨w.heap.size + 1 + 1, 0, none⟩)], .int .i64 x.1.i, nodeV x.1.d x.2.1 x.2.2, undef, undef, undef], defers := [] })
    (fun _ _ _ _ h _ => h) ?assign ?body ?done ?stop
  case assign =>
    intro l pre x W K hi hp hlt hK
    simp only [encs]
    rw [fold2]
    gi_wp2
    exact hK _ _ (Below.refl _ _) rfl
  case body =>
    rintro l pre x a' W ⟨⟨hc, hf⟩, hB⟩ rfl hp hlt
    have hpl : pre.length + 1 ≤ k.size + 1 := by
      have := hp.length_le
      simp at this
      omega
    gi_wp2
    refine ⟨(Keep.refl _ _ _).setCell (p := ⟨w.heap.size + 1, 0, none⟩) (by show _ ≤ w.heap.size + 1; omega) (by show w.heap.size + 1 < _; omega) _, ⟨?_, by rw [World.frozen?_setCell]; exact hf⟩, hB.setCell (p := ⟨w.heap.size + 1, 0, none⟩) (by show _ ≤ w.heap.size + 1; omega) _⟩
    rw [List.length_append]
    exact World.cell?_setCell_same' _ _ _ (by rw [hc]; rfl)
  case done =>
    rintro D W hD ⟨⟨hc, _⟩, hB⟩ hK
    rw [hlen] at hc
    gi_wp2
    refine ⟨by simp, .inl ⟨_, _, rfl, run_takeDeferred hK, ?_⟩⟩
    exact ⟨_, results_tmp rfl _ _ _, rfl, below_putObj hB (by omega) (by have := hB.size; omega) _⟩
  case stop =>
    rintro D c pre W _ _ h _
    exact h.elim
theorem size_any (d : Nd) (k : M.F) (av kv : Value) (w : World) (ha : AS (Old w.heap.size) w av d.ats) (hf : FL (Old w.heap.size) w kv k) (hk : k.depth + 2 ≤ 1000000) (hs : k.size ≤ 1000000000) :
    Calls Try.prog 26 #[nodeV d av kv] w fun e w' => e = .returned (.int .i64 (k.size + 1 : Nat)) ∧ Below w.heap.size w w' :=
  (callsIn_wide (n := 4)).1 (size_in Fence.wide 4 (fun _ => trivial) rfl (by omega) d k av kv w ha hf hk hs)
end Go.Proofs.Ytllimmmgjpnhkaa
