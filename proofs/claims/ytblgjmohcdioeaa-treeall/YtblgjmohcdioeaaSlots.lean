/- What Slots answers: how many attributes all nodes of a tree have. -/
import Derived.Test.YtblgjmohcdioeaaSizes
set_option linter.unusedVariables false
namespace Go.Proofs.Ytblgjmohcdioeaa
open Go.Deep (BT)
open Go.RowKit Go.Shelf M
attribute [local go_sem] Oper.semAt_some

set_option maxRecDepth 100000 in
set_option maxHeartbeats 2000000 in
theorem slots_in (F : Fence) (n : Nat) (hF : ∀ f, F.fn f) (hro : F.round = none) (hn : 4 ≤ n) (d : Nd) (k : M.F) (av kv : Value) (w : World)
    (ha : AS (Old w.heap.size) w av d.ats) (hf : FL (Old w.heap.size) w kv k) (hk : k.depth + 2 ≤ 1000000) (hs : d.ats.length + k.slots ≤ 1000000000) :
    CallsIn F n Try.prog 22 #[nodeV d av kv] w fun e w' => e = .returned (.int .i64 (d.ats.length + k.slots : Nat)) ∧ Below w.heap.size w w' := by
  have h1 : 1 ≤ n := by omega
  obtain ⟨a1, b1, c1, eav⟩ := ha.val
  obtain ⟨ka, kc, ekv⟩ := hf.val
  have ha' := ha
  have hf' := hf
  subst eav ekv
  have HA : Aside (AS (Old w.heap.size) w (.slice a1 b1 c1) d.ats) := ha'
  have HF : Aside (FL (Old w.heap.size) w (.slice ka k.len kc) k) := hf'
  clear ha' hf' ha hf
  refine callsIn_of_wp_marks Try.func22 rfl (hF _) ?_ hro
  simp only [Try.ntmps22, List.size_toArray, List.length_cons, List.length_nil, Nat.reduceAdd, Nat.reduceSub, Array.replicate_succ, Array.replicate_zero, List.push_toArray, List.append_toArray, List.nil_append, List.cons_append]
  gi_wp2_with (gi_at_call 34; refine (nodes_in F (n - 1) (hF _) hro d _ _ _ ⟨_, _, _, rfl⟩ ⟨_, _, _, rfl⟩).mono ?_; rintro e w' ⟨rfl, rfl⟩)
  obtain ⟨W0, hW0⟩ : ∃ W0, ((w.alloc (.cells #[.int .i64 d.k, .string d.n, .string d.x, .slice a1 b1 c1, .slice ka k.len kc] 25)).alloc (.cells #[.int .i64 0] 3)).alloc (.cells #[.int .i64 d.k, .string d.n, .string d.x, .slice a1 b1 c1, .slice ka k.len kc] 25) = W0 := ⟨_, rfl⟩
  have hz : W0.heap.size = w.heap.size + 3 := by rw [← hW0]; simp
  have hB0 : Below w.heap.size w W0 := by rw [← hW0]; exact (((Below.refl _ w).alloc (Nat.le_refl _) _).alloc (by simp) _).alloc (by simp; omega) _
  have hcs : W0.cell? ⟨w.heap.size + 1, 0, none⟩ = some (.int .i64 0) ∧ W0.frozen? ⟨w.heap.size + 1, 0, none⟩ = false := by
    have h := box_new (w.alloc (.cells #[.int .i64 d.k, .string d.n, .string d.x, .slice a1 b1 c1, .slice ka k.len kc] 25)) #[.int .i64 0] 3 (.cells #[.int .i64 d.k, .string d.n, .string d.x, .slice a1 b1 c1, .slice ka k.len kc] 25)
    rw [hW0, World.size_alloc] at h
    exact ⟨h.1 0 _ rfl, h.2⟩
  have hct : ∀ i v, (#[.int .i64 d.k, .string d.n, .string d.x, .slice a1 b1 c1, .slice ka k.len kc] : Array Value)[i]? = some v → W0.cell? ⟨w.heap.size + 1 + 1, i, none⟩ = some v := by
    intro i v hv
    have h := World.cell?_alloc_new ((w.alloc (.cells #[.int .i64 d.k, .string d.n, .string d.x, .slice a1 b1 c1, .slice ka k.len kc] 25)).alloc (.cells #[.int .i64 0] 3)) #[.int .i64 d.k, .string d.n, .string d.x, .slice a1 b1 c1, .slice ka k.len kc] 25 i
    rw [hW0, World.size_alloc, World.size_alloc] at h
    exact h.trans hv
  rw [hW0]
  obtain ⟨xs, hxs, his, hgv⟩ := iter_gives F (n - 1) (hF _) hro (by omega) w.heap.size (w.heap.size + 1 + 1) d k (.slice a1 b1 c1) ka kc W0 hk hB0.size (by omega)
    ⟨hct 0 _ rfl, hct 1 _ rfl, hct 2 _ rfl, hct 3 _ rfl, hct 4 _ rfl⟩ (AS.like (like_below hB0) HA.out) (FL.like (like_below hB0) HF.out)
  have hlen : slotsOf (xs.map (·.1)) = d.ats.length + k.slots := by
    rw [hxs, slots_pre]; simp [BT.slots]
  refine wpIn_range hro h1 (gf := 45) (lb := #[.pointer (some ⟨w.heap.size + 1 + 1, 0, none⟩)]) rfl (hF _) (enters_of Try.func45 (by kernel_rfl) rfl) hgv hB0.size (Below.refl _ _) (fun _ => rfl)
    (fun pre W => (W.cell? ⟨w.heap.size + 1, 0, none⟩ = some (.int .i64 (slotsOf (pre.map (·.1)))) ∧ W.frozen? ⟨w.heap.size + 1, 0, none⟩ = false) ∧ Below w.heap.size w W)
    (fun _ _ _ => False)
    (fun s A B hs hb => ⟨⟨(hb.cell (p := ⟨w.heap.size + 1, 0, none⟩) (by show w.heap.size + 1 < _; omega)).trans hs.1.1, (hb.frozen (p := ⟨w.heap.size + 1, 0, none⟩) (by show w.heap.size + 1 < _; omega)).trans hs.1.2⟩, hs.2.trans (hb.mono hB0.size)⟩)
    (fun _ _ _ _ hs _ => hs)
    ⟨hcs, hB0⟩
    (fun x a' W => ∃ Bx, w.heap.size + 4 < Bx ∧ W.cell? ⟨Bx, 3, none⟩ = some x.2.1 ∧ a' = { tmps := #[nodeV d (.slice a1 b1 c1) (.slice ka k.len kc), .pointer (some ⟨w.heap.size, 0, none⟩), .int .i64 0, .pointer (some ⟨w.heap.size + 1, 0, none⟩), undef, .pointer (some ⟨Bx, 0, none⟩), .agg #[.int .i64 d.k, .string d.n, .string d.x, .slice a1 b1 c1, .slice ka k.len kc], .func (.func 45) #[] #[.pointer (some ⟨w.heap.size + 1 + 1, 0, none⟩)], .int .i64 x.1.i, nodeV x.1.d x.2.1 x.2.2, undef, undef, undef, undef, undef, undef], defers := [] })
    (fun x a' W o h hl => by
      obtain ⟨Bx, h1, h2, h3⟩ := h
      exact ⟨Bx, h1, (World.cell?_of_block (w := W) (a := ⟨Bx, 3, none⟩) (World.putObj_heap_other (by show Bx ≠ _; omega))).trans h2, h3⟩) ?assign ?body ?done ?stop
  case assign =>
    rintro l pre ⟨⟨xi, xd, xk⟩, xav, xkv⟩ W K hi hp hlt hK
    have hx := his _ (hp.subset (List.mem_append.2 (.inr (List.mem_singleton.2 rfl))))
    obtain ⟨xa1, xb1, xc1, eav⟩ := hx.at_.val
    obtain ⟨xka, xkc, ekv⟩ := hx.kids.val
    dsimp only at eav ekv
    subst eav ekv
    simp only [encs]
    rw [fold2]
    clear hx
    gi_wp2
    exact hK _ _ ((Below.refl _ _).alloc (Nat.le_refl _) _) ⟨W.heap.size, by omega, World.cell?_alloc_new W _ _ 3, rfl⟩
  case body =>
    rintro l pre ⟨⟨xi, xd, xk⟩, xav, xkv⟩ a' W ⟨⟨hc, hf⟩, hB⟩ ⟨Bx, hBx, hcx, rfl⟩ hp hlt
    have hx := his _ (hp.subset (List.mem_append.2 (.inr (List.mem_singleton.2 rfl))))
    obtain ⟨xa1, xc1, eav, _⟩ := hx.at_
    dsimp only at eav hcx
    subst eav
    have hso : slotsOf ((pre ++ [((⟨xi, xd, xk⟩ : At), Value.slice xa1 xd.ats.length xc1, xkv)]).map (·.1)) = slotsOf (pre.map (·.1)) + xd.ats.length := by
      rw [List.map_append, slotsOf_append]; simp [slotsOf]
    have hpl : slotsOf (pre.map (·.1)) + xd.ats.length ≤ 1000000000 := by
      obtain ⟨l3, h3⟩ := hp
      have h4 := hlen
      rw [← h3, List.map_append, slotsOf_append, hso] at h4
      omega
    obtain ⟨D, hD⟩ : ∃ D, slotsOf (pre.map (·.1)) = D := ⟨_, rfl⟩
    rw [hD] at hc hso hpl
    have HD : Aside _ := hso
    clear hso hD hx
    gi_wp2
    refine ⟨(Keep.refl _ _ _).setCell (p := ⟨w.heap.size + 1, 0, none⟩) (by show _ ≤ w.heap.size + 1; omega) (by show w.heap.size + 1 < _; omega) _, ⟨?_, by rw [World.frozen?_setCell]; exact hf⟩, hB.setCell (p := ⟨w.heap.size + 1, 0, none⟩) (by show _ ≤ w.heap.size + 1; omega) _⟩
    rw [HD.out]
    exact World.cell?_setCell_same' _ _ _ (by rw [hc]; rfl)
  case done =>
    rintro D W hD ⟨⟨hc, _⟩, hB⟩ hK
    rw [hlen] at hc
    gi_wp2
    refine ⟨by simp, .inl ⟨_, _, rfl, run_takeDeferred hK, ?_⟩⟩
    exact ⟨_, results_tmp rfl _ _ _, rfl, below_putObj hB (by omega) (by have := hB.size; omega) _⟩
  case stop =>
    rintro D c pre W _ _ h _
    exact h.elim
theorem slots_any (d : Nd) (k : M.F) (av kv : Value) (w : World) (ha : AS (Old w.heap.size) w av d.ats) (hf : FL (Old w.heap.size) w kv k) (hk : k.depth + 2 ≤ 1000000) (hs : d.ats.length + k.slots ≤ 1000000000) :
    Calls Try.prog 22 #[nodeV d av kv] w fun e w' => e = .returned (.int .i64 (d.ats.length + k.slots : Nat)) ∧ Below w.heap.size w w' :=
  (callsIn_wide (n := 4)).1 (slots_in Fence.wide 4 (fun _ => trivial) rfl (by omega) d k av kv w ha hf hk hs)
end Go.Proofs.Ytblgjmohcdioeaa
