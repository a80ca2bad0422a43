/- Len: how many bytes a tree's source has. -/
import Derived.Test.YtibagbnnplpfgaaDoorSText
set_option linter.unusedVariables false
set_option linter.unusedSimpArgs false
namespace Go.Proofs.YtibagbnnplpfgaaDoor
open Go.Deep (BT)
open Go.RowKit Go.Shelf M
attribute [local go_sem] Oper.semAt_some

/-- a sum that grows; the iterator's blocks are others -/
structure Sums (w : World) (T : Nat → Prop) (W : World) (n : Nat) : Prop where
  below : Below w.heap.size w W
  size : w.heap.size + 3 ≤ W.heap.size
  mine : ∀ k, T k → w.heap.size + 3 ≤ k
  here : W.heap[w.heap.size + 1]? = some (.cells #[.int .i64 n] 3 (0, 0))
theorem Sums.bide {w : World} {T T' : Nat → Prop} {W W' : World} {n : Nat} (h : Sums w T W n) (hk : Kept (fun k => ¬ T k) W W') (hT : ∀ k, T' k → T k ∨ W.heap.size ≤ k) : Sums w T' W' n := by
  obtain ⟨h1, h2, h3, h4⟩ := h
  have hs := hk.size
  have hw := h1.size
  refine ⟨h1.trans ⟨hk.os, hk.tape, hk.output, hk.size, fun k hk' => hk.block k (by omega) (fun e => by have := h3 _ e; omega)⟩, by omega, fun k e => ?_, (hk.block _ (by omega) (fun e => by have := h3 _ e; omega)).trans h4⟩
  rcases hT k e with e | e
  · exact h3 k e
  · omega
theorem Sums.push {w : World} {T : Nat → Prop} {W : World} {n m : Nat} (h : Sums w T W n) :
    Kept (fun k => T k ∨ k < w.heap.size) W (W.setCell ⟨w.heap.size + 1, 0, none⟩ (.int .i64 m)) ∧ Sums w T (W.setCell ⟨w.heap.size + 1, 0, none⟩ (.int .i64 m)) m := by
  obtain ⟨h1, h2, h3, h4⟩ := h
  refine ⟨(Kept.refl _ _).setCell (p := ⟨w.heap.size + 1, 0, none⟩) (fun h => by rcases h with h | h; have := h3 _ h; have e : w.heap.size + 1 = (⟨w.heap.size + 1, 0, none⟩ : Addr).block := rfl; omega; have e : w.heap.size + 1 = (⟨w.heap.size + 1, 0, none⟩ : Addr).block := rfl; omega) _, h1.setCell (p := ⟨w.heap.size + 1, 0, none⟩) (by show _ ≤ w.heap.size + 1; omega) _, by simpa [World.setCell] using h2, h3, ?_⟩
  simp [World.setCell, Array.getElem?_modify, h4]

set_option maxRecDepth 100000 in
set_option maxHeartbeats 2000000 in
theorem len_in (n : Nat) (hn : 4 ≤ n) (d : Nd) (k : M.F) (av kv : Value) (w : World)
    (ha : AS (Old w.heap.size) w av d.ats) (hf : FL (Old w.heap.size) w kv k) (hk : k.depth + 2 ≤ 1000000) (hok : allF OKnd (.cons d k .nil)) (hx : (srcB d k).length ≤ 1000000000) (hm : Met w) :
    CallsIn Fence.wide n Tryd.prog 14 #[nodeV d av kv] w fun e w' => e = .returned (.int .i64 (srcB d k).length) ∧ Below w.heap.size w w' := by
  have h1 : 1 ≤ n := by omega
  obtain ⟨a1, b1, c1, eav⟩ := ha.val
  obtain ⟨ka, kc, ekv⟩ := hf.val
  have ha' := ha
  have hf' := hf
  subst eav ekv
  have HA : Aside (AS (Old w.heap.size) w (.slice a1 b1 c1) d.ats) := ha'
  have HF : Aside (FL (Old w.heap.size) w (.slice ka k.len kc) k) := hf'
  have HOK : Aside (allF OKnd (.cons d k .nil)) := hok
  have HM : Aside (Met w) := hm
  clear ha' hf' ha hf hok hm
  refine callsIn_of_wp_marks Tryd.func14 rfl trivial ?_ rfl
  simp only [Tryd.ntmps14, List.size_toArray, List.length_cons, List.length_nil, Nat.reduceAdd, Nat.reduceSub, Array.replicate_succ, Array.replicate_zero, List.push_toArray, List.append_toArray, List.nil_append, List.cons_append]
  gi_wp2
  refine ⟨trivial, ?_⟩
  refine (pieces_call (n - 1) d _ _ _ ⟨_, _, _, rfl⟩ ⟨_, _, _, rfl⟩).mono ?_
  rintro e w' ⟨rfl, rfl⟩
  gi_wp2
  obtain ⟨W0, hW0⟩ : ∃ W0, ((w.alloc (.cells #[.int .i64 d.k, .string d.n, .string d.x, .slice a1 b1 c1, .slice ka k.len kc] 25)).alloc (.cells #[.int .i64 0] 3)).alloc (.cells #[.int .i64 d.k, .string d.n, .string d.x, .slice a1 b1 c1, .slice ka k.len kc] 25) = W0 := ⟨_, rfl⟩
  have hz : W0.heap.size = w.heap.size + 3 := by rw [← hW0]; simp
  have hB0 : Below w.heap.size w W0 := by rw [← hW0]; exact (((Below.refl _ w).alloc (Nat.le_refl _) _).alloc (by simp) _).alloc (by simp; omega) _
  have hcs : W0.heap[w.heap.size + 1]? = some (.cells #[.int .i64 (0 : Nat)] 3 (0, 0)) := by
    have e : w.heap.size + 1 = (w.alloc (.cells #[.int .i64 d.k, .string d.n, .string d.x, .slice a1 b1 c1, .slice ka k.len kc] 25)).heap.size := by simp
    rw [← hW0, e, Below.heap_alloc _ _ _ (by simp)]
    exact World.alloc_heap_new _ _
  have hct : ∀ i v, (#[.int .i64 d.k, .string d.n, .string d.x, .slice a1 b1 c1, .slice ka k.len kc] : Array Value)[i]? = some v → W0.cell? ⟨w.heap.size + 1 + 1, i, none⟩ = some v := by
    intro i v hv
    have h := World.cell?_alloc_new ((w.alloc (.cells #[.int .i64 d.k, .string d.n, .string d.x, .slice a1 b1 c1, .slice ka k.len kc] 25)).alloc (.cells #[.int .i64 0] 3)) #[.int .i64 d.k, .string d.n, .string d.x, .slice a1 b1 c1, .slice ka k.len kc] 25 i
    rw [hW0, World.size_alloc, World.size_alloc] at h
    exact h.trans hv
  rw [hW0]
  have hgv := pieces_tells (n - 1) (by omega) w.heap.size (w.heap.size + 1 + 1) d k (.slice a1 b1 c1) ka kc W0 hk hB0.size (by omega)
    ⟨hct 0 _ rfl, hct 1 _ rfl, hct 2 _ rfl, hct 3 _ rfl, hct 4 _ rfl⟩ (AS.like (like_below hB0) HA.out) (FL.like (like_below hB0) HF.out) HOK.out (HM.out.below hB0) HM.out.lt
  refine wpIn_range2 rfl h1 (gf := 36) (lb := #[.pointer (some ⟨w.heap.size + 1 + 1, 0, none⟩)]) rfl trivial (enters_of Tryd.func36 (by kernel_rfl) rfl) hgv hB0.size (Below.refl _ _) (fun T W x args h => by rw [show args = #[.string x] from h]; rfl) (fun T T' W W' x args h h1 h2 => h)
    (fun pre T W => Sums w T W (fltP pre).length)
    (fun _ _ _ _ => False)
    (fun s T T' A B hs hk hT => hs.bide hk hT)
    (fun _ _ _ _ _ h _ => h)
    ⟨hB0, by omega, fun _ h => h.elim, hcs⟩
    (fun args a' => ∃ v, args = #[v] ∧ a' = { tmps := #[nodeV d (.slice a1 b1 c1) (.slice ka k.len kc), .pointer (some ⟨w.heap.size, 0, none⟩), .int .i64 0, .pointer (some ⟨w.heap.size + 1, 0, none⟩), v, .agg #[.int .i64 d.k, .string d.n, .string d.x, .slice a1 b1 c1, .slice ka k.len kc], .func (.func 36) #[] #[.pointer (some ⟨w.heap.size + 1 + 1, 0, none⟩)], v, undef, undef, undef, undef, undef], defers := [] })
    ?assign ?body ?done ?stop
  case assign =>
    intro l x T args W K henc hK
    obtain rfl : args = #[.string x] := henc
    rw [fold1]
    gi_wp2
    exact hK _ _ (Below.refl _ _) ⟨_, rfl, rfl⟩
  case body =>
    rintro l pre x T args a' W hI henc ⟨v0, hargs, rfl⟩ hp hT hlt hTL
    obtain rfl : v0 = .string x := by
      have e : args = #[.string x] := henc
      rw [hargs] at e
      simpa using e
    have HI : Aside (Sums w T W (fltP pre).length) := hI
    obtain ⟨hb, hsz, hmine, hh⟩ := hI
    obtain ⟨q, hq⟩ : ∃ q, (fltP pre).length = q := ⟨_, rfl⟩
    have hlen : q + x.size ≤ 1000000000 := by
      have h1 := fltP_pre hp
      rw [fltP_xsP, fltP_append] at h1
      rw [show fltP [x] = x.data.toList from List.append_nil _, List.length_append, data_len] at h1
      omega
    have HF : Fact ((fltP (pre ++ [x])).length = q + x.size) := ⟨by rw [fltP_append, show fltP [x] = x.data.toList from List.append_nil _, List.length_append, data_len, hq]⟩
    rw [hq] at hh HI
    have c0 : W.cell? ⟨w.heap.size + 1, 0, none⟩ = some (.int .i64 q) := by rw [Lib.cell_of_heap hh]; rfl
    have f0 : W.frozen? ⟨w.heap.size + 1, 0, none⟩ = false := Lib.frozen_of_heap hh 0
    clear hh hb hq
    gi_wp2
    show Kept _ W _ ∧ Sums _ T _ _
    rw [HF.out]
    have := HI.out.push (m := q + x.size)
    simpa using this
  case done =>
    rintro D T W hD hI hK hTD
    obtain ⟨hb, hsz, hmine, hh⟩ := hI
    rw [fltP_xsP] at hh
    have c0 : W.cell? ⟨w.heap.size + 1, 0, none⟩ = some (.int .i64 (srcB d k).length) := by rw [Lib.cell_of_heap hh]; rfl
    gi_wp2
    refine ⟨by simp, .inl ⟨_, _, rfl, run_takeDeferred hK, ?_⟩⟩
    exact ⟨_, results_tmp rfl _ _ _, rfl, below_putObj hb (by omega) (by omega) _⟩
  case stop =>
    rintro D c pre T W _ _ h _ _
    exact h.elim
theorem len_any (d : Nd) (k : M.F) (av kv : Value) (w : World) (ha : AS (Old w.heap.size) w av d.ats) (hf : FL (Old w.heap.size) w kv k) (hk : k.depth + 2 ≤ 1000000) (hok : allF OKnd (.cons d k .nil)) (hx : (srcB d k).length ≤ 1000000000) (hm : Met w) :
    Calls Tryd.prog 14 #[nodeV d av kv] w fun e w' => e = .returned (.int .i64 (srcB d k).length) ∧ Below w.heap.size w w' :=
  (callsIn_wide (n := 4)).1 (len_in 4 (by omega) d k av kv w ha hf hk hok hx hm)
end Go.Proofs.YtibagbnnplpfgaaDoor
