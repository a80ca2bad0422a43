/- Text, Len: a tree's source, its bytes. -/
import Derived.Test.YtibagbnnplpfgaaDoorPiter
import Derived.Test.YtibagbnnplpfgaaDoorBldS
set_option linter.unusedVariables false
set_option linter.unusedSimpArgs false
namespace Go.Proofs.YtibagbnnplpfgaaDoor
open Go.Deep (BT)
open Go.RowKit Go.Shelf M
attribute [local go_sem] Oper.semAt_some

/-- a tree's source -/
def srcB (d : Nd) (k : M.F) : List UInt8 := fltP (pcs false (.cons d k .nil))
def EncS (T : Nat → Prop) (W : World) (x : ByteArray) (args : Array Value) : Prop := args = #[.string x]
def xsP (d : Nd) (k : M.F) : List ByteArray := pcs false (.cons d k .nil) ++ [⟨#[]⟩]
theorem fltP_xsP (d : Nd) (k : M.F) : fltP (xsP d k) = srcB d k := by
  unfold xsP srcB
  rw [fltP_append]
  exact List.append_nil _
theorem srcB_len {d : Nd} {k : M.F} (h : allF OKnd (.cons d k .nil)) (hs : k.size + 1 ≤ 400) : (srcB d k).length ≤ 300000000 := by
  have := pcs_len (.cons d k .nil) false h
  simp only [BT.size] at this
  unfold srcB
  omega
theorem bytes_append (a b : List UInt8) : Lib.byteCells (a ++ b) = Lib.byteCells a ++ Lib.byteCells b := by simp [Lib.byteCells]
theorem str_bytes (s : ByteArray) : Lib.strCells s = Lib.byteCells s.data.toList := by simp [Lib.strCells, Lib.byteCells]
theorem fold1 (t : Array Value) (p : Tmp) (u : Value) : (#[p].zip #[u]).foldl (fun t (x, y) => t.setIfInBounds x y) t = t.setIfInBounds p u := by
  simp

theorem pieces_tells (n : Nat) (hn : 1 ≤ n) (n₀ Bn : Nat) (d : Nd) (k : M.F) (av : Value) (ka : Option Addr) (kc : Nat) (w : World) (hk : k.depth + 2 ≤ 1000000) (hn₀ : n₀ ≤ w.heap.size) (hB : Bn < w.heap.size)
    (hc : w.cell? ⟨Bn, 0, none⟩ = some (.int .i64 d.k) ∧ w.cell? ⟨Bn, 1, none⟩ = some (.string d.n) ∧ w.cell? ⟨Bn, 2, none⟩ = some (.string d.x) ∧ w.cell? ⟨Bn, 3, none⟩ = some av ∧ w.cell? ⟨Bn, 4, none⟩ = some (.slice ka k.len kc))
    (ha : AS (Old n₀) w av d.ats) (hfs : FL (Old n₀) w (.slice ka k.len kc) k) (hok : allF OKnd (.cons d k .nil)) (hm : Met w) (hg : gM < n₀) :
    Tells Fence.wide n Tryd.prog 36 #[.pointer (some ⟨Bn, 0, none⟩)] n₀ EncS (xsP d k) w := by
  intro l J Jx W hW hJ hY h0
  have hlk := like_below (hW.mono hn₀)
  have hcl : ∀ o, W.cell? ⟨Bn, o, none⟩ = w.cell? ⟨Bn, o, none⟩ := fun o => hW.cell (p := ⟨Bn, o, none⟩) hB
  exact pieces_in n hn 1000000 n₀ l Bn d k av ka kc J Jx (xsP d k) W (Nat.le_refl _) hk (Nat.le_trans hn₀ hW.size) hJ hY h0 ⟨(hcl 0).trans hc.1, (hcl 1).trans hc.2.1, (hcl 2).trans hc.2.2.1, (hcl 3).trans hc.2.2.2.1, (hcl 4).trans hc.2.2.2.2⟩ rfl (ha.like hlk) (hfs.like hlk) hok (hm.below hW) hg

theorem pieces_call (n : Nat) (d : Nd) (av kv : Value) (w : World) (h : ∃ a b c, av = .slice a b c) (h2 : ∃ a b c, kv = .slice a b c) :
    CallsIn Fence.wide n Tryd.prog 25 #[nodeV d av kv] w fun e w' => e = .returned (.func (.func 36) #[] #[.pointer (some ⟨w.heap.size, 0, none⟩)]) ∧ w' = w.alloc (.cells #[.int .i64 d.k, .string d.n, .string d.x, av, kv] 25) := by
  obtain ⟨a1, b1, c1, rfl⟩ := h
  obtain ⟨a2, b2, c2, rfl⟩ := h2
  refine callsIn_of_wp Tryd.func25 rfl trivial ?_ rfl
  simp only [Tryd.ntmps25, List.size_toArray, List.length_cons, List.length_nil, Nat.reduceAdd, Nat.reduceSub, Array.replicate_succ, Array.replicate_zero, List.push_toArray, List.append_toArray, List.nil_append, List.cons_append]
  gi_wp2
  go_ret
  exact ⟨rfl, rfl⟩

/-- a builder that grows: what is in it so far; the iterator's blocks are others -/
structure Writes (w : World) (T : Nat → Prop) (W : World) (xs : List UInt8) : Prop where
  below : Below w.heap.size w W
  size : w.heap.size + 3 ≤ W.heap.size
  mine : ∀ k, T k → w.heap.size + 3 ≤ k
  row : ∃ v, Bld (w.heap.size + 3) (w.heap.size + 1) v (Lib.byteCells xs) W ∧ (∀ b, some b = v.ownBlock → ¬ T b)
theorem Writes.bide {w : World} {T T' : Nat → Prop} {W W' : World} {xs : List UInt8} (h : Writes w T W xs) (hk : Kept (fun k => ¬ T k) W W') (hT : ∀ k, T' k → T k ∨ W.heap.size ≤ k) : Writes w T' W' xs := by
  obtain ⟨h1, h2, h3, v, ⟨h4, ⟨p, hp, h5⟩, h6⟩, h7⟩ := h
  have hs := hk.size
  have hw := h1.size
  have nX : ¬ T (w.heap.size + 1) := fun e => by have := h3 _ e; omega
  refine ⟨h1.trans ⟨hk.os, hk.tape, hk.output, hk.size, fun k hk' => hk.block k (by omega) (fun e => by have := h3 _ e; omega)⟩, by omega, fun k e => ?_, v, ⟨h4, ⟨p, hp, (hk.block _ (by omega) nX).trans h5⟩, own_block h6 (fun k e hk' => hk.block k hk' (h7 k e))⟩, fun b hb hT' => ?_⟩
  · rcases hT k e with e | e
    · exact h3 k e
    · omega
  · rcases hT b hT' with e | e
    · exact h7 b hb e
    · have := (h6.lt b hb.symm).2
      omega
theorem Writes.push {w : World} {T : Nat → Prop} {W W1 w3 : World} {xs ys : List UInt8} {v v' : Value} (h : Writes w T W xs) (hT : ∀ k, T k → k < W.heap.size)
    (hv : Bld (w.heap.size + 3) (w.heap.size + 1) v (Lib.byteCells xs) W) (hnT : ∀ b, some b = v.ownBlock → ¬ T b) (h1 : Below W.heap.size W W1) (hb : Bld (w.heap.size + 3) (w.heap.size + 1) v' (Lib.byteCells (xs ++ ys)) w3) (hw : Wrote (w.heap.size + 1) v v' W1 w3) :
    Kept (fun k => T k ∨ k < w.heap.size) W w3 ∧ Writes w T w3 (xs ++ ys) := by
  obtain ⟨hb0, hsz, hmine, _⟩ := h
  have hz1 := h1.size
  have hz3 := hw.size
  have hne : ∀ k, k < w.heap.size + 3 → some k ≠ v.ownBlock := fun k hk e => by have := (hv.row.lt k e.symm).1; omega
  have blk : ∀ k, k < W.heap.size → k ≠ w.heap.size + 1 → some k ≠ v.ownBlock → w3.heap[k]? = W.heap[k]? := fun k hk hX' hn =>
    (hw.block k (by omega) hX' hn).trans (h1.block k hk)
  refine ⟨⟨hw.os.trans h1.os, hw.tape.trans h1.tape, hw.output.trans h1.output, by omega, fun k hk hc => ?_⟩, hb0.trans ⟨hw.os.trans h1.os, hw.tape.trans h1.tape, hw.output.trans h1.output, by omega, fun k hk => blk k (by have := hb0.size; omega) (by omega) (hne k (by omega))⟩, by omega, hmine, v', hb, fun b hb' hTb => ?_⟩
  · rcases hc with hc | hc
    · exact blk k hk (fun e => by have := hmine k hc; omega) (fun e => hnT k e hc)
    · exact blk k hk (by omega) (hne k (by omega))
  · rcases hw.own with h | h
    · exact hnT b (hb'.trans h) hTb
    · have := Option.some.inj (hb'.trans h)
      have := hT b hTb
      omega

set_option maxRecDepth 100000 in
set_option maxHeartbeats 2000000 in
theorem text_in (n : Nat) (hn : 4 ≤ n) (d : Nd) (k : M.F) (av kv : Value) (w : World)
    (ha : AS (Old w.heap.size) w av d.ats) (hf : FL (Old w.heap.size) w kv k) (hk : k.depth + 2 ≤ 1000000) (hok : allF OKnd (.cons d k .nil)) (hx : (srcB d k).length ≤ 1000000000) (hm : Met w) :
    CallsIn Fence.wide n Tryd.prog 13 #[nodeV d av kv] w fun e w' => e = .returned (.string ⟨(srcB d k).toArray⟩) ∧ Below w.heap.size w w' := by
  have h1 : 1 ≤ n := by omega
  obtain ⟨a1, b1, c1, eav⟩ := ha.val
  obtain ⟨ka, kc, ekv⟩ := hf.val
  have ha' := ha
  have hf' := hf
  subst eav ekv
  have HA : Aside (AS (Old w.heap.size) w (.slice a1 b1 c1) d.ats) := ha'
  have HF : Aside (FL (Old w.heap.size) w (.slice ka k.len kc) k) := hf'
  have HOK : Aside (allF OKnd (.cons d k .nil)) := hok
  have HM : Aside (Met w) := hm
  clear ha' hf' ha hf hok hm
  refine callsIn_of_wp_marks Tryd.func13 rfl trivial ?_ rfl
  simp only [Tryd.ntmps13, List.size_toArray, List.length_cons, List.length_nil, Nat.reduceAdd, Nat.reduceSub, Array.replicate_succ, Array.replicate_zero, List.push_toArray, List.append_toArray, List.nil_append, List.cons_append]
  gi_wp2
  refine ⟨trivial, ?_⟩
  refine (pieces_call (n - 1) d _ _ _ ⟨_, _, _, rfl⟩ ⟨_, _, _, rfl⟩).mono ?_
  rintro e w' ⟨rfl, rfl⟩
  gi_wp2
  obtain ⟨W0, hW0⟩ : ∃ W0, ((w.alloc (.cells #[.int .i64 d.k, .string d.n, .string d.x, .slice a1 b1 c1, .slice ka k.len kc] 25)).alloc (.cells #[.pointer none, .slice none 0 0] 51)).alloc (.cells #[.int .i64 d.k, .string d.n, .string d.x, .slice a1 b1 c1, .slice ka k.len kc] 25) = W0 := ⟨_, rfl⟩
  have hz : W0.heap.size = w.heap.size + 3 := by rw [← hW0]; simp
  have hB0 : Below w.heap.size w W0 := by rw [← hW0]; exact (((Below.refl _ w).alloc (Nat.le_refl _) _).alloc (by simp) _).alloc (by simp; omega) _
  have hcs : W0.heap[w.heap.size + 1]? = some (.cells #[.pointer none, .slice none 0 0] 51 (0, 0)) := by
    have e : w.heap.size + 1 = (w.alloc (.cells #[.int .i64 d.k, .string d.n, .string d.x, .slice a1 b1 c1, .slice ka k.len kc] 25)).heap.size := by simp
    rw [← hW0, e, Below.heap_alloc _ _ _ (by simp)]
    exact World.alloc_heap_new _ _
  have hct : ∀ i v, (#[.int .i64 d.k, .string d.n, .string d.x, .slice a1 b1 c1, .slice ka k.len kc] : Array Value)[i]? = some v → W0.cell? ⟨w.heap.size + 1 + 1, i, none⟩ = some v := by
    intro i v hv
    have h := World.cell?_alloc_new ((w.alloc (.cells #[.int .i64 d.k, .string d.n, .string d.x, .slice a1 b1 c1, .slice ka k.len kc] 25)).alloc (.cells #[.pointer none, .slice none 0 0] 51)) #[.int .i64 d.k, .string d.n, .string d.x, .slice a1 b1 c1, .slice ka k.len kc] 25 i
    rw [hW0, World.size_alloc, World.size_alloc] at h
    exact h.trans hv
  rw [hW0]
  have hgv := pieces_tells (n - 1) (by omega) w.heap.size (w.heap.size + 1 + 1) d k (.slice a1 b1 c1) ka kc W0 hk hB0.size (by omega)
    ⟨hct 0 _ rfl, hct 1 _ rfl, hct 2 _ rfl, hct 3 _ rfl, hct 4 _ rfl⟩ (AS.like (like_below hB0) HA.out) (FL.like (like_below hB0) HF.out) HOK.out (HM.out.below hB0) HM.out.lt
  refine wpIn_range2 rfl h1 (gf := 36) (lb := #[.pointer (some ⟨w.heap.size + 1 + 1, 0, none⟩)]) rfl trivial (enters_of Tryd.func36 (by kernel_rfl) rfl) hgv hB0.size (Below.refl _ _) (fun T W x args h => by rw [show args = #[.string x] from h]; rfl) (fun T T' W W' x args h h1 h2 => h)
    (fun pre T W => Writes w T W (fltP pre))
    (fun _ _ _ _ => False)
    (fun s T T' A B hs hk hT => hs.bide hk hT)
    (fun _ _ _ _ _ h _ => h)
    ⟨hB0, by omega, fun _ h => h.elim, _, ⟨by omega, ⟨_, .inl rfl, hcs⟩, World.ownsRow_nil _ _ _ _⟩, fun _ h => by cases h⟩
    (fun args a' => ∃ v, args = #[v] ∧ a' = { tmps := #[nodeV d (.slice a1 b1 c1) (.slice ka k.len kc), .pointer (some ⟨w.heap.size, 0, none⟩), .string ⟨#[]⟩, .pointer (some ⟨w.heap.size + 1, 0, none⟩), v, .agg #[.int .i64 d.k, .string d.n, .string d.x, .slice a1 b1 c1, .slice ka k.len kc], .func (.func 36) #[] #[.pointer (some ⟨w.heap.size + 1 + 1, 0, none⟩)], v, undef, undef, undef], defers := [] })
    ?assign ?body ?done ?stop
  case assign =>
    intro l x T args W K henc hK
    obtain rfl : args = #[.string x] := henc
    rw [fold1]
    gi_wp2
    exact hK _ _ (Below.refl _ _) ⟨_, rfl, rfl⟩
  case body =>
    rintro l pre x T args a' W hI henc ⟨v0, hargs, rfl⟩ hp hT hlt hTL
    obtain rfl : v0 = .string x := by
      have e : args = #[.string x] := henc
      rw [hargs] at e
      simpa using e
    have HI : Aside (Writes w T W (fltP pre)) := hI
    obtain ⟨hb, hsz, hmine, v, hv, hnT⟩ := hI
    have hlen : (fltP pre ++ x.data.toList).length ≤ 1000000000 := by
      have h1 := fltP_pre hp
      rw [fltP_xsP, fltP_append] at h1
      rw [show fltP [x] = x.data.toList from List.append_nil _] at h1
      omega
    have HLN := Fact.mk hlen
    clear hlen
    gi_wp2
    have hcall := write_any (w.heap.size + 3) (w.heap.size + 1) v (Lib.byteCells (fltP pre)) x W hv (by
      have h1 := HLN.out
      have h4 : (Lib.byteCells (fltP pre)).length = (fltP pre).length := Lib.byteCells_length _
      rw [List.length_append, data_len] at h1
      rw [h4]
      omega) (by omega)
    refine ⟨trivial, by simp [Fence.wide], (callsIn_wide.2 hcall).mono ?_⟩
    rintro e w3 ⟨rfl, v', hbd, hwr⟩
    gi_wp2
    rw [str_bytes, ← bytes_append] at hbd
    show Kept _ W w3 ∧ Writes _ T w3 _
    rw [fltP_append, show fltP [x] = x.data.toList from List.append_nil _]
    exact HI.out.push (fun k h => (hT k h).2) hv hnT (Below.refl _ _) hbd hwr
  case done =>
    rintro D T W hD hI hK hTD
    obtain ⟨hb, hsz, hmine, v, hv, hnT⟩ := hI
    rw [fltP_xsP] at hv
    gi_wp2
    refine ⟨trivial, (callsIn_wide.2 (string_any (w.heap.size + 3) w.heap.size (w.heap.size + 1) v _ W hv (by omega) hsz)).mono ?_⟩
    rintro e w3 ⟨rfl, hb3, hok3⟩
    gi_wp2
    have hK3 := hok3 D _ hK (by simp; omega) (fun _ _ h => by cases h)
    refine ⟨by simp, .inl ⟨_, _, rfl, run_takeDeferred hK3, ?_⟩⟩
    exact ⟨_, results_tmp rfl _ _ _, rfl, below_putObj (hb.trans hb3) (by omega) (by have := hb3.size; omega) _⟩
  case stop =>
    rintro D c pre T W _ _ h _ _
    exact h.elim
theorem text_any (d : Nd) (k : M.F) (av kv : Value) (w : World) (ha : AS (Old w.heap.size) w av d.ats) (hf : FL (Old w.heap.size) w kv k) (hk : k.depth + 2 ≤ 1000000) (hok : allF OKnd (.cons d k .nil)) (hx : (srcB d k).length ≤ 1000000000) (hm : Met w) :
    Calls Tryd.prog 13 #[nodeV d av kv] w fun e w' => e = .returned (.string ⟨(srcB d k).toArray⟩) ∧ Below w.heap.size w w' :=
  (callsIn_wide (n := 4)).1 (text_in 4 (by omega) d k av kv w ha hf hk hok hx hm)
end Go.Proofs.YtibagbnnplpfgaaDoor
