/- Text: the texts, in the nodes' order. -/
import Derived.Test.YtjjkidenlgghkaaTextM
import Derived.Test.YtjjkidenlgghkaaPost
set_option linter.unusedVariables false
set_option linter.unusedSimpArgs false
namespace Go.Proofs.Ytjjkidenlgghkaa
open Go.Deep (BT)
open Go.RowKit Go.Shelf M
attribute [local go_sem] Oper.semAt_some

/-- a builder that grows: what is in it so far; the iterator's blocks are others -/
structure Writes (w : World) (T : Nat → Prop) (W : World) (xs : List UInt8) : Prop where
  below : Below w.heap.size w W
  size : w.heap.size + 3 ≤ W.heap.size
  mine : ∀ k, T k → w.heap.size + 3 ≤ k
  row : ∃ v, Bld (w.heap.size + 3) (w.heap.size + 1) v (Lib.byteCells xs) W ∧ (∀ b, some b = v.ownBlock → ¬ T b)
theorem Writes.bide {w : World} {T T' : Nat → Prop} {W W' : World} {xs : List UInt8} (h : Writes w T W xs) (hk : Kept (fun k => ¬ T k) W W') (hT : ∀ k, T' k → T k ∨ W.heap.size ≤ k) : Writes w T' W' xs := by
  obtain ⟨h1, h2, h3, v, ⟨h4, ⟨p, hp, h5⟩, h6⟩, h7⟩ := h
  have hs := hk.size
  have hw := h1.size
  have nX : ¬ T (w.heap.size + 1) := fun e => by have := h3 _ e; omega
  refine ⟨h1.trans ⟨hk.os, hk.tape, hk.output, hk.size, fun k hk' => hk.block k (by omega) (fun e => by have := h3 _ e; omega)⟩, by omega, fun k e => ?_, v, ⟨h4, ⟨p, hp, (hk.block _ (by omega) nX).trans h5⟩, own_block h6 (fun k e hk' => hk.block k hk' (h7 k e))⟩, fun b hb hT' => ?_⟩
  · rcases hT k e with e | e
    · exact h3 k e
    · omega
  · rcases hT b hT' with e | e
    · exact h7 b hb e
    · have := (h6.lt b hb.symm).2
      omega
theorem Writes.push {w : World} {T : Nat → Prop} {W W1 w3 : World} {xs ys : List UInt8} {v v' : Value} (h : Writes w T W xs) (hT : ∀ k, T k → k < W.heap.size)
    (hv : Bld (w.heap.size + 3) (w.heap.size + 1) v (Lib.byteCells xs) W) (hnT : ∀ b, some b = v.ownBlock → ¬ T b) (h1 : Below W.heap.size W W1) (hb : Bld (w.heap.size + 3) (w.heap.size + 1) v' (Lib.byteCells (xs ++ ys)) w3) (hw : Wrote (w.heap.size + 1) v v' W1 w3) :
    Kept (fun k => T k ∨ k < w.heap.size) W w3 ∧ Writes w T w3 (xs ++ ys) := by
  obtain ⟨hb0, hsz, hmine, _⟩ := h
  have hz1 := h1.size
  have hz3 := hw.size
  have hne : ∀ k, k < w.heap.size + 3 → some k ≠ v.ownBlock := fun k hk e => by have := (hv.row.lt k e.symm).1; omega
  have blk : ∀ k, k < W.heap.size → k ≠ w.heap.size + 1 → some k ≠ v.ownBlock → w3.heap[k]? = W.heap[k]? := fun k hk hX' hn =>
    (hw.block k (by omega) hX' hn).trans (h1.block k hk)
  refine ⟨⟨hw.os.trans h1.os, hw.tape.trans h1.tape, hw.output.trans h1.output, by omega, fun k hk hc => ?_⟩, hb0.trans ⟨hw.os.trans h1.os, hw.tape.trans h1.tape, hw.output.trans h1.output, by omega, fun k hk => blk k (by have := hb0.size; omega) (by omega) (hne k (by omega))⟩, by omega, hmine, v', hb, fun b hb' hTb => ?_⟩
  · rcases hc with hc | hc
    · exact blk k hk (fun e => by have := hmine k hc; omega) (fun e => hnT k e hc)
    · exact blk k hk (by omega) (hne k (by omega))
  · rcases hw.own with h | h
    · exact hnT b (hb'.trans h) hTb
    · have := Option.some.inj (hb'.trans h)
      have := hT b hTb
      omega

set_option maxRecDepth 100000 in
set_option maxHeartbeats 2000000 in
theorem text_in (n : Nat) (hn : 4 ≤ n) (d : Nd) (k : M.F) (av kv : Value) (w : World)
    (ha : AS (Old w.heap.size) w av d.ats) (hf : FL (Old w.heap.size) w kv k) (hk : k.depth + 1 ≤ 1000000) (hs : k.size + 1 ≤ 1000000000) (hx : (ownTx d ++ textF k).length ≤ 1000000000) :
    CallsIn Fence.wide n Try.prog 19 #[nodeV d av kv] w fun e w' => e = .returned (.string ⟨(ownTx d ++ textF k).toArray⟩) ∧ Below w.heap.size w w' := by
  have h1 : 1 ≤ n := by omega
  obtain ⟨a1, b1, c1, eav⟩ := ha.val
  obtain ⟨ka, kc, ekv⟩ := hf.val
  have ha' := ha
  have hf' := hf
  subst eav ekv
  have HA : Aside (AS (Old w.heap.size) w (.slice a1 b1 c1) d.ats) := ha'
  have HF : Aside (FL (Old w.heap.size) w (.slice ka k.len kc) k) := hf'
  clear ha' hf' ha hf
  refine callsIn_of_wp_marks Try.func19 rfl trivial ?_ rfl
  simp only [Try.ntmps19, List.size_toArray, List.length_cons, List.length_nil, Nat.reduceAdd, Nat.reduceSub, Array.replicate_succ, Array.replicate_zero, List.push_toArray, List.append_toArray, List.nil_append, List.cons_append]
  gi_wp2
  refine ⟨trivial, ?_⟩
  refine (steps_call (n - 1) d _ _ _ ⟨_, _, _, rfl⟩ ⟨_, _, _, rfl⟩).mono ?_
  rintro e w' ⟨rfl, rfl⟩
  gi_wp2
  obtain ⟨W0, hW0⟩ : ∃ W0, ((w.alloc (.cells #[.int .i64 d.k, .string d.n, .string d.x, .slice a1 b1 c1, .slice ka k.len kc] 25)).alloc (.cells #[.pointer none, .slice none 0 0] 69)).alloc (.cells #[.int .i64 d.k, .string d.n, .string d.x, .slice a1 b1 c1, .slice ka k.len kc] 25) = W0 := ⟨_, rfl⟩
  have hz : W0.heap.size = w.heap.size + 3 := by rw [← hW0]; simp
  have hB0 : Below w.heap.size w W0 := by rw [← hW0]; exact (((Below.refl _ w).alloc (Nat.le_refl _) _).alloc (by simp) _).alloc (by simp; omega) _
  have hcs : W0.heap[w.heap.size + 1]? = some (.cells #[.pointer none, .slice none 0 0] 69 (0, 0)) := by
    have e : w.heap.size + 1 = (w.alloc (.cells #[.int .i64 d.k, .string d.n, .string d.x, .slice a1 b1 c1, .slice ka k.len kc] 25)).heap.size := by simp
    rw [← hW0, e, Below.heap_alloc _ _ _ (by simp)]
    exact heap_alloc_new _ _
  have hct : ∀ i v, (#[.int .i64 d.k, .string d.n, .string d.x, .slice a1 b1 c1, .slice ka k.len kc] : Array Value)[i]? = some v → W0.cell? ⟨w.heap.size + 1 + 1, i, none⟩ = some v := by
    intro i v hv
    have h := World.cell?_alloc_new ((w.alloc (.cells #[.int .i64 d.k, .string d.n, .string d.x, .slice a1 b1 c1, .slice ka k.len kc] 25)).alloc (.cells #[.pointer none, .slice none 0 0] 69)) #[.int .i64 d.k, .string d.n, .string d.x, .slice a1 b1 c1, .slice ka k.len kc] 25 i
    rw [hW0, World.size_alloc, World.size_alloc] at h
    exact h.trans hv
  rw [hW0]
  have hgv := steps_tells (n - 1) (by omega) w.heap.size (w.heap.size + 1 + 1) d k (.slice a1 b1 c1) ka kc W0 hk hs hB0.size (by omega)
    ⟨hct 0 _ rfl, hct 1 _ rfl, hct 2 _ rfl, hct 3 _ rfl, hct 4 _ rfl⟩ (AS.like (like_below hB0) HA.out) (FL.like (like_below hB0) HF.out)
  refine wpIn_range2 rfl h1 (gf := 41) (lb := #[.pointer (some ⟨w.heap.size + 1 + 1, 0, none⟩)]) rfl trivial (enters_of Try.func41 (by kernel_rfl) rfl) hgv hB0.size (Below.refl _ _) (fun T W x args h => h.size) (fun T T' W W' x args h h1 h2 => h.keep h1 h2)
    (fun pre T W => Writes w T W (texts pre))
    (fun _ _ _ _ => False)
    (fun s T T' A B hs hk hT => hs.bide hk hT)
    (fun _ _ _ _ _ h _ => h)
    ⟨hB0, by omega, fun _ h => h.elim, _, ⟨by omega, ⟨_, .inl rfl, hcs⟩, World.ownsRow_nil _ _ _ _⟩, fun _ h => by cases h⟩
    (fun args a' => ∃ v b, args = #[v, b] ∧ a' = { tmps := #[nodeV d (.slice a1 b1 c1) (.slice ka k.len kc), .pointer (some ⟨w.heap.size, 0, none⟩), .string ⟨#[]⟩, .pointer (some ⟨w.heap.size + 1, 0, none⟩), v, b, undef, .agg #[.int .i64 d.k, .string d.n, .string d.x, .slice a1 b1 c1, .slice ka k.len kc], .func (.func 41) #[] #[.pointer (some ⟨w.heap.size + 1 + 1, 0, none⟩)], v, b, undef, undef, undef, undef, undef, undef, undef, undef, undef, undef, undef, undef, undef, undef, undef, undef, undef, undef], defers := [] })
    ?assign ?body ?done ?stop
  case assign =>
    intro l x T args W K henc hK
    obtain ⟨L, g, cap, base, e1, e2, rfl, _⟩ := henc
    rw [fold2]
    gi_wp2
    exact hK _ _ (Below.refl _ _) ⟨_, _, rfl, rfl⟩
  case body =>
    rintro l pre x T args a' W hI henc ⟨v, b, rfl, rfl⟩ hp hT hlt hTL
    obtain ⟨L, g, cap, base, e1, e2, e3, hTg, hng, hown, hok, hLl⟩ := henc
    obtain ⟨rfl, rfl⟩ : v = .slice (some ⟨g, 0, none⟩) L.length cap ∧ b = .bool x.left := by simpa using e3
    cases L with
    | nil => exact absurd rfl e2
    | cons f L =>
    have hfk := hok.1
    obtain ⟨pa, pb, pc, eav⟩ := hfk.at_.val
    have HI : Aside (Writes w T W (texts pre)) := hI
    obtain ⟨hb, hsz, hmine, v, hv, hnT⟩ := hI
    obtain ⟨m, hm⟩ : ∃ m, L.length = m := ⟨_, rfl⟩
    simp only [List.length_cons, hm] at hown hLl ⊢
    obtain ⟨hat, _, _, hg2, hcp, hcm⟩ := own8_at hown hm
    have z0 : W.cell? ⟨g, m * 8 + 0, none⟩ = some (.int .i64 f.s.d.k) := hat 0 _ rfl
    have z1 : W.cell? ⟨g, m * 8 + 1, none⟩ = some (.string f.s.d.n) := hat 1 _ rfl
    have z2 : W.cell? ⟨g, m * 8 + 2, none⟩ = some (.string f.s.d.x) := hat 2 _ rfl
    have z3 : W.cell? ⟨g, m * 8 + 3, none⟩ = some f.av := hat 3 _ rfl
    have z4 : W.cell? ⟨g, m * 8 + 4, none⟩ = some (.slice f.ka f.s.k.len f.kc) := hat 4 _ rfl
    rw [eav] at z3
    rw [Nat.add_zero] at z0
    have wm : IntKind.i64.wrap (m : Int) = m := by unfold IntKind.wrap; simp [IntKind.bits, IntKind.signed]; omega
    have hmm : (m : Int) < m + 1 := by omega
    obtain ⟨W1, hW1⟩ : ∃ W1, W1 = W.alloc (.cells #[.int .i64 f.s.d.k, .string f.s.d.n, .string f.s.d.x, .slice pa pb pc, .slice f.ka f.s.k.len f.kc] 25) := ⟨_, rfl⟩
    have HB1 : Aside (Below W.heap.size W W1) := by rw [hW1]; exact (Below.refl _ _).alloc (Nat.le_refl _) _
    have hKeep : Aside (Kept (fun k => T k ∨ k < w.heap.size) W W1 ∧ Writes w T W1 (texts pre)) := by
      have hk1 : ∀ P : Nat → Prop, Kept P W W1 := fun P => by
        have := HB1.out
        exact ⟨this.os, this.tape, this.output, this.size, fun k hk _ => this.block k hk⟩
      exact ⟨hk1 _, HI.out.bide (hk1 _) (fun k h => .inl h)⟩
    clear hat hown hb hok
    cases hx : x.left with
    | true =>
      have hpp : texts (pre ++ [x]) = texts pre := by
        obtain ⟨xw, xl⟩ := x
        cases hx
        rw [texts_append, texts_left]; simp [texts]
      gi_wp2
      rw [← hW1]
      show Kept _ W W1 ∧ Writes _ T W1 _
      rw [hpp]
      exact hKeep.out
    | false =>
      have hpp : texts (pre ++ [x]) = texts pre ++ ownTx f.s.d := by
        obtain ⟨xw, xl⟩ := x
        cases hx
        obtain rfl : wayOf L ++ [f.s] = xw := e1
        rw [texts_append, texts_come]; simp [texts]
      have hlen : (texts pre ++ ownTx f.s.d).length ≤ 1000000000 := by
        have h1 := texts_pre hp
        rw [texts_evT] at h1
        rw [hpp] at h1
        omega
      by_cases hk3 : f.s.d.k = 3
      · have ho : ownTx f.s.d = f.s.d.x.data.toList := by simp [ownTx, hk3]
        have b3 : (f.s.d.k == 3) = true := by simp [hk3]
        have HP := Fact.mk hpp
        have HO := Fact.mk ho
        have HK3 := Fact.mk hk3
        have HLN := Fact.mk hlen
        clear hpp ho hk3 hlen
        gi_wp2
        rw [← hW1]
        have hv1 : Bld (w.heap.size + 3) (w.heap.size + 1) v (Lib.byteCells (texts pre)) W1 := by
          obtain ⟨q1, ⟨p, hp, q2⟩, q3⟩ := hv
          exact ⟨q1, ⟨p, hp, (HB1.out.block _ (by omega)).trans q2⟩, own_block q3 (fun k e hk => HB1.out.block k hk)⟩
        have hcall := write_any (w.heap.size + 3) (w.heap.size + 1) v (Lib.byteCells (texts pre)) f.s.d.x W1 hv1 (by
          have h1 := HLN.out
          have h3 : (ownTx f.s.d).length = f.s.d.x.size := by rw [HO.out, Array.length_toList]; rfl
          have h4 : (Lib.byteCells (texts pre)).length = (texts pre).length := Lib.byteCells_length _
          rw [List.length_append, h3] at h1
          rw [h4]
          omega) (by have := HB1.out.size; omega)
        refine ⟨trivial, by simp [Fence.wide], (callsIn_wide.2 hcall).mono ?_⟩
        rintro e w3 ⟨rfl, v', hbd, hwr⟩
        gi_wp2
        rw [str_bytes, ← HO.out, ← bytes_append] at hbd
        show Kept _ W w3 ∧ Writes _ T w3 _
        rw [HP.out]
        exact HI.out.push (fun k h => (hT k h).2) hv hnT HB1.out hbd hwr
      · have ho : ownTx f.s.d = [] := by simp [ownTx, hk3]
        have b3 : (f.s.d.k == 3) = false := by simp [hk3]
        rw [ho, List.append_nil] at hpp
        have HP := Fact.mk hpp
        clear hpp ho hlen hk3
        gi_wp2
        rw [← hW1]
        show Kept _ W W1 ∧ Writes _ T W1 _
        rw [HP.out]
        exact hKeep.out
  case done =>
    rintro D T W hD hI hK hTD
    obtain ⟨hb, hsz, hmine, v, hv, hnT⟩ := hI
    rw [texts_evT] at hv
    gi_wp2
    refine ⟨trivial, (callsIn_wide.2 (string_any (w.heap.size + 3) w.heap.size (w.heap.size + 1) v _ W hv (by omega) hsz)).mono ?_⟩
    rintro e w3 ⟨rfl, hb3, hok3⟩
    gi_wp2
    have hK3 := hok3 D _ hK (by simp; omega) (fun _ _ h => by cases h)
    refine ⟨by simp, .inl ⟨_, _, rfl, run_takeDeferred hK3, ?_⟩⟩
    exact ⟨_, results_tmp rfl _ _ _, rfl, below_putObj (hb.trans hb3) (by omega) (by have := hb3.size; omega) _⟩
  case stop =>
    rintro D c pre T W _ _ h _ _
    exact h.elim

theorem text_any (d : Nd) (k : M.F) (av kv : Value) (w : World) (ha : AS (Old w.heap.size) w av d.ats) (hf : FL (Old w.heap.size) w kv k) (hk : k.depth + 1 ≤ 1000000) (hs : k.size + 1 ≤ 1000000000) (hx : (ownTx d ++ textF k).length ≤ 1000000000) :
    Calls Try.prog 19 #[nodeV d av kv] w fun e w' => e = .returned (.string ⟨(ownTx d ++ textF k).toArray⟩) ∧ Below w.heap.size w w' :=
  (callsIn_wide (n := 4)).1 (text_in 4 (by omega) d k av kv w ha hf hk hs hx)
end Go.Proofs.Ytjjkidenlgghkaa
