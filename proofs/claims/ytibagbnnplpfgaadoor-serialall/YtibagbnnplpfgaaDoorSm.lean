/- What the laws of serial share: awake; trees that lie in memory, their sources, their copies, whether two are the same. -/
import Derived.Test.YtibagbnnplpfgaaDoorSLen
import Derived.Test.YtibagbnnplpfgaaDoorRefCmp
set_option linter.unusedVariables false
set_option linter.unusedSimpArgs false
namespace Go.Proofs.YtibagbnnplpfgaaDoor.M
open Go.Deep (BT)
theorem ca_zero : ∀ l m : List (ByteArray × ByteArray), ca l m = 0 → l = m
  | [], [], _ => rfl
  | [], _ :: _, h => by simp [ca] at h
  | _ :: _, [], h => by simp [ca] at h
  | p :: l, q :: m, h => by
    have h1 := (orI_zero _ _).1 (show orI (cp p q) (ca l m) = 0 from h)
    rw [(cp_zero p q).1 h1.1, ca_zero l m h1.2]
theorem cn_zero {d e : Nd} (h : cn d e = 0) : d = e := by
  obtain ⟨h1, h2⟩ := (orI_zero _ _).1 (show orI _ _ = 0 from h)
  obtain ⟨h3, h4⟩ := (orI_zero _ _).1 h2
  obtain ⟨h5, h6⟩ := (orI_zero _ _).1 h4
  obtain ⟨K, N, X, A⟩ := d
  obtain ⟨K', N', X', A'⟩ := e
  rw [show K = K' from (ci_zero _ _).1 h1, show N = N' from (cs_zero _ _).1 h3, show X = X' from (cs_zero _ _).1 h5, show A = A' from ca_zero _ _ h6]
theorem slots_le : ∀ f : F, allF OKnd f → f.slots ≤ 20 * f.size
  | .nil, _ => Nat.zero_le _
  | .node _ _ d k r, h => by
    obtain ⟨h1, h2, h3⟩ := h
    have := slots_le k h2
    have := slots_le r h3
    have := h1.many
    simp only [BT.slots, BT.size]
    omega
end Go.Proofs.YtibagbnnplpfgaaDoor.M
namespace Go.Proofs.YtibagbnnplpfgaaDoor
open Go.Deep (BT)
open Go.RowKit M

/-- trees that are the same have the same pieces -/
theorem pcs_same : ∀ (f g : M.F) (raw : Bool), cF f g = 0 → pcs raw f = pcs raw g
  | .nil, .nil, _, _ => rfl
  | .nil, .node _ _ _ _ _, _, h => by simp [cF] at h
  | .node _ _ _ _ _, .nil, _, h => by simp [cF] at h
  | .node _ _ d k r, .node _ _ d' k' r', raw, h => by
    obtain ⟨h1, h2⟩ := (orI_zero _ _).1 (show orI _ _ = 0 from h)
    obtain ⟨h3, h4⟩ := (orI_zero _ _).1 h2
    obtain rfl := cn_zero h1
    rw [pcs, pcs, pcs_same k k' _ h3, pcs_same r r' _ h4]
theorem src_same {d d' : Nd} {k k' : M.F} (h : cT d k d' k' = 0) : srcB d k = srcB d' k' := by
  obtain ⟨h1, h2⟩ := (orI_zero _ _).1 (show orI _ _ = 0 from h)
  obtain rfl := cn_zero h1
  unfold srcB
  rw [pcs_same (.cons d k .nil) (.cons d k' .nil) false]
  show orI (cn d d) (orI (cF k k') 0) = 0
  rw [(orI_zero _ _).2 ⟨h1, (orI_zero _ _).2 ⟨h2, rfl⟩⟩]

/-- a tree that lies in the world, not too much, and its source -/
structure TrT (w : World) (K : Int) (N X : ByteArray) (A : List (ByteArray × ByteArray)) (k : M.F) (va ka : Value) (T : ByteArray) : Prop where
  lies : Lies w.heap.size w ⟨K, N, X, A⟩ k va ka
  deep : k.depth + 2 ≤ 1000000
  size : k.size + 1 ≤ 400
  ok : allF OKnd (.cons ⟨K, N, X, A⟩ k .nil)
  src : srcB ⟨K, N, X, A⟩ k = T.data.toList
  met : Met w
theorem TrT.len {w : World} {K : Int} {N X : ByteArray} {A : List (ByteArray × ByteArray)} {k : M.F} {va ka : Value} {T : ByteArray} (h : TrT w K N X A k va ka T) : T.size ≤ 300000000 := by
  have := srcB_len h.ok h.size
  rw [h.src, data_len] at this
  exact this
theorem TrT.mk' {w W : World} {K : Int} {N X : ByteArray} {A : List (ByteArray × ByteArray)} {k : M.F} {va ka : Value} (hl : Lies w.heap.size w ⟨K, N, X, A⟩ k va ka) (hf : FitsA 0 0 ⟨K, N, X, A⟩ k) (hm : Met w) :
    ∃ T : ByteArray, TrT w K N X A k va ka T :=
  ⟨⟨(srcB ⟨K, N, X, A⟩ k).toArray⟩, hl, by have := hf.depth; omega, by have := hf.size; omega, ⟨hf.nd, hf.all, trivial⟩, rfl, hm⟩
theorem text_l {P : Prop} {w W : World} {K : Int} {N X : ByteArray} {A : List (ByteArray × ByteArray)} {k : M.F} {va ka : Value} {T : ByteArray} (ha : TrT w K N X A k va ka T) (h : Below w.heap.size w W ∧ P) :
    Calls Tryd.prog 13 #[.agg #[.int .i64 K, .string N, .string X, va, ka]] W fun e w' => e = .returned (.string T) ∧ Below W.heap.size W w' := by
  have hl := (ha.lies.below h.1).here h.1.size
  have hlen := srcB_len ha.ok ha.size
  have := text_any ⟨K, N, X, A⟩ k va ka W hl.a hl.f ha.deep ha.ok (by omega) (ha.met.below h.1)
  rw [ha.src] at this
  exact this
theorem len_l {P : Prop} {w W : World} {K : Int} {N X : ByteArray} {A : List (ByteArray × ByteArray)} {k : M.F} {va ka : Value} {T : ByteArray} (ha : TrT w K N X A k va ka T) (h : Below w.heap.size w W ∧ P) :
    Calls Tryd.prog 14 #[.agg #[.int .i64 K, .string N, .string X, va, ka]] W fun e w' => e = .returned (.int .i64 T.size) ∧ Below W.heap.size W w' := by
  have hl := (ha.lies.below h.1).here h.1.size
  have hlen := srcB_len ha.ok ha.size
  have := len_any ⟨K, N, X, A⟩ k va ka W hl.a hl.f ha.deep ha.ok (by omega) (ha.met.below h.1)
  rw [ha.src, data_len] at this
  exact this
theorem rsame_l {P : Prop} {w W : World} {K K' : Int} {N X N' X' : ByteArray} {A A' : List (ByteArray × ByteArray)} {k k' : M.F} {va ka vb kb : Value} (r : Bool) (hr : Fact (decide (cT ⟨K, N, X, A⟩ k ⟨K', N', X', A'⟩ k' = 0) = r)) (ha : Lies w.heap.size w ⟨K, N, X, A⟩ k va ka) (hb : Lies w.heap.size w ⟨K', N', X', A'⟩ k' vb kb) (h : Below w.heap.size w W ∧ P) :
    Calls Tryd.prog 15 #[.agg #[.int .i64 K, .string N, .string X, va, ka], .agg #[.int .i64 K', .string N', .string X', vb, kb]] W fun e w' => e = .returned (.bool r) ∧ Below W.heap.size W w' :=
  rsame_at (n := w.heap.size) (w := W) (d := ⟨K, N, X, A⟩) (d' := ⟨K', N', X', A'⟩) (k := k) (k' := k') (va := va) (vb := vb) (ka := ka) (kb := kb) r hr (ha.below h.1) (hb.below h.1) h.1.size
/-- a copy is the same tree, in memory of its own -/
theorem copy_l {P : Prop} {w W : World} {K : Int} {N X : ByteArray} {A : List (ByteArray × ByteArray)} {k : M.F} {va ka : Value} {T : ByteArray} {kl : Nat} (hkl : k.len = kl) (ha : TrT w K N X A k va ka T) (h : Below w.heap.size w W ∧ P) :
    Calls Tryd.prog 11 #[.agg #[.int .i64 K, .string N, .string X, va, ka]] W fun e w' => ∃ y1 y2 y3 z1 z3, e = .returned (.agg #[.int .i64 K, .string N, .string X, .slice y1 y2 y3, .slice z1 kl z3]) ∧ Below W.heap.size W w' ∧
      TrT w' K N X A k (.slice y1 y2 y3) (.slice z1 kl z3) T ∧ AS (fun b => W.heap.size ≤ b) w' (.slice y1 y2 y3) A ∧ FL (fun b => W.heap.size ≤ b) w' (.slice z1 kl z3) k := by
  have hs := slots_le k ha.ok.2.1
  have hm := ha.ok.1.many
  dsimp only at hm
  have h3 := ha.size
  refine (copy_any k ⟨K, N, X, A⟩ va ka w.heap.size W (ha.lies.below h.1) h.1.size (by dsimp only; omega) (by omega)).mono ?_
  rintro e w' ⟨av', kv', rfl, hb, hA, hF⟩
  obtain ⟨y1, y2, y3, rfl⟩ := hA.val
  obtain ⟨z1, z3, rfl⟩ := hF.val
  rw [hkl] at hF ⊢
  exact ⟨y1, y2, y3, z1, z3, rfl, hb, ⟨⟨hA.inn.mono (fun b hb => hb.2), hF.inn.mono (fun b hb => hb.2)⟩, ha.deep, ha.size, ha.ok, ha.src, ha.met.below (h.1.trans (hb.mono h.1.size))⟩, hA, hF⟩

theorem ex16a : srcB ⟨2, ⟨#[98, 114]⟩, ⟨#[]⟩, []⟩ .nil = (⟨#[60, 98, 114, 62]⟩ : ByteArray).data.toList := by kernel_rfl
theorem ex16b : srcB ⟨3, ⟨#[]⟩, ⟨#[60]⟩, []⟩ .nil = (⟨#[38, 108, 116, 59]⟩ : ByteArray).data.toList := by kernel_rfl
theorem lies_bare (w : World) (K : Int) (N X : ByteArray) : Lies w.heap.size w ⟨K, N, X, []⟩ .nil (.slice none 0 0) (.slice none 0 0) := ⟨AS.nothing, FL.nothing⟩
theorem tr1 {w : World} (hm : Met w) : TrT w 2 ⟨#[98, 114]⟩ ⟨#[]⟩ [] .nil (.slice none 0 0) (.slice none 0 0) ⟨#[60, 98, 114, 62]⟩ :=
  ⟨lies_bare _ _ _ _, by decide, by decide, ⟨⟨by decide, by decide, by decide, fun p hp => by cases hp⟩, trivial, trivial⟩, ex16a, hm⟩
theorem tr2 {w : World} (hm : Met w) : TrT w 3 ⟨#[]⟩ ⟨#[60]⟩ [] .nil (.slice none 0 0) (.slice none 0 0) ⟨#[38, 108, 116, 59]⟩ :=
  ⟨lies_bare _ _ _ _, by decide, by decide, ⟨⟨by decide, by decide, by decide, fun p hp => by cases hp⟩, trivial, trivial⟩, ex16b, hm⟩
set_option maxRecDepth 20000 in
set_option maxHeartbeats 2000000 in
theorem awake16_true (w : World) (hm : Met w) : Calls Tryd.prog 10 #[] w fun e w' => e = .returned (.bool true) ∧ Below w.heap.size w w' := by
  have T1 := Fact.mk (tr1 hm)
  have T2 := Fact.mk (tr2 hm)
  clear hm
  have h0 : Below w.heap.size w w ∧ True := ⟨Below.refl _ _, trivial⟩
  go_enter Tryd.func10, Tryd.ntmps10
  go_wp2_with (first
    | (go_at_call 13; with_reducible refine (text_l T1.out h0).mono ?_; rintro e w1 ⟨rfl, hb1⟩; have h1 : Below w.heap.size w w1 ∧ True := ⟨hb1, trivial⟩)
    | (go_at_call 13; with_reducible refine (text_l T2.out h1).mono ?_; rintro e w2 ⟨rfl, hb2⟩))
  go_ret
  exact ⟨rfl, hb1.trans (hb2.mono hb1.size)⟩
theorem awake_l {P : Prop} {w W : World} (hm : Met w) (h : Below w.heap.size w W ∧ P) : Calls Tryd.prog 10 #[] W fun e w' => e = .returned (.bool true) ∧ Below W.heap.size W w' := awake16_true W (hm.below h.1)
end Go.Proofs.YtibagbnnplpfgaaDoor
