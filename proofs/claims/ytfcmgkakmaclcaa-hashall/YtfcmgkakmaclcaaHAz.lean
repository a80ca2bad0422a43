/- HashAll returns true at every tree and any text: Text, Of, Key and All of a copy answer what the chapter answers of the tree itself; of a tree that is not small, or a text of more than 3000 bytes, the document's example alone is asked. No condition. -/
import Derived.Test.YtfcmgkakmaclcaaHO
import Derived.Test.YtfcmgkakmaclcaaRefCmp
import Derived.Test.YtfcmgkakmaclcaaRnA
import Derived.Test.YtfcmgkakmaclcaaJR
import Derived.Test.YtfcmgkakmaclcaaRefS
import Derived.Test.YtfcmgkakmaclcaaAwake
import Derived.Deep.SlicePairs
import Derived.ProofKit
import Derived.OpenShut
import Derived.Test.YtfcmgkakmaclcaaRows
import Derived.WalkKit
import Derived.ShutString
import Derived.ChangeOld
import Derived.Below
/- HashSame, walked: trees that are the same have the same numbers. -/
section
set_option linter.unusedVariables false
set_option linter.unusedSimpArgs false
namespace Go.Proofs.Ytfcmgkakmaclcaa.M
open Go.Deep (BT)
open Bt (mx)
theorem ca_zero : ∀ l m : List (ByteArray × ByteArray), ca l m = 0 → l = m
  | [], [], _ => rfl
  | [], _ :: _, h => by simp [ca] at h
  | _ :: _, [], h => by simp [ca] at h
  | p :: l, q :: m, h => by
    have h1 := (orI_zero _ _).1 (show orI (cp p q) (ca l m) = 0 from h)
    rw [(cp_zero p q).1 h1.1, ca_zero l m h1.2]
theorem cn_zero {d e : Nd} (h : cn d e = 0) : d = e := by
  obtain ⟨h1, h2⟩ := (orI_zero _ _).1 (show orI _ _ = 0 from h)
  obtain ⟨h3, h4⟩ := (orI_zero _ _).1 h2
  obtain ⟨h5, h6⟩ := (orI_zero _ _).1 h4
  obtain ⟨K, N, X, A⟩ := d
  obtain ⟨K', N', X', A'⟩ := e
  rw [show K = K' from (ci_zero _ _).1 h1, show N = N' from (cs_zero _ _).1 h3, show X = X' from (cs_zero _ _).1 h5, show A = A' from ca_zero _ _ h6]
/-- lists of trees that are the same have the same numbers -/
theorem cF_same : ∀ f g : F, cF f g = 0 → f.len = g.len ∧ f.size = g.size ∧ f.depth = g.depth ∧ ∀ h, hK h f = hK h g
  | .nil, .nil, _ => ⟨rfl, rfl, rfl, fun _ => rfl⟩
  | .nil, .node _ _ _ _ _, h => by simp [cF] at h
  | .node _ _ _ _ _, .nil, h => by simp [cF] at h
  | .node _ _ d k r, .node _ _ d' k' r', h => by
    obtain ⟨h1, h2⟩ := (orI_zero _ _).1 (show orI _ _ = 0 from h)
    obtain ⟨h3, h4⟩ := (orI_zero _ _).1 h2
    obtain rfl := cn_zero h1
    obtain ⟨a1, a2, a3, a4⟩ := cF_same k k' h3
    obtain ⟨b1, b2, b3, b4⟩ := cF_same r r' h4
    refine ⟨by simp only [BT.len, b1], by simp only [BT.size, a2, b2], by simp only [BT.depth, a3, b3], fun h => ?_⟩
    rw [hK, hK, a1, a4, b4]
theorem cT_same {d d' : Nd} {k k' : F} (h : cT d k d' k' = 0) : hT d k = hT d' k' ∧ k.size = k'.size ∧ k.depth = k'.depth := by
  obtain ⟨h1, h2⟩ := (orI_zero _ _).1 (show orI _ _ = 0 from h)
  obtain rfl := cn_zero h1
  obtain ⟨a1, a2, a3, a4⟩ := cF_same k k' h2
  exact ⟨by unfold hT; rw [a1, a4], a2, a3⟩
end Go.Proofs.Ytfcmgkakmaclcaa.M
namespace Go.Proofs.Ytfcmgkakmaclcaa
open Go.Deep (BT)
open Go.RowKit Go.Shelf M
open Bt (mx IsU mx_u ret_int)

/-- what stays while two boxed trees are looked at -/
theorem duo_keep {w W w' : World} {xs ys : Array Value} (hb : Below W.heap.size W w')
    (h : Below w.heap.size w W ∧ w.heap.size + 2 ≤ W.heap.size ∧ (∀ i, W.cell? ⟨w.heap.size, i, none⟩ = xs[i]?) ∧ (∀ i, W.cell? ⟨w.heap.size + 1, i, none⟩ = ys[i]?)) :
    Below w.heap.size w w' ∧ w.heap.size + 2 ≤ w'.heap.size ∧ (∀ i, w'.cell? ⟨w.heap.size, i, none⟩ = xs[i]?) ∧ (∀ i, w'.cell? ⟨w.heap.size + 1, i, none⟩ = ys[i]?) := by
  obtain ⟨h1, h2, h4, h5⟩ := h
  have hs := hb.size
  refine ⟨h1.trans (hb.mono (by omega)), by omega, fun i => ?_, fun i => ?_⟩
  · rw [hb.cell (p := ⟨w.heap.size, i, none⟩) (by show w.heap.size < _; omega)]; exact h4 i
  · rw [hb.cell (p := ⟨w.heap.size + 1, i, none⟩) (by show w.heap.size + 1 < _; omega)]; exact h5 i
theorem duo_start (w : World) (xs ys : Array Value) (t : TypeId) :
    Below w.heap.size w ((w.alloc (.cells xs t)).alloc (.cells ys t)) ∧ w.heap.size + 2 ≤ ((w.alloc (.cells xs t)).alloc (.cells ys t)).heap.size ∧ (∀ i, ((w.alloc (.cells xs t)).alloc (.cells ys t)).cell? ⟨w.heap.size, i, none⟩ = xs[i]?) ∧ (∀ i, ((w.alloc (.cells xs t)).alloc (.cells ys t)).cell? ⟨w.heap.size + 1, i, none⟩ = ys[i]?) := by
  refine ⟨((Below.refl _ w).alloc (Nat.le_refl _) _).alloc (by simp) _, by simp, fun i => ?_, fun i => ?_⟩
  · rw [World.cell?_alloc_past _ _ _ (by simp), World.cell?_alloc_at _ _ _ _ rfl]
  · rw [World.cell?_alloc_at _ _ _ _ (by simp)]
theorem rsame_l {P : Prop} {w W : World} {K K' : Int} {N X N' X' : ByteArray} {A A' : List (ByteArray × ByteArray)} {k k' : M.F} {va ka vb kb : Value} (r : Bool) (hr : Fact (decide (cT ⟨K, N, X, A⟩ k ⟨K', N', X', A'⟩ k' = 0) = r)) (ha : Lies w.heap.size w ⟨K, N, X, A⟩ k va ka) (hb : Lies w.heap.size w ⟨K', N', X', A'⟩ k' vb kb) (h : Below w.heap.size w W ∧ P) :
    Calls Try.prog 20 #[.agg #[.int .i64 K, .string N, .string X, va, ka], .agg #[.int .i64 K', .string N', .string X', vb, kb]] W fun e w' => e = .returned (.bool r) ∧ Below W.heap.size W w' :=
  rsame_at (n := w.heap.size) (w := W) (d := ⟨K, N, X, A⟩) (d' := ⟨K', N', X', A'⟩) (k := k) (k' := k') (va := va) (vb := vb) (ka := ka) (kb := kb) r hr (ha.below h.1) (hb.below h.1) h.1.size
/-- a copy is the same tree, in memory of its own -/
theorem copy_l {P : Prop} {w W : World} {K : Int} {N X : ByteArray} {A : List (ByteArray × ByteArray)} {k : M.F} {va ka : Value} {kl : Nat} (hkl : k.len = kl) (ha : Lies w.heap.size w ⟨K, N, X, A⟩ k va ka) (f : Fits 0 0 ⟨K, N, X, A⟩ k) (h : Below w.heap.size w W ∧ P) :
    Calls Try.prog 11 #[.agg #[.int .i64 K, .string N, .string X, va, ka]] W fun e w' => ∃ y1 y2 y3 z1 z3, e = .returned (.agg #[.int .i64 K, .string N, .string X, .slice y1 y2 y3, .slice z1 kl z3]) ∧ Below W.heap.size W w' ∧
      Fact (Lies w'.heap.size w' ⟨K, N, X, A⟩ k (.slice y1 y2 y3) (.slice z1 kl z3)) := by
  have f1 := f.size
  have f2 := f.slots
  dsimp only at f2
  refine (copy_any k ⟨K, N, X, A⟩ va ka w.heap.size W (ha.below h.1) h.1.size (by dsimp only; omega) (by omega)).mono ?_
  rintro e w' ⟨av', kv', rfl, hb, hA, hF⟩
  obtain ⟨y1, y2, y3, rfl⟩ := hA.val
  obtain ⟨z1, z3, rfl⟩ := hF.val
  rw [hkl] at hF ⊢
  exact ⟨y1, y2, y3, z1, z3, rfl, hb, ⟨⟨hA.inn.mono (fun b hb => hb.2), hF.inn.mono (fun b hb => hb.2)⟩⟩⟩
theorem of_l {P : Prop} {w W : World} {K : Int} {N X : ByteArray} {A : List (ByteArray × ByteArray)} {k : M.F} {va ka : Value} {H : Int} (hH : Fact (hT ⟨K, N, X, A⟩ k = H)) (ha : Lies w.heap.size w ⟨K, N, X, A⟩ k va ka) (f : Fits 0 0 ⟨K, N, X, A⟩ k) (h : Below w.heap.size w W ∧ P) :
    Calls Try.prog 16 #[.agg #[.int .i64 K, .string N, .string X, va, ka]] W fun e w' => e = .returned (.int .u64 H) ∧ Below W.heap.size W w' := by
  rw [← hH.out]
  exact hof_any ⟨K, N, X, A⟩ k va ka W f.lim ((ha.below h.1).here h.1.size)
theorem key_l {P : Prop} {w W : World} {K : Int} {N X : ByteArray} {A : List (ByteArray × ByteArray)} {k : M.F} {va ka : Value} {H Z : Int} (hH : Fact (hT ⟨K, N, X, A⟩ k = H)) (hZ : Fact (ks k = Z)) (ha : Lies w.heap.size w ⟨K, N, X, A⟩ k va ka) (f : Fits 0 0 ⟨K, N, X, A⟩ k) (h : Below w.heap.size w W ∧ P) :
    Calls Try.prog 18 #[.agg #[.int .i64 K, .string N, .string X, va, ka]] W fun e w' => e = .returned (.agg #[.int .u64 H, .int .u64 Z]) ∧ Below W.heap.size W w' := by
  rw [← hH.out, ← hZ.out]
  exact hkey_any ⟨K, N, X, A⟩ k va ka W f.lim ((ha.below h.1).here h.1.size)
theorem of_c {W : World} {K : Int} {N X : ByteArray} {A : List (ByteArray × ByteArray)} {k : M.F} {va ka : Value} {H : Int} (hH : Fact (hT ⟨K, N, X, A⟩ k = H)) (ha : Fact (Lies W.heap.size W ⟨K, N, X, A⟩ k va ka)) (f : Fits 0 0 ⟨K, N, X, A⟩ k) :
    Calls Try.prog 16 #[.agg #[.int .i64 K, .string N, .string X, va, ka]] W fun e w' => e = .returned (.int .u64 H) ∧ Below W.heap.size W w' := by
  rw [← hH.out]
  exact hof_any ⟨K, N, X, A⟩ k va ka W f.lim ha.out
theorem infoU64' : (Try.prog.info? 32).map (·.size) = some 1 := by kernel_rfl
theorem eqTwo (D Z : Int) (w : World) : (Op.equalIn 10000 35 (.agg #[.int .u64 D, .int .u64 Z]) (.agg #[.int .u64 D, .int .u64 Z])).run Try.prog w = .ok true w := by
  have hq := infoU64'
  cases hi : Try.prog.info? 32 with
  | none => rw [hi] at hq; cases hq
  | some i =>
    rw [hi] at hq
    simp at hq
    have e : ∀ (a b : Int) (w : World), (Op.equalIn 9999 32 (.int .u64 a) (.int .u64 b)).run Try.prog w = .ok (a == b) w := fun a b w => run_equalIn_int w 9998 32 .u64 .u64 a b Try.underlying32
    show (Op.equalIn (9999 + 1) 35 _ _).run Try.prog w = _
    rw [Op.equalIn]
    simp [run_underlying Try.underlying35, sizeOf, typeInfo, hi, hq, List.range', part, e, Result.andThen]
theorem awake_l {P : Prop} {w W : World} (h : Below w.heap.size w W ∧ P) :
    Calls Try.prog 10 #[] W fun e w' => e = .returned (.bool true) ∧ Below W.heap.size W w' := awake18_true W

set_option maxRecDepth 20000 in
set_option maxHeartbeats 8000000 in
theorem hashSame_walk (d1 : Nd) (k1 : M.F) (va1 ka1 : Value) (d2 : Nd) (k2 : M.F) (va2 ka2 : Value) (w : World) (h1 : Lies w.heap.size w d1 k1 va1 ka1) (h2 : Lies w.heap.size w d2 k2 va2 ka2) :
    Calls Try.prog 4 #[nodeV d1 va1 ka1, nodeV d2 va2 ka2] w fun e w' => e = .returned (.bool true) ∧ Below w.heap.size w w' := by
  obtain ⟨p1, p2, p3, e1⟩ := h1.a.val
  obtain ⟨p4, p5, p6, e2⟩ := h2.a.val
  obtain ⟨q1, q2, e4⟩ := h1.f.val
  obtain ⟨q3, q4, e5⟩ := h2.f.val
  subst e1 e2 e4 e5
  obtain ⟨l1, hl1⟩ : ∃ l1, k1.len = l1 := ⟨_, rfl⟩
  obtain ⟨l2, hl2⟩ : ∃ l2, k2.len = l2 := ⟨_, rfl⟩
  rw [hl1] at h1 ⊢
  rw [hl2] at h2 ⊢
  have HL1 := Fact.mk hl1
  clear hl1 hl2
  obtain ⟨K1, N1, X1, A1⟩ := d1
  obtain ⟨K2, N2, X2, A2⟩ := d2
  have H1 := Fact.mk h1
  have H2 := Fact.mk h2
  clear h1 h2
  have hst := duo_start w #[.int .i64 K1, .string N1, .string X1, .slice p1 p2 p3, .slice q1 l1 q2] #[.int .i64 K2, .string N2, .string X2, .slice p4 p5 p6, .slice q3 l2 q4] 25
  obtain ⟨W0, hW0⟩ : ∃ W0, (w.alloc (.cells #[.int .i64 K1, .string N1, .string X1, .slice p1 p2 p3, .slice q1 l1 q2] 25)).alloc (.cells #[.int .i64 K2, .string N2, .string X2, .slice p4 p5 p6, .slice q3 l2 q4] 25) = W0 := ⟨_, rfl⟩
  rw [hW0] at hst
  obtain ⟨s1, s2, s3, s4⟩ := id hst
  have HST := Fact.mk hst
  clear hst
  go_enter Try.func4, Try.ntmps4
  go_wp2_with fail
  refine (Small_any ⟨K1, N1, X1, A1⟩ k1 _ _ w.heap.size W0 (H1.out.below HST.out.1) HST.out.1.size).mono ?_
  rintro e w1 (⟨rfl, hb1⟩ | ⟨rfl, hb1, f1⟩)
  · go_wp2_with (go_at_call 10; refine (awake_l ⟨s1.trans (hb1.mono s1.size), trivial⟩).mono ?_; rintro e w9 ⟨rfl, hb9⟩)
    go_ret
    exact ⟨rfl, s1.trans ((hb1.mono s1.size).trans (hb9.mono (Nat.le_trans s1.size hb1.size)))⟩
  have hst1 := duo_keep hb1 HST.out
  clear s1 s2 s3 s4 hW0 hb1
  obtain ⟨s1, s2, s3, s4⟩ := id hst1
  have HST1 := Fact.mk hst1
  clear hst1
  go_wp2_with fail
  refine (Small_any ⟨K2, N2, X2, A2⟩ k2 _ _ w.heap.size w1 (H2.out.below HST1.out.1) HST1.out.1.size).mono ?_
  rintro e w2 (⟨rfl, hb2⟩ | ⟨rfl, hb2, f2⟩)
  · go_wp2_with (go_at_call 10; refine (awake_l ⟨s1.trans (hb2.mono s1.size), trivial⟩).mono ?_; rintro e w9 ⟨rfl, hb9⟩)
    go_ret
    exact ⟨rfl, s1.trans ((hb2.mono s1.size).trans (hb9.mono (Nat.le_trans s1.size hb2.size)))⟩
  have hst2 := duo_keep hb2.drew HST1.out
  clear s1 s2 s3 s4
  clear hb2
  obtain ⟨r, hr⟩ : ∃ r, decide (cT ⟨K1, N1, X1, A1⟩ k1 ⟨K2, N2, X2, A2⟩ k2 = 0) = r := ⟨_, rfl⟩
  obtain ⟨D1, hD1⟩ : ∃ D1, hT ⟨K1, N1, X1, A1⟩ k1 = D1 := ⟨_, rfl⟩
  obtain ⟨D2, hD2⟩ : ∃ D2, hT ⟨K2, N2, X2, A2⟩ k2 = D2 := ⟨_, rfl⟩
  obtain ⟨Z1, hZ1⟩ : ∃ Z1, ks k1 = Z1 := ⟨_, rfl⟩
  obtain ⟨Z2, hZ2⟩ : ∃ Z2, ks k2 = Z2 := ⟨_, rfl⟩
  have HR := Fact.mk hr
  have HD1 := Fact.mk hD1
  have HD2 := Fact.mk hD2
  have HZ1 := Fact.mk hZ1
  have HZ2 := Fact.mk hZ2
  have hS0 := Fact.mk hst2
  have h11 : (D1 == D1) = true := beq_self_eq_true _
  clear hst2 hD1 hD2 hZ1 hZ2
  go_wp2_with fail
  have hS0 := hS0.out
  cases r
  · clear hr
    refine wp_region_held_drew (S := (fun w' => Below w.heap.size w w' ∧ w.heap.size + 2 ≤ w'.heap.size ∧ (∀ i, w'.cell? ⟨w.heap.size, i, none⟩ = (#[.int .i64 K1, .string N1, .string X1, .slice p1 p2 p3, .slice q1 l1 q2] : Array Value)[i]?) ∧ (∀ i, w'.cell? ⟨w.heap.size + 1, i, none⟩ = (#[.int .i64 K2, .string N2, .string X2, .slice p4 p5 p6, .slice q3 l2 q4] : Array Value)[i]?))) (by kernel_rfl) hS0 (fun _ => ?_)
    refine wpAnyH_take (i := 0) (v := ?v0n1) rfl (by kernel_rfl) (by kernel_rfl) (by kernel_rfl) (fun _ _ _ h => h) (Or.inl ⟨by rfl, ?hy0n1⟩) hS0 ?rr0n1
    case hy0n1 =>
      intro w hSw
      go_simp
      try with_reducible rfl
    try simp only [Act.put, List.getElem_toArray, List.getElem_cons_succ, List.getElem_cons_zero, List.setIfInBounds_toArray, List.set_cons_zero, List.set_cons_succ]
    refine wpAnyH_take (i := 3) (v := ?v3n2) rfl (by kernel_rfl) (by kernel_rfl) (by kernel_rfl) (fun _ _ _ h => h) (Or.inl ⟨by rfl, ?hy3n2⟩) hS0 ?rr3n2
    case hy3n2 =>
      intro w hSw
      go_simp
      try with_reducible rfl
    try simp only [Act.put, List.getElem_toArray, List.getElem_cons_succ, List.getElem_cons_zero, List.setIfInBounds_toArray, List.set_cons_zero, List.set_cons_succ]
    refine wpAnyH_ready (rs := [1]) (by kernel_rfl) (by simp) ?_
    refine AllReadyH.cons rfl (fun K hK => ?_) AllReadyH.nil
    go_simp
    refine (copy_l HL1.out H1.out f1.out hS0).mono ?_
    rintro e w3 ⟨y1, y2, y3, z1, z3, rfl, hb3, ht3⟩
    have hS3 := duo_keep hb3 hS0
    refine hK.out _ _ hS3 (fun _ => ?_)
    clear hK K hb3
    refine wpAnyH_ready (rs := [2]) (by kernel_rfl) (by simp) ?_
    refine AllReadyH.cons rfl (fun K hK => ?_) AllReadyH.nil
    go_simp
    refine (of_c HD1 ht3 f1.out).mono ?_
    rintro e w4 ⟨rfl, hb4⟩
    have hS4 := duo_keep hb4 hS3
    refine hK.out _ _ hS4 (fun _ => ?_)
    clear hK K hb4
    refine wpAnyH_ready (rs := [4]) (by kernel_rfl) (by simp) ?_
    refine AllReadyH.cons rfl (fun K hK => ?_) AllReadyH.nil
    go_simp
    refine (of_l HD1 H1.out f1.out hS4).mono ?_
    rintro e w5 ⟨rfl, hb5⟩
    have hS5 := duo_keep hb5 hS4
    refine hK.out _ _ hS5 (fun _ => ?_)
    clear hK K hb5
    refine wpAnyH_take (i := 5) (v := ?v5n3) rfl (by kernel_rfl) (by kernel_rfl) (by kernel_rfl) (fun _ _ _ h => h) (Or.inl ⟨by rfl, ?hy5n3⟩) hS5 ?rr5n3
    case hy5n3 =>
      intro w hSw
      go_simp
      try with_reducible rfl
    try simp only [Act.put, List.getElem_toArray, List.getElem_cons_succ, List.getElem_cons_zero, List.setIfInBounds_toArray, List.set_cons_zero, List.set_cons_succ]
    refine wpAnyH_take (i := 6) (v := ?v6n4) rfl (by kernel_rfl) (by kernel_rfl) (by kernel_rfl) (fun _ _ _ h => h) (Or.inl ⟨by rfl, ?hy6n4⟩) hS5 ?rr6n4
    case hy6n4 =>
      intro w hSw
      go_simp
      try with_reducible rfl
    try simp only [Act.put, List.getElem_toArray, List.getElem_cons_succ, List.getElem_cons_zero, List.setIfInBounds_toArray, List.set_cons_zero, List.set_cons_succ]
    refine wpAnyH_take (i := 7) (v := ?v7n5) rfl (by kernel_rfl) (by kernel_rfl) (by kernel_rfl) (fun _ _ _ h => h) (Or.inl ⟨by rfl, ?hy7n5⟩) hS5 ?rr7n5
    case hy7n5 =>
      intro w hSw
      go_simp
      try with_reducible rfl
    try simp only [Act.put, List.getElem_toArray, List.getElem_cons_succ, List.getElem_cons_zero, List.setIfInBounds_toArray, List.set_cons_zero, List.set_cons_succ]
    refine wpAnyH_take (i := 8) (v := ?v8n6) rfl (by kernel_rfl) (by kernel_rfl) (by kernel_rfl) (fun _ _ _ h => h) (Or.inl ⟨by rfl, ?hy8n6⟩) hS5 ?rr8n6
    case hy8n6 =>
      intro w hSw
      go_simp
      try with_reducible rfl
    try simp only [Act.put, List.getElem_toArray, List.getElem_cons_succ, List.getElem_cons_zero, List.setIfInBounds_toArray, List.set_cons_zero, List.set_cons_succ]
    refine wpAnyH_ready (rs := [9]) (by kernel_rfl) (by simp) ?_
    refine AllReadyH.cons rfl (fun K hK => ?_) AllReadyH.nil
    go_simp
    refine (rsame_l false HR H1.out H2.out hS5).mono ?_
    rintro e w6 ⟨rfl, hb6⟩
    have hS6 := duo_keep hb6 hS5
    refine hK.out _ _ hS6 (fun _ => ?_)
    clear hK K hb6
    refine wpAnyH_take (i := 10) (v := ?v10n7) rfl (by kernel_rfl) (by kernel_rfl) (by kernel_rfl) (fun _ _ _ h => h) (Or.inl ⟨by rfl, ?hy10n7⟩) hS6 ?rr10n7
    case hy10n7 =>
      intro w hSw
      go_simp
      try with_reducible rfl
    try simp only [Act.put, List.getElem_toArray, List.getElem_cons_succ, List.getElem_cons_zero, List.setIfInBounds_toArray, List.set_cons_zero, List.set_cons_succ]
    refine wpAnyH_take (i := 11) (v := ?v11n8) rfl (by kernel_rfl) (by kernel_rfl) (by kernel_rfl) (fun _ _ _ h => h) (Or.inl ⟨by rfl, ?hy11n8⟩) hS6 ?rr11n8
    case hy11n8 =>
      intro w hSw
      go_simp
      try with_reducible rfl
    try simp only [Act.put, List.getElem_toArray, List.getElem_cons_succ, List.getElem_cons_zero, List.setIfInBounds_toArray, List.set_cons_zero, List.set_cons_succ]
    refine wpAnyH_take (i := 12) (v := undef) rfl (by kernel_rfl) (by kernel_rfl) (by kernel_rfl) (fun _ _ _ h => h) (Or.inr ⟨by rfl, rfl⟩) hS6 ?_
    try simp only [Act.put, List.getElem_toArray, List.getElem_cons_succ, List.getElem_cons_zero, List.setIfInBounds_toArray, List.set_cons_zero, List.set_cons_succ]
    refine wpAnyH_take (i := 13) (v := undef) rfl (by kernel_rfl) (by kernel_rfl) (by kernel_rfl) (fun _ _ _ h => h) (Or.inr ⟨by rfl, rfl⟩) hS6 ?_
    try simp only [Act.put, List.getElem_toArray, List.getElem_cons_succ, List.getElem_cons_zero, List.setIfInBounds_toArray, List.set_cons_zero, List.set_cons_succ]
    refine wpAnyH_take (i := 14) (v := undef) rfl (by kernel_rfl) (by kernel_rfl) (by kernel_rfl) (fun _ _ _ h => h) (Or.inr ⟨by rfl, rfl⟩) hS6 ?_
    try simp only [Act.put, List.getElem_toArray, List.getElem_cons_succ, List.getElem_cons_zero, List.setIfInBounds_toArray, List.set_cons_zero, List.set_cons_succ]
    refine wpAnyH_take (i := 15) (v := undef) rfl (by kernel_rfl) (by kernel_rfl) (by kernel_rfl) (fun _ _ _ h => h) (Or.inr ⟨by rfl, rfl⟩) hS6 ?_
    try simp only [Act.put, List.getElem_toArray, List.getElem_cons_succ, List.getElem_cons_zero, List.setIfInBounds_toArray, List.set_cons_zero, List.set_cons_succ]
    refine wpAnyH_take (i := 16) (v := undef) rfl (by kernel_rfl) (by kernel_rfl) (by kernel_rfl) (fun _ _ _ h => h) (Or.inr ⟨by rfl, rfl⟩) hS6 ?_
    try simp only [Act.put, List.getElem_toArray, List.getElem_cons_succ, List.getElem_cons_zero, List.setIfInBounds_toArray, List.set_cons_zero, List.set_cons_succ]
    refine wpAnyH_take (i := 17) (v := ?v17n9) rfl (by kernel_rfl) (by kernel_rfl) (by kernel_rfl) (fun _ _ _ h => h) (Or.inl ⟨by rfl, ?hy17n9⟩) hS6 ?rr17n9
    case hy17n9 =>
      intro w hSw
      go_simp
      try with_reducible rfl
    try simp only [Act.put, List.getElem_toArray, List.getElem_cons_succ, List.getElem_cons_zero, List.setIfInBounds_toArray, List.set_cons_zero, List.set_cons_succ]
    refine wpAnyH_take (i := 18) (v := ?v18n10) rfl (by kernel_rfl) (by kernel_rfl) (by kernel_rfl) (fun _ _ _ h => h) (Or.inl ⟨by rfl, ?hy18n10⟩) hS6 ?rr18n10
    case hy18n10 =>
      intro w hSw
      go_simp
      try with_reducible rfl
    try simp only [Act.put, List.getElem_toArray, List.getElem_cons_succ, List.getElem_cons_zero, List.setIfInBounds_toArray, List.set_cons_zero, List.set_cons_succ]
    refine wpAnyH_take (i := 19) (v := ?v19n11) rfl (by kernel_rfl) (by kernel_rfl) (by kernel_rfl) (fun _ _ _ h => h) (Or.inl ⟨by rfl, ?hy19n11⟩) hS6 ?rr19n11
    case hy19n11 =>
      intro w hSw
      go_simp
      try with_reducible rfl
    try simp only [Act.put, List.getElem_toArray, List.getElem_cons_succ, List.getElem_cons_zero, List.setIfInBounds_toArray, List.set_cons_zero, List.set_cons_succ]
    refine wpAnyH_ready (rs := [20]) (by kernel_rfl) (by simp) ?_
    refine AllReadyH.cons rfl (fun K hK => ?_) AllReadyH.nil
    go_simp
    refine (awake_l hS6).mono ?_
    rintro e w9 ⟨rfl, hb9⟩
    have hS9 := duo_keep hb9 hS6
    refine hK.out _ _ hS9 (fun _ => ?_)
    clear hK K hb9
    refine wpAnyH_take (i := 21) (v := ?v21n12) rfl (by kernel_rfl) (by kernel_rfl) (by kernel_rfl) (fun _ _ _ h => h) (Or.inl ⟨by rfl, ?hy21n12⟩) hS9 ?rr21n12
    case hy21n12 =>
      intro w hSw
      go_simp
      try with_reducible rfl
    try simp only [Act.put, List.getElem_toArray, List.getElem_cons_succ, List.getElem_cons_zero, List.setIfInBounds_toArray, List.set_cons_zero, List.set_cons_succ]
    refine wpAnyH_take (i := 22) (v := ?v22n13) rfl (by kernel_rfl) (by kernel_rfl) (by kernel_rfl) (fun _ _ _ h => h) (Or.inl ⟨by rfl, ?hy22n13⟩) hS9 ?rr22n13
    case hy22n13 =>
      intro w hSw
      go_simp
      try with_reducible rfl
    try simp only [Act.put, List.getElem_toArray, List.getElem_cons_succ, List.getElem_cons_zero, List.setIfInBounds_toArray, List.set_cons_zero, List.set_cons_succ]
    refine wpAnyH_done (by kernel_rfl) ?_ _
    go_wp2_with fail
    go_ret
    exact ⟨rfl, hS9.1⟩
  · have hs := cT_same (of_decide_eq_true hr)
    have hTT : D1 = D2 := by rw [← HD1.out, ← HD2.out]; exact hs.1
    have hZZ : Z1 = Z2 := by rw [← HZ1.out, ← HZ2.out]; unfold ks; rw [hs.2.1, hs.2.2]
    subst hTT hZZ
    have hEq := eqTwo D1 Z1
    clear hr hs
    go_region_held3 (fun w' => Below w.heap.size w w' ∧ w.heap.size + 2 ≤ w'.heap.size ∧ (∀ i, w'.cell? ⟨w.heap.size, i, none⟩ = (#[.int .i64 K1, .string N1, .string X1, .slice p1 p2 p3, .slice q1 l1 q2] : Array Value)[i]?) ∧ (∀ i, w'.cell? ⟨w.heap.size + 1, i, none⟩ = (#[.int .i64 K2, .string N2, .string X2, .slice p4 p5 p6, .slice q3 l2 q4] : Array Value)[i]?))
      (first | with_reducible exact hS0 | with_reducible assumption)
      (first
        | (go_at_call 11; with_reducible refine (copy_l HL1.out H1.out f1.out hS0).mono ?_; rintro e w3 ⟨y1, y2, y3, z1, z3, rfl, hb3, ht3⟩; have hS3 := duo_keep hb3 hS0; clear hb3)
        | (go_at_call 16; with_reducible refine (of_c HD1 ht3 f1.out).mono ?_; rintro e w4 ⟨rfl, hb4⟩; have hS4 := duo_keep hb4 hS3; clear hb4)
        | (go_at_call 16; with_reducible refine (of_l HD1 H1.out f1.out hS4).mono ?_; rintro e w5 ⟨rfl, hb5⟩; have hS5 := duo_keep hb5 hS4; clear hb5)
        | (go_at_call 20; with_reducible refine (rsame_l true HR H1.out H2.out hS5).mono ?_; rintro e w6 ⟨rfl, hb6⟩; have hS6 := duo_keep hb6 hS5; clear hb6)
        | (go_at_call 18; with_reducible refine (key_l HD1 HZ1 H1.out f1.out hS6).mono ?_; rintro e w7 ⟨rfl, hb7⟩; have hS7 := duo_keep hb7 hS6; clear hb7)
        | (go_at_call 18; with_reducible refine (key_l HD2 HZ2 H2.out f2.out hS7).mono ?_; rintro e w8 ⟨rfl, hb8⟩; have hS8 := duo_keep hb8 hS7; clear hb8)
        | (go_at_call 10; with_reducible refine (awake_l hS8).mono ?_; rintro e w9 ⟨rfl, hb9⟩; have hS9 := duo_keep hb9 hS8; clear hb9))
    go_wp2_with fail
    go_ret
    exact ⟨rfl, hS9.1⟩
end Go.Proofs.Ytfcmgkakmaclcaa
end

/- HashAll, walked. -/
section
set_option linter.unusedVariables false
set_option linter.unusedSimpArgs false
namespace Go.Proofs.Ytfcmgkakmaclcaa
open Go.Deep (BT)
open Go.RowKit Go.Shelf M
open Bt (mx IsU mx_u ret_int)

theorem ci_self (a : Int) : ci a a = 0 := by unfold ci; rw [if_neg (by omega), if_neg (by omega)]
theorem cl_self : ∀ l, cl l l = 0
  | [] => rfl
  | a :: l => by show orI (ci a.toNat a.toNat) (cl l l) = 0; rw [ci_self, cl_self l]; rfl
theorem ca_self : ∀ l, ca l l = 0
  | [] => rfl
  | p :: l => by show orI (orI (cs p.1 p.1) (cs p.2 p.2)) (ca l l) = 0; unfold cs; rw [cl_self, cl_self, ca_self l]; rfl
theorem cn_self (d : Nd) : cn d d = 0 := by unfold cn cs; rw [ci_self, cl_self, cl_self, ca_self]; rfl
theorem cF_self : ∀ f, cF f f = 0
  | .nil => rfl
  | .node _ _ d k r => by show orI (cn d d) (orI (cF k k) (cF r r)) = 0; rw [cn_self, cF_self k, cF_self r]; rfl
theorem cT_self (d : Nd) (k : M.F) : cT d k d k = 0 := by unfold cT; rw [cn_self, cF_self]; rfl
theorem rsz18 (d : Nd) (k : M.F) (va ka : Value) (Z n : Nat) (W : World) (hZ : Fact (k.size + 1 = Z)) (hz : Z ≤ 1000000) (hl : Lies n W d k va ka) (hn : n ≤ W.heap.size) :
    Calls Try.prog 9 #[nodeV d va ka] W fun e w' => e = .returned (.int .i64 Z) ∧ Below W.heap.size W w' := by
  have h := rsize_any k d va ka n W hl hn (by have := hZ.out; omega)
  rw [hZ.out] at h
  exact h

set_option maxRecDepth 100000 in
set_option maxHeartbeats 8000000 in
theorem hashAll_walk (d : Nd) (k : M.F) (va ka : Value) (s : ByteArray) (w : World) (h : Lies w.heap.size w d k va ka) :
    Calls Try.prog 3 #[nodeV d va ka, .string s] w fun e w' => e = .returned (.bool true) ∧ Below w.heap.size w w' := by
  obtain ⟨p1, p2, p3, e1⟩ := h.a.val
  obtain ⟨q1, q2, e2⟩ := h.f.val
  subst e1 e2
  obtain ⟨kl, hkl⟩ : ∃ kl, k.len = kl := ⟨_, rfl⟩
  rw [hkl] at h ⊢
  obtain ⟨K, N, X, A⟩ := d
  have HL := Fact.mk h
  have HKL := Fact.mk hkl
  obtain ⟨n, hn⟩ : ∃ n, Fact (k.size + 1 = n) := ⟨_, ⟨rfl⟩⟩
  obtain ⟨z, hz⟩ : ∃ z, s.size = z := ⟨_, rfl⟩
  have HZ := Fact.mk hz
  have hzI : (s.size : Int) = z := by omega
  obtain ⟨W1, hW1⟩ : ∃ W1, w.alloc (.cells #[.int .i64 K, .string N, .string X, .slice p1 p2 p3, .slice q1 kl q2] 25) = W1 := ⟨_, rfl⟩
  have hB1 : Below w.heap.size w W1 := by rw [← hW1]; exact (Below.refl _ w).alloc (Nat.le_refl _) _
  have hbx : Box5 w.heap.size K N X (.slice p1 p2 p3) (.slice q1 kl q2) W1 := by rw [← hW1]; exact Box5.new _ _ _ _ _ _ _
  have HB1 := Fact.mk hB1
  have HW1 := Fact.mk hW1
  have HBX := Fact.mk hbx
  have b0 := hbx.c0
  have b1 := hbx.c1
  have b2 := hbx.c2
  have b3 := hbx.c3
  have b4 := hbx.c4
  clear hB1 hW1 hbx h hkl hz
  go_enter Try.func3, Try.ntmps3
  go_upto_region 1 with fail
  rw [HW1.out]
  go_wp2_with fail
  refine (SmallA_any ⟨K, N, X, A⟩ k _ _ w.heap.size W1 (HL.out.below HB1.out) HB1.out.size).mono ?_
  rintro e w1 (⟨rfl, hb1⟩ | ⟨rfl, hb1, f1⟩)
  · go_wp2_with (go_at_call 10; refine (awake18_true _).mono ?_; rintro e w9 ⟨rfl, hb9⟩)
    go_ret
    exact ⟨rfl, HB1.out.trans ((hb1.mono HB1.out.size).trans (hb9.mono (Nat.le_trans HB1.out.size hb1.size)))⟩
  have hn400 : n ≤ 400 := by have := f1.out.size; have := hn.out; omega
  have hbx1 := HBX.out.keep hb1
  have y0 := hbx1.c0
  have y1 := hbx1.c1
  have y2 := hbx1.c2
  have y3 := hbx1.c3
  have y4 := hbx1.c4
  have HBa : Fact (Below w.heap.size w w1) := ⟨HB1.out.trans (hb1.mono HB1.out.size)⟩
  have HBX1 := Fact.mk hbx1
  clear b0 b1 b2 b3 b4 hb1 hbx1
  go_wp2_with fail
  refine (rsz18 ⟨K, N, X, A⟩ k _ _ n w.heap.size w1 hn (by omega) (HL.out.below HBa.out) HBa.out.size).mono ?_
  rintro e w2 ⟨rfl, hb2⟩
  have HBb : Fact (Below w.heap.size w w2) := ⟨HBa.out.trans (hb2.mono HBa.out.size)⟩
  have hbx2 := HBX1.out.keep hb2
  have HBX2 := Fact.mk hbx2
  have z0 := hbx2.c0
  have z1 := hbx2.c1
  have z2 := hbx2.c2
  have z3 := hbx2.c3
  have z4 := hbx2.c4
  clear y0 y1 y2 y3 y4 hb2 hbx2
  by_cases h80 : 80 < n
  · have hd80 : decide ((80 : Int) < n) = true := decide_eq_true (by omega)
    go_wp2_with (go_at_call 10; refine (awake18_true _).mono ?_; rintro e w9 ⟨rfl, hb9⟩)
    go_ret
    exact ⟨rfl, HBb.out.trans (hb9.mono HBb.out.size)⟩
  have hd80 : decide ((80 : Int) < n) = false := decide_eq_false (by omega)
  by_cases h3000 : 3000 < z
  · have hdz : decide ((3000 : Int) < z) = true := decide_eq_true (by omega)
    go_wp2_with (go_at_call 10; refine (awake18_true _).mono ?_; rintro e w9 ⟨rfl, hb9⟩)
    go_ret
    exact ⟨rfl, HBb.out.trans (hb9.mono HBb.out.size)⟩
  have hdz : decide ((3000 : Int) < z) = false := decide_eq_false (by omega)
  have hF : Fits 0 0 ⟨K, N, X, A⟩ k := ⟨f1.out.size, f1.out.depth, by have := slots_le k f1.out.all; have := f1.out.nd.many; show A.length + k.slots ≤ _; have h2 : A.length ≤ 20 := f1.out.nd.many; omega⟩
  have HF := Fact.mk hF
  have HCOPY := Fact.mk (copy_l (P := True) HKL.out HL.out hF (W := w2) ⟨HBb.out, trivial⟩)
  clear hF
  go_upto_region 4 with (go_at_call 11; refine HCOPY.out.mono ?_; rintro e w4 ⟨r1, r2, r3, r4, r5, rfl, hb4, hl4⟩)
  obtain ⟨W5, hW5⟩ : ∃ W5, w4.alloc (.cells #[.int .i64 K, .string N, .string X, .slice r1 r2 r3, .slice r4 kl r5] 25) = W5 := ⟨_, rfl⟩
  have hB4 : Below w.heap.size w w4 := HBb.out.trans (hb4.mono HBb.out.size)
  have hb5 : Below w4.heap.size w4 W5 := by rw [← hW5]; exact (Below.refl _ w4).alloc (Nat.le_refl _) _
  have hB5 : Below w.heap.size w W5 := hB4.trans (hb5.mono hB4.size)
  have hbt := (HBX2.out.keep hb4).keep hb5
  have hbx : Box5 w4.heap.size K N X (.slice r1 r2 r3) (.slice r4 kl r5) W5 := by rw [← hW5]; exact Box5.new _ _ _ _ _ _ _
  have HQ : Fact (∀ W, Below W5.heap.size W5 W → (Below W5.heap.size W5 W ∧ (W.cell? ⟨w.heap.size, 0, none⟩ = some (.int .i64 K) ∧ W.cell? ⟨w.heap.size, 1, none⟩ = some (.string N) ∧ W.cell? ⟨w.heap.size, 2, none⟩ = some (.string X) ∧ W.cell? ⟨w.heap.size, 3, none⟩ = some (.slice p1 p2 p3) ∧ W.cell? ⟨w.heap.size, 4, none⟩ = some (.slice q1 kl q2) ∧ W.cell? ⟨w4.heap.size, 0, none⟩ = some (.int .i64 K) ∧ W.cell? ⟨w4.heap.size, 1, none⟩ = some (.string N) ∧ W.cell? ⟨w4.heap.size, 2, none⟩ = some (.string X) ∧ W.cell? ⟨w4.heap.size, 3, none⟩ = some (.slice r1 r2 r3) ∧ W.cell? ⟨w4.heap.size, 4, none⟩ = some (.slice r4 kl r5)))) := ⟨fun W hb => by
    have h1 := hbt.keep hb
    have h2 := hbx.keep hb
    exact ⟨hb, h1.c0, h1.c1, h1.c2, h1.c3, h1.c4, h2.c0, h2.c1, h2.c2, h2.c3, h2.c4⟩⟩
  have HLX : Fact (∀ W, Below W5.heap.size W5 W → Lies W.heap.size W ⟨K, N, X, A⟩ k (.slice r1 r2 r3) (.slice r4 kl r5)) := ⟨fun W hb => by
    have h1 := hb5.trans (hb.mono hb5.size)
    exact (hl4.out.below h1).here h1.size⟩
  have HLT : Fact (∀ W, Below W5.heap.size W5 W → Lies W.heap.size W ⟨K, N, X, A⟩ k (.slice p1 p2 p3) (.slice q1 kl q2)) := ⟨fun W hb => by
    have h1 := hB5.trans (hb.mono hB5.size)
    exact (HL.out.below h1).here h1.size⟩
  have HB5 := Fact.mk hB5
  have HW5 := Fact.mk hW5
  have HKX := HKL.out
  have HALLX : Fact (∀ W, Below W5.heap.size W5 W → Calls Try.prog 12 #[.agg #[.int .i64 K, .string N, .string X, .slice r1 r2 r3, .slice r4 kl r5]] W fun e w' => ∃ g, e = .returned (.slice (some ⟨g, 0, none⟩) n n) ∧ Below W.heap.size W w' ∧ Fact (w'.ownsRow W.heap.size 32 1 (.slice (some ⟨g, 0, none⟩) n n) n (cU (finT ⟨K, N, X, A⟩ k)))) := ⟨fun W hb => by
    have h := hall_any ⟨K, N, X, A⟩ k (.slice r1 r2 r3) (.slice r4 kl r5) n W hn.out f1.out.lim (HLX.out W hb)
    exact h⟩
  have HALLT : Fact (∀ W, Below W5.heap.size W5 W → Calls Try.prog 13 #[.agg #[.int .i64 K, .string N, .string X, .slice p1 p2 p3, .slice q1 kl q2]] W fun e w' => ∃ g c, e = .returned (.slice (some ⟨g, 0, none⟩) n c) ∧ Below W.heap.size W w' ∧ Fact (w'.ownsRow W.heap.size 32 1 (.slice (some ⟨g, 0, none⟩) n c) n (cU (finT ⟨K, N, X, A⟩ k)))) := ⟨fun W hb => by
    have h := rall_any ⟨K, N, X, A⟩ k (.slice p1 p2 p3) (.slice q1 kl q2) n W hn.out f1.out (HLT.out W hb)
    exact h⟩
  obtain ⟨D, hD⟩ : ∃ D, hT ⟨K, N, X, A⟩ k = D := ⟨_, rfl⟩
  obtain ⟨Z, hZ⟩ : ∃ Z, ks k = Z := ⟨_, rfl⟩
  have HOFX : Fact (∀ W, Below W5.heap.size W5 W → Calls Try.prog 16 #[.agg #[.int .i64 K, .string N, .string X, .slice r1 r2 r3, .slice r4 kl r5]] W fun e w' => e = .returned (.int .u64 D) ∧ Below W.heap.size W w') := ⟨fun W hb => by
    have h := hof_any ⟨K, N, X, A⟩ k (.slice r1 r2 r3) (.slice r4 kl r5) W f1.out.lim (HLX.out W hb)
    rw [hD] at h
    exact h⟩
  have HOFT : Fact (∀ W, Below W5.heap.size W5 W → Calls Try.prog 17 #[.agg #[.int .i64 K, .string N, .string X, .slice p1 p2 p3, .slice q1 kl q2]] W fun e w' => e = .returned (.int .u64 D) ∧ Below W.heap.size W w') := ⟨fun W hb => by
    have h := rof18_any k ⟨K, N, X, A⟩ (.slice p1 p2 p3) (.slice q1 kl q2) W.heap.size W (HLT.out W hb) (Nat.le_refl _) f1.out.nd f1.out.all (by have := f1.out.size; omega)
    rw [hD] at h
    exact h⟩
  have HKEYX : Fact (∀ W, Below W5.heap.size W5 W → Calls Try.prog 18 #[.agg #[.int .i64 K, .string N, .string X, .slice r1 r2 r3, .slice r4 kl r5]] W fun e w' => e = .returned (.agg #[.int .u64 D, .int .u64 Z]) ∧ Below W.heap.size W w') := ⟨fun W hb => by
    have h := hkey_any ⟨K, N, X, A⟩ k (.slice r1 r2 r3) (.slice r4 kl r5) W f1.out.lim (HLX.out W hb)
    rw [hD, hZ] at h
    exact h⟩
  have HKEYT : Fact (∀ W, Below W5.heap.size W5 W → Calls Try.prog 19 #[.agg #[.int .i64 K, .string N, .string X, .slice p1 p2 p3, .slice q1 kl q2]] W fun e w' => e = .returned (.agg #[.int .u64 D, .int .u64 Z]) ∧ Below W.heap.size W w') := ⟨fun W hb => by
    have h := rkey_any ⟨K, N, X, A⟩ k (.slice p1 p2 p3) (.slice q1 kl q2) W f1.out (HLT.out W hb)
    rw [hD, hZ] at h
    exact h⟩
  have HSAME : Fact (∀ W, Below W5.heap.size W5 W → Calls Try.prog 20 #[.agg #[.int .i64 K, .string N, .string X, .slice r1 r2 r3, .slice r4 kl r5], .agg #[.int .i64 K, .string N, .string X, .slice p1 p2 p3, .slice q1 kl q2]] W fun e w' => e = .returned (.bool true) ∧ Below W.heap.size W w') := ⟨fun W hb =>
    rsame_at (n := W.heap.size) (w := W) (d := ⟨K, N, X, A⟩) (d' := ⟨K, N, X, A⟩) (k := k) (k' := k) (va := .slice r1 r2 r3) (vb := .slice p1 p2 p3) (ka := .slice r4 kl r5) (kb := .slice q1 kl q2) true ⟨by rw [cT_self]; rfl⟩ (HLX.out W hb) (HLT.out W hb) (Nat.le_refl _)⟩
  clear hl4 hbt hbx hb5 hb4 hB4 hB5 hW5 z0 z1 z2 z3 z4 hD hZ HCOPY
  rw [HW5.out]
  obtain ⟨c0, c1, c2, c3, c4, x0, x1, x2, x3, x4⟩ := (HQ.out W5 (Below.refl _ _)).2
  go_upto_region 5 with (go_at_call 12; refine (HALLX.out W5 (Below.refl _ _)).mono ?_; rintro e w6 ⟨g6, rfl, hb6, hr6⟩)
  have HB6 := Fact.mk hb6
  clear c0 c1 c2 c3 c4 x0 x1 x2 x3 x4 hb6
  obtain ⟨_, c0, c1, c2, c3, c4, x0, x1, x2, x3, x4⟩ := HQ.out w6 HB6.out
  go_upto_region 6 with (go_at_call 13; refine (HALLT.out w6 HB6.out).mono ?_; rintro e w7 ⟨g7, c7, rfl, hb7, hr7⟩)
  have HB7 : Fact (Below W5.heap.size W5 w7) := ⟨HB6.out.trans (hb7.mono HB6.out.size)⟩
  have HR6 : Fact (w7.ownsRow W5.heap.size 32 1 (.slice (some ⟨g6, 0, none⟩) n n) n (cU (finT ⟨K, N, X, A⟩ k))) := ⟨own_upH hr6.out hb7⟩
  have HR7 := Fact.mk hr7.out
  have hS0 : Below W5.heap.size W5 w7.drew ∧ (w7.drew.cell? ⟨w.heap.size, 0, none⟩ = some (.int .i64 K) ∧ w7.drew.cell? ⟨w.heap.size, 1, none⟩ = some (.string N) ∧ w7.drew.cell? ⟨w.heap.size, 2, none⟩ = some (.string X) ∧ w7.drew.cell? ⟨w.heap.size, 3, none⟩ = some (.slice p1 p2 p3) ∧ w7.drew.cell? ⟨w.heap.size, 4, none⟩ = some (.slice q1 kl q2) ∧ w7.drew.cell? ⟨w4.heap.size, 0, none⟩ = some (.int .i64 K) ∧ w7.drew.cell? ⟨w4.heap.size, 1, none⟩ = some (.string N) ∧ w7.drew.cell? ⟨w4.heap.size, 2, none⟩ = some (.string X) ∧ w7.drew.cell? ⟨w4.heap.size, 3, none⟩ = some (.slice r1 r2 r3) ∧ w7.drew.cell? ⟨w4.heap.size, 4, none⟩ = some (.slice r4 kl r5)) := HQ.out w7.drew HB7.out.drew
  have hs3 : s.size ≤ 1000000 := by have := HZ.out; omega
  have hEq := eqTwo D Z
  obtain ⟨TX, hTX⟩ : ∃ TX, tx s = TX := ⟨_, rfl⟩
  have HT1 := fun W => htext_any s W
  have HT2 := fun W => rtext_any s W hs3
  rw [hTX] at HT1 HT2
  have HT1 := Fact.mk HT1
  have HT2 := Fact.mk HT2
  clear c0 c1 c2 c3 c4 x0 x1 x2 x3 x4 hb7 hr6 hr7 hTX
  go_region_held3 (fun w' => Below W5.heap.size W5 w' ∧ (w'.cell? ⟨w.heap.size, 0, none⟩ = some (.int .i64 K) ∧ w'.cell? ⟨w.heap.size, 1, none⟩ = some (.string N) ∧ w'.cell? ⟨w.heap.size, 2, none⟩ = some (.string X) ∧ w'.cell? ⟨w.heap.size, 3, none⟩ = some (.slice p1 p2 p3) ∧ w'.cell? ⟨w.heap.size, 4, none⟩ = some (.slice q1 kl q2) ∧ w'.cell? ⟨w4.heap.size, 0, none⟩ = some (.int .i64 K) ∧ w'.cell? ⟨w4.heap.size, 1, none⟩ = some (.string N) ∧ w'.cell? ⟨w4.heap.size, 2, none⟩ = some (.string X) ∧ w'.cell? ⟨w4.heap.size, 3, none⟩ = some (.slice r1 r2 r3) ∧ w'.cell? ⟨w4.heap.size, 4, none⟩ = some (.slice r4 kl r5)))
    (first | with_reducible exact hS0 | with_reducible assumption)
    (first
      | (go_at_call 14; refine (HT1.out _).mono ?_; rintro e wA ⟨rfl, hbA⟩; have hSA := HQ.out wA (hS0.1.trans (hbA.mono hS0.1.size)))
      | (go_at_call 15; refine (HT2.out _).mono ?_; rintro e wB ⟨rfl, hbB⟩; have hSB := HQ.out wB (hSA.1.trans (hbB.mono hSA.1.size)))
      | (go_at_call 16; refine (HOFX.out _ hSB.1).mono ?_; rintro e wC ⟨rfl, hbC⟩; have hSC := HQ.out wC (hSB.1.trans (hbC.mono hSB.1.size)))
      | (go_at_call 17; refine (HOFT.out _ hSC.1).mono ?_; rintro e wD ⟨rfl, hbD⟩; have hSD := HQ.out wD (hSC.1.trans (hbD.mono hSC.1.size)))
      | (go_at_call 18; refine (HKEYX.out _ hSD.1).mono ?_; rintro e wE ⟨rfl, hbE⟩; have hSE := HQ.out wE (hSD.1.trans (hbE.mono hSD.1.size)))
      | (go_at_call 19; refine (HKEYT.out _ hSE.1).mono ?_; rintro e wF ⟨rfl, hbF⟩; have hSF := HQ.out wF (hSE.1.trans (hbF.mono hSE.1.size))))
  have HBF : Fact (Below w7.heap.size w7 wF) := ⟨by
    have h0 : Below w7.heap.size w7 w7.drew := (Below.refl _ w7).drew
    have hzd : w7.drew.heap.size = w7.heap.size := rfl
    rw [hzd] at hbA
    have s1 := hbA.size
    have s2 := hbB.size
    have s3 := hbC.size
    have s4 := hbD.size
    have s5 := hbE.size
    rw [hzd] at s1
    exact h0.trans (hbA.trans ((hbB.mono (by omega)).trans ((hbC.mono (by omega)).trans ((hbD.mono (by omega)).trans ((hbE.mono (by omega)).trans (hbF.mono (by omega)))))))⟩
  have HSF := Fact.mk hSF.1
  clear hS0 hSA hSB hSC hSD hSE hSF hbA hbB hbC hbD hbE hbF hEq
  go_wp2_with fail
  go_loopg [8] n (fun gf iv wr => ∃ i : Nat, iv = .int .i64 i ∧ i ≤ n ∧ n - i ≤ gf ∧ Fact (Below w7.heap.size w7 wr))
  case atStart => exact ⟨0, rfl, Nat.zero_le _, Nat.le_refl _, HBF⟩
  case round =>
    obtain ⟨i, rfl, hi, hfu, hBr⟩ := hrel
    have hBr5 : Below W5.heap.size W5 wr := HB7.out.trans (hBr.out.mono HB7.out.size)
    by_cases hlt : i < n
    · have hdec : decide ((i : Int) < (n : Int)) = true := decide_eq_true (by omega)
      obtain ⟨g', rfl⟩ : ∃ g', gk = g' + 1 := ⟨gk - 1, by omega⟩
      obtain ⟨F, hF⟩ : ∃ F, (finT ⟨K, N, X, A⟩ k)[i]? = some F := ⟨(finT ⟨K, N, X, A⟩ k)[i]'(by rw [finT_len, hn.out]; exact hlt), by simp⟩
      obtain ⟨u0, _, _, _, _, _, _⟩ := rowV_at (own_upH HR6.out hBr.out) (cU_get hF)
      obtain ⟨u1, _, _, _, hc7, _, _⟩ := rowV_at (own_upH HR7.out hBr.out) (cU_get hF)
      have i0_ : (0 : Int) ≤ i := by omega
      have i1_ : (i : Int) < n := by omega
      clear hF hBr5
      go_wp2_with fail
      go_quiet (fail)
      go_wp2_with fail
      go_roundg g'
      case measure => omega
      case rel => exact ⟨i + 1, by go_num, by omega, by omega, ⟨below_drewN hBr.out _⟩⟩
    · obtain rfl : i = n := by omega
      have hdec : decide ((i : Int) < (i : Int)) = false := decide_eq_false (by omega)
      obtain ⟨_, c0, c1, c2, c3, c4, x0, x1, x2, x3, x4⟩ := HQ.out wr hBr5
      have HR5 := Fact.mk hBr5
      clear hBr5
      go_wp2_with (first
        | (go_at_call 20; refine (HSAME.out _ HR5.out).mono ?_; rintro e w8 ⟨rfl, hb8⟩)
        | (go_at_call 10; refine (awake18_true _).mono ?_; rintro e w9 ⟨rfl, hb9⟩))
      go_ret
      have h8 := HR5.out.trans (hb8.mono HR5.out.size)
      exact ⟨rfl, HB5.out.trans ((h8.trans (hb9.mono h8.size)).mono HB5.out.size)⟩
end Go.Proofs.Ytfcmgkakmaclcaa
end

/- A tree that came in, read: whatever can be read as data of the type Tree is a tree that lies in memory. -/
section
set_option linter.unusedVariables false
namespace Go.Proofs.Ytfcmgkakmaclcaa
open Go.Deep (BT add_add)
open Go.RowKit M Go.ChangeShapes Go.WideShapes

theorem cellsI : Try.prog.cellsOf 3 = 1 := by kernel_rfl
theorem cellsS : Try.prog.cellsOf 9 = 1 := by kernel_rfl
theorem cellsA : Try.prog.cellsOf 40 = 2 := by kernel_rfl
theorem cellsT : Try.prog.cellsOf 25 = 5 := by kernel_rfl
theorem cellsAS : Try.prog.cellsOf 22 = 1 := by kernel_rfl
theorem cellsTS : Try.prog.cellsOf 23 = 1 := by kernel_rfl

theorem add_plain (b o i : Nat) : (⟨b, o, none⟩ : Addr).add i = ⟨b, o + i, none⟩ := by
  unfold Addr.add; split
  · next h => subst h; rfl
  · rfl
theorem spot_none {w : World} {a : Addr} {v : Value} (h : w.cell? a = some v) : a = ⟨a.block, a.off, none⟩ := by
  obtain ⟨b, o, s⟩ := a
  cases s with
  | none => rfl
  | some q =>
    exfalso
    unfold World.cell? at h
    dsimp only at h
    split at h
    · simp at h
    · cases h

section
variable {H : Type} {enc : TypeId × Value → H} {w : World} {base : Nat} {spare : Nat → Bool} {held : Bool}

theorem read_attrs {fuel : Nat} {cs : List Value} {x : DataW H × List MemPlace} (h : DataW.trod enc Try.prog w base spare held fuel 22 cs = some x) :
    ∃ v l, cs = [v] ∧ AS (Old w.heap.size) w v l := by
  rcases Go.Deep.open_slice_pairs Try.underlying22 Try.underlying40 cellsA rfl rfl cellsS cellsS h with ⟨rfl, _⟩ | ⟨a, len, cap, m, n, V0, V1, D0, D1, P0, P1, rfl, hb, hl, hm, hmm, hx, hc⟩
  · exact ⟨_, [], rfl, AS.nothing⟩
  · have hlm : len ≤ m := by rw [hmm]; split <;> omega
    have hs : ∀ i, i < len → ∃ q : ByteArray × ByteArray, V0 i = .string q.1 ∧ V1 i = .string q.2 := fun i hi => by
      obtain ⟨_, _, h0, h1⟩ := hc i (by omega)
      obtain ⟨s0, e0, _⟩ := DataW.trod_string Try.underlying9 h0
      obtain ⟨s1, e1, _⟩ := DataW.trod_string Try.underlying9 h1
      exact ⟨(s0, s1), by simpa using e0, by simpa using e1⟩
    refine ⟨_, (List.range len).map (fun i => (match V0 i with | .string s => s | _ => ⟨#[]⟩, match V1 i with | .string s => s | _ => ⟨#[]⟩)), rfl, some a, cap, by simp, by simpa using hl, hm, ?_⟩
    by_cases h0 : len = 0
    · left; subst h0; rfl
    · right
      have c0 := (hc 0 (by omega)).1
      have ea := spot_none (show w.cell? a = _ from c0)
      refine ⟨a.block, a.off, by rw [← ea], World.block_lt_of_cell? w _ c0, fun i hi => ?_⟩
      have hi' : i < len := by simpa using hi
      obtain ⟨d0, d1, _⟩ := hc i (by omega)
      obtain ⟨q, e0, e1⟩ := hs i hi'
      rw [ea, add_plain] at d0 d1
      simp only [List.getElem_map, List.getElem_range, e0, e1]
      rw [e0] at d0
      rw [e1] at d1
      exact ⟨d0, d1⟩

set_option maxRecDepth 20000 in
theorem read_node {fuel : Nat} {cs : List Value} {x : DataW H × List MemPlace} (h : DataW.trod enc Try.prog w base spare held fuel 25 cs = some x) :
    ∃ n K N X v3 v4 y3 y4, fuel = n + 1 ∧ cs = [.int .i64 K, .string N, .string X, v3, v4] ∧ DataW.trod enc Try.prog w base spare held n 22 [v3] = some y3 ∧ DataW.trod enc Try.prog w base spare held n 23 [v4] = some y4 := by
  obtain ⟨xs, n, hk, hxy, hcl, hxl, hf⟩ := DataW.trod_struct Try.underlying25 h
  rw [cellsT] at hcl
  match xs, hxl, cs, hcl with
  | [y0, y1, y2, y3, y4], _, [v0, v1, v2, v3, v4], _ =>
    have g0 := hf 0 _ rfl
    have g1 := hf 1 _ rfl
    have g2 := hf 2 _ rfl
    have g3 := hf 3 _ rfl
    have g4 := hf 4 _ rfl
    simp [cellsI, cellsS, cellsAS, cellsTS] at g0 g1 g2 g3 g4
    obtain ⟨K, e0, _⟩ := DataW.trod_int Try.underlying3 g0
    obtain ⟨N, e1, _⟩ := DataW.trod_string Try.underlying9 g1
    obtain ⟨X, e2, _⟩ := DataW.trod_string Try.underlying9 g2
    simp at e0 e1 e2
    subst e0 e1 e2
    exact ⟨n, K, N, X, v3, v4, y3, y4, hk, rfl, g3, g4⟩

theorem read_kids : ∀ (fuel : Nat) (cs : List Value) (x : DataW H × List MemPlace), DataW.trod enc Try.prog w base spare held fuel 23 cs = some x → ∃ v f, cs = [v] ∧ FL (Old w.heap.size) w v f := by
  intro fuel
  induction fuel using Nat.strongRecOn with
  | _ fuel ih =>
    intro cs x h
    rcases DataW.trod_slice Try.underlying23 h with ⟨rfl, _⟩ | ⟨a, len, cap, elems, rest, n, hn, rfl, hx, hb, hl, hm, hlen, hel, _, _⟩
    · exact ⟨_, .nil, rfl, FL.nothing⟩
    · rw [cellsT] at hel
      have each : ∀ i, i < len → ∃ (d : Nd) (k : M.F) (av : Value) (ka : Option Addr) (kc : Nat), (∀ j v, ([.int .i64 d.k, .string d.n, .string d.x, av, .slice ka k.len kc] : List Value)[j]? = some v → w.cell? (a.add (i * 5 + j)) = some v) ∧ AS (Old w.heap.size) w av d.ats ∧ k.len ≤ kc ∧ kc ≤ maxLen ∧ (k.len = 0 ∨ ∃ b' o', ka = some ⟨b', o', none⟩ ∧ b' < w.heap.size ∧ FAt (Old w.heap.size) w k b' o') := by
        intro i hi
        have hE := hel i hi
        rw [List.getElem?_eq_getElem (by omega)] at hE
        obtain ⟨cs', h1, h2⟩ := Option.bind_eq_some_iff.1 hE
        obtain ⟨_, hcl, hcell⟩ := World.cells?_some h1
        obtain ⟨m, K, N, X, v3, v4, y3, y4, hm2, rfl, g3, g4⟩ := read_node h2
        obtain ⟨va, l, ea, ha⟩ := read_attrs g3
        obtain ⟨vk, f, ek, hk⟩ := ih m (by omega) _ _ g4
        simp at ea ek
        subst ea ek
        obtain ⟨ka, kc, rfl, h3, h4, h5⟩ := hk
        refine ⟨⟨K, N, X, l⟩, f, v3, ka, kc, fun j v hv => ?_, ha, h3, h4, h5⟩
        have hj : j < 5 := by
          have := (List.getElem?_eq_some_iff.1 hv).1
          simpa using this
        have e := hcell j (by simpa using hj)
        rw [add_add] at e
        exact e.trans hv
      by_cases h0 : len = 0
      · subst h0
        exact ⟨_, .nil, rfl, FL.empty hm⟩
      · obtain ⟨d0, k0, av0, ka0, kc0, hc0, _⟩ := each 0 (by omega)
        have c0 := hc0 0 _ rfl
        have ea := spot_none (show w.cell? a = _ from c0)
        have hbl : a.block < w.heap.size := World.block_lt_of_cell? w _ (show w.cell? a = _ from c0)
        have build : ∀ m i, i + m = len → ∃ f : M.F, f.len = m ∧ FAt (Old w.heap.size) w f a.block (a.off + i * 5) := by
          intro m
          induction m with
          | zero => intro i _; exact ⟨.nil, rfl, trivial⟩
          | succ m ihm =>
            intro i hi
            obtain ⟨r, hr1, hr2⟩ := ihm (i + 1) (by omega)
            obtain ⟨d, k, av, ka, kc, hc, ha, h3, h4, h5⟩ := each i (by omega)
            rw [ea] at hc
            simp only [add_plain] at hc
            refine ⟨.cons d k r, by show r.len + 1 = _; rw [hr1], ⟨av, ka, kc, hc 0 _ rfl, hc 1 _ rfl, hc 2 _ rfl, hc 3 _ rfl, hc 4 _ rfl, ha, h3, h4, h5⟩, ?_⟩
            rw [show a.off + i * 5 + 5 = a.off + (i + 1) * 5 by omega]
            exact hr2
        obtain ⟨f, hf1, hf2⟩ := build len 0 (by omega)
        refine ⟨_, f, rfl, some a, cap, by rw [hf1], by rw [hf1]; exact hl, hm, .inr ⟨a.block, a.off, by rw [← ea], hbl, ?_⟩⟩
        rw [Nat.zero_mul, Nat.add_zero] at hf2
        exact hf2

theorem read_tree {v : Value} {d : DataW H} {p : List MemPlace} (hv : ∃ cs : Array Value, v = .agg cs) (h : DataW.Trod enc Try.prog w base spare held 25 v d p) :
    ∃ (n : Nd) (k : M.F) (av kv : Value), v = nodeV n av kv ∧ Lies w.heap.size w n k av kv := by
  obtain ⟨cs, rfl⟩ := hv
  obtain ⟨fuel, hf⟩ := h
  obtain ⟨m, K, N, X, v3, v4, y3, y4, _, e, g3, g4⟩ := read_node hf
  obtain ⟨va, l, ea, ha⟩ := read_attrs g3
  obtain ⟨vk, f, ek, hk⟩ := read_kids m _ _ g4
  simp at ea ek
  subst ea ek
  refine ⟨⟨K, N, X, l⟩, f, v3, v4, ?_, ha, hk⟩
  have e2 : cs.toList = [.int .i64 K, .string N, .string X, v3, v4] := by simpa [Value.cells] using e
  obtain ⟨cl⟩ := cs
  simp at e2
  subst e2
  rfl
end
end Go.Proofs.Ytfcmgkakmaclcaa
end

section
namespace Go.Proofs.Ytfcmgkakmaclcaa.hashAll
open Go.ChangeShapes Go.WideShapes Go.ChangeAt Go.RowKit M
open Go.ChangeMaps (open_string shut_string)
set_option linter.unusedVariables false

theorem own : ownKnob Try.prog.godebug = none := by kernel_rfl
theorem laidOut : laidOutB Try.prog = true := by kernel_rfl

set_option maxRecDepth 100000 in
theorem lifted (os : Os) (started : os.Started) (H : Type) (enc : TypeId × Value → H) :
    ReturnsInHanded {} Try.checked os 3 .any (Rows.hashAllSpec.pre6 enc Try.prog Try.f3 Rows.hashAllRow.domain false) (Rows.hashAllSpec.post enc Try.prog Try.f3 false true false false) := by
  refine returnsInHanded_of_change (C := Try.checked) own started (by kernel_rfl) Try.func3
    (ChangeSpec.witness6 (enc := enc) (C := Try.checked) false ⟨#[], #[.agg #[.int .i64 0, .string ⟨#[]⟩, .string ⟨#[]⟩, .slice none 0 0, .slice none 0 0], .string ⟨#[]⟩], []⟩ 8 (by kernel_rfl) (by kernel_rfl) (by kernel_rfl) (by kernel_rfl)) ?_
  intro W base args ds gs before hval0 hW hcnd _
  have hval : ∀ (j : Nat) t v, Try.f3.params[j]? = some t → args[j]? = some v → Value.okWide Try.prog W .any base t v := hval0
  have hW' := hW
  obtain ⟨p, q, hA0, hV, rfl, hfz, hnd⟩ := hW
  have hA : DataW.TrodAll enc Try.prog W 0 (fun _ => true) true Try.f3.params.toList args.toList ds p := hA0
  rw [Try.params3] at hA hval
  obtain ⟨v0, vs0, d0, ds0, p0, q0, hargs, rfl, rfl, h0, r0⟩ := trodAll_cons hA
  obtain ⟨v1, vs1, d1, ds1, p1, q1, hargs1, rfl, rfl, h1, r1⟩ := trodAll_cons r0
  subst hargs1
  obtain ⟨rfl, rfl, rfl⟩ := trodAll_nil r1
  obtain rfl : args = #[v0, v1] := by cases args; simp_all
  obtain ⟨rfl, rfl⟩ := trodVars_none hV
  obtain ⟨cs0, e0, _⟩ := okWide_struct Try.underlying25 (hval 0 25 v0 rfl rfl)
  have k0 := h0
  have lt0 : ∀ x ∈ p0, x.block < W.heap.size := by obtain ⟨m, hm⟩ := k0; exact DataW.trod_lt m _ _ _ hm
  obtain ⟨n0, f0, av0, kv0, rfl, l0⟩ := read_tree ⟨cs0, e0⟩ h0
  obtain ⟨s1, rfl⟩ := okWide_string Try.underlying9 (hval 1 9 v1 rfl rfl)
  have k1 := h1
  have lt1 : ∀ x ∈ p1, x.block < W.heap.size := by obtain ⟨m, hm⟩ := k1; exact DataW.trod_lt m _ _ _ hm
  clear hA0 hval0
  refine (hashAll_walk n0 f0 av0 kv0 s1 W l0).mono fun e W' ⟨he, bel⟩ => ?_
  subst he
  exact ⟨_, rfl, _, _, _, [], _, [], hW', trodAll_mk1 (shut_bool Try.underlying4 _), (trodAll_cons_mk (Below.trod laidOut (by kernel_rfl) (of_decide_eq_true (by kernel_rfl)) k0 bel lt0) (trodAll_cons_mk (Below.trod laidOut (by kernel_rfl) (of_decide_eq_true (by kernel_rfl)) k1 bel lt1) trodAll_mk0)), rfl, bel.frame _, fun h => by cases h⟩

theorem over : Rows.hashAllRow.holds Try.pinned (OpenSpec.ofChange Rows.hashAllSpec) :=
  OpenClaim.holds_of_wide 3 Try.f3 rfl rfl rfl rfl rfl rfl rfl ⟨rfl, rfl, rfl, rfl, rfl⟩ rfl rfl rfl rfl rfl (by kernel_rfl) Try.func3 (by kernel_rfl)
    (of_decide_eq_true (by kernel_rfl)) (by unfold Func.isWrapper; first | (rw [if_pos (by decide +kernel)]; kernel_rfl) | (rw [if_neg (by decide +kernel)]; exact ⟨rfl, rfl⟩))
    (fun os started H enc _ => lifted os started H enc)

theorem proved : Rows.HashAllSaid := over
end Go.Proofs.Ytfcmgkakmaclcaa.hashAll
namespace Go.Proofs.Ytfcmgkakmaclcaa
/-- the given statement -/
theorem hashAll_holds : Rows.HashAllSaid :=
  hashAll.proved
#print axioms hashAll_holds
end Go.Proofs.Ytfcmgkakmaclcaa
end
