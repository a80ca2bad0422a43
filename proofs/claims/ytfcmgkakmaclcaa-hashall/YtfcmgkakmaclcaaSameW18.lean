/- HashSame, walked: trees that are the same have the same numbers. -/
import Derived.Test.YtfcmgkakmaclcaaHO
import Derived.Test.YtfcmgkakmaclcaaRefCmp
import Derived.Test.YtfcmgkakmaclcaaRnA
set_option linter.unusedVariables false
set_option linter.unusedSimpArgs false
namespace Go.Proofs.Ytfcmgkakmaclcaa.M
open Go.Deep (BT)
open Bt (mx)
theorem ca_zero : ∀ l m : List (ByteArray × ByteArray), ca l m = 0 → l = m
  | [], [], _ => rfl
  | [], _ :: _, h => by simp [ca] at h
  | _ :: _, [], h => by simp [ca] at h
  | p :: l, q :: m, h => by
    have h1 := (orI_zero _ _).1 (show orI (cp p q) (ca l m) = 0 from h)
    rw [(cp_zero p q).1 h1.1, ca_zero l m h1.2]
theorem cn_zero {d e : Nd} (h : cn d e = 0) : d = e := by
  obtain ⟨h1, h2⟩ := (orI_zero _ _).1 (show orI _ _ = 0 from h)
  obtain ⟨h3, h4⟩ := (orI_zero _ _).1 h2
  obtain ⟨h5, h6⟩ := (orI_zero _ _).1 h4
  obtain ⟨K, N, X, A⟩ := d
  obtain ⟨K', N', X', A'⟩ := e
  rw [show K = K' from (ci_zero _ _).1 h1, show N = N' from (cs_zero _ _).1 h3, show X = X' from (cs_zero _ _).1 h5, show A = A' from ca_zero _ _ h6]
/-- lists of trees that are the same have the same numbers -/
theorem cF_same : ∀ f g : F, cF f g = 0 → f.len = g.len ∧ f.size = g.size ∧ f.depth = g.depth ∧ ∀ h, hK h f = hK h g
  | .nil, .nil, _ => ⟨rfl, rfl, rfl, fun _ => rfl⟩
  | .nil, .node _ _ _ _ _, h => by simp [cF] at h
  | .node _ _ _ _ _, .nil, h => by simp [cF] at h
  | .node _ _ d k r, .node _ _ d' k' r', h => by
    obtain ⟨h1, h2⟩ := (orI_zero _ _).1 (show orI _ _ = 0 from h)
    obtain ⟨h3, h4⟩ := (orI_zero _ _).1 h2
    obtain rfl := cn_zero h1
    obtain ⟨a1, a2, a3, a4⟩ := cF_same k k' h3
    obtain ⟨b1, b2, b3, b4⟩ := cF_same r r' h4
    refine ⟨by simp only [BT.len, b1], by simp only [BT.size, a2, b2], by simp only [BT.depth, a3, b3], fun h => ?_⟩
    rw [hK, hK, a1, a4, b4]
theorem cT_same {d d' : Nd} {k k' : F} (h : cT d k d' k' = 0) : hT d k = hT d' k' ∧ k.size = k'.size ∧ k.depth = k'.depth := by
  obtain ⟨h1, h2⟩ := (orI_zero _ _).1 (show orI _ _ = 0 from h)
  obtain rfl := cn_zero h1
  obtain ⟨a1, a2, a3, a4⟩ := cF_same k k' h2
  exact ⟨by unfold hT; rw [a1, a4], a2, a3⟩
end Go.Proofs.Ytfcmgkakmaclcaa.M
namespace Go.Proofs.Ytfcmgkakmaclcaa
open Go.Deep (BT)
open Go.RowKit Go.Shelf M
open Bt (mx IsU mx_u ret_int)

/-- what stays while two boxed trees are looked at -/
theorem duo_keep {w W w' : World} {xs ys : Array Value} (hb : Below W.heap.size W w')
    (h : Below w.heap.size w W ∧ w.heap.size + 2 ≤ W.heap.size ∧ (∀ i, W.cell? ⟨w.heap.size, i, none⟩ = xs[i]?) ∧ (∀ i, W.cell? ⟨w.heap.size + 1, i, none⟩ = ys[i]?)) :
    Below w.heap.size w w' ∧ w.heap.size + 2 ≤ w'.heap.size ∧ (∀ i, w'.cell? ⟨w.heap.size, i, none⟩ = xs[i]?) ∧ (∀ i, w'.cell? ⟨w.heap.size + 1, i, none⟩ = ys[i]?) := by
  obtain ⟨h1, h2, h4, h5⟩ := h
  have hs := hb.size
  refine ⟨h1.trans (hb.mono (by omega)), by omega, fun i => ?_, fun i => ?_⟩
  · rw [hb.cell (p := ⟨w.heap.size, i, none⟩) (by show w.heap.size < _; omega)]; exact h4 i
  · rw [hb.cell (p := ⟨w.heap.size + 1, i, none⟩) (by show w.heap.size + 1 < _; omega)]; exact h5 i
theorem duo_start (w : World) (xs ys : Array Value) (t : TypeId) :
    Below w.heap.size w ((w.alloc (.cells xs t)).alloc (.cells ys t)) ∧ w.heap.size + 2 ≤ ((w.alloc (.cells xs t)).alloc (.cells ys t)).heap.size ∧ (∀ i, ((w.alloc (.cells xs t)).alloc (.cells ys t)).cell? ⟨w.heap.size, i, none⟩ = xs[i]?) ∧ (∀ i, ((w.alloc (.cells xs t)).alloc (.cells ys t)).cell? ⟨w.heap.size + 1, i, none⟩ = ys[i]?) := by
  refine ⟨((Below.refl _ w).alloc (Nat.le_refl _) _).alloc (by simp) _, by simp, fun i => ?_, fun i => ?_⟩
  · rw [World.cell?_alloc_past _ _ _ (by simp), World.cell?_alloc_at _ _ _ _ rfl]
  · rw [World.cell?_alloc_at _ _ _ _ (by simp)]
theorem rsame_l {P : Prop} {w W : World} {K K' : Int} {N X N' X' : ByteArray} {A A' : List (ByteArray × ByteArray)} {k k' : M.F} {va ka vb kb : Value} (r : Bool) (hr : Fact (decide (cT ⟨K, N, X, A⟩ k ⟨K', N', X', A'⟩ k' = 0) = r)) (ha : Lies w.heap.size w ⟨K, N, X, A⟩ k va ka) (hb : Lies w.heap.size w ⟨K', N', X', A'⟩ k' vb kb) (h : Below w.heap.size w W ∧ P) :
    Calls Try.prog 20 #[.agg #[.int .i64 K, .string N, .string X, va, ka], .agg #[.int .i64 K', .string N', .string X', vb, kb]] W fun e w' => e = .returned (.bool r) ∧ Below W.heap.size W w' :=
  rsame_at (n := w.heap.size) (w := W) (d := ⟨K, N, X, A⟩) (d' := ⟨K', N', X', A'⟩) (k := k) (k' := k') (va := va) (vb := vb) (ka := ka) (kb := kb) r hr (ha.below h.1) (hb.below h.1) h.1.size
/-- a copy is the same tree, in memory of its own -/
theorem copy_l {P : Prop} {w W : World} {K : Int} {N X : ByteArray} {A : List (ByteArray × ByteArray)} {k : M.F} {va ka : Value} {kl : Nat} (hkl : k.len = kl) (ha : Lies w.heap.size w ⟨K, N, X, A⟩ k va ka) (f : Fits 0 0 ⟨K, N, X, A⟩ k) (h : Below w.heap.size w W ∧ P) :
    Calls Try.prog 11 #[.agg #[.int .i64 K, .string N, .string X, va, ka]] W fun e w' => ∃ y1 y2 y3 z1 z3, e = .returned (.agg #[.int .i64 K, .string N, .string X, .slice y1 y2 y3, .slice z1 kl z3]) ∧ Below W.heap.size W w' ∧
      Fact (Lies w'.heap.size w' ⟨K, N, X, A⟩ k (.slice y1 y2 y3) (.slice z1 kl z3)) := by
  have f1 := f.size
  have f2 := f.slots
  dsimp only at f2
  refine (copy_any k ⟨K, N, X, A⟩ va ka w.heap.size W (ha.below h.1) h.1.size (by dsimp only; omega) (by omega)).mono ?_
  rintro e w' ⟨av', kv', rfl, hb, hA, hF⟩
  obtain ⟨y1, y2, y3, rfl⟩ := hA.val
  obtain ⟨z1, z3, rfl⟩ := hF.val
  rw [hkl] at hF ⊢
  exact ⟨y1, y2, y3, z1, z3, rfl, hb, ⟨⟨hA.inn.mono (fun b hb => hb.2), hF.inn.mono (fun b hb => hb.2)⟩⟩⟩
theorem of_l {P : Prop} {w W : World} {K : Int} {N X : ByteArray} {A : List (ByteArray × ByteArray)} {k : M.F} {va ka : Value} {H : Int} (hH : Fact (hT ⟨K, N, X, A⟩ k = H)) (ha : Lies w.heap.size w ⟨K, N, X, A⟩ k va ka) (f : Fits 0 0 ⟨K, N, X, A⟩ k) (h : Below w.heap.size w W ∧ P) :
    Calls Try.prog 16 #[.agg #[.int .i64 K, .string N, .string X, va, ka]] W fun e w' => e = .returned (.int .u64 H) ∧ Below W.heap.size W w' := by
  rw [← hH.out]
  exact hof_any ⟨K, N, X, A⟩ k va ka W f.lim ((ha.below h.1).here h.1.size)
theorem key_l {P : Prop} {w W : World} {K : Int} {N X : ByteArray} {A : List (ByteArray × ByteArray)} {k : M.F} {va ka : Value} {H Z : Int} (hH : Fact (hT ⟨K, N, X, A⟩ k = H)) (hZ : Fact (ks k = Z)) (ha : Lies w.heap.size w ⟨K, N, X, A⟩ k va ka) (f : Fits 0 0 ⟨K, N, X, A⟩ k) (h : Below w.heap.size w W ∧ P) :
    Calls Try.prog 18 #[.agg #[.int .i64 K, .string N, .string X, va, ka]] W fun e w' => e = .returned (.agg #[.int .u64 H, .int .u64 Z]) ∧ Below W.heap.size W w' := by
  rw [← hH.out, ← hZ.out]
  exact hkey_any ⟨K, N, X, A⟩ k va ka W f.lim ((ha.below h.1).here h.1.size)
theorem of_c {W : World} {K : Int} {N X : ByteArray} {A : List (ByteArray × ByteArray)} {k : M.F} {va ka : Value} {H : Int} (hH : Fact (hT ⟨K, N, X, A⟩ k = H)) (ha : Fact (Lies W.heap.size W ⟨K, N, X, A⟩ k va ka)) (f : Fits 0 0 ⟨K, N, X, A⟩ k) :
    Calls Try.prog 16 #[.agg #[.int .i64 K, .string N, .string X, va, ka]] W fun e w' => e = .returned (.int .u64 H) ∧ Below W.heap.size W w' := by
  rw [← hH.out]
  exact hof_any ⟨K, N, X, A⟩ k va ka W f.lim ha.out
theorem infoU64' : (Try.prog.info? 32).map (·.size) = some 1 := by kernel_rfl
theorem eqTwo (D Z : Int) (w : World) : (Op.equalIn 10000 35 (.agg #[.int .u64 D, .int .u64 Z]) (.agg #[.int .u64 D, .int .u64 Z])).run Try.prog w = .ok true w := by
  have hq := infoU64'
  cases hi : Try.prog.info? 32 with
  | none => rw [hi] at hq; cases hq
  | some i =>
    rw [hi] at hq
    simp at hq
    have e : ∀ (a b : Int) (w : World), (Op.equalIn 9999 32 (.int .u64 a) (.int .u64 b)).run Try.prog w = .ok (a == b) w := fun a b w => run_equalIn_int w 9998 32 .u64 .u64 a b Try.underlying32
    show (Op.equalIn (9999 + 1) 35 _ _).run Try.prog w = _
    rw [Op.equalIn]
    simp [run_underlying Try.underlying35, sizeOf, typeInfo, hi, hq, List.range', part, e, Result.andThen]
theorem awake_l {P : Prop} {w W : World} (h : Below w.heap.size w W ∧ P) :
    Calls Try.prog 10 #[] W fun e w' => e = .returned (.bool true) ∧ Below W.heap.size W w' := awake18_true W

set_option maxRecDepth 20000 in
set_option maxHeartbeats 8000000 in
theorem hashSame_walk (d1 : Nd) (k1 : M.F) (va1 ka1 : Value) (d2 : Nd) (k2 : M.F) (va2 ka2 : Value) (w : World) (h1 : Lies w.heap.size w d1 k1 va1 ka1) (h2 : Lies w.heap.size w d2 k2 va2 ka2) :
    Calls Try.prog 4 #[nodeV d1 va1 ka1, nodeV d2 va2 ka2] w fun e w' => e = .returned (.bool true) ∧ Below w.heap.size w w' := by
  obtain ⟨p1, p2, p3, e1⟩ := h1.a.val
  obtain ⟨p4, p5, p6, e2⟩ := h2.a.val
  obtain ⟨q1, q2, e4⟩ := h1.f.val
  obtain ⟨q3, q4, e5⟩ := h2.f.val
  subst e1 e2 e4 e5
  obtain ⟨l1, hl1⟩ : ∃ l1, k1.len = l1 := ⟨_, rfl⟩
  obtain ⟨l2, hl2⟩ : ∃ l2, k2.len = l2 := ⟨_, rfl⟩
  rw [hl1] at h1 ⊢
  rw [hl2] at h2 ⊢
  have HL1 := Fact.mk hl1
  clear hl1 hl2
  obtain ⟨K1, N1, X1, A1⟩ := d1
  obtain ⟨K2, N2, X2, A2⟩ := d2
  have H1 := Fact.mk h1
  have H2 := Fact.mk h2
  clear h1 h2
  have hst := duo_start w #[.int .i64 K1, .string N1, .string X1, .slice p1 p2 p3, .slice q1 l1 q2] #[.int .i64 K2, .string N2, .string X2, .slice p4 p5 p6, .slice q3 l2 q4] 25
  obtain ⟨W0, hW0⟩ : ∃ W0, (w.alloc (.cells #[.int .i64 K1, .string N1, .string X1, .slice p1 p2 p3, .slice q1 l1 q2] 25)).alloc (.cells #[.int .i64 K2, .string N2, .string X2, .slice p4 p5 p6, .slice q3 l2 q4] 25) = W0 := ⟨_, rfl⟩
  rw [hW0] at hst
  obtain ⟨s1, s2, s3, s4⟩ := id hst
  have HST := Fact.mk hst
  clear hst
  go_enter Try.func4, Try.ntmps4
  go_wp2_with fail
  refine (Small_any ⟨K1, N1, X1, A1⟩ k1 _ _ w.heap.size W0 (H1.out.below HST.out.1) HST.out.1.size).mono ?_
  rintro e w1 (⟨rfl, hb1⟩ | ⟨rfl, hb1, f1⟩)
  · go_wp2_with (go_at_call 10; refine (awake_l ⟨s1.trans (hb1.mono s1.size), trivial⟩).mono ?_; rintro e w9 ⟨rfl, hb9⟩)
    go_ret
    exact ⟨rfl, s1.trans ((hb1.mono s1.size).trans (hb9.mono (Nat.le_trans s1.size hb1.size)))⟩
  have hst1 := duo_keep hb1 HST.out
  clear s1 s2 s3 s4 hW0 hb1
  obtain ⟨s1, s2, s3, s4⟩ := id hst1
  have HST1 := Fact.mk hst1
  clear hst1
  go_wp2_with fail
  refine (Small_any ⟨K2, N2, X2, A2⟩ k2 _ _ w.heap.size w1 (H2.out.below HST1.out.1) HST1.out.1.size).mono ?_
  rintro e w2 (⟨rfl, hb2⟩ | ⟨rfl, hb2, f2⟩)
  · go_wp2_with (go_at_call 10; refine (awake_l ⟨s1.trans (hb2.mono s1.size), trivial⟩).mono ?_; rintro e w9 ⟨rfl, hb9⟩)
    go_ret
    exact ⟨rfl, s1.trans ((hb2.mono s1.size).trans (hb9.mono (Nat.le_trans s1.size hb2.size)))⟩
  have hst2 := duo_keep hb2.drew HST1.out
  clear s1 s2 s3 s4
  clear hb2
  obtain ⟨r, hr⟩ : ∃ r, decide (cT ⟨K1, N1, X1, A1⟩ k1 ⟨K2, N2, X2, A2⟩ k2 = 0) = r := ⟨_, rfl⟩
  obtain ⟨D1, hD1⟩ : ∃ D1, hT ⟨K1, N1, X1, A1⟩ k1 = D1 := ⟨_, rfl⟩
  obtain ⟨D2, hD2⟩ : ∃ D2, hT ⟨K2, N2, X2, A2⟩ k2 = D2 := ⟨_, rfl⟩
  obtain ⟨Z1, hZ1⟩ : ∃ Z1, ks k1 = Z1 := ⟨_, rfl⟩
  obtain ⟨Z2, hZ2⟩ : ∃ Z2, ks k2 = Z2 := ⟨_, rfl⟩
  have HR := Fact.mk hr
  have HD1 := Fact.mk hD1
  have HD2 := Fact.mk hD2
  have HZ1 := Fact.mk hZ1
  have HZ2 := Fact.mk hZ2
  have hS0 := Fact.mk hst2
  have h11 : (D1 == D1) = true := beq_self_eq_true _
  clear hst2 hD1 hD2 hZ1 hZ2
  go_wp2_with fail
  have hS0 := hS0.out
  cases r
  · clear hr
    refine wp_region_held_drew (S := (fun w' => Below w.heap.size w w' ∧ w.heap.size + 2 ≤ w'.heap.size ∧ (∀ i, w'.cell? ⟨w.heap.size, i, none⟩ = (#[.int .i64 K1, .string N1, .string X1, .slice p1 p2 p3, .slice q1 l1 q2] : Array Value)[i]?) ∧ (∀ i, w'.cell? ⟨w.heap.size + 1, i, none⟩ = (#[.int .i64 K2, .string N2, .string X2, .slice p4 p5 p6, .slice q3 l2 q4] : Array Value)[i]?))) (by kernel_rfl) hS0 (fun _ => ?_)
    refine wpAnyH_take (i := 0) (v := ?v0n1) rfl (by kernel_rfl) (by kernel_rfl) (by kernel_rfl) (fun _ _ _ h => h) (Or.inl ⟨by rfl, ?hy0n1⟩) hS0 ?rr0n1
    case hy0n1 =>
      intro w hSw
      go_simp
      try with_reducible rfl
    try simp only [Act.put, List.getElem_toArray, List.getElem_cons_succ, List.getElem_cons_zero, List.setIfInBounds_toArray, List.set_cons_zero, List.set_cons_succ]
    refine wpAnyH_take (i := 3) (v := ?v3n2) rfl (by kernel_rfl) (by kernel_rfl) (by kernel_rfl) (fun _ _ _ h => h) (Or.inl ⟨by rfl, ?hy3n2⟩) hS0 ?rr3n2
    case hy3n2 =>
      intro w hSw
      go_simp
      try with_reducible rfl
    try simp only [Act.put, List.getElem_toArray, List.getElem_cons_succ, List.getElem_cons_zero, List.setIfInBounds_toArray, List.set_cons_zero, List.set_cons_succ]
    refine wpAnyH_ready (rs := [1]) (by kernel_rfl) (by simp) ?_
    refine AllReadyH.cons rfl (fun K hK => ?_) AllReadyH.nil
    go_simp
    refine (copy_l HL1.out H1.out f1.out hS0).mono ?_
    rintro e w3 ⟨y1, y2, y3, z1, z3, rfl, hb3, ht3⟩
    have hS3 := duo_keep hb3 hS0
    refine hK.out _ _ hS3 (fun _ => ?_)
    clear hK K hb3
    refine wpAnyH_ready (rs := [2]) (by kernel_rfl) (by simp) ?_
    refine AllReadyH.cons rfl (fun K hK => ?_) AllReadyH.nil
    go_simp
    refine (of_c HD1 ht3 f1.out).mono ?_
    rintro e w4 ⟨rfl, hb4⟩
    have hS4 := duo_keep hb4 hS3
    refine hK.out _ _ hS4 (fun _ => ?_)
    clear hK K hb4
    refine wpAnyH_ready (rs := [4]) (by kernel_rfl) (by simp) ?_
    refine AllReadyH.cons rfl (fun K hK => ?_) AllReadyH.nil
    go_simp
    refine (of_l HD1 H1.out f1.out hS4).mono ?_
    rintro e w5 ⟨rfl, hb5⟩
    have hS5 := duo_keep hb5 hS4
    refine hK.out _ _ hS5 (fun _ => ?_)
    clear hK K hb5
    refine wpAnyH_take (i := 5) (v := ?v5n3) rfl (by kernel_rfl) (by kernel_rfl) (by kernel_rfl) (fun _ _ _ h => h) (Or.inl ⟨by rfl, ?hy5n3⟩) hS5 ?rr5n3
    case hy5n3 =>
      intro w hSw
      go_simp
      try with_reducible rfl
    try simp only [Act.put, List.getElem_toArray, List.getElem_cons_succ, List.getElem_cons_zero, List.setIfInBounds_toArray, List.set_cons_zero, List.set_cons_succ]
    refine wpAnyH_take (i := 6) (v := ?v6n4) rfl (by kernel_rfl) (by kernel_rfl) (by kernel_rfl) (fun _ _ _ h => h) (Or.inl ⟨by rfl, ?hy6n4⟩) hS5 ?rr6n4
    case hy6n4 =>
      intro w hSw
      go_simp
      try with_reducible rfl
    try simp only [Act.put, List.getElem_toArray, List.getElem_cons_succ, List.getElem_cons_zero, List.setIfInBounds_toArray, List.set_cons_zero, List.set_cons_succ]
    refine wpAnyH_take (i := 7) (v := ?v7n5) rfl (by kernel_rfl) (by kernel_rfl) (by kernel_rfl) (fun _ _ _ h => h) (Or.inl ⟨by rfl, ?hy7n5⟩) hS5 ?rr7n5
    case hy7n5 =>
      intro w hSw
      go_simp
      try with_reducible rfl
    try simp only [Act.put, List.getElem_toArray, List.getElem_cons_succ, List.getElem_cons_zero, List.setIfInBounds_toArray, List.set_cons_zero, List.set_cons_succ]
    refine wpAnyH_take (i := 8) (v := ?v8n6) rfl (by kernel_rfl) (by kernel_rfl) (by kernel_rfl) (fun _ _ _ h => h) (Or.inl ⟨by rfl, ?hy8n6⟩) hS5 ?rr8n6
    case hy8n6 =>
      intro w hSw
      go_simp
      try with_reducible rfl
    try simp only [Act.put, List.getElem_toArray, List.getElem_cons_succ, List.getElem_cons_zero, List.setIfInBounds_toArray, List.set_cons_zero, List.set_cons_succ]
    refine wpAnyH_ready (rs := [9]) (by kernel_rfl) (by simp) ?_
    refine AllReadyH.cons rfl (fun K hK => ?_) AllReadyH.nil
    go_simp
    refine (rsame_l false HR H1.out H2.out hS5).mono ?_
    rintro e w6 ⟨rfl, hb6⟩
    have hS6 := duo_keep hb6 hS5
    refine hK.out _ _ hS6 (fun _ => ?_)
    clear hK K hb6
    refine wpAnyH_take (i := 10) (v := ?v10n7) rfl (by kernel_rfl) (by kernel_rfl) (by kernel_rfl) (fun _ _ _ h => h) (Or.inl ⟨by rfl, ?hy10n7⟩) hS6 ?rr10n7
    case hy10n7 =>
      intro w hSw
      go_simp
      try with_reducible rfl
    try simp only [Act.put, List.getElem_toArray, List.getElem_cons_succ, List.getElem_cons_zero, List.setIfInBounds_toArray, List.set_cons_zero, List.set_cons_succ]
    refine wpAnyH_take (i := 11) (v := ?v11n8) rfl (by kernel_rfl) (by kernel_rfl) (by kernel_rfl) (fun _ _ _ h => h) (Or.inl ⟨by rfl, ?hy11n8⟩) hS6 ?rr11n8
    case hy11n8 =>
      intro w hSw
      go_simp
      try with_reducible rfl
    try simp only [Act.put, List.getElem_toArray, List.getElem_cons_succ, List.getElem_cons_zero, List.setIfInBounds_toArray, List.set_cons_zero, List.set_cons_succ]
    refine wpAnyH_take (i := 12) (v := undef) rfl (by kernel_rfl) (by kernel_rfl) (by kernel_rfl) (fun _ _ _ h => h) (Or.inr ⟨by rfl, rfl⟩) hS6 ?_
    try simp only [Act.put, List.getElem_toArray, List.getElem_cons_succ, List.getElem_cons_zero, List.setIfInBounds_toArray, List.set_cons_zero, List.set_cons_succ]
    refine wpAnyH_take (i := 13) (v := undef) rfl (by kernel_rfl) (by kernel_rfl) (by kernel_rfl) (fun _ _ _ h => h) (Or.inr ⟨by rfl, rfl⟩) hS6 ?_
    try simp only [Act.put, List.getElem_toArray, List.getElem_cons_succ, List.getElem_cons_zero, List.setIfInBounds_toArray, List.set_cons_zero, List.set_cons_succ]
    refine wpAnyH_take (i := 14) (v := undef) rfl (by kernel_rfl) (by kernel_rfl) (by kernel_rfl) (fun _ _ _ h => h) (Or.inr ⟨by rfl, rfl⟩) hS6 ?_
    try simp only [Act.put, List.getElem_toArray, List.getElem_cons_succ, List.getElem_cons_zero, List.setIfInBounds_toArray, List.set_cons_zero, List.set_cons_succ]
    refine wpAnyH_take (i := 15) (v := undef) rfl (by kernel_rfl) (by kernel_rfl) (by kernel_rfl) (fun _ _ _ h => h) (Or.inr ⟨by rfl, rfl⟩) hS6 ?_
    try simp only [Act.put, List.getElem_toArray, List.getElem_cons_succ, List.getElem_cons_zero, List.setIfInBounds_toArray, List.set_cons_zero, List.set_cons_succ]
    refine wpAnyH_take (i := 16) (v := undef) rfl (by kernel_rfl) (by kernel_rfl) (by kernel_rfl) (fun _ _ _ h => h) (Or.inr ⟨by rfl, rfl⟩) hS6 ?_
    try simp only [Act.put, List.getElem_toArray, List.getElem_cons_succ, List.getElem_cons_zero, List.setIfInBounds_toArray, List.set_cons_zero, List.set_cons_succ]
    refine wpAnyH_take (i := 17) (v := ?v17n9) rfl (by kernel_rfl) (by kernel_rfl) (by kernel_rfl) (fun _ _ _ h => h) (Or.inl ⟨by rfl, ?hy17n9⟩) hS6 ?rr17n9
    case hy17n9 =>
      intro w hSw
      go_simp
      try with_reducible rfl
    try simp only [Act.put, List.getElem_toArray, List.getElem_cons_succ, List.getElem_cons_zero, List.setIfInBounds_toArray, List.set_cons_zero, List.set_cons_succ]
    refine wpAnyH_take (i := 18) (v := ?v18n10) rfl (by kernel_rfl) (by kernel_rfl) (by kernel_rfl) (fun _ _ _ h => h) (Or.inl ⟨by rfl, ?hy18n10⟩) hS6 ?rr18n10
    case hy18n10 =>
      intro w hSw
      go_simp
      try with_reducible rfl
    try simp only [Act.put, List.getElem_toArray, List.getElem_cons_succ, List.getElem_cons_zero, List.setIfInBounds_toArray, List.set_cons_zero, List.set_cons_succ]
    refine wpAnyH_take (i := 19) (v := ?v19n11) rfl (by kernel_rfl) (by kernel_rfl) (by kernel_rfl) (fun _ _ _ h => h) (Or.inl ⟨by rfl, ?hy19n11⟩) hS6 ?rr19n11
    case hy19n11 =>
      intro w hSw
      go_simp
      try with_reducible rfl
    try simp only [Act.put, List.getElem_toArray, List.getElem_cons_succ, List.getElem_cons_zero, List.setIfInBounds_toArray, List.set_cons_zero, List.set_cons_succ]
    refine wpAnyH_ready (rs := [20]) (by kernel_rfl) (by simp) ?_
    refine AllReadyH.cons rfl (fun K hK => ?_) AllReadyH.nil
    go_simp
    refine (awake_l hS6).mono ?_
    rintro e w9 ⟨rfl, hb9⟩
    have hS9 := duo_keep hb9 hS6
    refine hK.out _ _ hS9 (fun _ => ?_)
    clear hK K hb9
    refine wpAnyH_take (i := 21) (v := ?v21n12) rfl (by kernel_rfl) (by kernel_rfl) (by kernel_rfl) (fun _ _ _ h => h) (Or.inl ⟨by rfl, ?hy21n12⟩) hS9 ?rr21n12
    case hy21n12 =>
      intro w hSw
      go_simp
      try with_reducible rfl
    try simp only [Act.put, List.getElem_toArray, List.getElem_cons_succ, List.getElem_cons_zero, List.setIfInBounds_toArray, List.set_cons_zero, List.set_cons_succ]
    refine wpAnyH_take (i := 22) (v := ?v22n13) rfl (by kernel_rfl) (by kernel_rfl) (by kernel_rfl) (fun _ _ _ h => h) (Or.inl ⟨by rfl, ?hy22n13⟩) hS9 ?rr22n13
    case hy22n13 =>
      intro w hSw
      go_simp
      try with_reducible rfl
    try simp only [Act.put, List.getElem_toArray, List.getElem_cons_succ, List.getElem_cons_zero, List.setIfInBounds_toArray, List.set_cons_zero, List.set_cons_succ]
    refine wpAnyH_done (by kernel_rfl) ?_ _
    go_wp2_with fail
    go_ret
    exact ⟨rfl, hS9.1⟩
  · have hs := cT_same (of_decide_eq_true hr)
    have hTT : D1 = D2 := by rw [← HD1.out, ← HD2.out]; exact hs.1
    have hZZ : Z1 = Z2 := by rw [← HZ1.out, ← HZ2.out]; unfold ks; rw [hs.2.1, hs.2.2]
    subst hTT hZZ
    have hEq := eqTwo D1 Z1
    clear hr hs
    go_region_held3 (fun w' => Below w.heap.size w w' ∧ w.heap.size + 2 ≤ w'.heap.size ∧ (∀ i, w'.cell? ⟨w.heap.size, i, none⟩ = (#[.int .i64 K1, .string N1, .string X1, .slice p1 p2 p3, .slice q1 l1 q2] : Array Value)[i]?) ∧ (∀ i, w'.cell? ⟨w.heap.size + 1, i, none⟩ = (#[.int .i64 K2, .string N2, .string X2, .slice p4 p5 p6, .slice q3 l2 q4] : Array Value)[i]?))
      (first | with_reducible exact hS0 | with_reducible assumption)
      (first
        | (go_at_call 11; with_reducible refine (copy_l HL1.out H1.out f1.out hS0).mono ?_; rintro e w3 ⟨y1, y2, y3, z1, z3, rfl, hb3, ht3⟩; have hS3 := duo_keep hb3 hS0; clear hb3)
        | (go_at_call 16; with_reducible refine (of_c HD1 ht3 f1.out).mono ?_; rintro e w4 ⟨rfl, hb4⟩; have hS4 := duo_keep hb4 hS3; clear hb4)
        | (go_at_call 16; with_reducible refine (of_l HD1 H1.out f1.out hS4).mono ?_; rintro e w5 ⟨rfl, hb5⟩; have hS5 := duo_keep hb5 hS4; clear hb5)
        | (go_at_call 20; with_reducible refine (rsame_l true HR H1.out H2.out hS5).mono ?_; rintro e w6 ⟨rfl, hb6⟩; have hS6 := duo_keep hb6 hS5; clear hb6)
        | (go_at_call 18; with_reducible refine (key_l HD1 HZ1 H1.out f1.out hS6).mono ?_; rintro e w7 ⟨rfl, hb7⟩; have hS7 := duo_keep hb7 hS6; clear hb7)
        | (go_at_call 18; with_reducible refine (key_l HD2 HZ2 H2.out f2.out hS7).mono ?_; rintro e w8 ⟨rfl, hb8⟩; have hS8 := duo_keep hb8 hS7; clear hb8)
        | (go_at_call 10; with_reducible refine (awake_l hS8).mono ?_; rintro e w9 ⟨rfl, hb9⟩; have hS9 := duo_keep hb9 hS8; clear hb9))
    go_wp2_with fail
    go_ret
    exact ⟨rfl, hS9.1⟩
end Go.Proofs.Ytfcmgkakmaclcaa
