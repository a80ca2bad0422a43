/- SerialSame, walked: trees that are the same have the same source; a copy has it, too. -/
import Derived.Test.YtibagbnnplpfgaaDoorSm
set_option linter.unusedVariables false
set_option linter.unusedSimpArgs false
namespace Go.Proofs.YtibagbnnplpfgaaDoor
open Go.Deep (BT)
open Go.RowKit M

/-- what stays while two boxed trees are looked at -/
theorem duo_keep {w W w' : World} {xs ys : Array Value} (hb : Below W.heap.size W w')
    (h : Below w.heap.size w W ∧ w.heap.size + 2 ≤ W.heap.size ∧ (∀ i, W.cell? ⟨w.heap.size, i, none⟩ = xs[i]?) ∧ (∀ i, W.cell? ⟨w.heap.size + 1, i, none⟩ = ys[i]?)) :
    Below w.heap.size w w' ∧ w.heap.size + 2 ≤ w'.heap.size ∧ (∀ i, w'.cell? ⟨w.heap.size, i, none⟩ = xs[i]?) ∧ (∀ i, w'.cell? ⟨w.heap.size + 1, i, none⟩ = ys[i]?) := by
  obtain ⟨h1, h2, h4, h5⟩ := h
  have hs := hb.size
  refine ⟨h1.trans (hb.mono (by omega)), by omega, fun i => ?_, fun i => ?_⟩
  · rw [hb.cell (p := ⟨w.heap.size, i, none⟩) (by show w.heap.size < _; omega)]; exact h4 i
  · rw [hb.cell (p := ⟨w.heap.size + 1, i, none⟩) (by show w.heap.size + 1 < _; omega)]; exact h5 i
theorem duo_start (w : World) (xs ys : Array Value) (t : TypeId) :
    Below w.heap.size w ((w.alloc (.cells xs t)).alloc (.cells ys t)) ∧ w.heap.size + 2 ≤ ((w.alloc (.cells xs t)).alloc (.cells ys t)).heap.size ∧ (∀ i, ((w.alloc (.cells xs t)).alloc (.cells ys t)).cell? ⟨w.heap.size, i, none⟩ = xs[i]?) ∧ (∀ i, ((w.alloc (.cells xs t)).alloc (.cells ys t)).cell? ⟨w.heap.size + 1, i, none⟩ = ys[i]?) := by
  refine ⟨((Below.refl _ w).alloc (Nat.le_refl _) _).alloc (by simp) _, by simp, fun i => ?_, fun i => ?_⟩
  · rw [World.cell?_alloc_past _ _ _ (by simp), World.cell?_alloc_at _ _ _ _ rfl]
  · rw [World.cell?_alloc_at _ _ _ _ (by simp)]

set_option maxRecDepth 20000 in
set_option maxHeartbeats 8000000 in
theorem same_walk (d1 : Nd) (k1 : M.F) (va1 ka1 : Value) (d2 : Nd) (k2 : M.F) (va2 ka2 : Value) (w : World) (h1 : Lies w.heap.size w d1 k1 va1 ka1) (h2 : Lies w.heap.size w d2 k2 va2 ka2) (hm : Met w) :
    Calls Tryd.prog 6 #[nodeV d1 va1 ka1, nodeV d2 va2 ka2] w fun e w' => e = .returned (.bool true) ∧ Below w.heap.size w w' := by
  obtain ⟨p1, p2, p3, e1⟩ := h1.a.val
  obtain ⟨p4, p5, p6, e2⟩ := h2.a.val
  obtain ⟨q1, q2, e4⟩ := h1.f.val
  obtain ⟨q3, q4, e5⟩ := h2.f.val
  subst e1 e2 e4 e5
  obtain ⟨l1, hl1⟩ : ∃ l1, k1.len = l1 := ⟨_, rfl⟩
  obtain ⟨l2, hl2⟩ : ∃ l2, k2.len = l2 := ⟨_, rfl⟩
  rw [hl1] at h1 ⊢
  rw [hl2] at h2 ⊢
  have HL1 := Fact.mk hl1
  clear hl1 hl2
  obtain ⟨K1, N1, X1, A1⟩ := d1
  obtain ⟨K2, N2, X2, A2⟩ := d2
  have H1 := Fact.mk h1
  have H2 := Fact.mk h2
  have HM := Fact.mk hm
  clear h1 h2 hm
  have hst := duo_start w #[.int .i64 K1, .string N1, .string X1, .slice p1 p2 p3, .slice q1 l1 q2] #[.int .i64 K2, .string N2, .string X2, .slice p4 p5 p6, .slice q3 l2 q4] 25
  obtain ⟨W0, hW0⟩ : ∃ W0, (w.alloc (.cells #[.int .i64 K1, .string N1, .string X1, .slice p1 p2 p3, .slice q1 l1 q2] 25)).alloc (.cells #[.int .i64 K2, .string N2, .string X2, .slice p4 p5 p6, .slice q3 l2 q4] 25) = W0 := ⟨_, rfl⟩
  rw [hW0] at hst
  obtain ⟨s1, s2, s3, s4⟩ := id hst
  have HST := Fact.mk hst
  clear hst
  go_enter Tryd.func6, Tryd.ntmps6
  go_wp2_with fail
  refine (SmallA_any ⟨K1, N1, X1, A1⟩ k1 _ _ w.heap.size W0 (H1.out.below HST.out.1) HST.out.1.size).mono ?_
  rintro e w1 (⟨rfl, hb1⟩ | ⟨rfl, hb1, f1⟩)
  · go_wp2_with (go_at_call 10; refine (awake_l HM.out ⟨s1.trans (hb1.mono s1.size), trivial⟩).mono ?_; rintro e w9 ⟨rfl, hb9⟩)
    go_ret
    exact ⟨rfl, s1.trans ((hb1.mono s1.size).trans (hb9.mono (Nat.le_trans s1.size hb1.size)))⟩
  have hst1 := duo_keep hb1 HST.out
  clear s1 s2 s3 s4 hW0 hb1
  obtain ⟨s1, s2, s3, s4⟩ := id hst1
  have HST1 := Fact.mk hst1
  clear hst1
  go_wp2_with fail
  refine (SmallA_any ⟨K2, N2, X2, A2⟩ k2 _ _ w.heap.size w1 (H2.out.below HST1.out.1) HST1.out.1.size).mono ?_
  rintro e w2 (⟨rfl, hb2⟩ | ⟨rfl, hb2, f2⟩)
  · go_wp2_with (go_at_call 10; refine (awake_l HM.out ⟨s1.trans (hb2.mono s1.size), trivial⟩).mono ?_; rintro e w9 ⟨rfl, hb9⟩)
    go_ret
    exact ⟨rfl, s1.trans ((hb2.mono s1.size).trans (hb9.mono (Nat.le_trans s1.size hb2.size)))⟩
  have hst2 := duo_keep hb2.drew HST1.out
  clear s1 s2 s3 s4
  have hb2' := Fact.mk hb2
  clear hb2
  obtain ⟨T1, ht1⟩ := TrT.mk' (W := w) H1.out f1.out HM.out
  obtain ⟨T2, ht2⟩ := TrT.mk' (W := w) H2.out f2.out HM.out
  obtain ⟨r, hr⟩ : ∃ r, decide (cT ⟨K1, N1, X1, A1⟩ k1 ⟨K2, N2, X2, A2⟩ k2 = 0) = r := ⟨_, rfl⟩
  have HR := Fact.mk hr
  have HT1 := Fact.mk ht1
  have HT2 := Fact.mk ht2
  have hS0 := Fact.mk hst2
  have h11 : (T1.toList == T1.toList) = true := beq_self_eq_true _
  clear hst2 ht1 ht2
  go_wp2_with fail
  have hS0 := hS0.out
  cases r
  · clear hr
    refine wp_region_held_drew (S := (fun w' => Below w.heap.size w w' ∧ w.heap.size + 2 ≤ w'.heap.size ∧ (∀ i, w'.cell? ⟨w.heap.size, i, none⟩ = (#[.int .i64 K1, .string N1, .string X1, .slice p1 p2 p3, .slice q1 l1 q2] : Array Value)[i]?) ∧ (∀ i, w'.cell? ⟨w.heap.size + 1, i, none⟩ = (#[.int .i64 K2, .string N2, .string X2, .slice p4 p5 p6, .slice q3 l2 q4] : Array Value)[i]?))) (by kernel_rfl) hS0 (fun _ => ?_)
    refine wpAnyH_take (i := 0) (v := ?v0n1) rfl (by kernel_rfl) (by kernel_rfl) (by kernel_rfl) (fun _ _ _ h => h) (Or.inl ⟨by rfl, ?hy0n1⟩) hS0 ?rr0n1
    case hy0n1 =>
      intro w hSw
      go_simp
      try with_reducible rfl
    try simp only [Act.put, List.getElem_toArray, List.getElem_cons_succ, List.getElem_cons_zero, List.setIfInBounds_toArray, List.set_cons_zero, List.set_cons_succ]
    refine wpAnyH_take (i := 1) (v := ?v1n2) rfl (by kernel_rfl) (by kernel_rfl) (by kernel_rfl) (fun _ _ _ h => h) (Or.inl ⟨by rfl, ?hy1n2⟩) hS0 ?rr1n2
    case hy1n2 =>
      intro w hSw
      go_simp
      try with_reducible rfl
    try simp only [Act.put, List.getElem_toArray, List.getElem_cons_succ, List.getElem_cons_zero, List.setIfInBounds_toArray, List.set_cons_zero, List.set_cons_succ]
    refine wpAnyH_ready (rs := [2]) (by kernel_rfl) (by simp) ?_
    refine AllReadyH.cons rfl (fun K hK => ?_) AllReadyH.nil
    go_simp
    refine (rsame_l false HR H1.out H2.out hS0).mono ?_
    rintro e w3 ⟨rfl, hb3⟩
    have hS3 := duo_keep hb3 hS0
    refine hK.out _ _ hS3 (fun _ => ?_)
    clear hK K hb3
    refine wpAnyH_take (i := 3) (v := ?v3n3) rfl (by kernel_rfl) (by kernel_rfl) (by kernel_rfl) (fun _ _ _ h => h) (Or.inl ⟨by rfl, ?hy3n3⟩) hS3 ?rr3n3
    case hy3n3 =>
      intro w hSw
      go_simp
      try with_reducible rfl
    try simp only [Act.put, List.getElem_toArray, List.getElem_cons_succ, List.getElem_cons_zero, List.setIfInBounds_toArray, List.set_cons_zero, List.set_cons_succ]
    refine wpAnyH_take (i := 4) (v := ?v4n4) rfl (by kernel_rfl) (by kernel_rfl) (by kernel_rfl) (fun _ _ _ h => h) (Or.inl ⟨by rfl, ?hy4n4⟩) hS3 ?rr4n4
    case hy4n4 =>
      intro w hSw
      go_simp
      try with_reducible rfl
    try simp only [Act.put, List.getElem_toArray, List.getElem_cons_succ, List.getElem_cons_zero, List.setIfInBounds_toArray, List.set_cons_zero, List.set_cons_succ]
    refine wpAnyH_take (i := 5) (v := undef) rfl (by kernel_rfl) (by kernel_rfl) (by kernel_rfl) (fun _ _ _ h => h) (Or.inr ⟨by rfl, rfl⟩) hS3 ?_
    try simp only [Act.put, List.getElem_toArray, List.getElem_cons_succ, List.getElem_cons_zero, List.setIfInBounds_toArray, List.set_cons_zero, List.set_cons_succ]
    refine wpAnyH_take (i := 6) (v := undef) rfl (by kernel_rfl) (by kernel_rfl) (by kernel_rfl) (fun _ _ _ h => h) (Or.inr ⟨by rfl, rfl⟩) hS3 ?_
    try simp only [Act.put, List.getElem_toArray, List.getElem_cons_succ, List.getElem_cons_zero, List.setIfInBounds_toArray, List.set_cons_zero, List.set_cons_succ]
    refine wpAnyH_take (i := 7) (v := undef) rfl (by kernel_rfl) (by kernel_rfl) (by kernel_rfl) (fun _ _ _ h => h) (Or.inr ⟨by rfl, rfl⟩) hS3 ?_
    try simp only [Act.put, List.getElem_toArray, List.getElem_cons_succ, List.getElem_cons_zero, List.setIfInBounds_toArray, List.set_cons_zero, List.set_cons_succ]
    refine wpAnyH_take (i := 8) (v := undef) rfl (by kernel_rfl) (by kernel_rfl) (by kernel_rfl) (fun _ _ _ h => h) (Or.inr ⟨by rfl, rfl⟩) hS3 ?_
    try simp only [Act.put, List.getElem_toArray, List.getElem_cons_succ, List.getElem_cons_zero, List.setIfInBounds_toArray, List.set_cons_zero, List.set_cons_succ]
    refine wpAnyH_take (i := 9) (v := undef) rfl (by kernel_rfl) (by kernel_rfl) (by kernel_rfl) (fun _ _ _ h => h) (Or.inr ⟨by rfl, rfl⟩) hS3 ?_
    try simp only [Act.put, List.getElem_toArray, List.getElem_cons_succ, List.getElem_cons_zero, List.setIfInBounds_toArray, List.set_cons_zero, List.set_cons_succ]
    refine wpAnyH_take (i := 10) (v := ?v10n5) rfl (by kernel_rfl) (by kernel_rfl) (by kernel_rfl) (fun _ _ _ h => h) (Or.inl ⟨by rfl, ?hy10n5⟩) hS3 ?rr10n5
    case hy10n5 =>
      intro w hSw
      go_simp
      try with_reducible rfl
    try simp only [Act.put, List.getElem_toArray, List.getElem_cons_succ, List.getElem_cons_zero, List.setIfInBounds_toArray, List.set_cons_zero, List.set_cons_succ]
    refine wpAnyH_take (i := 11) (v := ?v11n6) rfl (by kernel_rfl) (by kernel_rfl) (by kernel_rfl) (fun _ _ _ h => h) (Or.inl ⟨by rfl, ?hy11n6⟩) hS3 ?rr11n6
    case hy11n6 =>
      intro w hSw
      go_simp
      try with_reducible rfl
    try simp only [Act.put, List.getElem_toArray, List.getElem_cons_succ, List.getElem_cons_zero, List.setIfInBounds_toArray, List.set_cons_zero, List.set_cons_succ]
    refine wpAnyH_take (i := 12) (v := ?v12n7) rfl (by kernel_rfl) (by kernel_rfl) (by kernel_rfl) (fun _ _ _ h => h) (Or.inl ⟨by rfl, ?hy12n7⟩) hS3 ?rr12n7
    case hy12n7 =>
      intro w hSw
      go_simp
      try with_reducible rfl
    try simp only [Act.put, List.getElem_toArray, List.getElem_cons_succ, List.getElem_cons_zero, List.setIfInBounds_toArray, List.set_cons_zero, List.set_cons_succ]
    refine wpAnyH_take (i := 15) (v := ?v15n8) rfl (by kernel_rfl) (by kernel_rfl) (by kernel_rfl) (fun _ _ _ h => h) (Or.inl ⟨by rfl, ?hy15n8⟩) hS3 ?rr15n8
    case hy15n8 =>
      intro w hSw
      go_simp
      try with_reducible rfl
    try simp only [Act.put, List.getElem_toArray, List.getElem_cons_succ, List.getElem_cons_zero, List.setIfInBounds_toArray, List.set_cons_zero, List.set_cons_succ]
    refine wpAnyH_ready (rs := [13]) (by kernel_rfl) (by simp) ?_
    refine AllReadyH.cons rfl (fun K hK => ?_) AllReadyH.nil
    go_simp
    refine (copy_l HL1.out HT1.out hS3).mono ?_
    rintro e w4 ⟨y1, y2, y3, z1, z3, rfl, hb4, ht4, _, _⟩
    have HT4 := Fact.mk ht4
    have hB4 : Below w4.heap.size w4 w4 ∧ True := ⟨Below.refl _ _, trivial⟩
    have hS4 := duo_keep hb4 hS3
    refine hK.out _ _ hS4 (fun _ => ?_)
    clear hK K hb4 ht4
    refine wpAnyH_ready (rs := [14]) (by kernel_rfl) (by simp) ?_
    refine AllReadyH.cons rfl (fun K hK => ?_) AllReadyH.nil
    go_simp
    refine (text_l HT4.out hB4).mono ?_
    rintro e w5 ⟨rfl, hb5⟩
    have hS5 := duo_keep hb5 hS4
    refine hK.out _ _ hS5 (fun _ => ?_)
    clear hK K hb5
    refine wpAnyH_ready (rs := [16]) (by kernel_rfl) (by simp) ?_
    refine AllReadyH.cons rfl (fun K hK => ?_) AllReadyH.nil
    go_simp
    refine (text_l HT1.out hS5).mono ?_
    rintro e w6 ⟨rfl, hb6⟩
    have hS6 := duo_keep hb6 hS5
    refine hK.out _ _ hS6 (fun _ => ?_)
    clear hK K hb6
    refine wpAnyH_take (i := 17) (v := ?v17n9) rfl (by kernel_rfl) (by kernel_rfl) (by kernel_rfl) (fun _ _ _ h => h) (Or.inl ⟨by rfl, ?hy17n9⟩) hS6 ?rr17n9
    case hy17n9 =>
      intro w hSw
      go_simp
      try with_reducible rfl
    try simp only [Act.put, List.getElem_toArray, List.getElem_cons_succ, List.getElem_cons_zero, List.setIfInBounds_toArray, List.set_cons_zero, List.set_cons_succ]
    refine wpAnyH_take (i := 18) (v := ?v18n10) rfl (by kernel_rfl) (by kernel_rfl) (by kernel_rfl) (fun _ _ _ h => h) (Or.inl ⟨by rfl, ?hy18n10⟩) hS6 ?rr18n10
    case hy18n10 =>
      intro w hSw
      go_simp
      try with_reducible rfl
    try simp only [Act.put, List.getElem_toArray, List.getElem_cons_succ, List.getElem_cons_zero, List.setIfInBounds_toArray, List.set_cons_zero, List.set_cons_succ]
    refine wpAnyH_take (i := 19) (v := ?v19n11) rfl (by kernel_rfl) (by kernel_rfl) (by kernel_rfl) (fun _ _ _ h => h) (Or.inl ⟨by rfl, ?hy19n11⟩) hS6 ?rr19n11
    case hy19n11 =>
      intro w hSw
      go_simp
      try with_reducible rfl
    try simp only [Act.put, List.getElem_toArray, List.getElem_cons_succ, List.getElem_cons_zero, List.setIfInBounds_toArray, List.set_cons_zero, List.set_cons_succ]
    refine wpAnyH_ready (rs := [20]) (by kernel_rfl) (by simp) ?_
    refine AllReadyH.cons rfl (fun K hK => ?_) AllReadyH.nil
    go_simp
    refine (awake_l HM.out hS6).mono ?_
    rintro e w7 ⟨rfl, hb7⟩
    have hS7 := duo_keep hb7 hS6
    refine hK.out _ _ hS7 (fun _ => ?_)
    clear hK K hb7
    refine wpAnyH_take (i := 21) (v := ?v21n12) rfl (by kernel_rfl) (by kernel_rfl) (by kernel_rfl) (fun _ _ _ h => h) (Or.inl ⟨by rfl, ?hy21n12⟩) hS7 ?rr21n12
    case hy21n12 =>
      intro w hSw
      go_simp
      try with_reducible rfl
    try simp only [Act.put, List.getElem_toArray, List.getElem_cons_succ, List.getElem_cons_zero, List.setIfInBounds_toArray, List.set_cons_zero, List.set_cons_succ]
    refine wpAnyH_take (i := 22) (v := ?v22n13) rfl (by kernel_rfl) (by kernel_rfl) (by kernel_rfl) (fun _ _ _ h => h) (Or.inl ⟨by rfl, ?hy22n13⟩) hS7 ?rr22n13
    case hy22n13 =>
      intro w hSw
      go_simp
      try with_reducible rfl
    try simp only [Act.put, List.getElem_toArray, List.getElem_cons_succ, List.getElem_cons_zero, List.setIfInBounds_toArray, List.set_cons_zero, List.set_cons_succ]
    refine wpAnyH_done (by kernel_rfl) ?_ _
    go_wp2_with fail
    go_ret
    exact ⟨rfl, hS7.1⟩
  · have hTT : T1 = T2 := by
      have h1 := HT1.out.src
      have h2 := HT2.out.src
      rw [src_same (of_decide_eq_true hr)] at h1
      apply ByteArray.ext
      apply Array.toList_inj.1
      rw [← h1, ← h2]
    subst hTT
    clear hr
    go_region_held3 (fun w' => Below w.heap.size w w' ∧ w.heap.size + 2 ≤ w'.heap.size ∧ (∀ i, w'.cell? ⟨w.heap.size, i, none⟩ = (#[.int .i64 K1, .string N1, .string X1, .slice p1 p2 p3, .slice q1 l1 q2] : Array Value)[i]?) ∧ (∀ i, w'.cell? ⟨w.heap.size + 1, i, none⟩ = (#[.int .i64 K2, .string N2, .string X2, .slice p4 p5 p6, .slice q3 l2 q4] : Array Value)[i]?))
      (first | with_reducible exact hS0 | with_reducible assumption)
      (first
        | (go_at_call 15; with_reducible refine (rsame_l true HR H1.out H2.out hS0).mono ?_; rintro e w3 ⟨rfl, hb3⟩; have hS3 := duo_keep hb3 hS0; clear hb3)
        | (go_at_call 13; with_reducible refine (text_l HT1.out hS3).mono ?_; rintro e wA ⟨rfl, hbA⟩; have hSA := duo_keep hbA hS3; clear hbA)
        | (go_at_call 13; with_reducible refine (text_l HT2.out hSA).mono ?_; rintro e wB ⟨rfl, hbB⟩; have hSB := duo_keep hbB hSA; clear hbB)
        | (go_at_call 11; with_reducible refine (copy_l HL1.out HT1.out hSB).mono ?_; rintro e w4 ⟨y1, y2, y3, z1, z3, rfl, hb4, ht4, _, _⟩; have HT4 := Fact.mk ht4; have hB4 : Below w4.heap.size w4 w4 ∧ True := ⟨Below.refl _ _, trivial⟩; have hS4 := duo_keep hb4 hSB; clear hb4 ht4)
        | (go_at_call 13; with_reducible refine (text_l HT4.out hB4).mono ?_; rintro e w5 ⟨rfl, hb5⟩; have hS5 := duo_keep hb5 hS4; clear hb5)
        | (go_at_call 13; with_reducible refine (text_l HT1.out hS5).mono ?_; rintro e w6 ⟨rfl, hb6⟩; have hS6 := duo_keep hb6 hS5; clear hb6)
        | (go_at_call 10; with_reducible refine (awake_l HM.out hS6).mono ?_; rintro e w7 ⟨rfl, hb7⟩; have hS7 := duo_keep hb7 hS6; clear hb7))
    go_wp2_with fail
    go_ret
    exact ⟨rfl, hS7.1⟩
end Go.Proofs.YtibagbnnplpfgaaDoor
