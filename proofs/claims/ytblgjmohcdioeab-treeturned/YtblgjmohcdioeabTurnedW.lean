/- TreeTurned, walked. -/
import Derived.Test.YtblgjmohcdioeabTurnE
import Derived.Deep.RegionHeld3
import Derived.Deep.DeepCutAuto
import Derived.BigQuiet
set_option linter.unusedVariables false
set_option linter.unusedSimpArgs false
namespace Go.Proofs.Ytblgjmohcdioeab
open Go.Deep (BT)
open Go.RowKit M

/-- append as one step, whose outcome is known -/
theorem wp_append_known {P : Program} {Q : Exit → Act → World → Prop} {o : Oper} {a : Act} {w : World} {K : Act → World → Prop} {s y : Operand} {t : TypeId} {v x v' : Value} {w' : World} (ho : o.op = .call { callee := .builtin .append, args := #[s, y], argTypes := #[t, t] })
    (hs : a.eval s = v) (hx : a.eval y = x) (hr : (Builtin.append_ #[t, t] o.type #[v, x]).run P w = .ok v' w') (h : K (a.put o.dst v') w') : o.wp P a w K Q := by
  unfold Oper.wp execOp
  simp only [ho, resolve, invoke, builtin, Sem.run_bind, Sem.run_pure, Result.andThen_ok, List.map_toArray, List.map_cons, List.map_nil, hs, hx, hr]
  exact h

set_option maxRecDepth 100000 in
set_option maxHeartbeats 8000000 in
theorem turned_walk (v : Value) (ln : Nat) (z : Int) (w : World) (hl : IsL w.heap.size w v ln) :
    Calls Try.prog 4 #[v, .int .i64 z] w fun e w' => e = .returned (.bool true) ∧ Below w.heap.size w w' := by
  obtain ⟨va, vc, ev, _⟩ := hl.h
  subst ev
  have HL := Fact.mk hl
  clear hl
  go_enter Try.func4, Try.ntmps4
  go_wp2_with fail
  refine (Grown_row _ ln w.heap.size w HL.out (Nat.le_refl _)).mono ?_
  rintro e w1 ⟨rs, a, c, rfl, hgt, hb1, hrow⟩
  have h0 : 0 < rs.length := by have := hgt.out.some_; rw [forF_len] at this; exact this
  obtain ⟨g, rfl, hg, hc1, hc2, hfz⟩ := hrow.at_ h0
  obtain ⟨kl, hkl⟩ : ∃ kl, rs.length = kl := ⟨_, rfl⟩
  obtain ⟨k, hk⟩ : ∃ k, forF rs = k := ⟨_, rfl⟩
  have hkl2 : k.len = kl := by rw [← hk, forF_len]; exact hkl
  have hf2 : FL (Old w1.heap.size) w1 (.slice (some ⟨g, 0, none⟩) kl c) k := by have := hrow.fl; rw [hk, hkl] at this; exact this
  rw [hk] at hgt
  rw [hkl] at h0 hc1 ⊢
  have hkl40 : kl ≤ 40 := by rw [← hkl2]; have := len_size k; have := hgt.out.most; omega
  obtain ⟨W1, hW1⟩ : ∃ W1, w1.alloc (.cells #[.int .i64 1, .string ⟨#[]⟩, .string ⟨#[]⟩, .slice none 0 0, .slice (some ⟨g, 0, none⟩) kl c] 26) = W1 := ⟨_, rfl⟩
  have hB1 : Below w1.heap.size w1 W1 := by rw [← hW1]; exact (Below.refl _ w1).alloc (Nat.le_refl _) _
  have hz1 : W1.heap.size = w1.heap.size + 1 := by rw [← hW1]; simp
  have hT1 : Five W1 w1.heap.size (.int .i64 1) (.string ⟨#[]⟩) (.string ⟨#[]⟩) (.slice none 0 0) (.slice (some ⟨g, 0, none⟩) kl c) := by rw [← hW1]; exact Five.new w1 _ _ _ _ _ _
  have hL1 : Lies w1.heap.size W1 rootD k (.slice none 0 0) (.slice (some ⟨g, 0, none⟩) kl c) := ⟨AS.nothing, hf2.like (like_below hB1)⟩
  obtain ⟨x0, x1, x2, x3, x4, _⟩ := id hT1
  have HB := Fact.mk hb1
  have HT1 := Fact.mk hT1
  have HL1 := Fact.mk hL1
  have HB1 := Fact.mk hB1
  have HW1 := Fact.mk hW1
  have HKL := Fact.mk hkl2
  have HRL := Fact.mk hkl
  have HK := Fact.mk hk
  have HROW1 := Fact.mk (hrow.below hB1)
  clear hf2 hb1 hT1 hL1 hB1 hW1 hkl hkl2 hk HL hrow hfz
  go_wp2_with fail
  rw [HW1.out]
  refine (copy_any k rootD _ _ w1.heap.size W1 HL1.out (by omega) (by have h1 := gslots _ hgt.out.ok; have h2 := hgt.out.most; show 0 + _ ≤ _; omega) (by have := hgt.out.most; omega)).mono ?_
  rintro e w2 ⟨av2, kv2, rfl, hb2, ha2, hf2⟩
  obtain ⟨y1, y2, y3, ey⟩ := ha2.val
  obtain ⟨y4, y5, ek⟩ := hf2.val
  rw [HKL.out] at ek
  subst ey ek
  have hfb : FL (fun b => W1.heap.size ≤ b) w2 (.slice y4 kl y5) k := hf2
  obtain ⟨W2, hW2⟩ : ∃ W2, w2.alloc (.cells #[.int .i64 1, .string ⟨#[]⟩, .string ⟨#[]⟩, .slice y1 y2 y3, .slice y4 kl y5] 26) = W2 := ⟨_, rfl⟩
  have hB2 : Below W1.heap.size W1 W2 := by rw [← hW2]; exact hb2.alloc hb2.size _
  have hz2 : W2.heap.size = w2.heap.size + 1 := by rw [← hW2]; simp
  have hz2' : w1.heap.size + 1 ≤ w2.heap.size := by have := hb2.size; omega
  have hT2 : Five W2 w2.heap.size (.int .i64 1) (.string ⟨#[]⟩) (.string ⟨#[]⟩) (.slice y1 y2 y3) (.slice y4 kl y5) := by rw [← hW2]; exact Five.new w2 _ _ _ _ _ _
  have hL2 : Lies w2.heap.size W2 rootD k (.slice y1 y2 y3) (.slice y4 kl y5) := by
    have hl : Like (Old w2.heap.size) w2 W2 := fun b hb _ => by rw [← hW2]; exact Below.heap_alloc _ _ _ hb
    exact ⟨(ha2.inn.mono (fun b hb => hb.2)).like hl, (hfb.inn.mono (fun b hb => hb.2)).like hl⟩
  have HL2 := Fact.mk hL2
  have HT2 := Fact.mk hT2
  have HB2 := Fact.mk hB2
  have HW2 := Fact.mk hW2
  have hT1' := HT1.out.same (hB2.block _ (by omega))
  have HT1' := Fact.mk hT1'
  obtain ⟨q, hq⟩ : ∃ q, Fact (pl z (kl + 1) = q) := ⟨_, ⟨rfl⟩⟩
  have hql : q ≤ kl := by have := pl_lt z (kl + 1) (by omega); rw [hq.out] at this; omega
  have hL1' : Lies w1.heap.size W2 rootD k (.slice none 0 0) (.slice (some ⟨g, 0, none⟩) kl c) := HL1.out.below (hB2.mono (by omega))
  have HL1' := Fact.mk hL1'
  clear x0 x1 x2 x3 x4
  obtain ⟨x0, x1, x2, x3, x4, _⟩ := id hT1'
  obtain ⟨u0, u1', u2', u3', u4', _⟩ := id hT2
  have HPL : Fact (∀ W : World, Calls Try.prog 9 #[.int .i64 z, .int .i64 ((kl : Int) + 1)] W fun e w' => e = .returned (.int .i64 q) ∧ w' = W) := ⟨fun W => by
    have := place_at z (kl + 1) q hq W (by omega) (by omega)
    rw [show ((kl + 1 : Nat) : Int) = (kl : Int) + 1 by omega] at this
    exact this⟩
  clear ha2 hf2 hfb hb2 hT2 hL2 hB2 hW2 hT1' hL1'
  go_upto_region 3 with fail
  rw [HW2.out]
  go_wp2_with (go_at_call 9; refine (HPL.out _).mono ?_; rintro e w7 ⟨rfl, hw7⟩; have hw6 := hw7.symm; subst hw6; clear hw7)
  refine (copy_any k rootD _ _ w1.heap.size W2 HL1'.out (by omega) (by have h1 := gslots _ hgt.out.ok; have h2 := hgt.out.most; show 0 + _ ≤ _; omega) (by have := hgt.out.most; omega)).mono ?_
  rintro e w3 ⟨av3, kv3, rfl, hb3, ha3, hf3⟩
  obtain ⟨s1, s2, s3, es⟩ := ha3.val
  obtain ⟨s4, s5, et⟩ := hf3.val
  rw [HKL.out] at et
  subst es et
  obtain ⟨W3, hW3⟩ : ∃ W3, w3.alloc (.cells #[.int .i64 1, .string ⟨#[]⟩, .string ⟨#[]⟩, .slice s1 s2 s3, .slice s4 kl s5] 26) = W3 := ⟨_, rfl⟩
  have hB3 : Below W2.heap.size W2 W3 := by rw [← hW3]; exact hb3.alloc hb3.size _
  have hz3 : W3.heap.size = w3.heap.size + 1 := by rw [← hW3]; simp
  have hz3' : w2.heap.size + 1 ≤ w3.heap.size := by have := hb3.size; omega
  have HT3 : Fact (Five W3 w3.heap.size (.int .i64 1) (.string ⟨#[]⟩) (.string ⟨#[]⟩) (.slice s1 s2 s3) (.slice s4 kl s5)) := ⟨by rw [← hW3]; exact Five.new w3 _ _ _ _ _ _⟩
  have HA3 : Fact (AS (Old w3.heap.size) W3 (.slice s1 s2 s3) []) := ⟨(ha3.inn.mono (fun b hb => hb.2)).like (fun b (hb : b < _) _ => by rw [← hW3]; exact Below.heap_alloc _ _ _ hb)⟩
  have HL1'' := Fact.mk (HL1'.out.below (hB3.mono (by omega)))
  have HL2'' := Fact.mk (HL2.out.below (hB3.mono (by omega)))
  have hT5 := HT1'.out.same (hB3.block _ (by omega))
  have hT6 := HT2.out.same (hB3.block _ (by omega))
  have HT5 := Fact.mk hT5
  have HT6 := Fact.mk hT6
  have HB3 := Fact.mk hB3
  have HW3 := Fact.mk hW3
  clear hb3 ha3 hf3 hB3 hW3 x0 x1 x2 x3 x4 u0 u1' u2' u3' u4'
  go_upto_region 5 with fail
  rw [HW3.out]
  obtain ⟨x0, x1, x2, x3, x4, _⟩ := id hT5
  have j1 : (0 : Int) ≤ q := by omega
  have j2 : (q : Int) ≤ c := by omega
  have j3 : (q : Int) ≤ kl := by omega
  have j4 : (kl : Int) ≤ c := by omega
  clear hT5 hT6
  have HR3 : Fact (RowOf w.heap.size W3.drew (.slice (some ⟨g, 0, none⟩) rs.length c) rs) := by
    have h1 := (HROW1.out.below HB2.out).below HB3.out
    exact ⟨h1.below (Below.refl _ _).drew⟩
  have hS0 : W3.drew.cell? ⟨w1.heap.size, 4, none⟩ = some (.slice (some ⟨g, 0, none⟩) kl c) := x4
  have HBW : Fact (Below w.heap.size w W3) := ⟨HB.out.trans ((HB1.out.mono HB.out.size).trans ((HB2.out.mono (by have := HB.out.size; omega)).trans (HB3.out.mono (by have := HB.out.size; omega))))⟩
  have HB13 : Fact (Below W1.heap.size W1 W3) := ⟨HB2.out.trans (HB3.out.mono (by omega))⟩
  have hww := HB.out.size
  go_cut [8] (fun xv wc => xv = .pointer (some ⟨w3.heap.size, 0, none⟩) ∧ ∃ (v5 : Option Addr) (v6 : Nat), Fact (Below w.heap.size w wc ∧ w3.heap.size + 1 ≤ wc.heap.size ∧ (Five wc w1.heap.size (.int .i64 1) (.string ⟨#[]⟩) (.string ⟨#[]⟩) (.slice none 0 0) (.slice (some ⟨g, 0, none⟩) kl c) ∧ Five wc w2.heap.size (.int .i64 1) (.string ⟨#[]⟩) (.string ⟨#[]⟩) (.slice y1 y2 y3) (.slice y4 kl y5) ∧ Five wc w3.heap.size (.int .i64 1) (.string ⟨#[]⟩) (.string ⟨#[]⟩) (.slice s1 s2 s3) (.slice v5 (kl + 1) v6)) ∧ Lies wc.heap.size wc rootD k (.slice none 0 0) (.slice (some ⟨g, 0, none⟩) kl c) ∧ Lies wc.heap.size wc rootD k (.slice y1 y2 y3) (.slice y4 kl y5) ∧ Lies wc.heap.size wc rootD (insF q hopD k) (.slice s1 s2 s3) (.slice v5 (kl + 1) v6)))
  case first =>
    have hq' : q ≤ rs.length := by rw [HRL.out]; exact hql
    have hl' : rs.length ≤ 40 := by rw [HRL.out]; exact hkl40
    obtain ⟨a3, ha3, ha3'⟩ : ∃ a3, (if c = q then some (⟨g, 0, none⟩ : Addr) else some ⟨g, q * 5, none⟩) = some a3 ∧ (rs.length = q ∨ a3 = ⟨g, q * 5, none⟩) := by
      by_cases hcq : c = q
      · exact ⟨_, if_pos hcq, .inl (by rw [HRL.out]; omega)⟩
      · exact ⟨_, if_neg hcq, .inr rfl⟩
    have hSB : ∀ W', Below W3.drew.heap.size W3.drew W' → W'.cell? ⟨w1.heap.size, 4, none⟩ = some (.slice (some ⟨g, 0, none⟩) kl c) := fun W' hb => (hb.cell (p := ⟨w1.heap.size, 4, none⟩) (by show w1.heap.size < W3.heap.size; omega)).trans x4
    refine wp_region_held_drew (S := fun W => W.cell? ⟨w1.heap.size, 4, none⟩ = some (.slice (some ⟨g, 0, none⟩) kl c)) (by kernel_rfl) hS0 (fun _ => ?_)
    refine wpAnyH_take (i := 0) (v := ?v0n1) rfl (by kernel_rfl) (by kernel_rfl) (by kernel_rfl) (fun _ _ _ h => h) (Or.inl ⟨by rfl, ?hy0n1⟩) hS0 ?rr0n1
    case hy0n1 =>
      intro w hSw
      go_simp
      try with_reducible rfl
    try simp only [Act.put, List.getElem_toArray, List.getElem_cons_succ, List.getElem_cons_zero, List.setIfInBounds_toArray, List.set_cons_zero, List.set_cons_succ]
    refine wpAnyH_take (i := 1) (v := ?v1n2) rfl (by kernel_rfl) (by kernel_rfl) (by kernel_rfl) (fun _ _ _ h => h) (Or.inl ⟨by rfl, ?hy1n2⟩) hS0 ?rr1n2
    case hy1n2 =>
      intro w hSw
      go_simp
      try with_reducible rfl
    try simp only [Act.put, List.getElem_toArray, List.getElem_cons_succ, List.getElem_cons_zero, List.setIfInBounds_toArray, List.set_cons_zero, List.set_cons_succ]
    refine wpAnyH_take (i := 2) (v := ?v2n3) rfl (by kernel_rfl) (by kernel_rfl) (by kernel_rfl) (fun _ _ _ h => h) (Or.inl ⟨by rfl, ?hy2n3⟩) hS0 ?rr2n3
    case hy2n3 =>
      intro w hSw
      go_simp
      try with_reducible rfl
    try simp only [Act.put, List.getElem_toArray, List.getElem_cons_succ, List.getElem_cons_zero, List.setIfInBounds_toArray, List.set_cons_zero, List.set_cons_succ]
    refine wpAnyH_take (i := 3) (v := ?v3n4) rfl (by kernel_rfl) (by kernel_rfl) (by kernel_rfl) (fun _ _ _ h => h) (Or.inl ⟨by rfl, ?hy3n4⟩) hS0 ?rr3n4
    case hy3n4 =>
      intro w hSw
      go_simp
      try with_reducible rfl
    try simp only [Act.put, List.getElem_toArray, List.getElem_cons_succ, List.getElem_cons_zero, List.setIfInBounds_toArray, List.set_cons_zero, List.set_cons_succ]
    refine wpAnyH_take (i := 5) (v := ?v5n5) rfl (by kernel_rfl) (by kernel_rfl) (by kernel_rfl) (fun _ _ _ h => h) (Or.inl ⟨by rfl, ?hy5n5⟩) hS0 ?rr5n5
    case hy5n5 =>
      intro w hSw
      go_simp
      try with_reducible rfl
    try simp only [Act.put, List.getElem_toArray, List.getElem_cons_succ, List.getElem_cons_zero, List.setIfInBounds_toArray, List.set_cons_zero, List.set_cons_succ]
    refine wpAnyH_take (i := 8) (v := ?v8n6) rfl (by kernel_rfl) (by kernel_rfl) (by kernel_rfl) (fun _ _ _ h => h) (Or.inl ⟨by rfl, ?hy8n6⟩) hS0 ?rr8n6
    case hy8n6 =>
      intro w hSw
      go_simp
      try with_reducible rfl
    try simp only [Act.put, List.getElem_toArray, List.getElem_cons_succ, List.getElem_cons_zero, List.setIfInBounds_toArray, List.set_cons_zero, List.set_cons_succ]
    refine wpAnyH_take (i := 9) (v := ?v9n7) rfl (by kernel_rfl) (by kernel_rfl) (by kernel_rfl) (fun _ _ _ h => h) (Or.inl ⟨by rfl, ?hy9n7⟩) hS0 ?rr9n7
    case hy9n7 =>
      intro w hSw
      go_simp
      try with_reducible rfl
    try simp only [Act.put, List.getElem_toArray, List.getElem_cons_succ, List.getElem_cons_zero, List.setIfInBounds_toArray, List.set_cons_zero, List.set_cons_succ]
    refine wpAnyH_take (i := 10) (v := ?v10n8) rfl (by kernel_rfl) (by kernel_rfl) (by kernel_rfl) (fun _ _ _ h => h) (Or.inl ⟨by rfl, ?hy10n8⟩) hS0 ?rr10n8
    case hy10n8 =>
      intro w hSw
      go_simp
      try with_reducible rfl
    try simp only [Act.put, List.getElem_toArray, List.getElem_cons_succ, List.getElem_cons_zero, List.setIfInBounds_toArray, List.set_cons_zero, List.set_cons_succ]
    refine wpAnyH_take (i := 11) (v := ?v11n9) rfl (by kernel_rfl) (by kernel_rfl) (by kernel_rfl) (fun _ _ _ h => h) (Or.inl ⟨by rfl, ?hy11n9⟩) hS0 ?rr11n9
    case hy11n9 =>
      intro w hSw
      go_simp
      try with_reducible rfl
    try simp only [Act.put, List.getElem_toArray, List.getElem_cons_succ, List.getElem_cons_zero, List.setIfInBounds_toArray, List.set_cons_zero, List.set_cons_succ]
    try rw [ha3]
    refine wpAnyH_ready (rs := [4, 6]) (by kernel_rfl) (by simp) ?_
    refine AllReadyH.cons rfl (fun K hK => ?_) (AllReadyH.cons rfl (fun K hK => ?_) AllReadyH.nil)
    ·
      obtain ⟨v1, V1, v2, V3, v3, V4, r1, r2, r3, b1, b3, b4, o4⟩ := three_a HR3.out hq' hl' a3 (c - q) ha3'
      rw [HRL.out] at r3 o4
      obtain ⟨g3, cap3, rfl, hg3⟩ := own_succ o4
      have hT3' := HT3.out.same (b4.block _ (by show w3.heap.size < W3.heap.size; omega))
      have t4 := hT3'.c4
      have tf := hT3'.fz 4
      have HEND := Fact.mk (turn_end (q := q) (V := V4) (v3 := .slice (some ⟨g3, 0, none⟩) (kl + 1) cap3) (HBW.out) (by omega) HT5.out HT6.out HT3.out (by omega) (by omega) HL1''.out (by omega) HL2''.out (by omega) HA3.out HROW1.out (by omega) HB13.out HK.out hq' ⟨b4.os, b4.tape, b4.output, b4.size, b4.block⟩ (by rw [HRL.out]; exact o4))
      have hSE : (V4.setCell ⟨w3.heap.size, 4, none⟩ (.slice (some ⟨g3, 0, none⟩) (kl + 1) cap3)).cell? ⟨w1.heap.size, 4, none⟩ = some (.slice (some ⟨g, 0, none⟩) kl c) := HEND.out.2.2.1.1.c4
      clear hT3' o4
      rw [if_pos (by rfl)]
      refine wp_append_known rfl rfl rfl r1 ?_
      refine hK.out _ _ (hSB _ b1) (fun _ => ?_)
      clear hK K
      try simp only [Act.put, List.getElem_toArray, List.getElem_cons_succ, List.getElem_cons_zero, List.setIfInBounds_toArray, List.set_cons_zero, List.set_cons_succ]
      refine wpAnyH_ready (rs := [6]) (by kernel_rfl) (by simp) ?_
      refine AllReadyH.cons rfl (fun K hK => ?_) AllReadyH.nil
      go_simp
      refine hK.out _ _ (hSB _ (b1.alloc b1.size _)) (fun _ => ?_)
      clear hK K
      refine wpAnyH_ready (rs := [7]) (by kernel_rfl) (by simp) ?_
      refine AllReadyH.cons rfl (fun K hK => ?_) AllReadyH.nil
      rw [if_pos (by rfl)]
      refine wp_append_known rfl rfl rfl r2 ?_
      refine hK.out _ _ (hSB _ b3) (fun _ => ?_)
      clear hK K
      try simp only [Act.put, List.getElem_toArray, List.getElem_cons_succ, List.getElem_cons_zero, List.setIfInBounds_toArray, List.set_cons_zero, List.set_cons_succ]
      refine wpAnyH_ready (rs := [12]) (by kernel_rfl) (by simp) ?_
      refine AllReadyH.cons rfl (fun K hK => ?_) AllReadyH.nil
      rw [if_pos (by rfl)]
      refine wp_append_known rfl rfl rfl r3 ?_
      refine hK.out _ _ (hSB _ b4) (fun _ => ?_)
      clear hK K
      try simp only [Act.put, List.getElem_toArray, List.getElem_cons_succ, List.getElem_cons_zero, List.setIfInBounds_toArray, List.set_cons_zero, List.set_cons_succ]
      refine wpAnyH_ready (rs := [13]) (by kernel_rfl) (by simp) ?_
      refine AllReadyH.cons rfl (fun K hK => ?_) AllReadyH.nil
      go_simp
      refine hK.out _ _ (hSB _ b4) (fun _ => ?_)
      clear hK K
      refine wpAnyH_ready (rs := [14]) (by kernel_rfl) (by simp) ?_
      refine AllReadyH.cons rfl (fun K hK => ?_) AllReadyH.nil
      go_simp
      refine hK.out _ _ hSE (fun _ => ?_)
      clear hK K
      refine wpAnyH_done (by kernel_rfl) ?_ _
      go_wp2_with fail
      go_meet
      case rel => exact ⟨rfl, some ⟨g3, 0, none⟩, cap3, HEND⟩
    ·
      obtain ⟨v1, V1, v2, V3, v3, V4, r1, r2, r3, b1, b3, b4, o4⟩ := three_b HR3.out hq' hl' a3 (c - q) ha3'
      rw [show W3.drew.heap.size = W3.heap.size from rfl, hz3] at r2
      rw [show W3.drew.alloc hopO = (W3.alloc hopO).drew from rfl] at r1
      rw [HRL.out] at r3 o4
      obtain ⟨g3, cap3, rfl, hg3⟩ := own_succ o4
      have hT3' := HT3.out.same (b4.block _ (by show w3.heap.size < W3.heap.size; omega))
      have t4 := hT3'.c4
      have tf := hT3'.fz 4
      have HEND := Fact.mk (turn_end (q := q) (V := V4) (v3 := .slice (some ⟨g3, 0, none⟩) (kl + 1) cap3) (HBW.out) (by omega) HT5.out HT6.out HT3.out (by omega) (by omega) HL1''.out (by omega) HL2''.out (by omega) HA3.out HROW1.out (by omega) HB13.out HK.out hq' ⟨b4.os, b4.tape, b4.output, b4.size, b4.block⟩ (by rw [HRL.out]; exact o4))
      have hSE : (V4.setCell ⟨w3.heap.size, 4, none⟩ (.slice (some ⟨g3, 0, none⟩) (kl + 1) cap3)).cell? ⟨w1.heap.size, 4, none⟩ = some (.slice (some ⟨g, 0, none⟩) kl c) := HEND.out.2.2.1.1.c4
      clear hT3' o4
      go_simp
      refine hK.out _ _ (hSB _ ((Below.refl _ _).alloc (Nat.le_refl _) _)) (fun _ => ?_)
      clear hK K
      refine wpAnyH_ready (rs := [4]) (by kernel_rfl) (by simp) ?_
      refine AllReadyH.cons rfl (fun K hK => ?_) AllReadyH.nil
      rw [if_pos (by rfl)]
      refine wp_append_known rfl rfl rfl r1 ?_
      refine hK.out _ _ (hSB _ b1) (fun _ => ?_)
      clear hK K
      try simp only [Act.put, List.getElem_toArray, List.getElem_cons_succ, List.getElem_cons_zero, List.setIfInBounds_toArray, List.set_cons_zero, List.set_cons_succ]
      refine wpAnyH_ready (rs := [7]) (by kernel_rfl) (by simp) ?_
      refine AllReadyH.cons rfl (fun K hK => ?_) AllReadyH.nil
      rw [if_pos (by rfl)]
      refine wp_append_known rfl rfl rfl r2 ?_
      refine hK.out _ _ (hSB _ b3) (fun _ => ?_)
      clear hK K
      try simp only [Act.put, List.getElem_toArray, List.getElem_cons_succ, List.getElem_cons_zero, List.setIfInBounds_toArray, List.set_cons_zero, List.set_cons_succ]
      refine wpAnyH_ready (rs := [12]) (by kernel_rfl) (by simp) ?_
      refine AllReadyH.cons rfl (fun K hK => ?_) AllReadyH.nil
      rw [if_pos (by rfl)]
      refine wp_append_known rfl rfl rfl r3 ?_
      refine hK.out _ _ (hSB _ b4) (fun _ => ?_)
      clear hK K
      try simp only [Act.put, List.getElem_toArray, List.getElem_cons_succ, List.getElem_cons_zero, List.setIfInBounds_toArray, List.set_cons_zero, List.set_cons_succ]
      refine wpAnyH_ready (rs := [13]) (by kernel_rfl) (by simp) ?_
      refine AllReadyH.cons rfl (fun K hK => ?_) AllReadyH.nil
      go_simp
      refine hK.out _ _ (hSB _ b4) (fun _ => ?_)
      clear hK K
      refine wpAnyH_ready (rs := [14]) (by kernel_rfl) (by simp) ?_
      refine AllReadyH.cons rfl (fun K hK => ?_) AllReadyH.nil
      go_simp
      refine hK.out _ _ hSE (fun _ => ?_)
      clear hK K
      refine wpAnyH_done (by kernel_rfl) ?_ _
      go_wp2_with fail
      go_meet
      case rel => exact ⟨rfl, some ⟨g3, 0, none⟩, cap3, HEND⟩
  case rest =>
    obtain ⟨rfl, v5, v6, hcx⟩ := hcut
    obtain ⟨hBw, hzc, ⟨f1, f2, f3⟩, la, lb, lc⟩ := hcx.out
    have HBW' := Fact.mk hBw
    have LA := Fact.mk la
    have LB := Fact.mk lb
    have LC := Fact.mk lc
    obtain ⟨C, C', hCC, HC, HCN⟩ : ∃ C C' : Int, ((C = 1 ∧ C' = -1) ∨ (C = -1 ∧ C' = 1)) ∧ Fact (cT rootD k rootD (insF q hopD k) = C) ∧ Fact (cT rootD (insF q hopD k) rootD k = C') := by
      have hC0 := insF_other q hopD k rootD
      have hCs := (cT_sg rootD k rootD (insF q hopD k)).h
      have hCn := cT_neg rootD k rootD (insF q hopD k)
      exact ⟨_, _, by omega, ⟨rfl⟩, ⟨rfl⟩⟩
    have HS1 : Fact (decide (cT rootD k rootD k = 0) = true) := ⟨by rw [cT_self]; rfl⟩
    have HC1 : Fact (cT rootD k rootD k = 0) := ⟨cT_self _ _⟩
    have HS2 : Fact (decide (cT rootD k rootD (insF q hopD k) = 0) = false) := ⟨decide_eq_false (insF_other q hopD k rootD)⟩
    have hdd := hgt.out.deep
    have hmm := hgt.out.most
    have hd1 : Fact (k.depth + 2 ≤ 1000000) := ⟨by omega⟩
    have hd2 : Fact ((insF q hopD k).depth + 2 ≤ 1000000) := ⟨by have := insF_depth q hopD k; omega⟩
    have hs1 : Fact (k.size ≤ 1000000000) := ⟨by omega⟩
    have hs2 : Fact ((insF q hopD k).size ≤ 1000000000) := ⟨by rw [insF_size]; omega⟩
    obtain ⟨z1, hz1'⟩ : ∃ z1, k.size + 1 = z1 := ⟨_, rfl⟩
    have HZ1 := Fact.mk hz1'
    have HZ2 : Fact ((insF q hopD k).size + 1 = z1 + 1) := ⟨by rw [insF_size, hz1']⟩
    have hz41 : z1 ≤ 41 := by omega
    have hx3 : w1.heap.size < wc.heap.size ∧ w2.heap.size < wc.heap.size ∧ w3.heap.size < wc.heap.size := ⟨by omega, by omega, by omega⟩
    have HX3 := Fact.mk hx3
    have hS0 : Below wc.heap.size wc wc.drew ∧ (wc.drew.cell? ⟨w1.heap.size, 0, none⟩ = some (.int .i64 1) ∧ wc.drew.cell? ⟨w1.heap.size, 1, none⟩ = some (.string ⟨#[]⟩) ∧ wc.drew.cell? ⟨w1.heap.size, 2, none⟩ = some (.string ⟨#[]⟩) ∧ wc.drew.cell? ⟨w1.heap.size, 3, none⟩ = some (.slice none 0 0) ∧ wc.drew.cell? ⟨w1.heap.size, 4, none⟩ = some (.slice (some ⟨g, 0, none⟩) kl c)) ∧ (wc.drew.cell? ⟨w2.heap.size, 0, none⟩ = some (.int .i64 1) ∧ wc.drew.cell? ⟨w2.heap.size, 1, none⟩ = some (.string ⟨#[]⟩) ∧ wc.drew.cell? ⟨w2.heap.size, 2, none⟩ = some (.string ⟨#[]⟩) ∧ wc.drew.cell? ⟨w2.heap.size, 3, none⟩ = some (.slice y1 y2 y3) ∧ wc.drew.cell? ⟨w2.heap.size, 4, none⟩ = some (.slice y4 kl y5)) ∧ (wc.drew.cell? ⟨w3.heap.size, 0, none⟩ = some (.int .i64 1) ∧ wc.drew.cell? ⟨w3.heap.size, 1, none⟩ = some (.string ⟨#[]⟩) ∧ wc.drew.cell? ⟨w3.heap.size, 2, none⟩ = some (.string ⟨#[]⟩) ∧ wc.drew.cell? ⟨w3.heap.size, 3, none⟩ = some (.slice s1 s2 s3) ∧ wc.drew.cell? ⟨w3.heap.size, 4, none⟩ = some (.slice v5 (kl + 1) v6)) := ⟨(Below.refl _ _).drew, ⟨f1.c0, f1.c1, f1.c2, f1.c3, f1.c4⟩, ⟨f2.c0, f2.c1, f2.c2, f2.c3, f2.c4⟩, ⟨f3.c0, f3.c1, f3.c2, f3.c3, f3.c4⟩⟩
    clear hcx f1 f2 f3 la lb lc hBw hx3 hdd hmm hz1' HROW1 HR3 HT5 HT6 HT3 HA3 HL1'' HL2'' HB13 HBW HB3 HB2 HB1 HB HW3 HW2 HW1 HT1 HT2 HT1' HL1 HL2 HL1' x0 x1 x2 x3 x4 HPL hgt
    have e2 : IntKind.i64.wrap 1 = 1 := by decide
    have e3 : IntKind.i64.wrap (-1) = -1 := by decide
    have e4 : IntKind.i64.wrap ((z1 : Int) + 1) = (z1 : Int) + 1 := by unfold IntKind.wrap; simp [IntKind.bits, IntKind.signed]; omega
    have e5 : IntKind.i64.wrap (- -1) = 1 := by decide
    clear j1 j2 j3 j4 hz1 hz2 hz3 hz2' hz3' hzc hww hc1 hc2 h0 hkl40 hql hz41
    rcases hCC with ⟨rfl, rfl⟩ | ⟨rfl, rfl⟩
    · go_wp2_with fail
      go_region_held3 (fun w' => Below wc.heap.size wc w' ∧ (w'.cell? ⟨w1.heap.size, 0, none⟩ = some (.int .i64 1) ∧ w'.cell? ⟨w1.heap.size, 1, none⟩ = some (.string ⟨#[]⟩) ∧ w'.cell? ⟨w1.heap.size, 2, none⟩ = some (.string ⟨#[]⟩) ∧ w'.cell? ⟨w1.heap.size, 3, none⟩ = some (.slice none 0 0) ∧ w'.cell? ⟨w1.heap.size, 4, none⟩ = some (.slice (some ⟨g, 0, none⟩) kl c)) ∧ (w'.cell? ⟨w2.heap.size, 0, none⟩ = some (.int .i64 1) ∧ w'.cell? ⟨w2.heap.size, 1, none⟩ = some (.string ⟨#[]⟩) ∧ w'.cell? ⟨w2.heap.size, 2, none⟩ = some (.string ⟨#[]⟩) ∧ w'.cell? ⟨w2.heap.size, 3, none⟩ = some (.slice y1 y2 y3) ∧ w'.cell? ⟨w2.heap.size, 4, none⟩ = some (.slice y4 kl y5)) ∧ (w'.cell? ⟨w3.heap.size, 0, none⟩ = some (.int .i64 1) ∧ w'.cell? ⟨w3.heap.size, 1, none⟩ = some (.string ⟨#[]⟩) ∧ w'.cell? ⟨w3.heap.size, 2, none⟩ = some (.string ⟨#[]⟩) ∧ w'.cell? ⟨w3.heap.size, 3, none⟩ = some (.slice s1 s2 s3) ∧ w'.cell? ⟨w3.heap.size, 4, none⟩ = some (.slice v5 (kl + 1) v6)))
        (first | with_reducible exact hS0 | with_reducible exact t3_keep HX3.out hb9 (by assumption) | assumption)
        (first | (go_at_call 10; with_reducible refine (cmp_t LA.out LC.out 1 HC hd1.out (by assumption)).mono ?_; rintro e w9 ⟨rfl, hb9⟩) | (go_at_call 10; with_reducible refine (cmp_t LC.out LA.out (-1) HCN hd2.out (by assumption)).mono ?_; rintro e w9 ⟨rfl, hb9⟩))
      rename_i hHeld
      have hS1 := t3_keep HX3.out ((Below.refl _ _).drew) hHeld
      clear hS0 hHeld hb9
      go_wp2_with fail
      go_region_held3 (fun w' => Below wc.heap.size wc w' ∧ (w'.cell? ⟨w1.heap.size, 0, none⟩ = some (.int .i64 1) ∧ w'.cell? ⟨w1.heap.size, 1, none⟩ = some (.string ⟨#[]⟩) ∧ w'.cell? ⟨w1.heap.size, 2, none⟩ = some (.string ⟨#[]⟩) ∧ w'.cell? ⟨w1.heap.size, 3, none⟩ = some (.slice none 0 0) ∧ w'.cell? ⟨w1.heap.size, 4, none⟩ = some (.slice (some ⟨g, 0, none⟩) kl c)) ∧ (w'.cell? ⟨w2.heap.size, 0, none⟩ = some (.int .i64 1) ∧ w'.cell? ⟨w2.heap.size, 1, none⟩ = some (.string ⟨#[]⟩) ∧ w'.cell? ⟨w2.heap.size, 2, none⟩ = some (.string ⟨#[]⟩) ∧ w'.cell? ⟨w2.heap.size, 3, none⟩ = some (.slice y1 y2 y3) ∧ w'.cell? ⟨w2.heap.size, 4, none⟩ = some (.slice y4 kl y5)) ∧ (w'.cell? ⟨w3.heap.size, 0, none⟩ = some (.int .i64 1) ∧ w'.cell? ⟨w3.heap.size, 1, none⟩ = some (.string ⟨#[]⟩) ∧ w'.cell? ⟨w3.heap.size, 2, none⟩ = some (.string ⟨#[]⟩) ∧ w'.cell? ⟨w3.heap.size, 3, none⟩ = some (.slice s1 s2 s3) ∧ w'.cell? ⟨w3.heap.size, 4, none⟩ = some (.slice v5 (kl + 1) v6)))
        (first | with_reducible exact hS1 | with_reducible exact t3_keep HX3.out hb9 (by assumption) | assumption)
        (first | (go_at_call 11; with_reducible refine (same_t LA.out LB.out true HS1 hd1.out (by assumption)).mono ?_; rintro e w9 ⟨rfl, hb9⟩) | (go_at_call 11; with_reducible refine (same_t LA.out LC.out false HS2 hd1.out (by assumption)).mono ?_; rintro e w9 ⟨rfl, hb9⟩) | (go_at_call 10; with_reducible refine (cmp_t LA.out LB.out 0 HC1 hd1.out (by assumption)).mono ?_; rintro e w9 ⟨rfl, hb9⟩) | (go_at_call 12; with_reducible refine (size_t LC.out (z1 + 1) HZ2 hd2.out hs2.out (by assumption)).mono ?_; rintro e w9 ⟨rfl, hb9⟩) | (go_at_call 12; with_reducible refine (size_t LA.out z1 HZ1 hd1.out hs1.out (by assumption)).mono ?_; rintro e w9 ⟨rfl, hb9⟩) | (go_at_call 7; refine (awake_true _).mono ?_; rintro e w9 ⟨rfl, hb9⟩))
      rename_i hHeld
      have HHELD := Fact.mk hHeld.1
      clear hHeld
      go_wp2_with fail
      go_ret
      exact ⟨rfl, HBW'.out.trans (HHELD.out.mono HBW'.out.size)⟩
    · go_wp2_with fail
      go_region_held3 (fun w' => Below wc.heap.size wc w' ∧ (w'.cell? ⟨w1.heap.size, 0, none⟩ = some (.int .i64 1) ∧ w'.cell? ⟨w1.heap.size, 1, none⟩ = some (.string ⟨#[]⟩) ∧ w'.cell? ⟨w1.heap.size, 2, none⟩ = some (.string ⟨#[]⟩) ∧ w'.cell? ⟨w1.heap.size, 3, none⟩ = some (.slice none 0 0) ∧ w'.cell? ⟨w1.heap.size, 4, none⟩ = some (.slice (some ⟨g, 0, none⟩) kl c)) ∧ (w'.cell? ⟨w2.heap.size, 0, none⟩ = some (.int .i64 1) ∧ w'.cell? ⟨w2.heap.size, 1, none⟩ = some (.string ⟨#[]⟩) ∧ w'.cell? ⟨w2.heap.size, 2, none⟩ = some (.string ⟨#[]⟩) ∧ w'.cell? ⟨w2.heap.size, 3, none⟩ = some (.slice y1 y2 y3) ∧ w'.cell? ⟨w2.heap.size, 4, none⟩ = some (.slice y4 kl y5)) ∧ (w'.cell? ⟨w3.heap.size, 0, none⟩ = some (.int .i64 1) ∧ w'.cell? ⟨w3.heap.size, 1, none⟩ = some (.string ⟨#[]⟩) ∧ w'.cell? ⟨w3.heap.size, 2, none⟩ = some (.string ⟨#[]⟩) ∧ w'.cell? ⟨w3.heap.size, 3, none⟩ = some (.slice s1 s2 s3) ∧ w'.cell? ⟨w3.heap.size, 4, none⟩ = some (.slice v5 (kl + 1) v6)))
        (first | with_reducible exact hS0 | with_reducible exact t3_keep HX3.out hb9 (by assumption) | assumption)
        (first | (go_at_call 10; with_reducible refine (cmp_t LA.out LC.out (-1) HC hd1.out (by assumption)).mono ?_; rintro e w9 ⟨rfl, hb9⟩) | (go_at_call 10; with_reducible refine (cmp_t LC.out LA.out 1 HCN hd2.out (by assumption)).mono ?_; rintro e w9 ⟨rfl, hb9⟩))
      rename_i hHeld
      have hS1 := t3_keep HX3.out ((Below.refl _ _).drew) hHeld
      clear hS0 hHeld hb9
      go_wp2_with fail
      go_region_held3 (fun w' => Below wc.heap.size wc w' ∧ (w'.cell? ⟨w1.heap.size, 0, none⟩ = some (.int .i64 1) ∧ w'.cell? ⟨w1.heap.size, 1, none⟩ = some (.string ⟨#[]⟩) ∧ w'.cell? ⟨w1.heap.size, 2, none⟩ = some (.string ⟨#[]⟩) ∧ w'.cell? ⟨w1.heap.size, 3, none⟩ = some (.slice none 0 0) ∧ w'.cell? ⟨w1.heap.size, 4, none⟩ = some (.slice (some ⟨g, 0, none⟩) kl c)) ∧ (w'.cell? ⟨w2.heap.size, 0, none⟩ = some (.int .i64 1) ∧ w'.cell? ⟨w2.heap.size, 1, none⟩ = some (.string ⟨#[]⟩) ∧ w'.cell? ⟨w2.heap.size, 2, none⟩ = some (.string ⟨#[]⟩) ∧ w'.cell? ⟨w2.heap.size, 3, none⟩ = some (.slice y1 y2 y3) ∧ w'.cell? ⟨w2.heap.size, 4, none⟩ = some (.slice y4 kl y5)) ∧ (w'.cell? ⟨w3.heap.size, 0, none⟩ = some (.int .i64 1) ∧ w'.cell? ⟨w3.heap.size, 1, none⟩ = some (.string ⟨#[]⟩) ∧ w'.cell? ⟨w3.heap.size, 2, none⟩ = some (.string ⟨#[]⟩) ∧ w'.cell? ⟨w3.heap.size, 3, none⟩ = some (.slice s1 s2 s3) ∧ w'.cell? ⟨w3.heap.size, 4, none⟩ = some (.slice v5 (kl + 1) v6)))
        (first | with_reducible exact hS1 | with_reducible exact t3_keep HX3.out hb9 (by assumption) | assumption)
        (first | (go_at_call 11; with_reducible refine (same_t LA.out LB.out true HS1 hd1.out (by assumption)).mono ?_; rintro e w9 ⟨rfl, hb9⟩) | (go_at_call 11; with_reducible refine (same_t LA.out LC.out false HS2 hd1.out (by assumption)).mono ?_; rintro e w9 ⟨rfl, hb9⟩) | (go_at_call 10; with_reducible refine (cmp_t LA.out LB.out 0 HC1 hd1.out (by assumption)).mono ?_; rintro e w9 ⟨rfl, hb9⟩) | (go_at_call 12; with_reducible refine (size_t LC.out (z1 + 1) HZ2 hd2.out hs2.out (by assumption)).mono ?_; rintro e w9 ⟨rfl, hb9⟩) | (go_at_call 12; with_reducible refine (size_t LA.out z1 HZ1 hd1.out hs1.out (by assumption)).mono ?_; rintro e w9 ⟨rfl, hb9⟩) | (go_at_call 7; refine (awake_true _).mono ?_; rintro e w9 ⟨rfl, hb9⟩))
      rename_i hHeld
      have HHELD := Fact.mk hHeld.1
      clear hHeld
      go_wp2_with fail
      go_ret
      exact ⟨rfl, HBW'.out.trans (HHELD.out.mono HBW'.out.size)⟩
end Go.Proofs.Ytblgjmohcdioeab
