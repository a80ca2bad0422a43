/- Grown: a tree by numbers. -/
import Derived.Test.YtibagbnnplpfgaaDoorGrow
set_option linter.unusedVariables false
namespace Go.Proofs.YtibagbnnplpfgaaDoor
open Go.Deep (BT)
open Go.RowKit M
attribute [local go_sem ↓] Go.wp_at_zero Go.wp_at_succ

theorem grown_any : GrP 1 := by
  have h6 : GrP 6 := grown_step 6 (by omega) (fun h => by omega)
  have h5 : GrP 5 := grown_step 5 (by omega) (fun _ => h6)
  have h4 : GrP 4 := grown_step 4 (by omega) (fun _ => h5)
  have h3 : GrP 3 := grown_step 3 (by omega) (fun _ => h4)
  have h2 : GrP 2 := grown_step 2 (by omega) (fun _ => h3)
  exact grown_step 1 (by omega) (fun _ => h2)

/-- a Root without kids -/
abbrev rootD : Nd := ⟨1, ⟨#[]⟩, ⟨#[]⟩, []⟩
/-- what a tree by numbers is -/
structure GTree (k : M.F) : Prop where
  ok : gOK k
  deep : k.depth ≤ 6
  most : k.size ≤ 40
  some_ : 1 ≤ k.len
theorem GTree.fine {k : M.F} (h : GTree k) : treeOK rootD k = true := by
  have h1 := gOK.fit k 2 h.ok (by have := h.deep; omega)
  have h2 := h.most
  have e3 : fits ⟨1, rootD, k⟩ = true := by
    show (decide (1 ≤ 60) && mayOK rootD k.len 1) = true
    unfold mayOK
    rfl
  unfold treeOK
  rw [decide_eq_true (show rootD.k = 1 from rfl), decide_eq_true (by omega)]
  show (fits ⟨1, rootD, k⟩ && (pre 2 k ++ []).all fits) = true
  have h1' : (pre 2 k).all fits = true := h1
  rw [e3, List.append_nil, h1']; rfl

set_option maxRecDepth 20000 in
set_option maxHeartbeats 2000000 in
theorem Grown_any (v : Value) (ln n0 : Nat) (w : World) (hl : IsL n0 w v ln) (hn : n0 ≤ w.heap.size) :
    Calls Tryd.prog 19 #[v] w fun e w' => ∃ k a c, e = .returned (nodeV rootD (.slice none 0 0) (.slice a k.len c)) ∧ Fact (GTree k) ∧ Below w.heap.size w w' ∧ FL (fun b => w.heap.size ≤ b) w' (.slice a k.len c) k := by
  obtain ⟨a, cap, rfl, h1, h2, h3⟩ := hl.h
  obtain ⟨W1, hW1⟩ : ∃ W1, (((w.alloc (.cells #[.int .i64 0, .string ⟨#[]⟩, .string ⟨#[]⟩, .slice none 0 0, .slice none 0 0] 25)).alloc (.cells #[.int .i64 0] 3)).alloc (.cells #[.int .i64 0] 3)).alloc (.cells #[.int .i64 1, .string ⟨#[]⟩, .string ⟨#[]⟩, .slice none 0 0, .slice none 0 0] 25) = W1 := ⟨_, rfl⟩
  have hB1 : Below w.heap.size w W1 := by rw [← hW1]; exact ((((Below.refl _ w).alloc (Nat.le_refl _) _).alloc (by simp) _).alloc (by simp <;> omega) _).alloc (by simp <;> omega) _
  have hz1 : W1.heap.size = w.heap.size + 4 := by rw [← hW1]; simp
  have hR1 : Five W1 w.heap.size (.int .i64 0) (.string ⟨#[]⟩) (.string ⟨#[]⟩) (.slice none 0 0) (.slice none 0 0) := by
    rw [← hW1]
    exact (((Five.new w _ _ _ _ _ 25).same (Below.heap_alloc _ _ _ (by simp))).same (Below.heap_alloc _ _ _ (by simp <;> omega))).same (Below.heap_alloc _ _ _ (by simp <;> omega))
  have hT1 : Five W1 (w.heap.size + 3) (.int .i64 1) (.string ⟨#[]⟩) (.string ⟨#[]⟩) (.slice none 0 0) (.slice none 0 0) := by
    rw [← hW1]
    have := Five.new (((w.alloc (.cells #[.int .i64 0, .string ⟨#[]⟩, .string ⟨#[]⟩, .slice none 0 0, .slice none 0 0] 25)).alloc (.cells #[.int .i64 0] 3)).alloc (.cells #[.int .i64 0] 3)) (.int .i64 1) (.string ⟨#[]⟩) (.string ⟨#[]⟩) (.slice none 0 0) (.slice none 0 0) 25
    simp only [World.size_alloc] at this
    exact this
  have cnew : ∀ (W : World) (b : Nat), W.heap.size = b → Cnt (W.alloc (.cells #[.int .i64 0] 3)) b 0 := fun W b hb => by
    subst hb
    exact ⟨World.cell?_alloc_new W _ _ 0, World.frozen?_alloc_new _ _ _ _⟩
  have hA1 : Cnt W1 (w.heap.size + 1) 0 := by
    rw [← hW1]
    exact ((cnew _ (w.heap.size + 1) (by simp)).same (Below.heap_alloc _ _ _ (by simp))).same (Below.heap_alloc _ _ _ (by simp <;> omega))
  have hN1 : Cnt W1 (w.heap.size + 1 + 1) 0 := by
    rw [← hW1]
    exact (cnew _ (w.heap.size + 1 + 1) (by simp)).same (Below.heap_alloc _ _ _ (by simp))
  have HL1 := Fact.mk (hl.below (hB1.mono hn))
  have HW1 := Fact.mk hW1
  have HB1 := Fact.mk hB1
  have HR1 := Fact.mk hR1
  have HT1 := Fact.mk hT1
  have HN1 := Fact.mk hN1
  have HA1 := Fact.mk hA1
  clear hW1 hB1 hR1 hT1 hN1 hA1 hl h3 cnew
  go_enter Tryd.func19, Tryd.ntmps19
  go_wp2_with fail
  rw [HW1.out]
  refine (next_any _ ln n0 (w.heap.size + 1) 0 W1 HL1.out (by omega) HA1.out (by omega)).mono ?_
  rintro e w2 ⟨r, c', rfl, hr, hk2, hcn2, hc2⟩
  obtain ⟨j0, hj0⟩ : ∃ j, r % 4 + 1 = j := ⟨_, rfl⟩
  have hj01 : 1 ≤ j0 := by omega
  have hj04 : j0 ≤ 4 := by omega
  have hj0I : (r : Int) % 4 = (j0 : Int) - 1 := by omega
  have hz2 : w.heap.size + 4 ≤ w2.heap.size := by have := hk2.size; omega
  have HK2 := Fact.mk hk2
  have HN2 := Fact.mk (HN1.out.keep hk2 (by omega))
  have HR2 := Fact.mk (HR1.out.same (hk2.block _ (by omega) (by omega)))
  have HT2 := Fact.mk (HT1.out.same (hk2.block _ (by omega) (by omega)))
  have HA2 := Fact.mk hcn2
  have HL2 := Fact.mk (HL1.out.below (hk2.below (by omega) |>.mono (by omega)))
  have HJ := Fact.mk hj0I
  clear hk2 hcn2 HN1 HR1 HT1 HA1 HL1 HW1 hj0 hr hj0I
  go_wp2_with fail
  go_loopg [6] 4 (fun gf iv wr => ∃ (j M : Nat) (rs : List Nw) (v : Value) (c3 : Nat), iv = .int .i64 ((j : Int) - 1) ∧ j ≤ gf ∧ j ≤ 4 ∧ M ≤ 40 ∧ c3 ≤ M + 1 ∧ (rs = [] → 1 ≤ j ∧ M = 0) ∧ Fact (RowAt w2.heap.size (w.heap.size + 3) wr rootD (.slice none 0 0) v rs ∧ KA (w.heap.size + 1) (w.heap.size + 3) w2 wr ∧ Cnt wr (w.heap.size + 1) c3 ∧ Cnt wr (w.heap.size + 1 + 1) M ∧ GRs 0 rs ∧ M = 0 + rsz rs))
  case atStart =>
    exact ⟨j0, 0, [], .slice none 0 0, c', by rw [HJ.out], hj04, hj04, by omega, by omega, fun _ => ⟨hj01, rfl⟩, ⟨⟨HT2.out, World.ownsRow_nil _ _ _ _, fun r hr => absurd hr (List.not_mem_nil), by omega, Nat.le_refl _⟩, KA.refl _ _ _, HA2.out, HN2.out, fun r hr => absurd hr (List.not_mem_nil), rfl⟩⟩
  case round =>
    clear HJ hj01 hj04
    obtain ⟨j, M, rs, v, c3, rfl, hfu, hj4, hM, hc3, hne, hx⟩ := hrel
    obtain ⟨hrow, hka, hcA, hcN, hgr, hMe⟩ := hx.out
    obtain ⟨q0, q1, q2, q3, q4, qf⟩ := id hrow.five
    obtain ⟨va, vc, rfl⟩ := own_shape hrow.own
    obtain ⟨i, hrs⟩ : ∃ i, rs.length = i := ⟨_, rfl⟩
    rw [hrs] at q4 hrow
    have cN := hcN.c
    have HROW := Fact.mk hrow
    have HKA := Fact.mk hka
    have HCA := Fact.mk hcA
    have HCN := Fact.mk hcN
    have HGR := Fact.mk hgr
    have HME := Fact.mk hMe
    have HRS := Fact.mk hrs
    have HNE := Fact.mk hne
    clear hx hrow hka hcA hcN hgr hMe hrs hne
    by_cases hgo : 1 ≤ j ∧ M < 40
    · obtain ⟨hj, hM40⟩ := hgo
      obtain ⟨g', rfl⟩ : ∃ g', gk = g' + 1 := ⟨gk - 1, by omega⟩
      have hjI : (0 : Int) ≤ (j : Int) - 1 := by omega
      have hMI : (M : Int) < 40 := by omega
      have hjB : decide ((0 : Int) ≤ (j : Int) - 1) = true := decide_eq_true hjI
      have hMB : decide ((M : Int) < 40) = true := decide_eq_true hMI
      have hYr : w.heap.size + 3 < wr.heap.size := by have := HROW.out.size; omega
      have hwr : w2.heap.size ≤ wr.heap.size := HROW.out.size
      have hi40 : i ≤ 40 := by
        have h1 : i ≤ rsz rs := by rw [← HRS.out, ← forF_len rs, ← forF_size]; exact len_size _
        have := HME.out; omega
      have hcall := grown_any (.slice a ln cap) ln n0 (w.heap.size + 1) c3 M wr.drew (HL2.out.below (HKA.out.below (by omega) (by omega) (by omega)).drew) (by omega) (by show w.heap.size + 1 + 2 ≤ wr.heap.size; omega) (HCA.out.same rfl) (HCN.out.same rfl) (by omega) hc3
      have HCALL := Fact.mk hcall
      obtain ⟨i0, hii, hzz0, hzz1, hzz2⟩ := info_parts infoN
      clear hcall hM40 qf HL2 HR2 HT2
      go_wp2_with fail
      go_region_law (first
        | (refine wp_append_at _ (.tmp 20) (.tmp 23) 23 rfl w2.heap.size 25 i0 (.agg #[.int .i64 0, .string ⟨#[]⟩, .string ⟨#[]⟩, .slice none 0 0, .slice none 0 0]) 5 88 Tryd.underlying23 hii hzz0 hzz1 hzz2 rfl (by decide) (.slice va i vc) i (rowF rs) (by simp [Act.eval]) (HO5.out.alloc _) ⟨w5.heap.size, 0, none⟩ 1 1 [.int .i64 d5.k, .string d5.n, .string d5.x, .slice y1 y2 y3, .slice z1 kl5 z3] (by simp [Act.eval]) rfl (cell_five_new _ _ _ _ _ _ _) (by simp [Value.oneCell']) (by unfold maxLen; omega) (by omega) (by simp <;> omega) ?_; intro v3 w3 hown3 hgrow3 hat3; obtain ⟨g2, cap2, rfl, hg2⟩ := own_succ hown3; have HO3 := Fact.mk hown3; have HG3 := Fact.mk hgrow3; have HAT3 := Fact.mk hat3; clear hown3 hgrow3 hat3; have hT3 : w3.heap[w.heap.size + 3]? = wr.heap[w.heap.size + 3]? := (HG3.out.block (w.heap.size + 3) (by simp <;> omega) (fun e => by have := (HROW.out.blk (w.heap.size + 3) e).1; omega)).trans ((Below.heap_alloc _ _ _ (by omega)).trans (HG5.out.keep.block (w.heap.size + 3) hYr (.inr (by omega)))); have s4 := (HROW.out.five.same hT3).c4; have t4 := (HROW.out.five.same hT3).fz 4; clear hT3)
        | (go_simp; go_at_call 32; refine HCALL.out.mono ?_; rintro e w5 ⟨d5, k5, av5, kv5, c5, rfl, hg5⟩; obtain ⟨y1, y2, y3, ey⟩ := hg5.a.val; subst ey; obtain ⟨kl5, hkl5⟩ : ∃ l, k5.len = l := ⟨_, rfl⟩; obtain ⟨z1, z3, ez⟩ := hg5.f.val; rw [hkl5] at ez; subst ez; have m4 : w5.cell? ⟨w.heap.size + 3, 4, none⟩ = some (.slice va i vc) := hg5.keep.cell (w := wr.drew) q4 (.inr (by omega)); have m6 : ∀ o, (w5.alloc o).cell? ⟨w.heap.size + 3, 4, none⟩ = some (.slice va i vc) := fun o => (World.cell?_alloc_lt _ _ _ (World.block_lt_of_cell? w5 _ m4)).trans m4; have hz5 : wr.heap.size ≤ w5.heap.size := hg5.keep.size; have HO5 : Fact (w5.ownsRow w2.heap.size 25 5 (.slice va i vc) i (rowF rs)) := ⟨own_like (w := wr) (HRS.out ▸ HROW.out.own) (fun k hk hz => hg5.keep.block k hz (.inr (by omega)))⟩; have HG5 := Fact.mk hg5; have HKL5 := Fact.mk hkl5; clear hg5 hkl5))
      all_goals
        clear m4 m6 HCALL
        go_wp2_with fail
        go_roundg g'
        case measure => omega
        case rel =>
          obtain ⟨j', rfl⟩ : ∃ j', j = j' + 1 := ⟨j - 1, by omega⟩
          refine ⟨j', M + 1 + k5.size, rs ++ [⟨d5, k5, .slice y1 y2 y3, .slice z1 kl5 z3⟩], .slice (some ⟨g2, 0, none⟩) (i + 1) cap2, c5, by first | rfl | go_num, by omega, by omega, HG5.out.most, HG5.out.cm, fun h => by simp at h, ⟨?_⟩⟩
          exact kid_step (by omega) (HRS.out ▸ HROW.out) HKA.out HGR.out HME.out (HKL5.out ▸ HG5.out) (by rw [HRS.out]; exact HO3.out) HG3.out HAT3.out
    · have hR : Five wr w.heap.size (.int .i64 0) (.string ⟨#[]⟩) (.string ⟨#[]⟩) (.slice none 0 0) (.slice none 0 0) := HR2.out.same (HKA.out.block _ (by omega) (by omega) (by omega) (by omega))
      obtain ⟨r0, r1, r2, r3, r4, rfz⟩ := id hR
      have rf0 := rfz 0
      have rf1 := rfz 1
      have rf2 := rfz 2
      have rf3 := rfz 3
      have rf4 := rfz 4
      have H5 := Fact.mk (five_all hR (.int .i64 1) (.string ⟨#[]⟩) (.string ⟨#[]⟩) (.slice none 0 0) (.slice va i vc))
      have hlen : (forF rs).len = i := by rw [forF_len]; exact HRS.out
      have HG : Fact (GTree (forF rs)) := ⟨⟨HGR.out.ok, by have := HGR.out.deep (by omega); omega, by rw [forF_size]; have := HME.out; omega, by
        rw [hlen]
        rcases Nat.eq_zero_or_pos i with h0 | h0
        · have he : rs = [] := List.eq_nil_of_length_eq_zero (by rw [HRS.out]; exact h0)
          have := HNE.out he
          omega
        · exact h0⟩⟩
      have HE : Fact (Below w.heap.size w (((((wr.setCell ⟨w.heap.size, 0, none⟩ (.int .i64 1)).setCell ⟨w.heap.size, 1, none⟩ (.string ⟨#[]⟩)).setCell ⟨w.heap.size, 2, none⟩ (.string ⟨#[]⟩)).setCell ⟨w.heap.size, 3, none⟩ (.slice none 0 0)).setCell ⟨w.heap.size, 4, none⟩ (.slice va i vc)) ∧ FL (fun b => w.heap.size ≤ b) (((((wr.setCell ⟨w.heap.size, 0, none⟩ (.int .i64 1)).setCell ⟨w.heap.size, 1, none⟩ (.string ⟨#[]⟩)).setCell ⟨w.heap.size, 2, none⟩ (.string ⟨#[]⟩)).setCell ⟨w.heap.size, 3, none⟩ (.slice none 0 0)).setCell ⟨w.heap.size, 4, none⟩ (.slice va i vc)) (.slice va i vc) (forF rs)) := by
        obtain ⟨W5, hW5⟩ : ∃ W5, (((((wr.setCell ⟨w.heap.size, 0, none⟩ (.int .i64 1)).setCell ⟨w.heap.size, 1, none⟩ (.string ⟨#[]⟩)).setCell ⟨w.heap.size, 2, none⟩ (.string ⟨#[]⟩)).setCell ⟨w.heap.size, 3, none⟩ (.slice none 0 0)).setCell ⟨w.heap.size, 4, none⟩ (.slice va i vc)) = W5 := ⟨_, rfl⟩
        have hoth : ∀ b, b ≠ w.heap.size → W5.heap[b]? = wr.heap[b]? := fun b hb => by
          rw [← hW5]; exact five_other wr w.heap.size hb _ _ _ _ _
        have hB : Below w.heap.size wr W5 := by
          rw [← hW5]
          exact (((((Below.refl _ wr).setCell (p := ⟨w.heap.size, 0, none⟩) (Nat.le_refl _) _).setCell (p := ⟨w.heap.size, 1, none⟩) (Nat.le_refl _) _).setCell (p := ⟨w.heap.size, 2, none⟩) (Nat.le_refl _) _).setCell (p := ⟨w.heap.size, 3, none⟩) (Nat.le_refl _) _).setCell (p := ⟨w.heap.size, 4, none⟩) (Nat.le_refl _) _
        rw [hW5]
        refine ⟨⟨?_, ?_⟩⟩
        · have hBw : Below w.heap.size w w2 := HB1.out.trans ((HK2.out.below (by omega)).mono (by omega))
          exact hBw.trans ((⟨HKA.out.os, HKA.out.tape, HKA.out.output, HKA.out.size, fun b hb => HKA.out.block b (by omega) (by omega) (by omega) (by omega)⟩ : Below w.heap.size w2 wr).trans hB)
        · have hx := HROW.out.out
          exact (hx.like (w' := W5) (fun b hb hz => hoth b (by have := hb.1; omega))).mono (fun b hb => by have := hb.1; omega)
      have HLEN := Fact.mk hlen
      clear rfz qf hR hlen
      by_cases hj : 1 ≤ j
      · have hM40 : ¬ M < 40 := fun h => hgo ⟨hj, h⟩
        have hjI : (0 : Int) ≤ (j : Int) - 1 := by omega
        have hMI : ¬ (M : Int) < 40 := by omega
        have hMB : decide ((M : Int) < 40) = false := decide_eq_false hMI
        have hjB : decide ((0 : Int) ≤ (j : Int) - 1) = true := decide_eq_true hjI
        clear hgo
        go_wp2_with fail
        have h5 := H5.out
        refine bodyPost_ret (v := nodeV rootD (.slice none 0 0) (.slice va i vc)) (by simp [results, go_sem, h5.c0, h5.c1, h5.c2, h5.c3, h5.c4]) rfl ?_
        exact ⟨forF rs, va, vc, by rw [HLEN.out], HG, HE.out.1, by rw [HLEN.out]; exact HE.out.2⟩
      · have hjI : ¬ (0 : Int) ≤ (j : Int) - 1 := by omega
        have hjB : decide ((0 : Int) ≤ (j : Int) - 1) = false := decide_eq_false hjI
        clear hgo
        go_wp2_with fail
        have h5 := H5.out
        refine bodyPost_ret (v := nodeV rootD (.slice none 0 0) (.slice va i vc)) (by simp [results, go_sem, h5.c0, h5.c1, h5.c2, h5.c3, h5.c4]) rfl ?_
        exact ⟨forF rs, va, vc, by rw [HLEN.out], HG, HE.out.1, by rw [HLEN.out]; exact HE.out.2⟩
end Go.Proofs.YtibagbnnplpfgaaDoor
