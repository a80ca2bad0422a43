/- FormatClears: the walk. -/
import Derived.Test.YtjlijpaefdbohaaDoorGG
import Derived.Deep.QuietTactic
set_option linter.unusedVariables false
set_option linter.unusedSimpArgs false
namespace Go.Proofs.YtjlijpaefdbohaaDoor
open Go.RowKit

theorem anyP_iff (zs : List Int) (x : Int) (i : Nat) (hi : i ≤ zs.length) : anyP (zs.take i) x = true ↔ ∃ j, j < i ∧ pl (zs.getD j 0) 10 = pl x 10 := by
  unfold anyP
  rw [List.any_eq_true]
  constructor
  · rintro ⟨z, hz, e⟩
    obtain ⟨j, hj, e2⟩ := List.getElem_of_mem hz
    have hj2 : j < i := by rw [List.length_take] at hj; omega
    refine ⟨j, hj2, ?_⟩
    rw [List.getElem_take] at e2
    have : zs.getD j 0 = z := by rw [← e2]; simp [show j < zs.length by omega]
    rw [this]
    simpa using e
  · rintro ⟨j, hj, e⟩
    refine ⟨zs.getD j 0, ?_, by simpa using e⟩
    have hjl : j < (zs.take i).length := by rw [List.length_take]; omega
    have : zs.getD j 0 = (zs.take i)[j] := by rw [List.getElem_take]; simp [show j < zs.length by omega]
    rw [this]
    exact List.getElem_mem _
theorem last_is {A T : List It} {k : Nat} {zs : List Int} {i : Nat} (hb : Bs T zs (i + 1)) (hi : i < zs.length) (y : Int) : (laF (A ++ mk1 :: T) (lt1 (pl y 10)) (A ++ mk1 :: T).length).isSome = anyP (zs.take (i + 1)) y := by
  rw [Bool.eq_iff_iff, la_seg A (pl y 10) (pl_lt y 10 (by omega)) T.length T rfl (fun x hx => ⟨(hb.t x hx).1, hb.some x hx⟩), hb.nm _ (pl_lt y 10 (by omega)), anyP_iff zs y (i + 1) (by omega)]
theorem IsZ.cut {n : Nat} {w : World} {a : Option Addr} {cap zl i : Nat} {zs : List Int} (h : IsZ n w (.slice a zl cap) zs) (hl : zs.length = zl) (hi : i < zl) : IsZ n w (.slice a (i + 1) cap) (zs.take (i + 1)) := by
  obtain ⟨a', cap', e, h1, h2, b, o, h3⟩ := h.h
  rw [hl] at e h1 h3
  cases e
  have hl2 : (zs.take (i + 1)).length = i + 1 := by rw [List.length_take]; omega
  refine ⟨a, cap, by rw [hl2], by omega, h2, b, o, fun j hj => ?_⟩
  rw [hl2] at hj
  obtain ⟨q1, q2, q3⟩ := h3 j (by omega)
  refine ⟨q1, q2, ?_⟩
  rw [q3, List.getD_eq_getElem?_getD, List.getD_eq_getElem?_getD, List.getElem?_take, if_pos hj]

set_option maxRecDepth 20000 in
set_option maxHeartbeats 2000000 in
theorem clears_walk (v0 : Value) (zs0 : List Int) (v1 : Value) (zs1 : List Int) (w : World) (hz0 : IsZ w.heap.size w v0 zs0) (hz1 : IsZ w.heap.size w v1 zs1) : Calls Tryd.prog 5 #[v0, v1] w fun e w' => e = .returned (.bool true) ∧ Below w.heap.size w w' := by
  have HNEW := Fact.mk (st_new w)
  obtain ⟨za, zc, ez, hza, hzb, _⟩ := hz0.h
  obtain ⟨zl, hzl⟩ : ∃ zl, zs0.length = zl := ⟨_, rfl⟩
  rw [hzl] at ez hza
  subst ez
  have HZ1 := Fact.mk hz1
  obtain ⟨ya, yc, ey, hya, hyb, yb, yo, hy3⟩ := hz1.h
  obtain ⟨yl, hyl⟩ : ∃ yl, zs1.length = yl := ⟨_, rfl⟩
  rw [hyl] at ey hya hy3
  subst ey
  have HYL := Fact.mk hyl
  have H3 := Fact.mk hy3
  unfold maxLen at hzb hyb
  clear hz0 hz1 hzl hyl hy3
  go_enter Tryd.func5, Tryd.ntmps5
  go_wp2_with (go_at_call 7; refine HNEW.out.mono ?_; rintro e w1 ⟨rfl, hs⟩; have HS1 := Fact.mk hs; clear hs HNEW)
  go_loopw [7] (fun iv wx => ∃ j : Nat, j ≤ zl ∧ j ≤ 10 ∧ iv = .int .i64 (j : Int) ∧ Fact (∃ L, St w wx L (2 * j) ∧ Row L j)) (fun iv _ => 11 - (intOf iv).toNat)
  case atStart => exact ⟨0, Nat.zero_le _, Nat.zero_le _, rfl, ⟨[], HS1.out, ⟨rfl, fun i x hx => by simp at hx⟩⟩⟩
  case round =>
    rename World => wx
    obtain ⟨j, hjz, hj10, rfl, hI⟩ := hrel
    obtain ⟨L, hs, hr⟩ := hI.out
    by_cases hgo : j < zl ∧ j < 10
    · obtain ⟨g1, g2⟩ := hgo
      have g1I : (j : Int) < (zl : Int) := by omega
      have g1d : decide ((j : Int) < (zl : Int)) = true := by simpa using g1I
      have g1n : decide (j < zl) = true := by simpa using g1
      have g2I : (j : Int) < 10 := by omega
      have g2d : decide ((j : Int) < 10) = true := by simpa using g2I
      have g2n : decide (j < 10) = true := by simpa using g2
      have hpu := st_push hs L 0 0 (1 + (j : Int)) (lt1 j) (is_lit _ (by omega)) (lt1_size ⟨j, by omega⟩) (by rw [hr.len]; exact hr.ms j (Nat.le_refl _)) (by rw [hr.len]; exact hr.ms j (Nat.le_refl _)) (by omega) (by omega) (.inl ⟨by rw [show ((0 : Nat) : Int) = 0 from rfl, hr.cnt (by omega)]; omega, rfl⟩) (by rw [hr.len]; omega) (by omega)
      have HPU : Fact (Calls Tryd.prog 24 #[pt w, .agg #[.int .i64 (1 + (j : Int)), .string (lt1 j), .slice none 0 0]] wx fun e w' => e = .returned (.tuple #[]) ∧ ∃ L, St w w' L (2 * (j + 1)) ∧ Row L (j + 1)) := ⟨by
        refine hpu.mono ?_
        rintro e w' ⟨rfl, av, h'⟩
        have hsn := hr.snoc av
        rw [show (j : Int) + 1 = 1 + (j : Int) by omega] at hsn
        exact ⟨rfl, _, h', hsn⟩⟩
      have HNM := Fact.mk (fun w' => name_any (j : Int) w')
      rw [pl_small j 10 g2] at HNM
      obtain ⟨nj, hnj⟩ : ∃ nj, lt1 j = nj := ⟨_, rfl⟩
      rw [hnj] at HNM HPU
      clear hpu hs hr hI hnj
      go_wp2_with (first
        | (go_at_call 28; refine (HNM.out _).mono ?_; rintro e w2 ⟨rfl, e2⟩; have e2' := e2.symm; subst e2')
        | (go_at_call 24; refine HPU.out.mono ?_; rintro e w2 ⟨rfl, h2⟩; have H2 := Fact.mk h2; clear h2))
      go_roundw
      case rel => exact ⟨j + 1, by omega, by omega, by go_num, H2⟩
      case measure => simp [intOf]; omega
    · have hno : (j : Int) < (zl : Int) → ¬ (j : Int) < 10 := fun h1 h2 => hgo ⟨by omega, by omega⟩
      have HS := Fact.mk hs
      have HR := Fact.mk hr
      have hml := hr.ms j (Nat.le_refl _)
      have HMK := Fact.mk (st_mark hs 0 (by rw [hr.len]; exact hml) (by omega) (by rw [hr.len]; omega) (by omega))
      have HLEN := Fact.mk (st_len hs)
      rw [hr.len] at HLEN
      clear hs hr hI hml
      by_cases g1 : j < zl
      · skip
        have g1I : (j : Int) < (zl : Int) := by omega
        have g1d : decide ((j : Int) < (zl : Int)) = true := by simpa using g1I
        have g1n : decide (j < zl) = true := by simpa using g1
        have g2I : ¬ (j : Int) < 10 := hno g1I
        have g2d : decide ((j : Int) < 10) = false := by simpa using g2I
        clear hno
        go_wp2_with (first
          | (go_at_call 29; refine HLEN.out.mono ?_; rintro e w2 ⟨rfl, e2⟩; have e2' := e2.symm; subst e2')
          | (go_at_call 11; refine HMK.out.mono ?_; rintro e w3 ⟨rfl, h3⟩; have HS3 := Fact.mk h3; clear h3))
        go_loopw [9] (fun iv wy => ∃ i : Nat, i ≤ yl ∧ i ≤ 10 ∧ iv = .int .i64 (i : Int) ∧ Fact (∃ T, St w wy (L ++ mk1 :: T) (2 * j + 1 + 2 * i) ∧ Bs T zs1 i)) (fun iv _ => 11 - (intOf iv).toNat)
        case atStart => exact ⟨0, Nat.zero_le _, Nat.zero_le _, rfl, ⟨[], HS3.out, ⟨by simp, by simp, by simp, Nat.le_refl _⟩⟩⟩
        case round =>
          rename World => wy
          obtain ⟨i, hiy, hi10, rfl, hJ⟩ := hrel
          obtain ⟨T, hs, hb⟩ := hJ.out
          by_cases hgo2 : i < yl ∧ i < 10
          · obtain ⟨k1, k2⟩ := hgo2
            have k1I : (i : Int) < (yl : Int) := by omega
            have k1d : decide ((i : Int) < (yl : Int)) = true := by simpa using k1I
            have k1n : decide (i < yl) = true := by simpa using k1
            have k2I : (i : Int) < 10 := by omega
            have k2d : decide ((i : Int) < 10) = true := by simpa using k2I
            have k2n : decide (i < 10) = true := by simpa using k2
            obtain ⟨ea, hyb', hcell⟩ := H3.out i k1
            subst ea
            obtain ⟨z, hz⟩ : ∃ z, zs1.getD i 0 = z := ⟨_, rfl⟩
            rw [hz] at hcell
            have hcy := (hs.bel.cell (p := ⟨yb, yo + i, none⟩) hyb').trans hcell
            obtain ⟨T1, hleft, ht1, hbs⟩ := hb.push HR.out (pl z 10) (pl_lt z 10 (by omega)) (by rw [hz])
            have hlT : (L ++ mk1 :: T).length < 1000 := by have h1 := HR.out.len; have h2 := hb.len; simp; omega
            have hpu := st_push hs (L ++ mk1 :: T1) 1 1 (100 + (i : Int)) (lt1 (pl z 10)) (is_lit _ (by omega)) (lt1_size ⟨pl z 10, by have := pl_lt z 10 (by omega); omega⟩) (seg_ms L T hb.t) (seg_ms L T1 ht1) (by omega) (by omega) hleft hlT (by omega)
            have HPU : Fact (Calls Tryd.prog 24 #[pt w, .agg #[.int .i64 (100 + (i : Int)), .string (lt1 (pl z 10)), .slice none 0 0]] wy fun e w' => e = .returned (.tuple #[]) ∧ w'.cell? ⟨yb, yo + i, none⟩ = some (.int .i64 z) ∧ ∃ T, St w w' (L ++ mk1 :: T) (2 * j + 1 + 2 * (i + 1)) ∧ Bs T zs1 (i + 1)) := ⟨by
              refine hpu.mono ?_
              rintro e w' ⟨rfl, av, h'⟩
              rw [List.append_assoc, List.cons_append] at h'
              exact ⟨rfl, (h'.bel.cell (p := ⟨yb, yo + i, none⟩) hyb').trans hcell, _, h', hbs _ av⟩⟩
            have HNM := Fact.mk (fun w' => name_any z w')
            obtain ⟨y, hy⟩ : ∃ y, wrap64 (z + 1) = y := ⟨_, rfl⟩
            have hyq : IntKind.i64.wrap (z + 1) = y := by rw [← hy, IntKind.wrap_i64]; unfold wrap64; omega
            have HNY := Fact.mk (fun w' => name_any y w')
            obtain ⟨nz, hnz⟩ : ∃ nz, lt1 (pl z 10) = nz := ⟨_, rfl⟩
            rw [hnz] at HPU HNM
            have HLA : Fact (∀ w' T, St w w' (L ++ mk1 :: T) (2 * j + 1 + 2 * (i + 1)) → Bs T zs1 (i + 1) → Calls Tryd.prog 15 #[pt w, .string (lt1 (pl y 10))] w' fun e w'' => ∃ id nm a n k, e = .returned (.tuple #[enV id nm (.slice a n k), .bool (anyP (zs1.take (i + 1)) y)]) ∧ St w w'' (L ++ mk1 :: T) (2 * j + 1 + 2 * (i + 1))) := ⟨fun w' T h1 h2 => st_last h1 _ _ (last_is (k := 0) h2 (by rw [HYL.out]; exact k1) y)⟩
            have HWI : Fact (∀ w', Below w.heap.size w w' → Calls Tryd.prog 30 #[.slice (some ⟨yb, yo, none⟩) (i + 1) yc, .int .i64 y] w' fun e w'' => e = .returned (.bool (anyP (zs1.take (i + 1)) y)) ∧ w'' = w') := ⟨fun w' hbw => within_any _ (zs1.take (i + 1)) y w.heap.size w' ((HZ1.out.cut HYL.out k1).below hbw (Nat.le_refl _)) _ ⟨rfl⟩⟩
            obtain ⟨ny, hny⟩ : ∃ ny, lt1 (pl y 10) = ny := ⟨_, rfl⟩
            obtain ⟨ok, hok⟩ : ∃ ok, anyP (zs1.take (i + 1)) y = ok := ⟨_, rfl⟩
            rw [hny] at HNY HLA
            rw [hok] at HLA HWI
            have HYB := Fact.mk hyb'
            have HCE := Fact.mk hcell
            have hc1 : (i : Int) + 1 ≤ (yc : Int) := by omega
            have hc0 : (0 : Int) ≤ (i : Int) + 1 := by omega
            have hwi : IntKind.i64.wrap ((i : Int) + 1) = (i : Int) + 1 := by rw [IntKind.wrap_i64]; omega
            clear hpu hs hb hJ hbs hleft ht1 hz hnz hny hok hyb' hcell hlT
            have tok1 : True := trivial
            go_wp2_with (first
              | (go_at_call 28; have _t := tok1; refine (HNM.out _).mono ?_; rintro e w2 ⟨rfl, e2⟩; have e2' := e2.symm; subst e2'; clear tok1 _t)
              | (go_at_call 28; refine (HNY.out _).mono ?_; rintro e w2 ⟨rfl, e2⟩; have e2' := e2.symm; subst e2')
              | (go_at_call 24; refine HPU.out.mono ?_; rintro e w4 ⟨rfl, hc4, T4, h4, b4⟩; have H4 := Fact.mk h4; have B4 := Fact.mk b4; clear h4 b4)
              | (go_at_call 15; refine (HLA.out _ T4 H4.out B4.out).mono ?_; rintro e w5 ⟨xid, xnm, xa, xn, xk, rfl, h5⟩; have H5 := Fact.mk (h5.alloc (.cells #[.int .i64 xid, .string xnm, .slice xa xn xk] 36)); clear h5))
            obtain ⟨w6, hw6⟩ : ∃ w6, w5.alloc (.cells #[.int .i64 xid, .string xnm, .slice xa xn xk] 36) = w6 := ⟨_, rfl⟩
            rw [hw6] at H5 ⊢
            have hc6 : w6.cell? ⟨yb, yo + i, none⟩ = some (.int .i64 z) := (H5.out.bel.cell (p := ⟨yb, yo + i, none⟩) HYB.out).trans HCE.out
            clear hw6
            refine wp_region_held_drew (S := fun U => U = w6.drew) (by kernel_rfl) rfl (fun _ => ?_)
            refine wpAnyH_take (i := 0) (v := ?v0n1) rfl (by kernel_rfl) (by kernel_rfl) (by kernel_rfl) (fun _ _ _ h => h) (Or.inl ⟨by rfl, ?hy0n1⟩) rfl ?rr0n1
            case hy0n1 =>
              intro w hSw
              subst hSw
              go_simp
              try with_reducible rfl
            try simp only [Act.put, List.getElem_toArray, List.getElem_cons_succ, List.getElem_cons_zero, List.setIfInBounds_toArray, List.set_cons_zero, List.set_cons_succ]
            refine wpAnyH_take (i := 1) (v := ?v1n2) rfl (by kernel_rfl) (by kernel_rfl) (by kernel_rfl) (fun _ _ _ h => h) (Or.inl ⟨by rfl, ?hy1n2⟩) rfl ?rr1n2
            case hy1n2 =>
              intro w hSw
              subst hSw
              go_simp
              try with_reducible rfl
            try simp only [Act.put, List.getElem_toArray, List.getElem_cons_succ, List.getElem_cons_zero, List.setIfInBounds_toArray, List.set_cons_zero, List.set_cons_succ]
            refine wpAnyH_take (i := 2) (v := ?v2n3) rfl (by kernel_rfl) (by kernel_rfl) (by kernel_rfl) (fun _ _ _ h => h) (Or.inl ⟨by rfl, ?hy2n3⟩) rfl ?rr2n3
            case hy2n3 =>
              intro w hSw
              subst hSw
              go_simp
              try with_reducible rfl
            try simp only [Act.put, List.getElem_toArray, List.getElem_cons_succ, List.getElem_cons_zero, List.setIfInBounds_toArray, List.set_cons_zero, List.set_cons_succ]
            refine wpAnyH_take (i := 3) (v := ?v3n4) rfl (by kernel_rfl) (by kernel_rfl) (by kernel_rfl) (fun _ _ _ h => h) (Or.inl ⟨by rfl, ?hy3n4⟩) rfl ?rr3n4
            case hy3n4 =>
              intro w hSw
              subst hSw
              go_simp
              try with_reducible rfl
            try simp only [Act.put, List.getElem_toArray, List.getElem_cons_succ, List.getElem_cons_zero, List.setIfInBounds_toArray, List.set_cons_zero, List.set_cons_succ]
            refine wpAnyH_take (i := 4) (v := ?v4n5) rfl (by kernel_rfl) (by kernel_rfl) (by kernel_rfl) (fun _ _ _ h => h) (Or.inl ⟨by rfl, ?hy4n5⟩) rfl ?rr4n5
            case hy4n5 =>
              intro w hSw
              subst hSw
              go_simp
              try with_reducible rfl
            try simp only [Act.put, List.getElem_toArray, List.getElem_cons_succ, List.getElem_cons_zero, List.setIfInBounds_toArray, List.set_cons_zero, List.set_cons_succ]
            refine wpAnyH_take (i := 5) (v := ?v5n6) rfl (by kernel_rfl) (by kernel_rfl) (by kernel_rfl) (fun _ _ _ h => h) (Or.inl ⟨by rfl, ?hy5n6⟩) rfl ?rr5n6
            case hy5n6 =>
              intro w hSw
              subst hSw
              go_simp
              try with_reducible rfl
            try simp only [Act.put, List.getElem_toArray, List.getElem_cons_succ, List.getElem_cons_zero, List.setIfInBounds_toArray, List.set_cons_zero, List.set_cons_succ]
            refine wpAnyH_take (i := 6) (v := ?v6n7) rfl (by kernel_rfl) (by kernel_rfl) (by kernel_rfl) (fun _ _ _ h => h) (Or.inl ⟨by rfl, ?hy6n7⟩) rfl ?rr6n7
            case hy6n7 =>
              intro w hSw
              subst hSw
              go_simp
              try with_reducible rfl
            try simp only [Act.put, List.getElem_toArray, List.getElem_cons_succ, List.getElem_cons_zero, List.setIfInBounds_toArray, List.set_cons_zero, List.set_cons_succ]
            refine wpAnyH_take (i := 7) (v := ?v7n8) rfl (by kernel_rfl) (by kernel_rfl) (by kernel_rfl) (fun _ _ _ h => h) (Or.inl ⟨by rfl, ?hy7n8⟩) rfl ?rr7n8
            case hy7n8 =>
              intro w hSw
              subst hSw
              go_simp
              try with_reducible rfl
            try simp only [Act.put, List.getElem_toArray, List.getElem_cons_succ, List.getElem_cons_zero, List.setIfInBounds_toArray, List.set_cons_zero, List.set_cons_succ]
            refine wpAnyH_take (i := 8) (v := ?v8n9) rfl (by kernel_rfl) (by kernel_rfl) (by kernel_rfl) (fun _ _ _ h => h) (Or.inl ⟨by rfl, ?hy8n9⟩) rfl ?rr8n9
            case hy8n9 =>
              intro w hSw
              subst hSw
              go_simp
              try with_reducible rfl
            try simp only [Act.put, List.getElem_toArray, List.getElem_cons_succ, List.getElem_cons_zero, List.setIfInBounds_toArray, List.set_cons_zero, List.set_cons_succ]
            refine wpAnyH_take (i := 9) (v := ?v9n10) rfl (by kernel_rfl) (by kernel_rfl) (by kernel_rfl) (fun _ _ _ h => h) (Or.inl ⟨by rfl, ?hy9n10⟩) rfl ?rr9n10
            case hy9n10 =>
              intro w hSw
              subst hSw
              go_simp
              try with_reducible rfl
            try simp only [Act.put, List.getElem_toArray, List.getElem_cons_succ, List.getElem_cons_zero, List.setIfInBounds_toArray, List.set_cons_zero, List.set_cons_succ]
            refine wpAnyH_ready (rs := [10]) (by kernel_rfl) (by simp) ?_
            refine AllReadyH.cons rfl (fun K hK => ?_) AllReadyH.nil
            go_simp
            go_at_call 30
            refine (HWI.out _ H5.out.bel.drew).mono ?_
            rintro e w' ⟨rfl, e'⟩
            have e'' := e'.symm
            subst e''
            refine hK.out _ _ rfl (fun _ => ?_)
            clear hK K
            try simp only [Act.put, List.getElem_toArray, List.getElem_cons_succ, List.getElem_cons_zero, List.setIfInBounds_toArray, List.set_cons_zero, List.set_cons_succ]
            refine wpAnyH_take (i := 11) (v := ?v11n11) rfl (by kernel_rfl) (by kernel_rfl) (by kernel_rfl) (fun _ _ _ h => h) (Or.inl ⟨by rfl, ?hy11n11⟩) rfl ?rr11n11
            case hy11n11 =>
              intro w hSw
              subst hSw
              go_simp
              try with_reducible rfl
            try simp only [Act.put, List.getElem_toArray, List.getElem_cons_succ, List.getElem_cons_zero, List.setIfInBounds_toArray, List.set_cons_zero, List.set_cons_succ]
            refine wpAnyH_done (by kernel_rfl) ?_ _
            go_wp2_with fail
            go_roundw
            case rel => exact ⟨i + 1, by omega, by omega, by go_num, ⟨T4, H5.out.below ((Below.refl _ _).drew) (Nat.le_refl _), B4.out⟩⟩
            case measure => simp [intOf]; omega
          · by_cases k1 : i < yl
            · have k1I : (i : Int) < (yl : Int) := by omega
              have k1d : decide ((i : Int) < (yl : Int)) = true := by simpa using k1I
              have k1n : decide (i < yl) = true := by simpa using k1
              have k2I : ¬ (i : Int) < 10 := fun h => hgo2 ⟨k1, by omega⟩
              have k2d : decide ((i : Int) < 10) = false := by simpa using k2I
              clear hgo2
              have HCL := Fact.mk (st_clear hs (by have h1 := HR.out.len; have h2 := hb.len; simp; omega))
              rw [cl_all L T (fun x hx => (hb.t x hx).1)] at HCL
              obtain ⟨cc, hcc⟩ : ∃ cc, 2 * j + 1 + 2 * i + (L ++ mk1 :: T).length = cc := ⟨_, rfl⟩
              rw [hcc] at HCL
              clear hs hb hJ hcc
              have tok1 : True := trivial
              by_cases hj0 : j = 0
              · have hj0d : ((j : Int) == 0) = true := by simp [hj0]
                have hj0I : (j : Int) = 0 := by omega
                have HJ0 := Fact.mk hj0I
                clear hj0 hj0I
                go_wp2_with (first
                  | (go_at_call 13; refine HCL.out.mono ?_; rintro e w7 ⟨rfl, h7⟩; have H7 := Fact.mk h7; clear h7)
                  | (go_at_call 29; refine (st_len H7.out).mono ?_; rintro e w8 ⟨rfl, e8⟩; have e8' := e8.symm; subst e8'; rw [HR.out.len])
                  | (go_at_call 27; refine (st_place H7.out 100 (-1) (plc_no 100 _ (HR.out.no 100 (.inr (by omega))))).mono ?_; rintro e w9 ⟨rfl, h9⟩; have H9 := Fact.mk h9; clear h9)
                  | (go_at_call 8; refine (awake_true _).mono ?_; rintro e w16 ⟨rfl, h16⟩; have H16 := Fact.mk h16; clear h16))
                go_ret
                exact ⟨rfl, H9.out.bel.trans (H16.out.mono H9.out.bel.size)⟩
              · have hj0d : ((j : Int) == 0) = false := by rw [beq_eq_false_iff_ne]; omega
                have hj0I : ¬ (j : Int) = 0 := by omega
                go_wp2_with (first
                  | (go_at_call 13; refine HCL.out.mono ?_; rintro e w7 ⟨rfl, h7⟩; have H7 := Fact.mk h7; clear h7)
                  | (go_at_call 29; refine (st_len H7.out).mono ?_; rintro e w8 ⟨rfl, e8⟩; have e8' := e8.symm; subst e8'; rw [HR.out.len])
                  | (go_at_call 27; have _t := tok1; refine (st_place H7.out 100 (-1) (plc_no 100 _ (HR.out.no 100 (.inr (by omega))))).mono ?_; rintro e w9 ⟨rfl, h9⟩; have H9 := Fact.mk h9; clear h9 tok1 _t)
                  | (go_at_call 27; refine (st_place H9.out 1 0 (HR.out.place 0 (by omega))).mono ?_; rintro e w10 ⟨rfl, h10⟩; have H10 := Fact.mk h10; clear h10)
                  | (go_at_call 8; refine (awake_true _).mono ?_; rintro e w16 ⟨rfl, h16⟩; have H16 := Fact.mk h16; clear h16))
                go_ret
                exact ⟨rfl, H10.out.bel.trans (H16.out.mono H10.out.bel.size)⟩
            · have k1I : ¬ (i : Int) < (yl : Int) := by omega
              have k1d : decide ((i : Int) < (yl : Int)) = false := by simpa using k1I
              have k1n : decide (i < yl) = false := by simpa using k1
              clear hgo2
              have HCL := Fact.mk (st_clear hs (by have h1 := HR.out.len; have h2 := hb.len; simp; omega))
              rw [cl_all L T (fun x hx => (hb.t x hx).1)] at HCL
              obtain ⟨cc, hcc⟩ : ∃ cc, 2 * j + 1 + 2 * i + (L ++ mk1 :: T).length = cc := ⟨_, rfl⟩
              rw [hcc] at HCL
              clear hs hb hJ hcc
              have tok1 : True := trivial
              by_cases hj0 : j = 0
              · have hj0d : ((j : Int) == 0) = true := by simp [hj0]
                have hj0I : (j : Int) = 0 := by omega
                have HJ0 := Fact.mk hj0I
                clear hj0 hj0I
                go_wp2_with (first
                  | (go_at_call 13; refine HCL.out.mono ?_; rintro e w7 ⟨rfl, h7⟩; have H7 := Fact.mk h7; clear h7)
                  | (go_at_call 29; refine (st_len H7.out).mono ?_; rintro e w8 ⟨rfl, e8⟩; have e8' := e8.symm; subst e8'; rw [HR.out.len])
                  | (go_at_call 27; refine (st_place H7.out 100 (-1) (plc_no 100 _ (HR.out.no 100 (.inr (by omega))))).mono ?_; rintro e w9 ⟨rfl, h9⟩; have H9 := Fact.mk h9; clear h9)
                  | (go_at_call 8; refine (awake_true _).mono ?_; rintro e w16 ⟨rfl, h16⟩; have H16 := Fact.mk h16; clear h16))
                go_ret
                exact ⟨rfl, H9.out.bel.trans (H16.out.mono H9.out.bel.size)⟩
              · have hj0d : ((j : Int) == 0) = false := by rw [beq_eq_false_iff_ne]; omega
                have hj0I : ¬ (j : Int) = 0 := by omega
                go_wp2_with (first
                  | (go_at_call 13; refine HCL.out.mono ?_; rintro e w7 ⟨rfl, h7⟩; have H7 := Fact.mk h7; clear h7)
                  | (go_at_call 29; refine (st_len H7.out).mono ?_; rintro e w8 ⟨rfl, e8⟩; have e8' := e8.symm; subst e8'; rw [HR.out.len])
                  | (go_at_call 27; have _t := tok1; refine (st_place H7.out 100 (-1) (plc_no 100 _ (HR.out.no 100 (.inr (by omega))))).mono ?_; rintro e w9 ⟨rfl, h9⟩; have H9 := Fact.mk h9; clear h9 tok1 _t)
                  | (go_at_call 27; refine (st_place H9.out 1 0 (HR.out.place 0 (by omega))).mono ?_; rintro e w10 ⟨rfl, h10⟩; have H10 := Fact.mk h10; clear h10)
                  | (go_at_call 8; refine (awake_true _).mono ?_; rintro e w16 ⟨rfl, h16⟩; have H16 := Fact.mk h16; clear h16))
                go_ret
                exact ⟨rfl, H10.out.bel.trans (H16.out.mono H10.out.bel.size)⟩
      · skip
        have g1I : ¬ (j : Int) < (zl : Int) := by omega
        have g1d : decide ((j : Int) < (zl : Int)) = false := by simpa using g1I
        have g1n : decide (j < zl) = false := by simpa using g1
        clear hno
        go_wp2_with (first
          | (go_at_call 29; refine HLEN.out.mono ?_; rintro e w2 ⟨rfl, e2⟩; have e2' := e2.symm; subst e2')
          | (go_at_call 11; refine HMK.out.mono ?_; rintro e w3 ⟨rfl, h3⟩; have HS3 := Fact.mk h3; clear h3))
        go_loopw [9] (fun iv wy => ∃ i : Nat, i ≤ yl ∧ i ≤ 10 ∧ iv = .int .i64 (i : Int) ∧ Fact (∃ T, St w wy (L ++ mk1 :: T) (2 * j + 1 + 2 * i) ∧ Bs T zs1 i)) (fun iv _ => 11 - (intOf iv).toNat)
        case atStart => exact ⟨0, Nat.zero_le _, Nat.zero_le _, rfl, ⟨[], HS3.out, ⟨by simp, by simp, by simp, Nat.le_refl _⟩⟩⟩
        case round =>
          rename World => wy
          obtain ⟨i, hiy, hi10, rfl, hJ⟩ := hrel
          obtain ⟨T, hs, hb⟩ := hJ.out
          by_cases hgo2 : i < yl ∧ i < 10
          · obtain ⟨k1, k2⟩ := hgo2
            have k1I : (i : Int) < (yl : Int) := by omega
            have k1d : decide ((i : Int) < (yl : Int)) = true := by simpa using k1I
            have k1n : decide (i < yl) = true := by simpa using k1
            have k2I : (i : Int) < 10 := by omega
            have k2d : decide ((i : Int) < 10) = true := by simpa using k2I
            have k2n : decide (i < 10) = true := by simpa using k2
            obtain ⟨ea, hyb', hcell⟩ := H3.out i k1
            subst ea
            obtain ⟨z, hz⟩ : ∃ z, zs1.getD i 0 = z := ⟨_, rfl⟩
            rw [hz] at hcell
            have hcy := (hs.bel.cell (p := ⟨yb, yo + i, none⟩) hyb').trans hcell
            obtain ⟨T1, hleft, ht1, hbs⟩ := hb.push HR.out (pl z 10) (pl_lt z 10 (by omega)) (by rw [hz])
            have hlT : (L ++ mk1 :: T).length < 1000 := by have h1 := HR.out.len; have h2 := hb.len; simp; omega
            have hpu := st_push hs (L ++ mk1 :: T1) 1 1 (100 + (i : Int)) (lt1 (pl z 10)) (is_lit _ (by omega)) (lt1_size ⟨pl z 10, by have := pl_lt z 10 (by omega); omega⟩) (seg_ms L T hb.t) (seg_ms L T1 ht1) (by omega) (by omega) hleft hlT (by omega)
            have HPU : Fact (Calls Tryd.prog 24 #[pt w, .agg #[.int .i64 (100 + (i : Int)), .string (lt1 (pl z 10)), .slice none 0 0]] wy fun e w' => e = .returned (.tuple #[]) ∧ w'.cell? ⟨yb, yo + i, none⟩ = some (.int .i64 z) ∧ ∃ T, St w w' (L ++ mk1 :: T) (2 * j + 1 + 2 * (i + 1)) ∧ Bs T zs1 (i + 1)) := ⟨by
              refine hpu.mono ?_
              rintro e w' ⟨rfl, av, h'⟩
              rw [List.append_assoc, List.cons_append] at h'
              exact ⟨rfl, (h'.bel.cell (p := ⟨yb, yo + i, none⟩) hyb').trans hcell, _, h', hbs _ av⟩⟩
            have HNM := Fact.mk (fun w' => name_any z w')
            obtain ⟨y, hy⟩ : ∃ y, wrap64 (z + 1) = y := ⟨_, rfl⟩
            have hyq : IntKind.i64.wrap (z + 1) = y := by rw [← hy, IntKind.wrap_i64]; unfold wrap64; omega
            have HNY := Fact.mk (fun w' => name_any y w')
            obtain ⟨nz, hnz⟩ : ∃ nz, lt1 (pl z 10) = nz := ⟨_, rfl⟩
            rw [hnz] at HPU HNM
            have HLA : Fact (∀ w' T, St w w' (L ++ mk1 :: T) (2 * j + 1 + 2 * (i + 1)) → Bs T zs1 (i + 1) → Calls Tryd.prog 15 #[pt w, .string (lt1 (pl y 10))] w' fun e w'' => ∃ id nm a n k, e = .returned (.tuple #[enV id nm (.slice a n k), .bool (anyP (zs1.take (i + 1)) y)]) ∧ St w w'' (L ++ mk1 :: T) (2 * j + 1 + 2 * (i + 1))) := ⟨fun w' T h1 h2 => st_last h1 _ _ (last_is (k := 0) h2 (by rw [HYL.out]; exact k1) y)⟩
            have HWI : Fact (∀ w', Below w.heap.size w w' → Calls Tryd.prog 30 #[.slice (some ⟨yb, yo, none⟩) (i + 1) yc, .int .i64 y] w' fun e w'' => e = .returned (.bool (anyP (zs1.take (i + 1)) y)) ∧ w'' = w') := ⟨fun w' hbw => within_any _ (zs1.take (i + 1)) y w.heap.size w' ((HZ1.out.cut HYL.out k1).below hbw (Nat.le_refl _)) _ ⟨rfl⟩⟩
            obtain ⟨ny, hny⟩ : ∃ ny, lt1 (pl y 10) = ny := ⟨_, rfl⟩
            obtain ⟨ok, hok⟩ : ∃ ok, anyP (zs1.take (i + 1)) y = ok := ⟨_, rfl⟩
            rw [hny] at HNY HLA
            rw [hok] at HLA HWI
            have HYB := Fact.mk hyb'
            have HCE := Fact.mk hcell
            have hc1 : (i : Int) + 1 ≤ (yc : Int) := by omega
            have hc0 : (0 : Int) ≤ (i : Int) + 1 := by omega
            have hwi : IntKind.i64.wrap ((i : Int) + 1) = (i : Int) + 1 := by rw [IntKind.wrap_i64]; omega
            clear hpu hs hb hJ hbs hleft ht1 hz hnz hny hok hyb' hcell hlT
            have tok1 : True := trivial
            go_wp2_with (first
              | (go_at_call 28; have _t := tok1; refine (HNM.out _).mono ?_; rintro e w2 ⟨rfl, e2⟩; have e2' := e2.symm; subst e2'; clear tok1 _t)
              | (go_at_call 28; refine (HNY.out _).mono ?_; rintro e w2 ⟨rfl, e2⟩; have e2' := e2.symm; subst e2')
              | (go_at_call 24; refine HPU.out.mono ?_; rintro e w4 ⟨rfl, hc4, T4, h4, b4⟩; have H4 := Fact.mk h4; have B4 := Fact.mk b4; clear h4 b4)
              | (go_at_call 15; refine (HLA.out _ T4 H4.out B4.out).mono ?_; rintro e w5 ⟨xid, xnm, xa, xn, xk, rfl, h5⟩; have H5 := Fact.mk (h5.alloc (.cells #[.int .i64 xid, .string xnm, .slice xa xn xk] 36)); clear h5))
            obtain ⟨w6, hw6⟩ : ∃ w6, w5.alloc (.cells #[.int .i64 xid, .string xnm, .slice xa xn xk] 36) = w6 := ⟨_, rfl⟩
            rw [hw6] at H5 ⊢
            have hc6 : w6.cell? ⟨yb, yo + i, none⟩ = some (.int .i64 z) := (H5.out.bel.cell (p := ⟨yb, yo + i, none⟩) HYB.out).trans HCE.out
            clear hw6
            refine wp_region_held_drew (S := fun U => U = w6.drew) (by kernel_rfl) rfl (fun _ => ?_)
            refine wpAnyH_take (i := 0) (v := ?v0n12) rfl (by kernel_rfl) (by kernel_rfl) (by kernel_rfl) (fun _ _ _ h => h) (Or.inl ⟨by rfl, ?hy0n12⟩) rfl ?rr0n12
            case hy0n12 =>
              intro w hSw
              subst hSw
              go_simp
              try with_reducible rfl
            try simp only [Act.put, List.getElem_toArray, List.getElem_cons_succ, List.getElem_cons_zero, List.setIfInBounds_toArray, List.set_cons_zero, List.set_cons_succ]
            refine wpAnyH_take (i := 1) (v := ?v1n13) rfl (by kernel_rfl) (by kernel_rfl) (by kernel_rfl) (fun _ _ _ h => h) (Or.inl ⟨by rfl, ?hy1n13⟩) rfl ?rr1n13
            case hy1n13 =>
              intro w hSw
              subst hSw
              go_simp
              try with_reducible rfl
            try simp only [Act.put, List.getElem_toArray, List.getElem_cons_succ, List.getElem_cons_zero, List.setIfInBounds_toArray, List.set_cons_zero, List.set_cons_succ]
            refine wpAnyH_take (i := 2) (v := ?v2n14) rfl (by kernel_rfl) (by kernel_rfl) (by kernel_rfl) (fun _ _ _ h => h) (Or.inl ⟨by rfl, ?hy2n14⟩) rfl ?rr2n14
            case hy2n14 =>
              intro w hSw
              subst hSw
              go_simp
              try with_reducible rfl
            try simp only [Act.put, List.getElem_toArray, List.getElem_cons_succ, List.getElem_cons_zero, List.setIfInBounds_toArray, List.set_cons_zero, List.set_cons_succ]
            refine wpAnyH_take (i := 3) (v := ?v3n15) rfl (by kernel_rfl) (by kernel_rfl) (by kernel_rfl) (fun _ _ _ h => h) (Or.inl ⟨by rfl, ?hy3n15⟩) rfl ?rr3n15
            case hy3n15 =>
              intro w hSw
              subst hSw
              go_simp
              try with_reducible rfl
            try simp only [Act.put, List.getElem_toArray, List.getElem_cons_succ, List.getElem_cons_zero, List.setIfInBounds_toArray, List.set_cons_zero, List.set_cons_succ]
            refine wpAnyH_take (i := 4) (v := ?v4n16) rfl (by kernel_rfl) (by kernel_rfl) (by kernel_rfl) (fun _ _ _ h => h) (Or.inl ⟨by rfl, ?hy4n16⟩) rfl ?rr4n16
            case hy4n16 =>
              intro w hSw
              subst hSw
              go_simp
              try with_reducible rfl
            try simp only [Act.put, List.getElem_toArray, List.getElem_cons_succ, List.getElem_cons_zero, List.setIfInBounds_toArray, List.set_cons_zero, List.set_cons_succ]
            refine wpAnyH_take (i := 5) (v := ?v5n17) rfl (by kernel_rfl) (by kernel_rfl) (by kernel_rfl) (fun _ _ _ h => h) (Or.inl ⟨by rfl, ?hy5n17⟩) rfl ?rr5n17
            case hy5n17 =>
              intro w hSw
              subst hSw
              go_simp
              try with_reducible rfl
            try simp only [Act.put, List.getElem_toArray, List.getElem_cons_succ, List.getElem_cons_zero, List.setIfInBounds_toArray, List.set_cons_zero, List.set_cons_succ]
            refine wpAnyH_take (i := 6) (v := ?v6n18) rfl (by kernel_rfl) (by kernel_rfl) (by kernel_rfl) (fun _ _ _ h => h) (Or.inl ⟨by rfl, ?hy6n18⟩) rfl ?rr6n18
            case hy6n18 =>
              intro w hSw
              subst hSw
              go_simp
              try with_reducible rfl
            try simp only [Act.put, List.getElem_toArray, List.getElem_cons_succ, List.getElem_cons_zero, List.setIfInBounds_toArray, List.set_cons_zero, List.set_cons_succ]
            refine wpAnyH_take (i := 7) (v := ?v7n19) rfl (by kernel_rfl) (by kernel_rfl) (by kernel_rfl) (fun _ _ _ h => h) (Or.inl ⟨by rfl, ?hy7n19⟩) rfl ?rr7n19
            case hy7n19 =>
              intro w hSw
              subst hSw
              go_simp
              try with_reducible rfl
            try simp only [Act.put, List.getElem_toArray, List.getElem_cons_succ, List.getElem_cons_zero, List.setIfInBounds_toArray, List.set_cons_zero, List.set_cons_succ]
            refine wpAnyH_take (i := 8) (v := ?v8n20) rfl (by kernel_rfl) (by kernel_rfl) (by kernel_rfl) (fun _ _ _ h => h) (Or.inl ⟨by rfl, ?hy8n20⟩) rfl ?rr8n20
            case hy8n20 =>
              intro w hSw
              subst hSw
              go_simp
              try with_reducible rfl
            try simp only [Act.put, List.getElem_toArray, List.getElem_cons_succ, List.getElem_cons_zero, List.setIfInBounds_toArray, List.set_cons_zero, List.set_cons_succ]
            refine wpAnyH_take (i := 9) (v := ?v9n21) rfl (by kernel_rfl) (by kernel_rfl) (by kernel_rfl) (fun _ _ _ h => h) (Or.inl ⟨by rfl, ?hy9n21⟩) rfl ?rr9n21
            case hy9n21 =>
              intro w hSw
              subst hSw
              go_simp
              try with_reducible rfl
            try simp only [Act.put, List.getElem_toArray, List.getElem_cons_succ, List.getElem_cons_zero, List.setIfInBounds_toArray, List.set_cons_zero, List.set_cons_succ]
            refine wpAnyH_ready (rs := [10]) (by kernel_rfl) (by simp) ?_
            refine AllReadyH.cons rfl (fun K hK => ?_) AllReadyH.nil
            go_simp
            go_at_call 30
            refine (HWI.out _ H5.out.bel.drew).mono ?_
            rintro e w' ⟨rfl, e'⟩
            have e'' := e'.symm
            subst e''
            refine hK.out _ _ rfl (fun _ => ?_)
            clear hK K
            try simp only [Act.put, List.getElem_toArray, List.getElem_cons_succ, List.getElem_cons_zero, List.setIfInBounds_toArray, List.set_cons_zero, List.set_cons_succ]
            refine wpAnyH_take (i := 11) (v := ?v11n22) rfl (by kernel_rfl) (by kernel_rfl) (by kernel_rfl) (fun _ _ _ h => h) (Or.inl ⟨by rfl, ?hy11n22⟩) rfl ?rr11n22
            case hy11n22 =>
              intro w hSw
              subst hSw
              go_simp
              try with_reducible rfl
            try simp only [Act.put, List.getElem_toArray, List.getElem_cons_succ, List.getElem_cons_zero, List.setIfInBounds_toArray, List.set_cons_zero, List.set_cons_succ]
            refine wpAnyH_done (by kernel_rfl) ?_ _
            go_wp2_with fail
            go_roundw
            case rel => exact ⟨i + 1, by omega, by omega, by go_num, ⟨T4, H5.out.below ((Below.refl _ _).drew) (Nat.le_refl _), B4.out⟩⟩
            case measure => simp [intOf]; omega
          · by_cases k1 : i < yl
            · have k1I : (i : Int) < (yl : Int) := by omega
              have k1d : decide ((i : Int) < (yl : Int)) = true := by simpa using k1I
              have k1n : decide (i < yl) = true := by simpa using k1
              have k2I : ¬ (i : Int) < 10 := fun h => hgo2 ⟨k1, by omega⟩
              have k2d : decide ((i : Int) < 10) = false := by simpa using k2I
              clear hgo2
              have HCL := Fact.mk (st_clear hs (by have h1 := HR.out.len; have h2 := hb.len; simp; omega))
              rw [cl_all L T (fun x hx => (hb.t x hx).1)] at HCL
              obtain ⟨cc, hcc⟩ : ∃ cc, 2 * j + 1 + 2 * i + (L ++ mk1 :: T).length = cc := ⟨_, rfl⟩
              rw [hcc] at HCL
              clear hs hb hJ hcc
              have tok1 : True := trivial
              by_cases hj0 : j = 0
              · have hj0d : ((j : Int) == 0) = true := by simp [hj0]
                have hj0I : (j : Int) = 0 := by omega
                have HJ0 := Fact.mk hj0I
                clear hj0 hj0I
                go_wp2_with (first
                  | (go_at_call 13; refine HCL.out.mono ?_; rintro e w7 ⟨rfl, h7⟩; have H7 := Fact.mk h7; clear h7)
                  | (go_at_call 29; refine (st_len H7.out).mono ?_; rintro e w8 ⟨rfl, e8⟩; have e8' := e8.symm; subst e8'; rw [HR.out.len])
                  | (go_at_call 27; refine (st_place H7.out 100 (-1) (plc_no 100 _ (HR.out.no 100 (.inr (by omega))))).mono ?_; rintro e w9 ⟨rfl, h9⟩; have H9 := Fact.mk h9; clear h9)
                  | (go_at_call 8; refine (awake_true _).mono ?_; rintro e w16 ⟨rfl, h16⟩; have H16 := Fact.mk h16; clear h16))
                go_ret
                exact ⟨rfl, H9.out.bel.trans (H16.out.mono H9.out.bel.size)⟩
              · have hj0d : ((j : Int) == 0) = false := by rw [beq_eq_false_iff_ne]; omega
                have hj0I : ¬ (j : Int) = 0 := by omega
                go_wp2_with (first
                  | (go_at_call 13; refine HCL.out.mono ?_; rintro e w7 ⟨rfl, h7⟩; have H7 := Fact.mk h7; clear h7)
                  | (go_at_call 29; refine (st_len H7.out).mono ?_; rintro e w8 ⟨rfl, e8⟩; have e8' := e8.symm; subst e8'; rw [HR.out.len])
                  | (go_at_call 27; have _t := tok1; refine (st_place H7.out 100 (-1) (plc_no 100 _ (HR.out.no 100 (.inr (by omega))))).mono ?_; rintro e w9 ⟨rfl, h9⟩; have H9 := Fact.mk h9; clear h9 tok1 _t)
                  | (go_at_call 27; refine (st_place H9.out 1 0 (HR.out.place 0 (by omega))).mono ?_; rintro e w10 ⟨rfl, h10⟩; have H10 := Fact.mk h10; clear h10)
                  | (go_at_call 8; refine (awake_true _).mono ?_; rintro e w16 ⟨rfl, h16⟩; have H16 := Fact.mk h16; clear h16))
                go_ret
                exact ⟨rfl, H10.out.bel.trans (H16.out.mono H10.out.bel.size)⟩
            · have k1I : ¬ (i : Int) < (yl : Int) := by omega
              have k1d : decide ((i : Int) < (yl : Int)) = false := by simpa using k1I
              have k1n : decide (i < yl) = false := by simpa using k1
              clear hgo2
              have HCL := Fact.mk (st_clear hs (by have h1 := HR.out.len; have h2 := hb.len; simp; omega))
              rw [cl_all L T (fun x hx => (hb.t x hx).1)] at HCL
              obtain ⟨cc, hcc⟩ : ∃ cc, 2 * j + 1 + 2 * i + (L ++ mk1 :: T).length = cc := ⟨_, rfl⟩
              rw [hcc] at HCL
              clear hs hb hJ hcc
              have tok1 : True := trivial
              by_cases hj0 : j = 0
              · have hj0d : ((j : Int) == 0) = true := by simp [hj0]
                have hj0I : (j : Int) = 0 := by omega
                have HJ0 := Fact.mk hj0I
                clear hj0 hj0I
                go_wp2_with (first
                  | (go_at_call 13; refine HCL.out.mono ?_; rintro e w7 ⟨rfl, h7⟩; have H7 := Fact.mk h7; clear h7)
                  | (go_at_call 29; refine (st_len H7.out).mono ?_; rintro e w8 ⟨rfl, e8⟩; have e8' := e8.symm; subst e8'; rw [HR.out.len])
                  | (go_at_call 27; refine (st_place H7.out 100 (-1) (plc_no 100 _ (HR.out.no 100 (.inr (by omega))))).mono ?_; rintro e w9 ⟨rfl, h9⟩; have H9 := Fact.mk h9; clear h9)
                  | (go_at_call 8; refine (awake_true _).mono ?_; rintro e w16 ⟨rfl, h16⟩; have H16 := Fact.mk h16; clear h16))
                go_ret
                exact ⟨rfl, H9.out.bel.trans (H16.out.mono H9.out.bel.size)⟩
              · have hj0d : ((j : Int) == 0) = false := by rw [beq_eq_false_iff_ne]; omega
                have hj0I : ¬ (j : Int) = 0 := by omega
                go_wp2_with (first
                  | (go_at_call 13; refine HCL.out.mono ?_; rintro e w7 ⟨rfl, h7⟩; have H7 := Fact.mk h7; clear h7)
                  | (go_at_call 29; refine (st_len H7.out).mono ?_; rintro e w8 ⟨rfl, e8⟩; have e8' := e8.symm; subst e8'; rw [HR.out.len])
                  | (go_at_call 27; have _t := tok1; refine (st_place H7.out 100 (-1) (plc_no 100 _ (HR.out.no 100 (.inr (by omega))))).mono ?_; rintro e w9 ⟨rfl, h9⟩; have H9 := Fact.mk h9; clear h9 tok1 _t)
                  | (go_at_call 27; refine (st_place H9.out 1 0 (HR.out.place 0 (by omega))).mono ?_; rintro e w10 ⟨rfl, h10⟩; have H10 := Fact.mk h10; clear h10)
                  | (go_at_call 8; refine (awake_true _).mono ?_; rintro e w16 ⟨rfl, h16⟩; have H16 := Fact.mk h16; clear h16))
                go_ret
                exact ⟨rfl, H10.out.bel.trans (H16.out.mono H10.out.bel.size)⟩
end Go.Proofs.YtjlijpaefdbohaaDoor
