/- What compareAttrs answers. -/
import Derived.Test.YtkojhgagkoeeiaaCmp
import Derived.BigQuiet
import Derived.ChangeKeysEq
import Derived.BigRegion
set_option linter.unusedVariables false
namespace Go.Proofs.Ytkojhgagkoeeiaa
open Go.Deep (BT)
open Go.RowKit M

theorem ca_drop (l m : List (ByteArray × ByteArray)) (i : Nat) (h1 : i < l.length) (h2 : i < m.length) : ca (l.drop i) (m.drop i) = orI (cp (bs l i) (bs m i)) (ca (l.drop (i + 1)) (m.drop (i + 1))) := by
  rw [List.drop_eq_getElem_cons h1, List.drop_eq_getElem_cons h2, ← bs_get l i h1, ← bs_get m i h2]; rfl
theorem ca_end (l m : List (ByteArray × ByteArray)) (i : Nat) (h : i = l.length ∨ i = m.length) (h1 : i ≤ l.length) (h2 : i ≤ m.length) : ca (l.drop i) (m.drop i) = ci l.length m.length := by
  have e1 : (l.drop i).length = l.length - i := List.length_drop
  have e2 : (m.drop i).length = m.length - i := List.length_drop
  rcases hx : l.drop i with _ | ⟨p, x⟩ <;> rcases hy : m.drop i with _ | ⟨q, y⟩ <;> rw [hx] at e1 <;> rw [hy] at e2 <;> simp only [List.length_nil, List.length_cons] at e1 e2 <;> unfold ca ci
  · rw [if_neg (by omega), if_neg (by omega)]
  · rw [if_pos (by omega)]
  · rw [if_neg (by omega), if_pos (by omega)]
  · omega

/-- where a slice of attributes lies -/
theorem AS.place {n : Nat} {w : World} {v : Value} {l : List (ByteArray × ByteArray)} (h : AS (Old n) w v l) :
    ∃ a cap b o, v = .slice a l.length cap ∧ l.length ≤ cap ∧ cap ≤ maxLen ∧ ∀ i, i < l.length → a = some ⟨b, o, none⟩ ∧ b < n ∧ w.cell? ⟨b, o + i * 2, none⟩ = some (.string (bs l i).1) ∧ w.cell? ⟨b, o + i * 2 + 1, none⟩ = some (.string (bs l i).2) := by
  obtain ⟨a, cap, e, h1, h2, h3⟩ := h
  rcases h3 with rfl | ⟨b, o, ea, hS, hc⟩
  · exact ⟨a, cap, 0, 0, e, h1, h2, fun i hi => absurd hi (Nat.not_lt_zero _)⟩
  · exact ⟨a, cap, b, o, e, h1, h2, fun i hi => ⟨ea, hS, by rw [← bs_get l i hi]; exact (hc i hi).1, by rw [← bs_get l i hi]; exact (hc i hi).2⟩⟩

theorem or2 (w : World) (B : Nat) (a b : Int) (hB : w.heap.size = B) :
    Calls Try.prog 77 #[.slice (some ⟨B, 0, none⟩) 2 2] (w.alloc (.cells #[.int .i64 a, .int .i64 b] 3)) fun e w' => e = .returned (.int .i64 (orL [a, b])) ∧ w' = w.alloc (.cells #[.int .i64 a, .int .i64 b] 3) := by
  subst hB
  refine or_any ⟨w.heap.size, 0, none⟩ 2 2 [a, b] _ rfl (by decide) ?_
  intro i hi
  have hi3 : i < 2 := hi
  rcases (by omega : i = 0 ∨ i = 1) with rfl | rfl
  · exact World.cell?_alloc_new w _ _ 0
  · exact World.cell?_alloc_new w _ _ 1
theorem keepA {w W : World} {o : Obj} {b1 o1 b2 o2 : Nat} {v0 v1 v2 v3 : Value} (h : (Below w.heap.size w W) ∧ (W.cell? ⟨b1, o1, none⟩ = some v0 ∧ W.cell? ⟨b1, o1 + 1, none⟩ = some v1) ∧ (W.cell? ⟨b2, o2, none⟩ = some v2 ∧ W.cell? ⟨b2, o2 + 1, none⟩ = some v3)) :
    (Below w.heap.size w (W.alloc o)) ∧ ((W.alloc o).cell? ⟨b1, o1, none⟩ = some v0 ∧ (W.alloc o).cell? ⟨b1, o1 + 1, none⟩ = some v1) ∧ ((W.alloc o).cell? ⟨b2, o2, none⟩ = some v2 ∧ (W.alloc o).cell? ⟨b2, o2 + 1, none⟩ = some v3) := by
  have hk : ∀ b x v, W.cell? ⟨b, x, none⟩ = some v → (W.alloc o).cell? ⟨b, x, none⟩ = some v := fun b x v hc => (World.cell?_alloc_lt _ _ _ (World.block_lt_of_cell? W _ hc)).trans hc
  exact ⟨h.1.alloc h.1.size _, ⟨hk _ _ _ h.2.1.1, hk _ _ _ h.2.1.2⟩, hk _ _ _ h.2.2.1, hk _ _ _ h.2.2.2⟩
theorem guardA : Try.prog.eqGuardType Try.prog.depth 95 = false := by kernel_rfl
theorem stoodA : Try.prog.stoodInHeld 95 = false := by kernel_rfl
theorem plainS : Try.prog.plainKey 9 = true := by kernel_rfl
/-- attributes as structs that are compared -/
theorem eqA (N1 V1 N2 V2 : ByteArray) (W : World) : (Op.equalIn 10000 95 (.agg #[.string N1, .string V1]) (.agg #[.string N2, .string V2])).run Try.prog W = .ok (N1.toList == N2.toList && V1.toList == V2.toList) W := by
  have hu : Try.prog.underlying 95 = some (.struct (Try.prog.fieldsOf 95)) := by
    unfold Program.fieldsOf; rw [Try.underlying95]
  rw [run_equalIn_struct W 9999 95 _ _ hu stoodA]
  unfold Program.fieldsOf
  rw [Try.underlying95]
  simp only [Op.eqFields]
  rw [if_pos (by decide), if_pos (by decide)]
  simp only [Sem.run_bind]
  rw [run_part_plain W plainS (v := .string N1) rfl]
  simp only [Result.andThen_ok]
  rw [run_part_plain W plainS (v := .string N2) rfl]
  simp only [Result.andThen_ok]
  rw [run_equalIn_string W 9998 9 N1 N2 Try.underlying9]
  simp only [Result.andThen_ok]
  cases hN : (N1.toList == N2.toList)
  · simp
  · simp only [Bool.not_true, Bool.false_eq_true, if_false, Sem.run_bind]
    rw [run_part_plain W plainS (v := .string V1) rfl]
    simp only [Result.andThen_ok]
    rw [run_part_plain W plainS (v := .string V2) rfl]
    simp only [Result.andThen_ok]
    rw [run_equalIn_string W 9998 9 V1 V2 Try.underlying9]
    simp only [Result.andThen_ok]
    cases hV : (V1.toList == V2.toList)
    · simp
    · simp

set_option maxRecDepth 20000 in
set_option maxHeartbeats 4000000 in
theorem compareAttrs_any (l m : List (ByteArray × ByteArray)) (va vb : Value) (n : Nat) (w : World) (ha : AS (Old n) w va l) (hb : AS (Old n) w vb m) (hn : n ≤ w.heap.size) :
    Calls Try.prog 79 #[va, vb] w fun e w' => e = .returned (.int .i64 (ca l m)) ∧ Below w.heap.size w w' := by
  obtain ⟨a1, c1, b1, o1, rfl, hc1, hm1, h1⟩ := ha.place
  obtain ⟨a2, c2, b2, o2, rfl, hc2, hm2, h2⟩ := hb.place
  have H1 := Fact.mk h1
  have H2 := Fact.mk h2
  clear h1 h2 ha hb
  have HD := ca_drop l m
  have HE := ca_end l m
  obtain ⟨al, hal⟩ : ∃ al, l.length = al := ⟨_, rfl⟩
  obtain ⟨bl, hbl⟩ : ∃ bl, m.length = bl := ⟨_, rfl⟩
  rw [hal] at H1 hc1 HD HE ⊢
  rw [hbl] at H2 hc2 HD HE ⊢
  clear hal hbl
  have HD' := Fact.mk HD
  have HE' := Fact.mk HE
  clear HD HE
  unfold maxLen at hm1 hm2
  by_cases hle : al ≤ bl
  · go_enter Try.func79, Try.ntmps79
    go_wp2_with fail
    go_loopg [11] al (fun gf iv wr => ∃ i : Nat, iv = .int .i64 i ∧ i ≤ al ∧ al ≤ i + gf ∧ Fact (Below w.heap.size w wr) ∧ Fact (ca (l.drop i) (m.drop i) = ca l m))
    case atStart => exact ⟨0, rfl, Nat.zero_le _, by omega, ⟨Below.refl _ _⟩, ⟨rfl⟩⟩
    case round =>
      obtain ⟨i, rfl, hi, hfu, hBr, hf⟩ := hrel
      by_cases hlt : i < al
      · obtain ⟨g', rfl⟩ : ∃ g', gk = g' + 1 := ⟨gk - 1, by omega⟩
        obtain ⟨ea1, hb1, y0, y1⟩ := H1.out i hlt
        obtain ⟨ea2, hb2, z0, z1⟩ := H2.out i (by omega)
        have hd := HD'.out i hlt (by omega)
        subst ea1 ea2
        obtain ⟨⟨N1, V1⟩, hp⟩ : ∃ p, bs l i = p := ⟨_, rfl⟩
        obtain ⟨⟨N2, V2⟩, hq⟩ : ∃ q, bs m i = q := ⟨_, rfl⟩
        rw [hp] at y0 y1 hd
        rw [hq] at z0 z1 hd
        have y0' := (hBr.out.cell (p := ⟨b1, o1 + i * 2, none⟩) (by show b1 < _; omega)).trans y0
        have y1' := (hBr.out.cell (p := ⟨b1, o1 + i * 2 + 1, none⟩) (by show b1 < _; omega)).trans y1
        have z0' := (hBr.out.cell (p := ⟨b2, o2 + i * 2, none⟩) (by show b2 < _; omega)).trans z0
        have z1' := (hBr.out.cell (p := ⟨b2, o2 + i * 2 + 1, none⟩) (by show b2 < _; omega)).trans z1
        have j1 : (i : Int) < al := by omega
        have j2 : (i : Int) < bl := by omega
        have j3 : (0 : Int) ≤ i := by omega
        have j4 : i < bl := by omega
        dsimp only at y0' y1' z0' z1'
        have HDD := Fact.mk hd
        clear hd y0 y1 z0 z1 H1 H2 hp hq
        have hgd := guardA
        have hqq := eqA N1 V1 N2 V2
        cases hne : (N1.toList == N2.toList && V1.toList == V2.toList)
        · rw [hne] at hqq
          have hcp : Fact (ca l m = orL [cs N1 N2, cs V1 V2]) := ⟨by
            rw [← hf.out, HDD.out]
            have hz : cp (N1, V1) (N2, V2) ≠ 0 := by
              intro h0
              obtain ⟨rfl, rfl⟩ := Prod.mk.inj ((cp_zero _ _).1 h0)
              simp at hne
            show orI (cp (N1, V1) (N2, V2)) _ = _
            unfold orI
            rw [if_neg hz]
            show orI _ _ = orI _ (orI _ 0)
            unfold orI
            split <;> (try split) <;> simp_all⟩
          have HS : Fact (∀ q, (Below w.heap.size w (wr.drewN q).drew) ∧ ((wr.drewN q).drew.cell? ⟨b1, o1 + i * 2, none⟩ = some (.string N1) ∧ (wr.drewN q).drew.cell? ⟨b1, o1 + i * 2 + 1, none⟩ = some (.string V1)) ∧ ((wr.drewN q).drew.cell? ⟨b2, o2 + i * 2, none⟩ = some (.string N2) ∧ (wr.drewN q).drew.cell? ⟨b2, o2 + i * 2 + 1, none⟩ = some (.string V2))) := ⟨fun q => ⟨(below_drewN hBr.out _).drew, ⟨y0', y1'⟩, z0', z1'⟩⟩
          go_wp2_with fail
          go_quiet (fail)
          go_wp2_with fail
          have hS0 := HS.out nq
          clear HS HDD hne
          go_region_held3 (fun w' => (Below w.heap.size w w') ∧ (w'.cell? ⟨b1, o1 + i * 2, none⟩ = some (.string N1) ∧ w'.cell? ⟨b1, o1 + i * 2 + 1, none⟩ = some (.string V1)) ∧ (w'.cell? ⟨b2, o2 + i * 2, none⟩ = some (.string N2) ∧ w'.cell? ⟨b2, o2 + i * 2 + 1, none⟩ = some (.string V2)))
            (first | exact hS0 | exact keepA (by assumption) | assumption)
            (first | (go_at_call 78; refine (cmpS_any _ _ _).mono ?_; rintro e w5 ⟨rfl, rfl⟩) | (go_at_call 77; refine (or2 _ _ _ _ (by simp)).mono ?_; rintro e w6 ⟨rfl, rfl⟩))
          all_goals
            go_wp2
            go_ret
            rename_i hH
            exact ⟨ret_int hcp.out.symm, hH.1⟩
        · rw [hne] at hqq
          have hcp : Fact (ca (l.drop (i + 1)) (m.drop (i + 1)) = ca l m) := ⟨by
            rw [← hf.out, HDD.out]
            have hz : cp (N1, V1) (N2, V2) = 0 := by
              rw [Bool.and_eq_true, eq_cl, eq_cl, decide_eq_true_eq, decide_eq_true_eq] at hne
              show orI (cs N1 N2) (cs V1 V2) = 0
              rw [orI_zero]
              unfold cs
              rw [← toList_data, ← toList_data, ← toList_data, ← toList_data]
              exact hne
            show _ = orI (cp (N1, V1) (N2, V2)) _
            rw [hz]; rfl⟩
          have HB' : Fact (∀ q, Below w.heap.size w (wr.drewN q)) := ⟨fun q => below_drewN hBr.out _⟩
          go_wp2_with fail
          go_quiet (fail)
          go_wp2_with fail
          go_roundg g'
          case measure => omega
          case rel => exact ⟨i + 1, by go_num, by omega, by omega, ⟨HB'.out _⟩, hcp⟩
      · have hfin : Fact (ca l m = ci al bl) := ⟨by rw [← hf.out]; exact HE'.out i (.inl (by omega)) (by omega) (by omega)⟩
        clear hf H1 H2
        go_wp2_with (go_at_call 27; refine (cmpI_any _ _ _).mono ?_; rintro e w7 ⟨rfl, hw7⟩; have hw8 := hw7.symm; subst hw8; clear hw7)
        go_ret
        exact ⟨ret_int hfin.out.symm, hBr.out⟩
  · go_enter Try.func79, Try.ntmps79
    go_wp2_with fail
    go_loopg [11] bl (fun gf iv wr => ∃ i : Nat, iv = .int .i64 i ∧ i ≤ bl ∧ bl ≤ i + gf ∧ Fact (Below w.heap.size w wr) ∧ Fact (ca (l.drop i) (m.drop i) = ca l m))
    case atStart => exact ⟨0, rfl, Nat.zero_le _, by omega, ⟨Below.refl _ _⟩, ⟨rfl⟩⟩
    case round =>
      obtain ⟨i, rfl, hi, hfu, hBr, hf⟩ := hrel
      by_cases hlt : i < bl
      · obtain ⟨g', rfl⟩ : ∃ g', gk = g' + 1 := ⟨gk - 1, by omega⟩
        obtain ⟨ea1, hb1, y0, y1⟩ := H1.out i (by omega)
        obtain ⟨ea2, hb2, z0, z1⟩ := H2.out i hlt
        have hd := HD'.out i (by omega) hlt
        subst ea1 ea2
        obtain ⟨⟨N1, V1⟩, hp⟩ : ∃ p, bs l i = p := ⟨_, rfl⟩
        obtain ⟨⟨N2, V2⟩, hq⟩ : ∃ q, bs m i = q := ⟨_, rfl⟩
        rw [hp] at y0 y1 hd
        rw [hq] at z0 z1 hd
        have y0' := (hBr.out.cell (p := ⟨b1, o1 + i * 2, none⟩) (by show b1 < _; omega)).trans y0
        have y1' := (hBr.out.cell (p := ⟨b1, o1 + i * 2 + 1, none⟩) (by show b1 < _; omega)).trans y1
        have z0' := (hBr.out.cell (p := ⟨b2, o2 + i * 2, none⟩) (by show b2 < _; omega)).trans z0
        have z1' := (hBr.out.cell (p := ⟨b2, o2 + i * 2 + 1, none⟩) (by show b2 < _; omega)).trans z1
        have j1 : (i : Int) < al := by omega
        have j2 : (i : Int) < bl := by omega
        have j3 : (0 : Int) ≤ i := by omega
        have j4 : i < al := by omega
        dsimp only at y0' y1' z0' z1'
        have HDD := Fact.mk hd
        clear hd y0 y1 z0 z1 H1 H2 hp hq
        have hgd := guardA
        have hqq := eqA N1 V1 N2 V2
        cases hne : (N1.toList == N2.toList && V1.toList == V2.toList)
        · rw [hne] at hqq
          have hcp : Fact (ca l m = orL [cs N1 N2, cs V1 V2]) := ⟨by
            rw [← hf.out, HDD.out]
            have hz : cp (N1, V1) (N2, V2) ≠ 0 := by
              intro h0
              obtain ⟨rfl, rfl⟩ := Prod.mk.inj ((cp_zero _ _).1 h0)
              simp at hne
            show orI (cp (N1, V1) (N2, V2)) _ = _
            unfold orI
            rw [if_neg hz]
            show orI _ _ = orI _ (orI _ 0)
            unfold orI
            split <;> (try split) <;> simp_all⟩
          have HS : Fact (∀ q, (Below w.heap.size w (wr.drewN q).drew) ∧ ((wr.drewN q).drew.cell? ⟨b1, o1 + i * 2, none⟩ = some (.string N1) ∧ (wr.drewN q).drew.cell? ⟨b1, o1 + i * 2 + 1, none⟩ = some (.string V1)) ∧ ((wr.drewN q).drew.cell? ⟨b2, o2 + i * 2, none⟩ = some (.string N2) ∧ (wr.drewN q).drew.cell? ⟨b2, o2 + i * 2 + 1, none⟩ = some (.string V2))) := ⟨fun q => ⟨(below_drewN hBr.out _).drew, ⟨y0', y1'⟩, z0', z1'⟩⟩
          go_wp2_with fail
          go_quiet (fail)
          go_wp2_with fail
          have hS0 := HS.out nq
          clear HS HDD hne
          go_region_held3 (fun w' => (Below w.heap.size w w') ∧ (w'.cell? ⟨b1, o1 + i * 2, none⟩ = some (.string N1) ∧ w'.cell? ⟨b1, o1 + i * 2 + 1, none⟩ = some (.string V1)) ∧ (w'.cell? ⟨b2, o2 + i * 2, none⟩ = some (.string N2) ∧ w'.cell? ⟨b2, o2 + i * 2 + 1, none⟩ = some (.string V2)))
            (first | exact hS0 | exact keepA (by assumption) | assumption)
            (first | (go_at_call 78; refine (cmpS_any _ _ _).mono ?_; rintro e w5 ⟨rfl, rfl⟩) | (go_at_call 77; refine (or2 _ _ _ _ (by simp)).mono ?_; rintro e w6 ⟨rfl, rfl⟩))
          all_goals
            go_wp2
            go_ret
            rename_i hH
            exact ⟨ret_int hcp.out.symm, hH.1⟩
        · rw [hne] at hqq
          have hcp : Fact (ca (l.drop (i + 1)) (m.drop (i + 1)) = ca l m) := ⟨by
            rw [← hf.out, HDD.out]
            have hz : cp (N1, V1) (N2, V2) = 0 := by
              rw [Bool.and_eq_true, eq_cl, eq_cl, decide_eq_true_eq, decide_eq_true_eq] at hne
              show orI (cs N1 N2) (cs V1 V2) = 0
              rw [orI_zero]
              unfold cs
              rw [← toList_data, ← toList_data, ← toList_data, ← toList_data]
              exact hne
            show _ = orI (cp (N1, V1) (N2, V2)) _
            rw [hz]; rfl⟩
          have HB' : Fact (∀ q, Below w.heap.size w (wr.drewN q)) := ⟨fun q => below_drewN hBr.out _⟩
          go_wp2_with fail
          go_quiet (fail)
          go_wp2_with fail
          go_roundg g'
          case measure => omega
          case rel => exact ⟨i + 1, by go_num, by omega, by omega, ⟨HB'.out _⟩, hcp⟩
      · have hfin : Fact (ca l m = ci al bl) := ⟨by rw [← hf.out]; exact HE'.out i (.inr (by omega)) (by omega) (by omega)⟩
        clear hf H1 H2
        go_wp2_with (go_at_call 27; refine (cmpI_any _ _ _).mono ?_; rintro e w7 ⟨rfl, hw7⟩; have hw8 := hw7.symm; subst hw8; clear hw7)
        go_ret
        exact ⟨ret_int hfin.out.symm, hBr.out⟩
end Go.Proofs.Ytkojhgagkoeeiaa
