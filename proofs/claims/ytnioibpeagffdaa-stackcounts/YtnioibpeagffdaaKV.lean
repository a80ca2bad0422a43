/- The walk of StackCounts: it returns true. -/
import Derived.Test.YtnioibpeagffdaaKR
set_option linter.unusedVariables false
namespace Go.Proofs.Ytnioibpeagffdaa
open Go.RowKit Go.Shelf

set_option maxRecDepth 100000 in
set_option maxHeartbeats 16000000 in
theorem counts12_walk (v : Value) (ln : Nat) (z : Int) (w : World) (hL : IsL w.heap.size w v ln) :
    Calls Try.prog 6 #[v, .int .i64 z] w fun e w' => e = .returned (.bool true) ∧ Below w.heap.size w w' := by
  obtain ⟨a0, c0, b0, o0, rfl, hc0, hm0, h0⟩ := hL
  have H0 := Fact.mk h0
  have HM0 := Fact.mk hm0
  clear h0 hm0
  obtain ⟨zp, hzp, hPz⟩ := place_ex z 6 (by omega) (by omega)
  have HPz := Fact.mk hPz
  have HA := Fact.mk awake12_true
  have HT := Fact.mk (six_new w)
  have hb1 : Below w.heap.size w (w.alloc (.cells #[.string ⟨#[112]⟩, .string ⟨#[108, 105]⟩, .string ⟨#[100, 100]⟩, .string ⟨#[100, 105, 118]⟩, .string ⟨#[98]⟩, .string ⟨#[111, 112, 116, 105, 111, 110]⟩] 35)) := (Below.refl _ w).alloc (Nat.le_refl _) _
  have hz1 : (w.alloc (.cells #[.string ⟨#[112]⟩, .string ⟨#[108, 105]⟩, .string ⟨#[100, 100]⟩, .string ⟨#[100, 105, 118]⟩, .string ⟨#[98]⟩, .string ⟨#[111, 112, 116, 105, 111, 110]⟩] 35)).heap.size = w.heap.size + 1 := by simp
  obtain ⟨W1, hW1⟩ : ∃ W1, w.alloc (.cells #[.string ⟨#[112]⟩, .string ⟨#[108, 105]⟩, .string ⟨#[100, 100]⟩, .string ⟨#[100, 105, 118]⟩, .string ⟨#[98]⟩, .string ⟨#[111, 112, 116, 105, 111, 110]⟩] 35) = W1 := ⟨_, rfl⟩
  rw [hW1] at HT hb1 hz1
  have HB1 := Fact.mk hb1
  have HZ1 := Fact.mk hz1
  have HW1 := Fact.mk hW1
  clear hb1 hz1 hW1 hPz
  go_enter Try.func6, Try.ntmps6
  go_wp2_with fail
  rw [HW1.out]
  clear HW1
  go_loopw [6, 7] (fun vv iv wx => ∃ (j : Nat) (l : List ByteArray), j ≤ ln ∧ j ≤ 30 ∧ iv = .int .i64 j ∧ Fact (Below W1.heap.size W1 wx) ∧ Fact (OwnN W1.heap.size wx vv l) ∧ Fact (l.length = j) ∧ Fact (All6 l)) (fun vv iv _ => 30 - (intOf iv).toNat)
  case atStart => exact ⟨0, [], Nat.zero_le _, by omega, rfl, ⟨Below.refl _ _⟩, ⟨OwnN.nil _ _⟩, ⟨rfl⟩, ⟨fun i hi => by simp at hi⟩⟩
  case round =>
    rename World => wx
    rename Value => iv
    rename Value => vv
    obtain ⟨j, l, hj, hj3, rfl, hbx, hO, hl, hall⟩ := hrel
    by_cases hgo : j < ln ∧ j < 30
    · obtain ⟨g1, g2⟩ := hgo
      obtain ⟨ea, hb0, x, y0⟩ := H0.out j g1
      subst ea
      obtain ⟨px, hpx, hPx⟩ := place_ex x 6 (by omega) (by omega)
      have HPx := Fact.mk hPx
      have z0 := ((HB1.out.trans (hbx.out.mono HB1.out.size)).cell (p := ⟨b0, o0 + j, none⟩) hb0).trans y0
      have zt := (hbx.out.cell (p := ⟨w.heap.size, px, none⟩) (by show w.heap.size < _; rw [HZ1.out]; omega)).trans (HT.out px hpx)
      obtain ⟨Y, hY⟩ : ∃ Y, tx (lits N6) px = Y := ⟨_, rfl⟩
      have hsx : Six Y := ⟨px, hpx, hY.symm⟩
      rw [hY] at zt
      have HSX := Fact.mk hsx
      have i1 : (j : Int) < ln := by omega
      have i2 : (j : Int) < 30 := by omega
      have i3 : (0 : Int) ≤ j := by omega
      have i4 : (px : Int) < 6 := by omega
      have i5 : (0 : Int) ≤ px := by omega
      have HO1 := Fact.mk (hO.out.below ((Below.refl wx.heap.size wx).alloc (Nat.le_refl _) (.cells #[.string Y] 9)) (Nat.le_refl _))
      have HB1' := Fact.mk (hbx.out.alloc hbx.out.size (.cells #[.string Y] 9))
      clear hPx y0 hsx hY hb0 H0 HM0
      go_wp2_with (first
        | (go_at_call 19; refine (HPx.out _).mono ?_; rintro e w1 ⟨rfl, hw⟩; have hw' := hw.symm; subst hw'; clear hw)
        | (at_builtin; refine wpList_app (by rfl) (.tmp 26) (.tmp 34) rfl _ _ _ _ _ _ rfl rfl HO1.out (ss_one _ _) (by have := hl.out; simp; omega) HB1'.out.size ?_; intro v4 w4 hO4 _ hb4))
      go_roundw
      case rel => exact ⟨j + 1, l ++ [Y], by omega, by omega, by go_num, ⟨HB1'.out.trans hb4.out⟩, hO4, ⟨by rw [List.length_append, hl.out]; rfl⟩, ⟨hall.out.snoc HSX.out⟩⟩
      case measure => simp [intOf]; omega
    · have hor : (¬ (j : Int) < ln) ∨ ((j : Int) < ln ∧ ¬ (j : Int) < 30) := by omega
      clear H0 HM0
      have zt := (hbx.out.cell (p := ⟨w.heap.size, zp, none⟩) (by show w.heap.size < _; rw [HZ1.out]; omega)).trans (HT.out zp hzp)
      obtain ⟨N, hN⟩ : ∃ N, tx (lits N6) zp = N := ⟨_, rfl⟩
      rw [hN] at zt
      have i4 : (zp : Int) < 6 := by omega
      have i5 : (0 : Int) ≤ zp := by omega
      have hlen := hl.out
      obtain ⟨k, hk⟩ : ∃ k, impK l N l.length = k := ⟨_, rfl⟩
      have HK := Fact.mk hk
      have hkle : k ≤ l.length := by rw [← hk]; exact impK_le _ _ _
      obtain ⟨u, hu⟩ : ∃ u, unK l [N] l.length l.length = u := ⟨_, rfl⟩
      have HU := Fact.mk hu
      have hus := un_spec l N l.length l.length (Nat.le_refl _)
      rw [hu] at hus
      have HUS := Fact.mk hus
      have hin := in_un l N l.length l.length (Nat.le_refl _) (fun i hi => (hall.out i hi).no)
      rw [hu] at hin
      have HIN := Fact.mk hin
      have his := imp_spec l N l.length
      rw [hk] at his
      have HIS := Fact.mk his
      have HWx := Fact.mk (HB1.out.trans (hbx.out.mono HB1.out.size))
      have HOs := Fact.mk hO.out.ss
      obtain ⟨a6, c6, b6, o6, e6, m1, m2, m3⟩ := hO.out.ss
      rw [hlen] at e6 m1 m3 hkle HUS HIN HIS
      have H6 := Fact.mk m3
      have HC6 := Fact.mk m1
      subst e6
      have HKL := Fact.mk hkle
      have HJ3 := Fact.mk hj3
      have hok : Calls Try.prog 14 #[.slice a6 j c6, .string N] wx fun e w' => e = .returned (.int .i64 k) ∧ Below wx.heap.size wx w' := implied_any l _ N wx hO.out.ss k ⟨hk⟩
      have HOK := Fact.mk hok
      clear m1 m2 m3 hk hu hus hin his hN hok hO hbx HT hj hgo hkle hlen hj3
      rcases hor with q1 | ⟨q1, q2⟩
      · have t1 : True := trivial
        go_wp2_with (first
          | (go_at_call 19; refine (HPz.out _).mono ?_; rintro e w1 ⟨rfl, hw⟩; have hw' := hw.symm; subst hw'; clear hw)
          | (go_at_call 14; refine HOK.out.mono ?_; rintro e w5 ⟨rfl, hb⟩; have HB5 := Fact.mk hb; clear hb))
        go_loopw [10] (fun iv wy => ∃ i : Nat, i ≤ j ∧ iv = .int .i64 i ∧ Fact (wy = w5)) (fun iv _ => j - (intOf iv).toNat)
        case atStart => exact ⟨0, Nat.zero_le _, rfl, ⟨rfl⟩⟩
        case round =>
          rename World => wy
          obtain ⟨i, hi, rfl, hwy⟩ := hrel
          have hwy' := hwy.out
          subst hwy'
          clear hwy
          have s1 : wrap64 ((j : Int) - 1) = (j : Int) - 1 := by have := HJ3.out; unfold wrap64; omega
          by_cases hij : i < j
          · obtain ⟨ea, hb6, y0⟩ := H6.out (j - 1 - i) (by omega)
            obtain ⟨f1, f2⟩ := HIS.out i hij
            have hsix := hall.out (j - 1 - i) (by have := hl.out; omega)
            obtain ⟨Y, hY⟩ : ∃ Y, tx l (j - 1 - i) = Y := ⟨_, rfl⟩
            rw [hY] at y0 f1 f2 hsix
            rw [hsix.is] at f1 f2
            subst ea
            have z0 := (HB5.out.cell (p := ⟨b6, o6 + (j - 1 - i), none⟩) hb6).trans y0
            obtain ⟨r, hr⟩ : ∃ r, j - 1 - i = r := ⟨_, rfl⟩
            rw [hr] at z0
            have s2 : wrap64 ((j : Int) - 1 - (i : Int)) = (r : Int) := by have := HJ3.out; unfold wrap64; omega
            have s3 : (r : Int) < j := by omega
            have s4 : (0 : Int) ≤ r := by omega
            have s5 : (i : Int) < j := by omega
            have F1 := Fact.mk f1
            have F2 := Fact.mk f2
            have HIJ := Fact.mk hij
            have HWI := Fact.mk (wrap_s i (by have := HJ3.out; omega))
            clear y0 hsix hY f1 f2 hr hij hb6 H6 HIS
            rcases (show i < k ∨ i = k ∨ k < i by omega) with hc | hc | hc
            · have g := F1.out hc
              have d1 : (i : Int) < k := by omega
              have d2 : decide ((i : Int) < k) = true := decide_eq_true d1
              have e3 : (Y.toList == N.toList) = false := g.1
              have e1 : (Y.toList == [100, 105, 118]) = false := by have := g.2; revert this; cases (Y.toList == [100, 105, 118]) <;> simp
              have e2 : (Y.toList == [98]) = false := by have := g.2; revert this; cases (Y.toList == [98]) <;> simp
              clear g F1 F2 hc
              go_wp2_with fail
              go_roundw
              case rel => exact ⟨i + 1, by have := HIJ.out; omega, int_eq HWI.out, ⟨by trivial⟩⟩
              case measure => have := HIJ.out; simp only [HWI.out]; simp [intOf]; omega
            · have g := F2.out hc
              have d1 : ¬ (i : Int) < k := by omega
              have d2 : decide ((i : Int) < k) = false := decide_eq_false d1
              have d3 : ((i : Int) == (k : Int)) = true := beq_iff_eq.2 (by omega)
              clear F1 F2 hc
              cases e1 : (Y.toList == [100, 105, 118])
              · cases e2 : (Y.toList == [98])
                · cases e3 : (Y.toList == N.toList)
                  · exfalso
                    exact g ⟨e3, by rw [e1, e2]; rfl⟩
                  · clear g
                    go_wp2_with fail
                    go_roundw
                    case rel => exact ⟨i + 1, by have := HIJ.out; omega, int_eq HWI.out, ⟨by trivial⟩⟩
                    case measure => have := HIJ.out; simp only [HWI.out]; simp [intOf]; omega
                · clear g
                  go_wp2_with fail
                  go_roundw
                  case rel => exact ⟨i + 1, by have := HIJ.out; omega, int_eq HWI.out, ⟨by trivial⟩⟩
                  case measure => have := HIJ.out; simp only [HWI.out]; simp [intOf]; omega
              · clear g
                go_wp2_with fail
                go_roundw
                case rel => exact ⟨i + 1, by have := HIJ.out; omega, int_eq HWI.out, ⟨by trivial⟩⟩
                case measure => have := HIJ.out; simp only [HWI.out]; simp [intOf]; omega
            · have d1 : ¬ (i : Int) < k := by omega
              have d2 : decide ((i : Int) < k) = false := decide_eq_false d1
              have d3 : ((i : Int) == (k : Int)) = false := beq_eq_false_iff_ne.2 (by omega)
              clear F1 F2 hc
              cases e1 : (Y.toList == [100, 105, 118])
              · cases e2 : (Y.toList == [98])
                · cases e3 : (Y.toList == N.toList)
                  · skip
                    go_wp2_with fail
                    go_roundw
                    case rel => exact ⟨i + 1, by have := HIJ.out; omega, int_eq HWI.out, ⟨by trivial⟩⟩
                    case measure => have := HIJ.out; simp only [HWI.out]; simp [intOf]; omega
                  · skip
                    go_wp2_with fail
                    go_roundw
                    case rel => exact ⟨i + 1, by have := HIJ.out; omega, int_eq HWI.out, ⟨by trivial⟩⟩
                    case measure => have := HIJ.out; simp only [HWI.out]; simp [intOf]; omega
                · skip
                  go_wp2_with fail
                  go_roundw
                  case rel => exact ⟨i + 1, by have := HIJ.out; omega, int_eq HWI.out, ⟨by trivial⟩⟩
                  case measure => have := HIJ.out; simp only [HWI.out]; simp [intOf]; omega
              · skip
                go_wp2_with fail
                go_roundw
                case rel => exact ⟨i + 1, by have := HIJ.out; omega, int_eq HWI.out, ⟨by trivial⟩⟩
                case measure => have := HIJ.out; simp only [HWI.out]; simp [intOf]; omega
          · have s5 : ¬ (i : Int) < j := by omega
            have j1 : k ≤ j := HKL.out
            have t2 : True := trivial
            have t3 : True := trivial
            have hs1 := ss_one wy N
            have hO5 := ((HOs.out.up HB5.out).up ((Below.refl wy.heap.size wy).alloc (Nat.le_refl _) (.cells #[.string N] 9)))
            have hU := until_any l [N] _ _ _ hO5 (hs1.mono (by simp)) u HU
            have HUc := Fact.mk hU
            have HBa := Fact.mk ((Below.refl wy.heap.size wy).alloc (Nat.le_refl _) (.cells #[.string N] 9))
            clear hs1 hO5 hU HIS
            go_wp2_with (first
              | (go_at_call 16; refine HUc.out.mono ?_; rintro e w6 ⟨rfl, hb⟩; have HB6 := Fact.mk (HB5.out.trans ((HBa.out.trans (hb.mono HBa.out.size)).mono HB5.out.size)); clear hb))
            go_loopw [14] (fun iv wz => ∃ i : Nat, 1 ≤ i ∧ i ≤ j + 1 ∧ iv = .int .i64 i ∧ Fact (wz = w6)) (fun iv _ => j + 1 - (intOf iv).toNat)
            case atStart => exact ⟨1, Nat.le_refl _, by omega, rfl, ⟨rfl⟩⟩
            case round =>
              rename World => wz
              obtain ⟨i2, hi1, hi2, rfl, hwz⟩ := hrel
              have hwz' := hwz.out
              subst hwz'
              clear hwz
              have hule : u ≤ j := by
                rcases HUS.out with ⟨h1, _⟩ | ⟨i, h1, h2, _⟩ <;> omega
              by_cases hiu : i2 < u
              · obtain ⟨ea, hb6, y0⟩ := H6.out (j - i2) (by omega)
                subst ea
                have hne : ((tx l (j - i2)).toList == N.toList) = false := by
                  rcases HUS.out with ⟨h1, _⟩ | ⟨i, h1, h2, h3, h4⟩
                  · omega
                  · exact h4 _ (by omega) (by omega)
                obtain ⟨Y, hY⟩ : ∃ Y, tx l (j - i2) = Y := ⟨_, rfl⟩
                rw [hY] at y0 hne
                have z0 := (HB6.out.cell (p := ⟨b6, o6 + (j - i2), none⟩) hb6).trans y0
                obtain ⟨r, hr⟩ : ∃ r, j - i2 = r := ⟨_, rfl⟩
                rw [hr] at z0
                have s2 : wrap64 ((j : Int) - (i2 : Int)) = (r : Int) := by have := HJ3.out; unfold wrap64; omega
                have s3 : (r : Int) < j := by omega
                have s4 : (0 : Int) ≤ r := by omega
                have s5 : (i2 : Int) < u := by omega
                have HIU := Fact.mk hiu
                have HUL := Fact.mk hule
                have HWI := Fact.mk (wrap_s i2 (by have := HJ3.out; omega))
                clear y0 hY hr hb6 H6 HUS hiu hule
                go_wp2_with fail
                go_roundw
                case rel => exact ⟨i2 + 1, by omega, by have := HIU.out; have := HUL.out; omega, int_eq HWI.out, ⟨by trivial⟩⟩
                case measure => have := HIU.out; have := HUL.out; simp only [HWI.out]; simp [intOf]; omega
              · have s5 : ¬ (i2 : Int) < u := by omega
                have k1 : (k : Int) ≤ j := by omega
                have k2 : (u : Int) ≤ j := by omega
                have HUn := fun W (h : SS W.heap.size W (.slice a6 j c6) l) => until_any l [] (.slice a6 j c6) (.slice none 0 0) W h (ss_nil _ _) 0 ⟨un_none l l.length l.length⟩
                have HUN := Fact.mk HUn
                clear HUn
                have HB7 := bel HWx HB6.out
                have HOz := Fact.mk (HOs.out.up HB6.out)
                by_cases hu0 : u = 0
                · have e0 : ((u : Int) == 0) = true := beq_iff_eq.2 (by omega)
                  have e4 : decide ((0 : Int) < u) = false := decide_eq_false (by omega)
                  have e5 : ¬ (0 : Int) < u := by omega
                  have HI0 : Fact (inK l N 4 l.length = false) := ⟨by rw [hl.out, HIN.out]; exact decide_eq_false (by omega)⟩
                  clear H6 HUS HIN hule hu0
                  go_wp2_with (first
                    | (go_at_call 16; refine (HUN.out _ HOz.out).mono ?_; rintro e w8 ⟨rfl, hb⟩; have HB8 := bel HB7 hb; have HO8 := Fact.mk (HOz.out.up hb); clear hb)
                    | (go_at_call 12; refine (in_any l _ N 4 _ HO8.out false HI0).mono ?_; rintro e w9 ⟨rfl, hb⟩; have HB9 := bel HB8 hb; clear hb)
                    | (go_at_call 9; refine (HA.out _).mono ?_; rintro e w10 ⟨rfl, hb⟩; have HB10 := bel HB9 hb; clear hb))
                  go_ret
                  exact ⟨rfl, HB10.out⟩
                · obtain ⟨ea, hb6, y0⟩ := H6.out (j - u) (by omega)
                  subst ea
                  have heq : ((tx l (j - u)).toList == N.toList) = true := by
                    rcases HUS.out with ⟨h1, _⟩ | ⟨i, h1, h2, h3, h4⟩
                    · omega
                    · rw [show j - u = i by omega]; exact h3
                  obtain ⟨Y, hY⟩ : ∃ Y, tx l (j - u) = Y := ⟨_, rfl⟩
                  rw [hY] at y0 heq
                  have z0 := (HB6.out.cell (p := ⟨b6, o6 + (j - u), none⟩) hb6).trans y0
                  obtain ⟨r, hr⟩ : ∃ r, j - u = r := ⟨_, rfl⟩
                  rw [hr] at z0
                  have s2 : wrap64 ((j : Int) - (u : Int)) = (r : Int) := by have := HJ3.out; unfold wrap64; omega
                  have s3 : (r : Int) < j := by omega
                  have s4 : (0 : Int) ≤ r := by omega
                  have e0 : ((u : Int) == 0) = false := beq_eq_false_iff_ne.2 (by omega)
                  have e4 : decide ((0 : Int) < u) = true := decide_eq_true (by omega)
                  have e5 : (0 : Int) < u := by omega
                  have HI0 : Fact (inK l N 4 l.length = true) := ⟨by rw [hl.out, HIN.out]; exact decide_eq_true (by omega)⟩
                  clear H6 HUS HIN hule hu0 y0 hY hr hb6
                  go_wp2_with (first
                    | (go_at_call 16; refine (HUN.out _ HOz.out).mono ?_; rintro e w8 ⟨rfl, hb⟩; have HB8 := bel HB7 hb; have HO8 := Fact.mk (HOz.out.up hb); clear hb)
                    | (go_at_call 12; refine (in_any l _ N 4 _ HO8.out true HI0).mono ?_; rintro e w9 ⟨rfl, hb⟩; have HB9 := bel HB8 hb; clear hb)
                    | (go_at_call 9; refine (HA.out _).mono ?_; rintro e w10 ⟨rfl, hb⟩; have HB10 := bel HB9 hb; clear hb))
                  go_ret
                  exact ⟨rfl, HB10.out⟩
      · have t1 : True := trivial
        go_wp2_with (first
          | (go_at_call 19; refine (HPz.out _).mono ?_; rintro e w1 ⟨rfl, hw⟩; have hw' := hw.symm; subst hw'; clear hw)
          | (go_at_call 14; refine HOK.out.mono ?_; rintro e w5 ⟨rfl, hb⟩; have HB5 := Fact.mk hb; clear hb))
        go_loopw [10] (fun iv wy => ∃ i : Nat, i ≤ j ∧ iv = .int .i64 i ∧ Fact (wy = w5)) (fun iv _ => j - (intOf iv).toNat)
        case atStart => exact ⟨0, Nat.zero_le _, rfl, ⟨rfl⟩⟩
        case round =>
          rename World => wy
          obtain ⟨i, hi, rfl, hwy⟩ := hrel
          have hwy' := hwy.out
          subst hwy'
          clear hwy
          have s1 : wrap64 ((j : Int) - 1) = (j : Int) - 1 := by have := HJ3.out; unfold wrap64; omega
          by_cases hij : i < j
          · obtain ⟨ea, hb6, y0⟩ := H6.out (j - 1 - i) (by omega)
            obtain ⟨f1, f2⟩ := HIS.out i hij
            have hsix := hall.out (j - 1 - i) (by have := hl.out; omega)
            obtain ⟨Y, hY⟩ : ∃ Y, tx l (j - 1 - i) = Y := ⟨_, rfl⟩
            rw [hY] at y0 f1 f2 hsix
            rw [hsix.is] at f1 f2
            subst ea
            have z0 := (HB5.out.cell (p := ⟨b6, o6 + (j - 1 - i), none⟩) hb6).trans y0
            obtain ⟨r, hr⟩ : ∃ r, j - 1 - i = r := ⟨_, rfl⟩
            rw [hr] at z0
            have s2 : wrap64 ((j : Int) - 1 - (i : Int)) = (r : Int) := by have := HJ3.out; unfold wrap64; omega
            have s3 : (r : Int) < j := by omega
            have s4 : (0 : Int) ≤ r := by omega
            have s5 : (i : Int) < j := by omega
            have F1 := Fact.mk f1
            have F2 := Fact.mk f2
            have HIJ := Fact.mk hij
            have HWI := Fact.mk (wrap_s i (by have := HJ3.out; omega))
            clear y0 hsix hY f1 f2 hr hij hb6 H6 HIS
            rcases (show i < k ∨ i = k ∨ k < i by omega) with hc | hc | hc
            · have g := F1.out hc
              have d1 : (i : Int) < k := by omega
              have d2 : decide ((i : Int) < k) = true := decide_eq_true d1
              have e3 : (Y.toList == N.toList) = false := g.1
              have e1 : (Y.toList == [100, 105, 118]) = false := by have := g.2; revert this; cases (Y.toList == [100, 105, 118]) <;> simp
              have e2 : (Y.toList == [98]) = false := by have := g.2; revert this; cases (Y.toList == [98]) <;> simp
              clear g F1 F2 hc
              go_wp2_with fail
              go_roundw
              case rel => exact ⟨i + 1, by have := HIJ.out; omega, int_eq HWI.out, ⟨by trivial⟩⟩
              case measure => have := HIJ.out; simp only [HWI.out]; simp [intOf]; omega
            · have g := F2.out hc
              have d1 : ¬ (i : Int) < k := by omega
              have d2 : decide ((i : Int) < k) = false := decide_eq_false d1
              have d3 : ((i : Int) == (k : Int)) = true := beq_iff_eq.2 (by omega)
              clear F1 F2 hc
              cases e1 : (Y.toList == [100, 105, 118])
              · cases e2 : (Y.toList == [98])
                · cases e3 : (Y.toList == N.toList)
                  · exfalso
                    exact g ⟨e3, by rw [e1, e2]; rfl⟩
                  · clear g
                    go_wp2_with fail
                    go_roundw
                    case rel => exact ⟨i + 1, by have := HIJ.out; omega, int_eq HWI.out, ⟨by trivial⟩⟩
                    case measure => have := HIJ.out; simp only [HWI.out]; simp [intOf]; omega
                · clear g
                  go_wp2_with fail
                  go_roundw
                  case rel => exact ⟨i + 1, by have := HIJ.out; omega, int_eq HWI.out, ⟨by trivial⟩⟩
                  case measure => have := HIJ.out; simp only [HWI.out]; simp [intOf]; omega
              · clear g
                go_wp2_with fail
                go_roundw
                case rel => exact ⟨i + 1, by have := HIJ.out; omega, int_eq HWI.out, ⟨by trivial⟩⟩
                case measure => have := HIJ.out; simp only [HWI.out]; simp [intOf]; omega
            · have d1 : ¬ (i : Int) < k := by omega
              have d2 : decide ((i : Int) < k) = false := decide_eq_false d1
              have d3 : ((i : Int) == (k : Int)) = false := beq_eq_false_iff_ne.2 (by omega)
              clear F1 F2 hc
              cases e1 : (Y.toList == [100, 105, 118])
              · cases e2 : (Y.toList == [98])
                · cases e3 : (Y.toList == N.toList)
                  · skip
                    go_wp2_with fail
                    go_roundw
                    case rel => exact ⟨i + 1, by have := HIJ.out; omega, int_eq HWI.out, ⟨by trivial⟩⟩
                    case measure => have := HIJ.out; simp only [HWI.out]; simp [intOf]; omega
                  · skip
                    go_wp2_with fail
                    go_roundw
                    case rel => exact ⟨i + 1, by have := HIJ.out; omega, int_eq HWI.out, ⟨by trivial⟩⟩
                    case measure => have := HIJ.out; simp only [HWI.out]; simp [intOf]; omega
                · skip
                  go_wp2_with fail
                  go_roundw
                  case rel => exact ⟨i + 1, by have := HIJ.out; omega, int_eq HWI.out, ⟨by trivial⟩⟩
                  case measure => have := HIJ.out; simp only [HWI.out]; simp [intOf]; omega
              · skip
                go_wp2_with fail
                go_roundw
                case rel => exact ⟨i + 1, by have := HIJ.out; omega, int_eq HWI.out, ⟨by trivial⟩⟩
                case measure => have := HIJ.out; simp only [HWI.out]; simp [intOf]; omega
          · have s5 : ¬ (i : Int) < j := by omega
            have j1 : k ≤ j := HKL.out
            have t2 : True := trivial
            have t3 : True := trivial
            have hs1 := ss_one wy N
            have hO5 := ((HOs.out.up HB5.out).up ((Below.refl wy.heap.size wy).alloc (Nat.le_refl _) (.cells #[.string N] 9)))
            have hU := until_any l [N] _ _ _ hO5 (hs1.mono (by simp)) u HU
            have HUc := Fact.mk hU
            have HBa := Fact.mk ((Below.refl wy.heap.size wy).alloc (Nat.le_refl _) (.cells #[.string N] 9))
            clear hs1 hO5 hU HIS
            go_wp2_with (first
              | (go_at_call 16; refine HUc.out.mono ?_; rintro e w6 ⟨rfl, hb⟩; have HB6 := Fact.mk (HB5.out.trans ((HBa.out.trans (hb.mono HBa.out.size)).mono HB5.out.size)); clear hb))
            go_loopw [14] (fun iv wz => ∃ i : Nat, 1 ≤ i ∧ i ≤ j + 1 ∧ iv = .int .i64 i ∧ Fact (wz = w6)) (fun iv _ => j + 1 - (intOf iv).toNat)
            case atStart => exact ⟨1, Nat.le_refl _, by omega, rfl, ⟨rfl⟩⟩
            case round =>
              rename World => wz
              obtain ⟨i2, hi1, hi2, rfl, hwz⟩ := hrel
              have hwz' := hwz.out
              subst hwz'
              clear hwz
              have hule : u ≤ j := by
                rcases HUS.out with ⟨h1, _⟩ | ⟨i, h1, h2, _⟩ <;> omega
              by_cases hiu : i2 < u
              · obtain ⟨ea, hb6, y0⟩ := H6.out (j - i2) (by omega)
                subst ea
                have hne : ((tx l (j - i2)).toList == N.toList) = false := by
                  rcases HUS.out with ⟨h1, _⟩ | ⟨i, h1, h2, h3, h4⟩
                  · omega
                  · exact h4 _ (by omega) (by omega)
                obtain ⟨Y, hY⟩ : ∃ Y, tx l (j - i2) = Y := ⟨_, rfl⟩
                rw [hY] at y0 hne
                have z0 := (HB6.out.cell (p := ⟨b6, o6 + (j - i2), none⟩) hb6).trans y0
                obtain ⟨r, hr⟩ : ∃ r, j - i2 = r := ⟨_, rfl⟩
                rw [hr] at z0
                have s2 : wrap64 ((j : Int) - (i2 : Int)) = (r : Int) := by have := HJ3.out; unfold wrap64; omega
                have s3 : (r : Int) < j := by omega
                have s4 : (0 : Int) ≤ r := by omega
                have s5 : (i2 : Int) < u := by omega
                have HIU := Fact.mk hiu
                have HUL := Fact.mk hule
                have HWI := Fact.mk (wrap_s i2 (by have := HJ3.out; omega))
                clear y0 hY hr hb6 H6 HUS hiu hule
                go_wp2_with fail
                go_roundw
                case rel => exact ⟨i2 + 1, by omega, by have := HIU.out; have := HUL.out; omega, int_eq HWI.out, ⟨by trivial⟩⟩
                case measure => have := HIU.out; have := HUL.out; simp only [HWI.out]; simp [intOf]; omega
              · have s5 : ¬ (i2 : Int) < u := by omega
                have k1 : (k : Int) ≤ j := by omega
                have k2 : (u : Int) ≤ j := by omega
                have HUn := fun W (h : SS W.heap.size W (.slice a6 j c6) l) => until_any l [] (.slice a6 j c6) (.slice none 0 0) W h (ss_nil _ _) 0 ⟨un_none l l.length l.length⟩
                have HUN := Fact.mk HUn
                clear HUn
                have HB7 := bel HWx HB6.out
                have HOz := Fact.mk (HOs.out.up HB6.out)
                by_cases hu0 : u = 0
                · have e0 : ((u : Int) == 0) = true := beq_iff_eq.2 (by omega)
                  have e4 : decide ((0 : Int) < u) = false := decide_eq_false (by omega)
                  have e5 : ¬ (0 : Int) < u := by omega
                  have HI0 : Fact (inK l N 4 l.length = false) := ⟨by rw [hl.out, HIN.out]; exact decide_eq_false (by omega)⟩
                  clear H6 HUS HIN hule hu0
                  go_wp2_with (first
                    | (go_at_call 16; refine (HUN.out _ HOz.out).mono ?_; rintro e w8 ⟨rfl, hb⟩; have HB8 := bel HB7 hb; have HO8 := Fact.mk (HOz.out.up hb); clear hb)
                    | (go_at_call 12; refine (in_any l _ N 4 _ HO8.out false HI0).mono ?_; rintro e w9 ⟨rfl, hb⟩; have HB9 := bel HB8 hb; clear hb)
                    | (go_at_call 9; refine (HA.out _).mono ?_; rintro e w10 ⟨rfl, hb⟩; have HB10 := bel HB9 hb; clear hb))
                  go_ret
                  exact ⟨rfl, HB10.out⟩
                · obtain ⟨ea, hb6, y0⟩ := H6.out (j - u) (by omega)
                  subst ea
                  have heq : ((tx l (j - u)).toList == N.toList) = true := by
                    rcases HUS.out with ⟨h1, _⟩ | ⟨i, h1, h2, h3, h4⟩
                    · omega
                    · rw [show j - u = i by omega]; exact h3
                  obtain ⟨Y, hY⟩ : ∃ Y, tx l (j - u) = Y := ⟨_, rfl⟩
                  rw [hY] at y0 heq
                  have z0 := (HB6.out.cell (p := ⟨b6, o6 + (j - u), none⟩) hb6).trans y0
                  obtain ⟨r, hr⟩ : ∃ r, j - u = r := ⟨_, rfl⟩
                  rw [hr] at z0
                  have s2 : wrap64 ((j : Int) - (u : Int)) = (r : Int) := by have := HJ3.out; unfold wrap64; omega
                  have s3 : (r : Int) < j := by omega
                  have s4 : (0 : Int) ≤ r := by omega
                  have e0 : ((u : Int) == 0) = false := beq_eq_false_iff_ne.2 (by omega)
                  have e4 : decide ((0 : Int) < u) = true := decide_eq_true (by omega)
                  have e5 : (0 : Int) < u := by omega
                  have HI0 : Fact (inK l N 4 l.length = true) := ⟨by rw [hl.out, HIN.out]; exact decide_eq_true (by omega)⟩
                  clear H6 HUS HIN hule hu0 y0 hY hr hb6
                  go_wp2_with (first
                    | (go_at_call 16; refine (HUN.out _ HOz.out).mono ?_; rintro e w8 ⟨rfl, hb⟩; have HB8 := bel HB7 hb; have HO8 := Fact.mk (HOz.out.up hb); clear hb)
                    | (go_at_call 12; refine (in_any l _ N 4 _ HO8.out true HI0).mono ?_; rintro e w9 ⟨rfl, hb⟩; have HB9 := bel HB8 hb; clear hb)
                    | (go_at_call 9; refine (HA.out _).mono ?_; rintro e w10 ⟨rfl, hb⟩; have HB10 := bel HB9 hb; clear hb))
                  go_ret
                  exact ⟨rfl, HB10.out⟩
end Go.Proofs.Ytnioibpeagffdaa
