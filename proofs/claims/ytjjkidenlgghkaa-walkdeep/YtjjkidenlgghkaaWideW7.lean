/- WalkDeep, walked: a tree that is very wide. -/
import Derived.Test.YtjjkidenlgghkaaDeepW7
set_option linter.unusedVariables false
namespace Go.Proofs.Ytjjkidenlgghkaa
open Go.Deep (BT)
open Go.RowKit M

set_option maxRecDepth 100000 in
set_option maxHeartbeats 4000000 in
theorem wide7_walk (z : Int) (w : World) :
    Calls Try.prog 8 #[.int .i64 z, .bool true] w fun e w' => e = .returned (.bool true) ∧ Below w.heap.size w w' := by
  obtain ⟨m, hm⟩ : ∃ q, Fact (pl z 500 = q) := ⟨_, ⟨rfl⟩⟩
  have hm5 : m < 500 := by have := pl_lt z 500 (by omega); rw [hm.out] at this; exact this
  have HPL : Fact (∀ W : World, Calls Try.prog 24 #[.int .i64 z, .int .i64 500] W fun e w' => e = .returned (.int .i64 m) ∧ w' = W) := ⟨fun W => place_at z 500 m hm W (by omega) (by omega)⟩
  go_enter Try.func8, Try.ntmps8
  go_wp2_with (go_at_call 24; refine (HPL.out _).mono ?_; rintro e w7 ⟨rfl, hw7⟩; have hw6 := hw7.symm; subst hw6; clear hw7)
  go_loopg [7] m (fun gf iv wr => ∃ (j : Nat) (a : Option Addr) (l c : Nat), iv = .int .i64 ((j : Int) + 1) ∧ j ≤ m ∧ m - j ≤ gf ∧
    Fact (Five wr w.heap.size (.int .i64 2) (.string ⟨#[97]⟩) (.string ⟨#[]⟩) (.slice none 0 0) (.slice a l c) ∧ wr.ownsRow (w.heap.size + 1) 25 5 (.slice a l c) j (rowF (List.replicate j txR)) ∧ Below w.heap.size w wr))
  case atStart => exact ⟨0, none, 0, 0, rfl, Nat.zero_le _, Nat.le_refl _, ⟨Five.new w _ _ _ _ _ _, World.ownsRow_nil _ _ _ _, (Below.refl _ w).alloc (Nat.le_refl _) _⟩⟩
  case round =>
    obtain ⟨j, a, l, c, rfl, hj, hgf, hx⟩ := hrel
    by_cases hjm : j = m
    · subst hjm
      have hdec : decide ((j : Int) + 1 < 1 + (j : Int)) = false := decide_eq_false (by omega)
      go_wp2_with fail
      obtain ⟨hT, hfl, hB⟩ := hx.out
      have hTl := hT.lt
      have HL : Fact (Lies wr.heap.size wr elN (wideT j) (.slice none 0 0) (.slice a l c)) := ⟨⟨AS.nothing, by
        have hlr : j = (List.replicate j txR).length := by simp
        exact own_FL (w := wr) (n := 0) (by rw [← hlr]; exact hfl) (fun r hr => by rw [List.eq_of_mem_replicate hr]; exact ⟨AS.nothing, FL.nothing⟩)⟩⟩
      have HBW := Fact.mk hB
      have hdk : (wideT j).depth ≤ 1000 ∧ (wideT j).size ≤ 1000 ∧ (elN.ats.length + (wideT j).slots) ≤ 1000 := by have := wide_depth j; rw [wide_size, wide_slots]; exact ⟨by omega, by omega, by decide⟩
      have HDK := Fact.mk hdk
      have hsz : (wideT j).size + 1 = j + 1 := by rw [wide_size]
      have HSZ := Fact.mk hsz
      have hbx := And.intro hT.c0 (And.intro hT.c1 (And.intro hT.c2 (And.intro hT.c3 hT.c4)))
      have HS0 : Fact (Below wr.heap.size wr wr.drew ∧ (wr.drew.cell? ⟨w.heap.size, 0, none⟩ = some (.int .i64 2) ∧ wr.drew.cell? ⟨w.heap.size, 1, none⟩ = some (.string ⟨#[97]⟩) ∧ wr.drew.cell? ⟨w.heap.size, 2, none⟩ = some (.string ⟨#[]⟩) ∧ wr.drew.cell? ⟨w.heap.size, 3, none⟩ = some (.slice none 0 0) ∧ wr.drew.cell? ⟨w.heap.size, 4, none⟩ = some (.slice a l c))) := ⟨⟨(Below.refl _ _).drew, hbx⟩⟩
      clear hx hT hfl hB hdk hsz hbx
      go_cut [8, 9] (fun fv pv wc => ∃ (g1 c1 : Nat) (its : List (Im × Value)) (g2 c2 : Nat), fv = .slice (some ⟨g1, 0, none⟩) (j + 1) c1 ∧ pv = .slice (some ⟨g2, 0, none⟩) (j + 1) c2 ∧ Fact ((Below wr.heap.size wr wc ∧ (wc.cell? ⟨w.heap.size, 0, none⟩ = some (.int .i64 2) ∧ wc.cell? ⟨w.heap.size, 1, none⟩ = some (.string ⟨#[97]⟩) ∧ wc.cell? ⟨w.heap.size, 2, none⟩ = some (.string ⟨#[]⟩) ∧ wc.cell? ⟨w.heap.size, 3, none⟩ = some (.slice none 0 0) ∧ wc.cell? ⟨w.heap.size, 4, none⟩ = some (.slice a l c))) ∧ its.map (·.1) = flatT elN (wideT j) ∧ wc.ownsRow wr.heap.size 39 10 (.slice (some ⟨g1, 0, none⟩) (j + 1) c1) (j + 1) (cellsIt its) ∧ wc.ownsRow wr.heap.size 3 1 (.slice (some ⟨g2, 0, none⟩) (j + 1) c2) (j + 1) (cI (postF (wideT j) 1 ++ [0])) ∧ (∀ y ∈ its, ∃ a b c, y.2 = .slice a b c)))
      case first =>
        have hS0 := HS0.out
        go_region_held3 (fun w' => Below wr.heap.size wr w' ∧ (w'.cell? ⟨w.heap.size, 0, none⟩ = some (.int .i64 2) ∧ w'.cell? ⟨w.heap.size, 1, none⟩ = some (.string ⟨#[97]⟩) ∧ w'.cell? ⟨w.heap.size, 2, none⟩ = some (.string ⟨#[]⟩) ∧ w'.cell? ⟨w.heap.size, 3, none⟩ = some (.slice none 0 0) ∧ w'.cell? ⟨w.heap.size, 4, none⟩ = some (.slice a l c)))
          (first | with_reducible exact hS0 | with_reducible exact keepX hTl hb5 (by assumption) | with_reducible exact keepX hTl hb6 (by assumption) | assumption)
          (first | (go_at_call 12; refine (flat_d (d := elN) HL.out HDK.out (by assumption)).mono ?_; rintro e w5 ⟨g1, c1, its, rfl, hb5, hm5, hr5, hv5⟩) | (go_at_call 15; refine (post_d (d := elN) HL.out HDK.out (by assumption)).mono ?_; rintro e w6 ⟨g2, c2, rfl, hb6, hr6⟩))
        all_goals
          rename_i hHeld
          have HHELD := Fact.mk hHeld
          have hs0 : wr.heap.size ≤ wr.drew.heap.size := Nat.le_refl _
          have h5 := hb5.size
          have h6 := hb6.size
          clear hHeld hS0
          go_wp2_with fail
          go_meet
          case rel =>
            refine ⟨g1, c1, its, g2, c2, by rw [HSZ.out], by rw [HSZ.out], ⟨HHELD.out, hm5.out, ?_, ?_, hv5.out⟩⟩
            · rw [← HSZ.out]
              first
                | exact own_lessP (own_up hr5.out hb6) (by omega)
                | exact own_lessP hr5.out (by omega)
            · rw [← HSZ.out]
              first
                | exact own_lessP (own_up hr6.out hb5) (by omega)
                | exact own_lessP hr6.out (by omega)
      case rest =>
        obtain ⟨g1, c1, its, g2, c2, rfl, rfl, hcx⟩ := hcut
        obtain ⟨⟨hbc, hbox⟩, hmap, hrowF, hrowP, hav⟩ := hcx.out
        have hits : its.length = j + 1 := by have := congrArg List.length hmap; rw [List.length_map, flatT_len, HSZ.out] at this; exact this
        obtain ⟨yl, hyl⟩ : ∃ y, its[j]? = some y := ⟨its[j]'(by omega), by simp⟩
        obtain ⟨y0, hy0⟩ : ∃ y, its[0]? = some y := ⟨its[0]'(by omega), by simp⟩
        have hyl1 : (flatT elN (wideT j))[j]? = some yl.1 := by rw [← hmap, List.getElem?_map, hyl]; rfl
        have hy01 : (flatT elN (wideT j))[0]? = some y0.1 := by rw [← hmap, List.getElem?_map, hy0]; rfl
        obtain ⟨x1, x2, x3, eav⟩ := hav yl (List.mem_of_getElem? hyl)
        obtain ⟨hatl, _, _, hg1, hc1, hcm1, _⟩ := row10_at hrowF hyl
        have hat0 := (row10_at hrowF hy0).1
        have z2 := rowI_at hrowP (show _ = some 0 by have := post_last (wideT j); rw [show (wideT j).size = j by have := HSZ.out; omega] at this; exact this)
        have HCX := Fact.mk (hcx.out)
        obtain ⟨⟨yp, yz, ydp, yh, ypl, yd⟩, yav⟩ := yl
        dsimp only at eav hyl1
        subst eav
        have r0 : wc.cell? ⟨g1, j * 10, none⟩ = some (.int .i64 yp) := hatl 0 _ rfl
        have r1 : wc.cell? ⟨g1, j * 10 + 1, none⟩ = some (.int .i64 yz) := hatl 1 _ rfl
        have r2 : wc.cell? ⟨g1, j * 10 + 2, none⟩ = some (.int .i64 ydp) := hatl 2 _ rfl
        have r3 : wc.cell? ⟨g1, j * 10 + 3, none⟩ = some (.int .i64 yh) := hatl 3 _ rfl
        have r4 : wc.cell? ⟨g1, j * 10 + 4, none⟩ = some (.int .i64 ypl) := hatl 4 _ rfl
        have r5 : wc.cell? ⟨g1, j * 10 + 5, none⟩ = some (.int .i64 yd.k) := hatl 5 _ rfl
        have r6 : wc.cell? ⟨g1, j * 10 + 6, none⟩ = some (.string yd.n) := hatl 6 _ rfl
        have r7 : wc.cell? ⟨g1, j * 10 + 7, none⟩ = some (.string yd.x) := hatl 7 _ rfl
        have r8 : wc.cell? ⟨g1, j * 10 + 8, none⟩ = some (.slice x1 x2 x3) := hatl 8 _ rfl
        have r9 : wc.cell? ⟨g1, j * 10 + 9, none⟩ = some (.slice none 0 0) := hatl 9 _ rfl
        have zl := z2.1
        have hc2 := z2.2.2.2.2.1
        have hg2 := z2.2.2.2.1
        have hk1 : 1 + (j : Int) - 1 = j := by omega
        have hb9 := HCX.out.1.1.size
        obtain ⟨W9, hW9⟩ : ∃ W9, wc.alloc (.cells #[.int .i64 yp, .int .i64 yz, .int .i64 ydp, .int .i64 yh, .int .i64 ypl, .int .i64 yd.k, .string yd.n, .string yd.x, .slice x1 x2 x3, .slice none 0 0] 39) = W9 := ⟨_, rfl⟩
        have hB9 : Below wc.heap.size wc W9 := by rw [← hW9]; exact (Below.refl _ wc).alloc (Nat.le_refl _) _
        have HW9 := Fact.mk hW9
        have HB9 := Fact.mk hB9
        have q0 : W9.cell? ⟨wc.heap.size, 0, none⟩ = some (.int .i64 yp) := by rw [← hW9]; exact World.cell?_alloc_new wc _ _ 0
        have q2 : W9.cell? ⟨wc.heap.size, 2, none⟩ = some (.int .i64 ydp) := by rw [← hW9]; exact World.cell?_alloc_new wc _ _ 2
        have q4 : W9.cell? ⟨wc.heap.size, 4, none⟩ = some (.int .i64 ypl) := by rw [← hW9]; exact World.cell?_alloc_new wc _ _ 4
        by_cases hj0 : j = 0
        · have h01 : ((1 : Int) + (j : Int) == 1) = true := by simp [hj0]
          clear hcx hbc hmap hrowF hrowP hav hatl hat0 z2 hyl hyl1 hy0 hy01 hits hdec hbox hW9 hB9 hj0
          go_upto_region 12 with fail
          go_upto_region 13 with fail
          rw [HW9.out]
          clear r0 r1 r2 r3 r4 r5 r6 r7 r8 r9
          go_wp2_with (go_at_call 10; refine (awake7_true _).mono ?_; rintro e w11 ⟨rfl, hb11⟩)
          go_ret
          have e1 := HBW.out.size
          have e2 := HCX.out.1.1.size
          have e3 := HB9.out.size
          exact ⟨rfl, HBW.out.trans ((HCX.out.1.1.mono e1).trans ((HB9.out.mono (by omega)).trans (hb11.mono (by omega))))⟩
        · obtain ⟨j', rfl⟩ : ∃ j', j = j' + 1 := ⟨j - 1, by omega⟩
          have hw : (flatT elN (wideT (j' + 1)))[j' + 1]? = some ⟨0, 1, 1, 1, 0 + j', txN⟩ := by rw [flatT, List.getElem?_cons_succ]; exact wide_last j' 0 1 0 1
          rw [hw] at hyl1
          obtain ⟨E0, E1, E2, E3, E4, E5⟩ : (0 : Int) = yp ∧ (1 : Int) = yz ∧ 1 = ydp ∧ (1 : Int) = yh ∧ 0 + j' = ypl ∧ txN = yd := by simpa using hyl1
          have hz1 : (postF (wideT (j' + 1)) 1 ++ [0])[0]? = some 1 := by rw [List.getElem?_append_left (by rw [postF_len, wide_size]; omega)]; exact wide_post j' 1
          have zf := (rowI_at hrowP hz1).1
          have zf9 : W9.cell? ⟨g2, 0, none⟩ = some (.int .i64 1) := (hB9.cell (p := ⟨g2, 0, none⟩) hg2).trans zf
          have h01 : ((1 : Int) + (((j' + 1 : Nat) : Int)) == 1) = false := by simp; omega
          clear hcx hbc hmap hrowF hrowP hav hatl hat0 z2 hyl hyl1 hy0 hy01 hits hdec hbox hW9 hB9 hw hz1
          have hk2 : 1 + ((j' : Int) + 1) - 2 = j' := by omega
          have hk3 : 1 + ((j' : Int) + 1) - 1 = (j' : Int) + 1 := by omega
          have Q0 : W9.cell? ⟨wc.heap.size, 0, none⟩ = some (.int .i64 0) := by rw [q0, E0]
          have Q2 : W9.cell? ⟨wc.heap.size, 2, none⟩ = some (.int .i64 1) := by rw [q2, ← E2]; rfl
          have Q4 : W9.cell? ⟨wc.heap.size, 4, none⟩ = some (.int .i64 j') := by rw [q4, ← E4, Nat.zero_add]
          clear q0 q2 q4 E0 E1 E2 E3 E4 E5
          go_upto_region 12 with fail
          go_upto_region 13 with fail
          rw [HW9.out]
          clear r0 r1 r2 r3 r4 r5 r6 r7 r8 r9
          go_wp2_with (go_at_call 10; refine (awake7_true _).mono ?_; rintro e w11 ⟨rfl, hb11⟩)
          go_ret
          have e1 := HBW.out.size
          have e2 := HCX.out.1.1.size
          have e3 := HB9.out.size
          exact ⟨rfl, HBW.out.trans ((HCX.out.1.1.mono e1).trans ((HB9.out.mono (by omega)).trans (hb11.mono (by omega))))⟩
    · have hdec : decide ((j : Int) + 1 < 1 + (m : Int)) = true := decide_eq_true (by omega)
      obtain ⟨hT, hown, hB⟩ := hx.out
      have hTl := hT.lt
      obtain ⟨c0, c1, c2, c3, c4, hfz⟩ := id hT
      obtain ⟨g', rfl⟩ : ∃ g', gk = g' + 1 := ⟨gk - 1, by omega⟩
      obtain ⟨i0, hii, hz0, hz1, hz2⟩ := info_parts infoN
      have hfz4 := hfz 4
      have HT := Fact.mk hT
      have HB := Fact.mk hB
      have HO := Fact.mk hown
      have hsb := hB.size
      clear hx hT hown hB hfz
      go_wp2_with (at_builtin; refine wpList_append_own _ rfl (.tmp 22) (.tmp 24) 23 rfl (w.heap.size + 1) 25 i0 (.agg #[.int .i64 0, .string ⟨#[]⟩, .string ⟨#[]⟩, .slice none 0 0, .slice none 0 0]) 5 88 Try.underlying23 hii hz0 hz1 hz2 rfl (by decide) (.slice a l c) j (rowF (List.replicate j txR)) rfl (HO.out.alloc _) ⟨wr.heap.size, 0, none⟩ 1 1 [.int .i64 3, .string ⟨#[]⟩, .string ⟨#[98]⟩, .slice none 0 0, .slice none 0 0] rfl rfl (cell_five_new _ _ _ _ _ _ _) (by simp [Value.oneCell']) (by unfold maxLen; omega) (by omega) (by simp; omega) ?_; intro v' w1 hown' hgrow _; obtain ⟨gg, cap2, rfl⟩ := ownsRow_succ hown'; have hT1 : Five w1 w.heap.size (.int .i64 2) (.string ⟨#[97]⟩) (.string ⟨#[]⟩) (.slice none 0 0) (.slice a l c) := HT.out.same ((hgrow.block _ (by simp; omega) (fun e => by have := (HO.out.lt _ e.symm).1; omega)).trans (Below.heap_alloc _ _ _ hTl)); have HT1 := Fact.mk hT1; obtain ⟨e0, e1, e2, e3, e4, ef⟩ := hT1; have ef4 := ef 4; clear ef)
      have HF : Fact (Five (w1.setCell ⟨w.heap.size, 4, none⟩ (.slice (some ⟨gg, 0, none⟩) (j + 1) cap2)) w.heap.size (.int .i64 2) (.string ⟨#[97]⟩) (.string ⟨#[]⟩) (.slice none 0 0) (.slice (some ⟨gg, 0, none⟩) (j + 1) cap2)) := ⟨HT1.out.put4 _⟩
      have HO2 : Fact ((w1.setCell ⟨w.heap.size, 4, none⟩ (.slice (some ⟨gg, 0, none⟩) (j + 1) cap2)).ownsRow (w.heap.size + 1) 25 5 (.slice (some ⟨gg, 0, none⟩) (j + 1) cap2) (j + 1) (rowF (List.replicate (j + 1) txR))) := ⟨by
        rw [List.replicate_succ', rowF_snoc]
        exact ownsRow_setCell_below hown' (by show w.heap.size < _; omega) _⟩
      have HB2 : Fact (Below w.heap.size w (w1.setCell ⟨w.heap.size, 4, none⟩ (.slice (some ⟨gg, 0, none⟩) (j + 1) cap2))) := ⟨((HB.out.alloc hsb _).grown hgrow (by simp; omega) (fun k e => by have := (HO.out.lt _ e).1; omega)).setCell (p := ⟨w.heap.size, 4, none⟩) (Nat.le_refl _) _⟩
      go_roundg g'
      case measure => omega
      case rel => exact ⟨j + 1, _, _, _, by simp, by omega, by omega, ⟨HF.out, HO2.out, HB2.out⟩⟩
theorem deepAll_walk (z : Int) (b : Bool) (w : World) :
    Calls Try.prog 8 #[.int .i64 z, .bool b] w fun e w' => e = .returned (.bool true) ∧ Below w.heap.size w w' := by
  cases b with
  | false => exact deep7_walk z w
  | true => exact wide7_walk z w
end Go.Proofs.Ytjjkidenlgghkaa
