/- WalkDeep, walked: a tree that is very deep, or very wide. -/
import Derived.Test.YtjjkidenlgghkaaDeepM
import Derived.Test.YtjjkidenlgghkaaOrdersW7
import Derived.Test.YtjjkidenlgghkaaPath
import Derived.Test.YtjjkidenlgghkaaNext
import Derived.Test.YtjjkidenlgghkaaDeep
set_option linter.unusedVariables false
namespace Go.Proofs.Ytjjkidenlgghkaa
open Go.Deep (BT)
open Go.RowKit M

theorem keepX {wL W w' : World} {X : Nat} {v0 v1 v2 v3 v4 : Value} (hX : X < wL.heap.size) (hb : Below W.heap.size W w') (h : Below wL.heap.size wL W ∧ (W.cell? ⟨X, 0, none⟩ = some v0 ∧ W.cell? ⟨X, 1, none⟩ = some v1 ∧ W.cell? ⟨X, 2, none⟩ = some v2 ∧ W.cell? ⟨X, 3, none⟩ = some v3 ∧ W.cell? ⟨X, 4, none⟩ = some v4)) :
    Below wL.heap.size wL w' ∧ (w'.cell? ⟨X, 0, none⟩ = some v0 ∧ w'.cell? ⟨X, 1, none⟩ = some v1 ∧ w'.cell? ⟨X, 2, none⟩ = some v2 ∧ w'.cell? ⟨X, 3, none⟩ = some v3 ∧ w'.cell? ⟨X, 4, none⟩ = some v4) := by
  have hs := h.1.size
  have hc : ∀ i, w'.cell? ⟨X, i, none⟩ = W.cell? ⟨X, i, none⟩ := fun i => hb.cell (p := ⟨X, i, none⟩) (by show X < _; omega)
  exact ⟨h.1.trans (hb.mono hs), (hc 0).trans h.2.1, (hc 1).trans h.2.2.1, (hc 2).trans h.2.2.2.1, (hc 3).trans h.2.2.2.2.1, (hc 4).trans h.2.2.2.2.2⟩
theorem flat_d {w W : World} {d : Nd} {k : M.F} {va ka : Value} {P : Prop} (h : Lies w.heap.size w d k va ka) (hd : k.depth ≤ 1000 ∧ k.size ≤ 1000 ∧ d.ats.length + k.slots ≤ 1000) (hS : Below w.heap.size w W ∧ P) :
    Calls Try.prog 12 #[nodeV d va ka] W fun e w' => ∃ g c its, e = .returned (.slice (some ⟨g, 0, none⟩) (k.size + 1) c) ∧ Below W.heap.size W w' ∧ Fact (its.map (·.1) = flatT d k) ∧ Fact (w'.ownsRow W.heap.size 39 10 (.slice (some ⟨g, 0, none⟩) (k.size + 1) c) (k.size + 1) (cellsIt its)) ∧ Fact (∀ y ∈ its, ∃ a b c, y.2 = .slice a b c) := by
  have hl := (h.below hS.1).here hS.1.size
  refine (flat_any d k va ka W hl.a hl.f (by omega) (by omega) (by omega)).mono ?_
  rintro e w' ⟨v, its, rfl, hb, hm, hr, hav⟩
  obtain ⟨g, c, rfl⟩ := ownsRow_succ hr
  exact ⟨g, c, its, rfl, hb, ⟨hm⟩, ⟨hr⟩, ⟨fun y hy => (hav y hy).val⟩⟩
theorem post_d {w W : World} {d : Nd} {k : M.F} {va ka : Value} {P : Prop} (h : Lies w.heap.size w d k va ka) (hd : k.depth ≤ 1000 ∧ k.size ≤ 1000 ∧ d.ats.length + k.slots ≤ 1000) (hS : Below w.heap.size w W ∧ P) :
    Calls Try.prog 15 #[nodeV d va ka] W fun e w' => ∃ g c, e = .returned (.slice (some ⟨g, 0, none⟩) (k.size + 1) c) ∧ Below W.heap.size W w' ∧ Fact (w'.ownsRow W.heap.size 3 1 (.slice (some ⟨g, 0, none⟩) (k.size + 1) c) (k.size + 1) (cI (postF k 1 ++ [0]))) := by
  have hl := (h.below hS.1).here hS.1.size
  refine (post_any d k va ka W hl.a hl.f (by omega) (by omega)).mono ?_
  rintro e w' ⟨v, rfl, hb, hr⟩
  obtain ⟨g, c, rfl⟩ := ownsRow_succ hr
  exact ⟨g, c, rfl, hb, ⟨hr⟩⟩

set_option maxRecDepth 100000 in
set_option maxHeartbeats 4000000 in
theorem deep7_walk (z : Int) (w : World) :
    Calls Try.prog 8 #[.int .i64 z, .bool false] w fun e w' => e = .returned (.bool true) ∧ Below w.heap.size w w' := by
  obtain ⟨m, hm⟩ : ∃ q, Fact (pl z 500 = q) := ⟨_, ⟨rfl⟩⟩
  have hm5 : m < 500 := by have := pl_lt z 500 (by omega); rw [hm.out] at this; exact this
  have HPL : Fact (∀ W : World, Calls Try.prog 24 #[.int .i64 z, .int .i64 500] W fun e w' => e = .returned (.int .i64 m) ∧ w' = W) := ⟨fun W => place_at z 500 m hm W (by omega) (by omega)⟩
  go_enter Try.func8, Try.ntmps8
  go_wp2_with (go_at_call 24; refine (HPL.out _).mono ?_; rintro e w7 ⟨rfl, hw7⟩; have hw6 := hw7.symm; subst hw6; clear hw7)
  go_loopg [7] m (fun gf iv wr => ∃ (j : Nat) (a : Option Addr) (l c : Nat), iv = .int .i64 ((j : Int) + 1) ∧ j ≤ m ∧ m - j ≤ gf ∧
    Fact (Five wr w.heap.size (.int .i64 2) (.string ⟨#[97]⟩) (.string ⟨#[]⟩) (.slice none 0 0) (.slice a l c) ∧ FL (fun b => w.heap.size + 1 ≤ b) wr (.slice a l c) (chainF j) ∧ Below w.heap.size w wr))
  case atStart => exact ⟨0, none, 0, 0, rfl, Nat.zero_le _, Nat.le_refl _, ⟨Five.new w _ _ _ _ _ _, FL.nothing, (Below.refl _ w).alloc (Nat.le_refl _) _⟩⟩
  case round =>
    obtain ⟨j, a, l, c, rfl, hj, hgf, hx⟩ := hrel
    by_cases hjm : j = m
    · subst hjm
      have hdec : decide ((j : Int) + 1 < 1 + (j : Int)) = false := decide_eq_false (by omega)
      go_wp2_with fail
      obtain ⟨hT, hfl, hB⟩ := hx.out
      have hTl := hT.lt
      have HL : Fact (Lies wr.heap.size wr elN (chainF j) (.slice none 0 0) (.slice a l c)) := ⟨⟨AS.nothing, hfl.here⟩⟩
      have HBW := Fact.mk hB
      have hdk : (chainF j).depth ≤ 1000 ∧ (chainF j).size ≤ 1000 ∧ (elN.ats.length + (chainF j).slots) ≤ 1000 := by rw [chain_depth, chain_size, chain_slots]; exact ⟨by omega, by omega, by decide⟩
      have HDK := Fact.mk hdk
      have hsz : (chainF j).size + 1 = j + 1 := by rw [chain_size]
      have HSZ := Fact.mk hsz
      have hbx := And.intro hT.c0 (And.intro hT.c1 (And.intro hT.c2 (And.intro hT.c3 hT.c4)))
      have HS0 : Fact (Below wr.heap.size wr wr.drew ∧ (wr.drew.cell? ⟨w.heap.size, 0, none⟩ = some (.int .i64 2) ∧ wr.drew.cell? ⟨w.heap.size, 1, none⟩ = some (.string ⟨#[97]⟩) ∧ wr.drew.cell? ⟨w.heap.size, 2, none⟩ = some (.string ⟨#[]⟩) ∧ wr.drew.cell? ⟨w.heap.size, 3, none⟩ = some (.slice none 0 0) ∧ wr.drew.cell? ⟨w.heap.size, 4, none⟩ = some (.slice a l c))) := ⟨⟨(Below.refl _ _).drew, hbx⟩⟩
      clear hx hT hfl hB hdk hsz hbx
      go_cut [8, 9] (fun fv pv wc => ∃ (g1 c1 : Nat) (its : List (Im × Value)) (g2 c2 : Nat), fv = .slice (some ⟨g1, 0, none⟩) (j + 1) c1 ∧ pv = .slice (some ⟨g2, 0, none⟩) (j + 1) c2 ∧ Fact ((Below wr.heap.size wr wc ∧ (wc.cell? ⟨w.heap.size, 0, none⟩ = some (.int .i64 2) ∧ wc.cell? ⟨w.heap.size, 1, none⟩ = some (.string ⟨#[97]⟩) ∧ wc.cell? ⟨w.heap.size, 2, none⟩ = some (.string ⟨#[]⟩) ∧ wc.cell? ⟨w.heap.size, 3, none⟩ = some (.slice none 0 0) ∧ wc.cell? ⟨w.heap.size, 4, none⟩ = some (.slice a l c))) ∧ its.map (·.1) = flatT elN (chainF j) ∧ wc.ownsRow wr.heap.size 39 10 (.slice (some ⟨g1, 0, none⟩) (j + 1) c1) (j + 1) (cellsIt its) ∧ wc.ownsRow wr.heap.size 3 1 (.slice (some ⟨g2, 0, none⟩) (j + 1) c2) (j + 1) (cI (postF (chainF j) 1 ++ [0])) ∧ (∀ y ∈ its, ∃ a b c, y.2 = .slice a b c)))
      case first =>
        have hS0 := HS0.out
        go_region_held3 (fun w' => Below wr.heap.size wr w' ∧ (w'.cell? ⟨w.heap.size, 0, none⟩ = some (.int .i64 2) ∧ w'.cell? ⟨w.heap.size, 1, none⟩ = some (.string ⟨#[97]⟩) ∧ w'.cell? ⟨w.heap.size, 2, none⟩ = some (.string ⟨#[]⟩) ∧ w'.cell? ⟨w.heap.size, 3, none⟩ = some (.slice none 0 0) ∧ w'.cell? ⟨w.heap.size, 4, none⟩ = some (.slice a l c)))
          (first | with_reducible exact hS0 | with_reducible exact keepX hTl hb5 (by assumption) | with_reducible exact keepX hTl hb6 (by assumption) | assumption)
          (first | (go_at_call 12; refine (flat_d (d := elN) HL.out HDK.out (by assumption)).mono ?_; rintro e w5 ⟨g1, c1, its, rfl, hb5, hm5, hr5, hv5⟩) | (go_at_call 15; refine (post_d (d := elN) HL.out HDK.out (by assumption)).mono ?_; rintro e w6 ⟨g2, c2, rfl, hb6, hr6⟩))
        all_goals
          rename_i hHeld
          have HHELD := Fact.mk hHeld
          have hs0 : wr.heap.size ≤ wr.drew.heap.size := Nat.le_refl _
          have h5 := hb5.size
          have h6 := hb6.size
          clear hHeld hS0
          go_wp2_with fail
          go_meet
          case rel =>
            refine ⟨g1, c1, its, g2, c2, by rw [HSZ.out], by rw [HSZ.out], ⟨HHELD.out, hm5.out, ?_, ?_, hv5.out⟩⟩
            · rw [← HSZ.out]
              first
                | exact own_lessP (own_up hr5.out hb6) (by omega)
                | exact own_lessP hr5.out (by omega)
            · rw [← HSZ.out]
              first
                | exact own_lessP (own_up hr6.out hb5) (by omega)
                | exact own_lessP hr6.out (by omega)
      case rest =>
        obtain ⟨g1, c1, its, g2, c2, rfl, rfl, hcx⟩ := hcut
        obtain ⟨⟨hbc, hbox⟩, hmap, hrowF, hrowP, hav⟩ := hcx.out
        have hits : its.length = j + 1 := by have := congrArg List.length hmap; rw [List.length_map, flatT_len, HSZ.out] at this; exact this
        obtain ⟨yl, hyl⟩ : ∃ y, its[j]? = some y := ⟨its[j]'(by omega), by simp⟩
        obtain ⟨y0, hy0⟩ : ∃ y, its[0]? = some y := ⟨its[0]'(by omega), by simp⟩
        have hyl1 : (flatT elN (chainF j))[j]? = some yl.1 := by rw [← hmap, List.getElem?_map, hyl]; rfl
        have hy01 : (flatT elN (chainF j))[0]? = some y0.1 := by rw [← hmap, List.getElem?_map, hy0]; rfl
        obtain ⟨x1, x2, x3, eav⟩ := hav yl (List.mem_of_getElem? hyl)
        obtain ⟨hatl, _, _, hg1, hc1, hcm1, _⟩ := row10_at hrowF hyl
        have hat0 := (row10_at hrowF hy0).1
        have z2 := rowI_at hrowP (show _ = some 0 by have := post_last (chainF j); rw [show (chainF j).size = j by have := HSZ.out; omega] at this; exact this)
        have HCX := Fact.mk (hcx.out)
        obtain ⟨yq, hyq, hydp, hyh⟩ := chainT_last j
        obtain rfl : yl.1 = yq := by rw [hyl1] at hyq; exact Option.some.inj hyq
        obtain ⟨⟨yp, yz, ydp, yh, ypl, yd⟩, yav⟩ := yl
        dsimp only at hydp hyh eav
        subst hyh eav
        have hh0 : y0.1.h = (j : Int) + 1 := by
          rw [flatT] at hy01
          simp at hy01
          rw [← hy01]
          simp [chain_depth]
        have zz := rowI_at hrowP (chainT_post j)
        have r0 : wc.cell? ⟨g1, j * 10, none⟩ = some (.int .i64 yp) := hatl 0 _ rfl
        have r1 : wc.cell? ⟨g1, j * 10 + 1, none⟩ = some (.int .i64 yz) := hatl 1 _ rfl
        have r2 : wc.cell? ⟨g1, j * 10 + 2, none⟩ = some (.int .i64 j) := by have h2 := hatl 2 _ rfl; dsimp only at h2; rw [hydp] at h2; exact h2
        have r3 : wc.cell? ⟨g1, j * 10 + 3, none⟩ = some (.int .i64 1) := hatl 3 _ rfl
        have r4 : wc.cell? ⟨g1, j * 10 + 4, none⟩ = some (.int .i64 ypl) := hatl 4 _ rfl
        have r5 : wc.cell? ⟨g1, j * 10 + 5, none⟩ = some (.int .i64 yd.k) := hatl 5 _ rfl
        have r6 : wc.cell? ⟨g1, j * 10 + 6, none⟩ = some (.string yd.n) := hatl 6 _ rfl
        have r7 : wc.cell? ⟨g1, j * 10 + 7, none⟩ = some (.string yd.x) := hatl 7 _ rfl
        have r8 : wc.cell? ⟨g1, j * 10 + 8, none⟩ = some (.slice x1 x2 x3) := hatl 8 _ rfl
        have r9 : wc.cell? ⟨g1, j * 10 + 9, none⟩ = some (.slice none 0 0) := hatl 9 _ rfl
        have s3 : wc.cell? ⟨g1, 3, none⟩ = some (.int .i64 ((j : Int) + 1)) := by have := hat0 3 _ rfl; rw [hh0] at this; simpa using this
        have zl := z2.1
        have zf := zz.1
        have hc2 := z2.2.2.2.2.1
        have hg2 := z2.2.2.2.1
        clear hcx hbc hmap hrowF hrowP hav hatl hat0 z2 zz hyl hyl1 hy0 hy01 hits hyq hydp hh0 hdec hbox
        have hk1 : 1 + (j : Int) - 1 = j := by omega
        have hb9 := HCX.out.1.1.size
        obtain ⟨W9, hW9⟩ : ∃ W9, wc.alloc (.cells #[.int .i64 yp, .int .i64 yz, .int .i64 j, .int .i64 1, .int .i64 ypl, .int .i64 yd.k, .string yd.n, .string yd.x, .slice x1 x2 x3, .slice none 0 0] 39) = W9 := ⟨_, rfl⟩
        have hB9 : Below wc.heap.size wc W9 := by rw [← hW9]; exact (Below.refl _ wc).alloc (Nat.le_refl _) _
        have HW9 := Fact.mk hW9
        have HB9 := Fact.mk hB9
        have q2 : W9.cell? ⟨wc.heap.size, 2, none⟩ = some (.int .i64 j) := by rw [← hW9]; exact World.cell?_alloc_new wc _ _ 2
        have q3 : W9.cell? ⟨wc.heap.size, 3, none⟩ = some (.int .i64 1) := by rw [← hW9]; exact World.cell?_alloc_new wc _ _ 3
        have s39 : W9.cell? ⟨g1, 3, none⟩ = some (.int .i64 ((j : Int) + 1)) := (hB9.cell (p := ⟨g1, 3, none⟩) hg1).trans s3
        have bx0 : W9.cell? ⟨w.heap.size, 0, none⟩ = some (.int .i64 2) := (hB9.cell (p := ⟨w.heap.size, 0, none⟩) (by show w.heap.size < _; omega)).trans HCX.out.1.2.1
        have bx1 : W9.cell? ⟨w.heap.size, 1, none⟩ = some (.string ⟨#[97]⟩) := (hB9.cell (p := ⟨w.heap.size, 1, none⟩) (by show w.heap.size < _; omega)).trans HCX.out.1.2.2.1
        have bx2 : W9.cell? ⟨w.heap.size, 2, none⟩ = some (.string ⟨#[]⟩) := (hB9.cell (p := ⟨w.heap.size, 2, none⟩) (by show w.heap.size < _; omega)).trans HCX.out.1.2.2.2.1
        have bx3 : W9.cell? ⟨w.heap.size, 3, none⟩ = some (.slice none 0 0) := (hB9.cell (p := ⟨w.heap.size, 3, none⟩) (by show w.heap.size < _; omega)).trans HCX.out.1.2.2.2.2.1
        have bx4 : W9.cell? ⟨w.heap.size, 4, none⟩ = some (.slice a l c) := (hB9.cell (p := ⟨w.heap.size, 4, none⟩) (by show w.heap.size < _; omega)).trans HCX.out.1.2.2.2.2.2
        have HZF : Fact (∀ W : World, Below W9.heap.size W9 W → W.cell? ⟨g2, 0, none⟩ = some (.int .i64 j)) := ⟨fun W h => (h.cell (p := ⟨g2, 0, none⟩) (by have := hB9.size; show g2 < _; omega)).trans ((hB9.cell (p := ⟨g2, 0, none⟩) hg2).trans zf)⟩
        have hHP : Fact (∀ W : World, W9 = W → Calls Try.prog 17 #[.agg #[.int .i64 2, .string ⟨#[97]⟩, .string ⟨#[]⟩, .slice none 0 0, .slice a l c], .int .i64 j] W fun e w' => ∃ pa pc, e = .returned (.slice pa j pc) ∧ Below W9.heap.size W9 w') := ⟨fun W e => by
          subst e
          have hl := (HL.out.below (HCX.out.1.1.trans (hB9.mono hb9))).here (Nat.le_trans hb9 hB9.size)
          refine (path_any elN (chainF j) _ _ j W9 hl.a hl.f (by have := HDK.out; omega) (by have := HDK.out; omega)).mono ?_
          rintro e w' ⟨hbp, v, ps, rfl, hown, hor⟩
          obtain ⟨pa, pc, rfl⟩ := own_shape hown
          have hps : ps.length = j := by
            rcases hor with ⟨pre, x, h1, h2, h3, rfl⟩ | ⟨h1, rfl⟩
            · have hx : x ∈ evT elN (chainF j) := by obtain ⟨post, hp⟩ := h1; rw [← hp]; simp
              have := chainT_way j x hx
              simp
              omega
            · obtain ⟨x, hx, e⟩ := told_all elN (chainF j) j (by have := HSZ.out; omega)
              exact absurd (by rw [e]) (h1 x hx)
          exact ⟨pa, pc, by rw [hps], hbp⟩⟩
        clear hW9 hB9
        go_upto_region 12 with fail
        go_upto_region 13 with fail
        rw [HW9.out]
        clear r0 r1 r2 r3 r4 r5 r6 r7 r8 r9
        have t1 : True := trivial
        go_wp2_with (first
          | (go_at_call 17; refine (hHP.out _ rfl).mono ?_; rintro e w10 ⟨pa, pc, rfl, hb10⟩; have zf10 := HZF.out w10 hb10)
          | (go_at_call 10; refine (awake7_true _).mono ?_; rintro e w11 ⟨rfl, hb11⟩))
        go_ret
        have e1 := HBW.out.size
        have e2 := HCX.out.1.1.size
        have e3 := HB9.out.size
        have e4 := hb10.size
        exact ⟨rfl, HBW.out.trans ((HCX.out.1.1.mono e1).trans ((HB9.out.mono (by omega)).trans ((hb10.mono (by omega)).trans (hb11.mono (by omega)))))⟩
    · have hdec : decide ((j : Int) + 1 < 1 + (m : Int)) = true := decide_eq_true (by omega)
      obtain ⟨hT, hfl, hB⟩ := hx.out
      have hTl := hT.lt
      obtain ⟨W1, hW1⟩ : ∃ W1, wr.alloc (.cells #[.int .i64 2, .string ⟨#[97]⟩, .string ⟨#[]⟩, .slice none 0 0, .slice a l c] 25) = W1 := ⟨_, rfl⟩
      have hz1 : W1.heap.size = wr.heap.size + 1 := by rw [← hW1]; simp
      have hT1 : Five W1 w.heap.size (.int .i64 2) (.string ⟨#[97]⟩) (.string ⟨#[]⟩) (.slice none 0 0) (.slice a l c) := hT.same (by rw [← hW1]; exact Below.heap_alloc _ _ _ hTl)
      have hN1 : Five W1 wr.heap.size (.int .i64 2) (.string ⟨#[97]⟩) (.string ⟨#[]⟩) (.slice none 0 0) (.slice a l c) := by rw [← hW1]; exact Five.new wr _ _ _ _ _ _
      have hfl1 : FL (fun b => w.heap.size + 1 ≤ b) W1 (.slice a l c) (chainF j) := hfl.like (fun b _ hz => by rw [← hW1]; exact Below.heap_alloc _ _ _ hz)
      have hB1 : Below w.heap.size w W1 := by rw [← hW1]; exact hB.alloc hB.size _
      have hone : FL (fun b => w.heap.size + 1 ≤ b) W1 (.slice (some ⟨wr.heap.size, 0, none⟩) 1 1) (chainF (j + 1)) := one_FL (d := elN) hN1 (by show _ ≤ wr.heap.size; omega) AS.nothing hfl1
      have HX := Fact.mk (⟨hT1, hone, hB1⟩ : _ ∧ _ ∧ _)
      obtain ⟨c0, c1, c2, c3, c4, hfz⟩ := hT
      obtain ⟨d0, d1, d2, d3, d4, gfz⟩ := id hT1
      have g0 := gfz 0
      have g1 := gfz 1
      have g2 := gfz 2
      have g3 := gfz 3
      have g4 := gfz 4
      clear hx hfl hB hT1 hN1 hfl1 hB1 hone hfz gfz
      obtain ⟨g', rfl⟩ : ∃ g', gk = g' + 1 := ⟨gk - 1, by omega⟩
      go_wp2_with fail
      obtain ⟨hT1, hone, hB1⟩ := HX.out
      have h5 := five_all hT1 (.int .i64 2) (.string ⟨#[97]⟩) (.string ⟨#[]⟩) (.slice none 0 0) (.slice (some ⟨wr.heap.size, 0, none⟩) 1 1)
      have hoth : ∀ b, b ≠ w.heap.size → _ := fun b hb => five_other W1 w.heap.size hb (.int .i64 2) (.string ⟨#[97]⟩) (.string ⟨#[]⟩) (.slice none 0 0) (.slice (some ⟨wr.heap.size, 0, none⟩) 1 1)
      obtain ⟨W5, hW5⟩ : ∃ W5, ((((W1.setCell ⟨w.heap.size, 0, none⟩ (.int .i64 2)).setCell ⟨w.heap.size, 1, none⟩ (.string ⟨#[97]⟩)).setCell ⟨w.heap.size, 2, none⟩ (.string ⟨#[]⟩)).setCell ⟨w.heap.size, 3, none⟩ (.slice none 0 0)).setCell ⟨w.heap.size, 4, none⟩ (.slice (some ⟨wr.heap.size, 0, none⟩) 1 1) = W5 := ⟨_, rfl⟩
      rw [hW5] at h5
      have hz5 : W5.heap.size = W1.heap.size := by rw [← hW5]; simp [World.setCell]
      have hB5 : Below w.heap.size w W5 := ⟨by rw [← hW5]; exact hB1.os, by rw [← hW5]; exact hB1.tape, by rw [← hW5]; exact hB1.output, by rw [hz5]; exact hB1.size, fun k hk => by rw [← hW5]; exact (hoth k (by omega)).trans (hB1.block k hk)⟩
      have HQ : Fact (Five W5 w.heap.size (.int .i64 2) (.string ⟨#[97]⟩) (.string ⟨#[]⟩) (.slice none 0 0) (.slice (some ⟨wr.heap.size, 0, none⟩) 1 1) ∧ FL (fun b => w.heap.size + 1 ≤ b) W5 (.slice (some ⟨wr.heap.size, 0, none⟩) 1 1) (chainF (j + 1)) ∧ Below w.heap.size w W5) :=
        ⟨h5, hone.like (fun b hb _ => by have hb' : w.heap.size + 1 ≤ b := hb; rw [← hW5]; exact hoth b (by omega)), hB5⟩
      rw [hW5]
      clear h5 hoth hB5 hT1 hone hB1 HX
      go_roundg g'
      case measure => omega
      case rel => exact ⟨j + 1, some ⟨wr.heap.size, 0, none⟩, 1, 1, by simp, by omega, by omega, HQ⟩
end Go.Proofs.Ytjjkidenlgghkaa
