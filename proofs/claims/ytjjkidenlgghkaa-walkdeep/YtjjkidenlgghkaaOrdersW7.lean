/- WalkOrders, walked. -/
import Derived.Test.YtjjkidenlgghkaaOrdM
import Derived.Test.YtjjkidenlgghkaaFlat
import Derived.Test.YtjjkidenlgghkaaAwake7
import Derived.Test.YtjjkidenlgghkaaSmall
import Derived.Deep.RegionHeld3
import Derived.BigQuiet
import Derived.Deep.DeepCutAuto
set_option linter.unusedVariables false
namespace Go.Proofs.Ytjjkidenlgghkaa
open Go.Deep (BT)
open Go.RowKit M

theorem rowI_at {w : World} {B E g n cap : Nat} {l : List Nat} (h : w.ownsRow B E 1 (.slice (some ⟨g, 0, none⟩) n cap) n (cI l)) {i : Nat} {y : Nat} (hy : l[i]? = some y) :
    w.cell? ⟨g, i, none⟩ = some (.int .i64 y) ∧ (∀ o, w.frozen? ⟨g, o, none⟩ = false) ∧ B ≤ g ∧ g < w.heap.size ∧ n ≤ cap ∧ cap ≤ maxLen ∧ i < n := by
  obtain ⟨h1, h2⟩ := h
  have hi : i < n := by rw [cI_len] at h1; have := (List.getElem?_eq_some_iff.1 hy).1; omega
  rcases h2 with ⟨e, _⟩ | ⟨g', cap', cur, e, hg, hh, hc1, hc2, hs, ht⟩
  · cases e
  · cases e
    refine ⟨?_, fun o => by simp [World.frozen?, hh], hg, (Array.getElem?_eq_some_iff.1 hh).1, hc1, hc2, hi⟩
    simp only [World.cell?, hh]
    have h3 : (cI l)[i]? = some (.int .i64 y) := by simp [cI, hy]
    rw [← ht, List.getElem?_take] at h3
    split at h3
    · simpa using h3
    · cases h3
theorem rowI_set {w : World} {B E g n cap : Nat} {l : List Nat} (h : w.ownsRow B E 1 (.slice (some ⟨g, 0, none⟩) n cap) n (cI l)) (i y : Nat) :
    (w.setCell ⟨g, i, none⟩ (.int .i64 y)).ownsRow B E 1 (.slice (some ⟨g, 0, none⟩) n cap) n (cI (l.set i y)) := by
  obtain ⟨h1, h2⟩ := h
  refine ⟨by rw [cI_len] at h1 ⊢; simpa using h1, .inr ?_⟩
  rcases h2 with ⟨e, _⟩ | ⟨g', cap', cur, e', hg, hh, hc1, hc2, hs, ht⟩
  · cases e
  · cases e'
    refine ⟨g, cap, cur.setIfInBounds i (.int .i64 y), rfl, hg, ?_, hc1, hc2, by simpa using hs, ?_⟩
    · simp only [World.setCell, Array.getElem?_modify, hh]
      simp
    · rw [Array.toList_setIfInBounds, List.take_set, ht]
      simp [cI, List.map_set]

theorem made_zero (n : Nat) : (madeCells (Value.int .i64 0).cells (n * 1)).toList = cI (List.replicate n 0) := by
  apply List.ext_getElem?
  intro i
  rw [Nat.mul_one]
  by_cases hi : i < n
  · simp [madeCells, cI, hi, Value.cells, Nat.mod_one]
  · rw [List.getElem?_eq_none (by simp [madeCells]; omega), List.getElem?_eq_none (by simp [cI]; omega)]
/-- what stays while a boxed tree is looked at -/
theorem one_keep {w W w' : World} {xs : Array Value} (hb : Below W.heap.size W w') (h : Below w.heap.size w W ∧ w.heap.size + 1 ≤ W.heap.size ∧ (∀ i, W.cell? ⟨w.heap.size, i, none⟩ = xs[i]?)) :
    Below w.heap.size w w' ∧ w.heap.size + 1 ≤ w'.heap.size ∧ (∀ i, w'.cell? ⟨w.heap.size, i, none⟩ = xs[i]?) := by
  obtain ⟨h1, h2, h4⟩ := h
  have hs := hb.size
  refine ⟨h1.trans (hb.mono (by omega)), by omega, fun i => ?_⟩
  rw [hb.cell (p := ⟨w.heap.size, i, none⟩) (by show w.heap.size < _; omega)]; exact h4 i
theorem flat_c {w W : World} {d : Nd} {k : M.F} {va ka : Value} {P : Prop} (h : Lies w.heap.size w d k va ka) (f : Fits 0 0 d k) (hS : Below w.heap.size w W ∧ P) :
    Calls Try.prog 12 #[nodeV d va ka] W fun e w' => ∃ g c its, e = .returned (.slice (some ⟨g, 0, none⟩) (k.size + 1) c) ∧ Below W.heap.size W w' ∧ Fact (its.map (·.1) = flatT d k) ∧ Fact (w'.ownsRow W.heap.size 39 10 (.slice (some ⟨g, 0, none⟩) (k.size + 1) c) (k.size + 1) (cellsIt its)) := by
  have hl := (h.below hS.1).here hS.1.size
  refine (flat_any d k va ka W hl.a hl.f (by have := f.depth; omega) (by have := f.size; omega) (by have := f.slots; have := f.size; omega)).mono ?_
  rintro e w' ⟨v, its, rfl, hb, hm, hr, _⟩
  obtain ⟨g, c, rfl⟩ := ownsRow_succ hr
  exact ⟨g, c, its, rfl, hb, ⟨hm⟩, ⟨hr⟩⟩
theorem post_c {w W : World} {d : Nd} {k : M.F} {va ka : Value} {P : Prop} (h : Lies w.heap.size w d k va ka) (f : Fits 0 0 d k) (hS : Below w.heap.size w W ∧ P) :
    Calls Try.prog 15 #[nodeV d va ka] W fun e w' => ∃ g c, e = .returned (.slice (some ⟨g, 0, none⟩) (k.size + 1) c) ∧ Below W.heap.size W w' ∧ Fact (w'.ownsRow W.heap.size 3 1 (.slice (some ⟨g, 0, none⟩) (k.size + 1) c) (k.size + 1) (cI (postF k 1 ++ [0]))) := by
  have hl := (h.below hS.1).here hS.1.size
  refine (post_any d k va ka W hl.a hl.f (by have := f.depth; omega) (by have := f.size; omega)).mono ?_
  rintro e w' ⟨v, rfl, hb, hr⟩
  obtain ⟨g, c, rfl⟩ := ownsRow_succ hr
  exact ⟨g, c, rfl, hb, ⟨hr⟩⟩
theorem own_up {w w' : World} {B E z n : Nat} {v : Value} {xs : List Value} (h : w.ownsRow B E z v n xs) (hb : Below w.heap.size w w') : w'.ownsRow B E z v n xs := own_block h (fun k _ hk => hb.block k hk)

set_option maxRecDepth 100000 in
set_option maxHeartbeats 8000000 in
theorem orders7_walk (d : Nd) (k : M.F) (va ka : Value) (w : World) (h : Lies w.heap.size w d k va ka) :
    Calls Try.prog 4 #[nodeV d va ka] w fun e w' => e = .returned (.bool true) ∧ Below w.heap.size w w' := by
  obtain ⟨p1, p2, p3, e1⟩ := h.a.val
  obtain ⟨q1, q2, e2⟩ := h.f.val
  subst e1 e2
  obtain ⟨kl, hkl⟩ : ∃ kl, k.len = kl := ⟨_, rfl⟩
  rw [hkl] at h ⊢
  clear hkl
  obtain ⟨K, N, X, A⟩ := d
  have H := Fact.mk h
  clear h
  obtain ⟨W0, hW0⟩ : ∃ W0, w.alloc (.cells #[.int .i64 K, .string N, .string X, .slice p1 p2 p3, .slice q1 kl q2] 25) = W0 := ⟨_, rfl⟩
  have hb0 : Below w.heap.size w W0 := by rw [← hW0]; exact (Below.refl _ w).alloc (Nat.le_refl _) _
  have hz0 : W0.heap.size = w.heap.size + 1 := by rw [← hW0]; simp
  have hbx : ∀ i, W0.cell? ⟨w.heap.size, i, none⟩ = (#[.int .i64 K, .string N, .string X, .slice p1 p2 p3, .slice q1 kl q2] : Array Value)[i]? := fun i => by rw [← hW0]; exact World.cell?_alloc_new w _ _ i
  go_enter Try.func4, Try.ntmps4
  go_wp2_with fail
  refine (Small_any ⟨K, N, X, A⟩ k _ _ w.heap.size W0 (H.out.below hb0) hb0.size).mono ?_
  rintro e w1 (⟨rfl, hb1⟩ | ⟨rfl, hb1, f1⟩)
  · go_wp2_with (go_at_call 10; refine (awake7_true _).mono ?_; rintro e w9 ⟨rfl, hb9⟩)
    go_ret
    exact ⟨rfl, hb0.trans ((hb1.mono hb0.size).trans (hb9.mono (Nat.le_trans hb0.size hb1.size)))⟩
  obtain ⟨n, hn⟩ : ∃ n, k.size + 1 = n := ⟨_, rfl⟩
  have hS0 : Below w.heap.size w w1.drew ∧ w.heap.size + 1 ≤ w1.drew.heap.size ∧ (∀ i, w1.drew.cell? ⟨w.heap.size, i, none⟩ = (#[.int .i64 K, .string N, .string X, .slice p1 p2 p3, .slice q1 kl q2] : Array Value)[i]?) := one_keep (W := W0) ⟨hb1.os, hb1.tape, hb1.output, hb1.size, hb1.block⟩ ⟨hb0, by omega, hbx⟩
  have HN := Fact.mk hn
  have HS0 := Fact.mk hS0
  have s3 := hS0.2.2
  clear hbx hb1 hb0 hW0 hz0 hn hS0
  go_wp2_with fail
  go_cut [3, 4] (fun fv pv wc => ∃ (g1 c1 : Nat) (its : List (Im × Value)) (g2 c2 : Nat), fv = .slice (some ⟨g1, 0, none⟩) n c1 ∧ pv = .slice (some ⟨g2, 0, none⟩) n c2 ∧ Fact (Below w.heap.size w wc ∧ its.map (·.1) = flatT ⟨K, N, X, A⟩ k ∧ wc.ownsRow (w.heap.size + 1) 39 10 (.slice (some ⟨g1, 0, none⟩) n c1) n (cellsIt its) ∧ wc.ownsRow (w.heap.size + 1) 3 1 (.slice (some ⟨g2, 0, none⟩) n c2) n (cI (postF k 1 ++ [0]))))
  case first =>
    have hS0 := HS0.out
    clear s3
    go_region_held3 (fun w' => Below w.heap.size w w' ∧ w.heap.size + 1 ≤ w'.heap.size ∧ (∀ i, w'.cell? ⟨w.heap.size, i, none⟩ = (#[.int .i64 K, .string N, .string X, .slice p1 p2 p3, .slice q1 kl q2] : Array Value)[i]?))
      (first | with_reducible exact hS0 | with_reducible exact one_keep hb5 (by assumption) | with_reducible exact one_keep hb6 (by assumption) | assumption)
      (first | (go_at_call 12; refine (flat_c (d := ⟨K, N, X, A⟩) H.out f1.out (by assumption)).mono ?_; rintro e w5 ⟨g1, c1, its, rfl, hb5, hm5, hr5⟩) | (go_at_call 15; refine (post_c (d := ⟨K, N, X, A⟩) H.out f1.out (by assumption)).mono ?_; rintro e w6 ⟨g2, c2, rfl, hb6, hr6⟩))
    all_goals
      rename_i hHeld
      have HHELD := Fact.mk hHeld
      have hs0 : w.heap.size + 1 ≤ w1.drew.heap.size := hS0.2.1
      have h5 := hb5.size
      have h6 := hb6.size
      clear hHeld hS0
      go_wp2_with fail
      go_meet
      case rel =>
        refine ⟨g1, c1, its, g2, c2, by rw [HN.out], by rw [HN.out], ⟨HHELD.out.1, hm5.out, ?_, ?_⟩⟩
        · rw [← HN.out]
          first
            | exact own_lessP (own_up hr5.out hb6) (by omega)
            | exact own_lessP hr5.out (by omega)
        · rw [← HN.out]
          first
            | exact own_lessP (own_up hr6.out hb5) (by omega)
            | exact own_lessP hr6.out (by omega)
  case rest =>
    obtain ⟨g1, c1, its, g2, c2, rfl, rfl, hcx⟩ := hcut
    have hn400 : n ≤ 400 := by have := f1.out.size; have := HN.out; omega
    have hn1 : 1 ≤ n := by have := HN.out; omega
    obtain ⟨hbc, hmap, hrowF, hrowP⟩ := hcx.out
    have hits : its.length = n := by have := congrArg List.length hmap; rw [List.length_map, flatT_len, HN.out] at this; exact this
    obtain ⟨y0, hy0⟩ : ∃ y, its[0]? = some y := ⟨its[0]'(by omega), by simp⟩
    have hp0 : y0.1.p = -1 := by
      have h1 : (its.map (·.1))[0]? = some y0.1 := by rw [List.getElem?_map, hy0]; rfl
      rw [hmap, flatT] at h1
      simp at h1
      rw [← h1]
    have z0 : wc.cell? ⟨g1, 0, none⟩ = some (.int .i64 (-1)) := by have := (row10_at hrowF hy0).1 0 _ rfl; rw [hp0] at this; simpa using this
    have hnn : ((n : Int) == 0) = false := by simp; omega
    have hc1 := (row10_at hrowF hy0).2.2.2.2.1
    have HCX := Fact.mk (hcx.out)
    clear hcx hbc hmap hrowF hrowP hy0
    go_upto_region 6 with fail
    obtain ⟨i0, hii, hzz0, hzz1, hzz2⟩ := info_parts infoInt
    go_upto_region 7 with (at_make; refine wpList_make_full _ rfl (.tmp 35) (.tmp 35) 34 rfl wc.heap.size 3 i0 (.int .i64 0) 1 Try.underlying34 hii hzz0 hzz1 .i64 .i64 (n : Int) (n : Int) n rfl rfl rfl rfl (by rw [hzz2]; omega) (by unfold maxLen; omega) (Nat.le_refl _) ?_; intro w4 hown4 hgr4)
    obtain ⟨P, hP⟩ : ∃ P, postF k 1 ++ [0] = P := ⟨_, rfl⟩
    have hPn : P.Nodup := by rw [← hP]; exact (postT k).1
    have hPm : ∀ j, j ∈ P ↔ j < n := fun j => by rw [← hP, ← HN.out]; exact (postT k).2 j
    have hPl : P.length = n := by rw [← hP, ← HN.out]; simp [postF_len]
    have HP := Fact.mk hP
    have hB4 : Fact (Below wc.heap.size wc w4) := ⟨(Below.refl _ _).grown hgr4 (Nat.le_refl _) (fun k e => by cases e)⟩
    have hO4 : Fact (w4.ownsRow wc.heap.size 3 1 (.slice (some ⟨wc.heap.size, 0, none⟩) n n) n (cI (met P n 0))) := ⟨by rw [met_zero, ← made_zero]; exact hown4⟩
    have HPN := Fact.mk hPn
    have HPM := Fact.mk hPm
    clear hown4 hgr4 hP hPn hPm z0
    go_wp2_with fail
    go_loopg [6] n (fun gf iv wr => ∃ i : Nat, iv = .int .i64 i ∧ i ≤ n ∧ n - i ≤ gf ∧ Fact (Below wc.heap.size wc wr) ∧ Fact (wr.ownsRow wc.heap.size 3 1 (.slice (some ⟨wc.heap.size, 0, none⟩) n n) n (cI (met P n i))))
    case atStart => exact ⟨0, rfl, Nat.zero_le _, Nat.le_refl _, hB4, hO4⟩
    case round =>
      obtain ⟨i, rfl, hi, hgf, hBr, hOr⟩ := hrel
      by_cases hin : i = n
      · subst hin
        have hdec : decide ((i : Int) < (i : Int)) = false := decide_eq_false (by omega)
        go_wp2_with fail
        go_loopg [7] i (fun gf jv wq => ∃ j : Nat, jv = .int .i64 j ∧ 1 ≤ j ∧ j ≤ i ∧ i - j ≤ gf ∧ Fact (wq.ownsRow wc.heap.size 3 1 (.slice (some ⟨wc.heap.size, 0, none⟩) i i) i (cI (met P i i))) ∧ Fact (Below wc.heap.size wc wq))
        case atStart => exact ⟨1, rfl, Nat.le_refl _, hn1, by omega, hOr, hBr⟩
        case round =>
          obtain ⟨j, rfl, hj1, hj, hgf2, hOq, hBq⟩ := hrel
          by_cases hjn : j = i
          · subst hjn
            have hdec2 : decide ((j : Int) < (j : Int)) = false := decide_eq_false (by omega)
            go_wp2_with (go_at_call 10; refine (awake7_true _).mono ?_; rintro e w9 ⟨rfl, hb9⟩)
            go_ret
            exact ⟨rfl, HCX.out.1.trans ((hBq.out.mono HCX.out.1.size).trans (hb9.mono (Nat.le_trans HCX.out.1.size hBq.out.size)))⟩
          · have hjlt : j < i := by omega
            have hdec2 : decide ((j : Int) < (i : Int)) = true := decide_eq_true (by omega)
            obtain ⟨yj, hyj⟩ : ∃ y, its[j]? = some y := ⟨its[j]'(by omega), by simp⟩
            have hyj1 : (flatT ⟨K, N, X, A⟩ k)[j]? = some yj.1 := by rw [← HCX.out.2.1, List.getElem?_map, hyj]; rfl
            obtain ⟨q, xI, hxq, hu⟩ := flatT_up ⟨K, N, X, A⟩ k j yj.1 hj1 hyj1
            have hqj := hu.lt
            obtain ⟨xq, hxq1⟩ : ∃ x, its[q]? = some x := ⟨its[q]'(by omega), by simp⟩
            obtain rfl : xq.1 = xI := by
              have h1 : (flatT ⟨K, N, X, A⟩ k)[q]? = some xq.1 := by rw [← HCX.out.2.1, List.getElem?_map, hxq1]; rfl
              rw [h1] at hxq
              exact Option.some.inj hxq
            have b1 := flatT_bd _ _ _ _ hyj1
            have b2 := flatT_bd _ _ _ _ hxq
            have hks := HN.out
            have hkd := f1.out.depth
            have hrq : wr.ownsRow (w.heap.size + 1) 39 10 (.slice (some ⟨g1, 0, none⟩) i c1) i (cellsIt its) := own_block HCX.out.2.2.1 (fun k e hk => hBq.out.block k hk)
            have hrj := (row10_at hrq hyj).1
            have hrx := (row10_at hrq hxq1).1
            have hoq := hOq.out
            have hposlt : ∀ a, a < i → pos P a < i := fun a ha => by have := pos_lt ((HPM.out a).2 ha); omega
            have m1 : (met P i i)[q]? = some (pos P q + 1) := by rw [met_get _ _ _ _ (by omega), if_pos (hposlt q (by omega))]
            have m2 : (met P i i)[j]? = some (pos P j + 1) := by rw [met_get _ _ _ _ hjlt, if_pos (hposlt j hjlt)]
            have v1 := (rowI_at hoq m1).1
            have v2 := (rowI_at hoq m2).1
            have hpos := hu.pos
            rw [HP.out] at hpos
            simp only [Nat.zero_add] at hpos
            obtain ⟨A1, hA1⟩ : ∃ a : Nat, pos P q + 1 = a := ⟨_, rfl⟩
            obtain ⟨A2, hA2⟩ : ∃ a : Nat, pos P j + 1 = a := ⟨_, rfl⟩
            rw [hA1] at v1
            rw [hA2] at v2
            have hpp : yj.1.p = q := by have := hu.p; simpa using this
            have hdp := hu.dp
            have hh := hu.h
            have hz := hu.z
            obtain ⟨⟨yp, yz, ydp, yh, ypl, yd⟩, yav⟩ := yj
            obtain ⟨⟨xp, xz, xdp, xh, xpl, xd⟩, xav⟩ := xq
            dsimp only at hpp hdp hh hz b1 b2
            subst hpp hdp
            have r0 : wr.cell? ⟨g1, j * 10, none⟩ = some (.int .i64 q) := hrj 0 _ rfl
            have r1 : wr.cell? ⟨g1, j * 10 + 1, none⟩ = some (.int .i64 yz) := hrj 1 _ rfl
            have r2 : wr.cell? ⟨g1, j * 10 + 2, none⟩ = some (.int .i64 ((xdp : Int) + 1)) := hrj 2 _ rfl
            have r3 : wr.cell? ⟨g1, j * 10 + 3, none⟩ = some (.int .i64 yh) := hrj 3 _ rfl
            have u1 : wr.cell? ⟨g1, q * 10 + 1, none⟩ = some (.int .i64 xz) := hrx 1 _ rfl
            have u2_ : wr.cell? ⟨g1, q * 10 + 2, none⟩ = some (.int .i64 xdp) := hrx 2 _ rfl
            have u3_ : wr.cell? ⟨g1, q * 10 + 3, none⟩ = some (.int .i64 xh) := hrx 3 _ rfl
            have w1_ : IntKind.i64.wrap ((xdp : Int) + 1) = (xdp : Int) + 1 := wrap_id (by omega) (by omega)
            have w2_ : IntKind.i64.wrap ((j : Int) + yz) = (j : Int) + yz := wrap_id (by omega) (by omega)
            have w3_ : IntKind.i64.wrap ((q : Int) + xz) = (q : Int) + xz := wrap_id (by omega) (by omega)
            have t1 : decide ((q : Int) < 0) = false := decide_eq_false (by omega)
            have t2 : decide ((j : Int) ≤ (q : Int)) = false := decide_eq_false (by omega)
            have t3 : decide ((A1 : Int) ≤ (A2 : Int)) = false := decide_eq_false (by omega)
            have t3n : decide (A1 ≤ A2) = false := decide_eq_false (by omega)
            have t3m : ¬ A1 ≤ A2 := by omega
            have t4 : (((xdp : Int) + 1) != ((xdp : Int) + 1)) = false := by simp
            have t5 : decide (xh ≤ yh) = false := decide_eq_false (by omega)
            have t6 : decide ((q : Int) + xz < (j : Int) + yz) = false := decide_eq_false (by omega)
            have q1_ : (0 : Int) ≤ q := by omega
            have q2_ : (q : Int) < i := by omega
            have j1_ : (0 : Int) ≤ j := by omega
            have j2_ : (j : Int) < i := by omega
            obtain ⟨g', rfl⟩ : ∃ g', gk = g' + 1 := ⟨gk - 1, by omega⟩
            have HBQ := Fact.mk hBq.out
            clear hrj hrx hoq hposlt m1 m2 hpos hA1 hA2 hrq hyj hyj1 hxq hxq1 hu b1 b2 hks hz hh hBq
            go_wp2_with fail
            go_quiet (fail)
            go_wp2_with fail
            go_roundg g'
            case measure => omega
            case rel => exact ⟨j + 1, by simp, by omega, by omega, by omega, ⟨hOq.out⟩, ⟨below_drewN HBQ.out _⟩⟩
      · have hlt : i < n := by omega
        have hdec : decide ((i : Int) < (n : Int)) = true := decide_eq_true (by omega)
        have hiP : i < P.length := by omega
        obtain ⟨pi, hpi⟩ : ∃ pi, P[i] = pi := ⟨_, rfl⟩
        have hpn : pi < n := (HPM.out pi).1 (by rw [← hpi]; exact List.getElem_mem hiP)
        have hPi : P[i]? = some pi := by rw [← hpi]; simp
        have hrP := HCX.out.2.2.2
        rw [HP.out] at hrP
        have y1 : wr.cell? ⟨g2, i, none⟩ = some (.int .i64 pi) := (rowI_at (own_block hrP (fun k e hk => hBr.out.block k hk)) hPi).1
        have hm0 : (met P n i)[pi]? = some 0 := by
          rw [met_get P n i pi hpn, ← hpi, pos_get HPN.out hiP, if_neg (by omega)]
        obtain ⟨y2, fz2, _, hg4, _, _, _⟩ := rowI_at hOr.out hm0
        have hc2 := (rowI_at hrP hPi).2.2.2.2.1
        have hst := rowI_set hOr.out pi (i + 1)
        have hst2 := met_step P n i HPN.out hiP (by rw [hpi]; exact hpn)
        rw [hpi] at hst2
        rw [hst2] at hst
        have t1 : decide ((pi : Int) < 0) = false := decide_eq_false (by omega)
        have t2 : decide ((n : Int) ≤ (pi : Int)) = false := decide_eq_false (by omega)
        have t3 : ((0 : Int) != 0) = false := rfl
        have HST := Fact.mk hst
        obtain ⟨g', rfl⟩ : ∃ g', gk = g' + 1 := ⟨gk - 1, by omega⟩
        clear hst hst2 hrP hm0 hPi
        go_wp2_with fail
        go_roundg g'
        case measure => omega
        case rel => exact ⟨i + 1, by simp, by omega, by omega, ⟨hBr.out.setCell (p := ⟨wc.heap.size, pi, none⟩) (Nat.le_refl _) _⟩, ⟨HST.out⟩⟩
end Go.Proofs.Ytjjkidenlgghkaa
