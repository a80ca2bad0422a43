/- serial.Join, joined, fit, slices.Clone: all of it in one text (tools/src16: Jnd, Jnd2, Clone, JnP, JnI, JnK, JnW one behind the other; a claim holds sixty files at most). -/
import Derived.Test.YtibagbnnplpfgaaDoorJnM
import Derived.Test.YtibagbnnplpfgaaDoorCopy
import Derived.Test.YtibagbnnplpfgaaDoorBld
import Derived.Deep.RegionHeld3
import Derived.Test.YtibagbnnplpfgaaDoorCopyA
import Derived.Laws.Cover3
import Derived.Deep.DeepCutAuto
import Derived.Maps.AppendAt
set_option linter.unusedVariables false
set_option linter.unusedSimpArgs false
namespace Go.Proofs.YtibagbnnplpfgaaDoor
open Go.Deep (BT)
open Go.RowKit M

def jstN (acc : List Nw) (r : Nw) : List Nw :=
  if emp r.d = true then acc else match acc with
  | [] => [r]
  | l :: t => if fit2 l.d r.d = true then { l with d := addT l.d r.d } :: t else r :: l :: t
def prN (r : Nw) : PT := (r.d, r.k)
theorem jstN_map (acc : List Nw) (r : Nw) : (jstN acc r).map prN = jstP (acc.map prN) (prN r) := by
  unfold jstN jstP
  show _ = if emp r.d = true then _ else _
  split
  · rfl
  · cases acc with
    | nil => rfl
    | cons l t =>
      show _ = if fit2 l.d r.d = true then _ else _
      dsimp only
      split <;> rfl
theorem rowF_get (rs : List Nw) (j i : Nat) (r : Nw) (u : Value) (hj : rs[j]? = some r) (hi : (cells5 r)[i]? = some u) : (rowF rs)[j * 5 + i]? = some u := by
  induction rs generalizing j with
  | nil => cases hj
  | cons x rs ih =>
    have hi5 : i < 5 := by have := (List.getElem?_eq_some_iff.1 hi).1; simpa [cells5] using this
    have e : rowF (x :: rs) = cells5 x ++ rowF rs := by simp [rowF]
    have hl : (cells5 x).length = 5 := rfl
    rw [e]
    cases j with
    | zero =>
      rw [List.getElem?_cons_zero] at hj
      cases hj
      rw [Nat.zero_mul, Nat.zero_add, List.getElem?_append_left (by omega)]
      exact hi
    | succ j =>
      rw [List.getElem?_cons_succ] at hj
      rw [List.getElem?_append_right (by omega), hl, show (j + 1) * 5 + i - 5 = j * 5 + i by omega]
      exact ih j hj
theorem own5_at {w : World} {B E g m cap : Nat} {l : Nw} {t : List Nw} (h : w.ownsRow B E 5 (.slice (some ⟨g, 0, none⟩) (m + 1) cap) (m + 1) (rowF (t ++ [l]))) (hm : t.length = m) :
    (∀ i u, (cells5 l)[i]? = some u → w.cell? ⟨g, m * 5 + i, none⟩ = some u) ∧ (∀ o, w.frozen? ⟨g, o, none⟩ = false) ∧ B ≤ g ∧ g < w.heap.size ∧ m + 1 ≤ cap ∧ cap ≤ maxLen := by
  have hc := h.cells (g := g) rfl
  have hg := h.lt g rfl
  rcases h.2 with ⟨e, _⟩ | ⟨g', cap', cur, e, hg', hh, hc1, hc2, hs, ht⟩
  · cases e
  · cases e
    refine ⟨fun i u hu => ?_, fun o => by simp [World.frozen?, hh], hg.1, hg.2, hc1, hc2⟩
    have := hc (m * 5 + i) u (rowF_get _ m i l u (by rw [← hm]; simp) hu)
    rw [add_cell, Nat.zero_add] at this
    exact this
theorem own5_put {w : World} {B E g m cap : Nat} {l : Nw} {t : List Nw} (s : ByteArray) (h : w.ownsRow B E 5 (.slice (some ⟨g, 0, none⟩) (m + 1) cap) (m + 1) (rowF (t ++ [l]))) (hm : t.length = m) :
    (w.setCell ⟨g, m * 5 + 2, none⟩ (.string s)).ownsRow B E 5 (.slice (some ⟨g, 0, none⟩) (m + 1) cap) (m + 1) (rowF (t ++ [{ l with d := { l.d with x := s } }])) := by
  obtain ⟨h1, h2⟩ := h
  have hl : (rowF t).length = m * 5 := by rw [rowF_len, hm]
  refine ⟨by rw [rowF_len]; simp [hm], .inr ?_⟩
  rcases h2 with ⟨e, _⟩ | ⟨g', cap', cur, e, hg, hh, hc1, hc2, hs, ht⟩
  · cases e
  · cases e
    refine ⟨g, cap, cur.setIfInBounds (m * 5 + 2) (.string s), rfl, hg, ?_, hc1, hc2, by simpa using hs, ?_⟩
    · simp only [World.setCell, Array.getElem?_modify, hh]
      simp
    · rw [Array.toList_setIfInBounds, List.take_set, ht, rowF_snoc, rowF_snoc, List.set_append, if_neg (by omega), hl, show m * 5 + 2 - m * 5 = 2 by omega]
      rfl

set_option maxRecDepth 20000 in
set_option maxHeartbeats 2000000 in
theorem fit_any (a b : Nd) (va ka vb kb : Value) (r : Bool) (hr : Fact (fit2 a b = r)) (w : World) (h1 : ∃ p q r, va = .slice p q r) (h2 : ∃ p q r, ka = .slice p q r) (h3 : ∃ p q r, vb = .slice p q r) (h4 : ∃ p q r, kb = .slice p q r) (hz : a.x.size + b.x.size ≤ 1000000) :
    Calls Tryd.prog 42 #[nodeV a va ka, nodeV b vb kb] w fun e w' => e = .returned (.bool r) ∧ Below w.heap.size w w' := by
  obtain ⟨p1, p2, p3, rfl⟩ := h1
  obtain ⟨p4, p5, p6, rfl⟩ := h2
  obtain ⟨p7, p8, p9, rfl⟩ := h3
  obtain ⟨q1, q2, q3, rfl⟩ := h4
  have hb : Below w.heap.size w ((w.alloc (.cells #[.int .i64 a.k, .string a.n, .string a.x, .slice p1 p2 p3, .slice p4 p5 p6] 25)).alloc (.cells #[.int .i64 b.k, .string b.n, .string b.x, .slice p7 p8 p9, .slice q1 q2 q3] 25)) := ((Below.refl _ w).alloc (Nat.le_refl _) _).alloc (by simp) _
  have HB := Fact.mk hb
  have hr' := hr.out
  unfold fit2 at hr'
  clear hb hr
  by_cases ha : a.k = 3
  · have b1 : (a.k == 3) = true := by rw [ha]; rfl
    rw [b1, Bool.true_and] at hr'
    by_cases hb : b.k = 3
    · have b2 : (b.k == 3) = true := by rw [hb]; rfl
      rw [b2, Bool.true_and] at hr'
      by_cases hs : a.x.size + b.x.size ≤ 4096
      · have b3 : (a.x.size : Int) + b.x.size ≤ 4096 := by omega
        have b4 : decide ((a.x.size : Int) + b.x.size ≤ 4096) = true := decide_eq_true b3
        rw [decide_eq_true hs] at hr'
        subst hr'
        clear ha hb hs
        go_enter Tryd.func42, Tryd.ntmps42
        go_wp2_with fail
        go_ret
        exact ⟨rfl, HB.out⟩
      · have b3 : ¬ (a.x.size : Int) + b.x.size ≤ 4096 := by omega
        have b4 : decide ((a.x.size : Int) + b.x.size ≤ 4096) = false := decide_eq_false b3
        rw [decide_eq_false hs] at hr'
        subst hr'
        clear ha hb hs
        go_enter Tryd.func42, Tryd.ntmps42
        go_wp2_with fail
        go_ret
        exact ⟨rfl, HB.out⟩
    · have b2 : (b.k == 3) = false := beq_eq_false_iff_ne.2 hb
      rw [b2, Bool.false_and] at hr'
      subst hr'
      clear ha hb
      go_enter Tryd.func42, Tryd.ntmps42
      go_wp2_with fail
      go_ret
      exact ⟨rfl, HB.out⟩
  · have b1 : (a.k == 3) = false := beq_eq_false_iff_ne.2 ha
    rw [b1, Bool.false_and, Bool.false_and] at hr'
    subst hr'
    clear ha
    go_enter Tryd.func42, Tryd.ntmps42
    go_wp2_with fail
    go_ret
    exact ⟨rfl, HB.out⟩
end Go.Proofs.YtibagbnnplpfgaaDoor
set_option linter.unusedVariables false
set_option linter.unusedSimpArgs false
namespace Go.Proofs.YtibagbnnplpfgaaDoor
open Go.Deep (BT)
open Go.RowKit M

theorem jstN_take (rs : List Nw) (j : Nat) (r : Nw) (h : rs[j]? = some r) : (rs.take (j + 1)).foldl jstN [] = jstN ((rs.take j).foldl jstN []) r := by
  rw [List.take_add_one, h]
  simp
theorem jstN_len (acc : List Nw) (r : Nw) : (jstN acc r).length ≤ acc.length + 1 := by
  unfold jstN
  split
  · omega
  · cases acc with
    | nil => exact Nat.le_refl _
    | cons l t => dsimp only; split <;> simp
theorem jstN_nil (r : Nw) (h : emp r.d = false) : jstN [] r = [r] := by unfold jstN; rw [if_neg (by simp [h])]
theorem jstN_fit (l r : Nw) (t : List Nw) (h : emp r.d = false) (hf : fit2 l.d r.d = true) : jstN (l :: t) r = { l with d := addT l.d r.d } :: t := by unfold jstN; rw [if_neg (by simp [h])]; dsimp only; rw [if_pos hf]
theorem jstN_two (l r : Nw) (t : List Nw) (h : emp r.d = false) (hf : fit2 l.d r.d = false) : jstN (l :: t) r = r :: l :: t := by unfold jstN; rw [if_neg (by simp [h])]; dsimp only; rw [if_neg (by simp [hf])]
/-- a node's values are slices -/
def Sl2 (r : Nw) : Prop := (∃ a b c, r.av = .slice a b c) ∧ (∃ a b c, r.kv = .slice a b c)
theorem jstN_sl {acc : List Nw} {r : Nw} (h : ∀ x ∈ acc, Sl2 x ∧ x.d.x.size ≤ 6000) (hr : Sl2 r ∧ r.d.x.size ≤ 6000) : ∀ x ∈ jstN acc r, Sl2 x ∧ x.d.x.size ≤ 6000 := by
  unfold jstN
  split
  · exact h
  · cases acc with
    | nil => intro x hx; obtain rfl := List.mem_singleton.1 hx; exact hr
    | cons l t =>
      dsimp only
      split
      · rename_i hf
        intro x hx
        rcases List.mem_cons.1 hx with rfl | hx
        · have := h l List.mem_cons_self
          unfold fit2 at hf
          simp only [Bool.and_eq_true, beq_iff_eq, decide_eq_true_eq] at hf
          refine ⟨this.1, ?_⟩
          show (l.d.x ++ r.d.x).size ≤ 6000
          rw [ByteArray.size_append]; omega
        · exact h x (List.mem_cons_of_mem _ hx)
      · intro x hx
        rcases List.mem_cons.1 hx with rfl | hx
        · exact hr
        · exact h x hx

set_option maxRecDepth 20000 in
set_option maxHeartbeats 8000000 in
theorem joined_any (rs : List Nw) (a : Option Addr) (c : Nat) (w : World) (hc : ∀ i, i < rs.length → ∃ b o, a = some ⟨b, o, none⟩ ∧ b < w.heap.size ∧ ∀ j u, (rowF rs)[j]? = some u → w.cell? ⟨b, o + j, none⟩ = some u) (hcap : rs.length ≤ c) (hc63 : c ≤ 9223372036854775807) (hm : rs.length ≤ 1000000) (hsl : ∀ x ∈ rs, Sl2 x ∧ x.d.x.size ≤ 6000) :
    Calls Tryd.prog 30 #[.slice a rs.length c] w fun e w' => ∃ v', e = .returned v' ∧ Below w.heap.size w w' ∧ w'.ownsRow w.heap.size 25 5 v' (rs.foldl jstN []).reverse.length (rowF (rs.foldl jstN []).reverse) := by
  obtain ⟨n, hn⟩ : ∃ n, rs.length = n := ⟨_, rfl⟩
  rw [hn] at hc hcap hm ⊢
  obtain ⟨b, o, hat⟩ : ∃ b o, Fact (∀ i, i < n → a = some ⟨b, o, none⟩ ∧ b < w.heap.size ∧ ∀ j u, (rowF rs)[j]? = some u → w.cell? ⟨b, o + j, none⟩ = some u) := by
    by_cases h0 : n = 0
    · exact ⟨0, 0, ⟨fun i hi => by omega⟩⟩
    · obtain ⟨b, o, e, h1, h2⟩ := hc 0 (by omega)
      exact ⟨b, o, ⟨fun i hi => ⟨e, h1, h2⟩⟩⟩
  have HN := Fact.mk hn
  have HSL := Fact.mk hsl
  clear hc hn hsl
  go_enter Tryd.func30, Tryd.ntmps30
  go_wp2_with fail
  go_loopg [3, 9] n (fun gf lv iv wr => ∃ (j : Nat) (acc : List Nw), iv = .int .i64 j ∧ j ≤ n ∧ n - j ≤ gf ∧ acc.length ≤ j ∧ Fact (Below w.heap.size w wr) ∧ Fact (wr.ownsRow w.heap.size 25 5 lv acc.length (rowF acc.reverse)) ∧ Fact (acc = (rs.take j).foldl jstN [] ∧ ∀ x ∈ acc, Sl2 x ∧ x.d.x.size ≤ 6000))
  case atStart => exact ⟨0, [], rfl, Nat.zero_le _, by omega, Nat.le_refl _, ⟨Below.refl _ _⟩, ⟨World.ownsRow_nil _ _ _ _⟩, ⟨rfl, fun x hx => by cases hx⟩⟩
  case round =>
    obtain ⟨j, acc, rfl, hj, hfu, hal, hbr, hown, hacc⟩ := hrel
    obtain ⟨va, vc, rfl⟩ := own_shape hown.out
    obtain ⟨i0, hii, hzz0, hzz1, hzz2⟩ := info_parts infoN
    have hsr := hbr.out.size
    by_cases hlt : j < n
    · obtain ⟨g', rfl⟩ : ∃ g', gk = g' + 1 := ⟨gk - 1, by omega⟩
      obtain ⟨ea, hbb, hcl⟩ := hat.out j hlt
      subst ea
      obtain ⟨r, hr⟩ : ∃ r, rs[j]? = some r := ⟨_, List.getElem?_eq_getElem (by rw [HN.out]; exact hlt)⟩
      have hrm : Sl2 r ∧ r.d.x.size ≤ 6000 := HSL.out r (List.mem_of_getElem? hr)
      have HNX : Fact ((rs.take (j + 1)).foldl jstN [] = jstN acc r) := ⟨by rw [jstN_take rs j r hr, ← hacc.out.1]⟩
      have HSL2 : Fact (∀ x ∈ jstN acc r, Sl2 x ∧ x.d.x.size ≤ 6000) := ⟨jstN_sl hacc.out.2 hrm⟩
      have hcr : ∀ i u, (cells5 r)[i]? = some u → wr.cell? ⟨b, o + j * 5 + i, none⟩ = some u := fun i u hu => by
        rw [Nat.add_assoc]
        exact (hbr.out.cell (p := ⟨b, o + (j * 5 + i), none⟩) hbb).trans (hcl _ _ (rowF_get rs j i r u hr hu))
      obtain ⟨⟨K, N, X, A⟩, k, av, kv⟩ := r
      obtain ⟨⟨⟨p1, p2, p3, e1⟩, ⟨p4, p5, p6, e2⟩⟩, hX⟩ := hrm
      dsimp only at e1 e2 hX
      subst e1 e2
      have l0 := hcr 0 _ rfl
      have l1 := hcr 1 _ rfl
      have l2 := hcr 2 _ rfl
      have l3 := hcr 3 _ rfl
      have l4 := hcr 4 _ rfl
      dsimp only at l0 l1 l2 l3 l4
      rw [Nat.add_zero] at l0
      have jI : (j : Int) < n := by omega
      have jI0 : (0 : Int) ≤ j := by omega
      obtain ⟨Wb, hWb⟩ : ∃ Wb, wr.alloc (.cells #[.int .i64 K, .string N, .string X, .slice p1 p2 p3, .slice p4 p5 p6] 25) = Wb := ⟨_, rfl⟩
      have hbW : Below w.heap.size w Wb := by rw [← hWb]; exact hbr.out.alloc hsr _
      have hzW : Wb.heap.size = wr.heap.size + 1 := by rw [← hWb]; simp
      have hbx : ∀ i u, (#[.int .i64 K, .string N, .string X, .slice p1 p2 p3, .slice p4 p5 p6] : Array Value)[i]? = some u → Wb.cell? ⟨wr.heap.size, i, none⟩ = some u := fun i u h => by
        rw [← hWb]; exact (World.cell?_alloc_new wr _ _ i).trans h
      have hownW : Fact (Wb.ownsRow w.heap.size 25 5 (.slice va acc.length vc) acc.length (rowF acc.reverse)) := ⟨by rw [← hWb]; exact hown.out.alloc _⟩
      have HWB := Fact.mk hWb
      have HBW := Fact.mk hbW
      have x0 := hbx 0 _ rfl
      have x1 := hbx 1 _ rfl
      have x2 := hbx 2 _ rfl
      have x3 := hbx 3 _ rfl
      have x4 := hbx 4 _ rfl
      have HLT : Fact (∀ g, (Value.slice va acc.length vc).ownBlock = some g → g < wr.heap.size) := ⟨fun g e => (hown.out.lt g e).2⟩
      clear hcr hcl hr hWb hbW hown hat
      obtain ⟨ae, hae⟩ : ∃ e, emp ⟨K, N, X, A⟩ = e := ⟨_, rfl⟩
      have hE := hae
      unfold emp at hE
      dsimp only at hE
      cases ae
      · -- it is not gone
        have HAE := Fact.mk hae
        have hq : (K = 3 ∧ X.toList.isEmpty = false) ∨ (K == 3) = false := by
          by_cases hK : K = 3
          · left
            refine ⟨hK, ?_⟩
            rw [hK] at hE
            have e : (X.toList == []) = X.toList.isEmpty := by cases X.toList <;> rfl
            rw [← e]
            simpa using hE
          · exact .inr (beq_eq_false_iff_ne.2 hK)
        clear hE hae
        cases acc with
        | nil =>
          have HJ : Fact (jstN [] ⟨⟨K, N, X, A⟩, k, .slice p1 p2 p3, .slice p4 p5 p6⟩ = [⟨⟨K, N, X, A⟩, k, .slice p1 p2 p3, .slice p4 p5 p6⟩]) := ⟨jstN_nil _ HAE.out⟩
          obtain ⟨al, hl0⟩ : ∃ al, ([] : List Nw).length = al := ⟨_, rfl⟩
          have wl2 : IntKind.i64.wrap ((al : Int) - 1) = -1 := by rw [← hl0]; decide
          have al1 : al ≤ 1000000 := by rw [← hl0]; exact Nat.zero_le _
          have HAL : Fact (al = 0) := ⟨hl0.symm⟩
          rw [hl0] at hownW ⊢
          have fin : ∀ w4 : World, Below w.heap.size w w4 → Wb.heap.size ≤ w4.heap.size → (∀ k, k < Wb.heap.size → w4.heap[k]? = Wb.heap[k]?) → Fact ((∀ i u, (#[.int .i64 K, .string N, .string X, .slice p1 p2 p3, .slice p4 p5 p6] : Array Value)[i]? = some u → w4.cell? ⟨wr.heap.size, i, none⟩ = some u) ∧ w4.ownsRow w.heap.size 25 5 (.slice va al vc) al (rowF [])) := fun w4 _ _ h => ⟨fun i u hu => (World.cell?_of_block (w := Wb) (a := ⟨wr.heap.size, i, none⟩) (h wr.heap.size (by omega))).trans (hbx i u hu), own_block hownW.out (fun k e hk => h k hk)⟩
          have HFIN := Fact.mk fin
          clear fin hbx hl0 hal
          rcases hq with ⟨rfl, hq2⟩ | hq2
          · skip
            go_wp2_with fail
            rw [HWB.out]
            go_wp2_with fail
            go_quiet (fail)
            obtain ⟨w4, hw4⟩ : ∃ w4, Wb.drewN nq = w4 := ⟨_, rfl⟩
            have hz4 : w4.heap.size = Wb.heap.size := by rw [← hw4]; rfl
            have HZ4 := Fact.mk hz4
            have hbw4 : Below w.heap.size w w4 := by rw [← hw4]; exact ⟨HBW.out.os, HBW.out.tape, HBW.out.output, HBW.out.size, HBW.out.block⟩
            have h4 := HFIN.out w4 hbw4 (by omega) (fun k _ => by rw [← hw4]; rfl)
            have HBW4 := Fact.mk hbw4
            have y0 := h4.out.1 0 _ rfl
            have y1 := h4.out.1 1 _ rfl
            have y2 := h4.out.1 2 _ rfl
            have y3 := h4.out.1 3 _ rfl
            have y4 := h4.out.1 4 _ rfl
            rw [hw4]
            clear hw4 hz4 x0 x1 x2 x3 x4 l0 l1 l2 l3 l4 hbw4
            go_wp2_with (at_builtin; refine wpList_append_own _ rfl (.tmp 16) (.tmp 18) 23 rfl w.heap.size 25 i0 (.agg #[.int .i64 0, .string ⟨#[]⟩, .string ⟨#[]⟩, .slice none 0 0, .slice none 0 0]) 5 88 Tryd.underlying23 hii hzz0 hzz1 hzz2 rfl (by decide) (.slice va al vc) al (rowF []) rfl (h4.out.2.alloc _) ⟨w4.heap.size, 0, none⟩ 1 1 [.int .i64 3, .string N, .string X, .slice p1 p2 p3, .slice p4 p5 p6] rfl rfl (cell_five_new _ _ _ _ _ _ _) (by simp [Value.oneCell']) (by unfold maxLen; omega) (by omega) (by have := HZ4.out; simp; omega) ?_; intro v9 w9 hown9 hgrow9 _)
            go_roundg g'
            case measure => omega
            case rel =>
              refine ⟨j + 1, [⟨⟨3, N, X, A⟩, k, .slice p1 p2 p3, .slice p4 p5 p6⟩], by go_num, by omega, by omega, by simp, ⟨(HBW4.out.alloc (by have := HZ4.out; omega) _).grown hgrow9 (by have := HZ4.out; simp; omega) (fun k e => (h4.out.2.lt k e).1)⟩, ⟨?_⟩, ⟨by rw [HNX.out, HJ.out], by rw [← HJ.out]; exact HSL2.out⟩⟩
              have h9 := hown9
              rw [HAL.out] at h9
              simpa [rowF, cells5, HAL.out] using h9
          · skip
            go_wp2_with fail
            rw [HWB.out]
            go_wp2_with fail
            go_quiet (fail)
            obtain ⟨w4, hw4⟩ : ∃ w4, Wb.drewN nq = w4 := ⟨_, rfl⟩
            have hz4 : w4.heap.size = Wb.heap.size := by rw [← hw4]; rfl
            have HZ4 := Fact.mk hz4
            have hbw4 : Below w.heap.size w w4 := by rw [← hw4]; exact ⟨HBW.out.os, HBW.out.tape, HBW.out.output, HBW.out.size, HBW.out.block⟩
            have h4 := HFIN.out w4 hbw4 (by omega) (fun k _ => by rw [← hw4]; rfl)
            have HBW4 := Fact.mk hbw4
            have y0 := h4.out.1 0 _ rfl
            have y1 := h4.out.1 1 _ rfl
            have y2 := h4.out.1 2 _ rfl
            have y3 := h4.out.1 3 _ rfl
            have y4 := h4.out.1 4 _ rfl
            rw [hw4]
            clear hw4 hz4 x0 x1 x2 x3 x4 l0 l1 l2 l3 l4 hbw4
            go_wp2_with (at_builtin; refine wpList_append_own _ rfl (.tmp 16) (.tmp 18) 23 rfl w.heap.size 25 i0 (.agg #[.int .i64 0, .string ⟨#[]⟩, .string ⟨#[]⟩, .slice none 0 0, .slice none 0 0]) 5 88 Tryd.underlying23 hii hzz0 hzz1 hzz2 rfl (by decide) (.slice va al vc) al (rowF []) rfl (h4.out.2.alloc _) ⟨w4.heap.size, 0, none⟩ 1 1 [.int .i64 K, .string N, .string X, .slice p1 p2 p3, .slice p4 p5 p6] rfl rfl (cell_five_new _ _ _ _ _ _ _) (by simp [Value.oneCell']) (by unfold maxLen; omega) (by omega) (by have := HZ4.out; simp; omega) ?_; intro v9 w9 hown9 hgrow9 _)
            go_roundg g'
            case measure => omega
            case rel =>
              refine ⟨j + 1, [⟨⟨K, N, X, A⟩, k, .slice p1 p2 p3, .slice p4 p5 p6⟩], by go_num, by omega, by omega, by simp, ⟨(HBW4.out.alloc (by have := HZ4.out; omega) _).grown hgrow9 (by have := HZ4.out; simp; omega) (fun k e => (h4.out.2.lt k e).1)⟩, ⟨?_⟩, ⟨by rw [HNX.out, HJ.out], by rw [← HJ.out]; exact HSL2.out⟩⟩
              have h9 := hown9
              rw [HAL.out] at h9
              simpa [rowF, cells5, HAL.out] using h9
        | cons l t =>
          obtain ⟨m, hm1⟩ : ∃ m, t.length = m := ⟨_, rfl⟩
          have hml : (l :: t).length = m + 1 := by simp [hm1]
          rw [hml] at hownW hal HLT ⊢
          have hrv : (l :: t).reverse = t.reverse ++ [l] := by simp
          rw [hrv] at hownW
          obtain ⟨g, vc', ev, hgB⟩ := own_succ hownW.out
          simp only [Value.slice.injEq, true_and] at ev
          obtain ⟨rfl, rfl⟩ := ev
          have htm : t.reverse.length = m := by simp [hm1]
          obtain ⟨hlc, hlf, _, hgl, hmc, hcm⟩ := own5_at hownW.out htm
          have hlsl := hacc.out.2 l List.mem_cons_self
          obtain ⟨⟨K2, N2, X2, A2⟩, k2, av2, kv2⟩ := l
          obtain ⟨⟨⟨p7, p8, p9, e7⟩, ⟨q1, q2, q3, e8⟩⟩, hX2⟩ := hlsl
          dsimp only at e7 e8 hX2
          subst e7 e8
          have hgX : g < wr.heap.size := HLT.out g rfl
          have z0 := hlc 0 _ rfl
          have z1 := hlc 1 _ rfl
          have z2 := hlc 2 _ rfl
          have z3 := hlc 3 _ rfl
          have z4 := hlc 4 _ rfl
          dsimp only at z0 z1 z2 z3 z4
          rw [Nat.add_zero] at z0
          have wm : IntKind.i64.wrap ((m : Int) + 1 - 1) = m := by unfold IntKind.wrap; simp [IntKind.bits, IntKind.signed]; omega
          have mI : (0 : Int) ≤ m := by omega
          have mI2 : (m : Int) < m + 1 := by omega
          obtain ⟨fr, hfr⟩ : ∃ r, fit2 ⟨K2, N2, X2, A2⟩ ⟨K, N, X, A⟩ = r := ⟨_, rfl⟩
          have HFR := Fact.mk hfr
          have hS0 : (Wb.drew.cell? ⟨wr.heap.size, 0, none⟩ = some (.int .i64 K) ∧ Wb.drew.cell? ⟨wr.heap.size, 1, none⟩ = some (.string N) ∧ Wb.drew.cell? ⟨wr.heap.size, 2, none⟩ = some (.string X) ∧ Wb.drew.cell? ⟨wr.heap.size, 3, none⟩ = some (.slice p1 p2 p3) ∧ Wb.drew.cell? ⟨wr.heap.size, 4, none⟩ = some (.slice p4 p5 p6)) ∧ (Wb.drew.cell? ⟨g, m * 5, none⟩ = some (.int .i64 K2) ∧ Wb.drew.cell? ⟨g, m * 5 + 1, none⟩ = some (.string N2) ∧ Wb.drew.cell? ⟨g, m * 5 + 2, none⟩ = some (.string X2) ∧ Wb.drew.cell? ⟨g, m * 5 + 3, none⟩ = some (.slice p7 p8 p9) ∧ Wb.drew.cell? ⟨g, m * 5 + 4, none⟩ = some (.slice q1 q2 q3)) := ⟨⟨x0, x1, x2, x3, x4⟩, ⟨z0, z1, z2, z3, z4⟩⟩
          have hltX : wr.heap.size < Wb.heap.size := by omega
          have hltg : g < Wb.heap.size := by omega
          have hS1 : ∀ w', Below Wb.heap.size Wb.drew w' → (w'.cell? ⟨wr.heap.size, 0, none⟩ = some (.int .i64 K) ∧ w'.cell? ⟨wr.heap.size, 1, none⟩ = some (.string N) ∧ w'.cell? ⟨wr.heap.size, 2, none⟩ = some (.string X) ∧ w'.cell? ⟨wr.heap.size, 3, none⟩ = some (.slice p1 p2 p3) ∧ w'.cell? ⟨wr.heap.size, 4, none⟩ = some (.slice p4 p5 p6)) ∧ (w'.cell? ⟨g, m * 5, none⟩ = some (.int .i64 K2) ∧ w'.cell? ⟨g, m * 5 + 1, none⟩ = some (.string N2) ∧ w'.cell? ⟨g, m * 5 + 2, none⟩ = some (.string X2) ∧ w'.cell? ⟨g, m * 5 + 3, none⟩ = some (.slice p7 p8 p9) ∧ w'.cell? ⟨g, m * 5 + 4, none⟩ = some (.slice q1 q2 q3)) := fun w' h => ⟨⟨(h.cell (p := ⟨wr.heap.size, 0, none⟩) hltX).trans x0, (h.cell (p := ⟨wr.heap.size, 1, none⟩) hltX).trans x1, (h.cell (p := ⟨wr.heap.size, 2, none⟩) hltX).trans x2, (h.cell (p := ⟨wr.heap.size, 3, none⟩) hltX).trans x3, (h.cell (p := ⟨wr.heap.size, 4, none⟩) hltX).trans x4⟩, ⟨(h.cell (p := ⟨g, m * 5, none⟩) hltg).trans z0, (h.cell (p := ⟨g, m * 5 + 1, none⟩) hltg).trans z1, (h.cell (p := ⟨g, m * 5 + 2, none⟩) hltg).trans z2, (h.cell (p := ⟨g, m * 5 + 3, none⟩) hltg).trans z3, (h.cell (p := ⟨g, m * 5 + 4, none⟩) hltg).trans z4⟩⟩
          have HS1 := Fact.mk hS1
          have hfz5 : ∀ w', Below Wb.heap.size Wb.drew w' → ∀ o, w'.frozen? ⟨g, o, none⟩ = false := fun w' h o => (World.frozen?_of_block (a := ⟨g, o, none⟩) (h.block g hltg)).trans (hlf o)
          have HFZ := Fact.mk hfz5
          have hfit := fit_any ⟨K2, N2, X2, A2⟩ ⟨K, N, X, A⟩ (.slice p7 p8 p9) (.slice q1 q2 q3) (.slice p1 p2 p3) (.slice p4 p5 p6) fr HFR Wb.drew ⟨_, _, _, rfl⟩ ⟨_, _, _, rfl⟩ ⟨_, _, _, rfl⟩ ⟨_, _, _, rfl⟩ (by dsimp only; omega)
          have HFIT := Fact.mk (hfit.mono (R' := fun e w' => e = .returned (.bool fr) ∧ Below Wb.heap.size Wb.drew w') (fun e w' h => ⟨h.1, h.2.mono (Nat.le_refl Wb.heap.size)⟩))
          have hJf : fr = true → jstN (⟨⟨K2, N2, X2, A2⟩, k2, .slice p7 p8 p9, .slice q1 q2 q3⟩ :: t) ⟨⟨K, N, X, A⟩, k, .slice p1 p2 p3, .slice p4 p5 p6⟩ = ⟨addT ⟨K2, N2, X2, A2⟩ ⟨K, N, X, A⟩, k2, .slice p7 p8 p9, .slice q1 q2 q3⟩ :: t := fun h => jstN_fit _ _ _ HAE.out (hfr.trans h)
          have hJn : fr = false → jstN (⟨⟨K2, N2, X2, A2⟩, k2, .slice p7 p8 p9, .slice q1 q2 q3⟩ :: t) ⟨⟨K, N, X, A⟩, k, .slice p1 p2 p3, .slice p4 p5 p6⟩ = ⟨⟨K, N, X, A⟩, k, .slice p1 p2 p3, .slice p4 p5 p6⟩ :: ⟨⟨K2, N2, X2, A2⟩, k2, .slice p7 p8 p9, .slice q1 q2 q3⟩ :: t := fun h => jstN_two _ _ _ HAE.out (hfr.trans h)
          have HJF := Fact.mk hJf
          have HJN := Fact.mk hJn
          have hsum : fr = true → X2.size + X.size ≤ 4096 := fun h => by
            have := hfr.trans h
            unfold fit2 at this
            simp only [Bool.and_eq_true, beq_iff_eq, decide_eq_true_eq] at this
            exact this.2
          have HSUM := Fact.mk hsum
          clear hbx hlc hlf hS1 hfz5 hfit hJf hJn hsum hfr hrv hgB
          rcases hq with ⟨rfl, hq2⟩ | hq2
          · go_wp2_with fail
            rw [HWB.out]
            go_wp2_with fail
            go_region_held3 (fun w' => (w'.cell? ⟨wr.heap.size, 0, none⟩ = some (.int .i64 3) ∧ w'.cell? ⟨wr.heap.size, 1, none⟩ = some (.string N) ∧ w'.cell? ⟨wr.heap.size, 2, none⟩ = some (.string X) ∧ w'.cell? ⟨wr.heap.size, 3, none⟩ = some (.slice p1 p2 p3) ∧ w'.cell? ⟨wr.heap.size, 4, none⟩ = some (.slice p4 p5 p6)) ∧ (w'.cell? ⟨g, m * 5, none⟩ = some (.int .i64 K2) ∧ w'.cell? ⟨g, m * 5 + 1, none⟩ = some (.string N2) ∧ w'.cell? ⟨g, m * 5 + 2, none⟩ = some (.string X2) ∧ w'.cell? ⟨g, m * 5 + 3, none⟩ = some (.slice p7 p8 p9) ∧ w'.cell? ⟨g, m * 5 + 4, none⟩ = some (.slice q1 q2 q3)))
              (first | with_reducible exact hS0 | with_reducible exact hS4)
              (first | (go_at_call 42; with_reducible refine HFIT.out.mono ?_; rintro e w4 ⟨rfl, hb4⟩; have hS4 := HS1.out w4 hb4; have HB4 := Fact.mk hb4; clear hb4))
            cases fr
            · obtain ⟨⟨y0, y1, y2, y3, y4⟩, ⟨z5, z6, z7, z8, z9⟩⟩ := hS4
              clear x0 x1 x2 x3 x4 l0 l1 l2 l3 l4 z0 z1 z2 z3 z4
              have hz4 : Wb.heap.size ≤ w4.heap.size := HB4.out.size
              have HZ4 : Fact (wr.heap.size + 1 ≤ w4.heap.size) := ⟨by omega⟩
              clear hz4
              have hbw4 : Below w.heap.size w w4 := by
                have h1 : Below w.heap.size w Wb.drew := ⟨HBW.out.os, HBW.out.tape, HBW.out.output, HBW.out.size, HBW.out.block⟩
                exact h1.trans (HB4.out.mono (by omega)) 
              have HBW4 := Fact.mk hbw4
              have hown4 : w4.ownsRow w.heap.size 25 5 (.slice (some ⟨g, 0, none⟩) (m + 1) vc) (m + 1) (rowF (t.reverse ++ [⟨⟨K2, N2, X2, A2⟩, k2, .slice p7 p8 p9, .slice q1 q2 q3⟩])) := own_block hownW.out (fun k e hk => HB4.out.block k hk)
              have HOWN4 := Fact.mk hown4
              clear hbw4 hown4
              go_wp2_with (at_builtin; refine wpList_append_own _ rfl (.tmp 16) (.tmp 18) 23 rfl w.heap.size 25 i0 (.agg #[.int .i64 0, .string ⟨#[]⟩, .string ⟨#[]⟩, .slice none 0 0, .slice none 0 0]) 5 88 Tryd.underlying23 hii hzz0 hzz1 hzz2 rfl (by decide) (.slice (some ⟨g, 0, none⟩) (m + 1) vc) (m + 1) (rowF (t.reverse ++ [⟨⟨K2, N2, X2, A2⟩, k2, .slice p7 p8 p9, .slice q1 q2 q3⟩])) rfl (HOWN4.out.alloc _) ⟨w4.heap.size, 0, none⟩ 1 1 [.int .i64 3, .string N, .string X, .slice p1 p2 p3, .slice p4 p5 p6] rfl rfl (cell_five_new _ _ _ _ _ _ _) (by simp [Value.oneCell']) (by unfold maxLen; omega) (by omega) (by have := HZ4.out; simp; omega) ?_; intro v9 w9 hown9 hgrow9 _)
              go_roundg g'
              case measure => omega
              case rel =>
                refine ⟨j + 1, ⟨⟨3, N, X, A⟩, k, .slice p1 p2 p3, .slice p4 p5 p6⟩ :: ⟨⟨K2, N2, X2, A2⟩, k2, .slice p7 p8 p9, .slice q1 q2 q3⟩ :: t, by go_num, by omega, by omega, by simp [hm1]; omega, ⟨(HBW4.out.alloc (by have := HZ4.out; omega) _).grown hgrow9 (by have := HZ4.out; simp; omega) (fun k e => (HOWN4.out.lt k e).1)⟩, ⟨?_⟩, ⟨by rw [HNX.out, HJN.out (by trivial)], by rw [← HJN.out (by trivial)]; exact HSL2.out⟩⟩
                have h9 := hown9
                rw [List.reverse_cons, List.reverse_cons, rowF_snoc, List.length_cons, List.length_cons, hm1]
                exact h9
            · obtain ⟨⟨y0, y1, y2, y3, y4⟩, ⟨z5, z6, z7, z8, z9⟩⟩ := hS4
              clear x0 x1 x2 x3 x4 l0 l1 l2 l3 l4 z0 z1 z2 z3 z4
              have hz4 : Wb.heap.size ≤ w4.heap.size := HB4.out.size
              have HZ4 : Fact (wr.heap.size + 1 ≤ w4.heap.size) := ⟨by omega⟩
              clear hz4
              have hbw4 : Below w.heap.size w w4 := by
                have h1 : Below w.heap.size w Wb.drew := ⟨HBW.out.os, HBW.out.tape, HBW.out.output, HBW.out.size, HBW.out.block⟩
                exact h1.trans (HB4.out.mono (by omega)) 
              have HBW4 := Fact.mk hbw4
              have hown4 : w4.ownsRow w.heap.size 25 5 (.slice (some ⟨g, 0, none⟩) (m + 1) vc) (m + 1) (rowF (t.reverse ++ [⟨⟨K2, N2, X2, A2⟩, k2, .slice p7 p8 p9, .slice q1 q2 q3⟩])) := own_block hownW.out (fun k e hk => HB4.out.block k hk)
              have HOWN4 := Fact.mk hown4
              have hsz := HSUM.out (by trivial)
              clear hbw4 hown4
              have hfz4 : ∀ o, w4.drew.frozen? ⟨g, o, none⟩ = false := HFZ.out w4 HB4.out
              obtain ⟨T, hT⟩ : ∃ T, X2 ++ X = T := ⟨_, rfl⟩
              have HT := Fact.mk hT
              have hadd := add_at X2 X T hT (by omega)
              have HFIN5 : Below w.heap.size w (w4.setCell ⟨g, m * 5 + 2, none⟩ (.string T)).drew := (HBW4.out.setCell (by have := (HOWN4.out.lt g rfl).1; omega) _).drew
              go_wp2_with fail
              go_region
              go_wp2_with fail
              go_roundg g'
              case measure => omega
              case rel =>
                refine ⟨j + 1, ⟨addT ⟨K2, N2, X2, A2⟩ ⟨3, N, X, A⟩, k2, .slice p7 p8 p9, .slice q1 q2 q3⟩ :: t, by go_num, by omega, by omega, by simp [hm1]; omega, ⟨HFIN5⟩, ⟨?_⟩, ⟨by rw [HNX.out, HJF.out (by trivial)], by rw [← HJF.out (by trivial)]; exact HSL2.out⟩⟩
                have h9 := own5_put T HOWN4.out htm
                rw [List.reverse_cons, List.length_cons, hm1]
                have h10 : addT ⟨K2, N2, X2, A2⟩ ⟨3, N, X, A⟩ = ⟨K2, N2, T, A2⟩ := by rw [← HT.out]; rfl
                rw [h10]
                exact own_block h9 (fun k e hk => rfl)
          · go_wp2_with fail
            rw [HWB.out]
            go_wp2_with fail
            go_region_held3 (fun w' => (w'.cell? ⟨wr.heap.size, 0, none⟩ = some (.int .i64 K) ∧ w'.cell? ⟨wr.heap.size, 1, none⟩ = some (.string N) ∧ w'.cell? ⟨wr.heap.size, 2, none⟩ = some (.string X) ∧ w'.cell? ⟨wr.heap.size, 3, none⟩ = some (.slice p1 p2 p3) ∧ w'.cell? ⟨wr.heap.size, 4, none⟩ = some (.slice p4 p5 p6)) ∧ (w'.cell? ⟨g, m * 5, none⟩ = some (.int .i64 K2) ∧ w'.cell? ⟨g, m * 5 + 1, none⟩ = some (.string N2) ∧ w'.cell? ⟨g, m * 5 + 2, none⟩ = some (.string X2) ∧ w'.cell? ⟨g, m * 5 + 3, none⟩ = some (.slice p7 p8 p9) ∧ w'.cell? ⟨g, m * 5 + 4, none⟩ = some (.slice q1 q2 q3)))
              (first | with_reducible exact hS0 | with_reducible exact hS4)
              (first | (go_at_call 42; with_reducible refine HFIT.out.mono ?_; rintro e w4 ⟨rfl, hb4⟩; have hS4 := HS1.out w4 hb4; have HB4 := Fact.mk hb4; clear hb4))
            cases fr
            · obtain ⟨⟨y0, y1, y2, y3, y4⟩, ⟨z5, z6, z7, z8, z9⟩⟩ := hS4
              clear x0 x1 x2 x3 x4 l0 l1 l2 l3 l4 z0 z1 z2 z3 z4
              have hz4 : Wb.heap.size ≤ w4.heap.size := HB4.out.size
              have HZ4 : Fact (wr.heap.size + 1 ≤ w4.heap.size) := ⟨by omega⟩
              clear hz4
              have hbw4 : Below w.heap.size w w4 := by
                have h1 : Below w.heap.size w Wb.drew := ⟨HBW.out.os, HBW.out.tape, HBW.out.output, HBW.out.size, HBW.out.block⟩
                exact h1.trans (HB4.out.mono (by omega)) 
              have HBW4 := Fact.mk hbw4
              have hown4 : w4.ownsRow w.heap.size 25 5 (.slice (some ⟨g, 0, none⟩) (m + 1) vc) (m + 1) (rowF (t.reverse ++ [⟨⟨K2, N2, X2, A2⟩, k2, .slice p7 p8 p9, .slice q1 q2 q3⟩])) := own_block hownW.out (fun k e hk => HB4.out.block k hk)
              have HOWN4 := Fact.mk hown4
              clear hbw4 hown4
              go_wp2_with (at_builtin; refine wpList_append_own _ rfl (.tmp 16) (.tmp 18) 23 rfl w.heap.size 25 i0 (.agg #[.int .i64 0, .string ⟨#[]⟩, .string ⟨#[]⟩, .slice none 0 0, .slice none 0 0]) 5 88 Tryd.underlying23 hii hzz0 hzz1 hzz2 rfl (by decide) (.slice (some ⟨g, 0, none⟩) (m + 1) vc) (m + 1) (rowF (t.reverse ++ [⟨⟨K2, N2, X2, A2⟩, k2, .slice p7 p8 p9, .slice q1 q2 q3⟩])) rfl (HOWN4.out.alloc _) ⟨w4.heap.size, 0, none⟩ 1 1 [.int .i64 K, .string N, .string X, .slice p1 p2 p3, .slice p4 p5 p6] rfl rfl (cell_five_new _ _ _ _ _ _ _) (by simp [Value.oneCell']) (by unfold maxLen; omega) (by omega) (by have := HZ4.out; simp; omega) ?_; intro v9 w9 hown9 hgrow9 _)
              go_roundg g'
              case measure => omega
              case rel =>
                refine ⟨j + 1, ⟨⟨K, N, X, A⟩, k, .slice p1 p2 p3, .slice p4 p5 p6⟩ :: ⟨⟨K2, N2, X2, A2⟩, k2, .slice p7 p8 p9, .slice q1 q2 q3⟩ :: t, by go_num, by omega, by omega, by simp [hm1]; omega, ⟨(HBW4.out.alloc (by have := HZ4.out; omega) _).grown hgrow9 (by have := HZ4.out; simp; omega) (fun k e => (HOWN4.out.lt k e).1)⟩, ⟨?_⟩, ⟨by rw [HNX.out, HJN.out (by trivial)], by rw [← HJN.out (by trivial)]; exact HSL2.out⟩⟩
                have h9 := hown9
                rw [List.reverse_cons, List.reverse_cons, rowF_snoc, List.length_cons, List.length_cons, hm1]
                exact h9
            · obtain ⟨⟨y0, y1, y2, y3, y4⟩, ⟨z5, z6, z7, z8, z9⟩⟩ := hS4
              clear x0 x1 x2 x3 x4 l0 l1 l2 l3 l4 z0 z1 z2 z3 z4
              have hz4 : Wb.heap.size ≤ w4.heap.size := HB4.out.size
              have HZ4 : Fact (wr.heap.size + 1 ≤ w4.heap.size) := ⟨by omega⟩
              clear hz4
              have hbw4 : Below w.heap.size w w4 := by
                have h1 : Below w.heap.size w Wb.drew := ⟨HBW.out.os, HBW.out.tape, HBW.out.output, HBW.out.size, HBW.out.block⟩
                exact h1.trans (HB4.out.mono (by omega)) 
              have HBW4 := Fact.mk hbw4
              have hown4 : w4.ownsRow w.heap.size 25 5 (.slice (some ⟨g, 0, none⟩) (m + 1) vc) (m + 1) (rowF (t.reverse ++ [⟨⟨K2, N2, X2, A2⟩, k2, .slice p7 p8 p9, .slice q1 q2 q3⟩])) := own_block hownW.out (fun k e hk => HB4.out.block k hk)
              have HOWN4 := Fact.mk hown4
              have hsz := HSUM.out (by trivial)
              clear hbw4 hown4
              have hfz4 : ∀ o, w4.drew.frozen? ⟨g, o, none⟩ = false := HFZ.out w4 HB4.out
              obtain ⟨T, hT⟩ : ∃ T, X2 ++ X = T := ⟨_, rfl⟩
              have HT := Fact.mk hT
              have hadd := add_at X2 X T hT (by omega)
              have HFIN5 : Below w.heap.size w (w4.setCell ⟨g, m * 5 + 2, none⟩ (.string T)).drew := (HBW4.out.setCell (by have := (HOWN4.out.lt g rfl).1; omega) _).drew
              go_wp2_with fail
              go_region
              go_wp2_with fail
              go_roundg g'
              case measure => omega
              case rel =>
                refine ⟨j + 1, ⟨addT ⟨K2, N2, X2, A2⟩ ⟨K, N, X, A⟩, k2, .slice p7 p8 p9, .slice q1 q2 q3⟩ :: t, by go_num, by omega, by omega, by simp [hm1]; omega, ⟨HFIN5⟩, ⟨?_⟩, ⟨by rw [HNX.out, HJF.out (by trivial)], by rw [← HJF.out (by trivial)]; exact HSL2.out⟩⟩
                have h9 := own5_put T HOWN4.out htm
                rw [List.reverse_cons, List.length_cons, hm1]
                have h10 : addT ⟨K2, N2, X2, A2⟩ ⟨K, N, X, A⟩ = ⟨K2, N2, T, A2⟩ := by rw [← HT.out]; rfl
                rw [h10]
                exact own_block h9 (fun k e hk => rfl)
      · have hjst : jstN acc ⟨⟨K, N, X, A⟩, k, .slice p1 p2 p3, .slice p4 p5 p6⟩ = acc := by unfold jstN; rw [if_pos hae]
        rw [hjst] at HNX HSL2
        rw [Bool.and_eq_true] at hE
        obtain ⟨b1, b2⟩ := hE
        have e : (X.toList == []) = X.toList.isEmpty := by cases X.toList <;> rfl
        rw [e] at b2
        obtain rfl : K = 3 := by simpa using b1
        have HJ : Fact (acc = (rs.take (j + 1)).foldl jstN []) := ⟨HNX.out.symm⟩
        have hacl : acc.length ≤ 1000000 := by omega
        clear hae hjst e b1
        go_wp2_with fail
        try rw [HWB.out]
        go_wp2_with fail
        go_roundg g'
        case measure => omega
        case rel => exact ⟨j + 1, acc, by go_num, by omega, by omega, by omega, HBW, hownW, ⟨HJ.out, hacc.out.2⟩⟩
    · obtain rfl : j = n := by omega
      have jI : ¬ (j : Int) < j := by omega
      have HF : Fact (acc = rs.foldl jstN []) := ⟨by rw [hacc.out.1, List.take_of_length_le (by rw [HN.out]; exact Nat.le_refl _)]⟩
      clear hat
      go_wp2_with fail
      go_ret
      refine ⟨_, rfl, hbr.out, ?_⟩
      have h9 := hown.out
      rw [← HF.out]
      rw [← List.length_reverse] at h9
      first | exact h9 | simpa using h9
end Go.Proofs.YtibagbnnplpfgaaDoor
set_option linter.unusedVariables false
namespace Go.Proofs.YtibagbnnplpfgaaDoor
open Go.Deep (BT)
open Go.RowKit M

/-- append of nothing -/
theorem wpList_append_same {P : Program} (w : World) {ops : Array Oper} {rest : List Oper} {o : Oper} {a : Act} {Q : Exit → Act → World → Prop} (hgd : o.guard = none) (s x : Operand) (t e : TypeId) (i : TypeInfo)
    (ho : o.op = .call { callee := .builtin .append, args := #[s, x], argTypes := #[t, t] }) (ht : P.underlying t = some (.slice e)) (hi : P.info? e = some i)
    (a1 ad : Option Addr) (c : Nat) (hs : a.eval s = .slice a1 0 0) (hx : a.eval x = .slice ad 0 c) (h : wpList P ops Q rest (a.put o.dst (.slice a1 0 0)) w) : wpList P ops Q (o :: rest) a w := by
  refine wpList_plain hgd fun K hK => ?_
  have hr : (Builtin.append_ #[t, t] o.type #[.slice a1 0 0, .slice ad 0 c]).run P w = .ok (.slice a1 0 0) w := by
    cases ad <;> cases a1 <;> simp [Builtin.append_, run_underlying ht, sizeOf, typeInfo, hi, Builtin.lenOf, Builtin.firstCells, loadCells, loadCellsFrom, storeCells]
  unfold Oper.wp execOp
  simp only [ho, resolve, invoke, builtin, Sem.run_bind, Sem.run_pure, Result.andThen_ok, List.map_toArray, List.map_cons, List.map_nil, hs, hx, hr]
  exact hK _ _ h

/-- a slice held against nil -/
theorem eqNil {t e : TypeId} (h : Tryd.prog.underlying t = some (.slice e)) (a : Option Addr) (l c : Nat) (w : World) : (binOp .eql t (.slice a l c) (.slice none 0 0)).run Tryd.prog w = .ok (.bool a.isNone) w := by
  simp only [binOp, Sem.run_bind, run_equal_slice_nil w t e a l c h, Result.andThen_ok, Sem.run_pure]

set_option maxRecDepth 20000 in
set_option maxHeartbeats 1000000 in
theorem cloneA_any (l : List (ByteArray × ByteArray)) (v : Value) (n : Nat) (w : World) (ha : AS (Old n) w v l) (hm : l.length ≤ 1000000) :
    Calls Tryd.prog 29 #[v] w fun e w' => ∃ v', e = .returned v' ∧ AS (fun b => w.heap.size ≤ b) w' v' l ∧ Below w.heap.size w w' := by
  obtain ⟨i0, hii, hz0, hz1, hz2⟩ := info_parts infoA
  by_cases h0 : l = []
  · subst h0
    obtain ⟨a, cap, rfl, h1, h2, _⟩ := ha
    cases a with
    | none =>
      have hq : ∀ W, (binOp .eql 22 (.slice none 0 cap) (.slice none 0 0)).run Tryd.prog W = .ok (.bool true) W := fun W => eqNil Tryd.underlying22 none 0 cap W
      go_enter Tryd.func29, Tryd.ntmps29
      go_wp2_with fail
      go_ret
      exact ⟨_, rfl, AS.nothing, Below.refl _ _⟩
    | some a =>
      have hq : ∀ W, (binOp .eql 22 (.slice (some a) 0 cap) (.slice none 0 0)).run Tryd.prog W = .ok (.bool false) W := fun W => eqNil Tryd.underlying22 (some a) 0 cap W
      go_enter Tryd.func29, Tryd.ntmps29
      go_wp2_with (at_builtin; refine wpList_append_same _ rfl (.tmp 5) (.tmp 6) 22 37 i0 rfl Tryd.underlying22 hii _ (some a) cap rfl rfl ?_)
      go_ret
      exact ⟨_, rfl, ⟨_, 0, rfl, Nat.le_refl _, Nat.zero_le _, .inl rfl⟩, (Below.refl _ w).alloc (Nat.le_refl _) _⟩
  · obtain ⟨a, cap, rfl, h1, h2, h3⟩ := ha
    obtain ⟨b, o, rfl, hS, hc⟩ := h3.resolve_left h0
    have HC : Fact (∀ W : World, Below w.heap.size w W → ∀ j u, (rowA l)[j]? = some u → W.cell? ((⟨b, o, none⟩ : Addr).add j) = some u) := ⟨fun W hW j u hu => by
      have hj : j < (rowA l).length := (List.getElem?_eq_some_iff.1 hu).1
      rw [rowA_len] at hj
      have hi : j / 2 < l.length := by omega
      obtain ⟨g1, g2⟩ := rowA_get l (j / 2) hi
      have hcc := hc (j / 2) hi
      rw [bs_get l (j / 2) hi] at hcc
      rw [add_cell]
      rcases (by omega : j = j / 2 * 2 ∨ j = j / 2 * 2 + 1) with e | e
      · rw [e] at hu ⊢
        rw [g1] at hu
        cases hu
        have : j / 2 * 2 / 2 = j / 2 := by omega
        exact (hW.cell (p := ⟨b, o + j / 2 * 2, none⟩) (World.block_lt_of_cell? w _ hcc.1)).trans hcc.1
      · rw [e] at hu ⊢
        rw [g2] at hu
        cases hu
        exact (hW.cell (p := ⟨b, o + j / 2 * 2 + 1, none⟩) (World.block_lt_of_cell? w _ hcc.2)).trans hcc.2⟩
    have HL : Fact ((rowA l).length = l.length * 2) := ⟨rowA_len l⟩
    have HO : Fact (∀ u ∈ rowA l, u.oneCell' = true) := ⟨rowA_one l⟩
    obtain ⟨al, hal⟩ : ∃ al, l.length = al := ⟨_, rfl⟩
    obtain ⟨row, hrow⟩ : ∃ row, rowA l = row := ⟨_, rfl⟩
    rw [hal, hrow] at HL
    rw [hrow] at HC HO
    rw [hal] at hm h1 ⊢
    have HAL := Fact.mk hal
    have HROW := Fact.mk hrow
    clear hal hrow h3 hc
    have hq : ∀ W, (binOp .eql 22 (.slice (some ⟨b, o, none⟩) al cap) (.slice none 0 0)).run Tryd.prog W = .ok (.bool false) W := fun W => eqNil Tryd.underlying22 (some ⟨b, o, none⟩) al cap W
    go_enter Tryd.func29, Tryd.ntmps29
    go_wp2_with (at_builtin; refine wpList_append_own _ rfl (.tmp 5) (.tmp 6) 22 rfl w.heap.size 37 i0 (.agg #[.string ⟨#[]⟩, .string ⟨#[]⟩]) 2 32 Tryd.underlying22 hii hz0 hz1 hz2 rfl (by decide) (.slice (some ⟨w.heap.size, 0, none⟩) 0 0) 0 [] rfl (World.ownsRow_made w #[] 0 (Nat.le_refl _) (Nat.zero_le _) rfl) ⟨b, o, none⟩ al cap row rfl HL.out (HC.out _ ((Below.refl _ w).alloc (Nat.le_refl _) _)) HO.out (by unfold maxLen; omega) (by omega) (by simp) ?_; intro v' w1 hown' hgrow _)
    go_ret
    refine ⟨_, rfl, own_AS ?_, ((Below.refl _ w).alloc (Nat.le_refl _) _).grown hgrow (by simp) (fun k e => by cases e; exact Nat.le_refl _)⟩
    rw [HAL.out, HROW.out]
    simpa using hown'
end Go.Proofs.YtibagbnnplpfgaaDoor
set_option linter.unusedVariables false
set_option linter.unusedSimpArgs false
namespace Go.Proofs.YtibagbnnplpfgaaDoor
open Go.Deep (BT)
open Go.RowKit M

/-- a node: where it lies, what it is, its kids -/
structure Pd where
  b : Nat
  o : Nat
  d : Nd
  k : M.F

/-- gone through: its attributes and its kids lie in S -/
def Done (S : Nat → Prop) (w : World) (p : Pd) : Prop := ∃ av ka kc, w.cell? ⟨p.b, p.o, none⟩ = some (.int .i64 p.d.k) ∧ w.cell? ⟨p.b, p.o + 1, none⟩ = some (.string p.d.n) ∧ w.cell? ⟨p.b, p.o + 2, none⟩ = some (.string p.d.x) ∧
  w.cell? ⟨p.b, p.o + 3, none⟩ = some av ∧ w.cell? ⟨p.b, p.o + 4, none⟩ = some (.slice ka (joinF p.k).len kc) ∧ AS S w av p.d.ats ∧ (joinF p.k).len ≤ kc ∧ kc ≤ maxLen ∧
  ((joinF p.k).len = 0 ∨ ∃ b' o', ka = some ⟨b', o', none⟩ ∧ S b' ∧ FAt S w (joinF p.k) b' o')
/-- not yet: its attributes and its kids lie in old memory -/
def Pend (n : Nat) (w : World) (p : Pd) : Prop := ∃ av kv, w.cell? ⟨p.b, p.o, none⟩ = some (.int .i64 p.d.k) ∧ w.cell? ⟨p.b, p.o + 1, none⟩ = some (.string p.d.n) ∧ w.cell? ⟨p.b, p.o + 2, none⟩ = some (.string p.d.x) ∧
  w.cell? ⟨p.b, p.o + 3, none⟩ = some av ∧ w.cell? ⟨p.b, p.o + 4, none⟩ = some kv ∧ AS (Old n) w av p.d.ats ∧ FL (Old n) w kv p.k
/-- a cell that going through one of Ps may turn -/
def Hit (Ps : List Pd) (b c : Nat) : Prop := ∃ p ∈ Ps, b = p.b ∧ (c = p.o + 3 ∨ c = p.o + 4)
/-- cells of S are as they were, but for what going through Ps may turn -/
def Kp (S : Nat → Prop) (Ps : List Pd) (w w' : World) : Prop := ∀ b c v, S b → ¬ Hit Ps b c → w.cell? ⟨b, c, none⟩ = some v → w'.cell? ⟨b, c, none⟩ = some v
/-- once Ps are gone through, so is the first -/
def Prom (S : Nat → Prop) (w : World) (Ps : List Pd) (p0 : Pd) : Prop := ∀ (S' : Nat → Prop) (w' : World), (∀ b, S b → S' b) → Kp S Ps w w' → (∀ p ∈ Ps, Done S' w' p) → Done S' w' p0

theorem Kp.refl {S : Nat → Prop} {Ps : List Pd} (w : World) : Kp S Ps w w := fun _ _ _ _ _ h => h
theorem Prom.start (S : Nat → Prop) (w : World) (p0 : Pd) : Prom S w [p0] p0 := fun S' w' _ _ h => h p0 List.mem_cons_self
theorem Prom.fin {S : Nat → Prop} {w : World} {p0 : Pd} (h : Prom S w [] p0) : Done S w p0 := h S w (fun _ h => h) (Kp.refl w) (fun p hp => by cases hp)
theorem Prom.perm {S : Nat → Prop} {w : World} {Ps Qs : List Pd} {p0 : Pd} (h : Prom S w Ps p0) (e : ∀ p, p ∈ Ps ↔ p ∈ Qs) : Prom S w Qs p0 := fun S' w' hS hk hd =>
  h S' w' hS (fun b c v hb hn hc => hk b c v hb (fun ⟨p, hp, h⟩ => hn ⟨p, (e p).2 hp, h⟩) hc) (fun p hp => hd p ((e p).1 hp))
theorem Prom.kept {S : Nat → Prop} {w w2 : World} {Ps : List Pd} {p0 : Pd} (h : Prom S w Ps p0) (hk : Kp S [] w w2) : Prom S w2 Ps p0 := fun S' w' hS hk2 hd =>
  h S' w' hS (fun b c v hb hn hc => hk2 b c v hb hn (hk b c v hb (fun ⟨p, hp, _⟩ => by cases hp) hc)) hd
theorem AS.keepBy {S : Nat → Prop} {w w' : World} {v : Value} {l : List (ByteArray × ByteArray)} (h : AS S w v l) (hk : ∀ b c u, S b → w.cell? ⟨b, c, none⟩ = some u → w'.cell? ⟨b, c, none⟩ = some u) : AS S w' v l := by
  obtain ⟨a, cap, e, h1, h2, h3⟩ := h
  refine ⟨a, cap, e, h1, h2, ?_⟩
  rcases h3 with h3 | ⟨b, o, ea, hS, hc⟩
  · exact .inl h3
  · exact .inr ⟨b, o, ea, hS, fun i hi => ⟨hk _ _ _ hS (hc i hi).1, hk _ _ _ hS (hc i hi).2⟩⟩
def pdsOf (g : Nat) : Nat → List Nw → List Pd
  | _, [] => []
  | o, r :: rs => ⟨g, o, r.d, r.k⟩ :: pdsOf g (o + 5) rs
theorem pds_b {g : Nat} : ∀ {rs : List Nw} {o : Nat} {q : Pd}, q ∈ pdsOf g o rs → q.b = g
  | [], _, _, h => by cases h
  | r :: rs, o, q, h => by
    rcases List.mem_cons.1 h with rfl | h
    · rfl
    · exact pds_b h
theorem pds_len {g : Nat} : ∀ (rs : List Nw) (o : Nat), (pdsOf g o rs).length = rs.length
  | [], _ => rfl
  | r :: rs, o => by simp [pdsOf, pds_len rs]
theorem pds_get {g : Nat} : ∀ (rs : List Nw) (o i : Nat) (r : Nw), rs[i]? = some r → (pdsOf g o rs)[i]? = some ⟨g, o + i * 5, r.d, r.k⟩
  | [], _, _, _, h => by simp at h
  | x :: rs, o, 0, r, h => by
    rw [List.getElem?_cons_zero] at h
    cases h
    simp [pdsOf]
  | x :: rs, o, i + 1, r, h => by
    rw [List.getElem?_cons_succ] at h
    rw [pdsOf, List.getElem?_cons_succ, pds_get rs (o + 5) i r h]
    congr 2
    omega
theorem pds_mem {g : Nat} {rs : List Nw} {o : Nat} {q : Pd} (h : q ∈ pdsOf g o rs) : ∃ i r, rs[i]? = some r ∧ q = ⟨g, o + i * 5, r.d, r.k⟩ := by
  obtain ⟨i, hi, e⟩ := List.mem_iff_getElem.1 h
  have hl : i < rs.length := by rw [pds_len] at hi; exact hi
  have hr : rs[i]? = some rs[i] := List.getElem?_eq_getElem hl
  have := pds_get (g := g) rs o i _ hr
  rw [List.getElem?_eq_getElem hi, e] at this
  exact ⟨i, _, hr, Option.some.inj this⟩
theorem pds_far {g : Nat} : ∀ (rs : List Nw) (o : Nat), (pdsOf g o rs).Pairwise (fun p q => ¬ (p.b = q.b ∧ p.o = q.o))
  | [], _ => List.Pairwise.nil
  | r :: rs, o => by
    refine List.Pairwise.cons ?_ (pds_far rs (o + 5))
    rintro q hq ⟨_, e⟩
    obtain ⟨i, x, _, rfl⟩ := pds_mem hq
    dsimp only at e
    omega
theorem fat_pds {S : Nat → Prop} {w : World} {g : Nat} : ∀ (rs : List Nw) (o : Nat), (∀ p ∈ pdsOf g o rs, Done S w p) → FAt S w (ofL (rs.map fun r => (r.d, joinF r.k))) g o
  | [], _, _ => trivial
  | r :: rs, o, h => ⟨h _ List.mem_cons_self, fat_pds rs (o + 5) (fun q hq => h q (List.mem_cons_of_mem _ hq))⟩

/-- one node more is gone through: its kids are to be -/
theorem Prom.step {n g kc : Nat} {S S2 Q : Nat → Prop} {W W2 : World} {p p0 : Pd} {Ps : List Pd} {rs : List Nw} {av' : Value} {ka : Option Addr}
    (h : Prom S W (p :: Ps) p0) (hS : ∀ b, S b → S2 b) (hSW : ∀ b, S b → b < W.heap.size) (hp : Pend n W p) (hSp : S p.b)
    (hap : ∀ q ∈ Ps, ¬ (p.b = q.b ∧ p.o = q.o)) (hm : ∀ q ∈ p :: Ps, q.o % 5 = 0) (hPS : ∀ q ∈ Ps, S q.b)
    (hk : ∀ b c v, S b → ¬ (b = p.b ∧ (c = p.o + 3 ∨ c = p.o + 4)) → W.cell? ⟨b, c, none⟩ = some v → W2.cell? ⟨b, c, none⟩ = some v)
    (h3 : W2.cell? ⟨p.b, p.o + 3, none⟩ = some av') (ha : AS Q W2 av' p.d.ats) (hQ : ∀ b, Q b → S2 b ∧ W.heap.size ≤ b ∧ b ≠ g)
    (h4 : W2.cell? ⟨p.b, p.o + 4, none⟩ = some (.slice ka rs.length kc)) (hkc : rs.length ≤ kc) (hkm : kc ≤ maxLen) (hg : W.heap.size ≤ g)
    (hrow : rs.length = 0 ∨ ka = some ⟨g, 0, none⟩ ∧ S2 g) (hrs : joinF p.k = ofL (rs.map fun r => (r.d, joinF r.k))) :
    Prom S2 W2 (pdsOf g 0 rs ++ Ps) p0 := by
  intro S' W' hS' hkp hd
  have kept : Kp S (p :: Ps) W W' := fun b c v hb hn hc => by
    refine hkp b c v (hS b hb) ?_ (hk b c v hb (fun e => hn ⟨p, List.mem_cons_self, e⟩) hc)
    rintro ⟨q, hq, e1, e2⟩
    rcases List.mem_append.1 hq with hq | hq
    · have := pds_b hq
      have := hSW b hb
      omega
    · exact hn ⟨q, List.mem_cons_of_mem _ hq, e1, e2⟩
  refine h S' W' (fun b hb => hS' b (hS b hb)) kept ?_
  intro q hq
  rcases List.mem_cons.1 hq with e | hq
  · rw [e]
    obtain ⟨av, kv, c0, c1, c2, c3, c4, _, _⟩ := hp
    have hmp := hm p List.mem_cons_self
    have low : ∀ i v, i < 3 → W.cell? ⟨p.b, p.o + i, none⟩ = some v → W'.cell? ⟨p.b, p.o + i, none⟩ = some v := fun i v hi hc => by
      refine kept p.b (p.o + i) v hSp ?_ hc
      rintro ⟨r, hr, _, e2⟩
      have := hm r hr
      omega
    have high : ∀ c v, (c = p.o + 3 ∨ c = p.o + 4) → W2.cell? ⟨p.b, c, none⟩ = some v → W'.cell? ⟨p.b, c, none⟩ = some v := fun c v hc hv => by
      refine hkp p.b c v (hS _ hSp) ?_ hv
      rintro ⟨r, hr, e1, e2⟩
      rcases List.mem_append.1 hr with hr | hr
      · have := pds_b hr
        have := hSW p.b hSp
        omega
      · have := hm r (List.mem_cons_of_mem _ hr)
        exact hap r hr ⟨e1, by omega⟩
    have hl : (joinF p.k).len = rs.length := by rw [hrs, ofL_len, List.length_map]
    refine ⟨av', ka, kc, low 0 _ (by omega) c0, low 1 _ (by omega) c1, low 2 _ (by omega) c2, high _ _ (.inl rfl) h3, ?_, ?_, ?_, hkm, ?_⟩
    · rw [hl]; exact high _ _ (.inr rfl) h4
    · refine (ha.keepBy (w' := W') (fun b c u hb hc => hkp b c u (hQ b hb).1 ?_ hc)).mono (fun b hb => hS' b (hQ b hb).1)
      rintro ⟨r, hr, e1, e2⟩
      rcases List.mem_append.1 hr with hr | hr
      · exact (hQ b hb).2.2 (e1.trans (pds_b hr))
      · have := hSW _ (hPS r hr)
        have := (hQ b hb).2.1
        omega
    · rw [hl]; exact hkc
    · rw [hl]
      rcases hrow with h0 | ⟨e2, hg2⟩
      · exact .inl h0
      · refine .inr ⟨g, 0, e2, hS' g hg2, ?_⟩
        rw [hrs]
        exact fat_pds rs 0 (fun r hr => hd r (List.mem_append_left _ hr))
  · exact hd q (List.mem_append_right _ hq)
/-- a node that is still to be gone through stays so -/
theorem Pend.keep {n : Nat} {w w' : World} {p : Pd} (h : Pend n w p) (hc : ∀ i v, i < 5 → w.cell? ⟨p.b, p.o + i, none⟩ = some v → w'.cell? ⟨p.b, p.o + i, none⟩ = some v) (hl : Like (Old n) w w') : Pend n w' p := by
  obtain ⟨av, kv, c0, c1, c2, c3, c4, ha, hf⟩ := h
  exact ⟨av, kv, hc 0 _ (by omega) c0, hc 1 _ (by omega) c1, hc 2 _ (by omega) c2, hc 3 _ (by omega) c3, hc 4 _ (by omega) c4, ha.like hl, hf.like hl⟩
/-- the kids as a row -/
theorem FAt.row {S : Nat → Prop} {w : World} : ∀ (f : M.F) (b o : Nat), FAt S w f b o → ∃ rs : List Nw, rs.map prN = toL f ∧ AllIn S w rs ∧ (∀ x ∈ rs, ∃ a l c, x.kv = .slice a l c) ∧ ∀ j u, (rowF rs)[j]? = some u → w.cell? ⟨b, o + j, none⟩ = some u
  | .nil, _, _, _ => ⟨[], rfl, (fun r hr => by cases hr), (fun r hr => by cases hr), (fun j u h => by simp [rowF] at h)⟩
  | .node xb xo d k r, b, o, hf => by
    obtain ⟨⟨av, ka, kc, c0, c1, c2, c3, c4, ha, h1, h2, hk⟩, hr⟩ := hf
    obtain ⟨rs, e, hall, hsl, hcell⟩ := FAt.row r b (o + 5) hr
    refine ⟨⟨d, k, av, .slice ka k.len kc⟩ :: rs, ?_, ?_, ?_, ?_⟩
    · rw [List.map_cons, toL, e]; rfl
    · intro x hx
      rcases List.mem_cons.1 hx with rfl | hx
      · exact ⟨ha, ka, kc, rfl, h1, h2, hk⟩
      · exact hall x hx
    · intro x hx
      rcases List.mem_cons.1 hx with rfl | hx
      · exact ⟨_, _, _, rfl⟩
      · exact hsl x hx
    · intro j u hu
      have er : rowF (⟨d, k, av, .slice ka k.len kc⟩ :: rs) = [.int .i64 d.k, .string d.n, .string d.x, av, .slice ka k.len kc] ++ rowF rs := by simp [rowF, cells5]
      rw [er] at hu
      by_cases h5 : j < 5
      · rw [List.getElem?_append_left (by simpa using h5)] at hu
        match j, h5, hu with
        | 0, _, hu => cases hu; exact c0
        | 1, _, hu => cases hu; exact c1
        | 2, _, hu => cases hu; exact c2
        | 3, _, hu => cases hu; exact c3
        | 4, _, hu => cases hu; exact c4
      · rw [List.getElem?_append_right (by simp; omega)] at hu
        have := hcell _ u hu
        simp only [List.length_cons, List.length_nil] at this
        rw [show o + j = o + 5 + (j - 5) by omega]
        exact this
/-- what joined makes of a row lies in S too -/
theorem jstN_in {S : Nat → Prop} {w : World} {acc : List Nw} {r : Nw} (h : AllIn S w acc) (hr : AS S w r.av r.d.ats ∧ FL S w r.kv r.k) : AllIn S w (jstN acc r) := by
  unfold jstN
  split
  · exact h
  · cases acc with
    | nil => intro x hx; obtain rfl := List.mem_singleton.1 hx; exact hr
    | cons l t =>
      dsimp only
      split
      · intro x hx
        rcases List.mem_cons.1 hx with rfl | hx
        · exact h l List.mem_cons_self
        · exact h x (List.mem_cons_of_mem _ hx)
      · intro x hx
        rcases List.mem_cons.1 hx with rfl | hx
        · exact hr
        · exact h x hx
theorem fold_in {S : Nat → Prop} {w : World} : ∀ (rs acc : List Nw), AllIn S w acc → AllIn S w rs → AllIn S w (rs.foldl jstN acc)
  | [], acc, h, _ => h
  | r :: rs, acc, h, hr => fold_in rs (jstN acc r) (jstN_in h (hr r List.mem_cons_self)) (fun x hx => hr x (List.mem_cons_of_mem _ hx))
theorem fold_map : ∀ (rs acc : List Nw), (rs.foldl jstN acc).map prN = (rs.map prN).foldl jstP (acc.map prN)
  | [], acc => rfl
  | r :: rs, acc => by rw [List.foldl_cons, fold_map rs, jstN_map, List.map_cons, List.foldl_cons]
/-- joined's row makes Join's kids -/
theorem joined_kids {k : M.F} {rs : List Nw} (e : rs.map prN = toL k) : joinF k = ofL ((rs.foldl jstN []).reverse.map fun r => (r.d, joinF r.k)) := by
  rw [joinF_shallow, ← e]
  have h := fold_map rs []
  rw [show ([] : List Nw).map prN = [] from rfl] at h
  rw [← h, List.map_reverse, List.map_map]
  rfl
end Go.Proofs.YtibagbnnplpfgaaDoor
set_option linter.unusedVariables false
set_option linter.unusedSimpArgs false
namespace Go.Proofs.YtibagbnnplpfgaaDoor
open Go.Deep (BT)
open Go.RowKit M

theorem infoP : (Tryd.prog.info? 61).map (fun i => (i.zero, i.size, i.bytes)) = some (some (.pointer none), 1, 8) := by kernel_rfl
def szPd (Ps : List Pd) : Nat := (Ps.map fun p => p.k.size + 1).sum
abbrev ptrV (p : Pd) : Value := .pointer (some ⟨p.b, p.o, none⟩)
theorem szPd_snoc (Ps : List Pd) (p : Pd) : szPd (Ps ++ [p]) = szPd Ps + (p.k.size + 1) := by unfold szPd; rw [List.map_append, List.sum_append]; simp
theorem szPd_app (Ps Qs : List Pd) : szPd (Ps ++ Qs) = szPd Ps + szPd Qs := by unfold szPd; rw [List.map_append, List.sum_append]
theorem szPd_len : ∀ Ps : List Pd, Ps.length ≤ szPd Ps
  | [] => Nat.le_refl _
  | p :: Ps => by have := szPd_len Ps; unfold szPd at this ⊢; rw [List.map_cons, List.sum_cons, List.length_cons]; omega
theorem szPd_pds (g : Nat) : ∀ (rs : List Nw) (o : Nat), szPd (pdsOf g o rs) = szL (rs.map prN)
  | [], _ => rfl
  | r :: rs, o => by
    have := szPd_pds g rs (o + 5)
    unfold szPd szL at this ⊢
    rw [pdsOf, List.map_cons, List.sum_cons, this, List.map_cons, List.map_cons, List.sum_cons]
    rfl
theorem fold_size : ∀ (l acc : List PT), szL (l.foldl jstP acc) ≤ szL acc + szL l
  | [], acc => by simp [szL]
  | p :: l, acc => by
    have h1 := fold_size l (jstP acc p)
    have h2 := jst_size acc p
    have h3 : szL (p :: l) = p.2.size + 1 + szL l := by simp [szL]
    rw [List.foldl_cons]
    omega
theorem szL_rev (l : List PT) : szL l.reverse = szL l := sum_rev l
theorem toL_size : ∀ f : M.F, szL (toL f) = f.size
  | .nil => rfl
  | .node _ _ d k r => by
    have := toL_size r
    have h3 : szL (toL (.node 0 0 d k r)) = k.size + 1 + szL (toL r) := by simp [szL, toL]
    show szL (toL (.node 0 0 d k r)) = _
    rw [h3, this]
    simp only [BT.size]
    omega
/-- joined makes no more of it -/
theorem joined_size {k : M.F} {rs : List Nw} (e : rs.map prN = toL k) (g o : Nat) : szPd (pdsOf g o (rs.foldl jstN []).reverse) ≤ k.size := by
  rw [szPd_pds, List.map_reverse, szL_rev, fold_map, e]
  have := fold_size (toL k) []
  rw [toL_size] at this
  have h0 : szL ([] : List PT) = 0 := rfl
  rw [show ([] : List Nw).map prN = [] from rfl]
  omega
theorem toL_ok : ∀ {f : M.F}, allF OKnd f → OkL (toL f)
  | .nil, _ => fun p hp => by cases hp
  | .node _ _ d k r, h => fun p hp => by
    rcases List.mem_cons.1 hp with rfl | hp
    · exact ⟨h.1, h.2.1⟩
    · exact toL_ok h.2.2 p hp
theorem fold_ok : ∀ (l acc : List PT), OkL acc → OkL l → OkL (l.foldl jstP acc)
  | [], acc, h, _ => h
  | p :: l, acc, h, hl => fold_ok l (jstP acc p) (jst_ok h (hl p List.mem_cons_self)) (fun q hq => hl q (List.mem_cons_of_mem _ hq))
theorem joined_ok {k : M.F} {rs : List Nw} (e : rs.map prN = toL k) (h : allF OKnd k) : ∀ x ∈ (rs.foldl jstN []).reverse, OKnd x.d ∧ allF OKnd x.k := fun x hx => by
  have h1 := fold_ok (toL k) [] (fun p hp => by cases hp) (toL_ok h)
  rw [← e] at h1
  have h2 := fold_map rs []
  rw [show ([] : List Nw).map prN = [] from rfl] at h2
  rw [← h2] at h1
  exact h1 (prN x) (List.mem_map_of_mem (List.mem_reverse.1 hx))

/-- Join's list at a round: Ps are to be gone through, S is what belongs to what Join makes -/
structure JInv (n N : Nat) (w wr : World) (p0 : Pd) (lv : Value) (Ps : List Pd) (S : Nat → Prop) : Prop where
  own : wr.ownsRow (N + 2) 61 1 lv Ps.length (Ps.map ptrV)
  low : Below N w wr
  res : wr.heap[N + 1]? = some (.cells #[.int .i64 0, .string ⟨#[]⟩, .string ⟨#[]⟩, .slice none 0 0, .slice none 0 0] 25)
  prom : Prom S wr Ps p0
  pend : ∀ p ∈ Ps, Pend n wr p ∧ S p.b ∧ p.o % 5 = 0 ∧ (∀ o, wr.frozen? ⟨p.b, o, none⟩ = false) ∧ OKnd p.d ∧ allF OKnd p.k
  far : Ps.Pairwise fun p q => ¬ (p.b = q.b ∧ p.o = q.o)
  ins : ∀ b, S b → N ≤ b ∧ b < wr.heap.size ∧ b ≠ N + 1 ∧ some b ≠ lv.ownBlock
/-- at the beginning -/
theorem JInv.start {n : Nat} {w wr : World} {d : Nd} {k : M.F} {g : Nat} (hg : g = w.heap.size + 2) (hown : wr.ownsRow (w.heap.size + 2) 61 1 (.slice (some ⟨g, 0, none⟩) 1 1) 1 [.pointer (some ⟨w.heap.size, 0, none⟩)])
    (hlow : Below w.heap.size w wr) (hres : wr.heap[w.heap.size + 1]? = some (.cells #[.int .i64 0, .string ⟨#[]⟩, .string ⟨#[]⟩, .slice none 0 0, .slice none 0 0] 25))
    (hp : Pend n wr ⟨w.heap.size, 0, d, k⟩) (hfz : ∀ o, wr.frozen? ⟨w.heap.size, o, none⟩ = false) (ho : OKnd d ∧ allF OKnd k) (hs : w.heap.size < wr.heap.size) :
    JInv n w.heap.size w wr ⟨w.heap.size, 0, d, k⟩ (.slice (some ⟨g, 0, none⟩) 1 1) [⟨w.heap.size, 0, d, k⟩] (fun b => b = w.heap.size) := by
  refine ⟨hown, hlow, hres, Prom.start _ _ _, ?_, List.pairwise_singleton _ _, ?_⟩
  · intro p hp'
    obtain rfl := List.mem_singleton.1 hp'
    exact ⟨hp, rfl, rfl, hfz, ho⟩
  · rintro b rfl
    refine ⟨Nat.le_refl _, hs, by omega, fun e => ?_⟩
    have e2 : w.heap.size = g := Option.some.inj e
    omega
end Go.Proofs.YtibagbnnplpfgaaDoor
set_option linter.unusedVariables false
set_option linter.unusedSimpArgs false
namespace Go.Proofs.YtibagbnnplpfgaaDoor
open Go.Deep (BT)
open Go.RowKit M

/-- a slice of kids as a row -/
theorem FL.rows {n : Nat} {w : World} {v : Value} {f : M.F} (h : FL (Old n) w v f) : ∃ a c rs, v = .slice a rs.length c ∧ rs.length ≤ c ∧ c ≤ maxLen ∧ rs.map prN = toL f ∧ AllIn (Old n) w rs ∧ (∀ x ∈ rs, ∃ a l c, x.kv = .slice a l c) ∧
    ∀ i, i < rs.length → ∃ b o, a = some ⟨b, o, none⟩ ∧ b < n ∧ ∀ j u, (rowF rs)[j]? = some u → w.cell? ⟨b, o + j, none⟩ = some u := by
  obtain ⟨a, c, rfl, h1, h2, h3⟩ := h
  have hlen : ∀ rs : List Nw, rs.map prN = toL f → rs.length = f.len := fun rs e => by
    have := congrArg List.length e
    rw [List.length_map, toL_len] at this
    exact this
  rcases h3 with h0 | ⟨b, o, rfl, hS, hc⟩
  · have e := len_nil h0
    subst e
    exact ⟨a, c, [], rfl, Nat.zero_le _, h2, rfl, (fun r hr => by cases hr), (fun r hr => by cases hr), (fun i hi => by cases hi)⟩
  · obtain ⟨rs, e, hall, hsl, hcell⟩ := hc.row
    have hl := hlen rs e
    exact ⟨_, c, rs, by rw [hl], by rw [hl]; exact h1, h2, e, hall, hsl, fun i hi => ⟨b, o, rfl, hS, hcell⟩⟩

/-- behind the calls of a round: the node's attributes and kids are turned, all else is as it was -/
structure JMid (wr wc : World) (pb po : Nat) (ats : List (ByteArray × ByteArray)) (av' kv' : Value) (rs : List Nw) : Prop where
  os : Below 0 wr wc
  rest : ∀ b, b < wr.heap.size → b ≠ pb → wc.heap[b]? = wr.heap[b]?
  here : ∀ c v, ¬ (c = po + 3 ∨ c = po + 4) → wr.cell? ⟨pb, c, none⟩ = some v → wc.cell? ⟨pb, c, none⟩ = some v
  fz : ∀ o, wc.frozen? ⟨pb, o, none⟩ = wr.frozen? ⟨pb, o, none⟩
  c3 : wc.cell? ⟨pb, po + 3, none⟩ = some av'
  c4 : wc.cell? ⟨pb, po + 4, none⟩ = some kv'
  ats : AS (fun b => wr.heap.size ≤ b ∧ b < wc.heap.size ∧ some b ≠ kv'.ownBlock) wc av' ats
  kids : wc.ownsRow wr.heap.size 25 5 kv' rs.length (rowF rs)
theorem JMid.of {wr w2 : World} {pb po : Nat} {ats : List (ByteArray × ByteArray)} {av' kv' : Value} {rs : List Nw} (hb : Below wr.heap.size wr w2) (hp : pb < wr.heap.size) {u3 u4 : Value} (c3 : wr.cell? ⟨pb, po + 3, none⟩ = some u3) (c4 : wr.cell? ⟨pb, po + 4, none⟩ = some u4)
    (ha : AS (fun b => wr.heap.size ≤ b ∧ b < w2.heap.size ∧ some b ≠ kv'.ownBlock) w2 av' ats) (hk : w2.ownsRow wr.heap.size 25 5 kv' rs.length (rowF rs)) :
    JMid wr ((w2.setCell ⟨pb, po + 3, none⟩ av').setCell ⟨pb, po + 4, none⟩ kv') pb po ats av' kv' rs := by
  have hs : ((w2.setCell ⟨pb, po + 3, none⟩ av').setCell ⟨pb, po + 4, none⟩ kv').heap.size = w2.heap.size := by simp [World.setCell]
  have ho : ∀ b, b ≠ pb → ((w2.setCell ⟨pb, po + 3, none⟩ av').setCell ⟨pb, po + 4, none⟩ kv').heap[b]? = w2.heap[b]? := fun b h => by
    rw [Below.heap_setCell _ _ _ _ (by show b ≠ pb; exact h), Below.heap_setCell _ _ _ _ (by show b ≠ pb; exact h)]
  have hc : ∀ c, w2.cell? ⟨pb, c, none⟩ = wr.cell? ⟨pb, c, none⟩ := fun c => hb.cell (p := ⟨pb, c, none⟩) hp
  refine ⟨((hb.mono (Nat.zero_le _)).setCell (Nat.zero_le _) _).setCell (Nat.zero_le _) _, fun b h1 h2 => (ho b h2).trans (hb.block b h1), ?_, ?_, ?_, ?_, ?_, ?_⟩
  · intro c v hn h
    rw [World.cell?_setCell_other _ _ _ _ (by intro e; injection e with _ e2; exact hn (.inr e2.symm)), World.cell?_setCell_other _ _ _ _ (by intro e; injection e with _ e2; exact hn (.inl e2.symm)), hc]
    exact h
  · intro o
    rw [World.frozen?_setCell, World.frozen?_setCell]
    exact World.frozen?_of_block (a := ⟨pb, o, none⟩) (hb.block pb hp)
  · rw [World.cell?_setCell_other _ _ _ _ (by intro e; injection e with _ e2; omega)]
    exact World.cell?_setCell_same _ _ _ ((hc _).trans c3)
  · have h4 : (w2.setCell ⟨pb, po + 3, none⟩ av').cell? ⟨pb, po + 4, none⟩ = some u4 := by
      rw [World.cell?_setCell_other _ _ _ _ (by intro e; injection e with _ e2; omega), hc]
      exact c4
    exact World.cell?_setCell_same _ _ _ h4
  · rw [hs]
    exact ha.like (fun b hb2 hz => ho b (by have := hb2.1; omega))
  · exact ownsRow_setCell_below (ownsRow_setCell_below hk (by show pb < _; exact hp) _) (by show pb < _; exact hp) _

/-- .. and what is to be gone through then -/
structure JNext (n N : Nat) (w wr wc : World) (p0 : Pd) (g gk m cap : Nat) (Ps : List Pd) (rs : List Nw) (S2 : Nat → Prop) : Prop where
  own : wc.ownsRow (N + 2) 61 1 (.slice (some ⟨g, 0, none⟩) m cap) m (Ps.map ptrV)
  low : Below N w wc
  res : wc.heap[N + 1]? = some (.cells #[.int .i64 0, .string ⟨#[]⟩, .string ⟨#[]⟩, .slice none 0 0, .slice none 0 0] 25)
  prom : Prom S2 wc (pdsOf gk 0 rs ++ Ps) p0
  pend : ∀ p ∈ pdsOf gk 0 rs ++ Ps, Pend n wc p ∧ S2 p.b ∧ p.o % 5 = 0 ∧ (∀ o, wc.frozen? ⟨p.b, o, none⟩ = false) ∧ OKnd p.d ∧ allF OKnd p.k
  far : (pdsOf gk 0 rs ++ Ps).Pairwise fun p q => ¬ (p.b = q.b ∧ p.o = q.o)
  ins : ∀ b, S2 b → N ≤ b ∧ b < wc.heap.size ∧ b ≠ N + 1 ∧ b ≠ g
theorem JInv.next {n N : Nat} {w wr wc : World} {p0 : Pd} {g m cap : Nat} {Ps : List Pd} {pb po : Nat} {pd : Nd} {pk : M.F} {S : Nat → Prop} {rs rs0 : List Nw} {av' kv' : Value}
    (h : JInv n N w wr p0 (.slice (some ⟨g, 0, none⟩) (m + 1) cap) (Ps ++ [⟨pb, po, pd, pk⟩]) S) (hm : Ps.length = m) (hnN : n ≤ N)
    (hmid : JMid wr wc pb po pd.ats av' kv' rs) (e : rs0.map prN = toL pk) (hin : AllIn (Old n) wr rs0) (hrs : rs = (rs0.foldl jstN []).reverse) :
    ∃ gk S2, JNext n N w wr wc p0 g gk m cap Ps rs S2 ∧ (0 < rs.length → ∃ kc, kv' = .slice (some ⟨gk, 0, none⟩) rs.length kc) := by
  obtain ⟨hpP, hpS, hp5, hpz, hpd, hpk⟩ := h.pend _ (List.mem_append_right _ List.mem_cons_self)
  dsimp only at hpS hp5 hpz hpd hpk
  obtain ⟨hi1, hi2, hi3, hi4⟩ := h.ins pb hpS
  have hgp : g ≠ pb := fun e => hi4 (by rw [e]; rfl)
  have hown := h.own
  rw [List.length_append, List.length_singleton, hm, List.map_append, List.map_singleton] at hown
  have hg := hown.lt g rfl
  have hN1 : N + 1 < wr.heap.size := (Array.getElem?_eq_some_iff.1 h.res).1
  have hsz : wr.heap.size ≤ wc.heap.size := hmid.os.size
  have hsame : ∀ b, b < wr.heap.size → b ≠ pb → wc.heap[b]? = wr.heap[b]? := hmid.rest
  have hlike : Like (Old n) wr wc := fun b hb hz => hsame b hz (by have : b < n := hb; omega)
  have hcell : ∀ b c v, b < wr.heap.size → ¬ (b = pb ∧ (c = po + 3 ∨ c = po + 4)) → wr.cell? ⟨b, c, none⟩ = some v → wc.cell? ⟨b, c, none⟩ = some v := fun b c v hb hn hc => by
    by_cases eb : b = pb
    · subst eb
      exact hmid.here c v (fun h => hn ⟨rfl, h⟩) hc
    · exact (World.cell?_of_block (w := wr) (a := ⟨b, c, none⟩) (hsame b hb eb)).trans hc
  have hfr : ∀ b o, b < wr.heap.size → wc.frozen? ⟨b, o, none⟩ = wr.frozen? ⟨b, o, none⟩ := fun b o hb => by
    by_cases eb : b = pb
    · subst eb; exact hmid.fz o
    · exact World.frozen?_of_block (a := ⟨b, o, none⟩) (hsame b hb eb)
  obtain ⟨gk, hgk1, hgk2, hgk3⟩ : ∃ gk, wr.heap.size ≤ gk ∧ (∀ b, b < wc.heap.size → some b ≠ kv'.ownBlock → b ≠ gk) ∧ (0 < rs.length → (∃ kc, kv' = .slice (some ⟨gk, 0, none⟩) rs.length kc ∧ rs.length ≤ kc ∧ kc ≤ maxLen) ∧ gk < wc.heap.size ∧ (∀ o, wc.frozen? ⟨gk, o, none⟩ = false)) := by
    rcases hmid.kids.2 with ⟨e1, e2⟩ | ⟨g', cap', cur, e1, hg', hh, hc1, hc2, _⟩
    · exact ⟨wc.heap.size, hsz, (fun b hb _ => by omega), (fun h0 => by omega)⟩
    · refine ⟨g', hg', (fun b _ hn eb => hn (by rw [e1, eb]; rfl)), fun _ => ⟨⟨cap', e1, hc1, hc2⟩, (Array.getElem?_eq_some_iff.1 hh).1, fun o => by simp [World.frozen?, hh]⟩⟩
  obtain ⟨ka, kc, ekv⟩ := own_shape hmid.kids
  have hfar := List.pairwise_append.1 h.far
  have hPS : ∀ q ∈ Ps, S q.b ∧ q.o % 5 = 0 := fun q hq => by
    obtain ⟨_, h1, h2, _⟩ := h.pend q (List.mem_append_left _ hq)
    exact ⟨h1, h2⟩
  have hap : ∀ q ∈ Ps, ¬ (pb = q.b ∧ po = q.o) := fun q hq hh => hfar.2.2 q hq _ List.mem_cons_self ⟨hh.1.symm, hh.2.symm⟩
  have hall : AllIn (Old n) wc rs := by
    rw [hrs]
    have := (fold_in rs0 [] (fun r hr => by cases hr) hin).like hlike
    exact fun x hx => this x (List.mem_reverse.1 hx)
  have hjo : ∀ x ∈ rs, OKnd x.d ∧ allF OKnd x.k := by rw [hrs]; exact joined_ok e hpk
  have hcapk : rs.length ≤ kc ∧ kc ≤ maxLen := by
    rcases hmid.kids.2 with ⟨e1, e2⟩ | ⟨g', cap', cur, e1, hg', hh, hc1, hc2, _⟩
    · rw [ekv] at e1
      injection e1 with _ _ e3
      unfold maxLen
      omega
    · rw [ekv] at e1
      injection e1 with _ _ e3
      omega
  refine ⟨gk, fun b => S b ∨ (wr.heap.size ≤ b ∧ b < wc.heap.size), ⟨?_, ?_, ?_, ?_, ?_, ?_, ?_⟩, fun h0 => ?_⟩
  · exact own_block (own_pop hown) (fun k ek hk => by cases ek; exact hsame g hg.2 hgp)
  · exact h.low.trans ⟨hmid.os.os, hmid.os.tape, hmid.os.output, hmid.os.size, fun b hb => hsame b (by omega) (by omega)⟩
  · exact (hsame _ hN1 (by omega)).trans h.res
  · have hpr : Prom S wr (⟨pb, po, pd, pk⟩ :: Ps) p0 := h.prom.perm (fun q => by simp [or_comm])
    refine Prom.step (n := n) (kc := kc) (ka := ka) (av' := av') hpr (fun b hb => .inl hb) (fun b hb => (h.ins b hb).2.1) hpP hpS hap ?_ (fun q hq => (hPS q hq).1) ?_ hmid.c3 hmid.ats ?_ ?_ hcapk.1 hcapk.2 hgk1 ?_ ?_
    · intro q hq
      rcases List.mem_cons.1 hq with rfl | hq
      · exact hp5
      · exact (hPS q hq).2
    · exact fun b c v hb hn hc => hcell b c v (h.ins b hb).2.1 hn hc
    · exact fun b hb => ⟨.inr ⟨hb.1, hb.2.1⟩, hb.1, hgk2 b hb.2.1 hb.2.2⟩
    · rw [← ekv]; exact hmid.c4
    · rcases Nat.eq_zero_or_pos rs.length with h0 | h0
      · exact .inl h0
      · obtain ⟨⟨kc', e1, _⟩, h2, _⟩ := hgk3 h0
        rw [ekv] at e1
        injection e1 with e1
        exact .inr ⟨e1, .inr ⟨hgk1, h2⟩⟩
    · rw [hrs]; exact joined_kids e
  · intro q hq
    rcases List.mem_append.1 hq with hq | hq
    · obtain ⟨i, r, hr, rfl⟩ := pds_mem hq
      have hi : i < rs.length := (List.getElem?_eq_some_iff.1 hr).1
      have hrm : r ∈ rs := List.mem_of_getElem? hr
      obtain ⟨⟨kc', e1, _⟩, h2, h3⟩ := hgk3 (by omega)
      have hc := hmid.kids.cells (g := gk) (by rw [e1]; rfl)
      have hcc : ∀ j u, (cells5 r)[j]? = some u → wc.cell? ⟨gk, 0 + i * 5 + j, none⟩ = some u := fun j u hu => by
        have := hc (i * 5 + j) u (rowF_get rs i j r u hr hu)
        rw [add_cell] at this
        rw [show 0 + i * 5 + j = 0 + (i * 5 + j) by omega]
        exact this
      refine ⟨⟨r.av, r.kv, hcc 0 _ rfl, hcc 1 _ rfl, hcc 2 _ rfl, hcc 3 _ rfl, hcc 4 _ rfl, (hall r hrm).1, (hall r hrm).2⟩, .inr ⟨hgk1, h2⟩, by dsimp only; omega, h3, (hjo r hrm).1, (hjo r hrm).2⟩
    · obtain ⟨q1, q2, q3, q4, q5, q6⟩ := h.pend q (List.mem_append_left _ hq)
      have hqb := (h.ins _ q2).2.1
      refine ⟨q1.keep (fun i v hi hc => hcell q.b (q.o + i) v hqb ?_ hc) hlike, .inl q2, q3, fun o => (hfr q.b o hqb).trans (q4 o), q5, q6⟩
      rintro ⟨e1, e2⟩
      exact hap q hq ⟨e1.symm, by omega⟩
  · refine List.pairwise_append.2 ⟨pds_far rs 0, hfar.1, ?_⟩
    rintro a ha q hq ⟨e1, _⟩
    have h1 := pds_b ha
    have h2 := (h.ins _ (hPS q hq).1).2.1
    omega
  · rintro b (hb | hb)
    · obtain ⟨h1, h2, h3, h4⟩ := h.ins b hb
      exact ⟨h1, by omega, h3, fun e => h4 (by rw [e]; rfl)⟩
    · exact ⟨by omega, hb.2, by omega, by omega⟩
  · obtain ⟨⟨kc', e1, _⟩, _⟩ := hgk3 h0
    exact ⟨kc', e1⟩
theorem JNext.out {n N : Nat} {w wr wc wx : World} {p0 : Pd} {g gk m cap : Nat} {Ps : List Pd} {rs : List Nw} {S2 : Nat → Prop} {v : Value} (h : JNext n N w wr wc p0 g gk m cap Ps rs S2) (hm : Ps.length = m) (hnN : n ≤ N)
    (hb : ∀ b, b < wc.heap.size → b ≠ g → wx.heap[b]? = wc.heap[b]?) (hlow : Below N wc wx) (hown : wx.ownsRow (N + 2) 61 1 v (m + rs.length) ((Ps ++ pdsOf gk 0 rs).map ptrV)) (hv : ∀ b, some b = v.ownBlock → b = g ∨ wc.heap.size ≤ b) :
    JInv n N w wx p0 v (Ps ++ pdsOf gk 0 rs) S2 := by
  have hg := h.own.lt g rfl
  have hN1 : N + 1 < wc.heap.size := (Array.getElem?_eq_some_iff.1 h.res).1
  have hsz : wc.heap.size ≤ wx.heap.size := hlow.size
  have hlike : Like (Old n) wc wx := fun b hb' hz => hb b hz (by have : b < n := hb'; omega)
  have hins : ∀ b, S2 b → wx.heap[b]? = wc.heap[b]? := fun b hs => hb b (h.ins b hs).2.1 (h.ins b hs).2.2.2
  refine ⟨?_, h.low.trans hlow, (hb _ hN1 (by omega)).trans h.res, ?_, ?_, ?_, ?_⟩
  · rw [List.length_append, pds_len, hm]; exact hown
  · refine Prom.kept (Prom.perm h.prom (fun q => by simp [or_comm])) ?_
    exact fun b c u hs _ hc => (World.cell?_of_block (w := wc) (a := ⟨b, c, none⟩) (hins b hs)).trans hc
  · intro q hq
    obtain ⟨q1, q2, q3, q4, q5, q6⟩ := h.pend q (List.mem_append.2 (List.mem_append.1 hq).symm)
    exact ⟨q1.keep (fun i u hi hc => (World.cell?_of_block (w := wc) (a := ⟨q.b, q.o + i, none⟩) (hins _ q2)).trans hc) hlike, q2, q3, fun o => (World.frozen?_of_block (a := ⟨q.b, o, none⟩) (hins _ q2)).trans (q4 o), q5, q6⟩
  · obtain ⟨h1, h2, h3⟩ := List.pairwise_append.1 h.far
    exact List.pairwise_append.2 ⟨h2, h1, fun a ha b hb2 e => h3 b hb2 a ha ⟨e.1.symm, e.2.symm⟩⟩
  · intro b hs
    obtain ⟨h1, h2, h3, h4⟩ := h.ins b hs
    exact ⟨h1, by omega, h3, fun e => (hv b e).elim h4 (fun h5 => by omega)⟩
end Go.Proofs.YtibagbnnplpfgaaDoor
set_option linter.unusedVariables false
set_option linter.unusedSimpArgs false
namespace Go.Proofs.YtibagbnnplpfgaaDoor
open Go.Deep (BT)
open Go.RowKit M

set_option maxRecDepth 20000 in
set_option maxHeartbeats 8000000 in
theorem join_any (K : Int) (N X : ByteArray) (A : List (ByteArray × ByteArray)) (k : M.F) (av kv : Value) (n : Nat) (w : World) (hl : Lies n w ⟨K, N, X, A⟩ k av kv) (hn : n ≤ w.heap.size) (hok : OKnd ⟨K, N, X, A⟩ ∧ allF OKnd k) (hsz : k.size + 1 ≤ 400) :
    Calls Tryd.prog 16 #[.agg #[.int .i64 K, .string N, .string X, av, kv]] w fun e w' => ∃ av' kv', e = .returned (.agg #[.int .i64 K, .string N, .string X, av', kv']) ∧ Below w.heap.size w w' ∧ AS (fun b => w.heap.size ≤ b) w' av' A ∧ FL (fun b => w.heap.size ≤ b) w' kv' (joinF k) := by
  obtain ⟨a1, l1, cp1, rfl⟩ := hl.a.val
  obtain ⟨a2, cp2, rfl⟩ := hl.f.val
  obtain ⟨kl, hkl⟩ : ∃ kl, k.len = kl := ⟨_, rfl⟩
  rw [hkl] at hl
  obtain ⟨i0, hii, hzz0, hzz1, hzz2⟩ := info_parts infoP
  rw [hkl]
  obtain ⟨W0, hW0⟩ : ∃ W0, ((w.alloc (.cells #[.int .i64 K, .string N, .string X, .slice a1 l1 cp1, .slice a2 kl cp2] 25)).alloc (.cells #[.int .i64 0, .string ⟨#[]⟩, .string ⟨#[]⟩, .slice none 0 0, .slice none 0 0] 25)).alloc (.cells #[.pointer (some ⟨w.heap.size, 0, none⟩)] 61) = W0 := ⟨_, rfl⟩
  have hb0 : Below w.heap.size w W0 := by
    rw [← hW0]
    exact (((Below.refl _ w).alloc (Nat.le_refl _) _).alloc (by simp) _).alloc (by simp; omega) _
  have hF0 : Five W0 w.heap.size (.int .i64 K) (.string N) (.string X) (.slice a1 l1 cp1) (.slice a2 kl cp2) := by
    rw [← hW0]
    exact (Five.new w _ _ _ _ _ _).same ((Below.heap_alloc _ _ _ (by simp; omega)).trans (Below.heap_alloc _ _ _ (by simp)))
  have hst : JInv n w.heap.size w W0 ⟨w.heap.size, 0, ⟨K, N, X, A⟩, k⟩ (.slice (some ⟨w.heap.size + 1 + 1, 0, none⟩) 1 1) [⟨w.heap.size, 0, ⟨K, N, X, A⟩, k⟩] (fun b => b = w.heap.size) := by
    refine JInv.start rfl ?_ hb0 ?_ ?_ ?_ hok ?_
    · rw [← hW0]
      have h := World.ownsRow_lit (base := w.heap.size + 2) (e := 61) (size := 1) ((w.alloc (.cells #[.int .i64 K, .string N, .string X, .slice a1 l1 cp1, .slice a2 kl cp2] 25)).alloc (.cells #[.int .i64 0, .string ⟨#[]⟩, .string ⟨#[]⟩, .slice none 0 0, .slice none 0 0] 25)) #[.pointer (some ⟨w.heap.size, 0, none⟩)] 1 (by simp) (by decide) rfl
      simpa using h
    · rw [← hW0, Below.heap_alloc _ _ _ (by simp)]
      have h := Go.heap_alloc_new (w.alloc (.cells #[.int .i64 K, .string N, .string X, .slice a1 l1 cp1, .slice a2 kl cp2] 25)) (.cells #[.int .i64 0, .string ⟨#[]⟩, .string ⟨#[]⟩, .slice none 0 0, .slice none 0 0] 25)
      simpa using h
    · have hk : Like (Old n) w W0 := fun b hb hz => hb0.block b hz
      exact ⟨_, _, hF0.c0, hF0.c1, hF0.c2, hF0.c3, hF0.c4, hl.a.like hk, hl.f.like hk⟩
    · have h : W0.heap[w.heap.size]? = some (.cells #[.int .i64 K, .string N, .string X, .slice a1 l1 cp1, .slice a2 kl cp2] 25) := by
        rw [← hW0, Below.heap_alloc _ _ _ (by simp; omega), Below.heap_alloc _ _ _ (by simp)]
        exact Go.heap_alloc_new w _
      intro o
      simp [World.frozen?, h]
    · rw [← hW0]
      simp
      omega
  have HST := Fact.mk hst
  have HW0 := Fact.mk hW0
  clear hl hok hst hb0 hF0 hW0
  go_enter Tryd.func16, Tryd.ntmps16
  go_wp2_with fail
  rw [HW0.out]
  go_loopg [3] 400 (fun gf lv wr => ∃ (Ps : List Pd) (S : Nat → Prop), szPd Ps ≤ gf ∧ szPd Ps ≤ 400 ∧ Fact (JInv n w.heap.size w wr ⟨w.heap.size, 0, ⟨K, N, X, A⟩, k⟩ lv Ps S))
  case atStart => exact ⟨_, _, by simpa [szPd] using hsz, by simpa [szPd] using hsz, HST⟩
  case round =>
    obtain ⟨Ps, S, hfu, hf4, HJ⟩ := hrel
    rcases List.eq_nil_or_concat Ps with rfl | ⟨Ps', p, rfl⟩
    · obtain ⟨va, vc, rfl⟩ := own_shape HJ.out.own
      have hL : ([] : List Pd).length = 0 := rfl
      rw [hL]
      obtain ⟨av', ka', kc', c0, c1, c2, c3, c4, ha, hk1, hk2, hk3⟩ := HJ.out.prom.fin
      dsimp only at c0 c1 c2 c3 c4 ha hk1 hk2 hk3
      simp only [Nat.zero_add] at c1 c2 c3 c4
      obtain ⟨b1, b2, b3, rfl⟩ := ha.val
      have hres := HJ.out.res
      have hR : Five wr (w.heap.size + 1) (.int .i64 0) (.string ⟨#[]⟩) (.string ⟨#[]⟩) (.slice none 0 0) (.slice none 0 0) :=
        ⟨by simp [World.cell?, hres], by simp [World.cell?, hres], by simp [World.cell?, hres], by simp [World.cell?, hres], by simp [World.cell?, hres], fun o => by simp [World.frozen?, hres]⟩
      obtain ⟨jl, hjl⟩ : ∃ l, (joinF k).len = l := ⟨_, rfl⟩
      have HJL := Fact.mk hjl
      have hF : FL S wr (.slice ka' jl kc') (joinF k) := ⟨ka', kc', by rw [hjl], hk1, hk2, hk3⟩
      rw [hjl] at c4
      have hNw : w.heap.size + 1 < wr.heap.size := (Array.getElem?_eq_some_iff.1 hres).1
      have H5 := Fact.mk (five_all hR (.int .i64 K) (.string N) (.string X) (.slice b1 b2 b3) (.slice ka' jl kc'))
      obtain ⟨r0, r1, r2, r3, r4, rfz⟩ := id hR
      have rf0 := rfz 0
      have rf1 := rfz 1
      have rf2 := rfz 2
      have rf3 := rfz 3
      have rf4 := rfz 4
      have HE : Fact (Below w.heap.size w (((((wr.setCell ⟨w.heap.size + 1, 0, none⟩ (.int .i64 K)).setCell ⟨w.heap.size + 1, 1, none⟩ (.string N)).setCell ⟨w.heap.size + 1, 2, none⟩ (.string X)).setCell ⟨w.heap.size + 1, 3, none⟩ (.slice b1 b2 b3)).setCell ⟨w.heap.size + 1, 4, none⟩ (.slice ka' jl kc')) ∧ AS (fun b => w.heap.size ≤ b) (((((wr.setCell ⟨w.heap.size + 1, 0, none⟩ (.int .i64 K)).setCell ⟨w.heap.size + 1, 1, none⟩ (.string N)).setCell ⟨w.heap.size + 1, 2, none⟩ (.string X)).setCell ⟨w.heap.size + 1, 3, none⟩ (.slice b1 b2 b3)).setCell ⟨w.heap.size + 1, 4, none⟩ (.slice ka' jl kc')) (.slice b1 b2 b3) A ∧ FL (fun b => w.heap.size ≤ b) (((((wr.setCell ⟨w.heap.size + 1, 0, none⟩ (.int .i64 K)).setCell ⟨w.heap.size + 1, 1, none⟩ (.string N)).setCell ⟨w.heap.size + 1, 2, none⟩ (.string X)).setCell ⟨w.heap.size + 1, 3, none⟩ (.slice b1 b2 b3)).setCell ⟨w.heap.size + 1, 4, none⟩ (.slice ka' jl kc')) (.slice ka' jl kc') (joinF k)) := by
        obtain ⟨W5, hW5⟩ : ∃ W5, (((((wr.setCell ⟨w.heap.size + 1, 0, none⟩ (.int .i64 K)).setCell ⟨w.heap.size + 1, 1, none⟩ (.string N)).setCell ⟨w.heap.size + 1, 2, none⟩ (.string X)).setCell ⟨w.heap.size + 1, 3, none⟩ (.slice b1 b2 b3)).setCell ⟨w.heap.size + 1, 4, none⟩ (.slice ka' jl kc')) = W5 := ⟨_, rfl⟩
        have hoth : ∀ b, b ≠ w.heap.size + 1 → W5.heap[b]? = wr.heap[b]? := fun b hb => by
          rw [← hW5]; exact five_other wr (w.heap.size + 1) hb _ _ _ _ _
        have hB : Below w.heap.size wr W5 := by
          rw [← hW5]
          exact (((((Below.refl _ wr).setCell (p := ⟨w.heap.size + 1, 0, none⟩) (Nat.le_succ _) _).setCell (p := ⟨w.heap.size + 1, 1, none⟩) (Nat.le_succ _) _).setCell (p := ⟨w.heap.size + 1, 2, none⟩) (Nat.le_succ _) _).setCell (p := ⟨w.heap.size + 1, 3, none⟩) (Nat.le_succ _) _).setCell (p := ⟨w.heap.size + 1, 4, none⟩) (Nat.le_succ _) _
        rw [hW5]
        have hlk : Like S wr W5 := fun b hb _ => hoth b (HJ.out.ins b hb).2.2.1
        exact ⟨HJ.out.low.trans hB, (ha.like hlk).mono (fun b hb => (HJ.out.ins b hb).1), (hF.like hlk).mono (fun b hb => (HJ.out.ins b hb).1)⟩
      clear rfz hR hjl ha hk1 hk2 hk3 hF hres
      go_wp2_with fail
      have h5 := H5.out
      refine bodyPost_ret (v := nodeV ⟨K, N, X, A⟩ (.slice b1 b2 b3) (.slice ka' jl kc')) (by simp [results, go_sem, h5.c0, h5.c1, h5.c2, h5.c3, h5.c4]) rfl ?_
      exact ⟨_, _, rfl, HE.out.1, HE.out.2.1, HE.out.2.2⟩
    · rw [List.concat_eq_append] at hfu hf4 HJ
      obtain ⟨m, hm⟩ : ∃ m, Ps'.length = m := ⟨_, rfl⟩
      have hown := HJ.out.own
      rw [List.length_append, List.length_singleton, hm, List.map_append, List.map_singleton] at hown
      obtain ⟨g, cap, rfl⟩ := ownsRow_succ hown
      obtain ⟨hat, hfz, hg1, hg2⟩ := own_at hown
      have hcp := own_cap hown
      obtain ⟨pb, po, pd, pk⟩ := p
      rw [szPd_snoc] at hfu hf4
      dsimp only at hfu hf4
      have m4 : m ≤ 400 := by have := szPd_len Ps'; omega
      obtain ⟨⟨av, kv, c0, c1, c2, c3, c4, hA, hF⟩, hSp, hp5, hpz, hpd, hpk⟩ := HJ.out.pend _ (List.mem_append_right _ List.mem_cons_self)
      dsimp only at c0 c1 c2 c3 c4 hA hF hSp hp5 hpz hpd hpk
      obtain ⟨e1, e2, e3, rfl⟩ := hA.val
      obtain ⟨ka, kc, rs0, rfl, hk1, hk2, hk3, hk4, hk5, hk6⟩ := hF.rows
      obtain ⟨hi1, hi2, hi3, hi4⟩ := HJ.out.ins pb hSp
      have hnw : n ≤ wr.heap.size := by omega
      have mI : (0 : Int) ≤ m := by omega
      have mI2 : (m : Int) < m + 1 := by omega
      have hpb : pb < wr.heap.size := hi2
      have hcl : Calls Tryd.prog 29 #[.slice e1 e2 e3] wr.drew fun e w' => ∃ v', e = .returned v' ∧ AS (fun b => wr.heap.size ≤ b) w' v' pd.ats ∧ Below wr.heap.size wr w' := (cloneA_any pd.ats (.slice e1 e2 e3) n wr.drew hA (by have := hpd.many; omega)).mono (fun e w' ⟨v', h1, h2, h3⟩ => ⟨v', h1, h2, ⟨h3.os, h3.tape, h3.output, h3.size, h3.block⟩⟩)
      have hbnd : rs0.length ≤ 400 := by
        have h1 : rs0.length = pk.len := by have := congrArg List.length hk3; rwa [List.length_map, toL_len] at this
        have := len_size pk
        omega
      have hsl : ∀ x ∈ rs0, Sl2 x ∧ x.d.x.size ≤ 6000 := fun x hx => by
        have h1 := toL_ok hpk
        rw [← hk3] at h1
        exact ⟨⟨(hk4 x hx).1.val, hk5 x hx⟩, (h1 (prN x) (List.mem_map_of_mem hx)).1.text⟩
      have hjo : ∀ w1, Below wr.heap.size wr w1 → Calls Tryd.prog 30 #[.slice ka rs0.length kc] w1 fun e w' => ∃ v', e = .returned v' ∧ Below w1.heap.size w1 w' ∧ w'.ownsRow w1.heap.size 25 5 v' (rs0.foldl jstN []).reverse.length (rowF (rs0.foldl jstN []).reverse) := fun w1 hb => by
        refine joined_any rs0 ka kc w1 (fun i hi => ?_) hk1 (by unfold maxLen at hk2; omega) (by omega) hsl
        obtain ⟨b, o, ea, hbn, hcc⟩ := hk6 i hi
        exact ⟨b, o, ea, by have := hb.size; omega, fun j u hu => (hb.cell (p := ⟨b, o + j, none⟩) (by show b < _; omega)).trans (hcc j u hu)⟩
      obtain ⟨rl, hrl⟩ : ∃ rl, rs0.length = rl := ⟨_, rfl⟩
      rw [hrl] at hjo c4
      obtain ⟨rs, hrs⟩ : ∃ rs, (rs0.foldl jstN []).reverse = rs := ⟨_, rfl⟩
      rw [hrs] at hjo
      have HCL := Fact.mk hcl
      have HPB := Fact.mk hpb
      have HJO := Fact.mk hjo
      have HRS := Fact.mk (And.intro hk3 (And.intro hk4 hrs))
      have HI := Fact.mk (And.intro hi1 (And.intro hi3 hi4))
      have HPZ : Fact (∀ w', Below wr.heap.size wr w' → w'.cell? ⟨pb, po + 3, none⟩ = some (.slice e1 e2 e3) ∧ w'.cell? ⟨pb, po + 4, none⟩ = some (.slice ka rl kc) ∧ w'.frozen? ⟨pb, po + 3, none⟩ = false ∧ w'.frozen? ⟨pb, po + 4, none⟩ = false) := ⟨fun w' hb => ⟨(hb.cell (p := ⟨pb, po + 3, none⟩) hpb).trans c3, (hb.cell (p := ⟨pb, po + 4, none⟩) hpb).trans c4, (World.frozen?_of_block (a := ⟨pb, po + 3, none⟩) (hb.block pb hpb)).trans (hpz _), (World.frozen?_of_block (a := ⟨pb, po + 4, none⟩) (hb.block pb hpb)).trans (hpz _)⟩⟩
      have HC34 := Fact.mk (And.intro c3 c4)
      clear hcl hjo hA hF hk1 hk2 hk3 hk4 hk5 hk6 hpz hsl hrs hi1 hi2 hi3 hi4 c0 c1 c2 hown hSp hp5 hpd hpk hbnd
      go_wp2_with fail
      go_cut [27] (fun xv wc => ∃ (y1 : Option Addr) (y2 y3 : Nat) (z1 : Option Addr) (z3 : Nat), xv = .slice y1 y2 y3 ∧ Fact (JMid wr wc pb po pd.ats (.slice y1 y2 y3) (.slice z1 rs.length z3) rs))
      case first =>
        go_region_law (first
          | (go_simp; go_at_call 29; refine HCL.out.mono ?_; rintro e w1 ⟨v1, rfl, has1, hb1⟩; obtain ⟨y1, y2, y3, ey⟩ := has1.val; subst ey; obtain ⟨m3, m4', m5, m6⟩ := HPZ.out w1 hb1; have HAS1 := Fact.mk has1; have HB1 := Fact.mk hb1; clear has1 hb1)
          | (go_simp; go_at_call 30; refine (HJO.out _ HB1.out).mono ?_; rintro e w2 ⟨v2, rfl, hb2, how2⟩; obtain ⟨z1, z3, ez⟩ := own_shape how2; subst ez; have hb3 : Below wr.heap.size wr w2 := HB1.out.trans (hb2.mono HB1.out.size); obtain ⟨n3, n4, n5, n6⟩ := HPZ.out w2 hb3; have HOW2 := Fact.mk how2; have HB2 := Fact.mk hb2; have HB3 := Fact.mk hb3; clear how2 hb2 hb3))
        all_goals
          go_wp2_with fail
          go_meet
          case rel =>
            refine ⟨y1, y2, y3, z1, z3, rfl, ⟨JMid.of HB3.out HPB.out HC34.out.1 HC34.out.2 ?_ (own_lessP HOW2.out HB1.out.size)⟩⟩
            exact (HAS1.out.inn.like (fun b hb hz => HB2.out.block b hz)).mono (fun b hb => ⟨hb.1, Nat.lt_of_lt_of_le hb.2 HB2.out.size, fun e => by have := (HOW2.out.lt b e.symm).1; have := hb.2; omega⟩)
      case rest =>
        obtain ⟨y1, y2, y3, z1, z3, rfl, HMID⟩ := hcut
        obtain ⟨G', rfl⟩ : ∃ G', gk = G' + 1 := ⟨gk - 1, by omega⟩
        obtain ⟨gq, S2, hnx, hkv⟩ := HJ.out.next hm hn HMID.out HRS.out.1 HRS.out.2.1 HRS.out.2.2.symm
        have hs2 : szPd (pdsOf gq 0 rs) ≤ pk.size := by have := joined_size HRS.out.1 gq 0; rwa [HRS.out.2.2] at this
        obtain ⟨rk, hrk⟩ : ∃ rk, rs.length = rk := ⟨_, rfl⟩
        have hrk4 : rk ≤ 400 := by have := szPd_len (pdsOf gq 0 rs); rw [pds_len, hrk] at this; omega
        have q4 := HMID.out.c4
        rw [hrk] at q4 hkv
        have HNX := Fact.mk hnx
        have HKV := Fact.mk hkv
        have HRK := Fact.mk hrk
        have hpg : pb ≠ g := fun e => HI.out.2.2 (by rw [e]; rfl)
        have hpc : pb < wc.heap.size := Nat.lt_of_lt_of_le HPB.out HMID.out.os.size
        have HPG := Fact.mk (And.intro hpg hpc)
        clear hnx hkv hrk
        go_wp2_with fail
        go_loopg [3, 42] rk (fun gf lv iv wx => ∃ i : Nat, iv = .int .i64 i ∧ i ≤ rk ∧ rk - i ≤ gf ∧ Fact (wx.ownsRow (w.heap.size + 2) 61 1 lv (m + i) ((Ps' ++ (pdsOf gq 0 rs).take i).map ptrV)) ∧ Fact (∀ b, b < wc.heap.size → b ≠ g → wx.heap[b]? = wc.heap[b]?) ∧ Fact (Below w.heap.size wc wx) ∧ Fact (∀ b, some b = lv.ownBlock → b = g ∨ wc.heap.size ≤ b))
        case atStart => exact ⟨0, rfl, Nat.zero_le _, Nat.le_refl _, ⟨by simpa using HNX.out.own⟩, ⟨fun b _ _ => rfl⟩, ⟨Below.refl _ _⟩, ⟨fun b e => .inl (Option.some.inj e)⟩⟩
        case round =>
          obtain ⟨i, rfl, hi, hgf, hown, hob, hlow, hvb⟩ := hrel
          obtain ⟨va, vc, rfl⟩ := own_shape hown.out
          have hsr : wc.heap.size ≤ wr.heap.size := hlow.out.size
          have hNc : w.heap.size + 1 < wc.heap.size := (Array.getElem?_eq_some_iff.1 HNX.out.res).1
          by_cases hlt : i < rk
          · obtain ⟨g', rfl⟩ : ∃ g', gk = g' + 1 := ⟨gk - 1, by omega⟩
            obtain ⟨r, hr⟩ : ∃ r, rs[i]? = some r := ⟨_, List.getElem?_eq_getElem (by rw [HRK.out]; exact hlt)⟩
            obtain ⟨kc', ekv⟩ := HKV.out (by omega)
            simp only [Value.slice.injEq, true_and] at ekv
            obtain ⟨rfl, rfl⟩ := ekv
            have hpds := pds_get (g := gq) rs 0 i r hr
            have HTK : Fact ((Ps' ++ (pdsOf gq 0 rs).take (i + 1)).map ptrV = (Ps' ++ (pdsOf gq 0 rs).take i).map ptrV ++ [.pointer (some ⟨gq, i * 5, none⟩)]) := ⟨by rw [List.take_add_one, hpds]; simp⟩
            have x4 : wr.cell? ⟨pb, po + 4, none⟩ = some (.slice (some ⟨gq, 0, none⟩) rk z3) := (World.cell?_of_block (w := wc) (a := ⟨pb, po + 4, none⟩) (hob.out pb HPG.out.2 HPG.out.1)).trans q4
            have jI : (i : Int) < rk := by omega
            have jI0 : (0 : Int) ≤ i := by omega
            obtain ⟨xs, hxs⟩ : ∃ xs, (Ps' ++ (pdsOf gq 0 rs).take i).map ptrV = xs := ⟨_, rfl⟩
            rw [hxs] at hown HTK
            have HNS := Fact.mk (And.intro hsr hNc)
            have HOW := Fact.mk hown.out
            clear hpds hr hxs hown hsr hNc
            go_wp2_with (at_builtin; refine wpList_append_own_at _ rfl (.tmp 45) (.tmp 52) 62 rfl (w.heap.size + 2) 61 i0 (.pointer none) 1 8 Tryd.underlying62 hii hzz0 hzz1 hzz2 rfl (by decide) (.slice va (m + i) vc) (m + i) xs rfl (HOW.out.alloc _) ⟨wr.heap.size, 0, none⟩ 1 1 [.pointer (some ⟨gq, i * 5, none⟩)] rfl rfl (cell_one_new _ _ _) (by simp [Value.oneCell']) (by unfold maxLen; omega) (by omega) (by have := HNS.out; simp; omega) ?_; intro v9 w9 hown9 hgrow9 _ hat9)
            go_roundg g'
            case measure => omega
            case rel =>
              have hns := HNS.out
              refine ⟨i + 1, by go_num, by omega, by omega, ⟨?_⟩, ⟨?_⟩, ⟨?_⟩, ⟨?_⟩⟩
              · rw [HTK.out]; exact hown9
              · intro b hb hbg
                exact (hgrow9.block b (by simp; omega) (fun e => (hvb.out b e).elim hbg (fun h => by omega))).trans ((Below.heap_alloc _ _ _ (by omega)).trans (hob.out b hb hbg))
              · exact (hlow.out.alloc (by omega) _).grown hgrow9 (by simp; omega) (fun k e => by have := (HOW.out.lt k e).1; omega)
              · intro b e
                rcases hat9 with e2 | e2
                · exact hvb.out b (e.trans e2)
                · rw [e2] at e
                  have e3 := Option.some.inj e
                  right
                  rw [e3]
                  simp
                  omega
          · obtain rfl : i = rk := by omega
            have jI : ¬ (i : Int) < i := by omega
            have HEX : Fact (JInv n w.heap.size w wr ⟨w.heap.size, 0, ⟨K, N, X, A⟩, k⟩ (.slice va (m + i) vc) (Ps' ++ pdsOf gq 0 rs) S2) := by
              refine ⟨HNX.out.out hm hn hob.out hlow.out ?_ hvb.out⟩
              have h := hown.out
              rw [List.take_of_length_le (by rw [pds_len, HRK.out]; exact Nat.le_refl _)] at h
              rw [HRK.out]
              exact h
            have hfu2 : szPd (Ps' ++ pdsOf gq 0 rs) ≤ G' := by rw [szPd_app]; omega
            have hfu3 : szPd (Ps' ++ pdsOf gq 0 rs) ≤ 400 := by rw [szPd_app]; omega
            clear hown hob hlow hvb
            go_wp2_with fail
            go_roundg G'
            case measure => omega
            case rel => exact ⟨_, _, hfu2, hfu3, HEX⟩
end Go.Proofs.YtibagbnnplpfgaaDoor
