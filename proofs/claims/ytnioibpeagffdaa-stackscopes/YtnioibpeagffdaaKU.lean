/- The walk of StackScopes: it returns true. -/
import Derived.Test.YtnioibpeagffdaaKP
set_option linter.unusedVariables false
namespace Go.Proofs.Ytnioibpeagffdaa
open Go.RowKit Go.Shelf

/-- so many spans -/
def sp (l : List ByteArray) : Nat → List ByteArray
  | 0 => l
  | k + 1 => sp l k ++ [⟨#[115, 112, 97, 110]⟩]
theorem sp_len (l : List ByteArray) : ∀ k, (sp l k).length = l.length + k
  | 0 => rfl
  | k + 1 => by simp [sp, sp_len l k]; omega
theorem tx_app (l : List ByteArray) (y : ByteArray) (i : Nat) (h : i < l.length) : tx (l ++ [y]) i = tx l i := by
  simp [tx, List.getElem?_append_left h]
theorem tx_last (l : List ByteArray) (y : ByteArray) : tx (l ++ [y]) l.length = y := by
  simp [tx]
theorem inK_app (l : List ByteArray) (y x : ByteArray) (k : Int) : ∀ j, j ≤ l.length → inK (l ++ [y]) x k j = inK l x k j
  | 0, _ => rfl
  | j + 1, h => by
    unfold inK
    rw [tx_app l y j (by omega), inK_app l y x k j (by omega)]
theorem inK_one (l : List ByteArray) (y x : ByteArray) (k : Int) : inK (l ++ [y]) x k (l ++ [y]).length = if (y.toList == x.toList) = true then true else if brd y.toList k = true then false else inK l x k l.length := by
  rw [List.length_append]
  show inK (l ++ [y]) x k (l.length + 1) = _
  rw [show inK (l ++ [y]) x k (l.length + 1) = if ((tx (l ++ [y]) l.length).toList == x.toList) = true then true else if brd (tx (l ++ [y]) l.length).toList k = true then false else inK (l ++ [y]) x k l.length from rfl, tx_last, inK_app l y x k l.length (Nat.le_refl _)]
theorem span_list : (⟨#[115, 112, 97, 110]⟩ : ByteArray).toList = [115, 112, 97, 110] := lit_toList [115, 112, 97, 110]
theorem table_list : (⟨#[116, 97, 98, 108, 101]⟩ : ByteArray).toList = [116, 97, 98, 108, 101] := lit_toList [116, 97, 98, 108, 101]
theorem in_sp (l : List ByteArray) (x : ByteArray) (k : Int) (hx : (x.toList == [115, 112, 97, 110]) = false) : ∀ n, inK (sp l n) x k (sp l n).length = inK l x k l.length
  | 0 => rfl
  | n + 1 => by
    show inK (sp l n ++ [(⟨#[115, 112, 97, 110]⟩ : ByteArray)]) x k (sp l n ++ [(⟨#[115, 112, 97, 110]⟩ : ByteArray)]).length = _
    rw [inK_one, in_sp l x k hx n, span_list, beq_turn, hx]
    have hb : brd [115, 112, 97, 110] k = false := rfl
    rw [hb, if_neg (by simp), if_neg (by simp)]
theorem in_table (l : List ByteArray) (x : ByteArray) (k : Int) (hx : (x.toList == [116, 97, 98, 108, 101]) = false) : inK (l ++ [(⟨#[116, 97, 98, 108, 101]⟩ : ByteArray)]) x k (l ++ [(⟨#[116, 97, 98, 108, 101]⟩ : ByteArray)]).length = false := by
  rw [inK_one, table_list, beq_turn, hx]
  have hb : brd [116, 97, 98, 108, 101] k = true := rfl
  rw [hb, if_neg (by simp), if_pos rfl]
theorem in_self (l : List ByteArray) (x : ByteArray) (k : Int) : inK (l ++ [x]) x k (l ++ [x]).length = true := by
  rw [inK_one, if_pos (beq_self_eq_true _)]

set_option maxRecDepth 100000 in
set_option maxHeartbeats 8000000 in
theorem scopes12_walk (v : Value) (l : List ByteArray) (x : ByteArray) (k n : Int) (w : World) (hS : SS w.heap.size w v l) :
    Calls Try.prog 5 #[v, .string x, .int .i64 k, .int .i64 n] w fun e w' => e = .returned (.bool true) ∧ Below w.heap.size w w' := by
  obtain ⟨a1, c1, e1⟩ := hS.val
  have HF1 := Fact.mk (few_any l v _ w hS)
  subst e1
  have HS := Fact.mk hS
  obtain ⟨k4, hk4, hP4⟩ := place_ex k 4 (by omega) (by omega)
  obtain ⟨n5, hn5, hP5⟩ := place_ex n 5 (by omega) (by omega)
  have HP4 := Fact.mk hP4
  have HP5 := Fact.mk hP5
  have HA := Fact.mk awake12_true
  clear hS hP4 hP5
  have t1 : True := trivial
  have t2 : True := trivial
  have t3 : True := trivial
  have t4 : True := trivial
  cases hx1 : (x.toList == [116, 97, 98, 108, 101])
  · cases hx2 : (x.toList == [115, 112, 97, 110])
    · have HX1 := Fact.mk hx1
      have HX2 := Fact.mk hx2
      obtain ⟨q, hq⟩ : ∃ q, inK l x (1 + (k4 : Int)) l.length = q := ⟨_, rfl⟩
      have HQ := Fact.mk hq
      clear hq
      by_cases hbig : 100 < x.size
      · go_enter Try.func5, Try.ntmps5
        go_wp2_with (first
          | (go_at_call 8; have _t := t1; refine HF1.out.mono ?_; clear t1 _t; rintro e w1 ⟨⟨B1, rfl, h1⟩, hw⟩; have hw' := hw.symm; subst hw'; clear hw; cases B1 <;> first | (have L1 := Fact.mk (h1 rfl); clear h1) | clear h1)
          | (go_at_call 9; refine (HA.out _).mono ?_; rintro e w10 ⟨rfl, hb⟩; have B9 := Fact.mk hb; clear hb))
        all_goals go_ret
        all_goals exact ⟨rfl, B9.out⟩
      · go_enter Try.func5, Try.ntmps5
        go_wp2_with (first
          | (go_at_call 8; have _t := t1; refine HF1.out.mono ?_; clear t1 _t; rintro e w1 ⟨⟨B1, rfl, h1⟩, hw⟩; have hw' := hw.symm; subst hw'; clear hw; cases B1 <;> first | (have L1 := Fact.mk (h1 rfl); clear h1) | clear h1)
          | (go_at_call 9; refine (HA.out _).mono ?_; rintro e w10 ⟨rfl, hb⟩; have B9 := Fact.mk hb; clear hb)
          | (go_at_call 19; have _t := t2; refine (HP4.out _).mono ?_; clear t2 _t; rintro e w1 ⟨rfl, hw⟩; have hw' := hw.symm; subst hw'; clear hw)
          | (at_builtin; have _t := t3; refine wpList_app (by rfl) (.const (.slice none 0 0)) (.tmp 34) rfl _ _ (.slice none 0 0) _ [] l rfl rfl (OwnN.nil _ _) HS.out (by have := L1.out; simp; omega) (Nat.le_refl _) ?_; clear t3 _t; intro v1 w1 hO _ hB; have O1 := Fact.mk hO.out.ss; have B1 := hB; clear hO hB)
          | (go_at_call 12; refine (in_any l _ x (1 + (k4 : Int)) _ O1.out q HQ).mono ?_; rintro e w2 ⟨rfl, hb⟩; have B2 := bel B1 hb; clear hb)
          | (at_builtin; have _t := t4; refine wpList_app (by rfl) (.const (.slice none 0 0)) (.tmp 39) rfl _ _ (.slice none 0 0) _ [] l rfl rfl (OwnN.nil _ _) (HS.out.up B2.out) (by have := L1.out; simp; omega) (Nat.le_refl _) ?_; clear t4 _t; intro v3 w3 hO _ hB; have O3 := hO; have B3 := bel B2 hB.out; have hbs := Fact.mk hB.out.size; clear hO hB))
        · go_ret
          exact ⟨rfl, B9.out⟩
        · have t5 : True := trivial
          have t6 : True := trivial
          have t7 : True := trivial
          have t8 : True := trivial
          have t9 : True := trivial
          have HW2 : Fact (w.heap.size ≤ w2.heap.size) := ⟨B2.out.size⟩
          have HW3 : Fact (w2.heap.size ≤ w3.heap.size) := ⟨hbs.out⟩
          go_loopw [11, 12] (fun v iv wx => ∃ j : Nat, j ≤ n5 ∧ iv = .int .i64 j ∧ Fact (Below w.heap.size w wx) ∧ Fact (OwnN w2.heap.size wx v (sp l j)) ∧ Fact (w2.heap.size ≤ wx.heap.size)) (fun v iv _ => n5 - (intOf iv).toNat)
          case atStart => exact ⟨0, Nat.zero_le _, rfl, B3, O3, HW3⟩
          case round =>
            rename World => wx
            rename Value => iv
            rename Value => vv
            obtain ⟨j, hj, rfl, hbx, hO, hzx⟩ := hrel
            have HSP := Fact.mk (sp_len l j)
            by_cases hlt : j < n5
            · have i1 : (j : Int) < n5 := by omega
              have ho1 := hO.out.below ((Below.refl wx.heap.size wx).alloc (Nat.le_refl _) (.cells #[.string ⟨#[115, 112, 97, 110]⟩] 9)) (Nat.le_refl _)
              have HO1 := Fact.mk ho1
              have HB1 := Fact.mk (hbx.out.alloc hbx.out.size (.cells #[.string ⟨#[115, 112, 97, 110]⟩] 9))
              have HZ1 : Fact (w2.heap.size ≤ (wx.alloc (.cells #[.string ⟨#[115, 112, 97, 110]⟩] 9)).heap.size) := ⟨by have := hzx.out; simp; omega⟩
              have HLT := Fact.mk hlt
              have HN5 := Fact.mk hn5
              clear ho1
              go_wp2_with (first
                | (go_at_call 19; have _t := t5; refine (HP5.out _).mono ?_; clear t5 _t; rintro e w1 ⟨rfl, hw⟩; have hw' := hw.symm; subst hw'; clear hw)
                | (at_builtin; refine wpList_app (by rfl) (.tmp 47) (.tmp 48) rfl _ _ _ _ _ _ rfl rfl HO1.out (ss_one _ _) (by have := HSP.out; have := L1.out; have := HLT.out; have := HN5.out; simp; omega) HZ1.out ?_; intro v4 w4 hO4 _ hb4))
              go_roundw
              case rel => exact ⟨j + 1, by omega, by go_num, ⟨HB1.out.trans (hb4.out.mono HW2.out)⟩, hO4, ⟨Nat.le_trans HZ1.out hb4.out.size⟩⟩
              case measure => simp [intOf]; omega
            · obtain rfl : j = n5 := by omega
              have HQ4 : Fact (inK (sp l j) x (1 + (k4 : Int)) (sp l j).length = q) := ⟨(in_sp l x _ HX2.out j).trans HQ.out⟩
              have HT4 : Fact (inK (sp l j ++ [(⟨#[116, 97, 98, 108, 101]⟩ : ByteArray)]) x (1 + (k4 : Int)) (sp l j ++ [(⟨#[116, 97, 98, 108, 101]⟩ : ByteArray)]).length = false) := ⟨in_table _ x _ HX1.out⟩
              have HS4 : Fact (inK (sp l j ++ [x]) x (1 + (k4 : Int)) (sp l j ++ [x]).length = true) := ⟨in_self _ x _⟩
              have HN5 := Fact.mk hn5
              have qq : (q == q) = true := beq_self_eq_true _
              go_wp2_with (first
                | (go_at_call 19; have _t := t5; refine (HP5.out _).mono ?_; clear t5 _t; rintro e w1 ⟨rfl, hw⟩; have hw' := hw.symm; subst hw'; clear hw)
                | (go_at_call 12; have _t := t6; refine (in_any _ _ x (1 + (k4 : Int)) _ hO.out.ss q HQ4).mono ?_; clear t6 _t; rintro e w5 ⟨rfl, hb⟩; have B5 := bel hbx hb; have HO5 := Fact.mk (hO.out.below hb (Nat.le_refl _)); have HZ5 := Fact.mk (Nat.le_trans hzx.out hb.size); have HO5a := Fact.mk (HO5.out.below ((Below.refl w5.heap.size w5).alloc (Nat.le_refl _) (.cells #[.string ⟨#[116, 97, 98, 108, 101]⟩] 9)) (Nat.le_refl _)); have HB5a := Fact.mk (B5.out.alloc B5.out.size (.cells #[.string ⟨#[116, 97, 98, 108, 101]⟩] 9)); have HZ5a : Fact (w2.heap.size ≤ (w5.alloc (.cells #[.string ⟨#[116, 97, 98, 108, 101]⟩] 9)).heap.size) := ⟨by have := HZ5.out; simp; omega⟩; clear hb)
                | (at_builtin; have _t := t7; refine wpList_app (by rfl) (.tmp 58) (.tmp 59) rfl _ _ _ _ _ _ rfl rfl HO5a.out (ss_one _ _) (by have := HSP.out; have := L1.out; have := HN5.out; simp; omega) HZ5a.out ?_; clear t7 _t; intro v6 w6 hO6 hO6o hb6; have B6 := Fact.mk (HB5a.out.trans (hb6.out.mono HW2.out)); have HZ6 := Fact.mk (Nat.le_trans HZ5a.out hb6.out.size))
                | (go_at_call 12; have _t := t8; refine (in_any _ _ x (1 + (k4 : Int)) _ hO6.out.ss false HT4).mono ?_; clear t8 _t; rintro e w7 ⟨rfl, hb⟩; have B7 := bel B6 hb; have HO7 := Fact.mk (hO6o.out.below hb (Nat.le_refl _)); have HZ7 := Fact.mk (Nat.le_trans HZ6.out hb.size); have HO7a := Fact.mk (HO7.out.below ((Below.refl w7.heap.size w7).alloc (Nat.le_refl _) (.cells #[.string x] 9)) (Nat.le_refl _)); have HB7a := Fact.mk (B7.out.alloc B7.out.size (.cells #[.string x] 9)); have HZ7a : Fact (w2.heap.size ≤ (w7.alloc (.cells #[.string x] 9)).heap.size) := ⟨by have := HZ7.out; simp; omega⟩; clear hb)
                | (at_builtin; have _t := t9; refine wpList_app (by rfl) (.tmp 67) (.tmp 69) rfl _ _ _ _ _ _ rfl rfl HO7a.out (ss_one _ _) (by have := HSP.out; have := L1.out; have := HN5.out; simp; omega) HZ7a.out ?_; clear t9 _t; intro v8 w8 hO8 _ hb8; have B8 := Fact.mk (HB7a.out.trans (hb8.out.mono HW2.out)))
                | (go_at_call 12; refine (in_any _ _ x (1 + (k4 : Int)) _ hO8.out.ss true HS4).mono ?_; rintro e w9 ⟨rfl, hb⟩; have B9 := bel B8 hb; clear hb)
                | (go_at_call 9; refine (HA.out _).mono ?_; rintro e w10 ⟨rfl, hb⟩; have B10 := bel B9 hb; clear hb))
              go_ret
              exact ⟨rfl, B10.out⟩
    · go_enter Try.func5, Try.ntmps5
      go_wp2_with (first
        | (go_at_call 8; have _t := t1; refine HF1.out.mono ?_; clear t1 _t; rintro e w1 ⟨⟨B1, rfl, h1⟩, hw⟩; have hw' := hw.symm; subst hw'; clear hw; cases B1 <;> first | (have L1 := Fact.mk (h1 rfl); clear h1) | clear h1)
        | (go_at_call 9; refine (HA.out _).mono ?_; rintro e w10 ⟨rfl, hb⟩; have B9 := Fact.mk hb; clear hb))
      all_goals go_ret
      all_goals exact ⟨rfl, B9.out⟩
  · go_enter Try.func5, Try.ntmps5
    go_wp2_with (first
      | (go_at_call 8; have _t := t1; refine HF1.out.mono ?_; clear t1 _t; rintro e w1 ⟨⟨B1, rfl, h1⟩, hw⟩; have hw' := hw.symm; subst hw'; clear hw; cases B1 <;> first | (have L1 := Fact.mk (h1 rfl); clear h1) | clear h1)
      | (go_at_call 9; refine (HA.out _).mono ?_; rintro e w10 ⟨rfl, hb⟩; have B9 := Fact.mk hb; clear hb))
    all_goals go_ret
    all_goals exact ⟨rfl, B9.out⟩
end Go.Proofs.Ytnioibpeagffdaa
