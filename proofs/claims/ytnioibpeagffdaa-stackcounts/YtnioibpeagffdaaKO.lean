/- Names as bytes; the document's example; Place. -/
import Derived.Test.YtnioibpeagffdaaKN
set_option linter.unusedVariables false
namespace Go.Proofs.Ytnioibpeagffdaa
open Go.RowKit Go.Shelf

def hasL : List (List UInt8) → List UInt8 → Bool
  | [], _ => false
  | y :: r, x => if (y == x) = true then true else hasL r x
theorem hasB_lits (x : ByteArray) : ∀ L : List (List UInt8), hasB (lits L) x = hasL L x.toList
  | [] => rfl
  | y :: r => by
    show (if ((⟨y.toArray⟩ : ByteArray).toList == x.toList) = true then true else hasB (lits r) x) = _
    rw [lit_toList, hasB_lits x r]; rfl
def txL (L : List (List UInt8)) (i : Nat) : List UInt8 := L.getD i []
theorem tx_lits (L : List (List UInt8)) (i : Nat) : (tx (lits L) i).toList = txL L i := by
  by_cases h : i < L.length
  · rw [tx_get _ _ (by rw [lits_len]; exact h)]
    simp only [lits, List.getElem_map, txL, List.getD_eq_getElem?_getD, List.getElem?_eq_getElem h, Option.getD_some]
    exact lit_toList _
  · have e1 : tx (lits L) i = ⟨([] : List UInt8).toArray⟩ := by
      unfold tx
      rw [List.getD_eq_getElem?_getD, List.getElem?_eq_none (by rw [lits_len]; omega)]
      rfl
    rw [e1, lit_toList]
    simp only [txL, List.getD_eq_getElem?_getD, List.getElem?_eq_none (Nat.le_of_not_lt h), Option.getD_none]
def inL (L : List (List UInt8)) (x : List UInt8) (k : Int) : Nat → Bool
  | 0 => false
  | j + 1 => if (txL L j == x) = true then true else if brd (txL L j) k = true then false else inL L x k j
theorem inK_lits (L : List (List UInt8)) (x : ByteArray) (k : Int) : ∀ j, inK (lits L) x k j = inL L x.toList k j
  | 0 => rfl
  | j + 1 => by
    unfold inK inL
    rw [tx_lits, inK_lits L x k j]
def W4 : List (List UInt8) := [[104, 116, 109, 108], [98, 111, 100, 121], [112], [98, 117, 116, 116, 111, 110]]
theorem p_list : (⟨#[112]⟩ : ByteArray).toList = [112] := lit_toList [112]
theorem ex_in3 : inK (lits W4) ⟨#[112]⟩ 3 (lits W4).length = false := by rw [inK_lits, p_list]; decide
theorem ex_in1 : inK (lits W4) ⟨#[112]⟩ 1 (lits W4).length = true := by rw [inK_lits, p_list]; decide
theorem ex_br : isB ⟨#[98, 114]⟩ 1 = true := by
  unfold isB
  rw [hasB_lits, show (⟨#[98, 114]⟩ : ByteArray).toList = [98, 114] from lit_toList [98, 114]]; decide
theorem ex_b : isB ⟨#[98]⟩ 1 = false := by
  unfold isB
  rw [hasB_lits, show (⟨#[98]⟩ : ByteArray).toList = [98] from lit_toList [98]]; decide

set_option maxRecDepth 20000 in
set_option maxHeartbeats 2000000 in
theorem awake12_true (w : World) : Calls Try.prog 9 #[] w fun e w' => e = .returned (.bool true) ∧ Below w.heap.size w w' := by
  have hs : SS (w.heap.size + 1) (w.alloc (.cells #[.string ⟨#[104, 116, 109, 108]⟩, .string ⟨#[98, 111, 100, 121]⟩, .string ⟨#[112]⟩, .string ⟨#[98, 117, 116, 116, 111, 110]⟩] 9)) (.slice (some ⟨w.heap.size, 0, none⟩) 4 4) (lits W4) := ss_new w W4 9 (by decide)
  have hb1 : Below w.heap.size w (w.alloc (.cells #[.string ⟨#[104, 116, 109, 108]⟩, .string ⟨#[98, 111, 100, 121]⟩, .string ⟨#[112]⟩, .string ⟨#[98, 117, 116, 116, 111, 110]⟩] 9)) := (Below.refl _ w).alloc (Nat.le_refl _) _
  have hz1 : (w.alloc (.cells #[.string ⟨#[104, 116, 109, 108]⟩, .string ⟨#[98, 111, 100, 121]⟩, .string ⟨#[112]⟩, .string ⟨#[98, 117, 116, 116, 111, 110]⟩] 9)).heap.size = w.heap.size + 1 := by simp
  have hI1 := in_any (lits W4) _ ⟨#[112]⟩ 3 _ (hs.mono (Nat.le_of_eq hz1.symm)) false ⟨ex_in3⟩
  have HS := Fact.mk hs
  have HB1 := Fact.mk hb1
  have HZ1 := Fact.mk hz1
  have F1 := Fact.mk ex_in1
  have F2 := Fact.mk ex_br
  have F3 := Fact.mk ex_b
  have t1 : True := trivial
  have t2 : True := trivial
  have t3 : True := trivial
  have t4 : True := trivial
  clear hs hb1 hz1
  go_enter Try.func9, Try.ntmps9
  go_wp2_with (first
    | (go_at_call 12; have _t := t1; refine hI1.mono ?_; clear t1 _t hI1; rintro e w2 ⟨rfl, hb⟩; have HB2 := Fact.mk hb; have hs2 := HS.out.below hb (Nat.le_of_eq HZ1.out.symm); have HS2 := Fact.mk (hs2.mono (Nat.le_trans (Nat.le_of_eq HZ1.out.symm) hb.size)); clear hb hs2)
    | (go_at_call 12; have _t := t2; refine (in_any (lits W4) _ ⟨#[112]⟩ 1 _ HS2.out true F1).mono ?_; clear t2 _t; rintro e w3 ⟨rfl, hb⟩; have HB3 := Fact.mk hb; clear hb)
    | (go_at_call 10; have _t := t3; refine (is_any _ 1 _ true F2).mono ?_; clear t3 _t; rintro e w4 ⟨rfl, hb⟩; have HB4 := Fact.mk hb; clear hb)
    | (go_at_call 10; have _t := t4; refine (is_any _ 1 _ false F3).mono ?_; clear t4 _t; rintro e w5 ⟨rfl, hb⟩; have HB5 := Fact.mk hb; clear hb))
  go_ret
  have e2 := HB1.out.trans (HB2.out.mono HB1.out.size)
  have e3 := e2.trans (HB3.out.mono e2.size)
  have e4 := e3.trans (HB4.out.mono e3.size)
  exact ⟨rfl, e4.trans (HB5.out.mono e4.size)⟩

/-- the place of any number among n -/
def pl (v : Int) (n : Nat) : Nat := if v.tmod n < 0 then (v.tmod n + n).toNat else (v.tmod n).toNat
theorem pl_lt (v : Int) (n : Nat) (hn : 0 < n) : pl v n < n := by
  have h2 : v.tmod n < n := Int.tmod_lt_of_pos v (by omega)
  have h3 : -(n : Int) < v.tmod n := by have := Int.lt_tmod_of_pos v (show (0 : Int) < n by omega); omega
  unfold pl
  split <;> omega
set_option maxRecDepth 20000 in
set_option maxHeartbeats 1000000 in
theorem place_pl (v : Int) (n : Nat) (w : World) (hn : 0 < n) (hm : n ≤ 9223372036854775807) :
    Calls Try.prog 19 #[.int .i64 v, .int .i64 n] w fun e w' => e = .returned (.int .i64 (pl v n)) ∧ w' = w := by
  have h1 : -(n : Int) < v.tmod n := by have := Int.lt_tmod_of_pos v (show (0 : Int) < n by omega); omega
  have h2 : v.tmod n < n := Int.tmod_lt_of_pos v (by omega)
  have hn0 : ¬ (n : Int) = 0 := by omega
  have hp : (if v.tmod n < 0 then (v.tmod n + n).toNat else (v.tmod n).toNat) = pl v n := rfl
  have HP := Fact.mk hp
  clear hp
  obtain ⟨t, ht⟩ : ∃ t, v.tmod n = t := ⟨_, rfl⟩
  rw [ht] at h1 h2 HP
  by_cases h3 : t < 0
  · go_enter Try.func19, Try.ntmps19
    go_wp2
    go_ret
    exact ⟨ret_int (by rw [← HP.out, if_pos h3]; omega), rfl⟩
  · go_enter Try.func19, Try.ntmps19
    go_wp2
    go_ret
    exact ⟨ret_int (by rw [← HP.out, if_neg (by omega)]; omega), rfl⟩
/-- Place among so many, the answer named -/
theorem place_ex (v : Int) (n : Nat) (hn : 0 < n) (hm : n ≤ 1000000) : ∃ j : Nat, j < n ∧ ∀ w, Calls Try.prog 19 #[.int .i64 v, .int .i64 n] w fun e w' => e = .returned (.int .i64 j) ∧ w' = w :=
  ⟨pl v n, pl_lt v n hn, fun w => place_pl v n w hn (by omega)⟩
end Go.Proofs.Ytnioibpeagffdaa
