/- The document's example. -/
import Derived.Test.YtjlijpaefdbohaaDoorGA
set_option linter.unusedVariables false
set_option linter.unusedSimpArgs false
namespace Go.Proofs.YtjlijpaefdbohaaDoor
open Go.RowKit

theorem Tn.below {w w' : World} {B p mb c c' : Nat} {v : Value} {L L' : List It} (hF : FL w B p L v mb c) (h : Tn w w' B p mb v L' c') : ∃ v', FL w' B p L' v' mb c' ∧ Below B w w' := by
  obtain ⟨v', f, k, o⟩ := h.out
  exact ⟨v', f, k.below hF.ge (Nat.le_trans hF.at'.1 (Nat.le_of_lt (hF.lt p (.inl rfl))))⟩
theorem nil_row (w : World) : RowOn w (.slice none 0 0) ([] : List (ByteArray × ByteArray)).length 2 (rowA []) := RowOn.nothing w 2
theorem is_nat (n : Nat) (h : n ≤ 1000000) : Is64 (n : Int) := ⟨WalkArith.wf_i64 (by omega)⟩
theorem ky_ok (m : Nat) (nm : ByteArray) (hm : m ≤ 1000000) (hn : nm.size ≤ 100) : Ky.Ok ⟨(m : Int), nm, []⟩ := ⟨is_nat m hm, by show nm.size ≤ maxLen; unfold maxLen; omega, by simp, by simp⟩
def tB : ByteArray := ⟨#[98]⟩
theorem sg_end {T : List It} {M : Int} {nm : ByteArray} {ats : List (ByteArray × ByteArray)} (h : Sg [] T M nm ats 4 4) : T.length = 3 ∧ plc T 1 = -1 ∧ ∃ y, laF T nm T.length = some y ∧ y.id = 4 := by
  have hl : T.length = 3 := h.len
  have hids := h.ids
  match T, hl, h, hids with
  | [x2, x3, x4], _, h, hids =>
    simp [List.range_succ] at hids
    obtain ⟨i2, i3, i4⟩ := hids
    refine ⟨rfl, plc_no 1 _ (fun x hx => ?_), x4, ?_, i4⟩
    · simp only [List.mem_cons, List.not_mem_nil, or_false] at hx
      rcases hx with rfl | rfl | rfl
      · exact .inr (by rw [i2]; decide)
      · exact .inr (by rw [i3]; decide)
      · exact .inr (by rw [i4]; decide)
    · have h4 := h.t x4 (by simp)
      have e := laF_snoc [x2, x3] x4 nm
      rw [h4.1, if_neg (by simp), h4.2.2.1, if_pos (by simp)] at e
      exact e

theorem la_some {y : It} {id : Int} {nm : ByteArray} {ok : Bool} (h : LaR (some y) id nm ok) : id = y.id ∧ ok = true := by
  rcases h with ⟨e, _⟩ | ⟨z, e, e1, _, e3⟩
  · cases e
  · cases e; exact ⟨e1, e3⟩
theorem la_ok {R : Option It} {id : Int} {nm : ByteArray} {ok : Bool} (h : LaR R id nm ok) : ok = R.isSome := by
  rcases h with ⟨e, _, _, e3⟩ | ⟨z, e, e1, _, e3⟩ <;> rw [e, e3] <;> rfl

set_option maxRecDepth 20000 in
set_option maxHeartbeats 2000000 in
theorem awake_true (w : World) : Calls Tryd.prog 8 #[] w fun e w' => e = .returned (.bool true) ∧ Below w.heap.size w w' := by
  have HNEW := Fact.mk (new_any w)
  have hsz : tB.size ≤ 100 := by decide
  go_enter Tryd.func8, Tryd.ntmps8
  go_wp2_with (go_at_call 7; refine HNEW.out.mono ?_; rintro e w1 ⟨rfl, hf1, hb1⟩; have HF1 := Fact.mk hf1; have HB1 := Fact.mk hb1; clear hf1 hb1)
  go_loopw [2] (fun i wx => ∃ j : Nat, j ≤ 4 ∧ i = .int .i64 ((j : Int) + 1) ∧ Fact (∃ T v, FL wx w.heap.size (w.heap.size + 1) T v w.heap.size (2 * j) ∧ Sg [] T 0 tB [] j j ∧ Below w.heap.size w wx)) (fun i _ => 6 - (intOf i).toNat)
  case atStart => exact ⟨0, by omega, rfl, ⟨[], _, HF1.out, ⟨by simp, by simp, by simp, rfl, Nat.le_refl _⟩, HB1.out⟩⟩
  case round =>
    rename World => wx
    obtain ⟨j, hj, rfl, hI⟩ := hrel
    obtain ⟨T, v, hf, hs, hb⟩ := hI.out
    by_cases hlt : j < 4
    · have hpu := push_any ([] ++ T) ([] ++ lft T j) w.heap.size (w.heap.size + 1) w.heap.size (2 * j) v wx ((j + 1 : Nat) : Int) tB [] (.slice none 0 0) hf (nil_row wx) (fun k e => by cases e) (is_nat _ (by omega)) (by rw [hs.ms]; exact ky_ok 0 tB (by omega) hsz) (by rw [hs.ms1]; exact ky_ok 0 tB (by omega) hsz) (by rw [hs.ms]; exact hs.left) (by have := hs.len; simp; omega) (by omega)
      rw [hs.ms1] at hpu
      have e1 : ((j + 1 : Nat) : Int) = (j : Int) + 1 := by omega
      have HP : Fact (Calls Tryd.prog 24 #[.pointer (some ⟨w.heap.size + 1, 0, none⟩), .agg #[.int .i64 ((j : Int) + 1), .string ⟨#[98]⟩, .slice none 0 0]] wx fun e w' => e = .returned (.tuple #[]) ∧ ∃ T v, FL w' w.heap.size (w.heap.size + 1) T v w.heap.size (2 * (j + 1)) ∧ Sg [] T 0 tB [] (j + 1) (j + 1) ∧ Below w.heap.size w w') := ⟨by
        rw [← e1]
        refine hpu.mono ?_
        rintro e w' ⟨rfl, av', ht⟩
        obtain ⟨v', f', b'⟩ := ht.below hf
        exact ⟨rfl, _, v', f', hs.push av', hb.trans b'⟩⟩
      have hjI : (j : Int) + 1 ≤ 4 := by omega
      clear hpu hf hs hb hI
      go_wp2_with (go_at_call 24; refine HP.out.mono ?_; rintro e w2 ⟨rfl, h2⟩; have H2 := Fact.mk h2; clear h2)
      go_roundw
      case rel => exact ⟨j + 1, by omega, by go_num, H2⟩
      case measure => simp [intOf]; omega
    · obtain rfl : j = 4 := by omega
      obtain ⟨q1, q2, y, q3, q4⟩ := sg_end hs
      have HLA := Fact.mk (last_any T w.heap.size (w.heap.size + 1) w.heap.size (2 * 4) v wx tB hf (some y) ⟨q3⟩)
      have HF := Fact.mk hf
      have HB := Fact.mk hb
      have Q1 := Fact.mk q1
      have Q2 := Fact.mk q2
      have Q4 := Fact.mk q4
      clear hf hs hb hI q1 q2 q3 q4
      go_wp2_with (first
        | (go_at_call 15; refine HLA.out.mono ?_; rintro e w2 ⟨id, nm, la, ln, lk, ok, rfl, hR, hb2⟩; obtain ⟨e5, e6⟩ := la_some hR; rw [Q4.out] at e5; subst e5 e6; have HB2 := Fact.mk hb2; clear hb2 hR)
        | (go_at_call 29; refine (len_any T w.heap.size (w.heap.size + 1) w.heap.size (2 * 4) v _ (HF.out.below (HB2.out.alloc HB2.out.size _) (Nat.le_refl _))).mono ?_; rintro e w3 ⟨rfl, e3⟩; have e3' := e3.symm; subst e3'; rw [Q1.out])
        | (go_at_call 27; refine (place_any T w.heap.size (w.heap.size + 1) w.heap.size (2 * 4) v _ 1 (HF.out.below (HB2.out.alloc HB2.out.size _) (Nat.le_refl _)) (-1) Q2).mono ?_; rintro e w4 ⟨rfl, hb4⟩; have HB4 := Fact.mk hb4; clear hb4))
      go_ret
      exact ⟨rfl, HB.out.trans (((HB2.out.alloc HB2.out.size _).trans (HB4.out.mono (HB2.out.alloc HB2.out.size _).size)).mono HB.out.size)⟩
end Go.Proofs.YtjlijpaefdbohaaDoor
