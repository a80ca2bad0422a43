/- CutSuffix at the end of a name, and the signs of an entry. -/
import Derived.Test.YtdniddiaiinggaaDoorNames
import Derived.Lib.Strings
import Derived.Lib.OthersKept
namespace Go.Proofs.YtdniddiaiinggaaDoor
open Go.RowKit M

theorem ret_bool {a b : Bool} (h : a = b) : Ending.returned (.bool a) = .returned (.bool b) := by rw [h]
theorem ret_str {a b : ByteArray} (h : a = b) : Ending.returned (.string a) = .returned (.string b) := by rw [h]
structure IsLen (n : Nat) : Prop where
  le : n ≤ 9223372036854775807
theorem IsLen.sub1 {n : Nat} (h : IsLen n) : wrap64 ((n : Int) - 1) = (n : Int) - 1 := by
  have := h.le
  simp [wrap64]
  omega
theorem suf_hit (s : ByteArray) (h : 1 ≤ s.size) : ((s.extract (s.size - 1) s.size).toList == [59]) = ends s.data.toList := by
  unfold ends
  rw [Bool.eq_iff_iff, beq_iff_eq, decide_eq_true_eq, Lib.extract_toList, List.getLast?_eq_getElem?, ← Lib.size_eq]
  have e : s.data.toList.length = s.size := (Lib.size_eq s).symm
  obtain ⟨x, hx⟩ : ∃ x, s.data.toList[s.size - 1]? = some x := ⟨_, List.getElem?_eq_getElem (by rw [e]; omega)⟩
  have e1 : s.size - (s.size - 1) = 0 + 1 := by omega
  have e2 : (s.data.toList.drop (s.size - 1))[0]? = some x := by rw [List.getElem?_drop]; exact hx
  rw [e1, List.take_add_one, e2, hx]
  simp
theorem suf_miss (s : ByteArray) (h : ¬ 1 ≤ s.size) : false = ends s.data.toList := by
  have e : s.data.toList = [] := List.eq_nil_of_length_eq_zero (by rw [← Lib.size_eq]; omega)
  rw [e]; rfl

set_option maxRecDepth 20000 in
theorem hasSuffix_any (s : ByteArray) (hs : IsLen s.size) (w : World) : Calls Tryd.prog 114 #[.string s, .string ⟨#[59]⟩] w fun e w' => e = .returned (.bool (ends s.data.toList)) ∧ w' = w := by
  have hw := hs.sub1
  by_cases h : 1 ≤ s.size
  · have h1 : (0 : Int) ≤ (s.size : Int) - 1 := by omega
    have h2 : (s.size : Int) - 1 ≤ s.size := by omega
    go_enter Tryd.func114, Tryd.ntmps114
    go_wp2
    go_ret
    exact ⟨ret_bool (suf_hit s h), rfl⟩
  · go_enter Tryd.func114, Tryd.ntmps114
    go_wp2
    go_ret
    exact ⟨ret_bool (suf_miss s h), rfl⟩
theorem hasSuffix_at (s : ByteArray) (hs : IsLen s.size) (b : Bool) (hb : Fact (ends s.data.toList = b)) (w : World) : Calls Tryd.prog 114 #[.string s, .string ⟨#[59]⟩] w fun e w' => e = .returned (.bool b) ∧ w' = w := by
  have := hasSuffix_any s hs w
  rw [hb.out] at this
  exact this
theorem word_cut {s : ByteArray} (h : ends s.data.toList = true) : s.extract 0 (s.size - 1) = ⟨(word s.data.toList).toArray⟩ := by
  apply ByteArray.ext
  apply Array.toList_inj.1
  have := Lib.extract_toList s 0 (s.size - 1)
  rw [Lib.toList_data] at this
  rw [this, List.drop_zero, word, if_pos h, List.dropLast_eq_take, ← Lib.size_eq]
  rfl
theorem word_whole {s : ByteArray} (h : ends s.data.toList = false) : s = ⟨(word s.data.toList).toArray⟩ := by
  rw [word_no h]

set_option maxRecDepth 20000 in
theorem cut_in (s W : ByteArray) (b : Bool) (hs : IsLen s.size) (hb : Fact (ends s.data.toList = b)) (hW : Fact ((⟨(word s.data.toList).toArray⟩ : ByteArray) = W)) (w : World) :
    Calls Tryd.prog 101 #[.string s, .string ⟨#[59]⟩] w fun e w' => e = .returned (.tuple #[.string W, .bool b]) ∧ w' = w := by
  have hw := hs.sub1
  cases b
  · go_enter Tryd.func101, Tryd.ntmps101
    go_wp2_with (go_at_call 114; refine (hasSuffix_at s hs _ hb _).mono ?_; rintro e w1 ⟨rfl, rfl⟩)
    go_ret2
    exact ⟨by rw [← hW.out, ← word_whole hb.out]; rfl, rfl⟩
  · have hp : 1 ≤ s.size := by
      by_cases h : 1 ≤ s.size
      · exact h
      · exact absurd (suf_miss s h) (by rw [hb.out]; simp)
    have h1 : (0 : Int) ≤ (s.size : Int) - 1 := by omega
    have h2 : (s.size : Int) - 1 ≤ s.size := by omega
    go_enter Tryd.func101, Tryd.ntmps101
    go_wp2_with (go_at_call 114; refine (hasSuffix_at s hs _ hb _).mono ?_; rintro e w1 ⟨rfl, rfl⟩)
    go_ret2
    exact ⟨by rw [← hW.out, ← word_cut hb.out]; rfl, rfl⟩
set_option maxRecDepth 20000 in
theorem cut_any (s W : ByteArray) (b : Bool) (hs : IsLen s.size) (hb : Fact (ends s.data.toList = b)) (hW : Fact ((⟨(word s.data.toList).toArray⟩ : ByteArray) = W)) (w : World) :
    Calls Tryd.prog 94 #[.string s, .string ⟨#[59]⟩] w fun e w' => e = .returned (.tuple #[.string W, .bool b]) ∧ w' = w := by
  go_enter Tryd.func94, Tryd.ntmps94
  go_wp2_with (go_at_call 101; refine (cut_in s W b hs hb hW _).mono ?_; rintro e w1 ⟨rfl, rfl⟩)
  go_ret2
  exact ⟨rfl, rfl⟩
theorem enc_size (r : Int) : (Utf8.encode r).size ≤ 4 := by
  unfold Utf8.encode
  simp only []
  repeat' split
  all_goals simp [ByteArray.size]
theorem txt_one (a : Int) : (⟨(txt a 0).toArray⟩ : ByteArray) = Utf8.encode a := rfl
theorem txt_two (a b : Int) (h : b ≠ 0) : (⟨(txt a b).toArray⟩ : ByteArray) = Utf8.encode a ++ Utf8.encode b := by
  unfold txt
  rw [if_neg h]
  apply ByteArray.ext
  rw [ByteArray.data_append]
  simp [en]

set_option maxRecDepth 20000 in
theorem text_any (a b : Int) (c : Bool) (w : World) : Calls Tryd.prog 102 #[.agg #[.int .i32 a, .int .i32 b, .bool c]] w fun e w' => e = .returned (.string ⟨(txt a b).toArray⟩) ∧ Below w.heap.size w w' := by
  by_cases h : b = 0
  · subst h
    rw [txt_one]
    go_enter Tryd.func102, Tryd.ntmps102
    go_wp2
    go_ret
    exact ⟨rfl, (Below.refl _ w).alloc (Nat.le_refl _) _⟩
  · rw [txt_two a b h]
    have hb : (b == 0) = false := beq_eq_false_iff_ne.2 h
    have hz : ¬ 9223372036854775807 < (Utf8.encode a).size + (Utf8.encode b).size := by have := enc_size a; have := enc_size b; omega
    go_enter Tryd.func102, Tryd.ntmps102
    go_wp2
    go_ret
    exact ⟨rfl, (Below.refl _ w).alloc (Nat.le_refl _) _⟩
theorem text_at (a b : Int) (c : Bool) (E : ByteArray) (hE : Fact ((⟨(txt a b).toArray⟩ : ByteArray) = E)) (w : World) : Calls Tryd.prog 102 #[.agg #[.int .i32 a, .int .i32 b, .bool c]] w fun e w' => e = .returned (.string E) ∧ Below w.heap.size w w' := by
  have := text_any a b c w
  rw [hE.out] at this
  exact this
end Go.Proofs.YtdniddiaiinggaaDoor
