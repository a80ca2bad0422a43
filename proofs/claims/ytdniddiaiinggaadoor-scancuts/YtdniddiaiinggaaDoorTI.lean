/- HasSuffix, CutSuffix, withoutCutEnd: what they answer. -/
import Derived.Test.YtdniddiaiinggaaDoorTD
import Derived.Handy
set_option linter.unusedVariables false
namespace Go.Proofs.YtdniddiaiinggaaDoor
open Go.RowKit M

/-- ends a text so? -/
def sufB (t p : List UInt8) : Bool := decide (p.length ≤ t.length) && (t.drop (t.length - p.length) == p)
theorem sufB_ext (s p : ByteArray) (h : p.size ≤ s.size) : ((s.extract (s.size - p.size) s.size).toList == p.toList) = sufB s.data.toList p.data.toList := by
  unfold sufB
  rw [← Lib.size_eq, ← Lib.size_eq, decide_eq_true h, Bool.true_and, Lib.toList_data, Lib.toList_data, drop_data]
theorem sufB_no {s p : ByteArray} (h : s.size < p.size) : sufB s.data.toList p.data.toList = false := by
  unfold sufB
  rw [← Lib.size_eq, ← Lib.size_eq, decide_eq_false (by omega), Bool.false_and]
set_option maxRecDepth 20000 in
set_option maxHeartbeats 1000000 in
theorem suf_any (s p : ByteArray) (b : Bool) (hs : IsSm s.size) (hb : Fact (sufB s.data.toList p.data.toList = b)) (w : World) : Calls Tryd.prog 114 #[.string s, .string p] w fun e w' => e = .returned (.bool b) ∧ w' = w := by
  obtain ⟨hb⟩ := hb
  have hsz := hs.le
  by_cases h : p.size ≤ s.size
  · rw [← sufB_ext s p h] at hb
    have h1 : (p.size : Int) ≤ s.size := by omega
    have q1 : decide ((p.size : Int) ≤ s.size) = true := decide_eq_true h1
    have hw : wrap64 ((s.size : Int) - p.size) = (s.size : Int) - p.size := by simp [wrap64]; omega
    have e1 : ((s.size : Int) - p.size).toNat = s.size - p.size := by omega
    have h2 : (0 : Int) ≤ (s.size : Int) - p.size := by omega
    have h3 : (s.size : Int) - p.size ≤ s.size := by omega
    go_enter Tryd.func114, Tryd.ntmps114
    go_wp2
    go_ret
    first | exact ⟨rfl, rfl⟩ | exact ⟨ret_bool hb, rfl⟩
  · rw [sufB_no (by omega)] at hb
    subst hb
    have h1 : (s.size : Int) < p.size := by omega
    have q1 : decide ((p.size : Int) ≤ s.size) = false := decide_eq_false (by omega)
    go_enter Tryd.func114, Tryd.ntmps114
    go_wp2
    go_ret
    exact ⟨rfl, rfl⟩
theorem sufB_le {s p : ByteArray} (h : sufB s.data.toList p.data.toList = true) : p.size ≤ s.size := by
  by_cases h2 : p.size ≤ s.size
  · exact h2
  · rw [sufB_no (by omega)] at h
    cases h
set_option maxRecDepth 20000 in
set_option maxHeartbeats 1000000 in
theorem lcutS_any (s p W : ByteArray) (b : Bool) (hs : IsSm s.size) (hb : Fact (sufB s.data.toList p.data.toList = b)) (hW : Fact ((if b = true then s.extract 0 (s.size - p.size) else s) = W)) (w : World) : Calls Tryd.prog 101 #[.string s, .string p] w fun e w' => e = .returned (.tuple #[.string W, .bool b]) ∧ w' = w := by
  obtain ⟨hW⟩ := hW
  have hsz := hs.le
  cases b
  · rw [if_neg (by simp)] at hW
    subst hW
    go_enter Tryd.func101, Tryd.ntmps101
    go_wp2_with (go_at_call 114; refine (suf_any s p _ hs hb _).mono ?_; rintro e w1 ⟨rfl, rfl⟩)
    go_ret2
    exact ⟨rfl, rfl⟩
  · rw [if_pos rfl] at hW
    have hle := sufB_le hb.out
    have h1 : (p.size : Int) ≤ s.size := by omega
    have hw : wrap64 ((s.size : Int) - p.size) = (s.size : Int) - p.size := by simp [wrap64]; omega
    have e1 : ((s.size : Int) - p.size).toNat = s.size - p.size := by omega
    have h2 : (0 : Int) ≤ (s.size : Int) - p.size := by omega
    have h3 : (s.size : Int) - p.size ≤ s.size := by omega
    go_enter Tryd.func101, Tryd.ntmps101
    go_wp2_with (go_at_call 114; refine (suf_any s p _ hs hb _).mono ?_; rintro e w1 ⟨rfl, rfl⟩)
    go_ret2
    exact ⟨rfl, rfl⟩
set_option maxRecDepth 20000 in
theorem cutS_any (s p W : ByteArray) (b : Bool) (hs : IsSm s.size) (hb : Fact (sufB s.data.toList p.data.toList = b)) (hW : Fact ((if b = true then s.extract 0 (s.size - p.size) else s) = W)) (w : World) : Calls Tryd.prog 94 #[.string s, .string p] w fun e w' => e = .returned (.tuple #[.string W, .bool b]) ∧ w' = w := by
  go_enter Tryd.func94, Tryd.ntmps94
  go_wp2_with (go_at_call 101; refine (lcutS_any s p W b hs hb hW _).mono ?_; rintro e w1 ⟨rfl, rfl⟩)
  go_ret2
  exact ⟨rfl, rfl⟩
/-- a comment's text without what would have begun its end -/
def wce (t : List UInt8) : List UInt8 :=
  if sufB t [45, 45, 33] = true then t.take (t.length - 3) else if sufB t [45, 45] = true then t.take (t.length - 2) else if sufB t [45] = true then t.take (t.length - 1) else t
theorem take_ext (s : ByteArray) (n : Nat) : (s.extract 0 (s.size - n)).data.toList = s.data.toList.take (s.data.toList.length - n) := by
  have := Lib.extract_toList s 0 (s.size - n)
  rw [Lib.toList_data] at this
  rw [this, List.drop_zero, Nat.sub_zero, ← Lib.size_eq]
theorem tx_ext {a b : ByteArray} (h : a.data.toList = b.data.toList) : a = b := by
  apply ByteArray.ext
  apply Array.toList_inj.1
  exact h
set_option maxRecDepth 20000 in
set_option maxHeartbeats 2000000 in
theorem wce_any (s T : ByteArray) (hs : IsSm s.size) (hT : Fact (wce s.data.toList = T.data.toList)) (w : World) : Calls Tryd.prog 85 #[.string s] w fun e w' => e = .returned (.string T) ∧ Below w.heap.size w w' := by
  obtain ⟨b1, h1⟩ : ∃ b, Fact (sufB s.data.toList (⟨#[45, 45, 33]⟩ : ByteArray).data.toList = b) := ⟨_, ⟨rfl⟩⟩
  obtain ⟨b2, h2⟩ : ∃ b, Fact (sufB s.data.toList (⟨#[45, 45]⟩ : ByteArray).data.toList = b) := ⟨_, ⟨rfl⟩⟩
  obtain ⟨b3, h3⟩ : ∃ b, Fact (sufB s.data.toList (⟨#[45]⟩ : ByteArray).data.toList = b) := ⟨_, ⟨rfl⟩⟩
  have hv := hT.out
  unfold wce at hv
  rw [show sufB s.data.toList [45, 45, 33] = b1 from h1.out, show sufB s.data.toList [45, 45] = b2 from h2.out, show sufB s.data.toList [45] = b3 from h3.out] at hv
  clear hT
  have tok1 : True := trivial
  have tok2 : True := trivial
  cases b1
  · cases b2
    · cases b3
      · have e : s = T := tx_ext hv
        subst e
        clear hv
        go_enter Tryd.func85, Tryd.ntmps85
        go_wp2_with fail
        refine wp_loop_rounds 4 ?_
        repeat (rw [rounds_succ]; go_wp2_with (first
          | (have _t := tok1; go_at_call 94; refine (cutS_any s ⟨#[45, 45, 33]⟩ s false hs h1 ⟨rfl⟩ _).mono ?_; rintro e w1 ⟨rfl, rfl⟩; clear tok1 _t)
          | (have _t := tok2; go_at_call 94; refine (cutS_any s ⟨#[45, 45]⟩ s false hs h2 ⟨rfl⟩ _).mono ?_; rintro e w1 ⟨rfl, rfl⟩; clear tok2 _t)
          | (go_at_call 94; refine (cutS_any s ⟨#[45]⟩ s false hs h3 ⟨rfl⟩ _).mono ?_; rintro e w1 ⟨rfl, rfl⟩)))
        go_ret
        exact ⟨rfl, bl1 _ _⟩
      · have e : s.extract 0 (s.size - 1) = T := tx_ext ((take_ext s 1).trans hv)
        have hW : Fact ((if true = true then s.extract 0 (s.size - (⟨#[45]⟩ : ByteArray).size) else s) = T) := ⟨e⟩
        clear hv e
        go_enter Tryd.func85, Tryd.ntmps85
        go_wp2_with fail
        refine wp_loop_rounds 4 ?_
        repeat (rw [rounds_succ]; go_wp2_with (first
          | (have _t := tok1; go_at_call 94; refine (cutS_any s ⟨#[45, 45, 33]⟩ s false hs h1 ⟨rfl⟩ _).mono ?_; rintro e w1 ⟨rfl, rfl⟩; clear tok1 _t)
          | (have _t := tok2; go_at_call 94; refine (cutS_any s ⟨#[45, 45]⟩ s false hs h2 ⟨rfl⟩ _).mono ?_; rintro e w1 ⟨rfl, rfl⟩; clear tok2 _t)
          | (go_at_call 94; refine (cutS_any s ⟨#[45]⟩ T true hs h3 hW _).mono ?_; rintro e w1 ⟨rfl, rfl⟩)))
        go_ret
        exact ⟨rfl, bl1 _ _⟩
    · have e : s.extract 0 (s.size - 2) = T := tx_ext ((take_ext s 2).trans hv)
      have hW : Fact ((if true = true then s.extract 0 (s.size - (⟨#[45, 45]⟩ : ByteArray).size) else s) = T) := ⟨e⟩
      clear hv e
      go_enter Tryd.func85, Tryd.ntmps85
      go_wp2_with fail
      refine wp_loop_rounds 4 ?_
      repeat (rw [rounds_succ]; go_wp2_with (first
        | (have _t := tok1; go_at_call 94; refine (cutS_any s ⟨#[45, 45, 33]⟩ s false hs h1 ⟨rfl⟩ _).mono ?_; rintro e w1 ⟨rfl, rfl⟩; clear tok1 _t)
        | (go_at_call 94; refine (cutS_any s ⟨#[45, 45]⟩ T true hs h2 hW _).mono ?_; rintro e w1 ⟨rfl, rfl⟩)))
      go_ret
      exact ⟨rfl, bl1 _ _⟩
  · have e : s.extract 0 (s.size - 3) = T := tx_ext ((take_ext s 3).trans hv)
    have hW : Fact ((if true = true then s.extract 0 (s.size - (⟨#[45, 45, 33]⟩ : ByteArray).size) else s) = T) := ⟨e⟩
    clear hv e
    go_enter Tryd.func85, Tryd.ntmps85
    go_wp2_with fail
    refine wp_loop_rounds 4 ?_
    repeat (rw [rounds_succ]; go_wp2_with (go_at_call 94; refine (cutS_any s ⟨#[45, 45, 33]⟩ T true hs h1 hW _).mono ?_; rintro e w1 ⟨rfl, rfl⟩))
    go_ret
    exact ⟨rfl, bl1 _ _⟩
end Go.Proofs.YtdniddiaiinggaaDoor
