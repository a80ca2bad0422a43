/- Lists of names in memory; slices.Index, slices.Contains, and the document's own Has. -/
import Derived.Test.YtibagbnnplpfgaaDoorNames
import Derived.WalkKit
import Derived.Deep.LoopGhost
import Derived.Handy
import Derived.Below
set_option linter.unusedVariables false
namespace Go.Proofs.YtibagbnnplpfgaaDoor
open Go.RowKit

def tx (l : List ByteArray) (i : Nat) : ByteArray := l.getD i ⟨#[]⟩
theorem tx_get (l : List ByteArray) (i : Nat) (h : i < l.length) : tx l i = l[i] := by simp [tx, h]

/-- names that lie in blocks below n -/
def SS (n : Nat) (w : World) (v : Value) (l : List ByteArray) : Prop :=
  ∃ a cap b o, v = .slice a l.length cap ∧ l.length ≤ cap ∧ cap ≤ maxLen ∧ ∀ i, i < l.length → a = some ⟨b, o, none⟩ ∧ b < n ∧ w.cell? ⟨b, o + i, none⟩ = some (.string (tx l i))
theorem SS.below {n m : Nat} {w w' : World} {v : Value} {l : List ByteArray} (h : SS n w v l) (hb : Below m w w') (hm : n ≤ m) : SS n w' v l := by
  obtain ⟨a, cap, b, o, e, h1, h2, h3⟩ := h
  refine ⟨a, cap, b, o, e, h1, h2, fun i hi => ?_⟩
  obtain ⟨q1, q2, q3⟩ := h3 i hi
  exact ⟨q1, q2, (hb.cell (p := ⟨b, o + i, none⟩) (by show b < _; omega)).trans q3⟩
theorem SS.mono {n m : Nat} {w : World} {v : Value} {l : List ByteArray} (h : SS n w v l) (hm : n ≤ m) : SS m w v l := by
  obtain ⟨a, cap, b, o, e, h1, h2, h3⟩ := h
  exact ⟨a, cap, b, o, e, h1, h2, fun i hi => ⟨(h3 i hi).1, by have := (h3 i hi).2.1; omega, (h3 i hi).2.2⟩⟩
theorem SS.val {n : Nat} {w : World} {v : Value} {l : List ByteArray} (h : SS n w v l) : ∃ a c, v = .slice a l.length c := by
  obtain ⟨a, cap, b, o, e, h1, h2, h3⟩ := h
  exact ⟨a, cap, e⟩

def hasB : List ByteArray → ByteArray → Bool
  | [], _ => false
  | y :: r, x => if (y.toList == x.toList) = true then true else hasB r x
theorem hasB_drop (l : List ByteArray) (x : ByteArray) (i : Nat) (h : i < l.length) : hasB (l.drop i) x = if ((tx l i).toList == x.toList) = true then true else hasB (l.drop (i + 1)) x := by
  rw [List.drop_eq_getElem_cons h, ← tx_get l i h]; rfl
theorem hasB_end (l : List ByteArray) (x : ByteArray) (i : Nat) (h : l.length ≤ i) : hasB (l.drop i) x = false := by
  rw [List.drop_of_length_le h]; rfl
theorem beq_turn (a b : List UInt8) : (a == b) = (b == a) := by
  by_cases h : a = b
  · subst h; rfl
  · rw [beq_eq_false_iff_ne.2 h, beq_eq_false_iff_ne.2 (fun e => h e.symm)]

set_option maxRecDepth 20000 in
set_option maxHeartbeats 1000000 in
theorem index_any (l : List ByteArray) (v : Value) (n : Nat) (w : World) (ha : SS n w v l) (x : ByteArray) (B : Bool) (hV : Fact (hasB l x = B)) :
    Calls Tryd.prog 54 #[v, .string x] w fun e w' => ∃ r : Int, e = .returned (.int .i64 r) ∧ (0 ≤ r ↔ B = true) ∧ w' = w := by
  obtain ⟨a, cap, b, o, rfl, hc1, hm1, h1⟩ := ha
  have H1 := Fact.mk h1
  have HD := Fact.mk (hasB_drop l x)
  have HE := Fact.mk (hasB_end l x)
  obtain ⟨al, hal⟩ : ∃ al, l.length = al := ⟨_, rfl⟩
  rw [hal] at H1 hc1 HD HE ⊢
  clear h1 hal
  unfold maxLen at hm1
  go_enter Tryd.func54, Tryd.ntmps54
  go_wp2_with fail
  go_loop [8] (fun i => ∃ j : Nat, j ≤ al ∧ i = .int .i64 j ∧ Fact (hasB (l.drop j) x = B)) (fun i => al - (intOf i).toNat)
  case atStart => exact ⟨0, Nat.zero_le _, rfl, hV⟩
  case round =>
    obtain ⟨j, hj, rfl, hf⟩ := hrel
    by_cases hlt : j < al
    · obtain ⟨ea, _, y0⟩ := H1.out j hlt
      have hd := HD.out j hlt
      subst ea
      obtain ⟨N', hp⟩ : ∃ p, tx l j = p := ⟨_, rfl⟩
      rw [hp] at y0 hd
      rw [hf.out, beq_turn] at hd
      clear hp H1 HD HE hf hV
      cases ht : (x.toList == N'.toList)
      · rw [ht, if_neg (by simp)] at hd
        have HN := Fact.mk hd.symm
        clear hd
        go_wp2_with fail
        go_round
        case rel => exact ⟨j + 1, by omega, by go_num, HN⟩
        case measure => simp [intOf]; omega
      · rw [ht, if_pos rfl] at hd
        have HN := Fact.mk hd
        clear hd
        go_wp2_with fail
        go_ret
        exact ⟨_, rfl, ⟨fun _ => HN.out, fun _ => Int.natCast_nonneg _⟩, rfl⟩
    · have HN := Fact.mk (hf.out.symm.trans (HE.out j (by omega)))
      clear H1 HD HE hf hV
      go_wp2_with fail
      go_ret
      exact ⟨_, rfl, ⟨fun h => by omega, fun h => by rw [HN.out] at h; cases h⟩, rfl⟩

set_option maxHeartbeats 1000000 in
theorem contains_any (l : List ByteArray) (v : Value) (n : Nat) (w : World) (ha : SS n w v l) (x : ByteArray) (B : Bool) (hV : Fact (hasB l x = B)) :
    Calls Tryd.prog 52 #[v, .string x] w fun e w' => e = .returned (.bool B) ∧ w' = w := by
  obtain ⟨a, c, e⟩ := ha.val
  subst e
  have hI := index_any l _ n w ha x B hV
  clear hV ha
  go_enter Tryd.func52, Tryd.ntmps52
  go_wp2_with (go_at_call 54; refine hI.mono ?_; rintro e w1 ⟨r, rfl, hr, rfl⟩; have HR := Fact.mk hr; clear hr)
  go_ret
  refine ⟨ret_bool ?_, rfl⟩
  rw [Bool.eq_iff_iff]
  simpa using HR.out

set_option maxRecDepth 20000 in
set_option maxHeartbeats 1000000 in
theorem rHas_any (l : List ByteArray) (v : Value) (n : Nat) (w : World) (ha : SS n w v l) (x : ByteArray) (B : Bool) (hV : Fact (hasB l x = B)) :
    Calls Tryd.prog 43 #[v, .string x] w fun e w' => e = .returned (.bool B) ∧ w' = w := by
  obtain ⟨a, cap, b, o, rfl, hc1, hm1, h1⟩ := ha
  have H1 := Fact.mk h1
  have HD := Fact.mk (hasB_drop l x)
  have HE := Fact.mk (hasB_end l x)
  obtain ⟨al, hal⟩ : ∃ al, l.length = al := ⟨_, rfl⟩
  rw [hal] at H1 hc1 HD HE ⊢
  clear h1 hal
  unfold maxLen at hm1
  go_enter Tryd.func43, Tryd.ntmps43
  go_wp2_with fail
  go_loop [5] (fun i => ∃ j : Nat, j ≤ al ∧ i = .int .i64 j ∧ Fact (hasB (l.drop j) x = B)) (fun i => al - (intOf i).toNat)
  case atStart => exact ⟨0, Nat.zero_le _, rfl, hV⟩
  case round =>
    obtain ⟨j, hj, rfl, hf⟩ := hrel
    by_cases hlt : j < al
    · obtain ⟨ea, _, y0⟩ := H1.out j hlt
      have hd := HD.out j hlt
      subst ea
      obtain ⟨N', hp⟩ : ∃ p, tx l j = p := ⟨_, rfl⟩
      rw [hp] at y0 hd
      rw [hf.out] at hd
      clear hp H1 HD HE hf hV
      cases ht : (N'.toList == x.toList)
      · rw [ht, if_neg (by simp)] at hd
        have HN := Fact.mk hd.symm
        clear hd
        go_wp2_with fail
        go_round
        case rel => exact ⟨j + 1, by omega, by go_num, HN⟩
        case measure => simp [intOf]; omega
      · rw [ht, if_pos rfl] at hd
        have HN := Fact.mk hd.symm
        clear hd
        go_wp2_with fail
        go_ret
        exact ⟨ret_bool HN.out, rfl⟩
    · have HN := Fact.mk ((HE.out j (by omega)).symm.trans hf.out)
      clear H1 HD HE hf hV
      go_wp2_with fail
      go_ret
      exact ⟨ret_bool HN.out, rfl⟩
end Go.Proofs.YtibagbnnplpfgaaDoor
