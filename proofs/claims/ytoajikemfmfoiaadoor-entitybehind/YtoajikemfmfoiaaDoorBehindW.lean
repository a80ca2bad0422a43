/- The walk of EntityBehind: it returns true. -/
import Derived.Test.YtoajikemfmfoiaaDoorNamesL
namespace Go.Proofs.YtoajikemfmfoiaaDoor
open Go.RowKit M

set_option maxRecDepth 20000 in
theorem place_any (v : Int) : ∃ j : Nat, j < 52 ∧ ∀ w, Calls Tryd.prog 16 #[.int .i64 v, .int .i64 52] w fun e w' => e = .returned (.int .i64 j) ∧ w' = w := by
  have h1 : -52 < v.tmod 52 := by have := Int.lt_tmod_of_pos v (show (0 : Int) < 52 by decide); omega
  have h2 : v.tmod 52 < 52 := Int.tmod_lt_of_pos v (by decide)
  obtain ⟨r, hr⟩ : ∃ r, v.tmod 52 = r := ⟨_, rfl⟩
  rw [hr] at h1 h2
  have hw : wrap64 r = r := by unfold wrap64; omega
  by_cases h : r < 0
  · refine ⟨(r + 52).toNat, by omega, fun w => ?_⟩
    have e : (((r + 52).toNat : Nat) : Int) = r + 52 := by omega
    rw [e]
    go_enter Tryd.func16, Tryd.ntmps16
    go_wp2
    go_ret
    exact ⟨rfl, rfl⟩
  · refine ⟨r.toNat, by omega, fun w => ?_⟩
    have e : ((r.toNat : Nat) : Int) = r := by omega
    rw [e]
    go_enter Tryd.func16, Tryd.ntmps16
    go_wp2
    go_ret
    exact ⟨rfl, rfl⟩

set_option maxRecDepth 20000 in
set_option maxHeartbeats 1000000 in
theorem behind_early (v : Int) (a b : ByteArray) (h : 500 < a.size ∨ 500 < b.size) (w : World) (hl : Laid w) :
    Calls Tryd.prog 6 #[.int .i64 v, .string a, .string b] w fun e w' => e = .returned (.bool true) ∧ Below w.heap.size w w' := by
  by_cases ha : 500 < a.size
  · clear h
    go_enter Tryd.func6, Tryd.ntmps6
    go_wp2_with (go_at_call 13; refine (awake_true _ hl).mono ?_; rintro e w5 ⟨rfl, hb5⟩)
    go_ret
    exact ⟨rfl, hb5⟩
  · have hb : 500 < b.size := by omega
    clear h
    go_enter Tryd.func6, Tryd.ntmps6
    go_wp2_with (go_at_call 13; refine (awake_true _ hl).mono ?_; rintro e w5 ⟨rfl, hb5⟩)
    go_ret
    exact ⟨rfl, hb5⟩

/-- what the law asks of a name with its end, something ahead and something behind -/
structure Beh (Nm a b W : ByteArray) (N : Nat) : Prop where
  semi : amongB (Nm ++ ⟨#[59]⟩).data.toList = (W.data.toList, true)
  long : longB (a ++ (Nm ++ ⟨#[59]⟩) ++ b).data.toList a.size = (N, W.data.toList)
  len : N = Nm.size + 1
  six : Nm.size ≤ 6
theorem beh_of {e : List UInt8 × Int × Bool} (he : e ∈ Rf) (a b : ByteArray) : ∃ W N, Beh ⟨e.1.toArray⟩ a b W N := by
  obtain ⟨nm, sg, c⟩ := e
  have hz : (⟨nm.toArray⟩ : ByteArray).size = nm.length := Lib.size_eq _
  refine ⟨⟨(en sg).toArray⟩, nm.length + 1, ⟨?_, ?_, by rw [hz], by rw [hz]; exact (ref_mem he).2.2⟩⟩
  · rw [ba_app]; exact ref_among he
  · rw [ba_app, ba_app, ba_app, Lib.size_eq a]
    exact long_behind he

set_option maxRecDepth 20000 in
set_option maxHeartbeats 4000000 in
theorem behind_main (v : Int) (a b : ByteArray) (ha : ¬ 500 < a.size) (hb : ¬ 500 < b.size) (w : World) (hl : Laid w) :
    Calls Tryd.prog 6 #[.int .i64 v, .string a, .string b] w fun e w' => e = .returned (.bool true) ∧ Below w.heap.size w w' := by
  have HL := Fact.mk hl
  clear hl
  obtain ⟨j, hj, hpl⟩ := place_any v
  obtain ⟨e, he, _, hmem⟩ := rf_at hj
  obtain ⟨W, N, hT⟩ := beh_of hmem a b
  obtain ⟨nm, sg, c⟩ := e
  simp only at hT
  obtain ⟨Nm, hNm⟩ : ∃ Nm : ByteArray, (⟨nm.toArray⟩ : ByteArray) = Nm := ⟨_, rfl⟩
  rw [hNm] at hT
  have HE : Fact (∀ w' B, Listed w' B → Ent w' B j Nm sg c) := ⟨fun w' B h => by rw [← hNm]; exact h.ent he⟩
  clear hNm he hmem
  obtain ⟨S, hS⟩ : ∃ S : ByteArray, Fact (Nm ++ ⟨#[59]⟩ = S) := ⟨_, ⟨rfl⟩⟩
  have zS : Fact (S.size = Nm.size + 1) := ⟨by rw [← hS.out, ByteArray.size_append]; rfl⟩
  have h6 := hT.six
  have hsz1 : ¬ 9223372036854775807 < Nm.size + 1 := by omega
  have hsz2 : ¬ 9223372036854775807 < a.size + S.size := by have := zS.out; omega
  have hsz3 : ¬ 9223372036854775807 < (a ++ S).size + b.size := by rw [ByteArray.size_append]; have := zS.out; omega
  have hsz4 : ¬ 9223372036854775807 < a.size + S.size + b.size := by have := zS.out; omega
  have F2 : Fact (amongB S.data.toList = (W.data.toList, true)) := ⟨by rw [← hS.out]; exact hT.semi⟩
  have F4 : Fact (longB (a ++ S ++ b).data.toList a.size = (N, W.data.toList)) := ⟨by rw [← hS.out]; exact hT.long⟩
  have L1 : IsLen S.size := ⟨by have := zS.out; omega⟩
  have L2 : IsLen (a ++ S ++ b).size := ⟨by rw [ByteArray.size_append, ByteArray.size_append]; have := zS.out; omega⟩
  have L3 : a.size ≤ (a ++ S ++ b).size := by rw [ByteArray.size_append, ByteArray.size_append]; omega
  have hN1 : Fact (N = S.size) := ⟨by have := hT.len; have := zS.out; omega⟩
  have hS1 := hS.out
  have hout : Fact (((a ++ S ++ b).size : Int) < wrap64 ((a.size : Int) + S.size + b.size + 1)) := ⟨by rw [ByteArray.size_append, ByteArray.size_append]; have := zS.out; unfold wrap64; omega⟩
  have hN2 : (N : Int) = (S.size : Int) := by have := hN1.out; omega
  have hN3 : ((N : Int) == (S.size : Int)) = true := beq_iff_eq.2 hN2
  have x1 : (W.toList == W.toList) = true := beq_self_eq_true _
  clear hT h6
  have hjI : (j : Int) < 52 := by omega
  have hjI0 : (0 : Int) ≤ j := by omega
  have tok1 : True := trivial
  go_enter Tryd.func6, Tryd.ntmps6
  go_wp2_with (first
    | (go_at_call 14; refine (all_any _).mono ?_; rintro e w1 ⟨rfl, hb1, hl1⟩; obtain ⟨c0, c1, c2⟩ := HE.out _ _ hl1)
    | (go_at_call 16; refine (hpl _).mono ?_; rintro e w2 ⟨rfl, h2⟩; have h2' := h2.symm; subst h2'; clear h2)
    | (go_at_call 7; refine (find_any S W true L1 F2 _).mono ?_; rintro e w4 ⟨rfl, hb4⟩; have q4 := q3.trans (hb4.mono q3.size))
    | (go_at_call 9; have _t := tok1; refine (longest_any (a ++ S ++ b) W a.size N L2 L3 F4 _).mono ?_; rintro e w3 ⟨rfl, hb3⟩; clear tok1 _t; have q3 := hb1.trans (hb3.mono hb1.size))
    | (go_at_call 9; refine (longest_out (a ++ S ++ b) _ (.inr hout.out) _).mono ?_; rintro e w5 ⟨rfl, hb5⟩; have q5 := q4.trans (hb5.mono q4.size); have hl5 := Fact.mk (HL.out.below HL.out.pos q5))
    | (go_at_call 13; refine (awake_true _ hl5.out).mono ?_; rintro e w6 ⟨rfl, hb6⟩))
  go_ret
  exact ⟨rfl, q5.trans (hb6.mono q5.size)⟩
theorem behind_walk (v : Int) (a b : ByteArray) (w : World) (hl : Laid w) :
    Calls Tryd.prog 6 #[.int .i64 v, .string a, .string b] w fun e w' => e = .returned (.bool true) ∧ Below w.heap.size w w' := by
  by_cases h : 500 < a.size ∨ 500 < b.size
  · exact behind_early v a b h w hl
  · exact behind_main v a b (fun h1 => h (.inl h1)) (fun h1 => h (.inr h1)) w hl
end Go.Proofs.YtoajikemfmfoiaaDoor
