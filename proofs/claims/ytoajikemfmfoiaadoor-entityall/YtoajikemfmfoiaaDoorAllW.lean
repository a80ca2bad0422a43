/- The walk of EntityAll: it returns true. -/
import Derived.Test.YtoajikemfmfoiaaDoorRCode
import Derived.Test.YtoajikemfmfoiaaDoorRLong
namespace Go.Proofs.YtoajikemfmfoiaaDoor
open Go.RowKit M

/-- what Longest answers, at whatever place -/
def LongIs (s : ByteArray) (a : Int) (N : Nat) (T : ByteArray) : Prop :=
  ((a < 0 ∨ (s.size : Int) < a) ∧ N = 0 ∧ T = ⟨#[]⟩) ∨ ∃ k : Nat, a = k ∧ k ≤ s.size ∧ longB s.data.toList k = (N, T.data.toList)
theorem long_is (s : ByteArray) (a : Int) : ∃ N T, LongIs s a N T := by
  by_cases h : a < 0 ∨ (s.size : Int) < a
  · exact ⟨_, _, .inl ⟨h, rfl, rfl⟩⟩
  · exact ⟨(longB s.data.toList a.toNat).1, ⟨(longB s.data.toList a.toNat).2.toArray⟩, .inr ⟨a.toNat, by omega, by omega, rfl⟩⟩
theorem longest_at (s T : ByteArray) (a : Int) (N : Nat) (hs : IsLen s.size) (h : Fact (LongIs s a N T)) (w : World) :
    Calls Tryd.prog 9 #[.string s, .int .i64 a] w fun e w' => e = .returned (.tuple #[.int .i64 N, .string T]) ∧ Below w.heap.size w w' := by
  rcases h.out with ⟨h1, rfl, rfl⟩ | ⟨k, rfl, hk, hl⟩
  · exact longest_out s a h1 w
  · exact longest_any s T k N hs hk ⟨hl⟩ w
theorem rlongest_at (s T : ByteArray) (a : Int) (N : Nat) (hs : IsLen s.size) (h : Fact (LongIs s a N T)) (w : World) :
    Calls Tryd.prog 10 #[.string s, .int .i64 a] w fun e w' => e = .returned (.tuple #[.int .i64 N, .string T]) ∧ Below w.heap.size w w' := by
  rcases h.out with ⟨h1, rfl, rfl⟩ | ⟨k, rfl, hk, hl⟩
  · exact rlongest_out s a h1 w
  · exact rlongest_any s T k N hs hk ⟨hl⟩ w

set_option maxRecDepth 20000 in
set_option maxHeartbeats 2000000 in
theorem all_walk (name s : ByteArray) (a n : Int) (hn : IsLen name.size) (hs : IsLen s.size) (w : World) (hl : Laid w) :
    Calls Tryd.prog 3 #[.string name, .string s, .int .i64 a, .int .i64 n] w fun e w' => e = .returned (.bool true) ∧ Below w.heap.size w w' := by
  obtain ⟨E, f, hE⟩ : ∃ (E : ByteArray) (f : Bool), Fact (amongB name.data.toList = (E.data.toList, f)) := ⟨⟨(amongB name.data.toList).1.toArray⟩, _, ⟨rfl⟩⟩
  obtain ⟨N, T, hT⟩ := long_is s a
  have HT := Fact.mk hT
  clear hT
  obtain ⟨c, hc⟩ : ∃ c, Fact (codeB n = c) := ⟨_, ⟨rfl⟩⟩
  have b1 : (E.toList == E.toList) = true := beq_self_eq_true _
  have b2 : (f == f) = true := beq_self_eq_true _
  have b3 : (T.toList == T.toList) = true := beq_self_eq_true _
  have b4 : ((N : Int) == (N : Int)) = true := beq_self_eq_true _
  have b5 : (c == c) = true := beq_self_eq_true _
  have HL := Fact.mk hl
  clear hl
  go_enter Tryd.func3, Tryd.ntmps3
  go_wp2_with (first
    | (go_at_call 7; refine (find_any name E f hn hE _).mono ?_; rintro e w1 ⟨rfl, hb1⟩)
    | (go_at_call 8; refine (rfind_at name E f hE _).mono ?_; rintro e w2 ⟨rfl, hb2⟩; have q2 := hb1.trans (hb2.mono hb1.size))
    | (go_at_call 9; refine (longest_at s T a N hs HT _).mono ?_; rintro e w3 ⟨rfl, hb3⟩; have q3 := q2.trans (hb3.mono q2.size))
    | (go_at_call 10; refine (rlongest_at s T a N hs HT _).mono ?_; rintro e w4 ⟨rfl, hb4⟩; have q4 := q3.trans (hb4.mono q3.size); have hl4 := Fact.mk (HL.out.below HL.out.pos q4))
    | (go_at_call 11; refine (code_at n c hc _ hl4.out).mono ?_; rintro e w5 ⟨rfl, h5⟩; have h5' := h5.symm; subst h5'; clear h5)
    | (go_at_call 12; refine (rcode_at n c hc _).mono ?_; rintro e w6 ⟨rfl, h6⟩; have h6' := h6.symm; subst h6'; clear h6)
    | (go_at_call 13; refine (awake_true _ hl4.out).mono ?_; rintro e w7 ⟨rfl, hb7⟩))
  go_ret
  exact ⟨rfl, q4.trans (hb7.mono q4.size)⟩
end Go.Proofs.YtoajikemfmfoiaaDoor
