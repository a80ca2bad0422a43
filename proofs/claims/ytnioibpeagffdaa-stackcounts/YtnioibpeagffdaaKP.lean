/- The walk of StackAll: it returns true. -/
import Derived.Test.YtnioibpeagffdaaKO
set_option linter.unusedVariables false
namespace Go.Proofs.Ytnioibpeagffdaa
open Go.RowKit Go.Shelf

theorem SS.up {w w' : World} {v : Value} {l : List ByteArray} (h : SS w.heap.size w v l) (hb : Below w.heap.size w w') : SS w'.heap.size w' v l := (h.below hb (Nat.le_refl _)).mono hb.size
theorem bel {w a b : World} (h : Fact (Below w.heap.size w a)) (k : Below a.heap.size a b) : Fact (Below w.heap.size w b) := ⟨h.out.trans (k.mono h.out.size)⟩

set_option maxRecDepth 100000 in
set_option maxHeartbeats 8000000 in
theorem all12_walk (x : ByteArray) (k : Int) (v : Value) (l : List ByteArray) (s : Int) (u : Value) (ns : List ByteArray) (w : World) (hS : SS w.heap.size w v l) (hN : SS w.heap.size w u ns) :
    Calls Try.prog 3 #[.string x, .int .i64 k, v, .int .i64 s, u] w fun e w' => e = .returned (.bool true) ∧ Below w.heap.size w w' := by
  obtain ⟨a1, c1, e1⟩ := hS.val
  obtain ⟨a2, c2, e2⟩ := hN.val
  have HF1 := Fact.mk (few_any l v _ w hS)
  have HF2 := Fact.mk (few_any ns u _ w hN)
  subst e1 e2
  have HS := Fact.mk hS
  have HN := Fact.mk hN
  obtain ⟨p1, hp1⟩ : ∃ B, Fact (isB x k = B) := ⟨_, ⟨rfl⟩⟩
  obtain ⟨p2, hp2⟩ : ∃ B, Fact (inK l x s l.length = B) := ⟨_, ⟨rfl⟩⟩
  obtain ⟨p3, hp3⟩ : ∃ B, Fact (impK l x l.length = B) := ⟨_, ⟨rfl⟩⟩
  obtain ⟨p4, hp4⟩ : ∃ B, Fact (unK l ns l.length l.length = B) := ⟨_, ⟨rfl⟩⟩
  have q1 : (p1 == p1) = true := beq_self_eq_true _
  have q2 : (p2 == p2) = true := beq_self_eq_true _
  have t1 : True := trivial
  have t2 : True := trivial
  have t3 : True := trivial
  have t4 : True := trivial
  have HA := Fact.mk awake12_true
  clear hS hN
  go_enter Try.func3, Try.ntmps3
  go_wp2_with (first
    | (go_at_call 8; have _t := t1; refine HF1.out.mono ?_; clear t1 _t; rintro e w1 ⟨⟨B1, rfl, h1⟩, rfl⟩; cases B1 <;> first | (have L1 := Fact.mk (h1 rfl); clear h1) | clear h1)
    | (go_at_call 8; have _t := t2; refine HF2.out.mono ?_; clear t2 _t; rintro e w1 ⟨⟨B2, rfl, h2⟩, rfl⟩; cases B2 <;> first | (have L2 := Fact.mk (h2 rfl); clear h2) | clear h2)
    | (at_builtin; have _t := t3; refine wpList_app (by rfl) (.const (.slice none 0 0)) (.tmp 26) rfl _ _ (.slice none 0 0) _ [] l rfl rfl (OwnN.nil _ _) HS.out (by have := L1.out; simp; omega) (Nat.le_refl _) ?_; clear t3 _t; intro v1 w1 hO _ hB; have O1 := Fact.mk hO.out.ss; have B1 := hB; clear hO hB)
    | (at_builtin; have _t := t4; refine wpList_app (by rfl) (.const (.slice none 0 0)) (.tmp 57) rfl _ _ (.slice none 0 0) _ [] ns rfl rfl (OwnN.nil _ _) (HN.out.up B6.out) (by have := L2.out; simp; omega) (Nat.le_refl _) ?_; clear t4 _t; intro v7 w7 hO _ hB; have N7 := Fact.mk hO.out.ss; have O7 := Fact.mk (O6.out.up hB.out); have B7 := bel B6 hB.out; clear hO hB)
    | (go_at_call 10; refine (is_any x k _ p1 hp1).mono ?_; rintro e w2 ⟨rfl, hb⟩; have B2 := bel B1 hb; have O2 := Fact.mk (O1.out.up hb); clear hb)
    | (go_at_call 11; refine (rIs_any x k _ p1 hp1).mono ?_; rintro e w3 ⟨rfl, hb⟩; have B3 := bel B2 hb; have O3 := Fact.mk (O2.out.up hb); clear hb)
    | (go_at_call 12; refine (in_any l _ x s _ O3.out p2 hp2).mono ?_; rintro e w4 ⟨rfl, hb⟩; have B4 := bel B3 hb; have O4 := Fact.mk (O3.out.up hb); clear hb)
    | (go_at_call 13; refine (rIn_any l _ x s _ _ (HS.out.up B4.out) p2 hp2).mono ?_; rintro e w9 ⟨rfl, rfl⟩)
    | (go_at_call 14; refine (implied_any l _ x _ O4.out p3 hp3).mono ?_; rintro e w5 ⟨rfl, hb⟩; have B5 := bel B4 hb; have O5 := Fact.mk (O4.out.up hb); clear hb)
    | (go_at_call 15; refine (rImplied_any l _ x _ (HS.out.up B5.out) (by have := L1.out; omega) p3 hp3).mono ?_; rintro e w6 ⟨rfl, hb⟩; have B6 := bel B5 hb; have O6 := Fact.mk (O5.out.up hb); clear hb)
    | (go_at_call 16; refine (until_any l ns _ _ _ O7.out N7.out p4 hp4).mono ?_; rintro e w8 ⟨rfl, hb⟩; have B8 := bel B7 hb; clear hb)
    | (go_at_call 17; refine (rUntil_any l ns _ _ _ _ _ (HS.out.up B8.out) (HN.out.up B8.out) (by have := L1.out; omega) p4 hp4).mono ?_; rintro e w9 ⟨rfl, rfl⟩)
    | (go_at_call 9; refine (HA.out _).mono ?_; rintro e w10 ⟨rfl, hb⟩; have B9 := Fact.mk hb; clear hb))
  all_goals go_ret
  all_goals first
    | exact ⟨rfl, (bel B8 B9.out).out⟩
    | exact ⟨rfl, B9.out⟩
end Go.Proofs.Ytnioibpeagffdaa
