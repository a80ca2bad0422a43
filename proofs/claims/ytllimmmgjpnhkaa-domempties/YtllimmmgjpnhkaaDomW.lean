/- Within: up from parent to parent. -/
import Derived.Test.YtllimmmgjpnhkaaDomI
set_option linter.unusedVariables false
namespace Go.Proofs.Ytllimmmgjpnhkaa
open Go.Deep (BT)
open Go.RowKit M

/-- from x up to id, or to where none is: in so many steps at most -/
inductive Chain (L : List DN) (id : Int) : Nat → Int → Bool → Prop
  | out (n : Nat) (x : Int) : placeOf L x = none → Chain L id n x false
  | here (n : Nat) (i : Int) : placeOf L id = some i → Chain L id n id true
  | up (n : Nat) (x : Int) (i : Nat) (y : DN) (b : Bool) : placeOf L x = some (i : Int) → L[i]? = some y → x ≠ id → Is64 y.par → Chain L id n y.par b → Chain L id (n + 1) x b

set_option maxRecDepth 20000 in
set_option maxHeartbeats 2000000 in
theorem dWithin_any (L : List DN) (B p mb : Nat) (v : Value) (w : World) (id x : Int) (n : Nat) (b : Bool) (h : Arena w B p L v mb) (hx : Is64 x) (hc : Chain L id n x b) :
    Calls Try.prog 49 #[.pointer (some ⟨p, 0, none⟩), .int .i64 id, .int .i64 x] w fun e w' => e = .returned (.bool b) ∧ Below w.heap.size w w' := by
  have HA := Fact.mk h
  have HC := Fact.mk hc
  have HX := hx
  clear h hc hx
  go_enter Try.func49, Try.ntmps49
  go_wp2_with fail
  go_loopg [2] n (fun gf xv wr => ∃ x' : Int, xv = .int .i64 x' ∧ Is64 x' ∧ Fact (Chain L id gf x' b) ∧ Fact (Below w.heap.size w wr))
  case atStart => exact ⟨x, rfl, HX, HC, ⟨Below.refl _ _⟩⟩
  case round =>
    obtain ⟨x', rfl, hx', hch, hbl⟩ := hrel
    have HR := Fact.mk (HA.out.below hbl.out (Nat.le_refl _))
    cases hch.out with
    | out _ _ hp =>
      have hs : (placeOf L x').isSome = false := by simp [hp]
      clear hch HA
      go_wp2_with (go_at_call 35; refine (dHas_any L B p mb v _ _ HR.out hx').mono ?_; rintro e w' ⟨rfl, rfl⟩)
      go_ret
      exact ⟨rfl, hbl.out⟩
    | here _ i hp =>
      have hs : (placeOf L id).isSome = true := by simp [hp]
      have he : (id != id) = false := by simp
      clear hch HA
      go_wp2_with (go_at_call 35; refine (dHas_any L B p mb v _ _ HR.out hx').mono ?_; rintro e w' ⟨rfl, rfl⟩)
      go_ret
      exact ⟨rfl, hbl.out⟩
    | up m _ i y _ hp hi hne hy hch2 =>
      have hs : (placeOf L x').isSome = true := by simp [hp]
      have he : (x' != id) = true := bne_iff_ne.2 hne
      have HP := Fact.mk hp
      have HI := Fact.mk hi
      have HC2 := Fact.mk hch2
      clear hch HA hp hi hch2 hne
      go_wp2_with (first
        | (go_at_call 35; refine (dHas_any L B p mb v _ _ HR.out hx').mono ?_; rintro e w' ⟨rfl, rfl⟩)
        | (go_at_call 30; refine (dParent_any L B p mb v _ _ i y HR.out hx' HP.out HI.out).mono ?_; rintro e w1 ⟨rfl, hb1⟩; have HB := Fact.mk hb1; clear hb1))
      go_roundg m
      case measure => omega
      case rel => exact ⟨y.par, rfl, hy, HC2, ⟨hbl.out.trans (HB.out.mono hbl.out.size)⟩⟩
end Go.Proofs.Ytllimmmgjpnhkaa
