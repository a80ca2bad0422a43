/- What Insert asks first: free, mayBeNew, mayHold, depth. -/
import Derived.Test.YtllimmmgjpnhkaaDomNew
set_option linter.unusedVariables false
set_option linter.unusedSimpArgs false
namespace Go.Proofs.Ytllimmmgjpnhkaa
open Go.Deep (BT)
open Go.RowKit M

set_option maxRecDepth 20000 in
set_option maxHeartbeats 1000000 in
theorem dfree_yes (L : List DN) (B p mb : Nat) (v : Value) (w : World) (x : Int) (h : Arena w B p L v mb) (hx : Is64 x) (hno : placeOf L x = none) (h1 : 1 ≤ x) (h2 : x ≤ 1048576) :
    Calls Try.prog 90 #[.pointer (some ⟨p, 0, none⟩), .int .i64 x] w fun e w' => e = .returned (.bool true) ∧ w' = w := by
  have HA := Fact.mk h
  have hs : (placeOf L x).isSome = false := by simp [hno]
  have q1 : decide ((1 : Int) ≤ x) = true := decide_eq_true h1
  have q2 : decide (x ≤ (1048576 : Int)) = true := decide_eq_true h2
  clear h hno
  go_enter Try.func90, Try.ntmps90
  go_wp2_with (go_at_call 35; refine (dHas_any L B p mb v _ x HA.out hx).mono ?_; rintro e w' ⟨rfl, rfl⟩)
  go_ret
  exact ⟨rfl, rfl⟩

set_option maxRecDepth 20000 in
set_option maxHeartbeats 1000000 in
theorem dmayHold_root (b : Int) (w : World) : Calls Try.prog 92 #[.int .i64 1, .int .i64 b] w fun e w' => e = .returned (.bool true) ∧ w' = w := by
  go_enter Try.func92, Try.ntmps92
  go_wp2
  go_ret
  exact ⟨rfl, rfl⟩

/-- the Root, bare -/
def rootD : Nd := ⟨1, ⟨#[]⟩, ⟨#[]⟩, []⟩
set_option maxRecDepth 20000 in
set_option maxHeartbeats 2000000 in
theorem dmayBeNew_any (K : Int) (N X : ByteArray) (r : Bool) (w : World) (hr : Fact (treeOK rootD (.node 0 0 ⟨K, N, X, []⟩ .nil .nil) = r)) :
    Calls Try.prog 91 #[nodeV ⟨K, N, X, []⟩ (.slice none 0 0) (.slice none 0 0)] w fun e w' => e = .returned (.bool r) ∧ Below w.heap.size w w' := by
  obtain ⟨W, hW⟩ : ∃ W, (w.alloc (.cells #[.int .i64 K, .string N, .string X, .slice none 0 0, .slice none 0 0] 25)).alloc (.cells #[.int .i64 K, .string N, .string X, .slice none 0 0, .slice none 0 0] 25) = W := ⟨_, rfl⟩
  obtain ⟨hz, hB, _, _, c2⟩ := five_new hW (Below.refl _ _)
  obtain ⟨x0, x1, x2, x3, x4, _⟩ := five_at c2
  have hl : Lies W.heap.size W rootD (.node 0 0 ⟨K, N, X, []⟩ .nil .nil) (.slice none 0 0) (.slice (some ⟨w.heap.size + 1, 0, none⟩) 1 1) := by
    refine ⟨⟨none, 0, rfl, Nat.le_refl _, Nat.zero_le _, .inl rfl⟩, ⟨some ⟨w.heap.size + 1, 0, none⟩, 1, rfl, Nat.le_refl _, by unfold maxLen; omega, .inr ⟨w.heap.size + 1, 0, rfl, by show _ < W.heap.size; omega, ?_⟩⟩⟩
    exact ⟨⟨.slice none 0 0, none, 0, x0, x1, x2, x3, x4, ⟨none, 0, rfl, Nat.le_refl _, Nat.zero_le _, .inl rfl⟩, Nat.le_refl _, Nat.zero_le _, .inl rfl⟩, trivial⟩
  have HCK := Fact.mk (check_at r hr (by simp [BT.depth]) hl (Nat.le_refl _))
  have HB := Fact.mk hB
  clear hl hB hz c2 x0 x1 x2 x3 x4
  go_enter Try.func91, Try.ntmps91
  go_wp2_with (go_at_call 25; refine HCK.out.mono ?_; rintro e w1 ⟨rfl, hb1⟩; have HB1 := Fact.mk hb1; clear hb1)
  go_ret
  exact ⟨rfl, HB.out.trans (HB1.out.mono HB.out.size)⟩

theorem neg_none {L : List DN} (h : OKP (L.map pn)) : placeOf L (-1) = none := by
  unfold placeOf
  have : L.findIdx? (fun y => y.id == (-1 : Int)) = none := by
    rw [List.findIdx?_eq_none_iff]
    intro x hx
    obtain ⟨j, hj⟩ := List.mem_iff_getElem?.1 hx
    have := h.pos j (pn x) (by rw [List.getElem?_map, hj]; rfl)
    have e : x.id = j := this
    rw [e]
    simp
  rw [this]
  rfl
theorem is64_neg : Is64 (-1) := ⟨by decide⟩
set_option maxRecDepth 20000 in
set_option maxHeartbeats 2000000 in
theorem ddepth_root (L : List DN) (B p mb : Nat) (v : Value) (w : World) (x : Int) (i : Nat) (y : DN) (h : Arena w B p L v mb) (hx : Is64 x) (hp : placeOf L x = some (i : Int)) (hi : L[i]? = some y) (hy : y.par = -1) (hn : placeOf L (-1) = none) :
    Calls Try.prog 93 #[.pointer (some ⟨p, 0, none⟩), .int .i64 x] w fun e w' => e = .returned (.int .i64 1) ∧ Below w.heap.size w w' := by
  have hs : (placeOf L x).isSome = true := by simp [hp]
  have hs2 : (placeOf L (-1)).isSome = false := by simp [hn]
  have HA := Fact.mk h
  have HPAR := Fact.mk (dParent_any L B p mb v w x i y h hx hp hi)
  rw [hy] at HPAR
  have tok1 : True := trivial
  clear h hp hi hn hy
  go_enter Try.func93, Try.ntmps93
  go_wp2_with fail
  go_loopw [1, 5] (fun a b wx => (a = .int .i64 x ∧ b = .int .i64 0 ∧ wx = w) ∨ (a = .int .i64 (-1) ∧ b = .int .i64 1 ∧ Below w.heap.size w wx)) (fun a b _ => 1 - (intOf b).toNat)
  case atStart => exact .inl ⟨rfl, rfl, rfl⟩
  case round =>
    rcases hrel with ⟨rfl, rfl, rfl⟩ | ⟨rfl, rfl, hb⟩
    · go_wp2_with (first
        | (go_at_call 35; refine (dHas_any L B p mb v _ x HA.out hx).mono ?_; rintro e w' ⟨rfl, rfl⟩)
        | (go_at_call 30; refine HPAR.out.mono ?_; rintro e w2 ⟨rfl, hb2⟩))
      go_roundw
      case rel => exact .inr ⟨rfl, rfl, hb2⟩
      case measure => simp [intOf]
    · have HA2 := Fact.mk (HA.out.below hb (Nat.le_refl _))
      have HB := Fact.mk hb
      go_wp2_with (go_at_call 35; refine (dHas_any L B p mb v _ (-1) HA2.out is64_neg).mono ?_; rintro e w' ⟨rfl, rfl⟩)
      go_ret
      exact ⟨rfl, HB.out⟩
end Go.Proofs.Ytllimmmgjpnhkaa
