/- The document's example holds. -/
import Derived.Test.YtllimmmgjpnhkaaDomK
set_option linter.unusedVariables false
set_option linter.unusedSimpArgs false
namespace Go.Proofs.Ytllimmmgjpnhkaa
open Go.Deep (BT)
open Go.RowKit M

theorem root_ok : treeOK rootD .nil = true := by kernel_rfl
theorem text_ok : Fact (treeOK rootD (.node 0 0 ⟨3, ⟨#[]⟩, ⟨#[97]⟩, []⟩ .nil .nil) = true) := ⟨by kernel_rfl⟩
theorem lies_bare (n : Nat) (w : World) (K : Int) (N X : ByteArray) : Lies n w ⟨K, N, X, []⟩ .nil (.slice none 0 0) (.slice none 0 0) :=
  ⟨⟨none, 0, rfl, Nat.le_refl _, Nat.zero_le _, .inl rfl⟩, ⟨none, 0, rfl, Nat.le_refl _, Nat.zero_le _, .inl rfl⟩⟩
theorem one_root {L : List DN} (h : L.map pn = numF .nil (placeP [] rootD (-1)) 0) : ∃ kv av, L = [⟨0, -1, [], rootD, kv, av⟩] := by
  have e : numF .nil (placeP [] rootD (-1)) 0 = [⟨0, -1, [], rootD⟩] := rfl
  rw [e] at h
  cases L with
  | nil => cases h
  | cons y L =>
    cases L with
    | cons z L => simp at h
    | nil =>
      obtain ⟨id, par, kids, d, kv, av⟩ := y
      simp only [List.map_cons, List.map_nil, pn, List.cons.injEq, PN.mk.injEq, and_true] at h
      obtain ⟨rfl, rfl, rfl, rfl⟩ := h
      exact ⟨kv, av, rfl⟩
set_option maxRecDepth 20000 in
set_option maxHeartbeats 4000000 in
theorem awake6_true (w : World) : Calls Try.prog 10 #[] w fun e w' => e = .returned (.bool true) ∧ Below w.heap.size w w' := by
  have HNEW := Fact.mk (dNew_any rootD .nil (.slice none 0 0) (.slice none 0 0) w.heap.size w (lies_bare _ _ _ _ _) (Nat.le_refl _) (by simp [BT.depth]) root_ok (by simp [BT.size]) (by simp [rootD, BT.slots]))
  go_enter Try.func10, Try.ntmps10
  go_wp2_with fail
  refine HNEW.out.mono ?_
  rintro e w1 ⟨p, mb, L, v, rfl, hA, hB, hL⟩
  obtain ⟨kv, av, rfl⟩ := one_root hL
  have HB := Fact.mk hB
  have HA := Fact.mk hA
  have HINS := Fact.mk (dInsert_root [⟨0, -1, [], rootD, kv, av⟩] w.heap.size p mb v w1 7 0 0 ⟨0, -1, [], rootD, kv, av⟩ 3 ⟨#[]⟩ ⟨#[97]⟩ hA ⟨by decide⟩ rfl (by decide) (by decide) ⟨by decide⟩ rfl rfl rfl rfl rfl (by simp) (by simp) text_ok)
  clear hA hB hL HNEW
  dsimp only
  go_wp2_with fail
  refine HINS.out.mono ?_
  rintro e w2 ⟨rfl, av2, kv2, v2, hA2, hT2⟩
  have hL2 : attL ([⟨0, -1, [], rootD, kv, av⟩] ++ [⟨7, -1, [], ⟨3, ⟨#[]⟩, ⟨#[97]⟩, []⟩, .slice none 0 0, av2⟩]) 0 1 ⟨0, -1, [], rootD, kv, av⟩ ⟨7, -1, [], ⟨3, ⟨#[]⟩, ⟨#[97]⟩, []⟩, .slice none 0 0, av2⟩ 7 0 kv2 = [⟨0, -1, [7], rootD, kv2, av⟩, ⟨7, 0, [], ⟨3, ⟨#[]⟩, ⟨#[97]⟩, []⟩, .slice none 0 0, av2⟩] := rfl
  have hB2 : Below w.heap.size w w2 := HB.out.trans (hT2.below HA.out.ge HB.out.size)
  have hA3 : Arena w2 w.heap.size p [⟨0, -1, [7], rootD, kv2, av⟩, ⟨7, 0, [], ⟨3, ⟨#[]⟩, ⟨#[97]⟩, []⟩, .slice none 0 0, av2⟩] v2 mb := hA2
  have HB2 := Fact.mk hB2
  have HA2 := Fact.mk hA3
  have HK := Fact.mk (dKids_any _ w.heap.size p mb v2 w2 0 0 ⟨0, -1, [7], rootD, kv2, av⟩ hA3 ⟨by decide⟩ rfl rfl (by simp))
  have HP : Fact (∀ w3, Below w2.heap.size w2 w3 → _) := ⟨fun w3 hb => dParent_any _ w.heap.size p mb v2 w3 7 1 ⟨7, 0, [], ⟨3, ⟨#[]⟩, ⟨#[97]⟩, []⟩, .slice none 0 0, av2⟩ (hA3.below hb (Nat.le_refl _)) ⟨by decide⟩ rfl rfl⟩
  clear hA2 hT2 hL2 hB2 hA3 HINS HA HB
  dsimp only
  go_wp2_with (first
    | (go_at_call 28; refine HK.out.mono ?_; rintro e w3 ⟨v3, rfl, ho, hb3⟩; obtain ⟨g, cap, rfl, hc1, hc2, hg1, hg2, hg3, hg4⟩ := own_get ho (by simp); have hcell := hg3 0 _ rfl; have HB3 := Fact.mk hb3; clear ho hg3 hg4 hb3)
    | (go_at_call 30; refine (HP.out _ HB3.out).mono ?_; rintro e w4 ⟨rfl, hb4⟩; have HB4 := Fact.mk hb4; clear hb4))
  go_ret
  exact ⟨rfl, HB2.out.trans ((HB3.out.trans (HB4.out.mono HB3.out.size)).mono HB2.out.size)⟩
end Go.Proofs.Ytllimmmgjpnhkaa
