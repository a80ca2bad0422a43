/- Insert at the Root; the document's example. -/
import Derived.Test.YtllimmmgjpnhkaaDomJ
set_option linter.unusedVariables false
set_option linter.unusedSimpArgs false
namespace Go.Proofs.Ytllimmmgjpnhkaa
open Go.Deep (BT)
open Go.RowKit M

set_option maxRecDepth 20000 in
set_option maxHeartbeats 4000000 in
theorem dInsert_root (L : List DN) (B p mb : Nat) (v : Value) (w : World) (x q : Int) (i : Nat) (y : DN) (Kd : Int) (N X : ByteArray) (h : Arena w B p L v mb) (hx : Is64 x) (hno : placeOf L x = none) (h1 : 1 ≤ x) (h2 : x ≤ 1048576) (hq : Is64 q) (hp : placeOf L q = some (i : Int)) (hi : L[i]? = some y) (hy : y.par = -1) (hyk : y.d.k = 1) (hn : placeOf L (-1) = none)
    (hlen : L.length < 300) (hk : y.kids.length ≤ 1000) (hr : Fact (treeOK rootD (.node 0 0 ⟨Kd, N, X, []⟩ .nil .nil) = true)) :
    Calls Try.prog 18 #[.pointer (some ⟨p, 0, none⟩), .int .i64 x, .int .i64 q, .int .i64 y.kids.length, nodeV ⟨Kd, N, X, []⟩ (.slice none 0 0) (.slice none 0 0)] w fun e w' => e = .returned (.int .i64 0) ∧ ∃ av2 kv2 v2, Arena w' B p (attL (L ++ [⟨x, -1, [], ⟨Kd, N, X, []⟩, .slice none 0 0, av2⟩]) i L.length y ⟨x, -1, [], ⟨Kd, N, X, []⟩, .slice none 0 0, av2⟩ x q kv2) v2 mb ∧ Turns w w' (inA p mb v L) (inA p mb v2 (attL (L ++ [⟨x, -1, [], ⟨Kd, N, X, []⟩, .slice none 0 0, av2⟩]) i L.length y ⟨x, -1, [], ⟨Kd, N, X, []⟩, .slice none 0 0, av2⟩ x q kv2)) := by
  obtain ⟨W, hW⟩ : ∃ W, w.alloc (.cells #[.int .i64 Kd, .string N, .string X, .slice none 0 0, .slice none 0 0] 25) = W := ⟨_, rfl⟩
  obtain ⟨hz, hbW, hnew⟩ := five_one hW
  obtain ⟨x0, x1, x2, x3, x4, _⟩ := five_at hnew
  have hAW := h.below hbW (Nat.le_refl _)
  have HIE := Fact.mk (dinsertError_root L B p mb v W x q y.kids.length i y Kd N X hAW hx hno h1 h2 hq hp hi hy hyk hn hlen (Nat.le_refl _) hk hr)
  have hiL : i < L.length := (List.getElem?_eq_some_iff.1 hi).1
  have HAW := Fact.mk hAW
  have HBW := Fact.mk hbW
  have HNEW := Fact.mk hnew
  have HZ := Fact.mk hz
  have HADD : Fact (∀ w1, Below W.heap.size W w1 → _) := ⟨fun w1 hb => dadd_any L B p mb v w1 x ⟨Kd, N, X, []⟩ (.slice none 0 0) none 0 0 (hAW.below hb (Nat.le_refl _)) hx hno (RowOn.nothing _ _) (by omega) (by simp)⟩
  have HATT : Fact (∀ av2 v2 w2, Arena w2 B p (L ++ [⟨x, -1, [], ⟨Kd, N, X, []⟩, .slice none 0 0, av2⟩]) v2 mb → _) := ⟨fun av2 v2 w2 hA => dattach_end (L ++ [⟨x, -1, [], ⟨Kd, N, X, []⟩, .slice none 0 0, av2⟩]) B p mb v2 w2 x q i L.length y ⟨x, -1, [], ⟨Kd, N, X, []⟩, .slice none 0 0, av2⟩ hA hx hq
    (by rw [placeOf_app L _ hno]; rw [if_neg (fun e => by rw [e] at hp; exact absurd (hp.symm.trans hno) (by simp))]; exact hp) (by rw [List.getElem?_append_left hiL]; exact hi)
    (by rw [placeOf_app L _ hno]; exact if_pos rfl) (by rw [List.getElem?_append_right (Nat.le_refl _)]; simp) (by omega) hk⟩
  generalize hkl : y.kids.length = kl at *
  clear h hbW hnew hz hAW hp hi hno hn hy hyk
  go_enter Try.func18, Try.ntmps18
  go_wp2_with (first
    | (go_at_call 56; refine HIE.out.mono ?_; rintro e w1 ⟨rfl, hb1⟩; have HB1 := Fact.mk hb1; have hn1 := (hb1.block _ (by have := HZ.out; omega)).trans HNEW.out; obtain ⟨y0, y1, y2, y3, y4, _⟩ := five_at hn1; clear hb1 hn1)
    | (go_at_call 57; refine (HADD.out _ HB1.out).mono ?_; rintro e w2 ⟨rfl, v2, av2, hA2, hT2⟩; have HA2 := Fact.mk hA2; have HT2 := Fact.mk hT2; clear hA2 hT2)
    | (go_at_call 58; refine (HATT.out av2 v2 _ HA2.out).mono ?_; rintro e w3 ⟨rfl, kv2, hA3, hT3⟩; have HA3 := Fact.mk hA3; have HT3 := Fact.mk hT3; clear hA3 hT3))
  go_ret
  exact ⟨rfl, av2, kv2, v2, HA3.out, (Turns.of_below (HBW.out.trans (HB1.out.mono HBW.out.size))).trans (HT2.out.trans HT3.out)⟩
end Go.Proofs.Ytllimmmgjpnhkaa
