/- New, putEntry, Mark, Put. -/
import Derived.Test.YtjlijpaefdbohaaDoorFQ
set_option linter.unusedVariables false
set_option linter.unusedSimpArgs false
namespace Go.Proofs.YtjlijpaefdbohaaDoor
open Go.RowKit

theorem Tn.pre {w w1 w' : World} {B p mb : Nat} {v : Value} {L' : List It} {c' : Nat} (ht : Tn w1 w' B p mb v L' c') (hb : Below w.heap.size w w1) : Tn w w' B p mb v L' c' := by
  obtain ⟨v', h1, h2, h3⟩ := ht.out
  exact ⟨v', h1, (KeepX.of_below hb).trans h2 (fun _ _ h => h), h3.imp (fun h => h) (fun ⟨g, e, hg⟩ => ⟨g, e, Nat.le_trans hb.size hg⟩)⟩
theorem Tn.trans {w w1 w' : World} {B p mb : Nat} {v v1 : Value} {L' : List It} {c' : Nat} (hk : KeepX w w1 (inF p mb v)) (hv : v1.ownBlock = v.ownBlock ∨ ∃ g, v1.ownBlock = some g ∧ w.heap.size ≤ g) (ht : Tn w1 w' B p mb v1 L' c') : Tn w w' B p mb v L' c' := by
  obtain ⟨v', h1, h2, h3⟩ := ht.out
  refine ⟨v', h1, hk.trans h2 (fun j hj h => ?_), ?_⟩
  · rcases h with h | h | h
    · exact .inl h
    · exact .inr (.inl h)
    · rcases hv with e | ⟨g, e, hg⟩
      · exact .inr (.inr (e ▸ h))
      · rw [e] at h
        obtain rfl : g = j := Option.some.inj h
        omega
  · rcases h3 with e | ⟨g, e, hg⟩
    · rcases hv with e2 | ⟨g, e2, hg⟩
      · exact .inl (e.trans e2)
      · exact .inr ⟨g, e.trans e2, hg⟩
    · exact .inr ⟨g, e, Nat.le_trans hk.size hg⟩

set_option maxRecDepth 20000 in
set_option maxHeartbeats 1000000 in
theorem new_any (w : World) : Calls Tryd.prog 7 #[] w fun e w' => e = .returned (.pointer (some ⟨w.heap.size + 1, 0, none⟩)) ∧ FL w' w.heap.size (w.heap.size + 1) [] (.slice none 0 0) w.heap.size 0 ∧ Below w.heap.size w w' := by
  have hmm := @run_makeMap Tryd.prog
  go_enter Tryd.func7, Tryd.ntmps7
  go_wp2
  go_ret
  have h0 : MapK (w.alloc (.map #[] 0)) w.heap.size 0 (cnt []) := by
    have e : cnt [] = fun _ => 0 := by funext k; simp [cnt]
    rw [e]; exact MapK.made w
  refine ⟨rfl, ⟨?_, World.ownsRow_nil _ _ _ _, (fun x hx => by cases hx), ?_, Nat.zero_le _, Nat.zero_le _, ⟨Nat.le_succ _, Nat.le_refl _⟩, (fun x hx => by cases hx)⟩, ((Below.refl _ w).alloc (Nat.le_refl _) _).alloc (by simp) _⟩
  · have := heap_alloc_new (w.alloc (.map #[] 0)) (.cells #[.slice none 0 0, .map (some w.heap.size)] 65)
    rw [World.size_alloc] at this
    exact this
  · exact h0.block (Below.heap_alloc _ _ _ (by simp))

set_option maxRecDepth 20000 in
set_option maxHeartbeats 1000000 in
theorem putEntry_any (L : List It) (B p mb c : Nat) (v : Value) (w : World) (i : Nat) (id : Int) (nm : ByteArray) (ats : List (ByteArray × ByteArray)) (av : Value) (h : FL w B p L v mb c) (ha : RowOn w av ats.length 2 (rowA ats)) (hid : Is64 id) (hk : Ky.Ok ⟨msA L i, nm, ats⟩) (hi : i ≤ L.length) (hl : L.length < 1000) (hc : c < 100000) :
    Calls Tryd.prog 40 #[.pointer (some ⟨p, 0, none⟩), .int .i64 i, enV id nm av] w fun e w' => e = .returned (.tuple #[]) ∧ ∃ av', Tn w w' B p mb v (L.take i ++ ⟨id, nm, ats, false, msA L i, av'⟩ :: L.drop i) (c + 1) := by
  obtain ⟨a, cp, ev, _⟩ := ha.at'
  subst ev
  obtain ⟨W, hW⟩ : ∃ W, w.alloc (.cells #[.int .i64 id, .string nm, .slice a ats.length cp] 36) = W := ⟨_, rfl⟩
  have hbW : Below w.heap.size w W := by rw [← hW]; exact (Below.refl _ _).alloc (Nat.le_refl _) _
  have c0 : W.heap[w.heap.size]? = some (.cells #[.int .i64 id, .string nm, .slice a ats.length cp] 36) := by rw [← hW]; exact heap_alloc_new w _
  obtain ⟨y0, y1, y2, _⟩ := three_at c0
  have HCP := Fact.mk (copied_any id nm ats _ W (ha.below hbW) (by have := hk.ats; dsimp only at this; omega))
  have HPI : Fact (∀ w2 av', Below w.heap.size w w2 → w2.ownsRow W.heap.size 53 2 av' ats.length (rowA ats) → Calls Tryd.prog 32 #[.pointer (some ⟨p, 0, none⟩), .int .i64 i, .agg #[.int .i64 id, .string nm, av', .bool false, .int .i64 (msA L i)]] w2 fun e w' => e = .returned (.tuple #[]) ∧ Tn w w' B p mb v (L.take i ++ ⟨id, nm, ats, false, msA L i, av'⟩ :: L.drop i) (c + 1)) := ⟨fun w2 av' hb2 ho => by
    have hBW : B ≤ W.heap.size := by have := h.lt p (.inl rfl); have := h.at'.1; have := hbW.size; omega
    refine (putIn_any L B p mb c v w2 i ⟨id, nm, ats, false, msA L i, av'⟩ (h.below hb2 (Nat.le_refl _)) ⟨hid, hk⟩ (own_base ho hBW) hi hl hc).mono ?_
    rintro e w' ⟨rfl, ht⟩
    exact ⟨rfl, ht.pre hb2⟩⟩
  have HF := Fact.mk h
  have HW := Fact.mk hW
  have HBW := Fact.mk hbW
  clear h ha hW hbW hk c0 hid
  generalize ats.length = an at *
  obtain ⟨m, hm⟩ : ∃ m, msA L i = m := ⟨_, rfl⟩
  rw [hm] at HPI ⊢
  have HM := Fact.mk hm
  clear hm
  go_enter Tryd.func40, Tryd.ntmps40
  go_wp2_with (first
    | (go_at_call 37; rw [HW.out]; refine HCP.out.mono ?_; rintro e w2 ⟨av', rfl, ho, hb2⟩; obtain ⟨va, vc, e2, _⟩ := own_val ho; subst e2; have HO := Fact.mk ho; have HB2 := Fact.mk (HBW.out.trans (hb2.mono HBW.out.size)); clear ho hb2 HCP)
    | (go_at_call 33; refine (ahead_any L B p mb c v w2 i (HF.out.below HB2.out (Nat.le_refl _)) hi).mono ?_; rintro e w3 ⟨rfl, e3⟩; have e3' := e3.symm; subst e3'; rw [HM.out])
    | (go_at_call 32; refine (HPI.out w2 _ HB2.out HO.out).mono ?_; rintro e w4 ⟨rfl, ht⟩; have HT := Fact.mk ht; clear ht))
  go_end0
  exact ⟨rfl, _, HT.out⟩

theorem ky_zero (m : Int) (h : Is64 m) : Ky.Ok ⟨m, ⟨#[]⟩, []⟩ := ⟨h, Nat.zero_le _, by simp, by simp⟩
set_option maxRecDepth 20000 in
set_option maxHeartbeats 1000000 in
theorem mark_any (L : List It) (B p mb c : Nat) (v : Value) (w : World) (m : Int) (h : FL w B p L v mb c) (hm : msA L L.length = m) (hm0 : 0 ≤ m ∧ m ≤ 1000000) (hl : L.length < 1000) (hc : c < 100000) :
    Calls Tryd.prog 11 #[.pointer (some ⟨p, 0, none⟩)] w fun e w' => e = .returned (.tuple #[]) ∧ Tn w w' B p mb v (L ++ [⟨0, ⟨#[]⟩, [], true, m + 1, .slice none 0 0⟩]) (c + 1) := by
  have i0 : Is64 0 := ⟨by decide⟩
  have i1 : Is64 (m + 1) := ⟨WalkArith.wf_i64 (by omega)⟩
  have hp := putIn_any L B p mb c v w L.length ⟨0, ⟨#[]⟩, [], true, m + 1, .slice none 0 0⟩ h ⟨i0, ky_zero _ i1⟩ (World.ownsRow_nil _ _ _ _) (Nat.le_refl _) hl hc
  rw [List.take_length, List.drop_length] at hp
  have HP := Fact.mk hp
  have HF := Fact.mk h
  have HM := Fact.mk hm
  obtain ⟨al, hal⟩ : ∃ al, L.length = al := ⟨_, rfl⟩
  have HA := Fact.mk hal
  have hw : wrap64 (m + 1) = m + 1 := by unfold wrap64; omega
  rw [hal] at hl HP
  clear h hp hm hal hm0 i0 i1
  go_enter Tryd.func11, Tryd.ntmps11
  go_wp2_with (first
    | (go_at_call 29; refine (len_any L B p mb c v _ HF.out).mono ?_; rintro e w1 ⟨rfl, e1⟩; have e1' := e1.symm; subst e1'; rw [HA.out])
    | (go_at_call 33; refine (ahead_any L B p mb c v _ al HF.out (by rw [HA.out]; exact Nat.le_refl _)).mono ?_; rintro e w1 ⟨rfl, e1⟩; have e1' := e1.symm; subst e1'; rw [← HA.out, HM.out, HA.out])
    | (go_at_call 32; refine HP.out.mono ?_; rintro e w4 ⟨rfl, ht⟩; have HT := Fact.mk ht; clear ht))
  go_end0
  exact ⟨rfl, HT.out⟩

set_option maxRecDepth 20000 in
set_option maxHeartbeats 1000000 in
theorem put_yes (L : List It) (B p mb c : Nat) (v : Value) (w : World) (i : Nat) (id : Int) (nm : ByteArray) (ats : List (ByteArray × ByteArray)) (av : Value) (h : FL w B p L v mb c) (ha : RowOn w av ats.length 2 (rowA ats)) (hid : Is64 id) (hk : Ky.Ok ⟨msA L i, nm, ats⟩) (hi : i ≤ L.length) (hl : L.length < 1000) (hc : c < 100000) :
    Calls Tryd.prog 20 #[.pointer (some ⟨p, 0, none⟩), .int .i64 i, enV id nm av] w fun e w' => e = .returned (.bool true) ∧ ∃ av', Tn w w' B p mb v (L.take i ++ ⟨id, nm, ats, false, msA L i, av'⟩ :: L.drop i) (c + 1) := by
  obtain ⟨a, cp, ev, _⟩ := ha.at'
  subst ev
  obtain ⟨W, hW⟩ : ∃ W, w.alloc (.cells #[.int .i64 id, .string nm, .slice a ats.length cp] 36) = W := ⟨_, rfl⟩
  have hbW : Below w.heap.size w W := by rw [← hW]; exact (Below.refl _ _).alloc (Nat.le_refl _) _
  have c0 : W.heap[w.heap.size]? = some (.cells #[.int .i64 id, .string nm, .slice a ats.length cp] 36) := by rw [← hW]; exact heap_alloc_new w _
  obtain ⟨y0, y1, y2, _⟩ := three_at c0
  have HP := Fact.mk (putEntry_any L B p mb c v W i id nm ats _ (h.below hbW (Nat.le_refl _)) (ha.below hbW) hid hk hi hl hc)
  have HF := Fact.mk (h.below hbW (Nat.le_refl _))
  have HW := Fact.mk hW
  have HBW := Fact.mk hbW
  obtain ⟨al, hal⟩ : ∃ al, L.length = al := ⟨_, rfl⟩
  have HA := Fact.mk hal
  rw [hal] at hl hi
  have hlt : decide ((i : Int) < 0) = false := by simp
  have hge : decide ((al : Int) < (i : Int)) = false := by simp; omega
  clear h ha hk hal hW hbW c0
  generalize ats.length = an at *
  go_enter Tryd.func20, Tryd.ntmps20
  go_wp2_with (first
    | (go_at_call 29; rw [HW.out]; refine (len_any L B p mb c v _ HF.out).mono ?_; rintro e w1 ⟨rfl, e1⟩; have e1' := e1.symm; subst e1'; rw [HA.out])
    | (go_at_call 40; refine HP.out.mono ?_; rintro e w4 ⟨rfl, av', ht⟩; have HT := Fact.mk ht; clear ht))
  go_ret
  exact ⟨rfl, _, HT.out.pre HBW.out⟩

set_option maxRecDepth 20000 in
set_option maxHeartbeats 1000000 in
theorem put_no (L : List It) (B p mb c : Nat) (v : Value) (w : World) (i : Int) (id : Int) (nm : ByteArray) (a : Option Addr) (an ac : Nat) (h : FL w B p L v mb c) (hi : i < 0 ∨ (L.length : Int) < i) :
    Calls Tryd.prog 20 #[.pointer (some ⟨p, 0, none⟩), .int .i64 i, enV id nm (.slice a an ac)] w fun e w' => e = .returned (.bool false) ∧ Below w.heap.size w w' := by
  obtain ⟨W, hW⟩ : ∃ W, w.alloc (.cells #[.int .i64 id, .string nm, .slice a an ac] 36) = W := ⟨_, rfl⟩
  have hbW : Below w.heap.size w W := by rw [← hW]; exact (Below.refl _ _).alloc (Nat.le_refl _) _
  have HF := Fact.mk (h.below hbW (Nat.le_refl _))
  have HW := Fact.mk hW
  have HBW := Fact.mk hbW
  obtain ⟨al, hal⟩ : ∃ al, L.length = al := ⟨_, rfl⟩
  have HA := Fact.mk hal
  rw [hal] at hi
  clear h hal hW hbW
  by_cases h0 : i < 0
  · have hlt : decide (i < 0) = true := by simpa using h0
    clear hi
    go_enter Tryd.func20, Tryd.ntmps20
    go_wp2_with fail
    go_ret
    exact ⟨rfl, by rw [HW.out]; exact HBW.out⟩
  · have hlt : decide (i < 0) = false := by simpa using h0
    have hge : decide ((al : Int) < i) = true := by simp; omega
    clear hi
    go_enter Tryd.func20, Tryd.ntmps20
    go_wp2_with (go_at_call 29; rw [HW.out]; refine (len_any L B p mb c v _ HF.out).mono ?_; rintro e w1 ⟨rfl, e1⟩; have e1' := e1.symm; subst e1'; rw [HA.out])
    go_ret
    exact ⟨rfl, HBW.out⟩
end Go.Proofs.YtjlijpaefdbohaaDoor
