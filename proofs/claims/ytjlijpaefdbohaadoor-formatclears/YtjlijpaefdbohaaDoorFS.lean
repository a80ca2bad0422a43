/- Remove, Swap. -/
import Derived.Test.YtjlijpaefdbohaaDoorFR
set_option linter.unusedVariables false
set_option linter.unusedSimpArgs false
namespace Go.Proofs.YtjlijpaefdbohaaDoor
open Go.RowKit

theorem RowOn.keepX {w w' : World} {A : Nat → Prop} (hk : KeepX w w' A) {v : Value} {n size : Nat} {row : List Value} (h : RowOn w v n size row) (hA : ∀ k, v.ownBlock = some k → ¬ A k) : RowOn w' v n size row := by
  refine ⟨h.len, h.one, ?_⟩
  obtain ⟨a, cap, e, h1, h2, h3⟩ := h.at'
  refine ⟨a, cap, e, h1, h2, ?_⟩
  rcases h3 with h3 | ⟨ad, ea, hc⟩
  · exact .inl h3
  · refine .inr ⟨ad, ea, fun j u hu => ?_⟩
    have hcu := hc j u hu
    have hb : (ad.add j).block = ad.block := by unfold Addr.add; split <;> rfl
    have hlt := World.block_lt_of_cell? w _ hcu
    rw [hb] at hlt
    rw [World.cell?_of_block (w := w) (a := ad.add j) (by rw [hb]; exact hk.block ad.block hlt (hA _ (by rw [e, ea]; rfl)))]
    exact hcu

set_option maxRecDepth 20000 in
set_option maxHeartbeats 1000000 in
theorem remove_no (L : List It) (B p mb c : Nat) (v : Value) (w : World) (id : Int) (h : FL w B p L v mb c) (hp : plc L id = -1) :
    Calls Tryd.prog 18 #[.pointer (some ⟨p, 0, none⟩), .int .i64 id] w fun e w' => e = .returned (.bool false) ∧ Below w.heap.size w w' := by
  have HP := Fact.mk (place_any L B p mb c v w id h (-1) ⟨hp⟩)
  clear h hp
  go_enter Tryd.func18, Tryd.ntmps18
  go_wp2_with (go_at_call 27; refine HP.out.mono ?_; rintro e w1 ⟨rfl, hb⟩; have HB := Fact.mk hb; clear hb)
  go_ret
  exact ⟨rfl, HB.out⟩

theorem plF_get (id : Int) : ∀ (L : List It) (q : Int) (i : Nat), 0 ≤ q → plF id L q = q + (i : Int) → ∃ x, L[i]? = some x ∧ x.mr = false ∧ x.id = id
  | [], q, i, hq, h => by simp [plF] at h; omega
  | x :: r, q, i, hq, h => by
    unfold plF at h
    split at h
    · next ht =>
      obtain rfl : i = 0 := by omega
      simp only [Bool.and_eq_true, Bool.not_eq_true', beq_iff_eq] at ht
      exact ⟨x, rfl, ht.1, ht.2⟩
    · next ht =>
      cases i with
      | zero =>
        exfalso
        have hlow : ∀ (L : List It) (q : Int), 0 ≤ q → plF id L q = -1 ∨ q ≤ plF id L q := by
          intro L
          induction L with
          | nil => intro q _; exact .inl rfl
          | cons y l ih =>
            intro q hq
            unfold plF
            split
            · exact .inr (by omega)
            · rcases ih (q + 1) (by omega) with e | e
              · exact .inl e
              · exact .inr (by omega)
        rcases hlow r (q + 1) (by omega) with e | e <;> omega
      | succ i =>
        obtain ⟨y, e1, e2⟩ := plF_get id r (q + 1) i (by omega) (by rw [h]; omega)
        exact ⟨y, by simpa using e1, e2⟩
theorem plc_get {L : List It} {id : Int} {i : Nat} (h : plc L id = (i : Int)) : ∃ x, L[i]? = some x ∧ x.mr = false ∧ x.id = id := plF_get id L 0 i (by omega) (by rw [show plF id L 0 = plc L id from rfl, h]; omega)

set_option maxRecDepth 20000 in
set_option maxHeartbeats 1000000 in
theorem remove_yes (L : List It) (B p mb c : Nat) (v : Value) (w : World) (id : Int) (i : Nat) (h : FL w B p L v mb c) (hp : plc L id = (i : Int)) (hc : c < 100000) :
    Calls Tryd.prog 18 #[.pointer (some ⟨p, 0, none⟩), .int .i64 id] w fun e w' => e = .returned (.bool true) ∧ Tn w w' B p mb v (L.take i ++ L.drop (i + 1)) (c + 1) := by
  obtain ⟨x, hx, _⟩ := plc_get hp
  have HP := Fact.mk (place_any L B p mb c v w id h i ⟨hp⟩)
  have HT : Fact (∀ w1, Below w.heap.size w w1 → Calls Tryd.prog 34 #[.pointer (some ⟨p, 0, none⟩), .int .i64 i] w1 fun e w' => e = .returned (.tuple #[]) ∧ Tn w1 w' B p mb v (L.take i ++ L.drop (i + 1)) (c + 1)) := ⟨fun w1 hb => takeOut_any L B p mb c v w1 i x (h.below hb (Nat.le_refl _)) hx hc⟩
  have hne : ((i : Int) == -1) = false := by rw [beq_eq_false_iff_ne]; omega
  clear h hp hx
  go_enter Tryd.func18, Tryd.ntmps18
  go_wp2_with (first
    | (go_at_call 27; refine HP.out.mono ?_; rintro e w1 ⟨rfl, hb⟩; have HB := Fact.mk hb; clear hb)
    | (go_at_call 34; refine (HT.out w1 HB.out).mono ?_; rintro e w2 ⟨rfl, ht⟩; have H2 := Fact.mk ht; clear ht))
  go_ret
  exact ⟨rfl, H2.out.pre HB.out⟩

set_option maxRecDepth 20000 in
set_option maxHeartbeats 1000000 in
theorem swap_no (L : List It) (B p mb c : Nat) (v : Value) (w : World) (id0 id : Int) (nm : ByteArray) (a : Option Addr) (an ac : Nat) (h : FL w B p L v mb c) (hp : plc L id0 = -1) :
    Calls Tryd.prog 22 #[.pointer (some ⟨p, 0, none⟩), .int .i64 id0, enV id nm (.slice a an ac)] w fun e w' => e = .returned (.bool false) ∧ Below w.heap.size w w' := by
  obtain ⟨W, hW⟩ : ∃ W, w.alloc (.cells #[.int .i64 id, .string nm, .slice a an ac] 36) = W := ⟨_, rfl⟩
  have hbW : Below w.heap.size w W := by rw [← hW]; exact (Below.refl _ _).alloc (Nat.le_refl _) _
  have HP := Fact.mk (place_any L B p mb c v W id0 (h.below hbW (Nat.le_refl _)) (-1) ⟨hp⟩)
  have HW := Fact.mk hW
  have HBW := Fact.mk hbW
  clear h hp hW hbW
  go_enter Tryd.func22, Tryd.ntmps22
  go_wp2_with (go_at_call 27; rw [HW.out]; refine HP.out.mono ?_; rintro e w1 ⟨rfl, hb⟩; have HB := Fact.mk hb; clear hb)
  go_ret
  exact ⟨rfl, HBW.out.trans (HB.out.mono HBW.out.size)⟩

theorem msA_del (L : List It) (i : Nat) (hi : i < L.length) : msA (L.take i ++ L.drop (i + 1)) i = msA L i := by
  cases i with
  | zero => rfl
  | succ i =>
    show ((Option.map It.ms (L.take (i + 1) ++ L.drop (i + 1 + 1))[i]?).getD 0) = (Option.map It.ms L[i]?).getD 0
    rw [List.getElem?_append_left (by simp; omega), List.getElem?_take, if_pos (by omega)]

set_option maxRecDepth 20000 in
set_option maxHeartbeats 1000000 in
theorem swap_yes (L : List It) (B p mb c : Nat) (v : Value) (w : World) (id0 id : Int) (nm : ByteArray) (ats : List (ByteArray × ByteArray)) (av : Value) (i : Nat) (h : FL w B p L v mb c) (ha : RowOn w av ats.length 2 (rowA ats)) (hout : ∀ k, av.ownBlock = some k → ¬ inF p mb v k) (hid : Is64 id) (hk : Ky.Ok ⟨msA L i, nm, ats⟩) (hp : plc L id0 = (i : Int)) (hc : c + 1 < 100000) :
    Calls Tryd.prog 22 #[.pointer (some ⟨p, 0, none⟩), .int .i64 id0, enV id nm av] w fun e w' => e = .returned (.bool true) ∧ ∃ av', Tn w w' B p mb v (L.take i ++ ⟨id, nm, ats, false, msA L i, av'⟩ :: L.drop (i + 1)) (c + 2) := by
  obtain ⟨x, hx, _⟩ := plc_get hp
  have hL : i < L.length := (List.getElem?_eq_some_iff.1 hx).1
  obtain ⟨a, cp, ev, _⟩ := ha.at'
  subst ev
  obtain ⟨W, hW⟩ : ∃ W, w.alloc (.cells #[.int .i64 id, .string nm, .slice a ats.length cp] 36) = W := ⟨_, rfl⟩
  have hbW : Below w.heap.size w W := by rw [← hW]; exact (Below.refl _ _).alloc (Nat.le_refl _) _
  have hzW : W.heap.size = w.heap.size + 1 := by rw [← hW]; simp
  have c0 : W.heap[w.heap.size]? = some (.cells #[.int .i64 id, .string nm, .slice a ats.length cp] 36) := by rw [← hW]; exact heap_alloc_new w _
  have hF := h.below hbW (Nat.le_refl _)
  have HP := Fact.mk (place_any L B p mb c v W id0 hF i ⟨hp⟩)
  have HT : Fact (∀ w1, Below W.heap.size W w1 → Calls Tryd.prog 34 #[.pointer (some ⟨p, 0, none⟩), .int .i64 i] w1 fun e w' => e = .returned (.tuple #[]) ∧ (w'.cell? ⟨w.heap.size, 0, none⟩ = some (.int .i64 id) ∧ w'.cell? ⟨w.heap.size, 1, none⟩ = some (.string nm) ∧ w'.cell? ⟨w.heap.size, 2, none⟩ = some (.slice a ats.length cp)) ∧
      Calls Tryd.prog 40 #[.pointer (some ⟨p, 0, none⟩), .int .i64 i, enV id nm (.slice a ats.length cp)] w' fun e w'' => e = .returned (.tuple #[]) ∧ ∃ av', Tn w w'' B p mb v (L.take i ++ ⟨id, nm, ats, false, msA L i, av'⟩ :: L.drop (i + 1)) (c + 2)) := ⟨fun w1 hb => by
    refine (takeOut_any L B p mb c v w1 i x (hF.below hb (Nat.le_refl _)) hx (by omega)).mono ?_
    rintro e w2 ⟨rfl, ht⟩
    obtain ⟨v2, f2, k2, o2⟩ := ht.out
    have hb1 : Below w.heap.size w w1 := hbW.trans (hb.mono (by omega))
    have d1 : w1.heap[w.heap.size]? = some (.cells #[.int .i64 id, .string nm, .slice a ats.length cp] 36) := (hb.block _ (by omega)).trans c0
    have d2 : w2.heap[w.heap.size]? = some (.cells #[.int .i64 id, .string nm, .slice a ats.length cp] 36) := (k2.block _ (Array.getElem?_eq_some_iff.1 d1).1 (fun hin => by have := h.lt _ hin; omega)).trans d1
    obtain ⟨z0, z1, z2, _⟩ := three_at d2
    refine ⟨rfl, ⟨z0, z1, z2⟩, ?_⟩
    have hlen : (L.take i ++ L.drop (i + 1)).length = L.length - 1 := by simp; omega
    have hms := msA_del L i hL
    have hput := putEntry_any (L.take i ++ L.drop (i + 1)) B p mb (c + 1) v2 w2 i id nm ats (.slice a ats.length cp) f2 ((ha.below hb1).keepX k2 hout) hid (by rw [hms]; exact hk) (by omega) (by have := h.few; omega) (by omega)
    rw [hms] at hput
    have e1 : (L.take i ++ L.drop (i + 1)).take i = L.take i := by rw [List.take_append_of_le_length (by simp; omega), List.take_take]; simp
    have e2 : (L.take i ++ L.drop (i + 1)).drop i = L.drop (i + 1) := by rw [List.drop_append_of_le_length (by simp; omega), List.drop_eq_nil_of_le (by simp; omega), List.nil_append]
    rw [e1, e2] at hput
    refine hput.mono ?_
    rintro e w3 ⟨rfl, av', ht3⟩
    exact ⟨rfl, av', Tn.trans ((KeepX.of_below hb1).trans k2 (fun _ _ h => h)) (o2.imp (fun h => h) (fun ⟨g, e, hg⟩ => ⟨g, e, Nat.le_trans hb1.size hg⟩)) ht3⟩⟩
  have hne : ((i : Int) == -1) = false := by rw [beq_eq_false_iff_ne]; omega
  have HW := Fact.mk hW
  clear h hp hx hF hk hid hout ha hW hbW c0 hzW
  generalize ats.length = an at *
  go_enter Tryd.func22, Tryd.ntmps22
  go_wp2_with (first
    | (go_at_call 27; rw [HW.out]; refine HP.out.mono ?_; rintro e w1 ⟨rfl, hb⟩; have HB := Fact.mk hb; clear hb)
    | (go_at_call 34; refine (HT.out w1 HB.out).mono ?_; rintro e w2 ⟨rfl, ⟨z0, z1, z2⟩, hput⟩; have HPUT := Fact.mk hput; clear hput)
    | (go_at_call 40; refine HPUT.out.mono ?_; rintro e w3 ⟨rfl, av', ht⟩; have H3 := Fact.mk ht; clear ht))
  go_ret
  exact ⟨rfl, _, H3.out⟩
end Go.Proofs.YtjlijpaefdbohaaDoor
