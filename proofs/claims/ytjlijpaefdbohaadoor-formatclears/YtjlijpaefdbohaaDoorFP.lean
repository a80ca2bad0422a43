/- putIn: the walk. -/
import Derived.Test.YtjlijpaefdbohaaDoorFO
set_option linter.unusedVariables false
set_option linter.unusedSimpArgs false
namespace Go.Proofs.YtjlijpaefdbohaaDoor
open Go.RowKit

/-- what turning a list leaves: the list, the blocks that stay, where its row lies -/
structure Tn (w w' : World) (B p mb : Nat) (v : Value) (L' : List It) (c' : Nat) : Prop where
  out : ∃ v', FL w' B p L' v' mb c' ∧ KeepX w w' (inF p mb v) ∧ (v'.ownBlock = v.ownBlock ∨ ∃ g, v'.ownBlock = some g ∧ w.heap.size ≤ g)
theorem cellsT_len (x : It) : (cellsT x).length = 5 := rfl
theorem cellsT_one (x : It) (h : x.av.oneCell' = true) : ∀ u ∈ cellsT x, u.oneCell' = true := by
  intro u hu
  simp only [cellsT, List.mem_cons, List.not_mem_nil, or_false] at hu
  rcases hu with rfl | rfl | rfl | rfl | rfl
  · rfl
  · rfl
  · exact h
  · rfl
  · rfl

set_option maxRecDepth 20000 in
set_option maxHeartbeats 2000000 in
theorem putIn_any (L : List It) (B p mb c : Nat) (v : Value) (w : World) (i : Nat) (x : It) (h : FL w B p L v mb c) (hx : x.Ok) (hax : w.ownsRow B 53 2 x.av x.ats.length (rowA x.ats)) (hi : i ≤ L.length) (hl : L.length < 1000) (hc : c < 100000) :
    Calls Tryd.prog 32 #[.pointer (some ⟨p, 0, none⟩), .int .i64 i, itV x] w fun e w' => e = .returned (.tuple #[]) ∧ Tn w w' B p mb v (L.take i ++ x :: L.drop i) (c + 1) := by
  obtain ⟨aa, an, ac, eav⟩ : ∃ a ln cp, x.av = .slice a ln cp := by obtain ⟨a, cp, e, _⟩ := own_val hax; exact ⟨_, _, _, e⟩
  obtain ⟨a, ln, cp, ev⟩ : ∃ a ln cp, v = .slice a ln cp := by obtain ⟨a, cp, e, _⟩ := own_val h.row; exact ⟨_, _, _, e⟩
  subst ev
  obtain ⟨id, nm, ats, mr, ms, av⟩ := x
  dsimp only at eav hax
  subst eav
  have HX := Fact.mk hx
  have HAX := Fact.mk hax
  obtain ⟨W, hW⟩ : ∃ W, w.alloc (.cells #[.int .i64 id, .string nm, .slice aa an ac, .bool mr, .int .i64 ms] 68) = W := ⟨_, rfl⟩
  have hbW : Below w.heap.size w W := by rw [← hW]; exact (Below.refl _ _).alloc (Nat.le_refl _) _
  have hzW : W.heap.size = w.heap.size + 1 := by rw [← hW]; simp
  have c0 : W.heap[w.heap.size]? = some (.cells #[.int .i64 id, .string nm, .slice aa an ac, .bool mr, .int .i64 ms] 68) := by rw [← hW]; exact heap_alloc_new w _
  have hF := h.below hbW (Nat.le_refl _)
  obtain ⟨V, hV⟩ : ∃ V, (W.alloc (.cells #[.int .i64 id, .string nm, .slice aa an ac, .bool mr, .int .i64 ms] 68)).drew = V := ⟨_, rfl⟩
  have hbV : Below W.heap.size W V := by rw [← hV]; exact ((Below.refl _ _).alloc (Nat.le_refl _) _).drew
  have hFV := hF.below hbV (Nat.le_refl _)
  have hvb : V.heap[W.heap.size]? = some (.cells (cellsT ⟨id, nm, ats, mr, ms, .slice aa an ac⟩).toArray 68 (0, 0)) := by rw [← hV]; exact heap_alloc_new W _
  have hins := insert_any V B (.slice a ln cp) L.length i W.heap.size (rowT L) (cellsT ⟨id, nm, ats, mr, ms, .slice aa an ac⟩) hFV.row hi hvb (cellsT_len _) (cellsT_one _ rfl) (rowT_one L hF.avOne) (by omega) (Nat.le_trans hFV.at'.1 (Nat.le_of_lt (hFV.lt p (.inl rfl))))
    (fun e => by have := (hF.row.lt W.heap.size e).2; omega)
  have HINS := Fact.mk hins
  have hcp1 : W.cell? ⟨p, 0, none⟩ = some (.slice a ln cp) := by simp [World.cell?, hF.box]
  have hcpV : V.cell? ⟨p, 0, none⟩ = some (.slice a ln cp) := by simp [World.cell?, hFV.box]
  have hcp2 : W.frozen? ⟨p, 0, none⟩ = false := by simp [World.frozen?, hF.box]
  have HPV : Fact (p < V.heap.size) := ⟨hFV.lt p (.inl rfl)⟩
  have HPN : Fact ((Value.slice a ln cp).ownBlock ≠ some p) := ⟨fun e => by
    rcases hF.row.2 with ⟨e0, _⟩ | ⟨g, cap, cur, e1, _, hh, _⟩
    · rw [e0] at e; cases e
    · rw [e1] at e
      obtain rfl : g = p := Option.some.inj e
      rw [hF.box] at hh; simp at hh⟩
  have HWN : Fact ((Value.slice a ln cp).ownBlock ≠ some w.heap.size) := ⟨fun e => by have := (h.row.lt w.heap.size e).2; omega⟩
  have HWV : Fact (w.heap.size < V.heap.size) := ⟨by have := hbV.size; omega⟩
  have HPW : Fact (p ≠ w.heap.size) := ⟨by have := h.lt p (.inl rfl); omega⟩
  have HF := Fact.mk h
  have HBV := Fact.mk (hbW.trans (hbV.mono (by omega)))
  have HV := Fact.mk hV
  have HW := Fact.mk hW
  have HZ := Fact.mk hzW
  have HFV := Fact.mk hFV
  have S0 : W.drew.cell? ⟨w.heap.size, 0, none⟩ = some (.int .i64 id) ∧ W.drew.cell? ⟨w.heap.size, 1, none⟩ = some (.string nm) ∧ W.drew.cell? ⟨w.heap.size, 2, none⟩ = some (.slice aa an ac) ∧ W.drew.cell? ⟨w.heap.size, 3, none⟩ = some (.bool mr) ∧ W.drew.cell? ⟨w.heap.size, 4, none⟩ = some (.int .i64 ms) := five_at (w := W.drew) c0
  have C0V : Fact (V.heap[w.heap.size]? = some (.cells #[.int .i64 id, .string nm, .slice aa an ac, .bool mr, .int .i64 ms] 68)) := ⟨(hbV.block _ (by omega)).trans c0⟩
  have SV := five_at C0V.out
  clear hins hW hV hF hFV hvb hbW hbV c0 h hx hax hzW
  go_enter Tryd.func32, Tryd.ntmps32
  go_wp2_with fail
  rw [HW.out]
  refine wp_region_held_drew (S := fun U => U.cell? ⟨w.heap.size, 0, none⟩ = some (.int .i64 id) ∧ U.cell? ⟨w.heap.size, 1, none⟩ = some (.string nm) ∧ U.cell? ⟨w.heap.size, 2, none⟩ = some (.slice aa an ac) ∧ U.cell? ⟨w.heap.size, 3, none⟩ = some (.bool mr) ∧ U.cell? ⟨w.heap.size, 4, none⟩ = some (.int .i64 ms)) (by kernel_rfl) S0 (fun _ => ?_)
  refine wpAnyH_take (i := 0) (v := ?v0n1) rfl (by kernel_rfl) (by kernel_rfl) (by kernel_rfl) (fun _ _ _ h => h) (Or.inl ⟨by rfl, ?hy0n1⟩) S0 ?rr0n1
  case hy0n1 =>
    intro w hSw
    go_simp
    try with_reducible rfl
  try simp only [Act.put, List.getElem_toArray, List.getElem_cons_succ, List.getElem_cons_zero, List.setIfInBounds_toArray, List.set_cons_zero, List.set_cons_succ]
  refine wpAnyH_take (i := 1) (v := ?v1n2) rfl (by kernel_rfl) (by kernel_rfl) (by kernel_rfl) (fun _ _ _ h => h) (Or.inl ⟨by rfl, ?hy1n2⟩) S0 ?rr1n2
  case hy1n2 =>
    intro w hSw
    go_simp
    try with_reducible rfl
  try simp only [Act.put, List.getElem_toArray, List.getElem_cons_succ, List.getElem_cons_zero, List.setIfInBounds_toArray, List.set_cons_zero, List.set_cons_succ]
  refine wpAnyH_take (i := 2) (v := ?v2n3) rfl (by kernel_rfl) (by kernel_rfl) (by kernel_rfl) (fun _ _ _ h => h) (Or.inl ⟨by rfl, ?hy2n3⟩) S0 ?rr2n3
  case hy2n3 =>
    intro w hSw
    go_simp
    try with_reducible rfl
  try simp only [Act.put, List.getElem_toArray, List.getElem_cons_succ, List.getElem_cons_zero, List.setIfInBounds_toArray, List.set_cons_zero, List.set_cons_succ]
  refine wpAnyH_take (i := 3) (v := ?v3n4) rfl (by kernel_rfl) (by kernel_rfl) (by kernel_rfl) (fun _ _ _ h => h) (Or.inl ⟨by rfl, ?hy3n4⟩) S0 ?rr3n4
  case hy3n4 =>
    intro w hSw
    go_simp
    try with_reducible rfl
  try simp only [Act.put, List.getElem_toArray, List.getElem_cons_succ, List.getElem_cons_zero, List.setIfInBounds_toArray, List.set_cons_zero, List.set_cons_succ]
  refine wpAnyH_take (i := 5) (v := ?v5n5) rfl (by kernel_rfl) (by kernel_rfl) (by kernel_rfl) (fun _ _ _ h => h) (Or.inl ⟨by rfl, ?hy5n5⟩) S0 ?rr5n5
  case hy5n5 =>
    intro w hSw
    go_simp
    try with_reducible rfl
  try simp only [Act.put, List.getElem_toArray, List.getElem_cons_succ, List.getElem_cons_zero, List.setIfInBounds_toArray, List.set_cons_zero, List.set_cons_succ]
  refine wpAnyH_take (i := 6) (v := ?v6n6) rfl (by kernel_rfl) (by kernel_rfl) (by kernel_rfl) (fun _ _ _ h => h) (Or.inl ⟨by rfl, ?hy6n6⟩) S0 ?rr6n6
  case hy6n6 =>
    intro w hSw
    go_simp
    try with_reducible rfl
  try simp only [Act.put, List.getElem_toArray, List.getElem_cons_succ, List.getElem_cons_zero, List.setIfInBounds_toArray, List.set_cons_zero, List.set_cons_succ]
  refine wpAnyH_ready (rs := [4, 7]) (by kernel_rfl) (by simp) ?_
  refine AllReadyH.cons rfl (fun K hK => ?_) (AllReadyH.cons rfl (fun K hK => ?_) AllReadyH.nil)
  · go_simp
    refine hK.out _ _ S0 (fun _ => ?_)
    clear hK K
    refine wpAnyH_ready (rs := [7]) (by kernel_rfl) (by simp) ?_
    refine AllReadyH.cons rfl (fun K hK => ?_) AllReadyH.nil
    go_simp
    rw [HV.out]
    refine hK.out _ _ SV (fun _ => ?_)
    clear hK K
    refine wpAnyH_ready (rs := [8]) (by kernel_rfl) (by simp) ?_
    refine AllReadyH.cons rfl (fun K hK => ?_) AllReadyH.nil
    go_simp
    go_at_call 44
    refine HINS.out.mono ?_
    rintro e V2 ⟨v', rfl, ho, hg, hb⟩
    obtain ⟨va, vn, vc, rfl⟩ : ∃ a n c, v' = .slice a n c := by obtain ⟨q1, q2, q3, _⟩ := own_val ho; exact ⟨_, _, _, q3⟩
    obtain ⟨w3, hw3⟩ : ∃ w3, V2.setCell ⟨p, 0, none⟩ (.slice va vn vc) = w3 := ⟨_, rfl⟩
    obtain ⟨f1, f2, f3, f4, f5, f6⟩ := put_mem HF.out HX.out HAX.out hi HBV.out hg ho hb hw3
    have hpV2 : V2.heap[p]? = some (.cells #[.slice a ln cp, .map (some mb)] 65) := (hg.block p HPV.out (fun e => HPN.out e.symm)).trans HFV.out.box
    obtain ⟨p1, p2⟩ : V2.cell? ⟨p, 0, none⟩ = some (.slice a ln cp) ∧ V2.frozen? ⟨p, 0, none⟩ = false := by simp [World.cell?, World.frozen?, hpV2]
    have b2 : V2.heap[w.heap.size]? = some (.cells #[.int .i64 id, .string nm, .slice aa an ac, .bool mr, .int .i64 ms] 68) := (hg.block _ HWV.out (fun e => HWN.out e.symm)).trans C0V.out
    have b3 : w3.heap[w.heap.size]? = some (.cells #[.int .i64 id, .string nm, .slice aa an ac, .bool mr, .int .i64 ms] 68) := by rw [← hw3, Below.heap_setCell V2 ⟨p, 0, none⟩ _ w.heap.size (fun e => HPW.out e.symm)]; exact b2
    refine hK.out _ _ (five_at b2) (fun _ => ?_)
    clear hK K
    have S2 := five_at b2
    try simp only [Act.put, List.getElem_toArray, List.getElem_cons_succ, List.getElem_cons_zero, List.setIfInBounds_toArray, List.set_cons_zero, List.set_cons_succ]
    refine wpAnyH_take (i := 9) (v := ?v9n7) rfl (by kernel_rfl) (by kernel_rfl) (by kernel_rfl) (fun _ _ _ h => h) (Or.inl ⟨by rfl, ?hy9n7⟩) S2 ?rr9n7
    case hy9n7 =>
      intro w hSw
      go_simp
      try with_reducible rfl
    try simp only [Act.put, List.getElem_toArray, List.getElem_cons_succ, List.getElem_cons_zero, List.setIfInBounds_toArray, List.set_cons_zero, List.set_cons_succ]
    refine wpAnyH_take (i := 10) (v := ?v10n8) rfl (by kernel_rfl) (by kernel_rfl) (by kernel_rfl) (fun _ _ _ h => h) (Or.inl ⟨by rfl, ?hy10n8⟩) S2 ?rr10n8
    case hy10n8 =>
      intro w hSw
      go_simp
      try with_reducible rfl
    try simp only [Act.put, List.getElem_toArray, List.getElem_cons_succ, List.getElem_cons_zero, List.setIfInBounds_toArray, List.set_cons_zero, List.set_cons_succ]
    refine wpAnyH_ready (rs := [11]) (by kernel_rfl) (by simp) ?_
    refine AllReadyH.cons rfl (fun K hK => ?_) AllReadyH.nil
    go_simp
    refine hK.out _ _ (five_at b3) (fun _ => ?_)
    clear hK K
    refine wpAnyH_done (by kernel_rfl) ?_ _
    obtain ⟨g0, g1, g2, g3, g4⟩ := five_at b3
    have F1 := Fact.mk f1
    have F2 := Fact.mk f2
    have F3 := Fact.mk f3
    have F4 := Fact.mk f4
    have F5 := Fact.mk f5
    have F6 := Fact.mk f6
    have HBL : Fact ((Value.slice va vn vc).ownBlock = (Value.slice a ln cp).ownBlock ∨ ∃ g, (Value.slice va vn vc).ownBlock = some g ∧ w.heap.size ≤ g) := ⟨hb.imp (fun e => e) (fun e => ⟨_, e, HBV.out.size⟩)⟩
    clear ho hg hb hw3 f1 f2 f3 f4 f5 f6 hpV2 p1 p2 b2 b3 hcp1 hcp2 hcpV HINS
    cases mr with
    | true =>
      have HCT := Fact.mk (count_mark (x := ⟨id, nm, ats, true, ms, .slice aa an ac⟩) p 1 w3 rfl ⟨_, _, _, rfl⟩)
      go_wp2_with (go_at_call 45; refine HCT.out.mono ?_; rintro e w4 ⟨rfl, hb4⟩; have HB4 := Fact.mk hb4; clear hb4)
      go_end0
      refine ⟨rfl, ⟨_, FL.turn F1.out F2.out F3.out F4.out (KeepX.of_below HB4.out) ?_ (by simp; omega) (by omega) HF.out.at' F6.out, F5.out.trans (A1 := fun _ => False) (KeepX.of_below HB4.out) (fun _ _ h => h.elim), HBL.out⟩⟩
      have e := funext (take_drop_ins L i ⟨id, nm, ats, true, ms, .slice aa an ac⟩ · rfl)
      rw [show cnt (L.take i ++ (⟨id, nm, ats, true, ms, .slice aa an ac⟩ : It) :: L.drop i) = cnt L from e]
      obtain ⟨es, clock, hm⟩ := F4.out.isMap
      exact (F4.out.block (HB4.out.block mb (Array.getElem?_eq_some_iff.1 hm).1)).mono (by omega)
    | false =>
      have hle := cnt_le L (It.ky ⟨id, nm, ats, false, ms, .slice aa an ac⟩)
      have HCT := Fact.mk (count_any (x := ⟨id, nm, ats, false, ms, .slice aa an ac⟩) p mb c (cnt L) 1 _ _ w3 rfl HX.out (RowOn.own (F3.out _ (by simp)) (rowA_one _)) F1.out F4.out (by omega) rfl (by omega))
      clear hle
      go_wp2_with (go_at_call 45; refine HCT.out.mono ?_; rintro e w4 ⟨rfl, m4, k4⟩; have M4 := Fact.mk m4; have K4 := Fact.mk k4; clear m4 k4)
      go_end0
      refine ⟨rfl, ⟨_, FL.turn F1.out F2.out F3.out F4.out K4.out ?_ (by simp; omega) (by omega) HF.out.at' F6.out, F5.out.trans K4.out (fun _ _ h => .inr (.inl h)), HBL.out⟩⟩
      rw [cnt_ins L i _ rfl]
      exact M4.out
  · go_simp
    rw [HV.out]
    refine hK.out _ _ SV (fun _ => ?_)
    clear hK K
    refine wpAnyH_ready (rs := [4]) (by kernel_rfl) (by simp) ?_
    refine AllReadyH.cons rfl (fun K hK => ?_) AllReadyH.nil
    go_simp
    refine hK.out _ _ SV (fun _ => ?_)
    clear hK K
    refine wpAnyH_ready (rs := [8]) (by kernel_rfl) (by simp) ?_
    refine AllReadyH.cons rfl (fun K hK => ?_) AllReadyH.nil
    go_simp
    go_at_call 44
    refine HINS.out.mono ?_
    rintro e V2 ⟨v', rfl, ho, hg, hb⟩
    obtain ⟨va, vn, vc, rfl⟩ : ∃ a n c, v' = .slice a n c := by obtain ⟨q1, q2, q3, _⟩ := own_val ho; exact ⟨_, _, _, q3⟩
    obtain ⟨w3, hw3⟩ : ∃ w3, V2.setCell ⟨p, 0, none⟩ (.slice va vn vc) = w3 := ⟨_, rfl⟩
    obtain ⟨f1, f2, f3, f4, f5, f6⟩ := put_mem HF.out HX.out HAX.out hi HBV.out hg ho hb hw3
    have hpV2 : V2.heap[p]? = some (.cells #[.slice a ln cp, .map (some mb)] 65) := (hg.block p HPV.out (fun e => HPN.out e.symm)).trans HFV.out.box
    obtain ⟨p1, p2⟩ : V2.cell? ⟨p, 0, none⟩ = some (.slice a ln cp) ∧ V2.frozen? ⟨p, 0, none⟩ = false := by simp [World.cell?, World.frozen?, hpV2]
    have b2 : V2.heap[w.heap.size]? = some (.cells #[.int .i64 id, .string nm, .slice aa an ac, .bool mr, .int .i64 ms] 68) := (hg.block _ HWV.out (fun e => HWN.out e.symm)).trans C0V.out
    have b3 : w3.heap[w.heap.size]? = some (.cells #[.int .i64 id, .string nm, .slice aa an ac, .bool mr, .int .i64 ms] 68) := by rw [← hw3, Below.heap_setCell V2 ⟨p, 0, none⟩ _ w.heap.size (fun e => HPW.out e.symm)]; exact b2
    refine hK.out _ _ (five_at b2) (fun _ => ?_)
    clear hK K
    have S2 := five_at b2
    try simp only [Act.put, List.getElem_toArray, List.getElem_cons_succ, List.getElem_cons_zero, List.setIfInBounds_toArray, List.set_cons_zero, List.set_cons_succ]
    refine wpAnyH_take (i := 9) (v := ?v9n9) rfl (by kernel_rfl) (by kernel_rfl) (by kernel_rfl) (fun _ _ _ h => h) (Or.inl ⟨by rfl, ?hy9n9⟩) S2 ?rr9n9
    case hy9n9 =>
      intro w hSw
      go_simp
      try with_reducible rfl
    try simp only [Act.put, List.getElem_toArray, List.getElem_cons_succ, List.getElem_cons_zero, List.setIfInBounds_toArray, List.set_cons_zero, List.set_cons_succ]
    refine wpAnyH_take (i := 10) (v := ?v10n10) rfl (by kernel_rfl) (by kernel_rfl) (by kernel_rfl) (fun _ _ _ h => h) (Or.inl ⟨by rfl, ?hy10n10⟩) S2 ?rr10n10
    case hy10n10 =>
      intro w hSw
      go_simp
      try with_reducible rfl
    try simp only [Act.put, List.getElem_toArray, List.getElem_cons_succ, List.getElem_cons_zero, List.setIfInBounds_toArray, List.set_cons_zero, List.set_cons_succ]
    refine wpAnyH_ready (rs := [11]) (by kernel_rfl) (by simp) ?_
    refine AllReadyH.cons rfl (fun K hK => ?_) AllReadyH.nil
    go_simp
    refine hK.out _ _ (five_at b3) (fun _ => ?_)
    clear hK K
    refine wpAnyH_done (by kernel_rfl) ?_ _
    obtain ⟨g0, g1, g2, g3, g4⟩ := five_at b3
    have F1 := Fact.mk f1
    have F2 := Fact.mk f2
    have F3 := Fact.mk f3
    have F4 := Fact.mk f4
    have F5 := Fact.mk f5
    have F6 := Fact.mk f6
    have HBL : Fact ((Value.slice va vn vc).ownBlock = (Value.slice a ln cp).ownBlock ∨ ∃ g, (Value.slice va vn vc).ownBlock = some g ∧ w.heap.size ≤ g) := ⟨hb.imp (fun e => e) (fun e => ⟨_, e, HBV.out.size⟩)⟩
    clear ho hg hb hw3 f1 f2 f3 f4 f5 f6 hpV2 p1 p2 b2 b3 hcp1 hcp2 hcpV HINS
    cases mr with
    | true =>
      have HCT := Fact.mk (count_mark (x := ⟨id, nm, ats, true, ms, .slice aa an ac⟩) p 1 w3 rfl ⟨_, _, _, rfl⟩)
      go_wp2_with (go_at_call 45; refine HCT.out.mono ?_; rintro e w4 ⟨rfl, hb4⟩; have HB4 := Fact.mk hb4; clear hb4)
      go_end0
      refine ⟨rfl, ⟨_, FL.turn F1.out F2.out F3.out F4.out (KeepX.of_below HB4.out) ?_ (by simp; omega) (by omega) HF.out.at' F6.out, F5.out.trans (A1 := fun _ => False) (KeepX.of_below HB4.out) (fun _ _ h => h.elim), HBL.out⟩⟩
      have e := funext (take_drop_ins L i ⟨id, nm, ats, true, ms, .slice aa an ac⟩ · rfl)
      rw [show cnt (L.take i ++ (⟨id, nm, ats, true, ms, .slice aa an ac⟩ : It) :: L.drop i) = cnt L from e]
      obtain ⟨es, clock, hm⟩ := F4.out.isMap
      exact (F4.out.block (HB4.out.block mb (Array.getElem?_eq_some_iff.1 hm).1)).mono (by omega)
    | false =>
      have hle := cnt_le L (It.ky ⟨id, nm, ats, false, ms, .slice aa an ac⟩)
      have HCT := Fact.mk (count_any (x := ⟨id, nm, ats, false, ms, .slice aa an ac⟩) p mb c (cnt L) 1 _ _ w3 rfl HX.out (RowOn.own (F3.out _ (by simp)) (rowA_one _)) F1.out F4.out (by omega) rfl (by omega))
      clear hle
      go_wp2_with (go_at_call 45; refine HCT.out.mono ?_; rintro e w4 ⟨rfl, m4, k4⟩; have M4 := Fact.mk m4; have K4 := Fact.mk k4; clear m4 k4)
      go_end0
      refine ⟨rfl, ⟨_, FL.turn F1.out F2.out F3.out F4.out K4.out ?_ (by simp; omega) (by omega) HF.out.at' F6.out, F5.out.trans K4.out (fun _ _ h => .inr (.inl h)), HBL.out⟩⟩
      rw [cnt_ins L i _ rfl]
      exact M4.out
end Go.Proofs.YtjlijpaefdbohaaDoor
