/- insertError and Insert at the Root. -/
import Derived.Test.YtllimmmgjpnhkaaDomF
import Derived.Deep.RegionHeld3
import Derived.Deep.DeepCutAuto
set_option linter.unusedVariables false
set_option linter.unusedSimpArgs false
namespace Go.Proofs.Ytllimmmgjpnhkaa
open Go.Deep (BT)
open Go.RowKit M

theorem field_kind (w : World) (K : Int) (N X : ByteArray) (a2 : Option Addr) (l2 c2 : Nat) :
    (Instr.field 25 (.agg #[.int .i64 K, .string N, .string X, .slice a2 l2 c2, .slice none 0 0]) 0).run Try.prog w = .ok (.int .i64 K) w := by kernel_rfl
set_option maxRecDepth 20000 in
set_option maxHeartbeats 4000000 in
theorem dinsertError_root (L : List DN) (B p mb : Nat) (v : Value) (w : World) (x q : Int) (a i : Nat) (y : DN) (Kd : Int) (N X : ByteArray) (h : Arena w B p L v mb) (hx : Is64 x) (hno : placeOf L x = none) (h1 : 1 ≤ x) (h2 : x ≤ 1048576) (hq : Is64 q) (hp : placeOf L q = some (i : Int)) (hi : L[i]? = some y) (hy : y.par = -1) (hyk : y.d.k = 1) (hn : placeOf L (-1) = none)
    (hlen : L.length < 300) (ha : a ≤ y.kids.length) (hk : y.kids.length ≤ 1000) (hr : Fact (treeOK rootD (.node 0 0 ⟨Kd, N, X, []⟩ .nil .nil) = true)) :
    Calls Try.prog 56 #[.pointer (some ⟨p, 0, none⟩), .int .i64 x, .int .i64 q, .int .i64 a, nodeV ⟨Kd, N, X, []⟩ (.slice none 0 0) (.slice none 0 0)] w fun e w' => e = .returned (.int .i64 0) ∧ Below w.heap.size w w' := by
  obtain ⟨W, hW⟩ : ∃ W, w.alloc (.cells #[.int .i64 Kd, .string N, .string X, .slice none 0 0, .slice none 0 0] 25) = W := ⟨_, rfl⟩
  obtain ⟨hz, hbW, hnew⟩ := five_one hW
  obtain ⟨x0, x1, x2, x3, x4, _⟩ := five_at hnew
  have hAW := h.below hbW (Nat.le_refl _)
  have hs : (placeOf L q).isSome = true := by simp [hp]
  obtain ⟨ya, yc, eyk, _⟩ := own_val (h.kids y (List.mem_of_getElem? hi))
  obtain ⟨za, zc, eya, _⟩ := own_val (h.ats y (List.mem_of_getElem? hi))
  have HAW := Fact.mk hAW
  have HBW := Fact.mk hbW
  have HNEW := Fact.mk hnew
  have HZ := Fact.mk hz
  have HP := Fact.mk hp
  have HI := Fact.mk hi
  have HFREE := Fact.mk (dfree_yes L B p mb v W x hAW hx hno h1 h2)
  have HNN := Fact.mk hn
  obtain ⟨yid, ypar, ykids, ⟨yK, yN, yX, yA⟩, ykv, yav⟩ := y
  dsimp only at hy hyk eyk eya ha hk
  subst eyk eya hy hyk
  have a0 : decide ((a : Int) < 0) = false := decide_eq_false (by omega)
  have a1 : decide ((ykids.length : Int) < a) = false := decide_eq_false (by omega)
  have l1 : decide ((300 : Int) ≤ L.length) = false := decide_eq_false (by omega)
  have l2 : decide (300 ≤ L.length) = false := decide_eq_false (by omega)
  have l3 : (L.length : Int) < 300 := by omega
  clear h hbW hnew hz hp hi hno hn hAW
  go_enter Try.func56, Try.ntmps56
  go_upto_region 7 with (first
    | (go_at_call 90; refine HFREE.out.mono ?_; rintro e w9 ⟨rfl, h9⟩; have h9' := h9.symm; subst h9'; clear h9)
    | (go_at_call 91; refine (dmayBeNew_any Kd N X true _ hr).mono ?_; rintro e w1 ⟨rfl, hb1⟩; have HB1 := Fact.mk hb1; have HA1 := Fact.mk (HAW.out.below hb1 (Nat.le_refl _)); have hn1 := (hb1.block _ (by have := HZ.out; omega)).trans HNEW.out; have HN1 := Fact.mk hn1; obtain ⟨y0, _⟩ := five_at hn1; clear hb1 hn1)
    | (go_at_call 27; refine (dLen_any L B p mb v _ HA1.out).mono ?_; rintro e w9 ⟨rfl, h9⟩; have h9' := h9.symm; subst h9'; clear h9)
    | (go_at_call 35; refine (dHas_any L B p mb v _ q HA1.out hq).mono ?_; rintro e w9 ⟨rfl, h9⟩; have h9' := h9.symm; subst h9'; clear h9))
  have y0' : w1.drew.cell? ⟨w.heap.size, 0, none⟩ = some (.int .i64 Kd) := y0
  refine wp_region_held_drew (S := fun W9 => W9.cell? ⟨w.heap.size, 0, none⟩ = some (.int .i64 Kd)) (by kernel_rfl) y0' (fun _ => ?_)
  refine wpAnyH_take (i := 0) (v := ?v0n1) rfl (by kernel_rfl) (by kernel_rfl) (by kernel_rfl) (fun _ _ _ h => h) (Or.inl ⟨by rfl, ?hy0n1⟩) y0' ?rr0n1
  case hy0n1 =>
    intro w hSw
    go_simp
    try with_reducible rfl
  try simp only [Act.put, List.getElem_toArray, List.getElem_cons_succ, List.getElem_cons_zero, List.setIfInBounds_toArray, List.set_cons_zero, List.set_cons_succ]
  refine wpAnyH_take (i := 1) (v := ?v1n2) rfl (by kernel_rfl) (by kernel_rfl) (by kernel_rfl) (fun _ _ _ h => h) (Or.inl ⟨by rfl, ?hy1n2⟩) y0' ?rr1n2
  case hy1n2 =>
    intro w hSw
    go_simp
    try with_reducible rfl
  try simp only [Act.put, List.getElem_toArray, List.getElem_cons_succ, List.getElem_cons_zero, List.setIfInBounds_toArray, List.set_cons_zero, List.set_cons_succ]
  refine wpAnyH_take (i := 5) (v := ?v5n3) rfl (by kernel_rfl) (by kernel_rfl) (by kernel_rfl) (fun _ _ _ h => h) (Or.inl ⟨by rfl, ?hy5n3⟩) y0' ?rr5n3
  case hy5n3 =>
    intro w hSw
    go_simp
    try with_reducible rfl
  try simp only [Act.put, List.getElem_toArray, List.getElem_cons_succ, List.getElem_cons_zero, List.setIfInBounds_toArray, List.set_cons_zero, List.set_cons_succ]
  refine wpAnyH_take (i := 6) (v := ?v6n4) rfl (by kernel_rfl) (by kernel_rfl) (by kernel_rfl) (fun _ _ _ h => h) (Or.inl ⟨by rfl, ?hy6n4⟩) y0' ?rr6n4
  case hy6n4 =>
    intro w hSw
    go_simp
    try with_reducible rfl
  try simp only [Act.put, List.getElem_toArray, List.getElem_cons_succ, List.getElem_cons_zero, List.setIfInBounds_toArray, List.set_cons_zero, List.set_cons_succ]
  refine wpAnyH_ready (rs := [2]) (by kernel_rfl) (by simp) ?_
  refine AllReadyH.cons rfl (fun K hK => ?_) AllReadyH.nil
  go_simp
  refine (dnode_any L B p mb v w1.drew q i _ (HA1.out.below (Below.refl _ _).drew (Nat.le_refl _)) hq HP.out HI.out).mono ?_
  rintro e w2 ⟨rfl, hb2⟩
  have z0 : w2.cell? ⟨w.heap.size, 0, none⟩ = some (.int .i64 Kd) := (hb2.cell (p := ⟨w.heap.size, 0, none⟩) (World.block_lt_of_cell? _ _ y0')).trans y0'
  dsimp only [valN]
  refine hK.out _ _ z0 (fun _ => ?_)
  clear hK K
  have HB2 := Fact.mk hb2
  have hfs : ∀ w9, _ := fun w9 => field_self w9 yid (-1) 1 yN yX ya za ykids.length yc yA.length zc
  have hfk2 : ∀ w9, _ := fun w9 => field_kind w9 1 yN yX za yA.length zc
  refine wpAnyH_take (i := 3) (v := ?v3n5) rfl (by kernel_rfl) (by kernel_rfl) (by kernel_rfl) (fun _ _ _ h => h) (Or.inl ⟨by rfl, ?hy3n5⟩) z0 ?rr3n5
  case hy3n5 =>
    intro w hSw
    go_simp
    try with_reducible rfl
  try simp only [Act.put, List.getElem_toArray, List.getElem_cons_succ, List.getElem_cons_zero, List.setIfInBounds_toArray, List.set_cons_zero, List.set_cons_succ]
  refine wpAnyH_take (i := 4) (v := ?v4n6) rfl (by kernel_rfl) (by kernel_rfl) (by kernel_rfl) (fun _ _ _ h => h) (Or.inl ⟨by rfl, ?hy4n6⟩) z0 ?rr4n6
  case hy4n6 =>
    intro w hSw
    go_simp
    try with_reducible rfl
  try simp only [Act.put, List.getElem_toArray, List.getElem_cons_succ, List.getElem_cons_zero, List.setIfInBounds_toArray, List.set_cons_zero, List.set_cons_succ]
  refine wpAnyH_ready (rs := [7]) (by kernel_rfl) (by simp) ?_
  refine AllReadyH.cons rfl (fun K hK => ?_) AllReadyH.nil
  go_simp
  refine (dmayHold_root Kd w2).mono ?_
  rintro e w9 ⟨rfl, h9⟩
  have h9' := h9.symm
  subst h9'
  dsimp only
  refine hK.out _ _ z0 (fun _ => ?_)
  clear hK K h9
  refine wpAnyH_ready (rs := [8]) (by kernel_rfl) (by simp) ?_
  refine AllReadyH.cons rfl (fun K hK => ?_) AllReadyH.nil
  go_simp
  refine hK.out _ _ z0 (fun _ => ?_)
  clear hK K
  refine wpAnyH_ready (rs := [9]) (by kernel_rfl) (by simp) ?_
  refine AllReadyH.cons rfl (fun K hK => ?_) AllReadyH.nil
  go_simp
  refine hK.out _ _ z0 (fun _ => ?_)
  clear hK K
  refine wpAnyH_done (by kernel_rfl) ?_ _
  have HA2 := Fact.mk ((HA1.out.below (Below.refl _ _).drew (Nat.le_refl _)).below HB2.out (Nat.le_refl _))
  clear hb2 hfs hfk2
  go_wp2_with (first
    | (go_at_call 59; refine (dnode_any L B p mb v _ q i _ HA2.out hq HP.out HI.out).mono ?_; rintro e w3 ⟨rfl, hb3⟩; have HB3 := Fact.mk hb3; have HA3 := Fact.mk (HA2.out.below hb3 (Nat.le_refl _)); clear hb3; dsimp only [valN]; have hfk := field_kids w3 yid (-1) 1 yN yX ya za ykids.length yc yA.length zc)
    | (go_at_call 93; refine (ddepth_root L B p mb v _ q i _ HA3.out hq HP.out HI.out rfl HNN.out).mono ?_; rintro e w4 ⟨rfl, hb4⟩; have HB4 := Fact.mk hb4; clear hb4))
  go_ret
  have r1 := HBW.out
  have r2 := HB1.out
  have r3 : Below w1.heap.size w1 w2 := ⟨HB2.out.os, HB2.out.tape, HB2.out.output, HB2.out.size, HB2.out.block⟩
  have s1 := r1.size
  have s2 := r2.size
  have s3 := r3.size
  have s4 := HB3.out.size
  exact ⟨rfl, (((r1.trans (r2.mono s1)).trans (r3.mono (by omega))).trans (HB3.out.mono (by omega))).trans (HB4.out.mono (by omega))⟩
end Go.Proofs.Ytllimmmgjpnhkaa
