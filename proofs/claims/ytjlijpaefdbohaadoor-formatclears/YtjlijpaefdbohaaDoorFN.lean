/- count: how many entries there are of a key, told anew. -/
import Derived.Test.YtjlijpaefdbohaaDoorFM
import Derived.Deep.RegionHeld
import Derived.OrdersHeld
set_option linter.unusedVariables false
set_option linter.unusedSimpArgs false
namespace Go.Proofs.YtjlijpaefdbohaaDoor
open Go.RowKit

theorem wp_run_known {Q : Exit → Act → World → Prop} {o : Oper} {a : Act} {w : World} {K : Act → World → Prop} {v : Value} {w' : World} (hr : (execOp a.eval o).run Tryd.prog w = .ok (.value v) w') (h : K (a.put o.dst v) w') : o.wp Tryd.prog a w K Q := by
  unfold Oper.wp
  rw [hr]
  exact h

open Classical in
theorem fun_upd (f : Ky → Int) (k : Ky) : (fun z => if z = k then (0 : Int) else (fun z => if z = k then (0 : Int) else f z) z) = (fun z => if z = k then (0 : Int) else f z) := by
  funext z
  by_cases e : z = k <;> simp [e]

set_option maxRecDepth 20000 in
set_option maxHeartbeats 1000000 in
theorem count_mark (x : It) (p : Nat) (more : Int) (w : World) (hm : x.mr = true) (ha : ∃ a n c, x.av = .slice a n c) :
    Calls Tryd.prog 45 #[.pointer (some ⟨p, 0, none⟩), itV x, .int .i64 more] w fun e w' => e = .returned (.tuple #[]) ∧ Below w.heap.size w w' := by
  obtain ⟨id, nm, ats, mr, ms, av⟩ := x
  dsimp only at hm ha ⊢
  subst hm
  obtain ⟨a, n, c, rfl⟩ := ha
  obtain ⟨W, hW⟩ : ∃ W, w.alloc (.cells #[.int .i64 id, .string nm, .slice a n c, .bool true, .int .i64 ms] 68) = W := ⟨_, rfl⟩
  obtain ⟨hb, z0, z1, z2, z3, z4⟩ := five_new hW
  have HB := Fact.mk hb
  have HW := Fact.mk hW
  clear hb hW
  go_enter Tryd.func45, Tryd.ntmps45
  go_wp2
  refine bodyPost_ret (results_none rfl _ _ _) rfl ?_
  exact ⟨rfl, by rw [HW.out]; exact HB.out⟩

open Classical in
set_option maxRecDepth 20000 in
set_option maxHeartbeats 2000000 in
theorem count_any (x : It) (p mb c : Nat) (f : Ky → Int) (more y : Int) (u : Value) (w : World) (hm : x.mr = false) (hx : x.Ok) (hon : RowOn w x.av x.ats.length 2 (rowA x.ats)) (hbox : w.heap[p]? = some (.cells #[u, .map (some mb)] 65)) (hK : MapK w mb c f) (hc : c ≤ 100000)
    (hy : f x.ky + more = y) (hy0 : 0 ≤ y ∧ y ≤ 1000000) :
    Calls Tryd.prog 45 #[.pointer (some ⟨p, 0, none⟩), itV x, .int .i64 more] w fun e w' => e = .returned (.tuple #[]) ∧ MapK w' mb (c + 1) (fun z => if z = x.ky then y else f z) ∧ KeepX w w' (fun k => k = mb) := by
  obtain ⟨id, nm, ats, mr, ms, av⟩ := x
  dsimp only at hm hon ⊢
  subst hm
  obtain ⟨a, cp, ev, _⟩ := hon.at'
  subst ev
  obtain ⟨k, hk⟩ : ∃ k : Ky, (⟨ms, nm, ats⟩ : Ky) = k := ⟨_, rfl⟩
  have hky : It.ky ⟨id, nm, ats, false, ms, .slice a ats.length cp⟩ = k := hk
  rw [hky] at hy ⊢
  have hkok : k.Ok := hky ▸ hx.ky
  have hats : ats.length ≤ 12 := hx.ky.ats
  obtain ⟨W, hW⟩ : ∃ W, w.alloc (.cells #[.int .i64 id, .string nm, .slice a ats.length cp, .bool false, .int .i64 ms] 68) = W := ⟨_, rfl⟩
  obtain ⟨hb, z0, z1, z2, z3, z4⟩ := five_new hW
  have hon2 := hon.below hb
  have hp : p < w.heap.size := (Array.getElem?_eq_some_iff.1 hbox).1
  obtain ⟨es, clock, hmb⟩ := hK.isMap
  have hmbl : mb < w.heap.size := (Array.getElem?_eq_some_iff.1 hmb).1
  have hkey := keyOf_any id ms nm ats _ W hon2 hats
  rw [hk] at hkey
  have HKEY := Fact.mk hkey
  have HW := Fact.mk hW
  have HB := Fact.mk hb
  have HBX := Fact.mk hbox
  have HM := Fact.mk hK
  have HP := Fact.mk hp
  have HMB := Fact.mk hmbl
  have HOK := Fact.mk hkok
  have HC := Fact.mk hc
  have HY0 := Fact.mk hy0
  have h28 := kC_len k hkok
  have H28 := Fact.mk h28
  have IY : Fact (Is64 y) := ⟨⟨WalkArith.wf_i64 (by omega)⟩⟩
  obtain ⟨K0, hK0⟩ : ∃ K0, (mK 0 ⟨#[]⟩ 0).toArray = K0 := ⟨_, rfl⟩
  have HK0 := Fact.mk hK0
  have HK0s : Fact (K0.size = 28) := ⟨by rw [← hK0]; rfl⟩
  clear hkey hW hb hbox hK hon hon2 hx hp hmbl hkok hmb hc hy0 hk hky hats hK0
  generalize ats.length = an at *
  go_enter Tryd.func45, Tryd.ntmps45
  go_wp2_with (first
    | (go_at_call 41; rw [HW.out]; refine HKEY.out.mono ?_; rintro e w1 ⟨rfl, hb1⟩; have HB1 := Fact.mk (HB.out.trans (hb1.mono HB.out.size)); clear hb1 HKEY; unfold kV; have hst := run_storeK (w1.alloc (.cells K0 77)) w1.heap.size K0 (kC k) (heap_alloc_new w1 _) H28.out HK0s.out (kC_one _); have hkb := setRow_heap (w1.alloc (.cells K0 77)) w1.heap.size K0 (kC k).toArray 77 (0, 0) (heap_alloc_new w1 _); have hb3 := below_setRow ((Below.refl w1.heap.size w1).alloc (Nat.le_refl _) (.cells K0 77)) (Nat.le_refl _) (kC k).toArray; obtain ⟨w3, hw3⟩ : ∃ w3, (w1.alloc (.cells K0 77)).setRow w1.heap.size (kC k).toArray = w3 := ⟨_, rfl⟩; rw [hw3] at hst hkb hb3; have HKB := Fact.mk hkb; have HB3 := Fact.mk (HB1.out.trans (hb3.mono HB1.out.size)); have HZ1 := Fact.mk HB1.out.size; clear hw3 hkb hb3)
    | (with_reducible refine wpList_allocK rfl rfl ?_; rw [HK0.out]))
  obtain ⟨kb, hkb⟩ : ∃ kb, w1.heap.size = kb := ⟨_, rfl⟩
  rw [hkb] at HKB HZ1 ⊢
  clear hst hkb HB1
  have b3 : w3.heap[p]? = some (.cells #[u, .map (some mb)] 65) := (HB3.out.block p HP.out).trans HBX.out
  have m3 : MapK w3 mb c f := HM.out.block (HB3.out.block mb HMB.out)
  obtain ⟨v0, st, w4, r1, m4, g4, hs4⟩ := MapK.entry (w := w3.drew) (m3.block rfl) HOK.out (by have := HC.out; unfold maxLen; omega)
  obtain ⟨w5, r2, m5, g5⟩ := hs4 w4 y rfl IY.out
  have l3 := MapK.look (w := w3.drew) (m3.block rfl) HOK.out
  have l4 := m4.look HOK.out
  have l5 := MapK.look (w := w5.drew) (m5.block rfl) HOK.out
  simp only [if_true] at l5
  have hkbz : kb < w3.heap.size := (Array.getElem?_eq_some_iff.1 HKB.out).1
  have hmk : mb ≠ kb := by have := HMB.out; have := HZ1.out; omega
  have hpm : p ≠ mb := fun e => by
    obtain ⟨es, clock, e2⟩ := HM.out.isMap
    rw [← e, HBX.out] at e2; cases e2
  have hp3 : p < w3.heap.size := Nat.lt_of_lt_of_le HP.out HB3.out.size
  have b4 : w4.heap[p]? = some (.cells #[u, .map (some mb)] 65) := (g4.block p hp3 (fun e => hpm (Option.some.inj e))).trans b3
  have k4 : w4.heap[kb]? = some (.cells (kC k).toArray 77 (0, 0)) := (g4.block kb hkbz (fun e => hmk (Option.some.inj e).symm)).trans HKB.out
  have b5 : w5.heap[p]? = some (.cells #[u, .map (some mb)] 65) := (g5.block p (Nat.lt_of_lt_of_le hp3 g4.size) (fun e => hpm (Option.some.inj e))).trans b4
  have k5 : w5.heap[kb]? = some (.cells (kC k).toArray 77 (0, 0)) := (g5.block kb (Nat.lt_of_lt_of_le hkbz g4.size) (fun e => hmk (Option.some.inj e).symm)).trans k4
  obtain ⟨w6, r6, m6, g6⟩ := MapK.drop (w := w5.drew.drew) (m5.block rfl) HOK.out 0
  have KX5 : Fact (KeepX w w5 (fun k => k = mb)) := ⟨(KeepX.of_below HB3.out).trans (KeepX.trans (A := fun k => k = mb) (KeepX.of_grown (w := w3) (w' := w4) ⟨g4.os, g4.tape, g4.output, g4.size, g4.block⟩ (fun k e => (Option.some.inj e).symm)) (KeepX.of_grown g5 (fun k e => (Option.some.inj e).symm)) (fun _ _ h => h)) (fun _ _ h => h)⟩
  have M5 := Fact.mk m5
  have M6 := Fact.mk m6
  have KX6 : Fact (KeepX w5 w6 (fun k => k = mb)) := ⟨KeepX.of_grown ⟨g6.os, g6.tape, g6.output, g6.size, g6.block⟩ (fun k e => (Option.some.inj e).symm)⟩
  have S3 : w3.drew.cell? ⟨p, 1, none⟩ = some (.map (some mb)) ∧ w3.drew.heap[kb]? = some (.cells (kC k).toArray 77 (0, 0)) := ⟨by show w3.cell? _ = _; simp only [World.cell?, b3]; rfl, HKB.out⟩
  have S4 : w4.cell? ⟨p, 1, none⟩ = some (.map (some mb)) ∧ w4.heap[kb]? = some (.cells (kC k).toArray 77 (0, 0)) := ⟨by simp [World.cell?, b4], k4⟩
  have S5 : w5.cell? ⟨p, 1, none⟩ = some (.map (some mb)) ∧ w5.heap[kb]? = some (.cells (kC k).toArray 77 (0, 0)) := ⟨by simp [World.cell?, b5], k5⟩
  have hwy : IntKind.i64.wrap y = y := by rw [IntKind.wrap_i64]; have := HY0.out; omega
  have c5 : w5.cell? ⟨p, 1, none⟩ = some (.map (some mb)) := S5.1
  have S6 : w6.cell? ⟨p, 1, none⟩ = some (.map (some mb)) ∧ w6.heap[kb]? = some (.cells (kC k).toArray 77 (0, 0)) := by
    have hp5 : p < w5.heap.size := (Array.getElem?_eq_some_iff.1 b5).1
    have hk5 : kb < w5.heap.size := (Array.getElem?_eq_some_iff.1 k5).1
    have e1 : w6.heap[p]? = some (.cells #[u, .map (some mb)] 65) := (g6.block p hp5 (fun e => hpm (Option.some.inj e))).trans b5
    exact ⟨by simp [World.cell?, e1], (g6.block kb hk5 (fun e => hmk (Option.some.inj e).symm)).trans k5⟩
  unfold kV at l3 l4 l5 r1 r6
  simp only [goInt] at r1 r2
  clear m3 m4 m5 m6 g4 g5 g6 hs4 b3 b4 k4 b5 hkbz hmk hpm hp3
  refine wp_region_held_drew (S := fun W => W.cell? ⟨p, 1, none⟩ = some (.map (some mb)) ∧ W.heap[kb]? = some (.cells (kC k).toArray 77 (0, 0))) (by kernel_rfl) S3 (fun _ => ?_)
  refine wpAnyH_take (i := 0) (v := ?v0n1) rfl (by kernel_rfl) (by kernel_rfl) (by kernel_rfl) (fun _ _ _ h => h) (Or.inl ⟨by rfl, ?hy0n1⟩) S3 ?rr0n1
  case hy0n1 =>
    intro w hSw
    go_simp
    try with_reducible rfl
  try simp only [Act.put, List.getElem_toArray, List.getElem_cons_succ, List.getElem_cons_zero, List.setIfInBounds_toArray, List.set_cons_zero, List.set_cons_succ]
  refine wpAnyH_take (i := 1) (v := ?v1n2) rfl (by kernel_rfl) (by kernel_rfl) (by kernel_rfl) (fun _ _ _ h => h) (Or.inl ⟨by rfl, ?hy1n2⟩) S3 ?rr1n2
  case hy1n2 =>
    intro w hSw
    go_simp
    try with_reducible rfl
  try simp only [Act.put, List.getElem_toArray, List.getElem_cons_succ, List.getElem_cons_zero, List.setIfInBounds_toArray, List.set_cons_zero, List.set_cons_succ]
  refine wpAnyH_take (i := 2) (v := ?v2n3) rfl (by kernel_rfl) (by kernel_rfl) (by kernel_rfl) (fun _ _ _ h => h) (Or.inl ⟨by rfl, ?hy2n3⟩) S3 ?rr2n3
  case hy2n3 =>
    intro w hSw
    go_simp
    try with_reducible rfl
  try simp only [Act.put, List.getElem_toArray, List.getElem_cons_succ, List.getElem_cons_zero, List.setIfInBounds_toArray, List.set_cons_zero, List.set_cons_succ]
  refine wpAnyH_take (i := 3) (v := ?v3n4) rfl (by kernel_rfl) (by kernel_rfl) (by kernel_rfl) (fun _ _ _ h => h) (Or.inl ⟨by rfl, ?hy3n4⟩) S3 ?rr3n4
  case hy3n4 =>
    intro w hSw
    go_simp
    try with_reducible rfl
  try simp only [Act.put, List.getElem_toArray, List.getElem_cons_succ, List.getElem_cons_zero, List.setIfInBounds_toArray, List.set_cons_zero, List.set_cons_succ]
  refine wpAnyH_take (i := 4) (v := .agg (kC k).toArray) rfl (by kernel_rfl) (by kernel_rfl) (by kernel_rfl) (fun _ _ _ h => h) (Or.inl ⟨by rfl, ?hy4⟩) S3 ?rr4
  case hy4 => intro w' hSw; exact exec_loadK (.tmp 6) rfl kb rfl (kC k) hSw.2 H28.out
  try simp only [Act.put, List.getElem_toArray, List.getElem_cons_succ, List.getElem_cons_zero, List.setIfInBounds_toArray, List.set_cons_zero, List.set_cons_succ]
  refine wpAnyH_take (i := 6) (v := ?v6n5) rfl (by kernel_rfl) (by kernel_rfl) (by kernel_rfl) (fun _ _ _ h => h) (Or.inl ⟨by rfl, ?hy6n5⟩) S3 ?rr6n5
  case hy6n5 =>
    intro w hSw
    go_simp
    try with_reducible rfl
  try simp only [Act.put, List.getElem_toArray, List.getElem_cons_succ, List.getElem_cons_zero, List.setIfInBounds_toArray, List.set_cons_zero, List.set_cons_succ]
  refine wpAnyH_ready (rs := [5, 8]) (by kernel_rfl) (by simp) ?_
  refine AllReadyH.cons rfl (fun K hK => ?_) (AllReadyH.cons rfl (fun K hK => ?_) AllReadyH.nil)
  · go_simp
    refine hK.out _ _ S3 (fun _ => ?_)
    clear hK K
    refine wpAnyH_take (i := 7) (v := ?v7n6) rfl (by kernel_rfl) (by kernel_rfl) (by kernel_rfl) (fun _ _ _ h => h) (Or.inl ⟨by rfl, ?hy7n6⟩) S3 ?rr7n6
    case hy7n6 =>
      intro w hSw
      go_simp
      try with_reducible rfl
    try simp only [Act.put, List.getElem_toArray, List.getElem_cons_succ, List.getElem_cons_zero, List.setIfInBounds_toArray, List.set_cons_zero, List.set_cons_succ]
    refine wpAnyH_ready (rs := [8]) (by kernel_rfl) (by simp) ?_
    refine AllReadyH.cons rfl (fun K hK => ?_) AllReadyH.nil
    go_simp
    refine hK.out _ _ S4 (fun _ => ?_)
    clear hK K
    refine wpAnyH_take (i := 9) (v := ?v9n7) rfl (by kernel_rfl) (by kernel_rfl) (by kernel_rfl) (fun _ _ _ h => h) (Or.inl ⟨by rfl, ?hy9n7⟩) S4 ?rr9n7
    case hy9n7 =>
      intro w hSw
      go_simp
      try with_reducible rfl
    try simp only [Act.put, List.getElem_toArray, List.getElem_cons_succ, List.getElem_cons_zero, List.setIfInBounds_toArray, List.set_cons_zero, List.set_cons_succ]
    refine wpAnyH_ready (rs := [10]) (by kernel_rfl) (by simp) ?_
    refine AllReadyH.cons rfl (fun K hK => ?_) AllReadyH.nil
    go_simp
    refine hK.out _ _ S5 (fun _ => ?_)
    clear hK K
    refine wpAnyH_done (by kernel_rfl) ?_ _
    go_wp2_with fail
    refine wp_region_held_drew (S := fun W => W = w5.drew) (by kernel_rfl) rfl (fun _ => ?_)
    refine wpAnyH_take (i := 0) (v := ?v0n8) rfl (by kernel_rfl) (by kernel_rfl) (by kernel_rfl) (fun _ _ _ h => h) (Or.inl ⟨by rfl, ?hy0n8⟩) rfl ?rr0n8
    case hy0n8 =>
      intro w hSw
      subst hSw
      go_simp
      try with_reducible rfl
    try simp only [Act.put, List.getElem_toArray, List.getElem_cons_succ, List.getElem_cons_zero, List.setIfInBounds_toArray, List.set_cons_zero, List.set_cons_succ]
    refine wpAnyH_take (i := 1) (v := ?v1n9) rfl (by kernel_rfl) (by kernel_rfl) (by kernel_rfl) (fun _ _ _ h => h) (Or.inl ⟨by rfl, ?hy1n9⟩) rfl ?rr1n9
    case hy1n9 =>
      intro w hSw
      subst hSw
      go_simp
      try with_reducible rfl
    try simp only [Act.put, List.getElem_toArray, List.getElem_cons_succ, List.getElem_cons_zero, List.setIfInBounds_toArray, List.set_cons_zero, List.set_cons_succ]
    refine wpAnyH_take (i := 2) (v := ?v2n10) rfl (by kernel_rfl) (by kernel_rfl) (by kernel_rfl) (fun _ _ _ h => h) (Or.inl ⟨by rfl, ?hy2n10⟩) rfl ?rr2n10
    case hy2n10 =>
      intro w hSw
      subst hSw
      go_simp
      try with_reducible rfl
    try simp only [Act.put, List.getElem_toArray, List.getElem_cons_succ, List.getElem_cons_zero, List.setIfInBounds_toArray, List.set_cons_zero, List.set_cons_succ]
    refine wpAnyH_take (i := 3) (v := ?v3n11) rfl (by kernel_rfl) (by kernel_rfl) (by kernel_rfl) (fun _ _ _ h => h) (Or.inl ⟨by rfl, ?hy3n11⟩) rfl ?rr3n11
    case hy3n11 =>
      intro w hSw
      subst hSw
      go_simp
      try with_reducible rfl
    try simp only [Act.put, List.getElem_toArray, List.getElem_cons_succ, List.getElem_cons_zero, List.setIfInBounds_toArray, List.set_cons_zero, List.set_cons_succ]
    refine wpAnyH_take (i := 4) (v := .agg (kC k).toArray) rfl (by kernel_rfl) (by kernel_rfl) (by kernel_rfl) (fun _ _ _ h => h) (Or.inl ⟨by rfl, ?hy4a⟩) rfl ?rr4a
    case hy4a => intro w' hSw; rw [hSw]; exact exec_loadK (.tmp 6) rfl kb rfl (kC k) k5 H28.out
    try simp only [Act.put, List.getElem_toArray, List.getElem_cons_succ, List.getElem_cons_zero, List.setIfInBounds_toArray, List.set_cons_zero, List.set_cons_succ]
    refine wpAnyH_take (i := 5) (v := ?v5n12) rfl (by kernel_rfl) (by kernel_rfl) (by kernel_rfl) (fun _ _ _ h => h) (Or.inl ⟨by rfl, ?hy5n12⟩) rfl ?rr5n12
    case hy5n12 =>
      intro w hSw
      subst hSw
      go_simp
      try with_reducible rfl
    try simp only [Act.put, List.getElem_toArray, List.getElem_cons_succ, List.getElem_cons_zero, List.setIfInBounds_toArray, List.set_cons_zero, List.set_cons_succ]
    refine wpAnyH_take (i := 6) (v := ?v6n13) rfl (by kernel_rfl) (by kernel_rfl) (by kernel_rfl) (fun _ _ _ h => h) (Or.inl ⟨by rfl, ?hy6n13⟩) rfl ?rr6n13
    case hy6n13 =>
      intro w hSw
      subst hSw
      go_simp
      try with_reducible rfl
    try simp only [Act.put, List.getElem_toArray, List.getElem_cons_succ, List.getElem_cons_zero, List.setIfInBounds_toArray, List.set_cons_zero, List.set_cons_succ]
    refine wpAnyH_done (by kernel_rfl) ?_ _
    by_cases hq : y = 0
    · subst hq
      go_wp2_with fail
      refine wp_region_held_drew (S := fun W => W.cell? ⟨p, 1, none⟩ = some (.map (some mb)) ∧ W.heap[kb]? = some (.cells (kC k).toArray 77 (0, 0))) (by kernel_rfl) S5 (fun _ => ?_)
      refine wpAnyH_take (i := 0) (v := ?v0n14) rfl (by kernel_rfl) (by kernel_rfl) (by kernel_rfl) (fun _ _ _ h => h) (Or.inl ⟨by rfl, ?hy0n14⟩) S5 ?rr0n14
      case hy0n14 =>
        intro w hSw
        go_simp
        try with_reducible rfl
      try simp only [Act.put, List.getElem_toArray, List.getElem_cons_succ, List.getElem_cons_zero, List.setIfInBounds_toArray, List.set_cons_zero, List.set_cons_succ]
      refine wpAnyH_take (i := 1) (v := ?v1n15) rfl (by kernel_rfl) (by kernel_rfl) (by kernel_rfl) (fun _ _ _ h => h) (Or.inl ⟨by rfl, ?hy1n15⟩) S5 ?rr1n15
      case hy1n15 =>
        intro w hSw
        go_simp
        try with_reducible rfl
      try simp only [Act.put, List.getElem_toArray, List.getElem_cons_succ, List.getElem_cons_zero, List.setIfInBounds_toArray, List.set_cons_zero, List.set_cons_succ]
      refine wpAnyH_take (i := 2) (v := ?v2n16) rfl (by kernel_rfl) (by kernel_rfl) (by kernel_rfl) (fun _ _ _ h => h) (Or.inl ⟨by rfl, ?hy2n16⟩) S5 ?rr2n16
      case hy2n16 =>
        intro w hSw
        go_simp
        try with_reducible rfl
      try simp only [Act.put, List.getElem_toArray, List.getElem_cons_succ, List.getElem_cons_zero, List.setIfInBounds_toArray, List.set_cons_zero, List.set_cons_succ]
      refine wpAnyH_take (i := 3) (v := ?v3n17) rfl (by kernel_rfl) (by kernel_rfl) (by kernel_rfl) (fun _ _ _ h => h) (Or.inl ⟨by rfl, ?hy3n17⟩) S5 ?rr3n17
      case hy3n17 =>
        intro w hSw
        go_simp
        try with_reducible rfl
      try simp only [Act.put, List.getElem_toArray, List.getElem_cons_succ, List.getElem_cons_zero, List.setIfInBounds_toArray, List.set_cons_zero, List.set_cons_succ]
      refine wpAnyH_take (i := 4) (v := .agg (kC k).toArray) rfl (by kernel_rfl) (by kernel_rfl) (by kernel_rfl) (fun _ _ _ h => h) (Or.inl ⟨by rfl, ?hz4a⟩) S5 ?sr4a
      case hz4a => intro w' hSw; exact exec_loadK (.tmp 6) rfl kb rfl (kC k) hSw.2 H28.out
      try simp only [Act.put, List.getElem_toArray, List.getElem_cons_succ, List.getElem_cons_zero, List.setIfInBounds_toArray, List.set_cons_zero, List.set_cons_succ]
      refine wpAnyH_ready (rs := [5]) (by kernel_rfl) (by simp) ?_
      refine AllReadyH.cons rfl (fun K hK => ?_) AllReadyH.nil
      go_simp
      refine hK.out _ _ S6 (fun _ => ?_)
      clear hK K
      refine wpAnyH_done (by kernel_rfl) ?_ _
      go_wp2_with fail
      go_end0
      exact ⟨rfl, (fun_upd f k ▸ M6.out), KX5.out.trans KX6.out (fun _ _ h => h)⟩
    · have hq' : (y == 0) = false := by simpa using hq
      go_wp2_with fail
      go_end0
      exact ⟨rfl, M5.out.block rfl, ⟨KX5.out.os, KX5.out.tape, KX5.out.output, KX5.out.size, KX5.out.block⟩⟩
  · go_simp
    refine hK.out _ _ S4 (fun _ => ?_)
    clear hK K
    refine wpAnyH_take (i := 9) (v := ?v9n18) rfl (by kernel_rfl) (by kernel_rfl) (by kernel_rfl) (fun _ _ _ h => h) (Or.inl ⟨by rfl, ?hy9n18⟩) S4 ?rr9n18
    case hy9n18 =>
      intro w hSw
      go_simp
      try with_reducible rfl
    try simp only [Act.put, List.getElem_toArray, List.getElem_cons_succ, List.getElem_cons_zero, List.setIfInBounds_toArray, List.set_cons_zero, List.set_cons_succ]
    refine wpAnyH_ready (rs := [5]) (by kernel_rfl) (by simp) ?_
    refine AllReadyH.cons rfl (fun K hK => ?_) AllReadyH.nil
    go_simp
    refine hK.out _ _ S4 (fun _ => ?_)
    clear hK K
    refine wpAnyH_take (i := 7) (v := ?v7n19) rfl (by kernel_rfl) (by kernel_rfl) (by kernel_rfl) (fun _ _ _ h => h) (Or.inl ⟨by rfl, ?hy7n19⟩) S4 ?rr7n19
    case hy7n19 =>
      intro w hSw
      go_simp
      try with_reducible rfl
    try simp only [Act.put, List.getElem_toArray, List.getElem_cons_succ, List.getElem_cons_zero, List.setIfInBounds_toArray, List.set_cons_zero, List.set_cons_succ]
    refine wpAnyH_ready (rs := [10]) (by kernel_rfl) (by simp) ?_
    refine AllReadyH.cons rfl (fun K hK => ?_) AllReadyH.nil
    go_simp
    refine hK.out _ _ S5 (fun _ => ?_)
    clear hK K
    refine wpAnyH_done (by kernel_rfl) ?_ _
    go_wp2_with fail
    refine wp_region_held_drew (S := fun W => W = w5.drew) (by kernel_rfl) rfl (fun _ => ?_)
    refine wpAnyH_take (i := 0) (v := ?v0n20) rfl (by kernel_rfl) (by kernel_rfl) (by kernel_rfl) (fun _ _ _ h => h) (Or.inl ⟨by rfl, ?hy0n20⟩) rfl ?rr0n20
    case hy0n20 =>
      intro w hSw
      subst hSw
      go_simp
      try with_reducible rfl
    try simp only [Act.put, List.getElem_toArray, List.getElem_cons_succ, List.getElem_cons_zero, List.setIfInBounds_toArray, List.set_cons_zero, List.set_cons_succ]
    refine wpAnyH_take (i := 1) (v := ?v1n21) rfl (by kernel_rfl) (by kernel_rfl) (by kernel_rfl) (fun _ _ _ h => h) (Or.inl ⟨by rfl, ?hy1n21⟩) rfl ?rr1n21
    case hy1n21 =>
      intro w hSw
      subst hSw
      go_simp
      try with_reducible rfl
    try simp only [Act.put, List.getElem_toArray, List.getElem_cons_succ, List.getElem_cons_zero, List.setIfInBounds_toArray, List.set_cons_zero, List.set_cons_succ]
    refine wpAnyH_take (i := 2) (v := ?v2n22) rfl (by kernel_rfl) (by kernel_rfl) (by kernel_rfl) (fun _ _ _ h => h) (Or.inl ⟨by rfl, ?hy2n22⟩) rfl ?rr2n22
    case hy2n22 =>
      intro w hSw
      subst hSw
      go_simp
      try with_reducible rfl
    try simp only [Act.put, List.getElem_toArray, List.getElem_cons_succ, List.getElem_cons_zero, List.setIfInBounds_toArray, List.set_cons_zero, List.set_cons_succ]
    refine wpAnyH_take (i := 3) (v := ?v3n23) rfl (by kernel_rfl) (by kernel_rfl) (by kernel_rfl) (fun _ _ _ h => h) (Or.inl ⟨by rfl, ?hy3n23⟩) rfl ?rr3n23
    case hy3n23 =>
      intro w hSw
      subst hSw
      go_simp
      try with_reducible rfl
    try simp only [Act.put, List.getElem_toArray, List.getElem_cons_succ, List.getElem_cons_zero, List.setIfInBounds_toArray, List.set_cons_zero, List.set_cons_succ]
    refine wpAnyH_take (i := 4) (v := .agg (kC k).toArray) rfl (by kernel_rfl) (by kernel_rfl) (by kernel_rfl) (fun _ _ _ h => h) (Or.inl ⟨by rfl, ?hy4b⟩) rfl ?rr4b
    case hy4b => intro w' hSw; rw [hSw]; exact exec_loadK (.tmp 6) rfl kb rfl (kC k) k5 H28.out
    try simp only [Act.put, List.getElem_toArray, List.getElem_cons_succ, List.getElem_cons_zero, List.setIfInBounds_toArray, List.set_cons_zero, List.set_cons_succ]
    refine wpAnyH_take (i := 5) (v := ?v5n24) rfl (by kernel_rfl) (by kernel_rfl) (by kernel_rfl) (fun _ _ _ h => h) (Or.inl ⟨by rfl, ?hy5n24⟩) rfl ?rr5n24
    case hy5n24 =>
      intro w hSw
      subst hSw
      go_simp
      try with_reducible rfl
    try simp only [Act.put, List.getElem_toArray, List.getElem_cons_succ, List.getElem_cons_zero, List.setIfInBounds_toArray, List.set_cons_zero, List.set_cons_succ]
    refine wpAnyH_take (i := 6) (v := ?v6n25) rfl (by kernel_rfl) (by kernel_rfl) (by kernel_rfl) (fun _ _ _ h => h) (Or.inl ⟨by rfl, ?hy6n25⟩) rfl ?rr6n25
    case hy6n25 =>
      intro w hSw
      subst hSw
      go_simp
      try with_reducible rfl
    try simp only [Act.put, List.getElem_toArray, List.getElem_cons_succ, List.getElem_cons_zero, List.setIfInBounds_toArray, List.set_cons_zero, List.set_cons_succ]
    refine wpAnyH_done (by kernel_rfl) ?_ _
    by_cases hq : y = 0
    · subst hq
      go_wp2_with fail
      refine wp_region_held_drew (S := fun W => W.cell? ⟨p, 1, none⟩ = some (.map (some mb)) ∧ W.heap[kb]? = some (.cells (kC k).toArray 77 (0, 0))) (by kernel_rfl) S5 (fun _ => ?_)
      refine wpAnyH_take (i := 0) (v := ?v0n26) rfl (by kernel_rfl) (by kernel_rfl) (by kernel_rfl) (fun _ _ _ h => h) (Or.inl ⟨by rfl, ?hy0n26⟩) S5 ?rr0n26
      case hy0n26 =>
        intro w hSw
        go_simp
        try with_reducible rfl
      try simp only [Act.put, List.getElem_toArray, List.getElem_cons_succ, List.getElem_cons_zero, List.setIfInBounds_toArray, List.set_cons_zero, List.set_cons_succ]
      refine wpAnyH_take (i := 1) (v := ?v1n27) rfl (by kernel_rfl) (by kernel_rfl) (by kernel_rfl) (fun _ _ _ h => h) (Or.inl ⟨by rfl, ?hy1n27⟩) S5 ?rr1n27
      case hy1n27 =>
        intro w hSw
        go_simp
        try with_reducible rfl
      try simp only [Act.put, List.getElem_toArray, List.getElem_cons_succ, List.getElem_cons_zero, List.setIfInBounds_toArray, List.set_cons_zero, List.set_cons_succ]
      refine wpAnyH_take (i := 2) (v := ?v2n28) rfl (by kernel_rfl) (by kernel_rfl) (by kernel_rfl) (fun _ _ _ h => h) (Or.inl ⟨by rfl, ?hy2n28⟩) S5 ?rr2n28
      case hy2n28 =>
        intro w hSw
        go_simp
        try with_reducible rfl
      try simp only [Act.put, List.getElem_toArray, List.getElem_cons_succ, List.getElem_cons_zero, List.setIfInBounds_toArray, List.set_cons_zero, List.set_cons_succ]
      refine wpAnyH_take (i := 3) (v := ?v3n29) rfl (by kernel_rfl) (by kernel_rfl) (by kernel_rfl) (fun _ _ _ h => h) (Or.inl ⟨by rfl, ?hy3n29⟩) S5 ?rr3n29
      case hy3n29 =>
        intro w hSw
        go_simp
        try with_reducible rfl
      try simp only [Act.put, List.getElem_toArray, List.getElem_cons_succ, List.getElem_cons_zero, List.setIfInBounds_toArray, List.set_cons_zero, List.set_cons_succ]
      refine wpAnyH_take (i := 4) (v := .agg (kC k).toArray) rfl (by kernel_rfl) (by kernel_rfl) (by kernel_rfl) (fun _ _ _ h => h) (Or.inl ⟨by rfl, ?hz4b⟩) S5 ?sr4b
      case hz4b => intro w' hSw; exact exec_loadK (.tmp 6) rfl kb rfl (kC k) hSw.2 H28.out
      try simp only [Act.put, List.getElem_toArray, List.getElem_cons_succ, List.getElem_cons_zero, List.setIfInBounds_toArray, List.set_cons_zero, List.set_cons_succ]
      refine wpAnyH_ready (rs := [5]) (by kernel_rfl) (by simp) ?_
      refine AllReadyH.cons rfl (fun K hK => ?_) AllReadyH.nil
      go_simp
      refine hK.out _ _ S6 (fun _ => ?_)
      clear hK K
      refine wpAnyH_done (by kernel_rfl) ?_ _
      go_wp2_with fail
      go_end0
      exact ⟨rfl, (fun_upd f k ▸ M6.out), KX5.out.trans KX6.out (fun _ _ h => h)⟩
    · have hq' : (y == 0) = false := by simpa using hq
      go_wp2_with fail
      go_end0
      exact ⟨rfl, M5.out.block rfl, ⟨KX5.out.os, KX5.out.tape, KX5.out.output, KX5.out.size, KX5.out.block⟩⟩
end Go.Proofs.YtjlijpaefdbohaaDoor
