/- beginning, inside: a node's pieces ahead of its kids, the level within it. -/
import Derived.Test.YtibagbnnplpfgaaDoorTag
set_option linter.unusedVariables false
set_option linter.unusedSimpArgs false
namespace Go.Proofs.YtibagbnnplpfgaaDoor
open Go.Deep (BT)
open Go.RowKit M

theorem begP5 {d : Nd} (raw : Bool) (h : d.k = 5) : begP d raw = [⟨#[60, 33, 68, 79, 67, 84, 89, 80, 69, 32]⟩, d.n, ⟨#[62]⟩] := by rw [begP, if_pos h]
theorem begP4 {d : Nd} (raw : Bool) (h : d.k = 4) : begP d raw = [⟨#[60, 33, 45, 45]⟩, d.x, ⟨#[45, 45, 62]⟩] := by rw [begP, if_neg (by omega), if_pos h]
theorem begP3 {d : Nd} (raw : Bool) (h : d.k = 3) : begP d raw = [if raw = true then d.x else escS false d.x] := by rw [begP, if_neg (by omega), if_neg (by omega), if_pos h]
theorem begP2 {d : Nd} (raw : Bool) (h : d.k = 2) : begP d raw = tagP d := by rw [begP, if_neg (by omega), if_neg (by omega), if_neg (by omega), if_pos h]
theorem begP0 {d : Nd} (raw : Bool) (h5 : d.k ≠ 5) (h4 : d.k ≠ 4) (h3 : d.k ≠ 3) (h2 : d.k ≠ 2) : begP d raw = [] := by rw [begP, if_neg h5, if_neg h4, if_neg h3, if_neg h2]

set_option maxRecDepth 20000 in
set_option maxHeartbeats 4000000 in
theorem begin_any (d : Nd) (raw : Bool) (av kv : Value) (w : World) (ha : AS (Old w.heap.size) w av d.ats) (hk : ∃ a b c, kv = .slice a b c) (hok : OKnd d) (hm : Met w) :
    Calls Tryd.prog 37 #[nodeV d av kv, .bool raw] w fun e w' => ∃ v, e = .returned v ∧ Below w.heap.size w w' ∧ w'.ownsRow w.heap.size 9 1 v (begP d raw).length (strs (begP d raw)) := by
  obtain ⟨k1, k2, k3, rfl⟩ := hk
  have HA := Fact.mk ha
  obtain ⟨a1, a2, a3, rfl⟩ := ha.val
  have P5 := fun h => begP5 (d := d) raw h
  have P4 := fun h => begP4 (d := d) raw h
  have P3 := fun h => begP3 (d := d) raw h
  have P2 := fun h => begP2 (d := d) raw h
  have P0 := fun h5 h4 h3 h2 => begP0 (d := d) raw h5 h4 h3 h2
  have HOK := Fact.mk hok
  have HM := Fact.mk hm
  obtain ⟨W1, hW1⟩ : ∃ W1, w.alloc (.cells #[.int .i64 d.k, .string d.n, .string d.x, .slice a1 a2 a3, .slice k1 k2 k3] 25) = W1 := ⟨_, rfl⟩
  have hb1 : Below w.heap.size w W1 := by rw [← hW1]; exact (Below.refl _ w).alloc (Nat.le_refl _) _
  have hz1 : W1.heap.size = w.heap.size + 1 := by rw [← hW1]; simp
  have hbx : ∀ i v, (#[.int .i64 d.k, .string d.n, .string d.x, .slice a1 a2 a3, .slice k1 k2 k3] : Array Value)[i]? = some v → W1.cell? ⟨w.heap.size, i, none⟩ = some v := fun i v h => by
    rw [← hW1]; exact (World.cell?_alloc_new w _ _ i).trans h
  have x0 := hbx 0 _ rfl
  have x1 := hbx 1 _ rfl
  have x2 := hbx 2 _ rfl
  have x3 := hbx 3 _ rfl
  have x4 := hbx 4 _ rfl
  have HB1 := Fact.mk hb1
  have HW1 := Fact.mk hW1
  have HM1 : Fact (Met W1) := ⟨hm.below hb1⟩
  clear hbx hb1 hW1 ha hok hm
  by_cases h5 : d.k = 5
  · rw [P5 h5]
    have q5 : (d.k == 5) = true := by rw [h5]; rfl
    clear P5 P4 P3 P2 P0 h5
    go_enter Tryd.func37, Tryd.ntmps37
    go_wp2_with fail
    rw [HW1.out]
    go_wp2_with fail
    go_ret
    have ho := own_lessP (B' := w.heap.size) (own_new W1 9 [.string ⟨#[60, 33, 68, 79, 67, 84, 89, 80, 69, 32]⟩, .string d.n, .string ⟨#[62]⟩] 3 rfl (by decide)) (by omega)
    rw [hz1] at ho
    exact ⟨_, rfl, HB1.out.alloc (by omega) _, ho⟩
  have q5 : (d.k == 5) = false := beq_eq_false_iff_ne.2 h5
  by_cases h4 : d.k = 4
  · rw [P4 h4]
    have q4 : (d.k == 4) = true := by rw [h4]; rfl
    clear P5 P4 P3 P2 P0 h5 h4
    go_enter Tryd.func37, Tryd.ntmps37
    go_wp2_with fail
    rw [HW1.out]
    go_wp2_with fail
    go_ret
    have ho := own_lessP (B' := w.heap.size) (own_new W1 9 [.string ⟨#[60, 33, 45, 45]⟩, .string d.x, .string ⟨#[45, 45, 62]⟩] 3 rfl (by decide)) (by omega)
    rw [hz1] at ho
    exact ⟨_, rfl, HB1.out.alloc (by omega) _, ho⟩
  have q4 : (d.k == 4) = false := beq_eq_false_iff_ne.2 h4
  by_cases h3 : d.k = 3
  · rw [P3 h3]
    have q3 : (d.k == 3) = true := by rw [h3]; rfl
    clear P5 P4 P3 P2 P0 h5 h4 h3
    cases raw
    · obtain ⟨E, hE⟩ : ∃ E, escS false d.x = E := ⟨_, rfl⟩
      have HE : Fact (escB false d.x.data.toList = E.data.toList) := ⟨by rw [← hE]; rfl⟩
      have hX : d.x.size ≤ 20000 := by have := HOK.out.text; omega
      rw [hE]
      clear hE
      go_enter Tryd.func37, Tryd.ntmps37
      go_wp2_with fail
      rw [HW1.out]
      go_wp2_with (go_at_call 45; refine (escape_at d.x E false hX HE _ HM1.out).mono ?_; rintro e w2 ⟨rfl, hb2⟩)
      go_ret
      have hs2 := hb2.size
      exact ⟨_, rfl, (HB1.out.trans (hb2.mono (by omega))).alloc (by omega) _, own_lessP (own_new w2 9 [.string E] 1 rfl (by decide)) (by omega)⟩
    · go_enter Tryd.func37, Tryd.ntmps37
      go_wp2_with fail
      rw [HW1.out]
      go_wp2_with fail
      go_ret
      have ho := own_lessP (B' := w.heap.size) (own_new W1 9 [.string d.x] 1 rfl (by decide)) (by omega)
      rw [hz1] at ho
      exact ⟨_, rfl, HB1.out.alloc (by omega) _, ho⟩
  have q3 : (d.k == 3) = false := beq_eq_false_iff_ne.2 h3
  by_cases h2 : d.k = 2
  · rw [P2 h2]
    have q2 : (d.k == 2) = true := by rw [h2]; rfl
    have HA1 : Fact (AS (Old W1.heap.size) W1 (.slice a1 a2 a3) d.ats) := ⟨(HA.out.like (like_below HB1.out)).mono (fun b (hb : b < w.heap.size) => by show b < W1.heap.size; omega)⟩
    clear P5 P4 P3 P2 P0 h5 h4 h3 h2
    go_enter Tryd.func37, Tryd.ntmps37
    go_wp2_with fail
    rw [HW1.out]
    go_wp2_with (go_at_call 46; refine (tag_any d _ _ _ HA1.out ⟨_, _, _, rfl⟩ HOK.out HM1.out).mono ?_; rintro e w2 ⟨v2, rfl, hb2, hown2⟩)
    go_ret
    exact ⟨_, rfl, HB1.out.trans (hb2.mono (by omega)), own_lessP hown2 (by omega)⟩
  have q2 : (d.k == 2) = false := beq_eq_false_iff_ne.2 h2
  rw [P0 h5 h4 h3 h2]
  clear P5 P4 P3 P2 P0 h5 h4 h3 h2
  go_enter Tryd.func37, Tryd.ntmps37
  go_wp2_with fail
  rw [HW1.out]
  go_wp2_with fail
  go_ret
  exact ⟨_, rfl, HB1.out, World.ownsRow_nil _ _ _ _⟩

/-- the level within a node, as a value -/
def lvV (d : Nd) (kv : Value) : Value := .agg #[if insK d = true then kv else .slice none 0 0, .bool (insR d), .string (insE d)]
theorem lv_root {d : Nd} (kv : Value) (h : d.k = 1) : lvV d kv = .agg #[kv, .bool false, .string ⟨#[]⟩] := by
  have h1 : opn d = false := by unfold opn; rw [h]; rfl
  have h2 : insK d = true := by unfold insK; rw [h]; rfl
  unfold lvV insR insE
  rw [h1, h2]
  rfl
theorem lv_open {d : Nd} (kv : Value) (h : d.k = 2) (hv : isB d.n 1 = false) : lvV d kv = .agg #[kv, .bool (rawN d.n.data.toList == 2), .string ((⟨#[60, 47]⟩ : ByteArray) ++ d.n ++ ⟨#[62]⟩)] := by
  have h1 : opn d = true := by unfold opn; rw [h, hv]; rfl
  have h2 : insK d = true := by unfold insK; rw [h1, Bool.or_true]
  unfold lvV insR insE
  rw [h1, h2]
  rfl
theorem lv_shut {d : Nd} (kv : Value) (h1 : d.k ≠ 1) (h : d.k ≠ 2 ∨ isB d.n 1 = true) : lvV d kv = .agg #[.slice none 0 0, .bool false, .string ⟨#[]⟩] := by
  have h1' : (d.k == 1) = false := beq_eq_false_iff_ne.2 h1
  have h3 : opn d = false := by
    unfold opn
    rcases h with h | h
    · rw [beq_eq_false_iff_ne.2 h]; rfl
    · rw [h]; simp
  have h2 : insK d = false := by unfold insK; rw [h3, h1']; rfl
  unfold lvV insR insE
  rw [h3, h2]
  rfl

theorem cells_two (w : World) (A B : Array Value) (t u : TypeId) (i : Nat) : ((w.alloc (.cells A t)).alloc (.cells B u)).cell? ⟨w.heap.size + 1, i, none⟩ = B[i]? := by
  have := World.cell?_alloc_new (w.alloc (.cells A t)) B u i
  rwa [World.size_alloc] at this
theorem three_all {w : World} {X : Nat} {u0 u1 u2 : Value} (h : w.heap[X]? = some (.cells #[u0, u1, u2] 69 (0, 0))) (v0 v1 v2 : Value) :
    (((w.setCell ⟨X, 0, none⟩ v0).setCell ⟨X, 1, none⟩ v1).setCell ⟨X, 2, none⟩ v2).heap[X]? = some (.cells #[v0, v1, v2] 69 (0, 0)) := by
  simp [World.setCell, Array.getElem?_modify, h]

set_option maxRecDepth 20000 in
set_option maxHeartbeats 4000000 in
theorem inside_any (d : Nd) (av kv : Value) (w : World) (ha : ∃ a b c, av = .slice a b c) (hk : ∃ a b c, kv = .slice a b c) (hok : OKnd d) :
    Calls Tryd.prog 38 #[nodeV d av kv] w fun e w' => e = .returned (lvV d kv) ∧ Below w.heap.size w w' := by
  obtain ⟨k1, k2, k3, rfl⟩ := hk
  obtain ⟨a1, a2, a3, rfl⟩ := ha
  have P1 := fun h => lv_root (d := d) (.slice k1 k2 k3) h
  have P2 := fun h hv => lv_open (d := d) (.slice k1 k2 k3) h hv
  have P0 := fun h h' => lv_shut (d := d) (.slice k1 k2 k3) h h'
  have hN : d.n.size ≤ 200 := hok.name
  clear hok
  by_cases h1 : d.k = 1
  · rw [P1 h1]
    have q1 : (d.k == 1) = true := by rw [h1]; rfl
    clear P1 P2 P0 h1
    have e := cells_two w #[.int .i64 d.k, .string d.n, .string d.x, .slice a1 a2 a3, .slice k1 k2 k3] #[.slice k1 k2 k3, .bool false, .string ⟨#[]⟩] 25 69
    have e0 := Fact.mk (e 0)
    have e1 := Fact.mk (e 1)
    have e2 := Fact.mk (e 2)
    have HB : Fact (Below w.heap.size w ((w.alloc (.cells #[.int .i64 d.k, .string d.n, .string d.x, .slice a1 a2 a3, .slice k1 k2 k3] 25)).alloc (.cells #[.slice k1 k2 k3, .bool false, .string ⟨#[]⟩] 69))) := ⟨((Below.refl _ w).alloc (Nat.le_refl _) _).alloc (by simp) _⟩
    clear e
    go_enter Tryd.func38, Tryd.ntmps38
    go_wp2_with fail
    exact bodyPost_ret (v := .agg #[.slice k1 k2 k3, .bool false, .string ⟨#[]⟩]) (by simp [results, Tryd.f38, go_sem, e0.out, e1.out, e2.out]) rfl ⟨rfl, HB.out⟩
  have q1 : (d.k == 1) = false := beq_eq_false_iff_ne.2 h1
  by_cases h2 : d.k = 2
  · have q2 : (d.k == 2) = true := by rw [h2]; rfl
    obtain ⟨W1, hW1⟩ : ∃ W1, (w.alloc (.cells #[.int .i64 d.k, .string d.n, .string d.x, .slice a1 a2 a3, .slice k1 k2 k3] 25)).alloc (.cells #[.slice none 0 0, .bool false, .string ⟨#[]⟩] 69) = W1 := ⟨_, rfl⟩
    have hb1 : Below w.heap.size w W1 := by rw [← hW1]; exact ((Below.refl _ w).alloc (Nat.le_refl _) _).alloc (by simp) _
    have hz1 : W1.heap.size = w.heap.size + 2 := by rw [← hW1]; simp
    have hbx : ∀ i v, (#[.int .i64 d.k, .string d.n, .string d.x, .slice a1 a2 a3, .slice k1 k2 k3] : Array Value)[i]? = some v → W1.cell? ⟨w.heap.size, i, none⟩ = some v := fun i v h => by
      rw [← hW1, World.cell?_alloc_lt _ _ _ (by simp)]; exact (World.cell?_alloc_new w _ _ i).trans h
    have hh2 : W1.heap[w.heap.size + 1]? = some (.cells #[.slice none 0 0, .bool false, .string ⟨#[]⟩] 69 (0, 0)) := by
      have := World.alloc_heap_new (w.alloc (.cells #[.int .i64 d.k, .string d.n, .string d.x, .slice a1 a2 a3, .slice k1 k2 k3] 25)) (.cells #[.slice none 0 0, .bool false, .string ⟨#[]⟩] 69)
      rw [hW1, World.size_alloc] at this
      exact this
    have HX := Fact.mk hbx
    have HB1 := Fact.mk hb1
    have HW1 := Fact.mk hW1
    have HH2 := Fact.mk hh2
    clear hbx hb1 hW1 hh2
    obtain ⟨B, hB⟩ : ∃ B, isB d.n 1 = B := ⟨_, rfl⟩
    have HV := Fact.mk hB
    have hIs : ∀ w2, Below W1.heap.size W1 w2 → Fact (w2.heap[w.heap.size + 1]? = some (.cells #[.slice none 0 0, .bool false, .string ⟨#[]⟩] 69 (0, 0)) ∧ Below w.heap.size w w2 ∧ w.heap.size + 2 ≤ w2.heap.size) := fun w2 hb2 => ⟨(hb2.block _ (by omega)).trans HH2.out, HB1.out.trans (hb2.mono (by omega)), by have := hb2.size; omega⟩
    have HIS := Fact.mk hIs
    clear hIs
    cases B
    · rw [P2 h2 hB]
      clear P1 P2 P0 h1 h2 hB
      obtain ⟨n, hn⟩ : ∃ n, rawN d.n.data.toList = n := ⟨_, rfl⟩
      obtain ⟨T1, hT1⟩ : ∃ T : ByteArray, (⟨#[60, 47]⟩ : ByteArray) ++ d.n = T := ⟨_, rfl⟩
      obtain ⟨T2, hT2⟩ : ∃ T : ByteArray, T1 ++ (⟨#[62]⟩ : ByteArray) = T := ⟨_, rfl⟩
      have hz : T1.size = 2 + d.n.size := by rw [← hT1, ByteArray.size_append]; rfl
      have r1 := fun w => add_at (⟨#[60, 47]⟩ : ByteArray) d.n T1 hT1 (by have : (⟨#[60, 47]⟩ : ByteArray).size = 2 := rfl; omega) w
      have r2 := fun w => add_at T1 (⟨#[62]⟩ : ByteArray) T2 hT2 (by have : (⟨#[62]⟩ : ByteArray).size = 1 := rfl; omega) w
      have HN := Fact.mk hn
      rw [hn, hT1, hT2]
      obtain ⟨bq, hbq⟩ : ∃ b, (n == 2) = b := ⟨_, rfl⟩
      have hbI : ((n : Int) == 2) = bq := by rw [← hbq, Bool.eq_iff_iff, beq_iff_eq, beq_iff_eq]; omega
      rw [hbq]
      clear hn hT1 hT2 hz hbq
      have x0 := HX.out 0 _ rfl
      have x1 := HX.out 1 _ rfl
      go_enter Tryd.func38, Tryd.ntmps38
      go_wp2_with fail
      rw [HW1.out]
      go_wp2_with (go_at_call 47; refine (is_one d.n _ false HV).mono ?_; rintro e w2 ⟨rfl, hb2⟩; have HG := HIS.out w2 hb2; have HB2 := Fact.mk hb2; clear hb2)
      have hS0 : w2.drew.cell? ⟨w.heap.size, 1, none⟩ = some (.string d.n) ∧ w2.drew.cell? ⟨w.heap.size, 4, none⟩ = some (.slice k1 k2 k3) := ⟨(HB2.out.cell (p := ⟨w.heap.size, 1, none⟩) (by show w.heap.size < _; omega)).trans (HX.out 1 _ rfl), (HB2.out.cell (p := ⟨w.heap.size, 4, none⟩) (by show w.heap.size < _; omega)).trans (HX.out 4 _ rfl)⟩
      have z0 : w2.cell? ⟨w.heap.size + 1, 0, none⟩ = some (.slice none 0 0) := by rw [Lib.cell_of_heap HG.out.1]; rfl
      have z1 : w2.cell? ⟨w.heap.size + 1, 1, none⟩ = some (.bool false) := by rw [Lib.cell_of_heap HG.out.1]; rfl
      have z2 : w2.cell? ⟨w.heap.size + 1, 2, none⟩ = some (.string ⟨#[]⟩) := by rw [Lib.cell_of_heap HG.out.1]; rfl
      have g0 : w2.frozen? ⟨w.heap.size + 1, 0, none⟩ = false := Lib.frozen_of_heap HG.out.1 0
      have g1 : w2.frozen? ⟨w.heap.size + 1, 1, none⟩ = false := Lib.frozen_of_heap HG.out.1 1
      have g2 : w2.frozen? ⟨w.heap.size + 1, 2, none⟩ = false := Lib.frozen_of_heap HG.out.1 2
      have y0 : w2.drew.cell? ⟨w.heap.size + 1, 0, none⟩ = some (.slice none 0 0) := by show w2.cell? _ = _; rw [Lib.cell_of_heap HG.out.1]; rfl
      have y1 : w2.drew.cell? ⟨w.heap.size + 1, 1, none⟩ = some (.bool false) := by show w2.cell? _ = _; rw [Lib.cell_of_heap HG.out.1]; rfl
      have y2 : w2.drew.cell? ⟨w.heap.size + 1, 2, none⟩ = some (.string ⟨#[]⟩) := by show w2.cell? _ = _; rw [Lib.cell_of_heap HG.out.1]; rfl
      have f0 : w2.drew.frozen? ⟨w.heap.size + 1, 0, none⟩ = false := Lib.frozen_of_heap HG.out.1 0
      have f1 : w2.drew.frozen? ⟨w.heap.size + 1, 1, none⟩ = false := Lib.frozen_of_heap HG.out.1 1
      have f2 : w2.drew.frozen? ⟨w.heap.size + 1, 2, none⟩ = false := Lib.frozen_of_heap HG.out.1 2
      have hS5 : ∀ (v0 v1 v2 : Value), (((w2.setCell ⟨w.heap.size + 1, 0, none⟩ v0).setCell ⟨w.heap.size + 1, 1, none⟩ v1).setCell ⟨w.heap.size + 1, 2, none⟩ v2).drew.cell? ⟨w.heap.size, 1, none⟩ = some (.string d.n) ∧ (((w2.setCell ⟨w.heap.size + 1, 0, none⟩ v0).setCell ⟨w.heap.size + 1, 1, none⟩ v1).setCell ⟨w.heap.size + 1, 2, none⟩ v2).drew.cell? ⟨w.heap.size, 4, none⟩ = some (.slice k1 k2 k3) := fun v0 v1 v2 => by
        have hb := (((Below.refl (w.heap.size + 1) w2).setCell (p := ⟨w.heap.size + 1, 0, none⟩) (Nat.le_refl _) v0).setCell (p := ⟨w.heap.size + 1, 1, none⟩) (Nat.le_refl _) v1).setCell (p := ⟨w.heap.size + 1, 2, none⟩) (Nat.le_refl _) v2
        exact ⟨(hb.cell (p := ⟨w.heap.size, 1, none⟩) (Nat.lt_succ_self _)).trans hS0.1, (hb.cell (p := ⟨w.heap.size, 4, none⟩) (Nat.lt_succ_self _)).trans hS0.2⟩
      clear x0 x1
      go_region_held3 (fun w' => w'.cell? ⟨w.heap.size, 1, none⟩ = some (.string d.n) ∧ w'.cell? ⟨w.heap.size, 4, none⟩ = some (.slice k1 k2 k3))
        (first | with_reducible exact hS0 | with_reducible exact hS5 _ _ _)
        (first | (go_at_call 48; refine (raw_any d.n n HN _).mono ?_; rintro e w5 ⟨rfl, h5⟩; have h5' := h5.symm; subst h5'; clear h5))
      go_wp2_with fail
      obtain ⟨W5, hW5⟩ : ∃ W5, (((w2.setCell ⟨w.heap.size + 1, 0, none⟩ (.slice k1 k2 k3)).setCell ⟨w.heap.size + 1, 1, none⟩ (.bool bq)).setCell ⟨w.heap.size + 1, 2, none⟩ (.string T2)).drew = W5 := ⟨_, rfl⟩
      have h3 : W5.heap[w.heap.size + 1]? = some (.cells #[.slice k1 k2 k3, .bool bq, .string T2] 69 (0, 0)) := by rw [← hW5]; exact three_all (w := w2) HG.out.1 (.slice k1 k2 k3) (.bool bq) (.string T2)
      have hb5 : Below w.heap.size w W5 := by rw [← hW5]; exact (((HG.out.2.1.setCell (p := ⟨w.heap.size + 1, 0, none⟩) (by show _ ≤ w.heap.size + 1; omega) _).setCell (p := ⟨w.heap.size + 1, 1, none⟩) (by show _ ≤ w.heap.size + 1; omega) _).setCell (p := ⟨w.heap.size + 1, 2, none⟩) (by show _ ≤ w.heap.size + 1; omega) _).drew
      rw [hW5]
      exact bodyPost_ret (v := .agg #[.slice k1 k2 k3, .bool bq, .string T2]) (by simp [results, Tryd.f38, go_sem, Lib.cell_of_heap h3]) rfl ⟨rfl, hb5⟩
    · rw [P0 h1 (.inr hB)]
      clear P1 P2 P0 h1 h2 hB
      have x0 := HX.out 0 _ rfl
      have x1 := HX.out 1 _ rfl
      go_enter Tryd.func38, Tryd.ntmps38
      go_wp2_with fail
      rw [HW1.out]
      go_wp2_with (go_at_call 47; refine (is_one d.n _ true HV).mono ?_; rintro e w2 ⟨rfl, hb2⟩; have HG := HIS.out w2 hb2; clear hb2; have y0 : w2.cell? ⟨w.heap.size + 1, 0, none⟩ = some (.slice none 0 0) := (by rw [Lib.cell_of_heap HG.out.1]; rfl); have y1 : w2.cell? ⟨w.heap.size + 1, 1, none⟩ = some (.bool false) := (by rw [Lib.cell_of_heap HG.out.1]; rfl); have y2 : w2.cell? ⟨w.heap.size + 1, 2, none⟩ = some (.string ⟨#[]⟩) := (by rw [Lib.cell_of_heap HG.out.1]; rfl); have f0 : w2.frozen? ⟨w.heap.size + 1, 0, none⟩ = false := Lib.frozen_of_heap HG.out.1 0; have f1 : w2.frozen? ⟨w.heap.size + 1, 1, none⟩ = false := Lib.frozen_of_heap HG.out.1 1; have f2 : w2.frozen? ⟨w.heap.size + 1, 2, none⟩ = false := Lib.frozen_of_heap HG.out.1 2)
      obtain ⟨W5, hW5⟩ : ∃ W5, ((w2.setCell ⟨w.heap.size + 1, 0, none⟩ (.slice none 0 0)).setCell ⟨w.heap.size + 1, 1, none⟩ (.bool false)).setCell ⟨w.heap.size + 1, 2, none⟩ (.string ⟨#[]⟩) = W5 := ⟨_, rfl⟩
      have h3 : W5.heap[w.heap.size + 1]? = some (.cells #[.slice none 0 0, .bool false, .string ⟨#[]⟩] 69 (0, 0)) := by rw [← hW5]; exact three_all (w := w2) HG.out.1 (.slice none 0 0) (.bool false) (.string ⟨#[]⟩)
      have hb5 : Below w.heap.size w W5 := by rw [← hW5]; exact ((HG.out.2.1.setCell (p := ⟨w.heap.size + 1, 0, none⟩) (by show _ ≤ w.heap.size + 1; omega) _).setCell (p := ⟨w.heap.size + 1, 1, none⟩) (by show _ ≤ w.heap.size + 1; omega) _).setCell (p := ⟨w.heap.size + 1, 2, none⟩) (by show _ ≤ w.heap.size + 1; omega) _
      rw [hW5]
      exact bodyPost_ret (v := .agg #[.slice none 0 0, .bool false, .string ⟨#[]⟩]) (by simp [results, Tryd.f38, go_sem, Lib.cell_of_heap h3]) rfl ⟨rfl, hb5⟩
  have q2 : (d.k == 2) = false := beq_eq_false_iff_ne.2 h2
  rw [P0 h1 (.inl h2)]
  clear P1 P2 P0 h1 h2
  have e := cells_two w #[.int .i64 d.k, .string d.n, .string d.x, .slice a1 a2 a3, .slice k1 k2 k3] #[.slice none 0 0, .bool false, .string ⟨#[]⟩] 25 69
  have e0 := Fact.mk (e 0)
  have e1 := Fact.mk (e 1)
  have e2 := Fact.mk (e 2)
  have HB : Fact (Below w.heap.size w ((w.alloc (.cells #[.int .i64 d.k, .string d.n, .string d.x, .slice a1 a2 a3, .slice k1 k2 k3] 25)).alloc (.cells #[.slice none 0 0, .bool false, .string ⟨#[]⟩] 69))) := ⟨((Below.refl _ w).alloc (Nat.le_refl _) _).alloc (by simp) _⟩
  clear e
  go_enter Tryd.func38, Tryd.ntmps38
  go_wp2_with fail
  exact bodyPost_ret (v := .agg #[.slice none 0 0, .bool false, .string ⟨#[]⟩]) (by simp [results, Tryd.f38, go_sem, e0.out, e1.out, e2.out]) rfl ⟨rfl, HB.out⟩
end Go.Proofs.YtibagbnnplpfgaaDoor
