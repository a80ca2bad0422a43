/- The document's Bare: a node without its kids, its attributes in new memory. -/
import Derived.Test.YtjjkidenlgghkaaCopyL
import Derived.Test.YtjjkidenlgghkaaHeld2
import Derived.Deep.RegionHeld3
set_option linter.unusedVariables false
set_option linter.unusedSimpArgs false
namespace Go.Proofs.Ytjjkidenlgghkaa
open Go.Deep (BT)
open Go.RowKit Go.Shelf M

/-- attributes appended to nothing -/
theorem copyA_run (l : List (ByteArray × ByteArray)) (v : Value) (n : Nat) (w : World) (ha : AS (Old n) w v l) (hm : l.length ≤ 1000000) :
    ∃ y1 y2 y3 W2, (∀ ty, (Builtin.append_ #[22, 22] ty #[.slice none 0 0, v]).run Try.prog w = .ok (.slice y1 y2 y3) W2) ∧ AS (fun b => w.heap.size ≤ b) W2 (.slice y1 y2 y3) l ∧ Below w.heap.size w W2 := by
  obtain ⟨i0, hii, hz0, hz1, hz2⟩ := info_parts infoA
  by_cases h0 : l = []
  · subst h0
    obtain ⟨a, cap, rfl, h1, h2, _⟩ := ha
    refine ⟨none, 0, 0, w, fun ty => ?_, AS.nothing, Below.refl _ _⟩
    cases a <;> simp [Builtin.append_, run_underlying Try.underlying22, sizeOf, typeInfo, hii, Builtin.lenOf, Builtin.firstCells, loadCells, loadCellsFrom]
  · obtain ⟨a, cap, rfl, h1, h2, h3⟩ := ha
    obtain ⟨b, o, rfl, hS, hc⟩ := h3.resolve_left h0
    have HC : ∀ j u, (rowA l)[j]? = some u → w.cell? ((⟨b, o, none⟩ : Addr).add j) = some u := fun j u hu => by
      have hj : j < (rowA l).length := (List.getElem?_eq_some_iff.1 hu).1
      rw [rowA_len] at hj
      have hi : j / 2 < l.length := by omega
      obtain ⟨g1, g2⟩ := rowA_get l (j / 2) hi
      have hcc := hc (j / 2) hi
      rw [bs_get l (j / 2) hi] at hcc
      rw [add_cell]
      rcases (by omega : j = j / 2 * 2 ∨ j = j / 2 * 2 + 1) with e | e
      · rw [e] at hu ⊢
        rw [g1] at hu
        cases hu
        exact hcc.1
      · rw [e] at hu ⊢
        rw [g2] at hu
        cases hu
        exact hcc.2
    obtain ⟨v', w', hr, h2', h3', _, h5'⟩ := run_append_own_at (P := Try.prog) w w.heap.size 22 22 80 i0 (.agg #[.string ⟨#[]⟩, .string ⟨#[]⟩]) 2 32 Try.underlying22 hii hz0 hz1 hz2 rfl (by decide) (.slice none 0 0) 0 [] (World.ownsRow_nil _ _ _ _) ⟨b, o, none⟩ l.length cap (rowA l) (rowA_len l) HC (rowA_one l) (by unfold maxLen; omega) (by omega) (Nat.le_refl _)
    have h2a : w'.ownsRow w.heap.size 80 2 v' l.length (rowA l) := by simpa using h2'
    obtain ⟨g, c, rfl⟩ : ∃ g c, v' = .slice g l.length c := own_shape h2a
    refine ⟨g, l.length, c, w', fun ty => ?_, own_AS h2a, (Below.refl _ _).grown h3' (Nat.le_refl _) (fun k e => by cases e)⟩
    obtain ⟨v2, w2, hr2, _⟩ := run_append_own_at (P := Try.prog) w w.heap.size 22 ty 80 i0 (.agg #[.string ⟨#[]⟩, .string ⟨#[]⟩]) 2 32 Try.underlying22 hii hz0 hz1 hz2 rfl (by decide) (.slice none 0 0) 0 [] (World.ownsRow_nil _ _ _ _) ⟨b, o, none⟩ l.length cap (rowA l) (rowA_len l) HC (rowA_one l) (by unfold maxLen; omega) (by omega) (Nat.le_refl _)
    exact hr

set_option maxRecDepth 100000 in
set_option maxHeartbeats 4000000 in
theorem bare_any (d : Nd) (av kv : Value) (n : Nat) (w : World) (ha : AS (Old n) w av d.ats) (hm : d.ats.length ≤ 1000000) (hn : n ≤ w.heap.size) (hkv : ∃ a l c, kv = .slice a l c) :
    Calls Try.prog 43 #[nodeV d av kv] w fun e w' => ∃ y1 y2 y3, e = .returned (nodeV d (.slice y1 y2 y3) (.slice none 0 0)) ∧ Below w.heap.size w w' ∧ AS (fun b => w.heap.size ≤ b) w' (.slice y1 y2 y3) d.ats := by
  obtain ⟨K, N, X, A⟩ := d
  obtain ⟨a1, n1, c1, e1⟩ := ha.val
  subst e1
  obtain ⟨a2, n2, c2, rfl⟩ := hkv
  dsimp only at ha hm ⊢
  obtain ⟨W1, hW1⟩ : ∃ W1, (w.alloc (.cells #[.int .i64 K, .string N, .string X, .slice a1 n1 c1, .slice a2 n2 c2] 25)).alloc (.cells #[.int .i64 0, .string ⟨#[]⟩, .string ⟨#[]⟩, .slice none 0 0, .slice none 0 0] 25) = W1 := ⟨_, rfl⟩
  have hB1 : Below w.heap.size w W1 := by rw [← hW1]; exact ((Below.refl _ w).alloc (Nat.le_refl _) _).alloc (by simp) _
  have hz1 : W1.heap.size = w.heap.size + 2 := by rw [← hW1]; simp
  have hT : Five W1 w.heap.size (.int .i64 K) (.string N) (.string X) (.slice a1 n1 c1) (.slice a2 n2 c2) := (Five.new w _ _ _ _ _ _).same (by rw [← hW1]; exact Below.heap_alloc _ _ _ (by simp))
  have hR : Five W1 (w.heap.size + 1) (.int .i64 0) (.string ⟨#[]⟩) (.string ⟨#[]⟩) (.slice none 0 0) (.slice none 0 0) := by
    have := Five.new (w.alloc (.cells #[.int .i64 K, .string N, .string X, .slice a1 n1 c1, .slice a2 n2 c2] 25)) (.int .i64 0) (.string ⟨#[]⟩) (.string ⟨#[]⟩) (.slice none 0 0) (.slice none 0 0) 25
    rw [hW1, World.size_alloc] at this
    exact this
  obtain ⟨y1, y2, y3, W2, hrun, hAS, hb2⟩ := copyA_run A (.slice a1 n1 c1) n W1.drew ((ha.like (like_below (hB1.mono hn))).like (fun _ _ _ => rfl)) hm
  have hb2' : Below W1.heap.size W1 W2 := ⟨hb2.os, hb2.tape, hb2.output, hb2.size, hb2.block⟩
  have hT2 := hT.same (hb2'.block _ (by omega))
  have hR2 := hR.same (hb2'.block _ (by omega))
  have hS0 : W1.drew.cell? ⟨w.heap.size, 0, none⟩ = some (.int .i64 K) ∧ W1.drew.cell? ⟨w.heap.size, 1, none⟩ = some (.string N) ∧ W1.drew.cell? ⟨w.heap.size, 2, none⟩ = some (.string X) ∧ W1.drew.cell? ⟨w.heap.size, 3, none⟩ = some (.slice a1 n1 c1) := ⟨hT.c0, hT.c1, hT.c2, hT.c3⟩
  have hS2 : W2.cell? ⟨w.heap.size, 0, none⟩ = some (.int .i64 K) ∧ W2.cell? ⟨w.heap.size, 1, none⟩ = some (.string N) ∧ W2.cell? ⟨w.heap.size, 2, none⟩ = some (.string X) ∧ W2.cell? ⟨w.heap.size, 3, none⟩ = some (.slice a1 n1 c1) := ⟨hT2.c0, hT2.c1, hT2.c2, hT2.c3⟩
  have hS3 : ∀ v0 v1 v2 v3 v4, (((((W2.setCell ⟨w.heap.size + 1, 0, none⟩ v0).setCell ⟨w.heap.size + 1, 1, none⟩ v1).setCell ⟨w.heap.size + 1, 2, none⟩ v2).setCell ⟨w.heap.size + 1, 3, none⟩ v3).setCell ⟨w.heap.size + 1, 4, none⟩ v4).cell? ⟨w.heap.size, 0, none⟩ = some (.int .i64 K) ∧ (((((W2.setCell ⟨w.heap.size + 1, 0, none⟩ v0).setCell ⟨w.heap.size + 1, 1, none⟩ v1).setCell ⟨w.heap.size + 1, 2, none⟩ v2).setCell ⟨w.heap.size + 1, 3, none⟩ v3).setCell ⟨w.heap.size + 1, 4, none⟩ v4).cell? ⟨w.heap.size, 1, none⟩ = some (.string N) ∧ (((((W2.setCell ⟨w.heap.size + 1, 0, none⟩ v0).setCell ⟨w.heap.size + 1, 1, none⟩ v1).setCell ⟨w.heap.size + 1, 2, none⟩ v2).setCell ⟨w.heap.size + 1, 3, none⟩ v3).setCell ⟨w.heap.size + 1, 4, none⟩ v4).cell? ⟨w.heap.size, 2, none⟩ = some (.string X) ∧ (((((W2.setCell ⟨w.heap.size + 1, 0, none⟩ v0).setCell ⟨w.heap.size + 1, 1, none⟩ v1).setCell ⟨w.heap.size + 1, 2, none⟩ v2).setCell ⟨w.heap.size + 1, 3, none⟩ v3).setCell ⟨w.heap.size + 1, 4, none⟩ v4).cell? ⟨w.heap.size, 3, none⟩ = some (.slice a1 n1 c1) := fun v0 v1 v2 v3 v4 => by
    have h5 := hT2.same (five_other W2 (w.heap.size + 1) (k := w.heap.size) (by omega) v0 v1 v2 v3 v4)
    exact ⟨h5.c0, h5.c1, h5.c2, h5.c3⟩
  obtain ⟨r0, r1, r2, r3, r4, rfz⟩ := id hR2
  have rf0 := rfz 0
  have rf1 := rfz 1
  have rf2 := rfz 2
  have rf3 := rfz 3
  have rf4 := rfz 4
  have HW1 := Fact.mk hW1
  have HRUN := Fact.mk hrun
  have HR2 := Fact.mk hR2
  have HAS := Fact.mk hAS
  have HB2 : Fact (Below w.heap.size w W2) := ⟨hB1.trans (hb2'.mono hB1.size)⟩
  clear hW1 hrun hR2 hAS hb2 hb2' hT2 hT hR rfz ha hB1
  go_enter Try.func43, Try.ntmps43
  go_wp2_with fail
  rw [HW1.out]
  go_region_held3 (fun w' => w'.cell? ⟨w.heap.size, 0, none⟩ = some (.int .i64 K) ∧ w'.cell? ⟨w.heap.size, 1, none⟩ = some (.string N) ∧ w'.cell? ⟨w.heap.size, 2, none⟩ = some (.string X) ∧ w'.cell? ⟨w.heap.size, 3, none⟩ = some (.slice a1 n1 c1))
    (first | with_reducible exact hS0 | with_reducible exact hS2 | with_reducible exact hS3 _ _ _ _ _)
    (first
      | (refine wp_append_run (s := .const (.slice none 0 0)) (y := .tmp 10) (t := 22) rfl (by simp [Act.eval]) (by simp [Act.eval]) (HRUN.out _) ?_))
  go_wp2_with fail
  have h5 := five_all HR2.out (.int .i64 K) (.string N) (.string X) (.slice y1 y2 y3) (.slice none 0 0)
  have hoth : ∀ b, b ≠ w.heap.size + 1 → _ := fun b hb => five_other W2 (w.heap.size + 1) hb (.int .i64 K) (.string N) (.string X) (.slice y1 y2 y3) (.slice none 0 0)
  obtain ⟨W5, hW5⟩ : ∃ W5, ((((W2.setCell ⟨w.heap.size + 1, 0, none⟩ (.int .i64 K)).setCell ⟨w.heap.size + 1, 1, none⟩ (.string N)).setCell ⟨w.heap.size + 1, 2, none⟩ (.string X)).setCell ⟨w.heap.size + 1, 3, none⟩ (.slice y1 y2 y3)).setCell ⟨w.heap.size + 1, 4, none⟩ (.slice none 0 0) = W5 := ⟨_, rfl⟩
  have hz5 : W5.heap.size = W2.heap.size := by rw [← hW5]; simp [World.setCell]
  have hB5 : Below w.heap.size w W5 := ⟨by rw [← hW5]; exact HB2.out.os, by rw [← hW5]; exact HB2.out.tape, by rw [← hW5]; exact HB2.out.output, by rw [hz5]; exact HB2.out.size, fun k hk => by rw [← hW5]; exact (hoth k (by omega)).trans (HB2.out.block k hk)⟩
  have hA5 : AS (fun b => w.heap.size ≤ b) W5 (.slice y1 y2 y3) A := (HAS.out.like (fun b hb _ => by
    have hb' : W1.drew.heap.size ≤ b := hb
    have hzd : W1.drew.heap.size = W1.heap.size := rfl
    rw [← hW5]; exact hoth b (by omega))).mono (fun b hb => by
    have hb' : W1.drew.heap.size ≤ b := hb
    have hzd : W1.drew.heap.size = W1.heap.size := rfl
    show w.heap.size ≤ b
    omega)
  rw [hW5] at h5
  rw [hW5]
  exact bodyPost_ret (v := nodeV ⟨K, N, X, A⟩ (.slice y1 y2 y3) (.slice none 0 0)) (by simp [results, Try.f43, go_sem, h5.c0, h5.c1, h5.c2, h5.c3, h5.c4]) rfl ⟨y1, y2, y3, rfl, hB5, hA5⟩
end Go.Proofs.Ytjjkidenlgghkaa
