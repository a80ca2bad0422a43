/- Until; the document's own Implied and Until. -/
import Derived.Test.YtnioibpeagffdaaKI
import Derived.Test.YtnioibpeagffdaaKH
set_option linter.unusedVariables false
namespace Go.Proofs.Ytnioibpeagffdaa
open Go.RowKit Go.Shelf
attribute [local go_sem] Oper.semAt_some

set_option maxRecDepth 100000 in
set_option maxHeartbeats 4000000 in
theorem until_any (l ns : List ByteArray) (v u : Value) (w : World) (hS : SS w.heap.size w v l) (hN : SS w.heap.size w u ns) (B : Nat) (hV : Fact (unK l ns l.length l.length = B)) :
    Calls Try.prog 16 #[v, u] w fun e w' => e = .returned (.int .i64 B) ∧ Below w.heap.size w w' := by
  refine (callsIn_wide (n := 4)).1 ?_
  have hml : l.length ≤ 9223372036854775807 := by
    obtain ⟨a, cp, b, o, e, h1, h2, _⟩ := hS
    unfold maxLen at h2
    omega
  obtain ⟨a, cp, e⟩ := hS.val
  subst e
  obtain ⟨na, nc, e⟩ := hN.val
  subst e
  have HS := Fact.mk hS
  have HN := Fact.mk hN
  have HML := Fact.mk hml
  clear hS hN hml
  refine callsIn_of_wp_marks Try.func16 rfl trivial ?_ rfl
  simp only [Try.ntmps16, List.size_toArray, List.length_cons, List.length_nil, Nat.reduceAdd, Nat.reduceSub, Array.replicate_succ, Array.replicate_zero, List.push_toArray, List.append_toArray, List.nil_append, List.cons_append]
  gi_wp2_with (refine ⟨trivial, ?_⟩; gi_at_call 22; refine (backward_in Fence.wide _ trivial rfl _ _ _ _).mono ?_; rintro e w' ⟨rfl, rfl⟩)
  have b0 := box_at (W := (((w.alloc (.cells #[.slice a l.length cp] 22)).alloc (.cells #[.slice na ns.length nc] 22)).alloc (.cells #[.int .i64 0] 3)).alloc (.cells #[.slice a l.length cp] 22)) (.slice a l.length cp) 22 ((((Below.refl _ _).alloc (by simp) _).alloc (by simp) _).alloc (by simp) _)
  have b1 := box_at (W := (((w.alloc (.cells #[.slice a l.length cp] 22)).alloc (.cells #[.slice na ns.length nc] 22)).alloc (.cells #[.int .i64 0] 3)).alloc (.cells #[.slice a l.length cp] 22)) (.slice na ns.length nc) 22 (((Below.refl _ _).alloc (by simp) _).alloc (by simp) _)
  have b2 := box_at (W := (((w.alloc (.cells #[.slice a l.length cp] 22)).alloc (.cells #[.slice na ns.length nc] 22)).alloc (.cells #[.int .i64 0] 3)).alloc (.cells #[.slice a l.length cp] 22)) (.int .i64 0) 3 ((Below.refl _ _).alloc (by simp) _)
  have b3 := box_at (W := (((w.alloc (.cells #[.slice a l.length cp] 22)).alloc (.cells #[.slice na ns.length nc] 22)).alloc (.cells #[.int .i64 0] 3)).alloc (.cells #[.slice a l.length cp] 22)) (.slice a l.length cp) 22 (Below.refl _ _)
  have hB0 : Below w.heap.size w ((((w.alloc (.cells #[.slice a l.length cp] 22)).alloc (.cells #[.slice na ns.length nc] 22)).alloc (.cells #[.int .i64 0] 3)).alloc (.cells #[.slice a l.length cp] 22)) := ((((Below.refl _ w).alloc (Nat.le_refl _) _).alloc (by simp) _).alloc (by simp; omega) _).alloc (by simp; omega) _
  have hz : ((((w.alloc (.cells #[.slice a l.length cp] 22)).alloc (.cells #[.slice na ns.length nc] 22)).alloc (.cells #[.int .i64 0] 3)).alloc (.cells #[.slice a l.length cp] 22)).heap.size = w.heap.size + 4 := by simp
  simp only [World.size_alloc] at b0 b1 b2 b3
  obtain ⟨W0, hW0⟩ : ∃ W0, (((w.alloc (.cells #[.slice a l.length cp] 22)).alloc (.cells #[.slice na ns.length nc] 22)).alloc (.cells #[.int .i64 0] 3)).alloc (.cells #[.slice a l.length cp] 22) = W0 := ⟨_, rfl⟩
  rw [hW0] at b0 b1 b2 b3 hB0 hz ⊢
  clear hW0
  obtain ⟨al, hal⟩ : ∃ al, l.length = al := ⟨_, rfl⟩
  have hgv := back_gives Fence.wide (4 - 1) trivial rfl (by omega) w.heap.size (w.heap.size + 1 + 1 + 1) _ l (fun k => k < w.heap.size + 4 ∧ k ≠ w.heap.size + 2) W0 (HS.out.below hB0 (Nat.le_refl _)) (by omega) (fun k hk => ⟨by omega, by omega⟩) (by omega) ⟨by omega, by omega⟩ b3.1
  rw [hal] at hgv hV HML b0 ⊢
  refine wpIn_range rfl (by omega) (gf := 26) (lb := #[.pointer (some ⟨w.heap.size + 1 + 1 + 1, 0, none⟩)]) rfl trivial (enters_of Try.func26 (by kernel_rfl) rfl) hgv (fun k hk => by omega) (Below.refl _ _) (fun _ => rfl)
    (fun pre W => (W.cell? ⟨w.heap.size, 0, none⟩ = some (.slice a al cp) ∧ W.cell? ⟨w.heap.size + 1, 0, none⟩ = some (.slice na ns.length nc) ∧ W.cell? ⟨w.heap.size + 1 + 1, 0, none⟩ = some (.int .i64 0) ∧ W.frozen? ⟨w.heap.size + 1 + 1, 0, none⟩ = false) ∧ Below w.heap.size w W ∧ Fact (∃ j, al = pre.length + j ∧ unK l ns al j = B))
    (fun c pre W => c = .ret ∧ W.cell? ⟨w.heap.size + 1 + 1, 0, none⟩ = some (.int .i64 B) ∧ Below w.heap.size w W)
    (fun s A A' hs hb => ⟨⟨(hb.cell (p := ⟨w.heap.size, 0, none⟩) (by show w.heap.size < _; omega)).trans hs.1.1, (hb.cell (p := ⟨w.heap.size + 1, 0, none⟩) (by show w.heap.size + 1 < _; omega)).trans hs.1.2.1, (hb.cell (p := ⟨w.heap.size + 1 + 1, 0, none⟩) (by show w.heap.size + 1 + 1 < _; omega)).trans hs.1.2.2.1, (hb.frozen (p := ⟨w.heap.size + 1 + 1, 0, none⟩) (by show w.heap.size + 1 + 1 < _; omega)).trans hs.1.2.2.2⟩, hs.2.1.trans (hb.mono (by omega)), hs.2.2⟩)
    (fun c s A A' hs hb => ⟨hs.1, (hb.cell (p := ⟨w.heap.size + 1 + 1, 0, none⟩) (by show w.heap.size + 1 + 1 < _; omega)).trans hs.2.1, hs.2.2.trans (hb.mono (by omega))⟩)
    ⟨⟨b0.1, b1.1, b2.1, b2.2⟩, hB0, ⟨al, by simp, hV.out⟩⟩
    (fun y a' W => a' = { tmps := #[.slice a al cp, .slice na ns.length nc, .pointer (some ⟨w.heap.size, 0, none⟩), .pointer (some ⟨w.heap.size + 1, 0, none⟩), .pointer (some ⟨w.heap.size + 1 + 1, 0, none⟩), .int .i64 y.1, .string y.2, .slice a al cp, .func (.func 26) #[] #[.pointer (some ⟨w.heap.size + 1 + 1 + 1, 0, none⟩)], .int .i64 y.1, .string y.2, undef, undef, undef, undef, undef, undef, undef], defers := [] })
    (fun _ _ _ _ h _ => h) ?assign ?body ?done ?stop
  case assign =>
    intro lp pre y W K hi hp hlt hK
    simp only [encB]
    rw [fold2]
    gi_wp2
    exact hK _ _ (Below.refl _ _) rfl
  case body =>
    rintro lp pre y a' W ⟨⟨c0, c1, c2, f2⟩, hB, hI⟩ rfl hp hlt
    obtain ⟨j, e1, rfl⟩ := bk_pre l al pre y hp
    obtain ⟨j', e2, e3⟩ := hI.out
    obtain rfl : j' = j + 1 := by omega
    have e4 : al = (pre ++ [(j, tx l j)]).length + j := by rw [List.length_append]; simp; omega
    unfold unK at e3
    dsimp only
    have hjl : j < al := by omega
    obtain ⟨Y, hY⟩ : ∃ Y, tx l j = Y := ⟨_, rfl⟩
    rw [hY] at e3 e4 ⊢
    have hret : ∀ b : Int, Keep (fun k => k < w.heap.size + 4 ∧ k ≠ w.heap.size + 2) W0.heap.size W (W.setCell ⟨w.heap.size + 1 + 1, 0, none⟩ (.int .i64 b)) ∧ (W.setCell ⟨w.heap.size + 1 + 1, 0, none⟩ (.int .i64 b)).cell? ⟨w.heap.size + 1 + 1, 0, none⟩ = some (.int .i64 b) ∧ Below w.heap.size w (W.setCell ⟨w.heap.size + 1 + 1, 0, none⟩ (.int .i64 b)) := fun b =>
      ⟨(Keep.refl _ _ _).setCell (p := ⟨w.heap.size + 1 + 1, 0, none⟩) (by rintro ⟨_, h⟩; exact h rfl) (by show w.heap.size + 1 + 1 < _; omega) _, World.cell?_setCell_same' _ _ _ (by rw [c2]; rfl), hB.setCell (p := ⟨w.heap.size + 1 + 1, 0, none⟩) (by show _ ≤ w.heap.size + 1 + 1; omega) _⟩
    have HRET := Fact.mk hret
    have E4 := Fact.mk e4
    have HNW := Fact.mk (HN.out.below hB (Nat.le_refl _))
    clear hret hI hp e1 e2 e4 hY hgv hlt
    cases h1 : hasB ns Y
    · rw [h1, if_neg (by simp)] at e3
      have E3 := Fact.mk e3
      have H1 := Fact.mk h1
      clear e3 h1
      gi_wp2_with (refine ⟨trivial, ?_⟩; gi_at_call 20; refine (CallsIn.inRound lp (callsIn_wide.2 (contains_any ns _ _ _ HNW.out _ false H1))).mono ?_; rintro e w2 ⟨rfl, rfl⟩)
      exact ⟨Keep.refl _ _ _, ⟨c0, c1, c2, f2⟩, hB, ⟨j, E4.out, E3.out⟩⟩
    · rw [h1, if_pos rfl] at e3
      have H1 := Fact.mk h1
      have hw : wrap64 ((al : Int) - j) = (B : Int) := by
        have := HML.out
        unfold wrap64; omega
      have E3 := Fact.mk e3
      clear e3 h1
      gi_wp2_with (refine ⟨trivial, ?_⟩; gi_at_call 20; refine (CallsIn.inRound lp (callsIn_wide.2 (contains_any ns _ _ _ HNW.out _ true H1))).mono ?_; rintro e w2 ⟨rfl, rfl⟩)
      exact ⟨(HRET.out _).1, rfl, (HRET.out _).2⟩
  case done =>
    rintro D W hD ⟨⟨c0, c1, c2, f2⟩, hB, hI⟩ hK
    obtain ⟨j, e1, e2⟩ := hI.out
    rw [bk_len] at e1
    obtain rfl : j = 0 := by omega
    subst e2
    clear hgv
    gi_wp2
    have hK' := (KeepsOthers.setCell W ⟨w.heap.size + 1 + 1, 0, none⟩ (.int .i64 0)).same D _ hK rfl
    refine ⟨by simp, .inl ⟨_, _, rfl, run_takeDeferred hK', ?_⟩⟩
    have hc5 := cell_kept (World.cell?_setCell_same' W ⟨w.heap.size + 1 + 1, 0, none⟩ (.int .i64 0) (by rw [c2]; rfl)) (grownBy_putObj' _ D (.deferred none)) (fun r e => by cases e; exact ⟨_, hK', rfl⟩)
    refine ⟨.int .i64 0, ?_, rfl, below_putObj (hB.setCell (p := ⟨w.heap.size + 1 + 1, 0, none⟩) (by show _ ≤ w.heap.size + 1 + 1; omega) _) (by omega) (by have := hB.size; simp [World.setCell]; omega) _⟩
    simp [results, Try.f16, go_sem, hc5]
  case stop =>
    rintro D c pre W hD hpre ⟨rfl, hr, hB⟩ hK
    clear hgv
    gi_wp2
    refine ⟨by simp, .inl ⟨_, _, rfl, run_takeDeferred hK, ?_⟩⟩
    have hc5 := cell_kept hr (grownBy_putObj' _ D (.deferred none)) (fun r e => by cases e; exact ⟨_, hK, rfl⟩)
    refine ⟨.int .i64 B, ?_, rfl, below_putObj hB (by omega) (by have := hB.size; omega) _⟩
    simp [results, Try.f16, go_sem, hc5]

end Go.Proofs.Ytnioibpeagffdaa
