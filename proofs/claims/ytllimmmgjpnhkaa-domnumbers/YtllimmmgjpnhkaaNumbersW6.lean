/- DomNumbers, walked. -/
import Derived.Test.YtllimmmgjpnhkaaDomY
import Derived.Test.YtllimmmgjpnhkaaDomW6
import Derived.Test.YtllimmmgjpnhkaaCopy
import Derived.Deep.RegionHeld3
set_option linter.unusedVariables false
set_option linter.unusedSimpArgs false
namespace Go.Proofs.Ytllimmmgjpnhkaa
open Go.Deep (BT)
open Go.RowKit M

theorem keepN {w0 w' w5 : World} {B C : Nat} {x0 x1 x2 x3 x4 x5 : Value} (hb : Below w'.heap.size w' w5) (hB : B < w0.heap.size) (hC : C < w0.heap.size)
    (h : Below w0.heap.size w0 w' ∧ (w'.cell? ⟨B, 0, none⟩ = some x0 ∧ w'.cell? ⟨B, 1, none⟩ = some x1 ∧ w'.cell? ⟨B, 2, none⟩ = some x2 ∧ w'.cell? ⟨B, 3, none⟩ = some x3 ∧ w'.cell? ⟨B, 4, none⟩ = some x4) ∧ w'.cell? ⟨C, 0, none⟩ = some x5) :
    Below w0.heap.size w0 w5 ∧ (w5.cell? ⟨B, 0, none⟩ = some x0 ∧ w5.cell? ⟨B, 1, none⟩ = some x1 ∧ w5.cell? ⟨B, 2, none⟩ = some x2 ∧ w5.cell? ⟨B, 3, none⟩ = some x3 ∧ w5.cell? ⟨B, 4, none⟩ = some x4) ∧ w5.cell? ⟨C, 0, none⟩ = some x5 := by
  obtain ⟨h0, ⟨q0, q1, q2, q3, q4⟩, q5⟩ := h
  have hs := h0.size
  have e : ∀ (b o : Nat), b < w0.heap.size → w5.cell? ⟨b, o, none⟩ = w'.cell? ⟨b, o, none⟩ := fun b o h => World.cell?_of_block (w := w') (a := ⟨b, o, none⟩) (hb.block b (by omega))
  exact ⟨h0.trans (hb.mono hs), ⟨(e _ _ hB).trans q0, (e _ _ hB).trans q1, (e _ _ hB).trans q2, (e _ _ hB).trans q3, (e _ _ hB).trans q4⟩, (e _ _ hC).trans q5⟩

set_option maxRecDepth 20000 in
set_option maxHeartbeats 4000000 in
theorem numbers_walk (d : Nd) (k : M.F) (av kv : Value) (w : World) (hl : Lies w.heap.size w d k av kv) :
    Calls Try.prog 6 #[nodeV d av kv] w fun e w' => e = .returned (.bool true) ∧ Below w.heap.size w w' := by
  obtain ⟨Kd, N, X, A⟩ := d
  obtain ⟨a1, c1, rfl, hc1, hm1, hA⟩ := id hl.a
  obtain ⟨a2, c2, rfl, hc2, hm2, hF⟩ := id hl.f
  dsimp only at hc1 hA
  dsimp only
  obtain ⟨al, hal⟩ : ∃ al, A.length = al := ⟨_, rfl⟩
  obtain ⟨kl, hkl⟩ : ∃ kl, k.len = kl := ⟨_, rfl⟩
  have HL := Fact.mk hl
  dsimp only at HL
  rw [hal, hkl] at HL ⊢
  rw [hal] at hc1
  rw [hkl] at hc2
  unfold maxLen at hm1 hm2
  obtain ⟨W, hW⟩ : ∃ W, w.alloc (.cells #[.int .i64 Kd, .string N, .string X, .slice a1 al c1, .slice a2 kl c2] 25) = W := ⟨_, rfl⟩
  obtain ⟨hz, hbW, hnew⟩ := five_one hW
  obtain ⟨x0, x1, x2, x3, x4, _⟩ := five_at hnew
  have HBW := Fact.mk hbW
  have HZ := Fact.mk hz
  have HNEW := Fact.mk hnew
  clear hl hA hF hbW hz hnew hal hkl
  go_enter Try.func6, Try.ntmps6
  go_wp2_with fail
  refine (Small_any ⟨Kd, N, X, A⟩ k _ _ w.heap.size W (HL.out.below HBW.out) HBW.out.size).mono ?_
  rintro e w2 (⟨rfl, hb2⟩ | ⟨rfl, hb2, hft⟩)
  · go_wp2_with (go_at_call 10; refine (awake6_true _).mono ?_; rintro e w3 ⟨rfl, hb3⟩)
    go_ret
    exact ⟨rfl, HBW.out.trans ((hb2.mono (by have := HZ.out; omega)).trans (hb3.mono (by have := hb2.size; have := HZ.out; omega)))⟩
  · have HB2 := Fact.mk hb2
    obtain ⟨y0, y1, y2, y3, y4, _⟩ := five_at ((hb2.block w.heap.size (by have := HZ.out; omega)).trans HNEW.out)
    have hB2 : Below w.heap.size w w2 := HBW.out.trans (hb2.mono HBW.out.size)
    have HBB2 := Fact.mk hB2
    have HCP := Fact.mk (copy_any k ⟨Kd, N, X, A⟩ _ _ w.heap.size w2 (HL.out.below hB2) hB2.size (by have := hft.out.slots; have := hft.out.size; omega) (by have := hft.out.size; omega))
    clear x0 x1 x2 x3 x4 hb2 hB2
    go_wp2_with fail
    refine HCP.out.mono ?_
    rintro e w3 ⟨av', kv', rfl, hb3, hA3, hF3⟩
    have HB3 : Fact (Below w.heap.size w w3) := ⟨HBB2.out.trans (hb3.mono HBB2.out.size)⟩
    have HB23 := Fact.mk hb3
    have HL3 : Fact (Lies w3.heap.size w3 ⟨Kd, N, X, A⟩ k av' kv') := ⟨⟨hA3.here, hF3.here⟩⟩
    obtain ⟨a3, c3, rfl, _⟩ := id hA3
    obtain ⟨a4, c4, rfl, _⟩ := id hF3
    clear hA3 hF3 hb3 HCP y0 y1 y2 y3 y4
    cases hok : treeOK ⟨Kd, N, X, A⟩ k with
    | false =>
      have HNEWW := Fact.mk (dNew_not ⟨Kd, N, X, A⟩ k _ _ w3.heap.size w3 HL3.out (Nat.le_refl _) (by have := hft.out.depth; omega) hok)
      clear hok
      go_wp2_with fail
      refine HNEWW.out.mono ?_
      rintro e w4 ⟨rfl, hb4⟩
      have HB4 : Fact (Below w.heap.size w w4) := ⟨HB3.out.trans (hb4.mono HB3.out.size)⟩
      clear hb4 HNEWW
      go_wp2_with (go_at_call 10; refine (awake6_true _).mono ?_; rintro e w5 ⟨rfl, hb5⟩)
      go_ret
      exact ⟨rfl, HB4.out.trans (hb5.mono HB4.out.size)⟩
    | true =>
      have HNEWW := Fact.mk (dNew_any ⟨Kd, N, X, A⟩ k _ _ w3.heap.size w3 HL3.out (Nat.le_refl _) (by have := hft.out.depth; omega) hok (by have := hft.out.size; omega) (by have := hft.out.slots; have := hft.out.size; omega))
      clear hok
      go_wp2_with fail
      refine HNEWW.out.mono ?_
      rintro e w4 ⟨p, mb, L, v, rfl, hA4, hb4, hL4⟩
      have HB4 : Fact (Below w.heap.size w w4) := ⟨HB3.out.trans (hb4.mono HB3.out.size)⟩
      have HB24 : Fact (Below W.heap.size W w4) := ⟨(HB2.out.trans (HB23.out.mono HB2.out.size)).trans (hb4.mono (by have := HB23.out.size; have := HB2.out.size; omega))⟩
      obtain ⟨W5, hW5⟩ : ∃ W5, w4.alloc (.cells #[.bool true] 4) = W5 := ⟨_, rfl⟩
      have hb5 : Below w4.heap.size w4 W5 := by rw [← hW5]; exact (Below.refl _ _).alloc (Nat.le_refl _) _
      have hz5 : W5.heap.size = w4.heap.size + 1 := by rw [← hW5]; simp
      have s4 : w.heap.size < w4.heap.size := by have := HB24.out.size; have := HZ.out; omega
      obtain ⟨y0, y1, y2, y3, y4, _⟩ := five_at (((HB24.out.trans (hb5.mono HB24.out.size)).block w.heap.size (by have := HZ.out; omega)).trans HNEW.out)
      have hok5 : W5.cell? ⟨w4.heap.size, 0, none⟩ = some (.bool true) := by rw [← hW5]; exact World.cell?_alloc_new w4 _ _ 0
      have hOK : OKP (L.map pn) := by
        rw [hL4]
        exact (numF_ok k _ 0 (placeP_ok ⟨fun i x h => by simp at h, fun x h => by simp at h⟩ _ _)).1
      have hlen : L.length = k.size + 1 := by
        have h9 := (numF_ok k (placeP [] ⟨Kd, N, X, A⟩ (-1)) 0 (placeP_ok ⟨fun i x h => by simp at h, fun x h => by simp at h⟩ _ _)).2
        rw [← hL4, List.length_map, placeP_len] at h9
        simp only [List.length_nil] at h9
        omega
      have hsit : Sits (L.map pn) (.node 0 0 ⟨Kd, N, X, A⟩ k .nil) 0 (-1) := by rw [hL4]; exact sits_root _ _
      have hpar : ParsOK L := by
        intro y hy
        have h9 := num_par ⟨Kd, N, X, A⟩ k (pn y) (by rw [← hL4]; exact List.mem_map_of_mem hy)
        exact h9
      have hB5 : Below w.heap.size w W5 := HB4.out.trans (hb5.mono HB4.out.size)
      have hA5 := hA4.below hb5 (Nat.le_refl _)
      have HNUM : Fact (Calls Try.prog 34 #[.pointer (some ⟨p, 0, none⟩), nodeV ⟨Kd, N, X, A⟩ (.slice a1 al c1) (.slice a2 kl c2), .int .i64 0, .pointer (some ⟨w4.heap.size, 0, none⟩)] W5 fun e w' => e = .returned (.int .i64 (k.size + 1 : Nat)) ∧ Below W5.heap.size W5 w') := ⟨by
        have h9 := lnumber_any k ⟨Kd, N, X, A⟩ (.slice a1 al c1) (.slice a2 kl c2) w.heap.size W5 L w3.heap.size p mb v 0 (-1) ⟨w4.heap.size, 0, none⟩ (HL.out.below hB5) hB5.size hA5 hOK hpar hsit.here hsit.kids (by have := hft.out.size; omega) (by have := hft.out.slots; have := hft.out.size; omega)
        rw [show 0 + 1 + k.size = k.size + 1 by omega] at h9
        exact h9⟩
      obtain ⟨rk, ra, hroot⟩ := pn_at hsit.here
      have HROOT := Fact.mk hroot
      have HA5 := Fact.mk hA5
      have HB5 := Fact.mk hB5
      have HOK := Fact.mk hOK
      have HLEN := Fact.mk hlen
      have HZ5 := Fact.mk hz5
      clear hA4 hb4 hL4 hOK hlen hsit hpar hroot hA5 hB5 hb5 hz5 HNEWW
      go_wp2_with fail
      refine HNUM.out.mono ?_
      rintro e w6 ⟨rfl, hb6⟩
      have hB6 : Below w.heap.size w w6 := HB5.out.trans (hb6.mono HB5.out.size)
      have HB6 := Fact.mk hB6
      have hs6 : w4.heap.size < w6.heap.size := by have := hb6.size; have := HZ5.out; omega
      have ec : ∀ (b o : Nat), b < W5.heap.size → w6.cell? ⟨b, o, none⟩ = W5.cell? ⟨b, o, none⟩ := fun b o h => World.cell?_of_block (w := W5) (a := ⟨b, o, none⟩) (hb6.block b h)
      have hw5 : w.heap.size < W5.heap.size := by have := HZ5.out; omega
      have hS6 : Below w6.heap.size w6 w6 ∧ (w6.cell? ⟨w.heap.size, 0, none⟩ = some (.int .i64 Kd) ∧ w6.cell? ⟨w.heap.size, 1, none⟩ = some (.string N) ∧ w6.cell? ⟨w.heap.size, 2, none⟩ = some (.string X) ∧ w6.cell? ⟨w.heap.size, 3, none⟩ = some (.slice a1 al c1) ∧ w6.cell? ⟨w.heap.size, 4, none⟩ = some (.slice a2 kl c2)) ∧ w6.cell? ⟨w4.heap.size, 0, none⟩ = some (.bool true) := ⟨Below.refl _ _, ⟨(ec _ _ hw5).trans y0, (ec _ _ hw5).trans y1, (ec _ _ hw5).trans y2, (ec _ _ hw5).trans y3, (ec _ _ hw5).trans y4⟩, (ec _ _ (by have := HZ5.out; omega)).trans hok5⟩
      have HA6 := Fact.mk (HA5.out.below hb6 (Nat.le_refl _))
      have hw6 : w.heap.size < w6.heap.size := by omega
      have hp0 : placeOf L ((0 : Nat) : Int) = some ((0 : Nat) : Int) := pos_place HOK.out (by have := HLEN.out; omega)
      have CLEN : Fact (∀ w', (Below w6.heap.size w6 w' ∧ (w'.cell? ⟨w.heap.size, 0, none⟩ = some (.int .i64 Kd) ∧ w'.cell? ⟨w.heap.size, 1, none⟩ = some (.string N) ∧ w'.cell? ⟨w.heap.size, 2, none⟩ = some (.string X) ∧ w'.cell? ⟨w.heap.size, 3, none⟩ = some (.slice a1 al c1) ∧ w'.cell? ⟨w.heap.size, 4, none⟩ = some (.slice a2 kl c2)) ∧ w'.cell? ⟨w4.heap.size, 0, none⟩ = some (.bool true)) → Calls Try.prog 27 #[.pointer (some ⟨p, 0, none⟩)] w' fun e w'' => e = .returned (.int .i64 (k.size + 1 : Nat)) ∧ Below w'.heap.size w' w'') := ⟨fun w' h' => by
        have h9 := dLen_any L _ p mb v w' (HA6.out.below h'.1 (Nat.le_refl _))
        rw [HLEN.out] at h9
        exact h9.mono fun e w'' h => ⟨h.1, by rw [h.2]; exact Below.refl _ _⟩⟩
      have CSIZ : Fact (∀ w', (Below w6.heap.size w6 w' ∧ (w'.cell? ⟨w.heap.size, 0, none⟩ = some (.int .i64 Kd) ∧ w'.cell? ⟨w.heap.size, 1, none⟩ = some (.string N) ∧ w'.cell? ⟨w.heap.size, 2, none⟩ = some (.string X) ∧ w'.cell? ⟨w.heap.size, 3, none⟩ = some (.slice a1 al c1) ∧ w'.cell? ⟨w.heap.size, 4, none⟩ = some (.slice a2 kl c2)) ∧ w'.cell? ⟨w4.heap.size, 0, none⟩ = some (.bool true)) → Calls Try.prog 26 #[nodeV ⟨Kd, N, X, A⟩ (.slice a1 al c1) (.slice a2 kl c2)] w' fun e w'' => e = .returned (.int .i64 (k.size + 1 : Nat)) ∧ Below w'.heap.size w' w'') := ⟨fun w' h' => by
        have hbx : Below w.heap.size w w' := HB6.out.trans (h'.1.mono HB6.out.size)
        exact size_any _ _ _ _ _ (HL.out.a.old hbx hbx.size) (HL.out.f.old hbx hbx.size) (by have := hft.out.depth; omega) (by have := hft.out.size; omega)⟩
      have CPAR : Fact (∀ w', (Below w6.heap.size w6 w' ∧ (w'.cell? ⟨w.heap.size, 0, none⟩ = some (.int .i64 Kd) ∧ w'.cell? ⟨w.heap.size, 1, none⟩ = some (.string N) ∧ w'.cell? ⟨w.heap.size, 2, none⟩ = some (.string X) ∧ w'.cell? ⟨w.heap.size, 3, none⟩ = some (.slice a1 al c1) ∧ w'.cell? ⟨w.heap.size, 4, none⟩ = some (.slice a2 kl c2)) ∧ w'.cell? ⟨w4.heap.size, 0, none⟩ = some (.bool true)) → Calls Try.prog 30 #[.pointer (some ⟨p, 0, none⟩), .int .i64 0] w' fun e w'' => e = .returned (.int .i64 (-1)) ∧ Below w'.heap.size w' w'') := ⟨fun w' h' =>
        dParent_any L _ p mb v w' 0 0 _ (HA6.out.below h'.1 (Nat.le_refl _)) ⟨by decide⟩ hp0 HROOT.out⟩
      have CPLA : Fact (∀ w', (Below w6.heap.size w6 w' ∧ (w'.cell? ⟨w.heap.size, 0, none⟩ = some (.int .i64 Kd) ∧ w'.cell? ⟨w.heap.size, 1, none⟩ = some (.string N) ∧ w'.cell? ⟨w.heap.size, 2, none⟩ = some (.string X) ∧ w'.cell? ⟨w.heap.size, 3, none⟩ = some (.slice a1 al c1) ∧ w'.cell? ⟨w.heap.size, 4, none⟩ = some (.slice a2 kl c2)) ∧ w'.cell? ⟨w4.heap.size, 0, none⟩ = some (.bool true)) → Calls Try.prog 31 #[.pointer (some ⟨p, 0, none⟩), .int .i64 0] w' fun e w'' => e = .returned (.int .i64 (-1)) ∧ Below w'.heap.size w' w'') := ⟨fun w' h' =>
        dPlace_not L _ p mb v w' 0 0 _ (HA6.out.below h'.1 (Nat.le_refl _)) ⟨by decide⟩ hp0 HROOT.out rfl⟩
      clear hb6 hB6 ec hw5 y0 y1 y2 y3 y4 hok5 HNUM hp0 hW5 hW
      have hS0 : Below w6.heap.size w6 w6.drew ∧ (w6.drew.cell? ⟨w.heap.size, 0, none⟩ = some (.int .i64 Kd) ∧ w6.drew.cell? ⟨w.heap.size, 1, none⟩ = some (.string N) ∧ w6.drew.cell? ⟨w.heap.size, 2, none⟩ = some (.string X) ∧ w6.drew.cell? ⟨w.heap.size, 3, none⟩ = some (.slice a1 al c1) ∧ w6.drew.cell? ⟨w.heap.size, 4, none⟩ = some (.slice a2 kl c2)) ∧ w6.drew.cell? ⟨w4.heap.size, 0, none⟩ = some (.bool true) := ⟨(Below.refl _ _).drew, hS6.2⟩
      clear hS6
      go_wp2_with fail
      go_region_held3 (fun w' => Below w6.heap.size w6 w' ∧ (w'.cell? ⟨w.heap.size, 0, none⟩ = some (.int .i64 Kd) ∧ w'.cell? ⟨w.heap.size, 1, none⟩ = some (.string N) ∧ w'.cell? ⟨w.heap.size, 2, none⟩ = some (.string X) ∧ w'.cell? ⟨w.heap.size, 3, none⟩ = some (.slice a1 al c1) ∧ w'.cell? ⟨w.heap.size, 4, none⟩ = some (.slice a2 kl c2)) ∧ w'.cell? ⟨w4.heap.size, 0, none⟩ = some (.bool true))
        (first | with_reducible exact hS0 | with_reducible exact keepN hb7 hw6 hs6 (by assumption) | with_reducible exact keepN hb8 hw6 hs6 (by assumption) | with_reducible exact keepN hb9 hw6 hs6 (by assumption) | with_reducible exact keepN hb10 hw6 hs6 (by assumption) | with_reducible exact keepN hb11 hw6 hs6 (by assumption) | assumption)
        (first
          | (go_at_call 27; refine (CLEN.out _ (by assumption)).mono ?_; rintro e w7 ⟨rfl, hb7⟩)
          | (go_at_call 26; refine (CSIZ.out _ (by assumption)).mono ?_; rintro e w8 ⟨rfl, hb8⟩)
          | (go_at_call 30; refine (CPAR.out _ (by assumption)).mono ?_; rintro e w9 ⟨rfl, hb9⟩)
          | (go_at_call 31; refine (CPLA.out _ (by assumption)).mono ?_; rintro e w10 ⟨rfl, hb10⟩)
          | (go_at_call 10; refine (awake6_true _).mono ?_; rintro e w11 ⟨rfl, hb11⟩))
      all_goals rename_i hSS
      all_goals go_wp2_with fail
      all_goals go_ret
      all_goals exact ⟨rfl, HB6.out.trans (hSS.1.mono HB6.out.size)⟩
end Go.Proofs.Ytllimmmgjpnhkaa
