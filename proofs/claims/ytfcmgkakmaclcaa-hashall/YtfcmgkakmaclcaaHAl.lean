/- alone: of any node, whatever its kids are, its number without them; new memory alone is made. -/
import Derived.Test.YtfcmgkakmaclcaaHTx
import Derived.Test.YtfcmgkakmaclcaaCmpA
import Derived.Deep.RegionHeld3
import Derived.Deep.Cut
import Derived.Deep.DeepCutAuto
import Derived.BigQuiet
set_option linter.unusedVariables false
set_option linter.unusedSimpArgs false
namespace Go.Proofs.Ytfcmgkakmaclcaa
open Go.Deep (BT)
open Go.RowKit Go.Shelf M
open Bt (mx IsU mx_u ret_int)

theorem alA_drop (h : Int) (A : List (ByteArray × ByteArray)) (j : Nat) (hj : j < A.length) : alA h (A.drop j) = alA (mx (mx h (tx (bs A j).1)) (tx (bs A j).2)) (A.drop (j + 1)) := by
  rw [List.drop_eq_getElem_cons hj, bs_get A j hj]
  rfl
structure Box5 (n : Nat) (K : Int) (N X : ByteArray) (va vk : Value) (w : World) : Prop where
  c0 : w.cell? ⟨n, 0, none⟩ = some (.int .i64 K)
  c1 : w.cell? ⟨n, 1, none⟩ = some (.string N)
  c2 : w.cell? ⟨n, 2, none⟩ = some (.string X)
  c3 : w.cell? ⟨n, 3, none⟩ = some va
  c4 : w.cell? ⟨n, 4, none⟩ = some vk
theorem Box5.keep {n : Nat} {K : Int} {N X : ByteArray} {va vk : Value} {w w' : World} (h : Box5 n K N X va vk w) (hb : Below w.heap.size w w') : Box5 n K N X va vk w' := by
  have h2 : n < w.heap.size := World.block_lt_of_cell? w _ h.c0
  exact ⟨(hb.cell (p := ⟨n, 0, none⟩) h2).trans h.c0, (hb.cell (p := ⟨n, 1, none⟩) h2).trans h.c1, (hb.cell (p := ⟨n, 2, none⟩) h2).trans h.c2, (hb.cell (p := ⟨n, 3, none⟩) h2).trans h.c3, (hb.cell (p := ⟨n, 4, none⟩) h2).trans h.c4⟩
theorem Box5.new (w : World) (K : Int) (N X : ByteArray) (va vk : Value) (ty : Nat) : Box5 w.heap.size K N X va vk (w.alloc (.cells #[.int .i64 K, .string N, .string X, va, vk] ty)) :=
  ⟨World.cell?_alloc_new w _ _ 0, World.cell?_alloc_new w _ _ 1, World.cell?_alloc_new w _ _ 2, World.cell?_alloc_new w _ _ 3, World.cell?_alloc_new w _ _ 4⟩

set_option maxRecDepth 20000 in
set_option maxHeartbeats 4000000 in
theorem alone_any (d : Nd) (av kv : Value) (S : Nat → Prop) (w : World) (ha : AS S w av d.ats) (hkv : ∃ a n c, kv = .slice a n c) :
    Calls Try.prog 32 #[nodeV d av kv] w fun e w' => e = .returned (.int .u64 (al d)) ∧ Below w.heap.size w w' := by
  obtain ⟨K, N, X, A⟩ := d
  obtain ⟨a1, c1, rfl, hc1, hm1, hA⟩ := ha
  obtain ⟨a2, kl, c2, rfl⟩ := hkv
  dsimp only at hc1 hA ⊢
  obtain ⟨aln, hal⟩ : ∃ aln, A.length = aln := ⟨_, rfl⟩
  rw [hal]
  rw [hal] at hc1
  unfold maxLen at hm1
  obtain ⟨b1, o1, hat⟩ : ∃ b o, Fact (∀ i, i < aln → a1 = some ⟨b, o, none⟩ ∧ w.cell? ⟨b, o + i * 2, none⟩ = some (.string (bs A i).1) ∧ w.cell? ⟨b, o + i * 2 + 1, none⟩ = some (.string (bs A i).2)) := by
    rcases hA with h0 | ⟨b, o, ea, hS, hcs⟩
    · refine ⟨0, 0, ⟨fun i hi => ?_⟩⟩
      rw [h0] at hal
      simp at hal
      omega
    · refine ⟨b, o, ⟨fun i hi => ⟨ea, ?_, ?_⟩⟩⟩
      · rw [← bs_get A i (by rw [hal]; exact hi)]; exact (hcs i (by rw [hal]; exact hi)).1
      · rw [← bs_get A i (by rw [hal]; exact hi)]; exact (hcs i (by rw [hal]; exact hi)).2
  obtain ⟨W1, hW1⟩ : ∃ W1, w.alloc (.cells #[.int .i64 K, .string N, .string X, .slice a1 aln c1, .slice a2 kl c2] 25) = W1 := ⟨_, rfl⟩
  have hB1 : Below w.heap.size w W1 := by rw [← hW1]; exact (Below.refl _ w).alloc (Nat.le_refl _) _
  have hbx : Box5 w.heap.size K N X (.slice a1 aln c1) (.slice a2 kl c2) W1 := by rw [← hW1]; exact Box5.new _ _ _ _ _ _ _
  have hS0 : Below w.heap.size w W1.drew ∧ (W1.drew.cell? ⟨w.heap.size, 0, none⟩ = some (.int .i64 K) ∧ W1.drew.cell? ⟨w.heap.size, 1, none⟩ = some (.string N) ∧ W1.drew.cell? ⟨w.heap.size, 2, none⟩ = some (.string X) ∧ W1.drew.cell? ⟨w.heap.size, 3, none⟩ = some (.slice a1 aln c1) ∧ W1.drew.cell? ⟨w.heap.size, 4, none⟩ = some (.slice a2 kl c2)) := ⟨hB1.drew, hbx.c0, hbx.c1, hbx.c2, hbx.c3, hbx.c4⟩
  have HW1 := Fact.mk hW1
  have HAL := Fact.mk hal
  obtain ⟨h1, eh1⟩ : ∃ h1, mx (IntKind.u64.wrap K) (tx N) = h1 := ⟨_, rfl⟩
  obtain ⟨h2, eh2⟩ : ∃ h2, mx h1 (tx X) = h2 := ⟨_, rfl⟩
  obtain ⟨h3, eh3⟩ : ∃ h3, mx h2 aln = h3 := ⟨_, rfl⟩
  have hu1 : IsU h1 := by rw [← eh1]; exact mx_u _ _
  have hu2 : IsU h2 := by rw [← eh2]; exact mx_u _ _
  have hu3 : IsU h3 := by rw [← eh3]; exact mx_u _ _
  have hua : IsU (aln : Int) := ⟨by omega, by omega⟩
  have hwa : IntKind.u64.wrap (aln : Int) = aln := by rw [IntKind.wrap_u64]; omega
  have HRES : Fact (alA h3 (A.drop 0) = al ⟨K, N, X, A⟩) := ⟨by
    rw [List.drop_zero, ← eh3, ← eh2, ← eh1, ← hal]; rfl⟩
  have hbx' : Box5 w.heap.size K N X (.slice a1 aln c1) (.slice a2 kl c2) W1.drew := ⟨hbx.c0, hbx.c1, hbx.c2, hbx.c3, hbx.c4⟩
  clear hA hal hB1 hbx hW1
  have HSK : Fact (∀ w6, Below W1.drew.heap.size W1.drew w6 → (Below w.heap.size w w6 ∧ (w6.cell? ⟨w.heap.size, 0, none⟩ = some (.int .i64 K) ∧ w6.cell? ⟨w.heap.size, 1, none⟩ = some (.string N) ∧ w6.cell? ⟨w.heap.size, 2, none⟩ = some (.string X) ∧ w6.cell? ⟨w.heap.size, 3, none⟩ = some (.slice a1 aln c1) ∧ w6.cell? ⟨w.heap.size, 4, none⟩ = some (.slice a2 kl c2)))) := ⟨fun w6 hb => by
    have hk := hbx'.keep hb
    exact ⟨hS0.1.trans (hb.mono hS0.1.size), hk.c0, hk.c1, hk.c2, hk.c3, hk.c4⟩⟩
  clear hbx'
  go_enter Try.func32, Try.ntmps32
  go_wp2_with fail
  rw [HW1.out]
  go_region_held3 (fun w' => Below w.heap.size w w' ∧ (w'.cell? ⟨w.heap.size, 0, none⟩ = some (.int .i64 K) ∧ w'.cell? ⟨w.heap.size, 1, none⟩ = some (.string N) ∧ w'.cell? ⟨w.heap.size, 2, none⟩ = some (.string X) ∧ w'.cell? ⟨w.heap.size, 3, none⟩ = some (.slice a1 aln c1) ∧ w'.cell? ⟨w.heap.size, 4, none⟩ = some (.slice a2 kl c2)))
    (first | with_reducible exact hS0 | with_reducible assumption)
    (first
      | (go_at_call 14; refine (htext_any N _).mono ?_; rintro e w6 ⟨rfl, hb6⟩; have hS6 : Below w.heap.size w w6 ∧ (w6.cell? ⟨w.heap.size, 0, none⟩ = some (.int .i64 K) ∧ w6.cell? ⟨w.heap.size, 1, none⟩ = some (.string N) ∧ w6.cell? ⟨w.heap.size, 2, none⟩ = some (.string X) ∧ w6.cell? ⟨w.heap.size, 3, none⟩ = some (.slice a1 aln c1) ∧ w6.cell? ⟨w.heap.size, 4, none⟩ = some (.slice a2 kl c2)) := HSK.out _ hb6)
      | (go_at_call 26; refine (Bt.mix_any _ _ _ (wrap_u _) (tx_u _)).mono ?_; rintro e w7 ⟨rfl, hw7⟩; have hw8 := hw7.symm; subst hw8; clear hw7))
  obtain ⟨hB6, q0, q1, q2, q3, q4⟩ := hS6
  have hz6 : w.heap.size < w6.heap.size := World.block_lt_of_cell? w6 _ q0
  have HB6 := Fact.mk hB6
  clear hS0 hB6 hb6 HSK
  go_upto_region 3 with (first
      | (go_at_call 14; refine (htext_any X _).mono ?_; rintro e w7 ⟨rfl, hb7⟩)
      | (go_at_call 26; refine (Bt.mix_any h1 (tx X) _ hu1 (tx_u _)).mono ?_; rintro e w8 ⟨rfl, hw8⟩; have hw9 := hw8.symm; subst hw9; clear hw8))
  have r3 := (hb7.cell (p := ⟨w.heap.size, 3, none⟩) hz6).trans q3
  have HB7 : Fact (Below w.heap.size w w7) := ⟨HB6.out.trans (hb7.mono HB6.out.size)⟩
  clear hb7 q0 q1 q2 q3 q4 hz6
  go_wp2_with (go_at_call 26; refine (Bt.mix_any h2 aln _ hu2 hua).mono ?_; rintro e w8 ⟨rfl, hw8⟩; have hw9 := hw8.symm; subst hw9; clear hw8)
  go_loopg [3, 27] aln (fun gf hv iv wr => ∃ (j : Nat) (h : Int), (hv = .int .u64 h ∧ iv = .int .i64 j) ∧ j ≤ aln ∧ aln - j ≤ gf ∧ IsU h ∧ Fact (Below w.heap.size w wr) ∧ Fact (alA h (A.drop j) = al ⟨K, N, X, A⟩))
  case atStart => exact ⟨0, h3, ⟨rfl, rfl⟩, Nat.zero_le _, by omega, hu3, HB7, HRES⟩
  case round =>
    obtain ⟨j, h, ⟨rfl, rfl⟩, hj, hfu, huh, hBr, hRE⟩ := hrel
    by_cases hlt : j < aln
    · obtain ⟨g', rfl⟩ : ∃ g', gk = g' + 1 := ⟨gk - 1, by omega⟩
      obtain ⟨ea, y0, y1⟩ := hat.out j hlt
      subst ea
      obtain ⟨N', hN'⟩ : ∃ N', (bs A j).1 = N' := ⟨_, rfl⟩
      obtain ⟨V', hV'⟩ : ∃ V', (bs A j).2 = V' := ⟨_, rfl⟩
      rw [hN'] at y0
      rw [hV'] at y1
      have hbb : b1 < w.heap.size := World.block_lt_of_cell? w _ y0
      have l0 := (hBr.out.cell (p := ⟨b1, o1 + j * 2, none⟩) hbb).trans y0
      have l1 := (hBr.out.cell (p := ⟨b1, o1 + j * 2 + 1, none⟩) hbb).trans y1
      obtain ⟨k1, ek1⟩ : ∃ k1, mx h (tx N') = k1 := ⟨_, rfl⟩
      obtain ⟨k2, ek2⟩ : ∃ k2, mx k1 (tx V') = k2 := ⟨_, rfl⟩
      have hk1 : IsU k1 := by rw [← ek1]; exact mx_u _ _
      have hk2 : IsU k2 := by rw [← ek2]; exact mx_u _ _
      have HD : Fact (alA k2 (A.drop (j + 1)) = al ⟨K, N, X, A⟩) := ⟨by
        have e := hRE.out
        rw [alA_drop h A j (by rw [HAL.out]; exact hlt), hN', hV', ek1, ek2] at e
        exact e⟩
      obtain ⟨W2, hW2⟩ : ∃ W2, wr.alloc (.cells #[.string N', .string V'] 40) = W2 := ⟨_, rfl⟩
      have hB2 : Below w.heap.size w W2 := by rw [← hW2]; exact hBr.out.alloc hBr.out.size _
      have hz2 : wr.heap.size < W2.heap.size := by rw [← hW2]; simp
      have v0 : W2.cell? ⟨wr.heap.size, 0, none⟩ = some (.string N') := by rw [← hW2]; exact World.cell?_alloc_new wr _ _ 0
      have v1 : W2.cell? ⟨wr.heap.size, 1, none⟩ = some (.string V') := by rw [← hW2]; exact World.cell?_alloc_new wr _ _ 1
      have HB2 := Fact.mk hB2
      have HZ2 := Fact.mk hz2
      clear hN' hV' y0 y1 hat hB2 hz2 hBr hRE hbb
      go_upto_region 8 with (first
        | (go_at_call 14; refine (htext_any N' _).mono ?_; rintro e w8 ⟨rfl, hb8⟩)
        | (go_at_call 26; refine (Bt.mix_any h (tx N') _ huh (tx_u _)).mono ?_; rintro e w9 ⟨rfl, hw9⟩; have hw10 := hw9.symm; subst hw10; clear hw9))
      have r1 := (hb8.cell (p := ⟨wr.heap.size, 1, none⟩) HZ2.out).trans v1
      have HB8 : Fact (Below w.heap.size w w8) := ⟨HB2.out.trans (hb8.mono HB2.out.size)⟩
      clear hb8 v0 v1 l0 l1
      go_wp2_with (first
        | (go_at_call 14; refine (htext_any V' _).mono ?_; rintro e w10 ⟨rfl, hb10⟩)
        | (go_at_call 26; refine (Bt.mix_any k1 (tx V') _ hk1 (tx_u _)).mono ?_; rintro e w11 ⟨rfl, hw11⟩; have hw12 := hw11.symm; subst hw12; clear hw11))
      go_roundg g'
      case measure => omega
      case rel => exact ⟨j + 1, k2, ⟨rfl, by go_num⟩, by omega, by omega, hk2, ⟨HB8.out.trans (hb10.mono HB8.out.size)⟩, HD⟩
    · obtain rfl : j = aln := by omega
      have e1 := hRE.out
      rw [List.drop_of_length_le (by rw [HAL.out]; exact Nat.le_refl _)] at e1
      have E1 : Fact (h = al ⟨K, N, X, A⟩) := ⟨e1⟩
      clear e1 hat
      go_wp2_with fail
      go_ret
      exact ⟨ret_int E1.out, hBr.out⟩
end Go.Proofs.Ytfcmgkakmaclcaa
