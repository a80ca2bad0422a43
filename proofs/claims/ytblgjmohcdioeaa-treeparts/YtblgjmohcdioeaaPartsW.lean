/- TreeParts, walked: of a tree its size is its kids' and one more, its depth the greatest of theirs and one more, its attributes its own and theirs. -/
import Derived.Test.YtblgjmohcdioeaaSmall
import Derived.Test.YtblgjmohcdioeaaSlots
set_option linter.unusedVariables false
namespace Go.Proofs.Ytblgjmohcdioeaa
open Go.Deep (BT)
open Go.RowKit M

theorem slots_at {n : Nat} {w : World} {d : Nd} {k : M.F} {av kv : Value} (r : Nat) (hr : Fact (d.ats.length + k.slots = r)) (hk : k.depth + 2 ≤ 1000000) (hs : d.ats.length + k.slots ≤ 1000000000) (h : Lies n w d k av kv) (hn : n ≤ w.heap.size) :
    Calls Try.prog 22 #[nodeV d av kv] w fun e w' => e = .returned (.int .i64 r) ∧ Below w.heap.size w w' := by
  rw [← hr.out]; exact slots_any d k av kv w (h.here hn).a (h.here hn).f hk hs

set_option maxRecDepth 20000 in
set_option maxHeartbeats 4000000 in
theorem parts_walk (d : Nd) (k : M.F) (av kv : Value) (w : World) (hl : Lies w.heap.size w d k av kv) :
    Calls Try.prog 5 #[nodeV d av kv] w fun e w' => e = .returned (.bool true) ∧ Below w.heap.size w w' := by
  obtain ⟨K, N, X, A⟩ := d
  have HL := Fact.mk hl
  obtain ⟨a1, c1, rfl, hc1, hm1, hA⟩ := hl.a
  obtain ⟨a2, c2, rfl, hc2, hm2, hF⟩ := hl.f
  dsimp only at hc1 hA
  dsimp only
  obtain ⟨al, hal⟩ : ∃ al, A.length = al := ⟨_, rfl⟩
  obtain ⟨kl, hkl⟩ : ∃ kl, k.len = kl := ⟨_, rfl⟩
  dsimp only at HL
  rw [hal, hkl] at HL ⊢
  rw [hal] at hc1
  rw [hkl] at hc2
  unfold maxLen at hm1 hm2
  obtain ⟨W1, hW1⟩ : ∃ W1, w.alloc (.cells #[.int .i64 K, .string N, .string X, .slice a1 al c1, .slice a2 kl c2] 25) = W1 := ⟨_, rfl⟩
  have hz : W1.heap.size = w.heap.size + 1 := by rw [← hW1]; simp
  have hb : Below w.heap.size w W1 := by rw [← hW1]; exact (Below.refl _ w).alloc (Nat.le_refl _) _
  have hbx : ∀ i v, (#[.int .i64 K, .string N, .string X, .slice a1 al c1, .slice a2 kl c2] : Array Value)[i]? = some v → W1.cell? ⟨w.heap.size, i, none⟩ = some v := fun i v h => by
    rw [← hW1]; exact (World.cell?_alloc_new w _ _ i).trans h
  have x0 := hbx 0 _ rfl
  have x1 := hbx 1 _ rfl
  have x2 := hbx 2 _ rfl
  have x3 := hbx 3 _ rfl
  have x4 := hbx 4 _ rfl
  have HX := Fact.mk hbx
  have HB := Fact.mk hb
  have HF := Fact.mk hF
  have HLK := Fact.mk hkl
  have HLA := Fact.mk hal
  clear hbx hb hA hF hkl hal hl
  go_enter Try.func5, Try.ntmps5
  go_wp2_with fail
  refine (Small_any ⟨K, N, X, A⟩ k _ _ w.heap.size W1 (HL.out.below HB.out) HB.out.size).mono ?_
  rintro e w2 (⟨rfl, hb2⟩ | ⟨rfl, hb2, hft⟩)
  · go_wp2_with (go_at_call 10; refine (awake_true _).mono ?_; rintro e w3 ⟨rfl, hb3⟩)
    go_ret
    exact ⟨rfl, HB.out.trans ((hb2.mono (by omega)).trans (hb3.mono (by have := hb2.size; omega)))⟩
  · have HB2 := Fact.mk hb2
    have hX : ∀ i v, (#[.int .i64 K, .string N, .string X, .slice a1 al c1, .slice a2 kl c2] : Array Value)[i]? = some v → w2.cell? ⟨w.heap.size, i, none⟩ = some v := fun i v h => (hb2.cell (p := ⟨w.heap.size, i, none⟩) (by show w.heap.size < _; omega)).trans (HX.out i v h)
    have y0 := hX 0 _ rfl
    have y1 := hX 1 _ rfl
    have y2 := hX 2 _ rfl
    have y3 := hX 3 _ rfl
    have y4 := hX 4 _ rfl
    have hs2 := hb2.size
    obtain ⟨b2, o2, hkd⟩ : ∃ b o, Fact (∀ i, i < kl → a2 = some ⟨b, o, none⟩ ∧ b < w.heap.size ∧ FAt (Old w.heap.size) w k b o) := by
      rcases HF.out with h0 | ⟨b, o, ea, hS, hcs⟩
      · refine ⟨0, 0, ⟨fun i hi => ?_⟩⟩
        have := HLK.out
        omega
      · exact ⟨b, o, ⟨fun i hi => ⟨ea, hS, hcs⟩⟩⟩
    clear hX x0 x1 x2 x3 x4 hb2
    go_wp2_with fail
    go_quiet (fail)
    go_wp2_with fail
    have HB3 : Fact (Below (w.heap.size + 1) W1 (w2.drewN nq)) := ⟨below_drewN (HB2.out.mono (by omega)) _⟩
    clear y0 y1 y2 y3 y4
    go_loopg [3, 4, 5, 6] kl (fun gf nv dv sv iv wr => ∃ (i : Nat) (rest : M.F) (z D s : Nat), (nv = .int .i64 (1 + z : Nat) ∧ dv = .int .i64 D ∧ sv = .int .i64 s ∧ iv = .int .i64 i) ∧ i + rest.len = kl ∧ rest.len ≤ gf ∧
      Fact (Below (w.heap.size + 1) W1 wr) ∧ Fact ((rest.len = 0 ∨ FAt (Old w.heap.size) w rest b2 (o2 + i * 5)) ∧ k.size = z + rest.size ∧ k.depth = max D rest.depth ∧ al + k.slots = s + rest.slots))
    case atStart =>
      refine ⟨0, k, 0, 0, al, ⟨rfl, rfl, rfl, rfl⟩, by rw [HLK.out]; omega, by rw [HLK.out]; omega, HB3, ⟨?_, by omega, by omega, by omega⟩⟩
      by_cases h0 : kl = 0
      · left; rw [HLK.out]; exact h0
      · right
        rw [Nat.zero_mul, Nat.add_zero]
        exact (hkd.out 0 (by omega)).2.2
    case round =>
      obtain ⟨i, rest, z, D, s, ⟨rfl, rfl, rfl, rfl⟩, hlen, hfu, hBr, hfx⟩ := hrel
      have f1 := hft.out.size
      have f2 := hft.out.depth
      have f3 := hft.out.slots
      dsimp only at f3
      rw [HLA.out] at f3
      have hXc : ∀ w', Below (w.heap.size + 1) W1 w' → ∀ i v, (#[.int .i64 K, .string N, .string X, .slice a1 al c1, .slice a2 kl c2] : Array Value)[i]? = some v → w'.cell? ⟨w.heap.size, i, none⟩ = some v := fun w' hb i v h => (hb.cell (p := ⟨w.heap.size, i, none⟩) (by show w.heap.size < _; omega)).trans (HX.out i v h)
      have HXC := Fact.mk hXc
      clear hXc
      obtain ⟨x0, x1, x2, x3, x4⟩ : wr.cell? ⟨w.heap.size, 0, none⟩ = some (.int .i64 K) ∧ wr.cell? ⟨w.heap.size, 1, none⟩ = some (.string N) ∧ wr.cell? ⟨w.heap.size, 2, none⟩ = some (.string X) ∧ wr.cell? ⟨w.heap.size, 3, none⟩ = some (.slice a1 al c1) ∧ wr.cell? ⟨w.heap.size, 4, none⟩ = some (.slice a2 kl c2) := ⟨HXC.out _ hBr.out 0 _ rfl, HXC.out _ hBr.out 1 _ rfl, HXC.out _ hBr.out 2 _ rfl, HXC.out _ hBr.out 3 _ rfl, HXC.out _ hBr.out 4 _ rfl⟩
      have hsr := hBr.out.size
      cases rest with
      | nil =>
        have hi : i = kl := by have : i + 0 = kl := hlen; omega
        obtain ⟨_, q2, q3, q4⟩ := hfx.out
        simp only [BT.size, BT.depth, BT.slots] at q2 q3 q4
        have R1 : Fact (k.size + 1 = 1 + z) := ⟨by omega⟩
        have R2 : Fact (k.depth + 1 = D + 1) := ⟨by omega⟩
        have R3 : Fact ((⟨K, N, X, A⟩ : Nd).ats.length + k.slots = s) := ⟨by show A.length + _ = _; rw [HLA.out]; omega⟩
        have f4 : k.depth + 2 ≤ 1000000 := by omega
        have f5 : k.size ≤ 1000000000 := by omega
        have f6 : (⟨K, N, X, A⟩ : Nd).ats.length + k.slots ≤ 1000000000 := by rw [R3.out]; omega
        have F4 := Fact.mk f4
        have F5 := Fact.mk f5
        have F6 := Fact.mk f6
        have hD : D ≤ 70 := by omega
        have hzz : z ≤ 400 := by omega
        have hLr : Fact (Lies w.heap.size wr ⟨K, N, X, A⟩ k (.slice a1 al c1) (.slice a2 kl c2)) := ⟨HL.out.below (HB.out.trans (hBr.out.mono (by omega)))⟩
        clear hfx hlen q2 q3 q4 f1 f2 f3 f4 f5 f6 hkd
        subst hi
        go_wp2_with (first
          | (go_at_call 18; refine (size_at (1 + z) R1 F4.out F5.out hLr.out (by omega)).mono ?_; rintro e w3 ⟨rfl, hb3⟩; have HB4 := Fact.mk (hBr.out.trans (hb3.mono (by omega))); have hL3 := Fact.mk (hLr.out.below (hb3.mono (by omega))); have hs3 := hb3.size; clear hb3; have x0' := HXC.out _ HB4.out 0 _ rfl; have x1' := HXC.out _ HB4.out 1 _ rfl; have x2' := HXC.out _ HB4.out 2 _ rfl; have x3' := HXC.out _ HB4.out 3 _ rfl; have x4' := HXC.out _ HB4.out 4 _ rfl)
          | (go_at_call 20; refine (depth_at (D + 1) R2 F4.out hL3.out (by omega)).mono ?_; rintro e w4 ⟨rfl, hb4⟩; have HB5 := Fact.mk (HB4.out.trans (hb4.mono (by omega))); have hL4 := Fact.mk (hL3.out.below (hb4.mono (by omega))); have hs4 := hb4.size; clear hb4; have x0'' := HXC.out _ HB5.out 0 _ rfl; have x1'' := HXC.out _ HB5.out 1 _ rfl; have x2'' := HXC.out _ HB5.out 2 _ rfl; have x3'' := HXC.out _ HB5.out 3 _ rfl; have x4'' := HXC.out _ HB5.out 4 _ rfl)
          | (go_at_call 22; refine (slots_at s R3 F4.out F6.out hL4.out (by omega)).mono ?_; rintro e w5 ⟨rfl, hb5⟩; have HB6 := Fact.mk (HB5.out.trans (hb5.mono (by omega))); have hs5 := hb5.size; clear hb5)
          | (go_at_call 10; refine (awake_true _).mono ?_; rintro e w6 ⟨rfl, hb6⟩; have HB7 := Fact.mk (HB6.out.trans (hb6.mono (by omega))); clear hb6))
        go_ret
        exact ⟨rfl, HB.out.trans (HB7.out.mono (by omega))⟩
      | node xb xo d' k' r' =>
        have hlen' : i + (r'.len + 1) = kl := hlen
        have hfu' : r'.len + 1 ≤ gk := hfu
        obtain ⟨g', rfl⟩ : ∃ g', gk = g' + 1 := ⟨gk - 1, by omega⟩
        have hlt2 : i < kl := by omega
        obtain ⟨ea2, hb2, _⟩ := hkd.out i hlt2
        subst ea2
        obtain ⟨hfat, q2, q3, q4⟩ := hfx.out
        have hfat' := hfat.resolve_left (by show ¬ r'.len + 1 = 0; omega)
        obtain ⟨⟨av', ka', kc', e0, e1, e2, e3, e4, hav', h4, h5, hkk⟩, hrr⟩ := hfat'
        have hNc : ∀ w', Below (w.heap.size + 1) W1 w' → (w'.cell? ⟨w.heap.size, 4, none⟩ = some (.slice (some ⟨b2, o2, none⟩) kl c2) ∧ w'.cell? ⟨b2, o2 + i * 5, none⟩ = some (.int .i64 d'.k) ∧ w'.cell? ⟨b2, o2 + i * 5 + 1, none⟩ = some (.string d'.n) ∧ w'.cell? ⟨b2, o2 + i * 5 + 2, none⟩ = some (.string d'.x) ∧ w'.cell? ⟨b2, o2 + i * 5 + 3, none⟩ = some av' ∧ w'.cell? ⟨b2, o2 + i * 5 + 4, none⟩ = some (.slice ka' k'.len kc')) ∧ Lies w.heap.size w' d' k' av' (.slice ka' k'.len kc') ∧ w.heap.size + 1 ≤ w'.heap.size := fun w' hb => by
          have hbw := HB.out.trans (hb.mono (by omega))
          have hcc : ∀ o, w'.cell? ⟨b2, o, none⟩ = w.cell? ⟨b2, o, none⟩ := fun o => hbw.cell (p := ⟨b2, o, none⟩) hb2
          exact ⟨⟨HXC.out _ hb 4 _ rfl, (hcc _).trans e0, (hcc _).trans e1, (hcc _).trans e2, (hcc _).trans e3, (hcc _).trans e4⟩, ⟨hav'.like (like_below hbw), FL.like (like_below hbw) ⟨ka', kc', rfl, h4, h5, hkk⟩⟩, by have := hb.size; omega⟩
        have HNC := Fact.mk hNc
        have hd' : Fact (k'.depth + 2 ≤ 1000000) := ⟨by simp only [BT.depth] at q3; omega⟩
        have hs' : Fact (k'.size ≤ 1000000000) := ⟨by simp only [BT.size] at q2; omega⟩
        have ht' : Fact (d'.ats.length + k'.slots ≤ 1000000000) := ⟨by simp only [BT.slots] at q4; omega⟩
        have HQ : Fact (k.size = z + (1 + k'.size + r'.size) ∧ k.depth = max D (max (k'.depth + 1) r'.depth) ∧ al + k.slots = s + (d'.ats.length + k'.slots + r'.slots)) := ⟨q2, q3, q4⟩
        have HR : Fact (FAt (Old w.heap.size) w r' b2 (o2 + (i + 1) * 5)) := ⟨by rw [show o2 + (i + 1) * 5 = o2 + i * 5 + 5 by omega]; exact hrr⟩
        obtain ⟨Z, hZ⟩ : ∃ Z, Fact (k'.size + 1 = Z) := ⟨_, ⟨rfl⟩⟩
        obtain ⟨E, hE⟩ : ∃ E, Fact (k'.depth + 1 = E) := ⟨_, ⟨rfl⟩⟩
        obtain ⟨T, hT⟩ : ∃ T, Fact (d'.ats.length + k'.slots = T) := ⟨_, ⟨rfl⟩⟩
        have bz : z + Z ≤ 400 := by have := hZ.out; simp only [BT.size] at q2; omega
        have bt : s + T ≤ 8020 := by have := hT.out; simp only [BT.slots] at q4; omega
        obtain ⟨⟨l4, m0, m1, m2, m3, m4⟩, hLk, hzr⟩ := hNc _ hBr.out
        have HLk := Fact.mk hLk
        clear hfx hfat q2 q3 q4 hrr hkk hav' hNc e0 e1 e2 e3 e4 hkd hlen hfu hLk x0 x1 x2 x3 x4
        go_wp2_with (first
          | (go_at_call 18; refine (size_at Z hZ hd'.out hs'.out HLk.out (by omega)).mono ?_; rintro e w3 ⟨rfl, hb3⟩; have HB4 := Fact.mk (hBr.out.trans (hb3.mono (by omega))); clear hb3; obtain ⟨⟨l4', m0', m1', m2', m3', m4'⟩, hLk3, hzr3⟩ := HNC.out _ HB4.out; have HLk3 := Fact.mk hLk3; clear hLk3)
          | (go_at_call 20; refine (depth_at E hE hd'.out HLk3.out (by omega)).mono ?_; rintro e w4 ⟨rfl, hb4⟩; have HB5 := Fact.mk (HB4.out.trans (hb4.mono (by omega))); clear hb4; obtain ⟨⟨l4'', m0'', m1'', m2'', m3'', m4''⟩, hLk4, hzr4⟩ := HNC.out _ HB5.out; have HLk4 := Fact.mk hLk4; clear hLk4)
          | (go_at_call 22; refine (slots_at T hT hd'.out ht'.out HLk4.out (by omega)).mono ?_; rintro e w5 ⟨rfl, hb5⟩; have HB6 := Fact.mk (HB5.out.trans (hb5.mono (by omega))); clear hb5))
        all_goals
          go_roundg g'
          case measure => omega
          case rel =>
            obtain ⟨p1, p2, p3⟩ := HQ.out
            have u1 := hZ.out
            have u2 := hE.out
            have u3 := hT.out
            refine ⟨i + 1, r', z + Z, max D E, s + T, ⟨?_, ?_, ?_, by go_num⟩, by omega, by omega, HB6, ⟨.inr HR.out, by omega, by omega, by omega⟩⟩
            · go_num
            · first
                | (rw [show max D E = E by omega]; done)
                | (rw [show max D E = D by omega]; done)
                | go_num
            · go_num
end Go.Proofs.Ytblgjmohcdioeaa
