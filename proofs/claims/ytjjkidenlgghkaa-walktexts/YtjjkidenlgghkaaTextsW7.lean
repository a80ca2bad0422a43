/- WalkTexts, walked: a tree's texts are its own and its kids'. -/
import Derived.Test.YtjjkidenlgghkaaText
import Derived.Test.YtjjkidenlgghkaaAwake7
import Derived.BigQuiet
set_option linter.unusedVariables false
namespace Go.Proofs.Ytjjkidenlgghkaa
open Go.Deep (BT)
open Go.RowKit M

theorem text_at {n : Nat} {w : World} {d : Nd} {k : M.F} {av kv : Value} (r : ByteArray) (hr : Fact (ownTx d ++ textF k = r.data.toList)) (hk : k.depth + 1 ≤ 1000000) (hs : k.size + 1 ≤ 1000000000) (hx : r.size ≤ 1000000000) (h : Lies n w d k av kv) (hn : n ≤ w.heap.size) :
    Calls Try.prog 19 #[nodeV d av kv] w fun e w' => e = .returned (.string r) ∧ Below w.heap.size w w' := by
  have h1 : (ownTx d ++ textF k).length ≤ 1000000000 := by rw [hr.out, Array.length_toList]; exact hx
  refine (text_any d k av kv w (h.here hn).a (h.here hn).f hk hs h1).mono ?_
  rintro e w' ⟨rfl, hb⟩
  rw [hr.out]
  exact ⟨by simp, hb⟩

set_option maxRecDepth 20000 in
set_option maxHeartbeats 4000000 in
theorem texts7_walk (d : Nd) (k : M.F) (av kv : Value) (w : World) (hl : Lies w.heap.size w d k av kv) :
    Calls Try.prog 6 #[nodeV d av kv] w fun e w' => e = .returned (.bool true) ∧ Below w.heap.size w w' := by
  obtain ⟨K, N, X, A⟩ := d
  have HL := Fact.mk hl
  obtain ⟨a1, c1, rfl, hc1, hm1, hA⟩ := hl.a
  obtain ⟨a2, c2, rfl, hc2, hm2, hF⟩ := hl.f
  dsimp only at hc1 hA
  dsimp only
  obtain ⟨al, hal⟩ : ∃ al, A.length = al := ⟨_, rfl⟩
  obtain ⟨kl, hkl⟩ : ∃ kl, k.len = kl := ⟨_, rfl⟩
  dsimp only at HL
  rw [hal, hkl] at HL ⊢
  rw [hal] at hc1
  rw [hkl] at hc2
  unfold maxLen at hm1 hm2
  obtain ⟨W1, hW1⟩ : ∃ W1, w.alloc (.cells #[.int .i64 K, .string N, .string X, .slice a1 al c1, .slice a2 kl c2] 25) = W1 := ⟨_, rfl⟩
  have hz : W1.heap.size = w.heap.size + 1 := by rw [← hW1]; simp
  have hb : Below w.heap.size w W1 := by rw [← hW1]; exact (Below.refl _ w).alloc (Nat.le_refl _) _
  have hbx : ∀ i v, (#[.int .i64 K, .string N, .string X, .slice a1 al c1, .slice a2 kl c2] : Array Value)[i]? = some v → W1.cell? ⟨w.heap.size, i, none⟩ = some v := fun i v h => by
    rw [← hW1]; exact (World.cell?_alloc_new w _ _ i).trans h
  have x0 := hbx 0 _ rfl
  have x1 := hbx 1 _ rfl
  have x2 := hbx 2 _ rfl
  have x3 := hbx 3 _ rfl
  have x4 := hbx 4 _ rfl
  have HX := Fact.mk hbx
  have HB := Fact.mk hb
  have HF := Fact.mk hF
  have HLK := Fact.mk hkl
  have HLA := Fact.mk hal
  clear hbx hb hA hF hkl hal hl
  go_enter Try.func6, Try.ntmps6
  go_wp2_with fail
  refine (SmallT_any ⟨K, N, X, A⟩ k _ _ w.heap.size W1 (HL.out.below HB.out) HB.out.size).mono ?_
  rintro e w2 (⟨rfl, hb2⟩ | ⟨rfl, hb2, hft⟩)
  · go_wp2_with (go_at_call 10; refine (awake7_true _).mono ?_; rintro e w3 ⟨rfl, hb3⟩)
    go_ret
    exact ⟨rfl, HB.out.trans ((hb2.mono (by omega)).trans (hb3.mono (by have := hb2.size; omega)))⟩
  · have HB2 : Fact (Below (w.heap.size + 1) W1 w2) := ⟨hb2.mono (by omega)⟩
    have hX : ∀ i v, (#[.int .i64 K, .string N, .string X, .slice a1 al c1, .slice a2 kl c2] : Array Value)[i]? = some v → w2.cell? ⟨w.heap.size, i, none⟩ = some v := fun i v h => (hb2.cell (p := ⟨w.heap.size, i, none⟩) (by show w.heap.size < _; omega)).trans (HX.out i v h)
    have y0 := hX 0 _ rfl
    have y1 := hX 1 _ rfl
    have y2 := hX 2 _ rfl
    have y3 := hX 3 _ rfl
    have y4 := hX 4 _ rfl
    have hs2 := hb2.size
    obtain ⟨b2, o2, hkd⟩ : ∃ b o, Fact (∀ i, i < kl → a2 = some ⟨b, o, none⟩ ∧ b < w.heap.size ∧ FAt (Old w.heap.size) w k b o) := by
      rcases HF.out with h0 | ⟨b, o, ea, hS, hcs⟩
      · refine ⟨0, 0, ⟨fun i hi => ?_⟩⟩
        have := HLK.out
        omega
      · exact ⟨b, o, ⟨fun i hi => ⟨ea, hS, hcs⟩⟩⟩
    have HLEN : Fact ((ownTx ⟨K, N, X, A⟩ ++ textF k).length ≤ 3000000) := ⟨by
      have f1 := hft.out.size
      have f2 := hft.out.texts
      have f3 := ownTx_len ⟨K, N, X, A⟩
      have f4 := textF_len k
      rw [List.length_append]
      omega⟩
    clear hX x0 x1 x2 x3 x4 hb2
    by_cases hK3 : K = 3
    · have hk3 : (K == 3) = true := by simp [hK3]
      have HOW : Fact (ownTx ⟨K, N, X, A⟩ = (X : ByteArray).data.toList) := ⟨by simp [ownTx, hK3]⟩
      have HK3 := Fact.mk hK3
      clear hK3
      go_wp2_with fail
      clear y0 y1 y2 y3 y4 hk3
      go_loopg [3, 4] kl (fun gf sv iv wr => ∃ (i : Nat) (rest : M.F) (S : ByteArray), (sv = .string S ∧ iv = .int .i64 i) ∧ i + rest.len = kl ∧ rest.len ≤ gf ∧
        Fact (Below (w.heap.size + 1) W1 wr) ∧ Fact ((rest.len = 0 ∨ FAt (Old w.heap.size) w rest b2 (o2 + i * 5)) ∧ rest.size ≤ k.size ∧ rest.depth ≤ k.depth ∧ ownTx ⟨K, N, X, A⟩ ++ textF k = S.data.toList ++ textF rest))
      case atStart =>
        refine ⟨0, k, X, ⟨rfl, rfl⟩, by rw [HLK.out]; omega, by rw [HLK.out]; omega, HB2, ⟨?_, Nat.le_refl _, Nat.le_refl _, by rw [HOW.out]⟩⟩
        by_cases h0 : kl = 0
        · left; rw [HLK.out]; exact h0
        · right
          rw [Nat.zero_mul, Nat.add_zero]
          exact (hkd.out 0 (by omega)).2.2
      case round =>
        obtain ⟨i, rest, S, ⟨rfl, rfl⟩, hlen, hfu, hBr, hfx⟩ := hrel
        have f1 := hft.out.size
        have f2 := hft.out.depth
        have hXc : ∀ w', Below (w.heap.size + 1) W1 w' → ∀ i v, (#[.int .i64 K, .string N, .string X, .slice a1 al c1, .slice a2 kl c2] : Array Value)[i]? = some v → w'.cell? ⟨w.heap.size, i, none⟩ = some v := fun w' hb i v h => (hb.cell (p := ⟨w.heap.size, i, none⟩) (by show w.heap.size < _; omega)).trans (HX.out i v h)
        have HXC := Fact.mk hXc
        clear hXc
        obtain ⟨x0, x1, x2, x3, x4⟩ : wr.cell? ⟨w.heap.size, 0, none⟩ = some (.int .i64 K) ∧ wr.cell? ⟨w.heap.size, 1, none⟩ = some (.string N) ∧ wr.cell? ⟨w.heap.size, 2, none⟩ = some (.string X) ∧ wr.cell? ⟨w.heap.size, 3, none⟩ = some (.slice a1 al c1) ∧ wr.cell? ⟨w.heap.size, 4, none⟩ = some (.slice a2 kl c2) := ⟨HXC.out _ hBr.out 0 _ rfl, HXC.out _ hBr.out 1 _ rfl, HXC.out _ hBr.out 2 _ rfl, HXC.out _ hBr.out 3 _ rfl, HXC.out _ hBr.out 4 _ rfl⟩
        have hsr := hBr.out.size
        cases rest with
        | nil =>
          have hi : i = kl := by have : i + 0 = kl := hlen; omega
          obtain ⟨_, q1, q2, q3⟩ := hfx.out
          have R1 : Fact (ownTx ⟨K, N, X, A⟩ ++ textF k = S.data.toList) := ⟨by rw [q3]; simp [textF]⟩
          have hSz : S.size ≤ 1000000000 := by
            have h1 := HLEN.out
            rw [R1.out, Array.length_toList] at h1
            have h2 : S.size = S.data.size := rfl
            omega
          have F4 : Fact (k.depth + 1 ≤ 1000000) := ⟨by omega⟩
          have F5 : Fact (k.size + 1 ≤ 1000000000) := ⟨by omega⟩
          have F6 := Fact.mk hSz
          have hSS : (S.toList == S.toList) = true := beq_self_eq_true _
          have hLr : Fact (Lies w.heap.size wr ⟨K, N, X, A⟩ k (.slice a1 al c1) (.slice a2 kl c2)) := ⟨HL.out.below (HB.out.trans (hBr.out.mono (by omega)))⟩
          clear hfx hlen q1 q2 q3 f1 f2 hkd hSz
          subst hi
          go_wp2_with (first
            | (go_at_call 19; refine (text_at S R1 F4.out F5.out F6.out hLr.out (by omega)).mono ?_; rintro e w3 ⟨rfl, hb3⟩; have HB4 := Fact.mk (hBr.out.trans (hb3.mono (by omega))); have hs3 := hb3.size; clear hb3)
            | (go_at_call 10; refine (awake7_true _).mono ?_; rintro e w6 ⟨rfl, hb6⟩; have HB7 := Fact.mk (HB4.out.trans (hb6.mono (by omega))); clear hb6))
          go_ret
          exact ⟨rfl, HB.out.trans (HB7.out.mono (by omega))⟩
        | node xb xo d' k' r' =>
          have hlen' : i + (r'.len + 1) = kl := hlen
          have hfu' : r'.len + 1 ≤ gk := hfu
          obtain ⟨g', rfl⟩ : ∃ g', gk = g' + 1 := ⟨gk - 1, by omega⟩
          have hlt2 : i < kl := by omega
          obtain ⟨ea2, hb2, _⟩ := hkd.out i hlt2
          subst ea2
          obtain ⟨hfat, q1, q2, q3⟩ := hfx.out
          have hfat' := hfat.resolve_left (by show ¬ r'.len + 1 = 0; omega)
          obtain ⟨⟨av', ka', kc', e0, e1, e2, e3, e4, hav', h4, h5, hkk⟩, hrr⟩ := hfat'
          have hbw := HB.out.trans (hBr.out.mono (by omega))
          have hcc : ∀ o, wr.cell? ⟨b2, o, none⟩ = w.cell? ⟨b2, o, none⟩ := fun o => hbw.cell (p := ⟨b2, o, none⟩) hb2
          have m0 := (hcc _).trans e0
          have m1 := (hcc _).trans e1
          have m2 := (hcc _).trans e2
          have m3 := (hcc _).trans e3
          have m4 := (hcc _).trans e4
          have HLk : Fact (Lies w.heap.size wr d' k' av' (.slice ka' k'.len kc')) := ⟨⟨hav'.like (like_below hbw), FL.like (like_below hbw) ⟨ka', kc', rfl, h4, h5, hkk⟩⟩⟩
          have hd' : Fact (k'.depth + 1 ≤ 1000000) := ⟨by simp only [BT.depth] at q2; omega⟩
          have hs' : Fact (k'.size + 1 ≤ 1000000000) := ⟨by simp only [BT.size] at q1; omega⟩
          have HR : Fact (FAt (Old w.heap.size) w r' b2 (o2 + (i + 1) * 5)) := ⟨by rw [show o2 + (i + 1) * 5 = o2 + i * 5 + 5 by omega]; exact hrr⟩
          have HZ : Fact (r'.size ≤ k.size ∧ r'.depth ≤ k.depth) := ⟨by simp only [BT.size] at q1; omega, by simp only [BT.depth] at q2; omega⟩
          obtain ⟨Z, hZ⟩ : ∃ Z : ByteArray, Fact (ownTx d' ++ textF k' = Z.data.toList) := ⟨⟨(ownTx d' ++ textF k').toArray⟩, ⟨rfl⟩⟩
          have HQ : Fact (ownTx ⟨K, N, X, A⟩ ++ textF k = S.data.toList ++ (Z.data.toList ++ textF r')) := ⟨by rw [q3, ← hZ.out]; rfl⟩
          have hZz : Fact (Z.size ≤ 1000000000 ∧ S.size + Z.size ≤ 3000000) := ⟨by
            have h1 := HLEN.out
            rw [HQ.out] at h1
            simp only [List.length_append, Array.length_toList] at h1
            have h2 : S.size = S.data.size := rfl
            have h3 : Z.size = Z.data.size := rfl
            omega⟩
          have bz := hZz.out.2
          clear hfx hfat q1 q2 q3 hrr hkk hav' hcc e0 e1 e2 e3 e4 hkd hlen hfu
          go_wp2_with (go_at_call 19; refine (text_at Z hZ hd'.out hs'.out hZz.out.1 HLk.out (by omega)).mono ?_; rintro e w3 ⟨rfl, hb3⟩; have HB4 := Fact.mk (hBr.out.trans (hb3.mono (by omega))); clear hb3)
          go_roundg g'
          case measure => omega
          case rel =>
            refine ⟨i + 1, r', S ++ Z, ⟨rfl, by go_num⟩, by omega, by omega, HB4, ⟨.inr HR.out, HZ.out.1, HZ.out.2, ?_⟩⟩
            rw [HQ.out]
            simp
    · have hk3 : (K == 3) = false := by simp [hK3]
      have HOW : Fact (ownTx ⟨K, N, X, A⟩ = (⟨#[]⟩ : ByteArray).data.toList) := ⟨by simp [ownTx, hK3]⟩
      have HK3 := Fact.mk hK3
      clear hK3
      go_wp2_with fail
      clear y0 y1 y2 y3 y4 hk3
      go_loopg [3, 4] kl (fun gf sv iv wr => ∃ (i : Nat) (rest : M.F) (S : ByteArray), (sv = .string S ∧ iv = .int .i64 i) ∧ i + rest.len = kl ∧ rest.len ≤ gf ∧
        Fact (Below (w.heap.size + 1) W1 wr) ∧ Fact ((rest.len = 0 ∨ FAt (Old w.heap.size) w rest b2 (o2 + i * 5)) ∧ rest.size ≤ k.size ∧ rest.depth ≤ k.depth ∧ ownTx ⟨K, N, X, A⟩ ++ textF k = S.data.toList ++ textF rest))
      case atStart =>
        refine ⟨0, k, (⟨#[]⟩ : ByteArray), ⟨rfl, rfl⟩, by rw [HLK.out]; omega, by rw [HLK.out]; omega, HB2, ⟨?_, Nat.le_refl _, Nat.le_refl _, by rw [HOW.out]⟩⟩
        by_cases h0 : kl = 0
        · left; rw [HLK.out]; exact h0
        · right
          rw [Nat.zero_mul, Nat.add_zero]
          exact (hkd.out 0 (by omega)).2.2
      case round =>
        obtain ⟨i, rest, S, ⟨rfl, rfl⟩, hlen, hfu, hBr, hfx⟩ := hrel
        have f1 := hft.out.size
        have f2 := hft.out.depth
        have hXc : ∀ w', Below (w.heap.size + 1) W1 w' → ∀ i v, (#[.int .i64 K, .string N, .string X, .slice a1 al c1, .slice a2 kl c2] : Array Value)[i]? = some v → w'.cell? ⟨w.heap.size, i, none⟩ = some v := fun w' hb i v h => (hb.cell (p := ⟨w.heap.size, i, none⟩) (by show w.heap.size < _; omega)).trans (HX.out i v h)
        have HXC := Fact.mk hXc
        clear hXc
        obtain ⟨x0, x1, x2, x3, x4⟩ : wr.cell? ⟨w.heap.size, 0, none⟩ = some (.int .i64 K) ∧ wr.cell? ⟨w.heap.size, 1, none⟩ = some (.string N) ∧ wr.cell? ⟨w.heap.size, 2, none⟩ = some (.string X) ∧ wr.cell? ⟨w.heap.size, 3, none⟩ = some (.slice a1 al c1) ∧ wr.cell? ⟨w.heap.size, 4, none⟩ = some (.slice a2 kl c2) := ⟨HXC.out _ hBr.out 0 _ rfl, HXC.out _ hBr.out 1 _ rfl, HXC.out _ hBr.out 2 _ rfl, HXC.out _ hBr.out 3 _ rfl, HXC.out _ hBr.out 4 _ rfl⟩
        have hsr := hBr.out.size
        cases rest with
        | nil =>
          have hi : i = kl := by have : i + 0 = kl := hlen; omega
          obtain ⟨_, q1, q2, q3⟩ := hfx.out
          have R1 : Fact (ownTx ⟨K, N, X, A⟩ ++ textF k = S.data.toList) := ⟨by rw [q3]; simp [textF]⟩
          have hSz : S.size ≤ 1000000000 := by
            have h1 := HLEN.out
            rw [R1.out, Array.length_toList] at h1
            have h2 : S.size = S.data.size := rfl
            omega
          have F4 : Fact (k.depth + 1 ≤ 1000000) := ⟨by omega⟩
          have F5 : Fact (k.size + 1 ≤ 1000000000) := ⟨by omega⟩
          have F6 := Fact.mk hSz
          have hSS : (S.toList == S.toList) = true := beq_self_eq_true _
          have hLr : Fact (Lies w.heap.size wr ⟨K, N, X, A⟩ k (.slice a1 al c1) (.slice a2 kl c2)) := ⟨HL.out.below (HB.out.trans (hBr.out.mono (by omega)))⟩
          clear hfx hlen q1 q2 q3 f1 f2 hkd hSz
          subst hi
          go_wp2_with (first
            | (go_at_call 19; refine (text_at S R1 F4.out F5.out F6.out hLr.out (by omega)).mono ?_; rintro e w3 ⟨rfl, hb3⟩; have HB4 := Fact.mk (hBr.out.trans (hb3.mono (by omega))); have hs3 := hb3.size; clear hb3)
            | (go_at_call 10; refine (awake7_true _).mono ?_; rintro e w6 ⟨rfl, hb6⟩; have HB7 := Fact.mk (HB4.out.trans (hb6.mono (by omega))); clear hb6))
          go_ret
          exact ⟨rfl, HB.out.trans (HB7.out.mono (by omega))⟩
        | node xb xo d' k' r' =>
          have hlen' : i + (r'.len + 1) = kl := hlen
          have hfu' : r'.len + 1 ≤ gk := hfu
          obtain ⟨g', rfl⟩ : ∃ g', gk = g' + 1 := ⟨gk - 1, by omega⟩
          have hlt2 : i < kl := by omega
          obtain ⟨ea2, hb2, _⟩ := hkd.out i hlt2
          subst ea2
          obtain ⟨hfat, q1, q2, q3⟩ := hfx.out
          have hfat' := hfat.resolve_left (by show ¬ r'.len + 1 = 0; omega)
          obtain ⟨⟨av', ka', kc', e0, e1, e2, e3, e4, hav', h4, h5, hkk⟩, hrr⟩ := hfat'
          have hbw := HB.out.trans (hBr.out.mono (by omega))
          have hcc : ∀ o, wr.cell? ⟨b2, o, none⟩ = w.cell? ⟨b2, o, none⟩ := fun o => hbw.cell (p := ⟨b2, o, none⟩) hb2
          have m0 := (hcc _).trans e0
          have m1 := (hcc _).trans e1
          have m2 := (hcc _).trans e2
          have m3 := (hcc _).trans e3
          have m4 := (hcc _).trans e4
          have HLk : Fact (Lies w.heap.size wr d' k' av' (.slice ka' k'.len kc')) := ⟨⟨hav'.like (like_below hbw), FL.like (like_below hbw) ⟨ka', kc', rfl, h4, h5, hkk⟩⟩⟩
          have hd' : Fact (k'.depth + 1 ≤ 1000000) := ⟨by simp only [BT.depth] at q2; omega⟩
          have hs' : Fact (k'.size + 1 ≤ 1000000000) := ⟨by simp only [BT.size] at q1; omega⟩
          have HR : Fact (FAt (Old w.heap.size) w r' b2 (o2 + (i + 1) * 5)) := ⟨by rw [show o2 + (i + 1) * 5 = o2 + i * 5 + 5 by omega]; exact hrr⟩
          have HZ : Fact (r'.size ≤ k.size ∧ r'.depth ≤ k.depth) := ⟨by simp only [BT.size] at q1; omega, by simp only [BT.depth] at q2; omega⟩
          obtain ⟨Z, hZ⟩ : ∃ Z : ByteArray, Fact (ownTx d' ++ textF k' = Z.data.toList) := ⟨⟨(ownTx d' ++ textF k').toArray⟩, ⟨rfl⟩⟩
          have HQ : Fact (ownTx ⟨K, N, X, A⟩ ++ textF k = S.data.toList ++ (Z.data.toList ++ textF r')) := ⟨by rw [q3, ← hZ.out]; rfl⟩
          have hZz : Fact (Z.size ≤ 1000000000 ∧ S.size + Z.size ≤ 3000000) := ⟨by
            have h1 := HLEN.out
            rw [HQ.out] at h1
            simp only [List.length_append, Array.length_toList] at h1
            have h2 : S.size = S.data.size := rfl
            have h3 : Z.size = Z.data.size := rfl
            omega⟩
          have bz := hZz.out.2
          clear hfx hfat q1 q2 q3 hrr hkk hav' hcc e0 e1 e2 e3 e4 hkd hlen hfu
          go_wp2_with (go_at_call 19; refine (text_at Z hZ hd'.out hs'.out hZz.out.1 HLk.out (by omega)).mono ?_; rintro e w3 ⟨rfl, hb3⟩; have HB4 := Fact.mk (hBr.out.trans (hb3.mono (by omega))); clear hb3)
          go_roundg g'
          case measure => omega
          case rel =>
            refine ⟨i + 1, r', S ++ Z, ⟨rfl, by go_num⟩, by omega, by omega, HB4, ⟨.inr HR.out, HZ.out.1, HZ.out.2, ?_⟩⟩
            rw [HQ.out]
            simp
end Go.Proofs.Ytjjkidenlgghkaa
