/- The chapter's own Size, Depth and Slots. -/
import Derived.Test.YtkojhgagkoeeiaaSmall
import Derived.Test.YtkojhgagkoeeiaaCmpA
set_option linter.unusedVariables false
set_option linter.unusedSimpArgs false
namespace Go.Proofs.Ytkojhgagkoeeiaa
open Go.Deep (BT)
open Go.RowKit M

def RSizeP (k : M.F) : Prop := ∀ (d : Nd) (av kv : Value) (n : Nat) (w : World), Lies n w d k av kv → n ≤ w.heap.size → k.size ≤ 1000000 →
  Calls Try.prog 25 #[nodeV d av kv] w fun e w' => e = .returned (.int .i64 (k.size + 1 : Nat)) ∧ Below w.heap.size w w'

set_option maxRecDepth 20000 in
set_option maxHeartbeats 4000000 in
theorem rsize_step (k : M.F) (hH : Hered RSizeP k) : RSizeP k := by
  intro d av kv n w hl hn hbd
  obtain ⟨K, N, X, A⟩ := d
  obtain ⟨a1, c1, rfl, hc1, hm1, hA⟩ := hl.a
  obtain ⟨a2, c2, rfl, hc2, hm2, hF⟩ := hl.f
  obtain ⟨al, hal⟩ : ∃ al, A.length = al := ⟨_, rfl⟩
  obtain ⟨kl, hkl⟩ : ∃ kl, k.len = kl := ⟨_, rfl⟩
  dsimp only at hbd ⊢
  rw [hal, hkl]
  try rw [hal] at hbd
  obtain ⟨W1, hW1⟩ : ∃ W1, w.alloc (.cells #[.int .i64 K, .string N, .string X, .slice a1 al c1, .slice a2 kl c2] 25) = W1 := ⟨_, rfl⟩
  have hB1 : Below w.heap.size w W1 := by rw [← hW1]; exact (Below.refl _ w).alloc (Nat.le_refl _) _
  have hz1 : W1.heap.size = w.heap.size + 1 := by rw [← hW1]; simp
  have hbx : ∀ i v, (#[.int .i64 K, .string N, .string X, .slice a1 al c1, .slice a2 kl c2] : Array Value)[i]? = some v → W1.cell? ⟨w.heap.size, i, none⟩ = some v := fun i v h => by
    rw [← hW1]; exact (World.cell?_alloc_new w _ _ i).trans h
  have x3 : W1.cell? ⟨w.heap.size, 3, none⟩ = some (.slice a1 al c1) := hbx 3 _ rfl
  have x4 : W1.cell? ⟨w.heap.size, 4, none⟩ = some (.slice a2 kl c2) := hbx 4 _ rfl
  obtain ⟨b2, o2, hkd⟩ : ∃ b o, Fact (∀ i, i < kl → a2 = some ⟨b, o, none⟩ ∧ b < n ∧ FAt (Old n) w k b o) := by
    rcases hF with h0 | ⟨b, o, ea, hS, hcs⟩
    · refine ⟨0, 0, ⟨fun i hi => ?_⟩⟩
      omega
    · exact ⟨b, o, ⟨fun i hi => ⟨ea, hS, hcs⟩⟩⟩
  have HB1 := Fact.mk hB1
  have HH := Fact.mk hH
  have HKL := Fact.mk hkl
  have HBD := Fact.mk hbd
  have HX4 := Fact.mk x4
  rw [hkl] at hc2
  unfold maxLen at hm2
  clear hA hF hl hH hbx hB1 hkl hbd hc1 hm1 hal
  go_enter Try.func25, Try.ntmps25
  go_wp2_with fail
  go_loopg [3, 4] kl (fun gf nv iv wr => ∃ (i : Nat) (rest : M.F) (z : Nat), (nv = .int .i64 z ∧ iv = .int .i64 i) ∧ i + rest.len = kl ∧ rest.len ≤ gf ∧
    Fact (Below (w.heap.size + 1) W1 wr) ∧ Fact ((rest.len = 0 ∨ FAt (Old n) w rest b2 (o2 + i * 5)) ∧ Hered RSizeP rest ∧ k.size + 1 = z + rest.size))
  case atStart =>
    refine ⟨0, k, 1, ⟨rfl, rfl⟩, by rw [HKL.out]; omega, by rw [HKL.out]; omega, ⟨Below.refl _ _⟩, ⟨?_, HH.out, by omega⟩⟩
    by_cases h0 : kl = 0
    · left; rw [HKL.out]; exact h0
    · right
      rw [Nat.zero_mul, Nat.add_zero]
      exact (hkd.out 0 (by omega)).2.2
  case round =>
    obtain ⟨i, rest, z, ⟨rfl, rfl⟩, hlen, hfu, hBr, hfx⟩ := hrel
    have y4 := (hBr.out.cell (p := ⟨w.heap.size, 4, none⟩) (by show w.heap.size < _; omega)).trans HX4.out
    have hbd := HBD.out
    cases rest with
    | nil =>
      have hi : i = kl := by have : i + 0 = kl := hlen; omega
      obtain ⟨_, _, q⟩ := hfx.out
      simp only [BT.size, BT.depth, BT.slots] at q
      have hfin : Fact (k.size + 1 = z) := ⟨by omega⟩
      have hzb : z ≤ 1000001 := by omega
      clear hfx hlen q x3 x4 hkd
      subst hi
      go_wp2_with fail
      go_ret
      refine ⟨ret_int ?_, HB1.out.trans (hBr.out.mono (by omega))⟩
      have := hfin.out
      omega
    | node xb xo d' k' r' =>
      have hlen' : i + (r'.len + 1) = kl := hlen
      have hfu' : r'.len + 1 ≤ gk := hfu
      obtain ⟨g', rfl⟩ : ∃ g', gk = g' + 1 := ⟨gk - 1, by omega⟩
      have hlt2 : i < kl := by omega
      obtain ⟨ea2, hb2, _⟩ := hkd.out i hlt2
      subst ea2
      obtain ⟨hfat, ⟨hP, hHr⟩, q⟩ := hfx.out
      have hfat' := hfat.resolve_left (by show ¬ r'.len + 1 = 0; omega)
      obtain ⟨⟨av', ka', kc', e0, e1, e2, e3, e4, hav', h4, h5, hkk⟩, hrr⟩ := hfat'
      have hbw : Below w.heap.size w wr := HB1.out.trans (hBr.out.mono (by omega))
      have hcc : ∀ o, wr.cell? ⟨b2, o, none⟩ = w.cell? ⟨b2, o, none⟩ := fun o => hbw.cell (p := ⟨b2, o, none⟩) (by show b2 < _; omega)
      obtain ⟨x1', x2', x3', ex⟩ := hav'.val
      subst ex
      have l0 := (hcc _).trans e0
      have l1 := (hcc _).trans e1
      have l2 := (hcc _).trans e2
      have l3 := (hcc _).trans e3
      have l4 := (hcc _).trans e4
      have hlk : Like (Old n) w wr := like_below (hbw.mono hn)
      simp only [BT.size, BT.depth, BT.slots] at q
      have hcall := hP d' (.slice x1' x2' x3') (.slice ka' k'.len kc') n wr ⟨hav'.like hlk, FL.like hlk ⟨ka', kc', rfl, h4, h5, hkk⟩⟩ (Nat.le_trans hn hbw.size) (by omega)
      obtain ⟨Z, hZ⟩ : ∃ Z, k'.size + 1 = Z := ⟨_, rfl⟩
      rw [hZ] at hcall
      have HCALL := Fact.mk hcall
      have HZ := Fact.mk hZ
      have HQ := Fact.mk q
      have HR : Fact (FAt (Old n) w r' b2 (o2 + (i + 1) * 5) ∧ Hered RSizeP r') := ⟨by rw [show o2 + (i + 1) * 5 = o2 + i * 5 + 5 by omega]; exact hrr, hHr⟩
      have hzb : z + Z ≤ 2000002 := by omega
      clear hfx hfat hP hHr hrr hkk hav' hcall hlk e0 e1 e2 e3 e4 hkd hlen hfu hZ q hcc x3 x4
      go_wp2_with (go_at_call 25; refine HCALL.out.mono ?_; rintro e w2 ⟨rfl, hb2'⟩; have HB2 : Fact (Below (w.heap.size + 1) W1 w2) := ⟨hBr.out.trans (hb2'.mono (by have := hBr.out.size; omega))⟩; clear hb2')
      all_goals
        clear HCALL
        go_roundg g'
        case measure => omega
        case rel =>
          have u := HZ.out
          have q := HQ.out
          refine ⟨i + 1, r', z + Z, ⟨?_, by go_num⟩, by omega, by omega, HB2, ⟨.inr HR.out.1, HR.out.2, by omega⟩⟩
          first
            | rfl
            | (rw [show max z Z = Z by omega]; done)
            | (rw [show max z Z = z by omega]; done)
            | go_num
theorem rsize_any (k : M.F) : RSizeP k := indH rsize_step k

def RDepthP (k : M.F) : Prop := ∀ (d : Nd) (av kv : Value) (n : Nat) (w : World), Lies n w d k av kv → n ≤ w.heap.size → k.depth ≤ 1000000 →
  Calls Try.prog 36 #[nodeV d av kv] w fun e w' => e = .returned (.int .i64 (k.depth + 1 : Nat)) ∧ Below w.heap.size w w'

set_option maxRecDepth 20000 in
set_option maxHeartbeats 4000000 in
theorem rdepth_step (k : M.F) (hH : Hered RDepthP k) : RDepthP k := by
  intro d av kv n w hl hn hbd
  obtain ⟨K, N, X, A⟩ := d
  obtain ⟨a1, c1, rfl, hc1, hm1, hA⟩ := hl.a
  obtain ⟨a2, c2, rfl, hc2, hm2, hF⟩ := hl.f
  obtain ⟨al, hal⟩ : ∃ al, A.length = al := ⟨_, rfl⟩
  obtain ⟨kl, hkl⟩ : ∃ kl, k.len = kl := ⟨_, rfl⟩
  dsimp only at hbd ⊢
  rw [hal, hkl]
  try rw [hal] at hbd
  obtain ⟨W1, hW1⟩ : ∃ W1, w.alloc (.cells #[.int .i64 K, .string N, .string X, .slice a1 al c1, .slice a2 kl c2] 25) = W1 := ⟨_, rfl⟩
  have hB1 : Below w.heap.size w W1 := by rw [← hW1]; exact (Below.refl _ w).alloc (Nat.le_refl _) _
  have hz1 : W1.heap.size = w.heap.size + 1 := by rw [← hW1]; simp
  have hbx : ∀ i v, (#[.int .i64 K, .string N, .string X, .slice a1 al c1, .slice a2 kl c2] : Array Value)[i]? = some v → W1.cell? ⟨w.heap.size, i, none⟩ = some v := fun i v h => by
    rw [← hW1]; exact (World.cell?_alloc_new w _ _ i).trans h
  have x3 : W1.cell? ⟨w.heap.size, 3, none⟩ = some (.slice a1 al c1) := hbx 3 _ rfl
  have x4 : W1.cell? ⟨w.heap.size, 4, none⟩ = some (.slice a2 kl c2) := hbx 4 _ rfl
  obtain ⟨b2, o2, hkd⟩ : ∃ b o, Fact (∀ i, i < kl → a2 = some ⟨b, o, none⟩ ∧ b < n ∧ FAt (Old n) w k b o) := by
    rcases hF with h0 | ⟨b, o, ea, hS, hcs⟩
    · refine ⟨0, 0, ⟨fun i hi => ?_⟩⟩
      omega
    · exact ⟨b, o, ⟨fun i hi => ⟨ea, hS, hcs⟩⟩⟩
  have HB1 := Fact.mk hB1
  have HH := Fact.mk hH
  have HKL := Fact.mk hkl
  have HBD := Fact.mk hbd
  have HX4 := Fact.mk x4
  rw [hkl] at hc2
  unfold maxLen at hm2
  clear hA hF hl hH hbx hB1 hkl hbd hc1 hm1 hal
  go_enter Try.func36, Try.ntmps36
  go_wp2_with fail
  go_loopg [3, 4] kl (fun gf nv iv wr => ∃ (i : Nat) (rest : M.F) (z : Nat), (nv = .int .i64 z ∧ iv = .int .i64 i) ∧ i + rest.len = kl ∧ rest.len ≤ gf ∧
    Fact (Below (w.heap.size + 1) W1 wr) ∧ Fact ((rest.len = 0 ∨ FAt (Old n) w rest b2 (o2 + i * 5)) ∧ Hered RDepthP rest ∧ k.depth = max z rest.depth))
  case atStart =>
    refine ⟨0, k, 0, ⟨rfl, rfl⟩, by rw [HKL.out]; omega, by rw [HKL.out]; omega, ⟨Below.refl _ _⟩, ⟨?_, HH.out, by omega⟩⟩
    by_cases h0 : kl = 0
    · left; rw [HKL.out]; exact h0
    · right
      rw [Nat.zero_mul, Nat.add_zero]
      exact (hkd.out 0 (by omega)).2.2
  case round =>
    obtain ⟨i, rest, z, ⟨rfl, rfl⟩, hlen, hfu, hBr, hfx⟩ := hrel
    have y4 := (hBr.out.cell (p := ⟨w.heap.size, 4, none⟩) (by show w.heap.size < _; omega)).trans HX4.out
    have hbd := HBD.out
    cases rest with
    | nil =>
      have hi : i = kl := by have : i + 0 = kl := hlen; omega
      obtain ⟨_, _, q⟩ := hfx.out
      simp only [BT.size, BT.depth, BT.slots] at q
      have hfin : Fact (k.depth = z) := ⟨by omega⟩
      have hzb : z ≤ 1000001 := by omega
      clear hfx hlen q x3 x4 hkd
      subst hi
      go_wp2_with fail
      go_ret
      refine ⟨ret_int ?_, HB1.out.trans (hBr.out.mono (by omega))⟩
      have := hfin.out
      omega
    | node xb xo d' k' r' =>
      have hlen' : i + (r'.len + 1) = kl := hlen
      have hfu' : r'.len + 1 ≤ gk := hfu
      obtain ⟨g', rfl⟩ : ∃ g', gk = g' + 1 := ⟨gk - 1, by omega⟩
      have hlt2 : i < kl := by omega
      obtain ⟨ea2, hb2, _⟩ := hkd.out i hlt2
      subst ea2
      obtain ⟨hfat, ⟨hP, hHr⟩, q⟩ := hfx.out
      have hfat' := hfat.resolve_left (by show ¬ r'.len + 1 = 0; omega)
      obtain ⟨⟨av', ka', kc', e0, e1, e2, e3, e4, hav', h4, h5, hkk⟩, hrr⟩ := hfat'
      have hbw : Below w.heap.size w wr := HB1.out.trans (hBr.out.mono (by omega))
      have hcc : ∀ o, wr.cell? ⟨b2, o, none⟩ = w.cell? ⟨b2, o, none⟩ := fun o => hbw.cell (p := ⟨b2, o, none⟩) (by show b2 < _; omega)
      obtain ⟨x1', x2', x3', ex⟩ := hav'.val
      subst ex
      have l0 := (hcc _).trans e0
      have l1 := (hcc _).trans e1
      have l2 := (hcc _).trans e2
      have l3 := (hcc _).trans e3
      have l4 := (hcc _).trans e4
      have hlk : Like (Old n) w wr := like_below (hbw.mono hn)
      simp only [BT.size, BT.depth, BT.slots] at q
      have hcall := hP d' (.slice x1' x2' x3') (.slice ka' k'.len kc') n wr ⟨hav'.like hlk, FL.like hlk ⟨ka', kc', rfl, h4, h5, hkk⟩⟩ (Nat.le_trans hn hbw.size) (by omega)
      obtain ⟨Z, hZ⟩ : ∃ Z, k'.depth + 1 = Z := ⟨_, rfl⟩
      rw [hZ] at hcall
      have HCALL := Fact.mk hcall
      have HZ := Fact.mk hZ
      have HQ := Fact.mk q
      have HR : Fact (FAt (Old n) w r' b2 (o2 + (i + 1) * 5) ∧ Hered RDepthP r') := ⟨by rw [show o2 + (i + 1) * 5 = o2 + i * 5 + 5 by omega]; exact hrr, hHr⟩
      have hzb : z + Z ≤ 2000002 := by omega
      clear hfx hfat hP hHr hrr hkk hav' hcall hlk e0 e1 e2 e3 e4 hkd hlen hfu hZ q hcc x3 x4
      go_wp2_with (go_at_call 36; refine HCALL.out.mono ?_; rintro e w2 ⟨rfl, hb2'⟩; have HB2 : Fact (Below (w.heap.size + 1) W1 w2) := ⟨hBr.out.trans (hb2'.mono (by have := hBr.out.size; omega))⟩; clear hb2')
      all_goals
        clear HCALL
        go_roundg g'
        case measure => omega
        case rel =>
          have u := HZ.out
          have q := HQ.out
          refine ⟨i + 1, r', max z Z, ⟨?_, by go_num⟩, by omega, by omega, HB2, ⟨.inr HR.out.1, HR.out.2, by omega⟩⟩
          first
            | rfl
            | (rw [show max z Z = Z by omega]; done)
            | (rw [show max z Z = z by omega]; done)
            | go_num
theorem rdepth_any (k : M.F) : RDepthP k := indH rdepth_step k

end Go.Proofs.Ytkojhgagkoeeiaa
