/- The chapter's own all and Check. -/
import Derived.Test.YtblgjmohcdioeaaRefMay
import Derived.Test.YtblgjmohcdioeaaRefS
import Derived.Test.YtblgjmohcdioeaaCopy
set_option linter.unusedVariables false
namespace Go.Proofs.Ytblgjmohcdioeaa
open Go.Deep (BT)
open Go.RowKit M

def rF (rt : Bool) : M.F → Bool
  | .nil => true
  | .node _ _ d k r => (mayR d k.len false rt && rF (d.k == 1) k) && rF rt r
def rT (d : Nd) (k : M.F) (top root : Bool) : Bool := mayR d k.len top root && rF (d.k == 1) k

theorem keep7 {w W w5 : World} {b0 b1 c0 c1 c2 c3 c4 : Addr} {x0 x1 y0 y1 y2 y3 y4 : Value} (hb : Below W.heap.size W w5)
    (h : Below w.heap.size w W ∧ (W.cell? b0 = some x0 ∧ W.cell? b1 = some x1) ∧ (W.cell? c0 = some y0 ∧ W.cell? c1 = some y1 ∧ W.cell? c2 = some y2 ∧ W.cell? c3 = some y3 ∧ W.cell? c4 = some y4)) :
    Below w.heap.size w w5 ∧ (w5.cell? b0 = some x0 ∧ w5.cell? b1 = some x1) ∧ (w5.cell? c0 = some y0 ∧ w5.cell? c1 = some y1 ∧ w5.cell? c2 = some y2 ∧ w5.cell? c3 = some y3 ∧ w5.cell? c4 = some y4) := by
  have hk : ∀ a v, W.cell? a = some v → w5.cell? a = some v := fun a v hc => (hb.cell (p := a) (World.block_lt_of_cell? W _ hc)).trans hc
  obtain ⟨h0, ⟨p0, p1⟩, r0, r1, r2, r3, r4⟩ := h
  exact ⟨h0.trans (hb.mono h0.size), ⟨hk _ _ p0, hk _ _ p1⟩, hk _ _ r0, hk _ _ r1, hk _ _ r2, hk _ _ r3, hk _ _ r4⟩

def RAllP (k : M.F) : Prop := ∀ (d : Nd) (av kv : Value) (top root : Bool) (n : Nat) (w : World), Lies n w d k av kv → n ≤ w.heap.size →
  Calls Try.prog 36 #[nodeV d av kv, .bool top, .bool root] w fun e w' => e = .returned (.bool (rT d k top root)) ∧ Below w.heap.size w w'

set_option maxRecDepth 20000 in
set_option maxHeartbeats 4000000 in
theorem rall_step (k : M.F) (hH : Hered RAllP k) : RAllP k := by
  intro d av kv top root n w hl hn
  obtain ⟨K, N, X, A⟩ := d
  obtain ⟨a1, l1, c1, eav⟩ := hl.a.val
  subst eav
  have hl0 := hl
  obtain ⟨a2, c2, rfl, hc2, hm2, hF⟩ := hl.f
  obtain ⟨kl, hkl⟩ : ∃ kl, k.len = kl := ⟨_, rfl⟩
  obtain ⟨mr, hmr⟩ : ∃ mr, Fact (mayR ⟨K, N, X, A⟩ k.len top root = mr) := ⟨_, ⟨rfl⟩⟩
  obtain ⟨kr, hkr⟩ : ∃ kr, (K == 1) = kr := ⟨_, rfl⟩
  have hR : Fact (rT ⟨K, N, X, A⟩ k top root = (mr && rF kr k)) := ⟨by rw [← hmr.out, ← hkr]; rfl⟩
  obtain ⟨W1, hW1⟩ : ∃ W1, w.alloc (.cells #[.int .i64 K, .string N, .string X, .slice a1 l1 c1, .slice a2 kl c2] 25) = W1 := ⟨_, rfl⟩
  have hB1 : Below w.heap.size w W1 := by rw [← hW1]; exact (Below.refl _ w).alloc (Nat.le_refl _) _
  have hz1 : W1.heap.size = w.heap.size + 1 := by rw [← hW1]; simp
  have hbx : ∀ i v, (#[.int .i64 K, .string N, .string X, .slice a1 l1 c1, .slice a2 kl c2] : Array Value)[i]? = some v → W1.cell? ⟨w.heap.size, i, none⟩ = some v := fun i v h => by
    rw [← hW1]; exact (World.cell?_alloc_new w _ _ i).trans h
  have x0 : W1.cell? ⟨w.heap.size, 0, none⟩ = some (.int .i64 K) := hbx 0 _ rfl
  have x1 : W1.cell? ⟨w.heap.size, 1, none⟩ = some (.string N) := hbx 1 _ rfl
  have x2 : W1.cell? ⟨w.heap.size, 2, none⟩ = some (.string X) := hbx 2 _ rfl
  have x3 : W1.cell? ⟨w.heap.size, 3, none⟩ = some (.slice a1 l1 c1) := hbx 3 _ rfl
  have x4 : W1.cell? ⟨w.heap.size, 4, none⟩ = some (.slice a2 kl c2) := hbx 4 _ rfl
  obtain ⟨b2, o2, hkd⟩ : ∃ b o, Fact (∀ i, i < kl → a2 = some ⟨b, o, none⟩ ∧ b < n ∧ FAt (Old n) w k b o) := by
    rcases hF with h0 | ⟨b, o, ea, hS, hcs⟩
    · refine ⟨0, 0, ⟨fun i hi => ?_⟩⟩
      omega
    · exact ⟨b, o, ⟨fun i hi => ⟨ea, hS, hcs⟩⟩⟩
  have HL1 : Fact (Lies n W1 ⟨K, N, X, A⟩ k (.slice a1 l1 c1) (.slice a2 kl c2)) := ⟨hkl ▸ hl0.below (hB1.mono hn)⟩
  have HB1 := Fact.mk hB1
  have HH := Fact.mk hH
  have HKL := Fact.mk hkl
  have HX0 := Fact.mk x0
  have HX4 := Fact.mk x4
  rw [hkl] at hc2 ⊢
  unfold maxLen at hm2
  clear hF hl hl0 hH hbx hB1 hkl
  rw [hR.out]
  cases mr
  · clear hkd
    go_enter Try.func36, Try.ntmps36
    go_wp2_with (go_at_call 48; refine (rmay_at _ k _ _ _ _ false hmr n _ HL1.out (by omega)).mono ?_; rintro e w2 ⟨rfl, hb2⟩; have HB2 := Fact.mk hb2; clear hb2)
    go_ret
    exact ⟨rfl, HB1.out.trans (HB2.out.mono (by omega))⟩
  rw [Bool.true_and]
  clear hR
  go_enter Try.func36, Try.ntmps36
  go_wp2_with (go_at_call 48; refine (rmay_at _ k _ _ _ _ true hmr n _ HL1.out (by omega)).mono ?_; rintro e w2 ⟨rfl, hb2⟩; have HB2 := Fact.mk hb2; clear hb2)
  clear x0 x1 x2 x3 x4 hmr HL1
  go_loopg [7] kl (fun gf iv wr => ∃ (i : Nat) (rest : M.F), iv = .int .i64 i ∧ i + rest.len = kl ∧ rest.len ≤ gf ∧
    Fact (Below (w.heap.size + 1) W1 wr) ∧ Fact ((rest.len = 0 ∨ FAt (Old n) w rest b2 (o2 + i * 5)) ∧ Hered RAllP rest ∧ rF kr rest = rF kr k))
  case atStart =>
    refine ⟨0, k, rfl, by rw [HKL.out]; omega, by rw [HKL.out]; omega, ⟨HB2.out.mono (by omega)⟩, ⟨?_, HH.out, rfl⟩⟩
    by_cases h0 : kl = 0
    · left; rw [HKL.out]; exact h0
    · right
      rw [Nat.zero_mul, Nat.add_zero]
      exact (hkd.out 0 (by omega)).2.2
  case round =>
    obtain ⟨i, rest, rfl, hlen, hfu, hBr, hfx⟩ := hrel
    have y0 := (hBr.out.cell (p := ⟨w.heap.size, 0, none⟩) (by show w.heap.size < _; omega)).trans HX0.out
    have y4 := (hBr.out.cell (p := ⟨w.heap.size, 4, none⟩) (by show w.heap.size < _; omega)).trans HX4.out
    cases rest with
    | nil =>
      have hi : i = kl := by have : i + 0 = kl := hlen; omega
      obtain ⟨_, _, q⟩ := hfx.out
      have HQ : Fact (rF kr k = true) := ⟨q.symm⟩
      clear hfx hlen q hkd HB2
      subst hi
      go_wp2_with fail
      go_ret
      exact ⟨ret_bool HQ.out.symm, HB1.out.trans (hBr.out.mono (by omega))⟩
    | node xb xo d' k' r' =>
      have hlen' : i + (r'.len + 1) = kl := hlen
      have hfu' : r'.len + 1 ≤ gk := hfu
      obtain ⟨g', rfl⟩ : ∃ g', gk = g' + 1 := ⟨gk - 1, by omega⟩
      have hlt2 : i < kl := by omega
      obtain ⟨ea2, hb2, _⟩ := hkd.out i hlt2
      subst ea2
      obtain ⟨hfat, ⟨hP, hHr⟩, q⟩ := hfx.out
      have hfat' := hfat.resolve_left (by show ¬ r'.len + 1 = 0; omega)
      obtain ⟨⟨av', ka', kc', e0, e1, e2, e3, e4, hav', h4, h5, hkk⟩, hrr⟩ := hfat'
      have hbw : Below w.heap.size w wr := HB1.out.trans (hBr.out.mono (by omega))
      have hcc : ∀ o, wr.cell? ⟨b2, o, none⟩ = w.cell? ⟨b2, o, none⟩ := fun o => hbw.cell (p := ⟨b2, o, none⟩) (by show b2 < _; omega)
      obtain ⟨x1', x2', x3', ex⟩ := hav'.val
      subst ex
      obtain ⟨kl', hkl'⟩ : ∃ kl', k'.len = kl' := ⟨_, rfl⟩
      have hlk : Like (Old n) w wr.drew := like_below (hbw.mono hn).drew
      have hq : rF kr (.node xb xo d' k' r') = (rT d' k' false kr && rF kr r') := rfl
      rw [hq] at q
      obtain ⟨rr, hrr'⟩ : ∃ rr, rT d' k' false kr = rr := ⟨_, rfl⟩
      rw [hrr'] at q
      have hcall := hP d' (.slice x1' x2' x3') (.slice ka' k'.len kc') false kr n wr.drew ⟨hav'.like hlk, FL.like hlk ⟨ka', kc', rfl, h4, h5, hkk⟩⟩ (Nat.le_trans hn hbw.size)
      rw [hrr', hkl'] at hcall
      have HCALL := Fact.mk hcall
      have HQ := Fact.mk q
      have HR : Fact (FAt (Old n) w r' b2 (o2 + (i + 1) * 5) ∧ Hered RAllP r') := ⟨by rw [show o2 + (i + 1) * 5 = o2 + i * 5 + 5 by omega]; exact hrr, hHr⟩
      have HS : Fact (Below wr.heap.size wr wr.drew ∧ (wr.drew.cell? ⟨w.heap.size, 0, none⟩ = some (.int .i64 K) ∧ wr.drew.cell? ⟨w.heap.size, 4, none⟩ = some (.slice (some ⟨b2, o2, none⟩) kl c2)) ∧ (wr.drew.cell? ⟨b2, o2 + i * 5, none⟩ = some (.int .i64 d'.k) ∧ wr.drew.cell? ⟨b2, o2 + i * 5 + 1, none⟩ = some (.string d'.n) ∧ wr.drew.cell? ⟨b2, o2 + i * 5 + 2, none⟩ = some (.string d'.x) ∧ wr.drew.cell? ⟨b2, o2 + i * 5 + 3, none⟩ = some (.slice x1' x2' x3') ∧ wr.drew.cell? ⟨b2, o2 + i * 5 + 4, none⟩ = some (.slice ka' kl' kc'))) :=
        ⟨(Below.refl _ _).drew, ⟨y0, y4⟩, (hcc _).trans e0, (hcc _).trans e1, (hcc _).trans e2, (hcc _).trans e3, by rw [← hkl']; exact (hcc _).trans e4⟩
      have j1 : (i : Int) < kl := by omega
      have j3 : (0 : Int) ≤ i := by omega
      clear hfx hfat hP hHr hrr hkk hav' hcall hlk e0 e1 e2 e3 e4 hkd hlen hfu q hq hrr' hcc HB2
      go_wp2_with fail
      have hS0 := HS.out
      clear HS
      go_region_held3 (fun w' => Below wr.heap.size wr w' ∧ (w'.cell? ⟨w.heap.size, 0, none⟩ = some (.int .i64 K) ∧ w'.cell? ⟨w.heap.size, 4, none⟩ = some (.slice (some ⟨b2, o2, none⟩) kl c2)) ∧ (w'.cell? ⟨b2, o2 + i * 5, none⟩ = some (.int .i64 d'.k) ∧ w'.cell? ⟨b2, o2 + i * 5 + 1, none⟩ = some (.string d'.n) ∧ w'.cell? ⟨b2, o2 + i * 5 + 2, none⟩ = some (.string d'.x) ∧ w'.cell? ⟨b2, o2 + i * 5 + 3, none⟩ = some (.slice x1' x2' x3') ∧ w'.cell? ⟨b2, o2 + i * 5 + 4, none⟩ = some (.slice ka' kl' kc')))
        (first | with_reducible exact hS0 | with_reducible exact keep7 hb5 (by assumption))
        (first | (go_at_call 36; refine HCALL.out.mono ?_; rintro e w5 ⟨rfl, hb5⟩))
      rename_i hHeld
      have HB5 : Fact (Below (w.heap.size + 1) W1 w5) := ⟨hBr.out.trans (hHeld.1.mono (by have := hBr.out.size; omega))⟩
      clear hHeld HCALL hS0 hb5
      cases rr
      · have HQ2 : Fact (rF kr k = false) := ⟨HQ.out.symm⟩
        go_wp2_with fail
        go_ret
        exact ⟨ret_bool HQ2.out.symm, HB1.out.trans (HB5.out.mono (by omega))⟩
      · have HQ2 : Fact (rF kr r' = rF kr k) := ⟨HQ.out⟩
        go_wp2_with fail
        go_roundg g'
        case measure => omega
        case rel => exact ⟨i + 1, r', by go_num, by omega, by omega, HB5, ⟨.inr HR.out.1, HR.out.2, HQ2.out⟩⟩
theorem rall_any (k : M.F) : RAllP k := indH rall_step k
end Go.Proofs.Ytblgjmohcdioeaa
