/- The chapter's own Compare and Same. -/
import Derived.Test.YtkojhgagkoeeiaaRefNd
import Derived.Test.YtkojhgagkoeeiaaCompare
set_option linter.unusedVariables false
namespace Go.Proofs.Ytkojhgagkoeeiaa
open Go.Deep (BT)
open Go.RowKit M

theorem cF_end : ∀ f g : M.F, (f = .nil ∨ g = .nil) → cF f g = ci f.len g.len
  | .nil, .nil, _ => rfl
  | .nil, .node _ _ _ _ r, _ => by
    show (-1 : Int) = ci 0 ((r.len + 1 : Nat) : Int)
    unfold ci; rw [if_pos (by omega)]
  | .node _ _ _ _ r, .nil, _ => by
    show (1 : Int) = ci ((r.len + 1 : Nat) : Int) 0
    unfold ci; rw [if_neg (by omega), if_pos (by omega)]
  | .node _ _ _ _ _, .node _ _ _ _ _, h => by rcases h with h | h <;> cases h
theorem ci_add (i a b : Int) : ci (i + a) (i + b) = ci a b := by unfold ci; split <;> split <;> (try split) <;> (try split) <;> omega

def RCmpP (k : M.F) : Prop := ∀ (d d' : Nd) (k' : M.F) (va ka vb kb : Value) (n : Nat) (w : World) (C : Int), Lies n w d k va ka → Lies n w d' k' vb kb → n ≤ w.heap.size → Fact (cT d k d' k' = C) →
  Calls Try.prog 44 #[nodeV d va ka, nodeV d' vb kb] w fun e w' => e = .returned (.int .i64 C) ∧ Below w.heap.size w w'

theorem kids_at {n : Nat} {w : World} {v : Value} {k : M.F} (h : FL (Old n) w v k) : ∃ a c b o, v = .slice a k.len c ∧ k.len ≤ c ∧ c ≤ maxLen ∧ Fact (∀ i, i < k.len → a = some ⟨b, o, none⟩ ∧ b < n ∧ FAt (Old n) w k b o) := by
  obtain ⟨a, c, e, h1, h2, hF⟩ := h
  rcases hF with h0 | ⟨b, o, ea, hS, hcs⟩
  · refine ⟨a, c, 0, 0, e, h1, h2, ⟨fun i hi => ?_⟩⟩
    omega
  · exact ⟨a, c, b, o, e, h1, h2, ⟨fun i hi => ⟨ea, hS, hcs⟩⟩⟩

set_option maxRecDepth 20000 in
set_option maxHeartbeats 4000000 in
theorem rcmp_step (k : M.F) (hH : Hered RCmpP k) : RCmpP k := by
  intro d d' k' va ka vb kb n w C hla hlb hn hC
  obtain ⟨K, N, X, A⟩ := d
  obtain ⟨K', N', X', A'⟩ := d'
  obtain ⟨a1, l1, c1, e1⟩ := hla.a.val
  obtain ⟨a2, l2, c2, e2⟩ := hlb.a.val
  subst e1 e2
  have hla0 := hla
  have hlb0 := hlb
  obtain ⟨a3, c3, b3, o3, rfl, hc3, hm3, hkd⟩ := kids_at hla.f
  obtain ⟨a4, c4, b4, o4, rfl, hc4, hm4, hkd'⟩ := kids_at hlb.f
  obtain ⟨kl, hkl⟩ : ∃ kl, k.len = kl := ⟨_, rfl⟩
  obtain ⟨kl', hkl'⟩ : ∃ kl', k'.len = kl' := ⟨_, rfl⟩
  obtain ⟨C1, hC1⟩ : ∃ c, Fact (cn ⟨K, N, X, A⟩ ⟨K', N', X', A'⟩ = c) := ⟨_, ⟨rfl⟩⟩
  have HC : Fact (orI C1 (cF k k') = C) := ⟨by rw [← hC1.out]; exact hC.out⟩
  obtain ⟨W1, hW1⟩ : ∃ W1, (w.alloc (.cells #[.int .i64 K, .string N, .string X, .slice a1 l1 c1, .slice a3 kl c3] 25)).alloc (.cells #[.int .i64 K', .string N', .string X', .slice a2 l2 c2, .slice a4 kl' c4] 25) = W1 := ⟨_, rfl⟩
  have hB1 : Below w.heap.size w W1 := by rw [← hW1]; exact ((Below.refl _ w).alloc (Nat.le_refl _) _).alloc (by simp) _
  have hz1 : W1.heap.size = w.heap.size + 2 := by rw [← hW1]; simp
  have hA : ∀ i v, (#[.int .i64 K, .string N, .string X, .slice a1 l1 c1, .slice a3 kl c3] : Array Value)[i]? = some v → W1.cell? ⟨w.heap.size, i, none⟩ = some v := fun i v h => by
    rw [← hW1, World.cell?_alloc_lt _ _ _ (by simp)]; exact (World.cell?_alloc_new w _ _ i).trans h
  have hBb : ∀ i v, (#[.int .i64 K', .string N', .string X', .slice a2 l2 c2, .slice a4 kl' c4] : Array Value)[i]? = some v → W1.cell? ⟨w.heap.size + 1, i, none⟩ = some v := fun i v h => by
    have := World.cell?_alloc_new (w.alloc (.cells #[.int .i64 K, .string N, .string X, .slice a1 l1 c1, .slice a3 kl c3] 25)) #[.int .i64 K', .string N', .string X', .slice a2 l2 c2, .slice a4 kl' c4] 25 i
    rw [hW1, World.size_alloc] at this
    exact this.trans h
  have HP4 : Fact (W1.cell? ⟨w.heap.size, 4, none⟩ = some (.slice a3 kl c3) ∧ W1.cell? ⟨w.heap.size + 1, 4, none⟩ = some (.slice a4 kl' c4)) := ⟨hA 4 _ rfl, hBb 4 _ rfl⟩
  have HAS : Fact (AS (Old n) W1 (.slice a1 l1 c1) A ∧ AS (Old n) W1 (.slice a2 l2 c2) A') := ⟨hla0.a.like (like_below (hB1.mono hn)), hlb0.a.like (like_below (hB1.mono hn))⟩
  have HB1 := Fact.mk hB1
  have HH := Fact.mk hH
  have HKL := Fact.mk hkl
  have HKL' := Fact.mk hkl'
  have HW1 := Fact.mk hW1
  try dsimp only
  rw [hkl] at hc3 hkd ⊢
  rw [hkl'] at hc4 hkd' ⊢
  unfold maxLen at hm3 hm4
  clear hla hlb hla0 hlb0 hH hA hBb hB1 hkl hkl' hC hW1
  go_enter Try.func44, Try.ntmps44
  go_wp2_with fail
  rw [HW1.out]
  refine (rnode_any ⟨K, N, X, A⟩ ⟨K', N', X', A'⟩ _ _ _ _ n W1 HAS.out.1 HAS.out.2 (by omega) ⟨_, _, _, rfl⟩ ⟨_, _, _, rfl⟩ C1 hC1).mono ?_
  rintro e w2 ⟨rfl, hb2⟩
  have HB2 := Fact.mk hb2
  clear hb2 HAS HW1 hC1
  go_wp2_with fail
  go_loopg [5, 6] (kl + 1) (fun gf cv iv wr => ∃ (c : Int) (i : Nat) (rest rest' : M.F), (cv = .int .i64 c ∧ iv = .int .i64 i) ∧ i + rest.len = kl ∧ i + rest'.len = kl' ∧ rest.len + 1 ≤ gf ∧ Fact (Below (w.heap.size + 2) W1 wr) ∧
    Fact (((c = 0 ∧ cF rest rest' = C) ∨ (c ≠ 0 ∧ c = C)) ∧ (rest.len = 0 ∨ FAt (Old n) w rest b3 (o3 + i * 5)) ∧ (rest'.len = 0 ∨ FAt (Old n) w rest' b4 (o4 + i * 5)) ∧ Hered RCmpP rest))
  case atStart =>
    refine ⟨C1, 0, k, k', ⟨rfl, rfl⟩, by rw [HKL.out]; omega, by rw [HKL'.out]; omega, by rw [HKL.out]; omega, ⟨HB2.out.mono (by omega)⟩, ⟨?_, ?_, ?_, HH.out⟩⟩
    · have h := HC.out
      unfold orI at h
      by_cases h0 : C1 = 0
      · rw [if_pos h0] at h; exact .inl ⟨h0, h⟩
      · rw [if_neg h0] at h; exact .inr ⟨h0, h⟩
    · by_cases h0 : kl = 0
      · left; rw [HKL.out]; exact h0
      · right
        rw [Nat.zero_mul, Nat.add_zero]
        exact (hkd.out 0 (by omega)).2.2
    · by_cases h0 : kl' = 0
      · left; rw [HKL'.out]; exact h0
      · right
        rw [Nat.zero_mul, Nat.add_zero]
        exact (hkd'.out 0 (by omega)).2.2
  case round =>
    obtain ⟨c, i, rest, rest', ⟨rfl, rfl⟩, hlen, hlen2, hfu, hBr, hf⟩ := hrel
    have q4 := (hBr.out.cell (p := ⟨w.heap.size, 4, none⟩) (by show w.heap.size < _; omega)).trans HP4.out.1
    have r4 := (hBr.out.cell (p := ⟨w.heap.size + 1, 4, none⟩) (by show w.heap.size + 1 < _; omega)).trans HP4.out.2
    have HW : Fact (Below w.heap.size w wr) := ⟨HB1.out.trans (hBr.out.mono (by omega))⟩
    clear HC HB2
    by_cases hc0 : c = 0
    · subst hc0
      obtain ⟨hcd, hfat, hfat', hHr⟩ := hf.out
      have hcd := (hcd.resolve_right (fun h => h.1 rfl)).2
      by_cases hend : rest = .nil ∨ rest' = .nil
      · have hE := cF_end rest rest' hend
        have hsg : Fact (sg (decide ((kl : Int) < kl')) (decide ((kl' : Int) < kl)) = C) := ⟨by
          have ht := ci_add (i : Int) rest.len rest'.len
          rw [show (i : Int) + rest.len = kl by omega, show (i : Int) + rest'.len = kl' by omega] at ht
          rw [sg_ci, ← hcd, hE]; exact ht⟩
        have hsg2 : Fact (sg (decide (kl < kl')) (decide (kl' < kl)) = C) := ⟨by rw [← hsg.out]; congr 1 <;> exact decide_eq_decide.2 (by omega)⟩
        have hi : ¬ (i < kl ∧ i < kl') := by
          rcases hend with h | h
          · subst h; have : i + 0 = kl := hlen; omega
          · subst h; have : i + 0 = kl' := hlen2; omega
        clear hE hcd hf hkd hkd' hfat hfat' hHr hend HH HKL HKL'
        by_cases hl1 : i < kl
        · have hl2 : ¬ i < kl' := fun h => hi ⟨hl1, h⟩
          have hl1' : (i : Int) < kl := by omega
          have hl2' : ¬ (i : Int) < kl' := by omega
          clear hi
          go_wp2_with (go_at_call 57; first | (with_reducible refine (sign_at _ _ C hsg2 _).mono ?_; rintro e w2 ⟨rfl, hw2⟩; have hw3 := hw2.symm; subst hw3; clear hw2) | (with_reducible refine (sign_at _ _ C hsg _).mono ?_; rintro e w2 ⟨rfl, hw2⟩; have hw3 := hw2.symm; subst hw3; clear hw2))
          go_ret
          exact ⟨rfl, HW.out⟩
        · have hl1' : ¬ (i : Int) < kl := by omega
          clear hi
          go_wp2_with (go_at_call 57; first | (with_reducible refine (sign_at _ _ C hsg2 _).mono ?_; rintro e w2 ⟨rfl, hw2⟩; have hw3 := hw2.symm; subst hw3; clear hw2) | (with_reducible refine (sign_at _ _ C hsg _).mono ?_; rintro e w2 ⟨rfl, hw2⟩; have hw3 := hw2.symm; subst hw3; clear hw2))
          go_ret
          exact ⟨rfl, HW.out⟩
      · cases rest with
        | nil => exact absurd (.inl rfl) hend
        | node xb xo d k1 r1 =>
          cases rest' with
          | nil => exact absurd (.inr rfl) hend
          | node yb yo d' k2 r2 =>
            have hlen' : i + (r1.len + 1) = kl := hlen
            have hlen2' : i + (r2.len + 1) = kl' := hlen2
            have hfu' : r1.len + 1 + 1 ≤ gk := hfu
            obtain ⟨g', rfl⟩ : ∃ g', gk = g' + 1 := ⟨gk - 1, by omega⟩
            obtain ⟨ea3, hb3, _⟩ := hkd.out i (by omega)
            obtain ⟨ea4, hb4, _⟩ := hkd'.out i (by omega)
            subst ea3 ea4
            obtain ⟨hP, hHr'⟩ := hHr
            have hfa := hfat.resolve_left (by show ¬ r1.len + 1 = 0; omega)
            have hfb := hfat'.resolve_left (by show ¬ r2.len + 1 = 0; omega)
            obtain ⟨⟨av1, ka1, kc1, e0, e1, e2, e3, e4, hav1, h4, h5, hkk1⟩, hrr1⟩ := hfa
            obtain ⟨⟨av2, ka2, kc2, f0, f1, f2, f3, f4, hav2, h6, h7, hkk2⟩, hrr2⟩ := hfb
            obtain ⟨x1, x2, x3, ex⟩ := hav1.val
            obtain ⟨y1, y2, y3, ey⟩ := hav2.val
            subst ex ey
            obtain ⟨m1, hm1⟩ : ∃ m, k1.len = m := ⟨_, rfl⟩
            obtain ⟨m2, hm2⟩ : ∃ m, k2.len = m := ⟨_, rfl⟩
            have hcc : ∀ b o, b < n → wr.cell? ⟨b, o, none⟩ = w.cell? ⟨b, o, none⟩ := fun b o hb => HW.out.cell (p := ⟨b, o, none⟩) (by show b < _; omega)
            have hlk : Like (Old n) w wr.drew := like_below (HW.out.mono hn).drew
            obtain ⟨c', hc'⟩ : ∃ c', Fact (cT d k1 d' k2 = c') := ⟨_, ⟨rfl⟩⟩
            have hcall := hP d d' k2 (.slice x1 x2 x3) (.slice ka1 k1.len kc1) (.slice y1 y2 y3) (.slice ka2 k2.len kc2) n wr.drew c' ⟨hav1.like hlk, FL.like hlk ⟨ka1, kc1, rfl, h4, h5, hkk1⟩⟩ ⟨hav2.like hlk, FL.like hlk ⟨ka2, kc2, rfl, h6, h7, hkk2⟩⟩ (Nat.le_trans hn HW.out.size) hc'
            rw [hm1, hm2] at hcall
            have HCALL := Fact.mk hcall
            have HNX : Fact ((c' = 0 ∧ cF r1 r2 = C) ∨ (c' ≠ 0 ∧ c' = C)) := ⟨by
              have h : orI (cn d d') (orI (cF k1 k2) (cF r1 r2)) = C := hcd
              rw [← orI_assoc] at h
              have h : orI (cT d k1 d' k2) (cF r1 r2) = C := h
              rw [hc'.out] at h
              unfold orI at h
              by_cases h0 : c' = 0
              · rw [if_pos h0] at h; exact .inl ⟨h0, h⟩
              · rw [if_neg h0] at h; exact .inr ⟨h0, h⟩⟩
            have HR : Fact (FAt (Old n) w r1 b3 (o3 + (i + 1) * 5) ∧ FAt (Old n) w r2 b4 (o4 + (i + 1) * 5) ∧ Hered RCmpP r1) := ⟨by rw [show o3 + (i + 1) * 5 = o3 + i * 5 + 5 by omega]; exact hrr1, by rw [show o4 + (i + 1) * 5 = o4 + i * 5 + 5 by omega]; exact hrr2, hHr'⟩
            have HS : Fact (Below wr.heap.size wr wr.drew ∧ (wr.drew.cell? ⟨w.heap.size, 4, none⟩ = some (.slice (some ⟨b3, o3, none⟩) kl c3) ∧ wr.drew.cell? ⟨w.heap.size + 1, 4, none⟩ = some (.slice (some ⟨b4, o4, none⟩) kl' c4)) ∧
              (wr.drew.cell? ⟨b3, o3 + i * 5, none⟩ = some (.int .i64 d.k) ∧ wr.drew.cell? ⟨b3, o3 + i * 5 + 1, none⟩ = some (.string d.n) ∧ wr.drew.cell? ⟨b3, o3 + i * 5 + 2, none⟩ = some (.string d.x) ∧ wr.drew.cell? ⟨b3, o3 + i * 5 + 3, none⟩ = some (.slice x1 x2 x3) ∧ wr.drew.cell? ⟨b3, o3 + i * 5 + 4, none⟩ = some (.slice ka1 m1 kc1)) ∧
              (wr.drew.cell? ⟨b4, o4 + i * 5, none⟩ = some (.int .i64 d'.k) ∧ wr.drew.cell? ⟨b4, o4 + i * 5 + 1, none⟩ = some (.string d'.n) ∧ wr.drew.cell? ⟨b4, o4 + i * 5 + 2, none⟩ = some (.string d'.x) ∧ wr.drew.cell? ⟨b4, o4 + i * 5 + 3, none⟩ = some (.slice y1 y2 y3) ∧ wr.drew.cell? ⟨b4, o4 + i * 5 + 4, none⟩ = some (.slice ka2 m2 kc2))) :=
              ⟨(Below.refl _ _).drew, ⟨q4, r4⟩, ⟨(hcc _ _ hb3).trans e0, (hcc _ _ hb3).trans e1, (hcc _ _ hb3).trans e2, (hcc _ _ hb3).trans e3, by rw [← hm1]; exact (hcc _ _ hb3).trans e4⟩, (hcc _ _ hb4).trans f0, (hcc _ _ hb4).trans f1, (hcc _ _ hb4).trans f2, (hcc _ _ hb4).trans f3, by rw [← hm2]; exact (hcc _ _ hb4).trans f4⟩
            have j1 : (i : Int) < kl := by omega
            have j2 : (i : Int) < kl' := by omega
            have j3 : (0 : Int) ≤ i := by omega
            clear hf hfat hfat' hP hHr' hrr1 hrr2 hkk1 hkk2 hav1 hav2 hcall hlk e0 e1 e2 e3 e4 f0 f1 f2 f3 f4 hkd hkd' hlen hlen2 hfu hcd hcc hc' hend HH
            go_wp2_with fail
            have hS0 := HS.out
            clear HS
            go_region_held3 (fun w' => Below wr.heap.size wr w' ∧ (w'.cell? ⟨w.heap.size, 4, none⟩ = some (.slice (some ⟨b3, o3, none⟩) kl c3) ∧ w'.cell? ⟨w.heap.size + 1, 4, none⟩ = some (.slice (some ⟨b4, o4, none⟩) kl' c4)) ∧
              (w'.cell? ⟨b3, o3 + i * 5, none⟩ = some (.int .i64 d.k) ∧ w'.cell? ⟨b3, o3 + i * 5 + 1, none⟩ = some (.string d.n) ∧ w'.cell? ⟨b3, o3 + i * 5 + 2, none⟩ = some (.string d.x) ∧ w'.cell? ⟨b3, o3 + i * 5 + 3, none⟩ = some (.slice x1 x2 x3) ∧ w'.cell? ⟨b3, o3 + i * 5 + 4, none⟩ = some (.slice ka1 m1 kc1)) ∧
              (w'.cell? ⟨b4, o4 + i * 5, none⟩ = some (.int .i64 d'.k) ∧ w'.cell? ⟨b4, o4 + i * 5 + 1, none⟩ = some (.string d'.n) ∧ w'.cell? ⟨b4, o4 + i * 5 + 2, none⟩ = some (.string d'.x) ∧ w'.cell? ⟨b4, o4 + i * 5 + 3, none⟩ = some (.slice y1 y2 y3) ∧ w'.cell? ⟨b4, o4 + i * 5 + 4, none⟩ = some (.slice ka2 m2 kc2)))
              (first | with_reducible exact hS0 | with_reducible exact keep12 hb5 (by assumption))
              (first | (go_at_call 44; refine HCALL.out.mono ?_; rintro e w5 ⟨rfl, hb5⟩))
            rename_i hHeld
            have HB5 : Fact (Below (w.heap.size + 2) W1 w5) := ⟨hBr.out.trans (hHeld.1.mono (by have := hBr.out.size; omega))⟩
            clear hHeld HCALL hS0 hb5
            go_wp2_with fail
            go_roundg g'
            case measure => omega
            case rel => exact ⟨c', i + 1, r1, r2, ⟨rfl, by go_num⟩, by omega, by omega, by omega, HB5, ⟨HNX.out, .inr HR.out.1, .inr HR.out.2.1, HR.out.2.2⟩⟩
    · have hc0' : (c == 0) = false := by simpa using hc0
      have hcC : Fact (c = C) := ⟨(hf.out.1.resolve_left (fun h => hc0 h.1)).2⟩
      clear hf hkd hkd' HH HKL HKL'
      go_wp2_with fail
      go_ret
      exact ⟨ret_int hcC.out, HW.out⟩
theorem rcmp_any (k : M.F) : RCmpP k := indH rcmp_step k

set_option maxRecDepth 20000 in
set_option maxHeartbeats 1000000 in
theorem rsame_at {n : Nat} {w : World} {d d' : Nd} {k k' : M.F} {va vb ka kb : Value} (r : Bool) (hr : Fact (decide (cT d k d' k' = 0) = r)) (ha : Lies n w d k va ka) (hb : Lies n w d' k' vb kb) (hn : n ≤ w.heap.size) :
    Calls Try.prog 23 #[nodeV d va ka, nodeV d' vb kb] w fun e w' => e = .returned (.bool r) ∧ Below w.heap.size w w' := by
  obtain ⟨a1, n1, c1, e1⟩ := ha.a.val
  obtain ⟨a2, n2, c2, e2⟩ := hb.a.val
  obtain ⟨a3, c3, e3⟩ := ha.f.val
  obtain ⟨a4, c4, e4⟩ := hb.f.val
  subst e1 e2 e3 e4
  obtain ⟨C, hC⟩ : ∃ C, Fact (cT d k d' k' = C) := ⟨_, ⟨rfl⟩⟩
  have hr' : Fact (decide (C = 0) = r) := ⟨by rw [← hC.out]; exact hr.out⟩
  obtain ⟨W1, hW1⟩ : ∃ W1, (w.alloc (.cells #[.int .i64 d.k, .string d.n, .string d.x, .slice a1 n1 c1, .slice a3 k.len c3] 25)).alloc (.cells #[.int .i64 d'.k, .string d'.n, .string d'.x, .slice a2 n2 c2, .slice a4 k'.len c4] 25) = W1 := ⟨_, rfl⟩
  have hb1 : Below w.heap.size w W1 := by rw [← hW1]; exact ((Below.refl _ w).alloc (Nat.le_refl _) _).alloc (by simp) _
  have HA := Fact.mk (ha.below (hb1.mono hn))
  have HB := Fact.mk (hb.below (hb1.mono hn))
  have HB1 := Fact.mk hb1
  have HW1 := Fact.mk hW1
  clear ha hb hb1 hW1 hr
  go_enter Try.func23, Try.ntmps23
  go_wp2_with fail
  rw [HW1.out]
  refine (rcmp_any k d d' k' _ _ _ _ n W1 C HA.out HB.out (Nat.le_trans hn HB1.out.size) hC).mono ?_
  rintro e w2 ⟨rfl, hb2⟩
  go_wp2_with fail
  go_ret
  refine ⟨ret_bool ?_, HB1.out.trans (hb2.mono HB1.out.size)⟩
  rw [← hr'.out]
  rw [Bool.eq_iff_iff]
  simp
end Go.Proofs.Ytkojhgagkoeeiaa
