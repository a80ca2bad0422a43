/- What Small tells of each node, too. -/
import Derived.Test.YtkojhgagkoeeiaaSmall
set_option linter.unusedVariables false
namespace Go.Proofs.Ytkojhgagkoeeiaa.M
open Go.Deep
/-- a node that is not too much -/
structure OKnd (d : Nd) : Prop where
  many : d.ats.length ≤ 20
  name : d.n.size ≤ 200
  text : d.x.size ≤ 6000
  each : ∀ p ∈ d.ats, p.1.size ≤ 200 ∧ p.2.size ≤ 6000
/-- all nodes are such -/
def allF (P : Nd → Prop) : F → Prop
  | .nil => True
  | .node _ _ d k r => P d ∧ allF P k ∧ allF P r
end Go.Proofs.Ytkojhgagkoeeiaa.M
namespace Go.Proofs.Ytkojhgagkoeeiaa
open Go.Deep (BT)
open Go.RowKit M

/-- what Small's yes says of a tree: so many nodes, so deep, each not too much -/
structure FitsA (deep c : Nat) (d : Nd) (k : M.F) : Prop where
  size : c + (k.size + 1) ≤ 400
  depth : deep + k.depth ≤ 70
  nd : OKnd d
  all : allF OKnd k

def SmallR (k : M.F) : Prop := ∀ (d : Nd) (av kv : Value) (deep c n Bn : Nat) (w : World), Lies n w d k av kv → n ≤ Bn → Bn < w.heap.size → deep ≤ 71 → c ≤ 400 →
  w.cell? ⟨Bn, 0, none⟩ = some (.int .i64 c) → w.frozen? ⟨Bn, 0, none⟩ = false →
  Calls Try.prog 45 #[nodeV d av kv, .int .i64 deep, .pointer (some ⟨Bn, 0, none⟩)] w fun e w' =>
    (e = .returned (.bool false) ∧ Keep Bn (Bn + 1) w w') ∨
    (e = .returned (.bool true) ∧ Keep Bn (Bn + 1) w w' ∧ w'.cell? ⟨Bn, 0, none⟩ = some (.int .i64 (c + (k.size + 1) : Nat)) ∧ w'.frozen? ⟨Bn, 0, none⟩ = false ∧ Fact (FitsA deep c d k))

set_option maxRecDepth 20000 in
set_option maxHeartbeats 4000000 in
theorem smallA_step (k : M.F) (hH : Hered SmallR k) : SmallR k := by
  intro d av kv deep c n Bn w hl hn hB hdeep hc hcell hfz
  obtain ⟨K, N, X, A⟩ := d
  obtain ⟨a1, c1, rfl, hc1, hm1, hA⟩ := hl.a
  obtain ⟨a2, c2, rfl, hc2, hm2, hF⟩ := hl.f
  dsimp only at hc1 hA
  obtain ⟨al, hal⟩ : ∃ al, A.length = al := ⟨_, rfl⟩
  obtain ⟨kl, hkl⟩ : ∃ kl, k.len = kl := ⟨_, rfl⟩
  dsimp only
  rw [hal, hkl]
  rw [hal] at hc1
  rw [hkl] at hc2
  unfold maxLen at hm1 hm2
  -- the world behind the first statement
  obtain ⟨W1, hW1⟩ : ∃ W1, (w.alloc (.cells #[.int .i64 K, .string N, .string X, .slice a1 al c1, .slice a2 kl c2] 25)).setCell ⟨Bn, 0, none⟩ (.int .i64 (c + 1)) = W1 := ⟨_, rfl⟩
  have hz1 : W1.heap.size = w.heap.size + 1 := by rw [← hW1]; simp [World.setCell]
  have hk1 : Keep Bn (Bn + 1) w W1 := by
    rw [← hW1]; exact ((Keep.refl _ _ _).alloc _).setCell (p := ⟨Bn, 0, none⟩) (Nat.le_refl _) (Nat.lt_succ_self _) _
  have hcA : (w.alloc (.cells #[.int .i64 K, .string N, .string X, .slice a1 al c1, .slice a2 kl c2] 25)).cell? ⟨Bn, 0, none⟩ = some (.int .i64 c) := (World.cell?_alloc_lt _ _ _ hB).trans hcell
  have hfA : (w.alloc (.cells #[.int .i64 K, .string N, .string X, .slice a1 al c1, .slice a2 kl c2] 25)).frozen? ⟨Bn, 0, none⟩ = false := (World.frozen?_alloc_old _ _ _ (by show Bn ≠ _; omega)).trans hfz
  have hcB : W1.cell? ⟨Bn, 0, none⟩ = some (.int .i64 (c + 1)) := by rw [← hW1]; exact World.cell?_setCell_same' _ _ _ (by rw [hcA]; rfl)
  have hfB : W1.frozen? ⟨Bn, 0, none⟩ = false := by rw [← hW1, World.frozen?_setCell]; exact hfA
  have hbx : ∀ i v, (#[.int .i64 K, .string N, .string X, .slice a1 al c1, .slice a2 kl c2] : Array Value)[i]? = some v → W1.cell? ⟨w.heap.size, i, none⟩ = some v := fun i v h => by
    have e : W1.heap[w.heap.size]? = (w.alloc (.cells #[.int .i64 K, .string N, .string X, .slice a1 al c1, .slice a2 kl c2] 25)).heap[w.heap.size]? := by rw [← hW1]; exact Below.heap_setCell _ _ _ _ (by show w.heap.size ≠ Bn; omega)
    exact (World.cell?_of_block (a := ⟨w.heap.size, i, none⟩) e).trans ((World.cell?_alloc_new w _ _ i).trans h)
  have x1 := hbx 1 _ rfl
  have x2 := hbx 2 _ rfl
  have x3 := hbx 3 _ rfl
  have x4 := hbx 4 _ rfl
  have HK1 := Fact.mk hk1
  have HA := Fact.mk hA
  have HF := Fact.mk hF
  have HLA := Fact.mk hal
  have HLK := Fact.mk hkl
  have HH := Fact.mk hH
  clear hbx hA hF hal hkl hk1 hl hH
  by_cases t1 : 400 < c + 1
  · go_enter Try.func45, Try.ntmps45
    go_wp2_with fail
    go_ret
    exact .inl ⟨rfl, HK1.out⟩
  by_cases t2 : 70 < deep
  · go_enter Try.func45, Try.ntmps45
    go_wp2_with fail
    go_ret
    exact .inl ⟨rfl, HK1.out⟩
  by_cases t3 : 20 < al
  · go_enter Try.func45, Try.ntmps45
    go_wp2_with fail
    go_ret
    exact .inl ⟨rfl, HK1.out⟩
  by_cases t4 : 200 < N.size
  · go_enter Try.func45, Try.ntmps45
    go_wp2_with fail
    go_ret
    exact .inl ⟨rfl, HK1.out⟩
  by_cases t5 : 6000 < X.size
  · go_enter Try.func45, Try.ntmps45
    go_wp2_with fail
    go_ret
    exact .inl ⟨rfl, HK1.out⟩
  go_enter Try.func45, Try.ntmps45
  go_wp2_with fail
  obtain ⟨b1, o1, hat⟩ : ∃ b o, Fact (∀ i, i < al → a1 = some ⟨b, o, none⟩ ∧ W1.cell? ⟨b, o + i * 2, none⟩ = some (.string (bs A i).1) ∧ W1.cell? ⟨b, o + i * 2 + 1, none⟩ = some (.string (bs A i).2)) := by
    rcases HA.out with h0 | ⟨b, o, ea, hS, hcs⟩
    · refine ⟨0, 0, ⟨fun i hi => ?_⟩⟩
      have := HLA.out
      rw [h0] at this
      simp at this
      omega
    · refine ⟨b, o, ⟨fun i hi => ⟨ea, ?_, ?_⟩⟩⟩
      · rw [← bs_get A i (by rw [HLA.out]; exact hi)]
        exact HK1.out.cell (hcs i (by rw [HLA.out]; exact hi)).1 (.inl (by have : b < n := hS; omega))
      · rw [← bs_get A i (by rw [HLA.out]; exact hi)]
        exact HK1.out.cell (hcs i (by rw [HLA.out]; exact hi)).2 (.inl (by have : b < n := hS; omega))
  obtain ⟨b2, o2, hkd⟩ : ∃ b o, Fact (∀ i, i < kl → a2 = some ⟨b, o, none⟩ ∧ b < n ∧ FAt (Old n) w k b o) := by
    rcases HF.out with h0 | ⟨b, o, ea, hS, hcs⟩
    · refine ⟨0, 0, ⟨fun i hi => ?_⟩⟩
      have := HLK.out
      omega
    · exact ⟨b, o, ⟨fun i hi => ⟨ea, hS, hcs⟩⟩⟩
  go_loop [7] (fun i => ∃ j : Nat, j ≤ al ∧ i = .int .i64 j ∧ Fact (∀ q, q < j → (bs A q).1.size ≤ 200 ∧ (bs A q).2.size ≤ 6000)) (fun i => al - (intOf i).toNat)
  case atStart => exact ⟨0, Nat.zero_le _, rfl, ⟨fun q hq => absurd hq (Nat.not_lt_zero _)⟩⟩
  case round =>
    obtain ⟨j, hj, rfl, hat7⟩ := hrel
    by_cases hlt : j < al
    · obtain ⟨ea, y0, y1⟩ := hat.out j hlt
      subst ea
      obtain ⟨N', hN'⟩ : ∃ N', (bs A j).1 = N' := ⟨_, rfl⟩
      obtain ⟨V', hV'⟩ : ∃ V', (bs A j).2 = V' := ⟨_, rfl⟩
      rw [hN'] at y0
      rw [hV'] at y1
      have HNV : Fact ((bs A j).1 = N' ∧ (bs A j).2 = V') := ⟨hN', hV'⟩
      clear hN' hV' hat
      by_cases u1 : 200 < N'.size
      · go_wp2_with fail
        go_ret
        exact .inl ⟨rfl, HK1.out⟩
      by_cases u2 : 6000 < V'.size
      · go_wp2_with fail
        go_ret
        exact .inl ⟨rfl, HK1.out⟩
      go_wp2_with fail
      go_round
      case rel => exact ⟨j + 1, by omega, by go_num, ⟨fun q hq => by
        by_cases e : q = j
        · subst e; rw [HNV.out.1, HNV.out.2]; exact ⟨by omega, by omega⟩
        · exact hat7.out q (by omega)⟩⟩
      case measure => simp [intOf]; omega
    · obtain rfl : j = al := by omega
      have HND : Fact (OKnd ⟨K, N, X, A⟩) := ⟨by show A.length ≤ 20; rw [HLA.out]; omega, by show N.size ≤ 200; omega, by show X.size ≤ 6000; omega, fun p hp => by
        obtain ⟨q, hq, e⟩ := List.getElem_of_mem hp
        have hq' : q < A.length := hq
        have := hat7.out q (by rw [← HLA.out]; exact hq')
        rw [← bs_get A q hq'] at this
        rw [← e]; exact this⟩
      clear hat hat7
      go_wp2_with fail
      go_loopg [8] kl (fun gf iv wr => ∃ (i : Nat) (rest : M.F) (ci : Nat), iv = .int .i64 i ∧ i + rest.len = kl ∧ rest.len ≤ gf ∧ (Keep Bn (Bn + 1) W1 wr ∧ wr.cell? ⟨Bn, 0, none⟩ = some (.int .i64 ci) ∧ wr.frozen? ⟨Bn, 0, none⟩ = false) ∧
        Fact ((rest.len = 0 ∨ FAt (Old n) w rest b2 (o2 + i * 5)) ∧ Hered SmallR rest ∧ ci ≤ 400 ∧ (allF OKnd rest → allF OKnd k) ∧ ∃ D z, ci = c + 1 + z ∧ k.size = z + rest.size ∧ k.depth = max D rest.depth ∧ deep + D ≤ 70))
      case atStart =>
        refine ⟨0, k, c + 1, rfl, by rw [HLK.out]; omega, by rw [HLK.out]; omega, ⟨Keep.refl _ _ _, hcB, hfB⟩, ⟨?_, HH.out, by omega, id, 0, 0, rfl, by omega, by omega, by omega⟩⟩
        by_cases h0 : kl = 0
        · left; rw [HLK.out]; exact h0
        · right
          rw [Nat.zero_mul, Nat.add_zero]
          exact (hkd.out 0 (by omega)).2.2
      case round =>
        obtain ⟨i, rest, ci, rfl, hlen, hfu, ⟨hkw, hcw, hfw⟩, hfx⟩ := hrel
        have z3 := hkw.cell x3 (.inr (by omega))
        have z4 := hkw.cell x4 (.inr (by omega))
        cases rest with
        | nil =>
          have hi : i = kl := by have : i + 0 = kl := hlen; omega
          obtain ⟨_, _, hci, hall, D, z, q1, q2, q3, q4⟩ := hfx.out
          have HFIN : Fact (ci = c + (k.size + 1) ∧ FitsA deep c ⟨K, N, X, A⟩ k) := ⟨by simp only [BT.size] at q2; omega, by simp only [BT.size] at q2; omega, by simp only [BT.depth] at q3; omega, HND.out, hall trivial⟩
          clear hfx hlen q2 q3 q1 q4 hall
          subst hi
          go_wp2_with fail
          go_ret
          exact .inr ⟨rfl, HK1.out.trans hkw, by rw [← HFIN.out.1]; exact hcw, hfw, ⟨HFIN.out.2⟩⟩
        | node xb xo d' k' r' =>
          have hlen' : i + (r'.len + 1) = kl := hlen
          have hfu' : r'.len + 1 ≤ gk := hfu
          obtain ⟨g', rfl⟩ : ∃ g', gk = g' + 1 := ⟨gk - 1, by omega⟩
          have hlt2 : i < kl := by omega
          obtain ⟨ea2, hb2, _⟩ := hkd.out i hlt2
          subst ea2
          obtain ⟨hfat, ⟨hP, hHr⟩, hci, hall, D, z, q1, q2, q3, q4⟩ := hfx.out
          have hfat' := hfat.resolve_left (by show ¬ r'.len + 1 = 0; omega)
          obtain ⟨⟨av', ka', kc', e0, e1, e2, e3, e4, hav', h4, h5, hkk⟩, hrr⟩ := hfat'
          have hLw : Keep Bn (Bn + 1) w wr := HK1.out.trans hkw
          have hlk : Like (Old n) w wr := like_below ((hLw.below (by omega)).mono hn)
          have l0 := hLw.cell e0 (.inl (by omega))
          have l1 := hLw.cell e1 (.inl (by omega))
          have l2 := hLw.cell e2 (.inl (by omega))
          have l3 := hLw.cell e3 (.inl (by omega))
          have l4 := hLw.cell e4 (.inl (by omega))
          have hcall := hP d' av' (.slice ka' k'.len kc') (deep + 1) ci n Bn wr ⟨hav'.like hlk, FL.like hlk ⟨ka', kc', rfl, h4, h5, hkk⟩⟩ hn (by have := hLw.size; omega) (by omega) hci hcw hfw
          rw [show ((deep + 1 : Nat) : Int) = (deep : Int) + 1 from by omega] at hcall
          have HCALL := Fact.mk hcall
          have HR : Fact ((r'.len = 0 ∨ FAt (Old n) w r' b2 (o2 + (i + 1) * 5)) ∧ Hered SmallR r') := ⟨.inr (by rw [show o2 + (i + 1) * 5 = o2 + i * 5 + 5 by omega]; exact hrr), hHr⟩
          have HQ : Fact (ci = c + 1 + z ∧ k.size = z + (1 + k'.size + r'.size) ∧ k.depth = max D (max (k'.depth + 1) r'.depth) ∧ deep + D ≤ 70 ∧ (OKnd d' ∧ allF OKnd k' ∧ allF OKnd r' → allF OKnd k)) := ⟨q1, q2, q3, q4, hall⟩
          clear hfx hfat hP hHr q1 q2 q3 q4 hall hrr hkk hav' hcall hlk e0 e1 e2 e3 e4 hkd hlen hfu
          go_wp2_with fail
          refine HCALL.out.mono ?_
          rintro e w2 (⟨rfl, hk2⟩ | ⟨rfl, hk2, hc2, hf2, hft⟩)
          · clear HCALL
            go_wp2_with fail
            go_ret
            exact .inl ⟨rfl, hLw.trans hk2⟩
          · clear HCALL
            have HK2 := Fact.mk (hkw.trans hk2)
            have HC2 := Fact.mk hc2
            have HF2 := Fact.mk hf2
            clear hk2 hc2 hf2 l0 l1 l2 l3 l4 hcw hfw
            go_wp2_with fail
            go_roundg g'
            case measure => omega
            case rel =>
              obtain ⟨p1, p2, p3, p4, p5⟩ := HQ.out
              have f1 := hft.out.size
              have f2 := hft.out.depth
              refine ⟨i + 1, r', ci + (k'.size + 1), by go_num, by omega, by omega, ⟨HK2.out, HC2.out, HF2.out⟩, ⟨HR.out.1, HR.out.2, by omega, fun h => p5 ⟨hft.out.nd, hft.out.all, h⟩, max D (k'.depth + 1), z + (k'.size + 1), by omega, by omega, by omega, by omega⟩⟩
theorem smallA_any (k : M.F) : SmallR k := indH smallA_step k

set_option maxRecDepth 20000 in
set_option maxHeartbeats 1000000 in
/-- Small: no, or yes of a tree that is small -/
theorem SmallA_any (d : Nd) (k : M.F) (av kv : Value) (n : Nat) (w : World) (hl : Lies n w d k av kv) (hn : n ≤ w.heap.size) :
    Calls Try.prog 24 #[nodeV d av kv] w fun e w' => (e = .returned (.bool false) ∧ Below w.heap.size w w') ∨ (e = .returned (.bool true) ∧ Below w.heap.size w w' ∧ Fact (FitsA 0 0 d k)) := by
  obtain ⟨a1, b1, c1, eav⟩ := hl.a.val
  obtain ⟨a2, c2, ekv⟩ := hl.f.val
  subst eav ekv
  obtain ⟨W1, hW1⟩ : ∃ W1, (w.alloc (.cells #[.int .i64 d.k, .string d.n, .string d.x, .slice a1 b1 c1, .slice a2 k.len c2] 25)).alloc (.cells #[.int .i64 0] 3) = W1 := ⟨_, rfl⟩
  have hb : Below w.heap.size w W1 := by rw [← hW1]; exact ((Below.refl _ w).alloc (Nat.le_refl _) _).alloc (by simp) _
  have hz : W1.heap.size = w.heap.size + 2 := by rw [← hW1]; simp
  have hc : W1.cell? ⟨w.heap.size + 1, 0, none⟩ = some (.int .i64 (0 : Nat)) ∧ W1.frozen? ⟨w.heap.size + 1, 0, none⟩ = false := by
    have h := World.cell?_alloc_new (w.alloc (.cells #[.int .i64 d.k, .string d.n, .string d.x, .slice a1 b1 c1, .slice a2 k.len c2] 25)) #[.int .i64 0] 3 0
    have h2 := World.alloc_heap_new (w.alloc (.cells #[.int .i64 d.k, .string d.n, .string d.x, .slice a1 b1 c1, .slice a2 k.len c2] 25)) (.cells #[.int .i64 0] 3)
    rw [hW1, World.size_alloc] at h h2
    exact ⟨h, by simp [World.frozen?, h2]⟩
  have hx : ∀ i v, (#[.int .i64 d.k, .string d.n, .string d.x, .slice a1 b1 c1, .slice a2 k.len c2] : Array Value)[i]? = some v → W1.cell? ⟨w.heap.size, i, none⟩ = some v := fun i v h => by
    rw [← hW1, World.cell?_alloc_lt _ _ _ (by simp)]; exact (World.cell?_alloc_new w _ _ i).trans h
  have x0 := hx 0 _ rfl
  have x1 := hx 1 _ rfl
  have x2 := hx 2 _ rfl
  have x3 := hx 3 _ rfl
  have x4 := hx 4 _ rfl
  have HL := Fact.mk (hl.below (hb.mono hn))
  have HB := Fact.mk hb
  have HW := Fact.mk hW1
  clear hx hl hb hW1 x0 x1 x2 x3 x4
  go_enter Try.func24, Try.ntmps24
  go_wp2_with fail
  rw [HW.out]
  refine (smallA_any k d _ _ 0 0 n (w.heap.size + 1) W1 HL.out (by omega) (by omega) (by omega) (by omega) hc.1 hc.2).mono ?_
  rintro e w2 (⟨rfl, hk2⟩ | ⟨rfl, hk2, _, _, hft⟩)
  · have HK := Fact.mk (HB.out.trans ((hk2.below (by omega)).mono (by omega)))
    clear hk2
    go_wp2_with fail
    go_ret
    exact .inl ⟨rfl, HK.out⟩
  · have HK := Fact.mk (HB.out.trans ((hk2.below (by omega)).mono (by omega)))
    clear hk2
    go_wp2_with fail
    go_ret
    exact .inr ⟨rfl, HK.out, hft⟩
end Go.Proofs.Ytkojhgagkoeeiaa
