/- SerialJoins, walked: put together again nothing turns. -/
import Derived.Test.YtibagbnnplpfgaaDoorSm
import Derived.Test.YtibagbnnplpfgaaDoorRefS
import Derived.Test.YtibagbnnplpfgaaDoorJnAll
set_option linter.unusedVariables false
set_option linter.unusedSimpArgs false
namespace Go.Proofs.YtibagbnnplpfgaaDoor
open Go.Deep (BT)
open Go.RowKit M

theorem ci_self' (a : Int) : ci a a = 0 := by unfold ci; rw [if_neg (by omega), if_neg (by omega)]
theorem cl_self' : ∀ l, cl l l = 0
  | [] => rfl
  | a :: l => by show orI (ci a.toNat a.toNat) (cl l l) = 0; rw [ci_self', cl_self' l]; rfl
theorem ca_self' : ∀ l, ca l l = 0
  | [] => rfl
  | p :: l => by
    have h1 : cp p p = 0 := by unfold cp cs; rw [cl_self', cl_self']; rfl
    show orI (cp p p) (ca l l) = 0; rw [h1, ca_self' l]; rfl
theorem cn_self' (d : Nd) : cn d d = 0 := by
  unfold cn cs
  rw [ci_self', cl_self', cl_self', ca_self']
  rfl
theorem cF_self' : ∀ f : M.F, cF f f = 0
  | .nil => rfl
  | .node _ _ d k r => by
    show orI (cn d d) (orI (cF k k) (cF r r)) = 0
    rw [cn_self', cF_self' k, cF_self' r]; rfl
theorem cT_self' (d : Nd) (k : M.F) : cT d k d k = 0 := by
  unfold cT; rw [cn_self', cF_self']; rfl
/-- what Join makes of a tree is one that is not too much -/
theorem join_l {P : Prop} {w W : World} {K : Int} {N X : ByteArray} {A : List (ByteArray × ByteArray)} {k : M.F} {va ka : Value} {T : ByteArray} {jl : Nat} (hjl : (joinF k).len = jl) (ha : TrT w K N X A k va ka T) (h : Below w.heap.size w W ∧ P) :
    Calls Tryd.prog 16 #[.agg #[.int .i64 K, .string N, .string X, va, ka]] W fun e w' => ∃ y1 y2 y3 z1 z3, e = .returned (.agg #[.int .i64 K, .string N, .string X, .slice y1 y2 y3, .slice z1 jl z3]) ∧ Below W.heap.size W w' ∧ ∃ T', TrT w' K N X A (joinF k) (.slice y1 y2 y3) (.slice z1 jl z3) T' := by
  have hok := joinF_ok ha.ok.2.1
  refine (join_any K N X A k va ka w.heap.size W (ha.lies.below h.1) h.1.size ⟨ha.ok.1, ha.ok.2.1⟩ ha.size).mono ?_
  rintro e w' ⟨av', kv', rfl, hb, hA, hF⟩
  obtain ⟨y1, y2, y3, rfl⟩ := hA.val
  obtain ⟨z1, z3, rfl⟩ := hF.val
  rw [hjl] at hF ⊢
  have h3 := ha.size
  have h4 := depth_size (joinF k)
  exact ⟨y1, y2, y3, z1, z3, rfl, hb, ⟨(srcB ⟨K, N, X, A⟩ (joinF k)).toArray⟩, ⟨⟨hA.inn.mono (fun b hb => hb.2), hF.inn.mono (fun b hb => hb.2)⟩, by omega, by omega, ⟨ha.ok.1, hok.1, trivial⟩, rfl, ha.met.below (h.1.trans (hb.mono h.1.size))⟩⟩

theorem solo_keep {w W w' : World} {xs : Array Value} (hb : Below W.heap.size W w') (h : Below w.heap.size w W ∧ w.heap.size + 1 ≤ W.heap.size ∧ (∀ i, W.cell? ⟨w.heap.size, i, none⟩ = xs[i]?)) :
    Below w.heap.size w w' ∧ w.heap.size + 1 ≤ w'.heap.size ∧ (∀ i, w'.cell? ⟨w.heap.size, i, none⟩ = xs[i]?) := by
  obtain ⟨h1, h2, h4⟩ := h
  have hs := hb.size
  exact ⟨h1.trans (hb.mono (by omega)), by omega, fun i => (hb.cell (p := ⟨w.heap.size, i, none⟩) (by show w.heap.size < _; omega)).trans (h4 i)⟩
theorem solo_start (w : World) (xs : Array Value) (t : TypeId) : Below w.heap.size w (w.alloc (.cells xs t)) ∧ w.heap.size + 1 ≤ (w.alloc (.cells xs t)).heap.size ∧ (∀ i, (w.alloc (.cells xs t)).cell? ⟨w.heap.size, i, none⟩ = xs[i]?) :=
  ⟨(Below.refl _ w).alloc (Nat.le_refl _) _, by simp, fun i => World.cell?_alloc_at _ _ _ _ rfl⟩
theorem rsz_l {P : Prop} {w W : World} {K : Int} {N X : ByteArray} {A : List (ByteArray × ByteArray)} {k : M.F} {va ka : Value} (r : Nat) (hr : Fact (k.size + 1 = r)) (hl : Lies w.heap.size w ⟨K, N, X, A⟩ k va ka) (hs : k.size ≤ 1000000) (h : Below w.heap.size w W ∧ P) :
    Calls Tryd.prog 18 #[.agg #[.int .i64 K, .string N, .string X, va, ka]] W fun e w' => e = .returned (.int .i64 r) ∧ Below W.heap.size W w' := by
  rw [← hr.out]; exact rsize_any k ⟨K, N, X, A⟩ va ka w.heap.size W (hl.below h.1) h.1.size hs

set_option maxRecDepth 20000 in
set_option maxHeartbeats 8000000 in
theorem joins_walk (d1 : Nd) (k1 : M.F) (va1 ka1 : Value) (w : World) (h1 : Lies w.heap.size w d1 k1 va1 ka1) (hm : Met w) :
    Calls Tryd.prog 4 #[nodeV d1 va1 ka1] w fun e w' => e = .returned (.bool true) ∧ Below w.heap.size w w' := by
  obtain ⟨p1, p2, p3, e1⟩ := h1.a.val
  obtain ⟨q1, q2, e4⟩ := h1.f.val
  subst e1 e4
  obtain ⟨l1, hl1⟩ : ∃ l1, k1.len = l1 := ⟨_, rfl⟩
  rw [hl1] at h1 ⊢
  have HL1 := Fact.mk hl1
  clear hl1
  obtain ⟨K1, N1, X1, A1⟩ := d1
  have H1 := Fact.mk h1
  have HM := Fact.mk hm
  clear h1 hm
  obtain ⟨W0, hW0⟩ : ∃ W0, w.alloc (.cells #[.int .i64 K1, .string N1, .string X1, .slice p1 p2 p3, .slice q1 l1 q2] 25) = W0 := ⟨_, rfl⟩
  have hb0 : Below w.heap.size w W0 := by rw [← hW0]; exact (Below.refl _ w).alloc (Nat.le_refl _) _
  have hs0 : w.heap.size < W0.heap.size := by rw [← hW0]; simp
  have hx0 : ∀ i u, (#[.int .i64 K1, .string N1, .string X1, .slice p1 p2 p3, .slice q1 l1 q2] : Array Value)[i]? = some u → W0.cell? ⟨w.heap.size, i, none⟩ = some u := fun i u h => by
    rw [← hW0]; exact (World.cell?_alloc_new w _ _ i).trans h
  have HX : Fact (∀ w', Below W0.heap.size W0 w' → ∀ i u, (#[.int .i64 K1, .string N1, .string X1, .slice p1 p2 p3, .slice q1 l1 q2] : Array Value)[i]? = some u → w'.cell? ⟨w.heap.size, i, none⟩ = some u) := ⟨fun w' h i u hu => (h.cell (p := ⟨w.heap.size, i, none⟩) hs0).trans (hx0 i u hu)⟩
  have HB0 := Fact.mk (And.intro hb0 hs0)
  have HW0 := Fact.mk hW0
  have x0 := hx0 0 _ rfl
  have x1 := hx0 1 _ rfl
  have x2 := hx0 2 _ rfl
  have x3 := hx0 3 _ rfl
  have x4 := hx0 4 _ rfl
  clear hb0 hs0 hx0 hW0
  go_enter Tryd.func4, Tryd.ntmps4
  go_wp2_with fail
  rw [HW0.out]
  go_wp2_with fail
  refine (SmallA_any ⟨K1, N1, X1, A1⟩ k1 _ _ w.heap.size W0 (H1.out.below HB0.out.1) HB0.out.1.size).mono ?_
  rintro e w1 (⟨rfl, hb1⟩ | ⟨rfl, hb1, f1⟩)
  · go_wp2_with (go_at_call 10; refine (awake_l HM.out ⟨HB0.out.1.trans (hb1.mono HB0.out.1.size), trivial⟩).mono ?_; rintro e w9 ⟨rfl, hb9⟩)
    go_ret
    exact ⟨rfl, HB0.out.1.trans ((hb1.mono HB0.out.1.size).trans (hb9.mono (Nat.le_trans HB0.out.1.size hb1.size)))⟩
  obtain ⟨T1, ht1⟩ := TrT.mk' (W := w) H1.out f1.out HM.out
  have HT1 := Fact.mk ht1
  have HB1 := Fact.mk hb1
  have h01 : Below w.heap.size w w1 ∧ True := ⟨HB0.out.1.trans (hb1.mono HB0.out.1.size), trivial⟩
  have H01 := Fact.mk h01
  have y0 := HX.out w1 hb1 0 _ rfl
  have y1 := HX.out w1 hb1 1 _ rfl
  have y2 := HX.out w1 hb1 2 _ rfl
  have y3 := HX.out w1 hb1 3 _ rfl
  have y4 := HX.out w1 hb1 4 _ rfl
  clear ht1 hb1 h01 x0 x1 x2 x3 x4
  obtain ⟨sz, hsz⟩ : ∃ sz, k1.size + 1 = sz := ⟨_, rfl⟩
  have hs4 : sz ≤ 400 := by have := f1.out.size; omega
  have hk6 : k1.size ≤ 1000000 := by omega
  have HSZ := Fact.mk hsz
  obtain ⟨jl, hjl⟩ : ∃ jl, (joinF k1).len = jl := ⟨_, rfl⟩
  have HJL := Fact.mk hjl
  have HJ2 : Fact ((joinF (joinF k1)).len = jl) := ⟨by rw [joinF_idem]; exact hjl⟩
  have HCT : Fact (decide (cT ⟨K1, N1, X1, A1⟩ (joinF (joinF k1)) ⟨K1, N1, X1, A1⟩ (joinF k1) = 0) = true) := ⟨decide_eq_true (by rw [joinF_idem]; exact cT_self' _ _)⟩
  clear hsz hjl f1
  by_cases h40 : sz ≤ 40
  · have sI : ¬ (40 : Int) < sz := by omega
    have sB : decide ((40 : Int) < sz) = false := decide_eq_false sI
    go_wp2_with (first
      | (go_at_call 18; with_reducible refine (rsz_l sz HSZ H1.out hk6 H01.out).mono ?_; rintro e w2 ⟨rfl, hb2⟩; have h02 : Below w.heap.size w w2 ∧ True := ⟨H01.out.1.trans (hb2.mono H01.out.1.size), trivial⟩; have z0 := HX.out w2 (HB1.out.trans (hb2.mono HB1.out.size)) 0 _ rfl; have z1 := HX.out w2 (HB1.out.trans (hb2.mono HB1.out.size)) 1 _ rfl; have z2 := HX.out w2 (HB1.out.trans (hb2.mono HB1.out.size)) 2 _ rfl; have z3 := HX.out w2 (HB1.out.trans (hb2.mono HB1.out.size)) 3 _ rfl; have z4 := HX.out w2 (HB1.out.trans (hb2.mono HB1.out.size)) 4 _ rfl; clear hb2 y0 y1 y2 y3 y4)
      | (go_at_call 11; with_reducible refine (copy_l HL1.out HT1.out h02).mono ?_; rintro e w3 ⟨a1, a2, a3, b1, b3, rfl, hb3, ht3, _, _⟩; have HT3 := Fact.mk ht3; have h33 : Below w3.heap.size w3 w3 ∧ True := ⟨Below.refl _ _, trivial⟩; have h03 : Below w.heap.size w w3 := h02.1.trans (hb3.mono h02.1.size); clear ht3 hb3 z0 z1 z2 z3 z4)
      | (go_at_call 16; with_reducible refine (join_l HJL.out HT3.out h33).mono ?_; rintro e w4 ⟨c1, c2, c3, d1, d3, rfl, hb4, T4, ht4⟩; have HT4 := Fact.mk ht4; have h04 : Below w.heap.size w w4 := h03.trans (hb4.mono h03.size); clear ht4 hb4))
    have hS0 := solo_keep (Below.refl _ _).drew (solo_start w4 #[.int .i64 K1, .string N1, .string X1, .slice c1 c2 c3, .slice d1 jl d3] 25)
    go_region_held3 (fun w' => Below w4.heap.size w4 w' ∧ w4.heap.size + 1 ≤ w'.heap.size ∧ (∀ i, w'.cell? ⟨w4.heap.size, i, none⟩ = (#[.int .i64 K1, .string N1, .string X1, .slice c1 c2 c3, .slice d1 jl d3] : Array Value)[i]?))
      (first | with_reducible exact hS0 | with_reducible assumption)
      (first
        | (go_at_call 11; with_reducible refine (copy_l HJL.out HT4.out hS0).mono ?_; rintro e w5 ⟨f1, f2, f3, g1, g3, rfl, hb5, ht5, _, _⟩; have HT5 := Fact.mk ht5; have hB5 : Below w5.heap.size w5 w5 ∧ True := ⟨Below.refl _ _, trivial⟩; have hS5 := solo_keep hb5 hS0; clear hb5 ht5)
        | (go_at_call 16; with_reducible refine (join_l HJ2.out HT5.out hB5).mono ?_; rintro e w6 ⟨h1, h2, h3, m1, m3, rfl, hb6, T6, ht6⟩; have HT6 := Fact.mk ht6; have hB6 : Below w6.heap.size w6 w6 ∧ True := ⟨Below.refl _ _, trivial⟩; have hS6 := solo_keep hb6 hS5; have HL6 := Fact.mk ((HT4.out.lies.below hS6.1).here hS6.1.size); clear hb6 ht6)
        | (go_at_call 15; with_reducible refine (rsame_l true HCT HT6.out.lies HL6.out hB6).mono ?_; rintro e w7 ⟨rfl, hb7⟩; have hS7 := solo_keep hb7 hS6; clear hb7)
        | (go_at_call 10; with_reducible refine (awake_l HT4.out.met hS7).mono ?_; rintro e w8 ⟨rfl, hb8⟩; have hS8 := solo_keep hb8 hS7; clear hb8))
    go_wp2_with fail
    go_ret
    exact ⟨rfl, h04.trans (hS8.1.mono h04.size)⟩
  · have sI : (40 : Int) < sz := by omega
    have sB : decide ((40 : Int) < sz) = true := decide_eq_true sI
    go_wp2_with (first
      | (go_at_call 18; with_reducible refine (rsz_l sz HSZ H1.out hk6 H01.out).mono ?_; rintro e w2 ⟨rfl, hb2⟩; have h02 : Below w.heap.size w w2 ∧ True := ⟨H01.out.1.trans (hb2.mono H01.out.1.size), trivial⟩; clear hb2 y0 y1 y2 y3 y4)
      | (go_at_call 10; refine (awake_l HM.out h02).mono ?_; rintro e w9 ⟨rfl, hb9⟩))
    go_ret
    exact ⟨rfl, h02.1.trans (hb9.mono h02.1.size)⟩
end Go.Proofs.YtibagbnnplpfgaaDoor
