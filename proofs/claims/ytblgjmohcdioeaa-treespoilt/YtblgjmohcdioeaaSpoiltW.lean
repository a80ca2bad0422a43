/- TreeSpoilt, walked: one thing that is wrong makes a tree none. -/
import Derived.Test.YtblgjmohcdioeaaSpoil
import Derived.Test.YtblgjmohcdioeaaGrowS
import Derived.BigQuiet
import Derived.Deep.QuietTactic
set_option linter.unusedVariables false
namespace Go.Proofs.Ytblgjmohcdioeaa
open Go.Deep (BT)
open Go.RowKit M

theorem set1_other (w : World) (g o : Nat) (v : Value) : ∀ b, b ≠ g → (w.setCell ⟨g, o, none⟩ v).heap[b]? = w.heap[b]? := fun b hb => Below.heap_setCell _ _ _ _ hb
/-- the five cells from o on, turned -/
abbrev set5 (w : World) (g o : Nat) (v0 v1 v2 v3 v4 : Value) : World := ((((w.setCell ⟨g, o, none⟩ v0).setCell ⟨g, o + 1, none⟩ v1).setCell ⟨g, o + 2, none⟩ v2).setCell ⟨g, o + 3, none⟩ v3).setCell ⟨g, o + 4, none⟩ v4
theorem set5_block (w : World) (g o : Nat) (v0 v1 v2 v3 v4 : Value) (b : Nat) (hb : b ≠ g) : (set5 w g o v0 v1 v2 v3 v4).heap[b]? = w.heap[b]? := by
  rw [set1_other _ _ _ _ b hb, set1_other _ _ _ _ b hb, set1_other _ _ _ _ b hb, set1_other _ _ _ _ b hb, set1_other _ _ _ _ b hb]
theorem set5_size (w : World) (g o : Nat) (v0 v1 v2 v3 v4 : Value) : (set5 w g o v0 v1 v2 v3 v4).heap.size = w.heap.size := by simp [World.setCell]
theorem set5_far (w : World) (g o : Nat) (v0 v1 v2 v3 v4 : Value) (p : Nat) (hp : p < o ∨ o + 5 ≤ p) : (set5 w g o v0 v1 v2 v3 v4).cell? ⟨g, p, none⟩ = w.cell? ⟨g, p, none⟩ := by
  have g1 : ∀ (W : World) (q : Nat) (v : Value), p ≠ q → (W.setCell ⟨g, q, none⟩ v).cell? ⟨g, p, none⟩ = W.cell? ⟨g, p, none⟩ := fun W q v h => World.cell?_setCell_other _ _ _ _ (by simp <;> omega)
  rw [g1 _ _ _ (by omega), g1 _ _ _ (by omega), g1 _ _ _ (by omega), g1 _ _ _ (by omega), g1 _ _ _ (by omega)]
theorem set5_near (w : World) (g o : Nat) (v0 v1 v2 v3 v4 : Value) (h : ∀ j, j < 5 → (w.cell? ⟨g, o + j, none⟩).isSome = true) : ∀ (j : Nat) (v : Value), [v0, v1, v2, v3, v4][j]? = some v → (set5 w g o v0 v1 v2 v3 v4).cell? ⟨g, o + j, none⟩ = some v := by
  have g1 : ∀ (W : World) (p q : Nat) (v : Value), p ≠ q → (W.setCell ⟨g, q, none⟩ v).cell? ⟨g, p, none⟩ = W.cell? ⟨g, p, none⟩ := fun W p q v h => World.cell?_setCell_other _ _ _ _ (by simp <;> omega)
  have g2 : ∀ (W : World) (p : Nat) (v : Value), (W.cell? ⟨g, p, none⟩).isSome = true → (W.setCell ⟨g, p, none⟩ v).cell? ⟨g, p, none⟩ = some v := fun W p v hs => World.cell?_setCell_same' _ _ _ hs
  have h0 := h 0 (by omega)
  rw [Nat.add_zero] at h0
  intro j v hv
  match j, hv with
  | 0, hv =>
    cases hv
    rw [Nat.add_zero, g1 _ _ _ _ (by omega), g1 _ _ _ _ (by omega), g1 _ _ _ _ (by omega), g1 _ _ _ _ (by omega)]
    exact g2 _ _ _ h0
  | 1, hv =>
    cases hv
    rw [g1 _ _ _ _ (by omega), g1 _ _ _ _ (by omega), g1 _ _ _ _ (by omega)]
    exact g2 _ _ _ (by rw [g1 _ _ _ _ (by omega)]; exact h 1 (by omega))
  | 2, hv =>
    cases hv
    rw [g1 _ _ _ _ (by omega), g1 _ _ _ _ (by omega)]
    exact g2 _ _ _ (by rw [g1 _ _ _ _ (by omega), g1 _ _ _ _ (by omega)]; exact h 2 (by omega))
  | 3, hv =>
    cases hv
    rw [g1 _ _ _ _ (by omega)]
    exact g2 _ _ _ (by rw [g1 _ _ _ _ (by omega), g1 _ _ _ _ (by omega), g1 _ _ _ _ (by omega)]; exact h 3 (by omega))
  | 4, hv =>
    cases hv
    exact g2 _ _ _ (by rw [g1 _ _ _ _ (by omega), g1 _ _ _ _ (by omega), g1 _ _ _ _ (by omega), g1 _ _ _ _ (by omega)]; exact h 4 (by omega))
  | j + 5, hv => simp at hv
/-- the Kind alone turned -/
theorem bad_kind {N : Nat} {w : World} {g c : Nat} {rs : List Nw} (h : RowOf N w (.slice (some ⟨g, 0, none⟩) rs.length c) rs) (hd : (forF rs).depth ≤ 6) (hcc : rs.length ≤ c ∧ c ≤ maxLen) (q : Nat) (hq : q < rs.length) (hg : g < w.heap.size) (kk : Int) (hk : kk = 0 ∨ kk = 1) :
    ∃ f, Bad (w.setCell ⟨g, q * 5, none⟩ (.int .i64 kk)) (.slice (some ⟨g, 0, none⟩) rs.length c) f ∧ f.len = rs.length := by
  obtain ⟨r, hr⟩ : ∃ r, rs[q]? = some r := ⟨_, List.getElem?_eq_getElem hq⟩
  have hm : r ∈ rs := List.mem_iff_getElem?.2 ⟨q, hr⟩
  have hcell := fun j hj v hv => h.cell q j hj r hr v hv
  have hl : Like (fun b => N ≤ b ∧ b < w.heap.size ∧ some b ≠ (Value.slice (some ⟨g, 0, none⟩) rs.length c).ownBlock) w (w.setCell ⟨g, q * 5, none⟩ (.int .i64 kk)) := fun b hb' hz => set1_other _ _ _ _ b (fun e => hb'.2.2 (by rw [e]; rfl))
  have hsz : (w.setCell ⟨g, q * 5, none⟩ (.int .i64 kk)).heap.size = w.heap.size := by simp [World.setCell]
  refine ⟨_, Bad.mk' h hd hcc q hq ⟨⟨kk, r.d.n, r.d.x, r.d.ats⟩, r.k, r.av, r.kv⟩ hg ?_ ?_ (fun b hb _ => set1_other _ _ _ _ b hb) (by omega) ?_ ?_ ?_, by rw [forF_len, List.length_set]⟩
  · intro j v hv
    match j, hv with
    | 0, hv => cases hv; exact World.cell?_setCell_same' _ _ _ (by rw [show q * 5 = q * 5 + 0 by omega, hcell 0 (by omega) _ rfl]; rfl)
    | 1, hv => exact (World.cell?_setCell_other _ _ _ _ (by simp)).trans (hcell 1 (by omega) v hv)
    | 2, hv => exact (World.cell?_setCell_other _ _ _ _ (by simp)).trans (hcell 2 (by omega) v hv)
    | 3, hv => exact (World.cell?_setCell_other _ _ _ _ (by simp)).trans (hcell 3 (by omega) v hv)
    | 4, hv => exact (World.cell?_setCell_other _ _ _ _ (by simp)).trans (hcell 4 (by omega) v hv)
    | j + 5, hv => simp [cells5] at hv
  · intro o ho
    exact World.cell?_setCell_other _ _ _ _ (by simp <;> omega)
  · rw [hsz]
    exact ⟨((h.all r hm).1.like hl).mono (fun b hb' => hb'.2.1), ((h.all r hm).2.like hl).mono (fun b hb' => hb'.2.1)⟩
  · rcases hk with rfl | rfl
    · show mayOK ⟨0, r.d.n, r.d.x, r.d.ats⟩ r.k.len 2 = false
      unfold mayOK; rfl
    · show mayOK ⟨1, r.d.n, r.d.x, r.d.ats⟩ r.k.len 2 = false
      unfold mayOK; rfl
  · have := depth_of rs r hm; show r.k.depth ≤ 6; omega
/-- all of it turned -/
theorem bad_all {N : Nat} {w w0 : World} {g c : Nat} {rs : List Nw} (h0 : RowOf N w0 (.slice (some ⟨g, 0, none⟩) rs.length c) rs) (hb0 : Below w0.heap.size w0 w) (hd : (forF rs).depth ≤ 6) (hcc : rs.length ≤ c ∧ c ≤ maxLen) (q : Nat) (hq : q < rs.length) (hg : g < w0.heap.size) (r' : Nw)
    (hr : AS (fun b => b < w.heap.size ∧ b ≠ g) w r'.av r'.d.ats ∧ FL (fun b => b < w.heap.size ∧ b ≠ g) w r'.kv r'.k) (hno : mayOK r'.d r'.k.len 2 = false) (hr6 : r'.k.depth ≤ 6) :
    ∃ f, Bad (set5 w g (q * 5) (.int .i64 r'.d.k) (.string r'.d.n) (.string r'.d.x) r'.av r'.kv) (.slice (some ⟨g, 0, none⟩) rs.length c) f ∧ f.len = rs.length := by
  have h := h0.below hb0
  obtain ⟨r, hr'⟩ : ∃ r, rs[q]? = some r := ⟨_, List.getElem?_eq_getElem hq⟩
  have hsz := set5_size w g (q * 5) (.int .i64 r'.d.k) (.string r'.d.n) (.string r'.d.x) r'.av r'.kv
  have hsome : ∀ j, j < 5 → (w.cell? ⟨g, q * 5 + j, none⟩).isSome = true := fun j hj => by
    obtain ⟨v, hv⟩ : ∃ v, (cells5 r)[j]? = some v := ⟨_, List.getElem?_eq_getElem (by rw [cells5_len]; exact hj)⟩
    rw [h.cell q j hj r hr' v hv]; rfl
  have hl : Like (fun b => b < w.heap.size ∧ b ≠ g) w (set5 w g (q * 5) (.int .i64 r'.d.k) (.string r'.d.n) (.string r'.d.x) r'.av r'.kv) := fun b hb' hz => set5_block _ _ _ _ _ _ _ _ b hb'.2
  refine ⟨_, Bad.mk' h hd hcc q hq r' (Nat.lt_of_lt_of_le hg hb0.size) (fun j v hv => set5_near _ _ _ _ _ _ _ _ hsome j v hv) (fun o ho => set5_far _ _ _ _ _ _ _ _ o ho) (fun b hb _ => set5_block _ _ _ _ _ _ _ _ b hb) (by rw [hsz]; exact Nat.le_refl _) ?_ hno hr6, by rw [forF_len, List.length_set]⟩
  rw [hsz]
  exact ⟨(hr.1.like hl).mono (fun b hb' => hb'.1), (hr.2.like hl).mono (fun b hb' => hb'.1)⟩

theorem two_AS (w : World) (a b c d : ByteArray) {n : Nat} (hn : w.heap.size = n) : AS (Old (w.alloc (.cells #[.string a, .string b, .string c, .string d] 43)).heap.size) (w.alloc (.cells #[.string a, .string b, .string c, .string d] 43)) (.slice (some ⟨n, 0, none⟩) 2 2) [(a, b), (c, d)] := by
  subst hn
  refine ⟨some ⟨w.heap.size, 0, none⟩, 2, rfl, Nat.le_refl _, by unfold maxLen; omega, .inr ⟨w.heap.size, 0, rfl, by show w.heap.size < _; simp, fun i hi => ?_⟩⟩
  have hc := fun j => World.cell?_alloc_new w #[.string a, .string b, .string c, .string d] 43 j
  match i, hi with
  | 0, _ => exact ⟨hc 0, hc 1⟩
  | 1, _ => exact ⟨hc 2, hc 3⟩
theorem one_kid (w : World) (x : ByteArray) {n : Nat} (hn : w.heap.size = n) : FL (Old (w.alloc (.cells #[.int .i64 3, .string ⟨#[]⟩, .string x, .slice none 0 0, .slice none 0 0] 25)).heap.size) (w.alloc (.cells #[.int .i64 3, .string ⟨#[]⟩, .string x, .slice none 0 0, .slice none 0 0] 25)) (.slice (some ⟨n, 0, none⟩) 1 1) (.cons ⟨3, ⟨#[]⟩, x, []⟩ .nil .nil) := by
  subst hn
  exact one_FL (d := ⟨3, ⟨#[]⟩, x, []⟩) (Five.new w _ _ _ _ _ _) (by show w.heap.size < _; simp) AS.nothing FL.nothing
/-- all of it turned, and something made beside it -/
theorem bad_new {N : Nat} {w : World} {g c : Nat} {rs : List Nw} (h : RowOf N w (.slice (some ⟨g, 0, none⟩) rs.length c) rs) (hd : (forF rs).depth ≤ 6) (hcc : rs.length ≤ c ∧ c ≤ maxLen) (q : Nat) (hq : q < rs.length) (hg : g < w.heap.size) (kk : Int) (nn xx : ByteArray) (av kv : Value) (ats : List (ByteArray × ByteArray)) (k : M.F) (o : Obj)
    (hr : AS (Old ((set5 w g (q * 5) (.int .i64 kk) (.string nn) (.string xx) av kv).alloc o).heap.size) ((set5 w g (q * 5) (.int .i64 kk) (.string nn) (.string xx) av kv).alloc o) av ats ∧ FL (Old ((set5 w g (q * 5) (.int .i64 kk) (.string nn) (.string xx) av kv).alloc o).heap.size) ((set5 w g (q * 5) (.int .i64 kk) (.string nn) (.string xx) av kv).alloc o) kv k) (hno : mayOK ⟨kk, nn, xx, ats⟩ k.len 2 = false) (hr6 : k.depth ≤ 6) :
    ∃ f, Bad ((set5 w g (q * 5) (.int .i64 kk) (.string nn) (.string xx) av kv).alloc o) (.slice (some ⟨g, 0, none⟩) rs.length c) f ∧ f.len = rs.length := by
  obtain ⟨r, hr'⟩ : ∃ r, rs[q]? = some r := ⟨_, List.getElem?_eq_getElem hq⟩
  have hsz := set5_size w g (q * 5) (.int .i64 kk) (.string nn) (.string xx) av kv
  have hsome : ∀ j, j < 5 → (w.cell? ⟨g, q * 5 + j, none⟩).isSome = true := fun j hj => by
    obtain ⟨v, hv⟩ : ∃ v, (cells5 r)[j]? = some v := ⟨_, List.getElem?_eq_getElem (by rw [cells5_len]; exact hj)⟩
    rw [h.cell q j hj r hr' v hv]; rfl
  have hlt : g < (set5 w g (q * 5) (.int .i64 kk) (.string nn) (.string xx) av kv).heap.size := by rw [hsz]; exact hg
  refine ⟨_, Bad.mk' h hd hcc q hq ⟨⟨kk, nn, xx, ats⟩, k, av, kv⟩ hg (fun j v hv => (World.cell?_alloc_lt _ _ _ hlt).trans (set5_near _ _ _ _ _ _ _ _ hsome j v hv)) (fun p hp => (World.cell?_alloc_lt _ _ _ hlt).trans (set5_far _ _ _ _ _ _ _ _ p hp)) (fun b hb hz => (Below.heap_alloc _ _ _ (by rw [hsz]; exact hz)).trans (set5_block _ _ _ _ _ _ _ _ b hb)) (by rw [World.size_alloc, hsz]; omega) hr hno hr6, by rw [forF_len, List.length_set]⟩
theorem may2 : mayOK ⟨3, ⟨#[]⟩, ⟨#[]⟩, []⟩ 0 2 = false := by kernel_rfl
theorem may3 : mayOK ⟨2, ⟨#[65]⟩, ⟨#[]⟩, []⟩ 0 2 = false := by kernel_rfl
theorem may4 : mayOK ⟨2, ⟨#[97]⟩, ⟨#[]⟩, [(⟨#[121]⟩, ⟨#[]⟩), (⟨#[120]⟩, ⟨#[]⟩)]⟩ 0 2 = false := by kernel_rfl
theorem may5 : mayOK ⟨4, ⟨#[]⟩, ⟨#[]⟩, []⟩ 1 2 = false := by kernel_rfl

set_option maxRecDepth 20000 in
set_option maxHeartbeats 4000000 in
theorem spoilt_walk (v : Value) (ln : Nat) (z1 z2 : Int) (w : World) (hl : IsL w.heap.size w v ln) :
    Calls Try.prog 6 #[v, .int .i64 z1, .int .i64 z2] w fun e w' => e = .returned (.bool true) ∧ Below w.heap.size w w' := by
  obtain ⟨va, vc, ev, _⟩ := hl.h
  subst ev
  have HL := Fact.mk hl
  clear hl
  go_enter Try.func6, Try.ntmps6
  go_wp2_with fail
  refine (Grown_row _ ln w.heap.size w HL.out (Nat.le_refl _)).mono ?_
  rintro e w1 ⟨rs, a, c, rfl, hgt, hb1, hrow⟩
  have h0 : 0 < rs.length := by have := hgt.out.some_; rw [forF_len] at this; exact this
  obtain ⟨g, rfl, hg, hc1, hc2, hfz⟩ := hrow.at_ h0
  obtain ⟨kl, hkl⟩ : ∃ kl, rs.length = kl := ⟨_, rfl⟩
  obtain ⟨W1, hW1⟩ : ∃ W1, w1.alloc (.cells #[.int .i64 1, .string ⟨#[]⟩, .string ⟨#[]⟩, .slice none 0 0, .slice (some ⟨g, 0, none⟩) kl c] 25) = W1 := ⟨_, rfl⟩
  have hB1 : Below w1.heap.size w1 W1 := by rw [← hW1]; exact (Below.refl _ w1).alloc (Nat.le_refl _) _
  have hz1 : W1.heap.size = w1.heap.size + 1 := by rw [← hW1]; simp
  have hT1 : Five W1 w1.heap.size (.int .i64 1) (.string ⟨#[]⟩) (.string ⟨#[]⟩) (.slice none 0 0) (.slice (some ⟨g, 0, none⟩) kl c) := by rw [← hW1]; exact Five.new w1 _ _ _ _ _ _
  have hrow1 := hrow.below hB1
  have hL1 : Lies W1.heap.size W1 rootD (forF rs) (.slice none 0 0) (.slice (some ⟨g, 0, none⟩) kl c) := ⟨AS.nothing, by have := hrow1.fl; rw [hkl] at this; exact this⟩
  obtain ⟨x0, x1, x2, x3, x4, _⟩ := id hT1
  have HB := Fact.mk hb1
  have HROW := Fact.mk hrow1
  have HT1 := Fact.mk hT1
  have HL1 := Fact.mk hL1
  have HB1 := Fact.mk hB1
  have HW1 := Fact.mk hW1
  have HKL := Fact.mk hkl
  have HFZ := Fact.mk hfz
  have HG := hgt
  rw [hkl] at h0 hc1 ⊢
  clear hb1 hrow hrow1 hT1 hL1 hB1 hW1 hkl hfz HL hgt
  have t1 : True := trivial
  go_wp2_with fail
  rw [HW1.out]
  refine (copy_any (forF rs) rootD _ _ W1.heap.size W1 HL1.out (Nat.le_refl _) (by have h1 := gslots _ HG.out.ok; have h2 := HG.out.most; show 0 + _ ≤ _; omega) (by have := HG.out.most; omega)).mono ?_
  rintro e w2 ⟨av2, kv2, rfl, hb2, ha2, hf2⟩
  obtain ⟨y1, y2, y3, ey⟩ := ha2.val
  obtain ⟨y4, y5, ek⟩ := hf2.val
  subst ey ek
  have HL2 : Fact (Lies w2.heap.size w2 rootD (forF rs) (.slice y1 y2 y3) (.slice y4 (forF rs).len y5)) := ⟨⟨ha2.inn.mono (fun b hb => hb.2), hf2.inn.mono (fun b hb => hb.2)⟩⟩
  have HB2 := Fact.mk hb2
  clear ha2 hf2 hb2 x0 x1 x2 x3 x4
  go_wp2_with fail
  refine (check_at (n := w2.heap.size) (d := rootD) (k := forF rs) true ⟨HG.out.fine⟩ (by have := HG.out.deep; omega) HL2.out (Nat.le_refl _)).mono ?_
  rintro e w3 ⟨rfl, hb3⟩
  have hB3 : Below W1.heap.size W1 w3 := HB2.out.trans (hb3.mono HB2.out.size)
  have HB3 := Fact.mk hB3
  have hT3 := HT1.out.same (hB3.block _ (by omega))
  obtain ⟨x0, x1, x2, x3, x4, _⟩ := id hT3
  obtain ⟨q, hq⟩ : ∃ q, Fact (pl z1 kl = q) := ⟨_, ⟨rfl⟩⟩
  have hql : q < kl := by rw [← hq.out]; exact pl_lt _ _ h0
  obtain ⟨R, hR⟩ : ∃ R, Fact (pl z2 6 = R) := ⟨_, ⟨rfl⟩⟩
  have hRl : R < 6 := by rw [← hR.out]; exact pl_lt _ _ (by omega)
  have j1 : (q : Int) < kl := by omega
  have j2 : (0 : Int) ≤ q := by omega
  have hlm : kl ≤ 9223372036854775807 := by unfold maxLen at hc2; omega
  clear hT3 hB3 hb3 HL2 HB2
  go_wp2_with fail
  go_quiet (first | (go_at_call 29; exact Calls.quiet_of_same (place_at _ _ q hq _ h0 hlm)))
  obtain ⟨w4, hw4⟩ : ∃ w4, w3.drewN nq = w4 := ⟨_, rfl⟩
  rw [hw4]
  have hB4 : Below W1.heap.size W1 w4 := by rw [← hw4]; exact below_drewN HB3.out nq
  clear hw4 x0 x1 x2 x3 x4 HB3
  have HROW3 := Fact.mk (HROW.out.below hB4)
  have hT3 := HT1.out.same (hB4.block _ (by omega))
  have HT3 := Fact.mk hT3
  obtain ⟨x0, x1, x2, x3, x4, _⟩ := id hT3
  have hfz3 : ∀ o, w4.frozen? ⟨g, o, none⟩ = false := fun o => (World.frozen?_of_block (w := W1) (a := ⟨g, o, none⟩) (hB4.block g (by omega))).trans ((World.frozen?_of_block (w := w1) (a := ⟨g, o, none⟩) (HB1.out.block g hg)).trans (HFZ.out o))
  have hz3 : W1.heap.size ≤ w4.heap.size := hB4.size
  obtain ⟨r, hr⟩ : ∃ r, rs[q]? = some r := ⟨_, List.getElem?_eq_getElem (by rw [HKL.out]; exact hql)⟩
  have hcell : ∀ j, j < 5 → ∀ v, (cells5 r)[j]? = some v → w4.cell? ⟨g, q * 5 + j, none⟩ = some v := fun j hj v hv => HROW3.out.cell q j hj r hr v hv
  have g0 := hcell 0 (by omega) _ rfl
  rw [Nat.add_zero] at g0
  have g1 := hcell 1 (by omega) _ rfl
  have g2 := hcell 2 (by omega) _ rfl
  have g3 := hcell 3 (by omega) _ rfl
  have g4 := hcell 4 (by omega) _ rfl
  have hne : ¬ w1.heap.size = g := by omega
  have hne2 : ¬ g = w1.heap.size := by omega
  have hlt4 : w1.heap.size < w4.heap.size := by omega
  have hltg : g < w4.heap.size := by omega
  have HW3 : Fact (Below w.heap.size w w4) := ⟨HB.out.trans ((HB1.out.trans (hB4.mono (by omega))).mono HB.out.size)⟩
  have HCC : Fact (rs.length ≤ c ∧ c ≤ maxLen) := ⟨by rw [HKL.out]; exact hc1, hc2⟩
  have HQ : Fact (q < rs.length) := ⟨by rw [HKL.out]; exact hql⟩
  have HGW : Fact (g < w4.heap.size) := ⟨by omega⟩
  have HGG : Fact (w.heap.size ≤ g) := ⟨by
    rcases HROW3.out.own.2 with ⟨e, _⟩ | ⟨g', _, _, e, hg', _⟩
    · cases e
    · cases e; exact hg'⟩
  clear hT3 hB4 hcell hr
  rcases lt6 hRl with rfl | rfl | rfl | rfl | rfl | rfl
  · obtain ⟨f, hbad, hfl⟩ := bad_kind HROW3.out HG.out.deep HCC.out q HQ.out HGW.out 1 (.inr rfl)
    have hln : rs.length = kl := HKL.out
    rw [hln] at hbad
    have HBAD := Fact.mk hbad
    have HLZ : Fact (Lies (w4.setCell ⟨g, q * 5, none⟩ (.int .i64 1)).heap.size (w4.setCell ⟨g, q * 5, none⟩ (.int .i64 1)) rootD f (.slice none 0 0) (.slice (some ⟨g, 0, none⟩) kl c)) := ⟨⟨AS.nothing, hbad.fl⟩⟩
    have HBW : Fact (Below w.heap.size w (w4.setCell ⟨g, q * 5, none⟩ (.int .i64 1))) := ⟨(HW3.out.setCell (p := ⟨g, q * 5, none⟩) HGG.out _)⟩
    clear hbad hfl hln
    go_wp2_with (first
      | (go_at_call 29; refine (place_at z2 6 0 hR _ (by omega) (by omega)).mono ?_; rintro e w4 ⟨rfl, hw4⟩; have hw5 := hw4.symm; subst hw5; clear hw4)
      | (go_at_call 14; refine (check_at (n := (w4.setCell ⟨g, q * 5, none⟩ (.int .i64 1)).heap.size) (d := rootD) (k := f) false ⟨HBAD.out.no⟩ HBAD.out.deep HLZ.out (Nat.le_refl _)).mono ?_; rintro e w8 ⟨rfl, hb8⟩)
      | (go_at_call 10; refine (awake_true _).mono ?_; rintro e w9 ⟨rfl, hb9⟩))
    go_ret
    exact ⟨rfl, HBW.out.trans ((hb8.mono HBW.out.size).trans (hb9.mono (Nat.le_trans HBW.out.size hb8.size)))⟩
  · obtain ⟨f, hbad, hfl⟩ := bad_kind HROW3.out HG.out.deep HCC.out q HQ.out HGW.out 0 (.inl rfl)
    have hln : rs.length = kl := HKL.out
    rw [hln] at hbad
    have HBAD := Fact.mk hbad
    have HLZ : Fact (Lies (w4.setCell ⟨g, q * 5, none⟩ (.int .i64 0)).heap.size (w4.setCell ⟨g, q * 5, none⟩ (.int .i64 0)) rootD f (.slice none 0 0) (.slice (some ⟨g, 0, none⟩) kl c)) := ⟨⟨AS.nothing, hbad.fl⟩⟩
    have HBW : Fact (Below w.heap.size w (w4.setCell ⟨g, q * 5, none⟩ (.int .i64 0))) := ⟨(HW3.out.setCell (p := ⟨g, q * 5, none⟩) HGG.out _)⟩
    clear hbad hfl hln
    go_wp2_with (first
      | (go_at_call 29; refine (place_at z2 6 1 hR _ (by omega) (by omega)).mono ?_; rintro e w4 ⟨rfl, hw4⟩; have hw5 := hw4.symm; subst hw5; clear hw4)
      | (go_at_call 14; refine (check_at (n := (w4.setCell ⟨g, q * 5, none⟩ (.int .i64 0)).heap.size) (d := rootD) (k := f) false ⟨HBAD.out.no⟩ HBAD.out.deep HLZ.out (Nat.le_refl _)).mono ?_; rintro e w8 ⟨rfl, hb8⟩)
      | (go_at_call 10; refine (awake_true _).mono ?_; rintro e w9 ⟨rfl, hb9⟩))
    go_ret
    exact ⟨rfl, HBW.out.trans ((hb8.mono HBW.out.size).trans (hb9.mono (Nat.le_trans HBW.out.size hb8.size)))⟩
  · obtain ⟨f, hbad, hfl⟩ := bad_all HROW3.out (Below.refl _ _) HG.out.deep HCC.out q HQ.out HGW.out ⟨⟨3, ⟨#[]⟩, ⟨#[]⟩, []⟩, .nil, .slice none 0 0, .slice none 0 0⟩ ⟨AS.nothing, FL.nothing⟩ may2 (Nat.zero_le _)
    have hln : rs.length = kl := HKL.out
    rw [hln] at hbad
    have HBAD := Fact.mk hbad
    have HLZ : Fact (Lies (set5 (w4) g (q * 5) (.int .i64 3) (.string ⟨#[]⟩) (.string ⟨#[]⟩) (.slice none 0 0) (.slice none 0 0)).heap.size (set5 (w4) g (q * 5) (.int .i64 3) (.string ⟨#[]⟩) (.string ⟨#[]⟩) (.slice none 0 0) (.slice none 0 0)) rootD f (.slice none 0 0) (.slice (some ⟨g, 0, none⟩) kl c)) := ⟨⟨AS.nothing, hbad.fl⟩⟩
    have HBW : Fact (Below w.heap.size w (set5 (w4) g (q * 5) (.int .i64 3) (.string ⟨#[]⟩) (.string ⟨#[]⟩) (.slice none 0 0) (.slice none 0 0))) := ⟨((((((HW3.out).setCell (p := ⟨g, q * 5, none⟩) HGG.out _).setCell (p := ⟨g, q * 5 + 1, none⟩) HGG.out _).setCell (p := ⟨g, q * 5 + 2, none⟩) HGG.out _).setCell (p := ⟨g, q * 5 + 3, none⟩) HGG.out _).setCell (p := ⟨g, q * 5 + 4, none⟩) HGG.out _)⟩
    clear hbad hfl hln
    go_wp2_with (first
      | (go_at_call 29; refine (place_at z2 6 2 hR _ (by omega) (by omega)).mono ?_; rintro e w4 ⟨rfl, hw4⟩; have hw5 := hw4.symm; subst hw5; clear hw4)
      | (go_at_call 14; refine (check_at (n := (set5 (w4) g (q * 5) (.int .i64 3) (.string ⟨#[]⟩) (.string ⟨#[]⟩) (.slice none 0 0) (.slice none 0 0)).heap.size) (d := rootD) (k := f) false ⟨HBAD.out.no⟩ HBAD.out.deep HLZ.out (Nat.le_refl _)).mono ?_; rintro e w8 ⟨rfl, hb8⟩)
      | (go_at_call 10; refine (awake_true _).mono ?_; rintro e w9 ⟨rfl, hb9⟩))
    go_ret
    exact ⟨rfl, HBW.out.trans ((hb8.mono HBW.out.size).trans (hb9.mono (Nat.le_trans HBW.out.size hb8.size)))⟩
  · obtain ⟨f, hbad, hfl⟩ := bad_all HROW3.out (Below.refl _ _) HG.out.deep HCC.out q HQ.out HGW.out ⟨⟨2, ⟨#[65]⟩, ⟨#[]⟩, []⟩, .nil, .slice none 0 0, .slice none 0 0⟩ ⟨AS.nothing, FL.nothing⟩ may3 (Nat.zero_le _)
    have hln : rs.length = kl := HKL.out
    rw [hln] at hbad
    have HBAD := Fact.mk hbad
    have HLZ : Fact (Lies (set5 (w4) g (q * 5) (.int .i64 2) (.string ⟨#[65]⟩) (.string ⟨#[]⟩) (.slice none 0 0) (.slice none 0 0)).heap.size (set5 (w4) g (q * 5) (.int .i64 2) (.string ⟨#[65]⟩) (.string ⟨#[]⟩) (.slice none 0 0) (.slice none 0 0)) rootD f (.slice none 0 0) (.slice (some ⟨g, 0, none⟩) kl c)) := ⟨⟨AS.nothing, hbad.fl⟩⟩
    have HBW : Fact (Below w.heap.size w (set5 (w4) g (q * 5) (.int .i64 2) (.string ⟨#[65]⟩) (.string ⟨#[]⟩) (.slice none 0 0) (.slice none 0 0))) := ⟨((((((HW3.out).setCell (p := ⟨g, q * 5, none⟩) HGG.out _).setCell (p := ⟨g, q * 5 + 1, none⟩) HGG.out _).setCell (p := ⟨g, q * 5 + 2, none⟩) HGG.out _).setCell (p := ⟨g, q * 5 + 3, none⟩) HGG.out _).setCell (p := ⟨g, q * 5 + 4, none⟩) HGG.out _)⟩
    clear hbad hfl hln
    go_wp2_with (first
      | (go_at_call 29; refine (place_at z2 6 3 hR _ (by omega) (by omega)).mono ?_; rintro e w4 ⟨rfl, hw4⟩; have hw5 := hw4.symm; subst hw5; clear hw4)
      | (go_at_call 14; refine (check_at (n := (set5 (w4) g (q * 5) (.int .i64 2) (.string ⟨#[65]⟩) (.string ⟨#[]⟩) (.slice none 0 0) (.slice none 0 0)).heap.size) (d := rootD) (k := f) false ⟨HBAD.out.no⟩ HBAD.out.deep HLZ.out (Nat.le_refl _)).mono ?_; rintro e w8 ⟨rfl, hb8⟩)
      | (go_at_call 10; refine (awake_true _).mono ?_; rintro e w9 ⟨rfl, hb9⟩))
    go_ret
    exact ⟨rfl, HBW.out.trans ((hb8.mono HBW.out.size).trans (hb9.mono (Nat.le_trans HBW.out.size hb8.size)))⟩
  · obtain ⟨f, hbad, hfl⟩ := bad_new HROW3.out HG.out.deep HCC.out q HQ.out HGW.out 2 ⟨#[97]⟩ ⟨#[]⟩ (.slice (some ⟨w4.heap.size, 0, none⟩) 2 2) (.slice none 0 0) [(⟨#[121]⟩, ⟨#[]⟩), (⟨#[120]⟩, ⟨#[]⟩)] .nil (.cells #[.string ⟨#[121]⟩, .string ⟨#[]⟩, .string ⟨#[120]⟩, .string ⟨#[]⟩] 43) ⟨two_AS _ _ _ _ _ (set5_size _ _ _ _ _ _ _ _), FL.nothing⟩ may4 (Nat.zero_le _)
    have hln : rs.length = kl := HKL.out
    rw [hln] at hbad
    have HBAD := Fact.mk hbad
    have HLZ : Fact (Lies ((set5 w4 g (q * 5) (.int .i64 2) (.string ⟨#[97]⟩) (.string ⟨#[]⟩) (.slice (some ⟨w4.heap.size, 0, none⟩) 2 2) (.slice none 0 0)).alloc (.cells #[.string ⟨#[121]⟩, .string ⟨#[]⟩, .string ⟨#[120]⟩, .string ⟨#[]⟩] 43)).heap.size ((set5 w4 g (q * 5) (.int .i64 2) (.string ⟨#[97]⟩) (.string ⟨#[]⟩) (.slice (some ⟨w4.heap.size, 0, none⟩) 2 2) (.slice none 0 0)).alloc (.cells #[.string ⟨#[121]⟩, .string ⟨#[]⟩, .string ⟨#[120]⟩, .string ⟨#[]⟩] 43)) rootD f (.slice none 0 0) (.slice (some ⟨g, 0, none⟩) kl c)) := ⟨⟨AS.nothing, hbad.fl⟩⟩
    have HBW : Fact (Below w.heap.size w ((set5 w4 g (q * 5) (.int .i64 2) (.string ⟨#[97]⟩) (.string ⟨#[]⟩) (.slice (some ⟨w4.heap.size, 0, none⟩) 2 2) (.slice none 0 0)).alloc (.cells #[.string ⟨#[121]⟩, .string ⟨#[]⟩, .string ⟨#[120]⟩, .string ⟨#[]⟩] 43))) := ⟨(((((HW3.out.setCell (p := ⟨g, q * 5, none⟩) HGG.out _).setCell (p := ⟨g, q * 5 + 1, none⟩) HGG.out _).setCell (p := ⟨g, q * 5 + 2, none⟩) HGG.out _).setCell (p := ⟨g, q * 5 + 3, none⟩) HGG.out _).setCell (p := ⟨g, q * 5 + 4, none⟩) HGG.out _).alloc (by have := HW3.out.size; rw [set5_size]; exact this) _⟩
    clear hbad hfl hln
    go_wp2_with (first
      | (go_at_call 29; refine (place_at z2 6 4 hR _ (by omega) (by omega)).mono ?_; rintro e w4 ⟨rfl, hw4⟩; have hw5 := hw4.symm; subst hw5; clear hw4)
      | (go_at_call 14; refine (check_at (n := ((set5 w4 g (q * 5) (.int .i64 2) (.string ⟨#[97]⟩) (.string ⟨#[]⟩) (.slice (some ⟨w4.heap.size, 0, none⟩) 2 2) (.slice none 0 0)).alloc (.cells #[.string ⟨#[121]⟩, .string ⟨#[]⟩, .string ⟨#[120]⟩, .string ⟨#[]⟩] 43)).heap.size) (d := rootD) (k := f) false ⟨HBAD.out.no⟩ HBAD.out.deep HLZ.out (Nat.le_refl _)).mono ?_; rintro e w8 ⟨rfl, hb8⟩)
      | (go_at_call 10; refine (awake_true _).mono ?_; rintro e w9 ⟨rfl, hb9⟩))
    go_ret
    exact ⟨rfl, HBW.out.trans ((hb8.mono HBW.out.size).trans (hb9.mono (Nat.le_trans HBW.out.size hb8.size)))⟩
  · obtain ⟨f, hbad, hfl⟩ := bad_new HROW3.out HG.out.deep HCC.out q HQ.out HGW.out 4 ⟨#[]⟩ ⟨#[]⟩ (.slice none 0 0) (.slice (some ⟨w4.heap.size, 0, none⟩) 1 1) [] (.cons ⟨3, ⟨#[]⟩, ⟨#[97]⟩, []⟩ .nil .nil) (.cells #[.int .i64 3, .string ⟨#[]⟩, .string ⟨#[97]⟩, .slice none 0 0, .slice none 0 0] 25) ⟨AS.nothing, one_kid _ _ (set5_size _ _ _ _ _ _ _ _)⟩ may5 (by show max (0 + 1) 0 ≤ 6; omega)
    have hln : rs.length = kl := HKL.out
    rw [hln] at hbad
    have HBAD := Fact.mk hbad
    have HLZ : Fact (Lies ((set5 w4 g (q * 5) (.int .i64 4) (.string ⟨#[]⟩) (.string ⟨#[]⟩) (.slice none 0 0) (.slice (some ⟨w4.heap.size, 0, none⟩) 1 1)).alloc (.cells #[.int .i64 3, .string ⟨#[]⟩, .string ⟨#[97]⟩, .slice none 0 0, .slice none 0 0] 25)).heap.size ((set5 w4 g (q * 5) (.int .i64 4) (.string ⟨#[]⟩) (.string ⟨#[]⟩) (.slice none 0 0) (.slice (some ⟨w4.heap.size, 0, none⟩) 1 1)).alloc (.cells #[.int .i64 3, .string ⟨#[]⟩, .string ⟨#[97]⟩, .slice none 0 0, .slice none 0 0] 25)) rootD f (.slice none 0 0) (.slice (some ⟨g, 0, none⟩) kl c)) := ⟨⟨AS.nothing, hbad.fl⟩⟩
    have HBW : Fact (Below w.heap.size w ((set5 w4 g (q * 5) (.int .i64 4) (.string ⟨#[]⟩) (.string ⟨#[]⟩) (.slice none 0 0) (.slice (some ⟨w4.heap.size, 0, none⟩) 1 1)).alloc (.cells #[.int .i64 3, .string ⟨#[]⟩, .string ⟨#[97]⟩, .slice none 0 0, .slice none 0 0] 25))) := ⟨(((((HW3.out.setCell (p := ⟨g, q * 5, none⟩) HGG.out _).setCell (p := ⟨g, q * 5 + 1, none⟩) HGG.out _).setCell (p := ⟨g, q * 5 + 2, none⟩) HGG.out _).setCell (p := ⟨g, q * 5 + 3, none⟩) HGG.out _).setCell (p := ⟨g, q * 5 + 4, none⟩) HGG.out _).alloc (by have := HW3.out.size; rw [set5_size]; exact this) _⟩
    clear hbad hfl hln
    go_wp2_with (first
      | (go_at_call 29; refine (place_at z2 6 5 hR _ (by omega) (by omega)).mono ?_; rintro e w4 ⟨rfl, hw4⟩; have hw5 := hw4.symm; subst hw5; clear hw4)
      | (go_at_call 14; refine (check_at (n := ((set5 w4 g (q * 5) (.int .i64 4) (.string ⟨#[]⟩) (.string ⟨#[]⟩) (.slice none 0 0) (.slice (some ⟨w4.heap.size, 0, none⟩) 1 1)).alloc (.cells #[.int .i64 3, .string ⟨#[]⟩, .string ⟨#[97]⟩, .slice none 0 0, .slice none 0 0] 25)).heap.size) (d := rootD) (k := f) false ⟨HBAD.out.no⟩ HBAD.out.deep HLZ.out (Nat.le_refl _)).mono ?_; rintro e w8 ⟨rfl, hb8⟩)
      | (go_at_call 10; refine (awake_true _).mono ?_; rintro e w9 ⟨rfl, hb9⟩))
    go_ret
    exact ⟨rfl, HBW.out.trans ((hb8.mono HBW.out.size).trans (hb9.mono (Nat.le_trans HBW.out.size hb8.size)))⟩
end Go.Proofs.Ytblgjmohcdioeaa
