/- whole: a tree in new memory, with all in it, lies as it lay. -/
import Derived.Test.YtjjkidenlgghkaaWholeP
import Derived.Test.YtjjkidenlgghkaaWide
import Derived.Deep.RegionHeld3
import Derived.Deep.DeepCutAuto
set_option linter.unusedVariables false
set_option linter.unusedSimpArgs false
namespace Go.Proofs.Ytjjkidenlgghkaa
open Go.Deep (BT)
open Go.RowKit M

theorem lenF_size : ∀ f : M.F, f.len ≤ f.size
  | .nil => Nat.le_refl _
  | .node xb xo d k r => by have := lenF_size r; simp only [BT.len, BT.size]; omega
theorem own_popP {W : World} {n E g m cap : Nat} {xs : List Value} {x : Value} (h : W.ownsRow n E 1 (.slice (some ⟨g, 0, none⟩) (m + 1) cap) (m + 1) (xs ++ [x])) (hx : xs.length = m) :
    W.cell? ⟨g, m, none⟩ = some x ∧ W.ownsRow n E 1 (.slice (some ⟨g, 0, none⟩) m cap) m xs ∧ m + 1 ≤ cap ∧ cap ≤ maxLen := by
  obtain ⟨_, h2⟩ := h
  rcases h2 with ⟨e, _⟩ | ⟨g', cap', cur, e, hg, hh, hc1, hc2, hs, ht⟩
  · cases e
  · simp only [Value.slice.injEq, Option.some.injEq, Addr.mk.injEq] at e
    obtain ⟨⟨rfl, _, _⟩, _, rfl⟩ := e
    have hx1 : cur.toList[m]? = some x := by
      have : (xs ++ [x])[m]? = some x := by rw [List.getElem?_append_right (by omega), hx]; simp
      rw [← ht, List.getElem?_take] at this
      split at this
      all_goals first | exact this | (exfalso; omega)
    refine ⟨by unfold World.cell?; simp only [hh]; rw [← Array.getElem?_toList]; exact hx1, ⟨by omega, .inr ⟨g, cap, cur, rfl, hg, hh, by omega, hc2, hs, ?_⟩⟩, hc1, hc2⟩
    have h3 := congrArg (List.take m) ht
    rw [List.take_take, List.take_left' hx] at h3
    rw [Nat.mul_one, ← h3]
    congr 1
    omega
theorem heap_new (w : World) (o : Obj) : (w.alloc o).heap[w.heap.size]? = some o := by
  show (w.heap.push o)[w.heap.size]? = some o
  simp
theorem wstart (Q : Nat) (d : Nd) (k : M.F) (av kv : Value) (w : World) (hQ : Q < w.heap.size) (ha : AS (fun b => b < w.heap.size ∧ b ≠ Q) w av d.ats) (hf : FL (fun b => b < w.heap.size ∧ b ≠ Q) w kv k) (hsl : d.ats.length + k.slots ≤ 1000000) :
    WInv w Q d k (k.size + 1) (w.heap.size + 1 + 1) (((w.alloc (.cells #[.int .i64 d.k, .string d.n, .string d.x, av, kv] 25)).alloc (.cells #[.int .i64 0, .string ⟨#[]⟩, .string ⟨#[]⟩, .slice none 0 0, .slice none 0 0] 25)).alloc (.cells #[.pointer (some ⟨w.heap.size, 0, none⟩)] 85))
      (.slice (some ⟨w.heap.size + 1 + 1, 0, none⟩) 1 1) [⟨w.heap.size, 0, .cons d k .nil⟩] := by
  obtain ⟨W1, h1⟩ : ∃ W1, w.alloc (.cells #[.int .i64 d.k, .string d.n, .string d.x, av, kv] 25) = W1 := ⟨_, rfl⟩
  obtain ⟨W2, h2⟩ : ∃ W2, W1.alloc (.cells #[.int .i64 0, .string ⟨#[]⟩, .string ⟨#[]⟩, .slice none 0 0, .slice none 0 0] 25) = W2 := ⟨_, rfl⟩
  obtain ⟨W3, h3⟩ : ∃ W3, W2.alloc (.cells #[.pointer (some ⟨w.heap.size, 0, none⟩)] 85) = W3 := ⟨_, rfl⟩
  rw [h1, h2, h3]
  have z1 : W1.heap.size = w.heap.size + 1 := by rw [← h1]; simp
  have z2 : W2.heap.size = w.heap.size + 1 + 1 := by rw [← h2]; simp [z1]
  have z3 : W3.heap.size = w.heap.size + 1 + 1 + 1 := by rw [← h3]; simp [z2]
  have b1 : Below w.heap.size w W1 := by rw [← h1]; exact (Below.refl _ w).alloc (Nat.le_refl _) _
  have b2 : Below w.heap.size w W2 := by rw [← h2]; exact b1.alloc (by omega) _
  have b3 : Below w.heap.size w W3 := by rw [← h3]; exact b2.alloc (by omega) _
  have k1 : W1.heap[w.heap.size]? = some (.cells #[.int .i64 d.k, .string d.n, .string d.x, av, kv] 25 (0, 0)) := by rw [← h1]; exact heap_new w _
  have k2 : W2.heap[w.heap.size + 1]? = some (.cells #[.int .i64 0, .string ⟨#[]⟩, .string ⟨#[]⟩, .slice none 0 0, .slice none 0 0] 25 (0, 0)) := by rw [← h2, ← z1]; exact heap_new W1 _
  have k3 : W3.heap[w.heap.size + 1 + 1]? = some (.cells #[.pointer (some ⟨w.heap.size, 0, none⟩)] 85 (0, 0)) := by rw [← h3, ← z2]; exact heap_new W2 _
  have r1 : W3.heap[w.heap.size]? = some (.cells #[.int .i64 d.k, .string d.n, .string d.x, av, kv] 25 (0, 0)) := by
    rw [← h3, Below.heap_alloc _ _ _ (by omega), ← h2, Below.heap_alloc _ _ _ (by omega)]; exact k1
  have r2 : W3.heap[w.heap.size + 1]? = some (.cells #[.int .i64 0, .string ⟨#[]⟩, .string ⟨#[]⟩, .slice none 0 0, .slice none 0 0] 25 (0, 0)) := by
    rw [← h3, Below.heap_alloc _ _ _ (by omega)]; exact k2
  have hS : ∀ b, (b < w.heap.size ∧ b ≠ Q) → Ne (w.heap.size + 1, Q) (w.heap.size + 1 + 1) b := fun b hb => ⟨by omega, by show b ≠ w.heap.size + 1; omega, hb.2⟩
  have hlk : Like (fun b => b < w.heap.size ∧ b ≠ Q) w W3 := fun b hb _ => b3.block b hb.1
  have ha3 := (ha.like hlk).mono hS
  have hf3 := (hf.like hlk).mono hS
  have hbox : PdOK w.heap.size (w.heap.size + 1, Q) (w.heap.size + 1 + 1) W3 ⟨w.heap.size, 0, .cons d k .nil⟩ := by
    obtain ⟨ka, kc, rfl, g1, g2, g3⟩ := hf3
    refine ⟨Nat.le_refl _, ⟨by show w.heap.size ≠ _; omega, by show w.heap.size ≠ w.heap.size + 1; omega, by show w.heap.size ≠ Q; omega⟩, by show w.heap.size < _; omega, fun q => by simp [World.frozen?, r1], ⟨d, k, rfl⟩, ⟨⟨av, ka, kc, ?_, ?_, ?_, ?_, ?_, ha3, g1, g2, g3⟩, trivial⟩, by simp only [BT.slots]; omega⟩
    all_goals simp [World.cell?, r1]
  refine ⟨hQ, b3, ⟨rfl, .inr ⟨w.heap.size + 1 + 1, 1, _, rfl, by omega, k3, Nat.le_refl _, by unfold maxLen; omega, rfl, rfl⟩⟩, rfl, by omega, hbox, r2, fun p hp => ?_, ?_⟩
  · rw [List.mem_singleton] at hp
    subst hp
    exact hbox
  · show (M.F.cons d k .nil).size + 0 ≤ _
    simp only [BT.size]
    omega

theorem six_end {n g b o c kl al : Nat} {R : Nat × Nat} {d1 : Nd} {k1 : M.F} {W W2 W3 : World} {aa a2 : Option Addr} {ac n2 : Nat} {ka ka' : Option Addr} {kc' : Nat} {xs : List Value} (hkl : k1.len = kl) (hal : d1.ats.length = al) (hp : PdOK n R g W ⟨b, o, .cons d1 k1 .nil⟩) (hg : g < W.heap.size) (hR : R.1 < W.heap.size ∧ R.2 < W.heap.size)
    (c3 : W.cell? ⟨b, o + 3, none⟩ = some (.slice aa al ac)) (c4 : W.cell? ⟨b, o + 4, none⟩ = some (.slice ka kl c)) (ha : AS (Ne R g) W (.slice aa al ac) d1.ats) (hb : Below W.heap.size W W2) (hb3 : Below W2.heap.size W2 W3)
    (ha' : AS (fun b => W.heap.size ≤ b) W2 (.slice a2 d1.ats.length n2) d1.ats) (hx : xs.length = kl * 5) (hc : kl = 0 ∨ ∃ b o, ka = some ⟨b, o, none⟩ ∧ ∀ j u, xs[j]? = some u → W.cell? ((⟨b, o, none⟩ : Addr).add j) = some u)
    (hn : kl ≤ kc') (hn2 : kc' ≤ maxLen) (ho : kl = 0 ∨ W3.ownsRow W2.heap.size 25 5 (.slice ka' kl kc') kl xs) :
    End6 n R g W ((W3.setCell ⟨b, o + 3, none⟩ (.slice a2 al n2)).setCell ⟨b, o + 4, none⟩ (.slice ka' kl kc')) b o k1 ka' kc' := by
  subst hkl hal
  refine end6 hp hg hR c3 c4 ha (hb.trans (hb3.mono hb.size)) ?_ hx ?_ hn hn2 ho hb.size
  · exact (ha'.both.like (fun b hb' _ => hb3.block b hb'.2)).mono (fun b hb' => hb'.1)
  · refine hc.imp id ?_
    rintro ⟨b', o', e, h⟩
    exact ⟨b', o', e, fun j u hu => by have := h j u hu; rw [add_cell] at this; exact this⟩
theorem own_sh {W : World} {n E z m g : Nat} {v : Value} {xs : List Value} (h : W.ownsRow n E z v m xs) (hb : v.ownBlock = some g) : ∃ cap, v = .slice (some ⟨g, 0, none⟩) m cap := by
  rcases h.2 with ⟨rfl, _⟩ | ⟨g', cap, cur, rfl, _⟩
  · cases hb
  · cases hb
    exact ⟨cap, rfl⟩
/-- while the kids come on the stack -/
structure InI (w : World) (Q : Nat) (d : Nd) (k : M.F) (N g b o kb kl kc : Nat) (ka : Option Addr) (k1 : M.F) (ps0 : List Pd) (i : Nat) (W : World) (ov : Value) : Prop where
  inv : WInv w Q d k N g W ov (ps0 ++ kidsP kb 0 k1 i)
  c4 : W.cell? ⟨b, o + 4, none⟩ = some (.slice ka kl kc)
  nb : Ne (w.heap.size + 1, Q) g b
  kids : kl = 0 ∨ (ka = some ⟨kb, 0, none⟩ ∧ w.heap.size ≤ kb ∧ Ne (w.heap.size + 1, Q) g kb ∧ kb < W.heap.size ∧ (∀ q, W.frozen? ⟨kb, q, none⟩ = false) ∧ FAt (Ne (w.heap.size + 1, Q) g) W (dropF k1 i) kb (0 + i * 5))
theorem InI.next {w : World} {Q : Nat} {d : Nd} {k : M.F} {N g b o kb kl kc i : Nat} {ka : Option Addr} {k1 : M.F} {ps0 : List Pd} {W W2 : World} {ov ov' : Value} {o1 : Obj} (h : InI w Q d k N g b o kb kl kc ka k1 ps0 i W ov) (hkl : k1.len = kl) (hi : i < kl)
    (hsum : tot ps0 + k1.size ≤ N) (hsl : k1.slots ≤ 1000000) (ho : W2.ownsRow w.heap.size 85 1 ov' ((ps0 ++ kidsP kb 0 k1 i).length + 1) ((ps0 ++ kidsP kb 0 k1 i).map ptrP ++ [.pointer (some ⟨kb, i * 5, none⟩)]))
    (hg : (W.alloc o1).grownBy W2 ov.ownBlock) (hl : ov'.ownBlock = ov.ownBlock ∨ ov'.ownBlock = some (W.heap.size + 1)) :
    ∃ g' cap', ov' = .slice (some ⟨g', 0, none⟩) ((ps0 ++ kidsP kb 0 k1 i).length + 1) cap' ∧ InI w Q d k N g' b o kb kl kc ka k1 ps0 (i + 1) W2 ov' := by
  obtain ⟨e1, e2, e3, e4, e5, e6⟩ := h.kids.resolve_left (by omega)
  obtain ⟨xb, xo, d2, k2, hd, hk⟩ := dropF_step k1 i (by omega)
  rw [hd] at e6
  have hp : PdOK w.heap.size (w.heap.size + 1, Q) g W ⟨kb, 0 + i * 5, .cons d2 k2 .nil⟩ := by
    refine ⟨e2, e3, e4, e5, ⟨d2, k2, rfl⟩, ⟨e6.1, trivial⟩, ?_⟩
    have h1 := dropF_slots k1 i
    rw [hd] at h1
    simp only [BT.slots] at h1 ⊢
    omega
  have hle := kidsP_le kb k1 0 (i + 1)
  rw [hk kb 0, tot_append] at hle
  have hpt : ptrP ⟨kb, 0 + i * 5, .cons d2 k2 .nil⟩ = .pointer (some ⟨kb, i * 5, none⟩) := by unfold ptrP; simp only [Nat.zero_add]
  obtain ⟨g', hw, hnx, hsz⟩ := h.inv.push hp (by
    rw [tot_append]
    have : tot [(⟨kb, 0 + i * 5, .cons d2 k2 .nil⟩ : Pd)] = (M.F.cons d2 k2 .nil).size + 0 := rfl
    show tot ps0 + tot (kidsP kb 0 k1 i) + (M.F.cons d2 k2 .nil).size ≤ N
    omega) (by rw [hpt]; exact ho) hg hl
  rw [List.append_assoc, ← hk kb 0] at hw
  obtain ⟨cap', hc'⟩ := own_sh ho hw.blk
  have hbl : b < W.heap.size := World.block_lt_of_cell? W _ h.c4
  refine ⟨g', cap', hc', hw, ?_, ?_, .inr ⟨e1, e2, ?_, Nat.lt_of_lt_of_le e4 hsz, ?_, ?_⟩⟩
  · rw [World.cell?_of_block (w := W) (a := ⟨b, o + 4, none⟩) (hnx.like b h.nb hbl)]
    exact h.c4
  · exact ⟨by rcases hnx.new with e | e; (rw [e]; exact h.nb.1); omega, h.nb.2⟩
  · exact ⟨by rcases hnx.new with e | e; (rw [e]; exact e3.1); omega, e3.2⟩
  · intro q
    rw [World.frozen?_of_block (w := W) (a := ⟨kb, q, none⟩) (hnx.like kb e3 e4)]
    exact e5 q
  · have := e6.2.nx hnx e3 e4
    rw [show 0 + i * 5 + 5 = 0 + (i + 1) * 5 by omega] at this
    exact this
theorem kidsP_len (b : Nat) : ∀ (f : M.F) (o i : Nat), i ≤ f.len → (kidsP b o f i).length = i
  | f, _, 0, _ => by cases f <;> rfl
  | .nil, _, i + 1, h => by simp [BT.len] at h
  | .node xb xo d k r, o, i + 1, h => by
    show (kidsP b (o + 5) r i).length + 1 = i + 1
    rw [kidsP_len b r (o + 5) i (by simp only [BT.len] at h; omega)]
theorem len_tot : ∀ ps : List Pd, (∀ p ∈ ps, ∃ d k, p.f = .cons d k .nil) → ps.length ≤ tot ps
  | [], _ => Nat.le_refl _
  | p :: l, h => by
    have h1 := len_tot l (fun q hq => h q (List.mem_cons_of_mem _ hq))
    obtain ⟨d, k, e⟩ := h p List.mem_cons_self
    show l.length + 1 ≤ p.f.size + tot l
    rw [e]
    simp only [BT.size]
    omega
theorem infoP : (Try.prog.info? 85).map (fun i => (i.zero, i.size, i.bytes)) = some (some (.pointer none), 1, 8) := by kernel_rfl

set_option maxRecDepth 100000 in
set_option maxHeartbeats 2000000 in
theorem whole_any (Q : Nat) (d : Nd) (k : M.F) (av kv : Value) (w : World) (hQ : Q < w.heap.size) (ha : AS (fun b => b < w.heap.size ∧ b ≠ Q) w av d.ats) (hf : FL (fun b => b < w.heap.size ∧ b ≠ Q) w kv k) (hs : k.size + 1 ≤ 1000000) (hsl : d.ats.length + k.slots ≤ 1000000) :
    Calls Try.prog 37 #[nodeV d av kv] w fun e w' => Below w.heap.size w w' ∧ ∃ av' kv', e = .returned (nodeV d av' kv') ∧ AS (fun b => b < w'.heap.size ∧ b ≠ Q) w' av' d.ats ∧ FL (fun b => b < w'.heap.size ∧ b ≠ Q) w' kv' k := by
  obtain ⟨K, N, X, A⟩ := d
  have hI0 := Fact.mk (wstart Q ⟨K, N, X, A⟩ k av kv w hQ ha hf hsl)
  clear ha hf
  go_enter Try.func37, Try.ntmps37
  go_wp2_with fail
  go_loopg [3] (k.size + 1) (fun gf ov wr => ∃ (ps : List Pd) (g cap : Nat), ov = .slice (some ⟨g, 0, none⟩) ps.length cap ∧ tot ps ≤ gf ∧ Fact (WInv w Q ⟨K, N, X, A⟩ k (k.size + 1) g wr ov ps))
  case atStart => exact ⟨_, _, 1, rfl, by simp [tot, BT.size]; omega, hI0⟩
  case round =>
    obtain ⟨ps, g, cap, rfl, hgf, hI⟩ := hrel
    clear hI0
    rcases List.eq_nil_or_concat ps with rfl | ⟨ps0, p, rfl⟩
    · have hbx := hI.out.box
      obtain ⟨⟨av', ka, kc, c0, c1, c2, c3, c4, ha, g1, g2, g3⟩, _⟩ := hbx.at_
      have HA := Fact.mk ha
      obtain ⟨aa, ac, rfl, _⟩ := ha
      have HK := Fact.mk (show FL (Ne (w.heap.size + 1, Q) g) wr (.slice ka k.len kc) k from ⟨ka, kc, rfl, g1, g2, g3⟩)
      have hres := hI.out.res
      have hR : Five wr (w.heap.size + 1) (.int .i64 0) (.string ⟨#[]⟩) (.string ⟨#[]⟩) (.slice none 0 0) (.slice none 0 0) :=
        ⟨by simp [World.cell?, hres], by simp [World.cell?, hres], by simp [World.cell?, hres], by simp [World.cell?, hres], by simp [World.cell?, hres], fun q => by simp [World.frozen?, hres]⟩
      obtain ⟨r0, r1, r2, r3, r4, rfz⟩ := id hR
      have rf0 := rfz 0
      have rf1 := rfz 1
      have rf2 := rfz 2
      have rf3 := rfz 3
      have rf4 := rfz 4
      have HR := Fact.mk hR
      simp only [Nat.zero_add] at c0 c1 c2 c3 c4
      clear hres rfz hR hbx g1 g2 g3
      obtain ⟨kl, hkl⟩ : ∃ kl, Fact (k.len = kl) := ⟨_, ⟨rfl⟩⟩
      rw [hkl.out] at c4 HK
      go_wp2_with fail
      obtain ⟨W5, hW5⟩ : ∃ W5, ((((wr.setCell ⟨w.heap.size + 1, 0, none⟩ (.int .i64 K)).setCell ⟨w.heap.size + 1, 1, none⟩ (.string N)).setCell ⟨w.heap.size + 1, 2, none⟩ (.string X)).setCell ⟨w.heap.size + 1, 3, none⟩ (.slice aa A.length ac)).setCell ⟨w.heap.size + 1, 4, none⟩ (.slice ka kl kc) = W5 := ⟨_, rfl⟩
      have hoth : ∀ b, b ≠ w.heap.size + 1 → W5.heap[b]? = wr.heap[b]? := fun b hb => by rw [← hW5]; exact five_other _ _ hb _ _ _ _ _
      have hz5 : W5.heap.size = wr.heap.size := by rw [← hW5]; simp [World.setCell]
      have hBr := hI.out.below
      have hB5 : Below w.heap.size w W5 := ⟨by rw [← hW5]; exact hBr.os, by rw [← hW5]; exact hBr.tape, by rw [← hW5]; exact hBr.output, by rw [hz5]; exact hBr.size, fun k hk => (hoth k (by omega)).trans (hBr.block k hk)⟩
      have h5 := five_all HR.out (.int .i64 K) (.string N) (.string X) (.slice aa A.length ac) (.slice ka kl kc)
      rw [hW5] at h5
      rw [hW5]
      have hlk : Like (fun b => Ne (w.heap.size + 1, Q) g b ∧ b < wr.heap.size) wr W5 := fun b hb _ => hoth b hb.1.2.1
      refine bodyPost_ret (v := nodeV ⟨K, N, X, A⟩ (.slice aa A.length ac) (.slice ka kl kc)) (by simp [results, Try.f37, go_sem, h5.c0, h5.c1, h5.c2, h5.c3, h5.c4]) rfl ⟨hB5, _, _, rfl, ?_, ?_⟩
      · exact (HA.out.both.like hlk).mono (fun b hb => ⟨by rw [hz5]; exact hb.2, hb.1.2.2⟩)
      · exact (HK.out.both.like hlk).mono (fun b hb => ⟨by rw [hz5]; exact hb.2, hb.1.2.2⟩)
    · rw [List.concat_eq_append] at hI hgf ⊢
      obtain ⟨m, hm⟩ : ∃ m, Fact (ps0.length = m) := ⟨_, ⟨rfl⟩⟩
      have hpd := hI.out.pend p (List.mem_append_right _ List.mem_cons_self)
      obtain ⟨b, o, f⟩ := p
      obtain ⟨d1, k1, rfl⟩ : ∃ d1 k1, f = .cons d1 k1 .nil := hpd.one
      have hlen : (ps0 ++ [(⟨b, o, .cons d1 k1 .nil⟩ : Pd)]).length = m + 1 := by rw [List.length_append, hm.out]; rfl
      rw [hlen] at hI ⊢
      have hown := hI.out.own
      rw [hlen, List.map_append, List.map_cons, List.map_nil] at hown
      obtain ⟨cm, own0, hc1, hc2⟩ := own_popP hown (by rw [List.length_map]; exact hm.out)
      unfold ptrP at cm
      simp only at cm
      obtain ⟨⟨av1, ka, kc, c0, c1, c2, c3, c4, ha, g1, g2, g3⟩, _⟩ := hpd.at_
      have f3 := hpd.froz (o + 3)
      have f4 := hpd.froz (o + 4)
      simp only at c0 c1 c2 c3 c4 f3 f4
      have HA := Fact.mk ha
      obtain ⟨aa, ac, eav, _⟩ := ha
      subst eav
      have HG := Fact.mk (And.intro g1 (And.intro g2 g3))
      have HP := Fact.mk hpd
      have HO := Fact.mk own0
      clear hpd own0 hown g1 g2 g3 hlen
      have m1 : (m : Int) + 1 ≤ cap := by omega
      have m2 : (0 : Int) ≤ m := by omega
      have m3 : (cap : Int) ≤ 9223372036854775807 := by unfold maxLen at hc2; omega
      obtain ⟨al, hal⟩ : ∃ al, Fact (d1.ats.length = al) := ⟨_, ⟨rfl⟩⟩
      obtain ⟨kl, hkl⟩ : ∃ kl, Fact (k1.len = kl) := ⟨_, ⟨rfl⟩⟩
      rw [hal.out] at c3 HA
      rw [hkl.out] at c4 HG
      clear c0 c1 c2
      go_upto_region 6 with fail
      obtain ⟨xs, hx1, hx2, hx3⟩ : ∃ xs : List Value, xs.length = kl * 5 ∧ (∀ W : World, Below wr.heap.size wr W → (kl = 0 ∨ ∃ b o, ka = some ⟨b, o, none⟩ ∧ ∀ j u, xs[j]? = some u → W.cell? ((⟨b, o, none⟩ : Addr).add j) = some u)) ∧ ∀ u ∈ xs, u.oneCell' = true := by
        rcases HG.out.2.2 with h0 | ⟨b', o', e, _, hfa⟩
        · exact ⟨[], by rw [h0]; rfl, fun W _ => .inl h0, by simp⟩
        · obtain ⟨xs, y1, y2, y3⟩ := FAt.row _ _ hfa
          refine ⟨xs, by rw [y1, hkl.out], fun W hW => .inr ⟨b', o', e, fun j u hu => ?_⟩, y3⟩
          have := y2 j u hu
          rw [add_cell]
          exact (hW.cell (p := ⟨b', o' + j, none⟩) (World.block_lt_of_cell? wr _ this)).trans this
      have HX := Fact.mk hx1
      have HC := Fact.mk hx2
      have HX1 := Fact.mk hx3
      have hsl1 : d1.ats.length ≤ 1000000 := by have := HP.out.sl; simp only [BT.slots] at this; omega
      have hal6 : d1.ats.length ≤ 1000000 := hsl1
      have hkl6 : kl ≤ 1000000 := by
        have h1 := hI.out.sum
        rw [tot_append] at h1
        have h2 : (M.F.cons d1 k1 .nil).size + 0 ≤ tot [(⟨b, o, .cons d1 k1 .nil⟩ : Pd)] := Nat.le_refl _
        have h3 := lenF_size k1
        simp only [BT.size] at h2
        rw [hkl.out] at h3
        omega
      have HA2 : Fact (AS (Old wr.heap.size) wr.drew (.slice aa al ac) d1.ats) := ⟨HA.out.both.mono (fun b hb => hb.2)⟩
      have hgl : g < wr.heap.size := (own_lt hI.out.own hI.out.blk).2
      have hRl : w.heap.size + 1 < wr.heap.size ∧ Q < wr.heap.size := ⟨(Array.getElem?_eq_some_iff.1 hI.out.res).1, Nat.lt_of_lt_of_le hI.out.q hI.out.below.size⟩
      clear hx1 hx2 hx3 hsl1
      go_cut [] (fun wc => ∃ ka' kc', Fact (End6 w.heap.size (w.heap.size + 1, Q) g wr wc b o k1 ka' kc'))
      case first =>
        refine wp_region_held_drew (S := fun _ => True) (by kernel_rfl) trivial (fun _ => ?_)
        refine wpAnyH_take (i := 0) (v := ?v0n1) rfl (by kernel_rfl) (by kernel_rfl) (by kernel_rfl) (fun _ _ _ h => h) (Or.inl ⟨by rfl, ?hy0n1⟩) trivial ?rr0n1
        case hy0n1 =>
          intro w hSw
          go_simp
          try with_reducible rfl
        try simp only [Act.put, List.getElem_toArray, List.getElem_cons_succ, List.getElem_cons_zero, List.setIfInBounds_toArray, List.set_cons_zero, List.set_cons_succ]
        refine wpAnyH_take (i := 1) (v := ?v1n2) rfl (by kernel_rfl) (by kernel_rfl) (by kernel_rfl) (fun _ _ _ h => h) (Or.inl ⟨by rfl, ?hy1n2⟩) trivial ?rr1n2
        case hy1n2 =>
          intro w hSw
          go_simp
          try with_reducible rfl
        try simp only [Act.put, List.getElem_toArray, List.getElem_cons_succ, List.getElem_cons_zero, List.setIfInBounds_toArray, List.set_cons_zero, List.set_cons_succ]
        refine wpAnyH_take (i := 2) (v := ?v2n3) rfl (by kernel_rfl) (by kernel_rfl) (by kernel_rfl) (fun _ _ _ h => h) (Or.inl ⟨by rfl, ?hy2n3⟩) trivial ?rr2n3
        case hy2n3 =>
          intro w hSw
          go_simp
          try with_reducible rfl
        try simp only [Act.put, List.getElem_toArray, List.getElem_cons_succ, List.getElem_cons_zero, List.setIfInBounds_toArray, List.set_cons_zero, List.set_cons_succ]
        refine wpAnyH_take (i := 3) (v := ?v3n4) rfl (by kernel_rfl) (by kernel_rfl) (by kernel_rfl) (fun _ _ _ h => h) (Or.inl ⟨by rfl, ?hy3n4⟩) trivial ?rr3n4
        case hy3n4 =>
          intro w hSw
          go_simp
          try with_reducible rfl
        try simp only [Act.put, List.getElem_toArray, List.getElem_cons_succ, List.getElem_cons_zero, List.setIfInBounds_toArray, List.set_cons_zero, List.set_cons_succ]
        refine wpAnyH_take (i := 4) (v := ?v4n5) rfl (by kernel_rfl) (by kernel_rfl) (by kernel_rfl) (fun _ _ _ h => h) (Or.inl ⟨by rfl, ?hy4n5⟩) trivial ?rr4n5
        case hy4n5 =>
          intro w hSw
          go_simp
          try with_reducible rfl
        try simp only [Act.put, List.getElem_toArray, List.getElem_cons_succ, List.getElem_cons_zero, List.setIfInBounds_toArray, List.set_cons_zero, List.set_cons_succ]
        refine wpAnyH_take (i := 7) (v := ?v7n6) rfl (by kernel_rfl) (by kernel_rfl) (by kernel_rfl) (fun _ _ _ h => h) (Or.inl ⟨by rfl, ?hy7n6⟩) trivial ?rr7n6
        case hy7n6 =>
          intro w hSw
          go_simp
          try with_reducible rfl
        try simp only [Act.put, List.getElem_toArray, List.getElem_cons_succ, List.getElem_cons_zero, List.setIfInBounds_toArray, List.set_cons_zero, List.set_cons_succ]
        refine wpAnyH_take (i := 8) (v := ?v8n7) rfl (by kernel_rfl) (by kernel_rfl) (by kernel_rfl) (fun _ _ _ h => h) (Or.inl ⟨by rfl, ?hy8n7⟩) trivial ?rr8n7
        case hy8n7 =>
          intro w hSw
          go_simp
          try with_reducible rfl
        try simp only [Act.put, List.getElem_toArray, List.getElem_cons_succ, List.getElem_cons_zero, List.setIfInBounds_toArray, List.set_cons_zero, List.set_cons_succ]
        refine wpAnyH_take (i := 9) (v := ?v9n8) rfl (by kernel_rfl) (by kernel_rfl) (by kernel_rfl) (fun _ _ _ h => h) (Or.inl ⟨by rfl, ?hy9n8⟩) trivial ?rr9n8
        case hy9n8 =>
          intro w hSw
          go_simp
          try with_reducible rfl
        try simp only [Act.put, List.getElem_toArray, List.getElem_cons_succ, List.getElem_cons_zero, List.setIfInBounds_toArray, List.set_cons_zero, List.set_cons_succ]
        refine wpAnyH_ready (rs := [5, 10]) (by kernel_rfl) (by simp) ?_
        refine AllReadyH.cons rfl (fun K hK => ?_) (AllReadyH.cons rfl (fun K hK => ?_) AllReadyH.nil)
        ·
          go_simp
          refine hK.out _ _ trivial (fun _ => ?_)
          clear hK K
          refine wpAnyH_ready (rs := [6, 10]) (by kernel_rfl) (by simp) ?_
          refine AllReadyH.cons rfl (fun K hK => ?_) (AllReadyH.cons rfl (fun K hK => ?_) AllReadyH.nil)
          ·
            go_simp
            refine (cloneA_any d1.ats _ wr.heap.size _ (HA2.out) hal6).mono ?_
            rintro e w2 ⟨v2, rfl, ha2, hb2'⟩
            have hb2 : Below wr.heap.size wr w2 := ⟨hb2'.os, hb2'.tape, hb2'.output, hb2'.size, hb2'.block⟩
            clear hb2'
            obtain ⟨a2, n2, rfl, _⟩ := id ha2
            rw [hal.out]
            have c42 : w2.cell? ⟨b, o + 4, none⟩ = some (.slice ka kl kc) := (hb2.cell (p := ⟨b, o + 4, none⟩) HP.out.lt).trans c4
            dsimp only
            refine hK.out _ _ trivial (fun _ => ?_)
            clear hK K
            refine wpAnyH_ready (rs := [10]) (by kernel_rfl) (by simp) ?_
            refine AllReadyH.cons rfl (fun K hK => ?_) AllReadyH.nil
            go_simp
            refine hK.out _ _ trivial (fun _ => ?_)
            clear hK K
            refine wpAnyH_ready (rs := [11]) (by kernel_rfl) (by simp) ?_
            refine AllReadyH.cons rfl (fun K hK => ?_) AllReadyH.nil
            go_simp
            refine (cloneT_any kl kc ka xs _ HX.out (HC.out _ hb2) HX1.out hkl6).mono ?_
            rintro e w3 ⟨a3, n3, rfl, hb3, ho3, hn3, hm3⟩
            have hb23 := hb2.trans (hb3.mono hb2.size)
            have e3 : w3.cell? ⟨b, o + 3, none⟩ = some (.slice aa al ac) := (hb23.cell (p := ⟨b, o + 3, none⟩) HP.out.lt).trans c3
            have e4 : w3.cell? ⟨b, o + 4, none⟩ = some (.slice ka kl kc) := (hb23.cell (p := ⟨b, o + 4, none⟩) HP.out.lt).trans c4
            have f3' : w3.frozen? ⟨b, o + 3, none⟩ = false := (hb23.frozen (p := ⟨b, o + 3, none⟩) HP.out.lt).trans f3
            have f4' : w3.frozen? ⟨b, o + 4, none⟩ = false := (hb23.frozen (p := ⟨b, o + 4, none⟩) HP.out.lt).trans f4
            dsimp only
            refine hK.out _ _ trivial (fun _ => ?_)
            clear hK K
            refine wpAnyH_take (i := 12) (v := ?v12n9) rfl (by kernel_rfl) (by kernel_rfl) (by kernel_rfl) (fun _ _ _ h => h) (Or.inl ⟨by rfl, ?hy12n9⟩) trivial ?rr12n9
            case hy12n9 =>
              intro w hSw
              go_simp
              try with_reducible rfl
            try simp only [Act.put, List.getElem_toArray, List.getElem_cons_succ, List.getElem_cons_zero, List.setIfInBounds_toArray, List.set_cons_zero, List.set_cons_succ]
            refine wpAnyH_take (i := 13) (v := ?v13n10) rfl (by kernel_rfl) (by kernel_rfl) (by kernel_rfl) (fun _ _ _ h => h) (Or.inl ⟨by rfl, ?hy13n10⟩) trivial ?rr13n10
            case hy13n10 =>
              intro w hSw
              go_simp
              try with_reducible rfl
            try simp only [Act.put, List.getElem_toArray, List.getElem_cons_succ, List.getElem_cons_zero, List.setIfInBounds_toArray, List.set_cons_zero, List.set_cons_succ]
            refine wpAnyH_ready (rs := [14]) (by kernel_rfl) (by simp) ?_
            refine AllReadyH.cons rfl (fun K hK => ?_) AllReadyH.nil
            go_simp
            refine hK.out _ _ trivial (fun _ => ?_)
            clear hK K
            refine wpAnyH_take (i := 15) (v := ?v15n11) rfl (by kernel_rfl) (by kernel_rfl) (by kernel_rfl) (fun _ _ _ h => h) (Or.inl ⟨by rfl, ?hy15n11⟩) trivial ?rr15n11
            case hy15n11 =>
              intro w hSw
              go_simp
              try with_reducible rfl
            try simp only [Act.put, List.getElem_toArray, List.getElem_cons_succ, List.getElem_cons_zero, List.setIfInBounds_toArray, List.set_cons_zero, List.set_cons_succ]
            refine wpAnyH_take (i := 16) (v := ?v16n12) rfl (by kernel_rfl) (by kernel_rfl) (by kernel_rfl) (fun _ _ _ h => h) (Or.inl ⟨by rfl, ?hy16n12⟩) trivial ?rr16n12
            case hy16n12 =>
              intro w hSw
              go_simp
              try with_reducible rfl
            try simp only [Act.put, List.getElem_toArray, List.getElem_cons_succ, List.getElem_cons_zero, List.setIfInBounds_toArray, List.set_cons_zero, List.set_cons_succ]
            refine wpAnyH_ready (rs := [17]) (by kernel_rfl) (by simp) ?_
            refine AllReadyH.cons rfl (fun K hK => ?_) AllReadyH.nil
            go_simp
            refine hK.out _ _ trivial (fun _ => ?_)
            clear hK K
            refine wpAnyH_done (by kernel_rfl) ?_ _
            go_wp2_with fail
            go_meet
            case rel => exact ⟨a3, n3, ⟨six_end hkl.out hal.out HP.out hgl hRl c3 c4 HA.out hb2 hb3 ha2 HX.out (HC.out _ (Below.refl _ _)) hn3 hm3 ho3⟩⟩
          ·
            go_simp
            refine hK.out _ _ trivial (fun _ => ?_)
            clear hK K
            refine wpAnyH_ready (rs := [6]) (by kernel_rfl) (by simp) ?_
            refine AllReadyH.cons rfl (fun K hK => ?_) AllReadyH.nil
            go_simp
            refine (cloneA_any d1.ats _ wr.heap.size _ (HA2.out) hal6).mono ?_
            rintro e w2 ⟨v2, rfl, ha2, hb2'⟩
            have hb2 : Below wr.heap.size wr w2 := ⟨hb2'.os, hb2'.tape, hb2'.output, hb2'.size, hb2'.block⟩
            clear hb2'
            obtain ⟨a2, n2, rfl, _⟩ := id ha2
            rw [hal.out]
            have c42 : w2.cell? ⟨b, o + 4, none⟩ = some (.slice ka kl kc) := (hb2.cell (p := ⟨b, o + 4, none⟩) HP.out.lt).trans c4
            dsimp only
            refine hK.out _ _ trivial (fun _ => ?_)
            clear hK K
            refine wpAnyH_ready (rs := [11]) (by kernel_rfl) (by simp) ?_
            refine AllReadyH.cons rfl (fun K hK => ?_) AllReadyH.nil
            go_simp
            refine (cloneT_any kl kc ka xs _ HX.out (HC.out _ hb2) HX1.out hkl6).mono ?_
            rintro e w3 ⟨a3, n3, rfl, hb3, ho3, hn3, hm3⟩
            have hb23 := hb2.trans (hb3.mono hb2.size)
            have e3 : w3.cell? ⟨b, o + 3, none⟩ = some (.slice aa al ac) := (hb23.cell (p := ⟨b, o + 3, none⟩) HP.out.lt).trans c3
            have e4 : w3.cell? ⟨b, o + 4, none⟩ = some (.slice ka kl kc) := (hb23.cell (p := ⟨b, o + 4, none⟩) HP.out.lt).trans c4
            have f3' : w3.frozen? ⟨b, o + 3, none⟩ = false := (hb23.frozen (p := ⟨b, o + 3, none⟩) HP.out.lt).trans f3
            have f4' : w3.frozen? ⟨b, o + 4, none⟩ = false := (hb23.frozen (p := ⟨b, o + 4, none⟩) HP.out.lt).trans f4
            dsimp only
            refine hK.out _ _ trivial (fun _ => ?_)
            clear hK K
            refine wpAnyH_take (i := 12) (v := ?v12n13) rfl (by kernel_rfl) (by kernel_rfl) (by kernel_rfl) (fun _ _ _ h => h) (Or.inl ⟨by rfl, ?hy12n13⟩) trivial ?rr12n13
            case hy12n13 =>
              intro w hSw
              go_simp
              try with_reducible rfl
            try simp only [Act.put, List.getElem_toArray, List.getElem_cons_succ, List.getElem_cons_zero, List.setIfInBounds_toArray, List.set_cons_zero, List.set_cons_succ]
            refine wpAnyH_take (i := 13) (v := ?v13n14) rfl (by kernel_rfl) (by kernel_rfl) (by kernel_rfl) (fun _ _ _ h => h) (Or.inl ⟨by rfl, ?hy13n14⟩) trivial ?rr13n14
            case hy13n14 =>
              intro w hSw
              go_simp
              try with_reducible rfl
            try simp only [Act.put, List.getElem_toArray, List.getElem_cons_succ, List.getElem_cons_zero, List.setIfInBounds_toArray, List.set_cons_zero, List.set_cons_succ]
            refine wpAnyH_ready (rs := [14]) (by kernel_rfl) (by simp) ?_
            refine AllReadyH.cons rfl (fun K hK => ?_) AllReadyH.nil
            go_simp
            refine hK.out _ _ trivial (fun _ => ?_)
            clear hK K
            refine wpAnyH_take (i := 15) (v := ?v15n15) rfl (by kernel_rfl) (by kernel_rfl) (by kernel_rfl) (fun _ _ _ h => h) (Or.inl ⟨by rfl, ?hy15n15⟩) trivial ?rr15n15
            case hy15n15 =>
              intro w hSw
              go_simp
              try with_reducible rfl
            try simp only [Act.put, List.getElem_toArray, List.getElem_cons_succ, List.getElem_cons_zero, List.setIfInBounds_toArray, List.set_cons_zero, List.set_cons_succ]
            refine wpAnyH_take (i := 16) (v := ?v16n16) rfl (by kernel_rfl) (by kernel_rfl) (by kernel_rfl) (fun _ _ _ h => h) (Or.inl ⟨by rfl, ?hy16n16⟩) trivial ?rr16n16
            case hy16n16 =>
              intro w hSw
              go_simp
              try with_reducible rfl
            try simp only [Act.put, List.getElem_toArray, List.getElem_cons_succ, List.getElem_cons_zero, List.setIfInBounds_toArray, List.set_cons_zero, List.set_cons_succ]
            refine wpAnyH_ready (rs := [17]) (by kernel_rfl) (by simp) ?_
            refine AllReadyH.cons rfl (fun K hK => ?_) AllReadyH.nil
            go_simp
            refine hK.out _ _ trivial (fun _ => ?_)
            clear hK K
            refine wpAnyH_done (by kernel_rfl) ?_ _
            go_wp2_with fail
            go_meet
            case rel => exact ⟨a3, n3, ⟨six_end hkl.out hal.out HP.out hgl hRl c3 c4 HA.out hb2 hb3 ha2 HX.out (HC.out _ (Below.refl _ _)) hn3 hm3 ho3⟩⟩
        ·
          go_simp
          refine hK.out _ _ trivial (fun _ => ?_)
          clear hK K
          refine wpAnyH_ready (rs := [5]) (by kernel_rfl) (by simp) ?_
          refine AllReadyH.cons rfl (fun K hK => ?_) AllReadyH.nil
          go_simp
          refine hK.out _ _ trivial (fun _ => ?_)
          clear hK K
          refine wpAnyH_ready (rs := [6]) (by kernel_rfl) (by simp) ?_
          refine AllReadyH.cons rfl (fun K hK => ?_) AllReadyH.nil
          go_simp
          refine (cloneA_any d1.ats _ wr.heap.size _ (HA2.out) hal6).mono ?_
          rintro e w2 ⟨v2, rfl, ha2, hb2'⟩
          have hb2 : Below wr.heap.size wr w2 := ⟨hb2'.os, hb2'.tape, hb2'.output, hb2'.size, hb2'.block⟩
          clear hb2'
          obtain ⟨a2, n2, rfl, _⟩ := id ha2
          rw [hal.out]
          have c42 : w2.cell? ⟨b, o + 4, none⟩ = some (.slice ka kl kc) := (hb2.cell (p := ⟨b, o + 4, none⟩) HP.out.lt).trans c4
          dsimp only
          refine hK.out _ _ trivial (fun _ => ?_)
          clear hK K
          refine wpAnyH_ready (rs := [11]) (by kernel_rfl) (by simp) ?_
          refine AllReadyH.cons rfl (fun K hK => ?_) AllReadyH.nil
          go_simp
          refine (cloneT_any kl kc ka xs _ HX.out (HC.out _ hb2) HX1.out hkl6).mono ?_
          rintro e w3 ⟨a3, n3, rfl, hb3, ho3, hn3, hm3⟩
          have hb23 := hb2.trans (hb3.mono hb2.size)
          have e3 : w3.cell? ⟨b, o + 3, none⟩ = some (.slice aa al ac) := (hb23.cell (p := ⟨b, o + 3, none⟩) HP.out.lt).trans c3
          have e4 : w3.cell? ⟨b, o + 4, none⟩ = some (.slice ka kl kc) := (hb23.cell (p := ⟨b, o + 4, none⟩) HP.out.lt).trans c4
          have f3' : w3.frozen? ⟨b, o + 3, none⟩ = false := (hb23.frozen (p := ⟨b, o + 3, none⟩) HP.out.lt).trans f3
          have f4' : w3.frozen? ⟨b, o + 4, none⟩ = false := (hb23.frozen (p := ⟨b, o + 4, none⟩) HP.out.lt).trans f4
          dsimp only
          refine hK.out _ _ trivial (fun _ => ?_)
          clear hK K
          refine wpAnyH_take (i := 12) (v := ?v12n17) rfl (by kernel_rfl) (by kernel_rfl) (by kernel_rfl) (fun _ _ _ h => h) (Or.inl ⟨by rfl, ?hy12n17⟩) trivial ?rr12n17
          case hy12n17 =>
            intro w hSw
            go_simp
            try with_reducible rfl
          try simp only [Act.put, List.getElem_toArray, List.getElem_cons_succ, List.getElem_cons_zero, List.setIfInBounds_toArray, List.set_cons_zero, List.set_cons_succ]
          refine wpAnyH_take (i := 13) (v := ?v13n18) rfl (by kernel_rfl) (by kernel_rfl) (by kernel_rfl) (fun _ _ _ h => h) (Or.inl ⟨by rfl, ?hy13n18⟩) trivial ?rr13n18
          case hy13n18 =>
            intro w hSw
            go_simp
            try with_reducible rfl
          try simp only [Act.put, List.getElem_toArray, List.getElem_cons_succ, List.getElem_cons_zero, List.setIfInBounds_toArray, List.set_cons_zero, List.set_cons_succ]
          refine wpAnyH_ready (rs := [14]) (by kernel_rfl) (by simp) ?_
          refine AllReadyH.cons rfl (fun K hK => ?_) AllReadyH.nil
          go_simp
          refine hK.out _ _ trivial (fun _ => ?_)
          clear hK K
          refine wpAnyH_take (i := 15) (v := ?v15n19) rfl (by kernel_rfl) (by kernel_rfl) (by kernel_rfl) (fun _ _ _ h => h) (Or.inl ⟨by rfl, ?hy15n19⟩) trivial ?rr15n19
          case hy15n19 =>
            intro w hSw
            go_simp
            try with_reducible rfl
          try simp only [Act.put, List.getElem_toArray, List.getElem_cons_succ, List.getElem_cons_zero, List.setIfInBounds_toArray, List.set_cons_zero, List.set_cons_succ]
          refine wpAnyH_take (i := 16) (v := ?v16n20) rfl (by kernel_rfl) (by kernel_rfl) (by kernel_rfl) (fun _ _ _ h => h) (Or.inl ⟨by rfl, ?hy16n20⟩) trivial ?rr16n20
          case hy16n20 =>
            intro w hSw
            go_simp
            try with_reducible rfl
          try simp only [Act.put, List.getElem_toArray, List.getElem_cons_succ, List.getElem_cons_zero, List.setIfInBounds_toArray, List.set_cons_zero, List.set_cons_succ]
          refine wpAnyH_ready (rs := [17]) (by kernel_rfl) (by simp) ?_
          refine AllReadyH.cons rfl (fun K hK => ?_) AllReadyH.nil
          go_simp
          refine hK.out _ _ trivial (fun _ => ?_)
          clear hK K
          refine wpAnyH_done (by kernel_rfl) ?_ _
          go_wp2_with fail
          go_meet
          case rel => exact ⟨a3, n3, ⟨six_end hkl.out hal.out HP.out hgl hRl c3 c4 HA.out hb2 hb3 ha2 HX.out (HC.out _ (Below.refl _ _)) hn3 hm3 ho3⟩⟩
      case rest =>
        obtain ⟨ka', kc', hE⟩ := hcut
        have hW0 := hI.out.end6 (ov0 := .slice (some ⟨g, 0, none⟩) m cap) (by rw [hm.out]; exact HO.out) rfl hE.out
        have hsl0 : k1.slots ≤ 1000000 := by have := HP.out.sl; simp only [BT.slots] at this; omega
        have hsum : tot ps0 + k1.size ≤ k.size + 1 ∧ tot ps0 + k1.size + 1 ≤ gk := by
          have h1 := hI.out.sum
          rw [tot_append] at h1 hgf
          have h2 : tot [(⟨b, o, .cons d1 k1 .nil⟩ : Pd)] = (M.F.cons d1 k1 .nil).size + 0 := rfl
          simp only [BT.size] at h2
          omega
        obtain ⟨kb, hkb⟩ : ∃ kb, kl = 0 ∨ (ka' = some ⟨kb, 0, none⟩ ∧ wr.heap.size ≤ kb ∧ kb < wc.heap.size ∧ (∀ q, wc.frozen? ⟨kb, q, none⟩ = false) ∧ FAt (Ne (w.heap.size + 1, Q) g) wc k1 kb 0) := by
          rcases hE.out.kids with h0 | ⟨kb, h1⟩
          · exact ⟨0, .inl (by rw [← hkl.out]; exact h0)⟩
          · exact ⟨kb, .inr h1⟩
        have hc4 := hE.out.c4
        rw [hkl.out] at hc4
        have hcap := hE.out.cap
        rw [hkl.out] at hcap
        have HIN : Fact (InI w Q ⟨K, N, X, A⟩ k (k.size + 1) g b o kb kl kc' ka' k1 ps0 0 wc (.slice (some ⟨g, 0, none⟩) m cap)) := by
          refine ⟨⟨?_, hc4, HP.out.ne, hkb.imp id ?_⟩⟩
          · have : kidsP kb 0 k1 0 = [] := by cases k1 <;> rfl
            rw [this, List.append_nil]
            exact hW0
          · rintro ⟨e1, e2, e3, e4, e5⟩
            have hbw := hI.out.below.size
            have hq1 := hI.out.q
            refine ⟨e1, by omega, ⟨by omega, by show kb ≠ w.heap.size + 1; omega, by show kb ≠ Q; omega⟩, e3, e4, ?_⟩
            have : dropF k1 0 = k1 := by cases k1 <;> rfl
            rw [this]
            exact e5
        have HS := Fact.mk hsum
        clear hE hW0 hkb hsum HA HA2 HX HX1 HC HG HO hI hgl hRl HP f3 f4 c3 c4 cm
        obtain ⟨i0, hii, hz0, hz1, hz2⟩ := info_parts infoP
        have hk0 : (0 : Int) ≤ kl := by omega
        go_wp2_with fail
        go_loopg [3, 42] kl (fun gf ov iv wq => ∃ (i g' cap' : Nat), ov = .slice (some ⟨g', 0, none⟩) (m + i) cap' ∧ iv = .int .i64 i ∧ i ≤ kl ∧ kl ≤ i + gf ∧ Fact (InI w Q ⟨K, N, X, A⟩ k (k.size + 1) g' b o kb kl kc' ka' k1 ps0 i wq ov))
        case atStart => exact ⟨0, g, cap, rfl, rfl, Nat.zero_le _, by omega, HIN⟩
        case round =>
          obtain ⟨i, g', cap', rfl, rfl, hik, hfu, hIN⟩ := hrel
          clear HIN
          have hln : (ps0 ++ kidsP kb 0 k1 i).length = m + i := by rw [List.length_append, hm.out, kidsP_len kb k1 0 i (by rw [hkl.out]; exact hik)]
          by_cases hlt : i < kl
          · have c4 := hIN.out.c4
            have e1 := (hIN.out.kids.resolve_left (by omega)).1
            subst e1
            obtain ⟨XS, hXS⟩ : ∃ XS, Fact ((ps0 ++ kidsP kb 0 k1 i).map ptrP = XS) := ⟨_, ⟨rfl⟩⟩
            have hown := hIN.out.inv.own
            rw [hln, hXS.out] at hown
            have hbd : m + i ≤ 1000000 := by
              have h1 := len_tot _ (fun p hp => (hIN.out.inv.pend p hp).one)
              have h2 := hIN.out.inv.sum
              omega
            have HOW := Fact.mk (hown.alloc (.cells #[.pointer (some ⟨kb, i * 5, none⟩)] 85))
            have hsz := hIN.out.inv.below.size
            have n1 : (0 : Int) ≤ i := by omega
            have n2 : (i : Int) < kl := by omega
            have n3 : (kl : Int) ≤ kc' := by omega
            clear hown
            go_wp2_with (at_builtin; refine wpList_append_own_at _ rfl (.tmp 45) (.tmp 52) 86 rfl w.heap.size 85 i0 (.pointer none) 1 8 Try.underlying86 hii hz0 hz1 hz2 rfl (by decide) (.slice (some ⟨g', 0, none⟩) (m + i) cap') (m + i) XS rfl HOW.out ⟨wr.heap.size, 0, none⟩ 1 1 [.pointer (some ⟨kb, i * 5, none⟩)] rfl rfl (cell_one_new _ _ _) (by intro u hu; rw [List.mem_singleton] at hu; subst hu; rfl) (by unfold maxLen; omega) (by omega) (by simp; omega) ?_; intro v' w1 hown' hgrow hnil hloc)
            have hown2 : w1.ownsRow w.heap.size 85 1 v' ((ps0 ++ kidsP kb 0 k1 i).length + 1) ((ps0 ++ kidsP kb 0 k1 i).map ptrP ++ [.pointer (some ⟨kb, i * 5, none⟩)]) := by
              rw [hln, hXS.out]; exact hown'
            have hloc2 : v'.ownBlock = (Value.slice (some ⟨g', 0, none⟩) (m + i) cap').ownBlock ∨ v'.ownBlock = some (wr.heap.size + 1) := by
              rcases hloc with h | h
              · exact .inl h
              · exact .inr (by rw [h]; simp)
            obtain ⟨g2, cap2, hv2, hIN2⟩ := hIN.out.next hkl.out hlt HS.out.1 hsl0 hown2 hgrow hloc2
            rw [hln] at hv2
            have HIN2 := Fact.mk hIN2
            clear hown2 hloc2 hown' hgrow hnil hloc hIN2 HOW
            go_roundg (gk - 1)
            case measure => omega
            case rel => exact ⟨i + 1, g2, cap2, hv2, by go_num, by omega, by omega, HIN2⟩
          · have hik2 : i = kl := by omega
            subst hik2
            have hinv := hIN.out.inv
            have htot : tot (ps0 ++ kidsP kb 0 k1 i) ≤ tot ps0 + k1.size := by rw [tot_append]; have := kidsP_le kb k1 0 i; omega
            have HINV := Fact.mk hinv
            have HTOT := Fact.mk htot
            have hln2 := hln.symm
            clear hinv htot hIN hfu hlt
            go_wp2_with fail
            go_roundg (tot ps0 + k1.size)
            case measure => have := HS.out.2; omega
            case rel => exact ⟨_, g', cap', by rw [hln], HTOT.out, HINV⟩
end Go.Proofs.Ytjjkidenlgghkaa
