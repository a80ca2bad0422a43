/- grown: a node by numbers, and all in it. -/
import Derived.Test.YtibagbnnplpfgaaDoorGrowM
import Derived.Deep.DrawnRows
set_option linter.unusedVariables false
namespace Go.Proofs.YtibagbnnplpfgaaDoor
open Go.Deep (BT)
open Go.RowKit M
attribute [local go_sem ↓] Go.wp_at_zero Go.wp_at_succ

/-- all is kept but the block Y and the two counters -/
structure KA (A Y : Nat) (w w' : World) : Prop where
  os : w'.os = w.os
  tape : w'.tape = w.tape
  output : w'.output = w.output
  size : w.heap.size ≤ w'.heap.size
  block : ∀ k, k < w.heap.size → k ≠ Y → k ≠ A → k ≠ A + 1 → w'.heap[k]? = w.heap[k]?
theorem KA.refl (A Y : Nat) (w : World) : KA A Y w w := ⟨rfl, rfl, rfl, Nat.le_refl _, fun _ _ _ _ _ => rfl⟩
theorem KA.keep {A Y : Nat} {w w' : World} (h : KA A Y w w') {n : Nat} (hY : n ≤ Y) (hn : n ≤ w.heap.size) : ∀ k, k < n → (k < A ∨ A + 2 ≤ k) → w'.heap[k]? = w.heap[k]? := fun k hk hc => h.block k (by omega) (by omega) (by omega) (by omega)

theorem KA.below {A Y n0 : Nat} {w w' : World} (h : KA A Y w w') (h1 : n0 ≤ A) (h2 : A < Y) (h3 : n0 ≤ w.heap.size) : Below n0 w w' := ⟨h.os, h.tape, h.output, h.size, fun k hk => h.block k (by omega) (by omega) (by omega) (by omega)⟩
/-- trees one behind the other, by numbers, each so deep at most -/
def GRs (deep : Nat) (rs : List Nw) : Prop := ∀ r ∈ rs, GNd r.d r.k.len ∧ gOK r.k ∧ r.k.depth + (deep + 1) ≤ 6
def rsz : List Nw → Nat
  | [] => 0
  | r :: rs => 1 + r.k.size + rsz rs
theorem rsz_snoc : ∀ (rs : List Nw) (r : Nw), rsz (rs ++ [r]) = rsz rs + (1 + r.k.size)
  | [], r => by simp [rsz]
  | x :: rs, r => by
    show 1 + x.k.size + rsz (rs ++ [r]) = 1 + x.k.size + rsz rs + _
    rw [rsz_snoc rs r]; omega
theorem forF_size : ∀ rs : List Nw, (forF rs).size = rsz rs
  | [] => rfl
  | r :: rs => by show 1 + r.k.size + (forF rs).size = 1 + r.k.size + rsz rs; rw [forF_size rs]
theorem GRs.snoc {deep : Nat} {rs : List Nw} {r : Nw} (h : GRs deep rs) (h2 : GNd r.d r.k.len ∧ gOK r.k ∧ r.k.depth + (deep + 1) ≤ 6) : GRs deep (rs ++ [r]) := fun x hx => by
  rcases List.mem_append.1 hx with hx | hx
  · exact h x hx
  · rw [List.mem_singleton.1 hx]; exact h2
theorem GRs.ok {deep : Nat} : ∀ {rs : List Nw}, GRs deep rs → gOK (forF rs)
  | [], _ => trivial
  | r :: rs, h => ⟨(h r List.mem_cons_self).1, (h r List.mem_cons_self).2.1, GRs.ok (rs := rs) (fun x hx => h x (List.mem_cons_of_mem _ hx))⟩
theorem GRs.deep {deep : Nat} (hd : deep ≤ 6) : ∀ {rs : List Nw}, GRs deep rs → (forF rs).depth + deep ≤ 6
  | [], _ => by show 0 + deep ≤ 6; omega
  | r :: rs, h => by
    have h1 := (h r List.mem_cons_self).2.2
    have h2 := GRs.deep hd (rs := rs) (fun x hx => h x (List.mem_cons_of_mem _ hx))
    show max (r.k.depth + 1) (forF rs).depth + deep ≤ 6
    omega
theorem cell_two_new (w : World) (a b : Value) (t : TypeId) : ∀ (j : Nat) (u : Value), [a, b][j]? = some u → (w.alloc (.cells #[a, b] t)).cell? ((⟨w.heap.size, 0, none⟩ : Addr).add j) = some u := by
  intro j u h
  rw [add_cell, Nat.zero_add]
  have := World.cell?_alloc_new w #[a, b] t j
  rw [this]
  simpa using h
theorem news2 (W : World) (x y : Value) (t : TypeId) (b : Nat) (hb : W.heap.size = b) : ∀ (j : Nat) (u : Value), [x, y][j]? = some u → (W.alloc (.cells #[x, y] t)).drew.cell? ((⟨b, 0, none⟩ : Addr).add j) = some u := by
  subst hb; exact cell_two_new W x y t
theorem Five.put3 {w : World} {b : Nat} {v0 v1 v2 v3 v4 : Value} (h : Five w b v0 v1 v2 v3 v4) (v : Value) : Five (w.setCell ⟨b, 3, none⟩ v) b v0 v1 v2 v v4 :=
  ⟨(World.cell?_setCell_other _ _ _ _ (by simp)).trans h.c0, (World.cell?_setCell_other _ _ _ _ (by simp)).trans h.c1, (World.cell?_setCell_other _ _ _ _ (by simp)).trans h.c2, World.cell?_setCell_same' _ _ _ (by rw [h.c3]; rfl), (World.cell?_setCell_other _ _ _ _ (by simp)).trans h.c4, fun o => by rw [World.frozen?_setCell]; exact h.fz o⟩
theorem rowA_snoc (l : List (ByteArray × ByteArray)) (p : ByteArray × ByteArray) : rowA (l ++ [p]) = rowA l ++ [.string p.1, .string p.2] := by
  simp [rowA]
/-- an attribute appended: what is there then -/
theorem put_attr {w2 wc w3 : World} {Y : Nat} {nm : ByteArray} {av av' : Value} {ats : List (ByteArray × ByteArray)} {p : ByteArray × ByteArray} {o : Obj} {n1 : Nat} (hn1 : ats.length = n1) (hf : Five wc Y (.int .i64 2) (.string nm) (.string ⟨#[]⟩) av (.slice none 0 0)) (hb : Below Y w2 wc) (hown : wc.ownsRow (Y + 1) 37 2 av ats.length (rowA ats))
    (h3 : w3.ownsRow (Y + 1) 37 2 av' (n1 + 1) (rowA ats ++ [.string p.1, .string p.2])) (hg : (wc.alloc o).drew.grownBy w3 av.ownBlock) :
    Five w3 Y (.int .i64 2) (.string nm) (.string ⟨#[]⟩) av (.slice none 0 0) ∧ Five (w3.setCell ⟨Y, 3, none⟩ av') Y (.int .i64 2) (.string nm) (.string ⟨#[]⟩) av' (.slice none 0 0) ∧ Below Y w2 (w3.setCell ⟨Y, 3, none⟩ av') ∧ (w3.setCell ⟨Y, 3, none⟩ av').ownsRow (Y + 1) 37 2 av' (ats ++ [p]).length (rowA (ats ++ [p])) := by
  have hY := hf.lt
  have hblk : ∀ b, some b = av.ownBlock → Y + 1 ≤ b := fun b hb => by
    rcases hown.2 with ⟨rfl, _⟩ | ⟨g, cap, cur, rfl, hg, hh, _⟩
    · cases hb
    · have : b = g := Option.some.inj hb
      subst this
      exact hg
  have hsz : wc.heap.size + 1 ≤ w3.heap.size := by have := hg.size; simpa using this
  have hsame : ∀ b, b ≤ Y → w3.heap[b]? = wc.heap[b]? := fun b hb => (hg.block b (by simp; omega) (fun e => by have := hblk b e; omega)).trans (Below.heap_alloc wc o b (by omega))
  have f3 := hf.same (hsame Y (Nat.le_refl _))
  have hB3 : Below Y w2 w3 := ⟨hg.os.trans hb.os, hg.tape.trans hb.tape, hg.output.trans hb.output, by have := hb.size; omega, fun b hk => (hsame b (by omega)).trans (hb.block b hk)⟩
  refine ⟨f3, f3.put3 av', hB3.setCell (p := ⟨Y, 3, none⟩) (Nat.le_refl _) _, ?_⟩
  rw [List.length_append, List.length_singleton, rowA_snoc, hn1]
  exact ownsRow_setCell_below h3 (by show Y < Y + 1; omega) _

/-- what a node by numbers is, and where it lies -/
structure Grew (A m deep : Nat) (w w' : World) (d : Nd) (k : M.F) (av kv : Value) (c' : Nat) : Prop where
  nd : GNd d k.len
  ok : gOK k
  deep : k.depth + deep ≤ 6
  most : m + 1 + k.size ≤ 40
  cm : c' ≤ m + 1 + k.size + 1
  keep : Keep A (A + 2) w w'
  at_ : Cnt w' A c'
  num : Cnt w' (A + 1) (m + 1 + k.size)
  a : AS (fun b => w.heap.size ≤ b) w' av d.ats
  f : FL (fun b => w.heap.size ≤ b) w' kv k
def GrP (deep : Nat) : Prop := ∀ (v : Value) (ln n0 A c m : Nat) (w : World), IsL n0 w v ln → n0 ≤ A → A + 2 ≤ w.heap.size → Cnt w A c → Cnt w (A + 1) m → m ≤ 39 → c ≤ m + 1 →
  Calls Tryd.prog 32 #[v, .pointer (some ⟨A, 0, none⟩), .pointer (some ⟨A + 1, 0, none⟩), .int .i64 deep] w fun e w' => ∃ d k av kv c', e = .returned (nodeV d av kv) ∧ Grew A m deep w w' d k av kv c'

theorem grew_leaf {A m deep : Nat} {w w2 W5 : World} {d : Nd} {c' : Nat} (hd : deep ≤ 6) (hm : m ≤ 39) (hnd : GNd d 0) (hat : d.ats = []) (hc : c' ≤ m + 2) (hA : A + 2 ≤ w.heap.size) (hk : Keep A (A + 2) w w2) (hoth : ∀ b, b ≠ w.heap.size → W5.heap[b]? = w2.heap[b]?) (hos : W5.os = w2.os ∧ W5.tape = w2.tape ∧ W5.output = w2.output ∧ W5.heap.size = w2.heap.size) (ha : Cnt w2 A c') (hn : Cnt w2 (A + 1) (m + 1)) :
    Grew A m deep w W5 d .nil (.slice none 0 0) (.slice none 0 0) c' := by
  refine ⟨hnd, trivial, by show 0 + deep ≤ 6; omega, by show m + 1 + 0 ≤ 40; omega, by show c' ≤ m + 1 + 0 + 1; omega, ?_, ha.same (hoth _ (by omega)), hn.same (hoth _ (by omega)), by rw [hat]; exact AS.nothing, FL.nothing⟩
  exact ⟨hos.1.trans hk.os, hos.2.1.trans hk.tape, hos.2.2.1.trans hk.output, by rw [hos.2.2.2]; exact hk.size, fun b hb hc => (hoth b (by omega)).trans (hk.block b hb hc)⟩

/-- one kid more -/
theorem kid_step {A Y deep m mm c5 : Nat} {wc wr w5 w3 : World} {d : Nd} {av v v' : Value} {rs : List Nw} {d5 : Nd} {k5 : M.F} {y z : Value} {o : Obj}
    (hA : A + 2 ≤ Y) (hrow : RowAt wc.heap.size Y wr d av v rs) (hka : KA A Y wc wr) (hgr : GRs deep rs) (hme : mm = m + rsz rs) (hg5 : Grew A mm (deep + 1) wr.drew w5 d5 k5 y z c5)
    (ho3 : w3.ownsRow wc.heap.size 25 5 v' (rs.length + 1) (rowF rs ++ cells5 ⟨d5, k5, y, z⟩)) (hg3 : (w5.alloc o).grownBy w3 v.ownBlock) (hat : v'.ownBlock = v.ownBlock ∨ v'.ownBlock = some (w5.alloc o).heap.size) :
    RowAt wc.heap.size Y (w3.setCell ⟨Y, 4, none⟩ v') d av v' (rs ++ [⟨d5, k5, y, z⟩]) ∧ KA A Y wc (w3.setCell ⟨Y, 4, none⟩ v') ∧ Cnt (w3.setCell ⟨Y, 4, none⟩ v') A c5 ∧ Cnt (w3.setCell ⟨Y, 4, none⟩ v') (A + 1) (mm + 1 + k5.size) ∧ GRs deep (rs ++ [⟨d5, k5, y, z⟩]) ∧ mm + 1 + k5.size = m + rsz (rs ++ [⟨d5, k5, y, z⟩]) := by
  have hk5 := hg5.keep
  have hz5 : wr.heap.size ≤ w5.heap.size := hk5.size
  have hwr : wc.heap.size ≤ wr.heap.size := hrow.size
  have hlt := hrow.lt
  have hoth := hrow.other (v' := v') hz5 hg3
  have h2 : (w3.setCell ⟨Y, 4, none⟩ v').heap.size = w3.heap.size := by simp [World.setCell]
  have h3 : w5.heap.size + 1 ≤ w3.heap.size := by have := hg3.size; simpa using this
  refine ⟨hrow.step (r := ⟨d5, k5, y, z⟩) hz5 (fun b hb hz => hk5.block b hz (.inr (by omega))) hg5.a hg5.f ho3 hg3 hat, ?_, hg5.at_.same (hoth _ (by omega) (by omega)), hg5.num.same (hoth _ (by omega) (by omega)), hgr.snoc ⟨hg5.nd, hg5.ok, hg5.deep⟩, ?_⟩
  · exact ⟨hg3.os.trans (hk5.os.trans hka.os), hg3.tape.trans (hk5.tape.trans hka.tape), hg3.output.trans (hk5.output.trans hka.output), by omega, fun b hb h1 h2 h3 => (hoth b hb h1).trans ((hk5.block b (by show b < wr.heap.size; omega) (by omega)).trans (hka.block b hb h1 h2 h3))⟩
  · rw [rsz_snoc, hme]; show _ = m + (rsz rs + (1 + k5.size)); omega
/-- an element by numbers, at its end -/
theorem grew_elem {A m deep mm c3 : Nat} {w w2 wc wr : World} {nm : ByteArray} {ats : List (ByteArray × ByteArray)} {va v : Value} {rs : List Nw} (hd : deep ≤ 6) (hA : A + 2 ≤ w.heap.size) (hz2 : w.heap.size + 1 ≤ w2.heap.size) (hk2 : Keep A (A + 2) w w2) (hnm : GNm nm) (hga : GAt ats) (hB2 : Below w2.heap.size w2 wc) (hown : wc.ownsRow (w2.heap.size + 1) 37 2 va ats.length (rowA ats)) (hYc : w2.heap.size < wc.heap.size)
    (hrow : RowAt wc.heap.size w2.heap.size wr ⟨2, nm, ⟨#[]⟩, ats⟩ va v rs) (hka : KA A w2.heap.size wc wr) (hcA : Cnt wr A c3) (hcN : Cnt wr (A + 1) mm) (hgr : GRs deep rs) (hme : mm = m + 1 + rsz rs) (hM : mm ≤ 40) (hc3 : c3 ≤ mm + 1) :
    Grew A m deep w (((((wr.setCell ⟨w.heap.size, 0, none⟩ (.int .i64 2)).setCell ⟨w.heap.size, 1, none⟩ (.string nm)).setCell ⟨w.heap.size, 2, none⟩ (.string ⟨#[]⟩)).setCell ⟨w.heap.size, 3, none⟩ va).setCell ⟨w.heap.size, 4, none⟩ v) ⟨2, nm, ⟨#[]⟩, ats⟩ (forF rs) va v c3 := by
  obtain ⟨W5, hW5⟩ : ∃ W5, (((((wr.setCell ⟨w.heap.size, 0, none⟩ (.int .i64 2)).setCell ⟨w.heap.size, 1, none⟩ (.string nm)).setCell ⟨w.heap.size, 2, none⟩ (.string ⟨#[]⟩)).setCell ⟨w.heap.size, 3, none⟩ va).setCell ⟨w.heap.size, 4, none⟩ v) = W5 := ⟨_, rfl⟩
  have hoth : ∀ b, b ≠ w.heap.size → W5.heap[b]? = wr.heap[b]? := fun b hb => by
    rw [← hW5]; exact five_other wr w.heap.size hb _ _ _ _ _
  have hB : Below w.heap.size wr W5 := by
    rw [← hW5]
    exact (((((Below.refl _ wr).setCell (p := ⟨w.heap.size, 0, none⟩) (Nat.le_refl _) _).setCell (p := ⟨w.heap.size, 1, none⟩) (Nat.le_refl _) _).setCell (p := ⟨w.heap.size, 2, none⟩) (Nat.le_refl _) _).setCell (p := ⟨w.heap.size, 3, none⟩) (Nat.le_refl _) _).setCell (p := ⟨w.heap.size, 4, none⟩) (Nat.le_refl _) _
  rw [hW5]
  have hsz := hme
  rw [← forF_size] at hsz
  have hwr : wc.heap.size ≤ wr.heap.size := hrow.size
  have hz2' := hk2.size
  refine ⟨.inr (.inr ⟨rfl, hnm, rfl, hga⟩), hgr.ok, hgr.deep hd, by omega, by omega, ⟨hB.os.trans (hka.os.trans (hB2.os.trans hk2.os)), hB.tape.trans (hka.tape.trans (hB2.tape.trans hk2.tape)), hB.output.trans (hka.output.trans (hB2.output.trans hk2.output)), by have := hB.size; have := hB2.size; omega, fun b hb hc => (hoth b (by omega)).trans ((hka.block b (by omega) (by omega) (by omega) (by omega)).trans ((hB2.block b (by omega)).trans (hk2.block b hb hc)))⟩, hcA.same (hoth _ (by omega)), by rw [← hsz]; exact hcN.same (hoth _ (by omega)), ?_, ?_⟩
  · have hx := (own_AS hown).inn
    exact (hx.like (w' := W5) (fun b hb hz => (hoth b (by have := hb.1; omega)).trans (hka.block b hz (by have := hb.1; omega) (by have := hb.1; omega) (by have := hb.1; omega)))).mono (fun b hb => by have := hb.1; omega)
  · have hx := hrow.out
    exact (hx.like (w' := W5) (fun b hb hz => hoth b (by have := hb.1; omega))).mono (fun b hb => by have := hb.1; omega)
theorem grew_set {A m deep : Nat} {w w2 : World} {K : Int} {X : ByteArray} {c' : Nat} (hd : deep ≤ 6) (hm : m ≤ 39) (hnd : GNd ⟨K, ⟨#[]⟩, X, []⟩ 0) (hc : c' ≤ m + 2) (hA : A + 2 ≤ w.heap.size) (hk : Keep A (A + 2) w w2) (ha : Cnt w2 A c') (hn : Cnt w2 (A + 1) (m + 1)) :
    Grew A m deep w (((((w2.setCell ⟨w.heap.size, 0, none⟩ (.int .i64 K)).setCell ⟨w.heap.size, 1, none⟩ (.string ⟨#[]⟩)).setCell ⟨w.heap.size, 2, none⟩ (.string X)).setCell ⟨w.heap.size, 3, none⟩ (.slice none 0 0)).setCell ⟨w.heap.size, 4, none⟩ (.slice none 0 0)) ⟨K, ⟨#[]⟩, X, []⟩ .nil (.slice none 0 0) (.slice none 0 0) c' := by
  obtain ⟨W5, hW5⟩ : ∃ W5, ((((w2.setCell ⟨w.heap.size, 0, none⟩ (.int .i64 K)).setCell ⟨w.heap.size, 1, none⟩ (.string ⟨#[]⟩)).setCell ⟨w.heap.size, 2, none⟩ (.string X)).setCell ⟨w.heap.size, 3, none⟩ (.slice none 0 0)).setCell ⟨w.heap.size, 4, none⟩ (.slice none 0 0) = W5 := ⟨_, rfl⟩
  have h1 : ∀ b, b ≠ w.heap.size → W5.heap[b]? = w2.heap[b]? := fun b hb => by
    rw [← hW5]; exact five_other w2 w.heap.size hb (.int .i64 K) (.string ⟨#[]⟩) (.string X) (.slice none 0 0) (.slice none 0 0)
  have h2 : W5.os = w2.os ∧ W5.tape = w2.tape ∧ W5.output = w2.output ∧ W5.heap.size = w2.heap.size := by
    have hB : Below w.heap.size w2 W5 := by
      rw [← hW5]
      exact (((((Below.refl _ w2).setCell (p := ⟨w.heap.size, 0, none⟩) (Nat.le_refl _) _).setCell (p := ⟨w.heap.size, 1, none⟩) (Nat.le_refl _) _).setCell (p := ⟨w.heap.size, 2, none⟩) (Nat.le_refl _) _).setCell (p := ⟨w.heap.size, 3, none⟩) (Nat.le_refl _) _).setCell (p := ⟨w.heap.size, 4, none⟩) (Nat.le_refl _) _
    exact ⟨hB.os, hB.tape, hB.output, by rw [← hW5]; simp [World.setCell]⟩
  rw [hW5]
  exact grew_leaf hd hm hnd rfl hc hA hk h1 h2 ha hn
theorem name_at4 (q : Nat) (hq : q < 4) : ∃ nm, GNm nm ∧ ∀ W : World, (Instr.index 34 (.agg #[.string ⟨#[98]⟩, .string ⟨#[112]⟩, .string ⟨#[100, 105, 118]⟩, .string ⟨#[108, 105]⟩]) (.int .i64 q)).run Tryd.prog W = .ok (.string nm) W := by
  rcases lt4 hq with rfl | rfl | rfl | rfl
  · exact ⟨_, .inl rfl, fun W => by simp [Instr.index, go_sem]⟩
  · exact ⟨_, .inr (.inl rfl), fun W => by simp [Instr.index, go_sem]⟩
  · exact ⟨_, .inr (.inr (.inl rfl)), fun W => by simp [Instr.index, go_sem]⟩
  · exact ⟨_, .inr (.inr (.inr rfl)), fun W => by simp [Instr.index, go_sem]⟩

set_option maxRecDepth 400000 in
set_option maxHeartbeats 2000000 in
theorem grown_step (deep : Nat) (hd : deep ≤ 6) (ih : deep ≤ 5 → GrP (deep + 1)) : GrP deep := by
  intro v ln n0 A c m w hl hn hA hc hm hm1 hcm
  obtain ⟨a, cap, rfl, h1, h2, h3⟩ := hl.h
  have c0 : ∀ o, (w.alloc o).cell? ⟨A + 1, 0, none⟩ = some (.int .i64 m) := fun o => (World.cell?_alloc_lt _ _ _ hm.lt).trans hm.c
  have c1 : ∀ o, (w.alloc o).frozen? ⟨A + 1, 0, none⟩ = false := fun o => (World.frozen?_of_block (w := w) (a := ⟨A + 1, 0, none⟩) (Below.heap_alloc _ _ _ hm.lt)).trans hm.f
  obtain ⟨W1, hW1⟩ : ∃ W1, (w.alloc (.cells #[.int .i64 0, .string ⟨#[]⟩, .string ⟨#[]⟩, .slice none 0 0, .slice none 0 0] 25)).setCell ⟨A + 1, 0, none⟩ (.int .i64 (m + 1)) = W1 := ⟨_, rfl⟩
  have hK1 : Keep A (A + 2) w W1 := by rw [← hW1]; exact ((Keep.refl _ _ _).alloc _).setCell (p := ⟨A + 1, 0, none⟩) (by simp) (by simp) _
  have hz1 : W1.heap.size = w.heap.size + 1 := by rw [← hW1]; simp [World.setCell]
  have hR1 : Five W1 w.heap.size (.int .i64 0) (.string ⟨#[]⟩) (.string ⟨#[]⟩) (.slice none 0 0) (.slice none 0 0) := by
    rw [← hW1]; exact (Five.new w _ _ _ _ _ _).same (Below.heap_setCell _ _ _ _ (by simp; omega))
  have hN1 : Cnt W1 (A + 1) (m + 1) := by
    rw [← hW1]
    have hx : Cnt (w.alloc (.cells #[.int .i64 0, .string ⟨#[]⟩, .string ⟨#[]⟩, .slice none 0 0, .slice none 0 0] 25)) (A + 1) m := hm.keep (n := A + 2) (B := A + 2) ((Keep.refl _ _ _).alloc _) (by omega)
    have := hx.put (m + 1)
    exact this
  have hC1 : Cnt W1 A c := by
    rw [← hW1]
    have hx : Keep (A + 1) (A + 2) w ((w.alloc (.cells #[.int .i64 0, .string ⟨#[]⟩, .string ⟨#[]⟩, .slice none 0 0, .slice none 0 0] 25)).setCell ⟨A + 1, 0, none⟩ (.int .i64 (m + 1))) := ((Keep.refl _ _ _).alloc _).setCell (p := ⟨A + 1, 0, none⟩) (by simp) (by simp) _
    exact hc.keep hx (by omega)
  have HL1 := Fact.mk (hl.below (hK1.below (by omega) |>.mono hn))
  have HW1 := Fact.mk hW1
  have HK1 := Fact.mk hK1
  have HR1 := Fact.mk hR1
  have HN1 := Fact.mk hN1
  have HC1 := Fact.mk hC1
  have HI := Fact.mk ih
  clear hW1 hK1 hR1 hN1 hC1 hl h3 ih
  go_enter Tryd.func32, Tryd.ntmps32
  go_wp2_with fail
  rw [HW1.out]
  refine (next_any _ ln n0 A c W1 HL1.out hn HC1.out (by omega)).mono ?_
  rintro e w2 ⟨r, c', rfl, hr, hk2, hcn2, hc2⟩
  have HK2 := Fact.mk (HK1.out.trans (hk2.mono (Nat.le_refl _) (by omega)))
  have HN2 := Fact.mk (HN1.out.keep hk2 (by omega))
  have HR2 := Fact.mk (HR1.out.same (hk2.block _ (by omega) (by omega)))
  have HC2 := Fact.mk hcn2
  have HL2 := Fact.mk (HL1.out.below (hk2.below (by omega) |>.mono hn))
  have hz2 : w.heap.size + 1 ≤ w2.heap.size := by have := hk2.size; omega
  obtain ⟨r0, r1, r2, r3, r4, rfz⟩ := id HR2.out
  have rf0 := rfz 0
  have rf1 := rfz 1
  have rf2 := rfz 2
  have rf3 := rfz 3
  have rf4 := rfz 4
  clear hk2 hcn2 HK1 HN1 HR1 HC1 HL1 HW1 hc hm c0 c1 rfz
  by_cases h7 : r % 7 = 0
  · obtain ⟨q, hq⟩ : ∃ q, r / 7 % 4 = q := ⟨_, rfl⟩
    have hqI : (r : Int) / 7 % 4 = q := by omega
    have hq4 : q < 4 := by omega
    have hq1 : (q : Int) ≤ 3 := by omega
    have HG := Fact.mk (grew_set (K := 4) (X := tXyz.extract 0 q) hd hm1 (.inl ⟨rfl, rfl, ⟨q, hq4, rfl⟩, rfl, rfl⟩) (by omega) hA HK2.out HC2.out HN2.out)
    have H5 := Fact.mk (five_all HR2.out (.int .i64 4) (.string ⟨#[]⟩) (.string (tXyz.extract 0 q)) (.slice none 0 0) (.slice none 0 0))
    go_wp2_with fail
    have h5 := H5.out
    refine bodyPost_ret (v := nodeV ⟨4, ⟨#[]⟩, tXyz.extract 0 q, []⟩ (.slice none 0 0) (.slice none 0 0)) (by simp [results, go_sem, h5.c0, h5.c1, h5.c2, h5.c3, h5.c4]) rfl ?_
    first | exact ⟨_, .nil, _, _, rfl, c', HG.out⟩ | exact ⟨_, .nil, _, _, c', rfl, HG.out⟩
  by_cases h73 : r % 7 < 3 ∨ 5 < deep
  · obtain ⟨q, hq⟩ : ∃ q, r / 7 % 6 = q := ⟨_, rfl⟩
    have hqI : (r : Int) / 7 % 6 = q := by omega
    have hq6 : q < 6 := by omega
    have hq0 : (0 : Int) ≤ q := by omega
    have hq1 : (q : Int) + 1 ≤ 6 := by omega
    have hq2 : (q : Int) ≤ q + 1 := by omega
    have HG := Fact.mk (grew_set (K := 3) (X := tAbc.extract q (q + 1)) hd hm1 (.inr (.inl ⟨rfl, rfl, ⟨q, hq6, rfl⟩, rfl, rfl⟩)) (by omega) hA HK2.out HC2.out HN2.out)
    have H5 := Fact.mk (five_all HR2.out (.int .i64 3) (.string ⟨#[]⟩) (.string (tAbc.extract q (q + 1))) (.slice none 0 0) (.slice none 0 0))
    by_cases h3 : r % 7 < 3
    · clear h73
      go_wp2_with fail
      have h5 := H5.out
      refine bodyPost_ret (v := nodeV ⟨3, ⟨#[]⟩, tAbc.extract q (q + 1), []⟩ (.slice none 0 0) (.slice none 0 0)) (by simp [results, go_sem, h5.c0, h5.c1, h5.c2, h5.c3, h5.c4]) rfl ?_
      first | exact ⟨_, .nil, _, _, rfl, c', HG.out⟩ | exact ⟨_, .nil, _, _, c', rfl, HG.out⟩
    · have h5d : 5 < deep := by omega
      clear h73
      go_wp2_with fail
      have h5 := H5.out
      refine bodyPost_ret (v := nodeV ⟨3, ⟨#[]⟩, tAbc.extract q (q + 1), []⟩ (.slice none 0 0) (.slice none 0 0)) (by simp [results, go_sem, h5.c0, h5.c1, h5.c2, h5.c3, h5.c4]) rfl ?_
      first | exact ⟨_, .nil, _, _, rfl, c', HG.out⟩ | exact ⟨_, .nil, _, _, c', rfl, HG.out⟩
  have h3 : ¬ r % 7 < 3 := by omega
  have h5d : ¬ 5 < deep := by omega
  have HIH : Fact (GrP (deep + 1)) := ⟨HI.out (by omega)⟩
  clear h73 HI
  obtain ⟨Y, hY⟩ : ∃ Y, w2.heap.size = Y := ⟨_, rfl⟩
  obtain ⟨q, hq⟩ : ∃ q, r / 7 % 4 = q := ⟨_, rfl⟩
  have hqI : (r : Int) / 7 % 4 = q := by omega
  have hq4 : q < 4 := by omega
  obtain ⟨nm, hnm, hidx⟩ := name_at4 q hq4
  have HNM := Fact.mk hnm
  clear hnm
  go_upto_if 55 with fail
  subst hY
  obtain ⟨i0, hii, hzz0, hzz1, hzz2⟩ := info_parts infoA
  go_cut [10] (fun xv wc => ∃ (av : Value) (ats : List (ByteArray × ByteArray)), xv = .pointer (some ⟨w2.heap.size, 0, none⟩) ∧ Fact (Five wc w2.heap.size (.int .i64 2) (.string nm) (.string ⟨#[]⟩) av (.slice none 0 0) ∧ GAt1 ats ∧ Below w2.heap.size w2 wc ∧ wc.ownsRow (w2.heap.size + 1) 37 2 av ats.length (rowA ats)))
  case first =>
    by_cases h28 : r / 28 % 3 = 0
    · have h28I : (r : Int) / 28 % 3 = 0 := by omega
      obtain ⟨q2, hq2⟩ : ∃ q, r / 84 % 4 = q := ⟨_, rfl⟩
      have hqI2 : (r : Int) / 84 % 4 = q2 := by omega
      have hq24 : q2 < 4 := by omega
      have hq20 : (0 : Int) ≤ q2 := by omega
      have hq21 : (q2 : Int) + 1 ≤ 4 := by omega
      have hq22 : (q2 : Int) ≤ q2 + 1 := by omega
      have hw84 : IntKind.i64.wrap ((r : Int) / 84) = (r : Int) / 84 := IntWalk.i64_in _ ⟨by omega, by omega⟩
      have htm : ((r : Int) / 84).tmod 4 = q2 := by rw [Int.tmod_eq_emod_of_nonneg (by omega)]; exact hqI2
      have hwq : IntKind.i64.wrap ((q2 : Int) + 1) = (q2 : Int) + 1 := IntWalk.i64_in _ ⟨by omega, by omega⟩
      go_wp2_with fail
      have HN := Fact.mk (news2 (w2.alloc (.cells #[.int .i64 2, .string nm, .string ⟨#[]⟩, .slice none 0 0, .slice none 0 0] 25)) (.string tId) (.string (tNum.extract q2 (q2 + 1))) 37 (w2.heap.size + 1) (by simp))
      go_region_law (first
        | (refine wp_append_at _ (.tmp 57) (.tmp 67) 22 rfl (w2.heap.size + 1) 37 i0 (.agg #[.string ⟨#[]⟩, .string ⟨#[]⟩]) 2 32 Tryd.underlying22 hii hzz0 hzz1 hzz2 rfl (by decide) (.slice none 0 0) 0 [] (by simp [Act.eval]) (World.ownsRow_nil _ _ _ _) ⟨w2.heap.size + 1, 0, none⟩ 1 1 [.string tId, .string (tNum.extract q2 (q2 + 1))] (by simp [Act.eval]) rfl HN.out (by simp [Value.oneCell']) (by unfold maxLen; omega) (by omega) (by simp) ?_; intro v3 w3 hown3 hgrow3 hat3; obtain ⟨g2, cap2, rfl, hg2⟩ := own_succ hown3; have hpa := put_attr (w2 := w2) (ats := []) (p := (tId, tNum.extract q2 (q2 + 1))) rfl (Five.new w2 _ _ _ _ _ _) ((Below.refl _ w2).alloc (Nat.le_refl _) _) (World.ownsRow_nil _ _ _ _) hown3 hgrow3; have s3 := hpa.1.c3; have t3 := hpa.1.fz 3; have HPA := Fact.mk hpa; clear hown3 hgrow3 hat3 hpa))
      all_goals
        go_wp2_with fail
        go_meet
        case rel => exact ⟨_, [(tId, tNum.extract q2 (q2 + 1))], rfl, ⟨HPA.out.2.1, .inr ⟨q2, hq24, rfl⟩, HPA.out.2.2.1, HPA.out.2.2.2⟩⟩
    · have h28I : ¬ (r : Int) / 28 % 3 = 0 := by omega
      have h28B : ((r : Int) / 28 % 3 == 0) = false := by simpa using h28I
      go_wp2_with fail
      go_meet
      case rel => exact ⟨_, [], rfl, ⟨Five.new w2 _ _ _ _ _ _, .inl rfl, (Below.refl _ _).alloc (Nat.le_refl _) _, World.ownsRow_nil _ _ _ _⟩⟩
  case rest =>
    obtain ⟨av, ats, rfl, hcx⟩ := hcut
    rename World => wx
    obtain ⟨va1, vc1, eav⟩ := own_shape hcx.out.2.2.2
    obtain ⟨n1, hn1⟩ : ∃ n1, ats.length = n1 := ⟨_, rfl⟩
    rw [hn1] at eav
    subst eav
    have HN1 := Fact.mk hn1
    have hn1b : n1 ≤ 1 := by
      rcases hcx.out.2.1 with e | ⟨i, _, e⟩ <;> (rw [e] at hn1; simp at hn1; omega)
    clear hn1
    go_upto_if 73 with fail
    have q3 := hcx.out.1.c3
    have q3f := hcx.out.1.fz 3
    have hYx : w2.heap.size < wx.heap.size := hcx.out.1.lt
    go_cut [10] (fun xv wc => ∃ (av : Value) (ats : List (ByteArray × ByteArray)), xv = .pointer (some ⟨w2.heap.size, 0, none⟩) ∧ Fact (Five wc w2.heap.size (.int .i64 2) (.string nm) (.string ⟨#[]⟩) av (.slice none 0 0) ∧ GAt ats ∧ Below w2.heap.size w2 wc ∧ wc.ownsRow (w2.heap.size + 1) 37 2 av ats.length (rowA ats)))
    case first =>
      by_cases h28 : r / 28 % 5 = 0
      · have h28I : (r : Int) / 28 % 5 = 0 := by omega
        obtain ⟨q2, hq2⟩ : ∃ q, r / 84 % 3 = q := ⟨_, rfl⟩
        have hqI2 : (r : Int) / 84 % 3 = q2 := by omega
        have hq24 : q2 < 3 := by omega
        have hq20 : (0 : Int) ≤ q2 := by omega
        have hq21 : (q2 : Int) ≤ 2 := by omega
        have hw84 : IntKind.i64.wrap ((r : Int) / 84) = (r : Int) / 84 := IntWalk.i64_in _ ⟨by omega, by omega⟩
        have htm : ((r : Int) / 84).tmod 3 = q2 := by rw [Int.tmod_eq_emod_of_nonneg (by omega)]; exact hqI2
        go_wp2_with fail
        have HN := Fact.mk (news2 wx (.string tX) (.string (tUv.extract 0 q2)) 37 wx.heap.size rfl)
        have HOA : Fact ((wx.alloc (.cells #[.string tX, .string (tUv.extract 0 q2)] 37)).drew.ownsRow (w2.heap.size + 1) 37 2 (.slice va1 n1 vc1) n1 (rowA ats)) := ⟨by have := hcx.out.2.2.2.alloc (.cells #[.string tX, .string (tUv.extract 0 q2)] 37); rw [HN1.out] at this; exact this⟩
        go_region_law (first
          | (refine wp_append_at _ (.tmp 75) (.tmp 81) 22 rfl (w2.heap.size + 1) 37 i0 (.agg #[.string ⟨#[]⟩, .string ⟨#[]⟩]) 2 32 Tryd.underlying22 hii hzz0 hzz1 hzz2 rfl (by decide) (.slice va1 n1 vc1) n1 (rowA ats) (by simp [Act.eval]) HOA.out ⟨wx.heap.size, 0, none⟩ 1 1 [.string tX, .string (tUv.extract 0 q2)] (by simp [Act.eval]) rfl HN.out (by simp [Value.oneCell']) (by unfold maxLen; omega) (by omega) (by simp; omega) ?_; intro v3 w3 hown3 hgrow3 hat3; obtain ⟨g2, cap2, rfl, hg2⟩ := own_succ hown3; have hpa := put_attr (w2 := w2) (ats := ats) (p := (tX, tUv.extract 0 q2)) HN1.out hcx.out.1 hcx.out.2.2.1 hcx.out.2.2.2 hown3 hgrow3; have s3 := hpa.1.c3; have t3 := hpa.1.fz 3; have HPA := Fact.mk hpa; clear hown3 hgrow3 hat3 hpa))
        all_goals
          go_wp2_with fail
          go_meet
          case rel => exact ⟨_, ats ++ [(tX, tUv.extract 0 q2)], rfl, ⟨HPA.out.2.1, .inr ⟨ats, q2, hcx.out.2.1, hq24, rfl⟩, HPA.out.2.2.1, HPA.out.2.2.2⟩⟩
      · have h28I : ¬ (r : Int) / 28 % 5 = 0 := by omega
        have h28B : ((r : Int) / 28 % 5 == 0) = false := by simpa using h28I
        go_wp2_with fail
        go_meet
        case rel => exact ⟨_, ats, rfl, ⟨hcx.out.1, .inl hcx.out.2.1, hcx.out.2.2.1, hcx.out.2.2.2⟩⟩
    case rest =>
      clear hcx q3 q3f HN1 hn1b
      obtain ⟨av, ats, rfl, hcx⟩ := hcut
      obtain ⟨va1, vc1, eav⟩ := own_shape hcx.out.2.2.2
      obtain ⟨n1, hn1⟩ : ∃ n1, ats.length = n1 := ⟨_, rfl⟩
      rw [hn1] at eav
      subst eav
      clear hn1
      have hYc : w2.heap.size < wc.heap.size := hcx.out.1.lt
      have hAY : A + 2 ≤ w2.heap.size := by omega
      obtain ⟨j0, hj0⟩ : ∃ j, r / 512 % 4 = j := ⟨_, rfl⟩
      have hj0I : (r : Int) / 512 % 4 = j0 := by omega
      have hj03 : j0 ≤ 3 := by omega
      have hBc := hcx.out.2.2.1
      have HCc : Fact (Cnt wc A c' ∧ Cnt wc (A + 1) (m + 1)) := ⟨HC2.out.same (hBc.block _ (by omega)), HN2.out.same (hBc.block _ (by omega))⟩
      have HLc : Fact (IsL n0 wc (.slice a ln cap) ln) := ⟨HL2.out.below (hBc.mono (by omega))⟩
      have HRc : Fact (Five wc w.heap.size (.int .i64 0) (.string ⟨#[]⟩) (.string ⟨#[]⟩) (.slice none 0 0) (.slice none 0 0)) := ⟨HR2.out.same (hBc.block _ (by omega))⟩
      clear hBc r0 r1 r2 r3 r4 rf0 rf1 rf2 rf3 rf4
      go_wp2_with fail
      go_loopg [11] 3 (fun gf iv wr => ∃ (j M : Nat) (rs : List Nw) (v : Value) (c3 : Nat), iv = .int .i64 j ∧ j ≤ gf ∧ j ≤ 3 ∧ M ≤ 40 ∧ c3 ≤ M + 1 ∧ Fact (RowAt wc.heap.size w2.heap.size wr ⟨2, nm, ⟨#[]⟩, ats⟩ (.slice va1 n1 vc1) v rs ∧ KA A w2.heap.size wc wr ∧ Cnt wr A c3 ∧ Cnt wr (A + 1) M ∧ GRs deep rs ∧ M = m + 1 + rsz rs))
      case atStart =>
        exact ⟨j0, m + 1, [], .slice none 0 0, c', by rw [hj0I], hj03, hj03, by omega, by omega, ⟨⟨hcx.out.1, World.ownsRow_nil _ _ _ _, fun r hr => absurd hr (List.not_mem_nil), hYc, Nat.le_refl _⟩, KA.refl _ _ _, HCc.out.1, HCc.out.2, fun r hr => absurd hr (List.not_mem_nil), rfl⟩⟩
      case round =>
        clear hj0I hj0 hj03
        obtain ⟨j, M, rs, v, c3, rfl, hfu, hj3, hM, hc3, hx⟩ := hrel
        obtain ⟨hrow, hka, hcA, hcN, hgr, hMe⟩ := hx.out
        obtain ⟨q0, q1, q2, q3, q4, qf⟩ := id hrow.five
        obtain ⟨va, vc, rfl⟩ := own_shape hrow.own
        obtain ⟨i, hrs⟩ : ∃ i, rs.length = i := ⟨_, rfl⟩
        rw [hrs] at q4 hrow
        have cN := hcN.c
        have HROW := Fact.mk hrow
        have HKA := Fact.mk hka
        have HCA := Fact.mk hcA
        have HCN := Fact.mk hcN
        have HGR := Fact.mk hgr
        have HME := Fact.mk hMe
        have HRS := Fact.mk hrs
        clear hx hrow hka hcA hcN hgr hMe hrs
        by_cases hgo : 0 < j ∧ M < 40
        · obtain ⟨hj, hM40⟩ := hgo
          obtain ⟨j', rfl⟩ : ∃ j', j = j' + 1 := ⟨j - 1, by omega⟩
          obtain ⟨g', rfl⟩ : ∃ g', gk = g' + 1 := ⟨gk - 1, by omega⟩
          have hjI : (0 : Int) < (j' + 1 : Nat) := by omega
          have hMI : (M : Int) < 40 := by omega
          have hjB : decide ((0 : Int) < (j' + 1 : Nat)) = true := decide_eq_true hjI
          have hMB : decide ((M : Int) < 40) = true := decide_eq_true hMI
          have hwd : IntKind.i64.wrap ((deep : Int) + 1) = (deep : Int) + 1 := IntWalk.i64_in _ ⟨by omega, by omega⟩
          have hYr : w2.heap.size < wr.heap.size := by have := HROW.out.size; omega
          have hwr : wc.heap.size ≤ wr.heap.size := HROW.out.size
          have hi40 : i ≤ 40 := by
            have h1 : i ≤ rsz rs := by rw [← HRS.out, ← forF_len rs, ← forF_size]; exact len_size _
            have := HME.out; omega
          have hcall := HIH.out (.slice a ln cap) ln n0 A c3 M wr.drew (HLc.out.below (HKA.out.below hn (by omega) (by omega)).drew) hn (by show A + 2 ≤ wr.heap.size; omega) (HCA.out.same rfl) (HCN.out.same rfl) (by omega) hc3
          rw [show ((deep + 1 : Nat) : Int) = (deep : Int) + 1 by omega] at hcall
          have HCALL := Fact.mk hcall
          have hmx : i + 1 ≤ maxLen := by unfold maxLen; omega
          have hby : (i + 1) * 88 ≤ 140737488355328 := by omega
          have hwcY : ¬ wc.heap.size ≤ w2.heap.size := Nat.not_le.2 hYc
          obtain ⟨i0, hii, hzz0, hzz1, hzz2⟩ := info_parts infoN
          clear hcall hj hM40 qf HLc HRc HCc hidx
          go_wp2_with fail
          go_region_law (first
            | (refine wp_append_at _ (.tmp 98) (.tmp 105) 23 rfl wc.heap.size 25 i0 (.agg #[.int .i64 0, .string ⟨#[]⟩, .string ⟨#[]⟩, .slice none 0 0, .slice none 0 0]) 5 88 Tryd.underlying23 hii hzz0 hzz1 hzz2 rfl (by decide) (.slice va i vc) i (rowF rs) (by simp [Act.eval]) (HO5.out.alloc _) ⟨w5.heap.size, 0, none⟩ 1 1 [.int .i64 d5.k, .string d5.n, .string d5.x, .slice y1 y2 y3, .slice z1 kl5 z3] (by simp [Act.eval]) rfl (cell_five_new _ _ _ _ _ _ _) (by simp [Value.oneCell']) hmx hby (Nat.le_trans hwr (Nat.le_trans hz5 (by simp))) ?_; intro v3 w3 hown3 hgrow3 hat3; obtain ⟨g2, cap2, rfl, hg2⟩ := own_succ hown3; have HO3 := Fact.mk hown3; have HG3 := Fact.mk hgrow3; have HAT3 := Fact.mk hat3; clear hown3 hgrow3 hat3; have hT3 : w3.heap[w2.heap.size]? = wr.heap[w2.heap.size]? := (HG3.out.block w2.heap.size (Nat.lt_of_lt_of_le hYr (Nat.le_trans hz5 (by simp))) (fun e => hwcY (HROW.out.blk w2.heap.size e).1)).trans ((Below.heap_alloc _ _ _ (Nat.lt_of_lt_of_le hYr hz5)).trans (HG5.out.keep.block w2.heap.size hYr (.inr hAY))); have s4 := (HROW.out.five.same hT3).c4; have t4 := (HROW.out.five.same hT3).fz 4; clear hT3)
            | (go_simp; go_at_call 32; refine HCALL.out.mono ?_; rintro e w5 ⟨d5, k5, av5, kv5, c5, rfl, hg5⟩; obtain ⟨y1, y2, y3, ey⟩ := hg5.a.val; subst ey; obtain ⟨kl5, hkl5⟩ : ∃ l, k5.len = l := ⟨_, rfl⟩; obtain ⟨z1, z3, ez⟩ := hg5.f.val; rw [hkl5] at ez; subst ez; have m4 : w5.cell? ⟨w2.heap.size, 4, none⟩ = some (.slice va i vc) := hg5.keep.cell (w := wr.drew) q4 (.inr hAY); have m6 : ∀ o, (w5.alloc o).cell? ⟨w2.heap.size, 4, none⟩ = some (.slice va i vc) := fun o => (World.cell?_alloc_lt _ _ _ (World.block_lt_of_cell? w5 _ m4)).trans m4; have hz5 : wr.heap.size ≤ w5.heap.size := hg5.keep.size; have HO5 : Fact (w5.ownsRow wc.heap.size 25 5 (.slice va i vc) i (rowF rs)) := ⟨own_like (w := wr) (HRS.out ▸ HROW.out.own) (fun k hk hz => hg5.keep.block k hz (.inr (Nat.le_trans hAY (Nat.le_trans (Nat.le_of_lt hYc) hk))))⟩; have HG5 := Fact.mk hg5; have HKL5 := Fact.mk hkl5; clear hg5 hkl5))
          all_goals
            clear m4 m6 HCALL
            go_wp2_with fail
            go_roundg g'
            case measure => omega
            case rel =>
              refine ⟨j', M + 1 + k5.size, rs ++ [⟨d5, k5, .slice y1 y2 y3, .slice z1 kl5 z3⟩], .slice (some ⟨g2, 0, none⟩) (i + 1) cap2, c5, rfl, Nat.le_of_succ_le_succ hfu, Nat.le_of_succ_le hj3, HG5.out.most, HG5.out.cm, ⟨?_⟩⟩
              exact kid_step hAY (HRS.out ▸ HROW.out) HKA.out HGR.out HME.out (HKL5.out ▸ HG5.out) (by rw [HRS.out]; exact HO3.out) HG3.out HAT3.out
        · have hR : Five wr w.heap.size (.int .i64 0) (.string ⟨#[]⟩) (.string ⟨#[]⟩) (.slice none 0 0) (.slice none 0 0) := HRc.out.same (HKA.out.block _ (by omega) (by omega) (by omega) (by omega))
          obtain ⟨r0, r1, r2, r3, r4, rfz⟩ := id hR
          have rf0 := rfz 0
          have rf1 := rfz 1
          have rf2 := rfz 2
          have rf3 := rfz 3
          have rf4 := rfz 4
          have H5 := Fact.mk (five_all hR (.int .i64 2) (.string nm) (.string ⟨#[]⟩) (.slice va1 n1 vc1) (.slice va i vc))
          have HG := Fact.mk (grew_elem hd hA hz2 HK2.out HNM.out hcx.out.2.1 hcx.out.2.2.1 hcx.out.2.2.2 hYc HROW.out HKA.out HCA.out HCN.out HGR.out HME.out hM hc3)
          clear rfz qf hR hidx HIH
          by_cases hj : 0 < j
          · have hM40 : ¬ M < 40 := fun h => hgo ⟨hj, h⟩
            have hjI : (0 : Int) < j := by omega
            have hMI : ¬ (M : Int) < 40 := by omega
            have hMB : decide ((M : Int) < 40) = false := decide_eq_false hMI
            have hjB : decide ((0 : Int) < j) = true := decide_eq_true hjI
            clear hgo
            go_wp2_with fail
            have h5 := H5.out
            refine bodyPost_ret (v := nodeV ⟨2, nm, ⟨#[]⟩, ats⟩ (.slice va1 n1 vc1) (.slice va i vc)) (by simp [results, go_sem, h5.c0, h5.c1, h5.c2, h5.c3, h5.c4]) rfl ?_
            first | exact ⟨_, _, _, _, rfl, c3, HG.out⟩ | exact ⟨_, _, _, _, c3, rfl, HG.out⟩
          · have hjI : ¬ (0 : Int) < j := by omega
            have hjB : decide ((0 : Int) < j) = false := decide_eq_false hjI
            clear hgo
            go_wp2_with fail
            have h5 := H5.out
            refine bodyPost_ret (v := nodeV ⟨2, nm, ⟨#[]⟩, ats⟩ (.slice va1 n1 vc1) (.slice va i vc)) (by simp [results, go_sem, h5.c0, h5.c1, h5.c2, h5.c3, h5.c4]) rfl ?_
            first | exact ⟨_, _, _, _, rfl, c3, HG.out⟩ | exact ⟨_, _, _, _, c3, rfl, HG.out⟩
end Go.Proofs.YtibagbnnplpfgaaDoor
