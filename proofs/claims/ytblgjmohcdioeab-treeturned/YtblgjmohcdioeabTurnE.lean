/- What stays while the three trees are held against one another. -/
import Derived.Test.YtblgjmohcdioeabTurnI
set_option linter.unusedVariables false
namespace Go.Proofs.Ytblgjmohcdioeab
open Go.Deep (BT)
open Go.RowKit M

/-- the new kids put into the third tree -/
theorem turn_end {w W1 W3 V : World} {p1 p2 p3 n1 n2 q N : Nat} {rs : List Nw} {k : M.F} {a0 k0 a1 k1 a2 k2 v0 v3 : Value} (hB : Below w.heap.size w W3) (hw : w.heap.size ≤ p3) (T1 : Five W3 p1 (.int .i64 1) (.string ⟨#[]⟩) (.string ⟨#[]⟩) a0 k0) (T2 : Five W3 p2 (.int .i64 1) (.string ⟨#[]⟩) (.string ⟨#[]⟩) a1 k1) (T3 : Five W3 p3 (.int .i64 1) (.string ⟨#[]⟩) (.string ⟨#[]⟩) a2 k2)
    (h1 : p1 < p3) (h2 : p2 < p3) (L1 : Lies n1 W3 rootD k a0 k0) (g1 : n1 ≤ p3) (L2 : Lies n2 W3 rootD k a1 k1) (g2 : n2 ≤ p3) (AA : AS (Old p3) W3 a2 []) (R : RowOf N W1 v0 rs) (hR : W1.heap.size ≤ p3) (B13 : Below W1.heap.size W1 W3) (hk : forF rs = k) (hq : q ≤ rs.length)
    (b4 : Below W3.heap.size W3 V) (o4 : V.ownsRow W3.heap.size 26 5 v3 (rs.length + 1) (rowF (rs.take q ++ hopN :: rs.drop q))) :
    Below w.heap.size w (V.setCell ⟨p3, 4, none⟩ v3) ∧ p3 + 1 ≤ (V.setCell ⟨p3, 4, none⟩ v3).heap.size ∧ (Five (V.setCell ⟨p3, 4, none⟩ v3) p1 (.int .i64 1) (.string ⟨#[]⟩) (.string ⟨#[]⟩) a0 k0 ∧ Five (V.setCell ⟨p3, 4, none⟩ v3) p2 (.int .i64 1) (.string ⟨#[]⟩) (.string ⟨#[]⟩) a1 k1 ∧ Five (V.setCell ⟨p3, 4, none⟩ v3) p3 (.int .i64 1) (.string ⟨#[]⟩) (.string ⟨#[]⟩) a2 v3) ∧
      Lies (V.setCell ⟨p3, 4, none⟩ v3).heap.size (V.setCell ⟨p3, 4, none⟩ v3) rootD k a0 k0 ∧ Lies (V.setCell ⟨p3, 4, none⟩ v3).heap.size (V.setCell ⟨p3, 4, none⟩ v3) rootD k a1 k1 ∧ Lies (V.setCell ⟨p3, 4, none⟩ v3).heap.size (V.setCell ⟨p3, 4, none⟩ v3) rootD (insF q hopD k) a2 v3 := by
  obtain ⟨W', hW'⟩ : ∃ W', V.setCell ⟨p3, 4, none⟩ v3 = W' := ⟨_, rfl⟩
  have hp3 := T3.lt
  have hz4 := b4.size
  have hzz : W'.heap.size = V.heap.size := by rw [← hW']; simp
  have blk : ∀ b, b < W3.heap.size → b ≠ p3 → W'.heap[b]? = W3.heap[b]? := fun b hb hn => by
    rw [← hW']; exact (Below.heap_setCell _ _ _ _ hn).trans (b4.block b hb)
  have T3' := (T3.same (b4.block p3 hp3)).put4 v3
  have o4' : W'.ownsRow W3.heap.size 26 5 v3 (rs.length + 1) (rowF (rs.take q ++ hopN :: rs.drop q)) := by
    rw [← hW']; exact own_like o4 (fun k hk _ => Below.heap_setCell _ _ _ _ (by show k ≠ p3; omega))
  rw [hW'] at T3' ⊢
  refine ⟨?_, by omega, ⟨T1.same (blk _ (by omega) (by omega)), T2.same (blk _ (by omega) (by omega)), T3'⟩, ?_, ?_, ?_⟩
  · refine hB.trans ⟨?_, ?_, ?_, by omega, fun b hb => blk b (by omega) (by omega)⟩
    · rw [← hW']; exact b4.os
    · rw [← hW']; exact b4.tape
    · rw [← hW']; exact b4.output
  · refine Lies.here (n := n1) ⟨L1.a.like (fun b (hb : b < n1) _ => blk b (by omega) (by omega)), L1.f.like (fun b (hb : b < n1) _ => blk b (by omega) (by omega))⟩ (by omega)
  · refine Lies.here (n := n2) ⟨L2.a.like (fun b (hb : b < n2) _ => blk b (by omega) (by omega)), L2.f.like (fun b (hb : b < n2) _ => blk b (by omega) (by omega))⟩ (by omega)
  · refine ⟨(AA.like (fun b (hb : b < p3) _ => blk b (by omega) (by omega))).mono (fun b (hb : b < p3) => (by show b < _; omega)), ?_⟩
    have hl : (rs.take q ++ hopN :: rs.drop q).length = rs.length + 1 := by simp; omega
    rw [← hk, ← ins_for q rs hq]
    refine own_FL (n := 0) (base := W3.heap.size) (by rw [hl]; exact o4') (fun r hr => ?_)
    have hin : r ∈ rs ∨ r = hopN := by
      rcases List.mem_append.1 hr with h | h
      · exact .inl (List.mem_of_mem_take h)
      · rcases List.mem_cons.1 h with h | h
        · exact .inr h
        · exact .inl (List.mem_of_mem_drop h)
    rcases hin with h | rfl
    · have := R.all r h
      have lk : Like (fun b => N ≤ b ∧ b < W1.heap.size ∧ some b ≠ v0.ownBlock) W1 W' := fun b hb hz => (blk b (by omega) (by omega)).trans (B13.block b hz)
      exact ⟨(this.1.like lk).mono (fun b hb => (by have := hb.2.1; show b < _; omega)), (this.2.like lk).mono (fun b hb => (by have := hb.2.1; show b < _; omega))⟩
    · exact ⟨AS.nothing, FL.nothing⟩

theorem t3_keep {wc W w' : World} {X Y Z : Nat} {a0 k0 a1 k1 a2 k2 : Value} (hx : X < wc.heap.size ∧ Y < wc.heap.size ∧ Z < wc.heap.size) (hb : Below W.heap.size W w')
    (h : Below wc.heap.size wc W ∧ (W.cell? ⟨X, 0, none⟩ = some (.int .i64 1) ∧ W.cell? ⟨X, 1, none⟩ = some (.string ⟨#[]⟩) ∧ W.cell? ⟨X, 2, none⟩ = some (.string ⟨#[]⟩) ∧ W.cell? ⟨X, 3, none⟩ = some a0 ∧ W.cell? ⟨X, 4, none⟩ = some k0) ∧ (W.cell? ⟨Y, 0, none⟩ = some (.int .i64 1) ∧ W.cell? ⟨Y, 1, none⟩ = some (.string ⟨#[]⟩) ∧ W.cell? ⟨Y, 2, none⟩ = some (.string ⟨#[]⟩) ∧ W.cell? ⟨Y, 3, none⟩ = some a1 ∧ W.cell? ⟨Y, 4, none⟩ = some k1) ∧ (W.cell? ⟨Z, 0, none⟩ = some (.int .i64 1) ∧ W.cell? ⟨Z, 1, none⟩ = some (.string ⟨#[]⟩) ∧ W.cell? ⟨Z, 2, none⟩ = some (.string ⟨#[]⟩) ∧ W.cell? ⟨Z, 3, none⟩ = some a2 ∧ W.cell? ⟨Z, 4, none⟩ = some k2)) :
    Below wc.heap.size wc w' ∧ (w'.cell? ⟨X, 0, none⟩ = some (.int .i64 1) ∧ w'.cell? ⟨X, 1, none⟩ = some (.string ⟨#[]⟩) ∧ w'.cell? ⟨X, 2, none⟩ = some (.string ⟨#[]⟩) ∧ w'.cell? ⟨X, 3, none⟩ = some a0 ∧ w'.cell? ⟨X, 4, none⟩ = some k0) ∧ (w'.cell? ⟨Y, 0, none⟩ = some (.int .i64 1) ∧ w'.cell? ⟨Y, 1, none⟩ = some (.string ⟨#[]⟩) ∧ w'.cell? ⟨Y, 2, none⟩ = some (.string ⟨#[]⟩) ∧ w'.cell? ⟨Y, 3, none⟩ = some a1 ∧ w'.cell? ⟨Y, 4, none⟩ = some k1) ∧ (w'.cell? ⟨Z, 0, none⟩ = some (.int .i64 1) ∧ w'.cell? ⟨Z, 1, none⟩ = some (.string ⟨#[]⟩) ∧ w'.cell? ⟨Z, 2, none⟩ = some (.string ⟨#[]⟩) ∧ w'.cell? ⟨Z, 3, none⟩ = some a2 ∧ w'.cell? ⟨Z, 4, none⟩ = some k2) := by
  obtain ⟨hB, ⟨c0, c1, c2, c3, c4⟩, ⟨d0, d1, d2, d3, d4⟩, ⟨e0, e1, e2, e3, e4⟩⟩ := h
  have hs := hB.size
  have up : ∀ (b o : Nat), b < wc.heap.size → w'.cell? ⟨b, o, none⟩ = W.cell? ⟨b, o, none⟩ := fun b o hb' => hb.cell (p := ⟨b, o, none⟩) (by show b < _; omega)
  refine ⟨hB.trans (hb.mono hs), ?_, ?_, ?_⟩
  · simp only [up X _ hx.1]; exact ⟨c0, c1, c2, c3, c4⟩
  · simp only [up Y _ hx.2.1]; exact ⟨d0, d1, d2, d3, d4⟩
  · simp only [up Z _ hx.2.2]; exact ⟨e0, e1, e2, e3, e4⟩

theorem cmp_t {wc W : World} {k k' : M.F} {va ka vb kb : Value} {P : Prop} (ha : Lies wc.heap.size wc rootD k va ka) (hb : Lies wc.heap.size wc rootD k' vb kb) (C : Int) (hC : Fact (cT rootD k rootD k' = C)) (hk : k.depth + 2 ≤ 1000000) (h : Below wc.heap.size wc W ∧ P) :
    Calls Try.prog 10 #[.agg #[.int .i64 1, .string ⟨#[]⟩, .string ⟨#[]⟩, va, ka], .agg #[.int .i64 1, .string ⟨#[]⟩, .string ⟨#[]⟩, vb, kb]] W fun e w' => e = .returned (.int .i64 C) ∧ Below W.heap.size W w' :=
  compare_at (d := rootD) (d' := rootD) C hC hk (ha.below h.1) (hb.below h.1) h.1.size
theorem same_t {wc W : World} {k k' : M.F} {va ka vb kb : Value} {P : Prop} (ha : Lies wc.heap.size wc rootD k va ka) (hb : Lies wc.heap.size wc rootD k' vb kb) (r : Bool) (hr : Fact (decide (cT rootD k rootD k' = 0) = r)) (hk : k.depth + 2 ≤ 1000000) (h : Below wc.heap.size wc W ∧ P) :
    Calls Try.prog 11 #[.agg #[.int .i64 1, .string ⟨#[]⟩, .string ⟨#[]⟩, va, ka], .agg #[.int .i64 1, .string ⟨#[]⟩, .string ⟨#[]⟩, vb, kb]] W fun e w' => e = .returned (.bool r) ∧ Below W.heap.size W w' :=
  same_at (d := rootD) (d' := rootD) r hr hk (ha.below h.1) (hb.below h.1) h.1.size
theorem size_t {wc W : World} {k : M.F} {va ka : Value} {P : Prop} (ha : Lies wc.heap.size wc rootD k va ka) (z : Nat) (hz : Fact (k.size + 1 = z)) (hk : k.depth + 2 ≤ 1000000) (hs : k.size ≤ 1000000000) (h : Below wc.heap.size wc W ∧ P) :
    Calls Try.prog 12 #[.agg #[.int .i64 1, .string ⟨#[]⟩, .string ⟨#[]⟩, va, ka]] W fun e w' => e = .returned (.int .i64 z) ∧ Below W.heap.size W w' :=
  size_at (d := rootD) z hz hk hs (ha.below h.1) h.1.size
end Go.Proofs.Ytblgjmohcdioeab
