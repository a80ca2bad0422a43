/- opened: a way's last node as it is known where it is come to. -/
import Derived.Test.YtkojhgagkoeeiaaClone
import Derived.Test.YtkojhgagkoeeiaaPost
import Derived.Test.YtkojhgagkoeeiaaFlatM
set_option linter.unusedVariables false
namespace Go.Proofs.Ytkojhgagkoeeiaa
open Go.Deep (BT)
open Go.RowKit M

/-- the parent's number, by the way -/
def parL : List Fr → Int
  | [] => -1
  | f :: _ => f.s.id
theorem parL_eq : ∀ L, par (wayOf L) = parL L
  | [] => rfl
  | f :: L => by simp [par, wayOf, parL]
theorem own8_get {w : World} {B E g m cap : Nat} {f f2 : Fr} {L : List Fr} (h : w.ownsRow B E 8 (.slice (some ⟨g, 0, none⟩) (m + 2) cap) (m + 2) (cellsW (f :: f2 :: L))) (hm : L.length = m) : ∀ j u, (cells8 f2)[j]? = some u → w.cell? ⟨g, m * 8 + j, none⟩ = some u :=
  (own8_at (own8_pop h (by simp [hm])) hm).1

theorem set_heap {w : World} {B i : Nat} {cur : Array Value} {t : TypeId} {v : Value} (h : w.heap[B]? = some (.cells cur t)) : (w.setCell ⟨B, i, none⟩ v).heap[B]? = some (.cells (cur.setIfInBounds i v) t) := by
  simp only [World.setCell, Array.getElem?_modify, h]
  simp
/-- ten cells written anew -/
theorem ten_set {w w1 : World} {B X : Nat} {n : Nat} {a8 a9 u0 u1 u2 u3 u4 u5 u6 u7 u8 u9 v0 v1 v2 v3 v4 v5 v6 v7 v8 v9 : Value} {t : TypeId} (hX : B ≠ X) (hB : n ≤ B) (hnX : n ≤ X) (h : w.heap[B]? = some (.cells #[u0, u1, u2, u3, u4, u5, u6, u7, u8, u9] t))
    (e : (((((((((((w.setCell ⟨X, 8, none⟩ a8).setCell ⟨X, 9, none⟩ a9).setCell ⟨B, 0, none⟩ v0).setCell ⟨B, 1, none⟩ v1).setCell ⟨B, 2, none⟩ v2).setCell ⟨B, 3, none⟩ v3).setCell ⟨B, 4, none⟩ v4).setCell ⟨B, 5, none⟩ v5).setCell ⟨B, 6, none⟩ v6).setCell ⟨B, 7, none⟩ v7).setCell ⟨B, 8, none⟩ v8).setCell ⟨B, 9, none⟩ v9 = w1) :
    (w1.cell? ⟨B, 0, none⟩ = some v0 ∧ w1.cell? ⟨B, 1, none⟩ = some v1 ∧ w1.cell? ⟨B, 2, none⟩ = some v2 ∧ w1.cell? ⟨B, 3, none⟩ = some v3 ∧ w1.cell? ⟨B, 4, none⟩ = some v4 ∧ w1.cell? ⟨B, 5, none⟩ = some v5 ∧ w1.cell? ⟨B, 6, none⟩ = some v6 ∧ w1.cell? ⟨B, 7, none⟩ = some v7 ∧ w1.cell? ⟨B, 8, none⟩ = some v8 ∧ w1.cell? ⟨B, 9, none⟩ = some v9) ∧
    Below n w w1 ∧ (∀ k, k ≠ B → k ≠ X → w1.heap[k]? = w.heap[k]?) := by
  have h0 : ((w.setCell ⟨X, 8, none⟩ a8).setCell ⟨X, 9, none⟩ a9).heap[B]? = some (.cells #[u0, u1, u2, u3, u4, u5, u6, u7, u8, u9] t) := by
    rw [Below.heap_setCell _ _ _ _ hX, Below.heap_setCell _ _ _ _ hX]; exact h
  have h1 := set_heap (i := 9) (v := v9) (set_heap (i := 8) (v := v8) (set_heap (i := 7) (v := v7) (set_heap (i := 6) (v := v6) (set_heap (i := 5) (v := v5) (set_heap (i := 4) (v := v4) (set_heap (i := 3) (v := v3) (set_heap (i := 2) (v := v2) (set_heap (i := 1) (v := v1) (set_heap (i := 0) (v := v0) h0)))))))))
  rw [e] at h1
  refine ⟨?_, ?_, fun k k1 k2 => ?_⟩
  · simp [World.cell?, h1]
  · rw [← e]
    exact (((((((((((((Below.refl n w).setCell (p := ⟨X, 8, none⟩) hnX _).setCell (p := ⟨X, 9, none⟩) hnX _).setCell (p := ⟨B, 0, none⟩) hB _).setCell (p := ⟨B, 1, none⟩) hB _).setCell (p := ⟨B, 2, none⟩) hB _).setCell (p := ⟨B, 3, none⟩) hB _).setCell (p := ⟨B, 4, none⟩) hB _).setCell (p := ⟨B, 5, none⟩) hB _).setCell (p := ⟨B, 6, none⟩) hB _).setCell (p := ⟨B, 7, none⟩) hB _).setCell (p := ⟨B, 8, none⟩) hB _).setCell (p := ⟨B, 9, none⟩) hB _)
  · rw [← e]
    rw [Below.heap_setCell _ _ _ _ k1, Below.heap_setCell _ _ _ _ k1, Below.heap_setCell _ _ _ _ k1, Below.heap_setCell _ _ _ _ k1, Below.heap_setCell _ _ _ _ k1, Below.heap_setCell _ _ _ _ k1, Below.heap_setCell _ _ _ _ k1, Below.heap_setCell _ _ _ _ k1, Below.heap_setCell _ _ _ _ k1, Below.heap_setCell _ _ _ _ k1, Below.heap_setCell _ _ _ _ k2, Below.heap_setCell _ _ _ _ k2]
theorem three_below {n : Nat} (w : World) (o1 o2 o3 : Obj) (hn : n ≤ w.heap.size) : Below n w (((w.alloc o1).alloc o2).alloc o3) :=
  (((Below.refl n w).alloc hn _).alloc (by simp; omega) _).alloc (by simp; omega) _
theorem opened_boxes {w W w2 : World} {o : Obj} {u0 u1 u2 u3 u4 u5 u6 u7 u8 u9 v0 v1 v2 v3 v4 v5 v6 v7 v8 v9 : Value} {t : TypeId}
    (hW : ((w.alloc (.cells #[u0, u1, u2, u3, u4, u5, u6, u7, u8, u9] t)).alloc o).alloc (.cells #[v0, v1, v2, v3, v4, v5, v6, v7, v8, v9] t) = W) (hb : Below W.heap.size W w2) :
    Below w.heap.size w w2 ∧ w2.cell? ⟨w.heap.size, 0, none⟩ = some u0 ∧ w2.cell? ⟨w.heap.size, 1, none⟩ = some u1 ∧ w2.cell? ⟨w.heap.size, 2, none⟩ = some u2 ∧ w2.cell? ⟨w.heap.size, 3, none⟩ = some u3 ∧ w2.cell? ⟨w.heap.size, 4, none⟩ = some u4 ∧ w2.cell? ⟨w.heap.size, 5, none⟩ = some u5 ∧ w2.cell? ⟨w.heap.size, 6, none⟩ = some u6 ∧ w2.cell? ⟨w.heap.size, 7, none⟩ = some u7 ∧ w2.cell? ⟨w.heap.size, 8, none⟩ = some u8 ∧ w2.cell? ⟨w.heap.size, 9, none⟩ = some u9 ∧
    w2.cell? ⟨w.heap.size + 1 + 1, 0, none⟩ = some v0 ∧ w2.cell? ⟨w.heap.size + 1 + 1, 1, none⟩ = some v1 ∧ w2.cell? ⟨w.heap.size + 1 + 1, 2, none⟩ = some v2 ∧ w2.cell? ⟨w.heap.size + 1 + 1, 3, none⟩ = some v3 ∧ w2.cell? ⟨w.heap.size + 1 + 1, 4, none⟩ = some v4 ∧ w2.cell? ⟨w.heap.size + 1 + 1, 5, none⟩ = some v5 ∧ w2.cell? ⟨w.heap.size + 1 + 1, 6, none⟩ = some v6 ∧ w2.cell? ⟨w.heap.size + 1 + 1, 7, none⟩ = some v7 ∧ w2.cell? ⟨w.heap.size + 1 + 1, 8, none⟩ = some v8 ∧ w2.cell? ⟨w.heap.size + 1 + 1, 9, none⟩ = some v9 ∧
    (∀ o, w2.frozen? ⟨w.heap.size, o, none⟩ = false) ∧ (∀ o, w2.frozen? ⟨w.heap.size + 1 + 1, o, none⟩ = false) ∧ w2.heap[w.heap.size]? = some (.cells #[u0, u1, u2, u3, u4, u5, u6, u7, u8, u9] t) := by
  have hz : W.heap.size = w.heap.size + 3 := by rw [← hW]; simp
  have h0 : W.heap[w.heap.size]? = some (.cells #[u0, u1, u2, u3, u4, u5, u6, u7, u8, u9] t) := by
    rw [← hW, Below.heap_alloc _ _ _ (by simp; omega), Below.heap_alloc _ _ _ (by simp)]; exact World.alloc_heap_new w _
  have h2 : W.heap[w.heap.size + 1 + 1]? = some (.cells #[v0, v1, v2, v3, v4, v5, v6, v7, v8, v9] t) := by
    have := World.alloc_heap_new ((w.alloc (.cells #[u0, u1, u2, u3, u4, u5, u6, u7, u8, u9] t)).alloc o) (.cells #[v0, v1, v2, v3, v4, v5, v6, v7, v8, v9] t)
    rw [hW, World.size_alloc, World.size_alloc] at this; exact this
  have g0 := (hb.block w.heap.size (by omega)).trans h0
  have g2 := (hb.block (w.heap.size + 1 + 1) (by omega)).trans h2
  refine ⟨(show Below w.heap.size w W by rw [← hW]; exact three_below w _ _ _ (Nat.le_refl _)).trans (hb.mono (by omega)), ?_⟩
  simp [World.cell?, World.frozen?, g0, g2]

set_option maxRecDepth 20000 in
set_option maxHeartbeats 2000000 in
theorem opened_any (f : Fr) (L : List Fr) (g cap base n₀ m : Nat) (w : World) (hm : L.length = m) (hown : w.ownsRow base 108 8 (.slice (some ⟨g, 0, none⟩) (m + 1) cap) (m + 1) (cellsW (f :: L))) (ha : AS (Old n₀) w f.av f.s.d.ats) (hn : n₀ ≤ w.heap.size) (hl : f.s.d.ats.length ≤ 1000000) (hmm : m ≤ 1000000) :
    Calls Try.prog 64 #[.slice (some ⟨g, 0, none⟩) (m + 1) cap] w fun e w' => ∃ a b c, e = .returned (.agg #[.int .i64 (parL L), .int .i64 1, .int .i64 m, .int .i64 1, .int .i64 f.s.place, .int .i64 f.s.d.k, .string f.s.d.n, .string f.s.d.x, .slice a b c, .slice none 0 0]) ∧ AS (fun b => w.heap.size ≤ b) w' (.slice a b c) f.s.d.ats ∧ Below w.heap.size w w' := by
  obtain ⟨hat, hfz, hg1, hg2, hcp, hcm⟩ := own8_at hown hm
  obtain ⟨q1, q2, q3, eav⟩ := ha.val
  obtain ⟨⟨⟨K, N, X, A⟩, k, id, pl⟩, rest, nx, av, ka, kc⟩ := f
  dsimp only at ha eav hl ⊢
  subst eav
  have y0 : w.cell? ⟨g, m * 8, none⟩ = some (.int .i64 K) := hat 0 _ rfl
  have y1 : w.cell? ⟨g, m * 8 + 1, none⟩ = some (.string N) := hat 1 _ rfl
  have y2 : w.cell? ⟨g, m * 8 + 2, none⟩ = some (.string X) := hat 2 _ rfl
  have y3 : w.cell? ⟨g, m * 8 + 3, none⟩ = some (.slice q1 q2 q3) := hat 3 _ rfl
  have y4 : w.cell? ⟨g, m * 8 + 4, none⟩ = some (.slice ka k.len kc) := hat 4 _ rfl
  have y5 : w.cell? ⟨g, m * 8 + 5, none⟩ = some (.int .i64 id) := hat 5 _ rfl
  have y6 : w.cell? ⟨g, m * 8 + 6, none⟩ = some (.int .i64 pl) := hat 6 _ rfl
  have y7 : w.cell? ⟨g, m * 8 + 7, none⟩ = some (.int .i64 nx) := hat 7 _ rfl
  have HA := Fact.mk ha
  have HO := Fact.mk hown
  clear ha hat hown hfz
  cases L with
  | nil =>
    obtain rfl : m = 0 := by simpa using hm.symm
    clear hm
    go_enter Try.func64, Try.ntmps64
    go_wp2_with fail
    obtain ⟨W3, hW3⟩ : ∃ W3, ((w.alloc (.cells #[.int .i64 0, .int .i64 0, .int .i64 0, .int .i64 0, .int .i64 0, .int .i64 0, .string ⟨#[]⟩, .string ⟨#[]⟩, .slice none 0 0, .slice none 0 0] 65)).alloc (.cells #[.int .i64 K, .string N, .string X, .slice q1 q2 q3, .slice ka k.len kc, .int .i64 id, .int .i64 pl, .int .i64 nx] 108)).alloc (.cells #[.int .i64 (-1), .int .i64 1, .int .i64 0, .int .i64 1, .int .i64 pl, .int .i64 K, .string N, .string X, .slice q1 q2 q3, .slice ka k.len kc] 65) = W3 := ⟨_, rfl⟩
    rw [hW3]
    refine (cloneA_any A _ n₀ W3 (HA.out.like (like_below (by rw [← hW3]; exact three_below w _ _ _ hn))) hl).mono ?_
    rintro e w2 ⟨av2, rfl, ha2, hb2⟩
    obtain ⟨x1, x2, x3, rfl⟩ := ha2.val
    have hz3 : W3.heap.size = w.heap.size + 3 := by rw [← hW3]; simp
    have T := opened_boxes (w := w) (W := W3) (w2 := w2) hW3 hb2
    obtain ⟨hB2, c0, c1, c2, c3, c4, c5, c6, c7, c8, c9, d0, d1, d2, d3, d4, d5, d6, d7, d8, d9, fz, fd, g0⟩ := T
    have HA2 := Fact.mk ha2
    have HZ3 := Fact.mk hz3
    have HB2 := Fact.mk hB2
    have G0 := Fact.mk g0
    clear ha2 hz3 hb2 hW3 hB2 y0 y1 y2 y3 y4 y5 y6 y7 g0
    go_wp2_with fail
    obtain ⟨w9, hw9⟩ : ∃ w9, (((((((((((w2.setCell ⟨w.heap.size + 1 + 1, 8, none⟩ (.slice x1 x2 x3)).setCell ⟨w.heap.size + 1 + 1, 9, none⟩ (.slice none 0 0)).setCell ⟨w.heap.size, 0, none⟩ (.int .i64 (-1))).setCell ⟨w.heap.size, 1, none⟩ (.int .i64 1)).setCell ⟨w.heap.size, 2, none⟩ (.int .i64 0)).setCell ⟨w.heap.size, 3, none⟩ (.int .i64 1)).setCell ⟨w.heap.size, 4, none⟩ (.int .i64 pl)).setCell ⟨w.heap.size, 5, none⟩ (.int .i64 K)).setCell ⟨w.heap.size, 6, none⟩ (.string N)).setCell ⟨w.heap.size, 7, none⟩ (.string X)).setCell ⟨w.heap.size, 8, none⟩ (.slice x1 x2 x3)).setCell ⟨w.heap.size, 9, none⟩ (.slice none 0 0) = w9 := ⟨_, rfl⟩
    obtain ⟨⟨t0, t1, t2, t3, t4, t5, t6, t7, t8, t9⟩, hb9, hk9⟩ := ten_set (n := w.heap.size) (by omega) (Nat.le_refl _) (by omega) G0.out hw9
    rw [hw9]
    refine bodyPost_ret (v := .agg #[.int .i64 (-1), .int .i64 1, .int .i64 0, .int .i64 1, .int .i64 pl, .int .i64 K, .string N, .string X, .slice x1 x2 x3, .slice none 0 0]) (by simp [results, Try.f64, go_sem, t0, t1, t2, t3, t4, t5, t6, t7, t8, t9]) rfl ?_
    exact ⟨x1, x2, x3, rfl, (HA2.out.like (fun b (hb : _ ≤ b) _ => hk9 b (by have := HZ3.out; omega) (by have := HZ3.out; omega))).mono (fun b (hb : _ ≤ b) => by show _ ≤ b; have := HZ3.out; omega), HB2.out.trans hb9⟩
  | cons f2 L =>
    obtain ⟨m2, hm2⟩ : ∃ m2, L.length = m2 := ⟨_, rfl⟩
    obtain rfl : m = m2 + 1 := by rw [← hm2]; simpa using hm.symm
    have z5 : w.cell? ⟨g, m2 * 8 + 5, none⟩ = some (.int .i64 f2.s.id) := own8_get HO.out hm2 5 _ rfl
    obtain ⟨id2, hid2⟩ : ∃ i : Int, (f2.s.id : Int) = i := ⟨_, rfl⟩
    have hpar : parL (f2 :: L) = id2 := hid2
    rw [hid2] at z5
    have z5a : ∀ o1 o2 o3, (((w.alloc o1).alloc o2).alloc o3).cell? ⟨g, m2 * 8 + 5, none⟩ = some (.int .i64 id2) := fun o1 o2 o3 => ((three_below w o1 o2 o3 (Nat.le_refl _)).cell (p := ⟨g, m2 * 8 + 5, none⟩) hg2).trans z5
    rw [hpar]
    have HM : Fact (m2 ≤ 999999) := ⟨by omega⟩
    clear hm hm2 hid2 hpar
    go_enter Try.func64, Try.ntmps64
    go_wp2_with fail
    obtain ⟨W3, hW3⟩ : ∃ W3, ((w.alloc (.cells #[.int .i64 0, .int .i64 0, .int .i64 0, .int .i64 0, .int .i64 0, .int .i64 0, .string ⟨#[]⟩, .string ⟨#[]⟩, .slice none 0 0, .slice none 0 0] 65)).alloc (.cells #[.int .i64 K, .string N, .string X, .slice q1 q2 q3, .slice ka k.len kc, .int .i64 id, .int .i64 pl, .int .i64 nx] 108)).alloc (.cells #[.int .i64 id2, .int .i64 1, .int .i64 ((m2 : Int) + 1), .int .i64 1, .int .i64 pl, .int .i64 K, .string N, .string X, .slice q1 q2 q3, .slice ka k.len kc] 65) = W3 := ⟨_, rfl⟩
    rw [hW3]
    refine (cloneA_any A _ n₀ W3 (HA.out.like (like_below (by rw [← hW3]; exact three_below w _ _ _ hn))) hl).mono ?_
    rintro e w2 ⟨av2, rfl, ha2, hb2⟩
    obtain ⟨x1, x2, x3, rfl⟩ := ha2.val
    have hz3 : W3.heap.size = w.heap.size + 3 := by rw [← hW3]; simp
    have T := opened_boxes (w := w) (W := W3) (w2 := w2) hW3 hb2
    obtain ⟨hB2, c0, c1, c2, c3, c4, c5, c6, c7, c8, c9, d0, d1, d2, d3, d4, d5, d6, d7, d8, d9, fz, fd, g0⟩ := T
    have HA2 := Fact.mk ha2
    have HZ3 := Fact.mk hz3
    have HB2 := Fact.mk hB2
    have G0 := Fact.mk g0
    clear ha2 hz3 hb2 hW3 hB2 y0 y1 y2 y3 y4 y5 y6 y7 g0 z5 z5a
    go_wp2_with fail
    obtain ⟨w9, hw9⟩ : ∃ w9, (((((((((((w2.setCell ⟨w.heap.size + 1 + 1, 8, none⟩ (.slice x1 x2 x3)).setCell ⟨w.heap.size + 1 + 1, 9, none⟩ (.slice none 0 0)).setCell ⟨w.heap.size, 0, none⟩ (.int .i64 id2)).setCell ⟨w.heap.size, 1, none⟩ (.int .i64 1)).setCell ⟨w.heap.size, 2, none⟩ (.int .i64 ((m2 : Int) + 1))).setCell ⟨w.heap.size, 3, none⟩ (.int .i64 1)).setCell ⟨w.heap.size, 4, none⟩ (.int .i64 pl)).setCell ⟨w.heap.size, 5, none⟩ (.int .i64 K)).setCell ⟨w.heap.size, 6, none⟩ (.string N)).setCell ⟨w.heap.size, 7, none⟩ (.string X)).setCell ⟨w.heap.size, 8, none⟩ (.slice x1 x2 x3)).setCell ⟨w.heap.size, 9, none⟩ (.slice none 0 0) = w9 := ⟨_, rfl⟩
    obtain ⟨⟨t0, t1, t2, t3, t4, t5, t6, t7, t8, t9⟩, hb9, hk9⟩ := ten_set (n := w.heap.size) (by omega) (Nat.le_refl _) (by omega) G0.out hw9
    rw [hw9]
    refine bodyPost_ret (v := .agg #[.int .i64 id2, .int .i64 1, .int .i64 ((m2 : Int) + 1), .int .i64 1, .int .i64 pl, .int .i64 K, .string N, .string X, .slice x1 x2 x3, .slice none 0 0]) (by simp [results, Try.f64, go_sem, t0, t1, t2, t3, t4, t5, t6, t7, t8, t9]) rfl ?_
    exact ⟨x1, x2, x3, rfl, (HA2.out.like (fun b (hb : _ ≤ b) _ => hk9 b (by have := HZ3.out; omega) (by have := HZ3.out; omega))).mono (fun b (hb : _ ≤ b) => by show _ ≤ b; have := HZ3.out; omega), HB2.out.trans hb9⟩
end Go.Proofs.Ytkojhgagkoeeiaa
