/- Borders of scopes; In. -/
import Derived.Test.YtnioibpeagffdaaKB
set_option linter.unusedVariables false
namespace Go.Proofs.Ytnioibpeagffdaa
open Go.RowKit Go.Shelf
attribute [local go_sem] Oper.semAt_some

/-- whether nothing outside of an element is in a scope -/
def brd (o : List UInt8) (k : Int) : Bool :=
  if (o == [104, 116, 109, 108] || o == [116, 97, 98, 108, 101]) = true then true
  else if (o == [97, 112, 112, 108, 101, 116] || o == [99, 97, 112, 116, 105, 111, 110] || o == [116, 100] || o == [116, 104] || o == [109, 97, 114, 113, 117, 101, 101] || o == [111, 98, 106, 101, 99, 116]) = true then k != 4
  else if (o == [111, 108] || o == [117, 108]) = true then k == 2
  else if (o == [98, 117, 116, 116, 111, 110]) = true then k == 3
  else false
set_option maxRecDepth 20000 in
set_option maxHeartbeats 2000000 in
theorem border_any (o : ByteArray) (k : Int) (w : World) : Calls Try.prog 23 #[.string o, .int .i64 k] w fun e w' => e = .returned (.bool (brd o.toList k)) ∧ w' = w := by
  go_enter Try.func23, Try.ntmps23
  go_wp2
  all_goals (go_ret; refine ⟨ret_bool ?_, rfl⟩; simp_all [brd])
set_option maxRecDepth 20000 in
set_option maxHeartbeats 2000000 in
theorem rBorder_any (o : ByteArray) (k : Int) (w : World) : Calls Try.prog 24 #[.string o, .int .i64 k] w fun e w' => e = .returned (.bool (brd o.toList k)) ∧ w' = w := by
  go_enter Try.func24, Try.ntmps24
  go_wp2
  all_goals (go_ret; refine ⟨ret_bool ?_, rfl⟩; simp_all [brd])
theorem border_at (o : ByteArray) (k : Int) (B : Bool) (h : Fact (brd o.toList k = B)) (w : World) : Calls Try.prog 23 #[.string o, .int .i64 k] w fun e w' => e = .returned (.bool B) ∧ w' = w := by
  rw [← h.out]; exact border_any o k w
theorem rBorder_at (o : ByteArray) (k : Int) (B : Bool) (h : Fact (brd o.toList k = B)) (w : World) : Calls Try.prog 24 #[.string o, .int .i64 k] w fun e w' => e = .returned (.bool B) ∧ w' = w := by
  rw [← h.out]; exact rBorder_any o k w

/-- whether a name is among the first j open ones, in a scope -/
def inK (l : List ByteArray) (x : ByteArray) (k : Int) : Nat → Bool
  | 0 => false
  | j + 1 => if ((tx l j).toList == x.toList) = true then true else if brd (tx l j).toList k = true then false else inK l x k j

theorem bk_len (l : List ByteArray) : ∀ n, (bk l n).length = n
  | 0 => rfl
  | n + 1 => by simp [bk, bk_len l n]
theorem bk_pre (l : List ByteArray) : ∀ (n : Nat) (pre : List (Nat × ByteArray)) (x : Nat × ByteArray), pre ++ [x] <+: bk l n → ∃ j, n = pre.length + (j + 1) ∧ x = (j, tx l j)
  | 0, pre, x, h => by have := h.length_le; simp [bk] at this
  | n + 1, [], x, h => by
    obtain ⟨t, ht⟩ := h
    simp [bk] at ht
    exact ⟨n, by simp, ht.1⟩
  | n + 1, p :: pre, x, h => by
    obtain ⟨t, ht⟩ := h
    have h2 : pre ++ [x] <+: bk l n := ⟨t, by simp [bk] at ht; simpa using ht.2⟩
    obtain ⟨j, e1, e2⟩ := bk_pre l n pre x h2
    exact ⟨j, by simp; omega, e2⟩

theorem fold2 (t : Array Value) (p q : Tmp) (u v : Value) : (#[p, q].zip #[u, v]).foldl (fun t (x, y) => t.setIfInBounds x y) t = (t.setIfInBounds p u).setIfInBounds q v := by
  simp
theorem free_new (w : World) (c : Array Value) (t : TypeId) : (w.alloc (.cells c t)).frozen? ⟨w.heap.size, 0, none⟩ = false := by
  have e : (w.alloc (.cells c t)).heap[w.heap.size]? = some (.cells c t) := World.alloc_heap_new w _
  simp only [World.frozen?, e]
  rfl
/-- a box that was made, and what was made behind it -/
theorem box_at {w W : World} (v : Value) (t : TypeId) (hb : Below (w.heap.size + 1) (w.alloc (.cells #[v] t)) W) : W.cell? ⟨w.heap.size, 0, none⟩ = some v ∧ W.frozen? ⟨w.heap.size, 0, none⟩ = false :=
  ⟨(hb.cell (p := ⟨w.heap.size, 0, none⟩) (by show w.heap.size < _; omega)).trans (World.cell?_alloc_new w #[v] t 0), (hb.frozen (p := ⟨w.heap.size, 0, none⟩) (by show w.heap.size < _; omega)).trans (free_new w _ t)⟩

set_option maxRecDepth 100000 in
set_option maxHeartbeats 4000000 in
theorem in_any (l : List ByteArray) (v : Value) (x : ByteArray) (k : Int) (w : World) (hS : SS w.heap.size w v l) (B : Bool) (hV : Fact (inK l x k l.length = B)) :
    Calls Try.prog 12 #[v, .string x, .int .i64 k] w fun e w' => e = .returned (.bool B) ∧ Below w.heap.size w w' := by
  refine (callsIn_wide (n := 4)).1 ?_
  obtain ⟨a, cp, e⟩ := hS.val
  subst e
  have HS := Fact.mk hS
  clear hS
  refine callsIn_of_wp_marks Try.func12 rfl trivial ?_ rfl
  simp only [Try.ntmps12, List.size_toArray, List.length_cons, List.length_nil, Nat.reduceAdd, Nat.reduceSub, Array.replicate_succ, Array.replicate_zero, List.push_toArray, List.append_toArray, List.nil_append, List.cons_append]
  gi_wp2_with (refine ⟨trivial, ?_⟩; gi_at_call 22; refine (backward_in Fence.wide _ trivial rfl _ _ _ _).mono ?_; rintro e w' ⟨rfl, rfl⟩)
  have b0 := box_at (W := (((w.alloc (.cells #[.string x] 9)).alloc (.cells #[.int .i64 k] 3)).alloc (.cells #[.bool false] 4)).alloc (.cells #[.slice a l.length cp] 22)) (.string x) 9 ((((Below.refl _ _).alloc (by simp) _).alloc (by simp) _).alloc (by simp) _)
  have b1 := box_at (W := (((w.alloc (.cells #[.string x] 9)).alloc (.cells #[.int .i64 k] 3)).alloc (.cells #[.bool false] 4)).alloc (.cells #[.slice a l.length cp] 22)) (.int .i64 k) 3 (((Below.refl _ _).alloc (by simp) _).alloc (by simp) _)
  have b2 := box_at (W := (((w.alloc (.cells #[.string x] 9)).alloc (.cells #[.int .i64 k] 3)).alloc (.cells #[.bool false] 4)).alloc (.cells #[.slice a l.length cp] 22)) (.bool false) 4 ((Below.refl _ _).alloc (by simp) _)
  have b3 := box_at (W := (((w.alloc (.cells #[.string x] 9)).alloc (.cells #[.int .i64 k] 3)).alloc (.cells #[.bool false] 4)).alloc (.cells #[.slice a l.length cp] 22)) (.slice a l.length cp) 22 (Below.refl _ _)
  have hB0 : Below w.heap.size w ((((w.alloc (.cells #[.string x] 9)).alloc (.cells #[.int .i64 k] 3)).alloc (.cells #[.bool false] 4)).alloc (.cells #[.slice a l.length cp] 22)) := ((((Below.refl _ w).alloc (Nat.le_refl _) _).alloc (by simp) _).alloc (by simp; omega) _).alloc (by simp; omega) _
  have hz : ((((w.alloc (.cells #[.string x] 9)).alloc (.cells #[.int .i64 k] 3)).alloc (.cells #[.bool false] 4)).alloc (.cells #[.slice a l.length cp] 22)).heap.size = w.heap.size + 4 := by simp
  simp only [World.size_alloc] at b0 b1 b2 b3
  obtain ⟨W0, hW0⟩ : ∃ W0, (((w.alloc (.cells #[.string x] 9)).alloc (.cells #[.int .i64 k] 3)).alloc (.cells #[.bool false] 4)).alloc (.cells #[.slice a l.length cp] 22) = W0 := ⟨_, rfl⟩
  rw [hW0] at b0 b1 b2 b3 hB0 hz ⊢
  clear hW0
  obtain ⟨al, hal⟩ : ∃ al, l.length = al := ⟨_, rfl⟩
  have hgv := back_gives Fence.wide (4 - 1) trivial rfl (by omega) w.heap.size (w.heap.size + 1 + 1 + 1) _ l (fun k => k < w.heap.size + 4 ∧ k ≠ w.heap.size + 2) W0 (HS.out.below hB0 (Nat.le_refl _)) (by omega) (fun k hk => ⟨by omega, by omega⟩) (by omega) ⟨by omega, by omega⟩ b3.1
  rw [hal] at hgv hV ⊢
  refine wpIn_range rfl (by omega) (gf := 26) (lb := #[.pointer (some ⟨w.heap.size + 1 + 1 + 1, 0, none⟩)]) rfl trivial (enters_of Try.func26 (by kernel_rfl) rfl) hgv (fun k hk => by omega) (Below.refl _ _) (fun _ => rfl)
    (fun pre W => (W.cell? ⟨w.heap.size, 0, none⟩ = some (.string x) ∧ W.cell? ⟨w.heap.size + 1, 0, none⟩ = some (.int .i64 k) ∧ W.cell? ⟨w.heap.size + 1 + 1, 0, none⟩ = some (.bool false) ∧ W.frozen? ⟨w.heap.size + 1 + 1, 0, none⟩ = false) ∧ Below w.heap.size w W ∧ Fact (∃ j, al = pre.length + j ∧ inK l x k j = B))
    (fun c pre W => c = .ret ∧ W.cell? ⟨w.heap.size + 1 + 1, 0, none⟩ = some (.bool B) ∧ Below w.heap.size w W)
    (fun s A A' hs hb => ⟨⟨(hb.cell (p := ⟨w.heap.size, 0, none⟩) (by show w.heap.size < _; omega)).trans hs.1.1, (hb.cell (p := ⟨w.heap.size + 1, 0, none⟩) (by show w.heap.size + 1 < _; omega)).trans hs.1.2.1, (hb.cell (p := ⟨w.heap.size + 1 + 1, 0, none⟩) (by show w.heap.size + 1 + 1 < _; omega)).trans hs.1.2.2.1, (hb.frozen (p := ⟨w.heap.size + 1 + 1, 0, none⟩) (by show w.heap.size + 1 + 1 < _; omega)).trans hs.1.2.2.2⟩, hs.2.1.trans (hb.mono (by omega)), hs.2.2⟩)
    (fun c s A A' hs hb => ⟨hs.1, (hb.cell (p := ⟨w.heap.size + 1 + 1, 0, none⟩) (by show w.heap.size + 1 + 1 < _; omega)).trans hs.2.1, hs.2.2.trans (hb.mono (by omega))⟩)
    ⟨⟨b0.1, b1.1, b2.1, b2.2⟩, hB0, ⟨al, by simp, hV.out⟩⟩
    (fun y a' W => a' = { tmps := #[.slice a al cp, .string x, .int .i64 k, undef, .pointer (some ⟨w.heap.size, 0, none⟩), .pointer (some ⟨w.heap.size + 1, 0, none⟩), .pointer (some ⟨w.heap.size + 1 + 1, 0, none⟩), undef, .string y.2, .slice a al cp, .func (.func 26) #[] #[.pointer (some ⟨w.heap.size + 1 + 1 + 1, 0, none⟩)], .int .i64 y.1, .string y.2, undef, undef, undef, undef, undef, undef], defers := [] })
    (fun _ _ _ _ h _ => h) ?assign ?body ?done ?stop
  case assign =>
    intro lp pre y W K hi hp hlt hK
    simp only [encB]
    rw [fold2]
    gi_wp2
    exact hK _ _ (Below.refl _ _) rfl
  case body =>
    rintro lp pre y a' W ⟨⟨c0, c1, c2, f2⟩, hB, hI⟩ rfl hp hlt
    obtain ⟨j, e1, rfl⟩ := bk_pre l al pre y hp
    obtain ⟨j', e2, e3⟩ := hI.out
    obtain rfl : j' = j + 1 := by omega
    have e4 : al = (pre ++ [(j, tx l j)]).length + j := by rw [List.length_append]; simp; omega
    unfold inK at e3
    dsimp only
    obtain ⟨Y, hY⟩ : ∃ Y, tx l j = Y := ⟨_, rfl⟩
    rw [hY] at e3 e4 ⊢
    have hret : ∀ b : Bool, Keep (fun k => k < w.heap.size + 4 ∧ k ≠ w.heap.size + 2) W0.heap.size W (W.setCell ⟨w.heap.size + 1 + 1, 0, none⟩ (.bool b)) ∧ (W.setCell ⟨w.heap.size + 1 + 1, 0, none⟩ (.bool b)).cell? ⟨w.heap.size + 1 + 1, 0, none⟩ = some (.bool b) ∧ Below w.heap.size w (W.setCell ⟨w.heap.size + 1 + 1, 0, none⟩ (.bool b)) := fun b =>
      ⟨(Keep.refl _ _ _).setCell (p := ⟨w.heap.size + 1 + 1, 0, none⟩) (by rintro ⟨_, h⟩; exact h rfl) (by show w.heap.size + 1 + 1 < _; omega) _, World.cell?_setCell_same' _ _ _ (by rw [c2]; rfl), hB.setCell (p := ⟨w.heap.size + 1 + 1, 0, none⟩) (by show _ ≤ w.heap.size + 1 + 1; omega) _⟩
    have HRET := Fact.mk hret
    have E4 := Fact.mk e4
    clear hret hI hp e1 e2 e4 hY hgv hlt
    cases h1 : (Y.toList == x.toList)
    · rw [h1, if_neg (by simp)] at e3
      cases h2 : brd Y.toList k
      · rw [h2, if_neg (by simp)] at e3
        have E3 := Fact.mk e3
        have H2 := Fact.mk h2
        clear e3 h2
        gi_wp2_with (refine ⟨trivial, ?_⟩; gi_at_call 23; refine (CallsIn.inRound lp (callsIn_wide.2 (border_at _ _ false H2 _))).mono ?_; rintro e w2 ⟨rfl, rfl⟩)
        exact ⟨Keep.refl _ _ _, ⟨c0, c1, c2, f2⟩, hB, ⟨j, E4.out, E3.out⟩⟩
      · rw [h2, if_pos rfl] at e3
        subst e3
        have H2 := Fact.mk h2
        clear h2
        gi_wp2_with (refine ⟨trivial, ?_⟩; gi_at_call 23; refine (CallsIn.inRound lp (callsIn_wide.2 (border_at _ _ true H2 _))).mono ?_; rintro e w2 ⟨rfl, rfl⟩)
        exact ⟨(HRET.out _).1, rfl, (HRET.out _).2⟩
    · rw [h1, if_pos rfl] at e3
      subst e3
      gi_wp2
      exact ⟨(HRET.out _).1, rfl, (HRET.out _).2⟩
  case done =>
    rintro D W hD ⟨⟨c0, c1, c2, f2⟩, hB, hI⟩ hK
    obtain ⟨j, e1, e2⟩ := hI.out
    rw [bk_len] at e1
    obtain rfl : j = 0 := by omega
    subst e2
    clear hgv
    gi_wp2
    have hK' := (KeepsOthers.setCell W ⟨w.heap.size + 1 + 1, 0, none⟩ (.bool false)).same D _ hK rfl
    refine ⟨by simp, .inl ⟨_, _, rfl, run_takeDeferred hK', ?_⟩⟩
    have hc5 := cell_kept (World.cell?_setCell_same' W ⟨w.heap.size + 1 + 1, 0, none⟩ (.bool false) (by rw [c2]; rfl)) (grownBy_putObj' _ D (.deferred none)) (fun r e => by cases e; exact ⟨_, hK', rfl⟩)
    refine ⟨.bool false, ?_, rfl, below_putObj (hB.setCell (p := ⟨w.heap.size + 1 + 1, 0, none⟩) (by show _ ≤ w.heap.size + 1 + 1; omega) _) (by omega) (by have := hB.size; simp [World.setCell]; omega) _⟩
    simp [results, Try.f12, go_sem, hc5]
  case stop =>
    rintro D c pre W hD hpre ⟨rfl, hr, hB⟩ hK
    clear hgv
    gi_wp2
    refine ⟨by simp, .inl ⟨_, _, rfl, run_takeDeferred hK, ?_⟩⟩
    have hc5 := cell_kept hr (grownBy_putObj' _ D (.deferred none)) (fun r e => by cases e; exact ⟨_, hK, rfl⟩)
    refine ⟨.bool B, ?_, rfl, below_putObj hB (by omega) (by have := hB.size; omega) _⟩
    simp [results, Try.f12, go_sem, hc5]
end Go.Proofs.Ytnioibpeagffdaa
