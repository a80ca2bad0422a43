/- Implied and Until. -/
import Derived.Test.YtnioibpeagffdaaKG
set_option linter.unusedVariables false
namespace Go.Proofs.Ytnioibpeagffdaa
open Go.RowKit Go.Shelf
attribute [local go_sem] Oper.semAt_some

/-- how many of the first j open ones, the last of them first, end by themselves -/
def impK (l : List ByteArray) (x : ByteArray) : Nat → Nat
  | 0 => 0
  | j + 1 => if ((tx l j).toList == x.toList) = true then 0 else if isB (tx l j) 4 = false then 0 else impK l x j + 1
/-- how many there are up to one of these names -/
def unK (l ns : List ByteArray) (n : Nat) : Nat → Nat
  | 0 => 0
  | j + 1 => if hasB ns (tx l j) = true then n - j else unK l ns n j
theorem impK_le (l : List ByteArray) (x : ByteArray) : ∀ j, impK l x j ≤ j
  | 0 => Nat.le_refl _
  | j + 1 => by
    unfold impK
    have := impK_le l x j
    split
    · omega
    · split <;> omega

set_option maxRecDepth 100000 in
set_option maxHeartbeats 4000000 in
theorem implied_any (l : List ByteArray) (v : Value) (x : ByteArray) (w : World) (hS : SS w.heap.size w v l) (B : Nat) (hV : Fact (impK l x l.length = B)) :
    Calls Try.prog 14 #[v, .string x] w fun e w' => e = .returned (.int .i64 B) ∧ Below w.heap.size w w' := by
  refine (callsIn_wide (n := 4)).1 ?_
  have hml : l.length ≤ 9223372036854775807 := by
    obtain ⟨a, cp, b, o, e, h1, h2, _⟩ := hS
    unfold maxLen at h2
    omega
  obtain ⟨a, cp, e⟩ := hS.val
  subst e
  have HS := Fact.mk hS
  clear hS
  refine callsIn_of_wp_marks Try.func14 rfl trivial ?_ rfl
  simp only [Try.ntmps14, List.size_toArray, List.length_cons, List.length_nil, Nat.reduceAdd, Nat.reduceSub, Array.replicate_succ, Array.replicate_zero, List.push_toArray, List.append_toArray, List.nil_append, List.cons_append]
  gi_wp2_with (refine ⟨trivial, ?_⟩; gi_at_call 22; refine (backward_in Fence.wide _ trivial rfl _ _ _ _).mono ?_; rintro e w' ⟨rfl, rfl⟩)
  have b0 := box_at (W := ((w.alloc (.cells #[.string x] 9)).alloc (.cells #[.int .i64 0] 3)).alloc (.cells #[.slice a l.length cp] 22)) (.string x) 9 (((Below.refl _ _).alloc (by simp) _).alloc (by simp) _)
  have b1 := box_at (W := ((w.alloc (.cells #[.string x] 9)).alloc (.cells #[.int .i64 0] 3)).alloc (.cells #[.slice a l.length cp] 22)) (.int .i64 0) 3 ((Below.refl _ _).alloc (by simp) _)
  have b3 := box_at (W := ((w.alloc (.cells #[.string x] 9)).alloc (.cells #[.int .i64 0] 3)).alloc (.cells #[.slice a l.length cp] 22)) (.slice a l.length cp) 22 (Below.refl _ _)
  have hB0 : Below w.heap.size w (((w.alloc (.cells #[.string x] 9)).alloc (.cells #[.int .i64 0] 3)).alloc (.cells #[.slice a l.length cp] 22)) := (((Below.refl _ w).alloc (Nat.le_refl _) _).alloc (by simp) _).alloc (by simp; omega) _
  have hz : (((w.alloc (.cells #[.string x] 9)).alloc (.cells #[.int .i64 0] 3)).alloc (.cells #[.slice a l.length cp] 22)).heap.size = w.heap.size + 3 := by simp
  simp only [World.size_alloc] at b0 b1 b3
  obtain ⟨W0, hW0⟩ : ∃ W0, ((w.alloc (.cells #[.string x] 9)).alloc (.cells #[.int .i64 0] 3)).alloc (.cells #[.slice a l.length cp] 22) = W0 := ⟨_, rfl⟩
  rw [hW0] at b0 b1 b3 hB0 hz ⊢
  clear hW0
  obtain ⟨al, hal⟩ : ∃ al, l.length = al := ⟨_, rfl⟩
  have hgv := back_gives Fence.wide (4 - 1) trivial rfl (by omega) w.heap.size (w.heap.size + 1 + 1) _ l (fun k => k < w.heap.size + 3 ∧ k ≠ w.heap.size + 1) W0 (HS.out.below hB0 (Nat.le_refl _)) (by omega) (fun k hk => ⟨by omega, by omega⟩) (by omega) ⟨by omega, by omega⟩ b3.1
  rw [hal] at hgv hV hml ⊢
  refine wpIn_range rfl (by omega) (gf := 26) (lb := #[.pointer (some ⟨w.heap.size + 1 + 1, 0, none⟩)]) rfl trivial (enters_of Try.func26 (by kernel_rfl) rfl) hgv (fun k hk => by omega) (Below.refl _ _) (fun _ => rfl)
    (fun pre W => (W.cell? ⟨w.heap.size, 0, none⟩ = some (.string x) ∧ W.cell? ⟨w.heap.size + 1, 0, none⟩ = some (.int .i64 pre.length) ∧ W.frozen? ⟨w.heap.size + 1, 0, none⟩ = false) ∧ Below w.heap.size w W ∧ Fact (∃ j, al = pre.length + j ∧ pre.length + impK l x j = B))
    (fun c pre W => c = .exit 0 ∧ W.cell? ⟨w.heap.size + 1, 0, none⟩ = some (.int .i64 B) ∧ Below w.heap.size w W)
    (fun s A A' hs hb => ⟨⟨(hb.cell (p := ⟨w.heap.size, 0, none⟩) (by show w.heap.size < _; omega)).trans hs.1.1, (hb.cell (p := ⟨w.heap.size + 1, 0, none⟩) (by show w.heap.size + 1 < _; omega)).trans hs.1.2.1, (hb.frozen (p := ⟨w.heap.size + 1, 0, none⟩) (by show w.heap.size + 1 < _; omega)).trans hs.1.2.2⟩, hs.2.1.trans (hb.mono (by omega)), hs.2.2⟩)
    (fun c s A A' hs hb => ⟨hs.1, (hb.cell (p := ⟨w.heap.size + 1, 0, none⟩) (by show w.heap.size + 1 < _; omega)).trans hs.2.1, hs.2.2.trans (hb.mono (by omega))⟩)
    ⟨⟨b0.1, b1.1, b1.2⟩, hB0, ⟨al, by simp, by simpa using hV.out⟩⟩
    (fun y a' W => a' = { tmps := #[.slice a al cp, .string x, undef, .pointer (some ⟨w.heap.size, 0, none⟩), .int .i64 0, .pointer (some ⟨w.heap.size + 1, 0, none⟩), undef, .string y.2, .slice a al cp, .func (.func 26) #[] #[.pointer (some ⟨w.heap.size + 1 + 1, 0, none⟩)], .int .i64 y.1, .string y.2, undef, undef, undef, undef, undef, undef, undef, undef, undef, undef, undef], defers := [] })
    (fun _ _ _ _ h _ => h) ?assign ?body ?done ?stop
  case assign =>
    intro lp pre y W K hi hp hlt hK
    simp only [encB]
    rw [fold2]
    gi_wp2
    exact hK _ _ (Below.refl _ _) rfl
  case body =>
    rintro lp pre y a' W ⟨⟨c0, c1, f1⟩, hB, hI⟩ rfl hp hlt
    obtain ⟨j, e1, rfl⟩ := bk_pre l al pre y hp
    obtain ⟨j', e2, e3⟩ := hI.out
    obtain rfl : j' = j + 1 := by omega
    have e4 : al = (pre ++ [(j, tx l j)]).length + j := by rw [List.length_append]; simp; omega
    have e5 : (pre ++ [(j, tx l j)]).length = pre.length + 1 := by simp
    unfold impK at e3
    dsimp only
    obtain ⟨Y, hY⟩ : ∃ Y, tx l j = Y := ⟨_, rfl⟩
    obtain ⟨pl, hpl⟩ : ∃ pl, pre.length = pl := ⟨_, rfl⟩
    rw [hY] at e3 e4 e5 ⊢
    rw [hpl] at e3 e5 c1 e1
    have hpb : pl + 1 ≤ 9223372036854775807 := by omega
    have hpI : (pl : Int) + 1 ≤ 9223372036854775807 := by omega
    have hpn : (0 : Int) ≤ pl := by omega
    have E4 := Fact.mk e4
    have E5 := Fact.mk e5
    clear hI hp e1 e2 e4 e5 hY hgv hlt hpl
    cases h1 : (Y.toList == x.toList)
    · rw [h1, if_neg (by simp)] at e3
      cases h2 : isB Y 4
      · rw [h2, if_pos rfl] at e3
        have H2 := Fact.mk h2
        have E3 := Fact.mk e3
        clear h2 e3
        gi_wp2_with (refine ⟨trivial, ?_⟩; gi_at_call 10; refine (CallsIn.inRound lp (callsIn_wide.2 (is_any _ 4 _ false H2))).mono ?_; rintro e w2 ⟨rfl, hb2⟩; have HB2 := Fact.mk hb2; clear hb2)
        refine ⟨Keep.of_below HB2.out, rfl, ?_, hB.trans (HB2.out.mono hB.size)⟩
        rw [HB2.out.cell (p := ⟨w.heap.size + 1, 0, none⟩) (by show w.heap.size + 1 < _; have := hB.size; have := World.block_lt_of_cell? W _ c1; exact this), c1, ← E3.out]
        rfl
      · rw [h2, if_neg (by simp)] at e3
        have H2 := Fact.mk h2
        have E3 := Fact.mk e3
        have hlt1 : w.heap.size + 1 < W.heap.size := World.block_lt_of_cell? W _ c1
        have HL1 := Fact.mk hlt1
        clear h2 e3 hlt1
        gi_wp2_with (refine ⟨trivial, ?_⟩; gi_at_call 10; refine (CallsIn.inRound lp (callsIn_wide.2 (is_any _ 4 _ true H2))).mono ?_; rintro e w2 ⟨rfl, hb2⟩; have HB2 := Fact.mk hb2; have c2 := (hb2.cell (p := ⟨w.heap.size + 1, 0, none⟩) HL1.out).trans c1; have f2 := (hb2.frozen (p := ⟨w.heap.size + 1, 0, none⟩) HL1.out).trans f1; have d2 := (hb2.cell (p := ⟨w.heap.size, 0, none⟩) (Nat.lt_trans (Nat.lt_succ_self _) HL1.out)).trans c0; clear hb2)
        have hk : Keep (fun k => k < w.heap.size + 3 ∧ k ≠ w.heap.size + 1) W0.heap.size W (w2.setCell ⟨w.heap.size + 1, 0, none⟩ (.int .i64 ((pl : Int) + 1))) := (Keep.of_below HB2.out).setCell (p := ⟨w.heap.size + 1, 0, none⟩) (by rintro ⟨_, h⟩; exact h rfl) (by show w.heap.size + 1 < _; omega) _
        refine ⟨hk, ⟨?_, ?_, by rw [World.frozen?_setCell]; exact f2⟩, (hB.trans (HB2.out.mono hB.size)).setCell (p := ⟨w.heap.size + 1, 0, none⟩) (by show _ ≤ w.heap.size + 1; omega) _, ⟨j, E4.out, by rw [E5.out]; have := E3.out; omega⟩⟩
        · exact (World.cell?_of_block (w := w2) (a := ⟨w.heap.size, 0, none⟩) (Below.heap_setCell _ _ _ _ (by show w.heap.size ≠ w.heap.size + 1; omega))).trans d2
        · rw [E5.out]
          exact World.cell?_setCell_same' _ _ _ (by rw [c2]; rfl)
    · rw [h1, if_pos rfl] at e3
      have E3 := Fact.mk e3
      clear e3
      gi_wp2
      refine ⟨trivial, ?_⟩
      gi_wp2
      refine ⟨Keep.refl _ _ _, rfl, ?_, hB⟩
      rw [c1, ← E3.out]; rfl
  case done =>
    rintro D W hD ⟨⟨c0, c1, f1⟩, hB, hI⟩ hK
    obtain ⟨j, e1, e2⟩ := hI.out
    rw [bk_len] at e1 e2 c1
    obtain rfl : j = 0 := by omega
    have e3 : B = al := by unfold impK at e2; omega
    subst e3
    clear hgv hml hV e1 e2 hI
    gi_wp2
    refine ⟨by simp, .inl ⟨_, _, rfl, run_takeDeferred hK, ?_⟩⟩
    exact ⟨_, results_tmp rfl _ _ _, rfl, below_putObj hB (by omega) (by have := hB.size; omega) _⟩
  case stop =>
    rintro D c pre W hD hpre ⟨rfl, hr, hB⟩ hK
    clear hgv hml hV
    gi_wp2
    refine ⟨by simp, .inl ⟨_, _, rfl, run_takeDeferred hK, ?_⟩⟩
    exact ⟨_, results_tmp rfl _ _ _, rfl, below_putObj hB (by omega) (by have := hB.size; omega) _⟩
end Go.Proofs.Ytnioibpeagffdaa
