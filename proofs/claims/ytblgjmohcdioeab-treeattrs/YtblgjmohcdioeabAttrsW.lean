/- TreeAttrs, walked: each attribute of a tree by numbers is found by its name, and no other one. -/
import Derived.Test.YtblgjmohcdioeabGrown
import Derived.Test.YtblgjmohcdioeabRefA
set_option linter.unusedVariables false
namespace Go.Proofs.Ytblgjmohcdioeab
open Go.Deep (BT)
open Go.RowKit M

theorem kidsAt {n : Nat} {w : World} {v : Value} {k : M.F} (h : FL (Old n) w v k) : ∃ a c b o, v = .slice a k.len c ∧ k.len ≤ c ∧ c ≤ maxLen ∧ Fact (∀ i, i < k.len → a = some ⟨b, o, none⟩ ∧ b < n ∧ FAt (Old n) w k b o) := by
  obtain ⟨a, c, e, h1, h2, hF⟩ := h
  rcases hF with h0 | ⟨b, o, ea, hS, hcs⟩
  · refine ⟨a, c, 0, 0, e, h1, h2, ⟨fun i hi => ?_⟩⟩
    omega
  · exact ⟨a, c, b, o, e, h1, h2, ⟨fun i hi => ⟨ea, hS, hcs⟩⟩⟩

/-- is a name among attributes? -/
def isIn (l : List (ByteArray × ByteArray)) (s : ByteArray) : Bool := l.any fun p => p.1.toList == s.toList
theorem atOf_in : ∀ (l : List (ByteArray × ByteArray)) (s : ByteArray), (atOf l s).2 = isIn l s
  | [], _ => rfl
  | p :: l, s => by
    show (if (p.1.toList == s.toList) = true then (p.2, true) else atOf l s).2 = ((p.1.toList == s.toList) || isIn l s)
    cases h : (p.1.toList == s.toList)
    · rw [if_neg (by simp)]; exact (atOf_in l s)
    · rw [if_pos rfl]; rfl
theorem isIn_take (l : List (ByteArray × ByteArray)) (s : ByteArray) (j : Nat) (h : j < l.length) : isIn (l.take (j + 1)) s = (isIn (l.take j) s || (bs l j).1.toList == s.toList) := by
  unfold isIn
  rw [List.take_succ_eq_append_getElem h, List.any_append, bs_get l j h]
  simp
theorem isIn_all (l : List (ByteArray × ByteArray)) (s : ByteArray) : isIn (l.take l.length) s = isIn l s := by rw [List.take_length]
theorem GAt.len {l : List (ByteArray × ByteArray)} (h : GAt l) : l.length ≤ 2 := by
  rcases h with (rfl | ⟨i, hi, rfl⟩) | ⟨m, j, (rfl | ⟨i, hi, rfl⟩), hj, rfl⟩ <;> simp
/-- each attribute is found by its name -/
theorem GAt.found {l : List (ByteArray × ByteArray)} (h : GAt l) : ∀ j, j < l.length → atOf l (bs l j).1 = ((bs l j).2, true) := by
  have hid : (tId.toList == tId.toList) = true := by kernel_rfl
  have hx : (tX.toList == tX.toList) = true := by kernel_rfl
  have hix : (tId.toList == tX.toList) = false := by kernel_rfl
  intro j hj
  rcases h with (rfl | ⟨i, hi, rfl⟩) | ⟨m, q, (rfl | ⟨i, hi, rfl⟩), hq, rfl⟩
  · exact absurd hj (Nat.not_lt_zero _)
  · have : j = 0 := by simpa using hj
    subst this
    show (if (tId.toList == tId.toList) = true then _ else _) = _
    rw [if_pos hid]; rfl
  · have : j = 0 := by simpa using hj
    subst this
    show (if (tX.toList == tX.toList) = true then _ else _) = _
    rw [if_pos hx]; rfl
  · have : j = 0 ∨ j = 1 := by simp at hj; omega
    rcases this with rfl | rfl
    · show (if (tId.toList == tId.toList) = true then _ else _) = _
      rw [if_pos hid]; rfl
    · show (if (tId.toList == tX.toList) = true then _ else (if (tX.toList == tX.toList) = true then _ else _)) = _
      rw [if_neg (by rw [hix]; simp), if_pos hx]; rfl
theorem GNd.ats {d : Nd} {l : Nat} (h : GNd d l) : GAt d.ats := by
  rcases h with ⟨_, _, _, h, _⟩ | ⟨_, _, _, h, _⟩ | ⟨_, _, _, h⟩
  · exact .inl (.inl h)
  · exact .inl (.inl h)
  · exact h

theorem keepAt {w W w5 : World} {b0 b1 c0 c1 c2 c3 c4 : Addr} {x0 x1 y0 y1 y2 y3 y4 : Value} (hb : Below W.heap.size W w5)
    (h : Below w.heap.size w W ∧ (W.cell? b0 = some x0 ∧ W.cell? b1 = some x1) ∧ (W.cell? c0 = some y0 ∧ W.cell? c1 = some y1 ∧ W.cell? c2 = some y2 ∧ W.cell? c3 = some y3 ∧ W.cell? c4 = some y4)) :
    Below w.heap.size w w5 ∧ (w5.cell? b0 = some x0 ∧ w5.cell? b1 = some x1) ∧ (w5.cell? c0 = some y0 ∧ w5.cell? c1 = some y1 ∧ w5.cell? c2 = some y2 ∧ w5.cell? c3 = some y3 ∧ w5.cell? c4 = some y4) := by
  have hk : ∀ a v, W.cell? a = some v → w5.cell? a = some v := fun a v hc => (hb.cell (p := a) (World.block_lt_of_cell? W _ hc)).trans hc
  obtain ⟨h0, ⟨p0, p1⟩, r0, r1, r2, r3, r4⟩ := h
  exact ⟨h0.trans (hb.mono h0.size), ⟨hk _ _ p0, hk _ _ p1⟩, hk _ _ r0, hk _ _ r1, hk _ _ r2, hk _ _ r3, hk _ _ r4⟩

set_option maxRecDepth 20000 in
set_option maxHeartbeats 4000000 in
theorem attrs_walk (v : Value) (ln : Nat) (s : ByteArray) (w : World) (hl : IsL w.heap.size w v ln) :
    Calls Try.prog 3 #[v, .string s] w fun e w' => e = .returned (.bool true) ∧ Below w.heap.size w w' := by
  obtain ⟨va, vc, ev, _⟩ := hl.h
  subst ev
  have HL := Fact.mk hl
  clear hl
  go_enter Try.func3, Try.ntmps3
  go_wp2_with fail
  refine (Grown_any _ ln w.heap.size w HL.out (Nat.le_refl _)).mono ?_
  rintro e w1 ⟨k, a, c, rfl, hgt, hb1, hf1⟩
  have hf2 : FL (Old w1.heap.size) w1 (.slice a k.len c) k := hf1.inn.mono (fun b hb => hb.2)
  obtain ⟨a', c', b, o, e1, hc1, hm1, hkd⟩ := kidsAt hf2
  cases e1
  obtain ⟨kl, hkl⟩ : ∃ kl, k.len = kl := ⟨_, rfl⟩
  rw [hkl] at hc1 hkd ⊢
  unfold maxLen at hm1
  obtain ⟨W1, hW1⟩ : ∃ W1, w1.alloc (.cells #[.int .i64 1, .string ⟨#[]⟩, .string ⟨#[]⟩, .slice none 0 0, .slice a kl c] 26) = W1 := ⟨_, rfl⟩
  have hB1 : Below w1.heap.size w1 W1 := by rw [← hW1]; exact (Below.refl _ w1).alloc (Nat.le_refl _) _
  have hz1 : W1.heap.size = w1.heap.size + 1 := by rw [← hW1]; simp
  have hx4 : W1.cell? ⟨w1.heap.size, 4, none⟩ = some (.slice a kl c) := by rw [← hW1]; exact World.cell?_alloc_new w1 _ _ 4
  have HB1 := Fact.mk hB1
  have HX4 := Fact.mk hx4
  have HKL := Fact.mk hkl
  have HB := Fact.mk hb1
  have HW1 := Fact.mk hW1
  clear hf1 hf2 hB1 hx4 hkl hb1 hW1
  go_wp2_with fail
  rw [HW1.out]
  go_loopg [6] kl (fun gf iv wr => ∃ (i : Nat) (rest : M.F), iv = .int .i64 i ∧ i + rest.len = kl ∧ rest.len ≤ gf ∧ Fact (Below (w1.heap.size + 1) W1 wr) ∧ Fact ((rest.len = 0 ∨ FAt (Old w1.heap.size) w1 rest b (o + i * 5)) ∧ gOK rest))
  case atStart =>
    refine ⟨0, k, rfl, by rw [HKL.out]; omega, by rw [HKL.out]; omega, ⟨Below.refl _ _⟩, ⟨?_, hgt.out.ok⟩⟩
    by_cases h0 : kl = 0
    · left; rw [HKL.out]; exact h0
    · right
      rw [Nat.zero_mul, Nat.add_zero]
      exact (hkd.out 0 (by omega)).2.2
  case round =>
    obtain ⟨i, rest, rfl, hlen, hfu, hBr, hfx⟩ := hrel
    have y4 := (hBr.out.cell (p := ⟨w1.heap.size, 4, none⟩) (by show w1.heap.size < _; omega)).trans HX4.out
    have hbw : Below w1.heap.size w1 wr := HB1.out.trans (hBr.out.mono (by omega))
    have HW : Fact (Below w.heap.size w wr) := ⟨HB.out.trans (hbw.mono HB.out.size)⟩
    cases rest with
    | nil =>
      have hi : i = kl := by have : i + 0 = kl := hlen; omega
      have HAT : Fact (Lies wr.heap.size wr ⟨0, ⟨#[]⟩, ⟨#[]⟩, []⟩ .nil (.slice none 0 0) (.slice none 0 0)) := ⟨⟨AS.nothing, FL.nothing⟩⟩
      clear hfx hlen hkd hbw
      subst hi
      go_wp2_with (first
        | (go_at_call 6; refine (attr_any ⟨0, ⟨#[]⟩, ⟨#[]⟩, []⟩ .nil _ _ wr.heap.size wr HAT.out (Nat.le_refl _) s ⟨#[]⟩ false ⟨rfl⟩).mono ?_; rintro e w5 ⟨rfl, hb5⟩)
        | (go_at_call 7; refine (awake_true _).mono ?_; rintro e w6 ⟨rfl, hb6⟩))
      go_ret
      exact ⟨rfl, HW.out.trans ((hb5.mono HW.out.size).trans (hb6.mono (Nat.le_trans HW.out.size hb5.size)))⟩
    | node xb xo d' k' r' =>
      have hlen' : i + (r'.len + 1) = kl := hlen
      have hfu' : r'.len + 1 ≤ gk := hfu
      obtain ⟨g', rfl⟩ : ∃ g', gk = g' + 1 := ⟨gk - 1, by omega⟩
      obtain ⟨ea2, hb2, _⟩ := hkd.out i (by omega)
      subst ea2
      obtain ⟨hfat, hgn, hgk, hgr⟩ := hfx.out
      have hfat' := hfat.resolve_left (by show ¬ r'.len + 1 = 0; omega)
      obtain ⟨⟨av', ka', kc', e0, e1, e2, e3, e4, hav', h4, h5, hkk⟩, hrr⟩ := hfat'
      have hcc : ∀ o, wr.cell? ⟨b, o, none⟩ = w1.cell? ⟨b, o, none⟩ := fun o => hbw.cell (p := ⟨b, o, none⟩) (by show b < _; omega)
      obtain ⟨kl', hkl'⟩ : ∃ kl', k'.len = kl' := ⟨_, rfl⟩
      rw [hkl'] at e4 h4
      have hga := hgn.ats
      obtain ⟨K, N, X, A⟩ := d'
      dsimp only at e0 e1 e2 hav' hga
      have f0 := (hcc _).trans e0
      have f1 := (hcc _).trans e1
      have f2 := (hcc _).trans e2
      have f4 := (hcc _).trans e4
      have hlk : Like (Old w1.heap.size) w1 wr := like_below hbw
      have hLi : Lies w1.heap.size wr ⟨K, N, X, A⟩ k' av' (.slice ka' kl' kc') := ⟨hav'.like hlk, by have := FL.like hlk (⟨ka', kc', rfl, by rw [hkl']; exact h4, h5, hkk⟩ : FL (Old w1.heap.size) w1 (.slice ka' k'.len kc') k'); rw [hkl'] at this; exact this⟩
      obtain ⟨a3, c3, b3, o3, eav, hc3, hm3, hpl⟩ := (hav'.like hlk).place
      obtain ⟨al, hal⟩ : ∃ al, A.length = al := ⟨_, rfl⟩
      rw [hal] at eav hc3 hpl
      subst eav
      have f3 := (hcc _).trans e3
      have hal2 : al ≤ 2 := by rw [← hal]; exact hga.len
      have HGA := Fact.mk hga
      have HAL := Fact.mk hal
      have HPL := Fact.mk hpl
      have HLI := Fact.mk hLi
      have HR : Fact (FAt (Old w1.heap.size) w1 r' b (o + (i + 1) * 5) ∧ gOK r') := ⟨by rw [show o + (i + 1) * 5 = o + i * 5 + 5 by omega]; exact hrr, hgr⟩
      obtain ⟨W2, hW2⟩ : ∃ W2, wr.alloc (.cells #[.int .i64 K, .string N, .string X, .slice a3 al c3, .slice ka' kl' kc'] 26) = W2 := ⟨_, rfl⟩
      have hB2 : Below wr.heap.size wr W2 := by rw [← hW2]; exact (Below.refl _ wr).alloc (Nat.le_refl _) _
      have hz2 : W2.heap.size = wr.heap.size + 1 := by rw [← hW2]; simp
      have HBX : Fact (Five W2 wr.heap.size (.int .i64 K) (.string N) (.string X) (.slice a3 al c3) (.slice ka' kl' kc')) := ⟨by rw [← hW2]; exact Five.new wr _ _ _ _ _ _⟩
      have HB2 := Fact.mk hB2
      have HW2 := Fact.mk hW2
      have j1 : (i : Int) < kl := by omega
      have j3 : (0 : Int) ≤ i := by omega
      unfold maxLen at hm3
      clear hfx hfat hgn hgk hgr hrr hkk hav' hlk e0 e1 e2 e3 e4 hkd hlen hfu hcc hbw hga hal hpl hLi hB2 hW2 hkl'
      go_wp2_with fail
      rw [HW2.out]
      go_loopg [8, 9] al (fun gf bv jv wq => ∃ (j : Nat) (bb : Bool), (bv = .bool bb ∧ jv = .int .i64 j) ∧ j ≤ al ∧ al ≤ j + gf ∧ Fact (Below (wr.heap.size + 1) W2 wq) ∧ Fact (isIn (A.take j) s = bb))
      case atStart => exact ⟨0, false, ⟨rfl, rfl⟩, Nat.zero_le _, by omega, ⟨Below.refl _ _⟩, ⟨by rw [List.take_zero]; rfl⟩⟩
      case round =>
        obtain ⟨j, bb, ⟨rfl, rfl⟩, hj, hfj, hBq, hbb⟩ := hrel
        rename World => wq
        have hBx := HBX.out.same (hBq.out.block _ (by omega))
        obtain ⟨x0, x1, x2, x3, x4, _⟩ := id hBx
        have hbq : Below wr.heap.size wr wq := HB2.out.trans (hBq.out.mono (by omega))
        have HWQ : Fact (Below w.heap.size w wq) := ⟨HW.out.trans (hbq.mono HW.out.size)⟩
        have hwr2 : w1.heap.size + 1 ≤ wr.heap.size := by have := hBr.out.size; omega
        have hwr1 : w1.heap.size ≤ wr.heap.size := by omega
        have hwq1 : wr.heap.size + 1 ≤ wq.heap.size := by have := hBq.out.size; omega
        have HLQ : Fact (Lies w1.heap.size wq.drew ⟨K, N, X, A⟩ k' (.slice a3 al c3) (.slice ka' kl' kc')) := ⟨HLI.out.below (hbq.mono hwr1).drew⟩
        have HLQ0 : Fact (Lies w1.heap.size wq ⟨K, N, X, A⟩ k' (.slice a3 al c3) (.slice ka' kl' kc')) := ⟨HLI.out.below (hbq.mono hwr1)⟩
        by_cases hlt : j < al
        · obtain ⟨g3, rfl⟩ : ∃ g3, gk = g3 + 1 := ⟨gk - 1, by omega⟩
          obtain ⟨ea3, hb3, z0, z1⟩ := HPL.out j hlt
          subst ea3
          have hfd := HGA.out.found j (by rw [HAL.out]; exact hlt)
          have htk := isIn_take A s j (by rw [HAL.out]; exact hlt)
          obtain ⟨⟨N1, V1⟩, hp⟩ : ∃ p, bs A j = p := ⟨_, rfl⟩
          rw [hp] at z0 z1 hfd htk
          dsimp only at z0 z1 hfd htk
          rw [hbb.out] at htk
          have HFD : Fact (atOf A N1 = (V1, true)) := ⟨hfd⟩
          have HTK := Fact.mk htk
          have hcall := attr_any ⟨K, N, X, A⟩ k' _ _ w1.heap.size wq.drew HLQ.out (by show w1.heap.size ≤ wq.heap.size; omega) N1 V1 true HFD
          have HCALL := Fact.mk hcall
          have HS : Fact (Below wq.heap.size wq wq.drew ∧ (wq.drew.cell? ⟨b3, o3 + j * 2, none⟩ = some (.string N1) ∧ wq.drew.cell? ⟨b3, o3 + j * 2 + 1, none⟩ = some (.string V1)) ∧ (wq.drew.cell? ⟨wr.heap.size, 0, none⟩ = some (.int .i64 K) ∧ wq.drew.cell? ⟨wr.heap.size, 1, none⟩ = some (.string N) ∧ wq.drew.cell? ⟨wr.heap.size, 2, none⟩ = some (.string X) ∧ wq.drew.cell? ⟨wr.heap.size, 3, none⟩ = some (.slice (some ⟨b3, o3, none⟩) al c3) ∧ wq.drew.cell? ⟨wr.heap.size, 4, none⟩ = some (.slice ka' kl' kc'))) :=
            ⟨(Below.refl _ _).drew, ⟨(hbq.cell (p := ⟨b3, o3 + j * 2, none⟩) (by show b3 < _; omega)).trans z0, (hbq.cell (p := ⟨b3, o3 + j * 2 + 1, none⟩) (by show b3 < _; omega)).trans z1⟩, x0, x1, x2, x3, x4⟩
          have j5 : (j : Int) < al := by omega
          have j6 : (0 : Int) ≤ j := by omega
          have heq : (V1.toList == V1.toList) = true := beq_self_eq_true _
          clear z0 z1 hfd htk hp hcall hbb hbq hBx HPL
          go_wp2_with fail
          have hS0 := HS.out
          clear HS
          go_region_held3 (fun w' => Below wq.heap.size wq w' ∧ (w'.cell? ⟨b3, o3 + j * 2, none⟩ = some (.string N1) ∧ w'.cell? ⟨b3, o3 + j * 2 + 1, none⟩ = some (.string V1)) ∧ (w'.cell? ⟨wr.heap.size, 0, none⟩ = some (.int .i64 K) ∧ w'.cell? ⟨wr.heap.size, 1, none⟩ = some (.string N) ∧ w'.cell? ⟨wr.heap.size, 2, none⟩ = some (.string X) ∧ w'.cell? ⟨wr.heap.size, 3, none⟩ = some (.slice (some ⟨b3, o3, none⟩) al c3) ∧ w'.cell? ⟨wr.heap.size, 4, none⟩ = some (.slice ka' kl' kc')))
            (first | with_reducible exact hS0 | with_reducible exact keepAt hb5 (by assumption))
            (first | (go_at_call 6; refine HCALL.out.mono ?_; rintro e w5 ⟨rfl, hb5⟩))
          rename_i hHeld
          obtain ⟨hH0, ⟨z0, z1⟩, _, _, _, z5, _⟩ := hHeld
          have HB5 : Fact (Below (wr.heap.size + 1) W2 w5) := ⟨hBq.out.trans (hH0.mono (by have := hBq.out.size; omega))⟩
          clear hH0 HCALL hS0 hb5
          cases bb
          · go_wp2_with fail
            go_roundg g3
            case measure => omega
            case rel => exact ⟨j + 1, _, ⟨rfl, by go_num⟩, by omega, by omega, HB5, ⟨by rw [HTK.out]; rfl⟩⟩
          · go_wp2_with fail
            go_roundg g3
            case measure => omega
            case rel => exact ⟨j + 1, true, ⟨rfl, by go_num⟩, by omega, by omega, HB5, ⟨by rw [HTK.out]; rfl⟩⟩
        · have hjal : j = al := by omega
          have j5 : ¬ (j : Int) < al := by omega
          obtain ⟨⟨V, B⟩, hVB⟩ : ∃ p, atOf A s = p := ⟨_, rfl⟩
          have hB : B = bb := by
            have h1 := atOf_in A s
            rw [hVB] at h1
            have h2 := hbb.out
            rw [hjal, ← HAL.out, isIn_all] at h2
            exact h1.trans h2
          subst hB
          have HVB := Fact.mk hVB
          have hbe : (B != B) = false := by cases B <;> rfl
          clear hVB hbb hBx hbq HPL hjal
          go_wp2_with (go_at_call 6; refine (attr_any ⟨K, N, X, A⟩ k' _ _ w1.heap.size wq HLQ0.out (by omega) s V B HVB).mono ?_; rintro e w5 ⟨rfl, hb5⟩)
          have HB5 : Fact (Below (w1.heap.size + 1) W1 w5) := ⟨hBr.out.trans ((HB2.out.mono (by omega)).trans ((hBq.out.mono (by omega)).trans (hb5.mono (by omega))))⟩
          clear hb5
          go_roundg g'
          case measure => omega
          case rel => exact ⟨i + 1, r', by go_num, by omega, by omega, HB5, ⟨.inr HR.out.1, HR.out.2⟩⟩
end Go.Proofs.Ytblgjmohcdioeab
