/- DomEmpties, walked. -/
import Derived.Test.YtllimmmgjpnhkaaDomB
import Derived.Test.YtllimmmgjpnhkaaDomX
import Derived.Test.YtllimmmgjpnhkaaDomW6
import Derived.Test.YtllimmmgjpnhkaaGrown
import Derived.Test.YtllimmmgjpnhkaaGrowS
import Derived.Test.YtllimmmgjpnhkaaCompare
import Derived.Deep.LoopGhost
set_option linter.unusedVariables false
set_option linter.unusedSimpArgs false
namespace Go.Proofs.Ytllimmmgjpnhkaa
open Go.Deep (BT)
open Go.RowKit M

set_option maxRecDepth 20000 in
set_option maxHeartbeats 4000000 in
theorem empties_walk (v : Value) (ln : Nat) (w : World) (hl : IsL w.heap.size w v ln) :
    Calls Try.prog 7 #[v] w fun e w' => e = .returned (.bool true) ∧ Below w.heap.size w w' := by
  go_enter Try.func7, Try.ntmps7
  go_wp2_with (go_at_call 16; refine (Grown_any v ln w.heap.size _ hl (Nat.le_refl _)).mono ?_; rintro e w1 ⟨k, ka, kc, rfl, hg, hb1, hf1⟩)
  have HB1 := Fact.mk hb1
  have HNEW := Fact.mk (dNew_any rootG k (.slice none 0 0) (.slice ka k.len kc) w1.heap.size w1 ⟨AS.nothing, hf1.here⟩ (Nat.le_refl _) (by have := hg.out.deep; omega) hg.out.fine (by have := hg.out.most; omega) (by have := gslots k hg.out.ok; have := hg.out.most; show 0 + k.slots ≤ 100000; omega))
  clear hb1 hf1
  refine HNEW.out.mono ?_
  rintro e w2 ⟨p, mb, L, v2, rfl, hA, hB2, hLn⟩
  have hB : Below w.heap.size w w2 := HB1.out.trans (hB2.mono HB1.out.size)
  obtain ⟨P, hP⟩ : ∃ P, numF k (placeP [] rootG (-1)) 0 = P := ⟨_, rfl⟩
  rw [hP] at hLn
  have hwf : WFP P := by rw [← hP]; exact wf_root rootG k
  have hroot : P[0]? = some ⟨0, -1, kidsOf k 1, rootG⟩ := by rw [← hP]; exact (sits_root rootG k).here
  have hpl : P.length ≤ 1000 := by have := hA.few; rw [← hLn, List.length_map]; exact this
  obtain ⟨n, hn⟩ : ∃ n, P.length = n + 1 := ⟨P.length - 1, by have := (List.getElem?_eq_some_iff.1 hroot).1; omega⟩
  have hLl : L.length = n + 1 := by rw [← hn, ← hLn, List.length_map]
  have hcut : L.map pn = cutP P (n + 1) := by rw [hLn, ← hn]; exact (cut_all hwf).symm
  have HA := Fact.mk hA
  have HB := Fact.mk hB
  have HWF := Fact.mk hwf
  have HR := Fact.mk hroot
  have HN := Fact.mk hn
  have HPL := Fact.mk hpl
  have HC := Fact.mk hcut
  have hn9 : n ≤ 999 := by omega
  obtain ⟨C, hC⟩ : ∃ C, w1.heap.size = C := ⟨_, rfl⟩
  rw [hC] at HA
  have HCW : Fact (w.heap.size ≤ C ∧ C ≤ w2.heap.size) := ⟨by have := HB1.out.size; omega, by have := hB2.size; omega⟩
  clear hA hB hB2 hwf hroot hn hpl hcut HNEW hg hP hLn hC
  go_wp2_with (go_at_call 27; refine (dLen_any L C p mb v2 _ HA.out).mono ?_; rintro e w' ⟨rfl, hw⟩; have hw' := hw.symm; subst hw'; clear hw; rw [hLl])
  go_loopg [6] n (fun gf iv wr => ∃ (m : Nat) (L3 : List DN) (v3 : Value), iv = .int .i64 m ∧ m ≤ n ∧ m ≤ gf ∧ Fact (Arena wr C p L3 v3 mb ∧ L3.map pn = cutP P (m + 1) ∧ Below C w2 wr))
  case atStart => exact ⟨n, L, v2, rfl, Nat.le_refl _, Nat.le_refl _, ⟨HA.out, HC.out, Below.refl _ _⟩⟩
  case round =>
    obtain ⟨m, L3, v3, rfl, hmn, hfu, hfx⟩ := hrel
    cases m with
    | zero =>
      obtain ⟨h1, h2, h3⟩ := hfx.out
      rw [cut_one HWF.out HR.out] at h2
      obtain ⟨kv, av, rfl⟩ := one_root h2
      have HA3 := Fact.mk h1
      have HB3 : Fact (Below w.heap.size w wr) := ⟨HB.out.trans (h3.mono HCW.out.1)⟩
      have CLEN : Fact (Calls Try.prog 27 #[.pointer (some ⟨p, 0, none⟩)] wr fun e w' => e = .returned (.int .i64 1) ∧ w' = wr) := ⟨dLen_any _ C p mb v3 wr h1⟩
      have CK := Fact.mk (dKids_any _ C p mb v3 wr 0 0 ⟨0, -1, [], rootD, kv, av⟩ h1 ⟨by decide⟩ rfl rfl (by simp))
      clear hfx h1 h2 h3 hmn hfu
      go_wp2_with (first
        | (go_at_call 27; refine CLEN.out.mono ?_; rintro e w' ⟨rfl, hw⟩; have hw' := hw.symm; subst hw'; clear hw)
        | (go_at_call 28; refine CK.out.mono ?_; rintro e w4 ⟨v4, rfl, ho4, hb4⟩; obtain ⟨a4, c4, e4, _⟩ := own_val ho4; dsimp only [List.length_nil] at e4; subst e4; have HB4 := Fact.mk hb4; clear ho4 hb4)
        | (go_at_call 24; refine (dTree_bare _ C p mb 0 v3 _ ⟨0, -1, [], rootD, kv, av⟩ (HA3.out.below HB4.out (Nat.le_refl _)) rfl rfl rfl (by simp [rootD])).mono ?_; rintro e w5 ⟨v5, rfl, ho5, hb5⟩; obtain ⟨a5, c5, e5, hc5, hm5⟩ := own_val ho5; dsimp only [rootD, List.length_nil] at e5; subst e5; have HB5 := Fact.mk hb5; have HC5 := Fact.mk hm5; clear ho5 hb5 hc5 hm5; dsimp only [nodeV, rootD])
        | (go_at_call 29; refine (same_at (n := _) (d := rootD) (d' := rootD) (k := .nil) (k' := .nil) true ⟨by decide⟩ (by simp [BT.depth]) ⟨⟨a5, c5, rfl, Nat.zero_le _, HC5.out, .inl rfl⟩, ⟨none, 0, rfl, Nat.le_refl _, Nat.zero_le _, .inl rfl⟩⟩ ⟨⟨none, 0, rfl, Nat.le_refl _, Nat.zero_le _, .inl rfl⟩, ⟨none, 0, rfl, Nat.le_refl _, Nat.zero_le _, .inl rfl⟩⟩ (Nat.le_refl _)).mono ?_; rintro e w6 ⟨rfl, hb6⟩; have HB6 := Fact.mk hb6; clear hb6)
        | (go_at_call 10; refine (awake6_true _).mono ?_; rintro e w7 ⟨rfl, hb7⟩; have HB7 := Fact.mk hb7; clear hb7))
      go_ret
      have b4 : Below w.heap.size w w4 := HB3.out.trans (HB4.out.mono HB3.out.size)
      have b5 : Below w.heap.size w w5 := b4.trans (HB5.out.mono b4.size)
      have b6 : Below w.heap.size w w6 := b5.trans (HB6.out.mono b5.size)
      exact ⟨rfl, b6.trans (HB7.out.mono b6.size)⟩
    | succ m =>
      obtain ⟨g', rfl⟩ : ∃ g', gk = g' + 1 := ⟨gk - 1, by omega⟩
      obtain ⟨h1, h2, h3⟩ := hfx.out
      have hP9 := HPL.out
      have hN9 := HN.out
      have hok := cut_ok HWF.out (k := m + 1 + 1) (by omega)
      rw [← h2] at hok
      have hl3 : L3.length = m + 1 + 1 := by
        have := congrArg List.length h2
        rw [List.length_map, cut_len (by omega)] at this
        exact this
      obtain ⟨y, hy⟩ : ∃ y, L3[0]? = some y := ⟨_, List.getElem?_eq_getElem (by omega)⟩
      have hyk : y.kids.length ≤ 1000000 := by
        have := hok.few (pn y) (List.mem_map_of_mem (List.mem_of_getElem? hy))
        rw [List.length_map] at this
        have h9 : y.kids.length ≤ L3.length := this
        omega
      have hp0 : placeOf L3 0 = some ((0 : Nat) : Int) := pos_place hok (i := 0) (by omega)
      have CK := Fact.mk (dKids_any L3 C p mb v3 wr 0 0 y h1 ⟨by decide⟩ hp0 hy hyk)
      have CD0 : Fact (∀ w', Below wr.heap.size wr w' → _) := ⟨fun w' hb => dDelete_root L3 C p mb 0 v3 w' (h1.below hb (Nat.le_refl _)) hp0⟩
      have CDS : Fact (∀ w', Below wr.heap.size wr w' → Calls Try.prog 19 #[.pointer (some ⟨p, 0, none⟩), .int .i64 ((m : Int) + 1)] w' fun e w'' => e = .returned (.int .i64 0) ∧ ∃ v' L', Arena w'' C p L' v' mb ∧ L'.map pn = cutP P (m + 1) ∧ Below C w' w'') := ⟨fun w' hb => del_step (m := m + 1) HWF.out HPL.out (by omega) (by omega) L3 C p mb v3 w' (h1.below hb (Nat.le_refl _)) h2⟩
      have CNO : Fact (∀ (w' : World) (L' : List DN) (v' : Value), Arena w' C p L' v' mb → L'.map pn = cutP P (m + 1) → L'.length = m + 1 ∧ placeOf L' ((m : Int) + 1) = none) := ⟨fun w' L' v' hA' hL' => by
        have hok' := cut_ok HWF.out (k := m + 1) (by omega)
        rw [← hL'] at hok'
        have hl : L'.length = m + 1 := by
          have := congrArg List.length hL'
          rw [List.length_map, cut_len (by omega)] at this
          exact this
        have h9 := pos_none hok'
        rw [hl] at h9
        exact ⟨hl, h9⟩⟩
      have i6 : Is64 ((m : Int) + 1) := ⟨by simp [Lit.wf, IntKind.min, IntKind.max, IntKind.signed, IntKind.bits]; omega⟩
      have HB3 := Fact.mk h3
      have HWC : Fact (C ≤ wr.heap.size) := ⟨by have := h3.size; have := HCW.out; omega⟩
      obtain ⟨kl, hkl⟩ : ∃ kl, y.kids.length = kl := ⟨_, rfl⟩
      rw [hkl] at CK hyk
      clear hfx h1 h2 h3 hok hl3 hy hp0 hP9 hN9 hkl
      have n1 : (1 : Int) ≤ (m : Int) + 1 := by omega
      by_cases hm0 : m = 0
      · subst hm0
        have CDS1 : Fact (∀ w', Below wr.heap.size wr w' → Calls Try.prog 19 #[.pointer (some ⟨p, 0, none⟩), .int .i64 1] w' fun e w'' => e = .returned (.int .i64 0) ∧ ∃ v' L', Arena w'' C p L' v' mb ∧ L'.map pn = cutP P (0 + 1) ∧ Below C w' w'') := ⟨CDS.out⟩
        have CNO1 : Fact (∀ (w' : World) (L' : List DN) (v' : Value), Arena w' C p L' v' mb → L'.map pn = cutP P (0 + 1) → L'.length = 1 ∧ placeOf L' 1 = none) := ⟨CNO.out⟩
        have i61 : Is64 1 := ⟨by decide⟩
        clear CDS CNO i6 n1
        have HB4 : Fact (Below wr.heap.size wr wr) := ⟨Below.refl _ _⟩
        go_wp2_with (first
          | (go_at_call 19; refine (dDelete_none L5 C p mb v5 _ _ HA5.out i61 HN5.out).mono ?_; rintro e w' ⟨rfl, hw⟩; have hw' := hw.symm; subst hw'; clear hw)
          | (go_at_call 19; refine (CDS1.out _ HB4.out).mono ?_; rintro e w5 ⟨rfl, v5, L5, hA5, hL5, hb5⟩; obtain ⟨hl5, hn5⟩ := CNO1.out _ _ _ hA5 hL5; have HA5 := Fact.mk hA5; have HL5 := Fact.mk hL5; have HB5 := Fact.mk hb5; have HN5 := Fact.mk hn5; have hs5 : (placeOf L5 1).isSome = false := (by rw [hn5]; rfl); clear hA5 hL5 hb5 hn5)
          | (go_at_call 35; refine (dHas_any L5 C p mb v5 _ _ HA5.out i61).mono ?_; rintro e w' ⟨rfl, hw⟩; have hw' := hw.symm; subst hw'; clear hw; rw [hs5])
          | (go_at_call 27; refine (dLen_any L5 C p mb v5 _ HA5.out).mono ?_; rintro e w' ⟨rfl, hw⟩; have hw' := hw.symm; subst hw'; clear hw; rw [hl5]))
        go_roundg g'
        case measure => omega
        case rel => exact ⟨0, L5, v5, by go_num, by omega, by omega, ⟨HA5.out, HL5.out, HB3.out.trans ((HB4.out.mono HWC.out).trans HB5.out)⟩⟩
      · have n2 : (1 : Int) < (m : Int) + 1 := by omega
        by_cases hk0 : kl = 0
        · subst hk0
          go_wp2_with (go_at_call 28; refine CK.out.mono ?_; rintro e w4 ⟨v4, rfl, ho4, hb4⟩; obtain ⟨a4, c4, e4, _⟩ := own_val ho4; subst e4; have HB4 := Fact.mk hb4; clear ho4 hb4)
          go_wp2_with (first
            | (go_at_call 19; refine (dDelete_none L5 C p mb v5 _ _ HA5.out i6 HN5.out).mono ?_; rintro e w' ⟨rfl, hw⟩; have hw' := hw.symm; subst hw'; clear hw)
            | (go_at_call 19; refine (CDS.out _ HB4.out).mono ?_; rintro e w5 ⟨rfl, v5, L5, hA5, hL5, hb5⟩; obtain ⟨hl5, hn5⟩ := CNO.out _ _ _ hA5 hL5; have HA5 := Fact.mk hA5; have HL5 := Fact.mk hL5; have HB5 := Fact.mk hb5; have HN5 := Fact.mk hn5; have hs5 : (placeOf L5 ((m : Int) + 1)).isSome = false := (by rw [hn5]; rfl); clear hA5 hL5 hb5 hn5)
            | (go_at_call 35; refine (dHas_any L5 C p mb v5 _ _ HA5.out i6).mono ?_; rintro e w' ⟨rfl, hw⟩; have hw' := hw.symm; subst hw'; clear hw; rw [hs5])
            | (go_at_call 27; refine (dLen_any L5 C p mb v5 _ HA5.out).mono ?_; rintro e w' ⟨rfl, hw⟩; have hw' := hw.symm; subst hw'; clear hw; rw [hl5]))
          go_roundg g'
          case measure => omega
          case rel => exact ⟨m, L5, v5, by go_num, by omega, by omega, ⟨HA5.out, HL5.out, HB3.out.trans ((HB4.out.mono HWC.out).trans HB5.out)⟩⟩
        · have hk1 : (0 : Int) < kl := by omega
          go_wp2_with (first
            | (go_at_call 28; refine CK.out.mono ?_; rintro e w4 ⟨v4, rfl, ho4, hb4⟩; obtain ⟨a4, c4, e4, _⟩ := own_val ho4; subst e4; have HB4 := Fact.mk hb4; clear ho4 hb4)
            | (go_at_call 19; refine (CD0.out _ HB4.out).mono ?_; rintro e w' ⟨rfl, hw⟩; have hw' := hw.symm; subst hw'; clear hw CD0))
          go_wp2_with (first
            | (go_at_call 19; refine (dDelete_none L5 C p mb v5 _ _ HA5.out i6 HN5.out).mono ?_; rintro e w' ⟨rfl, hw⟩; have hw' := hw.symm; subst hw'; clear hw)
            | (go_at_call 19; refine (CDS.out _ HB4.out).mono ?_; rintro e w5 ⟨rfl, v5, L5, hA5, hL5, hb5⟩; obtain ⟨hl5, hn5⟩ := CNO.out _ _ _ hA5 hL5; have HA5 := Fact.mk hA5; have HL5 := Fact.mk hL5; have HB5 := Fact.mk hb5; have HN5 := Fact.mk hn5; have hs5 : (placeOf L5 ((m : Int) + 1)).isSome = false := (by rw [hn5]; rfl); clear hA5 hL5 hb5 hn5)
            | (go_at_call 35; refine (dHas_any L5 C p mb v5 _ _ HA5.out i6).mono ?_; rintro e w' ⟨rfl, hw⟩; have hw' := hw.symm; subst hw'; clear hw; rw [hs5])
            | (go_at_call 27; refine (dLen_any L5 C p mb v5 _ HA5.out).mono ?_; rintro e w' ⟨rfl, hw⟩; have hw' := hw.symm; subst hw'; clear hw; rw [hl5]))
          go_roundg g'
          case measure => omega
          case rel => exact ⟨m, L5, v5, by go_num, by omega, by omega, ⟨HA5.out, HL5.out, HB3.out.trans ((HB4.out.mono HWC.out).trans HB5.out)⟩⟩
end Go.Proofs.Ytllimmmgjpnhkaa
