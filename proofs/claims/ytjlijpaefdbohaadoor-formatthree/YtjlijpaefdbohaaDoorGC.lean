/- FormatThree: the walk. -/
import Derived.Test.YtjlijpaefdbohaaDoorGE
set_option linter.unusedVariables false
set_option linter.unusedSimpArgs false
namespace Go.Proofs.YtjlijpaefdbohaaDoor
open Go.RowKit

def atC : List (ByteArray × ByteArray) := [(⟨#[99]⟩, ⟨#[100]⟩)]
def tI1 : ByteArray := ⟨#[105]⟩
theorem atC_row (wx : World) : RowOn (wx.alloc (.cells #[.string ⟨#[99]⟩, .string ⟨#[100]⟩] 53)) (.slice (some ⟨wx.heap.size, 0, none⟩) 1 1) atC.length 2 (rowA atC) := by
  refine ⟨rfl, rowA_one _, some ⟨wx.heap.size, 0, none⟩, 1, rfl, Nat.le_refl _, by unfold maxLen; omega, .inr ⟨_, rfl, fun j u hu => ?_⟩⟩
  have e : (wx.alloc (.cells #[.string ⟨#[99]⟩, .string ⟨#[100]⟩] 53)).heap[wx.heap.size]? = some (.cells [Value.string ⟨#[99]⟩, .string ⟨#[100]⟩].toArray 53 (0, 0)) := heap_alloc_new wx _
  exact cells_of e j u hu
theorem ky_okC (m : Nat) (hm : m ≤ 1000000) : Ky.Ok ⟨(m : Int), tI1, atC⟩ := by
  refine ⟨is_nat m hm, by show tI1.size ≤ maxLen; unfold maxLen tI1; decide, by show atC.length ≤ 12; decide, ?_⟩
  intro p hp
  have : p = (⟨#[99]⟩, ⟨#[100]⟩) := by simpa [atC] using hp
  subst this
  unfold maxLen
  decide
theorem st_pushC {w0 wx : World} {A T : List It} {c m i r : Nat} (h : St w0 wx (A ++ T) c) (hs : Sg A T (m : Int) tI1 atC i r) (hm : m ≤ 1000) (hi : i ≤ 1000) (hl : (A ++ T).length < 1000) (hc : c + 1 < 100000) :
    Calls Tryd.prog 24 #[pt w0, .agg #[.int .i64 ((i : Int) + 1), .string ⟨#[105]⟩, .slice (some ⟨wx.heap.size, 0, none⟩) 1 1]] (wx.alloc (.cells #[.string ⟨#[99]⟩, .string ⟨#[100]⟩] 53)) fun e w' => e = .returned (.tuple #[]) ∧ ∃ T', St w0 w' (A ++ T') (c + 2) ∧ Sg A T' (m : Int) tI1 atC (i + 1) (r + 1) ∧ T'.length ≤ 3 := by
  obtain ⟨v, hf, hb⟩ := (h.alloc (.cells #[.string ⟨#[99]⟩, .string ⟨#[100]⟩] 53)).h
  obtain ⟨v0, hf0, hb0⟩ := h.h
  have hp := push_any (A ++ T) (A ++ lft T r) w0.heap.size (w0.heap.size + 1) w0.heap.size c v _ ((i : Int) + 1) tI1 atC (.slice (some ⟨wx.heap.size, 0, none⟩) 1 1) hf (atC_row wx)
    (fun k e hin => by
      obtain rfl : wx.heap.size = k := Option.some.inj e
      have h1 := hf0.lt (w0.heap.size + 1) (.inl rfl)
      have h2 := hf0.lt w0.heap.size (.inr (.inl rfl))
      rcases hin with e | e | e
      · omega
      · omega
      · rcases hf.row.2 with ⟨e0, _⟩ | ⟨g', cap', cur', e1, _, hh, _⟩
        · rw [e0] at e; cases e
        · rw [e1] at e
          obtain rfl : g' = wx.heap.size := Option.some.inj e
          have e2 := heap_alloc_new wx (.cells #[.string ⟨#[99]⟩, .string ⟨#[100]⟩] 53)
          rw [e2] at hh; simp at hh)
    (is_lit _ (by omega)) (by rw [hs.ms]; exact ky_okC m (by omega)) (by rw [hs.ms1]; exact ky_okC m (by omega)) (by rw [hs.ms]; exact hs.left) hl hc
  rw [hs.ms1] at hp
  refine hp.mono ?_
  rintro e w' ⟨rfl, av, ht⟩
  have hq := hs.push av
  have e1 : ((i + 1 : Nat) : Int) = (i : Int) + 1 := by omega
  rw [e1] at hq
  refine ⟨rfl, lft T r ++ [⟨(i : Int) + 1, tI1, atC, false, (m : Int), av⟩], ?_, hq, by rw [hq.len]; omega⟩
  rw [← List.append_assoc]
  exact St.of hf hb ht

set_option maxRecDepth 20000 in
set_option maxHeartbeats 2000000 in
theorem three_walk (n : Int) (v : Value) (zs : List Int) (w : World) (hz : IsZ w.heap.size w v zs) : Calls Tryd.prog 4 #[.int .i64 n, v] w fun e w' => e = .returned (.bool true) ∧ Below w.heap.size w w' := by
  have HNEW := Fact.mk (st_new w)
  obtain ⟨k, hk, HK⟩ : ∃ k : Nat, k < 30 ∧ Fact (∀ w', Calls Tryd.prog 9 #[.int .i64 n, .int .i64 30] w' fun e w'' => e = .returned (.int .i64 (k : Int)) ∧ w'' = w') := ⟨pl n 30, pl_lt n 30 (by omega), ⟨fun w' => place_pl n 30 w' (by omega) (by omega)⟩⟩
  have HZ := Fact.mk hz
  obtain ⟨za, zc, ez, hz1, hz2, zb, zo, hz3⟩ := hz.h
  obtain ⟨zl, hzl⟩ : ∃ zl, zs.length = zl := ⟨_, rfl⟩
  rw [hzl] at ez hz1 hz3
  subst ez
  have H3 := Fact.mk hz3
  unfold maxLen at hz2
  clear hz hz3
  go_enter Tryd.func4, Tryd.ntmps4
  go_wp2_with (first
    | (go_at_call 7; refine HNEW.out.mono ?_; rintro e w1 ⟨rfl, hs⟩; have HS1 := Fact.mk hs; clear hs HNEW)
    | (go_at_call 9; refine (HK.out _).mono ?_; rintro e w2 ⟨rfl, e2⟩; have e2' := e2.symm; subst e2'))
  clear HK
  go_loopw [7, 8] (fun rv iv wx => ∃ i r : Nat, i ≤ k ∧ r ≤ i ∧ iv = .int .i64 ((i : Int) + 1) ∧ rv = .int .i64 (r : Int) ∧ Fact (∃ A T m, St w wx (A ++ T) (7 * i) ∧ Sg A T ((m : Nat) : Int) tI1 atC i r ∧ m ≤ 5 * i ∧ (A ++ T).length ≤ 6 * i)) (fun rv iv _ => k + 2 - (intOf iv).toNat)
  case atStart => exact ⟨0, 0, Nat.zero_le _, Nat.le_refl _, rfl, rfl, ⟨[], [], 0, HS1.out, ⟨by simp, by simp, by simp, rfl, Nat.le_refl _⟩, Nat.le_refl _, Nat.le_refl _⟩⟩
  case round =>
    rename World => wx
    obtain ⟨i, r, hi, hr, rfl, rfl, hI⟩ := hrel
    by_cases hlt : i < k
    · have hi1 : (i : Int) + 1 ≤ (k : Int) := by omega
      go_wp2_with fail
      go_loopw [7, 9] (fun rv jv wy => ∃ j q : Nat, j ≤ 5 ∧ j ≤ zl ∧ q ≤ i ∧ jv = .int .i64 (j : Int) ∧ rv = .int .i64 (q : Int) ∧ Fact (∃ A T m, St w wy (A ++ T) (7 * i + j) ∧ Sg A T ((m : Nat) : Int) tI1 atC i q ∧ m ≤ 5 * i + j ∧ (A ++ T).length ≤ 6 * i + j)) (fun rv jv _ => 5 - (intOf jv).toNat)
      case atStart => exact ⟨0, r, by omega, by omega, hr, rfl, rfl, hI⟩
      case round =>
        rename World => wy
        obtain ⟨j, q, hj5, hjl, hq, rfl, rfl, hJ⟩ := hrel
        by_cases hjz : j < zl
        · have hjI : (j : Int) < (zl : Int) := by omega
          have hjd : decide ((j : Int) < (zl : Int)) = true := by simpa using hjI
          have hjn : decide (j < zl) = true := by simpa using hjz
          by_cases hj4 : j < 5
          · have h5I : (j : Int) < 5 := by omega
            obtain ⟨A, T, m, hs, hg, hm, hl⟩ := hJ.out
            obtain ⟨ea, hzb, hcell⟩ := H3.out j hjz
            subst ea
            have hcy := (hs.bel.cell (p := ⟨zb, zo + j, none⟩) hzb).trans hcell
            obtain ⟨zx, hzx⟩ : ∃ x, zs.getD j 0 = x := ⟨_, rfl⟩
            rw [hzx] at hcy
            obtain ⟨pz, HPZ⟩ : ∃ pz : Nat, Fact (∀ w', Calls Tryd.prog 9 #[.int .i64 zx, .int .i64 30] w' fun e w'' => e = .returned (.int .i64 (pz : Int)) ∧ w'' = w') := ⟨pl zx 30, ⟨fun w' => place_pl zx 30 w' (by omega) (by omega)⟩⟩
            have HMK := Fact.mk (st_mark hs m hg.ms (by omega) (by omega) (by omega))
            have HG := Fact.mk hg
            have HS := Fact.mk hs
            have HM := Fact.mk hm
            have HL := Fact.mk hl
            clear hs hg hJ hcell hzx hI hm hl
            by_cases heq : (pz : Int) = (i : Int) + 1
            · have heq' : ((pz : Int) == (i : Int) + 1) = true := by simpa using heq
              rw [heq] at HPZ
              go_wp2_with (first
                | (go_at_call 9; refine (HPZ.out _).mono ?_; rintro e w2 ⟨rfl, e2⟩; have e2' := e2.symm; subst e2')
                | (go_at_call 11; refine HMK.out.mono ?_; rintro e w3 ⟨rfl, h3⟩; have HS3 := Fact.mk h3; clear h3))
              go_roundw
              case rel => exact ⟨j + 1, 0, by omega, by omega, Nat.zero_le _, by go_num, rfl, ⟨_, [], m + 1, by rw [List.append_nil]; exact HS3.out, HG.out.mark _, by have := HM.out; omega, by have := HL.out; simp at this ⊢; omega⟩⟩
              case measure => simp [intOf]; omega
            · have heq' : ((pz : Int) == (i : Int) + 1) = false := by simpa using heq
              go_wp2_with (go_at_call 9; refine (HPZ.out _).mono ?_; rintro e w2 ⟨rfl, e2⟩; have e2' := e2.symm; subst e2')
              go_roundw
              case rel => exact ⟨j + 1, q, by omega, by omega, hq, by go_num, rfl, ⟨A, T, m, HS.out.mono (by omega) (by omega), HG.out, by have := HM.out; omega, by have := HL.out; omega⟩⟩
              case measure => simp [intOf]; omega
          · have h5I : ¬ (j : Int) < 5 := by omega
            have h5d : decide ((j : Int) < 5) = false := by simpa using h5I
            have h5n : decide (j < 5) = false := by simpa using hj4
            obtain ⟨A, T, m, hs, hg, hm, hl⟩ := hJ.out
            have HPU := Fact.mk (st_pushC hs hg (by omega) (by omega) (by omega) (by omega))
            have HM := Fact.mk hm
            have HL := Fact.mk hl
            have HSG := Fact.mk hg
            have hwq : wrap64 ((q : Int) + 1) = (q : Int) + 1 := by unfold wrap64; omega
            clear hs hg hJ hI hm hl
            go_wp2_with (go_at_call 24; refine HPU.out.mono ?_; rintro e w4 ⟨rfl, T', h4, g4, l4⟩; have HS4 := Fact.mk h4; have HG4 := Fact.mk g4; have HL4 := Fact.mk l4; clear h4 g4 l4)
            try simp only [hwq]
            clear hwq
            go_loopw [10] (fun tv wz => ∃ t : Nat, t ≤ q + 1 ∧ tv = .int .i64 (t : Int) ∧ Fact (St w wz (A ++ T') (7 * i + j + 2))) (fun tv _ => q + 1 - (intOf tv).toNat)
            case atStart => exact ⟨0, Nat.zero_le _, rfl, HS4⟩
            case round =>
              rename World => wz
              obtain ⟨t, ht, rfl, hT⟩ := hrel
              by_cases htl : t < q + 1
              · have htI : (t : Int) < (q : Int) + 1 := by omega
                have hpl := HG4.out.place t htl
                have ec : ((i + 1 - t : Nat) : Int) = (i : Int) + 1 - (t : Int) := by omega
                rw [ec] at hpl
                obtain ⟨P, hP⟩ : ∃ P, plc (A ++ T') ((i : Int) + 1 - (t : Int)) = P := ⟨_, rfl⟩
                rw [hP] at hpl
                have HPL := Fact.mk (st_place hT.out ((i : Int) + 1 - (t : Int)) P hP)
                have hws : wrap64 ((i : Int) + 1 - (t : Int)) = (i : Int) + 1 - (t : Int) := by unfold wrap64; omega
                clear hT hP ec
                by_cases h3 : t < 3
                · have hP0 : (0 : Int) ≤ P := hpl.2 h3
                  have hPd : decide ((0 : Int) ≤ P) = true := by simpa using hP0
                  have h3I : (t : Int) < 3 := by omega
                  have h3d : decide ((t : Int) < 3) = true := by simpa using h3I
                  have h3n : decide (t < 3) = true := by simpa using h3
                  clear hpl
                  go_wp2_with (go_at_call 27; refine HPL.out.mono ?_; rintro e w5 ⟨rfl, h5⟩; have HS5 := Fact.mk h5; clear h5)
                  go_roundw
                  case rel => exact ⟨t + 1, by omega, by go_num, HS5⟩
                  case measure => simp [intOf]; omega
                · have hP0 : ¬ (0 : Int) ≤ P := fun e => h3 (hpl.1 e)
                  have hPd : decide ((0 : Int) ≤ P) = false := by simpa using hP0
                  have h3I : ¬ (t : Int) < 3 := by omega
                  have h3d : decide ((t : Int) < 3) = false := by simpa using h3I
                  have h3n : decide (t < 3) = false := by simpa using h3
                  clear hpl
                  go_wp2_with (go_at_call 27; refine HPL.out.mono ?_; rintro e w5 ⟨rfl, h5⟩; have HS5 := Fact.mk h5; clear h5)
                  go_roundw
                  case rel => exact ⟨t + 1, by omega, by go_num, HS5⟩
                  case measure => simp [intOf]; omega
              · obtain rfl : t = q + 1 := by omega
                have hcast : ((q + 1 : Nat) : Int) = (q : Int) + 1 := by omega
                rw [hcast]
                go_wp2_with fail
                go_roundw
                case rel => exact ⟨i + 1, q + 1, by omega, by omega, by go_num, by go_num, ⟨A, T', m, hT.out.mono (by omega) (by omega), HG4.out, by have := HM.out; omega, by have h1 := HL.out; have h2 := HSG.out.len; have h3 := HG4.out.len; have h4 := HG4.out.len; simp at h1 ⊢; omega⟩⟩
                case measure => simp [intOf]; omega
        · have hjI : ¬ (j : Int) < (zl : Int) := by omega
          have hjd : decide ((j : Int) < (zl : Int)) = false := by simpa using hjI
          have hjn : decide (j < zl) = false := by simpa using hjz
          obtain ⟨A, T, m, hs, hg, hm, hl⟩ := hJ.out
          have HPU := Fact.mk (st_pushC hs hg (by omega) (by omega) (by omega) (by omega))
          have HM := Fact.mk hm
          have HL := Fact.mk hl
          have HSG := Fact.mk hg
          have hwq : wrap64 ((q : Int) + 1) = (q : Int) + 1 := by unfold wrap64; omega
          clear hs hg hJ hI hm hl
          go_wp2_with (go_at_call 24; refine HPU.out.mono ?_; rintro e w4 ⟨rfl, T', h4, g4, l4⟩; have HS4 := Fact.mk h4; have HG4 := Fact.mk g4; have HL4 := Fact.mk l4; clear h4 g4 l4)
          try simp only [hwq]
          clear hwq
          go_loopw [10] (fun tv wz => ∃ t : Nat, t ≤ q + 1 ∧ tv = .int .i64 (t : Int) ∧ Fact (St w wz (A ++ T') (7 * i + j + 2))) (fun tv _ => q + 1 - (intOf tv).toNat)
          case atStart => exact ⟨0, Nat.zero_le _, rfl, HS4⟩
          case round =>
            rename World => wz
            obtain ⟨t, ht, rfl, hT⟩ := hrel
            by_cases htl : t < q + 1
            · have htI : (t : Int) < (q : Int) + 1 := by omega
              have hpl := HG4.out.place t htl
              have ec : ((i + 1 - t : Nat) : Int) = (i : Int) + 1 - (t : Int) := by omega
              rw [ec] at hpl
              obtain ⟨P, hP⟩ : ∃ P, plc (A ++ T') ((i : Int) + 1 - (t : Int)) = P := ⟨_, rfl⟩
              rw [hP] at hpl
              have HPL := Fact.mk (st_place hT.out ((i : Int) + 1 - (t : Int)) P hP)
              have hws : wrap64 ((i : Int) + 1 - (t : Int)) = (i : Int) + 1 - (t : Int) := by unfold wrap64; omega
              clear hT hP ec
              by_cases h3 : t < 3
              · have hP0 : (0 : Int) ≤ P := hpl.2 h3
                have hPd : decide ((0 : Int) ≤ P) = true := by simpa using hP0
                have h3I : (t : Int) < 3 := by omega
                have h3d : decide ((t : Int) < 3) = true := by simpa using h3I
                have h3n : decide (t < 3) = true := by simpa using h3
                clear hpl
                go_wp2_with (go_at_call 27; refine HPL.out.mono ?_; rintro e w5 ⟨rfl, h5⟩; have HS5 := Fact.mk h5; clear h5)
                go_roundw
                case rel => exact ⟨t + 1, by omega, by go_num, HS5⟩
                case measure => simp [intOf]; omega
              · have hP0 : ¬ (0 : Int) ≤ P := fun e => h3 (hpl.1 e)
                have hPd : decide ((0 : Int) ≤ P) = false := by simpa using hP0
                have h3I : ¬ (t : Int) < 3 := by omega
                have h3d : decide ((t : Int) < 3) = false := by simpa using h3I
                have h3n : decide (t < 3) = false := by simpa using h3
                clear hpl
                go_wp2_with (go_at_call 27; refine HPL.out.mono ?_; rintro e w5 ⟨rfl, h5⟩; have HS5 := Fact.mk h5; clear h5)
                go_roundw
                case rel => exact ⟨t + 1, by omega, by go_num, HS5⟩
                case measure => simp [intOf]; omega
            · obtain rfl : t = q + 1 := by omega
              have hcast : ((q + 1 : Nat) : Int) = (q : Int) + 1 := by omega
              rw [hcast]
              go_wp2_with fail
              go_roundw
              case rel => exact ⟨i + 1, q + 1, by omega, by omega, by go_num, by go_num, ⟨A, T', m, hT.out.mono (by omega) (by omega), HG4.out, by have := HM.out; omega, by have h1 := HL.out; have h2 := HSG.out.len; have h3 := HG4.out.len; have h4 := HG4.out.len; simp at h1 ⊢; omega⟩⟩
              case measure => simp [intOf]; omega
    · obtain rfl : i = k := by omega
      obtain ⟨A, T, m, hs, hg, hm, hl⟩ := hI.out
      have HS := Fact.mk hs
      have hik : ¬ (i : Int) + 1 ≤ (i : Int) := by omega
      have hikd : decide ((i : Int) + 1 ≤ (i : Int)) = false := by simpa using hik
      clear hs hg hI hm hl
      go_wp2_with (go_at_call 8; refine (awake_true _).mono ?_; rintro e w16 ⟨rfl, h16⟩; have H16 := Fact.mk h16; clear h16)
      go_ret
      exact ⟨rfl, HS.out.bel.trans (H16.out.mono HS.out.bel.size)⟩
end Go.Proofs.YtjlijpaefdbohaaDoor
