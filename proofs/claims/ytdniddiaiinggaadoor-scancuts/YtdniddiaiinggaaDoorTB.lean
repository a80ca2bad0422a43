/- Lower, tagName: what they answer. -/
import Derived.Test.YtdniddiaiinggaaDoorTA
import Derived.Laws.IdiomStrings
set_option linter.unusedVariables false
namespace Go.Proofs.YtdniddiaiinggaaDoor
open Go.RowKit M

/-- how far a loop over bytes has come: block B has the bytes of l, those ahead of k as f makes them -/
structure Low (f : UInt8 → UInt8) (w : World) (B : Nat) (l : List UInt8) (k : Nat) : Prop where
  cells : ∀ j b, l[j]? = some b → w.cell? ⟨B, j, none⟩ = some (.int .u8 ((if j < k then f b else b).toNat : Nat))
  free : ∀ j, j < l.length → w.frozen? ⟨B, j, none⟩ = false

theorem low_start (f : UInt8 → UInt8) (w : World) (s : ByteArray) (cap : Nat) : Low f (w.drew.alloc (.cells (bytesRow s cap) 5 ((bytesRow s cap).size, (bytesRow s cap).size + 1))) w.heap.size s.data.toList 0 := by
  constructor
  · intro j b hj
    have hj' : j < s.data.size := by
      have := (List.getElem?_eq_some_iff.1 hj).1
      simpa using this
    rw [if_neg (by omega)]
    have e : b = s.data[j] := by
      have := (List.getElem?_eq_some_iff.1 hj).2
      rw [← this]
      rfl
    rw [e]
    exact (World.cell?_alloc_mark w.drew _ 5 _ j).trans (bytesRow_at s cap j hj')
  · intro j hj
    refine (World.frozen?_alloc_mark w.drew _ 5 _ _ j).trans ?_
    have : s.data.toList.length ≤ (bytesRow s cap).size := by unfold bytesRow; simp
    rw [decide_eq_false (by omega), Bool.false_and]

theorem low_put {f : UInt8 → UInt8} {w : World} {B k : Nat} {l : List UInt8} {b : UInt8} {x : Int} (h : Low f w B l k) (hb : l[k]? = some b) (hx : x = ((f b).toNat : Nat)) : Low f (w.setCell ⟨B, k, none⟩ (.int .u8 x)) B l (k + 1) := by
  subst hx
  constructor
  · intro j c hj
    by_cases e : j = k
    · subst e
      rw [hb] at hj
      cases hj
      rw [if_pos (by omega)]
      exact World.cell?_setCell_same _ _ _ (h.cells j b hb)
    · rw [World.cell?_setCell_other _ _ _ _ (by intro h2; cases h2; exact e rfl), h.cells j c hj]
      by_cases h1 : j < k
      · rw [if_pos h1, if_pos (by omega)]
      · rw [if_neg h1, if_neg (by omega)]
  · intro j hj
    rw [World.frozen?_setCell]
    exact h.free j hj
theorem low_keep {f : UInt8 → UInt8} {w : World} {B k : Nat} {l : List UInt8} {b : UInt8} (h : Low f w B l k) (hb : l[k]? = some b) (hx : f b = b) : Low f w B l (k + 1) := by
  refine ⟨fun j c hj => ?_, h.free⟩
  rw [h.cells j c hj]
  by_cases e : j = k
  · subst e
    rw [hb] at hj
    cases hj
    rw [if_neg (by omega), if_pos (by omega), hx]
  · by_cases h1 : j < k
    · rw [if_pos h1, if_pos (by omega)]
    · rw [if_neg h1, if_neg (by omega)]
theorem lw_hit (b : UInt8) (h1 : (65 : Int) ≤ (b.toNat : Int)) (h2 : (b.toNat : Int) ≤ 90) : (b.toNat : Int) - 65 + 97 = ((lw b).toNat : Nat) := by
  unfold lw
  rw [if_pos (by omega), UInt8.toNat_add]
  have : (32 : UInt8).toNat = 32 := rfl
  omega
theorem low_conv {f : UInt8 → UInt8} {w : World} {B : Nat} {s T : ByteArray} {cp k : Nat} (h : Low f w B s.data.toList k) (hk : ¬ k < s.size) (hT : s.data.toList.map f = T.data.toList) : (convert 46 9 (.slice (some ⟨B, 0, none⟩) s.size cp)).run Tryd.prog w = .ok (.string T) w := by
  have e : s.size = (s.data.toList.map f).length := by rw [List.length_map]; exact Lib.size_eq s
  have eT : T = ⟨(s.data.toList.map f).toArray⟩ := by
    apply ByteArray.ext
    apply Array.toList_inj.1
    rw [hT]
  rw [e, eT]
  refine run_convert_bytes_back w 46 9 5 ⟨B, 0, none⟩ cp (s.data.toList.map f) Tryd.underlying46 Tryd.underlying5 Tryd.underlying9 (fun j hj => ?_)
  have hj2 : j < s.data.toList.length := by rw [List.length_map] at hj; exact hj
  have h1 := h.cells j _ (List.getElem?_eq_getElem hj2)
  rw [if_pos (by rw [← Lib.size_eq] at hj2; omega)] at h1
  rw [Addr.add_lit, Nat.zero_add, h1]
  have e2 : (s.data.toList.map f)[j] = f s.data.toList[j] := List.getElem_map f
  rw [e2]

set_option maxRecDepth 20000 in
set_option maxHeartbeats 1000000 in
theorem lower_any (s T : ByteArray) (hT : Fact (lwL s.data.toList = T.data.toList)) (hs : IsSm s.size) (w : World) : Calls Tryd.prog 53 #[.string s] w fun e w' => e = .returned (.string T) ∧ Below w.heap.size w w' := by
  have hcv := run_bytes_of_string (P := Tryd.prog) w 9 46 5 s Tryd.underlying9 Tryd.underlying46 Tryd.underlying5
  have hcap := grownCap_ge w s.size 0 5
  obtain ⟨cp, hcp⟩ : ∃ cp, grownCap w s.size 0 5 = cp := ⟨_, rfl⟩
  rw [hcp] at hcv hcap
  have hlow := low_start lw w s cp
  obtain ⟨W, hW⟩ : ∃ W, w.drew.alloc (.cells (bytesRow s cp) 5 ((bytesRow s cp).size, (bytesRow s cp).size + 1)) = W := ⟨_, rfl⟩
  have hb : Below w.heap.size w W := by rw [← hW]; exact (Below.refl _ w).drew.alloc (Nat.le_refl _) _
  rw [hW] at hcv hlow
  clear hW hcp
  have hsz := hs.le
  go_enter Tryd.func53, Tryd.ntmps53
  go_wp2
  go_loopw [10] (fun i wx => ∃ k : Nat, i = .int .i64 k ∧ k ≤ s.size ∧ Below w.heap.size w wx ∧ Low lw wx w.heap.size s.data.toList k) (fun i _ => s.size - (intOf i).toNat)
  case atStart => exact ⟨0, rfl, Nat.zero_le _, hb, hlow⟩
  case round =>
    obtain ⟨k, rfl, hk, hbr, hl⟩ := hrel
    by_cases hlt : k < s.size
    · obtain ⟨b, hbk⟩ : ∃ b, s.data.toList[k]? = some b := ⟨_, List.getElem?_eq_getElem (by rw [← Lib.size_eq]; exact hlt)⟩
      have hc := hl.cells k b hbk
      rw [if_neg (Nat.lt_irrefl _)] at hc
      have hf := hl.free k (by rw [← Lib.size_eq]; exact hlt)
      have HB := Fact.mk hbk
      have HL := Fact.mk hl
      clear hbk hl
      go_wp2
      · have h1 : (65 : Int) ≤ (b.toNat : Int) := by assumption
        have h2 : (b.toNat : Int) ≤ 90 := by assumption
        go_roundw
        case rel => exact ⟨k + 1, by go_num, by omega, hbr.setCell (Nat.le_refl _) _, low_put HL.out HB.out (lw_hit b h1 h2)⟩
        case measure => simp [intOf]; omega
      · have h2 : (90 : Int) < (b.toNat : Int) := by assumption
        go_roundw
        case rel => exact ⟨k + 1, by go_num, by omega, hbr, low_keep HL.out HB.out (by unfold lw; rw [if_neg (by omega)])⟩
        case measure => simp [intOf]; omega
      · have h2 : ¬ (65 : Int) ≤ (b.toNat : Int) := by assumption
        go_roundw
        case rel => exact ⟨k + 1, by go_num, by omega, hbr, low_keep HL.out HB.out (by unfold lw; rw [if_neg (by omega)])⟩
        case measure => simp [intOf]; omega
    · have hcv2 := low_conv (cp := cp) hl hlt hT.out
      clear hl hlow hcv
      go_wp2
      go_ret
      exact ⟨rfl, hbr⟩

theorem conv_start (f : UInt8 → UInt8) (w : World) (s : ByteArray) : ∃ (W : World) (cp : Nat), (convert 9 46 (.string s)).run Tryd.prog w = .ok (.slice (some ⟨w.heap.size, 0, none⟩) s.size cp) W ∧ s.size ≤ cp ∧ Low f W w.heap.size s.data.toList 0 ∧ Below w.heap.size w W := by
  have hcv := run_bytes_of_string (P := Tryd.prog) w 9 46 5 s Tryd.underlying9 Tryd.underlying46 Tryd.underlying5
  exact ⟨_, _, hcv, grownCap_ge w s.size 0 5, low_start f w s _, (Below.refl _ w).drew.alloc (Nat.le_refl _) _⟩
theorem nmc_hit (b : UInt8) (h : b = 34 ∨ b = 39 ∨ b = 60 ∨ b = 61) : (95 : Int) = ((nmc b).toNat : Nat) := by
  rcases h with rfl | rfl | rfl | rfl <;> rfl
theorem nmc_miss (b : UInt8) (h1 : b ≠ 34) (h2 : b ≠ 39) (h3 : b ≠ 60) (h4 : b ≠ 61) : nmc b = b := by
  unfold nmc
  simp [h1, h2, h3, h4]
set_option maxRecDepth 20000 in
set_option maxHeartbeats 2000000 in
theorem tagName_any (s T : ByteArray) (hT : Fact (nmB s.data.toList = T.data.toList)) (hs : IsSm s.size) (w : World) : Calls Tryd.prog 70 #[.string s] w fun e w' => e = .returned (.string T) ∧ Below w.heap.size w w' := by
  obtain ⟨U, hU⟩ : ∃ U : ByteArray, Fact (lwL s.data.toList = U.data.toList) := ⟨⟨(lwL s.data.toList).toArray⟩, ⟨rfl⟩⟩
  have hUs : U.size = s.size := by rw [Lib.size_eq, ← hU.out, lwL_len, ← Lib.size_eq]
  have hTU : Fact (U.data.toList.map nmc = T.data.toList) := ⟨by rw [← hT.out, ← hU.out]; rfl⟩
  have hUm : IsSm U.size := by rw [hUs]; exact hs
  clear hUs
  have hsz := hUm.le
  go_enter Tryd.func70, Tryd.ntmps70
  go_wp2_with (go_at_call 53; refine (lower_any s U hU hs _).mono ?_; rintro e w1 ⟨rfl, hb1⟩; obtain ⟨W, cp, hcv, hcap, hlow, hbW⟩ := conv_start nmc w1 U)
  have hb : Below w.heap.size w W := hb1.trans (hbW.mono hb1.size)
  have h1s := hb1.size
  go_loopw [11] (fun i wx => ∃ k : Nat, i = .int .i64 k ∧ k ≤ U.size ∧ Below w.heap.size w wx ∧ Low nmc wx w1.heap.size U.data.toList k) (fun i _ => U.size - (intOf i).toNat)
  case atStart => exact ⟨0, rfl, Nat.zero_le _, hb, hlow⟩
  case round =>
    obtain ⟨k, rfl, hk, hbr, hl⟩ := hrel
    clear hb1 hcv hlow hbW hb
    by_cases hlt : k < U.size
    · obtain ⟨b, hbk⟩ : ∃ b, U.data.toList[k]? = some b := ⟨_, List.getElem?_eq_getElem (by rw [← Lib.size_eq]; exact hlt)⟩
      have hc := hl.cells k b hbk
      rw [if_neg (Nat.lt_irrefl _)] at hc
      have hf := hl.free k (by rw [← Lib.size_eq]; exact hlt)
      have HB := Fact.mk hbk
      have HL := Fact.mk hl
      clear hbk hl
      have hltI : (k : Int) < U.size := by omega
      have qlt : decide ((k : Int) < U.size) = true := decide_eq_true hltI
      have hw1 : wrap64 ((k : Int) + 1) = ((k + 1 : Nat) : Int) := wrap_ok rfl ⟨by omega⟩
      by_cases c1 : b = 34
      · have q1 : ((b.toNat : Int) == 34) = true := by subst c1; rfl
        have HN : Fact ((95 : Int) = ((nmc b).toNat : Nat)) := ⟨nmc_hit b (Or.inl c1)⟩
        clear c1
        go_wp2_with fail
        go_roundw
        case rel => exact ⟨k + 1, by (first | exact int_eq rfl | exact int_eq hw1), hlt, hbr.setCell h1s _, low_put HL.out HB.out HN.out⟩
        case measure => (try rw [hw1]); exact meas_up hlt
      have q1 : ((b.toNat : Int) == 34) = false := u8_ne (by decide) c1
      by_cases c2 : b = 39
      · have q2 : ((b.toNat : Int) == 39) = true := by subst c2; rfl
        have HN : Fact ((95 : Int) = ((nmc b).toNat : Nat)) := ⟨nmc_hit b (Or.inr (Or.inl c2))⟩
        clear c2
        go_wp2_with fail
        go_roundw
        case rel => exact ⟨k + 1, by (first | exact int_eq rfl | exact int_eq hw1), hlt, hbr.setCell h1s _, low_put HL.out HB.out HN.out⟩
        case measure => (try rw [hw1]); exact meas_up hlt
      have q2 : ((b.toNat : Int) == 39) = false := u8_ne (by decide) c2
      by_cases c3 : b = 60
      · have q3 : ((b.toNat : Int) == 60) = true := by subst c3; rfl
        have HN : Fact ((95 : Int) = ((nmc b).toNat : Nat)) := ⟨nmc_hit b (Or.inr (Or.inr (Or.inl c3)))⟩
        clear c3
        go_wp2_with fail
        go_roundw
        case rel => exact ⟨k + 1, by (first | exact int_eq rfl | exact int_eq hw1), hlt, hbr.setCell h1s _, low_put HL.out HB.out HN.out⟩
        case measure => (try rw [hw1]); exact meas_up hlt
      have q3 : ((b.toNat : Int) == 60) = false := u8_ne (by decide) c3
      by_cases c4 : b = 61
      · have q4 : ((b.toNat : Int) == 61) = true := by subst c4; rfl
        have HN : Fact ((95 : Int) = ((nmc b).toNat : Nat)) := ⟨nmc_hit b (Or.inr (Or.inr (Or.inr c4)))⟩
        clear c4
        go_wp2_with fail
        go_roundw
        case rel => exact ⟨k + 1, by (first | exact int_eq rfl | exact int_eq hw1), hlt, hbr.setCell h1s _, low_put HL.out HB.out HN.out⟩
        case measure => (try rw [hw1]); exact meas_up hlt
      have q4 : ((b.toNat : Int) == 61) = false := u8_ne (by decide) c4
      have HN : Fact (nmc b = b) := ⟨nmc_miss b c1 c2 c3 c4⟩
      clear c1 c2 c3 c4
      go_wp2_with fail
      go_roundw
      case rel => exact ⟨k + 1, by (first | exact int_eq rfl | exact int_eq hw1), hlt, hbr, low_keep HL.out HB.out HN.out⟩
      case measure => (try rw [hw1]); exact meas_up hlt
    · have hcv2 := low_conv (cp := cp) hl hlt hTU.out
      have qlt : decide ((k : Int) < U.size) = false := decide_eq_false (by omega)
      have hge : (U.size : Int) ≤ k := by omega
      clear hl
      go_wp2_with fail
      go_ret
      exact ⟨rfl, hbr⟩
end Go.Proofs.YtdniddiaiinggaaDoor
