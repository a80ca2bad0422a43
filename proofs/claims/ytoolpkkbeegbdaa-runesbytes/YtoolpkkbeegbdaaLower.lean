/- What Lower answers: the text in lower case. -/
import Derived.Test.YtoolpkkbeegbdaaOwn
namespace Go.Proofs.Ytoolpkkbeegbdaa
open Go.RowKit M

/-- how far Lower has come: block B has the bytes of l, those ahead of k in lower case -/
structure Low (w : World) (B : Nat) (l : List UInt8) (k : Nat) : Prop where
  cells : ∀ j b, l[j]? = some b → w.cell? ⟨B, j, none⟩ = some (.int .u8 ((if j < k then lw b else b).toNat : Nat))
  free : ∀ j, j < l.length → w.frozen? ⟨B, j, none⟩ = false

theorem low_start (w : World) (s : ByteArray) (cap : Nat) : Low (w.drew.alloc (.cells (bytesRow s cap) 5 ((bytesRow s cap).size, (bytesRow s cap).size + 1))) w.heap.size s.data.toList 0 := by
  constructor
  · intro j b hj
    have hj' : j < s.data.size := by
      have := (List.getElem?_eq_some_iff.1 hj).1
      simpa using this
    rw [if_neg (by omega)]
    have e : b = s.data[j] := by
      have := (List.getElem?_eq_some_iff.1 hj).2
      rw [← this]
      rfl
    rw [e]
    exact (World.cell?_alloc_mark w.drew _ 5 _ j).trans (bytesRow_at s cap j hj')
  · intro j hj
    refine (World.frozen?_alloc_mark w.drew _ 5 _ _ j).trans ?_
    have : s.data.toList.length ≤ (bytesRow s cap).size := by unfold bytesRow; simp
    rw [decide_eq_false (by omega), Bool.false_and]

theorem low_put {w : World} {B k : Nat} {l : List UInt8} {b : UInt8} {x : Int} (h : Low w B l k) (hb : l[k]? = some b) (hx : x = ((lw b).toNat : Nat)) : Low (w.setCell ⟨B, k, none⟩ (.int .u8 x)) B l (k + 1) := by
  subst hx
  constructor
  · intro j c hj
    by_cases e : j = k
    · subst e
      rw [hb] at hj
      cases hj
      rw [if_pos (by omega)]
      exact World.cell?_setCell_same _ _ _ (h.cells j b hb)
    · rw [World.cell?_setCell_other _ _ _ _ (by intro h2; cases h2; exact e rfl), h.cells j c hj]
      by_cases h1 : j < k
      · rw [if_pos h1, if_pos (by omega)]
      · rw [if_neg h1, if_neg (by omega)]
  · intro j hj
    rw [World.frozen?_setCell]
    exact h.free j hj
theorem low_keep {w : World} {B k : Nat} {l : List UInt8} {b : UInt8} (h : Low w B l k) (hb : l[k]? = some b) (hx : lw b = b) : Low w B l (k + 1) := by
  refine ⟨fun j c hj => ?_, h.free⟩
  rw [h.cells j c hj]
  by_cases e : j = k
  · subst e
    rw [hb] at hj
    cases hj
    rw [if_neg (by omega), if_pos (by omega), hx]
  · by_cases h1 : j < k
    · rw [if_pos h1, if_pos (by omega)]
    · rw [if_neg h1, if_neg (by omega)]
theorem lw_hit (b : UInt8) (h1 : (65 : Int) ≤ (b.toNat : Int)) (h2 : (b.toNat : Int) ≤ 90) : (b.toNat : Int) - 65 + 97 = ((lw b).toNat : Nat) := by
  unfold lw
  rw [if_pos (by omega), UInt8.toNat_add]
  have : (32 : UInt8).toNat = 32 := rfl
  omega
theorem low_conv {w : World} {B : Nat} {s : ByteArray} {cp k : Nat} (h : Low w B s.data.toList k) (hk : ¬ k < s.size) : (convert 34 9 (.slice (some ⟨B, 0, none⟩) s.size cp)).run Try.prog w = .ok (.string ⟨(L s.data.toList).toArray⟩) w := by
  have e : s.size = (L s.data.toList).length := by unfold L; rw [List.length_map]; exact Lib.size_eq s
  rw [e]
  refine run_convert_bytes_back w 34 9 5 ⟨B, 0, none⟩ cp (L s.data.toList) Try.underlying34 Try.underlying5 Try.underlying9 (fun j hj => ?_)
  have hj2 : j < s.data.toList.length := by unfold L at hj; rw [List.length_map] at hj; exact hj
  have h1 := h.cells j _ (List.getElem?_eq_getElem hj2)
  rw [if_pos (by rw [← Lib.size_eq] at hj2; omega)] at h1
  rw [Addr.add_lit, Nat.zero_add, h1]
  have e2 : (L s.data.toList)[j] = lw s.data.toList[j] := List.getElem_map lw
  rw [e2]

set_option maxRecDepth 20000 in
set_option maxHeartbeats 1000000 in
theorem lower_any (s : ByteArray) (w : World) (hs : s.size ≤ 9223372036854775807) : Calls Try.prog 14 #[.string s] w fun e w' => e = .returned (.string ⟨(L s.data.toList).toArray⟩) ∧ Below w.heap.size w w' := by
  have hcv := run_bytes_of_string (P := Try.prog) w 9 34 5 s Try.underlying9 Try.underlying34 Try.underlying5
  have hcap := grownCap_ge w s.size 0 5
  obtain ⟨cp, hcp⟩ : ∃ cp, grownCap w s.size 0 5 = cp := ⟨_, rfl⟩
  rw [hcp] at hcv hcap
  have hlow := low_start w s cp
  obtain ⟨W, hW⟩ : ∃ W, w.drew.alloc (.cells (bytesRow s cp) 5 ((bytesRow s cp).size, (bytesRow s cp).size + 1)) = W := ⟨_, rfl⟩
  have hb : Below w.heap.size w W := by rw [← hW]; exact (Below.refl _ w).drew.alloc (Nat.le_refl _) _
  rw [hW] at hcv hlow
  clear hW hcp
  go_enter Try.func14, Try.ntmps14
  go_wp2
  go_loopw [10] (fun i wx => ∃ k : Nat, i = .int .i64 k ∧ k ≤ s.size ∧ Below w.heap.size w wx ∧ Low wx w.heap.size s.data.toList k) (fun i _ => s.size - (intOf i).toNat)
  case atStart => exact ⟨0, rfl, Nat.zero_le _, hb, hlow⟩
  case round =>
    obtain ⟨k, rfl, hk, hbr, hl⟩ := hrel
    by_cases hlt : k < s.size
    · obtain ⟨b, hbk⟩ : ∃ b, s.data.toList[k]? = some b := ⟨_, List.getElem?_eq_getElem (by rw [← Lib.size_eq]; exact hlt)⟩
      have hc := hl.cells k b hbk
      rw [if_neg (Nat.lt_irrefl _)] at hc
      have hf := hl.free k (by rw [← Lib.size_eq]; exact hlt)
      have HB := Fact.mk hbk
      have HL := Fact.mk hl
      clear hbk hl
      go_wp2
      · have h1 : (65 : Int) ≤ (b.toNat : Int) := by assumption
        have h2 : (b.toNat : Int) ≤ 90 := by assumption
        go_roundw
        case rel => exact ⟨k + 1, by go_num, by omega, hbr.setCell (Nat.le_refl _) _, low_put HL.out HB.out (lw_hit b h1 h2)⟩
        case measure => simp [intOf]; omega
      · have h2 : (90 : Int) < (b.toNat : Int) := by assumption
        go_roundw
        case rel => exact ⟨k + 1, by go_num, by omega, hbr, low_keep HL.out HB.out (by unfold lw; rw [if_neg (by omega)])⟩
        case measure => simp [intOf]; omega
      · have h2 : ¬ (65 : Int) ≤ (b.toNat : Int) := by assumption
        go_roundw
        case rel => exact ⟨k + 1, by go_num, by omega, hbr, low_keep HL.out HB.out (by unfold lw; rw [if_neg (by omega)])⟩
        case measure => simp [intOf]; omega
    · have hcv2 := low_conv (cp := cp) hl hlt
      clear hl hlow hcv
      go_wp2
      go_ret
      exact ⟨rfl, hbr⟩
end Go.Proofs.Ytoolpkkbeegbdaa
