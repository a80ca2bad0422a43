/- TokenGoes: each piece goes on, up to the end. -/
import Derived.Test.YtbhhncdcdmcpfaaDoorTO
set_option linter.unusedVariables false
namespace Go.Proofs.YtbhhncdcdmcpfaaDoor
open Go.RowKit M

/-- what is told goes on -/
structure Goes (l : List UInt8) (k : Nat) (t : Tk) (E : Nat) (ok : Bool) : Prop where
  gt : k < E
  le : E ≤ l.length
  kd : t.kd ≠ 6
  no : ok = false → t.Is 0 [] [] [] false
theorem TagR.goes {l : List UInt8} {k k0 : Nat} {kd : Int} {t : Tk} {E : Nat} {ok : Bool} (h : TagR l k kd t E ok) (hk : k ≤ l.length) (h0 : k0 < k) (hkd : kd ≠ 6) : Goes l k0 t E ok := by
  have hb := tagB_le hk
  rcases h.is with ⟨h1, h2, rfl, rfl⟩ | ⟨h1, h2, rfl, rfl⟩
  · exact ⟨by omega, Nat.le_refl _, by rw [h2.kd]; decide, fun _ => h2⟩
  · exact ⟨by omega, by omega, by rw [h2.kd]; exact hkd, fun e => by cases e⟩
theorem BogR.goes {l : List UInt8} {k k0 : Nat} {t : Tk} {E : Nat} {ok : Bool} (h : BogR l k t E ok) (hk : k ≤ l.length) (h0 : k0 < k) : Goes l k0 t E ok := by
  obtain ⟨h2, rfl, rfl⟩ := h
  have h3 := spE_ge (fun x => x != 62) l k
  have h4 := spE_le (fun x => x != 62) hk
  exact ⟨by omega, by omega, by rw [h2.kd]; decide, fun e => by cases e⟩
theorem pre_roomL {p l : List UInt8} {k : Nat} (h : p.isPrefixOf (l.drop k) = true) (hk : k ≤ l.length) : k + p.length ≤ l.length := by
  have := pre_len h
  rw [List.length_drop] at this
  omega
theorem pre_roomL2 {p l : List UInt8} {k : Nat} (h : p.isPrefixOf (lwL (l.drop k)) = true) (hk : k ≤ l.length) : k + p.length ≤ l.length := by
  have := pre_len h
  rw [lwL_len, List.length_drop] at this
  omega
theorem OpR.goes {l : List UInt8} {k : Nat} {t : Tk} {E : Nat} {ok : Bool} (h : OpR l k t E ok) (hk : k < l.length) : Goes l k t E ok := by
  unfold OpR at h
  split at h
  · exact h.goes hk (Nat.lt_succ_self _) (by decide)
  split at h
  · rename_i h2
    rw [Bool.and_eq_true] at h2
    exact h.goes (pre_roomL h2.1 (Nat.le_of_lt hk)) (by omega) (by decide)
  split at h
  · rename_i h2
    have := pre_roomL h2 (Nat.le_of_lt hk)
    obtain ⟨h3, rfl, rfl⟩ := h
    exact ⟨by omega, this, by rw [h3.kd]; decide, fun _ => h3⟩
  split at h
  · rename_i h2
    have h4 := pre_roomL h2 (Nat.le_of_lt hk)
    obtain ⟨T, hC, h3, rfl⟩ := h
    have h5 := hC.le h4
    exact ⟨by omega, h5.2, by rw [h3.kd]; decide, fun e => by cases e⟩
  split at h
  · rename_i h2
    have h4 := pre_roomL2 h2 (Nat.le_of_lt hk)
    obtain ⟨h3, rfl, rfl⟩ := h
    have h5 := dcE_le h4
    simp at h5
    exact ⟨by omega, h5.2, by rw [h3.kd]; decide, fun e => by cases e⟩
  split at h
  · rename_i h2
    rw [Bool.or_eq_true, Bool.and_eq_true] at h2
    rcases h2 with h2 | h2
    · exact h.goes (pre_roomL h2 (Nat.le_of_lt hk)) (by omega)
    · exact h.goes (pre_roomL h2.1 (Nat.le_of_lt hk)) (by omega)
  split at h
  · exact h.goes hk (Nat.lt_succ_self _)
  · obtain ⟨h3, rfl, rfl⟩ := h
    exact ⟨Nat.lt_succ_self _, hk, by rw [h3.kd]; decide, fun e => by cases e⟩
theorem NxN.goes {l : List UInt8} {k : Nat} {t : Tk} {E : Nat} {ok : Bool} (h : NxN l k t E ok) (hk : k < l.length) : Goes l k t E ok := by
  unfold NxN at h
  split at h
  · exact OpR.goes h hk
  · rename_i hc
    obtain ⟨h3, rfl, rfl⟩ := h
    have hp : txP (blk (bAt l k)) (bAt l k) = true := by
      unfold txP
      simp [hc]
    have e := spE_go (p := txP (blk (bAt l k))) hk hp
    have h4 := spE_ge (txP (blk (bAt l k))) l (k + 1)
    have h5 := spE_le (txP (blk (bAt l k))) (Nat.le_of_lt hk)
    exact ⟨by omega, h5, by rw [h3.kd]; decide, fun e => by cases e⟩
theorem NxR.goes {l : List UInt8} {k : Nat} {raw : List UInt8} {t : Tk} {E : Nat} {ok : Bool} (h : NxR l k raw t E ok) (hk : k < l.length) : Goes l k t E ok := by
  unfold NxR at h
  split at h
  · exact NxN.goes h hk
  · obtain ⟨B, hB, h⟩ := h
    split at h
    · rename_i h2
      obtain ⟨h3, rfl, rfl⟩ := h
      exact ⟨h2, hB.le, by rw [h3.kd]; decide, fun e => by cases e⟩
    · exact NxN.goes h hk
set_option maxRecDepth 20000 in
set_option maxHeartbeats 2000000 in
theorem goes_walk (s raw : ByteArray) (w : World) (hl : Laid w) : Calls Tryd.prog 3 #[.string s, .string raw] w fun e w' => e = .returned (.bool true) ∧ Below w.heap.size w w' := by
  have HL := Fact.mk hl
  clear hl
  by_cases h1 : 1500 < s.size
  · have i1 : (1500 : Int) < s.size := by omega
    have q1 : decide ((1500 : Int) < s.size) = true := decide_eq_true i1
    go_enter Tryd.func3, Tryd.ntmps3
    go_wp2_with (go_at_call 9; refine (awake10_true _ HL.out).mono ?_; rintro e w1 ⟨rfl, hb1⟩)
    go_ret
    exact ⟨rfl, hb1⟩
  have i1 : (s.size : Int) ≤ 1500 := by omega
  have q1 : decide ((1500 : Int) < s.size) = false := decide_eq_false (by omega)
  have q1n : decide (1500 < s.size) = false := decide_eq_false h1
  by_cases h2 : 100 < raw.size
  · have i2 : (100 : Int) < raw.size := by omega
    have q2 : decide ((100 : Int) < raw.size) = true := decide_eq_true i2
    go_enter Tryd.func3, Tryd.ntmps3
    go_wp2_with (go_at_call 9; refine (awake10_true _ HL.out).mono ?_; rintro e w1 ⟨rfl, hb1⟩)
    go_ret
    exact ⟨rfl, hb1⟩
  have i2 : (raw.size : Int) ≤ 100 := by omega
  have q2 : decide ((100 : Int) < raw.size) = false := decide_eq_false (by omega)
  have q2n : decide (100 < raw.size) = false := decide_eq_false h2
  have hs : IsSm s.size := ⟨by omega⟩
  have hr0 : IsSm raw.size := ⟨by omega⟩
  go_enter Tryd.func3, Tryd.ntmps3
  go_wp2_with fail
  go_loopw [1, 5, 6] (fun r a i wx => ∃ (R : ByteArray) (k j : Nat), r = .string R ∧ a = .int .i64 k ∧ i = .int .i64 j ∧ IsSm R.size ∧ k ≤ s.size ∧ j ≤ k ∧ Below w.heap.size w wx) (fun _ a _ _ => s.size - (intOf a).toNat)
  case atStart => exact ⟨raw, 0, 0, rfl, rfl, rfl, hr0, Nat.zero_le _, Nat.le_refl _, Below.refl _ _⟩
  case round =>
    obtain ⟨R, k, j, rfl, rfl, rfl, hr, hk, hj, hb⟩ := hrel
    have hlr := Fact.mk (HL.out.since hb)
    have g1 : (j : Int) ≤ s.size := by omega
    have q3 : decide ((j : Int) ≤ s.size) = true := decide_eq_true g1
    have q3n : decide (j ≤ s.size) = true := decide_eq_true (by omega)
    have hw1 : wrap64 ((j : Int) + 1) = ((j + 1 : Nat) : Int) := wrap_ok rfl ⟨by omega⟩
    by_cases hlt : k < s.size
    · go_wp2_with (first
        | (go_at_call 10; refine (next_any s R k hs hr hlt _ hlr.out).mono ?_; rintro e w2 ⟨⟨kd, N, X, AA, rr⟩, E, ok, hR, v, rfl, hrow, hb2⟩; obtain ⟨gt, le, kd6, no⟩ := hR.goes (by rw [← Lib.size_eq]; exact hlt); rw [← Lib.size_eq] at le; simp only at kd6; have NO := Fact.mk no; have a1 : (k : Int) < E := (by omega); have a2 : (E : Int) ≤ s.size := (by omega); have a3 : decide ((E : Int) ≤ k) = false := decide_eq_false (by omega); have a4 : decide ((s.size : Int) < E) = false := decide_eq_false (by omega); have a5 : (kd == 6) = false := (by rw [beq_eq_false_iff_ne]; exact kd6); have hbb := hb.trans (hb2.mono hb.size); obtain ⟨va, vc, rfl⟩ := row_slice hrow; clear hrow hR no hb2; cases ok)
        | (go_at_call 11; obtain ⟨e1, e2, e3, e4, e5⟩ := NO.out (by first | rfl | trivial); simp only at e1 e2 e3 e4 e5; subst e1 e4 e5; have eN : N = ⟨#[]⟩ := tx_ext e2; have eX : X = ⟨#[]⟩ := tx_ext e3; subst eN eX; refine (sameToken_none 0 _ _ _ _ _ _ _ _).mono ?_; rintro e w3 ⟨rfl, hb3⟩; have hb4 := (hbb.alloc hbb.size _).trans (hb3.mono (hbb.alloc hbb.size _).size)))
      · go_roundw
        case rel => exact ⟨⟨#[]⟩, E, j + 1, rfl, rfl, by (first | exact int_eq rfl | exact int_eq hw1), ⟨by decide⟩, le, by omega, hb4⟩
        case measure => exact meas_to hlt gt
      · go_roundw
        case rel => exact ⟨⟨#[]⟩, E, j + 1, rfl, rfl, by (first | exact int_eq rfl | exact int_eq hw1), ⟨by decide⟩, le, by omega, hbb.alloc hbb.size _⟩
        case measure => exact meas_to hlt gt
    · have e : k = s.size := by omega
      subst e
      have q5 : ((s.size : Int) == s.size) = true := beq_self_eq_true _
      have q6 : decide ((s.size : Int) ≤ s.size) = true := decide_eq_true (Int.le_refl _)
      go_wp2_with (first
        | (go_at_call 10; refine (next_out s R s.size (Or.inr (Int.le_refl _)) _).mono ?_; rintro e w2 ⟨v, rfl, hrow, hb2⟩; obtain ⟨va, vc, rfl⟩ := row_slice hrow; have hbb := hb.trans (hb2.mono hb.size); clear hrow hb2)
        | (go_at_call 9; refine (awake10_true _ (HL.out.since (hbb.alloc hbb.size _))).mono ?_; rintro e w3 ⟨rfl, hb3⟩; have hb4 := (hbb.alloc hbb.size _).trans (hb3.mono (hbb.alloc hbb.size _).size)))
      go_ret
      exact ⟨rfl, hb4⟩
end Go.Proofs.YtbhhncdcdmcpfaaDoor
