/- begins, textEnd, Raw: what they answer. -/
import Derived.Test.YtdniddiaiinggaaDoorTB
import Derived.Deep.RegionHeld3
set_option linter.unusedVariables false
namespace Go.Proofs.YtdniddiaiinggaaDoor
open Go.RowKit M

theorem pre_step {m l : List UInt8} {k : Nat} (hm : k < m.length) (hl : k < l.length) : (m.drop k).isPrefixOf (l.drop k) = ((bAt m k == bAt l k) && (m.drop (k + 1)).isPrefixOf (l.drop (k + 1))) := by
  rw [drop_cons hm, drop_cons hl]
  rfl
theorem lwL_at {l : List UInt8} {k : Nat} (h : k < l.length) : bAt (lwL l) k = lw (bAt l k) := by
  rw [bAt_in h, bAt_in (by rw [lwL_len]; exact h)]
  unfold lwL
  rw [List.getElem_map]
theorem one_lw (S : ByteArray) (c : UInt8) (h : S.data.toList = [c]) : Fact (lwL S.data.toList = (⟨#[lw c]⟩ : ByteArray).data.toList) := ⟨by rw [h]; rfl⟩
theorem one_eq (M1 : ByteArray) (c d : UInt8) (h : M1.data.toList = [d]) : ((⟨#[c]⟩ : ByteArray).toList == M1.toList) = (d == c) := by
  rw [Lib.toList_data, Lib.toList_data, h, Bool.eq_iff_iff, beq_iff_eq, beq_iff_eq]
  constructor
  · intro e
    simp at e
    exact e.symm
  · intro e
    subst e
    rfl
theorem pre_short {m l : List UInt8} (h : l.length < m.length) : m.isPrefixOf l = false := by
  rw [← Bool.not_eq_true, List.isPrefixOf_iff_prefix]
  intro hp
  have := hp.length_le
  omega
set_option maxRecDepth 20000 in
set_option maxHeartbeats 2000000 in
theorem begins_any (s m : ByteArray) (b : Bool) (hb : Fact (m.data.toList.isPrefixOf (lwL s.data.toList) = b)) (hs : IsSm s.size) (w : World) : Calls Tryd.prog 55 #[.string s, .string m] w fun e w' => e = .returned (.bool b) ∧ Below w.heap.size w w' := by
  by_cases hlen : s.size < m.size
  · have e := pre_short (m := m.data.toList) (l := lwL s.data.toList) (by rw [lwL_len, ← Lib.size_eq, ← Lib.size_eq]; exact hlen)
    rw [hb.out] at e
    subst e
    have h1 : (s.size : Int) < m.size := by omega
    have q1 : decide ((s.size : Int) < m.size) = true := decide_eq_true h1
    go_enter Tryd.func55, Tryd.ntmps55
    go_wp2_with fail
    go_ret
    exact ⟨rfl, Below.refl _ _⟩
  · have h1 : (m.size : Int) ≤ s.size := by omega
    have q1 : decide ((s.size : Int) < m.size) = false := decide_eq_false (by omega)
    have q1n : decide (s.size < m.size) = false := decide_eq_false (by omega)
    have hsz := hs.le
    have hmm : m.size ≤ 100000000 := by omega
    have HL := Fact.mk hlen
    clear hlen
    go_enter Tryd.func55, Tryd.ntmps55
    go_wp2_with fail
    go_loopw [13] (fun i wx => ∃ k : Nat, i = .int .i64 k ∧ k ≤ m.size ∧ Below w.heap.size w wx ∧ Fact ((m.data.toList.drop k).isPrefixOf ((lwL s.data.toList).drop k) = b)) (fun i _ => m.size - (intOf i).toNat)
    case atStart => exact ⟨0, rfl, Nat.zero_le _, Below.refl _ _, by rw [List.drop_zero, List.drop_zero]; exact hb⟩
    case round =>
      clear hb
      obtain ⟨k, rfl, hk, hbr, hr⟩ := hrel
      by_cases hlt : k < m.size
      · have hltI : (k : Int) < m.size := by omega
        have qlt : decide ((k : Int) < m.size) = true := decide_eq_true hltI
        have hks : k < s.size := by have := HL.out; omega
        obtain ⟨c, hc⟩ : ∃ c, bAt s.data.toList k = c := ⟨_, rfl⟩
        obtain ⟨d, hd⟩ : ∃ d, bAt m.data.toList k = d := ⟨_, rfl⟩
        have hst := pre_step (m := m.data.toList) (l := lwL s.data.toList) (k := k) (by rw [← Lib.size_eq]; exact hlt) (by rw [lwL_len, ← Lib.size_eq]; exact hks)
        rw [hr.out, lwL_at (by rw [← Lib.size_eq]; exact hks), hc, hd] at hst
        obtain ⟨S1, hS1⟩ : ∃ S1 : ByteArray, s.extract k (k + 1) = S1 := ⟨_, rfl⟩
        obtain ⟨M1, hM1⟩ : ∃ M1 : ByteArray, m.extract k (k + 1) = M1 := ⟨_, rfl⟩
        have hSd : S1.data.toList = [c] := by rw [← hS1, ← hc]; exact one_byte s k hks
        have hMd : M1.data.toList = [d] := by rw [← hM1, ← hd]; exact one_byte m k hlt
        have HT := one_lw S1 c hSd
        have HE := one_eq M1 (lw c) d hMd
        have hSs : IsSm S1.size := ⟨by rw [Lib.size_eq, hSd]; simp⟩
        obtain ⟨T1, hT1⟩ : ∃ T1 : ByteArray, (⟨#[lw c]⟩ : ByteArray) = T1 := ⟨_, rfl⟩
        rw [hT1] at HT HE
        have hw1 : wrap64 ((k : Int) + 1) = (k : Int) + 1 := wrap_ok (m := k + 1) rfl ⟨by omega⟩
        have hw2 : IntKind.i64.wrap ((k : Int) + 1) = (k : Int) + 1 := IntWalk.i64_in _ ⟨by omega, by omega⟩
        have h4I : ((k : Int) + 1).toNat = k + 1 := by omega
        have a1 : (0 : Int) ≤ k := by omega
        have a2 : (k : Int) ≤ (k : Int) + 1 := by omega
        have a3 : (k : Int) + 1 ≤ s.size := by omega
        have a4 : (k : Int) + 1 ≤ m.size := by omega
        have a5 : (0 : Int) ≤ (k : Int) + 1 := by omega
        obtain ⟨q, hq⟩ : ∃ q, (d == lw c) = q := ⟨_, rfl⟩
        rw [hq] at HE hst
        clear hc hd hSd hMd hT1 hr hq
        cases q
        · rw [Bool.false_and] at hst
          subst hst
          go_wp2_with fail
          go_region_held3 (fun w' => Below w.heap.size w w') (first | with_reducible exact hbr | with_reducible exact hbr.drew | with_reducible assumption) (first | (go_at_call 53; refine (lower_any S1 T1 HT hSs _).mono ?_; rintro e w5 ⟨rfl, hb5⟩; have hb6 : Below w.heap.size w w5 := hbr.drew.trans (hb5.mono hbr.size)))
          rename_i hHeld
          go_wp2_with fail
          go_ret
          exact ⟨rfl, hHeld⟩
        · rw [Bool.true_and] at hst
          have hr2 := Fact.mk hst.symm
          clear hst
          go_wp2_with fail
          go_region_held3 (fun w' => Below w.heap.size w w') (first | with_reducible exact hbr | with_reducible exact hbr.drew | with_reducible assumption) (first | (go_at_call 53; refine (lower_any S1 T1 HT hSs _).mono ?_; rintro e w5 ⟨rfl, hb5⟩; have hb6 : Below w.heap.size w w5 := hbr.drew.trans (hb5.mono hbr.size)))
          rename_i hHeld
          go_wp2_with fail
          go_roundw
          case rel => exact ⟨k + 1, by (first | exact rfl | exact int_eq rfl | exact int_eq (by omega)), hlt, hHeld, hr2⟩
          case measure => (try rw [hw1]); exact meas_up hlt
      · have e : k = m.size := by omega
        have e2 : (m.data.toList.drop k).isPrefixOf ((lwL s.data.toList).drop k) = true := by
          rw [List.drop_eq_nil_of_le (by rw [← Lib.size_eq]; omega)]
          rfl
        rw [hr.out] at e2
        subst e2
        have hge : (m.size : Int) ≤ k := by omega
        have qlt : decide ((k : Int) < m.size) = false := decide_eq_false (by omega)
        clear hr e
        go_wp2_with fail
        go_ret
        exact ⟨rfl, hbr⟩
theorem begins_at (s m : ByteArray) (b : Bool) (hb : Fact (m.data.toList.isPrefixOf (lwL s.data.toList) = b)) (hs : IsSm s.size) (w : World) : Calls Tryd.prog 55 #[.string s, .string m] w fun e w' => e = .returned (.bool b) ∧ Below w.heap.size w w' := begins_any s m b hb hs w

/-- of one sort, no tag's beginning -/
def txP (x : Bool) (c : UInt8) : Bool := c != 60 && (blk c == x)
set_option maxRecDepth 20000 in
set_option maxHeartbeats 1000000 in
theorem textEnd_any (s : ByteArray) (k0 E : Nat) (x : Bool) (hs : IsSm s.size) (hk0 : k0 < s.size) (hx : Fact (blk (bAt s.data.toList k0) = x)) (hE : Fact (spE (txP x) s.data.toList k0 = E)) (w : World) : Calls Tryd.prog 44 #[.string s, .int .i64 k0] w fun e w' => e = .returned (.int .i64 E) ∧ w' = w := by
  have b1 : (k0 : Int) < s.size := by omega
  have b2 : (0 : Int) ≤ k0 := by omega
  obtain ⟨c0, hc0⟩ : ∃ c0, bAt s.data.toList k0 = c0 := ⟨_, rfl⟩
  have hcc0 : s[k0] = c0 := by rw [← byte_at s k0 hk0]; exact hc0
  rw [hc0] at hx
  clear hc0
  go_enter Tryd.func44, Tryd.ntmps44
  go_wp2_with (go_at_call 63; refine (blank_any c0 _ hx _).mono ?_; rintro e w1 ⟨rfl, rfl⟩)
  go_loop [1] (fun i => ∃ k : Nat, i = .int .i64 k ∧ k ≤ s.size ∧ Fact (spE (txP x) s.data.toList k = E)) (fun i => s.size - (intOf i).toNat)
  case atStart => exact ⟨k0, rfl, Nat.le_of_lt hk0, hE⟩
  case round =>
    clear hE b1 b2 hcc0 hx hk0
    obtain ⟨k, rfl, hk, hr⟩ := hrel
    by_cases hlt : k < s.size
    · have h1 : (k : Int) < s.size := by omega
      have h2 : (0 : Int) ≤ k := by omega
      have q1 : decide ((k : Int) < s.size) = true := decide_eq_true h1
      obtain ⟨c, hc⟩ : ∃ c, bAt s.data.toList k = c := ⟨_, rfl⟩
      have hcc : s[k] = c := by rw [← byte_at s k hlt]; exact hc
      have hll : k < s.data.toList.length := by rw [← Lib.size_eq]; exact hlt
      by_cases c60 : c = 60
      · have q2 : ((c.toNat : Int) != 60) = false := by subst c60; rfl
        have hpc : txP x (bAt s.data.toList k) = false := by rw [hc, c60]; rfl
        have e := spE_stop (p := txP x) hll hpc
        rw [hr.out] at e
        subst e
        clear hr hpc hc hll c60
        go_wp2_with fail
        go_ret
        exact ⟨rfl, rfl⟩
      have q2 : ((c.toNat : Int) != 60) = true := by rw [bne, show ((c.toNat : Int) == 60) = false from u8_ne (by decide) c60]; rfl
      obtain ⟨y, hy⟩ : ∃ y, Fact (blk c = y) := ⟨_, ⟨rfl⟩⟩
      have hpc : txP x (bAt s.data.toList k) = (y == x) := by
        rw [hc]
        unfold txP
        rw [hy.out]
        have : (c != 60) = true := by simpa using c60
        rw [this, Bool.true_and]
      obtain ⟨z, hz⟩ : ∃ z, (y == x) = z := ⟨_, rfl⟩
      rw [hz] at hpc
      cases z
      · have e := spE_stop (p := txP x) hll hpc
        rw [hr.out] at e
        subst e
        clear hr hpc hc hll c60
        go_wp2_with (go_at_call 63; refine (blank_any c _ hy _).mono ?_; rintro e w1 ⟨rfl, rfl⟩)
        go_ret
        exact ⟨rfl, rfl⟩
      · have e := spE_go (p := txP x) hll hpc
        have hw1 : wrap64 ((k : Int) + 1) = ((k + 1 : Nat) : Int) := wrap_ok rfl ⟨by have := hs.le; omega⟩
        have hr2 : Fact (spE (txP x) s.data.toList (k + 1) = E) := ⟨e.trans hr.out⟩
        clear hr hpc e hc hll c60
        go_wp2_with (go_at_call 63; refine (blank_any c _ hy _).mono ?_; rintro e w1 ⟨rfl, rfl⟩)
        go_round
        case rel => exact ⟨k + 1, int_eq hw1, Nat.succ_le_of_lt hlt, hr2⟩
        case measure => (try rw [hw1]); exact meas_up hlt
    · have e := spE_end (p := txP x) (l := s.data.toList) (k := k) (by rw [← Lib.size_eq]; omega)
      rw [hr.out] at e
      subst e
      have h1 : (s.size : Int) ≤ E := by omega
      have q1 : decide ((E : Int) < s.size) = false := decide_eq_false (by omega)
      clear hr
      go_wp2_with fail
      go_ret
      exact ⟨rfl, rfl⟩
end Go.Proofs.YtdniddiaiinggaaDoor
