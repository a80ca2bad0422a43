/- TokenSorts. -/
import Derived.Test.YtbhhncdcdmcpfaaDoorTQ
import Derived.Deep.QuietTactic
import Derived.BigQuiet
import Derived.Deep.RegionHeld3
set_option linter.unusedVariables false
namespace Go.Proofs.YtbhhncdcdmcpfaaDoor
open Go.RowKit M

theorem below_drewN {B : Nat} {a w : World} (h : Below B a w) (n : Nat) : Below B a (w.drewN n) := ⟨h.os, h.tape, h.output, h.size, h.block⟩
theorem decB_none {attr : Bool} : ∀ {t : List UInt8}, (∀ c ∈ t, c ≠ 38) → decB attr t = t
  | [], _ => decB_nil attr
  | c :: r, h => by rw [decB_plain (h c (List.mem_cons_self ..)), decB_none (fun x hx => h x (List.mem_cons_of_mem _ hx))]
theorem sp_all {p : UInt8 → Bool} {l : List UInt8} {k : Nat} : ∀ (d i : Nat), d = i - k → k ≤ i → i < spE p l k → p (bAt l i) = true
  | 0, i, hd, hk, hi => by
    have e : i = k := by omega
    subst e
    by_cases hl : i < l.length
    · cases hp : p (bAt l i)
      · rw [spE_stop hl hp] at hi
        omega
      · rfl
    · rw [spE_end (by omega)] at hi
      omega
  | d + 1, i, hd, hk, hi => by
    by_cases hl : k < l.length
    · cases hp : p (bAt l k)
      · rw [spE_stop hl hp] at hi
        omega
      · rw [← spE_go hl hp] at hi
        exact sp_all d i (by omega) (by omega) hi
    · rw [spE_end (by omega)] at hi
      omega
theorem sp_stop : ∀ {p : UInt8 → Bool} {l : List UInt8} (d k : Nat), d = l.length - k → spE p l k < l.length → p (bAt l (spE p l k)) = false
  | p, l, d, k, hd, h => by
    by_cases hl : k < l.length
    · cases hp : p (bAt l k)
      · rw [spE_stop hl hp]
        exact hp
      · have e := spE_go hl hp
        rw [← e] at h ⊢
        exact sp_stop (d - 1) (k + 1) (by omega) h
    · have := spE_ge p l k
      omega
  termination_by p l d k => d
  decreasing_by omega
/-- what a text of one sort is -/
theorem sorts_is {l : List UInt8} {k : Nat} (hl : ∀ c ∈ l, c ≠ 60 ∧ c ≠ 38) (hk : k < l.length) {t : Tk} {E : Nat} {ok : Bool} (h : NxR l k [] t E ok) :
    t.Is 3 [] (sub l k (spE (txP (blk (bAt l k))) l k)) [] false ∧ E = spE (txP (blk (bAt l k))) l k ∧ ok = true := by
  unfold NxR at h
  rw [if_pos rfl] at h
  unfold NxN at h
  have hc : bAt l k ≠ 60 := by
    rw [bAt_in hk]
    exact (hl _ (List.getElem_mem _)).1
  rw [if_neg hc] at h
  rw [decB_none (fun c hc => by
    unfold sub at hc
    exact (hl c (List.mem_of_mem_drop (List.mem_of_mem_take hc))).2)] at h
  exact h
theorem take_sub {l : List UInt8} {k E : Nat} (h : k ≤ E) : l.take k ++ sub l k E = l.take E := by
  unfold sub
  have e : E = k + (E - k) := by omega
  rw [e, List.take_add]
  simp
set_option maxRecDepth 20000 in
set_option maxHeartbeats 1000000 in
theorem sblank_any (c : UInt8) (b : Bool) (hb : Fact (blk c = b)) (w : World) : Calls Tryd.prog 13 #[.int .u8 c.toNat] w fun e w' => e = .returned (.bool b) ∧ w' = w := by
  have e9 : ((c.toNat : Int) == 9) = (c == 9) := u8_beq c 9 (by decide)
  have e10 : ((c.toNat : Int) == 10) = (c == 10) := u8_beq c 10 (by decide)
  have e12 : ((c.toNat : Int) == 12) = (c == 12) := u8_beq c 12 (by decide)
  have e32 : ((c.toNat : Int) == 32) = (c == 32) := u8_beq c 32 (by decide)
  obtain ⟨hb⟩ := hb
  unfold blk at hb
  generalize (c == 9) = x9 at *
  generalize (c == 10) = x10 at *
  generalize (c == 12) = x12 at *
  generalize (c == 32) = x32 at *
  generalize (c.toNat : Int) = n at *
  subst hb
  cases x9
  · cases x10
    · cases x12
      · cases x32
        · go_enter Tryd.func13, Tryd.ntmps13
          go_wp2
          go_ret
          exact ⟨rfl, rfl⟩
        · go_enter Tryd.func13, Tryd.ntmps13
          go_wp2
          go_ret
          exact ⟨rfl, rfl⟩
      · go_enter Tryd.func13, Tryd.ntmps13
        go_wp2
        go_ret
        exact ⟨rfl, rfl⟩
    · go_enter Tryd.func13, Tryd.ntmps13
      go_wp2
      go_ret
      exact ⟨rfl, rfl⟩
  · go_enter Tryd.func13, Tryd.ntmps13
    go_wp2
    go_ret
    exact ⟨rfl, rfl⟩
set_option maxRecDepth 20000 in
set_option maxHeartbeats 4000000 in
theorem sorts_walk (s : ByteArray) (w : World) (hl : Laid w) : Calls Tryd.prog 7 #[.string s] w fun e w' => e = .returned (.bool true) ∧ Below w.heap.size w w' := by
  have HL := Fact.mk hl
  clear hl
  by_cases h1 : 500 < s.size
  · have i1 : (500 : Int) < s.size := by omega
    have q1 : decide ((500 : Int) < s.size) = true := decide_eq_true i1
    go_enter Tryd.func7, Tryd.ntmps7
    go_wp2_with (go_at_call 9; refine (awake10_true _ HL.out).mono ?_; rintro e w1 ⟨rfl, hb1⟩)
    go_ret
    exact ⟨rfl, hb1⟩
  have q1 : decide ((500 : Int) < s.size) = false := decide_eq_false (by omega)
  have q1n : decide (500 < s.size) = false := decide_eq_false h1
  have i1 : (s.size : Int) ≤ 500 := by omega
  by_cases h3 : s.data.toList = []
  · have q3 : (s.toList == []) = true := by rw [Lib.toList_data, h3]; rfl
    go_enter Tryd.func7, Tryd.ntmps7
    go_wp2_with (go_at_call 9; refine (awake10_true _ HL.out).mono ?_; rintro e w1 ⟨rfl, hb1⟩)
    go_ret
    exact ⟨rfl, hb1⟩
  have q3 : (s.toList == []) = false := by rw [Lib.toList_data, beq_eq_false_iff_ne]; exact h3
  have hs : IsSm s.size := ⟨by omega⟩
  go_enter Tryd.func7, Tryd.ntmps7
  go_wp2_with fail
  go_loop [3] (fun i => ∃ k : Nat, i = .int .i64 k ∧ k ≤ s.size ∧ Fact (∀ j, j < k → bAt s.data.toList j ≠ 60 ∧ bAt s.data.toList j ≠ 38)) (fun i => s.size - (intOf i).toNat)
  case atStart => exact ⟨0, rfl, Nat.zero_le _, ⟨fun j hj => by omega⟩⟩
  case round =>
    obtain ⟨k, rfl, hk, hr⟩ := hrel
    have hw1 : wrap64 ((k : Int) + 1) = (k : Int) + 1 := wrap_ok (m := k + 1) rfl ⟨by omega⟩
    by_cases hlt : k < s.size
    · have g1 : (k : Int) < s.size := by omega
      have g2 : decide ((k : Int) < s.size) = true := decide_eq_true g1
      have g2n : decide (k < s.size) = true := decide_eq_true hlt
      have g4 : (0 : Int) ≤ k := by omega
      obtain ⟨x, hx⟩ : ∃ x, bAt s.data.toList k = x := ⟨_, rfl⟩
      have hxx : s[k] = x := by rw [← byte_at s k hlt]; exact hx
      by_cases hx38 : x = 38
      · have r1 : ((x.toNat : Int) == 38) = true := by rw [hx38]; rfl
        clear hr hx hx38
        go_wp2_with (go_at_call 9; refine (awake10_true _ HL.out).mono ?_; rintro e w1 ⟨rfl, hb1⟩)
        go_ret
        exact ⟨rfl, hb1⟩
      have r1 : ((x.toNat : Int) == 38) = false := u8_ne (by decide) hx38
      by_cases hx60 : x = 60
      · have r2 : ((x.toNat : Int) == 60) = true := by rw [hx60]; rfl
        clear hr hx hx60 hx38
        go_wp2_with (go_at_call 9; refine (awake10_true _ HL.out).mono ?_; rintro e w1 ⟨rfl, hb1⟩)
        go_ret
        exact ⟨rfl, hb1⟩
      have r2 : ((x.toNat : Int) == 60) = false := u8_ne (by decide) hx60
      have hr2 : Fact (∀ j, j < k + 1 → bAt s.data.toList j ≠ 60 ∧ bAt s.data.toList j ≠ 38) := ⟨fun j h1 => by
        by_cases e : j = k
        · subst e
          rw [hx]
          exact ⟨hx60, hx38⟩
        · exact hr.out j (by omega)⟩
      clear hr hx hx60 hx38
      go_wp2_with fail
      go_round
      case rel => exact ⟨k + 1, by (first | exact int_eq rfl | exact int_eq hw1), hlt, hr2⟩
      case measure => (try rw [hw1]); exact meas_up hlt
    · have g1 : (s.size : Int) ≤ k := by omega
      have g2 : decide ((k : Int) < s.size) = false := decide_eq_false (by omega)
      have g2n : decide (k < s.size) = false := decide_eq_false hlt
      have HA : Fact (∀ c ∈ s.data.toList, c ≠ 60 ∧ c ≠ 38) := ⟨fun c hc => by
        obtain ⟨j, hj, e⟩ := List.getElem_of_mem hc
        have := hr.out j (by rw [← Lib.size_eq] at hj; omega)
        rw [bAt_in hj, e] at this
        exact this⟩
      clear hr
      rename Nat => kz
      go_wp2_with fail
      go_loopw [5, 6] (fun av iv wx => ∃ (A : ByteArray) (k : Nat), av = .string A ∧ iv = .int .i64 k ∧ k ≤ s.size ∧ A.size = k ∧ Below w.heap.size w wx ∧ Fact (A.data.toList = s.data.toList.take k)) (fun _ iv _ => s.size - (intOf iv).toNat)
      case atStart => exact ⟨⟨#[]⟩, 0, rfl, rfl, Nat.zero_le _, rfl, Below.refl _ _, ⟨rfl⟩⟩
      case round =>
        obtain ⟨A, k, rfl, rfl, hk, hA, hb, hAd⟩ := hrel
        by_cases hlt : k < s.size
        · have g3 : (k : Int) < s.size := by omega
          have g4 : decide ((k : Int) < s.size) = true := decide_eq_true g3
          have g4n : decide (k < s.size) = true := decide_eq_true hlt
          have g5 : (0 : Int) ≤ k := by omega
          have hll : k < s.data.toList.length := by rw [← Lib.size_eq]; exact hlt
          obtain ⟨c, hc⟩ : ∃ c, bAt s.data.toList k = c := ⟨_, rfl⟩
          have hcc : s[k] = c := by rw [← byte_at s k hlt]; exact hc
          obtain ⟨x, hx⟩ : ∃ x, Fact (blk c = x) := ⟨_, ⟨rfl⟩⟩
          obtain ⟨E, hE⟩ : ∃ E, Fact (spE (txP x) s.data.toList k = E) := ⟨_, ⟨rfl⟩⟩
          have hpk : txP x (bAt s.data.toList k) = true := by
            rw [hc]
            unfold txP
            rw [hx.out]
            have := (HA.out _ (by rw [← hc, bAt_in hll]; exact List.getElem_mem _ : c ∈ s.data.toList)).1
            simp [this]
          have hgt : k < E := by
            have e := spE_go hll hpk
            have h := spE_ge (txP x) s.data.toList (k + 1)
            have := hE.out
            omega
          have hle : E ≤ s.size := by rw [← hE.out, Lib.size_eq]; exact spE_le _ (by rw [← Lib.size_eq]; exact hk)
          obtain ⟨X, hX⟩ : ∃ X : ByteArray, s.extract k E = X := ⟨_, rfl⟩
          have hXd : Fact (X.data.toList = sub s.data.toList k E) := ⟨by rw [← hX]; exact sub_data s _ _ (Nat.le_of_lt hgt)⟩
          have hXs : X.size = E - k := by rw [← hX, ByteArray.size_extract]; omega
          have KA : Fact (Calls Tryd.prog 10 #[.string s, .int .i64 k, .string ⟨#[]⟩] wr fun e w'' => TokOut wr ⟨3, ⟨#[]⟩, X, [], false⟩ E true e w'') := ⟨next_is s ⟨#[]⟩ ⟨#[]⟩ X k 3 [] false E true hs ⟨by decide⟩ hlt (fun t' E' ok' hR => by
            have h := sorts_is HA.out hll hR
            rw [hc, hx.out, hE.out, ← hXd.out] at h
            exact h) wr (HL.out.since hb)⟩
          have hall : Fact (∀ i, k ≤ i → i < E → blk (bAt s.data.toList i) = x) := ⟨fun i h1 h2 => by
            have h := sp_all (p := txP x) (l := s.data.toList) (k := k) (i - k) i rfl h1 (by rw [hE.out]; exact h2)
            unfold txP at h
            rw [Bool.and_eq_true, beq_iff_eq] at h
            exact h.2⟩
          have hstop : Fact (E < s.size → blk (bAt s.data.toList E) ≠ x) := ⟨fun h1 h2 => by
            have h := sp_stop (p := txP x) (l := s.data.toList) _ k rfl (by rw [hE.out, ← Lib.size_eq]; exact h1)
            rw [hE.out] at h
            unfold txP at h
            rw [h2] at h
            have h4 : bAt s.data.toList E ∈ s.data.toList := by
              rw [bAt_in (by rw [← Lib.size_eq]; exact h1)]
              exact List.getElem_mem _
            have := (HA.out _ h4).1
            simp [this] at h⟩
          have a1 : (k : Int) < E := by omega
          have a2 : (E : Int) ≤ s.size := by omega
          have a3 : decide ((E : Int) ≤ k) = false := decide_eq_false (by omega)
          have a3n : decide (E ≤ k) = false := decide_eq_false (by omega)
          have a4 : (X.toList == X.toList) = true := beq_self_eq_true _
          have a5 : (k : Int) ≤ E := by omega
          clear hpk hE
          go_wp2_with (first
            | (go_at_call 10; refine KA.out.mono ?_; intro e w2 h1; obtain ⟨va, vc, rfl, hb1⟩ := h1.same rfl; have HB1 := Fact.mk (hb.trans (hb1.mono hb.size)); clear h1 hb1))
          go_quiet (fail)
          go_wp2_with fail
          have HB2 : Fact (Below w.heap.size w ((w2.alloc (.cells #[.int .i64 3, .string ⟨#[]⟩, .string X, .slice va 0 vc, .bool false] 25)).drewN nq)) := ⟨below_drewN (HB1.out.alloc HB1.out.size _) _⟩
          have HX2 : Fact (((w2.alloc (.cells #[.int .i64 3, .string ⟨#[]⟩, .string X, .slice va 0 vc, .bool false] 25)).drewN nq).cell? ⟨w2.heap.size, 2, none⟩ = some (.string X)) := ⟨((below_drewN (Below.refl (w2.alloc (.cells #[.int .i64 3, .string ⟨#[]⟩, .string X, .slice va 0 vc, .bool false] 25)).heap.size (w2.alloc (.cells #[.int .i64 3, .string ⟨#[]⟩, .string X, .slice va 0 vc, .bool false] 25))) nq).cell (p := ⟨w2.heap.size, 2, none⟩) (by simp)).trans (World.cell?_alloc_new w2 _ _ 2)⟩
          obtain ⟨A2, hA2⟩ : ∃ A2 : ByteArray, A ++ X = A2 := ⟨_, rfl⟩
          have r9 := fun w => add_at A X A2 hA2 (by omega) w
          have HA2 : Fact (A2.data.toList = s.data.toList.take E ∧ A2.size = E) := ⟨⟨by rw [← hA2, data_app, hAd.out, hXd.out, take_sub (Nat.le_of_lt hgt)], by rw [← hA2, size_app]; omega⟩⟩
          have qx : (x == x) = true := beq_self_eq_true _
          have qx2 : (x != x) = false := by simp
          rename World => wv
          clear hA2 hXd hX KA hA hXs hAd
          go_loopw [10] (fun iv wx => ∃ j : Nat, iv = .int .i64 j ∧ k ≤ j ∧ j ≤ E ∧ Below w.heap.size w wx ∧ wx.cell? ⟨wv.heap.size, 2, none⟩ = some (.string X)) (fun iv _ => E - (intOf iv).toNat)
          case atStart => exact ⟨k, rfl, Nat.le_refl _, Nat.le_of_lt hgt, HB2.out, HX2.out⟩
          case round =>
            clear HB2 HX2 HB1
            obtain ⟨j, rfl, hkj, hjE, hbq, hcq⟩ := hrel
            have hw1 : wrap64 ((j : Int) + 1) = (j : Int) + 1 := wrap_ok (m := j + 1) rfl ⟨by omega⟩
            by_cases hj : j < E
            · have b1 : (j : Int) < E := Int.ofNat_lt.2 hj
              have b2 : decide ((j : Int) < E) = true := decide_eq_true b1
              have b2n : decide (j < E) = true := decide_eq_true hj
              have b3 : (0 : Int) ≤ j := Int.natCast_nonneg j
              have hjs : j < s.size := Nat.lt_of_lt_of_le hj hle
              have b4 : (j : Int) < s.size := Int.ofNat_lt.2 hjs
              obtain ⟨d, hd⟩ : ∃ d, bAt s.data.toList j = d := ⟨_, rfl⟩
              have hdd : s[j] = d := by rw [← byte_at s j hjs]; exact hd
              have hdx : Fact (blk d = x) := ⟨by rw [← hd]; exact hall.out j hkj hj⟩
              clear hd
              go_wp2_with fail
              go_region_held3 (fun _ => True) (exact trivial) (first | (go_at_call 13; with_reducible refine (sblank_any d _ hdx _).mono ?_; rintro e w9 ⟨rfl, rfl⟩) | (go_at_call 13; with_reducible refine (sblank_any c _ hx _).mono ?_; rintro e w9 ⟨rfl, rfl⟩))
              all_goals
                go_wp2_with fail
                go_roundw
                case rel => exact ⟨j + 1, by (first | exact int_eq rfl | exact int_eq hw1), Nat.le_succ_of_le hkj, hj, hbq.drew, hcq⟩
                case measure => exact meas_up hj
            · have b1 : (E : Int) ≤ j := Int.ofNat_le.2 (Nat.le_of_not_lt hj)
              have b2 : decide ((j : Int) < E) = false := decide_eq_false (fun h => hj (Int.ofNat_lt.1 h))
              have b2n : decide (j < E) = false := decide_eq_false hj
              by_cases hEs : E < s.size
              · have b5 : (E : Int) < s.size := Int.ofNat_lt.2 hEs
                have b6 : decide ((E : Int) < s.size) = true := decide_eq_true b5
                have b6n : decide (E < s.size) = true := decide_eq_true hEs
                have b7 : (0 : Int) ≤ E := Int.natCast_nonneg E
                obtain ⟨d, hd⟩ : ∃ d, bAt s.data.toList E = d := ⟨_, rfl⟩
                have hdd : s[E] = d := by rw [← byte_at s E hEs]; exact hd
                obtain ⟨y, hy⟩ : ∃ y, Fact (blk d = y) := ⟨_, ⟨rfl⟩⟩
                have qy : (y == x) = false := by
                  rw [beq_eq_false_iff_ne, ← hy.out, ← hd]
                  exact hstop.out hEs
                clear hd
                go_wp2_with fail
                go_region_held3 (fun _ => True) (exact trivial) (first | (go_at_call 13; with_reducible refine (sblank_any d _ hy _).mono ?_; rintro e w9 ⟨rfl, rfl⟩) | (go_at_call 13; with_reducible refine (sblank_any c _ hx _).mono ?_; rintro e w9 ⟨rfl, rfl⟩))
                all_goals
                  go_wp2_with fail
                  go_roundw
                  case rel => exact ⟨A2, E, rfl, rfl, hle, HA2.out.2, hbq.drew, ⟨HA2.out.1⟩⟩
                  case measure => exact meas_to hlt hgt
              · have b5 : (s.size : Int) ≤ E := Int.ofNat_le.2 (Nat.le_of_not_lt hEs)
                have b6 : decide ((E : Int) < s.size) = false := decide_eq_false (fun h => hEs (Int.ofNat_lt.1 h))
                have b6n : decide (E < s.size) = false := decide_eq_false hEs
                go_wp2_with fail
                go_quiet (fail)
                go_wp2_with fail
                go_roundw
                case rel => exact ⟨A2, E, rfl, rfl, hle, HA2.out.2, below_drewN hbq _, ⟨HA2.out.1⟩⟩
                case measure => exact meas_to hlt hgt
        · have e : k = s.size := by omega
          have g3 : (s.size : Int) ≤ k := by omega
          have g4 : decide ((k : Int) < s.size) = false := decide_eq_false (by omega)
          have g4n : decide (k < s.size) = false := decide_eq_false hlt
          have eA : A = s := tx_ext (by rw [hAd.out, e, Lib.size_eq, List.take_length])
          have qA : (A.toList == s.toList) = true := by rw [eA]; exact beq_self_eq_true _
          clear e eA hAd hA
          go_wp2_with (first | (go_at_call 9; refine (awake10_true _ (HL.out.since hb)).mono ?_; rintro e w3 ⟨rfl, hb3⟩))
          go_ret
          exact ⟨rfl, hb.trans (hb3.mono hb.size)⟩
end Go.Proofs.YtbhhncdcdmcpfaaDoor
