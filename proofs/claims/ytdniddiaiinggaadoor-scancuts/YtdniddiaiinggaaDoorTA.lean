/- Blank, IndexByte, stops, letterAt, HasPrefix, past, upTo, wordEnd, blanksEnd, betweenEnd, textEnd: what they answer. -/
import Derived.Test.YtdniddiaiinggaaDoorTM
import Derived.Test.YtdniddiaiinggaaDoorCD
import Derived.Lib.Bytealg
set_option linter.unusedVariables false
namespace Go.Proofs.YtdniddiaiinggaaDoor
open Go.RowKit M

theorem u8_beq (c : UInt8) (k : Nat) (hk : k < 256) : ((c.toNat : Int) == (k : Int)) = (c == UInt8.ofNat k) := by
  rw [Bool.eq_iff_iff, beq_iff_eq, beq_iff_eq]
  constructor
  · intro e
    apply UInt8.toNat_inj.1
    have e2 : c.toNat = k := by omega
    rw [e2]
    simp
    omega
  · intro e
    rw [e]
    simp
    omega
set_option maxRecDepth 20000 in
set_option maxHeartbeats 1000000 in
theorem blank_any (c : UInt8) (b : Bool) (hb : Fact (blk c = b)) (w : World) : Calls Tryd.prog 63 #[.int .u8 c.toNat] w fun e w' => e = .returned (.bool b) ∧ w' = w := by
  have e9 : ((c.toNat : Int) == 9) = (c == 9) := u8_beq c 9 (by decide)
  have e10 : ((c.toNat : Int) == 10) = (c == 10) := u8_beq c 10 (by decide)
  have e12 : ((c.toNat : Int) == 12) = (c == 12) := u8_beq c 12 (by decide)
  have e32 : ((c.toNat : Int) == 32) = (c == 32) := u8_beq c 32 (by decide)
  obtain ⟨hb⟩ := hb
  unfold blk at hb
  generalize (c == 9) = x9 at *
  generalize (c == 10) = x10 at *
  generalize (c == 12) = x12 at *
  generalize (c == 32) = x32 at *
  generalize (c.toNat : Int) = n at *
  subst hb
  cases x9
  · cases x10
    · cases x12
      · cases x32
        · go_enter Tryd.func63, Tryd.ntmps63
          go_wp2
          go_ret
          exact ⟨rfl, rfl⟩
        · go_enter Tryd.func63, Tryd.ntmps63
          go_wp2
          go_ret
          exact ⟨rfl, rfl⟩
      · go_enter Tryd.func63, Tryd.ntmps63
        go_wp2
        go_ret
        exact ⟨rfl, rfl⟩
    · go_enter Tryd.func63, Tryd.ntmps63
      go_wp2
      go_ret
      exact ⟨rfl, rfl⟩
  · go_enter Tryd.func63, Tryd.ntmps63
    go_wp2
    go_ret
    exact ⟨rfl, rfl⟩

/-- where a byte first stands, or -1 -/
def idxB (l : List UInt8) (c : UInt8) : Int := if spN (fun x => x != c) l < l.length then (spN (fun x => x != c) l : Int) else -1
theorem idx_eq (c : UInt8) : ∀ l : List UInt8, Lib.indexByte l c = idxB l c
  | [] => by simp [Lib.indexByte, idxB, spN]
  | b :: r => by
    have ih := idx_eq c r
    by_cases h : b = c
    · subst h
      simp [Lib.indexByte, idxB, spN]
    · have h1 : (b == c) = false := by simpa using h
      have h2 : (b != c) = true := by simpa using h
      simp only [Lib.indexByte, h1, Bool.false_eq_true, if_false, ih]
      unfold idxB
      simp only [spN, h2, if_true, List.length_cons]
      by_cases h3 : spN (fun x => x != c) r < r.length
      · have h4 : (((spN (fun x => x != c) r : Nat) : Int) == -1) = false := by rw [beq_eq_false_iff_ne]; omega
        simp only [h3, if_true, h4, Bool.false_eq_true, if_false]
        rw [if_pos (by omega)]
        push_cast
        rfl
      · have h5 : ¬ spN (fun x => x != c) r + 1 < r.length + 1 := by omega
        simp only [h3, h5, if_false]
        rfl
theorem idx_call (s : ByteArray) (c : UInt8) (n : Int) (hn : Fact (idxB s.data.toList c = n)) (w : World) : (callFunc 90 #[.string s, .int .u8 c.toNat]).run Tryd.prog w = .ok (.value (.int .i64 n)) w := by
  rw [run_callFunc_extern Tryd.func90 (by kernel_rfl) (by kernel_rfl) (by kernel_rfl) (e := Extern.BytealgIndexByte.indexByte) (by kernel_rfl) _ w, Lib.run_indexByteString]
  have e : ((c.toNat : Int).toNat).toUInt8 = c := by simp
  rw [e, idx_eq, hn.out]
  rfl
set_option maxRecDepth 20000 in
theorem lidx_any (s : ByteArray) (c : UInt8) (n : Int) (hn : Fact (idxB s.data.toList c = n)) (w : World) : Calls Tryd.prog 81 #[.string s, .int .u8 c.toNat] w fun e w' => e = .returned (.int .i64 n) ∧ w' = w := by
  have h := idx_call s c n hn w
  clear hn
  generalize (c.toNat : Int) = m at *
  go_enter Tryd.func81, Tryd.ntmps81
  go_wp2
  go_ret
  exact ⟨rfl, rfl⟩
set_option maxRecDepth 20000 in
theorem idx_any (s : ByteArray) (c : UInt8) (n : Int) (hn : Fact (idxB s.data.toList c = n)) (w : World) : Calls Tryd.prog 67 #[.string s, .int .u8 c.toNat] w fun e w' => e = .returned (.int .i64 n) ∧ w' = w := by
  go_enter Tryd.func67, Tryd.ntmps67
  go_wp2_with (go_at_call 81; refine (lidx_any s c n hn _).mono ?_; rintro e w1 ⟨rfl, rfl⟩)
  go_ret
  exact ⟨rfl, rfl⟩
theorem idx_has (l : List UInt8) (c : UInt8) : (0 ≤ idxB l c) ↔ l.contains c = true := by
  induction l with
  | nil => simp [idxB]
  | cons b r ih =>
    by_cases h : b = c
    · subst h
      simp [idxB, spN]
    · have h2 : (b != c) = true := by simpa using h
      have h3 : (b :: r).contains c = r.contains c := by
        rw [List.contains_cons]
        have : (c == b) = false := by simpa using fun e : c = b => h e.symm
        rw [this, Bool.false_or]
      rw [h3, ← ih]
      unfold idxB
      simp only [spN, h2, if_true, List.length_cons]
      by_cases h4 : spN (fun x => x != c) r < r.length
      · rw [if_pos h4, if_pos (by omega)]
        omega
      · rw [if_neg h4, if_neg (by omega)]
set_option maxRecDepth 20000 in
set_option maxHeartbeats 1000000 in
theorem stops_any (c : UInt8) (sg : ByteArray) (b : Bool) (hb : Fact (stp sg.data.toList c = b)) (w : World) : Calls Tryd.prog 56 #[.int .u8 c.toNat, .string sg] w fun e w' => e = .returned (.bool b) ∧ w' = w := by
  obtain ⟨x, hx⟩ : ∃ x, Fact (blk c = x) := ⟨_, ⟨rfl⟩⟩
  obtain ⟨n, hn⟩ : ∃ n, Fact (idxB sg.data.toList c = n) := ⟨_, ⟨rfl⟩⟩
  have h1 := idx_has sg.data.toList c
  rw [hn.out] at h1
  obtain ⟨hb⟩ := hb
  unfold stp at hb
  rw [hx.out] at hb
  cases x
  · rw [Bool.false_or] at hb
    by_cases h0 : 0 ≤ n
    · have e : b = true := by rw [← hb]; exact h1.1 h0
      subst e
      have q : decide ((0 : Int) ≤ n) = true := decide_eq_true h0
      clear h1 hb
      go_enter Tryd.func56, Tryd.ntmps56
      go_wp2_with (first
        | (go_at_call 63; refine (blank_any c _ hx _).mono ?_; rintro e w1 ⟨rfl, rfl⟩)
        | (go_at_call 67; refine (idx_any sg c n hn _).mono ?_; rintro e w1 ⟨rfl, rfl⟩))
      go_ret
      exact ⟨rfl, rfl⟩
    · have e : b = false := by
        rw [← hb, ← Bool.not_eq_true]
        exact fun h => h0 (h1.2 h)
      subst e
      have q : decide ((0 : Int) ≤ n) = false := decide_eq_false h0
      clear h1 hb
      go_enter Tryd.func56, Tryd.ntmps56
      go_wp2_with (first
        | (go_at_call 63; refine (blank_any c _ hx _).mono ?_; rintro e w1 ⟨rfl, rfl⟩)
        | (go_at_call 67; refine (idx_any sg c n hn _).mono ?_; rintro e w1 ⟨rfl, rfl⟩))
      go_ret
      exact ⟨rfl, rfl⟩
  · rw [Bool.true_or] at hb
    subst hb
    clear h1
    go_enter Tryd.func56, Tryd.ntmps56
    go_wp2_with (go_at_call 63; refine (blank_any c _ hx _).mono ?_; rintro e w1 ⟨rfl, rfl⟩)
    go_ret
    exact ⟨rfl, rfl⟩
theorem stops_at (n : Int) (c : UInt8) (hc : n = c.toNat) (sg : ByteArray) (b : Bool) (hb : Fact (stp sg.data.toList c = b)) (w : World) : Calls Tryd.prog 56 #[.int .u8 n, .string sg] w fun e w' => e = .returned (.bool b) ∧ w' = w := by
  subst hc
  exact stops_any c sg b hb w

/-- a Letter at a place -/
def ltrAt (l : List UInt8) (k : Nat) : Bool := decide (k < l.length) && ltrN (bAt l k).toNat
set_option maxRecDepth 20000 in
set_option maxHeartbeats 1000000 in
theorem letterAt_any (s : ByteArray) (k : Nat) (b : Bool) (hb : Fact (ltrAt s.data.toList k = b)) (w : World) : Calls Tryd.prog 57 #[.string s, .int .i64 k] w fun e w' => e = .returned (.bool b) ∧ w' = w := by
  obtain ⟨hb⟩ := hb
  unfold ltrAt at hb
  rw [← Lib.size_eq] at hb
  by_cases h : k < s.size
  · have h1 : (k : Int) < s.size := by omega
    have h0 : (0 : Int) ≤ k := by omega
    have q1 : decide ((k : Int) < s.size) = true := decide_eq_true h1
    obtain ⟨c, hc⟩ : ∃ c, bAt s.data.toList k = c := ⟨_, rfl⟩
    have hcc : s[k] = c := by rw [← byte_at s k h]; exact hc
    rw [hc, decide_eq_true h, Bool.true_and] at hb
    have HL := letter_any c.toNat (UInt8.toNat_lt c) w
    rw [hb] at HL
    clear hb hc
    go_enter Tryd.func57, Tryd.ntmps57
    go_wp2_with (go_at_call 68; refine HL.mono ?_; rintro e w1 ⟨rfl, rfl⟩)
    go_ret
    exact ⟨rfl, rfl⟩
  · have h1 : (s.size : Int) ≤ k := by omega
    have q1 : decide ((k : Int) < s.size) = false := decide_eq_false (by omega)
    rw [decide_eq_false h, Bool.false_and] at hb
    subst hb
    go_enter Tryd.func57, Tryd.ntmps57
    go_wp2
    go_ret
    exact ⟨rfl, rfl⟩
theorem letterAt_at (s : ByteArray) (a : Int) (k : Nat) (ha : a = k) (b : Bool) (hb : Fact (ltrAt s.data.toList k = b)) (w : World) : Calls Tryd.prog 57 #[.string s, .int .i64 a] w fun e w' => e = .returned (.bool b) ∧ w' = w := by
  subst ha
  exact letterAt_any s k b hb w

theorem pre_eq (s p : ByteArray) (h : p.size ≤ s.size) : ((s.extract 0 p.size).toList == p.toList) = p.data.toList.isPrefixOf s.data.toList := by
  rw [Bool.eq_iff_iff, beq_iff_eq, List.isPrefixOf_iff_prefix, Lib.extract_toList, Lib.toList_data, List.drop_zero, Nat.sub_zero, Lib.size_eq p, List.prefix_iff_eq_take]
  exact eq_comm
theorem pre_no {s p : ByteArray} (h : s.size < p.size) : p.data.toList.isPrefixOf s.data.toList = false := by
  rw [← Bool.not_eq_true, List.isPrefixOf_iff_prefix]
  intro hp
  have := hp.length_le
  rw [← Lib.size_eq, ← Lib.size_eq] at this
  omega
set_option maxRecDepth 20000 in
set_option maxHeartbeats 1000000 in
theorem lprefix_any (s p : ByteArray) (b : Bool) (hb : Fact (p.data.toList.isPrefixOf s.data.toList = b)) (w : World) : Calls Tryd.prog 74 #[.string s, .string p] w fun e w' => e = .returned (.bool b) ∧ w' = w := by
  obtain ⟨hb⟩ := hb
  by_cases h : p.size ≤ s.size
  · rw [← pre_eq s p h] at hb
    have h1 : (p.size : Int) ≤ s.size := by omega
    have q1 : decide ((p.size : Int) ≤ s.size) = true := decide_eq_true h1
    go_enter Tryd.func74, Tryd.ntmps74
    go_wp2
    go_ret
    first | exact ⟨rfl, rfl⟩ | exact ⟨ret_bool hb, rfl⟩
  · have e := pre_no (s := s) (p := p) (by omega)
    rw [e] at hb
    subst hb
    have h1 : (s.size : Int) < p.size := by omega
    have q1 : decide ((p.size : Int) ≤ s.size) = false := decide_eq_false (by omega)
    clear e
    go_enter Tryd.func74, Tryd.ntmps74
    go_wp2
    go_ret
    exact ⟨rfl, rfl⟩
set_option maxRecDepth 20000 in
theorem prefix_any (s p : ByteArray) (b : Bool) (hb : Fact (p.data.toList.isPrefixOf s.data.toList = b)) (w : World) : Calls Tryd.prog 59 #[.string s, .string p] w fun e w' => e = .returned (.bool b) ∧ w' = w := by
  go_enter Tryd.func59, Tryd.ntmps59
  go_wp2_with (go_at_call 74; refine (lprefix_any s p b hb _).mono ?_; rintro e w1 ⟨rfl, rfl⟩)
  go_ret
  exact ⟨rfl, rfl⟩

theorem min_nat {k n : Nat} : (if (n : Int) < (k : Int) + 1 then (n : Int) else (k : Int) + 1) = ((min (k + 1) n : Nat) : Int) := by
  split <;> omega
set_option maxRecDepth 20000 in
theorem past_any (s : ByteArray) (k m : Nat) (hs : IsSm s.size) (hk : k ≤ s.size) (hm : Fact (min (k + 1) s.size = m)) (w : World) : Calls Tryd.prog 62 #[.string s, .int .i64 k] w fun e w' => e = .returned (.int .i64 m) ∧ w' = w := by
  have hw : wrap64 ((k : Int) + 1) = (k : Int) + 1 := wrap_ok (m := k + 1) rfl ⟨by have := hs.le; omega⟩
  go_enter Tryd.func62, Tryd.ntmps62
  go_wp2
  · go_ret
    exact ⟨ret_int (by rw [← hm.out]; omega), rfl⟩
  · go_ret
    exact ⟨ret_int (by rw [← hm.out]; omega), rfl⟩

theorem up_hit {l : List UInt8} {k : Nat} {c : UInt8} {n : Int} (hk : k ≤ l.length) (hn : idxB (l.drop k) c = n) (h : 0 ≤ n) : (k : Int) + n = (spE (fun x => x != c) l k : Nat) := by
  unfold idxB at hn
  unfold spE
  split at hn
  · omega
  · omega
theorem up_miss {l : List UInt8} {k : Nat} {c : UInt8} {n : Int} (hk : k ≤ l.length) (hn : idxB (l.drop k) c = n) (h : n < 0) : (l.length : Int) = (spE (fun x => x != c) l k : Nat) := by
  have := spN_le (fun x => x != c) (l.drop k)
  rw [List.length_drop] at this
  unfold idxB at hn
  unfold spE
  rw [List.length_drop] at hn
  split at hn
  · omega
  · omega
set_option maxRecDepth 20000 in
set_option maxHeartbeats 1000000 in
theorem upTo_any (s : ByteArray) (k E : Nat) (c : UInt8) (hs : IsSm s.size) (hk : k ≤ s.size) (hE : Fact (spE (fun x => x != c) s.data.toList k = E)) (w : World) : Calls Tryd.prog 54 #[.string s, .int .i64 k, .int .u8 c.toNat] w fun e w' => e = .returned (.int .i64 E) ∧ w' = w := by
  obtain ⟨S, hS⟩ : ∃ S : ByteArray, s.extract k s.size = S := ⟨_, rfl⟩
  have hd : S.data.toList = s.data.toList.drop k := by rw [← hS]; exact drop_data s k
  obtain ⟨n, hn⟩ : ∃ n, Fact (idxB S.data.toList c = n) := ⟨_, ⟨rfl⟩⟩
  have hn2 := hn.out
  rw [hd] at hn2
  have hkl : k ≤ s.data.toList.length := by rw [← Lib.size_eq]; exact hk
  have h0 : (0 : Int) ≤ k := by omega
  have h1 : (k : Int) ≤ s.size := by omega
  by_cases h : n < 0
  · have e := up_miss hkl hn2 h
    rw [hE.out, ← Lib.size_eq] at e
    have q : decide (n < 0) = true := decide_eq_true h
    clear hd hn2 hkl hE
    go_enter Tryd.func54, Tryd.ntmps54
    go_wp2_with (go_at_call 67; refine (idx_any S c n hn _).mono ?_; rintro e w1 ⟨rfl, rfl⟩)
    go_ret
    first | exact ⟨rfl, rfl⟩ | exact ⟨ret_int e, rfl⟩
  · have e := up_hit hkl hn2 (by omega)
    rw [hE.out] at e
    have hEl := spE_le (fun x => x != c) hkl
    rw [hE.out, ← Lib.size_eq] at hEl
    have hw : wrap64 (E : Int) = (E : Int) := wrap_ok (m := E) rfl ⟨by have := hs.le; omega⟩
    have q : decide (n < 0) = false := decide_eq_false h
    have h' : (0 : Int) ≤ n := by omega
    clear hd hn2 hkl hE hEl
    go_enter Tryd.func54, Tryd.ntmps54
    go_wp2_with (go_at_call 67; refine (idx_any S c n hn _).mono ?_; rintro e w1 ⟨rfl, rfl⟩)
    go_ret
    first | exact ⟨rfl, rfl⟩ | exact ⟨ret_int hw, rfl⟩
theorem upTo_at (s : ByteArray) (a n : Int) (k E : Nat) (c : UInt8) (ha : a = k) (hc : n = c.toNat) (hs : IsSm s.size) (hk : k ≤ s.size) (hE : Fact (spE (fun x => x != c) s.data.toList k = E)) (w : World) : Calls Tryd.prog 54 #[.string s, .int .i64 a, .int .u8 n] w fun e w' => e = .returned (.int .i64 E) ∧ w' = w := by
  subst ha hc
  exact upTo_any s k E c hs hk hE w
theorem past_at (s : ByteArray) (a : Int) (k m : Nat) (ha : a = k) (hs : IsSm s.size) (hk : k ≤ s.size) (hm : Fact (min (k + 1) s.size = m)) (w : World) : Calls Tryd.prog 62 #[.string s, .int .i64 a] w fun e w' => e = .returned (.int .i64 m) ∧ w' = w := by
  subst ha
  exact past_any s k m hs hk hm w

set_option maxRecDepth 20000 in
set_option maxHeartbeats 1000000 in
theorem wordEnd_any (s : ByteArray) (k0 E : Nat) (sg : ByteArray) (hs : IsSm s.size) (hk0 : k0 ≤ s.size) (hE : Fact (spE (fun c => !stp sg.data.toList c) s.data.toList k0 = E)) (w : World) : Calls Tryd.prog 69 #[.string s, .int .i64 k0, .string sg] w fun e w' => e = .returned (.int .i64 E) ∧ w' = w := by
  go_enter Tryd.func69, Tryd.ntmps69
  go_wp2_with fail
  go_loop [1] (fun i => ∃ k : Nat, i = .int .i64 k ∧ k ≤ s.size ∧ Fact (spE (fun c => !stp sg.data.toList c) s.data.toList k = E)) (fun i => s.size - (intOf i).toNat)
  case atStart => exact ⟨k0, rfl, hk0, hE⟩
  case round =>
    clear hE hk0
    obtain ⟨k, rfl, hk, hr⟩ := hrel
    by_cases hlt : k < s.size
    · have h1 : (k : Int) < s.size := by omega
      have h2 : (0 : Int) ≤ k := by omega
      have q1 : decide ((k : Int) < s.size) = true := decide_eq_true h1
      obtain ⟨c, hc⟩ : ∃ c, bAt s.data.toList k = c := ⟨_, rfl⟩
      have hcc : s[k] = c := by rw [← byte_at s k hlt]; exact hc
      have hll : k < s.data.toList.length := by rw [← Lib.size_eq]; exact hlt
      obtain ⟨b, hb⟩ : ∃ b, Fact (stp sg.data.toList c = b) := ⟨_, ⟨rfl⟩⟩
      have hpc : (fun c => !stp sg.data.toList c) (bAt s.data.toList k) = !b := by
        rw [hc]
        have := hb.out
        simp only [this]
      cases b
      · have e := spE_go (p := (fun c => !stp sg.data.toList c)) hll hpc
        have hw1 : wrap64 ((k : Int) + 1) = ((k + 1 : Nat) : Int) := wrap_ok rfl ⟨by have := hs.le; omega⟩
        have hr2 : Fact (spE (fun c => !stp sg.data.toList c) s.data.toList (k + 1) = E) := ⟨e.trans hr.out⟩
        clear hr hpc e hc hll
        go_wp2_with (go_at_call 56; refine (stops_any c sg _ hb _).mono ?_; rintro e w1 ⟨rfl, rfl⟩)
        go_round
        case rel => exact ⟨k + 1, int_eq hw1, Nat.succ_le_of_lt hlt, hr2⟩
        case measure => (try rw [hw1]); exact meas_up hlt
      · have e := spE_stop (p := (fun c => !stp sg.data.toList c)) hll hpc
        rw [hr.out] at e
        subst e
        clear hr hpc hc hll
        go_wp2_with (go_at_call 56; refine (stops_any c sg _ hb _).mono ?_; rintro e w1 ⟨rfl, rfl⟩)
        go_ret
        exact ⟨rfl, rfl⟩
    · have e := spE_end (p := (fun c => !stp sg.data.toList c)) (l := s.data.toList) (k := k) (by rw [← Lib.size_eq]; omega)
      rw [hr.out] at e
      subst e
      have h1 : (s.size : Int) ≤ E := by omega
      have q1 : decide ((E : Int) < s.size) = false := decide_eq_false (by omega)
      clear hr
      go_wp2_with fail
      go_ret
      exact ⟨rfl, rfl⟩

set_option maxRecDepth 20000 in
set_option maxHeartbeats 1000000 in
theorem betweenEnd_any (s : ByteArray) (k0 E : Nat) (hs : IsSm s.size) (hk0 : k0 ≤ s.size) (hE : Fact (spE (stp [47]) s.data.toList k0 = E)) (w : World) : Calls Tryd.prog 71 #[.string s, .int .i64 k0] w fun e w' => e = .returned (.int .i64 E) ∧ w' = w := by
  go_enter Tryd.func71, Tryd.ntmps71
  go_wp2_with fail
  go_loop [1] (fun i => ∃ k : Nat, i = .int .i64 k ∧ k ≤ s.size ∧ Fact (spE (stp [47]) s.data.toList k = E)) (fun i => s.size - (intOf i).toNat)
  case atStart => exact ⟨k0, rfl, hk0, hE⟩
  case round =>
    clear hE hk0
    obtain ⟨k, rfl, hk, hr⟩ := hrel
    by_cases hlt : k < s.size
    · have h1 : (k : Int) < s.size := by omega
      have h2 : (0 : Int) ≤ k := by omega
      have q1 : decide ((k : Int) < s.size) = true := decide_eq_true h1
      obtain ⟨c, hc⟩ : ∃ c, bAt s.data.toList k = c := ⟨_, rfl⟩
      have hcc : s[k] = c := by rw [← byte_at s k hlt]; exact hc
      have hll : k < s.data.toList.length := by rw [← Lib.size_eq]; exact hlt
      obtain ⟨b, hb⟩ : ∃ b, Fact (stp (⟨#[47]⟩ : ByteArray).data.toList c = b) := ⟨_, ⟨rfl⟩⟩
      have hpc : (stp [47]) (bAt s.data.toList k) = b := by
        rw [hc]
        have := hb.out
        simp only [this]
      cases b
      · have e := spE_stop (p := (stp [47])) hll hpc
        rw [hr.out] at e
        subst e
        clear hr hpc hc hll
        go_wp2_with (go_at_call 56; refine (stops_any c ⟨#[47]⟩ _ hb _).mono ?_; rintro e w1 ⟨rfl, rfl⟩)
        go_ret
        exact ⟨rfl, rfl⟩
      · have e := spE_go (p := (stp [47])) hll hpc
        have hw1 : wrap64 ((k : Int) + 1) = ((k + 1 : Nat) : Int) := wrap_ok rfl ⟨by have := hs.le; omega⟩
        have hr2 : Fact (spE (stp [47]) s.data.toList (k + 1) = E) := ⟨e.trans hr.out⟩
        clear hr hpc e hc hll
        go_wp2_with (go_at_call 56; refine (stops_any c ⟨#[47]⟩ _ hb _).mono ?_; rintro e w1 ⟨rfl, rfl⟩)
        go_round
        case rel => exact ⟨k + 1, int_eq hw1, Nat.succ_le_of_lt hlt, hr2⟩
        case measure => (try rw [hw1]); exact meas_up hlt
    · have e := spE_end (p := (stp [47])) (l := s.data.toList) (k := k) (by rw [← Lib.size_eq]; omega)
      rw [hr.out] at e
      subst e
      have h1 : (s.size : Int) ≤ E := by omega
      have q1 : decide ((E : Int) < s.size) = false := decide_eq_false (by omega)
      clear hr
      go_wp2_with fail
      go_ret
      exact ⟨rfl, rfl⟩

set_option maxRecDepth 20000 in
set_option maxHeartbeats 1000000 in
theorem blanksEnd_any (s : ByteArray) (k0 E : Nat) (hs : IsSm s.size) (hk0 : k0 ≤ s.size) (hE : Fact (spE blk s.data.toList k0 = E)) (w : World) : Calls Tryd.prog 76 #[.string s, .int .i64 k0] w fun e w' => e = .returned (.int .i64 E) ∧ w' = w := by
  go_enter Tryd.func76, Tryd.ntmps76
  go_wp2_with fail
  go_loop [1] (fun i => ∃ k : Nat, i = .int .i64 k ∧ k ≤ s.size ∧ Fact (spE blk s.data.toList k = E)) (fun i => s.size - (intOf i).toNat)
  case atStart => exact ⟨k0, rfl, hk0, hE⟩
  case round =>
    clear hE hk0
    obtain ⟨k, rfl, hk, hr⟩ := hrel
    by_cases hlt : k < s.size
    · have h1 : (k : Int) < s.size := by omega
      have h2 : (0 : Int) ≤ k := by omega
      have q1 : decide ((k : Int) < s.size) = true := decide_eq_true h1
      obtain ⟨c, hc⟩ : ∃ c, bAt s.data.toList k = c := ⟨_, rfl⟩
      have hcc : s[k] = c := by rw [← byte_at s k hlt]; exact hc
      have hll : k < s.data.toList.length := by rw [← Lib.size_eq]; exact hlt
      obtain ⟨b, hb⟩ : ∃ b, Fact (blk c = b) := ⟨_, ⟨rfl⟩⟩
      have hpc : blk (bAt s.data.toList k) = b := by
        rw [hc]
        have := hb.out
        simp only [this]
      cases b
      · have e := spE_stop (p := blk) hll hpc
        rw [hr.out] at e
        subst e
        clear hr hpc hc hll
        go_wp2_with (go_at_call 63; refine (blank_any c _ hb _).mono ?_; rintro e w1 ⟨rfl, rfl⟩)
        go_ret
        exact ⟨rfl, rfl⟩
      · have e := spE_go (p := blk) hll hpc
        have hw1 : wrap64 ((k : Int) + 1) = ((k + 1 : Nat) : Int) := wrap_ok rfl ⟨by have := hs.le; omega⟩
        have hr2 : Fact (spE blk s.data.toList (k + 1) = E) := ⟨e.trans hr.out⟩
        clear hr hpc e hc hll
        go_wp2_with (go_at_call 63; refine (blank_any c _ hb _).mono ?_; rintro e w1 ⟨rfl, rfl⟩)
        go_round
        case rel => exact ⟨k + 1, int_eq hw1, Nat.succ_le_of_lt hlt, hr2⟩
        case measure => (try rw [hw1]); exact meas_up hlt
    · have e := spE_end (p := blk) (l := s.data.toList) (k := k) (by rw [← Lib.size_eq]; omega)
      rw [hr.out] at e
      subst e
      have h1 : (s.size : Int) ≤ E := by omega
      have q1 : decide ((E : Int) < s.size) = false := decide_eq_false (by omega)
      clear hr
      go_wp2_with fail
      go_ret
      exact ⟨rfl, rfl⟩
theorem wordEnd_at (s : ByteArray) (a : Int) (k0 E : Nat) (sg : ByteArray) (ha : a = k0) (hs : IsSm s.size) (hk0 : k0 ≤ s.size) (hE : Fact (spE (fun c => !stp sg.data.toList c) s.data.toList k0 = E)) (w : World) : Calls Tryd.prog 69 #[.string s, .int .i64 a, .string sg] w fun e w' => e = .returned (.int .i64 E) ∧ w' = w := by
  subst ha
  exact wordEnd_any s k0 E sg hs hk0 hE w
theorem betweenEnd_at (s : ByteArray) (a : Int) (k0 E : Nat) (ha : a = k0) (hs : IsSm s.size) (hk0 : k0 ≤ s.size) (hE : Fact (spE (stp [47]) s.data.toList k0 = E)) (w : World) : Calls Tryd.prog 71 #[.string s, .int .i64 a] w fun e w' => e = .returned (.int .i64 E) ∧ w' = w := by
  subst ha
  exact betweenEnd_any s k0 E hs hk0 hE w
theorem blanksEnd_at (s : ByteArray) (a : Int) (k0 E : Nat) (ha : a = k0) (hs : IsSm s.size) (hk0 : k0 ≤ s.size) (hE : Fact (spE blk s.data.toList k0 = E)) (w : World) : Calls Tryd.prog 76 #[.string s, .int .i64 a] w fun e w' => e = .returned (.int .i64 E) ∧ w' = w := by
  subst ha
  exact blanksEnd_any s k0 E hs hk0 hE w
end Go.Proofs.YtdniddiaiinggaaDoor
