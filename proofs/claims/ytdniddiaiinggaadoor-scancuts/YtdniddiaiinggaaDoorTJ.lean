/- commentText: what it answers. -/
import Derived.Test.YtdniddiaiinggaaDoorTI
import Derived.Test.YtdniddiaiinggaaDoorTE
set_option linter.unusedVariables false
namespace Go.Proofs.YtdniddiaiinggaaDoor
open Go.RowKit M

/-- how long the end of a comment is that begins there -/
def cmE (t : List UInt8) : Nat := if [45, 45, 62].isPrefixOf t = true then 3 else if [45, 45, 33, 62].isPrefixOf t = true then 4 else 0
theorem cmE_no {t : List UInt8} (h : bAt t 0 ≠ 45) : cmE t = 0 := by
  cases t with
  | nil => rfl
  | cons c r =>
    have h2 : (45 == c) = false := by
      rw [beq_eq_false_iff_ne]
      exact fun e => h e.symm
    unfold cmE
    simp [List.isPrefixOf, h2]
theorem pre_len {p t : List UInt8} (h : p.isPrefixOf t = true) : p.length ≤ t.length := (List.isPrefixOf_iff_prefix.1 h).length_le
theorem cmE_le (t : List UInt8) : cmE t ≤ t.length := by
  unfold cmE
  split
  · rename_i h
    exact pre_len h
  · split
    · rename_i h
      exact pre_len h
    · exact Nat.zero_le _
/-- a comment that begins at a place: its text, and the place behind it -/
structure CmT (l : List UInt8) (k : Nat) (T : List UInt8) (E : Nat) : Prop where
  is : ([62].isPrefixOf (l.drop k) = true ∧ T = [] ∧ E = k + 1) ∨ ([62].isPrefixOf (l.drop k) = false ∧ [45, 62].isPrefixOf (l.drop k) = true ∧ T = [] ∧ E = k + 2) ∨
    ([62].isPrefixOf (l.drop k) = false ∧ [45, 62].isPrefixOf (l.drop k) = false ∧ ∃ i, IsFirst (fun j => decide (cmE (l.drop j) ≠ 0)) l.length k i ∧
      ((i < l.length ∧ T = sub l k i ∧ E = i + cmE (l.drop i)) ∨ (i = l.length ∧ T = wce (l.drop k) ∧ E = l.length)))
theorem CmT.le {l : List UInt8} {k : Nat} {T : List UInt8} {E : Nat} (h : CmT l k T E) (hk : k ≤ l.length) : k ≤ E ∧ E ≤ l.length := by
  rcases h.is with ⟨h1, _, rfl⟩ | ⟨_, h1, _, rfl⟩ | ⟨_, _, i, hi, ⟨h1, _, rfl⟩ | ⟨_, _, rfl⟩⟩
  · have := pre_len h1
    rw [List.length_drop] at this
    simp at this
    omega
  · have := pre_len h1
    rw [List.length_drop] at this
    simp at this
    omega
  · have := cmE_le (l.drop i)
    rw [List.length_drop] at this
    have := hi.ge
    omega
  · omega
theorem ret_pair {T : ByteArray} {a b : Int} (h : a = b) : Ending.returned (.tuple #[.string T, .int .i64 a]) = .returned (.tuple #[.string T, .int .i64 b]) := by rw [h]
set_option maxRecDepth 20000 in
set_option maxHeartbeats 4000000 in
theorem commentText_any (s : ByteArray) (k0 : Nat) (hs : IsSm s.size) (hk : k0 ≤ s.size) (w : World) :
    Calls Tryd.prog 75 #[.string s, .int .i64 k0] w fun e w' => ∃ (T : ByteArray) (E : Nat), e = .returned (.tuple #[.string T, .int .i64 E]) ∧ CmT s.data.toList k0 T.data.toList E ∧ Below w.heap.size w w' := by
  have hsz := hs.le
  have h0 : (0 : Int) ≤ k0 := by omega
  have h1 : (k0 : Int) ≤ s.size := by omega
  obtain ⟨R0, hR0⟩ : ∃ R0 : ByteArray, s.extract k0 s.size = R0 := ⟨_, rfl⟩
  have hRd : Fact (R0.data.toList = s.data.toList.drop k0) := ⟨by rw [← hR0]; exact drop_data s k0⟩
  have hRm : IsSm R0.size := by rw [← hR0]; exact sub_sm s _ _ hs
  obtain ⟨b1, hb1⟩ : ∃ b, Fact ((⟨#[62]⟩ : ByteArray).data.toList.isPrefixOf R0.data.toList = b) := ⟨_, ⟨rfl⟩⟩
  obtain ⟨b2, hb2⟩ : ∃ b, Fact ((⟨#[45, 62]⟩ : ByteArray).data.toList.isPrefixOf R0.data.toList = b) := ⟨_, ⟨rfl⟩⟩
  have G1 : Fact ([62].isPrefixOf (s.data.toList.drop k0) = b1) := ⟨by rw [← hRd.out]; exact hb1.out⟩
  have G2 : Fact ([45, 62].isPrefixOf (s.data.toList.drop k0) = b2) := ⟨by rw [← hRd.out]; exact hb2.out⟩
  have tok1 : True := trivial
  have tok2 : True := trivial
  have hw1 : wrap64 ((k0 : Int) + 1) = (k0 : Int) + 1 := wrap_ok (m := k0 + 1) rfl ⟨by omega⟩
  have hw2 : wrap64 ((k0 : Int) + 2) = (k0 : Int) + 2 := wrap_ok (m := k0 + 2) rfl ⟨by omega⟩
  cases b1
  · cases b2
    · go_enter Tryd.func75, Tryd.ntmps75
      go_wp2_with fail
      refine wp_loop_rounds 3 ?_
      repeat (rw [rounds_succ]; go_wp2_with (first
        | (have _t := tok1; go_at_call 59; refine (prefix_any R0 ⟨#[62]⟩ _ hb1 _).mono ?_; rintro e w1 ⟨rfl, rfl⟩; clear tok1 _t)
        | (have _t := tok2; go_at_call 59; refine (prefix_any R0 ⟨#[45, 62]⟩ _ hb2 _).mono ?_; rintro e w1 ⟨rfl, rfl⟩; clear tok2 _t)))
      have hB0 := Fact.mk (bl1 w (.cells #[.string ⟨#[62]⟩, .string ⟨#[45, 62]⟩] 9))
      go_loopw [8] (fun i wx => ∃ k : Nat, i = .int .i64 k ∧ k ≤ s.size + 1 ∧ Below w.heap.size w wx ∧ Fact (k0 ≤ k ∧ ∀ j, k0 ≤ j → j < k → j < s.size → cmE (s.data.toList.drop j) = 0)) (fun i _ => s.size + 1 - (intOf i).toNat)
      case atStart => exact ⟨k0, rfl, Nat.le_succ_of_le hk, hB0.out, ⟨Nat.le_refl _, fun j h1 h2 _ => by omega⟩⟩
      case round =>
        obtain ⟨k, rfl, hkk, hbr, hr⟩ := hrel
        by_cases hlt : k < s.size
        · have g1 : (k : Int) < s.size := by omega
          have q1 : decide ((k : Int) < s.size) = true := decide_eq_true g1
          have q1n : decide (k < s.size) = true := decide_eq_true hlt
          obtain ⟨K2, hK2⟩ : ∃ K2, Fact (spE (fun x => x != (45 : UInt8)) s.data.toList k = K2) := ⟨_, ⟨rfl⟩⟩
          have hge : k ≤ K2 := by rw [← hK2.out]; exact spE_ge _ _ _
          have hle : K2 ≤ s.size := by rw [← hK2.out, Lib.size_eq]; exact spE_le _ (by rw [← Lib.size_eq]; omega)
          have hno : Fact (∀ j, k0 ≤ j → j < K2 → j < s.size → cmE (s.data.toList.drop j) = 0) := ⟨fun j a b c => by
            by_cases hj : j < k
            · exact hr.out.2 j a hj c
            · apply cmE_no
              rw [bAt_drop]
              exact sp_between (k := k) (j - k) j rfl (by omega) (by rw [hK2.out]; exact b)⟩
          have hk0K : k0 ≤ K2 := by have := hr.out.1; omega
          obtain ⟨R, hR⟩ : ∃ R : ByteArray, s.extract K2 s.size = R := ⟨_, rfl⟩
          have hRd2 : Fact (R.data.toList = s.data.toList.drop K2) := ⟨by rw [← hR]; exact drop_data s K2⟩
          have a0 : (0 : Int) ≤ K2 := by omega
          have a1 : (K2 : Int) ≤ s.size := by omega
          have a2 : (k0 : Int) ≤ K2 := by omega
          have hw3 : wrap64 ((K2 : Int) + 1) = ((K2 + 1 : Nat) : Int) := wrap_ok rfl ⟨by omega⟩
          have hw4 : wrap64 ((K2 : Int) + 3) = ((K2 + 3 : Nat) : Int) := wrap_ok rfl ⟨by omega⟩
          have hw5 : wrap64 ((K2 : Int) + 4) = ((K2 + 4 : Nat) : Int) := wrap_ok rfl ⟨by omega⟩
          obtain ⟨c1, hc1⟩ : ∃ b, Fact ((⟨#[45, 45, 62]⟩ : ByteArray).data.toList.isPrefixOf R.data.toList = b) := ⟨_, ⟨rfl⟩⟩
          obtain ⟨c2, hc2⟩ : ∃ b, Fact ((⟨#[45, 45, 33, 62]⟩ : ByteArray).data.toList.isPrefixOf R.data.toList = b) := ⟨_, ⟨rfl⟩⟩
          have hcm : Fact (cmE (s.data.toList.drop K2) = if c1 = true then 3 else if c2 = true then 4 else 0) := ⟨by
            rw [← hRd2.out, ← hc1.out, ← hc2.out]
            rfl⟩
          obtain ⟨S2, hS2⟩ : ∃ S2 : ByteArray, s.extract k0 K2 = S2 := ⟨_, rfl⟩
          have HS2 : Fact (S2.data.toList = sub s.data.toList k0 K2) := ⟨by rw [← hS2]; exact sub_data s _ _ hk0K⟩
          have hcl := cmE_le (s.data.toList.drop K2)
          rw [List.length_drop, ← Lib.size_eq] at hcl
          have HCL := Fact.mk hcl
          have tok3 : True := trivial
          clear hr hcl
          cases c1
          · cases c2
            · have hE : Fact (∀ j, k0 ≤ j → j < K2 + 1 → j < s.size → cmE (s.data.toList.drop j) = 0) := ⟨fun j a b c => by
                by_cases hj : j < K2
                · exact hno.out j a hj c
                · have e : j = K2 := by omega
                  rw [e, hcm.out]
                  rfl⟩
              clear hno hcm HCL
              go_wp2_with (first | (go_at_call 54; refine (upTo_at s _ _ k K2 45 rfl rfl hs (Nat.le_of_lt hlt) hK2 _).mono ?_; rintro e w2 ⟨rfl, rfl⟩))
              refine wp_loop_rounds 3 ?_
              repeat (rw [rounds_succ]; go_wp2_with (first
                | (have _t := tok3; go_at_call 59; refine (prefix_any R ⟨#[45, 45, 62]⟩ _ hc1 _).mono ?_; rintro e w1 ⟨rfl, rfl⟩; clear tok3 _t)
                | (go_at_call 59; refine (prefix_any R ⟨#[45, 45, 33, 62]⟩ _ hc2 _).mono ?_; rintro e w1 ⟨rfl, rfl⟩)))
              go_roundw
              case rel => exact ⟨K2 + 1, by (first | exact int_eq rfl | exact int_eq hw3), Nat.succ_le_succ hle, hbr.alloc hbr.size _, ⟨⟨Nat.le_succ_of_le hk0K, hE.out⟩⟩⟩
              case measure => (try rw [hw3]); simp only [intOf, Int.toNat_natCast]; omega
            · have hcv : cmE (s.data.toList.drop K2) = 4 := hcm.out
              have HC : Fact (CmT s.data.toList k0 S2.data.toList (K2 + 4)) := ⟨⟨Or.inr (Or.inr ⟨G1.out, G2.out, K2, ⟨hk0K, by rw [← Lib.size_eq]; exact hle, fun j a b => by rw [hno.out j a b (by omega)]; rfl, fun _ => by rw [hcv]; rfl⟩, Or.inl ⟨by have := HCL.out; rw [← Lib.size_eq]; omega, HS2.out, by rw [hcv]⟩⟩)⟩⟩
              clear hno hcm HCL hcv
              go_wp2_with (first | (go_at_call 54; refine (upTo_at s _ _ k K2 45 rfl rfl hs (Nat.le_of_lt hlt) hK2 _).mono ?_; rintro e w2 ⟨rfl, rfl⟩))
              refine wp_loop_rounds 3 ?_
              repeat (rw [rounds_succ]; go_wp2_with (first
                | (have _t := tok3; go_at_call 59; refine (prefix_any R ⟨#[45, 45, 62]⟩ _ hc1 _).mono ?_; rintro e w1 ⟨rfl, rfl⟩; clear tok3 _t)
                | (go_at_call 59; refine (prefix_any R ⟨#[45, 45, 33, 62]⟩ _ hc2 _).mono ?_; rintro e w1 ⟨rfl, rfl⟩)))
              go_ret2
              exact ⟨S2, K2 + 4, by (first | rfl | exact ret_pair hw5), HC.out, hbr.alloc hbr.size _⟩
          · have hcv : cmE (s.data.toList.drop K2) = 3 := hcm.out
            have HC : Fact (CmT s.data.toList k0 S2.data.toList (K2 + 3)) := ⟨⟨Or.inr (Or.inr ⟨G1.out, G2.out, K2, ⟨hk0K, by rw [← Lib.size_eq]; exact hle, fun j a b => by rw [hno.out j a b (by omega)]; rfl, fun _ => by rw [hcv]; rfl⟩, Or.inl ⟨by have := HCL.out; rw [← Lib.size_eq]; omega, HS2.out, by rw [hcv]⟩⟩)⟩⟩
            clear hno hcm HCL hcv
            go_wp2_with (first | (go_at_call 54; refine (upTo_at s _ _ k K2 45 rfl rfl hs (Nat.le_of_lt hlt) hK2 _).mono ?_; rintro e w2 ⟨rfl, rfl⟩))
            refine wp_loop_rounds 3 ?_
            repeat (rw [rounds_succ]; go_wp2_with (first
              | (go_at_call 59; refine (prefix_any R ⟨#[45, 45, 62]⟩ _ hc1 _).mono ?_; rintro e w1 ⟨rfl, rfl⟩)))
            go_ret2
            exact ⟨S2, K2 + 3, by (first | rfl | exact ret_pair hw4), HC.out, hbr.alloc hbr.size _⟩
        · have g1 : (s.size : Int) ≤ k := by omega
          have q1 : decide ((k : Int) < s.size) = false := decide_eq_false (by omega)
          have q1n : decide (k < s.size) = false := decide_eq_false hlt
          obtain ⟨T, hT⟩ : ∃ T : ByteArray, Fact (wce R0.data.toList = T.data.toList) := ⟨⟨(wce R0.data.toList).toArray⟩, ⟨rfl⟩⟩
          have HC : Fact (CmT s.data.toList k0 T.data.toList s.size) := ⟨⟨Or.inr (Or.inr ⟨G1.out, G2.out, s.size, ⟨hk, by rw [← Lib.size_eq]; exact Nat.le_refl _, fun j a b => by rw [hr.out.2 j a (by omega) b]; rfl, fun h => by rw [← Lib.size_eq] at h; omega⟩, Or.inr ⟨Lib.size_eq s, by rw [← hT.out, hRd.out], Lib.size_eq s⟩⟩)⟩⟩
          clear hr
          go_wp2_with (first | (go_at_call 85; refine (wce_any R0 T hRm hT _).mono ?_; rintro e w5 ⟨rfl, hb5⟩))
          go_ret2
          exact ⟨T, s.size, rfl, HC.out, hbr.trans (hb5.mono hbr.size)⟩
    · go_enter Tryd.func75, Tryd.ntmps75
      go_wp2_with fail
      refine wp_loop_rounds 3 ?_
      repeat (rw [rounds_succ]; go_wp2_with (first
        | (have _t := tok1; go_at_call 59; refine (prefix_any R0 ⟨#[62]⟩ _ hb1 _).mono ?_; rintro e w1 ⟨rfl, rfl⟩; clear tok1 _t)
        | (have _t := tok2; go_at_call 59; refine (prefix_any R0 ⟨#[45, 62]⟩ _ hb2 _).mono ?_; rintro e w1 ⟨rfl, rfl⟩; clear tok2 _t)))
      go_ret2
      exact ⟨⟨#[]⟩, k0 + 2, rfl, ⟨Or.inr (Or.inl ⟨G1.out, G2.out, rfl, rfl⟩)⟩, bl1 _ _⟩
  · go_enter Tryd.func75, Tryd.ntmps75
    go_wp2_with fail
    refine wp_loop_rounds 3 ?_
    repeat (rw [rounds_succ]; go_wp2_with (first
      | (have _t := tok1; go_at_call 59; refine (prefix_any R0 ⟨#[62]⟩ _ hb1 _).mono ?_; rintro e w1 ⟨rfl, rfl⟩; clear tok1 _t)))
    go_ret2
    exact ⟨⟨#[]⟩, k0 + 1, rfl, ⟨Or.inl ⟨G1.out, rfl, rfl⟩⟩, bl1 _ _⟩
end Go.Proofs.YtdniddiaiinggaaDoor
