/- Raw, rawText, rawEnd: what they answer. -/
import Derived.Test.YtdniddiaiinggaaDoorTC
set_option linter.unusedVariables false
namespace Go.Proofs.YtdniddiaiinggaaDoor
open Go.RowKit M

/-- how an element's text is read -/
def rawN (l : List UInt8) : Nat := if (l == [116, 105, 116, 108, 101]) = true ∨ (l == [116, 101, 120, 116, 97, 114, 101, 97]) = true then 1 else if (l == [115, 116, 121, 108, 101]) = true ∨ (l == [115, 99, 114, 105, 112, 116]) = true ∨ (l == [120, 109, 112]) = true ∨ (l == [105, 102, 114, 97, 109, 101]) = true ∨ (l == [110, 111, 101, 109, 98, 101, 100]) = true ∨ (l == [110, 111, 102, 114, 97, 109, 101, 115]) = true then 2 else 0
set_option maxRecDepth 20000 in
set_option maxHeartbeats 2000000 in
theorem raw_any (s : ByteArray) (n : Nat) (hn : Fact (rawN s.data.toList = n)) (w : World) : Calls Tryd.prog 46 #[.string s] w fun e w' => e = .returned (.int .i64 n) ∧ w' = w := by
  obtain ⟨hn⟩ := hn
  unfold rawN at hn
  rw [← Lib.toList_data] at hn
  obtain ⟨x0, h0⟩ : ∃ x, (s.toList == [116, 105, 116, 108, 101]) = x := ⟨_, rfl⟩
  obtain ⟨x1, h1⟩ : ∃ x, (s.toList == [116, 101, 120, 116, 97, 114, 101, 97]) = x := ⟨_, rfl⟩
  obtain ⟨x2, h2⟩ : ∃ x, (s.toList == [115, 116, 121, 108, 101]) = x := ⟨_, rfl⟩
  obtain ⟨x3, h3⟩ : ∃ x, (s.toList == [115, 99, 114, 105, 112, 116]) = x := ⟨_, rfl⟩
  obtain ⟨x4, h4⟩ : ∃ x, (s.toList == [120, 109, 112]) = x := ⟨_, rfl⟩
  obtain ⟨x5, h5⟩ : ∃ x, (s.toList == [105, 102, 114, 97, 109, 101]) = x := ⟨_, rfl⟩
  obtain ⟨x6, h6⟩ : ∃ x, (s.toList == [110, 111, 101, 109, 98, 101, 100]) = x := ⟨_, rfl⟩
  obtain ⟨x7, h7⟩ : ∃ x, (s.toList == [110, 111, 102, 114, 97, 109, 101, 115]) = x := ⟨_, rfl⟩
  rw [h0, h1, h2, h3, h4, h5, h6, h7] at hn
  cases x0
  · cases x1
    · cases x2
      · cases x3
        · cases x4
          · cases x5
            · cases x6
              · cases x7
                · all_goals (simp at hn; subst hn)
                  go_enter Tryd.func46, Tryd.ntmps46
                  go_wp2_with fail
                  go_ret
                  exact ⟨rfl, rfl⟩
                · all_goals (simp at hn; subst hn)
                  go_enter Tryd.func46, Tryd.ntmps46
                  go_wp2_with fail
                  go_ret
                  exact ⟨rfl, rfl⟩
              · all_goals (simp at hn; subst hn)
                go_enter Tryd.func46, Tryd.ntmps46
                go_wp2_with fail
                go_ret
                exact ⟨rfl, rfl⟩
            · all_goals (simp at hn; subst hn)
              go_enter Tryd.func46, Tryd.ntmps46
              go_wp2_with fail
              go_ret
              exact ⟨rfl, rfl⟩
          · all_goals (simp at hn; subst hn)
            go_enter Tryd.func46, Tryd.ntmps46
            go_wp2_with fail
            go_ret
            exact ⟨rfl, rfl⟩
        · all_goals (simp at hn; subst hn)
          go_enter Tryd.func46, Tryd.ntmps46
          go_wp2_with fail
          go_ret
          exact ⟨rfl, rfl⟩
      · all_goals (simp at hn; subst hn)
        go_enter Tryd.func46, Tryd.ntmps46
        go_wp2_with fail
        go_ret
        exact ⟨rfl, rfl⟩
    · all_goals (simp at hn; subst hn)
      go_enter Tryd.func46, Tryd.ntmps46
      go_wp2_with fail
      go_ret
      exact ⟨rfl, rfl⟩
  · all_goals (simp at hn; subst hn)
    go_enter Tryd.func46, Tryd.ntmps46
    go_wp2_with fail
    go_ret
    exact ⟨rfl, rfl⟩

/-- a token -/
abbrev tokV (kd : Int) (n x : ByteArray) (v : Value) (r : Bool) : Value := .agg #[.int .i64 kd, .string n, .string x, v, .bool r]
/-- what the text of a raw element is -/
def rawX (t nm : List UInt8) : List UInt8 := if rawN nm = 1 then decB false t else t
theorem rawX_len (t nm : List UInt8) : (rawX t nm).length ≤ 8 * t.length := by
  unfold rawX
  split
  · exact decB_len false _ t (Nat.le_refl _)
  · omega
theorem decode_at (s T : ByteArray) (attr : Bool) (hs : IsSm s.size) (hT : Fact (decB attr s.data.toList = T.data.toList)) (w : World) (hl : Laid w) :
    Calls Tryd.prog 45 #[.string s, .bool attr] w fun e w' => e = .returned (.string T) ∧ Below w.heap.size w w' := by
  have h := decode_any s attr hs w hl
  rw [hT.out] at h
  exact h
theorem from0 {P : Program} {f : FuncId} {args : Array Value} {w w0 : World} {r : Ending} (h : Calls P f args w fun e w' => e = r ∧ Below w.heap.size w w') (hb : Below w0.heap.size w0 w) : Calls P f args w fun e w' => e = r ∧ Below w0.heap.size w0 w' :=
  h.mono fun e w' ⟨a, b⟩ => ⟨a, hb.trans (b.mono hb.size)⟩
theorem Laid.since {w w' : World} (h : Laid w) (hb : Below w.heap.size w w') : Laid w' := h.below h.pos hb
theorem bl1 (w : World) (o : Obj) : Below w.heap.size w (w.alloc o) := (Below.refl _ w).alloc (Nat.le_refl _) _
/-- five cells of a block of one's own -/
structure Five (w : World) (b : Nat) (v0 v1 v2 v3 v4 : Value) : Prop where
  c0 : w.cell? ⟨b, 0, none⟩ = some v0
  c1 : w.cell? ⟨b, 1, none⟩ = some v1
  c2 : w.cell? ⟨b, 2, none⟩ = some v2
  c3 : w.cell? ⟨b, 3, none⟩ = some v3
  c4 : w.cell? ⟨b, 4, none⟩ = some v4
  fz : ∀ o, w.frozen? ⟨b, o, none⟩ = false
theorem Five.lt {w : World} {b : Nat} {v0 v1 v2 v3 v4 : Value} (h : Five w b v0 v1 v2 v3 v4) : b < w.heap.size := World.block_lt_of_cell? w _ h.c0
theorem Five.same {w w' : World} {b : Nat} {v0 v1 v2 v3 v4 : Value} (h : Five w b v0 v1 v2 v3 v4) (e : w'.heap[b]? = w.heap[b]?) : Five w' b v0 v1 v2 v3 v4 :=
  ⟨(World.cell?_of_block (w := w) (a := ⟨b, 0, none⟩) e).trans h.c0, (World.cell?_of_block (w := w) (a := ⟨b, 1, none⟩) e).trans h.c1, (World.cell?_of_block (w := w) (a := ⟨b, 2, none⟩) e).trans h.c2, (World.cell?_of_block (w := w) (a := ⟨b, 3, none⟩) e).trans h.c3, (World.cell?_of_block (w := w) (a := ⟨b, 4, none⟩) e).trans h.c4, fun o => (World.frozen?_of_block (w := w) (a := ⟨b, o, none⟩) e).trans (h.fz o)⟩
theorem Five.keep {w w' : World} {b : Nat} {v0 v1 v2 v3 v4 : Value} (h : Five w b v0 v1 v2 v3 v4) (hb : Below w.heap.size w w') : Five w' b v0 v1 v2 v3 v4 := h.same (hb.block _ h.lt)
theorem Five.new (w : World) (v0 v1 v2 v3 v4 : Value) (t : TypeId) : Five (w.alloc (.cells #[v0, v1, v2, v3, v4] t)) w.heap.size v0 v1 v2 v3 v4 :=
  ⟨World.cell?_alloc_new w _ _ 0, World.cell?_alloc_new w _ _ 1, World.cell?_alloc_new w _ _ 2, World.cell?_alloc_new w _ _ 3, World.cell?_alloc_new w _ _ 4, fun o => World.frozen?_alloc_new _ _ _ _⟩
theorem Five.put {w : World} {b : Nat} {u0 u1 u2 u3 u4 : Value} (h : Five w b u0 u1 u2 u3 u4) (v0 v1 v2 v3 v4 : Value) : Five (((((w.setCell ⟨b, 0, none⟩ v0).setCell ⟨b, 1, none⟩ v1).setCell ⟨b, 2, none⟩ v2).setCell ⟨b, 3, none⟩ v3).setCell ⟨b, 4, none⟩ v4) b v0 v1 v2 v3 v4 := by
  have g1 : ∀ (W : World) (o p : Nat) (v : Value), o ≠ p → (W.setCell ⟨b, p, none⟩ v).cell? ⟨b, o, none⟩ = W.cell? ⟨b, o, none⟩ := fun W o p v hop => World.cell?_setCell_other _ _ _ _ (by intro e; cases e; exact hop rfl)
  have g2 : ∀ (W : World) (o : Nat) (v : Value), (W.cell? ⟨b, o, none⟩).isSome = true → (W.setCell ⟨b, o, none⟩ v).cell? ⟨b, o, none⟩ = some v := fun W o v hs => World.cell?_setCell_same' _ _ _ hs
  refine ⟨?_, ?_, ?_, ?_, ?_, fun o => by simp only [World.frozen?_setCell]; exact h.fz o⟩
  · rw [g1 _ 0 4 _ (by omega), g1 _ 0 3 _ (by omega), g1 _ 0 2 _ (by omega), g1 _ 0 1 _ (by omega)]; exact g2 _ _ _ (by rw [h.c0]; rfl)
  · rw [g1 _ 1 4 _ (by omega), g1 _ 1 3 _ (by omega), g1 _ 1 2 _ (by omega)]; exact g2 _ _ _ (by rw [g1 _ 1 0 _ (by omega), h.c1]; rfl)
  · rw [g1 _ 2 4 _ (by omega), g1 _ 2 3 _ (by omega)]; exact g2 _ _ _ (by rw [g1 _ 2 1 _ (by omega), g1 _ 2 0 _ (by omega), h.c2]; rfl)
  · rw [g1 _ 3 4 _ (by omega)]; exact g2 _ _ _ (by rw [g1 _ 3 2 _ (by omega), g1 _ 3 1 _ (by omega), g1 _ 3 0 _ (by omega), h.c3]; rfl)
  · exact g2 _ _ _ (by rw [g1 _ 4 3 _ (by omega), g1 _ 4 2 _ (by omega), g1 _ 4 1 _ (by omega), g1 _ 4 0 _ (by omega), h.c4]; rfl)
theorem five_set {w w2 : World} {b : Nat} (hb : Below w.heap.size w w2) (hB : w.heap.size ≤ b) (v0 v1 v2 v3 v4 : Value) : Below w.heap.size w (((((w2.setCell ⟨b, 0, none⟩ v0).setCell ⟨b, 1, none⟩ v1).setCell ⟨b, 2, none⟩ v2).setCell ⟨b, 3, none⟩ v3).setCell ⟨b, 4, none⟩ v4) :=
  ((((hb.setCell hB _).setCell hB _).setCell hB _).setCell hB _).setCell hB _
set_option maxRecDepth 20000 in
set_option maxHeartbeats 1000000 in
theorem rawText_any (s nm T : ByteArray) (hs : IsSm s.size) (hT : Fact (rawX s.data.toList nm.data.toList = T.data.toList)) (w : World) (hl : Laid w) :
    Calls Tryd.prog 42 #[.string s, .string nm] w fun e w' => e = .returned (tokV 3 ⟨#[]⟩ T (.slice none 0 0) true) ∧ Below w.heap.size w w' := by
  obtain ⟨n, hn⟩ : ∃ n, Fact (rawN nm.data.toList = n) := ⟨_, ⟨rfl⟩⟩
  have HL := Fact.mk hl
  clear hl
  obtain ⟨hT⟩ := hT
  unfold rawX at hT
  rw [hn.out] at hT
  by_cases h : n = 1
  · subst h
    rw [if_pos rfl] at hT
    have HT := Fact.mk hT
    clear hT
    go_enter Tryd.func42, Tryd.ntmps42
    go_wp2_with (first
      | (go_at_call 46; refine (raw_any nm _ hn _).mono ?_; rintro e w1 ⟨rfl, rfl⟩)
      | (go_at_call 45; refine (decode_at s T false hs HT _ (HL.out.since (bl1 w _))).mono ?_; rintro e w2 ⟨rfl, hb2⟩; have F5 := Fact.mk ((Five.new w _ _ _ _ _ _).keep hb2); obtain ⟨c0, c1, c2, c3, c4, fz⟩ := F5.out; have hbb := (bl1 w _).trans (hb2.mono (bl1 w _).size)))
    obtain ⟨t0, t1, t2, t3, t4, tf⟩ := F5.out.put (.int .i64 3) (.string ⟨#[]⟩) (.string T) (.slice none 0 0) (.bool true)
    refine bodyPost_ret (v := tokV 3 ⟨#[]⟩ T (.slice none 0 0) true) (by simp [results, Tryd.f42, go_sem, t0, t1, t2, t3, t4]) rfl ?_
    exact ⟨rfl, five_set hbb (Nat.le_refl _) _ _ _ _ _⟩
  · rw [if_neg h] at hT
    have e : s = T := by
      apply ByteArray.ext
      apply Array.toList_inj.1
      exact hT
    subst e
    have q : ((n : Int) == 1) = false := by rw [beq_eq_false_iff_ne]; omega
    clear hT
    go_enter Tryd.func42, Tryd.ntmps42
    go_wp2_with (go_at_call 46; refine (raw_any nm _ hn _).mono ?_; rintro e w1 ⟨rfl, rfl⟩)
    refine bodyPost_ret (v := tokV 3 ⟨#[]⟩ s (.slice none 0 0) true) (by simp [results, Tryd.f42, go_sem]) rfl ?_
    exact ⟨rfl, bl1 w _⟩

/-- the first place from one on, below n -/
structure IsFirst (p : Nat → Bool) (n k E : Nat) : Prop where
  ge : k ≤ E
  le : E ≤ n
  no : ∀ j, k ≤ j → j < E → p j = false
  at_ : E < n → p E = true
/-- the end of a raw element begins there -/
def endT (L t : List UInt8) : Bool := ((60 :: 47 :: L).isPrefixOf (lwL t) && decide (L.length + 2 < t.length)) && stp [47, 62] (bAt t (L.length + 2))
theorem end_no {L t : List UInt8} (h : bAt t 0 ≠ 60) : endT L t = false := by
  unfold endT
  have : (60 :: 47 :: L).isPrefixOf (lwL t) = false := by
    cases t with
    | nil => rfl
    | cons c r =>
      have h2 : (60 == lw c) = false := by
        rw [beq_eq_false_iff_ne]
        intro e
        apply h
        show c = 60
        unfold lw at e
        split at e
        · rename_i h3
          exfalso
          have e2 := congrArg UInt8.toNat e
          rw [UInt8.toNat_add] at e2
          have : (60 : UInt8).toNat = 60 := rfl
          have : (32 : UInt8).toNat = 32 := rfl
          omega
        · exact e.symm
      show (60 == lw c && _) = false
      rw [h2, Bool.false_and]
  rw [this, Bool.false_and, Bool.false_and]
theorem end_nil (L : List UInt8) : endT L [] = false := rfl
theorem sp_between {c : UInt8} {l : List UInt8} {k : Nat} : ∀ (d j : Nat), d = j - k → k ≤ j → j < spE (fun x => x != c) l k → bAt l j ≠ c
  | 0, j, hd, hk, hj => by
    have e : j = k := by omega
    subst e
    intro h
    by_cases hl : j < l.length
    · rw [spE_stop hl (by simp [h])] at hj
      omega
    · rw [spE_end (by omega)] at hj
      omega
  | d + 1, j, hd, hk, hj => by
    by_cases hl : k < l.length
    · by_cases hc : bAt l k = c
      · rw [spE_stop hl (by simp [hc])] at hj
        omega
      · have e := spE_go (p := fun x => x != c) hl (by simpa using hc)
        rw [← e] at hj
        exact sp_between d j (by omega) (by omega) hj
    · rw [spE_end (by omega)] at hj
      omega
set_option maxRecDepth 20000 in
set_option maxHeartbeats 2000000 in
theorem rawEnd_any (s nm T M : ByteArray) (k0 : Nat) (hs : IsSm s.size) (hn : IsSm nm.size) (hk0 : k0 ≤ s.size) (hT : Fact (lwL nm.data.toList = T.data.toList)) (hM : (⟨#[60, 47]⟩ : ByteArray) ++ T = M) (w : World) :
    Calls Tryd.prog 41 #[.string s, .int .i64 k0, .string nm] w fun e w' => ∃ E : Nat, e = .returned (.int .i64 E) ∧ IsFirst (fun k => endT T.data.toList (s.data.toList.drop k)) s.size k0 E ∧ Below w.heap.size w w' := by
  have hsz := hs.le
  have hnz := hn.le
  have hTs : T.size = nm.size := by rw [Lib.size_eq, ← hT.out, lwL_len, ← Lib.size_eq]
  have hMd : M.data.toList = 60 :: 47 :: T.data.toList := by rw [← hM]; simp
  have hMs : M.size = T.size + 2 := by rw [Lib.size_eq, hMd, Lib.size_eq]; simp
  have hMz : M.size ≤ 100000002 := by omega
  have hTz : T.size ≤ 100000000 := by omega
  have HMd := Fact.mk hMd
  have HMs := Fact.mk hMs
  have HTs := Fact.mk hTs
  clear hMd hMs hTs
  go_enter Tryd.func41, Tryd.ntmps41
  go_wp2_with (go_at_call 53; refine (lower_any nm T hT hn _).mono ?_; rintro e w1 ⟨rfl, hb1⟩)
  have HB1 := Fact.mk hb1
  clear hb1
  go_loopw [1] (fun i wx => ∃ k : Nat, i = .int .i64 k ∧ k ≤ s.size + 1 ∧ Below w.heap.size w wx ∧ Fact (k0 ≤ k ∧ ∀ j, k0 ≤ j → j < k → j < s.size → endT T.data.toList (s.data.toList.drop j) = false)) (fun i _ => s.size + 1 - (intOf i).toNat)
  case atStart => exact ⟨k0, rfl, Nat.le_succ_of_le hk0, HB1.out, ⟨Nat.le_refl _, fun j h1 h2 _ => by omega⟩⟩
  case round =>
    obtain ⟨k, rfl, hk, hbr, hr⟩ := hrel
    by_cases hlt : k < s.size
    · have h1 : (k : Int) < s.size := by omega
      have q1 : decide ((k : Int) < s.size) = true := decide_eq_true h1
      have q1n : decide (k < s.size) = true := decide_eq_true hlt
      obtain ⟨K2, hK2⟩ : ∃ K2, Fact (spE (fun x => x != (60 : UInt8)) s.data.toList k = K2) := ⟨_, ⟨rfl⟩⟩
      have hge : k ≤ K2 := by rw [← hK2.out]; exact spE_ge _ _ _
      have hle : K2 ≤ s.size := by rw [← hK2.out, Lib.size_eq]; exact spE_le _ (by rw [← Lib.size_eq]; omega)
      have hno : Fact (∀ j, k0 ≤ j → j < K2 → j < s.size → endT T.data.toList (s.data.toList.drop j) = false) := ⟨fun j a b c => by
        by_cases hj : j < k
        · exact hr.out.2 j a hj c
        · apply end_no
          rw [bAt_drop]
          exact sp_between (k := k) (j - k) j rfl (by omega) (by rw [hK2.out]; exact b)⟩
      have hk0K : Fact (k0 ≤ K2) := ⟨by have := hr.out.1; omega⟩
      obtain ⟨R, hR⟩ : ∃ R : ByteArray, s.extract K2 s.size = R := ⟨_, rfl⟩
      have hRd : Fact (R.data.toList = s.data.toList.drop K2) := ⟨by rw [← hR]; exact drop_data s K2⟩
      have hRs : R.size = s.size - K2 := by rw [← hR]; exact drop_size s K2 hle
      have hRm : IsSm R.size := ⟨by omega⟩
      have a0 : (0 : Int) ≤ K2 := by omega
      have a1 : (K2 : Int) ≤ s.size := by omega
      have hw1 : wrap64 ((K2 : Int) + 1) = ((K2 + 1 : Nat) : Int) := wrap_ok rfl ⟨by omega⟩
      obtain ⟨b1, hb1⟩ : ∃ b1, Fact (M.data.toList.isPrefixOf (lwL R.data.toList) = b1) := ⟨_, ⟨rfl⟩⟩
      have hend : Fact (endT T.data.toList (s.data.toList.drop K2) = ((b1 && decide (M.size < R.size)) && stp [47, 62] (bAt R.data.toList M.size))) := ⟨by
        rw [← hb1.out, HMd.out, HMs.out, Lib.size_eq R, Lib.size_eq T, hRd.out]
        rfl⟩
      have HRs := Fact.mk hRs
      clear hr hRs
      cases b1
      · have hE : Fact (∀ j, k0 ≤ j → j < K2 + 1 → j < s.size → endT T.data.toList (s.data.toList.drop j) = false) := ⟨fun j a b c2 => by
          by_cases hj : j < K2
          · exact hno.out j a hj c2
          · have e : j = K2 := by omega
            rw [e, hend.out, Bool.false_and, Bool.false_and]⟩
        clear hno hend hRd
        go_wp2_with (first | (go_at_call 54; refine (upTo_at s _ _ k K2 60 rfl rfl hs (Nat.le_of_lt hlt) hK2 _).mono ?_; rintro e w2 ⟨rfl, rfl⟩) | (go_at_call 55; refine (begins_any R M _ hb1 hRm _).mono ?_; rintro e w3 ⟨rfl, hb3⟩))
        go_roundw
        case rel => exact ⟨K2 + 1, by (first | exact int_eq rfl | exact int_eq hw1), Nat.succ_le_succ hle, hbr.trans (hb3.mono hbr.size), ⟨⟨Nat.le_succ_of_le hk0K.out, hE.out⟩⟩⟩
        case measure => (try rw [hw1]); simp only [intOf, Int.toNat_natCast]; omega
      · by_cases hMR : M.size < R.size
        · have g1 : (M.size : Int) < R.size := by omega
          have g2 : decide ((M.size : Int) < R.size) = true := decide_eq_true g1
          have g3 : decide (M.size < R.size) = true := decide_eq_true hMR
          have g4 : (0 : Int) ≤ M.size := by omega
          obtain ⟨c, hc⟩ : ∃ c, bAt R.data.toList M.size = c := ⟨_, rfl⟩
          have hcc : R[M.size] = c := by rw [← byte_at R M.size hMR]; exact hc
          obtain ⟨b3, hb3c⟩ : ∃ b3, Fact (stp (⟨#[47, 62]⟩ : ByteArray).data.toList c = b3) := ⟨_, ⟨rfl⟩⟩
          have hst : stp [47, 62] (bAt R.data.toList M.size) = b3 := by rw [hc]; exact hb3c.out
          rw [hst, g3] at hend
          clear hst hc
          cases b3
          · have hE : Fact (∀ j, k0 ≤ j → j < K2 + 1 → j < s.size → endT T.data.toList (s.data.toList.drop j) = false) := ⟨fun j a b c2 => by
              by_cases hj : j < K2
              · exact hno.out j a hj c2
              · have e : j = K2 := by omega
                rw [e, hend.out, Bool.and_false]⟩
            clear hno hend hRd
            go_wp2_with (first | (go_at_call 54; refine (upTo_at s _ _ k K2 60 rfl rfl hs (Nat.le_of_lt hlt) hK2 _).mono ?_; rintro e w2 ⟨rfl, rfl⟩) | (go_at_call 55; refine (begins_any R M _ hb1 hRm _).mono ?_; rintro e w3 ⟨rfl, hb3⟩) | (go_at_call 56; refine (stops_at _ c rfl ⟨#[47, 62]⟩ _ hb3c _).mono ?_; rintro e w4 ⟨rfl, rfl⟩))
            go_roundw
            case rel => exact ⟨K2 + 1, by (first | exact int_eq rfl | exact int_eq hw1), Nat.succ_le_succ hle, hbr.trans (hb3.mono hbr.size), ⟨⟨Nat.le_succ_of_le hk0K.out, hE.out⟩⟩⟩
            case measure => (try rw [hw1]); simp only [intOf, Int.toNat_natCast]; omega
          · have hKs : K2 < s.size := by have := HRs.out; omega
            have hF : Fact (IsFirst (fun k => endT T.data.toList (s.data.toList.drop k)) s.size k0 K2) := ⟨⟨hk0K.out, hle, fun j a b => hno.out j a b (by omega), fun _ => by rw [hend.out]; rfl⟩⟩
            clear hno hend hRd
            go_wp2_with (first | (go_at_call 54; refine (upTo_at s _ _ k K2 60 rfl rfl hs (Nat.le_of_lt hlt) hK2 _).mono ?_; rintro e w2 ⟨rfl, rfl⟩) | (go_at_call 55; refine (begins_any R M _ hb1 hRm _).mono ?_; rintro e w3 ⟨rfl, hb3⟩) | (go_at_call 56; refine (stops_at _ c rfl ⟨#[47, 62]⟩ _ hb3c _).mono ?_; rintro e w4 ⟨rfl, rfl⟩))
            go_ret
            exact ⟨K2, rfl, hF.out, hbr.trans (hb3.mono hbr.size)⟩
        · have g1 : (R.size : Int) ≤ M.size := by omega
          have g2 : decide ((M.size : Int) < R.size) = false := decide_eq_false (by omega)
          have g3 : decide (M.size < R.size) = false := decide_eq_false hMR
          rw [g3] at hend
          have hE : Fact (∀ j, k0 ≤ j → j < K2 + 1 → j < s.size → endT T.data.toList (s.data.toList.drop j) = false) := ⟨fun j a b c2 => by
            by_cases hj : j < K2
            · exact hno.out j a hj c2
            · have e : j = K2 := by omega
              rw [e, hend.out, Bool.and_false, Bool.false_and]⟩
          clear hno hend hRd
          go_wp2_with (first | (go_at_call 54; refine (upTo_at s _ _ k K2 60 rfl rfl hs (Nat.le_of_lt hlt) hK2 _).mono ?_; rintro e w2 ⟨rfl, rfl⟩) | (go_at_call 55; refine (begins_any R M _ hb1 hRm _).mono ?_; rintro e w3 ⟨rfl, hb3⟩))
          go_roundw
          case rel => exact ⟨K2 + 1, by (first | exact int_eq rfl | exact int_eq hw1), Nat.succ_le_succ hle, hbr.trans (hb3.mono hbr.size), ⟨⟨Nat.le_succ_of_le hk0K.out, hE.out⟩⟩⟩
          case measure => (try rw [hw1]); simp only [intOf, Int.toNat_natCast]; omega
    · have h1 : (s.size : Int) ≤ k := by omega
      have q1 : decide ((k : Int) < s.size) = false := decide_eq_false (by omega)
      have q1n : decide (k < s.size) = false := decide_eq_false hlt
      have hF : Fact (IsFirst (fun k => endT T.data.toList (s.data.toList.drop k)) s.size k0 s.size) := ⟨⟨hk0, Nat.le_refl _, fun j a b => hr.out.2 j a (by omega) b, fun h => absurd h (Nat.lt_irrefl _)⟩⟩
      clear hr
      go_wp2_with fail
      go_ret
      exact ⟨s.size, rfl, hF.out, hbr⟩
end Go.Proofs.YtdniddiaiinggaaDoor
