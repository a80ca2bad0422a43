/- RunesLists returns true at every list of runes: Put of each has from 1 to 4 bytes, those of fffd just where it is none or fffd itself, and one behind the other they make a text that Valid says yes to. No condition. -/
import Derived.Test.YtoolpkkbeegbdaaRows
import Derived.WalkKit
import Derived.ProofKit
import Derived.OpenShut
import Derived.Test.YtoolpkkbeegbdaaAwake
import Derived.ShutString
import Derived.ChangeOld
import Derived.Below
namespace Go.Proofs.Ytoolpkkbeegbdaa.runesLists
open Go.ChangeShapes Go.WideShapes Go.ChangeAt Go.RowKit M
open Go.ChangeMaps (open_string shut_string)
set_option linter.unusedVariables false

theorem valid_at (s : ByteArray) (b : Bool) (h : Fact (V s.data.toList = b)) (w : World) : Calls Try.prog 10 #[.string s] w fun e w' => e = .returned (.bool b) ∧ Below w.heap.size w w' := by
  have := valid_any s w
  rw [h.out] at this
  exact this
theorem place_one (v : Int) (w : World) : Calls Try.prog 22 #[.int .i64 v, .int .i64 1] w fun e w' => e = .returned (.int .i64 0) ∧ w' = w := by
  have h1 : v.tmod 1 = 0 := Int.tmod_one v
  go_enter Try.func22, Try.ntmps22
  go_wp2
  go_ret
  exact ⟨rfl, rfl⟩

/-- what is told of a rune's bytes -/
structure IsPut (n : Int) (E : ByteArray) : Prop where
  eq : Utf8.encode n = E
theorem IsPut.data {n : Int} {E : ByteArray} (h : IsPut n E) : E.data.toList = en n := by rw [← h.eq]; exact en_def n
theorem IsPut.size {n : Int} {E : ByteArray} (h : IsPut n E) : 1 ≤ E.size ∧ E.size ≤ 4 := by rw [Lib.size_eq, h.data]; exact en_size n
theorem IsPut.bad {n : Int} {E : ByteArray} (h : IsPut n E) (hv : Utf8.valid n = false) : (E.toList == [239, 191, 189]) = true := by
  rw [beq_iff_eq, Lib.toList_data, h.data]
  exact en_none n hv
theorem IsPut.good {n : Int} {E : ByteArray} (h : IsPut n E) (hv : Utf8.valid n = true) (hn : n ≠ 65533) : (E.toList == [239, 191, 189]) = false := by
  rw [beq_eq_false_iff_ne, Lib.toList_data, h.data]
  intro e
  have := (en_same n).1 ⟨e, hn⟩
  rw [hv] at this
  cases this
theorem valid_no {n : Int} (h : n < 0 ∨ n > 1114111 ∨ (55296 ≤ n ∧ n ≤ 57343)) : Utf8.valid n = false := by
  cases hv : Utf8.valid n
  · rfl
  · exfalso
    unfold Utf8.valid at hv
    simp only [Bool.or_eq_true, Bool.and_eq_true, decide_eq_true_eq] at hv
    omega
theorem valid_yes {n : Int} (h0 : 0 ≤ n) (h1 : n ≤ 1114111) (h2 : ¬ (55296 ≤ n ∧ n ≤ 57343)) : Utf8.valid n = true := by
  unfold Utf8.valid
  simp only [Bool.or_eq_true, Bool.and_eq_true, decide_eq_true_eq]
  omega
/-- the text so far -/
structure Far (S : ByteArray) (k : Nat) : Prop where
  ok : V S.data.toList = true
  len : S.size ≤ 4 * k
theorem far_put {S E : ByteArray} {n : Int} {k : Nat} (h : Far S k) (hE : IsPut n E) : Far (S ++ E) (k + 1) := by
  have h1 := h.len
  have h2 := hE.size
  constructor
  · rw [ByteArray.data_append, Array.toList_append, V_append _ _ h.ok, hE.data]
    exact V_put n
  · rw [ByteArray.size_append]
    omega

set_option maxRecDepth 20000 in
set_option maxHeartbeats 1000000 in
theorem lists_some (x : Addr) (len cap : Nat) (zs : List Int) (w : World) (hl : len ≤ cap) (hz : zs.length = cap) (hc : ∀ i, i < zs.length → w.cell? (x.add i) = some (.int .i32 (zs.getD i 0))) (hwf : ∀ n ∈ zs, (Lit.int .i32 n).wf = true) :
    Calls Try.prog 6 #[.slice (some x) len cap] w fun e w' => e = .returned (.bool true) ∧ Below w.heap.size w w' := by
  have HC := Fact.mk hc
  have HW := Fact.mk hwf
  clear hc hwf
  by_cases hbig : 200 < len
  · go_enter Try.func6, Try.ntmps6
    go_wp2_with (go_at_call 9; refine (awake_true _).mono ?_; rintro e w5 ⟨rfl, hb5⟩)
    go_ret
    exact ⟨rfl, hb5⟩
  go_enter Try.func6, Try.ntmps6
  go_wp2
  go_loop [3, 4] (fun s i => ∃ (k : Nat) (S : ByteArray), i = .int .i64 k ∧ s = .string S ∧ k ≤ len ∧ Far S k) (fun _ i => len - (intOf i).toNat)
  case atStart => exact ⟨0, _, rfl, rfl, Nat.zero_le _, ⟨rfl, Nat.le_refl _⟩⟩
  case round =>
    obtain ⟨k, S, rfl, rfl, hk, hf⟩ := hrel
    have hSl := hf.len
    by_cases hlt : k < len
    · have hck := HC.out k (by omega)
      obtain ⟨n, hn⟩ : ∃ n, zs.getD k 0 = n := ⟨_, rfl⟩
      have hwn := HW.out n (by rw [← hn, List.getD_eq_getElem?_getD, List.getElem?_eq_getElem (by omega)]; exact List.getElem_mem _)
      rw [hn] at hck
      obtain ⟨E, hE⟩ : ∃ E, IsPut n E := ⟨_, ⟨rfl⟩⟩
      have HE : Fact (Utf8.encode n = E) := ⟨hE.eq⟩
      have hsz := hE.size
      obtain ⟨hs1, hs4⟩ := hsz
      have HF := Fact.mk hf
      clear HC HW hn hf
      obtain ⟨hn1, hn2⟩ := bounds_i32 hwn
      clear hwn
      by_cases h1 : n < 0
      · have hB := hE.bad (valid_no (.inl h1))
        have hne : ¬ n = 65533 := by omega
        have hnB : (n != 65533) = true := bne_iff_ne.2 hne
        go_wp2_with (go_at_call 16; refine (put_at _ E HE _).mono ?_; rintro e w1 ⟨rfl, rfl⟩)
        go_round
        case rel => exact ⟨k + 1, _, by go_num, rfl, by omega, far_put HF.out hE⟩
        case measure => simp [intOf]; omega
      by_cases h2 : 1114111 < n
      · have hB := hE.bad (valid_no (.inr (.inl h2)))
        have hne : ¬ n = 65533 := by omega
        have hnB : (n != 65533) = true := bne_iff_ne.2 hne
        go_wp2_with (go_at_call 16; refine (put_at _ E HE _).mono ?_; rintro e w1 ⟨rfl, rfl⟩)
        go_round
        case rel => exact ⟨k + 1, _, by go_num, rfl, by omega, far_put HF.out hE⟩
        case measure => simp [intOf]; omega
      by_cases h3 : 55296 ≤ n ∧ n ≤ 57343
      · have hB := hE.bad (valid_no (.inr (.inr h3)))
        have hne : ¬ n = 65533 := by omega
        have hnB : (n != 65533) = true := bne_iff_ne.2 hne
        obtain ⟨h4, h5⟩ := h3
        go_wp2_with (go_at_call 16; refine (put_at _ E HE _).mono ?_; rintro e w1 ⟨rfl, rfl⟩)
        go_round
        case rel => exact ⟨k + 1, _, by go_num, rfl, by omega, far_put HF.out hE⟩
        case measure => simp [intOf]; omega
      by_cases hne : n = 65533
      · cases hB : (E.toList == [239, 191, 189])
        · subst hne
          go_wp2_with (go_at_call 16; refine (put_at _ E HE _).mono ?_; rintro e w1 ⟨rfl, rfl⟩)
          go_round
          case rel => exact ⟨k + 1, _, by go_num, rfl, by omega, far_put HF.out hE⟩
          case measure => simp [intOf]; omega
        · subst hne
          go_wp2_with (go_at_call 16; refine (put_at _ E HE _).mono ?_; rintro e w1 ⟨rfl, rfl⟩)
          go_round
          case rel => exact ⟨k + 1, _, by go_num, rfl, by omega, far_put HF.out hE⟩
          case measure => simp [intOf]; omega
      have hB := hE.good (valid_yes (by omega) (by omega) h3) hne
      by_cases h4 : n < 55296
      · clear h3
        go_wp2_with (go_at_call 16; refine (put_at _ E HE _).mono ?_; rintro e w1 ⟨rfl, rfl⟩)
        go_round
        case rel => exact ⟨k + 1, _, by go_num, rfl, by omega, far_put HF.out hE⟩
        case measure => simp [intOf]; omega
      · have h5 : 57343 < n := by omega
        clear h3
        go_wp2_with (go_at_call 16; refine (put_at _ E HE _).mono ?_; rintro e w1 ⟨rfl, rfl⟩)
        go_round
        case rel => exact ⟨k + 1, _, by go_num, rfl, by omega, far_put HF.out hE⟩
        case measure => simp [intOf]; omega
    · have hV : Fact (V S.data.toList = true) := ⟨hf.ok⟩
      go_wp2_with (first
        | (go_at_call 10; refine (valid_at S true hV _).mono ?_; rintro e w3 ⟨rfl, hb3⟩)
        | (go_at_call 22; refine (place_one _ _).mono ?_; rintro e w4 ⟨rfl, rfl⟩)
        | (go_at_call 9; refine (awake_true _).mono ?_; rintro e w5 ⟨rfl, hb5⟩))
      go_ret
      exact ⟨rfl, hb3.trans (hb5.mono hb3.size)⟩

set_option maxRecDepth 20000 in
set_option maxHeartbeats 1000000 in
theorem lists_nil (w : World) : Calls Try.prog 6 #[.slice none 0 0] w fun e w' => e = .returned (.bool true) ∧ Below w.heap.size w w' := by
  have hV : Fact (V (⟨#[]⟩ : ByteArray).data.toList = true) := ⟨rfl⟩
  go_enter Try.func6, Try.ntmps6
  go_wp2
  refine wp_loop_rounds 1 ?_
  rw [rounds_succ]
  go_wp2_with (first
    | (go_at_call 10; refine (valid_at _ true hV _).mono ?_; rintro e w3 ⟨rfl, hb3⟩)
    | (go_at_call 22; refine (place_one _ _).mono ?_; rintro e w4 ⟨rfl, rfl⟩)
    | (go_at_call 9; refine (awake_true _).mono ?_; rintro e w5 ⟨rfl, hb5⟩))
  go_ret
  exact ⟨rfl, hb3.trans (hb5.mono hb3.size)⟩

theorem own : ownKnob Try.prog.godebug = none := by kernel_rfl
theorem laidOut : laidOutB Try.prog = true := by kernel_rfl

/-- WHAT THE WALK IS TOLD OF A SLICE OF INTEGERS THAT CAME IN: it is nil; or it leads to a row of 'cap' cells, the numbers 'zs' (the first 'len' are its elements, the rest its spare room), each fitting its kind. -/
def IsRow (k : IntKind) (w : World) (a : Option Addr) (len cap : Nat) (zs : List Int) : Prop :=
  (a = none ∧ len = 0 ∧ cap = 0 ∧ zs = []) ∨
  ∃ x, a = some x ∧ len ≤ cap ∧ cap ≤ maxLen ∧ zs.length = cap ∧ (∀ i, i < zs.length → w.cell? (x.add i) = some (.int k (zs.getD i 0))) ∧ ∀ n ∈ zs, (Lit.int k n).wf = true

theorem walk (a0 : Option Addr) (len0 cap0 : Nat) (z0 : List Int) (w : World) (w0 : IsRow .i32 w a0 len0 cap0 z0) :
    Calls Try.prog 6 #[.slice a0 len0 cap0] w fun e w' => e = .returned (.bool true) ∧ Below w.heap.size w w' := by
  rcases w0 with ⟨rfl, rfl, rfl, rfl⟩ | ⟨x, rfl, hl, hm, hz, hc, hwf⟩
  · exact lists_nil w
  · exact lists_some x len0 cap0 z0 w hl hz hc hwf

set_option maxRecDepth 100000 in
theorem lifted (os : Os) (started : os.Started) (H : Type) (enc : TypeId × Value → H) :
    ReturnsInHanded {} Try.checked os 6 .any (Rows.runesListsSpec.pre6 enc Try.prog Try.f6 Rows.runesListsRow.domain false) (Rows.runesListsSpec.post enc Try.prog Try.f6 false true false false) := by
  refine returnsInHanded_of_change (C := Try.checked) own started (by kernel_rfl) Try.func6
    (ChangeSpec.witness6 (enc := enc) (C := Try.checked) false ⟨#[], #[.slice none 0 0], []⟩ 8 (by kernel_rfl) (by kernel_rfl) (by kernel_rfl) (by kernel_rfl)) ?_
  intro W base args ds gs before hval0 hW hcnd _
  have hval : ∀ (j : Nat) t v, Try.f6.params[j]? = some t → args[j]? = some v → Value.okWide Try.prog W .any base t v := hval0
  have hW' := hW
  obtain ⟨p, q, hA0, hV, rfl, hfz, hnd⟩ := hW
  have hA : DataW.TrodAll enc Try.prog W 0 (fun _ => true) true Try.f6.params.toList args.toList ds p := hA0
  rw [Try.params6] at hA hval
  obtain ⟨v0, vs0, d0, ds0, p0, q0, hargs, rfl, rfl, h0, r0⟩ := trodAll_cons hA
  obtain ⟨rfl, rfl, rfl⟩ := trodAll_nil r0
  obtain rfl : args = #[v0] := by cases args; simp_all
  obtain ⟨rfl, rfl⟩ := trodVars_none hV
  obtain ⟨a0, len0, cap0, rfl⟩ := okWide_slice Try.underlying29 (hval 0 29 v0 rfl rfl)
  have k0 := h0
  have lt0 : ∀ x ∈ p0, x.block < W.heap.size := by obtain ⟨m, hm⟩ := k0; exact DataW.trod_lt m _ _ _ hm
  obtain ⟨z0, w0⟩ : ∃ zs, IsRow .i32 W a0 len0 cap0 zs := by
    obtain ⟨fuel, hf⟩ := h0
    rcases open_ints Try.underlying29 Try.underlying21 (by kernel_rfl) hf with ⟨hcs, _⟩ | ⟨x, l, c, zs, hcs, _, hl, hm, hz, _, hcell, hwz⟩
    · simp [Value.cells] at hcs
      obtain ⟨rfl, rfl, rfl⟩ := hcs
      exact ⟨[], .inl ⟨rfl, rfl, rfl, rfl⟩⟩
    · simp [Value.cells] at hcs
      obtain ⟨rfl, rfl, rfl⟩ := hcs
      exact ⟨zs, .inr ⟨_, rfl, hl, hm, by simpa using hz, hcell, hwz⟩⟩
  clear hA0 hval0
  refine (walk a0 len0 cap0 z0 W w0).mono fun e W' ⟨he, bel⟩ => ?_
  subst he
  exact ⟨_, rfl, _, _, _, [], _, [], hW', trodAll_mk1 (shut_bool Try.underlying4 _), (trodAll_cons_mk (Below.trod laidOut (by kernel_rfl) (of_decide_eq_true (by kernel_rfl)) k0 bel lt0) trodAll_mk0), rfl, bel.frame _, fun h => by cases h⟩

theorem over : Rows.runesListsRow.holds Try.pinned (OpenSpec.ofChange Rows.runesListsSpec) :=
  OpenClaim.holds_of_wide 6 Try.f6 rfl rfl rfl rfl rfl rfl rfl ⟨rfl, rfl, rfl, rfl, rfl⟩ rfl rfl rfl rfl rfl (by kernel_rfl) Try.func6 (by kernel_rfl)
    (of_decide_eq_true (by kernel_rfl)) (by unfold Func.isWrapper; first | (rw [if_pos (by decide +kernel)]; kernel_rfl) | (rw [if_neg (by decide +kernel)]; exact ⟨rfl, rfl⟩))
    (fun os started H enc _ => lifted os started H enc)

theorem proved : Rows.RunesListsSaid := over
end Go.Proofs.Ytoolpkkbeegbdaa.runesLists
namespace Go.Proofs.Ytoolpkkbeegbdaa
/-- the given statement -/
theorem runesLists_holds : Rows.RunesListsSaid :=
  runesLists.proved
#print axioms runesLists_holds
end Go.Proofs.Ytoolpkkbeegbdaa
