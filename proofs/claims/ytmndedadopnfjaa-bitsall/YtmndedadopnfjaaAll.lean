/- The law BitsAll returns true for every two numbers and any place: turned about, mixed, in halves, with a sign and as bytes the program answers as the document's own answer does. No condition. -/
import Derived.Test.YtmndedadopnfjaaRows
import Derived.WalkKit
import Derived.ProofKit
import Derived.OpenShut
import Derived.Test.YtmndedadopnfjaaRefs
import Derived.Deep.RegionHeld3
namespace Go.Proofs.Ytmndedadopnfjaa.bitsAll
open Go.ChangeShapes Go.WideShapes Go.ChangeAt Go.RowKit M
set_option linter.unusedVariables false      -- a walk need not use every 'w<i>' (that an integer argument fits its kind)

set_option maxHeartbeats 4000000 in
theorem all_walk (v u n : Int) (hu : IsU v) (hw : IsU u) (w : World) :
    Calls Try.prog 3 #[.int .u64 v, .int .u64 u, .int .i64 n] w fun e w' => e = .returned (.bool true) ∧ Below w.heap.size w w' := by
  have h0 := hu.lo
  have h1 := hu.hi
  have l1 : IntKind.u32.wrap (bits .and .u64 v 4294967295) = v % 4294967296 := by
    rw [show (4294967295 : Int) = 2 ^ 32 - 1 by decide, bits_mask .u64 64 (by decide) (fun m a b => by rw [IntKind.wrap_u64]; omega) 32 (by decide) v h0 (by omega), IntKind.wrap_u32]; omega
  have l2 : IntKind.u32.wrap (v / 4294967296) = v / 4294967296 := by rw [IntKind.wrap_u32]; omega
  have j0 : IsB (v % 256) := ⟨by omega, by omega⟩
  have j1 : IsB (v / 256 % 256) := ⟨by omega, by omega⟩
  have j2 : IsB (v / 65536 % 256) := ⟨by omega, by omega⟩
  have j3 : IsB (v / 16777216 % 256) := ⟨by omega, by omega⟩
  have j4 : IsB (v / 4294967296 % 256) := ⟨by omega, by omega⟩
  have j5 : IsB (v / 1099511627776 % 256) := ⟨by omega, by omega⟩
  have j6 : IsB (v / 281474976710656 % 256) := ⟨by omega, by omega⟩
  have j7 : IsB (v / 72057594037927936) := ⟨by omega, by omega⟩
  have hs8 : Hid (sum8 (v % 256) (v / 256 % 256) (v / 65536 % 256) (v / 16777216 % 256) (v / 4294967296 % 256) (v / 1099511627776 % 256) (v / 281474976710656 % 256) (v / 72057594037927936) = v) := sum8_self v hu
  go_enter Try.func3, Try.ntmps3
  go_wp2_with (first | (go_at_call 9; refine (bytes_any _ _ hu).mono ?_; rintro e w1 ⟨rfl, hb1⟩))
  have hS0 := start1 (v := v) hb1
  refine wp_region_noPanic ?_
  go_region_held (fun w' => (Below w.heap.size w w' ∧ w.heap.size ≤ w1.heap.size ∧ w1.heap.size < w'.heap.size) ∧ (∀ i, w'.cell? ⟨w1.heap.size, i, none⟩ = (#[.int .u8 (v % 256), .int .u8 (v / 256 % 256), .int .u8 (v / 65536 % 256), .int .u8 (v / 16777216 % 256), .int .u8 (v / 4294967296 % 256), .int .u8 (v / 1099511627776 % 256), .int .u8 (v / 281474976710656 % 256), .int .u8 (v / 72057594037927936)] : Array Value)[i]?) ∧ (convert 28 9 (.slice (some ⟨w1.heap.size, 0, none⟩) 8 8)).run Try.prog w' = .ok (.string (str8 v)) w')
    (first | exact hS0 | exact keep1 hb3 (by assumption) | assumption)
    (first | (go_at_call 10; refine (turn_any _ _ _ hu).mono ?_; rintro e w' ⟨rfl, rfl⟩) | (go_at_call 11; refine (refturn_any _ _ _ hu).mono ?_; rintro e w' ⟨rfl, rfl⟩) | (go_at_call 12; refine (mix_any _ _ _ hu hw).mono ?_; rintro e w' ⟨rfl, rfl⟩) | (go_at_call 13; refine (refmix_any _ _ _ hu hw).mono ?_; rintro e w' ⟨rfl, rfl⟩) | (go_at_call 14; refine (signed_any _ _ _ hu).mono ?_; rintro e w' ⟨rfl, rfl⟩) | (go_at_call 15; refine (refsigned_any _ _ _ hu).mono ?_; rintro e w' ⟨rfl, rfl⟩) | (go_at_call 16; refine (eight_any _ _ hu).mono ?_; rintro e w3 ⟨g, cap, rfl, hown, hb3⟩; have hcv := conv8 v w3 g cap (fun i hi => (hown.cellAt i (by omega)).trans (rowI_cells v hu i hi)); clear hown) | (go_at_call 17; refine (of_any _ _ _ _ _ _ _ _ _ _ j0 j1 j2 j3 j4 j5 j6 j7 hs8.out).mono ?_; rintro e w3 ⟨rfl, hb3⟩) | (go_at_call 18; refine (low_any _ _).mono ?_; rintro e w' ⟨rfl, rfl⟩) | (go_at_call 19; refine (high_any _ _ hu).mono ?_; rintro e w' ⟨rfl, rfl⟩) | (go_at_call 20; refine (awake_any _).mono ?_; rintro e w' ⟨rfl, rfl⟩))
  refine NoPanic.normal ?_
  go_wp2
  go_ret
  rename_i hH
  exact ⟨rfl, hH.1.1⟩

theorem own : ownKnob Try.prog.godebug = none := by kernel_rfl

theorem walk (a0 : Int) (a1 : Int) (a2 : Int) (w0 : (Lit.int .u64 a0).wf = true) (w1 : (Lit.int .u64 a1).wf = true) (w2 : (Lit.int .i64 a2).wf = true) (w : World) :
    Calls Try.prog 3 #[.int .u64 a0, .int .u64 a1, .int .i64 a2] w fun e w' => e = .returned (.bool true) ∧ Below w.heap.size w w' := by
  exact all_walk a0 a1 a2 (wf_u64 w0) (wf_u64 w1) w

set_option maxRecDepth 100000 in
theorem lifted (os : Os) (started : os.Started) (H : Type) (enc : TypeId × Value → H) :
    ReturnsInHanded {} Try.checked os 3 .any (Rows.bitsAllSpec.pre6 enc Try.prog Try.f3 Rows.bitsAllRow.domain false) (Rows.bitsAllSpec.post enc Try.prog Try.f3 false true false false) := by
  refine returnsInHanded_of_change (C := Try.checked) own started (by kernel_rfl) Try.func3
    (ChangeSpec.witness6 (enc := enc) (C := Try.checked) false ⟨#[], #[.int .u64 0, .int .u64 0, .int .i64 0], []⟩ 8 (by kernel_rfl) (by kernel_rfl) (by kernel_rfl) (by kernel_rfl)) ?_
  intro W base args ds gs before hval0 hW hcnd _
  have hval : ∀ (j : Nat) t v, Try.f3.params[j]? = some t → args[j]? = some v → Value.okWide Try.prog W .any base t v := hval0
  have hW' := hW
  obtain ⟨p, q, hA0, hV, rfl, hfz, hnd⟩ := hW
  have hA : DataW.TrodAll enc Try.prog W 0 (fun _ => true) true Try.f3.params.toList args.toList ds p := hA0
  rw [Try.params3] at hA hval
  obtain ⟨v0, vs0, d0, ds0, p0, q0, hargs, rfl, rfl, h0, r0⟩ := trodAll_cons hA
  obtain ⟨v1, vs1, d1, ds1, p1, q1, rfl, rfl, rfl, h1, r1⟩ := trodAll_cons r0
  obtain ⟨v2, vs2, d2, ds2, p2, q2, rfl, rfl, rfl, h2, r2⟩ := trodAll_cons r1
  obtain ⟨rfl, rfl, rfl⟩ := trodAll_nil r2
  obtain rfl : args = #[v0, v1, v2] := by cases args; simp_all
  obtain ⟨rfl, rfl⟩ := trodVars_none hV
  obtain ⟨a0, rfl, rfl, rfl, w0⟩ := open_int Try.underlying22 (hval 0 22 v0 rfl rfl) h0
  obtain ⟨a1, rfl, rfl, rfl, w1⟩ := open_int Try.underlying22 (hval 1 22 v1 rfl rfl) h1
  obtain ⟨a2, rfl, rfl, rfl, w2⟩ := open_int Try.underlying3 (hval 2 3 v2 rfl rfl) h2
  clear hA0 hval0
  simp only [List.append_nil] at hW'
  refine (walk a0 a1 a2 w0 w1 w2 W).mono fun e W' ⟨he, bel⟩ => ?_
  subst he
  exact ⟨_, rfl, _, _, _, [], _, [], hW', trodAll_mk1 (shut_bool Try.underlying4 _), (trodAll_cons_mk (shut_int Try.underlying22 w0) (trodAll_cons_mk (shut_int Try.underlying22 w1) (trodAll_cons_mk (shut_int Try.underlying3 w2) trodAll_mk0))), rfl, bel.frame _, fun h => by cases h⟩

theorem over : Rows.bitsAllRow.holds Try.pinned (OpenSpec.ofChange Rows.bitsAllSpec) :=
  OpenClaim.holds_of_wide 3 Try.f3 rfl rfl rfl rfl rfl rfl rfl ⟨rfl, rfl, rfl, rfl, rfl⟩ rfl rfl rfl rfl rfl (by kernel_rfl) Try.func3 (by kernel_rfl)
    (of_decide_eq_true (by kernel_rfl)) (by unfold Func.isWrapper; first | (rw [if_pos (by decide +kernel)]; kernel_rfl) | (rw [if_neg (by decide +kernel)]; exact ⟨rfl, rfl⟩))
    (fun os started H enc _ => lifted os started H enc)

theorem proved : Rows.BitsAllSaid :=
  over
end Go.Proofs.Ytmndedadopnfjaa.bitsAll
namespace Go.Proofs.Ytmndedadopnfjaa
/-- the given statement -/
theorem bitsAll_holds : Rows.BitsAllSaid :=
  bitsAll.proved
#print axioms bitsAll_holds
end Go.Proofs.Ytmndedadopnfjaa
