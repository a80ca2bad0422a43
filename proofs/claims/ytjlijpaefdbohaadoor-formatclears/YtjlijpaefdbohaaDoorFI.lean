/- keyOf. -/
import Derived.Test.YtjlijpaefdbohaaDoorFH
set_option linter.unusedVariables false
namespace Go.Proofs.YtjlijpaefdbohaaDoor
open Go.RowKit

set_option maxRecDepth 20000 in
set_option maxHeartbeats 1000000 in
theorem bString_nil (w : World) (B : Nat) (h : w.cell? ⟨B, 1, none⟩ = some (.slice none 0 0)) :
    Calls Tryd.prog 56 #[.pointer (some ⟨B, 0, none⟩)] w fun e w' => e = .returned (.string ⟨#[]⟩) ∧ Below w.heap.size w w' := by
  have hsd : (Builtin.unsafeSliceData_ #[91] 101 #[.slice none 0 0]).run Tryd.prog w.drew = .ok (.pointer none) w.drew := rfl
  have hus : (Builtin.unsafeString_ #[101, 3] 9 #[.pointer none, .int .i64 0]).run Tryd.prog w.drew = .ok (.string ⟨#[]⟩) w.drew := by kernel_rfl
  go_enter Tryd.func56, Tryd.ntmps56
  go_wp2_with fail
  go_region
  go_wp2_with fail
  go_ret
  exact ⟨rfl, (Below.refl _ w).drew⟩

set_option maxRecDepth 20000 in
set_option maxHeartbeats 1000000 in
theorem joined_nil (w : World) (a : Option Addr) (c : Nat) :
    Calls Tryd.prog 48 #[.slice a 0 c] w fun e w' => e = .returned (.string ⟨#[]⟩) ∧ Below w.heap.size w w' := by
  have hc : (w.alloc (.cells #[.pointer none, .slice none 0 0] 93)).cell? ⟨w.heap.size, 1, none⟩ = some (.slice none 0 0) := World.cell?_alloc_new w #[.pointer none, .slice none 0 0] 93 1
  have HC := Fact.mk hc
  clear hc
  go_enter Tryd.func48, Tryd.ntmps48
  go_wp2_with fail
  refine wp_loop_rounds 1 ?_
  rw [rounds_succ]
  go_wp2_with (go_at_call 56; refine (bString_nil _ _ HC.out).mono ?_; rintro e w1 ⟨rfl, hb⟩; have HB := Fact.mk hb; clear hb)
  go_ret
  exact ⟨rfl, ((Below.refl _ w).alloc (Nat.le_refl _) _).trans (HB.out.mono (by simp))⟩
theorem set_same {w : World} {g n : Nat} {v : Value} (h : w.cell? ⟨g, n, none⟩ = some v) : w.setCell ⟨g, n, none⟩ v = w := by
  simp only [World.cell?] at h
  cases hg : w.heap[g]? with
  | none => rw [hg] at h; cases h
  | some o =>
    rw [hg] at h
    cases o with
    | cells cur t fz =>
      have hc : cur[n]? = some v := h
      rw [setCell_eq_setRow w g n cur t fz v hg]
      have e : cur.setIfInBounds n v = cur := by
        apply Array.ext_getElem?
        intro i
        rw [Array.getElem?_setIfInBounds]
        split
        · next e => subst e; split <;> simp_all
        · rfl
      rw [e, setRow_self w g cur t fz hg]
    | _ => cases h

end Go.Proofs.YtjlijpaefdbohaaDoor
