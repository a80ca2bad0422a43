/- What Valid answers: whether the text is right. -/
import Derived.Test.YtoolpkkbeegbdaaCalls
import Derived.Deep.LoopGhost
namespace Go.Proofs.Ytoolpkkbeegbdaa
open Go.RowKit M

theorem drop_ne (s : ByteArray) (pos : Nat) (h : pos < s.size) : s.data.toList.drop pos ≠ [] := by
  intro e
  have := congrArg List.length e
  rw [List.length_drop, List.length_nil] at this
  have e2 : s.size = s.data.toList.length := Lib.size_eq s
  omega
theorem drop_end (s : ByteArray) (pos : Nat) (h : ¬ pos < s.size) : s.data.toList.drop pos = [] := by
  apply List.drop_eq_nil_of_le
  have e2 : s.size = s.data.toList.length := Lib.size_eq s
  omega
theorem below_drewN {B : Nat} {a w : World} (h : Below B a w) (n : Nat) : Below B a (w.drewN n) := ⟨h.os, h.tape, h.output, h.size, h.block⟩

theorem dc_at (s : ByteArray) (pos : Nat) (h : pos < s.size) : 1 ≤ (Utf8.decode s pos).2 ∧ pos + (Utf8.decode s pos).2 ≤ s.size ∧ (Utf8.decode s pos).2 ≤ 4 := by
  rw [decode_dc]
  have h1 := dc_pos _ (drop_ne s pos h)
  rw [List.length_drop, ← Lib.size_eq] at h1
  omega
theorem pre_fact (s : ByteArray) (pos : Nat) (b : Bool) (h : decide ([239, 191, 189] <+: s.data.toList.drop pos) = b) : decide ((Utf8.encode 65533).data.toList <+: List.take (s.size - pos) (List.drop pos s.data.toList)) = b := by
  rw [List.take_of_length_le (by rw [List.length_drop, ← Lib.size_eq]; exact Nat.le_refl _), ← h]
  rfl

set_option maxRecDepth 20000 in
set_option maxHeartbeats 1000000 in
theorem valid_any (s : ByteArray) (w : World) : Calls Try.prog 10 #[.string s] w fun e w' => e = .returned (.bool (V s.data.toList)) ∧ Below w.heap.size w w' := by
  go_enter Try.func10, Try.ntmps10
  go_wp2
  go_loopg [] s.size (fun gf wx => ∃ pos : Nat, wx.heap[w.heap.size]? = some (.stringIter s pos) ∧ Below w.heap.size w wx ∧ Fact (V (s.data.toList.drop pos) = V s.data.toList) ∧ pos ≤ s.size ∧ s.size ≤ pos + gf)
  case atStart => exact ⟨0, World.iter_heap w s 0, (Below.refl _ w).alloc (Nat.le_refl _) _, ⟨rfl⟩, Nat.zero_le _, by omega⟩
  case round =>
    obtain ⟨pos, hit, hb, hv, hps, hfu⟩ := hrel
    by_cases hlt : pos < s.size
    · obtain ⟨g', rfl⟩ : ∃ g', gk = g' + 1 := ⟨gk - 1, by omega⟩
      have hnx : ∀ ty, (Instr.next (.pointer (some ⟨w.heap.size, 0, none⟩)) true ty).run Try.prog wr = _ := fun ty => Lib.run_next_any_at wr w.heap.size s pos ty hit hlt
      obtain ⟨R, hR⟩ : ∃ R, (Utf8.decode s pos).1 = R := ⟨_, rfl⟩
      obtain ⟨K, hK⟩ : ∃ K, (Utf8.decode s pos).2 = K := ⟨_, rfl⟩
      rw [hR, hK] at hnx
      have hp := dc_at s pos hlt
      rw [hK] at hp
      have hit2 := Lib.iterAt_heap wr w.heap.size s pos (pos + K) hit
      have hb2 := Lib.below_iterAt hb (k := w.heap.size) (Nat.le_refl _) s (pos + K)
      obtain ⟨W, hWd⟩ : ∃ W, wr.iterAt w.heap.size s (pos + K) = W := ⟨_, rfl⟩
      rw [hWd] at hnx hit2 hb2
      by_cases hr : R = 65533
      · by_cases hpre : [239, 191, 189] <+: s.data.toList.drop pos
        · have hst := V_step _ (drop_ne s pos hlt) (fun h => h.2 hpre)
          have hPF := pre_fact s pos true (by simpa using hpre)
          subst hr
          clear hit hb hWd
          go_wp2
          go_quiet (first | (go_at_call 16; exact Calls.quiet_of_same (put_any _ _)) | (go_at_call 23; exact Calls.quiet_of_same (hasPrefix_any _ _ _)))
          go_wp2
          go_roundg g'
          case measure => omega
          case rel => exact ⟨pos + K, hit2, below_drewN hb2 _, ⟨by rw [← hv.out, hst, ← decode_dc, hK, List.drop_drop]⟩, hp.2.1, by omega⟩
        · have hst := V_stop _ (drop_ne s pos hlt) ⟨by rw [← decode_dc, hR, hr], hpre⟩
          have hPF := pre_fact s pos false (by simpa using hpre)
          subst hr
          clear hit hb hWd
          go_wp2
          go_quiet (first | (go_at_call 16; exact Calls.quiet_of_same (put_any _ _)) | (go_at_call 23; exact Calls.quiet_of_same (hasPrefix_any _ _ _)))
          go_wp2
          go_ret
          exact ⟨ret_bool (by rw [← hv.out, hst]), below_drewN hb2 _⟩
      · have hst := V_step _ (drop_ne s pos hlt) (fun h => hr (by rw [← hR, decode_dc]; exact h.1))
        clear hit hb hWd
        have hrI : ¬ (R : Int) = 65533 := by omega
        have hrB : ((R : Int) == 65533) = false := by rw [beq_eq_false_iff_ne]; exact hrI
        go_wp2
        go_quiet (fail)
        go_wp2
        go_roundg g'
        case measure => omega
        case rel => exact ⟨pos + K, hit2, below_drewN hb2 _, ⟨by rw [← hv.out, hst, ← decode_dc, hK, List.drop_drop]⟩, hp.2.1, by omega⟩
    · have hnx : ∀ ty, (Instr.next (.pointer (some ⟨w.heap.size, 0, none⟩)) true ty).run Try.prog wr = _ := fun ty => Lib.run_next_end_at wr w.heap.size s pos ty hit hlt
      go_wp2
      go_ret
      exact ⟨ret_bool (by rw [← hv.out, drop_end s pos hlt]; rfl), hb⟩
end Go.Proofs.Ytoolpkkbeegbdaa
