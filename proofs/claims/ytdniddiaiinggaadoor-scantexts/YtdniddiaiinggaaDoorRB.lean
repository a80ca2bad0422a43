/- The document's own Put at every rune; its numbers. -/
import Derived.Test.YtdniddiaiinggaaDoorRA
set_option linter.unusedVariables false
namespace Go.Proofs.YtdniddiaiinggaaDoor
open Go.RowKit M

theorem en4 (r : Nat) (hr : IsR r) (h : 65536 ≤ r) : en r = [UInt8.ofNat (240 + r / 262144), UInt8.ofNat (128 + r / 4096 % 64), UInt8.ofNat (128 + r / 64 % 64), UInt8.ofNat (128 + r % 64)] := by
  rw [en_ec r r (enc_c r hr)]
  unfold ec
  rw [if_neg (by omega), if_neg (by omega), if_neg (by omega)]
set_option maxRecDepth 400000 in
set_option maxHeartbeats 2000000 in
theorem refPut3b (r : Nat) (w : World) (h : 57344 ≤ r) (h2 : r < 65536) : Calls Tryd.prog 50 #[.int .i32 r] w fun e w' => e = .returned (.string (Utf8.encode r)) ∧ Below w.heap.size w w' := by
  have hcv := conv_new w r #[.int .u8 (224 + (r : Int) / 4096), .int .u8 (128 + (r : Int) / 64 % 64), .int .u8 (128 + (r : Int) % 64)] 3 (by rw [en3 r ⟨by omega⟩ (by omega) (by omega)]; exact ⟨by simp only [cl, List.map_cons, List.map_nil]; exact l3 (u8_eq (by omega) (by omega)) (u8_eq (by omega) (by omega)) (u8_eq (by omega) (by omega)), rfl⟩)
  obtain ⟨E, hE⟩ : ∃ E, Utf8.encode (r : Int) = E := ⟨_, rfl⟩
  rw [hE] at hcv ⊢
  clear hE
  go_enter Tryd.func50, Tryd.ntmps50
  go_wp2
  go_ret
  exact ⟨rfl, (Below.refl _ w).alloc (Nat.le_refl _) _⟩
set_option maxRecDepth 400000 in
set_option maxHeartbeats 2000000 in
theorem refPut4 (r : Nat) (w : World) (h : 65536 ≤ r) (h2 : r ≤ 1114111) : Calls Tryd.prog 50 #[.int .i32 r] w fun e w' => e = .returned (.string (Utf8.encode r)) ∧ Below w.heap.size w w' := by
  have hcv := conv_new w r #[.int .u8 (240 + (r : Int) / 262144), .int .u8 (128 + (r : Int) / 4096 % 64), .int .u8 (128 + (r : Int) / 64 % 64), .int .u8 (128 + (r : Int) % 64)] 4 (by rw [en4 r ⟨by omega⟩ h]; exact ⟨by simp only [cl, List.map_cons, List.map_nil]; exact l4 (u8_eq (by omega) (by omega)) (u8_eq (by omega) (by omega)) (u8_eq (by omega) (by omega)) (u8_eq (by omega) (by omega)), rfl⟩)
  obtain ⟨E, hE⟩ : ∃ E, Utf8.encode (r : Int) = E := ⟨_, rfl⟩
  rw [hE] at hcv ⊢
  clear hE
  go_enter Tryd.func50, Tryd.ntmps50
  go_wp2
  go_ret
  exact ⟨rfl, (Below.refl _ w).alloc (Nat.le_refl _) _⟩
theorem refPut_all (r : Nat) (hr : IsR r) (w : World) : Calls Tryd.prog 50 #[.int .i32 r] w fun e w' => e = .returned (.string (Utf8.encode r)) ∧ Below w.heap.size w w' := by
  have := hr.h
  by_cases h : r < 55296
  · exact refPut_any r w h
  by_cases h2 : r < 65536
  · exact refPut3b r w (by omega) h2
  · exact refPut4 r w (by omega) (by omega)
theorem cd_range : ∀ j, j < 32 → 0 ≤ Cd.getD j 0 ∧ Cd.getD j 0 < 55296 := by decide
theorem code_r (n : Int) : ∃ k : Nat, codeB n = k ∧ IsR k := by
  by_cases h : n ≤ 0 ∨ 1114111 < n ∨ (55296 ≤ n ∧ n ≤ 57343)
  · rw [code_no h]; exact ⟨65533, rfl, ⟨by omega⟩⟩
  by_cases h2 : 128 ≤ n ∧ n ≤ 159
  · have h3 := cd_range (n - 128).toNat (by omega)
    rw [code_tab (j := (n - 128).toNat) (by omega) (by omega)]
    exact ⟨(Cd.getD (n - 128).toNat 0).toNat, by omega, ⟨by omega⟩⟩
  · rw [code_self h h2]; exact ⟨n.toNat, by omega, ⟨by omega⟩⟩
theorem rput_at (c : Int) (hc : ∃ k : Nat, c = k ∧ IsR k) (E : ByteArray) (hE : Fact (Utf8.encode c = E)) (w : World) : Calls Tryd.prog 50 #[.int .i32 c] w fun e w' => e = .returned (.string E) ∧ Below w.heap.size w w' := by
  obtain ⟨k, rfl, hk⟩ := hc
  have := refPut_all k hk w
  rw [hE.out] at this
  exact this

theorem rdg_hit {b : UInt8} {hex : Bool} {bs d : Nat} (hb : bs = if hex = true then 16 else 10) (hd : dgt b = d) (h : d < bs) : rdg hex b.toNat = d := by
  unfold rdg
  have e : dgN b.toNat = d := hd
  rw [e, ← hb, if_pos h]
theorem rdg_miss {b : UInt8} {hex : Bool} {bs d : Nat} (hb : bs = if hex = true then 16 else 10) (hd : dgt b = d) (h : ¬ d < bs) : rdg hex b.toNat = -1 := by
  unfold rdg
  have e : dgN b.toNat = d := hd
  rw [e, ← hb, if_neg h]
theorem min_acc2 (acc b d m : Nat) (hm : min (acc * b + d) 1114112 = m) : (if (1114112 : Int) < (b : Int) * acc + d then (1114112 : Int) else (b : Int) * acc + d) = m := by
  have e : ((acc * b + d : Nat) : Int) = (b : Int) * acc + d := by rw [Nat.mul_comm]; push_cast; rfl
  rw [← e]
  split <;> omega
theorem mul_wrap2 {acc b : Nat} (h : acc ≤ 1114112) (hb : IsBase b) : wrap64 ((b : Int) * acc) = (b : Int) * acc := by
  rw [Int.mul_comm]; exact mul_wrap h hb
theorem mul_add_wrap2 {acc b d : Nat} (h : acc ≤ 1114112) (hb : IsBase b) (hd : d ≤ b) : wrap64 ((b : Int) * acc + d) = (b : Int) * acc + d := by
  rw [Int.mul_comm]; exact mul_add_wrap h hb hd

/-- the digits' loop: where it stands -/
structure RMid (l : List UInt8) (b V E k acc : Nat) : Prop where
  num : (numL b (l.drop k) acc).1 = V ∧ k + (numL b (l.drop k) acc).2 = E
  le : acc ≤ 1114112

end Go.Proofs.YtdniddiaiinggaaDoor
