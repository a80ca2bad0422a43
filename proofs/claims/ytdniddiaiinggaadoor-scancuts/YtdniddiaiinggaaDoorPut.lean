/- Put of the document's own: the bytes of a rune. -/
import Derived.Test.YtdniddiaiinggaaDoorCode
import Derived.Laws.IdiomStrings
namespace Go.Proofs.YtdniddiaiinggaaDoor
open Go.RowKit M
namespace M
structure IsR (r : Nat) : Prop where
  h : r < 55296 ∨ (57344 ≤ r ∧ r ≤ 1114111)
theorem valid_iff (r : Nat) : Utf8.valid (r : Int) = true ↔ IsR r := by
  unfold Utf8.valid
  simp only [Bool.or_eq_true, Bool.and_eq_true, decide_eq_true_eq]
  constructor
  · intro h; exact ⟨by omega⟩
  · intro h; have := h.h; omega

def ec (c : Nat) : List UInt8 :=
  if c < 128 then [UInt8.ofNat c]
  else if c < 2048 then [UInt8.ofNat (192 + c / 64), UInt8.ofNat (128 + c % 64)]
  else if c < 65536 then [UInt8.ofNat (224 + c / 4096), UInt8.ofNat (128 + c / 64 % 64), UInt8.ofNat (128 + c % 64)]
  else [UInt8.ofNat (240 + c / 262144), UInt8.ofNat (128 + c / 4096 % 64), UInt8.ofNat (128 + c / 64 % 64), UInt8.ofNat (128 + c % 64)]
set_option maxRecDepth 100000 in
theorem en_ec (r : Int) (c : Nat) (h : (if Utf8.valid r = true then r.toNat else Utf8.runeError) = c) : en r = ec c := by
  unfold en Utf8.encode ec
  simp only [h]
  by_cases h1 : c < 128
  · rw [if_pos h1, if_pos h1]
  rw [if_neg h1, if_neg h1]
  by_cases h2 : c < 2048
  · rw [if_pos h2, if_pos h2]
  rw [if_neg h2, if_neg h2]
  by_cases h3 : c < 65536
  · rw [if_pos h3, if_pos h3]
  rw [if_neg h3, if_neg h3]
theorem enc_c (r : Nat) (hr : IsR r) : (if Utf8.valid (r : Int) = true then (r : Int).toNat else Utf8.runeError) = r := by
  rw [if_pos ((valid_iff r).2 hr)]
  rfl
theorem en1 (r : Nat) (hr : IsR r) (h : r < 128) : en r = [UInt8.ofNat r] := by
  rw [en_ec r r (enc_c r hr)]
  unfold ec
  rw [if_pos h]
theorem en2 (r : Nat) (hr : IsR r) (h : 128 ≤ r) (h2 : r < 2048) : en r = [UInt8.ofNat (192 + r / 64), UInt8.ofNat (128 + r % 64)] := by
  rw [en_ec r r (enc_c r hr)]
  unfold ec
  rw [if_neg (by omega), if_pos h2]
theorem en3 (r : Nat) (hr : IsR r) (h : 2048 ≤ r) (h2 : r < 65536) : en r = [UInt8.ofNat (224 + r / 4096), UInt8.ofNat (128 + r / 64 % 64), UInt8.ofNat (128 + r % 64)] := by
  rw [en_ec r r (enc_c r hr)]
  unfold ec
  rw [if_neg (by omega), if_neg (by omega), if_pos h2]
theorem toNat_of (x : Nat) (h : x < 256) : (UInt8.ofNat x).toNat = x := by simp; omega

end M
/-- a list of bytes as cells -/
def cl (l : List UInt8) : List Value := l.map fun b => Value.int .u8 b.toNat
theorem cl_get (l : List UInt8) (j : Nat) : (cl l)[j]? = l[j]?.map fun b => Value.int .u8 b.toNat := by simp [cl]
theorem mk_en (r : Int) : (⟨(en r).toArray⟩ : ByteArray) = Utf8.encode r := Lib.mk_data (Utf8.encode r)
theorem conv_new (w : World) (r : Nat) (c : Array Value) (n : Nat) (h : c.toList = cl (en r) ∧ (en r).length = n) : (convert 46 9 (.slice (some ⟨w.heap.size, 0, none⟩) n n)).run Tryd.prog (w.alloc (.cells c 5)) = .ok (.string (Utf8.encode r)) (w.alloc (.cells c 5)) := by
  rw [← mk_en, ← h.2]
  refine run_convert_bytes_back _ 46 9 5 ⟨w.heap.size, 0, none⟩ _ (en r) Tryd.underlying46 Tryd.underlying5 Tryd.underlying9 (fun j hj => ?_)
  rw [Addr.add_lit, Nat.zero_add, World.cell?_alloc_mark, ← Array.getElem?_toList, h.1, cl_get, List.getElem?_eq_getElem hj]
  rfl
theorem u8_eq {x : Nat} {y : Int} (h : x < 256) (e : y = x) : Value.int .u8 y = .int .u8 ((UInt8.ofNat x).toNat : Nat) := by
  rw [toNat_of x h, e]

theorem l2 {a b c d : Value} (h1 : a = c) (h2 : b = d) : [a, b] = [c, d] := by rw [h1, h2]
theorem l3 {a b c d e f : Value} (h1 : a = d) (h2 : b = e) (h3 : c = f) : [a, b, c] = [d, e, f] := by rw [h1, h2, h3]
theorem l4 {a b c d e f g h : Value} (h1 : a = e) (h2 : b = f) (h3 : c = g) (h4 : d = h) : [a, b, c, d] = [e, f, g, h] := by rw [h1, h2, h3, h4]

set_option maxRecDepth 400000 in
set_option maxHeartbeats 2000000 in
theorem refPut1 (r : Nat) (w : World) (h : r < 128) : Calls Tryd.prog 50 #[.int .i32 r] w fun e w' => e = .returned (.string (Utf8.encode r)) ∧ Below w.heap.size w w' := by
  have hcv := conv_new w r #[.int .u8 (r : Int)] 1 (by rw [en1 r ⟨by omega⟩ h]; exact ⟨by simp only [cl, List.map_cons, List.map_nil]; rw [← u8_eq (x := r) (by omega) rfl], rfl⟩)
  obtain ⟨E, hE⟩ : ∃ E, Utf8.encode (r : Int) = E := ⟨_, rfl⟩
  rw [hE] at hcv ⊢
  clear hE
  go_enter Tryd.func50, Tryd.ntmps50
  go_wp2
  go_ret
  exact ⟨rfl, (Below.refl _ w).alloc (Nat.le_refl _) _⟩
set_option maxRecDepth 400000 in
set_option maxHeartbeats 2000000 in
theorem refPut2 (r : Nat) (w : World) (h : 128 ≤ r) (h2 : r < 2048) : Calls Tryd.prog 50 #[.int .i32 r] w fun e w' => e = .returned (.string (Utf8.encode r)) ∧ Below w.heap.size w w' := by
  have hcv := conv_new w r #[.int .u8 (192 + (r : Int) / 64), .int .u8 (128 + (r : Int) % 64)] 2 (by rw [en2 r ⟨by omega⟩ h h2]; exact ⟨by simp only [cl, List.map_cons, List.map_nil]; exact l2 (u8_eq (by omega) (by omega)) (u8_eq (by omega) (by omega)), rfl⟩)
  obtain ⟨E, hE⟩ : ∃ E, Utf8.encode (r : Int) = E := ⟨_, rfl⟩
  rw [hE] at hcv ⊢
  clear hE
  go_enter Tryd.func50, Tryd.ntmps50
  go_wp2
  go_ret
  exact ⟨rfl, (Below.refl _ w).alloc (Nat.le_refl _) _⟩
set_option maxRecDepth 400000 in
set_option maxHeartbeats 2000000 in
theorem refPut3 (r : Nat) (w : World) (h : 2048 ≤ r) (h2 : r < 55296) : Calls Tryd.prog 50 #[.int .i32 r] w fun e w' => e = .returned (.string (Utf8.encode r)) ∧ Below w.heap.size w w' := by
  have hcv := conv_new w r #[.int .u8 (224 + (r : Int) / 4096), .int .u8 (128 + (r : Int) / 64 % 64), .int .u8 (128 + (r : Int) % 64)] 3 (by rw [en3 r ⟨by omega⟩ h (by omega)]; exact ⟨by simp only [cl, List.map_cons, List.map_nil]; exact l3 (u8_eq (by omega) (by omega)) (u8_eq (by omega) (by omega)) (u8_eq (by omega) (by omega)), rfl⟩)
  obtain ⟨E, hE⟩ : ∃ E, Utf8.encode (r : Int) = E := ⟨_, rfl⟩
  rw [hE] at hcv ⊢
  clear hE
  go_enter Tryd.func50, Tryd.ntmps50
  go_wp2
  go_ret
  exact ⟨rfl, (Below.refl _ w).alloc (Nat.le_refl _) _⟩

theorem refPut_any (r : Nat) (w : World) (h : r < 55296) : Calls Tryd.prog 50 #[.int .i32 r] w fun e w' => e = .returned (.string (Utf8.encode r)) ∧ Below w.heap.size w w' := by
  by_cases c1 : r < 128
  · exact refPut1 r w c1
  by_cases c2 : r < 2048
  · exact refPut2 r w (by omega) c2
  · exact refPut3 r w (by omega) h
theorem tab5 : Rf.all (fun e => decide (0 ≤ e.2.1) && decide (e.2.1 < 55296)) = true := by kernel_rfl
theorem enc_eq (r : Int) (E : ByteArray) (h : E.data.toList = en r) : Utf8.encode r = E := by
  unfold en at h
  apply ByteArray.ext
  apply Array.toList_inj.1
  rw [h]
theorem refPut_nat (k : Nat) (hk : k < 55296) (E : ByteArray) (hE : Utf8.encode (k : Int) = E) (w : World) : Calls Tryd.prog 50 #[.int .i32 k] w fun e w' => e = .returned (.string E) ∧ Below w.heap.size w w' := by
  have h2 := refPut_any k w hk
  rw [hE] at h2
  exact h2
theorem sign_nat {e : List UInt8 × Int × Bool} (he : e ∈ Rf) : ∃ k : Nat, e.2.1 = k ∧ k < 55296 := by
  have h1 := List.all_eq_true.1 tab5 e he
  simp only [Bool.and_eq_true, decide_eq_true_eq] at h1
  exact ⟨e.2.1.toNat, by omega, by omega⟩
theorem refPut_at (r : Int) (hr : ∃ k : Nat, r = k ∧ k < 55296) (E : ByteArray) (hE : Fact (E.data.toList = en r)) (w : World) : Calls Tryd.prog 50 #[.int .i32 r] w fun e w' => e = .returned (.string E) ∧ Below w.heap.size w w' := by
  obtain ⟨k, rfl, hk⟩ := hr
  exact refPut_nat k hk E (enc_eq _ E hE.out) w
end Go.Proofs.YtdniddiaiinggaaDoor
