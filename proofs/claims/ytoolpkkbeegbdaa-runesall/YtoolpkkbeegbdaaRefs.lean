/- The document's own Blank, Letter, Put and Lower answer as the program's. -/
import Derived.Test.YtoolpkkbeegbdaaAts
namespace Go.Proofs.Ytoolpkkbeegbdaa
open Go.RowKit M

theorem refBlank_any (c : Nat) (w : World) : Calls Try.prog 19 #[.int .u8 c] w fun e w' => e = .returned (.bool (blank c)) ∧ w' = w := by
  go_enter Try.func19, Try.ntmps19
  go_wp2
  all_goals (go_ret; exact ⟨ret_bool (by rw [Bool.eq_iff_iff]; simp [blank]; omega), rfl⟩)

theorem refLetter_any (c : Nat) (w : World) : Calls Try.prog 21 #[.int .u8 c] w fun e w' => e = .returned (.bool (letter c)) ∧ w' = w := by
  go_enter Try.func21, Try.ntmps21
  go_wp2
  all_goals (go_ret; exact ⟨ret_bool (by rw [Bool.eq_iff_iff]; simp [letter]; omega), rfl⟩)

set_option maxRecDepth 20000 in
set_option maxHeartbeats 1000000 in
theorem refLower_any (s : ByteArray) (w : World) (hs : s.size ≤ 20000) : Calls Try.prog 15 #[.string s] w fun e w' => e = .returned (.string ⟨(L s.data.toList).toArray⟩) ∧ Below w.heap.size w w' := by
  have hcv := run_bytes_of_string (P := Try.prog) w 9 34 5 s Try.underlying9 Try.underlying34 Try.underlying5
  have hcap := grownCap_ge w s.size 0 5
  obtain ⟨cp, hcp⟩ : ∃ cp, grownCap w s.size 0 5 = cp := ⟨_, rfl⟩
  rw [hcp] at hcv hcap
  have hlow := low_start w s cp
  obtain ⟨W, hW⟩ : ∃ W, w.drew.alloc (.cells (bytesRow s cp) 5 ((bytesRow s cp).size, (bytesRow s cp).size + 1)) = W := ⟨_, rfl⟩
  have hb : Below w.heap.size w W := by rw [← hW]; exact (Below.refl _ w).drew.alloc (Nat.le_refl _) _
  rw [hW] at hcv hlow
  clear hW hcp
  go_enter Try.func15, Try.ntmps15
  go_wp2
  go_loopw [4] (fun i wx => ∃ k : Nat, i = .int .i64 k ∧ k ≤ s.size ∧ Below w.heap.size w wx ∧ Low wx w.heap.size s.data.toList k) (fun i _ => s.size - (intOf i).toNat)
  case atStart => exact ⟨0, rfl, Nat.zero_le _, hb, hlow⟩
  case round =>
    obtain ⟨k, rfl, hk, hbr, hl⟩ := hrel
    by_cases hlt : k < s.size
    · obtain ⟨b, hbk⟩ : ∃ b, s.data.toList[k]? = some b := ⟨_, List.getElem?_eq_getElem (by rw [← Lib.size_eq]; exact hlt)⟩
      have hc := hl.cells k b hbk
      rw [if_neg (Nat.lt_irrefl _)] at hc
      have hf := hl.free k (by rw [← Lib.size_eq]; exact hlt)
      have HB := Fact.mk hbk
      have HL := Fact.mk hl
      clear hbk hl
      go_wp2
      · have h1 : (65 : Int) ≤ (b.toNat : Int) := by assumption
        have h2 : (b.toNat : Int) ≤ 90 := by assumption
        go_roundw
        case rel => exact ⟨k + 1, by go_num, by omega, hbr.setCell (Nat.le_refl _) _, low_put HL.out HB.out (by have := lw_hit b h1 h2; omega)⟩
        case measure => simp [intOf]; omega
      · have h2 : (90 : Int) < (b.toNat : Int) := by assumption
        go_roundw
        case rel => exact ⟨k + 1, by go_num, by omega, hbr, low_keep HL.out HB.out (by unfold lw; rw [if_neg (by omega)])⟩
        case measure => simp [intOf]; omega
      · have h2 : ¬ (65 : Int) ≤ (b.toNat : Int) := by assumption
        go_roundw
        case rel => exact ⟨k + 1, by go_num, by omega, hbr, low_keep HL.out HB.out (by unfold lw; rw [if_neg (by omega)])⟩
        case measure => simp [intOf]; omega
    · have hcv2 := low_conv (cp := cp) hl hlt
      clear hl hlow hcv
      go_wp2
      go_ret
      exact ⟨rfl, hbr⟩

theorem mk_en (r : Int) : (⟨(en r).toArray⟩ : ByteArray) = Utf8.encode r := Lib.mk_data (Utf8.encode r)
theorem conv_new (w : World) (r : Nat) (c : Array Value) (n : Nat) (h : c.toList = cl (en r) ∧ (en r).length = n) : (convert 34 9 (.slice (some ⟨w.heap.size, 0, none⟩) n n)).run Try.prog (w.alloc (.cells c 5)) = .ok (.string (Utf8.encode r)) (w.alloc (.cells c 5)) := by
  rw [← mk_en, ← h.2]
  refine run_convert_bytes_back _ 34 9 5 ⟨w.heap.size, 0, none⟩ _ (en r) Try.underlying34 Try.underlying5 Try.underlying9 (fun j hj => ?_)
  rw [Addr.add_lit, Nat.zero_add, World.cell?_alloc_mark, ← Array.getElem?_toList, h.1, cl_get, List.getElem?_eq_getElem hj]
  rfl
theorem u8_eq {x : Nat} {y : Int} (h : x < 256) (e : y = x) : Value.int .u8 y = .int .u8 ((UInt8.ofNat x).toNat : Nat) := by
  rw [toNat_of x h, e]

theorem l2 {a b c d : Value} (h1 : a = c) (h2 : b = d) : [a, b] = [c, d] := by rw [h1, h2]
theorem l3 {a b c d e f : Value} (h1 : a = d) (h2 : b = e) (h3 : c = f) : [a, b, c] = [d, e, f] := by rw [h1, h2, h3]
theorem l4 {a b c d e f g h : Value} (h1 : a = e) (h2 : b = f) (h3 : c = g) (h4 : d = h) : [a, b, c, d] = [e, f, g, h] := by rw [h1, h2, h3, h4]

set_option maxRecDepth 400000 in
set_option maxHeartbeats 2000000 in
theorem refPut1 (r : Nat) (w : World) (h : r < 128) : Calls Try.prog 17 #[.int .i32 r] w fun e w' => e = .returned (.string (Utf8.encode r)) ∧ Below w.heap.size w w' := by
  have hcv := conv_new w r #[.int .u8 (r : Int)] 1 (by rw [en1 r ⟨by omega⟩ h]; exact ⟨by simp only [cl, List.map_cons, List.map_nil]; rw [← u8_eq (x := r) (by omega) rfl], rfl⟩)
  obtain ⟨E, hE⟩ : ∃ E, Utf8.encode (r : Int) = E := ⟨_, rfl⟩
  rw [hE] at hcv ⊢
  clear hE
  go_enter Try.func17, Try.ntmps17
  go_wp2
  go_ret
  exact ⟨rfl, (Below.refl _ w).alloc (Nat.le_refl _) _⟩
set_option maxRecDepth 400000 in
set_option maxHeartbeats 2000000 in
theorem refPut2 (r : Nat) (w : World) (h : 128 ≤ r) (h2 : r < 2048) : Calls Try.prog 17 #[.int .i32 r] w fun e w' => e = .returned (.string (Utf8.encode r)) ∧ Below w.heap.size w w' := by
  have hcv := conv_new w r #[.int .u8 (192 + (r : Int) / 64), .int .u8 (128 + (r : Int) % 64)] 2 (by rw [en2 r ⟨by omega⟩ h h2]; exact ⟨by simp only [cl, List.map_cons, List.map_nil]; exact l2 (u8_eq (by omega) (by omega)) (u8_eq (by omega) (by omega)), rfl⟩)
  obtain ⟨E, hE⟩ : ∃ E, Utf8.encode (r : Int) = E := ⟨_, rfl⟩
  rw [hE] at hcv ⊢
  clear hE
  go_enter Try.func17, Try.ntmps17
  go_wp2
  go_ret
  exact ⟨rfl, (Below.refl _ w).alloc (Nat.le_refl _) _⟩
set_option maxRecDepth 400000 in
set_option maxHeartbeats 2000000 in
theorem refPut3 (r : Nat) (w : World) (h : 2048 ≤ r) (h2 : r < 55296) : Calls Try.prog 17 #[.int .i32 r] w fun e w' => e = .returned (.string (Utf8.encode r)) ∧ Below w.heap.size w w' := by
  have hcv := conv_new w r #[.int .u8 (224 + (r : Int) / 4096), .int .u8 (128 + (r : Int) / 64 % 64), .int .u8 (128 + (r : Int) % 64)] 3 (by rw [en3 r ⟨by omega⟩ h (by omega)]; exact ⟨by simp only [cl, List.map_cons, List.map_nil]; exact l3 (u8_eq (by omega) (by omega)) (u8_eq (by omega) (by omega)) (u8_eq (by omega) (by omega)), rfl⟩)
  obtain ⟨E, hE⟩ : ∃ E, Utf8.encode (r : Int) = E := ⟨_, rfl⟩
  rw [hE] at hcv ⊢
  clear hE
  go_enter Try.func17, Try.ntmps17
  go_wp2
  go_ret
  exact ⟨rfl, (Below.refl _ w).alloc (Nat.le_refl _) _⟩
set_option maxRecDepth 400000 in
set_option maxHeartbeats 2000000 in
theorem refPut3b (r : Nat) (w : World) (h : 57344 ≤ r) (h2 : r < 65536) : Calls Try.prog 17 #[.int .i32 r] w fun e w' => e = .returned (.string (Utf8.encode r)) ∧ Below w.heap.size w w' := by
  have hcv := conv_new w r #[.int .u8 (224 + (r : Int) / 4096), .int .u8 (128 + (r : Int) / 64 % 64), .int .u8 (128 + (r : Int) % 64)] 3 (by rw [en3 r ⟨by omega⟩ (by omega) h2]; exact ⟨by simp only [cl, List.map_cons, List.map_nil]; exact l3 (u8_eq (by omega) (by omega)) (u8_eq (by omega) (by omega)) (u8_eq (by omega) (by omega)), rfl⟩)
  obtain ⟨E, hE⟩ : ∃ E, Utf8.encode (r : Int) = E := ⟨_, rfl⟩
  rw [hE] at hcv ⊢
  clear hE
  go_enter Try.func17, Try.ntmps17
  go_wp2
  go_ret
  exact ⟨rfl, (Below.refl _ w).alloc (Nat.le_refl _) _⟩
set_option maxRecDepth 400000 in
set_option maxHeartbeats 2000000 in
theorem refPut4 (r : Nat) (w : World) (h : 65536 ≤ r) (h2 : r ≤ 1114111) : Calls Try.prog 17 #[.int .i32 r] w fun e w' => e = .returned (.string (Utf8.encode r)) ∧ Below w.heap.size w w' := by
  have hcv := conv_new w r #[.int .u8 (240 + (r : Int) / 262144), .int .u8 (128 + (r : Int) / 4096 % 64), .int .u8 (128 + (r : Int) / 64 % 64), .int .u8 (128 + (r : Int) % 64)] 4 (by rw [en4 r ⟨by omega⟩ h]; exact ⟨by simp only [cl, List.map_cons, List.map_nil]; exact l4 (u8_eq (by omega) (by omega)) (u8_eq (by omega) (by omega)) (u8_eq (by omega) (by omega)) (u8_eq (by omega) (by omega)), rfl⟩)
  obtain ⟨E, hE⟩ : ∃ E, Utf8.encode (r : Int) = E := ⟨_, rfl⟩
  rw [hE] at hcv ⊢
  clear hE
  go_enter Try.func17, Try.ntmps17
  go_wp2
  go_ret
  exact ⟨rfl, (Below.refl _ w).alloc (Nat.le_refl _) _⟩

theorem enc_bad (r : Int) (h : Utf8.valid r = false) : Utf8.encode r = ⟨#[239, 191, 189]⟩ := by rw [← mk_en, en_none r h]
theorem valid_no {n : Int} (h : n < 0 ∨ n > 1114111 ∨ (55296 ≤ n ∧ n ≤ 57343)) : Utf8.valid n = false := by
  cases hv : Utf8.valid n
  · rfl
  · exfalso
    unfold Utf8.valid at hv
    simp only [Bool.or_eq_true, Bool.and_eq_true, decide_eq_true_eq] at hv
    omega
set_option maxRecDepth 20000 in
set_option maxHeartbeats 1000000 in
theorem refPut0 (r : Int) (w : World) (h1 : -2147483648 ≤ r) (h2 : r ≤ 2147483647) (h : r < 0 ∨ r > 1114111 ∨ (55296 ≤ r ∧ r ≤ 57343)) : Calls Try.prog 17 #[.int .i32 r] w fun e w' => e = .returned (.string (Utf8.encode r)) ∧ Below w.heap.size w w' := by
  rw [enc_bad r (valid_no h)]
  by_cases c1 : r < 0
  · clear h
    go_enter Try.func17, Try.ntmps17
    go_wp2
    go_ret
    exact ⟨rfl, Below.refl _ w⟩
  by_cases c2 : r > 1114111
  · clear h
    go_enter Try.func17, Try.ntmps17
    go_wp2
    go_ret
    exact ⟨rfl, Below.refl _ w⟩
  have c3 : 55296 ≤ r := by omega
  have c4 : r ≤ 57343 := by omega
  clear h
  go_enter Try.func17, Try.ntmps17
  go_wp2
  go_ret
  exact ⟨rfl, Below.refl _ w⟩
theorem refPut_any (r : Int) (w : World) (h1 : -2147483648 ≤ r) (h2 : r ≤ 2147483647) : Calls Try.prog 17 #[.int .i32 r] w fun e w' => e = .returned (.string (Utf8.encode r)) ∧ Below w.heap.size w w' := by
  by_cases h : r < 0 ∨ r > 1114111 ∨ (55296 ≤ r ∧ r ≤ 57343)
  · exact refPut0 r w h1 h2 h
  obtain ⟨k, rfl⟩ : ∃ k : Nat, r = k := ⟨r.toNat, by omega⟩
  by_cases c1 : k < 128
  · exact refPut1 k w c1
  by_cases c2 : k < 2048
  · exact refPut2 k w (by omega) c2
  by_cases c3 : k < 55296
  · exact refPut3 k w (by omega) c3
  by_cases c4 : k < 65536
  · exact refPut3b k w (by omega) c4
  · exact refPut4 k w (by omega) (by omega)
end Go.Proofs.Ytoolpkkbeegbdaa
