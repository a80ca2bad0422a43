/- What the document's own answers return (Turn, Mix, Signed, Eight of the reference), for numbers within their kinds; Eight makes new memory alone. -/
import Derived.Test.YtmndedadopnfjaaCalls2
import Derived.Test.YtmndedadopnfjaaMore2
import Derived.Laws.BytesArg
namespace Go.Proofs.Ytmndedadopnfjaa
open Go.ChangeShapes Go.WideShapes Go.ChangeAt Go.RowKit M
theorem bit_any (x : BitVec 64) (i : Nat) (w : World) (hi : i < 64) :
    Calls Try.prog 23 #[.int .u64 (up x), .int .i64 i] w fun e w' => e = .returned (.int .u64 (up (b1 x i))) ∧ w' = w := by
  have a1 := and_b1 x i (by omega)
  go_enter Try.func23, Try.ntmps23
  go_wp2
  go_ret
  exact ⟨rfl, rfl⟩
theorem val_int {k : IntKind} {a b : Int} (h : a = b) : Value.int k a = .int k b := by rw [h]
set_option maxHeartbeats 400000 in
theorem refturn_pos (x : BitVec 64) (n : Int) (w : World) (hn : 0 ≤ n.tmod 64) :
    Calls Try.prog 11 #[.int .u64 (up x), .int .i64 n] w fun e w' => e = .returned (.int .u64 (up (rot x n))) ∧ w' = w := by
  have e := place_pos n 64 hn
  obtain ⟨k, hk, hl, HK⟩ : ∃ k : Nat, n.tmod 64 = (k : Int) ∧ k < 64 ∧ Hid (k = (n % 64).toNat) := ⟨(n % 64).toNat, by omega, by omega, rfl⟩
  clear e hn
  go_enter Try.func11, Try.ntmps11
  go_wp2
  go_loop [6, 7] (fun a i => ∃ j : Nat, j ≤ 64 ∧ i = .int .i64 j ∧ a = .int .u64 (up (acc x (fun i => i) (fun i => (i + k) % 64) j))) (fun _ i => 64 - (intOf i).toNat)
  case atStart => exact ⟨0, by omega, rfl, rfl⟩
  case round =>
    obtain ⟨j, hj, rfl, rfl⟩ := hrel
    by_cases hlt : j < 64
    · go_wp2_with (go_at_call 23; refine (bit_any _ _ _ hlt).mono ?_; rintro e w' ⟨rfl, rfl⟩)
      go_round
      case rel => exact ⟨j + 1, by omega, by go_num, val_int (acc_run x (fun i => i) (fun i => (i + k) % 64) j (by show (j + k) % 64 ≤ 64; omega))⟩
      case measure => simp [intOf]; omega
    · obtain rfl : j = 64 := by omega
      go_wp2
      go_ret
      exact ⟨ret_int (by rw [HK.out, acc_turn]), rfl⟩
set_option maxHeartbeats 400000 in
theorem refturn_neg (x : BitVec 64) (n : Int) (w : World) (hn : n.tmod 64 < 0) :
    Calls Try.prog 11 #[.int .u64 (up x), .int .i64 n] w fun e w' => e = .returned (.int .u64 (up (rot x n))) ∧ w' = w := by
  have e := place_neg n 64 (by decide) hn
  obtain ⟨t, ht, k, hk, hl, hneg, HK⟩ : ∃ t : Int, n.tmod 64 = t ∧ ∃ k : Nat, t + 64 = (k : Int) ∧ k < 64 ∧ t < 0 ∧ Hid (k = (n % 64).toNat) := ⟨_, rfl, (n % 64).toNat, by omega, by omega, hn, rfl⟩
  clear e hn
  go_enter Try.func11, Try.ntmps11
  go_wp2
  go_loop [6, 7] (fun a i => ∃ j : Nat, j ≤ 64 ∧ i = .int .i64 j ∧ a = .int .u64 (up (acc x (fun i => i) (fun i => (i + k) % 64) j))) (fun _ i => 64 - (intOf i).toNat)
  case atStart => exact ⟨0, by omega, rfl, rfl⟩
  case round =>
    obtain ⟨j, hj, rfl, rfl⟩ := hrel
    by_cases hlt : j < 64
    · go_wp2_with (go_at_call 23; refine (bit_any _ _ _ hlt).mono ?_; rintro e w' ⟨rfl, rfl⟩)
      go_round
      case rel => exact ⟨j + 1, by omega, by go_num, val_int (acc_run x (fun i => i) (fun i => (i + k) % 64) j (by show (j + k) % 64 ≤ 64; omega))⟩
      case measure => simp [intOf]; omega
    · obtain rfl : j = 64 := by omega
      go_wp2
      go_ret
      exact ⟨ret_int (by rw [HK.out, acc_turn]), rfl⟩
theorem refturn_any (v n : Int) (w : World) (hu : IsU v) :
    Calls Try.prog 11 #[.int .u64 v, .int .i64 n] w fun e w' => e = .returned (.int .u64 (tn v n)) ∧ w' = w := by
  have h : tn v n = up (rot (dn v) n) := rfl
  have e := up_dn v hu.lo hu.hi
  by_cases hn : n.tmod 64 < 0
  · have := refturn_neg (dn v) n w hn
    rwa [e, ← h] at this
  · have := refturn_pos (dn v) n w (by omega)
    rwa [e, ← h] at this
theorem refmix_any (h v : Int) (w : World) (hh : IsU h) (hu : IsU v) :
    Calls Try.prog 13 #[.int .u64 h, .int .u64 v] w fun e w' => e = .returned (.int .u64 (mx h v)) ∧ w' = w := by
  obtain ⟨x, hx, HX⟩ : ∃ x : BitVec 64, up x = h ∧ Hid (dn h = x) := ⟨dn h, up_dn h hh.lo hh.hi, rfl⟩
  obtain ⟨y, hy, HY⟩ : ∃ y : BitVec 64, up y = v ∧ Hid (dn v = y) := ⟨dn v, up_dn v hu.lo hu.hi, rfl⟩
  subst hx hy
  have a1 := bits_xor x y
  have a2 := mul_up (x ^^^ y)
  have a4 := bits_xor ((x ^^^ y) * mixC) (((x ^^^ y) * mixC) >>> 29)
  rw [← shr29] at a4
  go_enter Try.func13, Try.ntmps13
  go_wp2_with (go_at_call 11; refine (refturn_any _ _ _ (up_u _)).mono ?_; rintro e w' ⟨rfl, rfl⟩)
  go_ret
  refine ⟨ret_int ?_, ?_⟩
  · unfold tn mx mxB; rw [dn_up, HX.out, HY.out]
  · rfl
theorem wrap64_toInt (v : Int) : wrap64 v = (dn v).toInt := by
  rw [← wrap_i64_toInt, IntKind.wrap_i64]; simp only [wrap64]
theorem bit_nought (x : BitVec 64) (w : World) :
    Calls Try.prog 23 #[.int .u64 (up x), .int .i64 0] w fun e w' => e = .returned (.int .u64 (up (b1 x 0))) ∧ w' = w :=
  bit_any x 0 w (by decide)
set_option maxHeartbeats 400000 in
theorem refsigned_in (x : BitVec 64) (d : Nat) (w : World) (h1 : d < 64) :
    Calls Try.prog 15 #[.int .u64 (up x), .int .i64 (↑d + 1)] w fun e w' => e = .returned (.int .i64 (sgv x d)) ∧ w' = w := by
  go_enter Try.func15, Try.ntmps15
  go_wp2
  go_loop [6, 7] (fun a i => ∃ j : Nat, j ≤ 64 ∧ i = .int .i64 j ∧ a = .int .u64 (up (accS x d j))) (fun _ i => 64 - (intOf i).toNat)
  case atStart => exact ⟨0, by omega, rfl, rfl⟩
  case round =>
    obtain ⟨j, hj, rfl, rfl⟩ := hrel
    by_cases hlt : j < 64
    · by_cases hm : j ≤ d
      · go_wp2_with (go_at_call 23; refine (bit_any _ _ _ (by omega)).mono ?_; rintro e w' ⟨rfl, rfl⟩)
        go_round
        case rel => exact ⟨j + 1, by omega, by go_num, val_int (accS_low x d j hm (by omega))⟩
        case measure => simp [intOf]; omega
      · go_wp2_with (go_at_call 23; refine (bit_any _ d _ h1).mono ?_; rintro e w' ⟨rfl, rfl⟩)
        go_round
        case rel => exact ⟨j + 1, by omega, by go_num, val_int (accS_high x d j (by omega) (by omega))⟩
        case measure => simp [intOf]; omega
    · obtain rfl : j = 64 := by omega
      go_wp2
      go_ret
      exact ⟨ret_int (by rw [wrap64_toInt, accS_end x d (by omega)]), rfl⟩
set_option maxHeartbeats 400000 in
theorem refsigned_low (x : BitVec 64) (n : Int) (w : World) (h1 : n < 1) :
    Calls Try.prog 15 #[.int .u64 (up x), .int .i64 n] w fun e w' => e = .returned (.int .i64 (sgv x 0)) ∧ w' = w := by
  go_enter Try.func15, Try.ntmps15
  go_wp2
  go_loop [6, 7] (fun a i => ∃ j : Nat, j ≤ 64 ∧ i = .int .i64 j ∧ a = .int .u64 (up (accS x 0 j))) (fun _ i => 64 - (intOf i).toNat)
  case atStart => exact ⟨0, by omega, rfl, rfl⟩
  case round =>
    obtain ⟨j, hj, rfl, rfl⟩ := hrel
    by_cases hlt : j < 64
    · by_cases hm : j = 0
      · subst hm
        go_wp2_with (go_at_call 23; refine (bit_nought _ _).mono ?_; rintro e w' ⟨rfl, rfl⟩)
        go_round
        case rel => exact ⟨1, by omega, by go_num, val_int (by have h := accS_low x 0 0 (by omega) (by omega); rwa [Int.pow_zero, Int.mul_one] at h)⟩
        case measure => simp [intOf]
      · have hp : 1 ≤ j := by omega
        clear hm
        go_wp2_with (go_at_call 23; refine (bit_nought _ _).mono ?_; rintro e w' ⟨rfl, rfl⟩)
        go_round
        case rel => exact ⟨j + 1, by omega, by go_num, val_int (accS_high x 0 j (by omega) (by omega))⟩
        case measure => simp [intOf]; omega
    · obtain rfl : j = 64 := by omega
      go_wp2
      go_ret
      exact ⟨ret_int (by rw [wrap64_toInt, accS_end x 0 (by omega)]), rfl⟩
set_option maxHeartbeats 400000 in
theorem refsigned_high (x : BitVec 64) (n : Int) (w : World) (h1 : 64 < n) :
    Calls Try.prog 15 #[.int .u64 (up x), .int .i64 n] w fun e w' => e = .returned (.int .i64 (sgv x 63)) ∧ w' = w := by
  go_enter Try.func15, Try.ntmps15
  go_wp2
  go_loop [6, 7] (fun a i => ∃ j : Nat, j ≤ 64 ∧ i = .int .i64 j ∧ a = .int .u64 (up (accS x 63 j))) (fun _ i => 64 - (intOf i).toNat)
  case atStart => exact ⟨0, by omega, rfl, rfl⟩
  case round =>
    obtain ⟨j, hj, rfl, rfl⟩ := hrel
    by_cases hlt : j < 64
    · go_wp2_with (go_at_call 23; refine (bit_any _ _ _ (by omega)).mono ?_; rintro e w' ⟨rfl, rfl⟩)
      go_round
      case rel => exact ⟨j + 1, by omega, by go_num, val_int (accS_low x 63 j (by omega) (by omega))⟩
      case measure => simp [intOf]; omega
    · obtain rfl : j = 64 := by omega
      go_wp2
      go_ret
      exact ⟨ret_int (by rw [wrap64_toInt, accS_end x 63 (by omega)]), rfl⟩
theorem refsigned_any (v n : Int) (w : World) (hu : IsU v) :
    Calls Try.prog 15 #[.int .u64 v, .int .i64 n] w fun e w' => e = .returned (.int .i64 (sg v n)) ∧ w' = w := by
  have e := up_dn v hu.lo hu.hi
  unfold sg ct
  by_cases h1 : n < 1
  · rw [if_pos h1]
    have := refsigned_low (dn v) n w h1
    rwa [e] at this
  · by_cases h2 : 64 < n
    · rw [if_neg h1, if_pos h2]
      have := refsigned_high (dn v) n w h2
      rwa [e] at this
    · rw [if_neg h1, if_neg h2]
      obtain ⟨d, rfl⟩ : ∃ d : Nat, n = (d : Int) + 1 := ⟨(n - 1).toNat, by omega⟩
      have := refsigned_in (dn v) d w (by omega)
      rw [e] at this
      rwa [show ((d : Int) + 1).toNat = d + 1 by omega]
/-- the i-th byte of a number -/
def byteI (v : Int) (i : Nat) : Int := v / 2 ^ (8 * i) % 256
def rowI (v : Int) (k : Nat) : List Value := (List.range k).map fun i => .int .u8 (byteI v i)
theorem rowI_succ (v : Int) (k : Nat) : rowI v k ++ [.int .u8 (byteI v k)] = rowI v (k + 1) := by simp [rowI, List.range_succ]
theorem Try.info5 : (Try.prog.info? 5).map (fun i => (i.zero, i.size, i.bytes)) = some (some (.int .u8 0), 1, 1) := by kernel_rfl
set_option maxHeartbeats 1000000 in
theorem eight_any (v : Int) (w : World) (hu : IsU v) :
    Calls Try.prog 16 #[.int .u64 v] w fun e w' => ∃ g cap, e = .returned (.slice (some ⟨g, 0, none⟩) 8 cap) ∧ w'.ownsRow w.heap.size 5 1 (.slice (some ⟨g, 0, none⟩) 8 cap) 8 (rowI v 8) ∧ Below w.heap.size w w' := by
  obtain ⟨h0, h1⟩ := hu
  obtain ⟨i0, hi, hz0, hz1, hz2⟩ := info_parts Try.info5
  go_enter Try.func16, Try.ntmps16
  go_wp2
  go_loopw [3, 4] (fun s i wr => ∃ k : Nat, k ≤ 8 ∧ i = .int .i64 k ∧ wr.ownsRow w.heap.size 5 1 s k (rowI v k) ∧ Below w.heap.size w wr) (fun _ i _ => 8 - (intOf i).toNat)
  case atStart => exact ⟨0, by omega, rfl, World.ownsRow_nil _ _ _ _, Below.refl _ _⟩
  case round =>
    obtain ⟨k, hk, rfl, hown, hnx⟩ := hrel
    by_cases hlt : k < 8
    · go_wp2_with (at_builtin; refine wpList_append_own _ rfl _ _ 28 rfl w.heap.size 5 i0 (.int .u8 0) 1 1 Try.underlying28 hi hz0 hz1 hz2 rfl (by decide) _ _ _ rfl (hown.alloc _) ⟨wr.heap.size, 0, none⟩ 1 1 [.int .u8 (byteI v k)] rfl rfl ?c1 ?c2 ?c3 ?c4 ?c5 ?_)
      case c1 => exact cell_one_new _ _ _
      case c2 => intro u hu; simp at hu; subst hu; rfl
      case c3 => unfold maxLen; omega
      case c4 => omega
      case c5 => have := hnx.size; simp; omega
      · intro v' w1 hown' hgrow _
        rw [rowI_succ] at hown'
        have hsz := hnx.size
        have hbel : Below w.heap.size w w1 := (hnx.alloc hsz _).grown hgrow (by simp; omega) (fun b hb => (hown.lt b hb).1)
        clear hgrow hown
        go_wp2
        go_roundw
        case rel => exact ⟨k + 1, by omega, by go_num, hown', hbel⟩
        case measure => simp [intOf]; omega
    · obtain rfl : k = 8 := by omega
      obtain ⟨g, cap, hv⟩ : ∃ g cap, u3 = .slice (some ⟨g, 0, none⟩) 8 cap := by
        rcases hown with ⟨_, ⟨_, h⟩ | ⟨g, cap, cur, h, _⟩⟩
        · omega
        · exact ⟨g, cap, h⟩
      subst hv
      go_wp2
      go_ret
      exact ⟨g, cap, rfl, hown, hnx⟩
/-- the string of a number's eight bytes -/
def str8 (v : Int) : ByteArray := strOfNums [v % 256, v / 256 % 256, v / 65536 % 256, v / 16777216 % 256, v / 4294967296 % 256, v / 1099511627776 % 256, v / 281474976710656 % 256, v / 72057594037927936]
theorem Try.string9 : Try.prog.underlying 9 = some .string := Try.underlying9
theorem conv8 (v : Int) (W : World) (b cap : Nat) (h : ∀ i, i < 8 → W.cell? ⟨b, i, none⟩ = (#[.int .u8 (v % 256), .int .u8 (v / 256 % 256), .int .u8 (v / 65536 % 256), .int .u8 (v / 16777216 % 256), .int .u8 (v / 4294967296 % 256), .int .u8 (v / 1099511627776 % 256), .int .u8 (v / 281474976710656 % 256), .int .u8 (v / 72057594037927936)] : Array Value)[i]?) :
    (convert 28 9 (.slice (some ⟨b, 0, none⟩) 8 cap)).run Try.prog W = .ok (.string (str8 v)) W := by
  refine run_convert_bytes_arg W 28 5 Try.underlying28 Try.underlying5 b 0 8 cap _ rfl (fun i hi => ?_) 9 Try.string9
  rw [Nat.zero_add, h i hi]
  rcases i with _ | _ | _ | _ | _ | _ | _ | _ | i
  all_goals first | rfl | omega
theorem rowI_cells (v : Int) (hu : IsU v) (i : Nat) (hi : i < 8) : (rowI v 8)[i]? = (#[.int .u8 (v % 256), .int .u8 (v / 256 % 256), .int .u8 (v / 65536 % 256), .int .u8 (v / 16777216 % 256), .int .u8 (v / 4294967296 % 256), .int .u8 (v / 1099511627776 % 256), .int .u8 (v / 281474976710656 % 256), .int .u8 (v / 72057594037927936)] : Array Value)[i]? := by
  have h0 := hu.lo
  have h1 := hu.hi
  have e0 : byteI v 0 = v % 256 := by unfold byteI; simp
  have e1 : byteI v 1 = v / 256 % 256 := by unfold byteI; simp
  have e2 : byteI v 2 = v / 65536 % 256 := by unfold byteI; simp
  have e3 : byteI v 3 = v / 16777216 % 256 := by unfold byteI; simp
  have e4 : byteI v 4 = v / 4294967296 % 256 := by unfold byteI; simp
  have e5 : byteI v 5 = v / 1099511627776 % 256 := by unfold byteI; simp
  have e6 : byteI v 6 = v / 281474976710656 % 256 := by unfold byteI; simp
  have e7 : byteI v 7 = v / 72057594037927936 := by unfold byteI; simp; omega
  rcases i with _ | _ | _ | _ | _ | _ | _ | _ | i
  all_goals first | omega | simp [rowI, List.range_succ, e0, e1, e2, e3, e4, e5, e6, e7]
theorem keep1 {w W w' : World} {B : Nat} {v : Int} (hb : Below W.heap.size W w')
    (h : (Below w.heap.size w W ∧ w.heap.size ≤ B ∧ B < W.heap.size) ∧ (∀ i, W.cell? ⟨B, i, none⟩ = (#[.int .u8 (v % 256), .int .u8 (v / 256 % 256), .int .u8 (v / 65536 % 256), .int .u8 (v / 16777216 % 256), .int .u8 (v / 4294967296 % 256), .int .u8 (v / 1099511627776 % 256), .int .u8 (v / 281474976710656 % 256), .int .u8 (v / 72057594037927936)] : Array Value)[i]?) ∧ (convert 28 9 (.slice (some ⟨B, 0, none⟩) 8 8)).run Try.prog W = .ok (.string (str8 v)) W) :
    (Below w.heap.size w w' ∧ w.heap.size ≤ B ∧ B < w'.heap.size) ∧ (∀ i, w'.cell? ⟨B, i, none⟩ = (#[.int .u8 (v % 256), .int .u8 (v / 256 % 256), .int .u8 (v / 65536 % 256), .int .u8 (v / 16777216 % 256), .int .u8 (v / 4294967296 % 256), .int .u8 (v / 1099511627776 % 256), .int .u8 (v / 281474976710656 % 256), .int .u8 (v / 72057594037927936)] : Array Value)[i]?) ∧ (convert 28 9 (.slice (some ⟨B, 0, none⟩) 8 8)).run Try.prog w' = .ok (.string (str8 v)) w' := by
  obtain ⟨⟨h1, h2, h3⟩, h4, _⟩ := h
  have hs := hb.size
  have hc : ∀ i, w'.cell? ⟨B, i, none⟩ = (#[.int .u8 (v % 256), .int .u8 (v / 256 % 256), .int .u8 (v / 65536 % 256), .int .u8 (v / 16777216 % 256), .int .u8 (v / 4294967296 % 256), .int .u8 (v / 1099511627776 % 256), .int .u8 (v / 281474976710656 % 256), .int .u8 (v / 72057594037927936)] : Array Value)[i]? := fun i => by
    rw [hb.cell (p := ⟨B, i, none⟩) (by show B < _; omega)]; exact h4 i
  exact ⟨⟨h1.trans (hb.mono (by omega)), h2, by omega⟩, hc, conv8 v w' B 8 (fun i _ => hc i)⟩
theorem start1 {w w1 : World} {v : Int} (hb1 : Below w.heap.size w w1) :
    (Below w.heap.size w (w1.alloc (.cells #[.int .u8 (v % 256), .int .u8 (v / 256 % 256), .int .u8 (v / 65536 % 256), .int .u8 (v / 16777216 % 256), .int .u8 (v / 4294967296 % 256), .int .u8 (v / 1099511627776 % 256), .int .u8 (v / 281474976710656 % 256), .int .u8 (v / 72057594037927936)] 23)).drew ∧ w.heap.size ≤ w1.heap.size ∧ w1.heap.size < (w1.alloc (.cells #[.int .u8 (v % 256), .int .u8 (v / 256 % 256), .int .u8 (v / 65536 % 256), .int .u8 (v / 16777216 % 256), .int .u8 (v / 4294967296 % 256), .int .u8 (v / 1099511627776 % 256), .int .u8 (v / 281474976710656 % 256), .int .u8 (v / 72057594037927936)] 23)).drew.heap.size) ∧ (∀ i, (w1.alloc (.cells #[.int .u8 (v % 256), .int .u8 (v / 256 % 256), .int .u8 (v / 65536 % 256), .int .u8 (v / 16777216 % 256), .int .u8 (v / 4294967296 % 256), .int .u8 (v / 1099511627776 % 256), .int .u8 (v / 281474976710656 % 256), .int .u8 (v / 72057594037927936)] 23)).drew.cell? ⟨w1.heap.size, i, none⟩ = (#[.int .u8 (v % 256), .int .u8 (v / 256 % 256), .int .u8 (v / 65536 % 256), .int .u8 (v / 16777216 % 256), .int .u8 (v / 4294967296 % 256), .int .u8 (v / 1099511627776 % 256), .int .u8 (v / 281474976710656 % 256), .int .u8 (v / 72057594037927936)] : Array Value)[i]?) ∧ (convert 28 9 (.slice (some ⟨w1.heap.size, 0, none⟩) 8 8)).run Try.prog (w1.alloc (.cells #[.int .u8 (v % 256), .int .u8 (v / 256 % 256), .int .u8 (v / 65536 % 256), .int .u8 (v / 16777216 % 256), .int .u8 (v / 4294967296 % 256), .int .u8 (v / 1099511627776 % 256), .int .u8 (v / 281474976710656 % 256), .int .u8 (v / 72057594037927936)] 23)).drew = .ok (.string (str8 v)) (w1.alloc (.cells #[.int .u8 (v % 256), .int .u8 (v / 256 % 256), .int .u8 (v / 65536 % 256), .int .u8 (v / 16777216 % 256), .int .u8 (v / 4294967296 % 256), .int .u8 (v / 1099511627776 % 256), .int .u8 (v / 281474976710656 % 256), .int .u8 (v / 72057594037927936)] 23)).drew := by
  generalize hC : (#[.int .u8 (v % 256), .int .u8 (v / 256 % 256), .int .u8 (v / 65536 % 256), .int .u8 (v / 16777216 % 256), .int .u8 (v / 4294967296 % 256), .int .u8 (v / 1099511627776 % 256), .int .u8 (v / 281474976710656 % 256), .int .u8 (v / 72057594037927936)] : Array Value) = C
  have hs := hb1.size
  have hz : (w1.alloc (.cells C 23)).heap.size = w1.heap.size + 1 := by simp
  have hc : ∀ i, (w1.alloc (.cells C 23)).cell? ⟨w1.heap.size, i, none⟩ = (#[.int .u8 (v % 256), .int .u8 (v / 256 % 256), .int .u8 (v / 65536 % 256), .int .u8 (v / 16777216 % 256), .int .u8 (v / 4294967296 % 256), .int .u8 (v / 1099511627776 % 256), .int .u8 (v / 281474976710656 % 256), .int .u8 (v / 72057594037927936)] : Array Value)[i]? := fun i => by
    rw [World.cell?_alloc_at _ _ _ _ rfl, hC]
  have h := keep1 (w := w) (B := w1.heap.size) (v := v) (W := w1.alloc (.cells C 23)) ((Below.refl _ _).drew) ⟨⟨hb1.alloc hs _, hs, by omega⟩, hc, conv8 v _ _ 8 (fun i _ => hc i)⟩
  simp only [hC] at h
  exact h
end Go.Proofs.Ytmndedadopnfjaa
