/- The document's own Of of eight bytes and fewer, and its Text. -/
import Derived.Test.YtfcmgkakmaclcaaHTx
import Derived.Laws.IdiomStrings
import Derived.Test.YtfcmgkakmaclcaaCopyL
import Derived.Test.YtfcmgkakmaclcaaHeld2
import Derived.Deep.RegionHeld3
import Derived.Test.YtfcmgkakmaclcaaTellP
import Derived.Test.YtfcmgkakmaclcaaHM
import Derived.Test.YtfcmgkakmaclcaaHAl
import Derived.Test.YtfcmgkakmaclcaaSmall
import Derived.Test.YtfcmgkakmaclcaaSmallA
import Derived.Test.YtfcmgkakmaclcaaHO
import Derived.BigQuiet
section
set_option linter.unusedVariables false
set_option linter.unusedSimpArgs false
namespace Go.Proofs.Ytfcmgkakmaclcaa
open Go.Deep (BT)
open Go.RowKit Go.Shelf M
open Bt (mx sum8 IsU IsB mx_u ret_int or_low)

theorem chain1 (b0 : Int) (l0 : 0 ≤ b0 ∧ b0 < 256) : bits .or .u64 0 (b0) = sum8 b0 0 0 0 0 0 0 0 := by
  have e0 : bits .or .u64 0 b0 = b0 := by
    have h := or_low 0 1 0 b0 (by decide) (by decide) (by decide) (by decide) (by omega) (by omega)
    rw [Int.mul_one] at h; omega
  rw [e0]
  unfold sum8; omega
set_option maxHeartbeats 2000000 in
theorem rof1 (b0 r : Int) (g o c : Nat) (w : World) (i0 : IsB b0) (c0 : w.cell? ⟨g, o, none⟩ = some (.int .u8 b0)) (hc : 1 ≤ c) (hr : sum8 b0 0 0 0 0 0 0 0 = r) :
    Calls Try.prog 29 #[.slice (some ⟨g, o, none⟩) 1 c] w fun e w' => e = .returned (.int .u64 r) ∧ w' = w := by
  have l0 := And.intro i0.lo i0.hi
  have HR : Fact (sum8 b0 0 0 0 0 0 0 0 = r) := ⟨hr⟩
  clear hr i0
  go_enter Try.func29, Try.ntmps29
  go_wp2
  go_rounds 2
  go_ret
  exact ⟨ret_int (by rw [← HR.out]; exact chain1 b0 l0), rfl⟩
theorem chain2 (b0 b1 : Int) (l0 : 0 ≤ b0 ∧ b0 < 256) (l1 : 0 ≤ b1 ∧ b1 < 256) : bits .or .u64 (bits .or .u64 0 (b0)) (b1 * 256) = sum8 b0 b1 0 0 0 0 0 0 := by
  have e0 : bits .or .u64 0 b0 = b0 := by
    have h := or_low 0 1 0 b0 (by decide) (by decide) (by decide) (by decide) (by omega) (by omega)
    rw [Int.mul_one] at h; omega
  rw [e0, or_low 8 256 _ b1 (by decide) (by decide) (by omega) (by omega) (by omega) (by omega)]
  unfold sum8; omega
set_option maxHeartbeats 2000000 in
theorem rof2 (b0 b1 r : Int) (g o c : Nat) (w : World) (i0 : IsB b0) (i1 : IsB b1) (c0 : w.cell? ⟨g, o, none⟩ = some (.int .u8 b0)) (c1 : w.cell? ⟨g, o + 1, none⟩ = some (.int .u8 b1)) (hc : 2 ≤ c) (hr : sum8 b0 b1 0 0 0 0 0 0 = r) :
    Calls Try.prog 29 #[.slice (some ⟨g, o, none⟩) 2 c] w fun e w' => e = .returned (.int .u64 r) ∧ w' = w := by
  have l0 := And.intro i0.lo i0.hi
  have l1 := And.intro i1.lo i1.hi
  have HR : Fact (sum8 b0 b1 0 0 0 0 0 0 = r) := ⟨hr⟩
  clear hr i0 i1
  go_enter Try.func29, Try.ntmps29
  go_wp2
  go_rounds 3
  go_ret
  exact ⟨ret_int (by rw [← HR.out]; exact chain2 b0 b1 l0 l1), rfl⟩
theorem chain3 (b0 b1 b2 : Int) (l0 : 0 ≤ b0 ∧ b0 < 256) (l1 : 0 ≤ b1 ∧ b1 < 256) (l2 : 0 ≤ b2 ∧ b2 < 256) : bits .or .u64 (bits .or .u64 (bits .or .u64 0 (b0)) (b1 * 256)) (b2 * 65536) = sum8 b0 b1 b2 0 0 0 0 0 := by
  have e0 : bits .or .u64 0 b0 = b0 := by
    have h := or_low 0 1 0 b0 (by decide) (by decide) (by decide) (by decide) (by omega) (by omega)
    rw [Int.mul_one] at h; omega
  rw [e0, or_low 8 256 _ b1 (by decide) (by decide) (by omega) (by omega) (by omega) (by omega), or_low 16 65536 _ b2 (by decide) (by decide) (by omega) (by omega) (by omega) (by omega)]
  unfold sum8; omega
set_option maxHeartbeats 2000000 in
theorem rof3 (b0 b1 b2 r : Int) (g o c : Nat) (w : World) (i0 : IsB b0) (i1 : IsB b1) (i2 : IsB b2) (c0 : w.cell? ⟨g, o, none⟩ = some (.int .u8 b0)) (c1 : w.cell? ⟨g, o + 1, none⟩ = some (.int .u8 b1)) (c2 : w.cell? ⟨g, o + 2, none⟩ = some (.int .u8 b2)) (hc : 3 ≤ c) (hr : sum8 b0 b1 b2 0 0 0 0 0 = r) :
    Calls Try.prog 29 #[.slice (some ⟨g, o, none⟩) 3 c] w fun e w' => e = .returned (.int .u64 r) ∧ w' = w := by
  have l0 := And.intro i0.lo i0.hi
  have l1 := And.intro i1.lo i1.hi
  have l2 := And.intro i2.lo i2.hi
  have HR : Fact (sum8 b0 b1 b2 0 0 0 0 0 = r) := ⟨hr⟩
  clear hr i0 i1 i2
  go_enter Try.func29, Try.ntmps29
  go_wp2
  go_rounds 4
  go_ret
  exact ⟨ret_int (by rw [← HR.out]; exact chain3 b0 b1 b2 l0 l1 l2), rfl⟩
theorem chain4 (b0 b1 b2 b3 : Int) (l0 : 0 ≤ b0 ∧ b0 < 256) (l1 : 0 ≤ b1 ∧ b1 < 256) (l2 : 0 ≤ b2 ∧ b2 < 256) (l3 : 0 ≤ b3 ∧ b3 < 256) : bits .or .u64 (bits .or .u64 (bits .or .u64 (bits .or .u64 0 (b0)) (b1 * 256)) (b2 * 65536)) (b3 * 16777216) = sum8 b0 b1 b2 b3 0 0 0 0 := by
  have e0 : bits .or .u64 0 b0 = b0 := by
    have h := or_low 0 1 0 b0 (by decide) (by decide) (by decide) (by decide) (by omega) (by omega)
    rw [Int.mul_one] at h; omega
  rw [e0, or_low 8 256 _ b1 (by decide) (by decide) (by omega) (by omega) (by omega) (by omega), or_low 16 65536 _ b2 (by decide) (by decide) (by omega) (by omega) (by omega) (by omega), or_low 24 16777216 _ b3 (by decide) (by decide) (by omega) (by omega) (by omega) (by omega)]
  unfold sum8; omega
set_option maxHeartbeats 2000000 in
theorem rof4 (b0 b1 b2 b3 r : Int) (g o c : Nat) (w : World) (i0 : IsB b0) (i1 : IsB b1) (i2 : IsB b2) (i3 : IsB b3) (c0 : w.cell? ⟨g, o, none⟩ = some (.int .u8 b0)) (c1 : w.cell? ⟨g, o + 1, none⟩ = some (.int .u8 b1)) (c2 : w.cell? ⟨g, o + 2, none⟩ = some (.int .u8 b2)) (c3 : w.cell? ⟨g, o + 3, none⟩ = some (.int .u8 b3)) (hc : 4 ≤ c) (hr : sum8 b0 b1 b2 b3 0 0 0 0 = r) :
    Calls Try.prog 29 #[.slice (some ⟨g, o, none⟩) 4 c] w fun e w' => e = .returned (.int .u64 r) ∧ w' = w := by
  have l0 := And.intro i0.lo i0.hi
  have l1 := And.intro i1.lo i1.hi
  have l2 := And.intro i2.lo i2.hi
  have l3 := And.intro i3.lo i3.hi
  have HR : Fact (sum8 b0 b1 b2 b3 0 0 0 0 = r) := ⟨hr⟩
  clear hr i0 i1 i2 i3
  go_enter Try.func29, Try.ntmps29
  go_wp2
  go_rounds 5
  go_ret
  exact ⟨ret_int (by rw [← HR.out]; exact chain4 b0 b1 b2 b3 l0 l1 l2 l3), rfl⟩
theorem chain5 (b0 b1 b2 b3 b4 : Int) (l0 : 0 ≤ b0 ∧ b0 < 256) (l1 : 0 ≤ b1 ∧ b1 < 256) (l2 : 0 ≤ b2 ∧ b2 < 256) (l3 : 0 ≤ b3 ∧ b3 < 256) (l4 : 0 ≤ b4 ∧ b4 < 256) : bits .or .u64 (bits .or .u64 (bits .or .u64 (bits .or .u64 (bits .or .u64 0 (b0)) (b1 * 256)) (b2 * 65536)) (b3 * 16777216)) (b4 * 4294967296) = sum8 b0 b1 b2 b3 b4 0 0 0 := by
  have e0 : bits .or .u64 0 b0 = b0 := by
    have h := or_low 0 1 0 b0 (by decide) (by decide) (by decide) (by decide) (by omega) (by omega)
    rw [Int.mul_one] at h; omega
  rw [e0, or_low 8 256 _ b1 (by decide) (by decide) (by omega) (by omega) (by omega) (by omega), or_low 16 65536 _ b2 (by decide) (by decide) (by omega) (by omega) (by omega) (by omega), or_low 24 16777216 _ b3 (by decide) (by decide) (by omega) (by omega) (by omega) (by omega), or_low 32 4294967296 _ b4 (by decide) (by decide) (by omega) (by omega) (by omega) (by omega)]
  unfold sum8; omega
set_option maxHeartbeats 2000000 in
theorem rof5 (b0 b1 b2 b3 b4 r : Int) (g o c : Nat) (w : World) (i0 : IsB b0) (i1 : IsB b1) (i2 : IsB b2) (i3 : IsB b3) (i4 : IsB b4) (c0 : w.cell? ⟨g, o, none⟩ = some (.int .u8 b0)) (c1 : w.cell? ⟨g, o + 1, none⟩ = some (.int .u8 b1)) (c2 : w.cell? ⟨g, o + 2, none⟩ = some (.int .u8 b2)) (c3 : w.cell? ⟨g, o + 3, none⟩ = some (.int .u8 b3)) (c4 : w.cell? ⟨g, o + 4, none⟩ = some (.int .u8 b4)) (hc : 5 ≤ c) (hr : sum8 b0 b1 b2 b3 b4 0 0 0 = r) :
    Calls Try.prog 29 #[.slice (some ⟨g, o, none⟩) 5 c] w fun e w' => e = .returned (.int .u64 r) ∧ w' = w := by
  have l0 := And.intro i0.lo i0.hi
  have l1 := And.intro i1.lo i1.hi
  have l2 := And.intro i2.lo i2.hi
  have l3 := And.intro i3.lo i3.hi
  have l4 := And.intro i4.lo i4.hi
  have HR : Fact (sum8 b0 b1 b2 b3 b4 0 0 0 = r) := ⟨hr⟩
  clear hr i0 i1 i2 i3 i4
  go_enter Try.func29, Try.ntmps29
  go_wp2
  go_rounds 6
  go_ret
  exact ⟨ret_int (by rw [← HR.out]; exact chain5 b0 b1 b2 b3 b4 l0 l1 l2 l3 l4), rfl⟩
theorem chain6 (b0 b1 b2 b3 b4 b5 : Int) (l0 : 0 ≤ b0 ∧ b0 < 256) (l1 : 0 ≤ b1 ∧ b1 < 256) (l2 : 0 ≤ b2 ∧ b2 < 256) (l3 : 0 ≤ b3 ∧ b3 < 256) (l4 : 0 ≤ b4 ∧ b4 < 256) (l5 : 0 ≤ b5 ∧ b5 < 256) : bits .or .u64 (bits .or .u64 (bits .or .u64 (bits .or .u64 (bits .or .u64 (bits .or .u64 0 (b0)) (b1 * 256)) (b2 * 65536)) (b3 * 16777216)) (b4 * 4294967296)) (b5 * 1099511627776) = sum8 b0 b1 b2 b3 b4 b5 0 0 := by
  have e0 : bits .or .u64 0 b0 = b0 := by
    have h := or_low 0 1 0 b0 (by decide) (by decide) (by decide) (by decide) (by omega) (by omega)
    rw [Int.mul_one] at h; omega
  rw [e0, or_low 8 256 _ b1 (by decide) (by decide) (by omega) (by omega) (by omega) (by omega), or_low 16 65536 _ b2 (by decide) (by decide) (by omega) (by omega) (by omega) (by omega), or_low 24 16777216 _ b3 (by decide) (by decide) (by omega) (by omega) (by omega) (by omega), or_low 32 4294967296 _ b4 (by decide) (by decide) (by omega) (by omega) (by omega) (by omega), or_low 40 1099511627776 _ b5 (by decide) (by decide) (by omega) (by omega) (by omega) (by omega)]
  unfold sum8; omega
set_option maxHeartbeats 2000000 in
theorem rof6 (b0 b1 b2 b3 b4 b5 r : Int) (g o c : Nat) (w : World) (i0 : IsB b0) (i1 : IsB b1) (i2 : IsB b2) (i3 : IsB b3) (i4 : IsB b4) (i5 : IsB b5) (c0 : w.cell? ⟨g, o, none⟩ = some (.int .u8 b0)) (c1 : w.cell? ⟨g, o + 1, none⟩ = some (.int .u8 b1)) (c2 : w.cell? ⟨g, o + 2, none⟩ = some (.int .u8 b2)) (c3 : w.cell? ⟨g, o + 3, none⟩ = some (.int .u8 b3)) (c4 : w.cell? ⟨g, o + 4, none⟩ = some (.int .u8 b4)) (c5 : w.cell? ⟨g, o + 5, none⟩ = some (.int .u8 b5)) (hc : 6 ≤ c) (hr : sum8 b0 b1 b2 b3 b4 b5 0 0 = r) :
    Calls Try.prog 29 #[.slice (some ⟨g, o, none⟩) 6 c] w fun e w' => e = .returned (.int .u64 r) ∧ w' = w := by
  have l0 := And.intro i0.lo i0.hi
  have l1 := And.intro i1.lo i1.hi
  have l2 := And.intro i2.lo i2.hi
  have l3 := And.intro i3.lo i3.hi
  have l4 := And.intro i4.lo i4.hi
  have l5 := And.intro i5.lo i5.hi
  have HR : Fact (sum8 b0 b1 b2 b3 b4 b5 0 0 = r) := ⟨hr⟩
  clear hr i0 i1 i2 i3 i4 i5
  go_enter Try.func29, Try.ntmps29
  go_wp2
  go_rounds 7
  go_ret
  exact ⟨ret_int (by rw [← HR.out]; exact chain6 b0 b1 b2 b3 b4 b5 l0 l1 l2 l3 l4 l5), rfl⟩
theorem chain7 (b0 b1 b2 b3 b4 b5 b6 : Int) (l0 : 0 ≤ b0 ∧ b0 < 256) (l1 : 0 ≤ b1 ∧ b1 < 256) (l2 : 0 ≤ b2 ∧ b2 < 256) (l3 : 0 ≤ b3 ∧ b3 < 256) (l4 : 0 ≤ b4 ∧ b4 < 256) (l5 : 0 ≤ b5 ∧ b5 < 256) (l6 : 0 ≤ b6 ∧ b6 < 256) : bits .or .u64 (bits .or .u64 (bits .or .u64 (bits .or .u64 (bits .or .u64 (bits .or .u64 (bits .or .u64 0 (b0)) (b1 * 256)) (b2 * 65536)) (b3 * 16777216)) (b4 * 4294967296)) (b5 * 1099511627776)) (b6 * 281474976710656) = sum8 b0 b1 b2 b3 b4 b5 b6 0 := by
  have e0 : bits .or .u64 0 b0 = b0 := by
    have h := or_low 0 1 0 b0 (by decide) (by decide) (by decide) (by decide) (by omega) (by omega)
    rw [Int.mul_one] at h; omega
  rw [e0, or_low 8 256 _ b1 (by decide) (by decide) (by omega) (by omega) (by omega) (by omega), or_low 16 65536 _ b2 (by decide) (by decide) (by omega) (by omega) (by omega) (by omega), or_low 24 16777216 _ b3 (by decide) (by decide) (by omega) (by omega) (by omega) (by omega), or_low 32 4294967296 _ b4 (by decide) (by decide) (by omega) (by omega) (by omega) (by omega), or_low 40 1099511627776 _ b5 (by decide) (by decide) (by omega) (by omega) (by omega) (by omega), or_low 48 281474976710656 _ b6 (by decide) (by decide) (by omega) (by omega) (by omega) (by omega)]
  unfold sum8; omega
set_option maxHeartbeats 2000000 in
theorem rof7 (b0 b1 b2 b3 b4 b5 b6 r : Int) (g o c : Nat) (w : World) (i0 : IsB b0) (i1 : IsB b1) (i2 : IsB b2) (i3 : IsB b3) (i4 : IsB b4) (i5 : IsB b5) (i6 : IsB b6) (c0 : w.cell? ⟨g, o, none⟩ = some (.int .u8 b0)) (c1 : w.cell? ⟨g, o + 1, none⟩ = some (.int .u8 b1)) (c2 : w.cell? ⟨g, o + 2, none⟩ = some (.int .u8 b2)) (c3 : w.cell? ⟨g, o + 3, none⟩ = some (.int .u8 b3)) (c4 : w.cell? ⟨g, o + 4, none⟩ = some (.int .u8 b4)) (c5 : w.cell? ⟨g, o + 5, none⟩ = some (.int .u8 b5)) (c6 : w.cell? ⟨g, o + 6, none⟩ = some (.int .u8 b6)) (hc : 7 ≤ c) (hr : sum8 b0 b1 b2 b3 b4 b5 b6 0 = r) :
    Calls Try.prog 29 #[.slice (some ⟨g, o, none⟩) 7 c] w fun e w' => e = .returned (.int .u64 r) ∧ w' = w := by
  have l0 := And.intro i0.lo i0.hi
  have l1 := And.intro i1.lo i1.hi
  have l2 := And.intro i2.lo i2.hi
  have l3 := And.intro i3.lo i3.hi
  have l4 := And.intro i4.lo i4.hi
  have l5 := And.intro i5.lo i5.hi
  have l6 := And.intro i6.lo i6.hi
  have HR : Fact (sum8 b0 b1 b2 b3 b4 b5 b6 0 = r) := ⟨hr⟩
  clear hr i0 i1 i2 i3 i4 i5 i6
  go_enter Try.func29, Try.ntmps29
  go_wp2
  go_rounds 8
  go_ret
  exact ⟨ret_int (by rw [← HR.out]; exact chain7 b0 b1 b2 b3 b4 b5 b6 l0 l1 l2 l3 l4 l5 l6), rfl⟩
theorem chain8 (b0 b1 b2 b3 b4 b5 b6 b7 : Int) (l0 : 0 ≤ b0 ∧ b0 < 256) (l1 : 0 ≤ b1 ∧ b1 < 256) (l2 : 0 ≤ b2 ∧ b2 < 256) (l3 : 0 ≤ b3 ∧ b3 < 256) (l4 : 0 ≤ b4 ∧ b4 < 256) (l5 : 0 ≤ b5 ∧ b5 < 256) (l6 : 0 ≤ b6 ∧ b6 < 256) (l7 : 0 ≤ b7 ∧ b7 < 256) : bits .or .u64 (bits .or .u64 (bits .or .u64 (bits .or .u64 (bits .or .u64 (bits .or .u64 (bits .or .u64 (bits .or .u64 0 (b0)) (b1 * 256)) (b2 * 65536)) (b3 * 16777216)) (b4 * 4294967296)) (b5 * 1099511627776)) (b6 * 281474976710656)) (b7 * 72057594037927936) = sum8 b0 b1 b2 b3 b4 b5 b6 b7 := by
  have e0 : bits .or .u64 0 b0 = b0 := by
    have h := or_low 0 1 0 b0 (by decide) (by decide) (by decide) (by decide) (by omega) (by omega)
    rw [Int.mul_one] at h; omega
  rw [e0, or_low 8 256 _ b1 (by decide) (by decide) (by omega) (by omega) (by omega) (by omega), or_low 16 65536 _ b2 (by decide) (by decide) (by omega) (by omega) (by omega) (by omega), or_low 24 16777216 _ b3 (by decide) (by decide) (by omega) (by omega) (by omega) (by omega), or_low 32 4294967296 _ b4 (by decide) (by decide) (by omega) (by omega) (by omega) (by omega), or_low 40 1099511627776 _ b5 (by decide) (by decide) (by omega) (by omega) (by omega) (by omega), or_low 48 281474976710656 _ b6 (by decide) (by decide) (by omega) (by omega) (by omega) (by omega), or_low 56 72057594037927936 _ b7 (by decide) (by decide) (by omega) (by omega) (by omega) (by omega)]
  unfold sum8; omega
set_option maxHeartbeats 2000000 in
theorem rof8 (b0 b1 b2 b3 b4 b5 b6 b7 r : Int) (g o c : Nat) (w : World) (i0 : IsB b0) (i1 : IsB b1) (i2 : IsB b2) (i3 : IsB b3) (i4 : IsB b4) (i5 : IsB b5) (i6 : IsB b6) (i7 : IsB b7) (c0 : w.cell? ⟨g, o, none⟩ = some (.int .u8 b0)) (c1 : w.cell? ⟨g, o + 1, none⟩ = some (.int .u8 b1)) (c2 : w.cell? ⟨g, o + 2, none⟩ = some (.int .u8 b2)) (c3 : w.cell? ⟨g, o + 3, none⟩ = some (.int .u8 b3)) (c4 : w.cell? ⟨g, o + 4, none⟩ = some (.int .u8 b4)) (c5 : w.cell? ⟨g, o + 5, none⟩ = some (.int .u8 b5)) (c6 : w.cell? ⟨g, o + 6, none⟩ = some (.int .u8 b6)) (c7 : w.cell? ⟨g, o + 7, none⟩ = some (.int .u8 b7)) (hc : 8 ≤ c) (hr : sum8 b0 b1 b2 b3 b4 b5 b6 b7 = r) :
    Calls Try.prog 29 #[.slice (some ⟨g, o, none⟩) 8 c] w fun e w' => e = .returned (.int .u64 r) ∧ w' = w := by
  have l0 := And.intro i0.lo i0.hi
  have l1 := And.intro i1.lo i1.hi
  have l2 := And.intro i2.lo i2.hi
  have l3 := And.intro i3.lo i3.hi
  have l4 := And.intro i4.lo i4.hi
  have l5 := And.intro i5.lo i5.hi
  have l6 := And.intro i6.lo i6.hi
  have l7 := And.intro i7.lo i7.hi
  have HR : Fact (sum8 b0 b1 b2 b3 b4 b5 b6 b7 = r) := ⟨hr⟩
  clear hr i0 i1 i2 i3 i4 i5 i6 i7
  go_enter Try.func29, Try.ntmps29
  go_wp2
  go_rounds 9
  go_ret
  exact ⟨ret_int (by rw [← HR.out]; exact chain8 b0 b1 b2 b3 b4 b5 b6 b7 l0 l1 l2 l3 l4 l5 l6 l7), rfl⟩
end Go.Proofs.Ytfcmgkakmaclcaa
end

/- The document's own Text: of a text that is not too long its number. -/
section
set_option linter.unusedVariables false
set_option linter.unusedSimpArgs false
namespace Go.Proofs.Ytfcmgkakmaclcaa
open Go.Deep (BT)
open Go.RowKit Go.Shelf M
open Bt (mx sum8 IsU IsB mx_u ret_int)

theorem bt_none {l : List UInt8} {i : Nat} (h : l.length ≤ i) : bt l i = 0 := by unfold bt; rw [List.getElem?_eq_none h]
theorem btB (l : List UInt8) (i : Nat) : IsB (bt l i) := ⟨(bt_b l i).1, (bt_b l i).2⟩
theorem rof_any (l : List UInt8) (n g c : Nat) (w : World) (hl : l.length = n) (h1 : 1 ≤ n) (h8 : n ≤ 8) (hn : n ≤ c) (hc : ∀ i, i < n → w.cell? ⟨g, i, none⟩ = some (.int .u8 (bt l i))) :
    Calls Try.prog 29 #[.slice (some ⟨g, 0, none⟩) n c] w fun e w' => e = .returned (.int .u64 (oct l)) ∧ w' = w := by
  have hz : ∀ i, n ≤ i → bt l i = 0 := fun i hi => bt_none (by omega)
  have hcc : ∀ i, i < n → w.cell? ⟨g, 0 + i, none⟩ = some (.int .u8 (bt l i)) := fun i hi => by rw [Nat.zero_add]; exact hc i hi
  rcases (by omega : n = 1 ∨ n = 2 ∨ n = 3 ∨ n = 4 ∨ n = 5 ∨ n = 6 ∨ n = 7 ∨ n = 8) with rfl | rfl | rfl | rfl | rfl | rfl | rfl | rfl
  · exact rof1 _ _ g 0 c w (btB l 0) (hcc 0 (by omega)) hn (by unfold oct; rw [hz 1 (by omega), hz 2 (by omega), hz 3 (by omega), hz 4 (by omega), hz 5 (by omega), hz 6 (by omega), hz 7 (by omega)])
  · exact rof2 _ _ _ g 0 c w (btB l 0) (btB l 1) (hcc 0 (by omega)) (hcc 1 (by omega)) hn (by unfold oct; rw [hz 2 (by omega), hz 3 (by omega), hz 4 (by omega), hz 5 (by omega), hz 6 (by omega), hz 7 (by omega)])
  · exact rof3 _ _ _ _ g 0 c w (btB l 0) (btB l 1) (btB l 2) (hcc 0 (by omega)) (hcc 1 (by omega)) (hcc 2 (by omega)) hn (by unfold oct; rw [hz 3 (by omega), hz 4 (by omega), hz 5 (by omega), hz 6 (by omega), hz 7 (by omega)])
  · exact rof4 _ _ _ _ _ g 0 c w (btB l 0) (btB l 1) (btB l 2) (btB l 3) (hcc 0 (by omega)) (hcc 1 (by omega)) (hcc 2 (by omega)) (hcc 3 (by omega)) hn (by unfold oct; rw [hz 4 (by omega), hz 5 (by omega), hz 6 (by omega), hz 7 (by omega)])
  · exact rof5 _ _ _ _ _ _ g 0 c w (btB l 0) (btB l 1) (btB l 2) (btB l 3) (btB l 4) (hcc 0 (by omega)) (hcc 1 (by omega)) (hcc 2 (by omega)) (hcc 3 (by omega)) (hcc 4 (by omega)) hn (by unfold oct; rw [hz 5 (by omega), hz 6 (by omega), hz 7 (by omega)])
  · exact rof6 _ _ _ _ _ _ _ g 0 c w (btB l 0) (btB l 1) (btB l 2) (btB l 3) (btB l 4) (btB l 5) (hcc 0 (by omega)) (hcc 1 (by omega)) (hcc 2 (by omega)) (hcc 3 (by omega)) (hcc 4 (by omega)) (hcc 5 (by omega)) hn (by unfold oct; rw [hz 6 (by omega), hz 7 (by omega)])
  · exact rof7 _ _ _ _ _ _ _ _ g 0 c w (btB l 0) (btB l 1) (btB l 2) (btB l 3) (btB l 4) (btB l 5) (btB l 6) (hcc 0 (by omega)) (hcc 1 (by omega)) (hcc 2 (by omega)) (hcc 3 (by omega)) (hcc 4 (by omega)) (hcc 5 (by omega)) (hcc 6 (by omega)) hn (by unfold oct; rw [hz 7 (by omega)])
  · exact rof8 _ _ _ _ _ _ _ _ _ g 0 c w (btB l 0) (btB l 1) (btB l 2) (btB l 3) (btB l 4) (btB l 5) (btB l 6) (btB l 7) (hcc 0 (by omega)) (hcc 1 (by omega)) (hcc 2 (by omega)) (hcc 3 (by omega)) (hcc 4 (by omega)) (hcc 5 (by omega)) (hcc 6 (by omega)) (hcc 7 (by omega)) hn rfl
theorem bt_take (l : List UInt8) (i : Nat) (hi : i < 8) : bt (l.take 8) i = bt l i := by unfold bt; rw [List.getElem?_take, if_pos hi]
theorem oct_take (l : List UInt8) : oct (l.take 8) = oct l := by
  unfold oct
  rw [bt_take _ _ (by omega), bt_take _ _ (by omega), bt_take _ _ (by omega), bt_take _ _ (by omega), bt_take _ _ (by omega), bt_take _ _ (by omega), bt_take _ _ (by omega), bt_take _ _ (by omega)]
theorem under5 : Try.prog.underlying 5 = some (.int .u8) := by kernel_rfl
theorem bytesRow_get (s : ByteArray) (cap i : Nat) (hi : i < s.size) : (bytesRow s cap)[i]? = some (.int .u8 (bt s.data.toList i)) := by
  have hs : i < s.data.size := hi
  unfold bytesRow bt
  rw [Array.getElem?_append_left (by simpa using hs), Array.getElem?_map, Array.getElem?_toList, Array.getElem?_eq_getElem hs]
  rfl

set_option maxRecDepth 100000 in
set_option maxHeartbeats 4000000 in
theorem rtext_any (s : ByteArray) (w : World) (hs : s.size ≤ 1000000) :
    Calls Try.prog 15 #[.string s] w fun e w' => e = .returned (.int .u64 (tx s)) ∧ Below w.heap.size w w' := by
  obtain ⟨z, hz⟩ : ∃ z, s.size = z := ⟨_, rfl⟩
  obtain ⟨U, hU⟩ : ∃ U, IntKind.u64.wrap (z : Int) = U := ⟨_, rfl⟩
  have hUU : IsU U := by rw [← hU]; exact wrap_u _
  have hTx : Fact (txG U (s.data.toList.drop 0) = tx s) := ⟨by rw [← hU, ← hz]; rfl⟩
  have HZ := Fact.mk hz
  have hzI : (s.size : Int) = z := by omega
  rw [hz] at hs
  have hll : Fact (s.data.toList.length = z) := ⟨by rw [← hz, Lib.size_eq]⟩
  clear hz
  go_enter Try.func15, Try.ntmps15
  go_wp2_with fail
  go_loopg [3, 4] z (fun gf hv av wr => ∃ (at_ : Nat) (h : Int), (hv = .int .u64 h ∧ av = .int .i64 at_) ∧ at_ ≤ z + 8 ∧ z ≤ at_ + gf ∧ IsU h ∧ Fact (Below w.heap.size w wr) ∧ Fact (txG h (s.data.toList.drop at_) = tx s))
  case atStart => exact ⟨0, U, ⟨rfl, rfl⟩, Nat.zero_le _, by omega, hUU, ⟨Below.refl _ _⟩, hTx⟩
  case round =>
    obtain ⟨at_, h, ⟨rfl, rfl⟩, hat, hfu, hu, hBr, hT⟩ := hrel
    by_cases hlt : at_ < z
    · have aI : (at_ : Int) < z := by omega
      obtain ⟨g', rfl⟩ : ∃ g', gk = g' + 1 := ⟨gk - 1, by omega⟩
      obtain ⟨m, hm⟩ : ∃ m, min (at_ + 8) z = m := ⟨_, rfl⟩
      have hmI : min ((at_ : Int) + 8) (z : Int) = m := by omega
      obtain ⟨T, hT1⟩ : ∃ T, s.extract at_ m = T := ⟨_, rfl⟩
      have hTl : T.data.toList = (s.data.toList.drop at_).take 8 := by
        rw [← hT1]
        have := Lib.extract_toList s at_ m
        rw [← Lib.toList_data, this, ← Lib.toList_data]
        by_cases h8 : at_ + 8 ≤ z
        · rw [show m - at_ = 8 by omega]
        · rw [List.take_of_length_le, List.take_of_length_le]
          · have := hll.out; rw [List.length_drop, Lib.toList_data]; omega
          · have := hll.out; rw [List.length_drop, Lib.toList_data]; omega
      obtain ⟨t, ht⟩ : ∃ t, T.size = t := ⟨_, rfl⟩
      have htl : T.data.toList.length = t := by rw [← ht, Lib.size_eq]
      have htm : t = m - at_ := by rw [← htl, hTl, List.length_take, List.length_drop, hll.out]; omega
      have hsl : ∀ w, (Instr.slice 9 (.string s) (some (.int .i64 (at_ : Int))) (some (.int .i64 (m : Int))) none).run Try.prog w = .ok (.string T) w := by
        intro w
        have h1 : (0 : Int) ≤ at_ := by omega
        have h2 : (at_ : Int) ≤ m := by omega
        have h3 : (m : Int) ≤ z := by omega
        have h4 : ¬ z < m := by omega
        go_simp
      have hcv := run_bytes_of_string (P := Try.prog) wr 9 55 5 T Try.underlying9 Try.underlying55 under5
      rw [ht] at hcv
      obtain ⟨c, hc⟩ : ∃ c, grownCap wr t 0 5 = c := ⟨_, rfl⟩
      rw [hc] at hcv
      obtain ⟨W3, hW3⟩ : ∃ W3, (wr.drew.alloc (.cells (bytesRow T c) 5 ((bytesRow T c).size, (bytesRow T c).size + 1))) = W3 := ⟨_, rfl⟩
      rw [hW3] at hcv
      have hb3 : Below w.heap.size w W3 := by rw [← hW3]; exact hBr.out.drew.alloc hBr.out.size _
      have hh3 : W3.heap[wr.heap.size]? = some (.cells (bytesRow T c) 5 ((bytesRow T c).size, (bytesRow T c).size + 1)) := by rw [← hW3]; exact World.alloc_heap_new wr.drew _
      have hcell : ∀ i, i < t → W3.cell? ⟨wr.heap.size, i, none⟩ = some (.int .u8 (bt T.data.toList i)) := fun i hi => by
        simp only [World.cell?, hh3]
        exact bytesRow_get T c i (by omega)
      have htc : t ≤ c := by
        rw [← hc]
        exact grownCap_ge wr t 0 5
      have HOF := Fact.mk (rof_any T.data.toList t wr.heap.size c W3 htl (by omega) (by omega) htc hcell)
      have ho : oct T.data.toList = oct (s.data.toList.drop at_) := by rw [hTl, oct_take]
      have hst := txG_step h (s.data.toList.drop at_) (by rw [List.length_drop, hll.out]; omega)
      rw [hT.out, List.drop_drop, ← ho] at hst
      have huo := oct_u T.data.toList
      have HST := Fact.mk hst
      have HB3 := Fact.mk hb3
      have w8 : IntKind.i64.wrap ((at_ : Int) + 8) = (at_ : Int) + 8 := wrap_id (by omega) (by omega)
      clear hm hT1 hTl ht htl htm hW3 hb3 hh3 hcell htc ho hst hBr hT hc
      go_wp2_with (first
        | (go_at_call 29; refine HOF.out.mono ?_; rintro e w5 ⟨rfl, hw5⟩; have hw6 := hw5.symm; subst hw6; clear hw5)
        | (go_at_call 28; refine (Bt.refmix_any _ _ _ hu huo).mono ?_; rintro e w5 ⟨rfl, hw5⟩; have hw6 := hw5.symm; subst hw6; clear hw5))
      go_roundg g'
      case measure => omega
      case rel => exact ⟨at_ + 8, _, ⟨rfl, by go_num⟩, by omega, by omega, mx_u _ _, HB3, HST⟩
    · have aI : ¬ (at_ : Int) < z := by omega
      have e1 := hT.out
      rw [List.drop_of_length_le (by rw [hll.out]; omega), txG_nil] at e1
      have E1 := Fact.mk e1
      clear e1
      go_wp2_with fail
      go_ret
      exact ⟨ret_int E1.out, hBr.out⟩
end Go.Proofs.Ytfcmgkakmaclcaa
end

/- The document's Bare: a node without its kids, its attributes in new memory. -/
section
set_option linter.unusedVariables false
set_option linter.unusedSimpArgs false
namespace Go.Proofs.Ytfcmgkakmaclcaa
open Go.Deep (BT)
open Go.RowKit Go.Shelf M

/-- attributes appended to nothing -/
theorem copyA_run (l : List (ByteArray × ByteArray)) (v : Value) (n : Nat) (w : World) (ha : AS (Old n) w v l) (hm : l.length ≤ 1000000) :
    ∃ y1 y2 y3 W2, (∀ ty, (Builtin.append_ #[22, 22] ty #[.slice none 0 0, v]).run Try.prog w = .ok (.slice y1 y2 y3) W2) ∧ AS (fun b => w.heap.size ≤ b) W2 (.slice y1 y2 y3) l ∧ Below w.heap.size w W2 := by
  obtain ⟨i0, hii, hz0, hz1, hz2⟩ := info_parts infoA
  by_cases h0 : l = []
  · subst h0
    obtain ⟨a, cap, rfl, h1, h2, _⟩ := ha
    refine ⟨none, 0, 0, w, fun ty => ?_, AS.nothing, Below.refl _ _⟩
    cases a <;> simp [Builtin.append_, run_underlying Try.underlying22, sizeOf, typeInfo, hii, Builtin.lenOf, Builtin.firstCells, loadCells, loadCellsFrom]
  · obtain ⟨a, cap, rfl, h1, h2, h3⟩ := ha
    obtain ⟨b, o, rfl, hS, hc⟩ := h3.resolve_left h0
    have HC : ∀ j u, (rowA l)[j]? = some u → w.cell? ((⟨b, o, none⟩ : Addr).add j) = some u := fun j u hu => by
      have hj : j < (rowA l).length := (List.getElem?_eq_some_iff.1 hu).1
      rw [rowA_len] at hj
      have hi : j / 2 < l.length := by omega
      obtain ⟨g1, g2⟩ := rowA_get l (j / 2) hi
      have hcc := hc (j / 2) hi
      rw [bs_get l (j / 2) hi] at hcc
      rw [add_cell]
      rcases (by omega : j = j / 2 * 2 ∨ j = j / 2 * 2 + 1) with e | e
      · rw [e] at hu ⊢
        rw [g1] at hu
        cases hu
        exact hcc.1
      · rw [e] at hu ⊢
        rw [g2] at hu
        cases hu
        exact hcc.2
    obtain ⟨v', w', hr, h2', h3', _, h5'⟩ := run_append_own_at (P := Try.prog) w w.heap.size 22 22 40 i0 (.agg #[.string ⟨#[]⟩, .string ⟨#[]⟩]) 2 32 Try.underlying22 hii hz0 hz1 hz2 rfl (by decide) (.slice none 0 0) 0 [] (World.ownsRow_nil _ _ _ _) ⟨b, o, none⟩ l.length cap (rowA l) (rowA_len l) HC (rowA_one l) (by unfold maxLen; omega) (by omega) (Nat.le_refl _)
    have h2a : w'.ownsRow w.heap.size 40 2 v' l.length (rowA l) := by simpa using h2'
    obtain ⟨g, c, rfl⟩ : ∃ g c, v' = .slice g l.length c := own_shape h2a
    refine ⟨g, l.length, c, w', fun ty => ?_, own_AS h2a, (Below.refl _ _).grown h3' (Nat.le_refl _) (fun k e => by cases e)⟩
    obtain ⟨v2, w2, hr2, _⟩ := run_append_own_at (P := Try.prog) w w.heap.size 22 ty 40 i0 (.agg #[.string ⟨#[]⟩, .string ⟨#[]⟩]) 2 32 Try.underlying22 hii hz0 hz1 hz2 rfl (by decide) (.slice none 0 0) 0 [] (World.ownsRow_nil _ _ _ _) ⟨b, o, none⟩ l.length cap (rowA l) (rowA_len l) HC (rowA_one l) (by unfold maxLen; omega) (by omega) (Nat.le_refl _)
    exact hr

set_option maxRecDepth 100000 in
set_option maxHeartbeats 4000000 in
theorem bare_any (d : Nd) (av kv : Value) (n : Nat) (w : World) (ha : AS (Old n) w av d.ats) (hm : d.ats.length ≤ 1000000) (hn : n ≤ w.heap.size) (hkv : ∃ a l c, kv = .slice a l c) :
    Calls Try.prog 44 #[nodeV d av kv] w fun e w' => ∃ y1 y2 y3, e = .returned (nodeV d (.slice y1 y2 y3) (.slice none 0 0)) ∧ Below w.heap.size w w' ∧ AS (fun b => w.heap.size ≤ b) w' (.slice y1 y2 y3) d.ats := by
  obtain ⟨K, N, X, A⟩ := d
  obtain ⟨a1, n1, c1, e1⟩ := ha.val
  subst e1
  obtain ⟨a2, n2, c2, rfl⟩ := hkv
  dsimp only at ha hm ⊢
  obtain ⟨W1, hW1⟩ : ∃ W1, (w.alloc (.cells #[.int .i64 K, .string N, .string X, .slice a1 n1 c1, .slice a2 n2 c2] 25)).alloc (.cells #[.int .i64 0, .string ⟨#[]⟩, .string ⟨#[]⟩, .slice none 0 0, .slice none 0 0] 25) = W1 := ⟨_, rfl⟩
  have hB1 : Below w.heap.size w W1 := by rw [← hW1]; exact ((Below.refl _ w).alloc (Nat.le_refl _) _).alloc (by simp) _
  have hz1 : W1.heap.size = w.heap.size + 2 := by rw [← hW1]; simp
  have hT : Five W1 w.heap.size (.int .i64 K) (.string N) (.string X) (.slice a1 n1 c1) (.slice a2 n2 c2) := (Five.new w _ _ _ _ _ _).same (by rw [← hW1]; exact Below.heap_alloc _ _ _ (by simp))
  have hR : Five W1 (w.heap.size + 1) (.int .i64 0) (.string ⟨#[]⟩) (.string ⟨#[]⟩) (.slice none 0 0) (.slice none 0 0) := by
    have := Five.new (w.alloc (.cells #[.int .i64 K, .string N, .string X, .slice a1 n1 c1, .slice a2 n2 c2] 25)) (.int .i64 0) (.string ⟨#[]⟩) (.string ⟨#[]⟩) (.slice none 0 0) (.slice none 0 0) 25
    rw [hW1, World.size_alloc] at this
    exact this
  obtain ⟨y1, y2, y3, W2, hrun, hAS, hb2⟩ := copyA_run A (.slice a1 n1 c1) n W1.drew ((ha.like (like_below (hB1.mono hn))).like (fun _ _ _ => rfl)) hm
  have hb2' : Below W1.heap.size W1 W2 := ⟨hb2.os, hb2.tape, hb2.output, hb2.size, hb2.block⟩
  have hT2 := hT.same (hb2'.block _ (by omega))
  have hR2 := hR.same (hb2'.block _ (by omega))
  have hS0 : W1.drew.cell? ⟨w.heap.size, 0, none⟩ = some (.int .i64 K) ∧ W1.drew.cell? ⟨w.heap.size, 1, none⟩ = some (.string N) ∧ W1.drew.cell? ⟨w.heap.size, 2, none⟩ = some (.string X) ∧ W1.drew.cell? ⟨w.heap.size, 3, none⟩ = some (.slice a1 n1 c1) := ⟨hT.c0, hT.c1, hT.c2, hT.c3⟩
  have hS2 : W2.cell? ⟨w.heap.size, 0, none⟩ = some (.int .i64 K) ∧ W2.cell? ⟨w.heap.size, 1, none⟩ = some (.string N) ∧ W2.cell? ⟨w.heap.size, 2, none⟩ = some (.string X) ∧ W2.cell? ⟨w.heap.size, 3, none⟩ = some (.slice a1 n1 c1) := ⟨hT2.c0, hT2.c1, hT2.c2, hT2.c3⟩
  have hS3 : ∀ v0 v1 v2 v3 v4, (((((W2.setCell ⟨w.heap.size + 1, 0, none⟩ v0).setCell ⟨w.heap.size + 1, 1, none⟩ v1).setCell ⟨w.heap.size + 1, 2, none⟩ v2).setCell ⟨w.heap.size + 1, 3, none⟩ v3).setCell ⟨w.heap.size + 1, 4, none⟩ v4).cell? ⟨w.heap.size, 0, none⟩ = some (.int .i64 K) ∧ (((((W2.setCell ⟨w.heap.size + 1, 0, none⟩ v0).setCell ⟨w.heap.size + 1, 1, none⟩ v1).setCell ⟨w.heap.size + 1, 2, none⟩ v2).setCell ⟨w.heap.size + 1, 3, none⟩ v3).setCell ⟨w.heap.size + 1, 4, none⟩ v4).cell? ⟨w.heap.size, 1, none⟩ = some (.string N) ∧ (((((W2.setCell ⟨w.heap.size + 1, 0, none⟩ v0).setCell ⟨w.heap.size + 1, 1, none⟩ v1).setCell ⟨w.heap.size + 1, 2, none⟩ v2).setCell ⟨w.heap.size + 1, 3, none⟩ v3).setCell ⟨w.heap.size + 1, 4, none⟩ v4).cell? ⟨w.heap.size, 2, none⟩ = some (.string X) ∧ (((((W2.setCell ⟨w.heap.size + 1, 0, none⟩ v0).setCell ⟨w.heap.size + 1, 1, none⟩ v1).setCell ⟨w.heap.size + 1, 2, none⟩ v2).setCell ⟨w.heap.size + 1, 3, none⟩ v3).setCell ⟨w.heap.size + 1, 4, none⟩ v4).cell? ⟨w.heap.size, 3, none⟩ = some (.slice a1 n1 c1) := fun v0 v1 v2 v3 v4 => by
    have h5 := hT2.same (five_other W2 (w.heap.size + 1) (k := w.heap.size) (by omega) v0 v1 v2 v3 v4)
    exact ⟨h5.c0, h5.c1, h5.c2, h5.c3⟩
  obtain ⟨r0, r1, r2, r3, r4, rfz⟩ := id hR2
  have rf0 := rfz 0
  have rf1 := rfz 1
  have rf2 := rfz 2
  have rf3 := rfz 3
  have rf4 := rfz 4
  have HW1 := Fact.mk hW1
  have HRUN := Fact.mk hrun
  have HR2 := Fact.mk hR2
  have HAS := Fact.mk hAS
  have HB2 : Fact (Below w.heap.size w W2) := ⟨hB1.trans (hb2'.mono hB1.size)⟩
  clear hW1 hrun hR2 hAS hb2 hb2' hT2 hT hR rfz ha hB1
  go_enter Try.func44, Try.ntmps44
  go_wp2_with fail
  rw [HW1.out]
  go_region_held3 (fun w' => w'.cell? ⟨w.heap.size, 0, none⟩ = some (.int .i64 K) ∧ w'.cell? ⟨w.heap.size, 1, none⟩ = some (.string N) ∧ w'.cell? ⟨w.heap.size, 2, none⟩ = some (.string X) ∧ w'.cell? ⟨w.heap.size, 3, none⟩ = some (.slice a1 n1 c1))
    (first | with_reducible exact hS0 | with_reducible exact hS2 | with_reducible exact hS3 _ _ _ _ _)
    (first
      | (refine wp_append_run (s := .const (.slice none 0 0)) (y := .tmp 10) (t := 22) rfl (by simp [Act.eval]) (by simp [Act.eval]) (HRUN.out _) ?_))
  go_wp2_with fail
  have h5 := five_all HR2.out (.int .i64 K) (.string N) (.string X) (.slice y1 y2 y3) (.slice none 0 0)
  have hoth : ∀ b, b ≠ w.heap.size + 1 → _ := fun b hb => five_other W2 (w.heap.size + 1) hb (.int .i64 K) (.string N) (.string X) (.slice y1 y2 y3) (.slice none 0 0)
  obtain ⟨W5, hW5⟩ : ∃ W5, ((((W2.setCell ⟨w.heap.size + 1, 0, none⟩ (.int .i64 K)).setCell ⟨w.heap.size + 1, 1, none⟩ (.string N)).setCell ⟨w.heap.size + 1, 2, none⟩ (.string X)).setCell ⟨w.heap.size + 1, 3, none⟩ (.slice y1 y2 y3)).setCell ⟨w.heap.size + 1, 4, none⟩ (.slice none 0 0) = W5 := ⟨_, rfl⟩
  have hz5 : W5.heap.size = W2.heap.size := by rw [← hW5]; simp [World.setCell]
  have hB5 : Below w.heap.size w W5 := ⟨by rw [← hW5]; exact HB2.out.os, by rw [← hW5]; exact HB2.out.tape, by rw [← hW5]; exact HB2.out.output, by rw [hz5]; exact HB2.out.size, fun k hk => by rw [← hW5]; exact (hoth k (by omega)).trans (HB2.out.block k hk)⟩
  have hA5 : AS (fun b => w.heap.size ≤ b) W5 (.slice y1 y2 y3) A := (HAS.out.like (fun b hb _ => by
    have hb' : W1.drew.heap.size ≤ b := hb
    have hzd : W1.drew.heap.size = W1.heap.size := rfl
    rw [← hW5]; exact hoth b (by omega))).mono (fun b hb => by
    have hb' : W1.drew.heap.size ≤ b := hb
    have hzd : W1.drew.heap.size = W1.heap.size := rfl
    show w.heap.size ≤ b
    omega)
  rw [hW5] at h5
  rw [hW5]
  exact bodyPost_ret (v := nodeV ⟨K, N, X, A⟩ (.slice y1 y2 y3) (.slice none 0 0)) (by simp [results, Try.f44, go_sem, h5.c0, h5.c1, h5.c2, h5.c3, h5.c4]) rfl ⟨y1, y2, y3, rfl, hB5, hA5⟩
end Go.Proofs.Ytfcmgkakmaclcaa
end

/- The document's Flat: rows of nodes with all in them; plain terms, and where they lie. -/
section
set_option linter.unusedVariables false
set_option linter.unusedSimpArgs false
namespace Go.Proofs.Ytfcmgkakmaclcaa.M
open Go.Deep
/-- the trees that begin at the nodes, in their order -/
def subsF : F → List (Nd × F)
  | .nil => []
  | .node _ _ d k r => (d, k) :: (subsF k ++ subsF r)
theorem subsF_len : ∀ f : F, (subsF f).length = f.size
  | .nil => rfl
  | .node _ _ d k r => by simp [subsF, BT.size, subsF_len k, subsF_len r]; omega
theorem subsF_fin : ∀ f : F, (subsF f).map (fun p => hT p.1 p.2) = finF f
  | .nil => rfl
  | .node _ _ d k r => by rw [subsF, finF, List.map_cons, List.map_append, subsF_fin k, subsF_fin r]
end Go.Proofs.Ytfcmgkakmaclcaa.M
namespace Go.Proofs.Ytfcmgkakmaclcaa
open Go.Deep (BT)
open Go.RowKit Go.Shelf M

/-- a node in the list: what is said of it, its attributes' copy, the tree that begins there -/
structure Rm where
  im : Im
  k : M.F
  oa : Value
  av : Value
  kv : Value
def c15 (r : Rm) : List Value := [.int .i64 r.im.p, .int .i64 r.im.z, .int .i64 r.im.dp, .int .i64 r.im.h, .int .i64 r.im.pl, .int .i64 r.im.d.k, .string r.im.d.n, .string r.im.d.x, r.oa, .slice none 0 0, .int .i64 r.im.d.k, .string r.im.d.n, .string r.im.d.x, r.av, r.kv]
def c15L : List Rm → List Value
  | [] => []
  | y :: l => c15 y ++ c15L l
theorem c15L_len : ∀ l, (c15L l).length = l.length * 15
  | [] => rfl
  | y :: l => by simp [c15L, c15, c15L_len l]; omega
theorem c15L_append : ∀ a b, c15L (a ++ b) = c15L a ++ c15L b
  | [], b => rfl
  | y :: a, b => by simp [c15L, c15L_append a b]
theorem c15L_get : ∀ (l : List Rm) (i : Nat) (y : Rm), l[i]? = some y → ∀ j u, (c15 y)[j]? = some u → (c15L l)[i * 15 + j]? = some u
  | [], _, _, h, _, _, _ => by cases h
  | x :: l, 0, y, h, j, u, hu => by
    simp only [List.getElem?_cons_zero, Option.some.injEq] at h
    subst h
    have hj := (List.getElem?_eq_some_iff.1 hu).1
    rw [c15L, List.getElem?_append_left (by simpa using hj)]
    simpa using hu
  | x :: l, i + 1, y, h, j, u, hu => by
    simp only [List.getElem?_cons_succ] at h
    have := c15L_get l i y h j u hu
    have hx : (c15 x).length = 15 := rfl
    rw [c15L, List.getElem?_append_right (by omega), hx, show (i + 1) * 15 + j - 15 = i * 15 + j by omega]
    exact this
theorem c15L_set : ∀ (l : List Rm) (i j : Nat) (y y' : Rm) (u : Value), l[i]? = some y → j < 15 → (c15 y).set j u = c15 y' → (c15L l).set (i * 15 + j) u = c15L (l.set i y')
  | [], _, _, _, _, _, h, _, _ => by cases h
  | x :: l, 0, j, y, y', u, h, hj, e => by
    simp only [List.getElem?_cons_zero, Option.some.injEq] at h
    subst h
    rw [c15L, List.set_append, if_pos (by show 0 * 15 + j < 15; omega), Nat.zero_mul, Nat.zero_add, e]
    rfl
  | x :: l, i + 1, j, y, y', u, h, hj, e => by
    simp only [List.getElem?_cons_succ] at h
    have := c15L_set l i j y y' u h hj e
    have hx : (c15 x).length = 15 := rfl
    rw [c15L, List.set_append, if_neg (by omega), hx, show (i + 1) * 15 + j - 15 = i * 15 + j by omega, this]
    rfl
theorem row15_at {w : World} {B E g n cap : Nat} {l : List Rm} (h : w.ownsRow B E 15 (.slice (some ⟨g, 0, none⟩) n cap) n (c15L l)) {i : Nat} {y : Rm} (hy : l[i]? = some y) :
    (∀ j u, (c15 y)[j]? = some u → w.cell? ⟨g, i * 15 + j, none⟩ = some u) ∧ (∀ o, w.frozen? ⟨g, o, none⟩ = false) ∧ B ≤ g ∧ g < w.heap.size ∧ n ≤ cap ∧ cap ≤ maxLen ∧ i < n := by
  obtain ⟨h1, h2⟩ := h
  have hl : l.length = n := by rw [c15L_len] at h1; omega
  have hi : i < n := by rw [← hl]; exact (List.getElem?_eq_some_iff.1 hy).1
  rcases h2 with ⟨e, _⟩ | ⟨g', cap', cur, e, hg, hh, hc1, hc2, hs, ht⟩
  · cases e
  · cases e
    refine ⟨fun j u hj => ?_, fun o => by simp [World.frozen?, hh], hg, (Array.getElem?_eq_some_iff.1 hh).1, hc1, hc2, hi⟩
    simp only [World.cell?, hh]
    have h3 := c15L_get l i y hy j u hj
    rw [← ht, List.getElem?_take] at h3
    split at h3
    · simpa using h3
    · cases h3
theorem row15_set {w : World} {B E g n cap : Nat} {l : List Rm} (h : w.ownsRow B E 15 (.slice (some ⟨g, 0, none⟩) n cap) n (c15L l)) {i j : Nat} {y y' : Rm} {u : Value} (hy : l[i]? = some y) (hj : j < 15) (e : (c15 y).set j u = c15 y') :
    (w.setCell ⟨g, i * 15 + j, none⟩ u).ownsRow B E 15 (.slice (some ⟨g, 0, none⟩) n cap) n (c15L (l.set i y')) := by
  have hs' := c15L_set l i j y y' u hy hj e
  obtain ⟨h1, h2⟩ := h
  refine ⟨by rw [← hs', List.length_set]; exact h1, .inr ?_⟩
  rcases h2 with ⟨e, _⟩ | ⟨g', cap', cur, e', hg, hh, hc1, hc2, hs, ht⟩
  · cases e
  · cases e'
    refine ⟨g, cap, cur.setIfInBounds (i * 15 + j) u, rfl, hg, ?_, hc1, hc2, by simpa using hs, ?_⟩
    · simp only [World.setCell, Array.getElem?_modify, hh]
      simp
    · rw [Array.toList_setIfInBounds, List.take_set, ht, hs']
theorem infoI7 : (Try.prog.info? 53).map (fun i => (i.zero, i.size, i.bytes)) = some (some (.agg #[.int .i64 0, .int .i64 0, .int .i64 0, .int .i64 0, .int .i64 0, .int .i64 0, .string ⟨#[]⟩, .string ⟨#[]⟩, .slice none 0 0, .slice none 0 0, .int .i64 0, .string ⟨#[]⟩, .string ⟨#[]⟩, .slice none 0 0, .slice none 0 0]), 15, 216) := by kernel_rfl
theorem cells15_new (w : World) (xs : List Value) (t : TypeId) : ∀ (j : Nat) (u : Value), xs[j]? = some u → (w.alloc (.cells xs.toArray t)).cell? ((⟨w.heap.size, 0, none⟩ : Addr).add j) = some u := by
  intro j u h
  rw [add_cell, Nat.zero_add]
  have := World.cell?_alloc_new w xs.toArray t j
  rw [this]
  simpa using h
theorem grown_trans {a b c : World} {o1 o2 : Option Nat} (h1 : a.grownBy b o1) (h2 : b.grownBy c o2) (h : o2 = o1 ∨ ∃ k, o2 = some k ∧ a.heap.size ≤ k) : a.grownBy c o1 :=
  ⟨h2.os.trans h1.os, h2.tape.trans h1.tape, h2.output.trans h1.output, Nat.le_trans h1.size h2.size, fun k hk hn => (h2.block k (Nat.lt_of_lt_of_le hk h1.size) (fun e => by
    rcases h with h | ⟨k', e', hk'⟩
    · exact hn (e.trans h)
    · have := Option.some.inj (e.trans e'); omega)).trans (h1.block k hk hn)⟩
theorem grown_below {a b : World} {o : Option Nat} (h : Below a.heap.size a b) : a.grownBy b o := ⟨h.os, h.tape, h.output, h.size, fun k hk _ => h.block k hk⟩
theorem grown_set {a b : World} {g : Nat} (h : a.grownBy b (some g)) (o : Nat) (u : Value) : a.grownBy (b.setCell ⟨g, o, none⟩ u) (some g) :=
  ⟨h.os, h.tape, h.output, by simp [World.setCell]; exact h.size, fun k hk hn => (Below.heap_setCell _ _ _ _ (fun e => hn (by rw [e]))).trans (h.block k hk hn)⟩
theorem grown_setN {a b : World} {o1 : Option Nat} {g : Nat} (h : a.grownBy b o1) (hg : some g = o1 ∨ a.heap.size ≤ g) (o : Nat) (u : Value) : a.grownBy (b.setCell ⟨g, o, none⟩ u) o1 :=
  ⟨h.os, h.tape, h.output, by simp [World.setCell]; exact h.size, fun k hk hn => (Below.heap_setCell _ _ _ _ (fun e => by
    have e' : k = g := e
    rcases hg with hg | hg
    · exact hn (by rw [e', hg])
    · omega)).trans (h.block k hk hn)⟩
theorem grown_like {a b : World} {o : Option Nat} {n : Nat} (h : a.grownBy b o) (ho : ∀ k, o = some k → n ≤ k) : Like (Old n) a b := fun k hk hz => h.block k hz (fun e => by have := ho k e.symm; have hk' : k < n := hk; omega)
end Go.Proofs.Ytfcmgkakmaclcaa
end

/- The document's flat: a node and all in it behind others. -/
section
set_option linter.unusedVariables false
set_option linter.unusedSimpArgs false
namespace Go.Proofs.Ytfcmgkakmaclcaa
open Go.Deep (BT)
open Go.RowKit Go.Shelf M

def AllR (n : Nat) (w : World) (l : List Rm) : Prop := ∀ r ∈ l, AS (Old n) w r.av r.im.d.ats ∧ FL (Old n) w r.kv r.k
theorem AllR.like {n : Nat} {w w' : World} (h : Like (Old n) w w') {l : List Rm} (ha : AllR n w l) : AllR n w' l := fun r hr => ⟨(ha r hr).1.like h, (ha r hr).2.like h⟩
theorem AllR.append {n : Nat} {w : World} {a b : List Rm} (ha : AllR n w a) (hb : AllR n w b) : AllR n w (a ++ b) := fun r hr => by
  rcases List.mem_append.1 hr with h | h
  · exact ha r h
  · exact hb r h
def RFlatP (k : M.F) : Prop := ∀ (d : Nd) (av kv : Value) (n B : Nat) (w : World) (l : List Rm) (v : Value) (p : Int) (dp pl : Nat), Lies n w d k av kv → n ≤ B → B ≤ w.heap.size →
  w.ownsRow B 53 15 v l.length (c15L l) → l.length + (k.size + 1) ≤ 1000000 → dp + k.depth ≤ 1000000 → d.ats.length + k.slots ≤ 1000000 →
  Calls Try.prog 37 #[v, nodeV d av kv, .int .i64 p, .int .i64 dp, .int .i64 pl] w fun e w' => ∃ v' news, e = .returned v' ∧ w'.ownsRow B 53 15 v' (l.length + (k.size + 1)) (c15L (l ++ news)) ∧ w.grownBy w' v.ownBlock ∧
    (v'.ownBlock = v.ownBlock ∨ ∃ b, v'.ownBlock = some b ∧ w.heap.size ≤ b) ∧ Fact (news.map (·.im) = ⟨p, k.size + 1, dp, k.depth + 1, pl, d⟩ :: flatF l.length (dp + 1) 0 (l.length + 1) k ∧ news.map (fun r => (r.im.d, r.k)) = (d, k) :: subsF k ∧ AllR n w' news)
theorem own_pos {w : World} {B E z n : Nat} {v : Value} {xs : List Value} (hn : 1 ≤ n) (h : w.ownsRow B E z v n xs) : ∃ g c, v = .slice (some ⟨g, 0, none⟩) n c := by
  rcases h.2 with ⟨_, h0⟩ | ⟨g, cap, cur, e, _⟩
  · omega
  · exact ⟨g, cap, e⟩

set_option maxRecDepth 100000 in
set_option maxHeartbeats 8000000 in
theorem rflat_step (k : M.F) (hH : Hered RFlatP k) : RFlatP k := by
  intro d av kv n B w l v p dp pl hl hnB hBw hrow hlen hdeep hslots
  obtain ⟨K, N, X, A⟩ := d
  obtain ⟨a1, n1, c1, e1⟩ := hl.a.val
  obtain ⟨a2, c2, rfl, hc2, hm2, hF⟩ := hl.f
  subst e1
  obtain ⟨av0, cv, e3⟩ := own_shape hrow
  subst e3
  obtain ⟨L, hL⟩ : ∃ L, l.length = L := ⟨_, rfl⟩
  obtain ⟨kl, hkl⟩ : ∃ kl, k.len = kl := ⟨_, rfl⟩
  rw [hL] at hrow hlen ⊢
  have HA : Fact (AS (Old n) w (.slice a1 n1 c1) A) := ⟨hl.a⟩
  have HFK : Fact (FL (Old n) w (.slice a2 k.len c2) k) := ⟨hl.f⟩
  rw [hkl] at hc2 HFK ⊢
  unfold maxLen at hm2
  dsimp only at hslots
  obtain ⟨b2, o2, hkd⟩ : ∃ b o, Fact (∀ i, i < kl → a2 = some ⟨b, o, none⟩ ∧ b < n ∧ FAt (Old n) w k b o) := by
    rcases hF with h0 | ⟨b, o, ea, hS, hcs⟩
    · refine ⟨0, 0, ⟨fun i hi => ?_⟩⟩
      omega
    · exact ⟨b, o, ⟨fun i hi => ⟨ea, hS, hcs⟩⟩⟩
  have hklk : kl ≤ 1000000 := by rw [← hkl]; have : ∀ f : M.F, f.len ≤ f.size := (fun f => by induction f with | nil => exact Nat.le_refl _ | node _ _ d k r _ ih => simp only [BT.len, BT.size]; omega); have := this k; omega
  obtain ⟨W1, hW1⟩ : ∃ W1, w.alloc (.cells #[.int .i64 K, .string N, .string X, .slice a1 n1 c1, .slice a2 kl c2] 25) = W1 := ⟨_, rfl⟩
  have hB1 : Below w.heap.size w W1 := by rw [← hW1]; exact (Below.refl _ w).alloc (Nat.le_refl _) _
  have hz1 : W1.heap.size = w.heap.size + 1 := by rw [← hW1]; simp
  have hbx : Five W1 w.heap.size (.int .i64 K) (.string N) (.string X) (.slice a1 n1 c1) (.slice a2 kl c2) := by rw [← hW1]; exact Five.new w _ _ _ _ _ _
  have hown1 : W1.ownsRow B 53 15 (.slice av0 L cv) L (c15L l) := by rw [← hW1]; exact hrow.alloc _
  have HOB : Fact (∀ g, (Value.slice av0 L cv).ownBlock = some g → B ≤ g ∧ g < w.heap.size) := ⟨fun g e => hrow.lt g e⟩
  have HBX := Fact.mk hbx
  have HB1 := Fact.mk hB1
  have HW1 := Fact.mk hW1
  have HKL := Fact.mk hkl
  have HLL := Fact.mk hL
  have HH := Fact.mk hH
  have hS0 : W1.drew.cell? ⟨w.heap.size, 0, none⟩ = some (.int .i64 K) ∧ W1.drew.cell? ⟨w.heap.size, 1, none⟩ = some (.string N) ∧ W1.drew.cell? ⟨w.heap.size, 2, none⟩ = some (.string X) ∧ W1.drew.cell? ⟨w.heap.size, 3, none⟩ = some (.slice a1 n1 c1) ∧ W1.drew.cell? ⟨w.heap.size, 4, none⟩ = some (.slice a2 kl c2) := ⟨hbx.c0, hbx.c1, hbx.c2, hbx.c3, hbx.c4⟩
  have HBARE : Fact (Calls Try.prog 44 #[.agg #[.int .i64 K, .string N, .string X, .slice a1 n1 c1, .slice a2 kl c2]] W1.drew fun e w' => ∃ y1 y2 y3, e = .returned (.agg #[.int .i64 K, .string N, .string X, .slice y1 y2 y3, .slice none 0 0]) ∧ Below W1.drew.heap.size W1.drew w') := ⟨by
    refine (bare_any ⟨K, N, X, A⟩ (.slice a1 n1 c1) (.slice a2 kl c2) n W1.drew ((hl.a.like (like_below (hB1.mono (Nat.le_trans hnB hBw)))).like (fun _ _ _ => rfl)) (by dsimp only; omega) (by show n ≤ W1.heap.size; omega) ⟨_, _, _, rfl⟩).mono ?_
    rintro e w' ⟨y1, y2, y3, rfl, hb, _⟩
    exact ⟨y1, y2, y3, rfl, hb⟩⟩
  have HOWN1 := Fact.mk hown1
  obtain ⟨i0, hii, hzz0, hzz1, hzz2⟩ := info_parts infoI7
  clear hF hl hrow hW1 hH hB1 hbx hown1 hL hkl
  go_enter Try.func37, Try.ntmps37
  go_upto_region 2 with fail
  rw [HW1.out]
  go_region_held3 (fun w' => w'.cell? ⟨w.heap.size, 0, none⟩ = some (.int .i64 K) ∧ w'.cell? ⟨w.heap.size, 1, none⟩ = some (.string N) ∧ w'.cell? ⟨w.heap.size, 2, none⟩ = some (.string X) ∧ w'.cell? ⟨w.heap.size, 3, none⟩ = some (.slice a1 n1 c1) ∧ w'.cell? ⟨w.heap.size, 4, none⟩ = some (.slice a2 kl c2))
    (first | with_reducible exact hS0 | with_reducible exact hS2 | with_reducible exact hS3 _ | with_reducible exact hS4)
    (first
      | (refine wp_append_at _ (.tmp 17) (.tmp 25) 50 rfl B 53 i0 _ 15 216 Try.underlying50 hii hzz0 hzz1 hzz2 rfl (by decide) (.slice av0 L cv) L (c15L l) (by simp [Act.eval]) (HO2.out.alloc _) ⟨w2.heap.size, 0, none⟩ 1 1 [.int .i64 p, .int .i64 0, .int .i64 dp, .int .i64 0, .int .i64 pl, .int .i64 K, .string N, .string X, .slice y1 y2 y3, .slice none 0 0, .int .i64 K, .string N, .string X, .slice a1 n1 c1, .slice a2 kl c2] (by simp [Act.eval]) rfl (cells15_new _ _ _) (by simp [Value.oneCell']) (by unfold maxLen; omega) (by omega) (by simp; omega) ?_; intro v3 w3 hown3 hgrow3 hat3; have hbk : w3.heap[w.heap.size]? = w2.heap[w.heap.size]? := (hgrow3.block _ (by simp; omega) (fun e => by have := (HOB.out _ e.symm).2; omega)).trans (Below.heap_alloc _ _ _ (by omega)); have hfv3 := Fact.mk (hfv2.out.same hbk); have hS4 : w3.cell? ⟨w.heap.size, 0, none⟩ = some (.int .i64 K) ∧ w3.cell? ⟨w.heap.size, 1, none⟩ = some (.string N) ∧ w3.cell? ⟨w.heap.size, 2, none⟩ = some (.string X) ∧ w3.cell? ⟨w.heap.size, 3, none⟩ = some (.slice a1 n1 c1) ∧ w3.cell? ⟨w.heap.size, 4, none⟩ = some (.slice a2 kl c2) := ⟨hfv3.out.c0, hfv3.out.c1, hfv3.out.c2, hfv3.out.c3, hfv3.out.c4⟩)
      | (go_at_call 44; refine HBARE.out.mono ?_; rintro e w2 ⟨y1, y2, y3, rfl, hb2⟩; have hzz := hb2.size; have hzd : W1.drew.heap.size = W1.heap.size := rfl; have hfv2 : Fact (Five w2 w.heap.size (.int .i64 K) (.string N) (.string X) (.slice a1 n1 c1) (.slice a2 kl c2)) := ⟨HBX.out.same (hb2.block _ (by omega))⟩; have hS2 : w2.cell? ⟨w.heap.size, 0, none⟩ = some (.int .i64 K) ∧ w2.cell? ⟨w.heap.size, 1, none⟩ = some (.string N) ∧ w2.cell? ⟨w.heap.size, 2, none⟩ = some (.string X) ∧ w2.cell? ⟨w.heap.size, 3, none⟩ = some (.slice a1 n1 c1) ∧ w2.cell? ⟨w.heap.size, 4, none⟩ = some (.slice a2 kl c2) := ⟨hfv2.out.c0, hfv2.out.c1, hfv2.out.c2, hfv2.out.c3, hfv2.out.c4⟩; have hS3 : ∀ o, (w2.alloc o).cell? ⟨w.heap.size, 0, none⟩ = some (.int .i64 K) ∧ (w2.alloc o).cell? ⟨w.heap.size, 1, none⟩ = some (.string N) ∧ (w2.alloc o).cell? ⟨w.heap.size, 2, none⟩ = some (.string X) ∧ (w2.alloc o).cell? ⟨w.heap.size, 3, none⟩ = some (.slice a1 n1 c1) ∧ (w2.alloc o).cell? ⟨w.heap.size, 4, none⟩ = some (.slice a2 kl c2) := fun o => (let h := hfv2.out.same (w' := w2.alloc o) (Below.heap_alloc _ _ _ (by omega)); ⟨h.c0, h.c1, h.c2, h.c3, h.c4⟩); have HO2 : Fact (w2.ownsRow B 53 15 (.slice av0 L cv) L (c15L l)) := ⟨own_block HOWN1.out (fun k _ hk => hb2.block k hk)⟩))
  obtain ⟨g3, c3, rfl⟩ := own_pos (by omega) hown3
  obtain ⟨hd, hhd⟩ : ∃ hd : Rm, (⟨⟨p, 0, dp, 0, pl, ⟨K, N, X, A⟩⟩, k, .slice y1 y2 y3, .slice a1 n1 c1, .slice a2 kl c2⟩ : Rm) = hd := ⟨_, rfl⟩
  have HHD := Fact.mk hhd
  have HO3 : Fact (w3.ownsRow B 53 15 (.slice (some ⟨g3, 0, none⟩) (L + 1) c3) (L + 1) (c15L (l ++ hd :: []))) := ⟨by
    rw [c15L_append, ← hhd]; exact hown3⟩
  have HG3 : Fact (W1.grownBy w3 (Value.slice av0 L cv).ownBlock) := ⟨by
    have h2 : W1.grownBy (w2.alloc (.cells #[.int .i64 p, .int .i64 0, .int .i64 dp, .int .i64 0, .int .i64 pl, .int .i64 K, .string N, .string X, .slice y1 y2 y3, .slice none 0 0, .int .i64 K, .string N, .string X, .slice a1 n1 c1, .slice a2 kl c2] 53)) (Value.slice av0 L cv).ownBlock :=
      grown_below ((show Below W1.heap.size W1 w2 from ⟨hb2.os, hb2.tape, hb2.output, hb2.size, hb2.block⟩).alloc hb2.size _)
    exact grown_trans h2 hgrow3 (.inl rfl)⟩
  have HAT3 : Fact ((Value.slice (some ⟨g3, 0, none⟩) (L + 1) c3).ownBlock = (Value.slice av0 L cv).ownBlock ∨ ∃ b, (Value.slice (some ⟨g3, 0, none⟩) (L + 1) c3).ownBlock = some b ∧ W1.heap.size ≤ b) := ⟨by
    rcases hat3 with h | h
    · exact .inl h
    · exact .inr ⟨_, h, by simp; omega⟩⟩
  have hLI : ((L : Int) + 1) = ((L + 1 : Nat) : Int) := by omega
  clear hS0 hS2 hS3 hS4 hown3 hgrow3 hat3 hbk hfv3 hfv2 hhd hb2 HO2 hzz HBARE HOWN1
  obtain ⟨m0, hm0⟩ : ∃ m0, L + 1 = m0 := ⟨_, rfl⟩
  rw [hm0] at HO3 HAT3 ⊢
  go_wp2_with fail
  go_loopg [0, 12, 13] kl (fun gf lv hv iv wr => ∃ (i : Nat) (rest : M.F) (done : List Rm) (D m g c : Nat), (lv = .slice (some ⟨g, 0, none⟩) m c ∧ hv = .int .i64 D ∧ iv = .int .i64 i) ∧ i + rest.len = kl ∧ rest.len ≤ gf ∧ m = L + 1 + done.length ∧
    Fact (W1.grownBy wr (Value.slice av0 L cv).ownBlock ∧ ((Value.slice (some ⟨g, 0, none⟩) m c).ownBlock = (Value.slice av0 L cv).ownBlock ∨ ∃ b, (Value.slice (some ⟨g, 0, none⟩) m c).ownBlock = some b ∧ W1.heap.size ≤ b) ∧ wr.ownsRow B 53 15 (.slice (some ⟨g, 0, none⟩) m c) m (c15L (l ++ hd :: done))) ∧
    Fact ((rest.len = 0 ∨ FAt (Old n) w rest b2 (o2 + i * 5)) ∧ Hered RFlatP rest ∧ k.size = done.length + rest.size ∧ k.depth = max D rest.depth ∧ rest.slots ≤ 1000000 ∧ flatF L (dp + 1) 0 (L + 1) k = done.map (·.im) ++ flatF L (dp + 1) i (L + 1 + done.length) rest ∧ subsF k = done.map (fun r => (r.im.d, r.k)) ++ subsF rest ∧ AllR n w done))
  case atStart =>
    refine ⟨0, k, [], 0, m0, g3, c3, ⟨rfl, rfl, rfl⟩, by rw [HKL.out]; omega, by rw [HKL.out]; omega, by rw [← hm0]; rfl, ⟨HG3.out, HAT3.out, HO3.out⟩, ⟨?_, HH.out, by simp, by omega, by omega, by simp, by simp, fun r hr => by cases hr⟩⟩
    by_cases h0 : kl = 0
    · left; rw [HKL.out]; exact h0
    · right
      rw [Nat.zero_mul, Nat.add_zero]
      exact (hkd.out 0 (by omega)).2.2
  case round =>
    obtain ⟨i, rest, done, D, m, g, c, ⟨rfl, rfl, rfl⟩, hlr, hfu, hm, hW, hfx⟩ := hrel
    have hw1 : w.heap.size < W1.heap.size := by omega
    have x4 : wr.cell? ⟨w.heap.size, 4, none⟩ = some (.slice a2 kl c2) := (World.cell?_of_block (w := W1) (a := ⟨w.heap.size, 4, none⟩) (hW.out.1.block _ hw1 (fun e => Nat.lt_irrefl _ (HOB.out _ e.symm).2))).trans HBX.out.c4
    have hgl : Below n w wr := HB1.out.mono (Nat.le_trans hnB hBw) |>.trans ⟨hW.out.1.os, hW.out.1.tape, hW.out.1.output, hW.out.1.size, fun k hk => hW.out.1.block k (by omega) (fun e => by have := (HOB.out _ e.symm).1; omega)⟩
    cases rest with
    | nil =>
      have hi : i = kl := by have : i + 0 = kl := hlr; omega
      obtain ⟨_, _, q1, q2, _, q4, q5, q6⟩ := hfx.out
      simp only [BT.size, BT.depth] at q1 q2
      obtain ⟨Z, hZ⟩ : ∃ Z, k.size + 1 = Z := ⟨_, rfl⟩
      obtain ⟨E, hE⟩ : ∃ E, D + 1 = E := ⟨_, rfl⟩
      have hmZ : m = L + Z := by omega
      have hget : (l ++ hd :: done)[L]? = some hd := by rw [List.getElem?_append_right (by rw [HLL.out]; exact Nat.le_refl _), HLL.out, Nat.sub_self]; rfl
      obtain ⟨hr, hfz, hgB, hgl2, hcm, hcM, hLm⟩ := row15_at hW.out.2.2 hget
      have cz : wr.cell? ⟨g, L * 15 + 1, none⟩ = some (.int .i64 0) := by have := hr 1 _ rfl; rw [← HHD.out] at this; exact this
      have fz := hfz (L * 15 + 1)
      obtain ⟨h1, eh1⟩ : ∃ h1 : Rm, ({ hd with im := { hd.im with z := (Z : Int) } } : Rm) = h1 := ⟨_, rfl⟩
      have hs1 := row15_set (j := 1) (u := .int .i64 Z) (y' := h1) hW.out.2.2 hget (by omega) (by rw [← eh1]; rfl)
      have hset1 : (l ++ hd :: done).set L h1 = l ++ h1 :: done := by rw [List.set_append_right _ _ (by rw [HLL.out]; exact Nat.le_refl _), HLL.out, Nat.sub_self]; rfl
      rw [hset1] at hs1
      have hget1 : (l ++ h1 :: done)[L]? = some h1 := by rw [List.getElem?_append_right (by rw [HLL.out]; exact Nat.le_refl _), HLL.out, Nat.sub_self]; rfl
      obtain ⟨hr1, hfz1, _, _, _, _, _⟩ := row15_at hs1 hget1
      have cz1 : (wr.setCell ⟨g, L * 15 + 1, none⟩ (.int .i64 Z)).cell? ⟨g, L * 15 + 3, none⟩ = some (.int .i64 0) := by have := hr1 3 _ rfl; rw [← eh1, ← HHD.out] at this; exact this
      have fz1 := hfz1 (L * 15 + 3)
      obtain ⟨h2, eh2⟩ : ∃ h2 : Rm, ({ h1 with im := { h1.im with h := (E : Int) } } : Rm) = h2 := ⟨_, rfl⟩
      have hs2 := row15_set (j := 3) (u := .int .i64 E) (y' := h2) hs1 hget1 (by omega) (by rw [← eh2]; rfl)
      have hset2 : (l ++ h1 :: done).set L h2 = l ++ h2 :: done := by rw [List.set_append_right _ _ (by rw [HLL.out]; exact Nat.le_refl _), HLL.out, Nat.sub_self]; rfl
      rw [hset2] at hs2
      have HS2 := Fact.mk hs2
      have hgB' : (Value.slice (some ⟨g, 0, none⟩) m c).ownBlock = some g := rfl
      have hgo : some g = (Value.slice av0 L cv).ownBlock ∨ W1.heap.size ≤ g := by
        rcases hW.out.2.1 with h | ⟨b, h, hb⟩
        · exact .inl h
        · right; rw [hgB'] at h; cases h; exact hb
      have HGW := Fact.mk (grown_setN (grown_setN hW.out.1 hgo (L * 15 + 1) (.int .i64 Z)) hgo (L * 15 + 3) (.int .i64 E))
      have HAT : Fact ((Value.slice (some ⟨g, 0, none⟩) m c).ownBlock = (Value.slice av0 L cv).ownBlock ∨ ∃ b, (Value.slice (some ⟨g, 0, none⟩) m c).ownBlock = some b ∧ w.heap.size ≤ b) := ⟨by
        rcases hW.out.2.1 with h | ⟨b, h, hb⟩
        · exact .inl h
        · exact .inr ⟨b, h, by omega⟩⟩
      have HNEW : Fact ((h2 :: done).map (·.im) = ⟨p, k.size + 1, dp, k.depth + 1, pl, ⟨K, N, X, A⟩⟩ :: flatF L (dp + 1) 0 (L + 1) k ∧ (h2 :: done).map (fun r => (r.im.d, r.k)) = (⟨K, N, X, A⟩, k) :: subsF k) := ⟨by
        constructor
        · rw [List.map_cons, q4, ← eh2, ← eh1, ← HHD.out]
          simp only [flatF, List.append_nil, List.cons.injEq, Im.mk.injEq, and_true, true_and]
          exact ⟨by omega, by omega⟩
        · rw [List.map_cons, q5, ← eh2, ← eh1, ← HHD.out]
          simp [subsF]⟩
      have HALL : Fact (AS (Old n) w h2.av h2.im.d.ats ∧ FL (Old n) w h2.kv h2.k) := ⟨by
        rw [← eh2, ← eh1, ← HHD.out]
        exact ⟨HA.out, HFK.out⟩⟩
      have HQ6 := Fact.mk q6
      have hsub : IntKind.i64.wrap ((m : Int) - (L : Int)) = (Z : Int) := by rw [wrap_id (by omega) (by omega)]; omega
      have hadd : IntKind.i64.wrap ((D : Int) + 1) = (E : Int) := by rw [wrap_id (by omega) (by omega)]; omega
      have l0 : (0 : Int) ≤ L := by omega
      have l1 : (L : Int) < m := by omega
      have HMZ := Fact.mk hmZ
      have HZZ := Fact.mk hZ
      clear hfx hlr hm hkd hr hfz hget hset1 hget1 hr1 hfz1 hset2 hs1 hs2 q1 q2 q4 q5 q6 hmZ hZ hE hgo hgB' hW
      subst hi
      go_wp2_with fail
      go_ret
      have hgw := grown_trans (grown_below HB1.out) HGW.out (.inl rfl)
      have hlike := grown_like (n := n) hgw (fun k e => Nat.le_trans hnB (HOB.out k e).1)
      refine ⟨_, rfl, h2 :: done, by rw [HZZ.out, ← HMZ.out]; exact HS2.out, hgw, HAT.out, ⟨by rw [← hm0]; exact HNEW.out.1, HNEW.out.2, ?_⟩⟩
      intro r hr
      rcases List.mem_cons.1 hr with rfl | hr
      · exact ⟨HALL.out.1.like hlike, HALL.out.2.like hlike⟩
      · exact ⟨(HQ6.out r hr).1.like hlike, (HQ6.out r hr).2.like hlike⟩
    | node xb xo d' k' r' =>
      have hlen' : i + (r'.len + 1) = kl := hlr
      have hfu' : r'.len + 1 ≤ gk := hfu
      obtain ⟨g', rfl⟩ : ∃ g', gk = g' + 1 := ⟨gk - 1, by omega⟩
      have hlt2 : i < kl := by omega
      obtain ⟨ea2, hb2, _⟩ := hkd.out i hlt2
      subst ea2
      obtain ⟨hfat, ⟨hP, hHr⟩, q1, q2, q3, q4, q5, q6⟩ := hfx.out
      have hfat' := hfat.resolve_left (by show ¬ r'.len + 1 = 0; omega)
      obtain ⟨⟨av', ka', kc', e0, e1, e2, e3, e4, hav', h4, h5, hkk⟩, hrr⟩ := hfat'
      obtain ⟨x1', x2', x3', ex⟩ := hav'.val
      subst ex
      obtain ⟨kl', hkl'⟩ : ∃ kl', k'.len = kl' := ⟨_, rfl⟩
      simp only [BT.size] at q1
      simp only [BT.depth] at q2
      simp only [BT.slots] at q3
      have hcc : ∀ o, wr.cell? ⟨b2, o, none⟩ = w.cell? ⟨b2, o, none⟩ := fun o => hgl.cell (p := ⟨b2, o, none⟩) hb2
      have m0_ := (hcc _).trans e0
      have m1_ := (hcc _).trans e1
      have m2_ := (hcc _).trans e2
      have m3_ := (hcc _).trans e3
      have m4_ := (hcc _).trans e4
      have hlk : Like (Old n) w wr := like_below hgl
      have hml : (l ++ hd :: done).length = m := by rw [List.length_append, List.length_cons, HLL.out, hm]; omega
      have hcall := hP d' (.slice x1' x2' x3') (.slice ka' k'.len kc') n B wr (l ++ hd :: done) (.slice (some ⟨g, 0, none⟩) m c) L (dp + 1) i ⟨hav'.like hlk, FL.like hlk ⟨ka', kc', rfl, h4, h5, hkk⟩⟩ hnB (Nat.le_trans hBw (Nat.le_trans HB1.out.size hW.out.1.size)) (by rw [hml]; exact hW.out.2.2) (by rw [hml]; omega) (by omega) (by omega)
      obtain ⟨Z, hZ⟩ : ∃ Z, k'.size + 1 = Z := ⟨_, rfl⟩
      obtain ⟨m2, hm2'⟩ : ∃ m2, m + Z = m2 := ⟨_, rfl⟩
      rw [hml, hkl', hZ, hm2', show ((dp + 1 : Nat) : Int) = (dp : Int) + 1 from by omega] at hcall
      rw [hkl'] at m4_
      have HCALL := Fact.mk hcall
      obtain ⟨E, hE⟩ : ∃ E, k'.depth + 1 = E := ⟨_, rfl⟩
      obtain ⟨M, hM⟩ : ∃ M, max D E = M := ⟨_, rfl⟩
      have hmaxI : max (D : Int) (E : Int) = (M : Int) := by omega
      have hdpI : IntKind.i64.wrap ((dp : Int) + 1) = (dp : Int) + 1 := wrap_id (by omega) (by omega)
      have iI : (i : Int) < kl := by omega
      have iI0 : (0 : Int) ≤ i := by omega
      have mI0 : (0 : Int) ≤ m := by omega
      have mI1 : (m : Int) < m2 := by omega
      have HR : Fact ((r'.len = 0 ∨ FAt (Old n) w r' b2 (o2 + (i + 1) * 5)) ∧ Hered RFlatP r' ∧ k.size = done.length + (1 + k'.size + r'.size) ∧ k.depth = max D (max (k'.depth + 1) r'.depth) ∧ r'.slots ≤ 1000000) := ⟨.inr (by rw [show o2 + (i + 1) * 5 = o2 + i * 5 + 5 by omega]; exact hrr), hHr, q1, q2, by omega⟩
      have HQ4 := Fact.mk q4
      have HQ5 := Fact.mk q5
      have HQ6 := Fact.mk q6
      have HM := Fact.mk hm
      have HZ := Fact.mk hZ
      have HM2 := Fact.mk hm2'
      have HE := Fact.mk hE
      have HMM := Fact.mk hM
      have HML := Fact.mk hml
      clear hfx hfat hP hHr hrr hkk hav' hcall hlk e0 e1 e2 e3 e4 hkd hlr hfu q1 q2 q3 q4 q5 q6 hcc hgl hm hZ hm2' hE hM hml
      go_upto_region 9 with (go_at_call 37; refine HCALL.out.mono ?_; rintro e w5 ⟨v5, news, rfl, hown5, hgr5, hat5, hn5⟩)
      obtain ⟨g5, c5, rfl⟩ := own_pos (by omega) hown5
      obtain ⟨hn1, hn2, hn3⟩ := hn5.out
      obtain ⟨nw, news', rfl⟩ : ∃ nw news', news = nw :: news' := by
        cases news with
        | nil => simp at hn1
        | cons a b => exact ⟨a, b, rfl⟩
      have hnwh : nw.im.h = E := by
        rw [List.map_cons, List.cons.injEq] at hn1
        rw [hn1.1]
        have := HE.out
        show (k'.depth : Int) + 1 = E
        omega
      have hget : ((l ++ hd :: done) ++ nw :: news')[m]? = some nw := by
        rw [List.getElem?_append_right (by rw [HML.out]; exact Nat.le_refl _), HML.out, Nat.sub_self]; rfl
      obtain ⟨hr, _, _, _, hcm5, _, _⟩ := row15_at hown5 hget
      have ch : w5.cell? ⟨g5, m * 15 + 3, none⟩ = some (.int .i64 E) := by have := hr 3 _ rfl; rw [hnwh] at this; exact this
      have HW5 : Fact (W1.grownBy w5 (Value.slice av0 L cv).ownBlock ∧ ((Value.slice (some ⟨g5, 0, none⟩) m2 c5).ownBlock = (Value.slice av0 L cv).ownBlock ∨ ∃ b, (Value.slice (some ⟨g5, 0, none⟩) m2 c5).ownBlock = some b ∧ W1.heap.size ≤ b) ∧ w5.ownsRow B 53 15 (.slice (some ⟨g5, 0, none⟩) m2 c5) m2 (c15L (l ++ hd :: (done ++ nw :: news')))) := ⟨by
        have hsz := hW.out.1.size
        refine ⟨grown_trans hW.out.1 hgr5 ?_, ?_, ?_⟩
        · exact hW.out.2.1
        · rcases hat5 with h | ⟨b, h, hb⟩
          · rw [h]; exact hW.out.2.1
          · exact .inr ⟨b, h, by omega⟩
        · have e : (l ++ hd :: done) ++ nw :: news' = l ++ hd :: (done ++ nw :: news') := by simp
          rw [← e]
          exact hown5⟩
      have hnl : (nw :: news').length = Z := by
        have := congrArg List.length hn1
        simp only [List.length_map, List.length_cons, flatF_len] at this
        rw [List.length_cons]
        have h2 := HZ.out
        omega
      have HMAP : Fact (flatF L (dp + 1) 0 (L + 1) k = (done ++ nw :: news').map (·.im) ++ flatF L (dp + 1) (i + 1) (L + 1 + (done ++ nw :: news').length) r') := ⟨by
        have h1 := HQ4.out
        rw [flatF] at h1
        rw [h1, List.map_append, hn1, List.append_assoc, List.cons_append]
        have hmm : L + 1 + done.length = m := HM.out.symm
        rw [hmm, show L + 1 + (done ++ nw :: news').length = m + 1 + k'.size by rw [List.length_append, hnl]; have := HZ.out; omega]⟩
      have HSUB : Fact (subsF k = (done ++ nw :: news').map (fun r => (r.im.d, r.k)) ++ subsF r') := ⟨by
        have h1 := HQ5.out
        rw [subsF] at h1
        rw [h1, List.map_append, hn2, List.append_assoc, List.cons_append]⟩
      have HALLR : Fact (AllR n w (done ++ nw :: news')) := ⟨HQ6.out.append (fun r hr => by
        have hb : Like (Old n) w5 w := fun k hk _ => by
          have hk' : k < n := hk
          have hsz := HB1.out.size
          have h1 := HW5.out.1.block k (by omega) (fun e => by have := (HOB.out _ e.symm).1; omega)
          exact ((HB1.out.block k (by omega)).symm).trans h1.symm
        exact ⟨(hn3 r hr).1.like hb, (hn3 r hr).2.like hb⟩)⟩
      have HLEN : Fact (m2 = L + 1 + (done ++ nw :: news').length) := ⟨by rw [List.length_append, hnl]; have := HM.out; have := HM2.out; omega⟩
      have HSZ : Fact (k.size = (done ++ nw :: news').length + r'.size) := ⟨by rw [List.length_append, hnl]; have := HR.out.2.2.1; have := HZ.out; omega⟩
      have HDP : Fact (k.depth = max M r'.depth) := ⟨by have := HR.out.2.2.2.1; have := HE.out; have := HMM.out; omega⟩
      clear hown5 hgr5 hat5 hn5 hn1 hn2 hn3 hr hget hW HCALL hnwh hnl m0_ m1_ m2_ m3_ m4_
      go_wp2_with fail
      go_roundg g'
      case measure => omega
      case rel => exact ⟨i + 1, r', done ++ nw :: news', M, m2, g5, c5, ⟨rfl, rfl, by go_num⟩, by omega, by omega, HLEN.out, HW5, ⟨HR.out.1, HR.out.2.1, HSZ.out, HDP.out, HR.out.2.2.2.2, HMAP.out, HSUB.out, HALLR.out⟩⟩
theorem rflat_any (k : M.F) : RFlatP k := indH rflat_step k
end Go.Proofs.Ytfcmgkakmaclcaa
end

/- The document's own Of of a tree. -/
section
set_option linter.unusedVariables false
set_option linter.unusedSimpArgs false
namespace Go.Proofs.Ytfcmgkakmaclcaa
open Go.Deep (BT)
open Go.RowKit Go.Shelf M
open Bt (mx IsU mx_u ret_int)

def ROfP (k : M.F) : Prop := ∀ (d : Nd) (av kv : Value) (n : Nat) (w : World), Lies n w d k av kv → n ≤ w.heap.size → OKnd d → allF OKnd k → k.size ≤ 1000000 →
  Calls Try.prog 17 #[nodeV d av kv] w fun e w' => e = .returned (.int .u64 (hT d k)) ∧ Below w.heap.size w w'

set_option maxRecDepth 100000 in
set_option maxHeartbeats 8000000 in
theorem rof_step (k : M.F) (hH : Hered ROfP k) : ROfP k := by
  intro d av kv n w hl hn hnd hok hbd
  obtain ⟨K, N, X, A⟩ := d
  obtain ⟨a1, c1, rfl, hc1, hm1, hA⟩ := hl.a
  obtain ⟨a2, c2, rfl, hc2, hm2, hF⟩ := hl.f
  dsimp only at hc1 hA ⊢
  obtain ⟨aln, hal⟩ : ∃ aln, A.length = aln := ⟨_, rfl⟩
  obtain ⟨kl, hkl⟩ : ∃ kl, k.len = kl := ⟨_, rfl⟩
  rw [hal, hkl]
  rw [hal] at hc1
  rw [hkl] at hc2
  have hal20 : aln ≤ 20 := by have := hnd.many; dsimp only at this; omega
  have hklb : kl ≤ 1000000 := by rw [← hkl]; have : ∀ f : M.F, f.len ≤ f.size := (fun f => by induction f with | nil => exact Nat.le_refl _ | node _ _ d k r _ ih => simp only [BT.len, BT.size]; omega); have := this k; omega
  unfold maxLen at hm1 hm2
  have hN200 : N.size ≤ 200 := hnd.name
  have hX6 : X.size ≤ 6000 := hnd.text
  obtain ⟨b1, o1, hat⟩ : ∃ b o, Fact (∀ i, i < aln → a1 = some ⟨b, o, none⟩ ∧ b < w.heap.size ∧ w.cell? ⟨b, o + i * 2, none⟩ = some (.string (bs A i).1) ∧ w.cell? ⟨b, o + i * 2 + 1, none⟩ = some (.string (bs A i).2)) := by
    rcases hA with h0 | ⟨b, o, ea, hS, hcs⟩
    · refine ⟨0, 0, ⟨fun i hi => ?_⟩⟩
      rw [h0] at hal
      simp at hal
      omega
    · refine ⟨b, o, ⟨fun i hi => ⟨ea, Nat.lt_of_lt_of_le hS hn, ?_, ?_⟩⟩⟩
      · rw [← bs_get A i (by rw [hal]; exact hi)]; exact (hcs i (by rw [hal]; exact hi)).1
      · rw [← bs_get A i (by rw [hal]; exact hi)]; exact (hcs i (by rw [hal]; exact hi)).2
  obtain ⟨b2, o2, hkd⟩ : ∃ b o, Fact (∀ i, i < kl → a2 = some ⟨b, o, none⟩ ∧ b < n ∧ FAt (Old n) w k b o) := by
    rcases hF with h0 | ⟨b, o, ea, hS, hcs⟩
    · refine ⟨0, 0, ⟨fun i hi => ?_⟩⟩
      omega
    · exact ⟨b, o, ⟨fun i hi => ⟨ea, hS, hcs⟩⟩⟩
  obtain ⟨W1, hW1⟩ : ∃ W1, w.alloc (.cells #[.int .i64 K, .string N, .string X, .slice a1 aln c1, .slice a2 kl c2] 25) = W1 := ⟨_, rfl⟩
  have hB1 : Below w.heap.size w W1 := by rw [← hW1]; exact (Below.refl _ w).alloc (Nat.le_refl _) _
  have hz1 : W1.heap.size = w.heap.size + 1 := by rw [← hW1]; simp
  have hbx : Box5 w.heap.size K N X (.slice a1 aln c1) (.slice a2 kl c2) W1 := by rw [← hW1]; exact Box5.new _ _ _ _ _ _ _
  have HX : Fact (∀ W', Below (w.heap.size + 1) W1 W' → (W'.cell? ⟨w.heap.size, 0, none⟩ = some (.int .i64 K) ∧ W'.cell? ⟨w.heap.size, 1, none⟩ = some (.string N) ∧ W'.cell? ⟨w.heap.size, 2, none⟩ = some (.string X) ∧ W'.cell? ⟨w.heap.size, 3, none⟩ = some (.slice a1 aln c1) ∧ W'.cell? ⟨w.heap.size, 4, none⟩ = some (.slice a2 kl c2))) := ⟨fun W' h =>
    ⟨(h.cell (p := ⟨w.heap.size, 0, none⟩) (Nat.lt_succ_self _)).trans hbx.c0, (h.cell (p := ⟨w.heap.size, 1, none⟩) (Nat.lt_succ_self _)).trans hbx.c1, (h.cell (p := ⟨w.heap.size, 2, none⟩) (Nat.lt_succ_self _)).trans hbx.c2, (h.cell (p := ⟨w.heap.size, 3, none⟩) (Nat.lt_succ_self _)).trans hbx.c3, (h.cell (p := ⟨w.heap.size, 4, none⟩) (Nat.lt_succ_self _)).trans hbx.c4⟩⟩
  have hBd : Below (w.heap.size + 1) W1 W1.drew := (Below.refl _ W1).drew
  have hS0 : Below (w.heap.size + 1) W1 W1.drew ∧ (W1.drew.cell? ⟨w.heap.size, 0, none⟩ = some (.int .i64 K) ∧ W1.drew.cell? ⟨w.heap.size, 1, none⟩ = some (.string N) ∧ W1.drew.cell? ⟨w.heap.size, 2, none⟩ = some (.string X) ∧ W1.drew.cell? ⟨w.heap.size, 3, none⟩ = some (.slice a1 aln c1) ∧ W1.drew.cell? ⟨w.heap.size, 4, none⟩ = some (.slice a2 kl c2)) := ⟨hBd, HX.out _ hBd⟩
  have HW1 := Fact.mk hW1
  have HB1 := Fact.mk hB1
  have HAL := Fact.mk hal
  have HKL := Fact.mk hkl
  have HND := Fact.mk hnd
  have HOK := Fact.mk hok
  have HBD := Fact.mk hbd
  have HH := Fact.mk hH
  obtain ⟨h1, eh1⟩ : ∃ h1, mx (IntKind.u64.wrap K) (tx N) = h1 := ⟨_, rfl⟩
  obtain ⟨h2, eh2⟩ : ∃ h2, mx h1 (tx X) = h2 := ⟨_, rfl⟩
  obtain ⟨h3, eh3⟩ : ∃ h3, mx h2 aln = h3 := ⟨_, rfl⟩
  have hu1 : IsU h1 := by rw [← eh1]; exact mx_u _ _
  have hu2 : IsU h2 := by rw [← eh2]; exact mx_u _ _
  have hu3 : IsU h3 := by rw [← eh3]; exact mx_u _ _
  have hua : IsU (aln : Int) := ⟨by omega, by omega⟩
  have huk : IsU (kl : Int) := ⟨by omega, by omega⟩
  have hwa : IntKind.u64.wrap (aln : Int) = aln := by rw [IntKind.wrap_u64]; omega
  have hwk : IntKind.u64.wrap (kl : Int) = kl := by rw [IntKind.wrap_u64]; omega
  have HRES : Fact (alA h3 (A.drop 0) = al ⟨K, N, X, A⟩) := ⟨by
    rw [List.drop_zero, ← eh3, ← eh2, ← eh1, ← hal]; rfl⟩
  clear hA hF hal hkl hB1 hbx hW1 hBd hl hH hnd hok hbd hc1 hm1
  go_enter Try.func17, Try.ntmps17
  go_wp2_with fail
  rw [HW1.out]
  go_region_held3 (fun w' => Below (w.heap.size + 1) W1 w' ∧ (w'.cell? ⟨w.heap.size, 0, none⟩ = some (.int .i64 K) ∧ w'.cell? ⟨w.heap.size, 1, none⟩ = some (.string N) ∧ w'.cell? ⟨w.heap.size, 2, none⟩ = some (.string X) ∧ w'.cell? ⟨w.heap.size, 3, none⟩ = some (.slice a1 aln c1) ∧ w'.cell? ⟨w.heap.size, 4, none⟩ = some (.slice a2 kl c2)))
    (first | with_reducible exact hS0 | with_reducible assumption)
    (first
      | (go_at_call 15; refine (rtext_any N _ (by omega)).mono ?_; rintro e w6 ⟨rfl, hb6⟩; have hB6 : Below (w.heap.size + 1) W1 w6 := hS0.1.trans (hb6.mono (by rw [← hz1]; exact Nat.le_refl _)); have hS6 : Below (w.heap.size + 1) W1 w6 ∧ (w6.cell? ⟨w.heap.size, 0, none⟩ = some (.int .i64 K) ∧ w6.cell? ⟨w.heap.size, 1, none⟩ = some (.string N) ∧ w6.cell? ⟨w.heap.size, 2, none⟩ = some (.string X) ∧ w6.cell? ⟨w.heap.size, 3, none⟩ = some (.slice a1 aln c1) ∧ w6.cell? ⟨w.heap.size, 4, none⟩ = some (.slice a2 kl c2)) := ⟨hB6, HX.out _ hB6⟩)
      | (go_at_call 28; refine (Bt.refmix_any _ _ _ (wrap_u _) (tx_u _)).mono ?_; rintro e w7 ⟨rfl, hw7⟩; have hw8 := hw7.symm; subst hw8; clear hw7))
  obtain ⟨_, q0, q1, q2, q3, q4⟩ := hS6
  have HB6 := Fact.mk hB6
  clear hS0 hB6 hb6
  go_upto_region 3 with (first
      | (go_at_call 15; refine (rtext_any X _ (by omega)).mono ?_; rintro e w7 ⟨rfl, hb7⟩)
      | (go_at_call 28; refine (Bt.refmix_any h1 (tx X) _ hu1 (tx_u _)).mono ?_; rintro e w8 ⟨rfl, hw8⟩; have hw9 := hw8.symm; subst hw9; clear hw8))
  have HB7 : Fact (Below (w.heap.size + 1) W1 w7) := ⟨HB6.out.trans (hb7.mono (by have := HB6.out.size; omega))⟩
  obtain ⟨r0, r1, r2, r3, r4⟩ := HX.out _ HB7.out
  clear hb7 q0 q1 q2 q3 q4
  go_wp2_with (go_at_call 28; refine (Bt.refmix_any h2 aln _ hu2 hua).mono ?_; rintro e w8 ⟨rfl, hw8⟩; have hw9 := hw8.symm; subst hw9; clear hw8)
  go_loopg [3, 4] aln (fun gf hv iv wr => ∃ (j : Nat) (h : Int), (hv = .int .u64 h ∧ iv = .int .i64 j) ∧ j ≤ aln ∧ aln - j ≤ gf ∧ IsU h ∧ Fact (Below (w.heap.size + 1) W1 wr) ∧ Fact (alA h (A.drop j) = al ⟨K, N, X, A⟩))
  case atStart => exact ⟨0, h3, ⟨rfl, rfl⟩, Nat.zero_le _, by omega, hu3, HB7, HRES⟩
  case round =>
    obtain ⟨j, h, ⟨rfl, rfl⟩, hj, hfu, huh, hBr, hRE⟩ := hrel
    obtain ⟨x0, x1, x2, x3, x4⟩ := HX.out _ hBr.out
    clear r0 r1 r2 r3 r4
    by_cases hlt : j < aln
    · obtain ⟨g', rfl⟩ : ∃ g', gk = g' + 1 := ⟨gk - 1, by omega⟩
      obtain ⟨ea, hbb, y0, y1⟩ := hat.out j hlt
      subst ea
      have hea := HND.out.each (bs A j) (by rw [← bs_get A j (by rw [HAL.out]; exact hlt)]; exact List.getElem_mem _)
      obtain ⟨N', hN'⟩ : ∃ N', (bs A j).1 = N' := ⟨_, rfl⟩
      obtain ⟨V', hV'⟩ : ∃ V', (bs A j).2 = V' := ⟨_, rfl⟩
      rw [hN'] at y0
      rw [hV'] at y1
      rw [hN', hV'] at hea
      obtain ⟨hN2, hV6⟩ := hea
      have hwr : Below w.heap.size w wr := HB1.out.trans (hBr.out.mono (by omega))
      have l0 := (hwr.cell (p := ⟨b1, o1 + j * 2, none⟩) hbb).trans y0
      have l1 := (hwr.cell (p := ⟨b1, o1 + j * 2 + 1, none⟩) hbb).trans y1
      have HY1 := Fact.mk y1
      obtain ⟨k1, ek1⟩ : ∃ k1, mx h (tx N') = k1 := ⟨_, rfl⟩
      obtain ⟨k2, ek2⟩ : ∃ k2, mx k1 (tx V') = k2 := ⟨_, rfl⟩
      have hk1 : IsU k1 := by rw [← ek1]; exact mx_u _ _
      have hk2 : IsU k2 := by rw [← ek2]; exact mx_u _ _
      have HD : Fact (alA k2 (A.drop (j + 1)) = al ⟨K, N, X, A⟩) := ⟨by
        have e := hRE.out
        rw [alA_drop h A j (by rw [HAL.out]; exact hlt), hN', hV', ek1, ek2] at e
        exact e⟩
      have jI : (j : Int) < aln := by omega
      have jI0 : (0 : Int) ≤ j := by omega
      clear hN' hV' y0 y1 hat hRE hwr
      go_upto_region 8 with (first
        | (go_at_call 15; refine (rtext_any N' _ (by omega)).mono ?_; rintro e w8 ⟨rfl, hb8⟩)
        | (go_at_call 28; refine (Bt.refmix_any h (tx N') _ huh (tx_u _)).mono ?_; rintro e w9 ⟨rfl, hw9⟩; have hw10 := hw9.symm; subst hw10; clear hw9))
      have hB8 : Below (w.heap.size + 1) W1 w8 := hBr.out.trans (hb8.mono (by have := hBr.out.size; omega))
      obtain ⟨s0, s1, s2, s3, s4⟩ := HX.out _ hB8
      have m1 := ((HB1.out.trans (hB8.mono (by omega))).cell (p := ⟨b1, o1 + j * 2 + 1, none⟩) hbb).trans HY1.out
      have HB8 := Fact.mk hB8
      clear hb8 hB8 l0 l1 x0 x1 x2 x3 x4
      go_wp2_with (first
        | (go_at_call 15; refine (rtext_any V' _ (by omega)).mono ?_; rintro e w10 ⟨rfl, hb10⟩)
        | (go_at_call 28; refine (Bt.refmix_any k1 (tx V') _ hk1 (tx_u _)).mono ?_; rintro e w11 ⟨rfl, hw11⟩; have hw12 := hw11.symm; subst hw12; clear hw11))
      go_roundg g'
      case measure => omega
      case rel => exact ⟨j + 1, k2, ⟨rfl, by go_num⟩, by omega, by omega, hk2, ⟨HB8.out.trans (hb10.mono (by have := HB8.out.size; omega))⟩, HD⟩
    · obtain rfl : j = aln := by omega
      have jI : ¬ (j : Int) < j := by omega
      have e1 := hRE.out
      rw [List.drop_of_length_le (by rw [HAL.out]; exact Nat.le_refl _)] at e1
      have E1 : Fact (h = al ⟨K, N, X, A⟩) := ⟨e1⟩
      obtain ⟨g0, eg0⟩ : ∃ g0, mx h kl = g0 := ⟨_, rfl⟩
      have hg0 : IsU g0 := by rw [← eg0]; exact mx_u _ _
      have HG0 : Fact (hK g0 k = hT ⟨K, N, X, A⟩ k) := ⟨by rw [← eg0, E1.out, ← HKL.out]; rfl⟩
      clear e1 hat hRE eh1 eh2 eh3
      go_wp2_with (go_at_call 28; refine (Bt.refmix_any h kl _ huh huk).mono ?_; rintro e w8 ⟨rfl, hw8⟩; have hw9 := hw8.symm; subst hw9; clear hw8)
      go_loopg [3, 5] kl (fun gf hv iv wr => ∃ (i : Nat) (rest : M.F) (g : Int), (hv = .int .u64 g ∧ iv = .int .i64 i) ∧ i + rest.len = kl ∧ rest.len ≤ gf ∧ IsU g ∧ Fact (Below (w.heap.size + 1) W1 wr) ∧
        Fact ((rest.len = 0 ∨ FAt (Old n) w rest b2 (o2 + i * 5)) ∧ Hered ROfP rest ∧ rest.size ≤ k.size ∧ allF OKnd rest ∧ hK g rest = hT ⟨K, N, X, A⟩ k))
      case atStart =>
        refine ⟨0, k, g0, ⟨rfl, rfl⟩, by rw [HKL.out]; omega, by rw [HKL.out]; omega, hg0, hBr, ⟨?_, HH.out, Nat.le_refl _, HOK.out, HG0.out⟩⟩
        by_cases h0 : kl = 0
        · left; rw [HKL.out]; exact h0
        · right
          rw [Nat.zero_mul, Nat.add_zero]
          exact (hkd.out 0 (by omega)).2.2
      case round =>
        obtain ⟨i, rest, g, ⟨rfl, rfl⟩, hlen, hfu, hug, hBq, hfx⟩ := hrel
        obtain ⟨x0, x1, x2, x3, x4⟩ := HX.out _ hBq.out
        have hbd := HBD.out
        cases rest with
        | nil =>
          have hi : i = kl := by have : i + 0 = kl := hlen; omega
          obtain ⟨_, _, _, _, q⟩ := hfx.out
          have E2 : Fact (g = hT ⟨K, N, X, A⟩ k) := ⟨q⟩
          clear hfx hlen q x0 x1 x2 x3 hkd
          subst hi
          go_wp2_with fail
          go_ret
          exact ⟨ret_int E2.out, HB1.out.trans (hBq.out.mono (by omega))⟩
        | node xb xo d' k' r' =>
          have hlen' : i + (r'.len + 1) = kl := hlen
          have hfu' : r'.len + 1 ≤ gk := hfu
          obtain ⟨g', rfl⟩ : ∃ g', gk = g' + 1 := ⟨gk - 1, by omega⟩
          have hlt2 : i < kl := by omega
          obtain ⟨ea2, hb2, _⟩ := hkd.out i hlt2
          subst ea2
          obtain ⟨hfat, ⟨hP, hHr⟩, q1, ⟨q2, q3, q4⟩, q5⟩ := hfx.out
          have hfat' := hfat.resolve_left (by show ¬ r'.len + 1 = 0; omega)
          obtain ⟨⟨av', ka', kc', e0, e1, e2, e3, e4, hav', h4, h5, hkk⟩, hrr⟩ := hfat'
          obtain ⟨x1', x2', x3', ex⟩ := hav'.val
          subst ex
          obtain ⟨kl', hkl'⟩ : ∃ kl', k'.len = kl' := ⟨_, rfl⟩
          have hwr : Below w.heap.size w wr := HB1.out.trans (hBq.out.mono (by omega))
          have hcc : ∀ o, wr.cell? ⟨b2, o, none⟩ = w.cell? ⟨b2, o, none⟩ := fun o => hwr.cell (p := ⟨b2, o, none⟩) (by show b2 < _; omega)
          have l0 := (hcc _).trans e0
          have l1 := (hcc _).trans e1
          have l2 := (hcc _).trans e2
          have l3 := (hcc _).trans e3
          have l4 := (hcc _).trans e4
          have hlk : Like (Old n) w wr := like_below (hwr.mono hn)
          simp only [BT.size] at q1
          have hcall := hP d' (.slice x1' x2' x3') (.slice ka' k'.len kc') n wr ⟨hav'.like hlk, FL.like hlk ⟨ka', kc', rfl, h4, h5, hkk⟩⟩ (Nat.le_trans hn hwr.size) q2 q3 (by omega)
          rw [hkl'] at hcall l4
          obtain ⟨D, hD⟩ : ∃ D, hT d' k' = D := ⟨_, rfl⟩
          rw [hD] at hcall
          have huD : IsU D := by rw [← hD]; exact hT_u _ _
          have HCALL := Fact.mk hcall
          have HR : Fact ((r'.len = 0 ∨ FAt (Old n) w r' b2 (o2 + (i + 1) * 5)) ∧ Hered ROfP r' ∧ r'.size ≤ k.size ∧ allF OKnd r' ∧ hK (mx g D) r' = hT ⟨K, N, X, A⟩ k) := ⟨.inr (by rw [show o2 + (i + 1) * 5 = o2 + i * 5 + 5 by omega]; exact hrr), hHr, by omega, q4, by rw [← q5, ← hD]; rfl⟩
          have iI : (i : Int) < kl := by omega
          have iI0 : (0 : Int) ≤ i := by omega
          clear hfx hfat hP hHr hrr hkk hav' hcall hlk e0 e1 e2 e3 e4 hkd hlen hfu q1 q2 q3 q4 q5 hcc hwr hD
          go_wp2_with (first
            | (go_at_call 17; refine HCALL.out.mono ?_; rintro e w2 ⟨rfl, hb2'⟩; have HB2 : Fact (Below (w.heap.size + 1) W1 w2) := ⟨hBq.out.trans (hb2'.mono (by have := hBq.out.size; omega))⟩; clear hb2')
            | (go_at_call 28; refine (Bt.refmix_any g D _ hug huD).mono ?_; rintro e w8 ⟨rfl, hw8⟩; have hw9 := hw8.symm; subst hw9; clear hw8))
          go_roundg g'
          case measure => omega
          case rel => exact ⟨i + 1, r', mx g D, ⟨rfl, by go_num⟩, by omega, by omega, mx_u _ _, HB2, HR⟩
theorem rof18_any (k : M.F) : ROfP k := indH rof_step k
end Go.Proofs.Ytfcmgkakmaclcaa
end

/- The document's own Flat, All and Key. -/
section
set_option linter.unusedVariables false
set_option linter.unusedSimpArgs false
namespace Go.Proofs.Ytfcmgkakmaclcaa
open Go.Deep (BT)
open Go.RowKit Go.Shelf M
open Bt (mx IsU mx_u ret_int)

theorem subs_ok : ∀ f : M.F, allF OKnd f → ∀ q ∈ subsF f, OKnd q.1 ∧ allF OKnd q.2 ∧ q.2.size ≤ f.size
  | .nil, _, _, h => by cases h
  | .node _ _ d k r, ⟨h1, h2, h3⟩, q, hq => by
    simp only [BT.size]
    rcases List.mem_cons.1 hq with rfl | hq
    · exact ⟨h1, h2, by dsimp only; omega⟩
    · rcases List.mem_append.1 hq with hq | hq
      · have := subs_ok k h2 q hq; exact ⟨this.1, this.2.1, by omega⟩
      · have := subs_ok r h3 q hq; exact ⟨this.1, this.2.1, by omega⟩
theorem slots_le : ∀ f : M.F, allF OKnd f → f.slots ≤ 20 * f.size
  | .nil, _ => Nat.zero_le _
  | .node _ _ d k r, h => by
    obtain ⟨h1, h2, h3⟩ := h
    have := slots_le k h2
    have := slots_le r h3
    have := h1.many
    simp only [BT.slots, BT.size]
    omega
theorem FitsA.lim {d : Nd} {k : M.F} (h : FitsA 0 0 d k) : Lim d k := ⟨by have := h.size; omega, by have := h.depth; omega, by have := slots_le k h.all; have := h.nd.many; have := h.size; omega⟩
def subsT (d : Nd) (k : M.F) : List (Nd × M.F) := (d, k) :: subsF k
theorem subsT_fin (d : Nd) (k : M.F) : (subsT d k).map (fun q => hT q.1 q.2) = finT d k := by rw [subsT, List.map_cons, subsF_fin]; rfl
theorem subsT_ok {d : Nd} {k : M.F} (h : FitsA 0 0 d k) : ∀ q ∈ subsT d k, OKnd q.1 ∧ allF OKnd q.2 ∧ q.2.size ≤ k.size := fun q hq => by
  rcases List.mem_cons.1 hq with rfl | hq
  · exact ⟨h.nd, h.all, Nat.le_refl _⟩
  · exact subs_ok k h.all q hq

set_option maxRecDepth 20000 in
set_option maxHeartbeats 4000000 in
theorem rFlat_any (d : Nd) (k : M.F) (va ka : Value) (n : Nat) (w : World) (hks : k.size + 1 = n) (L : Lim d k) (hl : Lies w.heap.size w d k va ka) :
    Calls Try.prog 25 #[nodeV d va ka] w fun e w' => ∃ g c news, e = .returned (.slice (some ⟨g, 0, none⟩) n c) ∧ Below w.heap.size w w' ∧ Fact (w'.ownsRow (w.heap.size + 1) 53 15 (.slice (some ⟨g, 0, none⟩) n c) n (c15L news)) ∧
      Fact (news.map (·.im) = flatT d k ∧ news.map (fun r => (r.im.d, r.k)) = subsT d k ∧ AllR w.heap.size w' news) := by
  obtain ⟨p1, p2, p3, e1⟩ := hl.a.val
  obtain ⟨q1, q2, e2⟩ := hl.f.val
  subst e1 e2
  obtain ⟨W1, hW1⟩ : ∃ W1, w.alloc (.cells #[.int .i64 d.k, .string d.n, .string d.x, .slice p1 p2 p3, .slice q1 k.len q2] 25) = W1 := ⟨_, rfl⟩
  have hB1 : Below w.heap.size w W1 := by rw [← hW1]; exact (Below.refl _ w).alloc (Nat.le_refl _) _
  have hz1 : W1.heap.size = w.heap.size + 1 := by rw [← hW1]; simp
  have hbx : Box5 w.heap.size d.k d.n d.x (.slice p1 p2 p3) (.slice q1 k.len q2) W1 := by rw [← hW1]; exact Box5.new _ _ _ _ _ _ _
  have hc := rflat_any k d (.slice p1 p2 p3) (.slice q1 k.len q2) w.heap.size (w.heap.size + 1) W1 [] (.slice none 0 0) (-1) 0 0 (hl.below hB1) (by omega) (by omega) (World.ownsRow_nil _ _ _ _) (by have := L.sz; simp; omega) (by have := L.dp; omega) L.sl
  obtain ⟨kl, hkl⟩ : ∃ kl, k.len = kl := ⟨_, rfl⟩
  rw [hkl] at hbx hc hW1 ⊢
  obtain ⟨K, N, X, A⟩ := d
  have hc' : Calls Try.prog 37 #[.slice none 0 0, .agg #[.int .i64 K, .string N, .string X, .slice p1 p2 p3, .slice q1 kl q2], .int .i64 (-1), .int .i64 0, .int .i64 0] W1 fun e w' => ∃ g c news, e = .returned (.slice (some ⟨g, 0, none⟩) n c) ∧ Below w.heap.size w w' ∧ Fact (w'.ownsRow (w.heap.size + 1) 53 15 (.slice (some ⟨g, 0, none⟩) n c) n (c15L news)) ∧
      Fact (news.map (·.im) = flatT ⟨K, N, X, A⟩ k ∧ news.map (fun r => (r.im.d, r.k)) = subsT ⟨K, N, X, A⟩ k ∧ AllR w.heap.size w' news) := by
    refine hc.mono ?_
    rintro e w' ⟨v', news, rfl, hown, hgr, _, hf⟩
    have hn : ([] : List Rm).length + (k.size + 1) = n := by simp; exact hks
    rw [hn, List.nil_append] at hown
    obtain ⟨g, c, rfl⟩ := own_pos (by omega) hown
    exact ⟨g, c, news, rfl, hB1.grown hgr hB1.size (fun k e => by cases e), ⟨hown⟩, ⟨hf.out.1, hf.out.2.1, hf.out.2.2⟩⟩
  have HC := Fact.mk hc'
  have HW1 := Fact.mk hW1
  have b0 := hbx.c0
  have b1 := hbx.c1
  have b2 := hbx.c2
  have b3 := hbx.c3
  have b4 := hbx.c4
  dsimp only at b0 b1 b2
  clear hc hc' hbx hB1 hW1 hl hks L
  go_enter Try.func25, Try.ntmps25
  go_upto_region 1 with fail
  rw [HW1.out]
  go_wp2_with (go_at_call 37; refine HC.out.mono ?_; rintro e w6 ⟨g6, c6, news, rfl, hb6, hr6, hf6⟩)
  go_ret
  first | exact ⟨g6, c6, news, rfl, hb6, hr6, hf6⟩ | exact ⟨g6, c6, rfl, news, hb6, hr6, hf6⟩ | exact ⟨g6, c6, rfl, hb6, news, hr6, hf6⟩

set_option maxRecDepth 100000 in
set_option maxHeartbeats 4000000 in
theorem rall_any (d : Nd) (k : M.F) (va ka : Value) (n : Nat) (w : World) (hks : k.size + 1 = n) (F : FitsA 0 0 d k) (hl : Lies w.heap.size w d k va ka) :
    Calls Try.prog 13 #[nodeV d va ka] w fun e w' => ∃ g c, e = .returned (.slice (some ⟨g, 0, none⟩) n c) ∧ Below w.heap.size w w' ∧ Fact (w'.ownsRow w.heap.size 32 1 (.slice (some ⟨g, 0, none⟩) n c) n (cU (finT d k))) := by
  have hn4 : n ≤ 400 := by have := F.size; omega
  obtain ⟨p1, p2, p3, e1⟩ := hl.a.val
  obtain ⟨q1, q2, e2⟩ := hl.f.val
  subst e1 e2
  obtain ⟨W1, hW1⟩ : ∃ W1, w.alloc (.cells #[.int .i64 d.k, .string d.n, .string d.x, .slice p1 p2 p3, .slice q1 k.len q2] 25) = W1 := ⟨_, rfl⟩
  have hB1 : Below w.heap.size w W1 := by rw [← hW1]; exact (Below.refl _ w).alloc (Nat.le_refl _) _
  have hbx : Box5 w.heap.size d.k d.n d.x (.slice p1 p2 p3) (.slice q1 k.len q2) W1 := by rw [← hW1]; exact Box5.new _ _ _ _ _ _ _
  have hc := rFlat_any d k (.slice p1 p2 p3) (.slice q1 k.len q2) n W1 hks F.lim ((hl.below hB1).here hB1.size)
  obtain ⟨kl, hkl⟩ : ∃ kl, k.len = kl := ⟨_, rfl⟩
  rw [hkl] at hbx hc hW1 ⊢
  obtain ⟨K, N, X, A⟩ := d
  have HC := Fact.mk hc
  have HB1 := Fact.mk hB1
  have HW1 := Fact.mk hW1
  have HFI := Fact.mk F
  have b0 := hbx.c0
  have b1 := hbx.c1
  have b2 := hbx.c2
  have b3 := hbx.c3
  have b4 := hbx.c4
  have HFN : Fact ((finT ⟨K, N, X, A⟩ k).length = n) := ⟨by rw [finT_len]; exact hks⟩
  have HKS := Fact.mk hks
  obtain ⟨i0, hii, hz0, hz1, hz2⟩ := info_parts infoU64
  have hn1 : 1 ≤ n := by omega
  clear hc hbx hB1 hW1 hl hks F
  go_enter Try.func13, Try.ntmps13
  go_upto_region 1 with fail
  rw [HW1.out]
  go_upto_region 2 with (go_at_call 25; refine HC.out.mono ?_; rintro e w2 ⟨g6, c6, news, rfl, hb6, hr6, hf6⟩)
  have hz6 : w.heap.size ≤ w2.heap.size := Nat.le_trans HB1.out.size hb6.size
  have HB6 : Fact (Below w.heap.size w w2) := ⟨HB1.out.trans (hb6.mono HB1.out.size)⟩
  have hnl : news.length = n := by
    have := congrArg List.length hf6.out.1
    rw [List.length_map, flatT_len, HKS.out] at this
    exact this
  have HNL := Fact.mk hnl
  clear b0 b1 b2 b3 b4 hb6 hnl
  go_wp2_with fail
  go_loopg [4, 5] n (fun gf mv iv wr => ∃ (i : Nat) (va_ : Option Addr) (vc : Nat), (mv = .slice va_ i vc ∧ iv = .int .i64 i) ∧ i ≤ n ∧ n - i ≤ gf ∧ Fact (Below w2.heap.size w2 wr) ∧ Fact (wr.ownsRow w2.heap.size 32 1 (.slice va_ i vc) i (cU ((finT ⟨K, N, X, A⟩ k).take i))))
  case atStart => exact ⟨0, none, 0, ⟨rfl, rfl⟩, Nat.zero_le _, Nat.le_refl _, ⟨Below.refl _ _⟩, ⟨World.ownsRow_nil _ _ _ _⟩⟩
  case round =>
    obtain ⟨i, va_, vc, ⟨rfl, rfl⟩, hi, hfu, hBr, hO⟩ := hrel
    by_cases hlt : i < n
    · have hdec : decide ((i : Int) < (n : Int)) = true := decide_eq_true (by omega)
      obtain ⟨g', rfl⟩ : ∃ g', gk = g' + 1 := ⟨gk - 1, by omega⟩
      obtain ⟨r, hr⟩ : ∃ r, news[i]? = some r := ⟨news[i]'(by rw [HNL.out]; exact hlt), by simp⟩
      have hq : (subsT ⟨K, N, X, A⟩ k)[i]? = some (r.im.d, r.k) := by rw [← hf6.out.2.1, List.getElem?_map, hr]; rfl
      have hfin : (finT ⟨K, N, X, A⟩ k)[i]? = some (hT r.im.d r.k) := by rw [← subsT_fin, List.getElem?_map, hq]; rfl
      obtain ⟨ok1, ok2, ok3⟩ := subsT_ok HFI.out _ (List.mem_of_getElem? hq)
      obtain ⟨hAS, hFL⟩ := hf6.out.2.2 r (List.mem_of_getElem? hr)
      have hrow := row15_at (own_block hr6.out (fun k _ hk => hBr.out.block k hk)) hr
      obtain ⟨hcells, _, _, _, hnc, _, _⟩ := hrow
      obtain ⟨⟨ip, iz, idp, ih, ipl, ⟨K', N', X', A'⟩⟩, k', oa, av', kv'⟩ := r
      dsimp only at hAS hFL ok1 ok2 ok3 hfin
      have hk9 := HKS.out
      have hcall := rof18_any k' ⟨K', N', X', A'⟩ av' kv' w2.heap.size wr ⟨(hAS.here).like (like_below hBr.out), (hFL.here).like (like_below hBr.out)⟩ hBr.out.size ok1 ok2 (by omega)
      obtain ⟨D, hD⟩ : ∃ D, hT ⟨K', N', X', A'⟩ k' = D := ⟨_, rfl⟩
      rw [hD] at hcall hfin
      obtain ⟨x1, x2, x3, ex⟩ := hAS.val
      obtain ⟨y1, y3, ey⟩ := hFL.val
      subst ex ey
      obtain ⟨y2, hy2⟩ : ∃ y2, k'.len = y2 := ⟨_, rfl⟩
      rw [hy2] at hcall hcells
      have m0 : wr.cell? ⟨g6, i * 15 + 10, none⟩ = some (.int .i64 K') := hcells 10 _ rfl
      have m1 : wr.cell? ⟨g6, i * 15 + 10 + 1, none⟩ = some (.string N') := hcells 11 _ rfl
      have m2 : wr.cell? ⟨g6, i * 15 + 10 + 2, none⟩ = some (.string X') := hcells 12 _ rfl
      have m3 : wr.cell? ⟨g6, i * 15 + 10 + 3, none⟩ = some (.slice x1 x2 x3) := hcells 13 _ rfl
      have m4 : wr.cell? ⟨g6, i * 15 + 10 + 4, none⟩ = some (.slice y1 y2 y3) := hcells 14 _ rfl
      have i0_ : (0 : Int) ≤ i := by omega
      have i1_ : (i : Int) < n := by omega
      have HCALL := Fact.mk hcall
      have HTK : Fact (cU ((finT ⟨K, N, X, A⟩ k).take (i + 1)) = cU ((finT ⟨K, N, X, A⟩ k).take i) ++ [.int .u64 D]) := ⟨by rw [List.take_add_one, hfin]; simp [cU]⟩
      clear hr hq hfin ok1 ok2 ok3 hAS hFL hcells hcall hD hk9
      go_wp2_with (first
        | (at_builtin; refine wpList_append_own _ rfl (.tmp 14) (.tmp 21) 30 rfl w2.heap.size 32 i0 (.int .u64 0) 1 8 Try.underlying30 hii hz0 hz1 hz2 rfl (by decide) (.slice va_ i vc) i (cU ((finT ⟨K, N, X, A⟩ k).take i)) rfl (HO5.out.alloc _) ⟨w5.heap.size, 0, none⟩ 1 1 [.int .u64 D] rfl rfl (cells15_new w5 [.int .u64 D] _) (by simp [Value.oneCell']) (by unfold maxLen; omega) (by omega) (by simp; omega) ?_; intro v' w6 hown' hgrow _)
        | (go_at_call 17; refine HCALL.out.mono ?_; rintro e w5 ⟨rfl, hb5⟩; have hz5 := Nat.le_trans hBr.out.size hb5.size; have HO5 : Fact (w5.ownsRow w2.heap.size 32 1 (.slice va_ i vc) i (cU ((finT ⟨K, N, X, A⟩ k).take i))) := ⟨own_upH hO.out hb5⟩))
      obtain ⟨va2, vc2, rfl⟩ := own_shape hown'
      have HB9 : Fact (Below w2.heap.size w2 w6) := ⟨((hBr.out.trans (hb5.mono hBr.out.size)).alloc hz5 _).grown hgrow (by simp; omega) (fun k e => (HO5.out.lt k e).1)⟩
      have HO9 : Fact (w6.ownsRow w2.heap.size 32 1 (.slice va2 (i + 1) vc2) (i + 1) (cU ((finT ⟨K, N, X, A⟩ k).take (i + 1)))) := ⟨by rw [HTK.out]; exact hown'⟩
      clear hown' hgrow
      go_roundg g'
      case measure => omega
      case rel => exact ⟨i + 1, va2, vc2, ⟨rfl, by go_num⟩, by omega, by omega, HB9, HO9⟩
    · obtain rfl : i = n := by omega
      have hdec : decide ((i : Int) < (i : Int)) = false := decide_eq_false (by omega)
      obtain ⟨g, c, ee⟩ := own_pos hn1 hO.out
      cases ee
      have HT2 : Fact ((finT ⟨K, N, X, A⟩ k).take i = finT ⟨K, N, X, A⟩ k) := ⟨List.take_of_length_le (by rw [HFN.out]; exact Nat.le_refl _)⟩
      go_wp2_with fail
      go_ret
      exact ⟨_, _, rfl, HB6.out.trans (hBr.out.mono hz6), ⟨by rw [← HT2.out]; exact own_lessP hO.out hz6⟩⟩

set_option maxRecDepth 100000 in
set_option maxHeartbeats 4000000 in
theorem rkey_any (d : Nd) (k : M.F) (va ka : Value) (w : World) (F : FitsA 0 0 d k) (hl : Lies w.heap.size w d k va ka) :
    Calls Try.prog 19 #[nodeV d va ka] w fun e w' => e = .returned (.agg #[.int .u64 (hT d k), .int .u64 (ks k)]) ∧ Below w.heap.size w w' := by
  obtain ⟨n, hks⟩ : ∃ n, k.size + 1 = n := ⟨_, rfl⟩
  obtain ⟨dp, hdp⟩ : ∃ dp, k.depth + 1 = dp := ⟨_, rfl⟩
  have L := F.lim
  have hn : n ≤ 1000000 := by rw [← hks]; exact L.sz
  have hd : dp ≤ 1000000 := by rw [← hdp]; exact L.dp
  obtain ⟨p1, p2, p3, e1⟩ := hl.a.val
  obtain ⟨q1, q2, e2⟩ := hl.f.val
  subst e1 e2
  obtain ⟨kl, hkl⟩ : ∃ kl, k.len = kl := ⟨_, rfl⟩
  rw [hkl] at hl ⊢
  clear hkl
  obtain ⟨K, N, X, A⟩ := d
  obtain ⟨D, hD⟩ : ∃ D, hT ⟨K, N, X, A⟩ k = D := ⟨_, rfl⟩
  have HKV : Fact (ks k = (n : Int) * 4294967296 + dp) := ⟨by unfold ks; rw [hks, hdp]⟩
  rw [hD]
  obtain ⟨W1, hW1⟩ : ∃ W1, (w.alloc (.cells #[.int .i64 K, .string N, .string X, .slice p1 p2 p3, .slice q1 kl q2] 25)).alloc (.cells #[.int .u64 0, .int .u64 0] 35) = W1 := ⟨_, rfl⟩
  have hB1 : Below w.heap.size w W1 := by rw [← hW1]; exact ((Below.refl _ w).alloc (Nat.le_refl _) _).alloc (by simp) _
  have hz1 : W1.heap.size = w.heap.size + 2 := by rw [← hW1]; simp
  have hbx : Box5 w.heap.size K N X (.slice p1 p2 p3) (.slice q1 kl q2) W1 := by
    rw [← hW1]; exact (Box5.new _ _ _ _ _ _ _).keep ((Below.refl _ _).alloc (Nat.le_refl _) _)
  have HT : Fact (∀ W', Below W1.heap.size W1 W' → (W'.cell? ⟨w.heap.size + 1, 0, none⟩ = some (.int .u64 0) ∧ W'.cell? ⟨w.heap.size + 1, 1, none⟩ = some (.int .u64 0) ∧ W'.frozen? ⟨w.heap.size + 1, 0, none⟩ = false ∧ W'.frozen? ⟨w.heap.size + 1, 1, none⟩ = false)) := ⟨fun W' hb => by
    have hh : W1.heap[w.heap.size + 1]? = some (.cells #[.int .u64 0, .int .u64 0] 35 (0, 0)) := by
      have h2 := World.alloc_heap_new (w.alloc (.cells #[.int .i64 K, .string N, .string X, .slice p1 p2 p3, .slice q1 kl q2] 25)) (.cells #[.int .u64 0, .int .u64 0] 35)
      rw [hW1, World.size_alloc] at h2
      exact h2
    have hh' : W'.heap[w.heap.size + 1]? = some (.cells #[.int .u64 0, .int .u64 0] 35 (0, 0)) := (hb.block _ (by omega)).trans hh
    refine ⟨?_, ?_, ?_, ?_⟩ <;> simp [World.cell?, World.frozen?, hh']⟩
  have HFL := Fact.mk (rFlat_any ⟨K, N, X, A⟩ k _ _ n W1 hks L ((hl.below hB1).here hB1.size))
  have b0 := hbx.c0
  have b1 := hbx.c1
  have b2 := hbx.c2
  have b3 := hbx.c3
  have b4 := hbx.c4
  have HBX := Fact.mk hbx
  have HW1 := Fact.mk hW1
  have HB1 := Fact.mk hB1
  have HL := Fact.mk hl
  have HFI := Fact.mk F
  have HKS := Fact.mk hks
  have HDP := Fact.mk hdp
  have HD := Fact.mk hD
  have hn1 : (0 : Int) < n := by omega
  clear hbx hB1 hW1 hl hks L hdp F hD
  go_enter Try.func19, Try.ntmps19
  go_upto_region 1 with fail
  rw [HW1.out]
  go_upto_region 2 with (go_at_call 25; refine HFL.out.mono ?_; rintro e w6 ⟨g6, c6, news, rfl, hb6, hr6, hf6⟩)
  obtain ⟨y0, hy0⟩ : ∃ y, news[0]? = some y := by
    have h1 := congrArg List.length hf6.out.1
    rw [List.length_map, flatT_len, HKS.out] at h1
    exact ⟨news[0]'(by omega), by simp⟩
  have hy1 : (⟨-1, k.size + 1, 0, k.depth + 1, 0, ⟨K, N, X, A⟩⟩ : Im) = y0.im := by
    have h1 : (news.map (·.im))[0]? = some y0.im := by rw [List.getElem?_map, hy0]; rfl
    rw [hf6.out.1, flatT] at h1
    simpa using h1
  have hrr := row15_at hr6.out hy0
  obtain ⟨hr, _, hg6, hgl, hc6, _, _⟩ := hrr
  have z0 : w6.cell? ⟨g6, 1, none⟩ = some (.int .i64 (n : Int)) := by
    have h := hr 1 _ rfl
    rw [← hy1] at h
    rw [← HKS.out]
    simpa using h
  have z1 : w6.cell? ⟨g6, 3, none⟩ = some (.int .i64 (dp : Int)) := by
    have h := hr 3 _ rfl
    rw [← hy1] at h
    rw [← HDP.out]
    simpa using h
  have wn : IntKind.u64.wrap (n : Int) = n := by rw [IntKind.wrap_u64]; omega
  have wd : IntKind.u64.wrap (dp : Int) = dp := by rw [IntKind.wrap_u64]; omega
  have wk : IntKind.u64.wrap ((n : Int) * 4294967296 + dp) = (n : Int) * 4294967296 + dp := by rw [IntKind.wrap_u64]; omega
  have ws : IntKind.u64.wrap ((n : Int) * 4294967296) = (n : Int) * 4294967296 := by rw [IntKind.wrap_u64]; omega
  have HSK : Fact (∀ w', Below w6.heap.size w6.drew w' → (Below W1.heap.size W1 w' ∧ (w'.cell? ⟨w.heap.size, 0, none⟩ = some (.int .i64 K) ∧ w'.cell? ⟨w.heap.size, 1, none⟩ = some (.string N) ∧ w'.cell? ⟨w.heap.size, 2, none⟩ = some (.string X) ∧ w'.cell? ⟨w.heap.size, 3, none⟩ = some (.slice p1 p2 p3) ∧ w'.cell? ⟨w.heap.size, 4, none⟩ = some (.slice q1 kl q2) ∧ w'.cell? ⟨g6, 1, none⟩ = some (.int .i64 (n : Int)) ∧ w'.cell? ⟨g6, 3, none⟩ = some (.int .i64 (dp : Int))))) := ⟨fun w' hb => by
    have hb' : Below w6.heap.size w6 w' := ⟨hb.os, hb.tape, hb.output, hb.size, hb.block⟩
    have h1 := hb6.trans (hb'.mono hb6.size)
    have hk := HBX.out.keep h1
    exact ⟨h1, hk.c0, hk.c1, hk.c2, hk.c3, hk.c4, (hb'.cell (p := ⟨g6, 1, none⟩) hgl).trans z0, (hb'.cell (p := ⟨g6, 3, none⟩) hgl).trans z1⟩⟩
  have hS0 := HSK.out w6.drew (Below.refl _ _)
  have hgne : g6 ≠ w.heap.size + 1 := by omega
  clear hr hy1 hy0 hr6 hf6 b0 b1 b2 b3 b4 z0 z1 hb6
  go_region_held3 (fun w' => (w'.cell? ⟨w.heap.size, 0, none⟩ = some (.int .i64 K) ∧ w'.cell? ⟨w.heap.size, 1, none⟩ = some (.string N) ∧ w'.cell? ⟨w.heap.size, 2, none⟩ = some (.string X) ∧ w'.cell? ⟨w.heap.size, 3, none⟩ = some (.slice p1 p2 p3) ∧ w'.cell? ⟨w.heap.size, 4, none⟩ = some (.slice q1 kl q2) ∧ w'.cell? ⟨g6, 1, none⟩ = some (.int .i64 (n : Int)) ∧ w'.cell? ⟨g6, 3, none⟩ = some (.int .i64 (dp : Int))))
    (first | with_reducible exact hS0.2 | with_reducible exact hS6.2 | with_reducible exact hS7)
    (first
      | (go_at_call 17; refine (rof18_any k ⟨K, N, X, A⟩ _ _ w.heap.size _ (HL.out.below (HB1.out.trans (hS0.1.mono HB1.out.size))) (Nat.le_trans HB1.out.size hS0.1.size) HFI.out.nd HFI.out.all (by have := HFI.out.size; omega)).mono ?_; rw [HD.out]; rintro e w7 ⟨rfl, hb7⟩; have hS6 := HSK.out _ hb7; obtain ⟨t0, t1, tf0, tf1⟩ := HT.out w7 hS6.1; have hS7 : ((w7.setCell ⟨w.heap.size + 1, 0, none⟩ (.int .u64 D)).setCell ⟨w.heap.size + 1, 1, none⟩ (.int .u64 ((n : Int) * 4294967296 + dp))).cell? ⟨w.heap.size, 0, none⟩ = some (.int .i64 K) ∧ ((w7.setCell ⟨w.heap.size + 1, 0, none⟩ (.int .u64 D)).setCell ⟨w.heap.size + 1, 1, none⟩ (.int .u64 ((n : Int) * 4294967296 + dp))).cell? ⟨w.heap.size, 1, none⟩ = some (.string N) ∧ ((w7.setCell ⟨w.heap.size + 1, 0, none⟩ (.int .u64 D)).setCell ⟨w.heap.size + 1, 1, none⟩ (.int .u64 ((n : Int) * 4294967296 + dp))).cell? ⟨w.heap.size, 2, none⟩ = some (.string X) ∧ ((w7.setCell ⟨w.heap.size + 1, 0, none⟩ (.int .u64 D)).setCell ⟨w.heap.size + 1, 1, none⟩ (.int .u64 ((n : Int) * 4294967296 + dp))).cell? ⟨w.heap.size, 3, none⟩ = some (.slice p1 p2 p3) ∧ ((w7.setCell ⟨w.heap.size + 1, 0, none⟩ (.int .u64 D)).setCell ⟨w.heap.size + 1, 1, none⟩ (.int .u64 ((n : Int) * 4294967296 + dp))).cell? ⟨w.heap.size, 4, none⟩ = some (.slice q1 kl q2) ∧ ((w7.setCell ⟨w.heap.size + 1, 0, none⟩ (.int .u64 D)).setCell ⟨w.heap.size + 1, 1, none⟩ (.int .u64 ((n : Int) * 4294967296 + dp))).cell? ⟨g6, 1, none⟩ = some (.int .i64 (n : Int)) ∧ ((w7.setCell ⟨w.heap.size + 1, 0, none⟩ (.int .u64 D)).setCell ⟨w.heap.size + 1, 1, none⟩ (.int .u64 ((n : Int) * 4294967296 + dp))).cell? ⟨g6, 3, none⟩ = some (.int .i64 (dp : Int)) := (by have hne : ∀ (o o' : Nat) (b : Nat), b ≠ w.heap.size + 1 → (⟨w.heap.size + 1, o, none⟩ : Addr) ≠ ⟨b, o', none⟩ := (fun o o' b hb e => by cases e; exact hb rfl); refine ⟨?_, ?_, ?_, ?_, ?_, ?_, ?_⟩ <;> (rw [World.cell?_setCell_other _ _ _ _ (hne _ _ _ (by first | exact hgne | omega)), World.cell?_setCell_other _ _ _ _ (hne _ _ _ (by first | exact hgne | omega))]; first | exact hS6.2.1 | exact hS6.2.2.1 | exact hS6.2.2.2.1 | exact hS6.2.2.2.2.1 | exact hS6.2.2.2.2.2.1 | exact hS6.2.2.2.2.2.2.1 | exact hS6.2.2.2.2.2.2.2))))
  go_wp2_with fail
  have h0 : ((w7.setCell ⟨w.heap.size + 1, 0, none⟩ (.int .u64 D)).setCell ⟨w.heap.size + 1, 1, none⟩ (.int .u64 ((n : Int) * 4294967296 + dp))).cell? ⟨w.heap.size + 1, 0, none⟩ = some (.int .u64 D) := by
    rw [World.cell?_setCell_other _ _ _ _ (by simp)]
    exact World.cell?_setCell_same' _ _ _ (by rw [t0]; rfl)
  have h1 : ((w7.setCell ⟨w.heap.size + 1, 0, none⟩ (.int .u64 D)).setCell ⟨w.heap.size + 1, 1, none⟩ (.int .u64 ((n : Int) * 4294967296 + dp))).cell? ⟨w.heap.size + 1, 1, none⟩ = some (.int .u64 ((n : Int) * 4294967296 + dp)) :=
    World.cell?_setCell_same' _ _ _ (by rw [World.cell?_setCell_other _ _ _ _ (by simp), t1]; rfl)
  have HB9 : Fact (Below w.heap.size w ((w7.setCell ⟨w.heap.size + 1, 0, none⟩ (.int .u64 D)).setCell ⟨w.heap.size + 1, 1, none⟩ (.int .u64 ((n : Int) * 4294967296 + dp)))) :=
    ⟨((HB1.out.trans (hS6.1.mono HB1.out.size)).setCell (p := ⟨w.heap.size + 1, 0, none⟩) (by show w.heap.size ≤ w.heap.size + 1; omega) _).setCell (p := ⟨w.heap.size + 1, 1, none⟩) (by show w.heap.size ≤ w.heap.size + 1; omega) _⟩
  refine bodyPost_ret (v := .agg #[.int .u64 D, .int .u64 ((n : Int) * 4294967296 + dp)]) (by simp [results, Try.f19, go_sem, h0, h1]) rfl ⟨by rw [HKV.out], HB9.out⟩
end Go.Proofs.Ytfcmgkakmaclcaa
end
