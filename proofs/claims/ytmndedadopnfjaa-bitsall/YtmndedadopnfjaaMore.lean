/- More plain mathematics: eight bytes and the number that they make, a byte xored into a number: no condition. -/
import Derived.Test.YtmndedadopnfjaaMath
namespace Go.Proofs.Ytmndedadopnfjaa.M
open Go

/-- eight bytes as one number, the lowest first -/
def sum8 (b0 b1 b2 b3 b4 b5 b6 b7 : Int) : Int := b0 + b1 * 256 + b2 * 65536 + b3 * 16777216 + b4 * 4294967296 + b5 * 1099511627776 + b6 * 281474976710656 + b7 * 72057594037927936
theorem or_comm (a b : Int) : bits .or .u64 a b = bits .or .u64 b a := by
  show IntKind.u64.wrap ((dn a ||| dn b).toNat : Int) = IntKind.u64.wrap ((dn b ||| dn a).toNat : Int)
  rw [BitVec.or_comm]
theorem or_low (i : Nat) (p x y : Int) (hp : p = 2 ^ i) (hp1 : p ≤ 72057594037927936) (hx0 : 0 ≤ x) (hx : x < p) (hy0 : 0 ≤ y) (hy : y * p < 18446744073709551616) : bits .or .u64 x (y * p) = x + y * p := by
  have hp0 : 0 < p := by rw [hp]; exact Int.pow_pos (by decide)
  have h1 : 0 ≤ y * p := Int.mul_nonneg hy0 (Int.le_of_lt hp0)
  rw [or_comm, bits_join .u64 64 (by decide) (fun m a b => by rw [IntKind.wrap_u64]; omega) i (y * p) x h1 (by rw [hp]; exact Int.mul_emod_left _ _) (by omega) hx0 (by omega) (by omega)]
  omega
theorem or_chain (b0 b1 b2 b3 b4 b5 b6 b7 : Int) (l0 : 0 ≤ b0 ∧ b0 < 256) (l1 : 0 ≤ b1 ∧ b1 < 256) (l2 : 0 ≤ b2 ∧ b2 < 256) (l3 : 0 ≤ b3 ∧ b3 < 256) (l4 : 0 ≤ b4 ∧ b4 < 256) (l5 : 0 ≤ b5 ∧ b5 < 256) (l6 : 0 ≤ b6 ∧ b6 < 256) (l7 : 0 ≤ b7 ∧ b7 < 256) :
    bits .or .u64 (bits .or .u64 (bits .or .u64 (bits .or .u64 (bits .or .u64 (bits .or .u64 (bits .or .u64 (bits .or .u64 0 b0) (b1 * 256)) (b2 * 65536)) (b3 * 16777216)) (b4 * 4294967296)) (b5 * 1099511627776)) (b6 * 281474976710656)) (b7 * 72057594037927936) = sum8 b0 b1 b2 b3 b4 b5 b6 b7 := by
  have e0 : bits .or .u64 0 b0 = b0 := by
    have h := or_low 0 1 0 b0 (by decide) (by decide) (by decide) (by decide) (by omega) (by omega)
    rw [Int.mul_one] at h; omega
  rw [e0, or_low 8 256 _ b1 (by decide) (by decide) (by omega) (by omega) (by omega) (by omega),
    or_low 16 65536 _ b2 (by decide) (by decide) (by omega) (by omega) (by omega) (by omega),
    or_low 24 16777216 _ b3 (by decide) (by decide) (by omega) (by omega) (by omega) (by omega),
    or_low 32 4294967296 _ b4 (by decide) (by decide) (by omega) (by omega) (by omega) (by omega),
    or_low 40 1099511627776 _ b5 (by decide) (by decide) (by omega) (by omega) (by omega) (by omega),
    or_low 48 281474976710656 _ b6 (by decide) (by decide) (by omega) (by omega) (by omega) (by omega),
    or_low 56 72057594037927936 _ b7 (by decide) (by decide) (by omega) (by omega) (by omega) (by omega)]
  rfl
/-- a number is the sum of its eight bytes -/
theorem sum8_self (v : Int) (hu : IsU v) : sum8 (v % 256) (v / 256 % 256) (v / 65536 % 256) (v / 16777216 % 256) (v / 4294967296 % 256) (v / 1099511627776 % 256) (v / 281474976710656 % 256) (v / 72057594037927936) = v := by
  obtain ⟨h0, h1⟩ := hu
  unfold sum8; omega
structure Eight (v b0 b1 b2 b3 b4 b5 b6 b7 : Int) : Prop where
  e0 : v % 256 = b0
  e1 : v / 256 % 256 = b1
  e2 : v / 65536 % 256 = b2
  e3 : v / 16777216 % 256 = b3
  e4 : v / 4294967296 % 256 = b4
  e5 : v / 1099511627776 % 256 = b5
  e6 : v / 281474976710656 % 256 = b6
  e7 : v / 72057594037927936 = b7
def byt (z : BitVec 64) (i : Nat) : BitVec 8 := z.extractLsb' (8 * i) 8
theorem byt_up (z : BitVec 64) (i : Nat) : up z / 2 ^ (8 * i) % 256 = ((byt z i).toNat : Int) := by
  unfold byt up
  rw [BitVec.extractLsb'_toNat, Nat.shiftRight_eq_div_pow]
  simp
theorem byt_xor (z y : BitVec 64) (i : Nat) : byt (z ^^^ y) i = byt z i ^^^ byt y i := by
  apply BitVec.eq_of_getLsbD_eq
  intro j hj
  simp [byt, hj]
theorem byt_shl (b : BitVec 8) (k i : Nat) (hk : k < 8) (hi : i < 8) : byt (b.setWidth 64 <<< (8 * k)) i = if i = k then b else 0#8 := by
  apply BitVec.eq_of_getLsbD_eq
  intro j hj
  unfold byt
  rw [BitVec.getLsbD_extractLsb', BitVec.getLsbD_shiftLeft, BitVec.getLsbD_setWidth]
  by_cases h : i = k
  · subst h
    rw [if_pos rfl, show 8 * i + j - 8 * i = j by omega]
    have h1 : decide (j < 8) = true := by simpa using hj
    have h2 : decide (8 * i + j < 64) = true := by simp; omega
    have h3 : decide (8 * i + j < 8 * i) = false := by simp
    have h4 : decide (j < 64) = true := by simp; omega
    simp only [h1, h2, h3, h4, Bool.true_and, Bool.not_false]
  · rw [if_neg h, BitVec.getLsbD_zero]
    by_cases h2 : 8 * i + j < 8 * k
    · simp [h2]
    · have : 8 ≤ 8 * i + j - 8 * k := by omega
      rw [BitVec.getLsbD_of_ge b _ this]; simp
theorem up_shl8 (y : Int) (h0 : 0 ≤ y) (h1 : y < 256) : dn y = (BitVec.ofInt 8 y).setWidth 64 := by
  apply BitVec.eq_of_toNat_eq
  unfold dn
  rw [BitVec.toNat_setWidth, BitVec.toNat_ofInt, BitVec.toNat_ofInt]
  omega
theorem xor8 (p q : Int) : bits .xor .u8 p q = ((BitVec.ofInt 8 p ^^^ BitVec.ofInt 8 q).toNat : Int) := by
  show IntKind.u8.wrap ((BitVec.ofInt 8 p ^^^ BitVec.ofInt 8 q).toNat : Int) = _
  have := (BitVec.ofInt 8 p ^^^ BitVec.ofInt 8 q).isLt
  rw [IntKind.wrap_u8]; omega
/-- a byte xored into a number at place k -/
theorem xor_byte (a y : Int) (k i : Nat) (hk : k < 8) (hi : i < 8) (hu : IsU a) (h0 : 0 ≤ y) (h1 : y < 256) :
    bits .xor .u64 a (y * 2 ^ (8 * k)) / 2 ^ (8 * i) % 256 = if i = k then bits .xor .u8 (a / 2 ^ (8 * i) % 256) y else a / 2 ^ (8 * i) % 256 := by
  have ha := up_dn a hu.lo hu.hi
  have hy : y * 2 ^ (8 * k) = up (dn y <<< (8 * k)) := by
    rw [← shl_up _ _ (by omega), up_dn y h0 (by omega), IntKind.wrap_u64, Nat.min_eq_left (by omega)]
    have hp : (0 : Int) < 2 ^ (8 * k) := Int.pow_pos (by decide)
    have hq : y * 2 ^ (8 * k) < 18446744073709551616 := by
      have e1 : y * 2 ^ (8 * k) ≤ 255 * 2 ^ (8 * k) := Int.mul_le_mul_of_nonneg_right (by omega) (Int.le_of_lt hp)
      have e2 := Nat.pow_le_pow_right (show 0 < 2 by decide) (show 8 * k ≤ 56 by omega)
      have e3 : (2 : Int) ^ (8 * k) = ((2 ^ (8 * k) : Nat) : Int) := by simp
      omega
    have hr : 0 ≤ y * 2 ^ (8 * k) := Int.mul_nonneg h0 (Int.le_of_lt hp)
    omega
  rw [hy, ← ha, bits_xor, byt_up, byt_up, byt_xor, up_shl8 y h0 h1, byt_shl _ _ _ hk hi]
  by_cases h : i = k
  · rw [if_pos h, if_pos h]
    have hb := (byt (dn a) i).isLt
    rw [xor8]
    have : BitVec.ofInt 8 ((byt (dn a) i).toNat : Int) = byt (dn a) i := by rw [BitVec.ofInt_natCast]; simp
    rw [this]
  · rw [if_neg h, if_neg h, BitVec.xor_zero]
end Go.Proofs.Ytmndedadopnfjaa.M
