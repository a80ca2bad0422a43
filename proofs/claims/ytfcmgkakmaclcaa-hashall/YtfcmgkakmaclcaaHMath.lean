/- Plain mathematics of numbers of 64 bits (turning about, mixing, eight bytes), with no program in sight: no condition. -/
import Derived.WalkKit
set_option linter.unusedVariables false
namespace Go.Proofs.Ytfcmgkakmaclcaa.Bt
open Go

/-- a number of 64 bits as an integer -/
def up (x : BitVec 64) : Int := (x.toNat : Int)
def dn (v : Int) : BitVec 64 := BitVec.ofInt 64 v

theorem up_lo (x : BitVec 64) : 0 ≤ up x := by unfold up; omega
theorem up_hi (x : BitVec 64) : up x < 18446744073709551616 := by unfold up; have := x.isLt; omega
theorem dn_up (x : BitVec 64) : dn (up x) = x := by
  unfold up dn; rw [BitVec.ofInt_natCast]; simp
theorem up_dn (v : Int) (h0 : 0 ≤ v) (h1 : v < 18446744073709551616) : up (dn v) = v := by
  unfold up dn; rw [BitVec.toNat_ofInt]; omega
theorem up_inj {x y : BitVec 64} (h : up x = up y) : x = y := by rw [← dn_up x, h, dn_up]
theorem wrap_up (v : Int) : IntKind.u64.wrap v = up (dn v) := by
  rw [IntKind.wrap_u64]; unfold up dn; rw [BitVec.toNat_ofInt]; omega
theorem wrap_up_self (x : BitVec 64) : IntKind.u64.wrap (up x) = up x := by rw [wrap_up, dn_up]
theorem bits_or (x y : BitVec 64) : bits .or .u64 (up x) (up y) = up (x ||| y) := by
  show IntKind.u64.wrap ((dn (up x) ||| dn (up y)).toNat : Int) = _
  rw [dn_up, dn_up]; exact wrap_up_self _
theorem bits_and (x y : BitVec 64) : bits .and .u64 (up x) (up y) = up (x &&& y) := by
  show IntKind.u64.wrap ((dn (up x) &&& dn (up y)).toNat : Int) = _
  rw [dn_up, dn_up]; exact wrap_up_self _
theorem bits_xor (x y : BitVec 64) : bits .xor .u64 (up x) (up y) = up (x ^^^ y) := by
  show IntKind.u64.wrap ((dn (up x) ^^^ dn (up y)).toNat : Int) = _
  rw [dn_up, dn_up]; exact wrap_up_self _
theorem shl_up (x : BitVec 64) (k : Nat) (hk : k ≤ 64) : IntKind.u64.wrap (up x * 2 ^ min k 64) = up (x <<< k) := by
  rw [Nat.min_eq_left hk, IntKind.wrap_u64]
  unfold up
  rw [BitVec.toNat_shiftLeft, Nat.shiftLeft_eq]
  simp
theorem shr_up (x : BitVec 64) (k : Nat) (hk : k ≤ 64) : up x / 2 ^ min k 64 = up (x >>> k) := by
  rw [Nat.min_eq_left hk]
  unfold up
  rw [BitVec.toNat_ushiftRight, Nat.shiftRight_eq_div_pow]
  simp
theorem and63 (n : Int) : bits .and .u64 (IntKind.u64.wrap n) 63 = n % 64 := by
  have e : (63 : Int) = 2 ^ 6 - 1 := by decide
  rw [e, bits_mask .u64 64 (by decide) (fun m a b => by rw [IntKind.wrap_u64]; omega) 6 (by decide) _ (by rw [IntKind.wrap_u64]; omega) (by rw [IntKind.wrap_u64]; omega), IntKind.wrap_u64]
  omega

/-- turned about by n places -/
def rot (x : BitVec 64) (n : Int) : BitVec 64 := x.rotateLeft (n % 64).toNat

theorem rot_bit (x : BitVec 64) (n : Int) (i : Nat) (hi : i < 64) : (rot x n).getLsbD i = x.getLsbD ((i + 64 - (n % 64).toNat) % 64) := by
  unfold rot
  rw [BitVec.getLsbD_rotateLeft]
  have hk : (n % 64).toNat < 64 := by omega
  rw [Nat.mod_eq_of_lt hk]
  by_cases h : i < (n % 64).toNat
  · simp only [h, decide_true, cond_true]
    rw [Nat.mod_eq_of_lt (by omega)]
    congr 1; omega
  · simp only [h, decide_false, cond_false, hi, decide_true, Bool.true_and]
    congr 1; omega

theorem rot_two (x : BitVec 64) (a b : Int) : rot (rot x a) b = rot x (a + b) := by
  apply BitVec.eq_of_getLsbD_eq
  intro i hi
  rw [rot_bit _ _ _ hi, rot_bit _ _ _ (by omega), rot_bit _ _ _ hi]
  congr 1
  omega
theorem rot_nought (x : BitVec 64) (n : Int) (h : n % 64 = 0) : rot x n = x := by
  apply BitVec.eq_of_getLsbD_eq
  intro i hi
  rw [rot_bit _ _ _ hi]
  congr 1
  omega
theorem rot_inj (x y : BitVec 64) (n : Int) (h : rot x n = rot y n) : x = y := by
  have := congrArg (fun z => rot z (-n)) h
  simp only [rot_two] at this
  rwa [rot_nought _ _ (by omega), rot_nought _ _ (by omega)] at this
theorem rot_or (x : BitVec 64) (k : Nat) (hk : k < 64) : x <<< k ||| x >>> (64 - k) = x.rotateLeft k := by
  rw [BitVec.rotateLeft_def, Nat.mod_eq_of_lt hk]


def tn (v n : Int) : Int := up (rot (dn v) n)
theorem tn_lo (v n : Int) : 0 ≤ tn v n := up_lo _
theorem tn_hi (v n : Int) : tn v n < 18446744073709551616 := up_hi _
theorem tn_tn (v a b : Int) : tn (tn v a) b = tn v (a + b) := by unfold tn; rw [dn_up, rot_two]
theorem tn_nought (v n : Int) (h0 : 0 ≤ v) (h1 : v < 18446744073709551616) (h : n % 64 = 0) : tn v n = v := by
  unfold tn; rw [rot_nought _ _ h, up_dn v h0 h1]

/-- the lowest c bits of x as a number with a sign -/
def sgB (x : BitVec 64) (k : Nat) : BitVec 64 := (x <<< k).sshiftRight k
def ct (n : Int) : Int := if n < 1 then 1 else if 64 < n then 64 else n
theorem ct_lo (n : Int) : 1 ≤ ct n := by unfold ct; split <;> (try split) <;> omega
theorem ct_hi (n : Int) : ct n ≤ 64 := by unfold ct; split <;> (try split) <;> omega
def sg (v n : Int) : Int := (sgB (dn v) (64 - (ct n).toNat)).toInt
theorem wrap_i64_toInt (v : Int) : IntKind.i64.wrap v = (dn v).toInt := by
  unfold dn; rw [BitVec.toInt_ofInt, IntKind.wrap_i64, Int.bmod_def]; omega
theorem sg_run (x : BitVec 64) (k : Nat) (hk : k ≤ 64) : IntKind.i64.wrap (IntKind.u64.wrap (up x * 2 ^ k)) / 2 ^ k = (sgB x k).toInt := by
  have h := shl_up x k hk
  rw [Nat.min_eq_left hk] at h
  rw [h, wrap_i64_toInt, dn_up]
  unfold sgB
  rw [BitVec.toInt_sshiftRight, Int.shiftRight_eq_div_pow]
  rfl
theorem sg_val (v : Int) (c : Int) (h1 : 1 ≤ c) (h2 : c ≤ 64) (hlo : -2 ^ (c - 1).toNat ≤ v) (hhi : v < 2 ^ (c - 1).toNat) : sg v c = v := by
  have hc : ct c = c := by unfold ct; rw [if_neg (by omega), if_neg (by omega)]
  unfold sg
  rw [hc]
  obtain ⟨d, hd⟩ : ∃ d : Nat, c = (d : Int) + 1 := ⟨(c - 1).toNat, by omega⟩
  have e1 : (c - 1).toNat = d := by omega
  have e2 : 64 - c.toNat = 63 - d := by omega
  rw [e1] at hlo hhi
  rw [e2]
  unfold sgB dn
  rw [BitVec.toInt_sshiftRight, Int.shiftRight_eq_div_pow, BitVec.shiftLeft_eq_mul_twoPow]
  have e3 : BitVec.twoPow 64 (63 - d) = BitVec.ofInt 64 (2 ^ (63 - d)) := by
    apply BitVec.eq_of_toNat_eq
    rw [BitVec.toNat_twoPow, BitVec.toNat_ofInt]
    have : ((2 : Int) ^ (63 - d)) = ((2 ^ (63 - d) : Nat) : Int) := by simp
    rw [this]; omega
  rw [e3, ← BitVec.ofInt_mul, BitVec.toInt_ofInt]
  have hp : (0 : Int) < 2 ^ (63 - d) := Int.pow_pos (by decide)
  have hpp : (2 : Int) ^ d * 2 ^ (63 - d) = 9223372036854775808 := by
    rw [← Int.pow_add, show d + (63 - d) = 63 by omega]; decide
  have hA : v * 2 ^ (63 - d) < 9223372036854775808 := by rw [← hpp]; exact Int.mul_lt_mul_of_pos_right hhi hp
  have hB : -9223372036854775808 ≤ v * 2 ^ (63 - d) := by
    rw [← hpp, ← Int.neg_mul]; exact Int.mul_le_mul_of_nonneg_right hlo (Int.le_of_lt hp)
  have hm : (v * 2 ^ (63 - d)).bmod (2 ^ 64) = v * 2 ^ (63 - d) := by
    generalize v * 2 ^ (63 - d) = t at hA hB
    rw [Int.bmod_def]; omega
  rw [hm]
  have : ((2 ^ (63 - d) : Nat) : Int) = 2 ^ (63 - d) := by simp
  rw [this]
  exact Int.mul_ediv_cancel _ (by omega)

def mixC : BitVec 64 := 11400714819323198485#64
def mxB (x y : BitVec 64) : BitVec 64 := rot ((x ^^^ y) * mixC ^^^ ((x ^^^ y) * mixC) >>> 29) 31
def mx (h v : Int) : Int := up (mxB (dn h) (dn v))
theorem mul_up (x : BitVec 64) : IntKind.u64.wrap (up x * 11400714819323198485) = up (x * mixC) := by
  rw [IntKind.wrap_u64]; unfold up; rw [BitVec.toNat_mul]
  have : mixC.toNat = 11400714819323198485 := by decide
  rw [this]; omega
theorem mxB_comm (x y : BitVec 64) : mxB x y = mxB y x := by unfold mxB; rw [BitVec.xor_comm x y]
theorem xorc : ∀ a b c : Bool, (a ^^ c) = (b ^^ c) → a = b := by decide
theorem xs_inj (x y : BitVec 64) (h : x ^^^ x >>> 29 = y ^^^ y >>> 29) : x = y := by
  have e : ∀ i, i < 64 → x.getLsbD (63 - i) = y.getLsbD (63 - i) := by
    intro i
    induction i using Nat.strongRecOn with
    | _ i ih =>
      intro hi
      have hb := congrArg (fun z => z.getLsbD (63 - i)) h
      simp only [BitVec.getLsbD_xor, BitVec.getLsbD_ushiftRight] at hb
      by_cases hh : i < 29
      · rw [BitVec.getLsbD_of_ge x (29 + (63 - i)) (by omega), BitVec.getLsbD_of_ge y (29 + (63 - i)) (by omega)] at hb
        simpa using hb
      · have := ih (i - 29) (by omega) (by omega)
        rw [show 63 - (i - 29) = 29 + (63 - i) by omega] at this
        rw [this] at hb
        exact xorc _ _ _ hb
  apply BitVec.eq_of_getLsbD_eq
  intro i hi
  have := e (63 - i) (by omega)
  rwa [show 63 - (63 - i) = i by omega] at this
theorem mxB_inj (h x y : BitVec 64) (he : mxB h x = mxB h y) : x = y := by
  unfold mxB at he
  have h1 := xs_inj _ _ (rot_inj _ _ _ he)
  have h2 := congrArg (fun z => z * 17428512612931826493#64) h1
  simp only [BitVec.mul_assoc] at h2
  have h3 : mixC * 17428512612931826493#64 = 1#64 := by decide
  rw [h3, BitVec.mul_one, BitVec.mul_one] at h2
  have h4 := congrArg (fun z => h ^^^ z) h2
  simpa [← BitVec.xor_assoc] using h4
theorem place_pos (v n : Int) (h : 0 ≤ v.tmod n) : v.tmod n = v % n := by
  rw [Int.tmod_eq_emod] at *
  split at h <;> rename_i hc
  · rw [if_pos hc]; omega
  · rw [if_neg hc]
    by_cases hn : n = 0
    · subst hn; simp at *
    · have := Int.emod_lt v hn
      omega
theorem place_neg (v n : Int) (h0 : 0 < n) (h : v.tmod n < 0) : v.tmod n + n = v % n := by
  rw [Int.tmod_eq_emod] at *
  split at h <;> rename_i hc
  · have := Int.emod_nonneg v (show n ≠ 0 by omega); omega
  · rw [if_neg hc]; omega
theorem shr29 (x : BitVec 64) : up x / (536870912 : Int) = up (x >>> 29) := by
  have h := shr_up x 29 (by omega)
  rwa [show (2 : Int) ^ min 29 64 = 536870912 by decide] at h
/-- a number that a uint64 holds -/
structure IsU (v : Int) : Prop where
  lo : 0 ≤ v
  hi : v < 18446744073709551616
theorem tn_u (v n : Int) : IsU (tn v n) := ⟨tn_lo v n, tn_hi v n⟩
theorem up_u (x : BitVec 64) : IsU (up x) := ⟨up_lo x, up_hi x⟩
theorem mx_u (h v : Int) : IsU (mx h v) := up_u _

/-- eight bytes as one number, the lowest first -/
def sum8 (b0 b1 b2 b3 b4 b5 b6 b7 : Int) : Int := b0 + b1 * 256 + b2 * 65536 + b3 * 16777216 + b4 * 4294967296 + b5 * 1099511627776 + b6 * 281474976710656 + b7 * 72057594037927936
theorem or_comm (a b : Int) : bits .or .u64 a b = bits .or .u64 b a := by
  show IntKind.u64.wrap ((dn a ||| dn b).toNat : Int) = IntKind.u64.wrap ((dn b ||| dn a).toNat : Int)
  rw [BitVec.or_comm]
theorem or_low (i : Nat) (p x y : Int) (hp : p = 2 ^ i) (hp1 : p ≤ 72057594037927936) (hx0 : 0 ≤ x) (hx : x < p) (hy0 : 0 ≤ y) (hy : y * p < 18446744073709551616) : bits .or .u64 x (y * p) = x + y * p := by
  have hp0 : 0 < p := by rw [hp]; exact Int.pow_pos (by decide)
  have h1 : 0 ≤ y * p := Int.mul_nonneg hy0 (Int.le_of_lt hp0)
  rw [or_comm, bits_join .u64 64 (by decide) (fun m a b => by rw [IntKind.wrap_u64]; omega) i (y * p) x h1 (by rw [hp]; exact Int.mul_emod_left _ _) (by omega) hx0 (by omega) (by omega)]
  omega
theorem or_chain (b0 b1 b2 b3 b4 b5 b6 b7 : Int) (l0 : 0 ≤ b0 ∧ b0 < 256) (l1 : 0 ≤ b1 ∧ b1 < 256) (l2 : 0 ≤ b2 ∧ b2 < 256) (l3 : 0 ≤ b3 ∧ b3 < 256) (l4 : 0 ≤ b4 ∧ b4 < 256) (l5 : 0 ≤ b5 ∧ b5 < 256) (l6 : 0 ≤ b6 ∧ b6 < 256) (l7 : 0 ≤ b7 ∧ b7 < 256) :
    bits .or .u64 (bits .or .u64 (bits .or .u64 (bits .or .u64 (bits .or .u64 (bits .or .u64 (bits .or .u64 (bits .or .u64 0 b0) (b1 * 256)) (b2 * 65536)) (b3 * 16777216)) (b4 * 4294967296)) (b5 * 1099511627776)) (b6 * 281474976710656)) (b7 * 72057594037927936) = sum8 b0 b1 b2 b3 b4 b5 b6 b7 := by
  have e0 : bits .or .u64 0 b0 = b0 := by
    have h := or_low 0 1 0 b0 (by decide) (by decide) (by decide) (by decide) (by omega) (by omega)
    rw [Int.mul_one] at h; omega
  rw [e0, or_low 8 256 _ b1 (by decide) (by decide) (by omega) (by omega) (by omega) (by omega),
    or_low 16 65536 _ b2 (by decide) (by decide) (by omega) (by omega) (by omega) (by omega),
    or_low 24 16777216 _ b3 (by decide) (by decide) (by omega) (by omega) (by omega) (by omega),
    or_low 32 4294967296 _ b4 (by decide) (by decide) (by omega) (by omega) (by omega) (by omega),
    or_low 40 1099511627776 _ b5 (by decide) (by decide) (by omega) (by omega) (by omega) (by omega),
    or_low 48 281474976710656 _ b6 (by decide) (by decide) (by omega) (by omega) (by omega) (by omega),
    or_low 56 72057594037927936 _ b7 (by decide) (by decide) (by omega) (by omega) (by omega) (by omega)]
  rfl
/-- a number is the sum of its eight bytes -/
theorem sum8_self (v : Int) (hu : IsU v) : sum8 (v % 256) (v / 256 % 256) (v / 65536 % 256) (v / 16777216 % 256) (v / 4294967296 % 256) (v / 1099511627776 % 256) (v / 281474976710656 % 256) (v / 72057594037927936) = v := by
  obtain ⟨h0, h1⟩ := hu
  unfold sum8; omega
def b1 (x : BitVec 64) (i : Nat) : BitVec 64 := if x.getLsbD i then 1#64 else 0#64
theorem b1_bit (x : BitVec 64) (i j : Nat) : (b1 x i).getLsbD j = (x.getLsbD i && decide (j = 0)) := by
  unfold b1
  cases x.getLsbD i
  · simp
  · simp only [if_true, BitVec.getLsbD_one, Bool.true_and]; simp
theorem and_b1 (x : BitVec 64) (i : Nat) (hi : i ≤ 64) : bits .and .u64 (up x / 2 ^ i) 1 = up (b1 x i) := by
  have h := shr_up x i hi
  rw [Nat.min_eq_left hi] at h
  have e : (1 : Int) = up 1#64 := by decide
  rw [h, e, bits_and]
  congr 1
  apply BitVec.eq_of_getLsbD_eq
  intro j hj
  rw [BitVec.getLsbD_and, BitVec.getLsbD_ushiftRight, BitVec.getLsbD_one, b1_bit]
  by_cases hz : j = 0
  · subst hz; simp only [Nat.add_zero]; simp
  · simp [hz]
/-- bits picked one by one and laid anew -/
def acc (x : BitVec 64) (f g : Nat → Nat) : Nat → BitVec 64
  | 0 => 0#64
  | j + 1 => acc x f g j ||| b1 x (f j) <<< g j
theorem acc_bit (x : BitVec 64) (f g : Nat → Nat) (m : Nat) (hm : m < 64) : ∀ j, ((acc x f g j).getLsbD m = true ↔ ∃ i, i < j ∧ g i = m ∧ x.getLsbD (f i) = true)
  | 0 => by simp [acc]
  | j + 1 => by
    have ih := acc_bit x f g m hm j
    unfold acc
    rw [BitVec.getLsbD_or, Bool.or_eq_true, ih, BitVec.getLsbD_shiftLeft, b1_bit]
    constructor
    · rintro (⟨i, hi, e, hx⟩ | h)
      · exact ⟨i, by omega, e, hx⟩
      · simp only [Bool.and_eq_true, decide_eq_true_eq, Bool.not_eq_true', decide_eq_false_iff_not] at h
        obtain ⟨⟨_, h1⟩, h2, h3⟩ := h
        exact ⟨j, by omega, by omega, h2⟩
    · rintro ⟨i, hi, e, hx⟩
      by_cases hij : i = j
      · right
        subst hij
        simp only [Bool.and_eq_true, decide_eq_true_eq, Bool.not_eq_true', decide_eq_false_iff_not]
        exact ⟨⟨hm, by omega⟩, hx, by omega⟩
      · left; exact ⟨i, by omega, e, hx⟩
theorem acc_turn (x : BitVec 64) (n : Int) : acc x (fun i => i) (fun i => (i + (n % 64).toNat) % 64) 64 = rot x n := by
  apply BitVec.eq_of_getLsbD_eq
  intro m hm
  rw [Bool.eq_iff_iff, acc_bit _ _ _ _ hm, rot_bit _ _ _ hm]
  constructor
  · rintro ⟨i, hi, e, hx⟩
    rwa [show (m + 64 - (n % 64).toNat) % 64 = i by omega]
  · intro hx
    exact ⟨(m + 64 - (n % 64).toNat) % 64, by omega, by omega, hx⟩
theorem acc_run (x : BitVec 64) (f g : Nat → Nat) (j : Nat) (hg : g j ≤ 64) : bits .or .u64 (up (acc x f g j)) (IntKind.u64.wrap (up (b1 x (f j)) * 2 ^ g j)) = up (acc x f g (j + 1)) := by
  have h := shl_up (b1 x (f j)) (g j) hg
  rw [Nat.min_eq_left hg] at h
  rw [h, bits_or]; rfl
theorem acc_run' (x : BitVec 64) (f g : Nat → Nat) (j i : Nat) (hi : f j = i) (hg : g j ≤ 64) : bits .or .u64 (up (acc x f g j)) (IntKind.u64.wrap (up (b1 x i) * 2 ^ g j)) = up (acc x f g (j + 1)) := by
  subst hi; exact acc_run x f g j hg
end Go.Proofs.Ytfcmgkakmaclcaa.Bt
