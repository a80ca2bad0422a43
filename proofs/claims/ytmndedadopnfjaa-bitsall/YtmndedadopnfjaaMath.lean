/- Plain mathematics of numbers of 64 bits (turning about, mixing, signs, places), with no program in sight: no condition. -/
import Derived.WalkKit
namespace Go.Proofs.Ytmndedadopnfjaa.M
open Go

/-- a number of 64 bits as an integer -/
def up (x : BitVec 64) : Int := (x.toNat : Int)
def dn (v : Int) : BitVec 64 := BitVec.ofInt 64 v

theorem up_lo (x : BitVec 64) : 0 ≤ up x := by unfold up; omega
theorem up_hi (x : BitVec 64) : up x < 18446744073709551616 := by unfold up; have := x.isLt; omega
theorem dn_up (x : BitVec 64) : dn (up x) = x := by
  unfold up dn; rw [BitVec.ofInt_natCast]; simp
theorem up_dn (v : Int) (h0 : 0 ≤ v) (h1 : v < 18446744073709551616) : up (dn v) = v := by
  unfold up dn; rw [BitVec.toNat_ofInt]; omega
theorem up_inj {x y : BitVec 64} (h : up x = up y) : x = y := by rw [← dn_up x, h, dn_up]
theorem wrap_up (v : Int) : IntKind.u64.wrap v = up (dn v) := by
  rw [IntKind.wrap_u64]; unfold up dn; rw [BitVec.toNat_ofInt]; omega
theorem wrap_up_self (x : BitVec 64) : IntKind.u64.wrap (up x) = up x := by rw [wrap_up, dn_up]
theorem bits_or (x y : BitVec 64) : bits .or .u64 (up x) (up y) = up (x ||| y) := by
  show IntKind.u64.wrap ((dn (up x) ||| dn (up y)).toNat : Int) = _
  rw [dn_up, dn_up]; exact wrap_up_self _
theorem bits_and (x y : BitVec 64) : bits .and .u64 (up x) (up y) = up (x &&& y) := by
  show IntKind.u64.wrap ((dn (up x) &&& dn (up y)).toNat : Int) = _
  rw [dn_up, dn_up]; exact wrap_up_self _
theorem bits_xor (x y : BitVec 64) : bits .xor .u64 (up x) (up y) = up (x ^^^ y) := by
  show IntKind.u64.wrap ((dn (up x) ^^^ dn (up y)).toNat : Int) = _
  rw [dn_up, dn_up]; exact wrap_up_self _
theorem shl_up (x : BitVec 64) (k : Nat) (hk : k ≤ 64) : IntKind.u64.wrap (up x * 2 ^ min k 64) = up (x <<< k) := by
  rw [Nat.min_eq_left hk, IntKind.wrap_u64]
  unfold up
  rw [BitVec.toNat_shiftLeft, Nat.shiftLeft_eq]
  simp
theorem shr_up (x : BitVec 64) (k : Nat) (hk : k ≤ 64) : up x / 2 ^ min k 64 = up (x >>> k) := by
  rw [Nat.min_eq_left hk]
  unfold up
  rw [BitVec.toNat_ushiftRight, Nat.shiftRight_eq_div_pow]
  simp
theorem and63 (n : Int) : bits .and .u64 (IntKind.u64.wrap n) 63 = n % 64 := by
  have e : (63 : Int) = 2 ^ 6 - 1 := by decide
  rw [e, bits_mask .u64 64 (by decide) (fun m a b => by rw [IntKind.wrap_u64]; omega) 6 (by decide) _ (by rw [IntKind.wrap_u64]; omega) (by rw [IntKind.wrap_u64]; omega), IntKind.wrap_u64]
  omega

/-- turned about by n places -/
def rot (x : BitVec 64) (n : Int) : BitVec 64 := x.rotateLeft (n % 64).toNat

theorem rot_bit (x : BitVec 64) (n : Int) (i : Nat) (hi : i < 64) : (rot x n).getLsbD i = x.getLsbD ((i + 64 - (n % 64).toNat) % 64) := by
  unfold rot
  rw [BitVec.getLsbD_rotateLeft]
  have hk : (n % 64).toNat < 64 := by omega
  rw [Nat.mod_eq_of_lt hk]
  by_cases h : i < (n % 64).toNat
  · simp only [h, decide_true, cond_true]
    rw [Nat.mod_eq_of_lt (by omega)]
    congr 1; omega
  · simp only [h, decide_false, cond_false, hi, decide_true, Bool.true_and]
    congr 1; omega

theorem rot_two (x : BitVec 64) (a b : Int) : rot (rot x a) b = rot x (a + b) := by
  apply BitVec.eq_of_getLsbD_eq
  intro i hi
  rw [rot_bit _ _ _ hi, rot_bit _ _ _ (by omega), rot_bit _ _ _ hi]
  congr 1
  omega
theorem rot_nought (x : BitVec 64) (n : Int) (h : n % 64 = 0) : rot x n = x := by
  apply BitVec.eq_of_getLsbD_eq
  intro i hi
  rw [rot_bit _ _ _ hi]
  congr 1
  omega
theorem rot_inj (x y : BitVec 64) (n : Int) (h : rot x n = rot y n) : x = y := by
  have := congrArg (fun z => rot z (-n)) h
  simp only [rot_two] at this
  rwa [rot_nought _ _ (by omega), rot_nought _ _ (by omega)] at this
theorem rot_or (x : BitVec 64) (k : Nat) (hk : k < 64) : x <<< k ||| x >>> (64 - k) = x.rotateLeft k := by
  rw [BitVec.rotateLeft_def, Nat.mod_eq_of_lt hk]


def tn (v n : Int) : Int := up (rot (dn v) n)
theorem tn_lo (v n : Int) : 0 ≤ tn v n := up_lo _
theorem tn_hi (v n : Int) : tn v n < 18446744073709551616 := up_hi _
theorem tn_tn (v a b : Int) : tn (tn v a) b = tn v (a + b) := by unfold tn; rw [dn_up, rot_two]
theorem tn_nought (v n : Int) (h0 : 0 ≤ v) (h1 : v < 18446744073709551616) (h : n % 64 = 0) : tn v n = v := by
  unfold tn; rw [rot_nought _ _ h, up_dn v h0 h1]

/-- the lowest c bits of x as a number with a sign -/
def sgB (x : BitVec 64) (k : Nat) : BitVec 64 := (x <<< k).sshiftRight k
def ct (n : Int) : Int := if n < 1 then 1 else if 64 < n then 64 else n
theorem ct_lo (n : Int) : 1 ≤ ct n := by unfold ct; split <;> (try split) <;> omega
theorem ct_hi (n : Int) : ct n ≤ 64 := by unfold ct; split <;> (try split) <;> omega
def sg (v n : Int) : Int := (sgB (dn v) (64 - (ct n).toNat)).toInt
theorem wrap_i64_toInt (v : Int) : IntKind.i64.wrap v = (dn v).toInt := by
  unfold dn; rw [BitVec.toInt_ofInt, IntKind.wrap_i64, Int.bmod_def]; omega
theorem sg_run (x : BitVec 64) (k : Nat) (hk : k ≤ 64) : IntKind.i64.wrap (IntKind.u64.wrap (up x * 2 ^ k)) / 2 ^ k = (sgB x k).toInt := by
  have h := shl_up x k hk
  rw [Nat.min_eq_left hk] at h
  rw [h, wrap_i64_toInt, dn_up]
  unfold sgB
  rw [BitVec.toInt_sshiftRight, Int.shiftRight_eq_div_pow]
  rfl
theorem sg_val (v : Int) (c : Int) (h1 : 1 ≤ c) (h2 : c ≤ 64) (hlo : -2 ^ (c - 1).toNat ≤ v) (hhi : v < 2 ^ (c - 1).toNat) : sg v c = v := by
  have hc : ct c = c := by unfold ct; rw [if_neg (by omega), if_neg (by omega)]
  unfold sg
  rw [hc]
  obtain ⟨d, hd⟩ : ∃ d : Nat, c = (d : Int) + 1 := ⟨(c - 1).toNat, by omega⟩
  have e1 : (c - 1).toNat = d := by omega
  have e2 : 64 - c.toNat = 63 - d := by omega
  rw [e1] at hlo hhi
  rw [e2]
  unfold sgB dn
  rw [BitVec.toInt_sshiftRight, Int.shiftRight_eq_div_pow, BitVec.shiftLeft_eq_mul_twoPow]
  have e3 : BitVec.twoPow 64 (63 - d) = BitVec.ofInt 64 (2 ^ (63 - d)) := by
    apply BitVec.eq_of_toNat_eq
    rw [BitVec.toNat_twoPow, BitVec.toNat_ofInt]
    have : ((2 : Int) ^ (63 - d)) = ((2 ^ (63 - d) : Nat) : Int) := by simp
    rw [this]; omega
  rw [e3, ← BitVec.ofInt_mul, BitVec.toInt_ofInt]
  have hp : (0 : Int) < 2 ^ (63 - d) := Int.pow_pos (by decide)
  have hpp : (2 : Int) ^ d * 2 ^ (63 - d) = 9223372036854775808 := by
    rw [← Int.pow_add, show d + (63 - d) = 63 by omega]; decide
  have hA : v * 2 ^ (63 - d) < 9223372036854775808 := by rw [← hpp]; exact Int.mul_lt_mul_of_pos_right hhi hp
  have hB : -9223372036854775808 ≤ v * 2 ^ (63 - d) := by
    rw [← hpp, ← Int.neg_mul]; exact Int.mul_le_mul_of_nonneg_right hlo (Int.le_of_lt hp)
  have hm : (v * 2 ^ (63 - d)).bmod (2 ^ 64) = v * 2 ^ (63 - d) := by
    generalize v * 2 ^ (63 - d) = t at hA hB
    rw [Int.bmod_def]; omega
  rw [hm]
  have : ((2 ^ (63 - d) : Nat) : Int) = 2 ^ (63 - d) := by simp
  rw [this]
  exact Int.mul_ediv_cancel _ (by omega)

def mixC : BitVec 64 := 11400714819323198485#64
def mxB (x y : BitVec 64) : BitVec 64 := rot ((x ^^^ y) * mixC ^^^ ((x ^^^ y) * mixC) >>> 29) 31
def mx (h v : Int) : Int := up (mxB (dn h) (dn v))
theorem mul_up (x : BitVec 64) : IntKind.u64.wrap (up x * 11400714819323198485) = up (x * mixC) := by
  rw [IntKind.wrap_u64]; unfold up; rw [BitVec.toNat_mul]
  have : mixC.toNat = 11400714819323198485 := by decide
  rw [this]; omega
theorem mxB_comm (x y : BitVec 64) : mxB x y = mxB y x := by unfold mxB; rw [BitVec.xor_comm x y]
theorem xorc : ∀ a b c : Bool, (a ^^ c) = (b ^^ c) → a = b := by decide
theorem xs_inj (x y : BitVec 64) (h : x ^^^ x >>> 29 = y ^^^ y >>> 29) : x = y := by
  have e : ∀ i, i < 64 → x.getLsbD (63 - i) = y.getLsbD (63 - i) := by
    intro i
    induction i using Nat.strongRecOn with
    | _ i ih =>
      intro hi
      have hb := congrArg (fun z => z.getLsbD (63 - i)) h
      simp only [BitVec.getLsbD_xor, BitVec.getLsbD_ushiftRight] at hb
      by_cases hh : i < 29
      · rw [BitVec.getLsbD_of_ge x (29 + (63 - i)) (by omega), BitVec.getLsbD_of_ge y (29 + (63 - i)) (by omega)] at hb
        simpa using hb
      · have := ih (i - 29) (by omega) (by omega)
        rw [show 63 - (i - 29) = 29 + (63 - i) by omega] at this
        rw [this] at hb
        exact xorc _ _ _ hb
  apply BitVec.eq_of_getLsbD_eq
  intro i hi
  have := e (63 - i) (by omega)
  rwa [show 63 - (63 - i) = i by omega] at this
theorem mxB_inj (h x y : BitVec 64) (he : mxB h x = mxB h y) : x = y := by
  unfold mxB at he
  have h1 := xs_inj _ _ (rot_inj _ _ _ he)
  have h2 := congrArg (fun z => z * 17428512612931826493#64) h1
  simp only [BitVec.mul_assoc] at h2
  have h3 : mixC * 17428512612931826493#64 = 1#64 := by decide
  rw [h3, BitVec.mul_one, BitVec.mul_one] at h2
  have h4 := congrArg (fun z => h ^^^ z) h2
  simpa [← BitVec.xor_assoc] using h4
theorem place_pos (v n : Int) (h : 0 ≤ v.tmod n) : v.tmod n = v % n := by
  rw [Int.tmod_eq_emod] at *
  split at h <;> rename_i hc
  · rw [if_pos hc]; omega
  · rw [if_neg hc]
    by_cases hn : n = 0
    · subst hn; simp at *
    · have := Int.emod_lt v hn
      omega
theorem place_neg (v n : Int) (h0 : 0 < n) (h : v.tmod n < 0) : v.tmod n + n = v % n := by
  rw [Int.tmod_eq_emod] at *
  split at h <;> rename_i hc
  · have := Int.emod_nonneg v (show n ≠ 0 by omega); omega
  · rw [if_neg hc]; omega
theorem shr29 (x : BitVec 64) : up x / (536870912 : Int) = up (x >>> 29) := by
  have h := shr_up x 29 (by omega)
  rwa [show (2 : Int) ^ min 29 64 = 536870912 by decide] at h
/-- a number that a uint64 holds -/
structure IsU (v : Int) : Prop where
  lo : 0 ≤ v
  hi : v < 18446744073709551616
theorem tn_u (v n : Int) : IsU (tn v n) := ⟨tn_lo v n, tn_hi v n⟩
theorem up_u (x : BitVec 64) : IsU (up x) := ⟨up_lo x, up_hi x⟩
theorem mx_u (h v : Int) : IsU (mx h v) := up_u _
end Go.Proofs.Ytmndedadopnfjaa.M
