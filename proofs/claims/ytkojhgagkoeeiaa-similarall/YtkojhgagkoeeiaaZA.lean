/- The document's own Flat of any tree. -/
import Derived.WalkKit
import Derived.Test.YtkojhgagkoeeiaaFlatM
import Derived.Test.YtkojhgagkoeeiaaPostM
import Derived.Test.YtkojhgagkoeeiaaRows
import Derived.ProofKit
import Derived.OpenShut
import Derived.WalkSpells
import Derived.WalkLawsBesides
import Derived.Handy
import Derived.Below
import Derived.Test.YtkojhgagkoeeiaaSmall
import Derived.Lib.BufferWrite
import Derived.Lib.SlBuf
import Derived.Laws.CopyOwn
import Derived.Test.YtkojhgagkoeeiaaCmpA
import Derived.Deep.RegionHeld3
import Derived.Deep.Cut
import Derived.Deep.DeepCutAuto
import Derived.BigQuiet
import Derived.Test.YtkojhgagkoeeiaaCopyL
import Derived.Test.YtkojhgagkoeeiaaHeld2
import Derived.Test.YtkojhgagkoeeiaaTellP
import Derived.Test.YtkojhgagkoeeiaaOrdM
import Derived.Test.YtkojhgagkoeeiaaFlat
import Derived.Test.YtkojhgagkoeeiaaPost
import Derived.Deep.RegionWith
/- Plain mathematics of numbers of 64 bits (turning about, mixing, eight bytes), with no program in sight: no condition. -/
section
set_option linter.unusedVariables false
namespace Go.Proofs.Ytkojhgagkoeeiaa.Bt
open Go

/-- a number of 64 bits as an integer -/
def up (x : BitVec 64) : Int := (x.toNat : Int)
def dn (v : Int) : BitVec 64 := BitVec.ofInt 64 v

theorem up_lo (x : BitVec 64) : 0 ≤ up x := by unfold up; omega
theorem up_hi (x : BitVec 64) : up x < 18446744073709551616 := by unfold up; have := x.isLt; omega
theorem dn_up (x : BitVec 64) : dn (up x) = x := by
  unfold up dn; rw [BitVec.ofInt_natCast]; simp
theorem up_dn (v : Int) (h0 : 0 ≤ v) (h1 : v < 18446744073709551616) : up (dn v) = v := by
  unfold up dn; rw [BitVec.toNat_ofInt]; omega
theorem up_inj {x y : BitVec 64} (h : up x = up y) : x = y := by rw [← dn_up x, h, dn_up]
theorem wrap_up (v : Int) : IntKind.u64.wrap v = up (dn v) := by
  rw [IntKind.wrap_u64]; unfold up dn; rw [BitVec.toNat_ofInt]; omega
theorem wrap_up_self (x : BitVec 64) : IntKind.u64.wrap (up x) = up x := by rw [wrap_up, dn_up]
theorem bits_or (x y : BitVec 64) : bits .or .u64 (up x) (up y) = up (x ||| y) := by
  show IntKind.u64.wrap ((dn (up x) ||| dn (up y)).toNat : Int) = _
  rw [dn_up, dn_up]; exact wrap_up_self _
theorem bits_and (x y : BitVec 64) : bits .and .u64 (up x) (up y) = up (x &&& y) := by
  show IntKind.u64.wrap ((dn (up x) &&& dn (up y)).toNat : Int) = _
  rw [dn_up, dn_up]; exact wrap_up_self _
theorem bits_xor (x y : BitVec 64) : bits .xor .u64 (up x) (up y) = up (x ^^^ y) := by
  show IntKind.u64.wrap ((dn (up x) ^^^ dn (up y)).toNat : Int) = _
  rw [dn_up, dn_up]; exact wrap_up_self _
theorem shl_up (x : BitVec 64) (k : Nat) (hk : k ≤ 64) : IntKind.u64.wrap (up x * 2 ^ min k 64) = up (x <<< k) := by
  rw [Nat.min_eq_left hk, IntKind.wrap_u64]
  unfold up
  rw [BitVec.toNat_shiftLeft, Nat.shiftLeft_eq]
  simp
theorem shr_up (x : BitVec 64) (k : Nat) (hk : k ≤ 64) : up x / 2 ^ min k 64 = up (x >>> k) := by
  rw [Nat.min_eq_left hk]
  unfold up
  rw [BitVec.toNat_ushiftRight, Nat.shiftRight_eq_div_pow]
  simp
theorem and63 (n : Int) : bits .and .u64 (IntKind.u64.wrap n) 63 = n % 64 := by
  have e : (63 : Int) = 2 ^ 6 - 1 := by decide
  rw [e, bits_mask .u64 64 (by decide) (fun m a b => by rw [IntKind.wrap_u64]; omega) 6 (by decide) _ (by rw [IntKind.wrap_u64]; omega) (by rw [IntKind.wrap_u64]; omega), IntKind.wrap_u64]
  omega

/-- turned about by n places -/
def rot (x : BitVec 64) (n : Int) : BitVec 64 := x.rotateLeft (n % 64).toNat

theorem rot_bit (x : BitVec 64) (n : Int) (i : Nat) (hi : i < 64) : (rot x n).getLsbD i = x.getLsbD ((i + 64 - (n % 64).toNat) % 64) := by
  unfold rot
  rw [BitVec.getLsbD_rotateLeft]
  have hk : (n % 64).toNat < 64 := by omega
  rw [Nat.mod_eq_of_lt hk]
  by_cases h : i < (n % 64).toNat
  · simp only [h, decide_true, cond_true]
    rw [Nat.mod_eq_of_lt (by omega)]
    congr 1; omega
  · simp only [h, decide_false, cond_false, hi, decide_true, Bool.true_and]
    congr 1; omega

theorem rot_two (x : BitVec 64) (a b : Int) : rot (rot x a) b = rot x (a + b) := by
  apply BitVec.eq_of_getLsbD_eq
  intro i hi
  rw [rot_bit _ _ _ hi, rot_bit _ _ _ (by omega), rot_bit _ _ _ hi]
  congr 1
  omega
theorem rot_nought (x : BitVec 64) (n : Int) (h : n % 64 = 0) : rot x n = x := by
  apply BitVec.eq_of_getLsbD_eq
  intro i hi
  rw [rot_bit _ _ _ hi]
  congr 1
  omega
theorem rot_inj (x y : BitVec 64) (n : Int) (h : rot x n = rot y n) : x = y := by
  have := congrArg (fun z => rot z (-n)) h
  simp only [rot_two] at this
  rwa [rot_nought _ _ (by omega), rot_nought _ _ (by omega)] at this
theorem rot_or (x : BitVec 64) (k : Nat) (hk : k < 64) : x <<< k ||| x >>> (64 - k) = x.rotateLeft k := by
  rw [BitVec.rotateLeft_def, Nat.mod_eq_of_lt hk]


def tn (v n : Int) : Int := up (rot (dn v) n)
theorem tn_lo (v n : Int) : 0 ≤ tn v n := up_lo _
theorem tn_hi (v n : Int) : tn v n < 18446744073709551616 := up_hi _
theorem tn_tn (v a b : Int) : tn (tn v a) b = tn v (a + b) := by unfold tn; rw [dn_up, rot_two]
theorem tn_nought (v n : Int) (h0 : 0 ≤ v) (h1 : v < 18446744073709551616) (h : n % 64 = 0) : tn v n = v := by
  unfold tn; rw [rot_nought _ _ h, up_dn v h0 h1]

/-- the lowest c bits of x as a number with a sign -/
def sgB (x : BitVec 64) (k : Nat) : BitVec 64 := (x <<< k).sshiftRight k
def ct (n : Int) : Int := if n < 1 then 1 else if 64 < n then 64 else n
theorem ct_lo (n : Int) : 1 ≤ ct n := by unfold ct; split <;> (try split) <;> omega
theorem ct_hi (n : Int) : ct n ≤ 64 := by unfold ct; split <;> (try split) <;> omega
def sg (v n : Int) : Int := (sgB (dn v) (64 - (ct n).toNat)).toInt
theorem wrap_i64_toInt (v : Int) : IntKind.i64.wrap v = (dn v).toInt := by
  unfold dn; rw [BitVec.toInt_ofInt, IntKind.wrap_i64, Int.bmod_def]; omega
theorem sg_run (x : BitVec 64) (k : Nat) (hk : k ≤ 64) : IntKind.i64.wrap (IntKind.u64.wrap (up x * 2 ^ k)) / 2 ^ k = (sgB x k).toInt := by
  have h := shl_up x k hk
  rw [Nat.min_eq_left hk] at h
  rw [h, wrap_i64_toInt, dn_up]
  unfold sgB
  rw [BitVec.toInt_sshiftRight, Int.shiftRight_eq_div_pow]
  rfl
theorem sg_val (v : Int) (c : Int) (h1 : 1 ≤ c) (h2 : c ≤ 64) (hlo : -2 ^ (c - 1).toNat ≤ v) (hhi : v < 2 ^ (c - 1).toNat) : sg v c = v := by
  have hc : ct c = c := by unfold ct; rw [if_neg (by omega), if_neg (by omega)]
  unfold sg
  rw [hc]
  obtain ⟨d, hd⟩ : ∃ d : Nat, c = (d : Int) + 1 := ⟨(c - 1).toNat, by omega⟩
  have e1 : (c - 1).toNat = d := by omega
  have e2 : 64 - c.toNat = 63 - d := by omega
  rw [e1] at hlo hhi
  rw [e2]
  unfold sgB dn
  rw [BitVec.toInt_sshiftRight, Int.shiftRight_eq_div_pow, BitVec.shiftLeft_eq_mul_twoPow]
  have e3 : BitVec.twoPow 64 (63 - d) = BitVec.ofInt 64 (2 ^ (63 - d)) := by
    apply BitVec.eq_of_toNat_eq
    rw [BitVec.toNat_twoPow, BitVec.toNat_ofInt]
    have : ((2 : Int) ^ (63 - d)) = ((2 ^ (63 - d) : Nat) : Int) := by simp
    rw [this]; omega
  rw [e3, ← BitVec.ofInt_mul, BitVec.toInt_ofInt]
  have hp : (0 : Int) < 2 ^ (63 - d) := Int.pow_pos (by decide)
  have hpp : (2 : Int) ^ d * 2 ^ (63 - d) = 9223372036854775808 := by
    rw [← Int.pow_add, show d + (63 - d) = 63 by omega]; decide
  have hA : v * 2 ^ (63 - d) < 9223372036854775808 := by rw [← hpp]; exact Int.mul_lt_mul_of_pos_right hhi hp
  have hB : -9223372036854775808 ≤ v * 2 ^ (63 - d) := by
    rw [← hpp, ← Int.neg_mul]; exact Int.mul_le_mul_of_nonneg_right hlo (Int.le_of_lt hp)
  have hm : (v * 2 ^ (63 - d)).bmod (2 ^ 64) = v * 2 ^ (63 - d) := by
    generalize v * 2 ^ (63 - d) = t at hA hB
    rw [Int.bmod_def]; omega
  rw [hm]
  have : ((2 ^ (63 - d) : Nat) : Int) = 2 ^ (63 - d) := by simp
  rw [this]
  exact Int.mul_ediv_cancel _ (by omega)

def mixC : BitVec 64 := 11400714819323198485#64
def mxB (x y : BitVec 64) : BitVec 64 := rot ((x ^^^ y) * mixC ^^^ ((x ^^^ y) * mixC) >>> 29) 31
def mx (h v : Int) : Int := up (mxB (dn h) (dn v))
theorem mul_up (x : BitVec 64) : IntKind.u64.wrap (up x * 11400714819323198485) = up (x * mixC) := by
  rw [IntKind.wrap_u64]; unfold up; rw [BitVec.toNat_mul]
  have : mixC.toNat = 11400714819323198485 := by decide
  rw [this]; omega
theorem mxB_comm (x y : BitVec 64) : mxB x y = mxB y x := by unfold mxB; rw [BitVec.xor_comm x y]
theorem xorc : ∀ a b c : Bool, (a ^^ c) = (b ^^ c) → a = b := by decide
theorem xs_inj (x y : BitVec 64) (h : x ^^^ x >>> 29 = y ^^^ y >>> 29) : x = y := by
  have e : ∀ i, i < 64 → x.getLsbD (63 - i) = y.getLsbD (63 - i) := by
    intro i
    induction i using Nat.strongRecOn with
    | _ i ih =>
      intro hi
      have hb := congrArg (fun z => z.getLsbD (63 - i)) h
      simp only [BitVec.getLsbD_xor, BitVec.getLsbD_ushiftRight] at hb
      by_cases hh : i < 29
      · rw [BitVec.getLsbD_of_ge x (29 + (63 - i)) (by omega), BitVec.getLsbD_of_ge y (29 + (63 - i)) (by omega)] at hb
        simpa using hb
      · have := ih (i - 29) (by omega) (by omega)
        rw [show 63 - (i - 29) = 29 + (63 - i) by omega] at this
        rw [this] at hb
        exact xorc _ _ _ hb
  apply BitVec.eq_of_getLsbD_eq
  intro i hi
  have := e (63 - i) (by omega)
  rwa [show 63 - (63 - i) = i by omega] at this
theorem mxB_inj (h x y : BitVec 64) (he : mxB h x = mxB h y) : x = y := by
  unfold mxB at he
  have h1 := xs_inj _ _ (rot_inj _ _ _ he)
  have h2 := congrArg (fun z => z * 17428512612931826493#64) h1
  simp only [BitVec.mul_assoc] at h2
  have h3 : mixC * 17428512612931826493#64 = 1#64 := by decide
  rw [h3, BitVec.mul_one, BitVec.mul_one] at h2
  have h4 := congrArg (fun z => h ^^^ z) h2
  simpa [← BitVec.xor_assoc] using h4
theorem place_pos (v n : Int) (h : 0 ≤ v.tmod n) : v.tmod n = v % n := by
  rw [Int.tmod_eq_emod] at *
  split at h <;> rename_i hc
  · rw [if_pos hc]; omega
  · rw [if_neg hc]
    by_cases hn : n = 0
    · subst hn; simp at *
    · have := Int.emod_lt v hn
      omega
theorem place_neg (v n : Int) (h0 : 0 < n) (h : v.tmod n < 0) : v.tmod n + n = v % n := by
  rw [Int.tmod_eq_emod] at *
  split at h <;> rename_i hc
  · have := Int.emod_nonneg v (show n ≠ 0 by omega); omega
  · rw [if_neg hc]; omega
theorem shr29 (x : BitVec 64) : up x / (536870912 : Int) = up (x >>> 29) := by
  have h := shr_up x 29 (by omega)
  rwa [show (2 : Int) ^ min 29 64 = 536870912 by decide] at h
/-- a number that a uint64 holds -/
structure IsU (v : Int) : Prop where
  lo : 0 ≤ v
  hi : v < 18446744073709551616
theorem tn_u (v n : Int) : IsU (tn v n) := ⟨tn_lo v n, tn_hi v n⟩
theorem up_u (x : BitVec 64) : IsU (up x) := ⟨up_lo x, up_hi x⟩
theorem mx_u (h v : Int) : IsU (mx h v) := up_u _

/-- eight bytes as one number, the lowest first -/
def sum8 (b0 b1 b2 b3 b4 b5 b6 b7 : Int) : Int := b0 + b1 * 256 + b2 * 65536 + b3 * 16777216 + b4 * 4294967296 + b5 * 1099511627776 + b6 * 281474976710656 + b7 * 72057594037927936
theorem or_comm (a b : Int) : bits .or .u64 a b = bits .or .u64 b a := by
  show IntKind.u64.wrap ((dn a ||| dn b).toNat : Int) = IntKind.u64.wrap ((dn b ||| dn a).toNat : Int)
  rw [BitVec.or_comm]
theorem or_low (i : Nat) (p x y : Int) (hp : p = 2 ^ i) (hp1 : p ≤ 72057594037927936) (hx0 : 0 ≤ x) (hx : x < p) (hy0 : 0 ≤ y) (hy : y * p < 18446744073709551616) : bits .or .u64 x (y * p) = x + y * p := by
  have hp0 : 0 < p := by rw [hp]; exact Int.pow_pos (by decide)
  have h1 : 0 ≤ y * p := Int.mul_nonneg hy0 (Int.le_of_lt hp0)
  rw [or_comm, bits_join .u64 64 (by decide) (fun m a b => by rw [IntKind.wrap_u64]; omega) i (y * p) x h1 (by rw [hp]; exact Int.mul_emod_left _ _) (by omega) hx0 (by omega) (by omega)]
  omega
theorem or_chain (b0 b1 b2 b3 b4 b5 b6 b7 : Int) (l0 : 0 ≤ b0 ∧ b0 < 256) (l1 : 0 ≤ b1 ∧ b1 < 256) (l2 : 0 ≤ b2 ∧ b2 < 256) (l3 : 0 ≤ b3 ∧ b3 < 256) (l4 : 0 ≤ b4 ∧ b4 < 256) (l5 : 0 ≤ b5 ∧ b5 < 256) (l6 : 0 ≤ b6 ∧ b6 < 256) (l7 : 0 ≤ b7 ∧ b7 < 256) :
    bits .or .u64 (bits .or .u64 (bits .or .u64 (bits .or .u64 (bits .or .u64 (bits .or .u64 (bits .or .u64 (bits .or .u64 0 b0) (b1 * 256)) (b2 * 65536)) (b3 * 16777216)) (b4 * 4294967296)) (b5 * 1099511627776)) (b6 * 281474976710656)) (b7 * 72057594037927936) = sum8 b0 b1 b2 b3 b4 b5 b6 b7 := by
  have e0 : bits .or .u64 0 b0 = b0 := by
    have h := or_low 0 1 0 b0 (by decide) (by decide) (by decide) (by decide) (by omega) (by omega)
    rw [Int.mul_one] at h; omega
  rw [e0, or_low 8 256 _ b1 (by decide) (by decide) (by omega) (by omega) (by omega) (by omega),
    or_low 16 65536 _ b2 (by decide) (by decide) (by omega) (by omega) (by omega) (by omega),
    or_low 24 16777216 _ b3 (by decide) (by decide) (by omega) (by omega) (by omega) (by omega),
    or_low 32 4294967296 _ b4 (by decide) (by decide) (by omega) (by omega) (by omega) (by omega),
    or_low 40 1099511627776 _ b5 (by decide) (by decide) (by omega) (by omega) (by omega) (by omega),
    or_low 48 281474976710656 _ b6 (by decide) (by decide) (by omega) (by omega) (by omega) (by omega),
    or_low 56 72057594037927936 _ b7 (by decide) (by decide) (by omega) (by omega) (by omega) (by omega)]
  rfl
/-- a number is the sum of its eight bytes -/
theorem sum8_self (v : Int) (hu : IsU v) : sum8 (v % 256) (v / 256 % 256) (v / 65536 % 256) (v / 16777216 % 256) (v / 4294967296 % 256) (v / 1099511627776 % 256) (v / 281474976710656 % 256) (v / 72057594037927936) = v := by
  obtain ⟨h0, h1⟩ := hu
  unfold sum8; omega
def b1 (x : BitVec 64) (i : Nat) : BitVec 64 := if x.getLsbD i then 1#64 else 0#64
theorem b1_bit (x : BitVec 64) (i j : Nat) : (b1 x i).getLsbD j = (x.getLsbD i && decide (j = 0)) := by
  unfold b1
  cases x.getLsbD i
  · simp
  · simp only [if_true, BitVec.getLsbD_one, Bool.true_and]; simp
theorem and_b1 (x : BitVec 64) (i : Nat) (hi : i ≤ 64) : bits .and .u64 (up x / 2 ^ i) 1 = up (b1 x i) := by
  have h := shr_up x i hi
  rw [Nat.min_eq_left hi] at h
  have e : (1 : Int) = up 1#64 := by decide
  rw [h, e, bits_and]
  congr 1
  apply BitVec.eq_of_getLsbD_eq
  intro j hj
  rw [BitVec.getLsbD_and, BitVec.getLsbD_ushiftRight, BitVec.getLsbD_one, b1_bit]
  by_cases hz : j = 0
  · subst hz; simp only [Nat.add_zero]; simp
  · simp [hz]
/-- bits picked one by one and laid anew -/
def acc (x : BitVec 64) (f g : Nat → Nat) : Nat → BitVec 64
  | 0 => 0#64
  | j + 1 => acc x f g j ||| b1 x (f j) <<< g j
theorem acc_bit (x : BitVec 64) (f g : Nat → Nat) (m : Nat) (hm : m < 64) : ∀ j, ((acc x f g j).getLsbD m = true ↔ ∃ i, i < j ∧ g i = m ∧ x.getLsbD (f i) = true)
  | 0 => by simp [acc]
  | j + 1 => by
    have ih := acc_bit x f g m hm j
    unfold acc
    rw [BitVec.getLsbD_or, Bool.or_eq_true, ih, BitVec.getLsbD_shiftLeft, b1_bit]
    constructor
    · rintro (⟨i, hi, e, hx⟩ | h)
      · exact ⟨i, by omega, e, hx⟩
      · simp only [Bool.and_eq_true, decide_eq_true_eq, Bool.not_eq_true', decide_eq_false_iff_not] at h
        obtain ⟨⟨_, h1⟩, h2, h3⟩ := h
        exact ⟨j, by omega, by omega, h2⟩
    · rintro ⟨i, hi, e, hx⟩
      by_cases hij : i = j
      · right
        subst hij
        simp only [Bool.and_eq_true, decide_eq_true_eq, Bool.not_eq_true', decide_eq_false_iff_not]
        exact ⟨⟨hm, by omega⟩, hx, by omega⟩
      · left; exact ⟨i, by omega, e, hx⟩
theorem acc_turn (x : BitVec 64) (n : Int) : acc x (fun i => i) (fun i => (i + (n % 64).toNat) % 64) 64 = rot x n := by
  apply BitVec.eq_of_getLsbD_eq
  intro m hm
  rw [Bool.eq_iff_iff, acc_bit _ _ _ _ hm, rot_bit _ _ _ hm]
  constructor
  · rintro ⟨i, hi, e, hx⟩
    rwa [show (m + 64 - (n % 64).toNat) % 64 = i by omega]
  · intro hx
    exact ⟨(m + 64 - (n % 64).toNat) % 64, by omega, by omega, hx⟩
theorem acc_run (x : BitVec 64) (f g : Nat → Nat) (j : Nat) (hg : g j ≤ 64) : bits .or .u64 (up (acc x f g j)) (IntKind.u64.wrap (up (b1 x (f j)) * 2 ^ g j)) = up (acc x f g (j + 1)) := by
  have h := shl_up (b1 x (f j)) (g j) hg
  rw [Nat.min_eq_left hg] at h
  rw [h, bits_or]; rfl
theorem acc_run' (x : BitVec 64) (f g : Nat → Nat) (j i : Nat) (hi : f j = i) (hg : g j ≤ 64) : bits .or .u64 (up (acc x f g j)) (IntKind.u64.wrap (up (b1 x i) * 2 ^ g j)) = up (acc x f g (j + 1)) := by
  subst hi; exact acc_run x f g j hg
end Go.Proofs.Ytkojhgagkoeeiaa.Bt
end

/- Numbers of texts and trees, in plain terms. -/
section
set_option linter.unusedVariables false
set_option linter.unusedSimpArgs false
namespace Go.Proofs.Ytkojhgagkoeeiaa.M
open Go.Deep
open Bt (mx sum8 IsU mx_u)

/-- a byte of a text, nought behind its end -/
def bt (l : List UInt8) (i : Nat) : Int := match l[i]? with | some b => (b.toNat : Int) | none => 0
theorem bt_b (l : List UInt8) (i : Nat) : 0 ≤ bt l i ∧ bt l i < 256 := by
  unfold bt
  split
  · rename_i b _
    have := b.toNat_lt
    omega
  · omega
def oct (l : List UInt8) : Int := sum8 (bt l 0) (bt l 1) (bt l 2) (bt l 3) (bt l 4) (bt l 5) (bt l 6) (bt l 7)
theorem oct_u (l : List UInt8) : IsU (oct l) := by
  have h0 := bt_b l 0
  have h1 := bt_b l 1
  have h2 := bt_b l 2
  have h3 := bt_b l 3
  have h4 := bt_b l 4
  have h5 := bt_b l 5
  have h6 := bt_b l 6
  have h7 := bt_b l 7
  constructor <;> (unfold oct sum8; omega)
/-- a text's number, so far -/
def txF : Nat → Int → List UInt8 → Int
  | 0, h, _ => h
  | n + 1, h, l => if l.length = 0 then h else txF n (mx h (oct l)) (l.drop 8)
theorem txF_nil (n : Nat) (h : Int) : txF n h [] = h := by cases n <;> simp [txF]
theorem txF_more : ∀ (n m : Nat) (h : Int) (l : List UInt8), l.length ≤ n → l.length ≤ m → txF n h l = txF m h l
  | n, m, h, [], _, _ => by rw [txF_nil, txF_nil]
  | 0, _, _, _ :: _, hn, _ => by simp at hn
  | _ + 1, 0, _, _ :: _, _, hm => by simp at hm
  | n + 1, m + 1, h, b :: l, hn, hm => by
    simp only [List.length_cons] at hn hm
    rw [txF, txF, if_neg (by simp), if_neg (by simp)]
    exact txF_more n m _ _ (by simp; omega) (by simp; omega)
def txG (h : Int) (l : List UInt8) : Int := txF l.length h l
theorem txG_nil (h : Int) : txG h [] = h := txF_nil _ _
theorem txG_step (h : Int) (l : List UInt8) (hl : 0 < l.length) : txG (mx h (oct l)) (l.drop 8) = txG h l := by
  unfold txG
  cases l with
  | nil => cases hl
  | cons b l =>
    rw [show (b :: l).length = l.length + 1 from rfl, txF, if_neg (by simp)]
    exact txF_more _ _ _ _ (Nat.le_refl _) (by simp)
def tx (s : ByteArray) : Int := txG (IntKind.u64.wrap s.size) s.data.toList
theorem wrap_u (z : Int) : IsU (IntKind.u64.wrap z) := by constructor <;> (rw [IntKind.wrap_u64]; omega)
theorem txF_u : ∀ (n : Nat) (h : Int) (l : List UInt8), IsU h → IsU (txF n h l)
  | 0, h, _, hu => hu
  | n + 1, h, l, hu => by
    rw [txF]
    split
    · exact hu
    · exact txF_u n _ _ (mx_u _ _)

theorem tx_u (s : ByteArray) : IsU (tx s) := txF_u _ _ _ (wrap_u _)
/-- a node's number as far as its kids are not in it -/
def alA (h : Int) : List (ByteArray × ByteArray) → Int
  | [] => h
  | a :: r => alA (mx (mx h (tx a.1)) (tx a.2)) r
def al (d : Nd) : Int := alA (mx (mx (mx (IntKind.u64.wrap d.k) (tx d.n)) (tx d.x)) d.ats.length) d.ats
theorem alA_snoc (h : Int) (l : List (ByteArray × ByteArray)) (a : ByteArray × ByteArray) : alA h (l ++ [a]) = mx (mx (alA h l) (tx a.1)) (tx a.2) := by
  induction l generalizing h with
  | nil => rfl
  | cons x l ih => exact ih _
theorem alA_u : ∀ (l : List (ByteArray × ByteArray)) (h : Int), IsU h → IsU (alA h l)
  | [], _, hu => hu
  | _ :: r, _, _ => alA_u r _ (mx_u _ _)
theorem al_u (d : Nd) : IsU (al d) := alA_u _ _ (mx_u _ _)
/-- kids mixed in, one behind the other -/
def hK : Int → F → Int
  | h, .nil => h
  | h, .node _ _ d k r => hK (mx h (hK (mx (al d) k.len) k)) r
def hT (d : Nd) (k : F) : Int := hK (mx (al d) k.len) k
theorem hK_u : ∀ (f : F) (h : Int), IsU h → IsU (hK h f)
  | .nil, _, hu => hu
  | .node _ _ d k r, h, hu => hK_u r _ (mx_u _ _)
theorem hT_u (d : Nd) (k : F) : IsU (hT d k) := hK_u _ _ (mx_u _ _)
/-- of each node, by its number: before its kids, how many they are, and whole -/
def iniF : F → List Int
  | .nil => []
  | .node _ _ d k r => mx (al d) k.len :: (iniF k ++ iniF r)
def cntF : F → List Int
  | .nil => []
  | .node _ _ d k r => (k.len : Int) :: (cntF k ++ cntF r)
def finF : F → List Int
  | .nil => []
  | .node _ _ d k r => hT d k :: (finF k ++ finF r)
def finT (d : Nd) (k : F) : List Int := hT d k :: finF k
def cntT (k : F) : List Int := (k.len : Int) :: cntF k
def iniT (d : Nd) (k : F) : List Int := mx (al d) k.len :: iniF k
theorem cntF_len : ∀ f : F, (cntF f).length = f.size
  | .nil => rfl
  | .node _ _ d k r => by simp [cntF, BT.size, cntF_len k, cntF_len r]; omega
theorem finF_len : ∀ f : F, (finF f).length = f.size
  | .nil => rfl
  | .node _ _ d k r => by simp [finF, BT.size, finF_len k, finF_len r]; omega
theorem iniF_len : ∀ f : F, (iniF f).length = f.size
  | .nil => rfl
  | .node _ _ d k r => by simp [iniF, BT.size, iniF_len k, iniF_len r]; omega
theorem iniF_zip : ∀ (f : F) (p : Int) (dp pl id : Nat), iniF f = List.zipWith (fun (y : Im) c => mx (al y.d) c) (flatF p dp pl id f) (cntF f)
  | .nil, _, _, _, _ => rfl
  | .node _ _ d k r, p, dp, pl, id => by
    rw [iniF, flatF, cntF, List.zipWith_cons_cons, List.zipWith_append (by rw [flatF_len, cntF_len]), ← iniF_zip k, ← iniF_zip r]
theorem iniT_zip (d : Nd) (k : F) : iniT d k = List.zipWith (fun (y : Im) c => mx (al y.d) c) (flatT d k) (cntT k) := by
  rw [iniT, flatT, cntT, List.zipWith_cons_cons, ← iniF_zip]
theorem iniF_u : ∀ (f : F), ∀ a ∈ iniF f, IsU a
  | .nil, _, h => by cases h
  | .node _ _ d k r, a, h => by
    rcases List.mem_cons.1 h with rfl | h
    · exact mx_u _ _
    · rcases List.mem_append.1 h with h | h
      · exact iniF_u k a h
      · exact iniF_u r a h
theorem iniT_u (d : Nd) (k : F) : ∀ a ∈ iniT d k, IsU a := fun a h => by
  rcases List.mem_cons.1 h with rfl | h
  · exact mx_u _ _
  · exact iniF_u k a h

theorem modi_left {α : Type} {L R : List α} {i : Nat} (h : i < L.length) (f : α → α) : (L ++ R).modify i f = L.modify i f ++ R := by
  apply List.ext_getElem?
  intro j
  rw [List.getElem?_modify, List.getElem?_append, List.getElem?_append, List.length_modify, List.getElem?_modify]
  by_cases hj : j < L.length
  · simp [hj]
  · simp [hj, show ¬ i = j by omega]
theorem modi_last {α : Type} (L : List α) (y : α) (f : α → α) : (L ++ [y]).modify L.length f = L ++ [f y] := by
  apply List.ext_getElem?
  intro j
  rw [List.getElem?_modify, List.getElem?_append, List.getElem?_append]
  by_cases hj : j < L.length
  · simp [hj, show ¬ L.length = j by omega]
  · by_cases h2 : L.length = j
    · subst h2; simp
    · simp [hj, h2]; rw [List.getElem?_eq_none (by simp; omega), List.getElem?_eq_none (by simp; omega)]
theorem modi_twice {α : Type} (L : List α) (i : Nat) (f g : α → α) : (L.modify i f).modify i g = L.modify i (fun a => g (f a)) := by
  apply List.ext_getElem?
  intro j
  rw [List.getElem?_modify, List.getElem?_modify, List.getElem?_modify]
  by_cases hj : i = j
  · subst hj; cases L[i]? <;> simp
  · simp [hj]

/-- a node mixed into its parent -/
def stepP (its : List Im) (A : List Int) (id : Nat) : List Int := match its[id]? with
  | none => A
  | some y => if y.p < 0 then A else A.modify y.p.toNat (fun a => mx a (A.getD id 0))
theorem stepP_len (its : List Im) (A : List Int) (id : Nat) : (stepP its A id).length = A.length := by
  unfold stepP
  split
  · rfl
  · split <;> simp
theorem post_run (its : List Im) : ∀ (f : F) (q dp pl id : Nat) (L R : List Int), L.length = id → q < id → (∀ i, i < f.size → its[id + i]? = (flatF q dp pl id f)[i]?) →
    (postF f id).foldl (stepP its) (L ++ (iniF f ++ R)) = L.modify q (fun a => hK a f) ++ (finF f ++ R)
  | .nil, q, dp, pl, id, L, R, hL, hq, hi => by
    simp only [postF, List.foldl_nil, iniF, finF, hK, List.nil_append]
    congr 1
    apply List.ext_getElem?
    intro j
    rw [List.getElem?_modify]
    by_cases h : q = j <;> simp [h]
  | .node xb xo d k r, q, dp, pl, id, L, R, hL, hq, hi => by
    have hz : (BT.node xb xo d k r).size = 1 + k.size + r.size := rfl
    rw [hz] at hi
    have hfl : flatF q dp pl id (.node xb xo d k r) = ⟨q, k.size + 1, dp, k.depth + 1, pl, d⟩ :: (flatF id (dp + 1) 0 (id + 1) k ++ flatF q dp (pl + 1) (id + 1 + k.size) r) := rfl
    rw [hfl] at hi
    rw [postF, List.foldl_append, List.foldl_cons, iniF, finF]
    have e1 : L ++ ((mx (al d) k.len :: (iniF k ++ iniF r)) ++ R) = (L ++ [mx (al d) k.len]) ++ (iniF k ++ (iniF r ++ R)) := by simp
    have ih1 := post_run its k id (dp + 1) 0 (id + 1) (L ++ [mx (al d) k.len]) (iniF r ++ R) (by simp [hL]) (by omega) (fun i h => by
      have := hi (i + 1) (by omega)
      rw [List.getElem?_cons_succ, List.getElem?_append_left (by rw [flatF_len]; exact h)] at this
      rw [show id + 1 + i = id + (i + 1) by omega]
      exact this)
    rw [e1, ih1]
    have e2 : (L ++ [mx (al d) k.len]).modify id (fun a => hK a k) = L ++ [hT d k] := by rw [← hL]; exact modi_last _ _ _
    rw [e2]
    have hy := hi 0 (by omega)
    rw [Nat.add_zero, List.getElem?_cons_zero] at hy
    have e3 : stepP its ((L ++ [hT d k]) ++ (finF k ++ (iniF r ++ R))) id = (L.modify q (fun a => mx a (hT d k)) ++ ([hT d k] ++ finF k)) ++ (iniF r ++ R) := by
      unfold stepP
      rw [hy]
      dsimp only
      rw [if_neg (by omega), Int.toNat_natCast]
      have : ((L ++ [hT d k]) ++ (finF k ++ (iniF r ++ R))).getD id 0 = hT d k := by
        rw [List.getD, List.append_assoc, List.getElem?_append_right (by omega), hL]
        simp
      rw [this, List.append_assoc, modi_left (by omega)]
      simp
    rw [e3]
    have hr := finF_len k
    have ih2 := post_run its r q dp (pl + 1) (id + 1 + k.size) (L.modify q (fun a => mx a (hT d k)) ++ ([hT d k] ++ finF k)) R (by simp [hL, hr]; omega) (by omega) (fun i h => by
      have := hi (1 + k.size + i) (by omega)
      rw [show 1 + k.size + i = (k.size + i) + 1 by omega, List.getElem?_cons_succ, List.getElem?_append_right (by rw [flatF_len]; omega), flatF_len, show k.size + i - k.size = i by omega] at this
      rw [show id + 1 + k.size + i = id + (k.size + i + 1) by omega]
      exact this)
    rw [ih2, modi_left (by rw [List.length_modify, hL]; exact hq), modi_twice]
    simp [hK, hT]
theorem post_all (d : Nd) (k : F) : (postF k 1 ++ [0]).foldl (stepP (flatT d k)) (iniT d k) = finT d k := by
  rw [List.foldl_append, List.foldl_cons, List.foldl_nil]
  have h := post_run (flatT d k) k 0 1 0 1 [mx (al d) k.len] [] rfl (by omega) (fun i h => by rw [flatT, Nat.add_comm, List.getElem?_cons_succ]; rfl)
  simp only [List.append_nil] at h
  have e : iniT d k = [mx (al d) k.len] ++ iniF k := rfl
  rw [e, h]
  have e2 : [mx (al d) k.len].modify 0 (fun a => hK a k) = [hT d k] := rfl
  rw [e2]
  unfold stepP
  rw [flatT, List.getElem?_cons_zero]
  dsimp only
  rw [if_pos (by omega)]
  rfl

/-- a kid counted in its parent -/
def stepC (C : List Int) (y : Im) : List Int := if y.p < 0 then C else C.modify y.p.toNat (fun a => a + 1)
theorem stepC_len (C : List Int) (y : Im) : (stepC C y).length = C.length := by unfold stepC; split <;> simp
theorem cnt_run : ∀ (f : F) (q dp pl id : Nat) (L R : List Int), L.length = id → q < id →
    (flatF q dp pl id f).foldl stepC (L ++ (List.replicate f.size 0 ++ R)) = L.modify q (fun a => a + f.len) ++ (cntF f ++ R)
  | .nil, q, dp, pl, id, L, R, hL, hq => by
    simp only [flatF, List.foldl_nil, BT.size, List.replicate_zero, cntF, BT.len, List.nil_append]
    congr 1
    apply List.ext_getElem?
    intro j
    rw [List.getElem?_modify]
    by_cases h : q = j <;> simp [h]
  | .node xb xo d k r, q, dp, pl, id, L, R, hL, hq => by
    have hz : (BT.node xb xo d k r).size = 1 + k.size + r.size := rfl
    have hl : (BT.node xb xo d k r).len = r.len + 1 := rfl
    rw [hz, hl]
    have hfl : flatF q dp pl id (.node xb xo d k r) = ⟨q, k.size + 1, dp, k.depth + 1, pl, d⟩ :: (flatF id (dp + 1) 0 (id + 1) k ++ flatF q dp (pl + 1) (id + 1 + k.size) r) := rfl
    rw [hfl, List.foldl_cons, List.foldl_append, cntF]
    have e0 : stepC (L ++ (List.replicate (1 + k.size + r.size) 0 ++ R)) ⟨q, k.size + 1, dp, k.depth + 1, pl, d⟩ = (L.modify q (fun a => a + 1) ++ [0]) ++ (List.replicate k.size 0 ++ (List.replicate r.size 0 ++ R)) := by
      unfold stepC
      dsimp only
      rw [if_neg (by omega), Int.toNat_natCast, modi_left (by omega), show 1 + k.size + r.size = 1 + (k.size + r.size) by omega, ← List.replicate_append_replicate]
      simp
      rw [← List.append_assoc, List.replicate_append_replicate]
    have hm : (L.modify q (fun a => a + 1)).length = id := by simp [hL]
    rw [e0, cnt_run k id (dp + 1) 0 (id + 1) (L.modify q (fun a => a + 1) ++ [0]) (List.replicate r.size 0 ++ R) (by simp [hL]) (by omega)]
    have e2 : (L.modify q (fun a => a + 1) ++ [(0 : Int)]).modify id (fun a => a + k.len) = L.modify q (fun a => a + 1) ++ [(k.len : Int)] := by
      rw [← hm, modi_last]; simp
    rw [e2]
    have e3 : (L.modify q (fun a => a + 1) ++ [(k.len : Int)]) ++ (cntF k ++ (List.replicate r.size 0 ++ R)) = (L.modify q (fun a => a + 1) ++ ([(k.len : Int)] ++ cntF k)) ++ (List.replicate r.size 0 ++ R) := by simp
    have hc := cntF_len k
    rw [e3, cnt_run r q dp (pl + 1) (id + 1 + k.size) (L.modify q (fun a => a + 1) ++ ([(k.len : Int)] ++ cntF k)) R (by simp [hL, hc]; omega) (by omega), modi_left (by rw [hm]; exact hq), modi_twice]
    have e4 : (fun a : Int => a + 1 + (r.len : Int)) = (fun a : Int => a + ((r.len + 1 : Nat) : Int)) := by funext a; omega
    rw [e4]
    simp
theorem cnt_all (d : Nd) (k : F) : (flatT d k).foldl stepC (List.replicate (k.size + 1) 0) = cntT k := by
  rw [flatT, List.foldl_cons]
  have e : stepC (List.replicate (k.size + 1) 0) ⟨-1, k.size + 1, 0, k.depth + 1, 0, d⟩ = [(0 : Int)] ++ (List.replicate k.size 0 ++ []) := by
    unfold stepC
    dsimp only
    rw [if_pos (by omega), List.replicate_succ]
    simp
  rw [e]
  have h := cnt_run k 0 1 0 1 [(0 : Int)] [] rfl (by omega)
  rw [show ((0 : Nat) : Int) = 0 from rfl] at h
  rw [h]
  simp [cntT]
/-- a count is at most so many as were met -/
theorem stepC_le {C : List Int} {y : Im} {n : Int} (h : ∀ a ∈ C, 0 ≤ a ∧ a ≤ n) : ∀ a ∈ stepC C y, 0 ≤ a ∧ a ≤ n + 1 := by
  intro a ha
  unfold stepC at ha
  split at ha
  · have := h a ha; omega
  · rw [List.mem_iff_getElem?] at ha
    obtain ⟨i, hi⟩ := ha
    rw [List.getElem?_modify] at hi
    cases hc : C[i]? with
    | none => rw [hc] at hi; simp at hi
    | some c =>
      rw [hc] at hi
      have := h c (List.mem_of_getElem? hc)
      simp at hi
      split at hi <;> omega
end Go.Proofs.Ytkojhgagkoeeiaa.M
end

/- Turn, Mix, Of of eight bytes, and the document's own Turn and Mix: for numbers within their kinds each call returns that number. -/
section
set_option linter.unusedVariables false
namespace Go.Proofs.Ytkojhgagkoeeiaa.Bt
open Go.ChangeShapes Go.WideShapes Go.ChangeAt Go.RowKit
theorem ret_int {k : IntKind} {a b : Int} (h : a = b) : Ending.returned (.int k a) = .returned (.int k b) := by rw [h]
set_option maxHeartbeats 400000 in
theorem turn_any (v n : Int) (w : World) (hu : IsU v) :
    Calls Try.prog 81 #[.int .u64 v, .int .i64 n] w fun e w' => e = .returned (.int .u64 (tn v n)) ∧ w' = w := by
  obtain ⟨x, hx, HD⟩ : ∃ x : BitVec 64, up x = v ∧ Hid (dn v = x) := ⟨dn v, up_dn v hu.lo hu.hi, rfl⟩
  subst hx
  obtain ⟨k, hk, hr, hl⟩ : ∃ k : Nat, bits .and .u64 (IntKind.u64.wrap n) 63 = (k : Int) ∧ Hid (rot x n = x.rotateLeft k) ∧ k < 64 := ⟨(n % 64).toNat, by rw [and63]; omega, rfl, by omega⟩
  have hs : IntKind.u64.wrap (64 - (k : Int)) = ((64 - k : Nat) : Int) := by rw [IntKind.wrap_u64]; omega
  have a1 := shl_up x k (by omega)
  have a2 := shr_up x (64 - k) (by omega)
  rw [Nat.min_eq_left (by omega)] at a1 a2
  have a3 := bits_or (x <<< k) (x >>> (64 - k))
  rw [rot_or x k hl] at a3
  go_enter Try.func81, Try.ntmps81
  go_wp2
  go_ret
  exact ⟨ret_int (by unfold tn; rw [HD.out, hr.out]), rfl⟩
theorem mix_any (h v : Int) (w : World) (hh : IsU h) (hu : IsU v) :
    Calls Try.prog 74 #[.int .u64 h, .int .u64 v] w fun e w' => e = .returned (.int .u64 (mx h v)) ∧ w' = w := by
  obtain ⟨x, hx, HX⟩ : ∃ x : BitVec 64, up x = h ∧ Hid (dn h = x) := ⟨dn h, up_dn h hh.lo hh.hi, rfl⟩
  obtain ⟨y, hy, HY⟩ : ∃ y : BitVec 64, up y = v ∧ Hid (dn v = y) := ⟨dn v, up_dn v hu.lo hu.hi, rfl⟩
  subst hx hy
  have a1 := bits_xor x y
  have a2 := mul_up (x ^^^ y)
  have a4 := bits_xor ((x ^^^ y) * mixC) (((x ^^^ y) * mixC) >>> 29)
  rw [← shr29] at a4
  go_enter Try.func74, Try.ntmps74
  go_wp2_with (go_at_call 81; refine (turn_any _ _ _ (up_u _)).mono ?_; rintro e w' ⟨rfl, rfl⟩)
  go_ret
  refine ⟨ret_int ?_, ?_⟩
  · unfold tn mx mxB; rw [dn_up, HX.out, HY.out]
  · rfl
/-- a number that a byte holds -/
structure IsB (b : Int) : Prop where
  lo : 0 ≤ b
  hi : b < 256
set_option maxHeartbeats 1000000 in
theorem of_any (b0 b1 b2 b3 b4 b5 b6 b7 r : Int) (w : World) (i0 : IsB b0) (i1 : IsB b1) (i2 : IsB b2) (i3 : IsB b3) (i4 : IsB b4) (i5 : IsB b5) (i6 : IsB b6) (i7 : IsB b7) (hr : sum8 b0 b1 b2 b3 b4 b5 b6 b7 = r) :
    Calls Try.prog 84 #[.agg #[.int .u8 b0, .int .u8 b1, .int .u8 b2, .int .u8 b3, .int .u8 b4, .int .u8 b5, .int .u8 b6, .int .u8 b7]] w fun e w' => e = .returned (.int .u64 r) ∧ Below w.heap.size w w' := by
  have l0 := And.intro i0.lo i0.hi
  have l1 := And.intro i1.lo i1.hi
  have l2 := And.intro i2.lo i2.hi
  have l3 := And.intro i3.lo i3.hi
  have l4 := And.intro i4.lo i4.hi
  have l5 := And.intro i5.lo i5.hi
  have l6 := And.intro i6.lo i6.hi
  have l7 := And.intro i7.lo i7.hi
  have HR : Hid (sum8 b0 b1 b2 b3 b4 b5 b6 b7 = r) := hr
  clear hr i0 i1 i2 i3 i4 i5 i6 i7
  go_enter Try.func84, Try.ntmps84
  go_wp2
  go_rounds 9
  go_ret
  exact ⟨ret_int (by rw [← HR.out]; exact or_chain b0 b1 b2 b3 b4 b5 b6 b7 l0 l1 l2 l3 l4 l5 l6 l7), (Below.refl _ _).alloc (Nat.le_refl _) _⟩
theorem val_int {k : IntKind} {a b : Int} (h : a = b) : Value.int k a = .int k b := by rw [h]
end Go.Proofs.Ytkojhgagkoeeiaa.Bt
end

/- Text: of any text the call returns its number, and makes new memory alone. -/
section
set_option linter.unusedVariables false
set_option linter.unusedSimpArgs false
namespace Go.Proofs.Ytkojhgagkoeeiaa
open Go.Deep (BT)
open Go.RowKit Go.Shelf M
open Bt (mx sum8 IsU mx_u ret_int)

/-- the eight cells behind a copy -/
abbrev octV (l : List UInt8) : Array Value := #[.int .u8 (bt l 0), .int .u8 (bt l 1), .int .u8 (bt l 2), .int .u8 (bt l 3), .int .u8 (bt l 4), .int .u8 (bt l 5), .int .u8 (bt l 6), .int .u8 (bt l 7)]
theorem oct_cells (l : List UInt8) : (Lib.byteCells (l.take 8) ++ (List.replicate 8 (Value.int .u8 0)).drop (min l.length 8)).toArray = octV l := by
  match l with
  | [] => rfl
  | [_] => rfl
  | [_, _] => rfl
  | [_, _, _] => rfl
  | [_, _, _, _] => rfl
  | [_, _, _, _, _] => rfl
  | [_, _, _, _, _, _] => rfl
  | [_, _, _, _, _, _, _] => rfl
  | a :: b :: c :: d :: e :: f :: g :: h :: r =>
    rw [show min (a :: b :: c :: d :: e :: f :: g :: h :: r).length 8 = 8 by simp]
    simp [Lib.byteCells, bt]
theorem copy8 (W : World) (g ty : Nat) (t : ByteArray) (hg : W.heap[g]? = some (.cells #[.int .u8 0, .int .u8 0, .int .u8 0, .int .u8 0, .int .u8 0, .int .u8 0, .int .u8 0, .int .u8 0] 127 (0, 0))) :
    (Builtin.copy_ #[128, 9] ty #[.slice (some ⟨g, 0, none⟩) 8 8, .string t]).run Try.prog W = .ok (.int .i64 ((min t.size 8 : Nat) : Int)) (W.setRow g (octV t.data.toList)) := by
  have hz : t.data.toList.length = t.size := by rw [Lib.size_eq]
  have htk : List.take (Nat.min t.size 8) (List.map (fun b : UInt8 => Value.int IntKind.u8 (b.toNat : Int)) t.data.toList) = Lib.byteCells (t.data.toList.take 8) := by
    rw [← List.map_take]
    unfold Lib.byteCells
    congr 1
    by_cases h : t.size ≤ 8
    · rw [show Nat.min t.size 8 = t.size from Nat.min_eq_left h, List.take_of_length_le (by omega), List.take_of_length_le (by omega)]
    · rw [show Nat.min t.size 8 = 8 from Nat.min_eq_right (by omega)]
  have hl : (Lib.byteCells (t.data.toList.take 8)).length = min t.size 8 := by
    rw [Lib.byteCells_length, List.length_take, hz, Nat.min_comm]
  have hst := run_storeCells_at Try.prog g 0 127 (Lib.byteCells (t.data.toList.take 8)) 0 #[.int .u8 0, .int .u8 0, .int .u8 0, .int .u8 0, .int .u8 0, .int .u8 0, .int .u8 0, .int .u8 0] W hg (by rw [hl]; simp; omega) (Lib.byteCells_one _)
  simp only [Nat.add_zero] at hst
  have hq : (Try.prog.info? 5).map (·.size) = some 1 := by kernel_rfl
  cases hi : Try.prog.info? 5 with
  | none => rw [hi] at hq; cases hq
  | some i =>
    rw [hi] at hq
    simp at hq
    simp [Builtin.copy_, run_underlying (show Try.prog.underlying 128 = some (.slice 5) from Try.underlying128), Builtin.lenOf, Builtin.firstCells, sizeOf, typeInfo, hi, hq]
    rw [htk, hst]
    simp [Result.andThen]
    exact ⟨rfl, by rw [hl, ← hz, ← oct_cells]; rfl⟩

theorem oct_call (l : List UInt8) (w : World) : Calls Try.prog 84 #[.agg (octV l)] w fun e w' => e = .returned (.int .u64 (oct l)) ∧ Below w.heap.size w w' :=
  Bt.of_any _ _ _ _ _ _ _ _ _ w ⟨(bt_b l 0).1, (bt_b l 0).2⟩ ⟨(bt_b l 1).1, (bt_b l 1).2⟩ ⟨(bt_b l 2).1, (bt_b l 2).2⟩ ⟨(bt_b l 3).1, (bt_b l 3).2⟩ ⟨(bt_b l 4).1, (bt_b l 4).2⟩ ⟨(bt_b l 5).1, (bt_b l 5).2⟩ ⟨(bt_b l 6).1, (bt_b l 6).2⟩ ⟨(bt_b l 7).1, (bt_b l 7).2⟩ rfl
structure Tx (s t : ByteArray) (h : Int) : Prop where
  u : IsU h
  e : txG h t.data.toList = tx s
  z : t.size ≤ s.size
theorem Tx.step {s t : ByteArray} {h : Int} (H : Tx s t h) (h0 : 0 < t.size) : Tx s (t.extract (min t.size 8) t.size) (mx h (oct t.data.toList)) := by
  have hd : (t.extract (min t.size 8) t.size).data.toList = t.data.toList.drop 8 := by
    have := Lib.extract_toList t (min t.size 8) t.size
    rw [← Lib.toList_data, this, List.take_of_length_le (by rw [List.length_drop]; have := Lib.size_eq t; omega)]
    by_cases h8 : t.size ≤ 8
    · rw [List.drop_of_length_le (by have := Lib.size_eq t; omega), List.drop_of_length_le (by have := Lib.size_eq t; omega)]
    · rw [Nat.min_eq_right (by omega)]
  refine ⟨mx_u _ _, ?_, by rw [ByteArray.size_extract]; have := H.z; omega⟩
  rw [hd, txG_step _ _ (by have := Lib.size_eq t; omega)]
  exact H.e

set_option maxRecDepth 100000 in
set_option maxHeartbeats 4000000 in
theorem htext_any (s : ByteArray) (w : World) :
    Calls Try.prog 82 #[.string s] w fun e w' => e = .returned (.int .u64 (tx s)) ∧ Below w.heap.size w w' := by
  obtain ⟨U, hU⟩ : ∃ U, IntKind.u64.wrap (s.size : Int) = U := ⟨_, rfl⟩
  have hUU : IsU U := by rw [← hU]; exact wrap_u _
  have hTx : Fact (Tx s s U) := ⟨⟨hUU, by rw [← hU]; rfl, Nat.le_refl _⟩⟩
  clear hUU
  go_enter Try.func82, Try.ntmps82
  go_wp2
  go_loopg [0, 3] s.size (fun gf sv hv wr => ∃ (t : ByteArray) (h : Int), (sv = .string t ∧ hv = .int .u64 h) ∧ t.size ≤ gf ∧ Fact (Below w.heap.size w wr) ∧ Fact (Tx s t h))
  case atStart => exact ⟨s, U, ⟨rfl, rfl⟩, by omega, ⟨Below.refl _ _⟩, hTx⟩
  case round =>
    obtain ⟨t, h, ⟨rfl, rfl⟩, hfu, hBr, hT⟩ := hrel
    have hts := hT.out.z
    by_cases h0 : t.size = 0
    · have e0 : txG h t.data.toList = h := by
        have : t.data.toList = [] := List.eq_nil_of_length_eq_zero (by rw [← Lib.size_eq]; exact h0)
        rw [this]; exact txG_nil _
      have e1 := hT.out.e
      rw [e0] at e1
      have E1 := Fact.mk e1
      clear e0 e1
      go_wp2
      go_ret
      exact ⟨ret_int E1.out, hBr.out⟩
    · obtain ⟨g', rfl⟩ : ∃ g', gk = g' + 1 := ⟨gk - 1, by omega⟩
      obtain ⟨W1, hW1⟩ : ∃ W1, wr.alloc (.cells #[.int .u8 0, .int .u8 0, .int .u8 0, .int .u8 0, .int .u8 0, .int .u8 0, .int .u8 0, .int .u8 0] 127) = W1 := ⟨_, rfl⟩
      have hz1 : W1.heap.size = wr.heap.size + 1 := by rw [← hW1]; simp
      have hg1 : W1.heap[wr.heap.size]? = some (.cells #[.int .u8 0, .int .u8 0, .int .u8 0, .int .u8 0, .int .u8 0, .int .u8 0, .int .u8 0, .int .u8 0] 127 (0, 0)) := by rw [← hW1]; exact Array.getElem?_push_size
      have hB1 : Below w.heap.size w W1 := by rw [← hW1]; exact hBr.out.alloc hBr.out.size _
      obtain ⟨T, hT1⟩ : ∃ T, t.extract (min t.size 8) t.size = T := ⟨_, rfl⟩
      obtain ⟨m, hm⟩ : ∃ m, min t.size 8 = m := ⟨_, rfl⟩
      have hst := hT.out.step (by omega)
      rw [hT1] at hst
      have hcp := fun ty => copy8 W1 wr.heap.size ty t hg1
      rw [hm] at hcp hT1
      obtain ⟨W2, hW2⟩ : ∃ W2, W1.setRow wr.heap.size (octV t.data.toList) = W2 := ⟨_, rfl⟩
      rw [hW2] at hcp
      have hg2 : W2.heap[wr.heap.size]? = some (.cells (octV t.data.toList) 127 (0, 0)) := by rw [← hW2]; exact setRow_heap W1 _ _ _ _ _ hg1
      have hB2 : Below w.heap.size w W2 := by rw [← hW2]; exact below_setRow hB1 hBr.out.size _
      have c0 : W2.cell? ⟨wr.heap.size, 0, none⟩ = some (.int .u8 (bt t.data.toList 0)) := by simp [World.cell?, hg2]
      have c1 : W2.cell? ⟨wr.heap.size, 1, none⟩ = some (.int .u8 (bt t.data.toList 1)) := by simp [World.cell?, hg2]
      have c2 : W2.cell? ⟨wr.heap.size, 2, none⟩ = some (.int .u8 (bt t.data.toList 2)) := by simp [World.cell?, hg2]
      have c3 : W2.cell? ⟨wr.heap.size, 3, none⟩ = some (.int .u8 (bt t.data.toList 3)) := by simp [World.cell?, hg2]
      have c4 : W2.cell? ⟨wr.heap.size, 4, none⟩ = some (.int .u8 (bt t.data.toList 4)) := by simp [World.cell?, hg2]
      have c5 : W2.cell? ⟨wr.heap.size, 5, none⟩ = some (.int .u8 (bt t.data.toList 5)) := by simp [World.cell?, hg2]
      have c6 : W2.cell? ⟨wr.heap.size, 6, none⟩ = some (.int .u8 (bt t.data.toList 6)) := by simp [World.cell?, hg2]
      have c7 : W2.cell? ⟨wr.heap.size, 7, none⟩ = some (.int .u8 (bt t.data.toList 7)) := by simp [World.cell?, hg2]
      have hml : m ≤ t.size := by omega
      have hm0 : 0 < m := by omega
      have hTz : T.size + m = t.size := by rw [← hT1, ByteArray.size_extract]; omega
      have hsl : ∀ w, (Instr.slice 9 (.string t) (some (.int .i64 (m : Int))) none none).run Try.prog w = .ok (.string T) w := by
        intro w
        have h1 : (0 : Int) ≤ m := by omega
        have h2 : (m : Int) ≤ t.size := by omega
        go_simp
      have HT := Fact.mk hst
      have HTz := Fact.mk (show T.size ≤ g' by omega)
      have HB2 := Fact.mk hB2
      have h0t : 0 < t.size := by omega
      have hU := hT.out.u
      clear hst hT hfu hg1 hB1 hW2 hB2 hg2 hz1 hm hT1 hTz hml hm0 hts
      go_wp2_with (first
        | (at_builtin; refine Lib.wpList_copy_run _ rfl _ _ 128 9 rfl _ _ rfl rfl (hcp _) ?_)
        | (go_at_call 84; refine (oct_call t.data.toList _).mono ?_; rintro e w3 ⟨rfl, hb3⟩)
        | (go_at_call 74; refine (Bt.mix_any _ _ _ hU (oct_u _)).mono ?_; rintro e w4 ⟨rfl, rfl⟩))
      go_roundg g'
      case measure => omega
      case rel => exact ⟨T, _, ⟨rfl, rfl⟩, HTz.out, ⟨HB2.out.trans (hb3.mono HB2.out.size)⟩, HT⟩
end Go.Proofs.Ytkojhgagkoeeiaa
end

/- alone: of any node, whatever its kids are, its number without them; new memory alone is made. -/
section
set_option linter.unusedVariables false
set_option linter.unusedSimpArgs false
namespace Go.Proofs.Ytkojhgagkoeeiaa
open Go.Deep (BT)
open Go.RowKit Go.Shelf M
open Bt (mx IsU mx_u ret_int)

theorem alA_drop (h : Int) (A : List (ByteArray × ByteArray)) (j : Nat) (hj : j < A.length) : alA h (A.drop j) = alA (mx (mx h (tx (bs A j).1)) (tx (bs A j).2)) (A.drop (j + 1)) := by
  rw [List.drop_eq_getElem_cons hj, bs_get A j hj]
  rfl
structure Box5 (n : Nat) (K : Int) (N X : ByteArray) (va vk : Value) (w : World) : Prop where
  c0 : w.cell? ⟨n, 0, none⟩ = some (.int .i64 K)
  c1 : w.cell? ⟨n, 1, none⟩ = some (.string N)
  c2 : w.cell? ⟨n, 2, none⟩ = some (.string X)
  c3 : w.cell? ⟨n, 3, none⟩ = some va
  c4 : w.cell? ⟨n, 4, none⟩ = some vk
theorem Box5.keep {n : Nat} {K : Int} {N X : ByteArray} {va vk : Value} {w w' : World} (h : Box5 n K N X va vk w) (hb : Below w.heap.size w w') : Box5 n K N X va vk w' := by
  have h2 : n < w.heap.size := World.block_lt_of_cell? w _ h.c0
  exact ⟨(hb.cell (p := ⟨n, 0, none⟩) h2).trans h.c0, (hb.cell (p := ⟨n, 1, none⟩) h2).trans h.c1, (hb.cell (p := ⟨n, 2, none⟩) h2).trans h.c2, (hb.cell (p := ⟨n, 3, none⟩) h2).trans h.c3, (hb.cell (p := ⟨n, 4, none⟩) h2).trans h.c4⟩
theorem Box5.new (w : World) (K : Int) (N X : ByteArray) (va vk : Value) (ty : Nat) : Box5 w.heap.size K N X va vk (w.alloc (.cells #[.int .i64 K, .string N, .string X, va, vk] ty)) :=
  ⟨World.cell?_alloc_new w _ _ 0, World.cell?_alloc_new w _ _ 1, World.cell?_alloc_new w _ _ 2, World.cell?_alloc_new w _ _ 3, World.cell?_alloc_new w _ _ 4⟩

set_option maxRecDepth 20000 in
set_option maxHeartbeats 4000000 in
theorem alone_any (d : Nd) (av kv : Value) (S : Nat → Prop) (w : World) (ha : AS S w av d.ats) (hkv : ∃ a n c, kv = .slice a n c) :
    Calls Try.prog 75 #[nodeV d av kv] w fun e w' => e = .returned (.int .u64 (al d)) ∧ Below w.heap.size w w' := by
  obtain ⟨K, N, X, A⟩ := d
  obtain ⟨a1, c1, rfl, hc1, hm1, hA⟩ := ha
  obtain ⟨a2, kl, c2, rfl⟩ := hkv
  dsimp only at hc1 hA ⊢
  obtain ⟨aln, hal⟩ : ∃ aln, A.length = aln := ⟨_, rfl⟩
  rw [hal]
  rw [hal] at hc1
  unfold maxLen at hm1
  obtain ⟨b1, o1, hat⟩ : ∃ b o, Fact (∀ i, i < aln → a1 = some ⟨b, o, none⟩ ∧ w.cell? ⟨b, o + i * 2, none⟩ = some (.string (bs A i).1) ∧ w.cell? ⟨b, o + i * 2 + 1, none⟩ = some (.string (bs A i).2)) := by
    rcases hA with h0 | ⟨b, o, ea, hS, hcs⟩
    · refine ⟨0, 0, ⟨fun i hi => ?_⟩⟩
      rw [h0] at hal
      simp at hal
      omega
    · refine ⟨b, o, ⟨fun i hi => ⟨ea, ?_, ?_⟩⟩⟩
      · rw [← bs_get A i (by rw [hal]; exact hi)]; exact (hcs i (by rw [hal]; exact hi)).1
      · rw [← bs_get A i (by rw [hal]; exact hi)]; exact (hcs i (by rw [hal]; exact hi)).2
  obtain ⟨W1, hW1⟩ : ∃ W1, w.alloc (.cells #[.int .i64 K, .string N, .string X, .slice a1 aln c1, .slice a2 kl c2] 25) = W1 := ⟨_, rfl⟩
  have hB1 : Below w.heap.size w W1 := by rw [← hW1]; exact (Below.refl _ w).alloc (Nat.le_refl _) _
  have hbx : Box5 w.heap.size K N X (.slice a1 aln c1) (.slice a2 kl c2) W1 := by rw [← hW1]; exact Box5.new _ _ _ _ _ _ _
  have hS0 : Below w.heap.size w W1.drew ∧ (W1.drew.cell? ⟨w.heap.size, 0, none⟩ = some (.int .i64 K) ∧ W1.drew.cell? ⟨w.heap.size, 1, none⟩ = some (.string N) ∧ W1.drew.cell? ⟨w.heap.size, 2, none⟩ = some (.string X) ∧ W1.drew.cell? ⟨w.heap.size, 3, none⟩ = some (.slice a1 aln c1) ∧ W1.drew.cell? ⟨w.heap.size, 4, none⟩ = some (.slice a2 kl c2)) := ⟨hB1.drew, hbx.c0, hbx.c1, hbx.c2, hbx.c3, hbx.c4⟩
  have HW1 := Fact.mk hW1
  have HAL := Fact.mk hal
  obtain ⟨h1, eh1⟩ : ∃ h1, mx (IntKind.u64.wrap K) (tx N) = h1 := ⟨_, rfl⟩
  obtain ⟨h2, eh2⟩ : ∃ h2, mx h1 (tx X) = h2 := ⟨_, rfl⟩
  obtain ⟨h3, eh3⟩ : ∃ h3, mx h2 aln = h3 := ⟨_, rfl⟩
  have hu1 : IsU h1 := by rw [← eh1]; exact mx_u _ _
  have hu2 : IsU h2 := by rw [← eh2]; exact mx_u _ _
  have hu3 : IsU h3 := by rw [← eh3]; exact mx_u _ _
  have hua : IsU (aln : Int) := ⟨by omega, by omega⟩
  have hwa : IntKind.u64.wrap (aln : Int) = aln := by rw [IntKind.wrap_u64]; omega
  have HRES : Fact (alA h3 (A.drop 0) = al ⟨K, N, X, A⟩) := ⟨by
    rw [List.drop_zero, ← eh3, ← eh2, ← eh1, ← hal]; rfl⟩
  have hbx' : Box5 w.heap.size K N X (.slice a1 aln c1) (.slice a2 kl c2) W1.drew := ⟨hbx.c0, hbx.c1, hbx.c2, hbx.c3, hbx.c4⟩
  clear hA hal hB1 hbx hW1
  have HSK : Fact (∀ w6, Below W1.drew.heap.size W1.drew w6 → (Below w.heap.size w w6 ∧ (w6.cell? ⟨w.heap.size, 0, none⟩ = some (.int .i64 K) ∧ w6.cell? ⟨w.heap.size, 1, none⟩ = some (.string N) ∧ w6.cell? ⟨w.heap.size, 2, none⟩ = some (.string X) ∧ w6.cell? ⟨w.heap.size, 3, none⟩ = some (.slice a1 aln c1) ∧ w6.cell? ⟨w.heap.size, 4, none⟩ = some (.slice a2 kl c2)))) := ⟨fun w6 hb => by
    have hk := hbx'.keep hb
    exact ⟨hS0.1.trans (hb.mono hS0.1.size), hk.c0, hk.c1, hk.c2, hk.c3, hk.c4⟩⟩
  clear hbx'
  go_enter Try.func75, Try.ntmps75
  go_wp2_with fail
  rw [HW1.out]
  go_region_held3 (fun w' => Below w.heap.size w w' ∧ (w'.cell? ⟨w.heap.size, 0, none⟩ = some (.int .i64 K) ∧ w'.cell? ⟨w.heap.size, 1, none⟩ = some (.string N) ∧ w'.cell? ⟨w.heap.size, 2, none⟩ = some (.string X) ∧ w'.cell? ⟨w.heap.size, 3, none⟩ = some (.slice a1 aln c1) ∧ w'.cell? ⟨w.heap.size, 4, none⟩ = some (.slice a2 kl c2)))
    (first | with_reducible exact hS0 | with_reducible assumption)
    (first
      | (go_at_call 82; refine (htext_any N _).mono ?_; rintro e w6 ⟨rfl, hb6⟩; have hS6 : Below w.heap.size w w6 ∧ (w6.cell? ⟨w.heap.size, 0, none⟩ = some (.int .i64 K) ∧ w6.cell? ⟨w.heap.size, 1, none⟩ = some (.string N) ∧ w6.cell? ⟨w.heap.size, 2, none⟩ = some (.string X) ∧ w6.cell? ⟨w.heap.size, 3, none⟩ = some (.slice a1 aln c1) ∧ w6.cell? ⟨w.heap.size, 4, none⟩ = some (.slice a2 kl c2)) := HSK.out _ hb6)
      | (go_at_call 74; refine (Bt.mix_any _ _ _ (wrap_u _) (tx_u _)).mono ?_; rintro e w7 ⟨rfl, hw7⟩; have hw8 := hw7.symm; subst hw8; clear hw7))
  obtain ⟨hB6, q0, q1, q2, q3, q4⟩ := hS6
  have hz6 : w.heap.size < w6.heap.size := World.block_lt_of_cell? w6 _ q0
  have HB6 := Fact.mk hB6
  clear hS0 hB6 hb6 HSK
  go_upto_region 3 with (first
      | (go_at_call 82; refine (htext_any X _).mono ?_; rintro e w7 ⟨rfl, hb7⟩)
      | (go_at_call 74; refine (Bt.mix_any h1 (tx X) _ hu1 (tx_u _)).mono ?_; rintro e w8 ⟨rfl, hw8⟩; have hw9 := hw8.symm; subst hw9; clear hw8))
  have r3 := (hb7.cell (p := ⟨w.heap.size, 3, none⟩) hz6).trans q3
  have HB7 : Fact (Below w.heap.size w w7) := ⟨HB6.out.trans (hb7.mono HB6.out.size)⟩
  clear hb7 q0 q1 q2 q3 q4 hz6
  go_wp2_with (go_at_call 74; refine (Bt.mix_any h2 aln _ hu2 hua).mono ?_; rintro e w8 ⟨rfl, hw8⟩; have hw9 := hw8.symm; subst hw9; clear hw8)
  go_loopg [3, 27] aln (fun gf hv iv wr => ∃ (j : Nat) (h : Int), (hv = .int .u64 h ∧ iv = .int .i64 j) ∧ j ≤ aln ∧ aln - j ≤ gf ∧ IsU h ∧ Fact (Below w.heap.size w wr) ∧ Fact (alA h (A.drop j) = al ⟨K, N, X, A⟩))
  case atStart => exact ⟨0, h3, ⟨rfl, rfl⟩, Nat.zero_le _, by omega, hu3, HB7, HRES⟩
  case round =>
    obtain ⟨j, h, ⟨rfl, rfl⟩, hj, hfu, huh, hBr, hRE⟩ := hrel
    by_cases hlt : j < aln
    · obtain ⟨g', rfl⟩ : ∃ g', gk = g' + 1 := ⟨gk - 1, by omega⟩
      obtain ⟨ea, y0, y1⟩ := hat.out j hlt
      subst ea
      obtain ⟨N', hN'⟩ : ∃ N', (bs A j).1 = N' := ⟨_, rfl⟩
      obtain ⟨V', hV'⟩ : ∃ V', (bs A j).2 = V' := ⟨_, rfl⟩
      rw [hN'] at y0
      rw [hV'] at y1
      have hbb : b1 < w.heap.size := World.block_lt_of_cell? w _ y0
      have l0 := (hBr.out.cell (p := ⟨b1, o1 + j * 2, none⟩) hbb).trans y0
      have l1 := (hBr.out.cell (p := ⟨b1, o1 + j * 2 + 1, none⟩) hbb).trans y1
      obtain ⟨k1, ek1⟩ : ∃ k1, mx h (tx N') = k1 := ⟨_, rfl⟩
      obtain ⟨k2, ek2⟩ : ∃ k2, mx k1 (tx V') = k2 := ⟨_, rfl⟩
      have hk1 : IsU k1 := by rw [← ek1]; exact mx_u _ _
      have hk2 : IsU k2 := by rw [← ek2]; exact mx_u _ _
      have HD : Fact (alA k2 (A.drop (j + 1)) = al ⟨K, N, X, A⟩) := ⟨by
        have e := hRE.out
        rw [alA_drop h A j (by rw [HAL.out]; exact hlt), hN', hV', ek1, ek2] at e
        exact e⟩
      obtain ⟨W2, hW2⟩ : ∃ W2, wr.alloc (.cells #[.string N', .string V'] 95) = W2 := ⟨_, rfl⟩
      have hB2 : Below w.heap.size w W2 := by rw [← hW2]; exact hBr.out.alloc hBr.out.size _
      have hz2 : wr.heap.size < W2.heap.size := by rw [← hW2]; simp
      have v0 : W2.cell? ⟨wr.heap.size, 0, none⟩ = some (.string N') := by rw [← hW2]; exact World.cell?_alloc_new wr _ _ 0
      have v1 : W2.cell? ⟨wr.heap.size, 1, none⟩ = some (.string V') := by rw [← hW2]; exact World.cell?_alloc_new wr _ _ 1
      have HB2 := Fact.mk hB2
      have HZ2 := Fact.mk hz2
      clear hN' hV' y0 y1 hat hB2 hz2 hBr hRE hbb
      go_upto_region 8 with (first
        | (go_at_call 82; refine (htext_any N' _).mono ?_; rintro e w8 ⟨rfl, hb8⟩)
        | (go_at_call 74; refine (Bt.mix_any h (tx N') _ huh (tx_u _)).mono ?_; rintro e w9 ⟨rfl, hw9⟩; have hw10 := hw9.symm; subst hw10; clear hw9))
      have r1 := (hb8.cell (p := ⟨wr.heap.size, 1, none⟩) HZ2.out).trans v1
      have HB8 : Fact (Below w.heap.size w w8) := ⟨HB2.out.trans (hb8.mono HB2.out.size)⟩
      clear hb8 v0 v1 l0 l1
      go_wp2_with (first
        | (go_at_call 82; refine (htext_any V' _).mono ?_; rintro e w10 ⟨rfl, hb10⟩)
        | (go_at_call 74; refine (Bt.mix_any k1 (tx V') _ hk1 (tx_u _)).mono ?_; rintro e w11 ⟨rfl, hw11⟩; have hw12 := hw11.symm; subst hw12; clear hw11))
      go_roundg g'
      case measure => omega
      case rel => exact ⟨j + 1, k2, ⟨rfl, by go_num⟩, by omega, by omega, hk2, ⟨HB8.out.trans (hb10.mono HB8.out.size)⟩, HD⟩
    · obtain rfl : j = aln := by omega
      have e1 := hRE.out
      rw [List.drop_of_length_le (by rw [HAL.out]; exact Nat.le_refl _)] at e1
      have E1 : Fact (h = al ⟨K, N, X, A⟩) := ⟨e1⟩
      clear e1 hat
      go_wp2_with fail
      go_ret
      exact ⟨ret_int E1.out, hBr.out⟩
end Go.Proofs.Ytkojhgagkoeeiaa
end

/- The document's Bare: a node without its kids, its attributes in new memory. -/
section
set_option linter.unusedVariables false
set_option linter.unusedSimpArgs false
namespace Go.Proofs.Ytkojhgagkoeeiaa
open Go.Deep (BT)
open Go.RowKit Go.Shelf M

/-- attributes appended to nothing -/
theorem copyA_run (l : List (ByteArray × ByteArray)) (v : Value) (n : Nat) (w : World) (ha : AS (Old n) w v l) (hm : l.length ≤ 1000000) :
    ∃ y1 y2 y3 W2, (∀ ty, (Builtin.append_ #[22, 22] ty #[.slice none 0 0, v]).run Try.prog w = .ok (.slice y1 y2 y3) W2) ∧ AS (fun b => w.heap.size ≤ b) W2 (.slice y1 y2 y3) l ∧ Below w.heap.size w W2 := by
  obtain ⟨i0, hii, hz0, hz1, hz2⟩ := info_parts infoA
  by_cases h0 : l = []
  · subst h0
    obtain ⟨a, cap, rfl, h1, h2, _⟩ := ha
    refine ⟨none, 0, 0, w, fun ty => ?_, AS.nothing, Below.refl _ _⟩
    cases a <;> simp [Builtin.append_, run_underlying Try.underlying22, sizeOf, typeInfo, hii, Builtin.lenOf, Builtin.firstCells, loadCells, loadCellsFrom]
  · obtain ⟨a, cap, rfl, h1, h2, h3⟩ := ha
    obtain ⟨b, o, rfl, hS, hc⟩ := h3.resolve_left h0
    have HC : ∀ j u, (rowA l)[j]? = some u → w.cell? ((⟨b, o, none⟩ : Addr).add j) = some u := fun j u hu => by
      have hj : j < (rowA l).length := (List.getElem?_eq_some_iff.1 hu).1
      rw [rowA_len] at hj
      have hi : j / 2 < l.length := by omega
      obtain ⟨g1, g2⟩ := rowA_get l (j / 2) hi
      have hcc := hc (j / 2) hi
      rw [bs_get l (j / 2) hi] at hcc
      rw [add_cell]
      rcases (by omega : j = j / 2 * 2 ∨ j = j / 2 * 2 + 1) with e | e
      · rw [e] at hu ⊢
        rw [g1] at hu
        cases hu
        exact hcc.1
      · rw [e] at hu ⊢
        rw [g2] at hu
        cases hu
        exact hcc.2
    obtain ⟨v', w', hr, h2', h3', _, h5'⟩ := run_append_own_at (P := Try.prog) w w.heap.size 22 22 95 i0 (.agg #[.string ⟨#[]⟩, .string ⟨#[]⟩]) 2 32 Try.underlying22 hii hz0 hz1 hz2 rfl (by decide) (.slice none 0 0) 0 [] (World.ownsRow_nil _ _ _ _) ⟨b, o, none⟩ l.length cap (rowA l) (rowA_len l) HC (rowA_one l) (by unfold maxLen; omega) (by omega) (Nat.le_refl _)
    have h2a : w'.ownsRow w.heap.size 95 2 v' l.length (rowA l) := by simpa using h2'
    obtain ⟨g, c, rfl⟩ : ∃ g c, v' = .slice g l.length c := own_shape h2a
    refine ⟨g, l.length, c, w', fun ty => ?_, own_AS h2a, (Below.refl _ _).grown h3' (Nat.le_refl _) (fun k e => by cases e)⟩
    obtain ⟨v2, w2, hr2, _⟩ := run_append_own_at (P := Try.prog) w w.heap.size 22 ty 95 i0 (.agg #[.string ⟨#[]⟩, .string ⟨#[]⟩]) 2 32 Try.underlying22 hii hz0 hz1 hz2 rfl (by decide) (.slice none 0 0) 0 [] (World.ownsRow_nil _ _ _ _) ⟨b, o, none⟩ l.length cap (rowA l) (rowA_len l) HC (rowA_one l) (by unfold maxLen; omega) (by omega) (Nat.le_refl _)
    exact hr

set_option maxRecDepth 100000 in
set_option maxHeartbeats 4000000 in
theorem bare_any (d : Nd) (av kv : Value) (n : Nat) (w : World) (ha : AS (Old n) w av d.ats) (hm : d.ats.length ≤ 1000000) (hn : n ≤ w.heap.size) (hkv : ∃ a l c, kv = .slice a l c) :
    Calls Try.prog 55 #[nodeV d av kv] w fun e w' => ∃ y1 y2 y3, e = .returned (nodeV d (.slice y1 y2 y3) (.slice none 0 0)) ∧ Below w.heap.size w w' ∧ AS (fun b => w.heap.size ≤ b) w' (.slice y1 y2 y3) d.ats := by
  obtain ⟨K, N, X, A⟩ := d
  obtain ⟨a1, n1, c1, e1⟩ := ha.val
  subst e1
  obtain ⟨a2, n2, c2, rfl⟩ := hkv
  dsimp only at ha hm ⊢
  obtain ⟨W1, hW1⟩ : ∃ W1, (w.alloc (.cells #[.int .i64 K, .string N, .string X, .slice a1 n1 c1, .slice a2 n2 c2] 25)).alloc (.cells #[.int .i64 0, .string ⟨#[]⟩, .string ⟨#[]⟩, .slice none 0 0, .slice none 0 0] 25) = W1 := ⟨_, rfl⟩
  have hB1 : Below w.heap.size w W1 := by rw [← hW1]; exact ((Below.refl _ w).alloc (Nat.le_refl _) _).alloc (by simp) _
  have hz1 : W1.heap.size = w.heap.size + 2 := by rw [← hW1]; simp
  have hT : Five W1 w.heap.size (.int .i64 K) (.string N) (.string X) (.slice a1 n1 c1) (.slice a2 n2 c2) := (Five.new w _ _ _ _ _ _).same (by rw [← hW1]; exact Below.heap_alloc _ _ _ (by simp))
  have hR : Five W1 (w.heap.size + 1) (.int .i64 0) (.string ⟨#[]⟩) (.string ⟨#[]⟩) (.slice none 0 0) (.slice none 0 0) := by
    have := Five.new (w.alloc (.cells #[.int .i64 K, .string N, .string X, .slice a1 n1 c1, .slice a2 n2 c2] 25)) (.int .i64 0) (.string ⟨#[]⟩) (.string ⟨#[]⟩) (.slice none 0 0) (.slice none 0 0) 25
    rw [hW1, World.size_alloc] at this
    exact this
  obtain ⟨y1, y2, y3, W2, hrun, hAS, hb2⟩ := copyA_run A (.slice a1 n1 c1) n W1.drew ((ha.like (like_below (hB1.mono hn))).like (fun _ _ _ => rfl)) hm
  have hb2' : Below W1.heap.size W1 W2 := ⟨hb2.os, hb2.tape, hb2.output, hb2.size, hb2.block⟩
  have hT2 := hT.same (hb2'.block _ (by omega))
  have hR2 := hR.same (hb2'.block _ (by omega))
  have hS0 : W1.drew.cell? ⟨w.heap.size, 0, none⟩ = some (.int .i64 K) ∧ W1.drew.cell? ⟨w.heap.size, 1, none⟩ = some (.string N) ∧ W1.drew.cell? ⟨w.heap.size, 2, none⟩ = some (.string X) ∧ W1.drew.cell? ⟨w.heap.size, 3, none⟩ = some (.slice a1 n1 c1) := ⟨hT.c0, hT.c1, hT.c2, hT.c3⟩
  have hS2 : W2.cell? ⟨w.heap.size, 0, none⟩ = some (.int .i64 K) ∧ W2.cell? ⟨w.heap.size, 1, none⟩ = some (.string N) ∧ W2.cell? ⟨w.heap.size, 2, none⟩ = some (.string X) ∧ W2.cell? ⟨w.heap.size, 3, none⟩ = some (.slice a1 n1 c1) := ⟨hT2.c0, hT2.c1, hT2.c2, hT2.c3⟩
  have hS3 : ∀ v0 v1 v2 v3 v4, (((((W2.setCell ⟨w.heap.size + 1, 0, none⟩ v0).setCell ⟨w.heap.size + 1, 1, none⟩ v1).setCell ⟨w.heap.size + 1, 2, none⟩ v2).setCell ⟨w.heap.size + 1, 3, none⟩ v3).setCell ⟨w.heap.size + 1, 4, none⟩ v4).cell? ⟨w.heap.size, 0, none⟩ = some (.int .i64 K) ∧ (((((W2.setCell ⟨w.heap.size + 1, 0, none⟩ v0).setCell ⟨w.heap.size + 1, 1, none⟩ v1).setCell ⟨w.heap.size + 1, 2, none⟩ v2).setCell ⟨w.heap.size + 1, 3, none⟩ v3).setCell ⟨w.heap.size + 1, 4, none⟩ v4).cell? ⟨w.heap.size, 1, none⟩ = some (.string N) ∧ (((((W2.setCell ⟨w.heap.size + 1, 0, none⟩ v0).setCell ⟨w.heap.size + 1, 1, none⟩ v1).setCell ⟨w.heap.size + 1, 2, none⟩ v2).setCell ⟨w.heap.size + 1, 3, none⟩ v3).setCell ⟨w.heap.size + 1, 4, none⟩ v4).cell? ⟨w.heap.size, 2, none⟩ = some (.string X) ∧ (((((W2.setCell ⟨w.heap.size + 1, 0, none⟩ v0).setCell ⟨w.heap.size + 1, 1, none⟩ v1).setCell ⟨w.heap.size + 1, 2, none⟩ v2).setCell ⟨w.heap.size + 1, 3, none⟩ v3).setCell ⟨w.heap.size + 1, 4, none⟩ v4).cell? ⟨w.heap.size, 3, none⟩ = some (.slice a1 n1 c1) := fun v0 v1 v2 v3 v4 => by
    have h5 := hT2.same (five_other W2 (w.heap.size + 1) (k := w.heap.size) (by omega) v0 v1 v2 v3 v4)
    exact ⟨h5.c0, h5.c1, h5.c2, h5.c3⟩
  obtain ⟨r0, r1, r2, r3, r4, rfz⟩ := id hR2
  have rf0 := rfz 0
  have rf1 := rfz 1
  have rf2 := rfz 2
  have rf3 := rfz 3
  have rf4 := rfz 4
  have HW1 := Fact.mk hW1
  have HRUN := Fact.mk hrun
  have HR2 := Fact.mk hR2
  have HAS := Fact.mk hAS
  have HB2 : Fact (Below w.heap.size w W2) := ⟨hB1.trans (hb2'.mono hB1.size)⟩
  clear hW1 hrun hR2 hAS hb2 hb2' hT2 hT hR rfz ha hB1
  go_enter Try.func55, Try.ntmps55
  go_wp2_with fail
  rw [HW1.out]
  go_region_held3 (fun w' => w'.cell? ⟨w.heap.size, 0, none⟩ = some (.int .i64 K) ∧ w'.cell? ⟨w.heap.size, 1, none⟩ = some (.string N) ∧ w'.cell? ⟨w.heap.size, 2, none⟩ = some (.string X) ∧ w'.cell? ⟨w.heap.size, 3, none⟩ = some (.slice a1 n1 c1))
    (first | with_reducible exact hS0 | with_reducible exact hS2 | with_reducible exact hS3 _ _ _ _ _)
    (first
      | (refine wp_append_run (s := .const (.slice none 0 0)) (y := .tmp 10) (t := 22) rfl (by simp [Act.eval]) (by simp [Act.eval]) (HRUN.out _) ?_))
  go_wp2_with fail
  have h5 := five_all HR2.out (.int .i64 K) (.string N) (.string X) (.slice y1 y2 y3) (.slice none 0 0)
  have hoth : ∀ b, b ≠ w.heap.size + 1 → _ := fun b hb => five_other W2 (w.heap.size + 1) hb (.int .i64 K) (.string N) (.string X) (.slice y1 y2 y3) (.slice none 0 0)
  obtain ⟨W5, hW5⟩ : ∃ W5, ((((W2.setCell ⟨w.heap.size + 1, 0, none⟩ (.int .i64 K)).setCell ⟨w.heap.size + 1, 1, none⟩ (.string N)).setCell ⟨w.heap.size + 1, 2, none⟩ (.string X)).setCell ⟨w.heap.size + 1, 3, none⟩ (.slice y1 y2 y3)).setCell ⟨w.heap.size + 1, 4, none⟩ (.slice none 0 0) = W5 := ⟨_, rfl⟩
  have hz5 : W5.heap.size = W2.heap.size := by rw [← hW5]; simp [World.setCell]
  have hB5 : Below w.heap.size w W5 := ⟨by rw [← hW5]; exact HB2.out.os, by rw [← hW5]; exact HB2.out.tape, by rw [← hW5]; exact HB2.out.output, by rw [hz5]; exact HB2.out.size, fun k hk => by rw [← hW5]; exact (hoth k (by omega)).trans (HB2.out.block k hk)⟩
  have hA5 : AS (fun b => w.heap.size ≤ b) W5 (.slice y1 y2 y3) A := (HAS.out.like (fun b hb _ => by
    have hb' : W1.drew.heap.size ≤ b := hb
    have hzd : W1.drew.heap.size = W1.heap.size := rfl
    rw [← hW5]; exact hoth b (by omega))).mono (fun b hb => by
    have hb' : W1.drew.heap.size ≤ b := hb
    have hzd : W1.drew.heap.size = W1.heap.size := rfl
    show w.heap.size ≤ b
    omega)
  rw [hW5] at h5
  rw [hW5]
  exact bodyPost_ret (v := nodeV ⟨K, N, X, A⟩ (.slice y1 y2 y3) (.slice none 0 0)) (by simp [results, Try.f55, go_sem, h5.c0, h5.c1, h5.c2, h5.c3, h5.c4]) rfl ⟨y1, y2, y3, rfl, hB5, hA5⟩
end Go.Proofs.Ytkojhgagkoeeiaa
end

/- The document's Flat: rows of nodes with all in them; plain terms, and where they lie. -/
section
set_option linter.unusedVariables false
set_option linter.unusedSimpArgs false
namespace Go.Proofs.Ytkojhgagkoeeiaa.M
open Go.Deep
/-- the trees that begin at the nodes, in their order -/
def subsF : F → List (Nd × F)
  | .nil => []
  | .node _ _ d k r => (d, k) :: (subsF k ++ subsF r)
theorem subsF_len : ∀ f : F, (subsF f).length = f.size
  | .nil => rfl
  | .node _ _ d k r => by simp [subsF, BT.size, subsF_len k, subsF_len r]; omega
theorem subsF_fin : ∀ f : F, (subsF f).map (fun p => hT p.1 p.2) = finF f
  | .nil => rfl
  | .node _ _ d k r => by rw [subsF, finF, List.map_cons, List.map_append, subsF_fin k, subsF_fin r]
end Go.Proofs.Ytkojhgagkoeeiaa.M
namespace Go.Proofs.Ytkojhgagkoeeiaa
open Go.Deep (BT)
open Go.RowKit Go.Shelf M

/-- a node in the list: what is said of it, its attributes' copy, the tree that begins there -/
structure Rm where
  im : Im
  k : M.F
  oa : Value
  av : Value
  kv : Value
def c15 (r : Rm) : List Value := [.int .i64 r.im.p, .int .i64 r.im.z, .int .i64 r.im.dp, .int .i64 r.im.h, .int .i64 r.im.pl, .int .i64 r.im.d.k, .string r.im.d.n, .string r.im.d.x, r.oa, .slice none 0 0, .int .i64 r.im.d.k, .string r.im.d.n, .string r.im.d.x, r.av, r.kv]
def c15L : List Rm → List Value
  | [] => []
  | y :: l => c15 y ++ c15L l
theorem c15L_len : ∀ l, (c15L l).length = l.length * 15
  | [] => rfl
  | y :: l => by simp [c15L, c15, c15L_len l]; omega
theorem c15L_append : ∀ a b, c15L (a ++ b) = c15L a ++ c15L b
  | [], b => rfl
  | y :: a, b => by simp [c15L, c15L_append a b]
theorem c15L_get : ∀ (l : List Rm) (i : Nat) (y : Rm), l[i]? = some y → ∀ j u, (c15 y)[j]? = some u → (c15L l)[i * 15 + j]? = some u
  | [], _, _, h, _, _, _ => by cases h
  | x :: l, 0, y, h, j, u, hu => by
    simp only [List.getElem?_cons_zero, Option.some.injEq] at h
    subst h
    have hj := (List.getElem?_eq_some_iff.1 hu).1
    rw [c15L, List.getElem?_append_left (by simpa using hj)]
    simpa using hu
  | x :: l, i + 1, y, h, j, u, hu => by
    simp only [List.getElem?_cons_succ] at h
    have := c15L_get l i y h j u hu
    have hx : (c15 x).length = 15 := rfl
    rw [c15L, List.getElem?_append_right (by omega), hx, show (i + 1) * 15 + j - 15 = i * 15 + j by omega]
    exact this
theorem c15L_set : ∀ (l : List Rm) (i j : Nat) (y y' : Rm) (u : Value), l[i]? = some y → j < 15 → (c15 y).set j u = c15 y' → (c15L l).set (i * 15 + j) u = c15L (l.set i y')
  | [], _, _, _, _, _, h, _, _ => by cases h
  | x :: l, 0, j, y, y', u, h, hj, e => by
    simp only [List.getElem?_cons_zero, Option.some.injEq] at h
    subst h
    rw [c15L, List.set_append, if_pos (by show 0 * 15 + j < 15; omega), Nat.zero_mul, Nat.zero_add, e]
    rfl
  | x :: l, i + 1, j, y, y', u, h, hj, e => by
    simp only [List.getElem?_cons_succ] at h
    have := c15L_set l i j y y' u h hj e
    have hx : (c15 x).length = 15 := rfl
    rw [c15L, List.set_append, if_neg (by omega), hx, show (i + 1) * 15 + j - 15 = i * 15 + j by omega, this]
    rfl
theorem row15_at {w : World} {B E g n cap : Nat} {l : List Rm} (h : w.ownsRow B E 15 (.slice (some ⟨g, 0, none⟩) n cap) n (c15L l)) {i : Nat} {y : Rm} (hy : l[i]? = some y) :
    (∀ j u, (c15 y)[j]? = some u → w.cell? ⟨g, i * 15 + j, none⟩ = some u) ∧ (∀ o, w.frozen? ⟨g, o, none⟩ = false) ∧ B ≤ g ∧ g < w.heap.size ∧ n ≤ cap ∧ cap ≤ maxLen ∧ i < n := by
  obtain ⟨h1, h2⟩ := h
  have hl : l.length = n := by rw [c15L_len] at h1; omega
  have hi : i < n := by rw [← hl]; exact (List.getElem?_eq_some_iff.1 hy).1
  rcases h2 with ⟨e, _⟩ | ⟨g', cap', cur, e, hg, hh, hc1, hc2, hs, ht⟩
  · cases e
  · cases e
    refine ⟨fun j u hj => ?_, fun o => by simp [World.frozen?, hh], hg, (Array.getElem?_eq_some_iff.1 hh).1, hc1, hc2, hi⟩
    simp only [World.cell?, hh]
    have h3 := c15L_get l i y hy j u hj
    rw [← ht, List.getElem?_take] at h3
    split at h3
    · simpa using h3
    · cases h3
theorem row15_set {w : World} {B E g n cap : Nat} {l : List Rm} (h : w.ownsRow B E 15 (.slice (some ⟨g, 0, none⟩) n cap) n (c15L l)) {i j : Nat} {y y' : Rm} {u : Value} (hy : l[i]? = some y) (hj : j < 15) (e : (c15 y).set j u = c15 y') :
    (w.setCell ⟨g, i * 15 + j, none⟩ u).ownsRow B E 15 (.slice (some ⟨g, 0, none⟩) n cap) n (c15L (l.set i y')) := by
  have hs' := c15L_set l i j y y' u hy hj e
  obtain ⟨h1, h2⟩ := h
  refine ⟨by rw [← hs', List.length_set]; exact h1, .inr ?_⟩
  rcases h2 with ⟨e, _⟩ | ⟨g', cap', cur, e', hg, hh, hc1, hc2, hs, ht⟩
  · cases e
  · cases e'
    refine ⟨g, cap, cur.setIfInBounds (i * 15 + j) u, rfl, hg, ?_, hc1, hc2, by simpa using hs, ?_⟩
    · simp only [World.setCell, Array.getElem?_modify, hh]
      simp
    · rw [Array.toList_setIfInBounds, List.take_set, ht, hs']
theorem infoI7 : (Try.prog.info? 49).map (fun i => (i.zero, i.size, i.bytes)) = some (some (.agg #[.int .i64 0, .int .i64 0, .int .i64 0, .int .i64 0, .int .i64 0, .int .i64 0, .string ⟨#[]⟩, .string ⟨#[]⟩, .slice none 0 0, .slice none 0 0, .int .i64 0, .string ⟨#[]⟩, .string ⟨#[]⟩, .slice none 0 0, .slice none 0 0]), 15, 216) := by kernel_rfl
theorem cells15_new (w : World) (xs : List Value) (t : TypeId) : ∀ (j : Nat) (u : Value), xs[j]? = some u → (w.alloc (.cells xs.toArray t)).cell? ((⟨w.heap.size, 0, none⟩ : Addr).add j) = some u := by
  intro j u h
  rw [add_cell, Nat.zero_add]
  have := World.cell?_alloc_new w xs.toArray t j
  rw [this]
  simpa using h
theorem grown_trans {a b c : World} {o1 o2 : Option Nat} (h1 : a.grownBy b o1) (h2 : b.grownBy c o2) (h : o2 = o1 ∨ ∃ k, o2 = some k ∧ a.heap.size ≤ k) : a.grownBy c o1 :=
  ⟨h2.os.trans h1.os, h2.tape.trans h1.tape, h2.output.trans h1.output, Nat.le_trans h1.size h2.size, fun k hk hn => (h2.block k (Nat.lt_of_lt_of_le hk h1.size) (fun e => by
    rcases h with h | ⟨k', e', hk'⟩
    · exact hn (e.trans h)
    · have := Option.some.inj (e.trans e'); omega)).trans (h1.block k hk hn)⟩
theorem grown_below {a b : World} {o : Option Nat} (h : Below a.heap.size a b) : a.grownBy b o := ⟨h.os, h.tape, h.output, h.size, fun k hk _ => h.block k hk⟩
theorem grown_set {a b : World} {g : Nat} (h : a.grownBy b (some g)) (o : Nat) (u : Value) : a.grownBy (b.setCell ⟨g, o, none⟩ u) (some g) :=
  ⟨h.os, h.tape, h.output, by simp [World.setCell]; exact h.size, fun k hk hn => (Below.heap_setCell _ _ _ _ (fun e => hn (by rw [e]))).trans (h.block k hk hn)⟩
theorem grown_setN {a b : World} {o1 : Option Nat} {g : Nat} (h : a.grownBy b o1) (hg : some g = o1 ∨ a.heap.size ≤ g) (o : Nat) (u : Value) : a.grownBy (b.setCell ⟨g, o, none⟩ u) o1 :=
  ⟨h.os, h.tape, h.output, by simp [World.setCell]; exact h.size, fun k hk hn => (Below.heap_setCell _ _ _ _ (fun e => by
    have e' : k = g := e
    rcases hg with hg | hg
    · exact hn (by rw [e', hg])
    · omega)).trans (h.block k hk hn)⟩
theorem grown_like {a b : World} {o : Option Nat} {n : Nat} (h : a.grownBy b o) (ho : ∀ k, o = some k → n ≤ k) : Like (Old n) a b := fun k hk hz => h.block k hz (fun e => by have := ho k e.symm; have hk' : k < n := hk; omega)
end Go.Proofs.Ytkojhgagkoeeiaa
end

/- The document's flat: a node and all in it behind others. -/
section
set_option linter.unusedVariables false
set_option linter.unusedSimpArgs false
namespace Go.Proofs.Ytkojhgagkoeeiaa
open Go.Deep (BT)
open Go.RowKit Go.Shelf M

def AllR (n : Nat) (w : World) (l : List Rm) : Prop := ∀ r ∈ l, AS (Old n) w r.av r.im.d.ats ∧ FL (Old n) w r.kv r.k
theorem AllR.like {n : Nat} {w w' : World} (h : Like (Old n) w w') {l : List Rm} (ha : AllR n w l) : AllR n w' l := fun r hr => ⟨(ha r hr).1.like h, (ha r hr).2.like h⟩
theorem AllR.append {n : Nat} {w : World} {a b : List Rm} (ha : AllR n w a) (hb : AllR n w b) : AllR n w (a ++ b) := fun r hr => by
  rcases List.mem_append.1 hr with h | h
  · exact ha r h
  · exact hb r h
def RFlatP (k : M.F) : Prop := ∀ (d : Nd) (av kv : Value) (n B : Nat) (w : World) (l : List Rm) (v : Value) (p : Int) (dp pl : Nat), Lies n w d k av kv → n ≤ B → B ≤ w.heap.size →
  w.ownsRow B 49 15 v l.length (c15L l) → l.length + (k.size + 1) ≤ 1000000 → dp + k.depth ≤ 1000000 → d.ats.length + k.slots ≤ 1000000 →
  Calls Try.prog 43 #[v, nodeV d av kv, .int .i64 p, .int .i64 dp, .int .i64 pl] w fun e w' => ∃ v' news, e = .returned v' ∧ w'.ownsRow B 49 15 v' (l.length + (k.size + 1)) (c15L (l ++ news)) ∧ w.grownBy w' v.ownBlock ∧
    (v'.ownBlock = v.ownBlock ∨ ∃ b, v'.ownBlock = some b ∧ w.heap.size ≤ b) ∧ Fact (news.map (·.im) = ⟨p, k.size + 1, dp, k.depth + 1, pl, d⟩ :: flatF l.length (dp + 1) 0 (l.length + 1) k ∧ news.map (fun r => (r.im.d, r.k)) = (d, k) :: subsF k ∧ AllR n w' news)
theorem own_pos {w : World} {B E z n : Nat} {v : Value} {xs : List Value} (hn : 1 ≤ n) (h : w.ownsRow B E z v n xs) : ∃ g c, v = .slice (some ⟨g, 0, none⟩) n c := by
  rcases h.2 with ⟨_, h0⟩ | ⟨g, cap, cur, e, _⟩
  · omega
  · exact ⟨g, cap, e⟩

set_option maxRecDepth 100000 in
set_option maxHeartbeats 8000000 in
theorem rflat_step (k : M.F) (hH : Hered RFlatP k) : RFlatP k := by
  intro d av kv n B w l v p dp pl hl hnB hBw hrow hlen hdeep hslots
  obtain ⟨K, N, X, A⟩ := d
  obtain ⟨a1, n1, c1, e1⟩ := hl.a.val
  obtain ⟨a2, c2, rfl, hc2, hm2, hF⟩ := hl.f
  subst e1
  obtain ⟨av0, cv, e3⟩ := own_shape hrow
  subst e3
  obtain ⟨L, hL⟩ : ∃ L, l.length = L := ⟨_, rfl⟩
  obtain ⟨kl, hkl⟩ : ∃ kl, k.len = kl := ⟨_, rfl⟩
  rw [hL] at hrow hlen ⊢
  have HA : Fact (AS (Old n) w (.slice a1 n1 c1) A) := ⟨hl.a⟩
  have HFK : Fact (FL (Old n) w (.slice a2 k.len c2) k) := ⟨hl.f⟩
  rw [hkl] at hc2 HFK ⊢
  unfold maxLen at hm2
  dsimp only at hslots
  obtain ⟨b2, o2, hkd⟩ : ∃ b o, Fact (∀ i, i < kl → a2 = some ⟨b, o, none⟩ ∧ b < n ∧ FAt (Old n) w k b o) := by
    rcases hF with h0 | ⟨b, o, ea, hS, hcs⟩
    · refine ⟨0, 0, ⟨fun i hi => ?_⟩⟩
      omega
    · exact ⟨b, o, ⟨fun i hi => ⟨ea, hS, hcs⟩⟩⟩
  have hklk : kl ≤ 1000000 := by rw [← hkl]; have : ∀ f : M.F, f.len ≤ f.size := (fun f => by induction f with | nil => exact Nat.le_refl _ | node _ _ d k r _ ih => simp only [BT.len, BT.size]; omega); have := this k; omega
  obtain ⟨W1, hW1⟩ : ∃ W1, w.alloc (.cells #[.int .i64 K, .string N, .string X, .slice a1 n1 c1, .slice a2 kl c2] 25) = W1 := ⟨_, rfl⟩
  have hB1 : Below w.heap.size w W1 := by rw [← hW1]; exact (Below.refl _ w).alloc (Nat.le_refl _) _
  have hz1 : W1.heap.size = w.heap.size + 1 := by rw [← hW1]; simp
  have hbx : Five W1 w.heap.size (.int .i64 K) (.string N) (.string X) (.slice a1 n1 c1) (.slice a2 kl c2) := by rw [← hW1]; exact Five.new w _ _ _ _ _ _
  have hown1 : W1.ownsRow B 49 15 (.slice av0 L cv) L (c15L l) := by rw [← hW1]; exact hrow.alloc _
  have HOB : Fact (∀ g, (Value.slice av0 L cv).ownBlock = some g → B ≤ g ∧ g < w.heap.size) := ⟨fun g e => hrow.lt g e⟩
  have HBX := Fact.mk hbx
  have HB1 := Fact.mk hB1
  have HW1 := Fact.mk hW1
  have HKL := Fact.mk hkl
  have HLL := Fact.mk hL
  have HH := Fact.mk hH
  have hS0 : W1.drew.cell? ⟨w.heap.size, 0, none⟩ = some (.int .i64 K) ∧ W1.drew.cell? ⟨w.heap.size, 1, none⟩ = some (.string N) ∧ W1.drew.cell? ⟨w.heap.size, 2, none⟩ = some (.string X) ∧ W1.drew.cell? ⟨w.heap.size, 3, none⟩ = some (.slice a1 n1 c1) ∧ W1.drew.cell? ⟨w.heap.size, 4, none⟩ = some (.slice a2 kl c2) := ⟨hbx.c0, hbx.c1, hbx.c2, hbx.c3, hbx.c4⟩
  have HBARE : Fact (Calls Try.prog 55 #[.agg #[.int .i64 K, .string N, .string X, .slice a1 n1 c1, .slice a2 kl c2]] W1.drew fun e w' => ∃ y1 y2 y3, e = .returned (.agg #[.int .i64 K, .string N, .string X, .slice y1 y2 y3, .slice none 0 0]) ∧ Below W1.drew.heap.size W1.drew w') := ⟨by
    refine (bare_any ⟨K, N, X, A⟩ (.slice a1 n1 c1) (.slice a2 kl c2) n W1.drew ((hl.a.like (like_below (hB1.mono (Nat.le_trans hnB hBw)))).like (fun _ _ _ => rfl)) (by dsimp only; omega) (by show n ≤ W1.heap.size; omega) ⟨_, _, _, rfl⟩).mono ?_
    rintro e w' ⟨y1, y2, y3, rfl, hb, _⟩
    exact ⟨y1, y2, y3, rfl, hb⟩⟩
  have HOWN1 := Fact.mk hown1
  obtain ⟨i0, hii, hzz0, hzz1, hzz2⟩ := info_parts infoI7
  clear hF hl hrow hW1 hH hB1 hbx hown1 hL hkl
  go_enter Try.func43, Try.ntmps43
  go_upto_region 2 with fail
  rw [HW1.out]
  go_region_held3 (fun w' => w'.cell? ⟨w.heap.size, 0, none⟩ = some (.int .i64 K) ∧ w'.cell? ⟨w.heap.size, 1, none⟩ = some (.string N) ∧ w'.cell? ⟨w.heap.size, 2, none⟩ = some (.string X) ∧ w'.cell? ⟨w.heap.size, 3, none⟩ = some (.slice a1 n1 c1) ∧ w'.cell? ⟨w.heap.size, 4, none⟩ = some (.slice a2 kl c2))
    (first | with_reducible exact hS0 | with_reducible exact hS2 | with_reducible exact hS3 _ | with_reducible exact hS4)
    (first
      | (refine wp_append_at _ (.tmp 17) (.tmp 25) 42 rfl B 49 i0 _ 15 216 Try.underlying42 hii hzz0 hzz1 hzz2 rfl (by decide) (.slice av0 L cv) L (c15L l) (by simp [Act.eval]) (HO2.out.alloc _) ⟨w2.heap.size, 0, none⟩ 1 1 [.int .i64 p, .int .i64 0, .int .i64 dp, .int .i64 0, .int .i64 pl, .int .i64 K, .string N, .string X, .slice y1 y2 y3, .slice none 0 0, .int .i64 K, .string N, .string X, .slice a1 n1 c1, .slice a2 kl c2] (by simp [Act.eval]) rfl (cells15_new _ _ _) (by simp [Value.oneCell']) (by unfold maxLen; omega) (by omega) (by simp; omega) ?_; intro v3 w3 hown3 hgrow3 hat3; have hbk : w3.heap[w.heap.size]? = w2.heap[w.heap.size]? := (hgrow3.block _ (by simp; omega) (fun e => by have := (HOB.out _ e.symm).2; omega)).trans (Below.heap_alloc _ _ _ (by omega)); have hfv3 := Fact.mk (hfv2.out.same hbk); have hS4 : w3.cell? ⟨w.heap.size, 0, none⟩ = some (.int .i64 K) ∧ w3.cell? ⟨w.heap.size, 1, none⟩ = some (.string N) ∧ w3.cell? ⟨w.heap.size, 2, none⟩ = some (.string X) ∧ w3.cell? ⟨w.heap.size, 3, none⟩ = some (.slice a1 n1 c1) ∧ w3.cell? ⟨w.heap.size, 4, none⟩ = some (.slice a2 kl c2) := ⟨hfv3.out.c0, hfv3.out.c1, hfv3.out.c2, hfv3.out.c3, hfv3.out.c4⟩)
      | (go_at_call 55; refine HBARE.out.mono ?_; rintro e w2 ⟨y1, y2, y3, rfl, hb2⟩; have hzz := hb2.size; have hzd : W1.drew.heap.size = W1.heap.size := rfl; have hfv2 : Fact (Five w2 w.heap.size (.int .i64 K) (.string N) (.string X) (.slice a1 n1 c1) (.slice a2 kl c2)) := ⟨HBX.out.same (hb2.block _ (by omega))⟩; have hS2 : w2.cell? ⟨w.heap.size, 0, none⟩ = some (.int .i64 K) ∧ w2.cell? ⟨w.heap.size, 1, none⟩ = some (.string N) ∧ w2.cell? ⟨w.heap.size, 2, none⟩ = some (.string X) ∧ w2.cell? ⟨w.heap.size, 3, none⟩ = some (.slice a1 n1 c1) ∧ w2.cell? ⟨w.heap.size, 4, none⟩ = some (.slice a2 kl c2) := ⟨hfv2.out.c0, hfv2.out.c1, hfv2.out.c2, hfv2.out.c3, hfv2.out.c4⟩; have hS3 : ∀ o, (w2.alloc o).cell? ⟨w.heap.size, 0, none⟩ = some (.int .i64 K) ∧ (w2.alloc o).cell? ⟨w.heap.size, 1, none⟩ = some (.string N) ∧ (w2.alloc o).cell? ⟨w.heap.size, 2, none⟩ = some (.string X) ∧ (w2.alloc o).cell? ⟨w.heap.size, 3, none⟩ = some (.slice a1 n1 c1) ∧ (w2.alloc o).cell? ⟨w.heap.size, 4, none⟩ = some (.slice a2 kl c2) := fun o => (let h := hfv2.out.same (w' := w2.alloc o) (Below.heap_alloc _ _ _ (by omega)); ⟨h.c0, h.c1, h.c2, h.c3, h.c4⟩); have HO2 : Fact (w2.ownsRow B 49 15 (.slice av0 L cv) L (c15L l)) := ⟨own_block HOWN1.out (fun k _ hk => hb2.block k hk)⟩))
  obtain ⟨g3, c3, rfl⟩ := own_pos (by omega) hown3
  obtain ⟨hd, hhd⟩ : ∃ hd : Rm, (⟨⟨p, 0, dp, 0, pl, ⟨K, N, X, A⟩⟩, k, .slice y1 y2 y3, .slice a1 n1 c1, .slice a2 kl c2⟩ : Rm) = hd := ⟨_, rfl⟩
  have HHD := Fact.mk hhd
  have HO3 : Fact (w3.ownsRow B 49 15 (.slice (some ⟨g3, 0, none⟩) (L + 1) c3) (L + 1) (c15L (l ++ hd :: []))) := ⟨by
    rw [c15L_append, ← hhd]; exact hown3⟩
  have HG3 : Fact (W1.grownBy w3 (Value.slice av0 L cv).ownBlock) := ⟨by
    have h2 : W1.grownBy (w2.alloc (.cells #[.int .i64 p, .int .i64 0, .int .i64 dp, .int .i64 0, .int .i64 pl, .int .i64 K, .string N, .string X, .slice y1 y2 y3, .slice none 0 0, .int .i64 K, .string N, .string X, .slice a1 n1 c1, .slice a2 kl c2] 49)) (Value.slice av0 L cv).ownBlock :=
      grown_below ((show Below W1.heap.size W1 w2 from ⟨hb2.os, hb2.tape, hb2.output, hb2.size, hb2.block⟩).alloc hb2.size _)
    exact grown_trans h2 hgrow3 (.inl rfl)⟩
  have HAT3 : Fact ((Value.slice (some ⟨g3, 0, none⟩) (L + 1) c3).ownBlock = (Value.slice av0 L cv).ownBlock ∨ ∃ b, (Value.slice (some ⟨g3, 0, none⟩) (L + 1) c3).ownBlock = some b ∧ W1.heap.size ≤ b) := ⟨by
    rcases hat3 with h | h
    · exact .inl h
    · exact .inr ⟨_, h, by simp; omega⟩⟩
  have hLI : ((L : Int) + 1) = ((L + 1 : Nat) : Int) := by omega
  clear hS0 hS2 hS3 hS4 hown3 hgrow3 hat3 hbk hfv3 hfv2 hhd hb2 HO2 hzz HBARE HOWN1
  obtain ⟨m0, hm0⟩ : ∃ m0, L + 1 = m0 := ⟨_, rfl⟩
  rw [hm0] at HO3 HAT3 ⊢
  go_wp2_with fail
  go_loopg [0, 12, 13] kl (fun gf lv hv iv wr => ∃ (i : Nat) (rest : M.F) (done : List Rm) (D m g c : Nat), (lv = .slice (some ⟨g, 0, none⟩) m c ∧ hv = .int .i64 D ∧ iv = .int .i64 i) ∧ i + rest.len = kl ∧ rest.len ≤ gf ∧ m = L + 1 + done.length ∧
    Fact (W1.grownBy wr (Value.slice av0 L cv).ownBlock ∧ ((Value.slice (some ⟨g, 0, none⟩) m c).ownBlock = (Value.slice av0 L cv).ownBlock ∨ ∃ b, (Value.slice (some ⟨g, 0, none⟩) m c).ownBlock = some b ∧ W1.heap.size ≤ b) ∧ wr.ownsRow B 49 15 (.slice (some ⟨g, 0, none⟩) m c) m (c15L (l ++ hd :: done))) ∧
    Fact ((rest.len = 0 ∨ FAt (Old n) w rest b2 (o2 + i * 5)) ∧ Hered RFlatP rest ∧ k.size = done.length + rest.size ∧ k.depth = max D rest.depth ∧ rest.slots ≤ 1000000 ∧ flatF L (dp + 1) 0 (L + 1) k = done.map (·.im) ++ flatF L (dp + 1) i (L + 1 + done.length) rest ∧ subsF k = done.map (fun r => (r.im.d, r.k)) ++ subsF rest ∧ AllR n w done))
  case atStart =>
    refine ⟨0, k, [], 0, m0, g3, c3, ⟨rfl, rfl, rfl⟩, by rw [HKL.out]; omega, by rw [HKL.out]; omega, by rw [← hm0]; rfl, ⟨HG3.out, HAT3.out, HO3.out⟩, ⟨?_, HH.out, by simp, by omega, by omega, by simp, by simp, fun r hr => by cases hr⟩⟩
    by_cases h0 : kl = 0
    · left; rw [HKL.out]; exact h0
    · right
      rw [Nat.zero_mul, Nat.add_zero]
      exact (hkd.out 0 (by omega)).2.2
  case round =>
    obtain ⟨i, rest, done, D, m, g, c, ⟨rfl, rfl, rfl⟩, hlr, hfu, hm, hW, hfx⟩ := hrel
    have hw1 : w.heap.size < W1.heap.size := by omega
    have x4 : wr.cell? ⟨w.heap.size, 4, none⟩ = some (.slice a2 kl c2) := (World.cell?_of_block (w := W1) (a := ⟨w.heap.size, 4, none⟩) (hW.out.1.block _ hw1 (fun e => Nat.lt_irrefl _ (HOB.out _ e.symm).2))).trans HBX.out.c4
    have hgl : Below n w wr := HB1.out.mono (Nat.le_trans hnB hBw) |>.trans ⟨hW.out.1.os, hW.out.1.tape, hW.out.1.output, hW.out.1.size, fun k hk => hW.out.1.block k (by omega) (fun e => by have := (HOB.out _ e.symm).1; omega)⟩
    cases rest with
    | nil =>
      have hi : i = kl := by have : i + 0 = kl := hlr; omega
      obtain ⟨_, _, q1, q2, _, q4, q5, q6⟩ := hfx.out
      simp only [BT.size, BT.depth] at q1 q2
      obtain ⟨Z, hZ⟩ : ∃ Z, k.size + 1 = Z := ⟨_, rfl⟩
      obtain ⟨E, hE⟩ : ∃ E, D + 1 = E := ⟨_, rfl⟩
      have hmZ : m = L + Z := by omega
      have hget : (l ++ hd :: done)[L]? = some hd := by rw [List.getElem?_append_right (by rw [HLL.out]; exact Nat.le_refl _), HLL.out, Nat.sub_self]; rfl
      obtain ⟨hr, hfz, hgB, hgl2, hcm, hcM, hLm⟩ := row15_at hW.out.2.2 hget
      have cz : wr.cell? ⟨g, L * 15 + 1, none⟩ = some (.int .i64 0) := by have := hr 1 _ rfl; rw [← HHD.out] at this; exact this
      have fz := hfz (L * 15 + 1)
      obtain ⟨h1, eh1⟩ : ∃ h1 : Rm, ({ hd with im := { hd.im with z := (Z : Int) } } : Rm) = h1 := ⟨_, rfl⟩
      have hs1 := row15_set (j := 1) (u := .int .i64 Z) (y' := h1) hW.out.2.2 hget (by omega) (by rw [← eh1]; rfl)
      have hset1 : (l ++ hd :: done).set L h1 = l ++ h1 :: done := by rw [List.set_append_right _ _ (by rw [HLL.out]; exact Nat.le_refl _), HLL.out, Nat.sub_self]; rfl
      rw [hset1] at hs1
      have hget1 : (l ++ h1 :: done)[L]? = some h1 := by rw [List.getElem?_append_right (by rw [HLL.out]; exact Nat.le_refl _), HLL.out, Nat.sub_self]; rfl
      obtain ⟨hr1, hfz1, _, _, _, _, _⟩ := row15_at hs1 hget1
      have cz1 : (wr.setCell ⟨g, L * 15 + 1, none⟩ (.int .i64 Z)).cell? ⟨g, L * 15 + 3, none⟩ = some (.int .i64 0) := by have := hr1 3 _ rfl; rw [← eh1, ← HHD.out] at this; exact this
      have fz1 := hfz1 (L * 15 + 3)
      obtain ⟨h2, eh2⟩ : ∃ h2 : Rm, ({ h1 with im := { h1.im with h := (E : Int) } } : Rm) = h2 := ⟨_, rfl⟩
      have hs2 := row15_set (j := 3) (u := .int .i64 E) (y' := h2) hs1 hget1 (by omega) (by rw [← eh2]; rfl)
      have hset2 : (l ++ h1 :: done).set L h2 = l ++ h2 :: done := by rw [List.set_append_right _ _ (by rw [HLL.out]; exact Nat.le_refl _), HLL.out, Nat.sub_self]; rfl
      rw [hset2] at hs2
      have HS2 := Fact.mk hs2
      have hgB' : (Value.slice (some ⟨g, 0, none⟩) m c).ownBlock = some g := rfl
      have hgo : some g = (Value.slice av0 L cv).ownBlock ∨ W1.heap.size ≤ g := by
        rcases hW.out.2.1 with h | ⟨b, h, hb⟩
        · exact .inl h
        · right; rw [hgB'] at h; cases h; exact hb
      have HGW := Fact.mk (grown_setN (grown_setN hW.out.1 hgo (L * 15 + 1) (.int .i64 Z)) hgo (L * 15 + 3) (.int .i64 E))
      have HAT : Fact ((Value.slice (some ⟨g, 0, none⟩) m c).ownBlock = (Value.slice av0 L cv).ownBlock ∨ ∃ b, (Value.slice (some ⟨g, 0, none⟩) m c).ownBlock = some b ∧ w.heap.size ≤ b) := ⟨by
        rcases hW.out.2.1 with h | ⟨b, h, hb⟩
        · exact .inl h
        · exact .inr ⟨b, h, by omega⟩⟩
      have HNEW : Fact ((h2 :: done).map (·.im) = ⟨p, k.size + 1, dp, k.depth + 1, pl, ⟨K, N, X, A⟩⟩ :: flatF L (dp + 1) 0 (L + 1) k ∧ (h2 :: done).map (fun r => (r.im.d, r.k)) = (⟨K, N, X, A⟩, k) :: subsF k) := ⟨by
        constructor
        · rw [List.map_cons, q4, ← eh2, ← eh1, ← HHD.out]
          simp only [flatF, List.append_nil, List.cons.injEq, Im.mk.injEq, and_true, true_and]
          exact ⟨by omega, by omega⟩
        · rw [List.map_cons, q5, ← eh2, ← eh1, ← HHD.out]
          simp [subsF]⟩
      have HALL : Fact (AS (Old n) w h2.av h2.im.d.ats ∧ FL (Old n) w h2.kv h2.k) := ⟨by
        rw [← eh2, ← eh1, ← HHD.out]
        exact ⟨HA.out, HFK.out⟩⟩
      have HQ6 := Fact.mk q6
      have hsub : IntKind.i64.wrap ((m : Int) - (L : Int)) = (Z : Int) := by rw [wrap_id (by omega) (by omega)]; omega
      have hadd : IntKind.i64.wrap ((D : Int) + 1) = (E : Int) := by rw [wrap_id (by omega) (by omega)]; omega
      have l0 : (0 : Int) ≤ L := by omega
      have l1 : (L : Int) < m := by omega
      have HMZ := Fact.mk hmZ
      have HZZ := Fact.mk hZ
      clear hfx hlr hm hkd hr hfz hget hset1 hget1 hr1 hfz1 hset2 hs1 hs2 q1 q2 q4 q5 q6 hmZ hZ hE hgo hgB' hW
      subst hi
      go_wp2_with fail
      go_ret
      have hgw := grown_trans (grown_below HB1.out) HGW.out (.inl rfl)
      have hlike := grown_like (n := n) hgw (fun k e => Nat.le_trans hnB (HOB.out k e).1)
      refine ⟨_, rfl, h2 :: done, by rw [HZZ.out, ← HMZ.out]; exact HS2.out, hgw, HAT.out, ⟨by rw [← hm0]; exact HNEW.out.1, HNEW.out.2, ?_⟩⟩
      intro r hr
      rcases List.mem_cons.1 hr with rfl | hr
      · exact ⟨HALL.out.1.like hlike, HALL.out.2.like hlike⟩
      · exact ⟨(HQ6.out r hr).1.like hlike, (HQ6.out r hr).2.like hlike⟩
    | node xb xo d' k' r' =>
      have hlen' : i + (r'.len + 1) = kl := hlr
      have hfu' : r'.len + 1 ≤ gk := hfu
      obtain ⟨g', rfl⟩ : ∃ g', gk = g' + 1 := ⟨gk - 1, by omega⟩
      have hlt2 : i < kl := by omega
      obtain ⟨ea2, hb2, _⟩ := hkd.out i hlt2
      subst ea2
      obtain ⟨hfat, ⟨hP, hHr⟩, q1, q2, q3, q4, q5, q6⟩ := hfx.out
      have hfat' := hfat.resolve_left (by show ¬ r'.len + 1 = 0; omega)
      obtain ⟨⟨av', ka', kc', e0, e1, e2, e3, e4, hav', h4, h5, hkk⟩, hrr⟩ := hfat'
      obtain ⟨x1', x2', x3', ex⟩ := hav'.val
      subst ex
      obtain ⟨kl', hkl'⟩ : ∃ kl', k'.len = kl' := ⟨_, rfl⟩
      simp only [BT.size] at q1
      simp only [BT.depth] at q2
      simp only [BT.slots] at q3
      have hcc : ∀ o, wr.cell? ⟨b2, o, none⟩ = w.cell? ⟨b2, o, none⟩ := fun o => hgl.cell (p := ⟨b2, o, none⟩) hb2
      have m0_ := (hcc _).trans e0
      have m1_ := (hcc _).trans e1
      have m2_ := (hcc _).trans e2
      have m3_ := (hcc _).trans e3
      have m4_ := (hcc _).trans e4
      have hlk : Like (Old n) w wr := like_below hgl
      have hml : (l ++ hd :: done).length = m := by rw [List.length_append, List.length_cons, HLL.out, hm]; omega
      have hcall := hP d' (.slice x1' x2' x3') (.slice ka' k'.len kc') n B wr (l ++ hd :: done) (.slice (some ⟨g, 0, none⟩) m c) L (dp + 1) i ⟨hav'.like hlk, FL.like hlk ⟨ka', kc', rfl, h4, h5, hkk⟩⟩ hnB (Nat.le_trans hBw (Nat.le_trans HB1.out.size hW.out.1.size)) (by rw [hml]; exact hW.out.2.2) (by rw [hml]; omega) (by omega) (by omega)
      obtain ⟨Z, hZ⟩ : ∃ Z, k'.size + 1 = Z := ⟨_, rfl⟩
      obtain ⟨m2, hm2'⟩ : ∃ m2, m + Z = m2 := ⟨_, rfl⟩
      rw [hml, hkl', hZ, hm2', show ((dp + 1 : Nat) : Int) = (dp : Int) + 1 from by omega] at hcall
      rw [hkl'] at m4_
      have HCALL := Fact.mk hcall
      obtain ⟨E, hE⟩ : ∃ E, k'.depth + 1 = E := ⟨_, rfl⟩
      obtain ⟨M, hM⟩ : ∃ M, max D E = M := ⟨_, rfl⟩
      have hmaxI : max (D : Int) (E : Int) = (M : Int) := by omega
      have hdpI : IntKind.i64.wrap ((dp : Int) + 1) = (dp : Int) + 1 := wrap_id (by omega) (by omega)
      have iI : (i : Int) < kl := by omega
      have iI0 : (0 : Int) ≤ i := by omega
      have mI0 : (0 : Int) ≤ m := by omega
      have mI1 : (m : Int) < m2 := by omega
      have HR : Fact ((r'.len = 0 ∨ FAt (Old n) w r' b2 (o2 + (i + 1) * 5)) ∧ Hered RFlatP r' ∧ k.size = done.length + (1 + k'.size + r'.size) ∧ k.depth = max D (max (k'.depth + 1) r'.depth) ∧ r'.slots ≤ 1000000) := ⟨.inr (by rw [show o2 + (i + 1) * 5 = o2 + i * 5 + 5 by omega]; exact hrr), hHr, q1, q2, by omega⟩
      have HQ4 := Fact.mk q4
      have HQ5 := Fact.mk q5
      have HQ6 := Fact.mk q6
      have HM := Fact.mk hm
      have HZ := Fact.mk hZ
      have HM2 := Fact.mk hm2'
      have HE := Fact.mk hE
      have HMM := Fact.mk hM
      have HML := Fact.mk hml
      clear hfx hfat hP hHr hrr hkk hav' hcall hlk e0 e1 e2 e3 e4 hkd hlr hfu q1 q2 q3 q4 q5 q6 hcc hgl hm hZ hm2' hE hM hml
      go_upto_region 9 with (go_at_call 43; refine HCALL.out.mono ?_; rintro e w5 ⟨v5, news, rfl, hown5, hgr5, hat5, hn5⟩)
      obtain ⟨g5, c5, rfl⟩ := own_pos (by omega) hown5
      obtain ⟨hn1, hn2, hn3⟩ := hn5.out
      obtain ⟨nw, news', rfl⟩ : ∃ nw news', news = nw :: news' := by
        cases news with
        | nil => simp at hn1
        | cons a b => exact ⟨a, b, rfl⟩
      have hnwh : nw.im.h = E := by
        rw [List.map_cons, List.cons.injEq] at hn1
        rw [hn1.1]
        have := HE.out
        show (k'.depth : Int) + 1 = E
        omega
      have hget : ((l ++ hd :: done) ++ nw :: news')[m]? = some nw := by
        rw [List.getElem?_append_right (by rw [HML.out]; exact Nat.le_refl _), HML.out, Nat.sub_self]; rfl
      obtain ⟨hr, _, _, _, hcm5, _, _⟩ := row15_at hown5 hget
      have ch : w5.cell? ⟨g5, m * 15 + 3, none⟩ = some (.int .i64 E) := by have := hr 3 _ rfl; rw [hnwh] at this; exact this
      have HW5 : Fact (W1.grownBy w5 (Value.slice av0 L cv).ownBlock ∧ ((Value.slice (some ⟨g5, 0, none⟩) m2 c5).ownBlock = (Value.slice av0 L cv).ownBlock ∨ ∃ b, (Value.slice (some ⟨g5, 0, none⟩) m2 c5).ownBlock = some b ∧ W1.heap.size ≤ b) ∧ w5.ownsRow B 49 15 (.slice (some ⟨g5, 0, none⟩) m2 c5) m2 (c15L (l ++ hd :: (done ++ nw :: news')))) := ⟨by
        have hsz := hW.out.1.size
        refine ⟨grown_trans hW.out.1 hgr5 ?_, ?_, ?_⟩
        · exact hW.out.2.1
        · rcases hat5 with h | ⟨b, h, hb⟩
          · rw [h]; exact hW.out.2.1
          · exact .inr ⟨b, h, by omega⟩
        · have e : (l ++ hd :: done) ++ nw :: news' = l ++ hd :: (done ++ nw :: news') := by simp
          rw [← e]
          exact hown5⟩
      have hnl : (nw :: news').length = Z := by
        have := congrArg List.length hn1
        simp only [List.length_map, List.length_cons, flatF_len] at this
        rw [List.length_cons]
        have h2 := HZ.out
        omega
      have HMAP : Fact (flatF L (dp + 1) 0 (L + 1) k = (done ++ nw :: news').map (·.im) ++ flatF L (dp + 1) (i + 1) (L + 1 + (done ++ nw :: news').length) r') := ⟨by
        have h1 := HQ4.out
        rw [flatF] at h1
        rw [h1, List.map_append, hn1, List.append_assoc, List.cons_append]
        have hmm : L + 1 + done.length = m := HM.out.symm
        rw [hmm, show L + 1 + (done ++ nw :: news').length = m + 1 + k'.size by rw [List.length_append, hnl]; have := HZ.out; omega]⟩
      have HSUB : Fact (subsF k = (done ++ nw :: news').map (fun r => (r.im.d, r.k)) ++ subsF r') := ⟨by
        have h1 := HQ5.out
        rw [subsF] at h1
        rw [h1, List.map_append, hn2, List.append_assoc, List.cons_append]⟩
      have HALLR : Fact (AllR n w (done ++ nw :: news')) := ⟨HQ6.out.append (fun r hr => by
        have hb : Like (Old n) w5 w := fun k hk _ => by
          have hk' : k < n := hk
          have hsz := HB1.out.size
          have h1 := HW5.out.1.block k (by omega) (fun e => by have := (HOB.out _ e.symm).1; omega)
          exact ((HB1.out.block k (by omega)).symm).trans h1.symm
        exact ⟨(hn3 r hr).1.like hb, (hn3 r hr).2.like hb⟩)⟩
      have HLEN : Fact (m2 = L + 1 + (done ++ nw :: news').length) := ⟨by rw [List.length_append, hnl]; have := HM.out; have := HM2.out; omega⟩
      have HSZ : Fact (k.size = (done ++ nw :: news').length + r'.size) := ⟨by rw [List.length_append, hnl]; have := HR.out.2.2.1; have := HZ.out; omega⟩
      have HDP : Fact (k.depth = max M r'.depth) := ⟨by have := HR.out.2.2.2.1; have := HE.out; have := HMM.out; omega⟩
      clear hown5 hgr5 hat5 hn5 hn1 hn2 hn3 hr hget hW HCALL hnwh hnl m0_ m1_ m2_ m3_ m4_
      go_wp2_with fail
      go_roundg g'
      case measure => omega
      case rel => exact ⟨i + 1, r', done ++ nw :: news', M, m2, g5, c5, ⟨rfl, rfl, by go_num⟩, by omega, by omega, HLEN.out, HW5, ⟨HR.out.1, HR.out.2.1, HSZ.out, HDP.out, HR.out.2.2.2.2, HMAP.out, HSUB.out, HALLR.out⟩⟩
theorem rflat_any (k : M.F) : RFlatP k := indH rflat_step k
end Go.Proofs.Ytkojhgagkoeeiaa
end

/- kidCounts: of the list of a tree's nodes, how many kids each has. -/
section
set_option linter.unusedVariables false
set_option linter.unusedSimpArgs false
namespace Go.Proofs.Ytkojhgagkoeeiaa
open Go.Deep (BT)
open Go.RowKit Go.Shelf M
open Bt (mx IsU mx_u ret_int)

def cU (l : List Int) : List Value := l.map fun i => .int .u64 i
theorem cU_len (l : List Int) : (cU l).length = l.length := by simp [cU]
theorem cU_get {l : List Int} {i : Nat} {y : Int} (h : l[i]? = some y) : (cU l)[i]? = some (.int .u64 y) := by simp [cU, h]
theorem cU_set (l : List Int) (i : Nat) (y : Int) : (cU l).set i (.int .u64 y) = cU (l.set i y) := by simp [cU, List.map_set]
theorem made_zeroU (n : Nat) : (madeCells (Value.int .u64 0).cells (n * 1)).toList = cU (List.replicate n 0) := by
  apply List.ext_getElem?
  intro i
  rw [Nat.mul_one]
  by_cases hi : i < n
  · simp [madeCells, cU, hi, Value.cells, Nat.mod_one]
  · rw [List.getElem?_eq_none (by simp [madeCells]; omega), List.getElem?_eq_none (by simp [cU]; omega)]
theorem infoU64 : (Try.prog.info? 88).map (fun i => (i.zero, i.size, i.bytes)) = some (some (.int .u64 0), 1, 8) := by kernel_rfl
theorem rowV_at {w : World} {B E g n cap : Nat} {xs : List Value} (h : w.ownsRow B E 1 (.slice (some ⟨g, 0, none⟩) n cap) n xs) {i : Nat} {y : Value} (hy : xs[i]? = some y) :
    w.cell? ⟨g, i, none⟩ = some y ∧ (∀ o, w.frozen? ⟨g, o, none⟩ = false) ∧ B ≤ g ∧ g < w.heap.size ∧ n ≤ cap ∧ cap ≤ maxLen ∧ i < n := by
  obtain ⟨h1, h2⟩ := h
  have hi : i < n := by have := (List.getElem?_eq_some_iff.1 hy).1; omega
  rcases h2 with ⟨e, _⟩ | ⟨g', cap', cur, e, hg, hh, hc1, hc2, hs, ht⟩
  · cases e
  · cases e
    refine ⟨?_, fun o => by simp [World.frozen?, hh], hg, (Array.getElem?_eq_some_iff.1 hh).1, hc1, hc2, hi⟩
    simp only [World.cell?, hh]
    rw [← ht, List.getElem?_take] at hy
    split at hy
    · simpa using hy
    · cases hy
theorem rowV_set {w : World} {B E g n cap : Nat} {xs : List Value} (h : w.ownsRow B E 1 (.slice (some ⟨g, 0, none⟩) n cap) n xs) (i : Nat) (y : Value) :
    (w.setCell ⟨g, i, none⟩ y).ownsRow B E 1 (.slice (some ⟨g, 0, none⟩) n cap) n (xs.set i y) := by
  obtain ⟨h1, h2⟩ := h
  refine ⟨by simpa using h1, .inr ?_⟩
  rcases h2 with ⟨e, _⟩ | ⟨g', cap', cur, e', hg, hh, hc1, hc2, hs, ht⟩
  · cases e
  · cases e'
    refine ⟨g, cap, cur.setIfInBounds i y, rfl, hg, ?_, hc1, hc2, by simpa using hs, ?_⟩
    · simp only [World.setCell, Array.getElem?_modify, hh]
      simp
    · rw [Array.toList_setIfInBounds, List.take_set, ht]

/-- the counts behind the first i nodes -/
def cnts (l : List Im) (i : Nat) : List Int := (l.take i).foldl stepC (List.replicate l.length 0)
theorem cnts_len (l : List Im) (i : Nat) : (cnts l i).length = l.length := by
  unfold cnts
  generalize List.take i l = m
  have : ∀ (m : List Im) (C : List Int), (m.foldl stepC C).length = C.length := by
    intro m
    induction m with
    | nil => intro C; rfl
    | cons x m ih => intro C; rw [List.foldl_cons, ih, stepC_len]
  rw [this]; simp
theorem cnts_succ {l : List Im} {i : Nat} {y : Im} (h : l[i]? = some y) : cnts l (i + 1) = stepC (cnts l i) y := by
  unfold cnts
  rw [List.take_add_one, h, List.foldl_append]
  rfl
theorem cnts_le : ∀ (l : List Im) (i : Nat), ∀ a ∈ cnts l i, 0 ≤ a ∧ a ≤ i
  | l, 0, a, h => by
    simp [cnts] at h
    omega
  | l, i + 1, a, h => by
    cases hy : l[i]? with
    | none =>
      have hle : l.length ≤ i := List.getElem?_eq_none_iff.1 hy
      have e : cnts l (i + 1) = cnts l i := by unfold cnts; rw [List.take_of_length_le hle, List.take_of_length_le (by omega)]
      rw [e] at h
      have := cnts_le l i a h
      omega
    | some y =>
      rw [cnts_succ hy] at h
      have := stepC_le (cnts_le l i) a h
      omega
theorem stepC_none {C : List Int} {y : Im} (h : y.p = -1) : stepC C y = C := by unfold stepC; rw [if_pos (by omega)]
theorem stepC_some {C : List Int} {y : Im} {q : Nat} {c : Int} (h : y.p = q) (hc : C[q]? = some c) : stepC C y = C.set q (c + 1) := by
  unfold stepC
  rw [if_neg (by omega), h, Int.toNat_natCast]
  apply List.ext_getElem?
  intro i
  rw [List.getElem?_modify, List.getElem?_set]
  by_cases hq : q = i
  · subst hq; rw [hc]; simp [(List.getElem?_eq_some_iff.1 hc).1]
  · simp [hq]

set_option maxRecDepth 20000 in
set_option maxHeartbeats 4000000 in
theorem counts_any (d : Nd) (k : M.F) (its : List (Im × Value)) (g1 c1 n B1 : Nat) (w : World) (hrow : w.ownsRow B1 65 10 (.slice (some ⟨g1, 0, none⟩) n c1) n (cellsIt its)) (hmap : its.map (·.1) = flatT d k) (hks : k.size + 1 = n) (hn : n ≤ 1000000) (hav : ∀ y ∈ its, ∃ a l c, y.2 = .slice a l c) :
    Calls Try.prog 73 #[.slice (some ⟨g1, 0, none⟩) n c1] w fun e w' => ∃ g2, e = .returned (.slice (some ⟨g2, 0, none⟩) n n) ∧ Below w.heap.size w w' ∧ Fact (w'.ownsRow w.heap.size 88 1 (.slice (some ⟨g2, 0, none⟩) n n) n (cU (cntT k))) := by
  have hits : its.length = n := by have := congrArg List.length hmap; rw [List.length_map, flatT_len, hks] at this; exact this
  have hfl : (flatT d k).length = n := by rw [flatT_len, hks]
  obtain ⟨i0, hii, hzz0, hzz1, hzz2⟩ := info_parts infoU64
  have hn1 : 1 ≤ n := by omega
  have HROW := Fact.mk hrow
  have HMAP := Fact.mk hmap
  have HAV := Fact.mk hav
  have HFL := Fact.mk hfl
  have HKS := Fact.mk hks
  clear hrow hmap hav hks
  go_enter Try.func73, Try.ntmps73
  go_wp2_with (at_make; refine wpList_make_full _ rfl (.tmp 7) (.tmp 7) 86 rfl w.heap.size 88 i0 (.int .u64 0) 1 Try.underlying86 hii hzz0 hzz1 .i64 .i64 (n : Int) (n : Int) n rfl rfl rfl rfl (by rw [hzz2]; omega) (by unfold maxLen; omega) (Nat.le_refl _) ?_; intro w4 hown4 hgr4)
  have hO4 : Fact (w4.ownsRow w.heap.size 88 1 (.slice (some ⟨w.heap.size, 0, none⟩) n n) n (cU (cnts (flatT d k) 0))) := ⟨by
    have e : cnts (flatT d k) 0 = List.replicate n 0 := by unfold cnts; rw [HFL.out]; rfl
    rw [e, ← made_zeroU]; exact hown4⟩
  have hB4 : Fact (Below w.heap.size w w4) := ⟨(Below.refl _ w).grown hgr4 (Nat.le_refl _) (fun k e => by cases e)⟩
  clear hown4 hgr4
  go_loopg [11] n (fun gf iv wr => ∃ i : Nat, iv = .int .i64 i ∧ i ≤ n ∧ n - i ≤ gf ∧ Fact (Below w.heap.size w wr) ∧ Fact (wr.ownsRow w.heap.size 88 1 (.slice (some ⟨w.heap.size, 0, none⟩) n n) n (cU (cnts (flatT d k) i))))
  case atStart => exact ⟨0, rfl, Nat.zero_le _, Nat.le_refl _, hB4, hO4⟩
  case round =>
    obtain ⟨i, rfl, hi, hgf, hBr, hOr⟩ := hrel
    by_cases hin : i = n
    · subst hin
      have hdec : decide ((i : Int) < (i : Int)) = false := decide_eq_false (by omega)
      have HE : Fact (cnts (flatT d k) i = cntT k) := ⟨by
        unfold cnts
        rw [List.take_of_length_le (by rw [HFL.out]; exact Nat.le_refl _), flatT_len]
        exact cnt_all d k⟩
      go_wp2_with fail
      go_ret
      exact ⟨w.heap.size, rfl, hBr.out, ⟨by rw [← HE.out]; exact hOr.out⟩⟩
    · have hlt : i < n := by omega
      have hdec : decide ((i : Int) < (n : Int)) = true := decide_eq_true (by omega)
      obtain ⟨y, hy⟩ : ∃ y, its[i]? = some y := ⟨its[i]'(by omega), by simp⟩
      have hy1 : (flatT d k)[i]? = some y.1 := by rw [← HMAP.out, List.getElem?_map, hy]; rfl
      have hsucc := cnts_succ hy1
      have hpar : y.1.p = -1 ∨ ∃ q : Nat, y.1.p = q ∧ q < n := by
        cases i with
        | zero =>
          left
          have h1 := hy1
          rw [flatT] at h1
          simp at h1
          rw [← h1]
        | succ i =>
          right
          obtain ⟨q, x, _, hu⟩ := flatT_up d k (i + 1) y.1 (by omega) hy1
          have h1 := hu.lt
          have h2 := hu.p
          rw [Nat.zero_add] at h2
          exact ⟨q, h2, by omega⟩
      obtain ⟨ya, yl, yc, hyv⟩ := HAV.out y (List.mem_of_getElem? hy)
      have hrr := row10_at (own_block HROW.out (fun k _ hk => hBr.out.block k hk)) hy
      obtain ⟨hr, _, _, _, hc1, _, _⟩ := hrr
      obtain ⟨⟨yp, yz, ydp, yh, ypl, ⟨K, N, X, A⟩⟩, yav⟩ := y
      dsimp only at hyv hpar
      subst hyv
      have r0 : wr.cell? ⟨g1, i * 10, none⟩ = some (.int .i64 yp) := hr 0 _ rfl
      have r1 : wr.cell? ⟨g1, i * 10 + 1, none⟩ = some (.int .i64 yz) := hr 1 _ rfl
      have r2 : wr.cell? ⟨g1, i * 10 + 2, none⟩ = some (.int .i64 ydp) := hr 2 _ rfl
      have r3 : wr.cell? ⟨g1, i * 10 + 3, none⟩ = some (.int .i64 yh) := hr 3 _ rfl
      have r4 : wr.cell? ⟨g1, i * 10 + 4, none⟩ = some (.int .i64 ypl) := hr 4 _ rfl
      have r5 : wr.cell? ⟨g1, i * 10 + 5, none⟩ = some (.int .i64 K) := hr 5 _ rfl
      have r6 : wr.cell? ⟨g1, i * 10 + 6, none⟩ = some (.string N) := hr 6 _ rfl
      have r7 : wr.cell? ⟨g1, i * 10 + 7, none⟩ = some (.string X) := hr 7 _ rfl
      have r8 : wr.cell? ⟨g1, i * 10 + 8, none⟩ = some (.slice ya yl yc) := hr 8 _ rfl
      have r9 : wr.cell? ⟨g1, i * 10 + 9, none⟩ = some (.slice none 0 0) := hr 9 _ rfl
      obtain ⟨W2, hW2⟩ : ∃ W2, wr.alloc (.cells #[.int .i64 yp, .int .i64 yz, .int .i64 ydp, .int .i64 yh, .int .i64 ypl, .int .i64 K, .string N, .string X, .slice ya yl yc, .slice none 0 0] 65) = W2 := ⟨_, rfl⟩
      have hB2 : Fact (Below w.heap.size w W2) := ⟨by rw [← hW2]; exact hBr.out.alloc hBr.out.size _⟩
      have v0 : W2.cell? ⟨wr.heap.size, 0, none⟩ = some (.int .i64 yp) := by rw [← hW2]; exact World.cell?_alloc_new wr _ _ 0
      have hO2 : Fact (W2.ownsRow w.heap.size 88 1 (.slice (some ⟨w.heap.size, 0, none⟩) n n) n (cU (cnts (flatT d k) i))) := ⟨by
        rw [← hW2]; exact own_block hOr.out (fun k _ hk => Below.heap_alloc _ _ _ hk)⟩
      have i0_ : (0 : Int) ≤ i := by omega
      have i1_ : (i : Int) < n := by omega
      obtain ⟨g', rfl⟩ : ∃ g', gk = g' + 1 := ⟨gk - 1, by omega⟩
      have HW2 := Fact.mk hW2
      have HV0 := Fact.mk v0
      clear hr hBr hOr hy hy1 hW2 v0
      go_upto_region 5 with fail
      rw [HW2.out]
      have v0 := HV0.out
      rcases hpar with rfl | ⟨q, rfl, hqn⟩
      · rw [stepC_none rfl] at hsucc
        have HS := Fact.mk hsucc
        clear hsucc
        go_wp2_with fail
        go_roundg g'
        case measure => omega
        case rel => exact ⟨i + 1, by go_num, by omega, by omega, hB2, ⟨by rw [HS.out]; exact hO2.out⟩⟩
      · obtain ⟨c, hc⟩ : ∃ c, (cnts (flatT d k) i)[q]? = some c := ⟨(cnts (flatT d k) i)[q]'(by rw [cnts_len, HFL.out]; exact hqn), by simp⟩
        have hcb := cnts_le _ _ c (List.mem_of_getElem? hc)
        rw [stepC_some rfl hc] at hsucc
        obtain ⟨u0, uf, _, hug, _⟩ := rowV_at hO2.out (cU_get hc)
        have hst := rowV_set hO2.out q (.int .u64 (c + 1))
        rw [cU_set, ← hsucc] at hst
        have wc : IntKind.u64.wrap (c + 1) = c + 1 := by rw [IntKind.wrap_u64]; omega
        have q0_ : (0 : Int) ≤ q := by omega
        have q1_ : (q : Int) < n := by omega
        have HST := Fact.mk hst
        clear hsucc hst hc hcb
        go_wp2_with fail
        go_roundg g'
        case measure => omega
        case rel => exact ⟨i + 1, by go_num, by omega, by omega, ⟨hB2.out.setCell (p := ⟨w.heap.size, q, none⟩) (Nat.le_refl _) _⟩, HST⟩
end Go.Proofs.Ytkojhgagkoeeiaa
end

/- numbers: of a tree and the list of its nodes, the number of each with all in it. -/
section
set_option linter.unusedVariables false
set_option linter.unusedSimpArgs false
namespace Go.Proofs.Ytkojhgagkoeeiaa
open Go.Deep (BT)
open Go.RowKit Go.Shelf M
open Bt (mx IsU mx_u ret_int)

/-- so far the first i are there -/
def inis (T : List Int) (n i : Nat) : List Int := T.take i ++ List.replicate (n - i) 0
theorem inis_step {T : List Int} {n i : Nat} {v : Int} (hT : T.length = n) (h : T[i]? = some v) : (inis T n i).set i v = inis T n (i + 1) := by
  have hi : i < n := by have := (List.getElem?_eq_some_iff.1 h).1; omega
  unfold inis
  rw [show n - i = (n - (i + 1)) + 1 by omega, List.replicate_succ, List.take_add_one, h, List.set_append_right _ _ (by rw [List.length_take]; omega)]
  have : i - (List.take i T).length = 0 := by rw [List.length_take]; omega
  rw [this]
  simp
theorem len_le : ∀ f : M.F, f.len ≤ f.size
  | .nil => Nat.le_refl _
  | .node _ _ d k r => by have := len_le r; simp only [BT.len, BT.size]; omega
theorem inis_zero (T : List Int) (n : Nat) : inis T n 0 = List.replicate n 0 := by simp [inis]
theorem inis_all {T : List Int} {n : Nat} (hT : T.length = n) : inis T n n = T := by
  unfold inis
  rw [List.take_of_length_le (by omega), Nat.sub_self]
  simp
theorem iniT_len (d : Nd) (k : M.F) : (iniT d k).length = k.size + 1 := by simp [iniT, iniF_len]
theorem cntT_len (k : M.F) : (cntT k).length = k.size + 1 := by simp [cntT, cntF_len]

theorem ownsRow_pos {w : World} {B E z n : Nat} {v : Value} {xs : List Value} (hn : 1 ≤ n) (h : w.ownsRow B E z v n xs) : ∃ g c, v = .slice (some ⟨g, 0, none⟩) n c := by
  obtain ⟨m, rfl⟩ : ∃ m, n = m + 1 := ⟨n - 1, by omega⟩
  exact ownsRow_succ h
structure NInv (n : Nat) (K : Int) (N X : ByteArray) (va vk : Value) (m E : Nat) (v : Value) (xs : List Value) (L : List Int) (w W : World) : Prop where
  below : Below w.heap.size w W
  box : Box5 w.heap.size K N X va vk W
  side : W.ownsRow (w.heap.size + 2) E 1 v m xs
  all : W.ownsRow (w.heap.size + 1) 88 1 (.slice (some ⟨w.heap.size + 1, 0, none⟩) n n) n (cU L)
theorem own_upH {w w' : World} {B E z n : Nat} {v : Value} {xs : List Value} (h : w.ownsRow B E z v n xs) (hb : Below w.heap.size w w') : w'.ownsRow B E z v n xs := own_block h (fun k _ hk => hb.block k hk)
theorem NInv.up {n : Nat} {K : Int} {N X : ByteArray} {va vk : Value} {m E : Nat} {v : Value} {xs : List Value} {L : List Int} {w W W' : World} (h : NInv n K N X va vk m E v xs L w W) (hb : Below W.heap.size W W') : NInv n K N X va vk m E v xs L w W' :=
  ⟨h.below.trans (hb.mono h.below.size), h.box.keep hb, own_upH h.side hb, own_upH h.all hb⟩
theorem NInv.put {n : Nat} {K : Int} {N X : ByteArray} {va vk : Value} {m E : Nat} {v : Value} {xs : List Value} {L : List Int} {w W : World} (h : NInv n K N X va vk m E v xs L w W) (i : Nat) (y : Int) : NInv n K N X va vk m E v xs (L.set i y) w (W.setCell ⟨w.heap.size + 1, i, none⟩ (.int .u64 y)) := by
  have hc : ∀ j, (W.setCell ⟨w.heap.size + 1, i, none⟩ (.int .u64 y)).cell? ⟨w.heap.size, j, none⟩ = W.cell? ⟨w.heap.size, j, none⟩ := fun j =>
    World.cell?_of_block (a := ⟨w.heap.size, j, none⟩) (Below.heap_setCell _ _ _ _ (by show w.heap.size ≠ w.heap.size + 1; omega))
  refine ⟨h.below.setCell (p := ⟨w.heap.size + 1, i, none⟩) (by show w.heap.size ≤ w.heap.size + 1; omega) _, ⟨(hc 0).trans h.box.c0, (hc 1).trans h.box.c1, (hc 2).trans h.box.c2, (hc 3).trans h.box.c3, (hc 4).trans h.box.c4⟩, own_block h.side (fun k e hk => Below.heap_setCell _ _ _ _ (fun e' => by have := (h.side.lt k e.symm).1; have e2 : k = w.heap.size + 1 := e'; omega)), ?_⟩
  have := rowV_set h.all i (.int .u64 y)
  rw [cU_set] at this
  exact this
theorem NInv.drew {n : Nat} {K : Int} {N X : ByteArray} {va vk : Value} {m E : Nat} {v : Value} {xs : List Value} {L : List Int} {w W : World} (h : NInv n K N X va vk m E v xs L w W) : NInv n K N X va vk m E v xs L w W.drew :=
  ⟨h.below.drew, ⟨h.box.c0, h.box.c1, h.box.c2, h.box.c3, h.box.c4⟩, h.side, h.all⟩
theorem stepP_none {its : List Im} {A : List Int} {id : Nat} {y : Im} (hy : its[id]? = some y) (h : y.p = -1) : stepP its A id = A := by
  unfold stepP; rw [hy]; dsimp only; rw [if_pos (by omega)]
theorem stepP_some {its : List Im} {A : List Int} {id q : Nat} {y : Im} {a b : Int} (hy : its[id]? = some y) (h : y.p = q) (ha : A[q]? = some a) (hb : A[id]? = some b) : stepP its A id = A.set q (mx a b) := by
  unfold stepP; rw [hy]; dsimp only
  rw [if_neg (by omega), h, Int.toNat_natCast, List.getD_eq_getElem?_getD, hb]
  apply List.ext_getElem?
  intro i
  rw [List.getElem?_modify, List.getElem?_set]
  by_cases hq : q = i
  · subst hq; rw [ha]; simp [(List.getElem?_eq_some_iff.1 ha).1]
  · simp [hq]
theorem stepP_u {its : List Im} {A : List Int} {id : Nat} (h : ∀ a ∈ A, IsU a) : ∀ a ∈ stepP its A id, IsU a := by
  unfold stepP
  split
  · exact h
  · split
    · exact h
    · intro a ha
      rw [List.mem_iff_getElem?] at ha
      obtain ⟨i, hi⟩ := ha
      rw [List.getElem?_modify] at hi
      rename_i y _ _
      cases hc : A[i]? with
      | none => rw [hc] at hi; simp at hi
      | some c =>
        rw [hc] at hi
        simp at hi
        split at hi
        · rw [← hi]; exact mx_u _ _
        · rw [← hi]; exact h c (List.mem_of_getElem? hc)
def nums (d : Nd) (k : M.F) (i : Nat) : List Int := ((postF k 1 ++ [0]).take i).foldl (stepP (flatT d k)) (iniT d k)
theorem nums_u (d : Nd) (k : M.F) (i : Nat) : ∀ a ∈ nums d k i, IsU a := by
  unfold nums
  generalize List.take i (postF k 1 ++ [0]) = m
  have : ∀ (m : List Nat) (A : List Int), (∀ a ∈ A, IsU a) → ∀ a ∈ m.foldl (stepP (flatT d k)) A, IsU a := by
    intro m
    induction m with
    | nil => intro A h; exact h
    | cons x m ih => intro A h; rw [List.foldl_cons]; exact ih _ (stepP_u h)
  exact this m _ (iniT_u d k)
theorem nums_len (d : Nd) (k : M.F) (i : Nat) : (nums d k i).length = k.size + 1 := by
  unfold nums
  generalize List.take i (postF k 1 ++ [0]) = m
  have : ∀ (m : List Nat) (A : List Int), (m.foldl (stepP (flatT d k)) A).length = A.length := by
    intro m
    induction m with
    | nil => intro A; rfl
    | cons x m ih => intro A; rw [List.foldl_cons, ih, stepP_len]
  rw [this, iniT_len]
theorem nums_succ {d : Nd} {k : M.F} {i id : Nat} (h : (postF k 1 ++ [0])[i]? = some id) : nums d k (i + 1) = stepP (flatT d k) (nums d k i) id := by
  unfold nums
  rw [List.take_add_one, h, List.foldl_append]
  rfl
theorem iniT_get {d : Nd} {k : M.F} {i : Nat} {y : Im} {c : Int} (hy : (flatT d k)[i]? = some y) (hc : (cntT k)[i]? = some c) : (iniT d k)[i]? = some (mx (al y.d) c) := by
  rw [iniT_zip, List.getElem?_zipWith, hy, hc]
theorem cntT_u (k : M.F) : ∀ c ∈ cntT k, 0 ≤ c ∧ c ≤ k.size := by
  have h : ∀ f : M.F, ∀ c ∈ cntF f, 0 ≤ c ∧ c ≤ f.size := by
    intro f
    induction f with
    | nil => intro c hc; cases hc
    | node _ _ d k r ih1 ih2 =>
      intro c hc
      have := len_le k
      simp only [BT.size]
      rcases List.mem_cons.1 hc with rfl | hc
      · omega
      · rcases List.mem_append.1 hc with hc | hc
        · have := ih1 c hc; omega
        · have := ih2 c hc; omega
  intro c hc
  rcases List.mem_cons.1 hc with rfl | hc
  · have := len_le k; omega
  · exact h k c hc

set_option maxRecDepth 100000 in
set_option maxHeartbeats 8000000 in
theorem numbers_any (d : Nd) (k : M.F) (va ka : Value) (its : List (Im × Value)) (g1 c1 n B1 : Nat) (S : Nat → Prop) (w : World) (hl : Lies w.heap.size w d k va ka) (hrow : w.ownsRow B1 65 10 (.slice (some ⟨g1, 0, none⟩) n c1) n (cellsIt its)) (hmap : its.map (·.1) = flatT d k) (hks : k.size + 1 = n) (hn : n ≤ 1000000) (hdep : k.depth + 1 ≤ 1000000)
    (hav : ∀ y ∈ its, AS S w y.2 y.1.d.ats) :
    Calls Try.prog 65 #[nodeV d va ka, .slice (some ⟨g1, 0, none⟩) n c1] w fun e w' => ∃ g2, e = .returned (.slice (some ⟨g2, 0, none⟩) n n) ∧ Below w.heap.size w w' ∧ Fact (w'.ownsRow w.heap.size 88 1 (.slice (some ⟨g2, 0, none⟩) n n) n (cU (finT d k))) := by
  have hits : its.length = n := by have := congrArg List.length hmap; rw [List.length_map, flatT_len, hks] at this; exact this
  have hfl : (flatT d k).length = n := by rw [flatT_len, hks]
  obtain ⟨i0, hii, hzz0, hzz1, hzz2⟩ := info_parts infoU64
  have hn1 : 1 ≤ n := by omega
  obtain ⟨p1, p2, p3, e1⟩ := hl.a.val
  obtain ⟨q1, q2, e2⟩ := hl.f.val
  subst e1 e2
  obtain ⟨kl, hkl⟩ : ∃ kl, k.len = kl := ⟨_, rfl⟩
  rw [hkl] at hl ⊢
  clear hkl
  obtain ⟨K, N, X, A⟩ := d
  have HL := Fact.mk hl
  have HROW := Fact.mk hrow
  have HMAP := Fact.mk hmap
  have HAV := Fact.mk hav
  have HFL := Fact.mk hfl
  have HKS := Fact.mk hks
  have HIT := Fact.mk hits
  obtain ⟨W1, hW1⟩ : ∃ W1, w.alloc (.cells #[.int .i64 K, .string N, .string X, .slice p1 p2 p3, .slice q1 kl q2] 25) = W1 := ⟨_, rfl⟩
  have hB1 : Below w.heap.size w W1 := by rw [← hW1]; exact (Below.refl _ w).alloc (Nat.le_refl _) _
  have hz1 : W1.heap.size = w.heap.size + 1 := by rw [← hW1]; simp
  have hbx : Box5 w.heap.size K N X (.slice p1 p2 p3) (.slice q1 kl q2) W1 := by rw [← hW1]; exact Box5.new _ _ _ _ _ _ _
  have HW1 := Fact.mk hW1
  have HZ1 := Fact.mk hz1
  clear hrow hmap hav hks hl hits hfl hW1 hz1
  go_enter Try.func65, Try.ntmps65
  go_upto_region 1 with fail
  rw [HW1.out]
  go_upto_region 2 with (at_make; refine wpList_make_full _ rfl (.tmp 12) (.tmp 12) 86 rfl W1.heap.size 88 i0 (.int .u64 0) 1 Try.underlying86 hii hzz0 hzz1 .i64 .i64 (n : Int) (n : Int) n rfl rfl rfl rfl (by rw [hzz2]; omega) (by unfold maxLen; omega) (Nat.le_refl _) ?_; intro w4 hown4 hgr4)
  rw [HZ1.out]
  have hB4 : Below W1.heap.size W1 w4 := (Below.refl _ W1).grown hgr4 (Nat.le_refl _) (fun k e => by cases e)
  have hO4 : w4.ownsRow (w.heap.size + 1) 88 1 (.slice (some ⟨w.heap.size + 1, 0, none⟩) n n) n (cU (inis (iniT ⟨K, N, X, A⟩ k) n 0)) := by
    rw [inis_zero, ← made_zeroU, ← HZ1.out]; exact hown4
  have hz4 : w.heap.size + 2 ≤ w4.heap.size := by have h : w.heap.size + 1 < w4.heap.size := (hO4.lt _ rfl).2; omega
  have hR4 : w4.ownsRow B1 65 10 (.slice (some ⟨g1, 0, none⟩) n c1) n (cellsIt its) := own_upH (own_block HROW.out (fun k _ hk => hB1.block k hk)) hB4
  have hbx4 : Box5 w.heap.size K N X (.slice p1 p2 p3) (.slice q1 kl q2) w4 := hbx.keep hB4
  have hB5 : Below w.heap.size w w4 := hB1.trans (hB4.mono hB1.size)
  have hyv : ∀ y ∈ its, ∃ a l c, y.2 = .slice a l c := fun y hy => by
    obtain ⟨a, c, e, _⟩ := HAV.out y hy
    exact ⟨a, _, c, e⟩
  clear hown4 hgr4
  go_upto_region 3 with (go_at_call 73; refine (counts_any ⟨K, N, X, A⟩ k its g1 c1 n B1 w4 hR4 HMAP.out HKS.out hn hyv).mono ?_; rintro e w5 ⟨g2, rfl, hb5, hr5⟩)
  have HI : Fact (NInv n K N X (.slice p1 p2 p3) (.slice q1 kl q2) n 88 (.slice (some ⟨g2, 0, none⟩) n n) (cU (cntT k)) (inis (iniT ⟨K, N, X, A⟩ k) n 0) w w5) := ⟨⟨hB5.trans (hb5.mono hB5.size), hbx4.keep hb5, own_lessP hr5.out hz4, own_upH hO4 hb5⟩⟩
  clear hb5 hr5 hB5 hbx4 hyv hR4 hz4 hO4 hB4 hB1 hbx
  go_loopg [17] n (fun gf iv wr => ∃ i : Nat, iv = .int .i64 i ∧ i ≤ n ∧ n - i ≤ gf ∧ Fact (NInv n K N X (.slice p1 p2 p3) (.slice q1 kl q2) n 88 (.slice (some ⟨g2, 0, none⟩) n n) (cU (cntT k)) (inis (iniT ⟨K, N, X, A⟩ k) n i) w wr))
  case atStart => exact ⟨0, rfl, Nat.zero_le _, Nat.le_refl _, HI⟩
  case round =>
    obtain ⟨i, rfl, hi, hgf, hI⟩ := hrel
    by_cases hin : i = n
    · subst hin
      have hdec : decide ((i : Int) < (i : Int)) = false := decide_eq_false (by omega)
      have hT0 : inis (iniT ⟨K, N, X, A⟩ k) i i = nums ⟨K, N, X, A⟩ k 0 := by rw [inis_all (by rw [iniT_len, HKS.out])]; rfl
      have hI0 := hI.out
      rw [hT0] at hI0
      have HI0 := Fact.mk hI0
      have b0 := hI0.box.c0
      have b1 := hI0.box.c1
      have b2 := hI0.box.c2
      have b3 := hI0.box.c3
      have b4 := hI0.box.c4
      have hzr : w.heap.size + 1 < wr.heap.size := (hI0.all.lt _ rfl).2
      have HLr := Fact.mk ((HL.out.below hI0.below).here hI0.below.size)
      have hk9 : k.size + 1 ≤ 1000000000 := by have := HKS.out; omega
      have hpost := post_any ⟨K, N, X, A⟩ k _ _ wr HLr.out.a HLr.out.f hdep hk9
      rw [HKS.out] at hpost
      have HPOST := Fact.mk hpost
      clear hT0 hI0 hI hpost
      go_upto_region 8 with (go_at_call 76; refine HPOST.out.mono ?_; rintro e w6 ⟨v3, rfl, hb6, hr6⟩; obtain ⟨g3, c3, rfl⟩ := ownsRow_pos hn1 hr6)
      have HJ : Fact (NInv i K N X (.slice p1 p2 p3) (.slice q1 kl q2) i 3 (.slice (some ⟨g3, 0, none⟩) i c3) (cI (postF k 1 ++ [0])) (nums ⟨K, N, X, A⟩ k 0) w w6) := ⟨⟨HI0.out.below.trans (hb6.mono HI0.out.below.size), HI0.out.box.keep hb6, own_lessP hr6 (by omega), own_upH HI0.out.all hb6⟩⟩
      clear hr6 hb6 b0 b1 b2 b3 b4 hzr HLr hk9 HI0
      go_loopg [37] i (fun gf jv wr => ∃ j : Nat, jv = .int .i64 j ∧ j ≤ i ∧ i - j ≤ gf ∧ Fact (NInv i K N X (.slice p1 p2 p3) (.slice q1 kl q2) i 3 (.slice (some ⟨g3, 0, none⟩) i c3) (cI (postF k 1 ++ [0])) (nums ⟨K, N, X, A⟩ k j) w wr))
      case atStart => exact ⟨0, rfl, Nat.zero_le _, Nat.le_refl _, HJ⟩
      case round =>
        obtain ⟨j, rfl, hj, hgf2, hI⟩ := hrel
        by_cases hjn : j = i
        · subst hjn
          have hdec2 : decide ((j : Int) < (j : Int)) = false := decide_eq_false (by omega)
          have HE : Fact (nums ⟨K, N, X, A⟩ k j = finT ⟨K, N, X, A⟩ k) := ⟨by
            unfold nums
            rw [List.take_of_length_le (by rw [List.length_append, postF_len]; have := HKS.out; simp; omega)]
            exact post_all _ _⟩
          go_wp2_with fail
          go_ret
          exact ⟨w.heap.size + 1, rfl, hI.out.below, ⟨by rw [← HE.out]; exact own_lessP hI.out.all (by omega)⟩⟩
        · have hlt2 : j < i := by omega
          have hdec2 : decide ((j : Int) < (i : Int)) = true := decide_eq_true (by omega)
          obtain ⟨id, hid⟩ : ∃ id, (postF k 1 ++ [0])[j]? = some id := ⟨(postF k 1 ++ [0])[j]'(by rw [List.length_append, postF_len]; have := HKS.out; simp; omega), by simp⟩
          have hidn : id < i := by
            have := ((postT k).2 id).1 (List.mem_of_getElem? hid)
            have h2 := HKS.out
            omega
          obtain ⟨y, hy⟩ : ∃ y, its[id]? = some y := ⟨its[id]'(by rw [HIT.out]; omega), by simp⟩
          have hy1 : (flatT ⟨K, N, X, A⟩ k)[id]? = some y.1 := by rw [← HMAP.out, List.getElem?_map, hy]; rfl
          have hsucc := nums_succ (d := ⟨K, N, X, A⟩) hid
          have hpar : y.1.p = -1 ∨ ∃ q : Nat, y.1.p = q ∧ q < i := by
            cases id with
            | zero =>
              left
              have h1 := hy1
              rw [flatT] at h1
              simp at h1
              rw [← h1]
            | succ id =>
              right
              obtain ⟨q, x, _, hu⟩ := flatT_up ⟨K, N, X, A⟩ k (id + 1) y.1 (by omega) hy1
              have h1 := hu.lt
              have h2 := hu.p
              rw [Nat.zero_add] at h2
              exact ⟨q, h2, by omega⟩
          have hrr := row10_at (own_block HROW.out (fun k _ hk => hI.out.below.block k hk)) hy
          obtain ⟨hr, _, _, _, hc1, _, _⟩ := hrr
          have r0 : wr.cell? ⟨g1, id * 10, none⟩ = some (.int .i64 y.1.p) := hr 0 _ rfl
          obtain ⟨s0, _, _, _, hc3, _, _⟩ := rowV_at hI.out.side (i := j) (y := .int .i64 id) (by rw [cI, List.getElem?_map, hid]; rfl)
          have j0_ : (0 : Int) ≤ j := by omega
          have j1_ : (j : Int) < i := by omega
          have d0_ : (0 : Int) ≤ id := by omega
          have d1_ : (id : Int) < i := by omega
          obtain ⟨g', rfl⟩ : ∃ g', gk = g' + 1 := ⟨gk - 1, by omega⟩
          rcases hpar with hp | ⟨q, hp, hqn⟩
          · rw [stepP_none hy1 hp] at hsucc
            rw [hp] at r0
            have HS := Fact.mk hsucc
            have HI2 := Fact.mk hI.out
            clear hr hy hy1 hsucc hid hp hI
            go_wp2_with fail
            go_roundg g'
            case measure => omega
            case rel => exact ⟨j + 1, by go_num, by omega, by omega, ⟨by rw [HS.out]; exact HI2.out⟩⟩
          · obtain ⟨a, ha⟩ : ∃ a, (nums ⟨K, N, X, A⟩ k j)[q]? = some a := ⟨(nums ⟨K, N, X, A⟩ k j)[q]'(by rw [nums_len, HKS.out]; exact hqn), by simp⟩
            obtain ⟨b, hb⟩ : ∃ b, (nums ⟨K, N, X, A⟩ k j)[id]? = some b := ⟨(nums ⟨K, N, X, A⟩ k j)[id]'(by rw [nums_len, HKS.out]; exact hidn), by simp⟩
            have hua := nums_u _ _ _ a (List.mem_of_getElem? ha)
            have hub := nums_u _ _ _ b (List.mem_of_getElem? hb)
            rw [stepP_some hy1 hp ha hb] at hsucc
            rw [hp] at r0
            obtain ⟨u0, uf, _, hug, _, _, _⟩ := rowV_at hI.out.all (cU_get ha)
            obtain ⟨u1, _, _, _, _, _, _⟩ := rowV_at hI.out.all (cU_get hb)
            obtain ⟨v, hv⟩ : ∃ v, mx a b = v := ⟨_, rfl⟩
            rw [hv] at hsucc
            have HS := Fact.mk hsucc
            have HI2 := Fact.mk hI.out
            have q0_ : (0 : Int) ≤ q := by omega
            have q1_ : (q : Int) < i := by omega
            clear hr hy hy1 hsucc hid hp ha hb hI
            go_upto_region 12 with fail
            go_region_with (go_at_call 74; refine (Bt.mix_any a b _ hua hub).mono ?_; rintro e w7 ⟨rfl, hw7⟩; have hw8 := hw7.symm; subst hw8; clear hw7)
            all_goals
              go_wp2_with fail
              go_roundg g'
              case measure => omega
              case rel => exact ⟨j + 1, by go_num, by omega, by omega, ⟨by rw [HS.out]; exact HI2.out.drew.put q v⟩⟩
    · have hlt : i < n := by omega
      have hdec : decide ((i : Int) < (n : Int)) = true := decide_eq_true (by omega)
      obtain ⟨y, hy⟩ : ∃ y, its[i]? = some y := ⟨its[i]'(by rw [HIT.out]; omega), by simp⟩
      have hy1 : (flatT ⟨K, N, X, A⟩ k)[i]? = some y.1 := by rw [← HMAP.out, List.getElem?_map, hy]; rfl
      obtain ⟨c, hc⟩ : ∃ c, (cntT k)[i]? = some c := ⟨(cntT k)[i]'(by rw [cntT_len, HKS.out]; exact hlt), by simp⟩
      have hcu := cntT_u k c (List.mem_of_getElem? hc)
      have hks := HKS.out
      have huc : IsU c := ⟨hcu.1, by omega⟩
      have hav := HAV.out y (List.mem_of_getElem? hy)
      obtain ⟨ya, yc, hyv, _⟩ := id hav
      have hstep := inis_step (T := iniT ⟨K, N, X, A⟩ k) (n := n) (by rw [iniT_len, hks]) (iniT_get hy1 hc)
      obtain ⟨u0, _, _, _, _, _, _⟩ := rowV_at hI.out.side (cU_get hc)
      have hrr := row10_at (own_block HROW.out (fun k _ hk => hI.out.below.block k hk)) hy
      obtain ⟨hr, _, _, _, hc1, _, _⟩ := hrr
      obtain ⟨⟨yp, yz, ydp, yh, ypl, ⟨yK, yN, yX, yA⟩⟩, yav⟩ := y
      dsimp only at hyv hstep hav
      have HC : Fact (Calls Try.prog 75 #[.agg #[.int .i64 yK, .string yN, .string yX, yav, .slice none 0 0]] wr fun e w' => e = .returned (.int .u64 (al ⟨yK, yN, yX, yA⟩)) ∧ Below wr.heap.size wr w') := ⟨alone_any ⟨yK, yN, yX, yA⟩ yav (.slice none 0 0) (fun b => S b ∧ b < w.heap.size) wr (hav.inn.like (fun b hb _ => hI.out.below.block b hb.2)) ⟨_, _, _, rfl⟩⟩
      have r5 : wr.cell? ⟨g1, i * 10 + 5, none⟩ = some (.int .i64 yK) := hr 5 _ rfl
      have r6 : wr.cell? ⟨g1, i * 10 + 6, none⟩ = some (.string yN) := hr 6 _ rfl
      have r7 : wr.cell? ⟨g1, i * 10 + 7, none⟩ = some (.string yX) := hr 7 _ rfl
      have r8 : wr.cell? ⟨g1, i * 10 + 8, none⟩ = some yav := hr 8 _ rfl
      have r9 : wr.cell? ⟨g1, i * 10 + 9, none⟩ = some (.slice none 0 0) := hr 9 _ rfl
      have i0_ : (0 : Int) ≤ i := by omega
      have i1_ : (i : Int) < n := by omega
      have hal := al_u ⟨yK, yN, yX, yA⟩
      obtain ⟨v, hv⟩ : ∃ v, mx (al ⟨yK, yN, yX, yA⟩) c = v := ⟨_, rfl⟩
      rw [hv] at hstep
      have HS := Fact.mk hstep
      obtain ⟨g', rfl⟩ : ∃ g', gk = g' + 1 := ⟨gk - 1, by omega⟩
      clear hr hy hy1 hc hcu hav hstep hks
      subst hyv
      go_upto_region 6 with (first
        | (go_at_call 75; refine HC.out.mono ?_; rintro e w6 ⟨rfl, hb6⟩)
        | (go_at_call 74; refine (Bt.mix_any _ c _ hal huc).mono ?_; rintro e w7 ⟨rfl, hw7⟩; have hw8 := hw7.symm; subst hw8; clear hw7; have hI6 := Fact.mk (hI.out.up hb6); have hst6 := Fact.mk (hI6.out.put i v); obtain ⟨u1, uf1, _, _, _, _, _⟩ := rowV_at hI6.out.all (i := i) (y := .int .u64 0) (cU_get (by unfold inis; rw [List.getElem?_append_right (by rw [List.length_take]; omega), List.length_take, iniT_len, List.getElem?_replicate]; rw [HKS.out]; rw [if_pos (by omega)]))))
      go_wp2_with fail
      go_roundg g'
      case measure => omega
      case rel => exact ⟨i + 1, by go_num, by omega, by omega, ⟨by rw [← HS.out]; exact hst6.out⟩⟩
end Go.Proofs.Ytkojhgagkoeeiaa
end

/- All, Of, Key of any tree that lies in memory. -/
section
set_option linter.unusedVariables false
set_option linter.unusedSimpArgs false
namespace Go.Proofs.Ytkojhgagkoeeiaa
open Go.Deep (BT)
open Go.RowKit Go.Shelf M
open Bt (mx IsU mx_u ret_int)

/-- a tree that is not too great -/
structure Lim (d : Nd) (k : M.F) : Prop where
  sz : k.size + 1 ≤ 1000000
  dp : k.depth + 1 ≤ 1000000
  sl : d.ats.length + k.slots ≤ 1000000
theorem Fits.lim {d : Nd} {k : M.F} (h : Fits 0 0 d k) : Lim d k := ⟨by have := h.size; omega, by have := h.depth; omega, by have := h.slots; have := h.size; omega⟩

theorem flatN (d : Nd) (k : M.F) (va ka : Value) (n : Nat) (W : World) (hks : k.size + 1 = n) (L : Lim d k) (hl : Lies W.heap.size W d k va ka) :
    Calls Try.prog 49 #[nodeV d va ka] W fun e w' => ∃ g c its, e = .returned (.slice (some ⟨g, 0, none⟩) n c) ∧ Below W.heap.size W w' ∧ Fact (its.map (·.1) = flatT d k) ∧ Fact (w'.ownsRow W.heap.size 65 10 (.slice (some ⟨g, 0, none⟩) n c) n (cellsIt its)) ∧ Fact (∀ y ∈ its, AS (fun b => W.heap.size ≤ b) w' y.2 y.1.d.ats) := by
  refine (flat_any d k va ka W hl.a hl.f L.dp (by have := L.sz; omega) L.sl).mono ?_
  rintro e w' ⟨v, its, rfl, hb, hm, hr, ha⟩
  rw [hks] at hr
  obtain ⟨g, c, rfl⟩ := ownsRow_pos (by omega) hr
  exact ⟨g, c, its, rfl, hb, ⟨hm⟩, ⟨hr⟩, ⟨ha⟩⟩

set_option maxRecDepth 20000 in
set_option maxHeartbeats 4000000 in
theorem hall_any (d : Nd) (k : M.F) (va ka : Value) (n : Nat) (w : World) (hks : k.size + 1 = n) (L : Lim d k) (hl : Lies w.heap.size w d k va ka) :
    Calls Try.prog 50 #[nodeV d va ka] w fun e w' => ∃ g, e = .returned (.slice (some ⟨g, 0, none⟩) n n) ∧ Below w.heap.size w w' ∧ Fact (w'.ownsRow w.heap.size 88 1 (.slice (some ⟨g, 0, none⟩) n n) n (cU (finT d k))) := by
  have hn : n ≤ 1000000 := by rw [← hks]; exact L.sz
  obtain ⟨p1, p2, p3, e1⟩ := hl.a.val
  obtain ⟨q1, q2, e2⟩ := hl.f.val
  subst e1 e2
  obtain ⟨kl, hkl⟩ : ∃ kl, k.len = kl := ⟨_, rfl⟩
  rw [hkl] at hl ⊢
  clear hkl
  obtain ⟨K, N, X, A⟩ := d
  obtain ⟨W1, hW1⟩ : ∃ W1, w.alloc (.cells #[.int .i64 K, .string N, .string X, .slice p1 p2 p3, .slice q1 kl q2] 25) = W1 := ⟨_, rfl⟩
  have hB1 : Below w.heap.size w W1 := by rw [← hW1]; exact (Below.refl _ w).alloc (Nat.le_refl _) _
  have hbx : Box5 w.heap.size K N X (.slice p1 p2 p3) (.slice q1 kl q2) W1 := by rw [← hW1]; exact Box5.new _ _ _ _ _ _ _
  have hS0 : Below w.heap.size w W1.drew ∧ (W1.drew.cell? ⟨w.heap.size, 0, none⟩ = some (.int .i64 K) ∧ W1.drew.cell? ⟨w.heap.size, 1, none⟩ = some (.string N) ∧ W1.drew.cell? ⟨w.heap.size, 2, none⟩ = some (.string X) ∧ W1.drew.cell? ⟨w.heap.size, 3, none⟩ = some (.slice p1 p2 p3) ∧ W1.drew.cell? ⟨w.heap.size, 4, none⟩ = some (.slice q1 kl q2)) := ⟨hB1.drew, hbx.c0, hbx.c1, hbx.c2, hbx.c3, hbx.c4⟩
  have hbx' : Box5 w.heap.size K N X (.slice p1 p2 p3) (.slice q1 kl q2) W1.drew := ⟨hbx.c0, hbx.c1, hbx.c2, hbx.c3, hbx.c4⟩
  have HW1 := Fact.mk hW1
  have HL := Fact.mk hl
  have HLIM := Fact.mk L
  have HKS := Fact.mk hks
  have HSK : Fact (∀ w6, Below W1.drew.heap.size W1.drew w6 → (Below w.heap.size w w6 ∧ (w6.cell? ⟨w.heap.size, 0, none⟩ = some (.int .i64 K) ∧ w6.cell? ⟨w.heap.size, 1, none⟩ = some (.string N) ∧ w6.cell? ⟨w.heap.size, 2, none⟩ = some (.string X) ∧ w6.cell? ⟨w.heap.size, 3, none⟩ = some (.slice p1 p2 p3) ∧ w6.cell? ⟨w.heap.size, 4, none⟩ = some (.slice q1 kl q2)))) := ⟨fun w6 hb => by
    have hk := hbx'.keep hb
    exact ⟨hS0.1.trans (hb.mono hS0.1.size), hk.c0, hk.c1, hk.c2, hk.c3, hk.c4⟩⟩
  clear hbx' hbx hB1 hW1 hl hks L
  go_enter Try.func50, Try.ntmps50
  go_wp2_with fail
  rw [HW1.out]
  go_region_held3 (fun w' => Below w.heap.size w w' ∧ (w'.cell? ⟨w.heap.size, 0, none⟩ = some (.int .i64 K) ∧ w'.cell? ⟨w.heap.size, 1, none⟩ = some (.string N) ∧ w'.cell? ⟨w.heap.size, 2, none⟩ = some (.string X) ∧ w'.cell? ⟨w.heap.size, 3, none⟩ = some (.slice p1 p2 p3) ∧ w'.cell? ⟨w.heap.size, 4, none⟩ = some (.slice q1 kl q2)))
    (first | with_reducible exact hS0 | with_reducible assumption)
    (first
      | (go_at_call 49; refine (flatN ⟨K, N, X, A⟩ k _ _ n _ HKS.out HLIM.out ((HL.out.below hS0.1).here hS0.1.size)).mono ?_; rintro e w6 ⟨g6, c6, its, rfl, hb6, hm6, hr6, ha6⟩; have hS6 := HSK.out _ hb6)
      | (go_at_call 65; refine (numbers_any ⟨K, N, X, A⟩ k _ _ its g6 c6 n _ _ w6 ((HL.out.below hS6.1).here hS6.1.size) hr6.out hm6.out HKS.out hn HLIM.out.dp ha6.out).mono ?_; rintro e w7 ⟨g7, rfl, hb7, hr7⟩; have hS7 := HSK.out _ (hb6.trans (hb7.mono hb6.size))))
  go_wp2_with fail
  go_ret
  exact ⟨g7, rfl, hS7.1, ⟨own_lessP hr7.out hS6.1.size⟩⟩

theorem finT_len (d : Nd) (k : M.F) : (finT d k).length = k.size + 1 := by simp [finT, finF_len]
/-- size and height in one number -/
def ks (k : M.F) : Int := ((k.size + 1 : Nat) : Int) * 4294967296 + ((k.depth + 1 : Nat) : Int)
end Go.Proofs.Ytkojhgagkoeeiaa
end

section
set_option linter.unusedVariables false
set_option linter.unusedSimpArgs false
namespace Go.Proofs.Ytkojhgagkoeeiaa
open Go.Deep (BT)
open Go.RowKit Go.Shelf M
def subsT (d : Nd) (k : M.F) : List (Nd × M.F) := (d, k) :: subsF k
theorem subsT_fin (d : Nd) (k : M.F) : (subsT d k).map (fun q => hT q.1 q.2) = finT d k := by rw [subsT, List.map_cons, subsF_fin]; rfl
set_option maxRecDepth 20000 in
set_option maxHeartbeats 4000000 in
theorem rFlat_any (d : Nd) (k : M.F) (va ka : Value) (n : Nat) (w : World) (hks : k.size + 1 = n) (L : Lim d k) (hl : Lies w.heap.size w d k va ka) :
    Calls Try.prog 22 #[nodeV d va ka] w fun e w' => ∃ g c news, e = .returned (.slice (some ⟨g, 0, none⟩) n c) ∧ Below w.heap.size w w' ∧ Fact (w'.ownsRow (w.heap.size + 1) 49 15 (.slice (some ⟨g, 0, none⟩) n c) n (c15L news)) ∧
      Fact (news.map (·.im) = flatT d k ∧ news.map (fun r => (r.im.d, r.k)) = subsT d k ∧ AllR w.heap.size w' news) := by
  obtain ⟨p1, p2, p3, e1⟩ := hl.a.val
  obtain ⟨q1, q2, e2⟩ := hl.f.val
  subst e1 e2
  obtain ⟨W1, hW1⟩ : ∃ W1, w.alloc (.cells #[.int .i64 d.k, .string d.n, .string d.x, .slice p1 p2 p3, .slice q1 k.len q2] 25) = W1 := ⟨_, rfl⟩
  have hB1 : Below w.heap.size w W1 := by rw [← hW1]; exact (Below.refl _ w).alloc (Nat.le_refl _) _
  have hz1 : W1.heap.size = w.heap.size + 1 := by rw [← hW1]; simp
  have hbx : Box5 w.heap.size d.k d.n d.x (.slice p1 p2 p3) (.slice q1 k.len q2) W1 := by rw [← hW1]; exact Box5.new _ _ _ _ _ _ _
  have hc := rflat_any k d (.slice p1 p2 p3) (.slice q1 k.len q2) w.heap.size (w.heap.size + 1) W1 [] (.slice none 0 0) (-1) 0 0 (hl.below hB1) (by omega) (by omega) (World.ownsRow_nil _ _ _ _) (by have := L.sz; simp; omega) (by have := L.dp; omega) L.sl
  obtain ⟨kl, hkl⟩ : ∃ kl, k.len = kl := ⟨_, rfl⟩
  rw [hkl] at hbx hc hW1 ⊢
  obtain ⟨K, N, X, A⟩ := d
  have hc' : Calls Try.prog 43 #[.slice none 0 0, .agg #[.int .i64 K, .string N, .string X, .slice p1 p2 p3, .slice q1 kl q2], .int .i64 (-1), .int .i64 0, .int .i64 0] W1 fun e w' => ∃ g c news, e = .returned (.slice (some ⟨g, 0, none⟩) n c) ∧ Below w.heap.size w w' ∧ Fact (w'.ownsRow (w.heap.size + 1) 49 15 (.slice (some ⟨g, 0, none⟩) n c) n (c15L news)) ∧
      Fact (news.map (·.im) = flatT ⟨K, N, X, A⟩ k ∧ news.map (fun r => (r.im.d, r.k)) = subsT ⟨K, N, X, A⟩ k ∧ AllR w.heap.size w' news) := by
    refine hc.mono ?_
    rintro e w' ⟨v', news, rfl, hown, hgr, _, hf⟩
    have hn : ([] : List Rm).length + (k.size + 1) = n := by simp; exact hks
    rw [hn, List.nil_append] at hown
    obtain ⟨g, c, rfl⟩ := own_pos (by omega) hown
    exact ⟨g, c, news, rfl, hB1.grown hgr hB1.size (fun k e => by cases e), ⟨hown⟩, ⟨hf.out.1, hf.out.2.1, hf.out.2.2⟩⟩
  have HC := Fact.mk hc'
  have HW1 := Fact.mk hW1
  have b0 := hbx.c0
  have b1 := hbx.c1
  have b2 := hbx.c2
  have b3 := hbx.c3
  have b4 := hbx.c4
  dsimp only at b0 b1 b2
  clear hc hc' hbx hB1 hW1 hl hks L
  go_enter Try.func22, Try.ntmps22
  go_upto_region 1 with fail
  rw [HW1.out]
  go_wp2_with (go_at_call 43; refine HC.out.mono ?_; rintro e w6 ⟨g6, c6, news, rfl, hb6, hr6, hf6⟩)
  go_ret
  first | exact ⟨g6, c6, news, rfl, hb6, hr6, hf6⟩ | exact ⟨g6, c6, rfl, news, hb6, hr6, hf6⟩ | exact ⟨g6, c6, rfl, hb6, news, hr6, hf6⟩

end Go.Proofs.Ytkojhgagkoeeiaa
end
