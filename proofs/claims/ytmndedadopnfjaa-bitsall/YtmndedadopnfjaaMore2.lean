/- More plain mathematics: bits picked one by one and laid anew are the number turned about, or with its sign: no condition. -/
import Derived.Test.YtmndedadopnfjaaMath
namespace Go.Proofs.Ytmndedadopnfjaa.M
open Go

/-- a bit, as a number of 64 bits -/
def b1 (x : BitVec 64) (i : Nat) : BitVec 64 := if x.getLsbD i then 1#64 else 0#64
theorem b1_bit (x : BitVec 64) (i j : Nat) : (b1 x i).getLsbD j = (x.getLsbD i && decide (j = 0)) := by
  unfold b1
  cases x.getLsbD i
  · simp
  · simp only [if_true, BitVec.getLsbD_one, Bool.true_and]; simp
theorem and_b1 (x : BitVec 64) (i : Nat) (hi : i ≤ 64) : bits .and .u64 (up x / 2 ^ i) 1 = up (b1 x i) := by
  have h := shr_up x i hi
  rw [Nat.min_eq_left hi] at h
  have e : (1 : Int) = up 1#64 := by decide
  rw [h, e, bits_and]
  congr 1
  apply BitVec.eq_of_getLsbD_eq
  intro j hj
  rw [BitVec.getLsbD_and, BitVec.getLsbD_ushiftRight, BitVec.getLsbD_one, b1_bit]
  by_cases hz : j = 0
  · subst hz; simp only [Nat.add_zero]; simp
  · simp [hz]
/-- bits picked one by one and laid anew -/
def acc (x : BitVec 64) (f g : Nat → Nat) : Nat → BitVec 64
  | 0 => 0#64
  | j + 1 => acc x f g j ||| b1 x (f j) <<< g j
theorem acc_bit (x : BitVec 64) (f g : Nat → Nat) (m : Nat) (hm : m < 64) : ∀ j, ((acc x f g j).getLsbD m = true ↔ ∃ i, i < j ∧ g i = m ∧ x.getLsbD (f i) = true)
  | 0 => by simp [acc]
  | j + 1 => by
    have ih := acc_bit x f g m hm j
    unfold acc
    rw [BitVec.getLsbD_or, Bool.or_eq_true, ih, BitVec.getLsbD_shiftLeft, b1_bit]
    constructor
    · rintro (⟨i, hi, e, hx⟩ | h)
      · exact ⟨i, by omega, e, hx⟩
      · simp only [Bool.and_eq_true, decide_eq_true_eq, Bool.not_eq_true', decide_eq_false_iff_not] at h
        obtain ⟨⟨_, h1⟩, h2, h3⟩ := h
        exact ⟨j, by omega, by omega, h2⟩
    · rintro ⟨i, hi, e, hx⟩
      by_cases hij : i = j
      · right
        subst hij
        simp only [Bool.and_eq_true, decide_eq_true_eq, Bool.not_eq_true', decide_eq_false_iff_not]
        exact ⟨⟨hm, by omega⟩, hx, by omega⟩
      · left; exact ⟨i, by omega, e, hx⟩
theorem acc_turn (x : BitVec 64) (n : Int) : acc x (fun i => i) (fun i => (i + (n % 64).toNat) % 64) 64 = rot x n := by
  apply BitVec.eq_of_getLsbD_eq
  intro m hm
  rw [Bool.eq_iff_iff, acc_bit _ _ _ _ hm, rot_bit _ _ _ hm]
  constructor
  · rintro ⟨i, hi, e, hx⟩
    rwa [show (m + 64 - (n % 64).toNat) % 64 = i by omega]
  · intro hx
    exact ⟨(m + 64 - (n % 64).toNat) % 64, by omega, by omega, hx⟩
theorem sgB_bit (x : BitVec 64) (c m : Nat) (hc : 1 ≤ c) (hc2 : c ≤ 64) (hm : m < 64) : (sgB x (64 - c)).getLsbD m = x.getLsbD (min m (c - 1)) := by
  unfold sgB
  rw [BitVec.getLsbD_sshiftRight]
  have h0 : decide (64 ≤ m) = false := by simp; omega
  rw [h0]
  simp only [Bool.not_false, Bool.true_and]
  by_cases h : 64 - c + m < 64
  · rw [if_pos h, BitVec.getLsbD_shiftLeft]
    have h1 : decide (64 - c + m < 64) = true := by simpa using h
    have h2 : decide (64 - c + m < 64 - c) = false := by simp
    simp only [h1, h2, Bool.not_false, Bool.true_and]
    congr 1; omega
  · rw [if_neg h, BitVec.msb_eq_getLsbD_last, BitVec.getLsbD_shiftLeft]
    have h1 : decide (64 - 1 < 64) = true := by decide
    have h2 : decide (64 - 1 < 64 - c) = false := by simp; omega
    simp only [h1, h2, Bool.not_false, Bool.true_and]
    congr 1; omega
theorem acc_signed (x : BitVec 64) (c : Nat) (hc : 1 ≤ c) (hc2 : c ≤ 64) : acc x (fun i => min i (c - 1)) (fun i => i) 64 = sgB x (64 - c) := by
  apply BitVec.eq_of_getLsbD_eq
  intro m hm
  rw [Bool.eq_iff_iff, acc_bit _ _ _ _ hm, sgB_bit _ _ _ hc hc2 hm]
  constructor
  · rintro ⟨i, hi, e, hx⟩
    rwa [← e]
  · intro hx
    exact ⟨m, hm, rfl, hx⟩
theorem acc_run (x : BitVec 64) (f g : Nat → Nat) (j : Nat) (hg : g j ≤ 64) : bits .or .u64 (up (acc x f g j)) (IntKind.u64.wrap (up (b1 x (f j)) * 2 ^ g j)) = up (acc x f g (j + 1)) := by
  have h := shl_up (b1 x (f j)) (g j) hg
  rw [Nat.min_eq_left hg] at h
  rw [h, bits_or]; rfl
theorem acc_run' (x : BitVec 64) (f g : Nat → Nat) (j i : Nat) (hi : f j = i) (hg : g j ≤ 64) : bits .or .u64 (up (acc x f g j)) (IntKind.u64.wrap (up (b1 x i) * 2 ^ g j)) = up (acc x f g (j + 1)) := by
  subst hi; exact acc_run x f g j hg
/-- bits picked one by one, from the d-th on the d-th again -/
def accS (x : BitVec 64) (d j : Nat) : BitVec 64 := acc x (fun i => min i d) (fun i => i) j
def sgv (x : BitVec 64) (d : Nat) : Int := (sgB x (64 - (d + 1))).toInt
theorem accS_low (x : BitVec 64) (d j : Nat) (h : j ≤ d) (hj : j ≤ 64) : bits .or .u64 (up (accS x d j)) (IntKind.u64.wrap (up (b1 x j) * 2 ^ j)) = up (accS x d (j + 1)) :=
  acc_run' x (fun i => min i d) (fun i => i) j j (by show min j d = j; omega) hj
theorem accS_high (x : BitVec 64) (d j : Nat) (h : d ≤ j) (hj : j ≤ 64) : bits .or .u64 (up (accS x d j)) (IntKind.u64.wrap (up (b1 x d) * 2 ^ j)) = up (accS x d (j + 1)) :=
  acc_run' x (fun i => min i d) (fun i => i) j d (by show min j d = d; omega) hj
theorem accS_end (x : BitVec 64) (d : Nat) (h : d < 64) : (dn (up (accS x d 64))).toInt = sgv x d := by
  rw [dn_up]
  unfold accS sgv
  rw [← acc_signed x (d + 1) (by omega) (by omega)]
  rfl
end Go.Proofs.Ytmndedadopnfjaa.M
