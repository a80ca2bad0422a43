/- The law BitsBytes returns true for every number, any place and any byte: eight bytes of any sort are a number, and that has them. No condition. -/
import Derived.Test.YtmndedadopnfjaaRows
import Derived.WalkKit
import Derived.ProofKit
import Derived.OpenShut
import Derived.Test.YtmndedadopnfjaaAtA
import Derived.Test.YtmndedadopnfjaaAtB
import Derived.Test.YtmndedadopnfjaaAtC
import Derived.Test.YtmndedadopnfjaaAtD
namespace Go.Proofs.Ytmndedadopnfjaa.bitsBytes
open Go.ChangeShapes Go.WideShapes Go.ChangeAt Go.RowKit M
set_option linter.unusedVariables false      -- a walk need not use every 'w<i>' (that an integer argument fits its kind)

theorem byte_at (a : Int) (i : Nat) : 0 ≤ a / 2 ^ (8 * i) % 256 ∧ a / 2 ^ (8 * i) % 256 < 256 := by omega
theorem xor_u (a b : Int) (hu : IsU a) (hv : IsU b) : IsU (bits .xor .u64 a b) := by
  rw [← up_dn a hu.lo hu.hi, ← up_dn b hv.lo hv.hi, bits_xor]; exact up_u _
theorem xor8_b (p q : Int) : IsB (bits .xor .u8 p q) := by
  rw [xor8]
  have := (BitVec.ofInt 8 p ^^^ BitVec.ofInt 8 q).isLt
  exact ⟨by omega, by omega⟩
theorem eight_sum {v b0 b1 b2 b3 b4 b5 b6 b7 : Int} (h : Eight v b0 b1 b2 b3 b4 b5 b6 b7) (hu : IsU v) : sum8 b0 b1 b2 b3 b4 b5 b6 b7 = v := by
  have e := sum8_self v hu
  rwa [h.e0, h.e1, h.e2, h.e3, h.e4, h.e5, h.e6, h.e7] at e
theorem eight_of {v b0 b1 b2 b3 b4 b5 b6 b7 : Int} (hu : IsU v) (h0 : v / 2 ^ (8 * 0) % 256 = b0) (h1 : v / 2 ^ (8 * 1) % 256 = b1) (h2 : v / 2 ^ (8 * 2) % 256 = b2) (h3 : v / 2 ^ (8 * 3) % 256 = b3) (h4 : v / 2 ^ (8 * 4) % 256 = b4) (h5 : v / 2 ^ (8 * 5) % 256 = b5) (h6 : v / 2 ^ (8 * 6) % 256 = b6) (h7 : v / 2 ^ (8 * 7) % 256 = b7) : Eight v b0 b1 b2 b3 b4 b5 b6 b7 := by
  obtain ⟨u0, u1⟩ := hu
  simp only [Nat.reduceMul, Int.reducePow, Int.ediv_one] at h0 h1 h2 h3 h4 h5 h6 h7
  exact ⟨h0, h1, h2, h3, h4, h5, h6, by omega⟩
set_option linter.unusedSimpArgs false in
theorem eight_xor0 (a y : Int) (hu : IsU a) (y0 : 0 ≤ y) (y1 : y < 256) : Eight (bits .xor .u64 a (y)) (bits .xor .u8 (a % 256) y) (a / 256 % 256) (a / 65536 % 256) (a / 16777216 % 256) (a / 4294967296 % 256) (a / 1099511627776 % 256) (a / 281474976710656 % 256) (a / 72057594037927936) := by
  have uV : IsU (bits .xor .u64 a (y)) := xor_u _ _ hu ⟨by omega, by omega⟩
  have h7 : a / 72057594037927936 % 256 = a / 72057594037927936 := by have := hu.lo; have := hu.hi; omega
  refine eight_of uV ?_ ?_ ?_ ?_ ?_ ?_ ?_ ?_
  · have h := xor_byte a y 0 0 (by decide) (by decide) hu y0 y1
    rw [if_pos rfl] at h
    simp only [Nat.reduceMul, Int.reducePow, Int.ediv_one, Int.mul_one, h7] at h ⊢
    exact h
  · have h := xor_byte a y 0 1 (by decide) (by decide) hu y0 y1
    rw [if_neg (by decide)] at h
    simp only [Nat.reduceMul, Int.reducePow, Int.ediv_one, Int.mul_one, h7] at h ⊢
    exact h
  · have h := xor_byte a y 0 2 (by decide) (by decide) hu y0 y1
    rw [if_neg (by decide)] at h
    simp only [Nat.reduceMul, Int.reducePow, Int.ediv_one, Int.mul_one, h7] at h ⊢
    exact h
  · have h := xor_byte a y 0 3 (by decide) (by decide) hu y0 y1
    rw [if_neg (by decide)] at h
    simp only [Nat.reduceMul, Int.reducePow, Int.ediv_one, Int.mul_one, h7] at h ⊢
    exact h
  · have h := xor_byte a y 0 4 (by decide) (by decide) hu y0 y1
    rw [if_neg (by decide)] at h
    simp only [Nat.reduceMul, Int.reducePow, Int.ediv_one, Int.mul_one, h7] at h ⊢
    exact h
  · have h := xor_byte a y 0 5 (by decide) (by decide) hu y0 y1
    rw [if_neg (by decide)] at h
    simp only [Nat.reduceMul, Int.reducePow, Int.ediv_one, Int.mul_one, h7] at h ⊢
    exact h
  · have h := xor_byte a y 0 6 (by decide) (by decide) hu y0 y1
    rw [if_neg (by decide)] at h
    simp only [Nat.reduceMul, Int.reducePow, Int.ediv_one, Int.mul_one, h7] at h ⊢
    exact h
  · have h := xor_byte a y 0 7 (by decide) (by decide) hu y0 y1
    rw [if_neg (by decide)] at h
    simp only [Nat.reduceMul, Int.reducePow, Int.ediv_one, Int.mul_one, h7] at h ⊢
    exact h
set_option linter.unusedSimpArgs false in
theorem eight_xor1 (a y : Int) (hu : IsU a) (y0 : 0 ≤ y) (y1 : y < 256) : Eight (bits .xor .u64 a (y * 256)) (a % 256) (bits .xor .u8 (a / 256 % 256) y) (a / 65536 % 256) (a / 16777216 % 256) (a / 4294967296 % 256) (a / 1099511627776 % 256) (a / 281474976710656 % 256) (a / 72057594037927936) := by
  have uV : IsU (bits .xor .u64 a (y * 256)) := xor_u _ _ hu ⟨by omega, by omega⟩
  have h7 : a / 72057594037927936 % 256 = a / 72057594037927936 := by have := hu.lo; have := hu.hi; omega
  refine eight_of uV ?_ ?_ ?_ ?_ ?_ ?_ ?_ ?_
  · have h := xor_byte a y 1 0 (by decide) (by decide) hu y0 y1
    rw [if_neg (by decide)] at h
    simp only [Nat.reduceMul, Int.reducePow, Int.ediv_one, Int.mul_one, h7] at h ⊢
    exact h
  · have h := xor_byte a y 1 1 (by decide) (by decide) hu y0 y1
    rw [if_pos rfl] at h
    simp only [Nat.reduceMul, Int.reducePow, Int.ediv_one, Int.mul_one, h7] at h ⊢
    exact h
  · have h := xor_byte a y 1 2 (by decide) (by decide) hu y0 y1
    rw [if_neg (by decide)] at h
    simp only [Nat.reduceMul, Int.reducePow, Int.ediv_one, Int.mul_one, h7] at h ⊢
    exact h
  · have h := xor_byte a y 1 3 (by decide) (by decide) hu y0 y1
    rw [if_neg (by decide)] at h
    simp only [Nat.reduceMul, Int.reducePow, Int.ediv_one, Int.mul_one, h7] at h ⊢
    exact h
  · have h := xor_byte a y 1 4 (by decide) (by decide) hu y0 y1
    rw [if_neg (by decide)] at h
    simp only [Nat.reduceMul, Int.reducePow, Int.ediv_one, Int.mul_one, h7] at h ⊢
    exact h
  · have h := xor_byte a y 1 5 (by decide) (by decide) hu y0 y1
    rw [if_neg (by decide)] at h
    simp only [Nat.reduceMul, Int.reducePow, Int.ediv_one, Int.mul_one, h7] at h ⊢
    exact h
  · have h := xor_byte a y 1 6 (by decide) (by decide) hu y0 y1
    rw [if_neg (by decide)] at h
    simp only [Nat.reduceMul, Int.reducePow, Int.ediv_one, Int.mul_one, h7] at h ⊢
    exact h
  · have h := xor_byte a y 1 7 (by decide) (by decide) hu y0 y1
    rw [if_neg (by decide)] at h
    simp only [Nat.reduceMul, Int.reducePow, Int.ediv_one, Int.mul_one, h7] at h ⊢
    exact h
set_option linter.unusedSimpArgs false in
theorem eight_xor2 (a y : Int) (hu : IsU a) (y0 : 0 ≤ y) (y1 : y < 256) : Eight (bits .xor .u64 a (y * 65536)) (a % 256) (a / 256 % 256) (bits .xor .u8 (a / 65536 % 256) y) (a / 16777216 % 256) (a / 4294967296 % 256) (a / 1099511627776 % 256) (a / 281474976710656 % 256) (a / 72057594037927936) := by
  have uV : IsU (bits .xor .u64 a (y * 65536)) := xor_u _ _ hu ⟨by omega, by omega⟩
  have h7 : a / 72057594037927936 % 256 = a / 72057594037927936 := by have := hu.lo; have := hu.hi; omega
  refine eight_of uV ?_ ?_ ?_ ?_ ?_ ?_ ?_ ?_
  · have h := xor_byte a y 2 0 (by decide) (by decide) hu y0 y1
    rw [if_neg (by decide)] at h
    simp only [Nat.reduceMul, Int.reducePow, Int.ediv_one, Int.mul_one, h7] at h ⊢
    exact h
  · have h := xor_byte a y 2 1 (by decide) (by decide) hu y0 y1
    rw [if_neg (by decide)] at h
    simp only [Nat.reduceMul, Int.reducePow, Int.ediv_one, Int.mul_one, h7] at h ⊢
    exact h
  · have h := xor_byte a y 2 2 (by decide) (by decide) hu y0 y1
    rw [if_pos rfl] at h
    simp only [Nat.reduceMul, Int.reducePow, Int.ediv_one, Int.mul_one, h7] at h ⊢
    exact h
  · have h := xor_byte a y 2 3 (by decide) (by decide) hu y0 y1
    rw [if_neg (by decide)] at h
    simp only [Nat.reduceMul, Int.reducePow, Int.ediv_one, Int.mul_one, h7] at h ⊢
    exact h
  · have h := xor_byte a y 2 4 (by decide) (by decide) hu y0 y1
    rw [if_neg (by decide)] at h
    simp only [Nat.reduceMul, Int.reducePow, Int.ediv_one, Int.mul_one, h7] at h ⊢
    exact h
  · have h := xor_byte a y 2 5 (by decide) (by decide) hu y0 y1
    rw [if_neg (by decide)] at h
    simp only [Nat.reduceMul, Int.reducePow, Int.ediv_one, Int.mul_one, h7] at h ⊢
    exact h
  · have h := xor_byte a y 2 6 (by decide) (by decide) hu y0 y1
    rw [if_neg (by decide)] at h
    simp only [Nat.reduceMul, Int.reducePow, Int.ediv_one, Int.mul_one, h7] at h ⊢
    exact h
  · have h := xor_byte a y 2 7 (by decide) (by decide) hu y0 y1
    rw [if_neg (by decide)] at h
    simp only [Nat.reduceMul, Int.reducePow, Int.ediv_one, Int.mul_one, h7] at h ⊢
    exact h
set_option linter.unusedSimpArgs false in
theorem eight_xor3 (a y : Int) (hu : IsU a) (y0 : 0 ≤ y) (y1 : y < 256) : Eight (bits .xor .u64 a (y * 16777216)) (a % 256) (a / 256 % 256) (a / 65536 % 256) (bits .xor .u8 (a / 16777216 % 256) y) (a / 4294967296 % 256) (a / 1099511627776 % 256) (a / 281474976710656 % 256) (a / 72057594037927936) := by
  have uV : IsU (bits .xor .u64 a (y * 16777216)) := xor_u _ _ hu ⟨by omega, by omega⟩
  have h7 : a / 72057594037927936 % 256 = a / 72057594037927936 := by have := hu.lo; have := hu.hi; omega
  refine eight_of uV ?_ ?_ ?_ ?_ ?_ ?_ ?_ ?_
  · have h := xor_byte a y 3 0 (by decide) (by decide) hu y0 y1
    rw [if_neg (by decide)] at h
    simp only [Nat.reduceMul, Int.reducePow, Int.ediv_one, Int.mul_one, h7] at h ⊢
    exact h
  · have h := xor_byte a y 3 1 (by decide) (by decide) hu y0 y1
    rw [if_neg (by decide)] at h
    simp only [Nat.reduceMul, Int.reducePow, Int.ediv_one, Int.mul_one, h7] at h ⊢
    exact h
  · have h := xor_byte a y 3 2 (by decide) (by decide) hu y0 y1
    rw [if_neg (by decide)] at h
    simp only [Nat.reduceMul, Int.reducePow, Int.ediv_one, Int.mul_one, h7] at h ⊢
    exact h
  · have h := xor_byte a y 3 3 (by decide) (by decide) hu y0 y1
    rw [if_pos rfl] at h
    simp only [Nat.reduceMul, Int.reducePow, Int.ediv_one, Int.mul_one, h7] at h ⊢
    exact h
  · have h := xor_byte a y 3 4 (by decide) (by decide) hu y0 y1
    rw [if_neg (by decide)] at h
    simp only [Nat.reduceMul, Int.reducePow, Int.ediv_one, Int.mul_one, h7] at h ⊢
    exact h
  · have h := xor_byte a y 3 5 (by decide) (by decide) hu y0 y1
    rw [if_neg (by decide)] at h
    simp only [Nat.reduceMul, Int.reducePow, Int.ediv_one, Int.mul_one, h7] at h ⊢
    exact h
  · have h := xor_byte a y 3 6 (by decide) (by decide) hu y0 y1
    rw [if_neg (by decide)] at h
    simp only [Nat.reduceMul, Int.reducePow, Int.ediv_one, Int.mul_one, h7] at h ⊢
    exact h
  · have h := xor_byte a y 3 7 (by decide) (by decide) hu y0 y1
    rw [if_neg (by decide)] at h
    simp only [Nat.reduceMul, Int.reducePow, Int.ediv_one, Int.mul_one, h7] at h ⊢
    exact h
set_option linter.unusedSimpArgs false in
theorem eight_xor4 (a y : Int) (hu : IsU a) (y0 : 0 ≤ y) (y1 : y < 256) : Eight (bits .xor .u64 a (y * 4294967296)) (a % 256) (a / 256 % 256) (a / 65536 % 256) (a / 16777216 % 256) (bits .xor .u8 (a / 4294967296 % 256) y) (a / 1099511627776 % 256) (a / 281474976710656 % 256) (a / 72057594037927936) := by
  have uV : IsU (bits .xor .u64 a (y * 4294967296)) := xor_u _ _ hu ⟨by omega, by omega⟩
  have h7 : a / 72057594037927936 % 256 = a / 72057594037927936 := by have := hu.lo; have := hu.hi; omega
  refine eight_of uV ?_ ?_ ?_ ?_ ?_ ?_ ?_ ?_
  · have h := xor_byte a y 4 0 (by decide) (by decide) hu y0 y1
    rw [if_neg (by decide)] at h
    simp only [Nat.reduceMul, Int.reducePow, Int.ediv_one, Int.mul_one, h7] at h ⊢
    exact h
  · have h := xor_byte a y 4 1 (by decide) (by decide) hu y0 y1
    rw [if_neg (by decide)] at h
    simp only [Nat.reduceMul, Int.reducePow, Int.ediv_one, Int.mul_one, h7] at h ⊢
    exact h
  · have h := xor_byte a y 4 2 (by decide) (by decide) hu y0 y1
    rw [if_neg (by decide)] at h
    simp only [Nat.reduceMul, Int.reducePow, Int.ediv_one, Int.mul_one, h7] at h ⊢
    exact h
  · have h := xor_byte a y 4 3 (by decide) (by decide) hu y0 y1
    rw [if_neg (by decide)] at h
    simp only [Nat.reduceMul, Int.reducePow, Int.ediv_one, Int.mul_one, h7] at h ⊢
    exact h
  · have h := xor_byte a y 4 4 (by decide) (by decide) hu y0 y1
    rw [if_pos rfl] at h
    simp only [Nat.reduceMul, Int.reducePow, Int.ediv_one, Int.mul_one, h7] at h ⊢
    exact h
  · have h := xor_byte a y 4 5 (by decide) (by decide) hu y0 y1
    rw [if_neg (by decide)] at h
    simp only [Nat.reduceMul, Int.reducePow, Int.ediv_one, Int.mul_one, h7] at h ⊢
    exact h
  · have h := xor_byte a y 4 6 (by decide) (by decide) hu y0 y1
    rw [if_neg (by decide)] at h
    simp only [Nat.reduceMul, Int.reducePow, Int.ediv_one, Int.mul_one, h7] at h ⊢
    exact h
  · have h := xor_byte a y 4 7 (by decide) (by decide) hu y0 y1
    rw [if_neg (by decide)] at h
    simp only [Nat.reduceMul, Int.reducePow, Int.ediv_one, Int.mul_one, h7] at h ⊢
    exact h
set_option linter.unusedSimpArgs false in
theorem eight_xor5 (a y : Int) (hu : IsU a) (y0 : 0 ≤ y) (y1 : y < 256) : Eight (bits .xor .u64 a (y * 1099511627776)) (a % 256) (a / 256 % 256) (a / 65536 % 256) (a / 16777216 % 256) (a / 4294967296 % 256) (bits .xor .u8 (a / 1099511627776 % 256) y) (a / 281474976710656 % 256) (a / 72057594037927936) := by
  have uV : IsU (bits .xor .u64 a (y * 1099511627776)) := xor_u _ _ hu ⟨by omega, by omega⟩
  have h7 : a / 72057594037927936 % 256 = a / 72057594037927936 := by have := hu.lo; have := hu.hi; omega
  refine eight_of uV ?_ ?_ ?_ ?_ ?_ ?_ ?_ ?_
  · have h := xor_byte a y 5 0 (by decide) (by decide) hu y0 y1
    rw [if_neg (by decide)] at h
    simp only [Nat.reduceMul, Int.reducePow, Int.ediv_one, Int.mul_one, h7] at h ⊢
    exact h
  · have h := xor_byte a y 5 1 (by decide) (by decide) hu y0 y1
    rw [if_neg (by decide)] at h
    simp only [Nat.reduceMul, Int.reducePow, Int.ediv_one, Int.mul_one, h7] at h ⊢
    exact h
  · have h := xor_byte a y 5 2 (by decide) (by decide) hu y0 y1
    rw [if_neg (by decide)] at h
    simp only [Nat.reduceMul, Int.reducePow, Int.ediv_one, Int.mul_one, h7] at h ⊢
    exact h
  · have h := xor_byte a y 5 3 (by decide) (by decide) hu y0 y1
    rw [if_neg (by decide)] at h
    simp only [Nat.reduceMul, Int.reducePow, Int.ediv_one, Int.mul_one, h7] at h ⊢
    exact h
  · have h := xor_byte a y 5 4 (by decide) (by decide) hu y0 y1
    rw [if_neg (by decide)] at h
    simp only [Nat.reduceMul, Int.reducePow, Int.ediv_one, Int.mul_one, h7] at h ⊢
    exact h
  · have h := xor_byte a y 5 5 (by decide) (by decide) hu y0 y1
    rw [if_pos rfl] at h
    simp only [Nat.reduceMul, Int.reducePow, Int.ediv_one, Int.mul_one, h7] at h ⊢
    exact h
  · have h := xor_byte a y 5 6 (by decide) (by decide) hu y0 y1
    rw [if_neg (by decide)] at h
    simp only [Nat.reduceMul, Int.reducePow, Int.ediv_one, Int.mul_one, h7] at h ⊢
    exact h
  · have h := xor_byte a y 5 7 (by decide) (by decide) hu y0 y1
    rw [if_neg (by decide)] at h
    simp only [Nat.reduceMul, Int.reducePow, Int.ediv_one, Int.mul_one, h7] at h ⊢
    exact h
set_option linter.unusedSimpArgs false in
theorem eight_xor6 (a y : Int) (hu : IsU a) (y0 : 0 ≤ y) (y1 : y < 256) : Eight (bits .xor .u64 a (y * 281474976710656)) (a % 256) (a / 256 % 256) (a / 65536 % 256) (a / 16777216 % 256) (a / 4294967296 % 256) (a / 1099511627776 % 256) (bits .xor .u8 (a / 281474976710656 % 256) y) (a / 72057594037927936) := by
  have uV : IsU (bits .xor .u64 a (y * 281474976710656)) := xor_u _ _ hu ⟨by omega, by omega⟩
  have h7 : a / 72057594037927936 % 256 = a / 72057594037927936 := by have := hu.lo; have := hu.hi; omega
  refine eight_of uV ?_ ?_ ?_ ?_ ?_ ?_ ?_ ?_
  · have h := xor_byte a y 6 0 (by decide) (by decide) hu y0 y1
    rw [if_neg (by decide)] at h
    simp only [Nat.reduceMul, Int.reducePow, Int.ediv_one, Int.mul_one, h7] at h ⊢
    exact h
  · have h := xor_byte a y 6 1 (by decide) (by decide) hu y0 y1
    rw [if_neg (by decide)] at h
    simp only [Nat.reduceMul, Int.reducePow, Int.ediv_one, Int.mul_one, h7] at h ⊢
    exact h
  · have h := xor_byte a y 6 2 (by decide) (by decide) hu y0 y1
    rw [if_neg (by decide)] at h
    simp only [Nat.reduceMul, Int.reducePow, Int.ediv_one, Int.mul_one, h7] at h ⊢
    exact h
  · have h := xor_byte a y 6 3 (by decide) (by decide) hu y0 y1
    rw [if_neg (by decide)] at h
    simp only [Nat.reduceMul, Int.reducePow, Int.ediv_one, Int.mul_one, h7] at h ⊢
    exact h
  · have h := xor_byte a y 6 4 (by decide) (by decide) hu y0 y1
    rw [if_neg (by decide)] at h
    simp only [Nat.reduceMul, Int.reducePow, Int.ediv_one, Int.mul_one, h7] at h ⊢
    exact h
  · have h := xor_byte a y 6 5 (by decide) (by decide) hu y0 y1
    rw [if_neg (by decide)] at h
    simp only [Nat.reduceMul, Int.reducePow, Int.ediv_one, Int.mul_one, h7] at h ⊢
    exact h
  · have h := xor_byte a y 6 6 (by decide) (by decide) hu y0 y1
    rw [if_pos rfl] at h
    simp only [Nat.reduceMul, Int.reducePow, Int.ediv_one, Int.mul_one, h7] at h ⊢
    exact h
  · have h := xor_byte a y 6 7 (by decide) (by decide) hu y0 y1
    rw [if_neg (by decide)] at h
    simp only [Nat.reduceMul, Int.reducePow, Int.ediv_one, Int.mul_one, h7] at h ⊢
    exact h
set_option linter.unusedSimpArgs false in
theorem eight_xor7 (a y : Int) (hu : IsU a) (y0 : 0 ≤ y) (y1 : y < 256) : Eight (bits .xor .u64 a (y * 72057594037927936)) (a % 256) (a / 256 % 256) (a / 65536 % 256) (a / 16777216 % 256) (a / 4294967296 % 256) (a / 1099511627776 % 256) (a / 281474976710656 % 256) (bits .xor .u8 (a / 72057594037927936) y) := by
  have uV : IsU (bits .xor .u64 a (y * 72057594037927936)) := xor_u _ _ hu ⟨by omega, by omega⟩
  have h7 : a / 72057594037927936 % 256 = a / 72057594037927936 := by have := hu.lo; have := hu.hi; omega
  refine eight_of uV ?_ ?_ ?_ ?_ ?_ ?_ ?_ ?_
  · have h := xor_byte a y 7 0 (by decide) (by decide) hu y0 y1
    rw [if_neg (by decide)] at h
    simp only [Nat.reduceMul, Int.reducePow, Int.ediv_one, Int.mul_one, h7] at h ⊢
    exact h
  · have h := xor_byte a y 7 1 (by decide) (by decide) hu y0 y1
    rw [if_neg (by decide)] at h
    simp only [Nat.reduceMul, Int.reducePow, Int.ediv_one, Int.mul_one, h7] at h ⊢
    exact h
  · have h := xor_byte a y 7 2 (by decide) (by decide) hu y0 y1
    rw [if_neg (by decide)] at h
    simp only [Nat.reduceMul, Int.reducePow, Int.ediv_one, Int.mul_one, h7] at h ⊢
    exact h
  · have h := xor_byte a y 7 3 (by decide) (by decide) hu y0 y1
    rw [if_neg (by decide)] at h
    simp only [Nat.reduceMul, Int.reducePow, Int.ediv_one, Int.mul_one, h7] at h ⊢
    exact h
  · have h := xor_byte a y 7 4 (by decide) (by decide) hu y0 y1
    rw [if_neg (by decide)] at h
    simp only [Nat.reduceMul, Int.reducePow, Int.ediv_one, Int.mul_one, h7] at h ⊢
    exact h
  · have h := xor_byte a y 7 5 (by decide) (by decide) hu y0 y1
    rw [if_neg (by decide)] at h
    simp only [Nat.reduceMul, Int.reducePow, Int.ediv_one, Int.mul_one, h7] at h ⊢
    exact h
  · have h := xor_byte a y 7 6 (by decide) (by decide) hu y0 y1
    rw [if_neg (by decide)] at h
    simp only [Nat.reduceMul, Int.reducePow, Int.ediv_one, Int.mul_one, h7] at h ⊢
    exact h
  · have h := xor_byte a y 7 7 (by decide) (by decide) hu y0 y1
    rw [if_pos rfl] at h
    simp only [Nat.reduceMul, Int.reducePow, Int.ediv_one, Int.mul_one, h7] at h ⊢
    exact h
theorem bytes_walk (a at' y : Int) (hu : IsU a) (y0 : 0 ≤ y) (y1 : y < 256) (w : World) :
    Calls Try.prog 7 #[.int .u64 a, .int .i64 at', .int .u8 y] w fun e w' => e = .returned (.bool true) ∧ Below w.heap.size w w' := by
  have ha : Eight a (a % 256) (a / 256 % 256) (a / 65536 % 256) (a / 16777216 % 256) (a / 4294967296 % 256) (a / 1099511627776 % 256) (a / 281474976710656 % 256) (a / 72057594037927936) := ⟨rfl, rfl, rfl, rfl, rfl, rfl, rfl, rfl⟩
  have h0 := hu.lo
  have h1 := hu.hi
  have i0 : IsB (a % 256) := ⟨by omega, by omega⟩
  have i1 : IsB (a / 256 % 256) := ⟨by omega, by omega⟩
  have i2 : IsB (a / 65536 % 256) := ⟨by omega, by omega⟩
  have i3 : IsB (a / 16777216 % 256) := ⟨by omega, by omega⟩
  have i4 : IsB (a / 4294967296 % 256) := ⟨by omega, by omega⟩
  have i5 : IsB (a / 1099511627776 % 256) := ⟨by omega, by omega⟩
  have i6 : IsB (a / 281474976710656 % 256) := ⟨by omega, by omega⟩
  have i7 : IsB (a / 72057594037927936) := ⟨by omega, by omega⟩
  have hcases : at' % 8 = 0 ∨ at' % 8 = 1 ∨ at' % 8 = 2 ∨ at' % 8 = 3 ∨ at' % 8 = 4 ∨ at' % 8 = 5 ∨ at' % 8 = 6 ∨ at' % 8 = 7 := by omega
  rcases hcases with hk | hk | hk | hk | hk | hk | hk | hk
  · have uV : IsU (bits .xor .u64 a (y)) := xor_u _ _ hu ⟨by omega, by omega⟩
    have eV : Eight (bits .xor .u64 a (y)) (bits .xor .u8 (a % 256) y) (a / 256 % 256) (a / 65536 % 256) (a / 16777216 % 256) (a / 4294967296 % 256) (a / 1099511627776 % 256) (a / 281474976710656 % 256) (a / 72057594037927936) := eight_xor0 a y hu y0 y1
    exact at0 a at' y _ _ _ _ _ _ _ _ _ _ hu hk ha i1 i2 i3 i4 i5 i6 i7 (xor8_b _ _) rfl (eight_sum eV uV) uV eV rfl y0 y1 w
  · have uV : IsU (bits .xor .u64 a (y * 256)) := xor_u _ _ hu ⟨by omega, by omega⟩
    have eV : Eight (bits .xor .u64 a (y * 256)) (a % 256) (bits .xor .u8 (a / 256 % 256) y) (a / 65536 % 256) (a / 16777216 % 256) (a / 4294967296 % 256) (a / 1099511627776 % 256) (a / 281474976710656 % 256) (a / 72057594037927936) := eight_xor1 a y hu y0 y1
    exact at1 a at' y _ _ _ _ _ _ _ _ _ _ hu hk ha i0 i2 i3 i4 i5 i6 i7 (xor8_b _ _) rfl (eight_sum eV uV) uV eV rfl y0 y1 w
  · have uV : IsU (bits .xor .u64 a (y * 65536)) := xor_u _ _ hu ⟨by omega, by omega⟩
    have eV : Eight (bits .xor .u64 a (y * 65536)) (a % 256) (a / 256 % 256) (bits .xor .u8 (a / 65536 % 256) y) (a / 16777216 % 256) (a / 4294967296 % 256) (a / 1099511627776 % 256) (a / 281474976710656 % 256) (a / 72057594037927936) := eight_xor2 a y hu y0 y1
    exact at2 a at' y _ _ _ _ _ _ _ _ _ _ hu hk ha i0 i1 i3 i4 i5 i6 i7 (xor8_b _ _) rfl (eight_sum eV uV) uV eV rfl y0 y1 w
  · have uV : IsU (bits .xor .u64 a (y * 16777216)) := xor_u _ _ hu ⟨by omega, by omega⟩
    have eV : Eight (bits .xor .u64 a (y * 16777216)) (a % 256) (a / 256 % 256) (a / 65536 % 256) (bits .xor .u8 (a / 16777216 % 256) y) (a / 4294967296 % 256) (a / 1099511627776 % 256) (a / 281474976710656 % 256) (a / 72057594037927936) := eight_xor3 a y hu y0 y1
    exact at3 a at' y _ _ _ _ _ _ _ _ _ _ hu hk ha i0 i1 i2 i4 i5 i6 i7 (xor8_b _ _) rfl (eight_sum eV uV) uV eV rfl y0 y1 w
  · have uV : IsU (bits .xor .u64 a (y * 4294967296)) := xor_u _ _ hu ⟨by omega, by omega⟩
    have eV : Eight (bits .xor .u64 a (y * 4294967296)) (a % 256) (a / 256 % 256) (a / 65536 % 256) (a / 16777216 % 256) (bits .xor .u8 (a / 4294967296 % 256) y) (a / 1099511627776 % 256) (a / 281474976710656 % 256) (a / 72057594037927936) := eight_xor4 a y hu y0 y1
    exact at4 a at' y _ _ _ _ _ _ _ _ _ _ hu hk ha i0 i1 i2 i3 i5 i6 i7 (xor8_b _ _) rfl (eight_sum eV uV) uV eV rfl y0 y1 w
  · have uV : IsU (bits .xor .u64 a (y * 1099511627776)) := xor_u _ _ hu ⟨by omega, by omega⟩
    have eV : Eight (bits .xor .u64 a (y * 1099511627776)) (a % 256) (a / 256 % 256) (a / 65536 % 256) (a / 16777216 % 256) (a / 4294967296 % 256) (bits .xor .u8 (a / 1099511627776 % 256) y) (a / 281474976710656 % 256) (a / 72057594037927936) := eight_xor5 a y hu y0 y1
    exact at5 a at' y _ _ _ _ _ _ _ _ _ _ hu hk ha i0 i1 i2 i3 i4 i6 i7 (xor8_b _ _) rfl (eight_sum eV uV) uV eV rfl y0 y1 w
  · have uV : IsU (bits .xor .u64 a (y * 281474976710656)) := xor_u _ _ hu ⟨by omega, by omega⟩
    have eV : Eight (bits .xor .u64 a (y * 281474976710656)) (a % 256) (a / 256 % 256) (a / 65536 % 256) (a / 16777216 % 256) (a / 4294967296 % 256) (a / 1099511627776 % 256) (bits .xor .u8 (a / 281474976710656 % 256) y) (a / 72057594037927936) := eight_xor6 a y hu y0 y1
    exact at6 a at' y _ _ _ _ _ _ _ _ _ _ hu hk ha i0 i1 i2 i3 i4 i5 i7 (xor8_b _ _) rfl (eight_sum eV uV) uV eV rfl y0 y1 w
  · have uV : IsU (bits .xor .u64 a (y * 72057594037927936)) := xor_u _ _ hu ⟨by omega, by omega⟩
    have eV : Eight (bits .xor .u64 a (y * 72057594037927936)) (a % 256) (a / 256 % 256) (a / 65536 % 256) (a / 16777216 % 256) (a / 4294967296 % 256) (a / 1099511627776 % 256) (a / 281474976710656 % 256) (bits .xor .u8 (a / 72057594037927936) y) := eight_xor7 a y hu y0 y1
    exact at7 a at' y _ _ _ _ _ _ _ _ _ _ hu hk ha i0 i1 i2 i3 i4 i5 i6 (xor8_b _ _) rfl (eight_sum eV uV) uV eV rfl y0 y1 w

theorem own : ownKnob Try.prog.godebug = none := by kernel_rfl

theorem walk (a0 : Int) (a1 : Int) (a2 : Int) (w0 : (Lit.int .u64 a0).wf = true) (w1 : (Lit.int .i64 a1).wf = true) (w2 : (Lit.int .u8 a2).wf = true) (w : World) :
    Calls Try.prog 7 #[.int .u64 a0, .int .i64 a1, .int .u8 a2] w fun e w' => e = .returned (.bool true) ∧ Below w.heap.size w w' := by
  exact bytes_walk a0 a1 a2 (wf_u64 w0) (bounds_u8 w2).1 (by have := (bounds_u8 w2).2; omega) w

set_option maxRecDepth 100000 in
theorem lifted (os : Os) (started : os.Started) (H : Type) (enc : TypeId × Value → H) :
    ReturnsInHanded {} Try.checked os 7 .any (Rows.bitsBytesSpec.pre6 enc Try.prog Try.f7 Rows.bitsBytesRow.domain false) (Rows.bitsBytesSpec.post enc Try.prog Try.f7 false true false false) := by
  refine returnsInHanded_of_change (C := Try.checked) own started (by kernel_rfl) Try.func7
    (ChangeSpec.witness6 (enc := enc) (C := Try.checked) false ⟨#[], #[.int .u64 0, .int .i64 0, .int .u8 0], []⟩ 8 (by kernel_rfl) (by kernel_rfl) (by kernel_rfl) (by kernel_rfl)) ?_
  intro W base args ds gs before hval0 hW hcnd _
  have hval : ∀ (j : Nat) t v, Try.f7.params[j]? = some t → args[j]? = some v → Value.okWide Try.prog W .any base t v := hval0
  have hW' := hW
  obtain ⟨p, q, hA0, hV, rfl, hfz, hnd⟩ := hW
  have hA : DataW.TrodAll enc Try.prog W 0 (fun _ => true) true Try.f7.params.toList args.toList ds p := hA0
  rw [Try.params7] at hA hval
  obtain ⟨v0, vs0, d0, ds0, p0, q0, hargs, rfl, rfl, h0, r0⟩ := trodAll_cons hA
  obtain ⟨v1, vs1, d1, ds1, p1, q1, rfl, rfl, rfl, h1, r1⟩ := trodAll_cons r0
  obtain ⟨v2, vs2, d2, ds2, p2, q2, rfl, rfl, rfl, h2, r2⟩ := trodAll_cons r1
  obtain ⟨rfl, rfl, rfl⟩ := trodAll_nil r2
  obtain rfl : args = #[v0, v1, v2] := by cases args; simp_all
  obtain ⟨rfl, rfl⟩ := trodVars_none hV
  obtain ⟨a0, rfl, rfl, rfl, w0⟩ := open_int Try.underlying22 (hval 0 22 v0 rfl rfl) h0
  obtain ⟨a1, rfl, rfl, rfl, w1⟩ := open_int Try.underlying3 (hval 1 3 v1 rfl rfl) h1
  obtain ⟨a2, rfl, rfl, rfl, w2⟩ := open_int Try.underlying5 (hval 2 5 v2 rfl rfl) h2
  clear hA0 hval0
  simp only [List.append_nil] at hW'
  refine (walk a0 a1 a2 w0 w1 w2 W).mono fun e W' ⟨he, bel⟩ => ?_
  subst he
  exact ⟨_, rfl, _, _, _, [], _, [], hW', trodAll_mk1 (shut_bool Try.underlying4 _), (trodAll_cons_mk (shut_int Try.underlying22 w0) (trodAll_cons_mk (shut_int Try.underlying3 w1) (trodAll_cons_mk (shut_int Try.underlying5 w2) trodAll_mk0))), rfl, bel.frame _, fun h => by cases h⟩

theorem over : Rows.bitsBytesRow.holds Try.pinned (OpenSpec.ofChange Rows.bitsBytesSpec) :=
  OpenClaim.holds_of_wide 7 Try.f7 rfl rfl rfl rfl rfl rfl rfl ⟨rfl, rfl, rfl, rfl, rfl⟩ rfl rfl rfl rfl rfl (by kernel_rfl) Try.func7 (by kernel_rfl)
    (of_decide_eq_true (by kernel_rfl)) (by unfold Func.isWrapper; first | (rw [if_pos (by decide +kernel)]; kernel_rfl) | (rw [if_neg (by decide +kernel)]; exact ⟨rfl, rfl⟩))
    (fun os started H enc _ => lifted os started H enc)

theorem proved : Rows.BitsBytesSaid :=
  over
end Go.Proofs.Ytmndedadopnfjaa.bitsBytes
namespace Go.Proofs.Ytmndedadopnfjaa
/-- the given statement -/
theorem bitsBytes_holds : Rows.BitsBytesSaid :=
  bitsBytes.proved
#print axioms bitsBytes_holds
end Go.Proofs.Ytmndedadopnfjaa
