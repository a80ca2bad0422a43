/- A number by its digits. -/
import Derived.Test.YtlelnjheocbmnaaDoorCF
import Derived.Test.YtlelnjheocbmnaaDoorCG
import Derived.Test.YtlelnjheocbmnaaDoorCParts
set_option linter.unusedVariables false
namespace Go.Proofs.YtlelnjheocbmnaaDoor
open Go.RowKit M

set_option maxRecDepth 20000 in
theorem place_gen (v N : Int) (h0 : 0 < N) (hN : N ≤ 100000000) : ∃ j : Nat, (j : Int) < N ∧ ∀ w, Calls Tryd.prog 15 #[.int .i64 v, .int .i64 N] w fun e w' => e = .returned (.int .i64 j) ∧ w' = w := by
  have h1 : -N < v.tmod N := Int.lt_tmod_of_pos v h0
  have h2 : v.tmod N < N := Int.tmod_lt_of_pos v h0
  obtain ⟨r, hr⟩ : ∃ r, v.tmod N = r := ⟨_, rfl⟩
  rw [hr] at h1 h2
  have hw : wrap64 r = r := by unfold wrap64; omega
  have hz : (N == 0) = false := beq_eq_false_iff_ne.2 (by omega)
  have hm : (N == -1) = false := beq_eq_false_iff_ne.2 (by omega)
  by_cases h : r < 0
  · have hw2 : wrap64 (r + N) = r + N := by unfold wrap64; omega
    refine ⟨(r + N).toNat, by omega, fun w => ?_⟩
    have e : (((r + N).toNat : Nat) : Int) = r + N := by omega
    rw [e]
    go_enter Tryd.func15, Tryd.ntmps15
    go_wp2
    go_ret
    exact ⟨rfl, rfl⟩
  · refine ⟨r.toNat, by omega, fun w => ?_⟩
    have e : ((r.toNat : Nat) : Int) = r := by omega
    rw [e]
    go_enter Tryd.func15, Tryd.ntmps15
    go_wp2
    go_ret
    exact ⟨rfl, rfl⟩

theorem val_cons (b : Nat) (c : UInt8) (r : List UInt8) (n : Nat) : val b (c :: r) n = val b r (n * b + dgt c) := rfl
/-- how far a number's digits have come: D of them, n is left -/
structure Dig (b k : Nat) (D : List UInt8) (n : Nat) : Prop where
  num : val b D n = k
  all : ∀ c ∈ D, dgt c < b
  len : D.length + n ≤ k + 1
theorem dig_start (b k : Nat) : Dig b k [] k := ⟨rfl, (fun _ h => by cases h), (by simp)⟩
theorem dig_step {b k n : Nat} {D : List UInt8} {c : UInt8} (hb : 2 ≤ b) (h : Dig b k D n) (hc : dgt c = n % b) (h0 : 0 < n ∨ D = []) : Dig b k (c :: D) (n / b) := by
  have hlt : n % b < b := Nat.mod_lt _ (by omega)
  refine ⟨?_, ?_, ?_⟩
  · rw [val_cons, hc]
    have e : n / b * b + n % b = n := by rw [Nat.mul_comm]; exact Nat.div_add_mod n b
    rw [e]
    exact h.num
  · intro x hx
    rcases List.mem_cons.1 hx with rfl | hx
    · rw [hc]; exact hlt
    · exact h.all x hx
  · have := h.len
    rw [List.length_cons]
    rcases h0 with h0 | rfl
    · have : n / b < n := Nat.div_lt_self h0 hb
      omega
    · have : n / b ≤ n := Nat.div_le_self n b
      simp only [List.length_nil] at *
      by_cases hn : n = 0
      · subst hn; simp
      · have : n / b < n := Nat.div_lt_self (by omega) hb
        omega
def emp : Value → Nat
  | .string s => if s.size = 0 then 1 else 0
  | _ => 0
theorem emp_0 : emp (.string ⟨#[]⟩) = 1 := rfl
theorem emp_pos {s : ByteArray} (h : 0 < s.size) : emp (.string s) = 0 := by
  show (if s.size = 0 then 1 else 0) = 0
  rw [if_neg (by omega)]

theorem emp_nil {s : ByteArray} (h : s.size = 0) : emp (.string s) = 1 := by
  show (if s.size = 0 then 1 else 0) = 1
  rw [if_pos h]
theorem tab10 : ∀ q, q < 10 → dgt (bAt [48, 49, 50, 51, 52, 53, 54, 55, 56, 57] q) = q := by decide
theorem tabL : ∀ q, q < 16 → dgt (bAt [48, 49, 50, 51, 52, 53, 54, 55, 56, 57, 97, 98, 99, 100, 101, 102] q) = q := by decide
theorem tabU : ∀ q, q < 16 → dgt (bAt [48, 49, 50, 51, 52, 53, 54, 55, 56, 57, 65, 66, 67, 68, 69, 70] q) = q := by decide
theorem cut_at (L : ByteArray) (q : Nat) (h : q < L.size) : ∃ C : ByteArray, L.extract q (q + 1) = C ∧ Fact (C.data.toList = [bAt L.data.toList q]) := ⟨_, rfl, ⟨one_byte L q h⟩⟩
theorem join_one {C D : ByteArray} {c : UInt8} (h : C.data.toList = [c]) : (C ++ D).data.toList = c :: D.data.toList := by rw [app_data, h]; rfl
theorem size_one {C : ByteArray} {c : UInt8} (h : C.data.toList = [c]) : C.size = 1 := by rw [Lib.size_eq, h]; rfl

theorem sum_ok {a b n : Nat} (ha : a = 1) (h : b ≤ n) (hn : n ≤ 100000000) : ¬ 9223372036854775807 < a + b := by omega
theorem meas_dig {m m2 : Nat} {D D2 : ByteArray} (h2 : m / 10 = m2 ∨ m / 16 = m2) (h : 0 < m ∨ D.size = 0) (hD2 : 0 < D2.size) : 2 * (intOf (.int .i64 (m2 : Int))).toNat + emp (.string D2) < 2 * (intOf (.int .i64 (m : Int))).toNat + emp (.string D) := by
  rw [emp_pos hD2]
  have e1 : (intOf (.int .i64 (m2 : Int))).toNat = m2 := by simp [intOf]
  have e2 : (intOf (.int .i64 (m : Int))).toNat = m := by simp [intOf]
  rw [e1, e2]
  rcases h with h | h
  · omega
  · rw [emp_nil h]; omega
theorem zeros_cut (j : Nat) (h : j < 10) : ∃ Z : ByteArray, (⟨#[48, 48, 48, 48, 48, 48, 48, 48, 48]⟩ : ByteArray).extract 0 j = Z ∧ Fact (Z.data.toList = List.replicate j 48) := by
  refine ⟨_, rfl, ⟨?_⟩⟩
  have e := ext_data (⟨#[48, 48, 48, 48, 48, 48, 48, 48, 48]⟩ : ByteArray) 0 j
  rw [Nat.zero_add] at e
  rw [e]
  have : ∀ j, j < 10 → (([48, 48, 48, 48, 48, 48, 48, 48, 48] : List UInt8).drop 0).take j = List.replicate j 48 := by decide
  exact this j h
/-- what the law asks of the three texts -/
structure Three (Z D H U T : ByteArray) (N1 N2 N3 : Nat) : Prop where
  one : refA ((⟨#[38, 35]⟩ : ByteArray) ++ Z ++ D ++ ⟨#[59]⟩).data.toList 0 false = (T.data.toList, N1)
  two : refA ((⟨#[38, 35, 120]⟩ : ByteArray) ++ Z ++ H ++ ⟨#[59]⟩).data.toList 0 true = (T.data.toList, N2)
  three : refA ((⟨#[38, 35, 88]⟩ : ByteArray) ++ U).data.toList 0 false = (T.data.toList, N3)
  len1 : N1 = 3 + Z.size + D.size
  len2 : N2 = 4 + Z.size + H.size
  len3 : N3 = 3 + U.size
  some : 0 < T.size
theorem ne_nil {D : ByteArray} (h : 0 < D.size) : D.data.toList ≠ [] := by
  intro e
  rw [Lib.size_eq, e] at h
  exact absurd h (by simp)
theorem en_pos (r : Int) : 0 < (en r).length := by
  unfold en Utf8.encode
  simp only []
  repeat' split
  all_goals simp
theorem three_of {k j : Nat} {Z D H U : ByteArray} (hZ : Z.data.toList = List.replicate j 48) (hD : Dig 10 k D.data.toList 0) (hH : Dig 16 k H.data.toList 0) (hU : Dig 16 k U.data.toList 0) (h1 : 0 < D.size) (h2 : 0 < H.size) (h3 : 0 < U.size) :
    ∃ T N1 N2 N3, Three Z D H U T N1 N2 N3 := by
  have z0 : ∀ c ∈ List.replicate j (48 : UInt8), dgt c < 10 := fun c hc => by rw [List.eq_of_mem_replicate hc]; decide
  have z1 : ∀ c ∈ List.replicate j (48 : UInt8), dgt c < 16 := fun c hc => by rw [List.eq_of_mem_replicate hc]; decide
  have r1 := ref_ten (l := List.replicate j 48 ++ D.data.toList) (rest := []) false (by simp [ne_nil h1]) (fun c hc => (List.mem_append.1 hc).elim (z0 c) (hD.all c))
  have r2 := ref_hex (x := 120) (l := List.replicate j 48 ++ H.data.toList) (rest := [59]) true (.inl rfl) (by simp [ne_nil h2]) (fun c hc => (List.mem_append.1 hc).elim (z1 c) (hH.all c)) (fun c hc => by cases hc; decide)
  have r3 := ref_hex (x := 88) (l := U.data.toList) (rest := []) false (.inr rfl) (ne_nil h3) hU.all (fun c hc => by cases hc)
  rw [val_zeros, hD.num] at r1
  rw [val_zeros, hH.num] at r2
  rw [hU.num] at r3
  refine ⟨⟨(en (codeB ((min k 1114112 : Nat) : Int))).toArray⟩, _, _, _, ⟨?_, ?_, ?_, rfl, rfl, rfl, ?_⟩⟩
  · unfold refA
    rw [if_neg (by decide)]
    simp only [app_data, hZ]
    have e : ([38, 35] : List UInt8) ++ List.replicate j 48 ++ D.data.toList ++ [59] = 38 :: 35 :: (List.replicate j 48 ++ D.data.toList ++ 59 :: []) := by simp
    refine Eq.trans (congrArg (fun l => refT l false) e) (r1.trans ?_)
    rw [List.length_append, List.length_replicate, Lib.size_eq Z, hZ, List.length_replicate, Lib.size_eq D]
    congr 1
    omega
  · unfold refA
    rw [if_neg (by decide)]
    simp only [app_data, hZ]
    have e : ([38, 35, 120] : List UInt8) ++ List.replicate j 48 ++ H.data.toList ++ [59] = 38 :: 35 :: 120 :: (List.replicate j 48 ++ H.data.toList ++ [59]) := by simp
    refine Eq.trans (congrArg (fun l => refT l true) e) (r2.trans ?_)
    rw [if_pos (show ([59] : List UInt8).head? = some 59 from rfl), List.length_append, List.length_replicate, Lib.size_eq Z, hZ, List.length_replicate, Lib.size_eq H]
    congr 1
    omega
  · unfold refA
    rw [if_neg (by decide)]
    simp only [app_data]
    have e : ([38, 35, 88] : List UInt8) ++ U.data.toList = 38 :: 35 :: 88 :: (U.data.toList ++ []) := by simp
    refine Eq.trans (congrArg (fun l => refT l false) e) (r3.trans ?_)
    rw [if_neg (by simp), Lib.size_eq U]
    congr 1
    omega
  · rw [Lib.size_eq]
    exact en_pos _
set_option maxRecDepth 20000 in
theorem slice_at (L : ByteArray) (q : Nat) (h : q < L.size) (hs : L.size ≤ 100) (C : ByteArray) (hC : L.extract q (q + 1) = C) (w : World) : (Instr.slice 9 (.string L) (some (.int .i64 (q : Int))) (some (.int .i64 ((q : Int) + 1))) none).run Tryd.prog w = .ok (.string C) w := by
  have h1 : (0 : Int) ≤ q := by omega
  have h2 : (q : Int) ≤ (q : Int) + 1 := by omega
  have h3 : (q : Int) + 1 ≤ L.size := by omega
  have h4 : ((q : Int) + 1).toNat = q + 1 := by omega
  have h5 : (0 : Int) ≤ (q : Int) + 1 := by omega
  go_simp
theorem add_at (a b T : ByteArray) (h : a ++ b = T) (hs : a.size + b.size ≤ 100000000) (w : World) : (Op.stringOp .add a b).run Tryd.prog w = .ok (.string T) w := by
  have h1 := run_string_add_sum (P := Tryd.prog) (w := w) a b (by omega)
  rw [h] at h1
  exact h1
theorem size_add {a b T : ByteArray} {n m : Nat} (h : a ++ b = T) (ha : a.size ≤ n) (hb : b.size ≤ m) : T.size ≤ n + m := by
  rw [← h, ByteArray.size_append]
  omega
theorem wrap_sum {a b c : Nat} (h : a + b = c) (hc : c ≤ 100000000) : wrap64 ((a : Int) + (b : Int)) = (c : Int) := wrap_ok (by omega) ⟨by omega⟩
theorem wrap_three {z d N : Nat} (h : N = 3 + z + d) (hz : z ≤ 9) (hd : d ≤ 1179649) : ∃ e : Nat, wrap64 (3 + (z : Int)) = (e : Int) ∧ wrap64 ((e : Int) + (d : Int)) = (N : Int) := by
  refine ⟨3 + z, ?_, ?_⟩
  · rw [IntWalk.wrap64_in _ ⟨by omega, by omega⟩]; omega
  · rw [IntWalk.wrap64_in _ ⟨by omega, by omega⟩]; omega
theorem wrap_four {z d N : Nat} (h : N = 4 + z + d) (hz : z ≤ 9) (hd : d ≤ 1179649) : ∃ e : Nat, wrap64 (4 + (z : Int)) = (e : Int) ∧ wrap64 ((e : Int) + (d : Int)) = (N : Int) := by
  refine ⟨4 + z, ?_, ?_⟩
  · rw [IntWalk.wrap64_in _ ⟨by omega, by omega⟩]; omega
  · rw [IntWalk.wrap64_in _ ⟨by omega, by omega⟩]; omega
theorem wrap_u {u N : Nat} (h : N = 3 + u) (hu : u ≤ 1179649) : wrap64 (3 + (u : Int)) = (N : Int) := by
  rw [IntWalk.wrap64_in _ ⟨by omega, by omega⟩]; omega
end Go.Proofs.YtlelnjheocbmnaaDoor
