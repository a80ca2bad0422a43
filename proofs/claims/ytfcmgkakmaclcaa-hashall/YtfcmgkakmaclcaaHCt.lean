/- kidCounts: of the list of a tree's nodes, how many kids each has. -/
import Derived.Test.YtfcmgkakmaclcaaHAl
import Derived.Test.YtfcmgkakmaclcaaOrdM
import Derived.Test.YtfcmgkakmaclcaaFlat
set_option linter.unusedVariables false
set_option linter.unusedSimpArgs false
namespace Go.Proofs.Ytfcmgkakmaclcaa
open Go.Deep (BT)
open Go.RowKit Go.Shelf M
open Bt (mx IsU mx_u ret_int)

def cU (l : List Int) : List Value := l.map fun i => .int .u64 i
theorem cU_len (l : List Int) : (cU l).length = l.length := by simp [cU]
theorem cU_get {l : List Int} {i : Nat} {y : Int} (h : l[i]? = some y) : (cU l)[i]? = some (.int .u64 y) := by simp [cU, h]
theorem cU_set (l : List Int) (i : Nat) (y : Int) : (cU l).set i (.int .u64 y) = cU (l.set i y) := by simp [cU, List.map_set]
theorem made_zeroU (n : Nat) : (madeCells (Value.int .u64 0).cells (n * 1)).toList = cU (List.replicate n 0) := by
  apply List.ext_getElem?
  intro i
  rw [Nat.mul_one]
  by_cases hi : i < n
  · simp [madeCells, cU, hi, Value.cells, Nat.mod_one]
  · rw [List.getElem?_eq_none (by simp [madeCells]; omega), List.getElem?_eq_none (by simp [cU]; omega)]
theorem infoU64 : (Try.prog.info? 32).map (fun i => (i.zero, i.size, i.bytes)) = some (some (.int .u64 0), 1, 8) := by kernel_rfl
theorem rowV_at {w : World} {B E g n cap : Nat} {xs : List Value} (h : w.ownsRow B E 1 (.slice (some ⟨g, 0, none⟩) n cap) n xs) {i : Nat} {y : Value} (hy : xs[i]? = some y) :
    w.cell? ⟨g, i, none⟩ = some y ∧ (∀ o, w.frozen? ⟨g, o, none⟩ = false) ∧ B ≤ g ∧ g < w.heap.size ∧ n ≤ cap ∧ cap ≤ maxLen ∧ i < n := by
  obtain ⟨h1, h2⟩ := h
  have hi : i < n := by have := (List.getElem?_eq_some_iff.1 hy).1; omega
  rcases h2 with ⟨e, _⟩ | ⟨g', cap', cur, e, hg, hh, hc1, hc2, hs, ht⟩
  · cases e
  · cases e
    refine ⟨?_, fun o => by simp [World.frozen?, hh], hg, (Array.getElem?_eq_some_iff.1 hh).1, hc1, hc2, hi⟩
    simp only [World.cell?, hh]
    rw [← ht, List.getElem?_take] at hy
    split at hy
    · simpa using hy
    · cases hy
theorem rowV_set {w : World} {B E g n cap : Nat} {xs : List Value} (h : w.ownsRow B E 1 (.slice (some ⟨g, 0, none⟩) n cap) n xs) (i : Nat) (y : Value) :
    (w.setCell ⟨g, i, none⟩ y).ownsRow B E 1 (.slice (some ⟨g, 0, none⟩) n cap) n (xs.set i y) := by
  obtain ⟨h1, h2⟩ := h
  refine ⟨by simpa using h1, .inr ?_⟩
  rcases h2 with ⟨e, _⟩ | ⟨g', cap', cur, e', hg, hh, hc1, hc2, hs, ht⟩
  · cases e
  · cases e'
    refine ⟨g, cap, cur.setIfInBounds i y, rfl, hg, ?_, hc1, hc2, by simpa using hs, ?_⟩
    · simp only [World.setCell, Array.getElem?_modify, hh]
      simp
    · rw [Array.toList_setIfInBounds, List.take_set, ht]

/-- the counts behind the first i nodes -/
def cnts (l : List Im) (i : Nat) : List Int := (l.take i).foldl stepC (List.replicate l.length 0)
theorem cnts_len (l : List Im) (i : Nat) : (cnts l i).length = l.length := by
  unfold cnts
  generalize List.take i l = m
  have : ∀ (m : List Im) (C : List Int), (m.foldl stepC C).length = C.length := by
    intro m
    induction m with
    | nil => intro C; rfl
    | cons x m ih => intro C; rw [List.foldl_cons, ih, stepC_len]
  rw [this]; simp
theorem cnts_succ {l : List Im} {i : Nat} {y : Im} (h : l[i]? = some y) : cnts l (i + 1) = stepC (cnts l i) y := by
  unfold cnts
  rw [List.take_add_one, h, List.foldl_append]
  rfl
theorem cnts_le : ∀ (l : List Im) (i : Nat), ∀ a ∈ cnts l i, 0 ≤ a ∧ a ≤ i
  | l, 0, a, h => by
    simp [cnts] at h
    omega
  | l, i + 1, a, h => by
    cases hy : l[i]? with
    | none =>
      have hle : l.length ≤ i := List.getElem?_eq_none_iff.1 hy
      have e : cnts l (i + 1) = cnts l i := by unfold cnts; rw [List.take_of_length_le hle, List.take_of_length_le (by omega)]
      rw [e] at h
      have := cnts_le l i a h
      omega
    | some y =>
      rw [cnts_succ hy] at h
      have := stepC_le (cnts_le l i) a h
      omega
theorem stepC_none {C : List Int} {y : Im} (h : y.p = -1) : stepC C y = C := by unfold stepC; rw [if_pos (by omega)]
theorem stepC_some {C : List Int} {y : Im} {q : Nat} {c : Int} (h : y.p = q) (hc : C[q]? = some c) : stepC C y = C.set q (c + 1) := by
  unfold stepC
  rw [if_neg (by omega), h, Int.toNat_natCast]
  apply List.ext_getElem?
  intro i
  rw [List.getElem?_modify, List.getElem?_set]
  by_cases hq : q = i
  · subst hq; rw [hc]; simp [(List.getElem?_eq_some_iff.1 hc).1]
  · simp [hq]

set_option maxRecDepth 20000 in
set_option maxHeartbeats 4000000 in
theorem counts_any (d : Nd) (k : M.F) (its : List (Im × Value)) (g1 c1 n B1 : Nat) (w : World) (hrow : w.ownsRow B1 60 10 (.slice (some ⟨g1, 0, none⟩) n c1) n (cellsIt its)) (hmap : its.map (·.1) = flatT d k) (hks : k.size + 1 = n) (hn : n ≤ 1000000) (hav : ∀ y ∈ its, ∃ a l c, y.2 = .slice a l c) :
    Calls Try.prog 31 #[.slice (some ⟨g1, 0, none⟩) n c1] w fun e w' => ∃ g2, e = .returned (.slice (some ⟨g2, 0, none⟩) n n) ∧ Below w.heap.size w w' ∧ Fact (w'.ownsRow w.heap.size 32 1 (.slice (some ⟨g2, 0, none⟩) n n) n (cU (cntT k))) := by
  have hits : its.length = n := by have := congrArg List.length hmap; rw [List.length_map, flatT_len, hks] at this; exact this
  have hfl : (flatT d k).length = n := by rw [flatT_len, hks]
  obtain ⟨i0, hii, hzz0, hzz1, hzz2⟩ := info_parts infoU64
  have hn1 : 1 ≤ n := by omega
  have HROW := Fact.mk hrow
  have HMAP := Fact.mk hmap
  have HAV := Fact.mk hav
  have HFL := Fact.mk hfl
  have HKS := Fact.mk hks
  clear hrow hmap hav hks
  go_enter Try.func31, Try.ntmps31
  go_wp2_with (at_make; refine wpList_make_full _ rfl (.tmp 7) (.tmp 7) 30 rfl w.heap.size 32 i0 (.int .u64 0) 1 Try.underlying30 hii hzz0 hzz1 .i64 .i64 (n : Int) (n : Int) n rfl rfl rfl rfl (by rw [hzz2]; omega) (by unfold maxLen; omega) (Nat.le_refl _) ?_; intro w4 hown4 hgr4)
  have hO4 : Fact (w4.ownsRow w.heap.size 32 1 (.slice (some ⟨w.heap.size, 0, none⟩) n n) n (cU (cnts (flatT d k) 0))) := ⟨by
    have e : cnts (flatT d k) 0 = List.replicate n 0 := by unfold cnts; rw [HFL.out]; rfl
    rw [e, ← made_zeroU]; exact hown4⟩
  have hB4 : Fact (Below w.heap.size w w4) := ⟨(Below.refl _ w).grown hgr4 (Nat.le_refl _) (fun k e => by cases e)⟩
  clear hown4 hgr4
  go_loopg [11] n (fun gf iv wr => ∃ i : Nat, iv = .int .i64 i ∧ i ≤ n ∧ n - i ≤ gf ∧ Fact (Below w.heap.size w wr) ∧ Fact (wr.ownsRow w.heap.size 32 1 (.slice (some ⟨w.heap.size, 0, none⟩) n n) n (cU (cnts (flatT d k) i))))
  case atStart => exact ⟨0, rfl, Nat.zero_le _, Nat.le_refl _, hB4, hO4⟩
  case round =>
    obtain ⟨i, rfl, hi, hgf, hBr, hOr⟩ := hrel
    by_cases hin : i = n
    · subst hin
      have hdec : decide ((i : Int) < (i : Int)) = false := decide_eq_false (by omega)
      have HE : Fact (cnts (flatT d k) i = cntT k) := ⟨by
        unfold cnts
        rw [List.take_of_length_le (by rw [HFL.out]; exact Nat.le_refl _), flatT_len]
        exact cnt_all d k⟩
      go_wp2_with fail
      go_ret
      exact ⟨w.heap.size, rfl, hBr.out, ⟨by rw [← HE.out]; exact hOr.out⟩⟩
    · have hlt : i < n := by omega
      have hdec : decide ((i : Int) < (n : Int)) = true := decide_eq_true (by omega)
      obtain ⟨y, hy⟩ : ∃ y, its[i]? = some y := ⟨its[i]'(by omega), by simp⟩
      have hy1 : (flatT d k)[i]? = some y.1 := by rw [← HMAP.out, List.getElem?_map, hy]; rfl
      have hsucc := cnts_succ hy1
      have hpar : y.1.p = -1 ∨ ∃ q : Nat, y.1.p = q ∧ q < n := by
        cases i with
        | zero =>
          left
          have h1 := hy1
          rw [flatT] at h1
          simp at h1
          rw [← h1]
        | succ i =>
          right
          obtain ⟨q, x, _, hu⟩ := flatT_up d k (i + 1) y.1 (by omega) hy1
          have h1 := hu.lt
          have h2 := hu.p
          rw [Nat.zero_add] at h2
          exact ⟨q, h2, by omega⟩
      obtain ⟨ya, yl, yc, hyv⟩ := HAV.out y (List.mem_of_getElem? hy)
      have hrr := row10_at (own_block HROW.out (fun k _ hk => hBr.out.block k hk)) hy
      obtain ⟨hr, _, _, _, hc1, _, _⟩ := hrr
      obtain ⟨⟨yp, yz, ydp, yh, ypl, ⟨K, N, X, A⟩⟩, yav⟩ := y
      dsimp only at hyv hpar
      subst hyv
      have r0 : wr.cell? ⟨g1, i * 10, none⟩ = some (.int .i64 yp) := hr 0 _ rfl
      have r1 : wr.cell? ⟨g1, i * 10 + 1, none⟩ = some (.int .i64 yz) := hr 1 _ rfl
      have r2 : wr.cell? ⟨g1, i * 10 + 2, none⟩ = some (.int .i64 ydp) := hr 2 _ rfl
      have r3 : wr.cell? ⟨g1, i * 10 + 3, none⟩ = some (.int .i64 yh) := hr 3 _ rfl
      have r4 : wr.cell? ⟨g1, i * 10 + 4, none⟩ = some (.int .i64 ypl) := hr 4 _ rfl
      have r5 : wr.cell? ⟨g1, i * 10 + 5, none⟩ = some (.int .i64 K) := hr 5 _ rfl
      have r6 : wr.cell? ⟨g1, i * 10 + 6, none⟩ = some (.string N) := hr 6 _ rfl
      have r7 : wr.cell? ⟨g1, i * 10 + 7, none⟩ = some (.string X) := hr 7 _ rfl
      have r8 : wr.cell? ⟨g1, i * 10 + 8, none⟩ = some (.slice ya yl yc) := hr 8 _ rfl
      have r9 : wr.cell? ⟨g1, i * 10 + 9, none⟩ = some (.slice none 0 0) := hr 9 _ rfl
      obtain ⟨W2, hW2⟩ : ∃ W2, wr.alloc (.cells #[.int .i64 yp, .int .i64 yz, .int .i64 ydp, .int .i64 yh, .int .i64 ypl, .int .i64 K, .string N, .string X, .slice ya yl yc, .slice none 0 0] 60) = W2 := ⟨_, rfl⟩
      have hB2 : Fact (Below w.heap.size w W2) := ⟨by rw [← hW2]; exact hBr.out.alloc hBr.out.size _⟩
      have v0 : W2.cell? ⟨wr.heap.size, 0, none⟩ = some (.int .i64 yp) := by rw [← hW2]; exact World.cell?_alloc_new wr _ _ 0
      have hO2 : Fact (W2.ownsRow w.heap.size 32 1 (.slice (some ⟨w.heap.size, 0, none⟩) n n) n (cU (cnts (flatT d k) i))) := ⟨by
        rw [← hW2]; exact own_block hOr.out (fun k _ hk => Below.heap_alloc _ _ _ hk)⟩
      have i0_ : (0 : Int) ≤ i := by omega
      have i1_ : (i : Int) < n := by omega
      obtain ⟨g', rfl⟩ : ∃ g', gk = g' + 1 := ⟨gk - 1, by omega⟩
      have HW2 := Fact.mk hW2
      have HV0 := Fact.mk v0
      clear hr hBr hOr hy hy1 hW2 v0
      go_upto_region 5 with fail
      rw [HW2.out]
      have v0 := HV0.out
      rcases hpar with rfl | ⟨q, rfl, hqn⟩
      · rw [stepC_none rfl] at hsucc
        have HS := Fact.mk hsucc
        clear hsucc
        go_wp2_with fail
        go_roundg g'
        case measure => omega
        case rel => exact ⟨i + 1, by go_num, by omega, by omega, hB2, ⟨by rw [HS.out]; exact hO2.out⟩⟩
      · obtain ⟨c, hc⟩ : ∃ c, (cnts (flatT d k) i)[q]? = some c := ⟨(cnts (flatT d k) i)[q]'(by rw [cnts_len, HFL.out]; exact hqn), by simp⟩
        have hcb := cnts_le _ _ c (List.mem_of_getElem? hc)
        rw [stepC_some rfl hc] at hsucc
        obtain ⟨u0, uf, _, hug, _⟩ := rowV_at hO2.out (cU_get hc)
        have hst := rowV_set hO2.out q (.int .u64 (c + 1))
        rw [cU_set, ← hsucc] at hst
        have wc : IntKind.u64.wrap (c + 1) = c + 1 := by rw [IntKind.wrap_u64]; omega
        have q0_ : (0 : Int) ≤ q := by omega
        have q1_ : (q : Int) < n := by omega
        have HST := Fact.mk hst
        clear hsucc hst hc hcb
        go_wp2_with fail
        go_roundg g'
        case measure => omega
        case rel => exact ⟨i + 1, by go_num, by omega, by omega, ⟨hB2.out.setCell (p := ⟨w.heap.size, q, none⟩) (Nat.le_refl _) _⟩, HST⟩
end Go.Proofs.Ytfcmgkakmaclcaa
