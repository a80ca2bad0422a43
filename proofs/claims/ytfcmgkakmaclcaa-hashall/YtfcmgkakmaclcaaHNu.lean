/- numbers: of a tree and the list of its nodes, the number of each with all in it. -/
import Derived.Test.YtfcmgkakmaclcaaHCt
import Derived.Test.YtfcmgkakmaclcaaPost
import Derived.Deep.RegionWith
set_option linter.unusedVariables false
set_option linter.unusedSimpArgs false
namespace Go.Proofs.Ytfcmgkakmaclcaa
open Go.Deep (BT)
open Go.RowKit Go.Shelf M
open Bt (mx IsU mx_u ret_int)

/-- so far the first i are there -/
def inis (T : List Int) (n i : Nat) : List Int := T.take i ++ List.replicate (n - i) 0
theorem inis_step {T : List Int} {n i : Nat} {v : Int} (hT : T.length = n) (h : T[i]? = some v) : (inis T n i).set i v = inis T n (i + 1) := by
  have hi : i < n := by have := (List.getElem?_eq_some_iff.1 h).1; omega
  unfold inis
  rw [show n - i = (n - (i + 1)) + 1 by omega, List.replicate_succ, List.take_add_one, h, List.set_append_right _ _ (by rw [List.length_take]; omega)]
  have : i - (List.take i T).length = 0 := by rw [List.length_take]; omega
  rw [this]
  simp
theorem len_le : ∀ f : M.F, f.len ≤ f.size
  | .nil => Nat.le_refl _
  | .node _ _ d k r => by have := len_le r; simp only [BT.len, BT.size]; omega
theorem inis_zero (T : List Int) (n : Nat) : inis T n 0 = List.replicate n 0 := by simp [inis]
theorem inis_all {T : List Int} {n : Nat} (hT : T.length = n) : inis T n n = T := by
  unfold inis
  rw [List.take_of_length_le (by omega), Nat.sub_self]
  simp
theorem iniT_len (d : Nd) (k : M.F) : (iniT d k).length = k.size + 1 := by simp [iniT, iniF_len]
theorem cntT_len (k : M.F) : (cntT k).length = k.size + 1 := by simp [cntT, cntF_len]

theorem ownsRow_pos {w : World} {B E z n : Nat} {v : Value} {xs : List Value} (hn : 1 ≤ n) (h : w.ownsRow B E z v n xs) : ∃ g c, v = .slice (some ⟨g, 0, none⟩) n c := by
  obtain ⟨m, rfl⟩ : ∃ m, n = m + 1 := ⟨n - 1, by omega⟩
  exact ownsRow_succ h
structure NInv (n : Nat) (K : Int) (N X : ByteArray) (va vk : Value) (m E : Nat) (v : Value) (xs : List Value) (L : List Int) (w W : World) : Prop where
  below : Below w.heap.size w W
  box : Box5 w.heap.size K N X va vk W
  side : W.ownsRow (w.heap.size + 2) E 1 v m xs
  all : W.ownsRow (w.heap.size + 1) 32 1 (.slice (some ⟨w.heap.size + 1, 0, none⟩) n n) n (cU L)
theorem own_upH {w w' : World} {B E z n : Nat} {v : Value} {xs : List Value} (h : w.ownsRow B E z v n xs) (hb : Below w.heap.size w w') : w'.ownsRow B E z v n xs := own_block h (fun k _ hk => hb.block k hk)
theorem NInv.up {n : Nat} {K : Int} {N X : ByteArray} {va vk : Value} {m E : Nat} {v : Value} {xs : List Value} {L : List Int} {w W W' : World} (h : NInv n K N X va vk m E v xs L w W) (hb : Below W.heap.size W W') : NInv n K N X va vk m E v xs L w W' :=
  ⟨h.below.trans (hb.mono h.below.size), h.box.keep hb, own_upH h.side hb, own_upH h.all hb⟩
theorem NInv.put {n : Nat} {K : Int} {N X : ByteArray} {va vk : Value} {m E : Nat} {v : Value} {xs : List Value} {L : List Int} {w W : World} (h : NInv n K N X va vk m E v xs L w W) (i : Nat) (y : Int) : NInv n K N X va vk m E v xs (L.set i y) w (W.setCell ⟨w.heap.size + 1, i, none⟩ (.int .u64 y)) := by
  have hc : ∀ j, (W.setCell ⟨w.heap.size + 1, i, none⟩ (.int .u64 y)).cell? ⟨w.heap.size, j, none⟩ = W.cell? ⟨w.heap.size, j, none⟩ := fun j =>
    World.cell?_of_block (a := ⟨w.heap.size, j, none⟩) (Below.heap_setCell _ _ _ _ (by show w.heap.size ≠ w.heap.size + 1; omega))
  refine ⟨h.below.setCell (p := ⟨w.heap.size + 1, i, none⟩) (by show w.heap.size ≤ w.heap.size + 1; omega) _, ⟨(hc 0).trans h.box.c0, (hc 1).trans h.box.c1, (hc 2).trans h.box.c2, (hc 3).trans h.box.c3, (hc 4).trans h.box.c4⟩, own_block h.side (fun k e hk => Below.heap_setCell _ _ _ _ (fun e' => by have := (h.side.lt k e.symm).1; have e2 : k = w.heap.size + 1 := e'; omega)), ?_⟩
  have := rowV_set h.all i (.int .u64 y)
  rw [cU_set] at this
  exact this
theorem NInv.drew {n : Nat} {K : Int} {N X : ByteArray} {va vk : Value} {m E : Nat} {v : Value} {xs : List Value} {L : List Int} {w W : World} (h : NInv n K N X va vk m E v xs L w W) : NInv n K N X va vk m E v xs L w W.drew :=
  ⟨h.below.drew, ⟨h.box.c0, h.box.c1, h.box.c2, h.box.c3, h.box.c4⟩, h.side, h.all⟩
theorem stepP_none {its : List Im} {A : List Int} {id : Nat} {y : Im} (hy : its[id]? = some y) (h : y.p = -1) : stepP its A id = A := by
  unfold stepP; rw [hy]; dsimp only; rw [if_pos (by omega)]
theorem stepP_some {its : List Im} {A : List Int} {id q : Nat} {y : Im} {a b : Int} (hy : its[id]? = some y) (h : y.p = q) (ha : A[q]? = some a) (hb : A[id]? = some b) : stepP its A id = A.set q (mx a b) := by
  unfold stepP; rw [hy]; dsimp only
  rw [if_neg (by omega), h, Int.toNat_natCast, List.getD_eq_getElem?_getD, hb]
  apply List.ext_getElem?
  intro i
  rw [List.getElem?_modify, List.getElem?_set]
  by_cases hq : q = i
  · subst hq; rw [ha]; simp [(List.getElem?_eq_some_iff.1 ha).1]
  · simp [hq]
theorem stepP_u {its : List Im} {A : List Int} {id : Nat} (h : ∀ a ∈ A, IsU a) : ∀ a ∈ stepP its A id, IsU a := by
  unfold stepP
  split
  · exact h
  · split
    · exact h
    · intro a ha
      rw [List.mem_iff_getElem?] at ha
      obtain ⟨i, hi⟩ := ha
      rw [List.getElem?_modify] at hi
      rename_i y _ _
      cases hc : A[i]? with
      | none => rw [hc] at hi; simp at hi
      | some c =>
        rw [hc] at hi
        simp at hi
        split at hi
        · rw [← hi]; exact mx_u _ _
        · rw [← hi]; exact h c (List.mem_of_getElem? hc)
def nums (d : Nd) (k : M.F) (i : Nat) : List Int := ((postF k 1 ++ [0]).take i).foldl (stepP (flatT d k)) (iniT d k)
theorem nums_u (d : Nd) (k : M.F) (i : Nat) : ∀ a ∈ nums d k i, IsU a := by
  unfold nums
  generalize List.take i (postF k 1 ++ [0]) = m
  have : ∀ (m : List Nat) (A : List Int), (∀ a ∈ A, IsU a) → ∀ a ∈ m.foldl (stepP (flatT d k)) A, IsU a := by
    intro m
    induction m with
    | nil => intro A h; exact h
    | cons x m ih => intro A h; rw [List.foldl_cons]; exact ih _ (stepP_u h)
  exact this m _ (iniT_u d k)
theorem nums_len (d : Nd) (k : M.F) (i : Nat) : (nums d k i).length = k.size + 1 := by
  unfold nums
  generalize List.take i (postF k 1 ++ [0]) = m
  have : ∀ (m : List Nat) (A : List Int), (m.foldl (stepP (flatT d k)) A).length = A.length := by
    intro m
    induction m with
    | nil => intro A; rfl
    | cons x m ih => intro A; rw [List.foldl_cons, ih, stepP_len]
  rw [this, iniT_len]
theorem nums_succ {d : Nd} {k : M.F} {i id : Nat} (h : (postF k 1 ++ [0])[i]? = some id) : nums d k (i + 1) = stepP (flatT d k) (nums d k i) id := by
  unfold nums
  rw [List.take_add_one, h, List.foldl_append]
  rfl
theorem iniT_get {d : Nd} {k : M.F} {i : Nat} {y : Im} {c : Int} (hy : (flatT d k)[i]? = some y) (hc : (cntT k)[i]? = some c) : (iniT d k)[i]? = some (mx (al y.d) c) := by
  rw [iniT_zip, List.getElem?_zipWith, hy, hc]
theorem cntT_u (k : M.F) : ∀ c ∈ cntT k, 0 ≤ c ∧ c ≤ k.size := by
  have h : ∀ f : M.F, ∀ c ∈ cntF f, 0 ≤ c ∧ c ≤ f.size := by
    intro f
    induction f with
    | nil => intro c hc; cases hc
    | node _ _ d k r ih1 ih2 =>
      intro c hc
      have := len_le k
      simp only [BT.size]
      rcases List.mem_cons.1 hc with rfl | hc
      · omega
      · rcases List.mem_append.1 hc with hc | hc
        · have := ih1 c hc; omega
        · have := ih2 c hc; omega
  intro c hc
  rcases List.mem_cons.1 hc with rfl | hc
  · have := len_le k; omega
  · exact h k c hc

set_option maxRecDepth 100000 in
set_option maxHeartbeats 8000000 in
theorem numbers_any (d : Nd) (k : M.F) (va ka : Value) (its : List (Im × Value)) (g1 c1 n B1 : Nat) (S : Nat → Prop) (w : World) (hl : Lies w.heap.size w d k va ka) (hrow : w.ownsRow B1 60 10 (.slice (some ⟨g1, 0, none⟩) n c1) n (cellsIt its)) (hmap : its.map (·.1) = flatT d k) (hks : k.size + 1 = n) (hn : n ≤ 1000000) (hdep : k.depth + 1 ≤ 1000000)
    (hav : ∀ y ∈ its, AS S w y.2 y.1.d.ats) :
    Calls Try.prog 23 #[nodeV d va ka, .slice (some ⟨g1, 0, none⟩) n c1] w fun e w' => ∃ g2, e = .returned (.slice (some ⟨g2, 0, none⟩) n n) ∧ Below w.heap.size w w' ∧ Fact (w'.ownsRow w.heap.size 32 1 (.slice (some ⟨g2, 0, none⟩) n n) n (cU (finT d k))) := by
  have hits : its.length = n := by have := congrArg List.length hmap; rw [List.length_map, flatT_len, hks] at this; exact this
  have hfl : (flatT d k).length = n := by rw [flatT_len, hks]
  obtain ⟨i0, hii, hzz0, hzz1, hzz2⟩ := info_parts infoU64
  have hn1 : 1 ≤ n := by omega
  obtain ⟨p1, p2, p3, e1⟩ := hl.a.val
  obtain ⟨q1, q2, e2⟩ := hl.f.val
  subst e1 e2
  obtain ⟨kl, hkl⟩ : ∃ kl, k.len = kl := ⟨_, rfl⟩
  rw [hkl] at hl ⊢
  clear hkl
  obtain ⟨K, N, X, A⟩ := d
  have HL := Fact.mk hl
  have HROW := Fact.mk hrow
  have HMAP := Fact.mk hmap
  have HAV := Fact.mk hav
  have HFL := Fact.mk hfl
  have HKS := Fact.mk hks
  have HIT := Fact.mk hits
  obtain ⟨W1, hW1⟩ : ∃ W1, w.alloc (.cells #[.int .i64 K, .string N, .string X, .slice p1 p2 p3, .slice q1 kl q2] 25) = W1 := ⟨_, rfl⟩
  have hB1 : Below w.heap.size w W1 := by rw [← hW1]; exact (Below.refl _ w).alloc (Nat.le_refl _) _
  have hz1 : W1.heap.size = w.heap.size + 1 := by rw [← hW1]; simp
  have hbx : Box5 w.heap.size K N X (.slice p1 p2 p3) (.slice q1 kl q2) W1 := by rw [← hW1]; exact Box5.new _ _ _ _ _ _ _
  have HW1 := Fact.mk hW1
  have HZ1 := Fact.mk hz1
  clear hrow hmap hav hks hl hits hfl hW1 hz1
  go_enter Try.func23, Try.ntmps23
  go_upto_region 1 with fail
  rw [HW1.out]
  go_upto_region 2 with (at_make; refine wpList_make_full _ rfl (.tmp 12) (.tmp 12) 30 rfl W1.heap.size 32 i0 (.int .u64 0) 1 Try.underlying30 hii hzz0 hzz1 .i64 .i64 (n : Int) (n : Int) n rfl rfl rfl rfl (by rw [hzz2]; omega) (by unfold maxLen; omega) (Nat.le_refl _) ?_; intro w4 hown4 hgr4)
  rw [HZ1.out]
  have hB4 : Below W1.heap.size W1 w4 := (Below.refl _ W1).grown hgr4 (Nat.le_refl _) (fun k e => by cases e)
  have hO4 : w4.ownsRow (w.heap.size + 1) 32 1 (.slice (some ⟨w.heap.size + 1, 0, none⟩) n n) n (cU (inis (iniT ⟨K, N, X, A⟩ k) n 0)) := by
    rw [inis_zero, ← made_zeroU, ← HZ1.out]; exact hown4
  have hz4 : w.heap.size + 2 ≤ w4.heap.size := by have h : w.heap.size + 1 < w4.heap.size := (hO4.lt _ rfl).2; omega
  have hR4 : w4.ownsRow B1 60 10 (.slice (some ⟨g1, 0, none⟩) n c1) n (cellsIt its) := own_upH (own_block HROW.out (fun k _ hk => hB1.block k hk)) hB4
  have hbx4 : Box5 w.heap.size K N X (.slice p1 p2 p3) (.slice q1 kl q2) w4 := hbx.keep hB4
  have hB5 : Below w.heap.size w w4 := hB1.trans (hB4.mono hB1.size)
  have hyv : ∀ y ∈ its, ∃ a l c, y.2 = .slice a l c := fun y hy => by
    obtain ⟨a, c, e, _⟩ := HAV.out y hy
    exact ⟨a, _, c, e⟩
  clear hown4 hgr4
  go_upto_region 3 with (go_at_call 31; refine (counts_any ⟨K, N, X, A⟩ k its g1 c1 n B1 w4 hR4 HMAP.out HKS.out hn hyv).mono ?_; rintro e w5 ⟨g2, rfl, hb5, hr5⟩)
  have HI : Fact (NInv n K N X (.slice p1 p2 p3) (.slice q1 kl q2) n 32 (.slice (some ⟨g2, 0, none⟩) n n) (cU (cntT k)) (inis (iniT ⟨K, N, X, A⟩ k) n 0) w w5) := ⟨⟨hB5.trans (hb5.mono hB5.size), hbx4.keep hb5, own_lessP hr5.out hz4, own_upH hO4 hb5⟩⟩
  clear hb5 hr5 hB5 hbx4 hyv hR4 hz4 hO4 hB4 hB1 hbx
  go_loopg [17] n (fun gf iv wr => ∃ i : Nat, iv = .int .i64 i ∧ i ≤ n ∧ n - i ≤ gf ∧ Fact (NInv n K N X (.slice p1 p2 p3) (.slice q1 kl q2) n 32 (.slice (some ⟨g2, 0, none⟩) n n) (cU (cntT k)) (inis (iniT ⟨K, N, X, A⟩ k) n i) w wr))
  case atStart => exact ⟨0, rfl, Nat.zero_le _, Nat.le_refl _, HI⟩
  case round =>
    obtain ⟨i, rfl, hi, hgf, hI⟩ := hrel
    by_cases hin : i = n
    · subst hin
      have hdec : decide ((i : Int) < (i : Int)) = false := decide_eq_false (by omega)
      have hT0 : inis (iniT ⟨K, N, X, A⟩ k) i i = nums ⟨K, N, X, A⟩ k 0 := by rw [inis_all (by rw [iniT_len, HKS.out])]; rfl
      have hI0 := hI.out
      rw [hT0] at hI0
      have HI0 := Fact.mk hI0
      have b0 := hI0.box.c0
      have b1 := hI0.box.c1
      have b2 := hI0.box.c2
      have b3 := hI0.box.c3
      have b4 := hI0.box.c4
      have hzr : w.heap.size + 1 < wr.heap.size := (hI0.all.lt _ rfl).2
      have HLr := Fact.mk ((HL.out.below hI0.below).here hI0.below.size)
      have hk9 : k.size + 1 ≤ 1000000000 := by have := HKS.out; omega
      have hpost := post_any ⟨K, N, X, A⟩ k _ _ wr HLr.out.a HLr.out.f hdep hk9
      rw [HKS.out] at hpost
      have HPOST := Fact.mk hpost
      clear hT0 hI0 hI hpost
      go_upto_region 8 with (go_at_call 33; refine HPOST.out.mono ?_; rintro e w6 ⟨v3, rfl, hb6, hr6⟩; obtain ⟨g3, c3, rfl⟩ := ownsRow_pos hn1 hr6)
      have HJ : Fact (NInv i K N X (.slice p1 p2 p3) (.slice q1 kl q2) i 3 (.slice (some ⟨g3, 0, none⟩) i c3) (cI (postF k 1 ++ [0])) (nums ⟨K, N, X, A⟩ k 0) w w6) := ⟨⟨HI0.out.below.trans (hb6.mono HI0.out.below.size), HI0.out.box.keep hb6, own_lessP hr6 (by omega), own_upH HI0.out.all hb6⟩⟩
      clear hr6 hb6 b0 b1 b2 b3 b4 hzr HLr hk9 HI0
      go_loopg [37] i (fun gf jv wr => ∃ j : Nat, jv = .int .i64 j ∧ j ≤ i ∧ i - j ≤ gf ∧ Fact (NInv i K N X (.slice p1 p2 p3) (.slice q1 kl q2) i 3 (.slice (some ⟨g3, 0, none⟩) i c3) (cI (postF k 1 ++ [0])) (nums ⟨K, N, X, A⟩ k j) w wr))
      case atStart => exact ⟨0, rfl, Nat.zero_le _, Nat.le_refl _, HJ⟩
      case round =>
        obtain ⟨j, rfl, hj, hgf2, hI⟩ := hrel
        by_cases hjn : j = i
        · subst hjn
          have hdec2 : decide ((j : Int) < (j : Int)) = false := decide_eq_false (by omega)
          have HE : Fact (nums ⟨K, N, X, A⟩ k j = finT ⟨K, N, X, A⟩ k) := ⟨by
            unfold nums
            rw [List.take_of_length_le (by rw [List.length_append, postF_len]; have := HKS.out; simp; omega)]
            exact post_all _ _⟩
          go_wp2_with fail
          go_ret
          exact ⟨w.heap.size + 1, rfl, hI.out.below, ⟨by rw [← HE.out]; exact own_lessP hI.out.all (by omega)⟩⟩
        · have hlt2 : j < i := by omega
          have hdec2 : decide ((j : Int) < (i : Int)) = true := decide_eq_true (by omega)
          obtain ⟨id, hid⟩ : ∃ id, (postF k 1 ++ [0])[j]? = some id := ⟨(postF k 1 ++ [0])[j]'(by rw [List.length_append, postF_len]; have := HKS.out; simp; omega), by simp⟩
          have hidn : id < i := by
            have := ((postT k).2 id).1 (List.mem_of_getElem? hid)
            have h2 := HKS.out
            omega
          obtain ⟨y, hy⟩ : ∃ y, its[id]? = some y := ⟨its[id]'(by rw [HIT.out]; omega), by simp⟩
          have hy1 : (flatT ⟨K, N, X, A⟩ k)[id]? = some y.1 := by rw [← HMAP.out, List.getElem?_map, hy]; rfl
          have hsucc := nums_succ (d := ⟨K, N, X, A⟩) hid
          have hpar : y.1.p = -1 ∨ ∃ q : Nat, y.1.p = q ∧ q < i := by
            cases id with
            | zero =>
              left
              have h1 := hy1
              rw [flatT] at h1
              simp at h1
              rw [← h1]
            | succ id =>
              right
              obtain ⟨q, x, _, hu⟩ := flatT_up ⟨K, N, X, A⟩ k (id + 1) y.1 (by omega) hy1
              have h1 := hu.lt
              have h2 := hu.p
              rw [Nat.zero_add] at h2
              exact ⟨q, h2, by omega⟩
          have hrr := row10_at (own_block HROW.out (fun k _ hk => hI.out.below.block k hk)) hy
          obtain ⟨hr, _, _, _, hc1, _, _⟩ := hrr
          have r0 : wr.cell? ⟨g1, id * 10, none⟩ = some (.int .i64 y.1.p) := hr 0 _ rfl
          obtain ⟨s0, _, _, _, hc3, _, _⟩ := rowV_at hI.out.side (i := j) (y := .int .i64 id) (by rw [cI, List.getElem?_map, hid]; rfl)
          have j0_ : (0 : Int) ≤ j := by omega
          have j1_ : (j : Int) < i := by omega
          have d0_ : (0 : Int) ≤ id := by omega
          have d1_ : (id : Int) < i := by omega
          obtain ⟨g', rfl⟩ : ∃ g', gk = g' + 1 := ⟨gk - 1, by omega⟩
          rcases hpar with hp | ⟨q, hp, hqn⟩
          · rw [stepP_none hy1 hp] at hsucc
            rw [hp] at r0
            have HS := Fact.mk hsucc
            have HI2 := Fact.mk hI.out
            clear hr hy hy1 hsucc hid hp hI
            go_wp2_with fail
            go_roundg g'
            case measure => omega
            case rel => exact ⟨j + 1, by go_num, by omega, by omega, ⟨by rw [HS.out]; exact HI2.out⟩⟩
          · obtain ⟨a, ha⟩ : ∃ a, (nums ⟨K, N, X, A⟩ k j)[q]? = some a := ⟨(nums ⟨K, N, X, A⟩ k j)[q]'(by rw [nums_len, HKS.out]; exact hqn), by simp⟩
            obtain ⟨b, hb⟩ : ∃ b, (nums ⟨K, N, X, A⟩ k j)[id]? = some b := ⟨(nums ⟨K, N, X, A⟩ k j)[id]'(by rw [nums_len, HKS.out]; exact hidn), by simp⟩
            have hua := nums_u _ _ _ a (List.mem_of_getElem? ha)
            have hub := nums_u _ _ _ b (List.mem_of_getElem? hb)
            rw [stepP_some hy1 hp ha hb] at hsucc
            rw [hp] at r0
            obtain ⟨u0, uf, _, hug, _, _, _⟩ := rowV_at hI.out.all (cU_get ha)
            obtain ⟨u1, _, _, _, _, _, _⟩ := rowV_at hI.out.all (cU_get hb)
            obtain ⟨v, hv⟩ : ∃ v, mx a b = v := ⟨_, rfl⟩
            rw [hv] at hsucc
            have HS := Fact.mk hsucc
            have HI2 := Fact.mk hI.out
            have q0_ : (0 : Int) ≤ q := by omega
            have q1_ : (q : Int) < i := by omega
            clear hr hy hy1 hsucc hid hp ha hb hI
            go_upto_region 12 with fail
            go_region_with (go_at_call 26; refine (Bt.mix_any a b _ hua hub).mono ?_; rintro e w7 ⟨rfl, hw7⟩; have hw8 := hw7.symm; subst hw8; clear hw7)
            all_goals
              go_wp2_with fail
              go_roundg g'
              case measure => omega
              case rel => exact ⟨j + 1, by go_num, by omega, by omega, ⟨by rw [HS.out]; exact HI2.out.drew.put q v⟩⟩
    · have hlt : i < n := by omega
      have hdec : decide ((i : Int) < (n : Int)) = true := decide_eq_true (by omega)
      obtain ⟨y, hy⟩ : ∃ y, its[i]? = some y := ⟨its[i]'(by rw [HIT.out]; omega), by simp⟩
      have hy1 : (flatT ⟨K, N, X, A⟩ k)[i]? = some y.1 := by rw [← HMAP.out, List.getElem?_map, hy]; rfl
      obtain ⟨c, hc⟩ : ∃ c, (cntT k)[i]? = some c := ⟨(cntT k)[i]'(by rw [cntT_len, HKS.out]; exact hlt), by simp⟩
      have hcu := cntT_u k c (List.mem_of_getElem? hc)
      have hks := HKS.out
      have huc : IsU c := ⟨hcu.1, by omega⟩
      have hav := HAV.out y (List.mem_of_getElem? hy)
      obtain ⟨ya, yc, hyv, _⟩ := id hav
      have hstep := inis_step (T := iniT ⟨K, N, X, A⟩ k) (n := n) (by rw [iniT_len, hks]) (iniT_get hy1 hc)
      obtain ⟨u0, _, _, _, _, _, _⟩ := rowV_at hI.out.side (cU_get hc)
      have hrr := row10_at (own_block HROW.out (fun k _ hk => hI.out.below.block k hk)) hy
      obtain ⟨hr, _, _, _, hc1, _, _⟩ := hrr
      obtain ⟨⟨yp, yz, ydp, yh, ypl, ⟨yK, yN, yX, yA⟩⟩, yav⟩ := y
      dsimp only at hyv hstep hav
      have HC : Fact (Calls Try.prog 32 #[.agg #[.int .i64 yK, .string yN, .string yX, yav, .slice none 0 0]] wr fun e w' => e = .returned (.int .u64 (al ⟨yK, yN, yX, yA⟩)) ∧ Below wr.heap.size wr w') := ⟨alone_any ⟨yK, yN, yX, yA⟩ yav (.slice none 0 0) (fun b => S b ∧ b < w.heap.size) wr (hav.inn.like (fun b hb _ => hI.out.below.block b hb.2)) ⟨_, _, _, rfl⟩⟩
      have r5 : wr.cell? ⟨g1, i * 10 + 5, none⟩ = some (.int .i64 yK) := hr 5 _ rfl
      have r6 : wr.cell? ⟨g1, i * 10 + 6, none⟩ = some (.string yN) := hr 6 _ rfl
      have r7 : wr.cell? ⟨g1, i * 10 + 7, none⟩ = some (.string yX) := hr 7 _ rfl
      have r8 : wr.cell? ⟨g1, i * 10 + 8, none⟩ = some yav := hr 8 _ rfl
      have r9 : wr.cell? ⟨g1, i * 10 + 9, none⟩ = some (.slice none 0 0) := hr 9 _ rfl
      have i0_ : (0 : Int) ≤ i := by omega
      have i1_ : (i : Int) < n := by omega
      have hal := al_u ⟨yK, yN, yX, yA⟩
      obtain ⟨v, hv⟩ : ∃ v, mx (al ⟨yK, yN, yX, yA⟩) c = v := ⟨_, rfl⟩
      rw [hv] at hstep
      have HS := Fact.mk hstep
      obtain ⟨g', rfl⟩ : ∃ g', gk = g' + 1 := ⟨gk - 1, by omega⟩
      clear hr hy hy1 hc hcu hav hstep hks
      subst hyv
      go_upto_region 6 with (first
        | (go_at_call 32; refine HC.out.mono ?_; rintro e w6 ⟨rfl, hb6⟩)
        | (go_at_call 26; refine (Bt.mix_any _ c _ hal huc).mono ?_; rintro e w7 ⟨rfl, hw7⟩; have hw8 := hw7.symm; subst hw8; clear hw7; have hI6 := Fact.mk (hI.out.up hb6); have hst6 := Fact.mk (hI6.out.put i v); obtain ⟨u1, uf1, _, _, _, _, _⟩ := rowV_at hI6.out.all (i := i) (y := .int .u64 0) (cU_get (by unfold inis; rw [List.getElem?_append_right (by rw [List.length_take]; omega), List.length_take, iniT_len, List.getElem?_replicate]; rw [HKS.out]; rw [if_pos (by omega)]))))
      go_wp2_with fail
      go_roundg g'
      case measure => omega
      case rel => exact ⟨i + 1, by go_num, by omega, by omega, ⟨by rw [← HS.out]; exact hst6.out⟩⟩
end Go.Proofs.Ytfcmgkakmaclcaa
