/- WalkAll, walked. -/
import Derived.Test.YtjjkidenlgghkaaFlatM
import Derived.Test.YtjjkidenlgghkaaPostM
import Derived.Test.YtjjkidenlgghkaaWayTo
import Derived.Test.YtjjkidenlgghkaaPost
import Derived.Test.YtjjkidenlgghkaaSub
import Derived.Test.YtjjkidenlgghkaaOrder
import Derived.Test.YtjjkidenlgghkaaRefNd
import Derived.Test.YtjjkidenlgghkaaCompare
import Derived.Test.YtjjkidenlgghkaaHBa
import Derived.Test.YtjjkidenlgghkaaTellP
import Derived.Test.YtjjkidenlgghkaaCmpA
import Derived.Deep.RegionHeld3
import Derived.Deep.Cut
import Derived.Deep.DeepCutAuto
import Derived.BigQuiet
import Derived.Test.YtjjkidenlgghkaaSmall
import Derived.Test.YtjjkidenlgghkaaSubM
import Derived.Laws.AppendOwnNone
import Derived.Test.YtjjkidenlgghkaaMem
import Derived.Test.YtjjkidenlgghkaaTextM
import Derived.Test.YtjjkidenlgghkaaSmallT
import Derived.Lib.Strings
import Derived.Test.YtjjkidenlgghkaaText
import Derived.Test.YtjjkidenlgghkaaFlat
import Derived.Test.YtjjkidenlgghkaaCopy
/- Both orders, in plain terms: a node stands behind its parent in the one, ahead of it in the other. -/
section
set_option linter.unusedVariables false
namespace Go.Proofs.Ytjjkidenlgghkaa.M
open Go.Deep

theorem mem_postF : ∀ (f : F) (id j : Nat), j ∈ postF f id ↔ id ≤ j ∧ j < id + f.size
  | .nil, id, j => by simp [postF, BT.size]
  | .node _ _ d k r, id, j => by
    rw [postF, List.mem_append, List.mem_cons, mem_postF k, mem_postF r]
    simp only [BT.size]
    omega
theorem nodup_postF : ∀ (f : F) (id : Nat), (postF f id).Nodup
  | .nil, id => by simp [postF]
  | .node _ _ d k r, id => by
    rw [postF, List.nodup_append]
    refine ⟨nodup_postF k _, ?_, fun a ha b hb => ?_⟩
    · rw [List.nodup_cons]
      exact ⟨fun h => by have := (mem_postF _ _ _).1 h; omega, nodup_postF r _⟩
    · have h1 := (mem_postF _ _ _).1 ha
      rcases List.mem_cons.1 hb with rfl | hb
      · omega
      · have h2 := (mem_postF _ _ _).1 hb
        omega
/-- where a number stands -/
abbrev pos (l : List Nat) (j : Nat) : Nat := l.idxOf j
theorem pos_left {a b : List Nat} {j : Nat} (h : j ∈ a) : pos (a ++ b) j = pos a j := by simp [pos, List.idxOf_append, h]
theorem pos_right {a b : List Nat} {j : Nat} (h : j ∉ a) : pos (a ++ b) j = pos b j + a.length := by simp [pos, List.idxOf_append, h]
theorem pos_lt {a : List Nat} {j : Nat} (h : j ∈ a) : pos a j < a.length := List.idxOf_lt_length_iff.2 h

/-- what is known of node number i of trees, held against its parent -/
structure Up (P : List Nat) (id i j : Nat) (y x : Im) : Prop where
  lt : j < i
  p : y.p = (id + j : Nat)
  dp : y.dp = x.dp + 1
  h : y.h < x.h
  z : (i : Int) + y.z ≤ j + x.z
  pos : pos P (id + i) < pos P (id + j)
structure Top (p : Int) (dp dep size i : Nat) (y : Im) : Prop where
  p : y.p = p
  dp : y.dp = dp
  h : y.h ≤ dep
  z : (i : Int) + y.z ≤ size
theorem flat_up : ∀ (f : F) (p : Int) (dp pl id i : Nat) (y : Im), (flatF p dp pl id f)[i]? = some y →
    Top p dp f.depth f.size i y ∨ ∃ j x, (flatF p dp pl id f)[j]? = some x ∧ Up (postF f id) id i j y x
  | .nil, _, _, _, _, _, _, h => by cases h
  | .node xb xo d k r, p, dp, pl, id, i, y, h => by
    have hz : (BT.node xb xo d k r).size = 1 + k.size + r.size := rfl
    have hd : (BT.node xb xo d k r).depth = max (k.depth + 1) r.depth := rfl
    have hl := flatF_len k id (dp + 1) 0 (id + 1)
    rw [hz, hd]
    rw [flatF] at h ⊢
    rw [postF]
    cases i with
    | zero =>
      simp only [List.getElem?_cons_zero, Option.some.injEq] at h
      subst h
      left
      exact ⟨rfl, rfl, by dsimp only; omega, by dsimp only; omega⟩
    | succ i =>
      simp only [List.getElem?_cons_succ] at h
      by_cases hi : i < k.size
      · rw [List.getElem?_append_left (by omega)] at h
        right
        rcases flat_up k id (dp + 1) 0 (id + 1) i y h with ht | ⟨j, x, hx, hu⟩
        · refine ⟨0, _, by simp; rfl, ⟨by omega, by rw [ht.p]; rfl, ht.dp, by have := ht.h; dsimp only; omega, by have := ht.z; dsimp only; omega, ?_⟩⟩
          have h1 : id + (i + 1) ∈ postF k (id + 1) := (mem_postF _ _ _).2 (by omega)
          have h2 : id + 0 ∉ postF k (id + 1) := fun h => by have := (mem_postF _ _ _).1 h; omega
          rw [pos_left h1, pos_right h2]
          have := pos_lt h1
          omega
        · have hj : j < k.size := by have := (List.getElem?_eq_some_iff.1 hx).1; omega
          refine ⟨j + 1, x, by rw [List.getElem?_cons_succ, List.getElem?_append_left (by omega)]; exact hx, ⟨by have := hu.lt; omega, by rw [hu.p]; congr 1; omega, hu.dp, hu.h, by have := hu.z; omega, ?_⟩⟩
          have h1 : id + (i + 1) ∈ postF k (id + 1) := (mem_postF _ _ _).2 (by omega)
          have h2 : id + (j + 1) ∈ postF k (id + 1) := (mem_postF _ _ _).2 (by omega)
          rw [pos_left h1, pos_left h2]
          have := hu.pos
          rw [show id + (i + 1) = id + 1 + i by omega, show id + (j + 1) = id + 1 + j by omega]
          exact this
      · rw [List.getElem?_append_right (by omega), hl] at h
        rcases flat_up r p dp (pl + 1) (id + 1 + k.size) (i - k.size) y h with ht | ⟨j, x, hx, hu⟩
        · left
          exact ⟨ht.p, ht.dp, by have := ht.h; omega, by have := ht.z; omega⟩
        · right
          have hi2 : i - k.size < r.size := by have := (List.getElem?_eq_some_iff.1 h).1; rw [flatF_len] at this; exact this
          have hj : j < r.size := by have := (List.getElem?_eq_some_iff.1 hx).1; rw [flatF_len] at this; exact this
          refine ⟨1 + k.size + j, x, ?_, ⟨by have := hu.lt; omega, by rw [hu.p]; congr 1; omega, hu.dp, hu.h, by have := hu.z; omega, ?_⟩⟩
          · rw [show 1 + k.size + j = (k.size + j) + 1 by omega, List.getElem?_cons_succ, List.getElem?_append_right (by omega), hl, show k.size + j - k.size = j by omega]
            exact hx
          · have e : postF k (id + 1) ++ id :: postF r (id + 1 + k.size) = (postF k (id + 1) ++ [id]) ++ postF r (id + 1 + k.size) := by simp
            have n1 : id + (i + 1) ∉ postF k (id + 1) ++ [id] := fun h => by
              rcases List.mem_append.1 h with h | h
              · have := (mem_postF _ _ _).1 h; omega
              · have := List.mem_singleton.1 h; omega
            have n2 : id + (1 + k.size + j) ∉ postF k (id + 1) ++ [id] := fun h => by
              rcases List.mem_append.1 h with h | h
              · have := (mem_postF _ _ _).1 h; omega
              · have := List.mem_singleton.1 h; omega
            rw [e, pos_right n1, pos_right n2]
            have := hu.pos
            rw [show id + (i + 1) = id + 1 + k.size + (i - k.size) by omega, show id + (1 + k.size + j) = id + 1 + k.size + j by omega]
            omega
/-- the whole tree: each node but the first one, held against its parent -/
theorem flatT_up (d : Nd) (k : F) (i : Nat) (y : Im) (hi : 1 ≤ i) (h : (flatT d k)[i]? = some y) : ∃ j x, (flatT d k)[j]? = some x ∧ Up (postF k 1 ++ [0]) 0 i j y x := by
  obtain ⟨i, rfl⟩ : ∃ i', i = i' + 1 := ⟨i - 1, by omega⟩
  rw [flatT, List.getElem?_cons_succ] at h
  have hik : i < k.size := by have := (List.getElem?_eq_some_iff.1 h).1; rw [flatF_len] at this; exact this
  have m1 : 0 + (i + 1) ∈ postF k 1 := (mem_postF _ _ _).2 (by omega)
  rcases flat_up k 0 1 0 1 i y h with ht | ⟨j, x, hx, hu⟩
  · refine ⟨0, _, by rw [flatT]; simp; rfl, ⟨by omega, by rw [ht.p]; rfl, ht.dp, by have := ht.h; dsimp only; omega, by have := ht.z; dsimp only; omega, ?_⟩⟩
    have m2 : 0 + 0 ∉ postF k 1 := fun h => by have := (mem_postF _ _ _).1 h; omega
    rw [pos_left m1, pos_right m2]
    have := pos_lt m1
    omega
  · have hj : j < k.size := by have := (List.getElem?_eq_some_iff.1 hx).1; rw [flatF_len] at this; exact this
    have m2 : 0 + (j + 1) ∈ postF k 1 := (mem_postF _ _ _).2 (by omega)
    refine ⟨j + 1, x, by rw [flatT, List.getElem?_cons_succ]; exact hx, ⟨by have := hu.lt; omega, by rw [hu.p]; congr 1; omega, hu.dp, hu.h, by have := hu.z; omega, ?_⟩⟩
    rw [pos_left m1, pos_left m2]
    have := hu.pos
    rw [show 0 + (i + 1) = 1 + i by omega, show 0 + (j + 1) = 1 + j by omega]
    exact this

/-- where each number stands, as far as i places are looked at: 0 if it was not met -/
def met (P : List Nat) (n i : Nat) : List Nat := (List.range n).map fun j => if pos P j < i then pos P j + 1 else 0
theorem met_len (P : List Nat) (n i : Nat) : (met P n i).length = n := by simp [met]
theorem met_get (P : List Nat) (n i j : Nat) (h : j < n) : (met P n i)[j]? = some (if pos P j < i then pos P j + 1 else 0) := by
  simp [met, h]
theorem pos_get {P : List Nat} (hn : P.Nodup) {i : Nat} (h : i < P.length) : pos P P[i] = i := by
  simpa [pos] using List.Nodup.idxOf_getElem hn i h
theorem met_step (P : List Nat) (n i : Nat) (hn : P.Nodup) (h : i < P.length) (hp : P[i] < n) : (met P n i).set P[i] (i + 1) = met P n (i + 1) := by
  apply List.ext_getElem?
  intro j
  rw [List.getElem?_set, met_len]
  by_cases hj : P[i] = j
  · subst hj
    rw [if_pos rfl, if_pos hp, met_get P n _ _ hp, pos_get hn h, if_pos (by omega)]
  · rw [if_neg hj]
    by_cases hjn : j < n
    · rw [met_get _ _ _ _ hjn, met_get _ _ _ _ hjn]
      have hne : pos P j ≠ i := fun e => by
        by_cases hm : j ∈ P
        · have h1 := pos_lt hm
          have h2 : P[pos P j] = j := List.getElem_idxOf h1
          simp only [e] at h2
          exact hj h2
        · have : pos P j = P.length := List.idxOf_eq_length hm
          omega
      split <;> split <;> first | rfl | omega
    · rw [List.getElem?_eq_none (by rw [met_len]; omega), List.getElem?_eq_none (by rw [met_len]; omega)]
theorem met_zero (P : List Nat) (n : Nat) : met P n 0 = List.replicate n 0 := by
  apply List.ext_getElem?
  intro j
  by_cases hjn : j < n
  · rw [met_get _ _ _ _ hjn, if_neg (by omega)]; simp [hjn]
  · rw [List.getElem?_eq_none (by rw [met_len]; omega), List.getElem?_eq_none (by simp; omega)]
/-- the numbers in the other order -/
theorem postT (k : F) : (postF k 1 ++ [0]).Nodup ∧ ∀ j, j ∈ postF k 1 ++ [0] ↔ j < k.size + 1 := by
  constructor
  · rw [List.nodup_append]
    refine ⟨nodup_postF k 1, by simp, fun a ha b hb => ?_⟩
    have := (mem_postF _ _ _).1 ha
    simp at hb
    omega
  · intro j
    rw [List.mem_append, mem_postF]
    simp
    omega
theorem flatF_bd : ∀ (f : F) (p : Int) (dp pl id i : Nat) (y : Im), (flatF p dp pl id f)[i]? = some y → 0 ≤ y.z ∧ y.z ≤ f.size ∧ 0 ≤ y.h ∧ y.h ≤ f.depth ∧ y.dp < dp + f.depth
  | .nil, _, _, _, _, _, _, h => by cases h
  | .node xb xo d k r, p, dp, pl, id, i, y, h => by
    have hz : (BT.node xb xo d k r).size = 1 + k.size + r.size := rfl
    have hd : (BT.node xb xo d k r).depth = max (k.depth + 1) r.depth := rfl
    have hl := flatF_len k id (dp + 1) 0 (id + 1)
    rw [hz, hd]
    rw [flatF] at h
    cases i with
    | zero =>
      simp only [List.getElem?_cons_zero, Option.some.injEq] at h
      subst h
      dsimp only
      refine ⟨by omega, by omega, by omega, by omega, by omega⟩
    | succ i =>
      simp only [List.getElem?_cons_succ] at h
      by_cases hi : i < k.size
      · rw [List.getElem?_append_left (by omega)] at h
        have := flatF_bd k id (dp + 1) 0 (id + 1) i y h
        refine ⟨by omega, by omega, by omega, by omega, by omega⟩
      · rw [List.getElem?_append_right (by omega), hl] at h
        have := flatF_bd r p dp (pl + 1) (id + 1 + k.size) (i - k.size) y h
        refine ⟨by omega, by omega, by omega, by omega, by omega⟩
theorem flatT_bd (d : Nd) (k : F) (i : Nat) (y : Im) (h : (flatT d k)[i]? = some y) : 0 ≤ y.z ∧ y.z ≤ k.size + 1 ∧ 0 ≤ y.h ∧ y.h ≤ k.depth + 1 ∧ y.dp ≤ k.depth := by
  cases i with
  | zero =>
    rw [flatT] at h
    simp only [List.getElem?_cons_zero, Option.some.injEq] at h
    subst h
    dsimp only
    refine ⟨by omega, by omega, by omega, by omega, by omega⟩
  | succ i =>
    rw [flatT, List.getElem?_cons_succ] at h
    have := flatF_bd k 0 1 0 1 i y h
    refine ⟨by omega, by omega, by omega, by omega, by omega⟩
end Go.Proofs.Ytjjkidenlgghkaa.M
end

/- Path: the places that lead to a node. -/
section
set_option linter.unusedVariables false
namespace Go.Proofs.Ytjjkidenlgghkaa
open Go.Deep (BT)
open Go.RowKit M

/-- steps one behind the other, as cells -/
def cellsSt : List Fr → List Value
  | [] => []
  | f :: l => cells8 f ++ cellsSt l
theorem cellsSt_append : ∀ a b, cellsSt (a ++ b) = cellsSt a ++ cellsSt b
  | [], b => rfl
  | f :: a, b => by simp [cellsSt, cellsSt_append a b]
theorem cellsW_S : ∀ l, cellsW l = cellsSt l.reverse
  | [] => rfl
  | f :: l => by rw [cellsW, cellsW_S l, List.reverse_cons, cellsSt_append]; simp [cellsSt]
theorem wayOf_rev : ∀ l, wayOf l = l.reverse.map (·.s)
  | [] => rfl
  | f :: l => by rw [wayOf, wayOf_rev l]; simp
theorem cellsSt_get : ∀ (l : List Fr) (i : Nat) (f : Fr), l[i]? = some f → ∀ j u, (cells8 f)[j]? = some u → (cellsSt l)[i * 8 + j]? = some u
  | [], _, _, h, _, _, _ => by cases h
  | x :: l, 0, f, h, j, u, hu => by
    simp only [List.getElem?_cons_zero, Option.some.injEq] at h
    subst h
    have hj := (List.getElem?_eq_some_iff.1 hu).1
    rw [cellsSt, List.getElem?_append_left (by simpa using hj)]
    simpa using hu
  | x :: l, i + 1, f, h, j, u, hu => by
    simp only [List.getElem?_cons_succ] at h
    have := cellsSt_get l i f h j u hu
    have hx : (cells8 x).length = 8 := rfl
    rw [cellsSt, List.getElem?_append_right (by omega), hx, show (i + 1) * 8 + j - 8 = i * 8 + j by omega]
    exact this
theorem way_at {w : World} {B E g n cap : Nat} {L : List Fr} (h : w.ownsRow B E 8 (.slice (some ⟨g, 0, none⟩) n cap) n (cellsW L)) {i : Nat} {f : Fr} (hf : L.reverse[i]? = some f) :
    (∀ j u, (cells8 f)[j]? = some u → w.cell? ⟨g, i * 8 + j, none⟩ = some u) ∧ g < w.heap.size ∧ n ≤ cap ∧ cap ≤ maxLen := by
  obtain ⟨h1, h2⟩ := h
  rcases h2 with ⟨e, _⟩ | ⟨g', cap', cur, e, hg, hh, hc1, hc2, hs, ht⟩
  · cases e
  · cases e
    refine ⟨fun j u hj => ?_, (Array.getElem?_eq_some_iff.1 hh).1, hc1, hc2⟩
    simp only [World.cell?, hh]
    have h3 := cellsSt_get L.reverse i f hf j u hj
    rw [← cellsW_S, ← ht, List.getElem?_take] at h3
    split at h3
    · simpa using h3
    · cases h3

theorem allOK_mem {S : Nat → Prop} {w : World} : ∀ {L : List Fr}, AllOK S w L → ∀ f ∈ L, FrOK S w f
  | [], _, _, h => by cases h
  | x :: L, hL, f, h => by
    rcases List.mem_cons.1 h with rfl | h
    · exact hL.1
    · exact allOK_mem hL.2 f h

set_option maxRecDepth 20000 in
set_option maxHeartbeats 2000000 in
theorem path_any (d : Nd) (k : M.F) (av kv : Value) (id : Int) (w : World) (ha : AS (Old w.heap.size) w av d.ats) (hf : FL (Old w.heap.size) w kv k) (hk : k.depth + 1 ≤ 1000000) (hs : k.size + 1 ≤ 1000000000) :
    Calls Try.prog 17 #[nodeV d av kv, .int .i64 id] w fun e w' => Below w.heap.size w w' ∧ ∃ v ps, e = .returned v ∧ w'.ownsRow w.heap.size 3 1 v ps.length (cI ps) ∧
      ((∃ pre x, pre ++ [x] <+: evT d k ∧ (∀ y ∈ pre, (lastId y : Int) ≠ id) ∧ (lastId x : Int) = id ∧ ps = (x.way.map (·.place)).drop 1) ∨ ((∀ y ∈ evT d k, (lastId y : Int) ≠ id) ∧ ps = [])) := by
  obtain ⟨a1, b1, c1, eav⟩ := ha.val
  obtain ⟨ka, kc, ekv⟩ := hf.val
  have ha' := ha
  have hf' := hf
  subst eav ekv
  have HA : Fact (AS (Old w.heap.size) w (.slice a1 b1 c1) d.ats) := ⟨ha'⟩
  have HF : Fact (FL (Old w.heap.size) w (.slice ka k.len kc) k) := ⟨hf'⟩
  clear ha' hf' ha hf
  obtain ⟨W0, hW0⟩ : ∃ W0, w.alloc (.cells #[.int .i64 d.k, .string d.n, .string d.x, .slice a1 b1 c1, .slice ka k.len kc] 25) = W0 := ⟨_, rfl⟩
  have hb0 : Below w.heap.size w W0 := by rw [← hW0]; exact (Below.refl _ w).alloc (Nat.le_refl _) _
  have hbx : ∀ i, W0.cell? ⟨w.heap.size, i, none⟩ = (#[.int .i64 d.k, .string d.n, .string d.x, .slice a1 b1 c1, .slice ka k.len kc] : Array Value)[i]? := fun i => by rw [← hW0]; exact World.cell?_alloc_new w _ _ i
  go_enter Try.func17, Try.ntmps17
  go_wp2_with fail
  have hway := (callsIn_wide (n := 4)).1 (wayTo_in 4 (by omega) d k (.slice a1 b1 c1) (.slice ka k.len kc) id W0 (HA.out.old hb0 hb0.size) (HF.out.old hb0 hb0.size) hk hs)
  refine hway.mono ?_
  clear hway
  rintro e w1 ⟨hb1, (⟨v, rfl, hF⟩ | ⟨rfl, hno⟩)⟩
  · obtain ⟨pre, x, L, g, cap, base, h1, h2, h3, h4, h5, rfl, h7, h8, h9, h10⟩ := hF.way
    obtain ⟨n, hn⟩ : ∃ n, L.length = n := ⟨_, rfl⟩
    rw [hn] at h8 h10 ⊢
    have hn0 : 0 < n := by rw [← hn]; exact List.length_pos_iff.2 h5
    have HB : Fact (Below w.heap.size w w1) := ⟨hb0.trans (hb1.mono hb0.size)⟩
    have HR := Fact.mk h8
    have HK9 := Fact.mk h9
    have HX := Fact.mk (And.intro h1 (And.intro h2 (And.intro h3 h4)))
    clear hF h1 h2 h3 h4 h5 h8 h9 hb0 hb1 hW0 hbx
    obtain ⟨i0, hii, hzz0, hzz1, hzz2⟩ := info_parts infoInt
    have HL := Fact.mk hn
    clear hn
    go_wp2_with fail
    go_loopg [5, 12] n (fun gf lv iv wr => ∃ i : Nat, iv = .int .i64 i ∧ i ≤ n ∧ n - i ≤ gf ∧ Fact (Below w1.heap.size w1 wr) ∧ Fact (wr.ownsRow w1.heap.size 3 1 lv (i - 1) (cI (((L.reverse.map (·.s.place)).take i).drop 1))))
    case atStart => exact ⟨0, rfl, Nat.zero_le _, Nat.le_refl _, ⟨Below.refl _ _⟩, ⟨World.ownsRow_nil _ _ _ _⟩⟩
    case round =>
      obtain ⟨i, rfl, hi, hgf, hBr, hOr⟩ := hrel
      by_cases hin : i = n
      · subst hin
        have hdec : decide ((i : Int) < (i : Int)) = false := decide_eq_false (by omega)
        go_wp2_with fail
        go_ret
        refine ⟨HB.out.trans (hBr.out.mono HB.out.size), _, _, rfl, ?_, .inl ⟨pre, x, HX.out.1, HX.out.2.1, HX.out.2.2.1, rfl⟩⟩
        have e : (x.way.map (·.place)).drop 1 = ((L.reverse.map (·.s.place)).take i).drop 1 := by
          rw [← HX.out.2.2.2, wayOf_rev, List.map_map, List.take_of_length_le (by simp [HL.out])]
          rfl
        have hl : ((x.way.map (·.place)).drop 1).length = i - 1 := by rw [e]; simp [HL.out]
        rw [hl, e]
        exact own_lessP hOr.out HB.out.size
      · have hlt : i < n := by omega
        have hdec : decide ((i : Int) < (n : Int)) = true := decide_eq_true (by omega)
        obtain ⟨f, hfi⟩ : ∃ f, L.reverse[i]? = some f := ⟨L.reverse[i]'(by simp [HL.out]; omega), List.getElem?_eq_getElem _⟩
        obtain ⟨hat, hg2, hcp, hcm⟩ := way_at (own_block HR.out (fun k e hk => hBr.out.block k hk)) hfi
        have htk : (L.reverse.map (·.s.place)).take (i + 1) = (L.reverse.map (·.s.place)).take i ++ [f.s.place] := by
          rw [List.take_add_one, List.getElem?_map, hfi]; rfl
        obtain ⟨x1, x2, x3, eav⟩ : ∃ a b c, f.av = .slice a b c := by
          have hm : f ∈ L := by rw [← List.mem_reverse]; exact List.mem_of_getElem? hfi
          exact (allOK_mem HK9.out f hm).at_.val
        obtain ⟨⟨⟨K, N, X, A⟩, kk, id', pl⟩, rest, nx, av, ka', kc'⟩ := f
        dsimp only at eav htk
        subst eav
        have y0 : wr.cell? ⟨g, i * 8, none⟩ = some (.int .i64 K) := hat 0 _ rfl
        have y1 : wr.cell? ⟨g, i * 8 + 1, none⟩ = some (.string N) := hat 1 _ rfl
        have y2 : wr.cell? ⟨g, i * 8 + 2, none⟩ = some (.string X) := hat 2 _ rfl
        have y3 : wr.cell? ⟨g, i * 8 + 3, none⟩ = some (.slice x1 x2 x3) := hat 3 _ rfl
        have y4 : wr.cell? ⟨g, i * 8 + 4, none⟩ = some (.slice ka' kk.len kc') := hat 4 _ rfl
        have y5 : wr.cell? ⟨g, i * 8 + 5, none⟩ = some (.int .i64 id') := hat 5 _ rfl
        have y6 : wr.cell? ⟨g, i * 8 + 6, none⟩ = some (.int .i64 pl) := hat 6 _ rfl
        have y7 : wr.cell? ⟨g, i * 8 + 7, none⟩ = some (.int .i64 nx) := hat 7 _ rfl
        obtain ⟨g', rfl⟩ : ∃ g', gk = g' + 1 := ⟨gk - 1, by omega⟩
        have HTK := Fact.mk htk
        clear hat htk hfi
        by_cases hi0 : i = 0
        · subst hi0
          go_wp2_with fail
          go_roundg g'
          case measure => omega
          case rel => exact ⟨1, by simp, by omega, by omega, ⟨hBr.out.alloc hBr.out.size _⟩, ⟨by rw [HTK.out]; simpa [cI] using hOr.out.alloc _⟩⟩
        · have hd0 : decide ((0 : Int) < (i : Int)) = true := decide_eq_true (by omega)
          have hszr := hBr.out.size
          obtain ⟨Wb, hWb⟩ : ∃ Wb, wr.alloc (.cells #[.int .i64 K, .string N, .string X, .slice x1 x2 x3, .slice ka' kk.len kc', .int .i64 id', .int .i64 pl, .int .i64 nx] 61) = Wb := ⟨_, rfl⟩
          have hOb : Wb.ownsRow w1.heap.size 3 1 u5 (i - 1) (cI (((L.reverse.map (·.s.place)).take i).drop 1)) := by rw [← hWb]; exact hOr.out.alloc _
          have hBb : Below w1.heap.size w1 Wb := by rw [← hWb]; exact hBr.out.alloc hszr _
          have hpb : Wb.cell? ⟨wr.heap.size, 6, none⟩ = some (.int .i64 pl) := by rw [← hWb]; exact World.cell?_alloc_new wr _ _ 6
          have HBb := Fact.mk hBb
          have HWb := Fact.mk hWb
          clear hWb
          have hz8 : i ≤ 1000000 := by omega
          have hsb := HBb.out.size
          go_upto_region 6 with fail
          rw [HWb.out]
          go_wp2_with (at_builtin; refine wpList_append_own _ rfl (.tmp 19) (.tmp 22) 34 rfl w1.heap.size 3 i0 (.int .i64 0) 1 8 Try.underlying34 hii hzz0 hzz1 hzz2 rfl (by decide) u5 (i - 1) (cI (((L.reverse.map (·.s.place)).take i).drop 1)) rfl (hOb.alloc _) ⟨Wb.heap.size, 0, none⟩ 1 1 [.int .i64 pl] rfl rfl (cells_new Wb _ _) (by simp [Value.oneCell']) (by unfold maxLen; omega) (by omega) (by simp; omega) ?_; intro v' w3 hown' hgrow _)
          go_roundg g'
          case measure => omega
          case rel =>
            refine ⟨i + 1, by simp, by omega, by omega, ⟨(HBb.out.alloc hsb _).grown hgrow (by simp; omega) (fun k e => (hOb.lt k e).1)⟩, ⟨?_⟩⟩
            have e : (((L.reverse.map (·.s.place)).take (i + 1)).drop 1) = (((L.reverse.map (·.s.place)).take i).drop 1) ++ [pl] := by
              rw [HTK.out, List.drop_append_of_le_length (by simp [HL.out]; omega)]
            rw [e, cI_snoc, show i + 1 - 1 = i - 1 + 1 by omega]
            exact hown'
  · have HB : Fact (Below w.heap.size w w1) := ⟨hb0.trans (hb1.mono hb0.size)⟩
    clear hb0 hb1 hW0 hbx
    go_wp2_with fail
    go_rounds 1
    go_ret
    exact ⟨HB.out, _, [], rfl, World.ownsRow_nil _ _ _ _, .inr ⟨hno, rfl⟩⟩
end Go.Proofs.Ytjjkidenlgghkaa
end

/- awake: the document's example. -/
section
set_option linter.unusedVariables false
namespace Go.Proofs.Ytjjkidenlgghkaa
open Go.Deep (BT)
open Go.RowKit M

/-- the example's kids -/
abbrev exK : M.F := .cons ⟨2, ⟨#[97]⟩, ⟨#[]⟩, []⟩ (.cons ⟨3, ⟨#[]⟩, ⟨#[116]⟩, []⟩ .nil .nil) .nil

theorem ints_at {w : World} {B E n : Nat} {v : Value} {xs : List Value} (h : w.ownsRow B E 1 v n xs) (hn : 0 < n) : ∃ g cap, v = .slice (some ⟨g, 0, none⟩) n cap ∧ n ≤ cap ∧ cap ≤ maxLen ∧ B ≤ g ∧ g < w.heap.size ∧ ∀ i u, xs[i]? = some u → w.cell? ⟨g, i, none⟩ = some u := by
  obtain ⟨h1, h2⟩ := h
  rcases h2 with ⟨_, e⟩ | ⟨g, cap, cur, rfl, hg, hh, hc1, hc2, hs, ht⟩
  · omega
  · refine ⟨g, cap, rfl, hc1, hc2, hg, (Array.getElem?_eq_some_iff.1 hh).1, fun i u hi => ?_⟩
    simp only [World.cell?, hh]
    rw [← ht] at hi
    rw [List.getElem?_take] at hi
    split at hi
    · simpa using hi
    · cases hi

set_option maxRecDepth 20000 in
set_option maxHeartbeats 2000000 in
theorem awake7_true (w : World) : Calls Try.prog 10 #[] w fun e w' => e = .returned (.bool true) ∧ Below w.heap.size w w' := by
  obtain ⟨W1, hW1⟩ : ∃ W1, (w.alloc (.cells #[.int .i64 3, .string ⟨#[]⟩, .string ⟨#[116]⟩, .slice none 0 0, .slice none 0 0] 25)).alloc (.cells #[.int .i64 2, .string ⟨#[97]⟩, .string ⟨#[]⟩, .slice none 0 0, .slice (some ⟨w.heap.size, 0, none⟩) 1 1] 25) = W1 := ⟨_, rfl⟩
  have hb1 : Below w.heap.size w W1 := by rw [← hW1]; exact ((Below.refl _ w).alloc (Nat.le_refl _) _).alloc (by simp) _
  have hz1 : W1.heap.size = w.heap.size + 2 := by rw [← hW1]; simp
  have c1 : ∀ i v, (#[.int .i64 3, .string ⟨#[]⟩, .string ⟨#[116]⟩, .slice none 0 0, .slice none 0 0] : Array Value)[i]? = some v → W1.cell? ⟨w.heap.size, i, none⟩ = some v := fun i v h => by
    rw [← hW1]; exact (box_new w _ _ _).1 i v h
  have c2 : ∀ i v, (#[.int .i64 2, .string ⟨#[97]⟩, .string ⟨#[]⟩, .slice none 0 0, .slice (some ⟨w.heap.size, 0, none⟩) 1 1] : Array Value)[i]? = some v → W1.cell? ⟨w.heap.size + 1, i, none⟩ = some v := fun i v h => by
    rw [← hW1]
    have := World.cell?_alloc_new (w.alloc (.cells #[.int .i64 3, .string ⟨#[]⟩, .string ⟨#[116]⟩, .slice none 0 0, .slice none 0 0] 25)) #[.int .i64 2, .string ⟨#[97]⟩, .string ⟨#[]⟩, .slice none 0 0, .slice (some ⟨w.heap.size, 0, none⟩) 1 1] 25 i
    rw [World.size_alloc] at this
    exact this.trans h
  have hf : FL (Old W1.heap.size) W1 (.slice (some ⟨w.heap.size + 1, 0, none⟩) 1 1) exK :=
    ⟨_, 1, rfl, Nat.le_refl _, by unfold maxLen; omega, .inr ⟨w.heap.size + 1, 0, rfl, by show _ < _; omega, ⟨.slice none 0 0, some ⟨w.heap.size, 0, none⟩, 1, c2 0 _ rfl, c2 1 _ rfl, c2 2 _ rfl, c2 3 _ rfl, c2 4 _ rfl, AS.nothing, Nat.le_refl _, by unfold maxLen; omega,
      .inr ⟨w.heap.size, 0, rfl, by show _ < _; omega, ⟨.slice none 0 0, none, 0, c1 0 _ rfl, c1 1 _ rfl, c1 2 _ rfl, c1 3 _ rfl, c1 4 _ rfl, AS.nothing, Nat.le_refl _, Nat.zero_le _, .inl rfl⟩, trivial⟩⟩, trivial⟩⟩
  have HW1 := Fact.mk hW1
  have HF := Fact.mk hf
  clear hf c1 c2 hW1
  go_enter Try.func10, Try.ntmps10
  go_wp2_with fail
  rw [HW1.out]
  refine (post_any ⟨1, ⟨#[]⟩, ⟨#[]⟩, []⟩ exK _ _ W1 AS.nothing HF.out (by decide) (by decide)).mono ?_
  rintro e w2 ⟨v, rfl, hb2, hown⟩
  obtain ⟨g, cap, rfl, hc1, hc2, _, _, hat⟩ := ints_at hown (by decide)
  have y0 : w2.cell? ⟨g, 0, none⟩ = some (.int .i64 2) := hat 0 _ rfl
  have y1 : w2.cell? ⟨g, 1, none⟩ = some (.int .i64 1) := hat 1 _ rfl
  have y2 : w2.cell? ⟨g, 2, none⟩ = some (.int .i64 0) := hat 2 _ rfl
  have hB : Below w.heap.size w w2 := hb1.trans (hb2.mono (by omega))
  have hsz : exK.size + 1 = 3 := rfl
  rw [hsz]
  clear hat hown hb1 hb2
  go_wp2_with fail
  go_ret
  exact ⟨rfl, hB⟩
end Go.Proofs.Ytjjkidenlgghkaa
end

/- Sub, told by a node's number; small laws on boxes. -/
section
set_option linter.unusedVariables false
set_option linter.unusedSimpArgs false
namespace Go.Proofs.Ytjjkidenlgghkaa
open Go.Deep (BT)
open Go.RowKit M

theorem sub_yes {d : Nd} {k : M.F} {av kv : Value} {w : World} (i : Nat) (id : Int) (hid : Fact (id = i)) (d' : Nd) (k' : M.F) (hsub : Fact (M.sub (.cons d k .nil) i = some (d', k'))) (h : Lies w.heap.size w d k av kv) (hk : k.depth + 1 ≤ 1000000) (hs : k.size + 1 ≤ 1000000) (hsl : d.ats.length + k.slots ≤ 1000000) :
    Calls Try.prog 22 #[.agg #[.int .i64 d.k, .string d.n, .string d.x, av, kv], .int .i64 id] w fun e w' => ∃ a1 n1 c1 a2 n2 c2, e = .returned (.tuple #[.agg #[.int .i64 d'.k, .string d'.n, .string d'.x, .slice a1 n1 c1, .slice a2 n2 c2], .bool true]) ∧ Below w.heap.size w w' ∧ Lies w'.heap.size w' d' k' (.slice a1 n1 c1) (.slice a2 n2 c2) := by
  refine (sub_any d k av kv id w h hk hs hsl).mono ?_
  rintro e w' ⟨hb, ⟨j, d2, k2, av', kv', h1, h2, rfl, h4⟩ | ⟨h1, _⟩⟩
  · have hji : j = i := by have := hid.out; omega
    subst hji
    rw [hsub.out] at h2
    simp only [Option.some.injEq, Prod.mk.injEq] at h2
    obtain ⟨rfl, rfl⟩ := h2
    have h5 := h4
    obtain ⟨⟨a1, c1, rfl, _⟩, ⟨a2, c2, rfl, _⟩⟩ := h4
    exact ⟨a1, _, c1, a2, _, c2, rfl, hb, h5⟩
  · exfalso
    have h3 := h1 i hid.out
    have h4 := (sub_bd _ _ _ _ hsub.out).1
    simp only [BT.size] at h4
    omega
theorem sub_not {d : Nd} {k : M.F} {av kv : Value} {w : World} (i : Nat) (hi : Fact (k.size + 1 ≤ i)) (h : Lies w.heap.size w d k av kv) (hk : k.depth + 1 ≤ 1000000) (hs : k.size + 1 ≤ 1000000) (hsl : d.ats.length + k.slots ≤ 1000000) :
    Calls Try.prog 22 #[.agg #[.int .i64 d.k, .string d.n, .string d.x, av, kv], .int .i64 i] w fun e w' => e = .returned (.tuple #[.agg #[.int .i64 0, .string ⟨#[]⟩, .string ⟨#[]⟩, .slice none 0 0, .slice none 0 0], .bool false]) ∧ Below w.heap.size w w' := by
  refine (sub_any d k av kv i w h hk hs hsl).mono ?_
  rintro e w' ⟨hb, ⟨j, d2, k2, av', kv', h1, h2, _⟩ | ⟨_, rfl⟩⟩
  · exfalso
    have h4 := (sub_bd _ _ _ _ h2).1
    simp only [BT.size] at h4
    have := hi.out
    omega
  · exact ⟨rfl, hb⟩
theorem ci_self (a : Int) : ci a a = 0 := by unfold ci; rw [if_neg (by omega), if_neg (by omega)]
theorem cl_self : ∀ l, cl l l = 0
  | [] => rfl
  | a :: l => by show orI (ci a.toNat a.toNat) (cl l l) = 0; rw [ci_self, cl_self l]; rfl
theorem ca_self : ∀ l, ca l l = 0
  | [] => rfl
  | p :: l => by
    have h1 : cp p p = 0 := by unfold cp cs; rw [cl_self, cl_self]; rfl
    show orI (cp p p) (ca l l) = 0; rw [h1, ca_self l]; rfl
theorem cn_self (d : Nd) : cn d d = 0 := by unfold cn cs; rw [ci_self, cl_self, cl_self, ca_self]; rfl
theorem cF_self : ∀ f, cF f f = 0
  | .nil => rfl
  | .node _ _ d k r => by show orI (cn d d) (orI (cF k k) (cF r r)) = 0; rw [cn_self, cF_self k, cF_self r]; rfl
theorem cT_self (d : Nd) (k : M.F) : cT d k d k = 0 := by unfold cT; rw [cn_self, cF_self]; rfl

theorem Five.up {W W' : World} {b : Nat} {v0 v1 v2 v3 v4 : Value} (h : Five W b v0 v1 v2 v3 v4) (hb : Below W.heap.size W W') : Five W' b v0 v1 v2 v3 v4 := h.same (hb.block _ h.lt)
theorem Lies.up {W W' : World} {d : Nd} {k : M.F} {av kv : Value} (h : Lies W.heap.size W d k av kv) (hb : Below W.heap.size W W') : Lies W'.heap.size W' d k av kv := (h.below hb).here hb.size
theorem box_below {w : World} (o : Obj) : Below w.heap.size w (w.alloc o) := (Below.refl _ w).alloc (Nat.le_refl _) _
end Go.Proofs.Ytjjkidenlgghkaa
end

/- The chapter's own Compare and Same. -/
section
set_option linter.unusedVariables false
namespace Go.Proofs.Ytjjkidenlgghkaa
open Go.Deep (BT)
open Go.RowKit M

theorem cF_end : ∀ f g : M.F, (f = .nil ∨ g = .nil) → cF f g = ci f.len g.len
  | .nil, .nil, _ => rfl
  | .nil, .node _ _ _ _ r, _ => by
    show (-1 : Int) = ci 0 ((r.len + 1 : Nat) : Int)
    unfold ci; rw [if_pos (by omega)]
  | .node _ _ _ _ r, .nil, _ => by
    show (1 : Int) = ci ((r.len + 1 : Nat) : Int) 0
    unfold ci; rw [if_neg (by omega), if_pos (by omega)]
  | .node _ _ _ _ _, .node _ _ _ _ _, h => by rcases h with h | h <;> cases h
theorem ci_add (i a b : Int) : ci (i + a) (i + b) = ci a b := by unfold ci; split <;> split <;> (try split) <;> (try split) <;> omega

def RCmpP (k : M.F) : Prop := ∀ (d d' : Nd) (k' : M.F) (va ka vb kb : Value) (n : Nat) (w : World) (C : Int), Lies n w d k va ka → Lies n w d' k' vb kb → n ≤ w.heap.size → Fact (cT d k d' k' = C) →
  Calls Try.prog 36 #[nodeV d va ka, nodeV d' vb kb] w fun e w' => e = .returned (.int .i64 C) ∧ Below w.heap.size w w'

theorem kids_at {n : Nat} {w : World} {v : Value} {k : M.F} (h : FL (Old n) w v k) : ∃ a c b o, v = .slice a k.len c ∧ k.len ≤ c ∧ c ≤ maxLen ∧ Fact (∀ i, i < k.len → a = some ⟨b, o, none⟩ ∧ b < n ∧ FAt (Old n) w k b o) := by
  obtain ⟨a, c, e, h1, h2, hF⟩ := h
  rcases hF with h0 | ⟨b, o, ea, hS, hcs⟩
  · refine ⟨a, c, 0, 0, e, h1, h2, ⟨fun i hi => ?_⟩⟩
    omega
  · exact ⟨a, c, b, o, e, h1, h2, ⟨fun i hi => ⟨ea, hS, hcs⟩⟩⟩

set_option maxRecDepth 20000 in
set_option maxHeartbeats 4000000 in
theorem rcmp_step (k : M.F) (hH : Hered RCmpP k) : RCmpP k := by
  intro d d' k' va ka vb kb n w C hla hlb hn hC
  obtain ⟨K, N, X, A⟩ := d
  obtain ⟨K', N', X', A'⟩ := d'
  obtain ⟨a1, l1, c1, e1⟩ := hla.a.val
  obtain ⟨a2, l2, c2, e2⟩ := hlb.a.val
  subst e1 e2
  have hla0 := hla
  have hlb0 := hlb
  obtain ⟨a3, c3, b3, o3, rfl, hc3, hm3, hkd⟩ := kids_at hla.f
  obtain ⟨a4, c4, b4, o4, rfl, hc4, hm4, hkd'⟩ := kids_at hlb.f
  obtain ⟨kl, hkl⟩ : ∃ kl, k.len = kl := ⟨_, rfl⟩
  obtain ⟨kl', hkl'⟩ : ∃ kl', k'.len = kl' := ⟨_, rfl⟩
  obtain ⟨C1, hC1⟩ : ∃ c, Fact (cn ⟨K, N, X, A⟩ ⟨K', N', X', A'⟩ = c) := ⟨_, ⟨rfl⟩⟩
  have HC : Fact (orI C1 (cF k k') = C) := ⟨by rw [← hC1.out]; exact hC.out⟩
  obtain ⟨W1, hW1⟩ : ∃ W1, (w.alloc (.cells #[.int .i64 K, .string N, .string X, .slice a1 l1 c1, .slice a3 kl c3] 25)).alloc (.cells #[.int .i64 K', .string N', .string X', .slice a2 l2 c2, .slice a4 kl' c4] 25) = W1 := ⟨_, rfl⟩
  have hB1 : Below w.heap.size w W1 := by rw [← hW1]; exact ((Below.refl _ w).alloc (Nat.le_refl _) _).alloc (by simp) _
  have hz1 : W1.heap.size = w.heap.size + 2 := by rw [← hW1]; simp
  have hA : ∀ i v, (#[.int .i64 K, .string N, .string X, .slice a1 l1 c1, .slice a3 kl c3] : Array Value)[i]? = some v → W1.cell? ⟨w.heap.size, i, none⟩ = some v := fun i v h => by
    rw [← hW1, World.cell?_alloc_lt _ _ _ (by simp)]; exact (World.cell?_alloc_new w _ _ i).trans h
  have hBb : ∀ i v, (#[.int .i64 K', .string N', .string X', .slice a2 l2 c2, .slice a4 kl' c4] : Array Value)[i]? = some v → W1.cell? ⟨w.heap.size + 1, i, none⟩ = some v := fun i v h => by
    have := World.cell?_alloc_new (w.alloc (.cells #[.int .i64 K, .string N, .string X, .slice a1 l1 c1, .slice a3 kl c3] 25)) #[.int .i64 K', .string N', .string X', .slice a2 l2 c2, .slice a4 kl' c4] 25 i
    rw [hW1, World.size_alloc] at this
    exact this.trans h
  have HP4 : Fact (W1.cell? ⟨w.heap.size, 4, none⟩ = some (.slice a3 kl c3) ∧ W1.cell? ⟨w.heap.size + 1, 4, none⟩ = some (.slice a4 kl' c4)) := ⟨hA 4 _ rfl, hBb 4 _ rfl⟩
  have HAS : Fact (AS (Old n) W1 (.slice a1 l1 c1) A ∧ AS (Old n) W1 (.slice a2 l2 c2) A') := ⟨hla0.a.like (like_below (hB1.mono hn)), hlb0.a.like (like_below (hB1.mono hn))⟩
  have HB1 := Fact.mk hB1
  have HH := Fact.mk hH
  have HKL := Fact.mk hkl
  have HKL' := Fact.mk hkl'
  have HW1 := Fact.mk hW1
  try dsimp only
  rw [hkl] at hc3 hkd ⊢
  rw [hkl'] at hc4 hkd' ⊢
  unfold maxLen at hm3 hm4
  clear hla hlb hla0 hlb0 hH hA hBb hB1 hkl hkl' hC hW1
  go_enter Try.func36, Try.ntmps36
  go_wp2_with fail
  rw [HW1.out]
  refine (rnode_any ⟨K, N, X, A⟩ ⟨K', N', X', A'⟩ _ _ _ _ n W1 HAS.out.1 HAS.out.2 (by omega) ⟨_, _, _, rfl⟩ ⟨_, _, _, rfl⟩ C1 hC1).mono ?_
  rintro e w2 ⟨rfl, hb2⟩
  have HB2 := Fact.mk hb2
  clear hb2 HAS HW1 hC1
  go_wp2_with fail
  go_loopg [5, 6] (kl + 1) (fun gf cv iv wr => ∃ (c : Int) (i : Nat) (rest rest' : M.F), (cv = .int .i64 c ∧ iv = .int .i64 i) ∧ i + rest.len = kl ∧ i + rest'.len = kl' ∧ rest.len + 1 ≤ gf ∧ Fact (Below (w.heap.size + 2) W1 wr) ∧
    Fact (((c = 0 ∧ cF rest rest' = C) ∨ (c ≠ 0 ∧ c = C)) ∧ (rest.len = 0 ∨ FAt (Old n) w rest b3 (o3 + i * 5)) ∧ (rest'.len = 0 ∨ FAt (Old n) w rest' b4 (o4 + i * 5)) ∧ Hered RCmpP rest))
  case atStart =>
    refine ⟨C1, 0, k, k', ⟨rfl, rfl⟩, by rw [HKL.out]; omega, by rw [HKL'.out]; omega, by rw [HKL.out]; omega, ⟨HB2.out.mono (by omega)⟩, ⟨?_, ?_, ?_, HH.out⟩⟩
    · have h := HC.out
      unfold orI at h
      by_cases h0 : C1 = 0
      · rw [if_pos h0] at h; exact .inl ⟨h0, h⟩
      · rw [if_neg h0] at h; exact .inr ⟨h0, h⟩
    · by_cases h0 : kl = 0
      · left; rw [HKL.out]; exact h0
      · right
        rw [Nat.zero_mul, Nat.add_zero]
        exact (hkd.out 0 (by omega)).2.2
    · by_cases h0 : kl' = 0
      · left; rw [HKL'.out]; exact h0
      · right
        rw [Nat.zero_mul, Nat.add_zero]
        exact (hkd'.out 0 (by omega)).2.2
  case round =>
    obtain ⟨c, i, rest, rest', ⟨rfl, rfl⟩, hlen, hlen2, hfu, hBr, hf⟩ := hrel
    have q4 := (hBr.out.cell (p := ⟨w.heap.size, 4, none⟩) (by show w.heap.size < _; omega)).trans HP4.out.1
    have r4 := (hBr.out.cell (p := ⟨w.heap.size + 1, 4, none⟩) (by show w.heap.size + 1 < _; omega)).trans HP4.out.2
    have HW : Fact (Below w.heap.size w wr) := ⟨HB1.out.trans (hBr.out.mono (by omega))⟩
    clear HC HB2
    by_cases hc0 : c = 0
    · subst hc0
      obtain ⟨hcd, hfat, hfat', hHr⟩ := hf.out
      have hcd := (hcd.resolve_right (fun h => h.1 rfl)).2
      by_cases hend : rest = .nil ∨ rest' = .nil
      · have hE := cF_end rest rest' hend
        have hsg : Fact (sg (decide ((kl : Int) < kl')) (decide ((kl' : Int) < kl)) = C) := ⟨by
          have ht := ci_add (i : Int) rest.len rest'.len
          rw [show (i : Int) + rest.len = kl by omega, show (i : Int) + rest'.len = kl' by omega] at ht
          rw [sg_ci, ← hcd, hE]; exact ht⟩
        have hsg2 : Fact (sg (decide (kl < kl')) (decide (kl' < kl)) = C) := ⟨by rw [← hsg.out]; congr 1 <;> exact decide_eq_decide.2 (by omega)⟩
        have hi : ¬ (i < kl ∧ i < kl') := by
          rcases hend with h | h
          · subst h; have : i + 0 = kl := hlen; omega
          · subst h; have : i + 0 = kl' := hlen2; omega
        clear hE hcd hf hkd hkd' hfat hfat' hHr hend HH HKL HKL'
        by_cases hl1 : i < kl
        · have hl2 : ¬ i < kl' := fun h => hi ⟨hl1, h⟩
          have hl1' : (i : Int) < kl := by omega
          have hl2' : ¬ (i : Int) < kl' := by omega
          clear hi
          go_wp2_with (go_at_call 46; first | (with_reducible refine (sign_at _ _ C hsg2 _).mono ?_; rintro e w2 ⟨rfl, hw2⟩; have hw3 := hw2.symm; subst hw3; clear hw2) | (with_reducible refine (sign_at _ _ C hsg _).mono ?_; rintro e w2 ⟨rfl, hw2⟩; have hw3 := hw2.symm; subst hw3; clear hw2))
          go_ret
          exact ⟨rfl, HW.out⟩
        · have hl1' : ¬ (i : Int) < kl := by omega
          clear hi
          go_wp2_with (go_at_call 46; first | (with_reducible refine (sign_at _ _ C hsg2 _).mono ?_; rintro e w2 ⟨rfl, hw2⟩; have hw3 := hw2.symm; subst hw3; clear hw2) | (with_reducible refine (sign_at _ _ C hsg _).mono ?_; rintro e w2 ⟨rfl, hw2⟩; have hw3 := hw2.symm; subst hw3; clear hw2))
          go_ret
          exact ⟨rfl, HW.out⟩
      · cases rest with
        | nil => exact absurd (.inl rfl) hend
        | node xb xo d k1 r1 =>
          cases rest' with
          | nil => exact absurd (.inr rfl) hend
          | node yb yo d' k2 r2 =>
            have hlen' : i + (r1.len + 1) = kl := hlen
            have hlen2' : i + (r2.len + 1) = kl' := hlen2
            have hfu' : r1.len + 1 + 1 ≤ gk := hfu
            obtain ⟨g', rfl⟩ : ∃ g', gk = g' + 1 := ⟨gk - 1, by omega⟩
            obtain ⟨ea3, hb3, _⟩ := hkd.out i (by omega)
            obtain ⟨ea4, hb4, _⟩ := hkd'.out i (by omega)
            subst ea3 ea4
            obtain ⟨hP, hHr'⟩ := hHr
            have hfa := hfat.resolve_left (by show ¬ r1.len + 1 = 0; omega)
            have hfb := hfat'.resolve_left (by show ¬ r2.len + 1 = 0; omega)
            obtain ⟨⟨av1, ka1, kc1, e0, e1, e2, e3, e4, hav1, h4, h5, hkk1⟩, hrr1⟩ := hfa
            obtain ⟨⟨av2, ka2, kc2, f0, f1, f2, f3, f4, hav2, h6, h7, hkk2⟩, hrr2⟩ := hfb
            obtain ⟨x1, x2, x3, ex⟩ := hav1.val
            obtain ⟨y1, y2, y3, ey⟩ := hav2.val
            subst ex ey
            obtain ⟨m1, hm1⟩ : ∃ m, k1.len = m := ⟨_, rfl⟩
            obtain ⟨m2, hm2⟩ : ∃ m, k2.len = m := ⟨_, rfl⟩
            have hcc : ∀ b o, b < n → wr.cell? ⟨b, o, none⟩ = w.cell? ⟨b, o, none⟩ := fun b o hb => HW.out.cell (p := ⟨b, o, none⟩) (by show b < _; omega)
            have hlk : Like (Old n) w wr.drew := like_below (HW.out.mono hn).drew
            obtain ⟨c', hc'⟩ : ∃ c', Fact (cT d k1 d' k2 = c') := ⟨_, ⟨rfl⟩⟩
            have hcall := hP d d' k2 (.slice x1 x2 x3) (.slice ka1 k1.len kc1) (.slice y1 y2 y3) (.slice ka2 k2.len kc2) n wr.drew c' ⟨hav1.like hlk, FL.like hlk ⟨ka1, kc1, rfl, h4, h5, hkk1⟩⟩ ⟨hav2.like hlk, FL.like hlk ⟨ka2, kc2, rfl, h6, h7, hkk2⟩⟩ (Nat.le_trans hn HW.out.size) hc'
            rw [hm1, hm2] at hcall
            have HCALL := Fact.mk hcall
            have HNX : Fact ((c' = 0 ∧ cF r1 r2 = C) ∨ (c' ≠ 0 ∧ c' = C)) := ⟨by
              have h : orI (cn d d') (orI (cF k1 k2) (cF r1 r2)) = C := hcd
              rw [← orI_assoc] at h
              have h : orI (cT d k1 d' k2) (cF r1 r2) = C := h
              rw [hc'.out] at h
              unfold orI at h
              by_cases h0 : c' = 0
              · rw [if_pos h0] at h; exact .inl ⟨h0, h⟩
              · rw [if_neg h0] at h; exact .inr ⟨h0, h⟩⟩
            have HR : Fact (FAt (Old n) w r1 b3 (o3 + (i + 1) * 5) ∧ FAt (Old n) w r2 b4 (o4 + (i + 1) * 5) ∧ Hered RCmpP r1) := ⟨by rw [show o3 + (i + 1) * 5 = o3 + i * 5 + 5 by omega]; exact hrr1, by rw [show o4 + (i + 1) * 5 = o4 + i * 5 + 5 by omega]; exact hrr2, hHr'⟩
            have HS : Fact (Below wr.heap.size wr wr.drew ∧ (wr.drew.cell? ⟨w.heap.size, 4, none⟩ = some (.slice (some ⟨b3, o3, none⟩) kl c3) ∧ wr.drew.cell? ⟨w.heap.size + 1, 4, none⟩ = some (.slice (some ⟨b4, o4, none⟩) kl' c4)) ∧
              (wr.drew.cell? ⟨b3, o3 + i * 5, none⟩ = some (.int .i64 d.k) ∧ wr.drew.cell? ⟨b3, o3 + i * 5 + 1, none⟩ = some (.string d.n) ∧ wr.drew.cell? ⟨b3, o3 + i * 5 + 2, none⟩ = some (.string d.x) ∧ wr.drew.cell? ⟨b3, o3 + i * 5 + 3, none⟩ = some (.slice x1 x2 x3) ∧ wr.drew.cell? ⟨b3, o3 + i * 5 + 4, none⟩ = some (.slice ka1 m1 kc1)) ∧
              (wr.drew.cell? ⟨b4, o4 + i * 5, none⟩ = some (.int .i64 d'.k) ∧ wr.drew.cell? ⟨b4, o4 + i * 5 + 1, none⟩ = some (.string d'.n) ∧ wr.drew.cell? ⟨b4, o4 + i * 5 + 2, none⟩ = some (.string d'.x) ∧ wr.drew.cell? ⟨b4, o4 + i * 5 + 3, none⟩ = some (.slice y1 y2 y3) ∧ wr.drew.cell? ⟨b4, o4 + i * 5 + 4, none⟩ = some (.slice ka2 m2 kc2))) :=
              ⟨(Below.refl _ _).drew, ⟨q4, r4⟩, ⟨(hcc _ _ hb3).trans e0, (hcc _ _ hb3).trans e1, (hcc _ _ hb3).trans e2, (hcc _ _ hb3).trans e3, by rw [← hm1]; exact (hcc _ _ hb3).trans e4⟩, (hcc _ _ hb4).trans f0, (hcc _ _ hb4).trans f1, (hcc _ _ hb4).trans f2, (hcc _ _ hb4).trans f3, by rw [← hm2]; exact (hcc _ _ hb4).trans f4⟩
            have j1 : (i : Int) < kl := by omega
            have j2 : (i : Int) < kl' := by omega
            have j3 : (0 : Int) ≤ i := by omega
            clear hf hfat hfat' hP hHr' hrr1 hrr2 hkk1 hkk2 hav1 hav2 hcall hlk e0 e1 e2 e3 e4 f0 f1 f2 f3 f4 hkd hkd' hlen hlen2 hfu hcd hcc hc' hend HH
            go_wp2_with fail
            have hS0 := HS.out
            clear HS
            go_region_held3 (fun w' => Below wr.heap.size wr w' ∧ (w'.cell? ⟨w.heap.size, 4, none⟩ = some (.slice (some ⟨b3, o3, none⟩) kl c3) ∧ w'.cell? ⟨w.heap.size + 1, 4, none⟩ = some (.slice (some ⟨b4, o4, none⟩) kl' c4)) ∧
              (w'.cell? ⟨b3, o3 + i * 5, none⟩ = some (.int .i64 d.k) ∧ w'.cell? ⟨b3, o3 + i * 5 + 1, none⟩ = some (.string d.n) ∧ w'.cell? ⟨b3, o3 + i * 5 + 2, none⟩ = some (.string d.x) ∧ w'.cell? ⟨b3, o3 + i * 5 + 3, none⟩ = some (.slice x1 x2 x3) ∧ w'.cell? ⟨b3, o3 + i * 5 + 4, none⟩ = some (.slice ka1 m1 kc1)) ∧
              (w'.cell? ⟨b4, o4 + i * 5, none⟩ = some (.int .i64 d'.k) ∧ w'.cell? ⟨b4, o4 + i * 5 + 1, none⟩ = some (.string d'.n) ∧ w'.cell? ⟨b4, o4 + i * 5 + 2, none⟩ = some (.string d'.x) ∧ w'.cell? ⟨b4, o4 + i * 5 + 3, none⟩ = some (.slice y1 y2 y3) ∧ w'.cell? ⟨b4, o4 + i * 5 + 4, none⟩ = some (.slice ka2 m2 kc2)))
              (first | with_reducible exact hS0 | with_reducible exact keep12 hb5 (by assumption))
              (first | (go_at_call 36; refine HCALL.out.mono ?_; rintro e w5 ⟨rfl, hb5⟩))
            rename_i hHeld
            have HB5 : Fact (Below (w.heap.size + 2) W1 w5) := ⟨hBr.out.trans (hHeld.1.mono (by have := hBr.out.size; omega))⟩
            clear hHeld HCALL hS0 hb5
            go_wp2_with fail
            go_roundg g'
            case measure => omega
            case rel => exact ⟨c', i + 1, r1, r2, ⟨rfl, by go_num⟩, by omega, by omega, by omega, HB5, ⟨HNX.out, .inr HR.out.1, .inr HR.out.2.1, HR.out.2.2⟩⟩
    · have hc0' : (c == 0) = false := by simpa using hc0
      have hcC : Fact (c = C) := ⟨(hf.out.1.resolve_left (fun h => hc0 h.1)).2⟩
      clear hf hkd hkd' HH HKL HKL'
      go_wp2_with fail
      go_ret
      exact ⟨ret_int hcC.out, HW.out⟩
theorem rcmp_any (k : M.F) : RCmpP k := indH rcmp_step k

set_option maxRecDepth 20000 in
set_option maxHeartbeats 1000000 in
theorem rsame_at {n : Nat} {w : World} {d d' : Nd} {k k' : M.F} {va vb ka kb : Value} (r : Bool) (hr : Fact (decide (cT d k d' k' = 0) = r)) (ha : Lies n w d k va ka) (hb : Lies n w d' k' vb kb) (hn : n ≤ w.heap.size) :
    Calls Try.prog 21 #[nodeV d va ka, nodeV d' vb kb] w fun e w' => e = .returned (.bool r) ∧ Below w.heap.size w w' := by
  obtain ⟨a1, n1, c1, e1⟩ := ha.a.val
  obtain ⟨a2, n2, c2, e2⟩ := hb.a.val
  obtain ⟨a3, c3, e3⟩ := ha.f.val
  obtain ⟨a4, c4, e4⟩ := hb.f.val
  subst e1 e2 e3 e4
  obtain ⟨C, hC⟩ : ∃ C, Fact (cT d k d' k' = C) := ⟨_, ⟨rfl⟩⟩
  have hr' : Fact (decide (C = 0) = r) := ⟨by rw [← hC.out]; exact hr.out⟩
  obtain ⟨W1, hW1⟩ : ∃ W1, (w.alloc (.cells #[.int .i64 d.k, .string d.n, .string d.x, .slice a1 n1 c1, .slice a3 k.len c3] 25)).alloc (.cells #[.int .i64 d'.k, .string d'.n, .string d'.x, .slice a2 n2 c2, .slice a4 k'.len c4] 25) = W1 := ⟨_, rfl⟩
  have hb1 : Below w.heap.size w W1 := by rw [← hW1]; exact ((Below.refl _ w).alloc (Nat.le_refl _) _).alloc (by simp) _
  have HA := Fact.mk (ha.below (hb1.mono hn))
  have HB := Fact.mk (hb.below (hb1.mono hn))
  have HB1 := Fact.mk hb1
  have HW1 := Fact.mk hW1
  clear ha hb hb1 hW1 hr
  go_enter Try.func21, Try.ntmps21
  go_wp2_with fail
  rw [HW1.out]
  refine (rcmp_any k d d' k' _ _ _ _ n W1 C HA.out HB.out (Nat.le_trans hn HB1.out.size) hC).mono ?_
  rintro e w2 ⟨rfl, hb2⟩
  go_wp2_with fail
  go_ret
  refine ⟨ret_bool ?_, HB1.out.trans (hb2.mono HB1.out.size)⟩
  rw [← hr'.out]
  rw [Bool.eq_iff_iff]
  simp
end Go.Proofs.Ytjjkidenlgghkaa
end

/- The document's Flat: rows of nodes with all in them; plain terms, and where they lie. -/
section
set_option linter.unusedVariables false
set_option linter.unusedSimpArgs false
namespace Go.Proofs.Ytjjkidenlgghkaa.M
open Go.Deep
/-- the trees that begin at the nodes, in their order -/
def subsF : F → List (Nd × F)
  | .nil => []
  | .node _ _ d k r => (d, k) :: (subsF k ++ subsF r)
theorem subsF_len : ∀ f : F, (subsF f).length = f.size
  | .nil => rfl
  | .node _ _ d k r => by simp [subsF, BT.size, subsF_len k, subsF_len r]; omega
end Go.Proofs.Ytjjkidenlgghkaa.M
namespace Go.Proofs.Ytjjkidenlgghkaa
open Go.Deep (BT)
open Go.RowKit Go.Shelf M

/-- a node in the list: what is said of it, its attributes' copy, the tree that begins there -/
structure Rm where
  im : Im
  k : M.F
  oa : Value
  av : Value
  kv : Value
def c15 (r : Rm) : List Value := [.int .i64 r.im.p, .int .i64 r.im.z, .int .i64 r.im.dp, .int .i64 r.im.h, .int .i64 r.im.pl, .int .i64 r.im.d.k, .string r.im.d.n, .string r.im.d.x, r.oa, .slice none 0 0, .int .i64 r.im.d.k, .string r.im.d.n, .string r.im.d.x, r.av, r.kv]
def c15L : List Rm → List Value
  | [] => []
  | y :: l => c15 y ++ c15L l
theorem c15L_len : ∀ l, (c15L l).length = l.length * 15
  | [] => rfl
  | y :: l => by simp [c15L, c15, c15L_len l]; omega
theorem c15L_append : ∀ a b, c15L (a ++ b) = c15L a ++ c15L b
  | [], b => rfl
  | y :: a, b => by simp [c15L, c15L_append a b]
theorem c15L_get : ∀ (l : List Rm) (i : Nat) (y : Rm), l[i]? = some y → ∀ j u, (c15 y)[j]? = some u → (c15L l)[i * 15 + j]? = some u
  | [], _, _, h, _, _, _ => by cases h
  | x :: l, 0, y, h, j, u, hu => by
    simp only [List.getElem?_cons_zero, Option.some.injEq] at h
    subst h
    have hj := (List.getElem?_eq_some_iff.1 hu).1
    rw [c15L, List.getElem?_append_left (by simpa using hj)]
    simpa using hu
  | x :: l, i + 1, y, h, j, u, hu => by
    simp only [List.getElem?_cons_succ] at h
    have := c15L_get l i y h j u hu
    have hx : (c15 x).length = 15 := rfl
    rw [c15L, List.getElem?_append_right (by omega), hx, show (i + 1) * 15 + j - 15 = i * 15 + j by omega]
    exact this
theorem c15L_set : ∀ (l : List Rm) (i j : Nat) (y y' : Rm) (u : Value), l[i]? = some y → j < 15 → (c15 y).set j u = c15 y' → (c15L l).set (i * 15 + j) u = c15L (l.set i y')
  | [], _, _, _, _, _, h, _, _ => by cases h
  | x :: l, 0, j, y, y', u, h, hj, e => by
    simp only [List.getElem?_cons_zero, Option.some.injEq] at h
    subst h
    rw [c15L, List.set_append, if_pos (by show 0 * 15 + j < 15; omega), Nat.zero_mul, Nat.zero_add, e]
    rfl
  | x :: l, i + 1, j, y, y', u, h, hj, e => by
    simp only [List.getElem?_cons_succ] at h
    have := c15L_set l i j y y' u h hj e
    have hx : (c15 x).length = 15 := rfl
    rw [c15L, List.set_append, if_neg (by omega), hx, show (i + 1) * 15 + j - 15 = i * 15 + j by omega, this]
    rfl
theorem row15_at {w : World} {B E g n cap : Nat} {l : List Rm} (h : w.ownsRow B E 15 (.slice (some ⟨g, 0, none⟩) n cap) n (c15L l)) {i : Nat} {y : Rm} (hy : l[i]? = some y) :
    (∀ j u, (c15 y)[j]? = some u → w.cell? ⟨g, i * 15 + j, none⟩ = some u) ∧ (∀ o, w.frozen? ⟨g, o, none⟩ = false) ∧ B ≤ g ∧ g < w.heap.size ∧ n ≤ cap ∧ cap ≤ maxLen ∧ i < n := by
  obtain ⟨h1, h2⟩ := h
  have hl : l.length = n := by rw [c15L_len] at h1; omega
  have hi : i < n := by rw [← hl]; exact (List.getElem?_eq_some_iff.1 hy).1
  rcases h2 with ⟨e, _⟩ | ⟨g', cap', cur, e, hg, hh, hc1, hc2, hs, ht⟩
  · cases e
  · cases e
    refine ⟨fun j u hj => ?_, fun o => by simp [World.frozen?, hh], hg, (Array.getElem?_eq_some_iff.1 hh).1, hc1, hc2, hi⟩
    simp only [World.cell?, hh]
    have h3 := c15L_get l i y hy j u hj
    rw [← ht, List.getElem?_take] at h3
    split at h3
    · simpa using h3
    · cases h3
theorem row15_set {w : World} {B E g n cap : Nat} {l : List Rm} (h : w.ownsRow B E 15 (.slice (some ⟨g, 0, none⟩) n cap) n (c15L l)) {i j : Nat} {y y' : Rm} {u : Value} (hy : l[i]? = some y) (hj : j < 15) (e : (c15 y).set j u = c15 y') :
    (w.setCell ⟨g, i * 15 + j, none⟩ u).ownsRow B E 15 (.slice (some ⟨g, 0, none⟩) n cap) n (c15L (l.set i y')) := by
  have hs' := c15L_set l i j y y' u hy hj e
  obtain ⟨h1, h2⟩ := h
  refine ⟨by rw [← hs', List.length_set]; exact h1, .inr ?_⟩
  rcases h2 with ⟨e, _⟩ | ⟨g', cap', cur, e', hg, hh, hc1, hc2, hs, ht⟩
  · cases e
  · cases e'
    refine ⟨g, cap, cur.setIfInBounds (i * 15 + j) u, rfl, hg, ?_, hc1, hc2, by simpa using hs, ?_⟩
    · simp only [World.setCell, Array.getElem?_modify, hh]
      simp
    · rw [Array.toList_setIfInBounds, List.take_set, ht, hs']
theorem infoI7 : (Try.prog.info? 41).map (fun i => (i.zero, i.size, i.bytes)) = some (some (.agg #[.int .i64 0, .int .i64 0, .int .i64 0, .int .i64 0, .int .i64 0, .int .i64 0, .string ⟨#[]⟩, .string ⟨#[]⟩, .slice none 0 0, .slice none 0 0, .int .i64 0, .string ⟨#[]⟩, .string ⟨#[]⟩, .slice none 0 0, .slice none 0 0]), 15, 216) := by kernel_rfl
theorem cells15_new (w : World) (xs : List Value) (t : TypeId) : ∀ (j : Nat) (u : Value), xs[j]? = some u → (w.alloc (.cells xs.toArray t)).cell? ((⟨w.heap.size, 0, none⟩ : Addr).add j) = some u := by
  intro j u h
  rw [add_cell, Nat.zero_add]
  have := World.cell?_alloc_new w xs.toArray t j
  rw [this]
  simpa using h
theorem grown_trans {a b c : World} {o1 o2 : Option Nat} (h1 : a.grownBy b o1) (h2 : b.grownBy c o2) (h : o2 = o1 ∨ ∃ k, o2 = some k ∧ a.heap.size ≤ k) : a.grownBy c o1 :=
  ⟨h2.os.trans h1.os, h2.tape.trans h1.tape, h2.output.trans h1.output, Nat.le_trans h1.size h2.size, fun k hk hn => (h2.block k (Nat.lt_of_lt_of_le hk h1.size) (fun e => by
    rcases h with h | ⟨k', e', hk'⟩
    · exact hn (e.trans h)
    · have := Option.some.inj (e.trans e'); omega)).trans (h1.block k hk hn)⟩
theorem grown_below {a b : World} {o : Option Nat} (h : Below a.heap.size a b) : a.grownBy b o := ⟨h.os, h.tape, h.output, h.size, fun k hk _ => h.block k hk⟩
theorem grown_set {a b : World} {g : Nat} (h : a.grownBy b (some g)) (o : Nat) (u : Value) : a.grownBy (b.setCell ⟨g, o, none⟩ u) (some g) :=
  ⟨h.os, h.tape, h.output, by simp [World.setCell]; exact h.size, fun k hk hn => (Below.heap_setCell _ _ _ _ (fun e => hn (by rw [e]))).trans (h.block k hk hn)⟩
theorem grown_setN {a b : World} {o1 : Option Nat} {g : Nat} (h : a.grownBy b o1) (hg : some g = o1 ∨ a.heap.size ≤ g) (o : Nat) (u : Value) : a.grownBy (b.setCell ⟨g, o, none⟩ u) o1 :=
  ⟨h.os, h.tape, h.output, by simp [World.setCell]; exact h.size, fun k hk hn => (Below.heap_setCell _ _ _ _ (fun e => by
    have e' : k = g := e
    rcases hg with hg | hg
    · exact hn (by rw [e', hg])
    · omega)).trans (h.block k hk hn)⟩
theorem grown_like {a b : World} {o : Option Nat} {n : Nat} (h : a.grownBy b o) (ho : ∀ k, o = some k → n ≤ k) : Like (Old n) a b := fun k hk hz => h.block k hz (fun e => by have := ho k e.symm; have hk' : k < n := hk; omega)
end Go.Proofs.Ytjjkidenlgghkaa
end

/- The document's flat: a node and all in it behind others. -/
section
set_option linter.unusedVariables false
set_option linter.unusedSimpArgs false
namespace Go.Proofs.Ytjjkidenlgghkaa
open Go.Deep (BT)
open Go.RowKit Go.Shelf M

theorem int_eqq {a b : Int} (h : a = b) : Value.int .i64 a = .int .i64 b := by rw [h]
def AllR (n : Nat) (w : World) (l : List Rm) : Prop := ∀ r ∈ l, AS (Old n) w r.av r.im.d.ats ∧ FL (Old n) w r.kv r.k
theorem AllR.like {n : Nat} {w w' : World} (h : Like (Old n) w w') {l : List Rm} (ha : AllR n w l) : AllR n w' l := fun r hr => ⟨(ha r hr).1.like h, (ha r hr).2.like h⟩
theorem AllR.append {n : Nat} {w : World} {a b : List Rm} (ha : AllR n w a) (hb : AllR n w b) : AllR n w (a ++ b) := fun r hr => by
  rcases List.mem_append.1 hr with h | h
  · exact ha r h
  · exact hb r h
/-- the attributes' copies lie aside from the list's own block -/
def AllO (w : World) (ob : Option Nat) (l : List Rm) : Prop := ∀ r ∈ l, AS (fun b => b < w.heap.size ∧ ob ≠ some b) w r.oa r.im.d.ats
theorem AllO.grow {w w' : World} {ob ob' : Option Nat} {l : List Rm} (h : AllO w ob l) (hg : w.grownBy w' ob) (hb : ob' = ob ∨ ∃ b, ob' = some b ∧ w.heap.size ≤ b) : AllO w' ob' l := fun r hr =>
  ((h r hr).like (fun b hS hz => hg.block b hz (fun e => hS.2 e.symm))).mono (fun b hS => ⟨Nat.lt_of_lt_of_le hS.1 hg.size, fun e => by
    rcases hb with hb | ⟨c, hb, hc⟩
    · exact hS.2 (hb.symm.trans e)
    · have h1 := Option.some.inj (hb.symm.trans e)
      have h2 := hS.1
      omega⟩)
def RFlatP (k : M.F) : Prop := ∀ (d : Nd) (av kv : Value) (n B : Nat) (w : World) (l : List Rm) (v : Value) (p : Int) (dp pl : Nat), Lies n w d k av kv → n ≤ B → B ≤ w.heap.size →
  w.ownsRow B 41 15 v l.length (c15L l) → l.length + (k.size + 1) ≤ 1000000 → dp + k.depth ≤ 1000000 → d.ats.length + k.slots ≤ 1000000 →
  Calls Try.prog 31 #[v, nodeV d av kv, .int .i64 p, .int .i64 dp, .int .i64 pl] w fun e w' => ∃ v' news, e = .returned v' ∧ w'.ownsRow B 41 15 v' (l.length + (k.size + 1)) (c15L (l ++ news)) ∧ w.grownBy w' v.ownBlock ∧
    (v'.ownBlock = v.ownBlock ∨ ∃ b, v'.ownBlock = some b ∧ w.heap.size ≤ b) ∧ Fact (news.map (·.im) = ⟨p, k.size + 1, dp, k.depth + 1, pl, d⟩ :: flatF l.length (dp + 1) 0 (l.length + 1) k ∧ news.map (fun r => (r.im.d, r.k)) = (d, k) :: subsF k ∧ AllR n w' news ∧ AllO w' v'.ownBlock news)
theorem own_pos {w : World} {B E z n : Nat} {v : Value} {xs : List Value} (hn : 1 ≤ n) (h : w.ownsRow B E z v n xs) : ∃ g c, v = .slice (some ⟨g, 0, none⟩) n c := by
  rcases h.2 with ⟨_, h0⟩ | ⟨g, cap, cur, e, _⟩
  · omega
  · exact ⟨g, cap, e⟩

set_option maxRecDepth 100000 in
set_option maxHeartbeats 8000000 in
theorem rflat_step (k : M.F) (hH : Hered RFlatP k) : RFlatP k := by
  intro d av kv n B w l v p dp pl hl hnB hBw hrow hlen hdeep hslots
  obtain ⟨K, N, X, A⟩ := d
  obtain ⟨a1, n1, c1, e1⟩ := hl.a.val
  obtain ⟨a2, c2, rfl, hc2, hm2, hF⟩ := hl.f
  subst e1
  obtain ⟨av0, cv, e3⟩ := own_shape hrow
  subst e3
  obtain ⟨L, hL⟩ : ∃ L, l.length = L := ⟨_, rfl⟩
  obtain ⟨kl, hkl⟩ : ∃ kl, k.len = kl := ⟨_, rfl⟩
  rw [hL] at hrow hlen ⊢
  have HA : Fact (AS (Old n) w (.slice a1 n1 c1) A) := ⟨hl.a⟩
  have HFK : Fact (FL (Old n) w (.slice a2 k.len c2) k) := ⟨hl.f⟩
  rw [hkl] at hc2 HFK ⊢
  unfold maxLen at hm2
  dsimp only at hslots
  obtain ⟨b2, o2, hkd⟩ : ∃ b o, Fact (∀ i, i < kl → a2 = some ⟨b, o, none⟩ ∧ b < n ∧ FAt (Old n) w k b o) := by
    rcases hF with h0 | ⟨b, o, ea, hS, hcs⟩
    · refine ⟨0, 0, ⟨fun i hi => ?_⟩⟩
      omega
    · exact ⟨b, o, ⟨fun i hi => ⟨ea, hS, hcs⟩⟩⟩
  have hklk : kl ≤ 1000000 := by rw [← hkl]; have : ∀ f : M.F, f.len ≤ f.size := (fun f => by induction f with | nil => exact Nat.le_refl _ | node _ _ d k r _ ih => simp only [BT.len, BT.size]; omega); have := this k; omega
  obtain ⟨W1, hW1⟩ : ∃ W1, w.alloc (.cells #[.int .i64 K, .string N, .string X, .slice a1 n1 c1, .slice a2 kl c2] 25) = W1 := ⟨_, rfl⟩
  have hB1 : Below w.heap.size w W1 := by rw [← hW1]; exact (Below.refl _ w).alloc (Nat.le_refl _) _
  have hz1 : W1.heap.size = w.heap.size + 1 := by rw [← hW1]; simp
  have hbx : Five W1 w.heap.size (.int .i64 K) (.string N) (.string X) (.slice a1 n1 c1) (.slice a2 kl c2) := by rw [← hW1]; exact Five.new w _ _ _ _ _ _
  have hown1 : W1.ownsRow B 41 15 (.slice av0 L cv) L (c15L l) := by rw [← hW1]; exact hrow.alloc _
  have HOB : Fact (∀ g, (Value.slice av0 L cv).ownBlock = some g → B ≤ g ∧ g < w.heap.size) := ⟨fun g e => hrow.lt g e⟩
  have HBX := Fact.mk hbx
  have HB1 := Fact.mk hB1
  have HW1 := Fact.mk hW1
  have HKL := Fact.mk hkl
  have HLL := Fact.mk hL
  have HH := Fact.mk hH
  have hS0 : W1.drew.cell? ⟨w.heap.size, 0, none⟩ = some (.int .i64 K) ∧ W1.drew.cell? ⟨w.heap.size, 1, none⟩ = some (.string N) ∧ W1.drew.cell? ⟨w.heap.size, 2, none⟩ = some (.string X) ∧ W1.drew.cell? ⟨w.heap.size, 3, none⟩ = some (.slice a1 n1 c1) ∧ W1.drew.cell? ⟨w.heap.size, 4, none⟩ = some (.slice a2 kl c2) := ⟨hbx.c0, hbx.c1, hbx.c2, hbx.c3, hbx.c4⟩
  have HBARE : Fact (Calls Try.prog 43 #[.agg #[.int .i64 K, .string N, .string X, .slice a1 n1 c1, .slice a2 kl c2]] W1.drew fun e w' => ∃ y1 y2 y3, e = .returned (.agg #[.int .i64 K, .string N, .string X, .slice y1 y2 y3, .slice none 0 0]) ∧ Below W1.drew.heap.size W1.drew w' ∧ Fact (AS (fun b => W1.heap.size ≤ b) w' (.slice y1 y2 y3) A)) := ⟨by
    refine (bare_any ⟨K, N, X, A⟩ (.slice a1 n1 c1) (.slice a2 kl c2) n W1.drew ((hl.a.like (like_below (hB1.mono (Nat.le_trans hnB hBw)))).like (fun _ _ _ => rfl)) (by dsimp only; omega) (by show n ≤ W1.heap.size; omega) ⟨_, _, _, rfl⟩).mono ?_
    rintro e w' ⟨y1, y2, y3, rfl, hb, hay⟩
    exact ⟨y1, y2, y3, rfl, hb, ⟨hay⟩⟩⟩
  have HOWN1 := Fact.mk hown1
  obtain ⟨i0, hii, hzz0, hzz1, hzz2⟩ := info_parts infoI7
  clear hF hl hrow hW1 hH hB1 hbx hown1 hL hkl
  go_enter Try.func31, Try.ntmps31
  go_upto_region 2 with fail
  rw [HW1.out]
  go_region_held3 (fun w' => w'.cell? ⟨w.heap.size, 0, none⟩ = some (.int .i64 K) ∧ w'.cell? ⟨w.heap.size, 1, none⟩ = some (.string N) ∧ w'.cell? ⟨w.heap.size, 2, none⟩ = some (.string X) ∧ w'.cell? ⟨w.heap.size, 3, none⟩ = some (.slice a1 n1 c1) ∧ w'.cell? ⟨w.heap.size, 4, none⟩ = some (.slice a2 kl c2))
    (first | with_reducible exact hS0 | with_reducible exact hS2 | with_reducible exact hS3 _ | with_reducible exact hS4)
    (first
      | (refine wp_append_at _ (.tmp 17) (.tmp 25) 31 rfl B 41 i0 _ 15 216 Try.underlying31 hii hzz0 hzz1 hzz2 rfl (by decide) (.slice av0 L cv) L (c15L l) (by simp [Act.eval]) (HO2.out.alloc _) ⟨w2.heap.size, 0, none⟩ 1 1 [.int .i64 p, .int .i64 0, .int .i64 dp, .int .i64 0, .int .i64 pl, .int .i64 K, .string N, .string X, .slice y1 y2 y3, .slice none 0 0, .int .i64 K, .string N, .string X, .slice a1 n1 c1, .slice a2 kl c2] (by simp [Act.eval]) rfl (cells15_new _ _ _) (by simp [Value.oneCell']) (by unfold maxLen; omega) (by omega) (by simp; omega) ?_; intro v3 w3 hown3 hgrow3 hat3; have hbk : w3.heap[w.heap.size]? = w2.heap[w.heap.size]? := (hgrow3.block _ (by simp; omega) (fun e => by have := (HOB.out _ e.symm).2; omega)).trans (Below.heap_alloc _ _ _ (by omega)); have hfv3 := Fact.mk (hfv2.out.same hbk); have hS4 : w3.cell? ⟨w.heap.size, 0, none⟩ = some (.int .i64 K) ∧ w3.cell? ⟨w.heap.size, 1, none⟩ = some (.string N) ∧ w3.cell? ⟨w.heap.size, 2, none⟩ = some (.string X) ∧ w3.cell? ⟨w.heap.size, 3, none⟩ = some (.slice a1 n1 c1) ∧ w3.cell? ⟨w.heap.size, 4, none⟩ = some (.slice a2 kl c2) := ⟨hfv3.out.c0, hfv3.out.c1, hfv3.out.c2, hfv3.out.c3, hfv3.out.c4⟩)
      | (go_at_call 43; refine HBARE.out.mono ?_; rintro e w2 ⟨y1, y2, y3, rfl, hb2, hAY⟩; have hzz := hb2.size; have hzd : W1.drew.heap.size = W1.heap.size := rfl; have hfv2 : Fact (Five w2 w.heap.size (.int .i64 K) (.string N) (.string X) (.slice a1 n1 c1) (.slice a2 kl c2)) := ⟨HBX.out.same (hb2.block _ (by omega))⟩; have hS2 : w2.cell? ⟨w.heap.size, 0, none⟩ = some (.int .i64 K) ∧ w2.cell? ⟨w.heap.size, 1, none⟩ = some (.string N) ∧ w2.cell? ⟨w.heap.size, 2, none⟩ = some (.string X) ∧ w2.cell? ⟨w.heap.size, 3, none⟩ = some (.slice a1 n1 c1) ∧ w2.cell? ⟨w.heap.size, 4, none⟩ = some (.slice a2 kl c2) := ⟨hfv2.out.c0, hfv2.out.c1, hfv2.out.c2, hfv2.out.c3, hfv2.out.c4⟩; have hS3 : ∀ o, (w2.alloc o).cell? ⟨w.heap.size, 0, none⟩ = some (.int .i64 K) ∧ (w2.alloc o).cell? ⟨w.heap.size, 1, none⟩ = some (.string N) ∧ (w2.alloc o).cell? ⟨w.heap.size, 2, none⟩ = some (.string X) ∧ (w2.alloc o).cell? ⟨w.heap.size, 3, none⟩ = some (.slice a1 n1 c1) ∧ (w2.alloc o).cell? ⟨w.heap.size, 4, none⟩ = some (.slice a2 kl c2) := fun o => (let h := hfv2.out.same (w' := w2.alloc o) (Below.heap_alloc _ _ _ (by omega)); ⟨h.c0, h.c1, h.c2, h.c3, h.c4⟩); have HO2 : Fact (w2.ownsRow B 41 15 (.slice av0 L cv) L (c15L l)) := ⟨own_block HOWN1.out (fun k _ hk => hb2.block k hk)⟩))
  obtain ⟨g3, c3, rfl⟩ := own_pos (by omega) hown3
  obtain ⟨hd, hhd⟩ : ∃ hd : Rm, (⟨⟨p, 0, dp, 0, pl, ⟨K, N, X, A⟩⟩, k, .slice y1 y2 y3, .slice a1 n1 c1, .slice a2 kl c2⟩ : Rm) = hd := ⟨_, rfl⟩
  have HHD := Fact.mk hhd
  have HO3 : Fact (w3.ownsRow B 41 15 (.slice (some ⟨g3, 0, none⟩) (L + 1) c3) (L + 1) (c15L (l ++ hd :: []))) := ⟨by
    rw [c15L_append, ← hhd]; exact hown3⟩
  have HG3 : Fact (W1.grownBy w3 (Value.slice av0 L cv).ownBlock) := ⟨by
    have h2 : W1.grownBy (w2.alloc (.cells #[.int .i64 p, .int .i64 0, .int .i64 dp, .int .i64 0, .int .i64 pl, .int .i64 K, .string N, .string X, .slice y1 y2 y3, .slice none 0 0, .int .i64 K, .string N, .string X, .slice a1 n1 c1, .slice a2 kl c2] 41)) (Value.slice av0 L cv).ownBlock :=
      grown_below ((show Below W1.heap.size W1 w2 from ⟨hb2.os, hb2.tape, hb2.output, hb2.size, hb2.block⟩).alloc hb2.size _)
    exact grown_trans h2 hgrow3 (.inl rfl)⟩
  have HAT3 : Fact ((Value.slice (some ⟨g3, 0, none⟩) (L + 1) c3).ownBlock = (Value.slice av0 L cv).ownBlock ∨ ∃ b, (Value.slice (some ⟨g3, 0, none⟩) (L + 1) c3).ownBlock = some b ∧ W1.heap.size ≤ b) := ⟨by
    rcases hat3 with h | h
    · exact .inl h
    · exact .inr ⟨_, h, by simp; omega⟩⟩
  have HOO3 : Fact (AllO w3 (some g3) (hd :: [])) := ⟨by
    have h1 : AllO (w2.alloc (.cells #[.int .i64 p, .int .i64 0, .int .i64 dp, .int .i64 0, .int .i64 pl, .int .i64 K, .string N, .string X, .slice y1 y2 y3, .slice none 0 0, .int .i64 K, .string N, .string X, .slice a1 n1 c1, .slice a2 kl c2] 41)) (Value.slice av0 L cv).ownBlock (hd :: []) := fun r hr => by
      rw [List.mem_singleton.1 hr, ← hhd]
      exact ((hAY.out.inn).like (fun b _ hz => Below.heap_alloc w2 _ _ hz)).mono (fun b hS => ⟨by have := hS.2; simp; omega, fun e => by have := (HOB.out _ e).2; have := hS.1; omega⟩)
    refine h1.grow hgrow3 ?_
    rcases hat3 with h | h
    · exact .inl h
    · exact .inr ⟨_, h, Nat.le_refl _⟩⟩
  have hLI : ((L : Int) + 1) = ((L + 1 : Nat) : Int) := by omega
  clear hAY hS0 hS2 hS3 hS4 hown3 hgrow3 hat3 hbk hfv3 hfv2 hhd hb2 HO2 hzz HBARE HOWN1
  obtain ⟨m0, hm0⟩ : ∃ m0, L + 1 = m0 := ⟨_, rfl⟩
  rw [hm0] at HO3 HAT3 ⊢
  go_wp2_with fail
  go_loopg [0, 12, 13] kl (fun gf lv hv iv wr => ∃ (i : Nat) (rest : M.F) (done : List Rm) (D m g c : Nat), (lv = .slice (some ⟨g, 0, none⟩) m c ∧ hv = .int .i64 D ∧ iv = .int .i64 i) ∧ i + rest.len = kl ∧ rest.len ≤ gf ∧ m = L + 1 + done.length ∧
    Fact (W1.grownBy wr (Value.slice av0 L cv).ownBlock ∧ ((Value.slice (some ⟨g, 0, none⟩) m c).ownBlock = (Value.slice av0 L cv).ownBlock ∨ ∃ b, (Value.slice (some ⟨g, 0, none⟩) m c).ownBlock = some b ∧ W1.heap.size ≤ b) ∧ wr.ownsRow B 41 15 (.slice (some ⟨g, 0, none⟩) m c) m (c15L (l ++ hd :: done))) ∧
    Fact ((rest.len = 0 ∨ FAt (Old n) w rest b2 (o2 + i * 5)) ∧ Hered RFlatP rest ∧ k.size = done.length + rest.size ∧ k.depth = max D rest.depth ∧ rest.slots ≤ 1000000 ∧ flatF L (dp + 1) 0 (L + 1) k = done.map (·.im) ++ flatF L (dp + 1) i (L + 1 + done.length) rest ∧ subsF k = done.map (fun r => (r.im.d, r.k)) ++ subsF rest ∧ AllR n w done) ∧ Fact (AllO wr (some g) (hd :: done)))
  case atStart =>
    refine ⟨0, k, [], 0, m0, g3, c3, ⟨rfl, rfl, rfl⟩, by rw [HKL.out]; omega, by rw [HKL.out]; omega, by rw [← hm0]; rfl, ⟨HG3.out, HAT3.out, HO3.out⟩, ⟨?_, HH.out, by simp, by omega, by omega, by simp, by simp, fun r hr => by cases hr⟩, HOO3⟩
    by_cases h0 : kl = 0
    · left; rw [HKL.out]; exact h0
    · right
      rw [Nat.zero_mul, Nat.add_zero]
      exact (hkd.out 0 (by omega)).2.2
  case round =>
    obtain ⟨i, rest, done, D, m, g, c, ⟨rfl, rfl, rfl⟩, hlr, hfu, hm, hW, hfx, hOO⟩ := hrel
    have hw1 : w.heap.size < W1.heap.size := by omega
    have x4 : wr.cell? ⟨w.heap.size, 4, none⟩ = some (.slice a2 kl c2) := (World.cell?_of_block (w := W1) (a := ⟨w.heap.size, 4, none⟩) (hW.out.1.block _ hw1 (fun e => Nat.lt_irrefl _ (HOB.out _ e.symm).2))).trans HBX.out.c4
    have hgl : Below n w wr := HB1.out.mono (Nat.le_trans hnB hBw) |>.trans ⟨hW.out.1.os, hW.out.1.tape, hW.out.1.output, hW.out.1.size, fun k hk => hW.out.1.block k (by omega) (fun e => by have := (HOB.out _ e.symm).1; omega)⟩
    cases rest with
    | nil =>
      have hi : i = kl := by have : i + 0 = kl := hlr; omega
      obtain ⟨_, _, q1, q2, _, q4, q5, q6⟩ := hfx.out
      simp only [BT.size, BT.depth] at q1 q2
      obtain ⟨Z, hZ⟩ : ∃ Z, k.size + 1 = Z := ⟨_, rfl⟩
      obtain ⟨E, hE⟩ : ∃ E, D + 1 = E := ⟨_, rfl⟩
      have hmZ : m = L + Z := by omega
      have hget : (l ++ hd :: done)[L]? = some hd := by rw [List.getElem?_append_right (by rw [HLL.out]; exact Nat.le_refl _), HLL.out, Nat.sub_self]; rfl
      obtain ⟨hr, hfz, hgB, hgl2, hcm, hcM, hLm⟩ := row15_at hW.out.2.2 hget
      have cz : wr.cell? ⟨g, L * 15 + 1, none⟩ = some (.int .i64 0) := by have := hr 1 _ rfl; rw [← HHD.out] at this; exact this
      have fz := hfz (L * 15 + 1)
      obtain ⟨h1, eh1⟩ : ∃ h1 : Rm, ({ hd with im := { hd.im with z := (Z : Int) } } : Rm) = h1 := ⟨_, rfl⟩
      have hs1 := row15_set (j := 1) (u := .int .i64 Z) (y' := h1) hW.out.2.2 hget (by omega) (by rw [← eh1]; rfl)
      have hset1 : (l ++ hd :: done).set L h1 = l ++ h1 :: done := by rw [List.set_append_right _ _ (by rw [HLL.out]; exact Nat.le_refl _), HLL.out, Nat.sub_self]; rfl
      rw [hset1] at hs1
      have hget1 : (l ++ h1 :: done)[L]? = some h1 := by rw [List.getElem?_append_right (by rw [HLL.out]; exact Nat.le_refl _), HLL.out, Nat.sub_self]; rfl
      obtain ⟨hr1, hfz1, _, _, _, _, _⟩ := row15_at hs1 hget1
      have cz1 : (wr.setCell ⟨g, L * 15 + 1, none⟩ (.int .i64 Z)).cell? ⟨g, L * 15 + 3, none⟩ = some (.int .i64 0) := by have := hr1 3 _ rfl; rw [← eh1, ← HHD.out] at this; exact this
      have fz1 := hfz1 (L * 15 + 3)
      obtain ⟨h2, eh2⟩ : ∃ h2 : Rm, ({ h1 with im := { h1.im with h := (E : Int) } } : Rm) = h2 := ⟨_, rfl⟩
      have hs2 := row15_set (j := 3) (u := .int .i64 E) (y' := h2) hs1 hget1 (by omega) (by rw [← eh2]; rfl)
      have hset2 : (l ++ h1 :: done).set L h2 = l ++ h2 :: done := by rw [List.set_append_right _ _ (by rw [HLL.out]; exact Nat.le_refl _), HLL.out, Nat.sub_self]; rfl
      rw [hset2] at hs2
      have HS2 := Fact.mk hs2
      have hgB' : (Value.slice (some ⟨g, 0, none⟩) m c).ownBlock = some g := rfl
      have hgo : some g = (Value.slice av0 L cv).ownBlock ∨ W1.heap.size ≤ g := by
        rcases hW.out.2.1 with h | ⟨b, h, hb⟩
        · exact .inl h
        · right; rw [hgB'] at h; cases h; exact hb
      have HGW := Fact.mk (grown_setN (grown_setN hW.out.1 hgo (L * 15 + 1) (.int .i64 Z)) hgo (L * 15 + 3) (.int .i64 E))
      have HAT : Fact ((Value.slice (some ⟨g, 0, none⟩) m c).ownBlock = (Value.slice av0 L cv).ownBlock ∨ ∃ b, (Value.slice (some ⟨g, 0, none⟩) m c).ownBlock = some b ∧ w.heap.size ≤ b) := ⟨by
        rcases hW.out.2.1 with h | ⟨b, h, hb⟩
        · exact .inl h
        · exact .inr ⟨b, h, by omega⟩⟩
      have HNEW : Fact ((h2 :: done).map (·.im) = ⟨p, k.size + 1, dp, k.depth + 1, pl, ⟨K, N, X, A⟩⟩ :: flatF L (dp + 1) 0 (L + 1) k ∧ (h2 :: done).map (fun r => (r.im.d, r.k)) = (⟨K, N, X, A⟩, k) :: subsF k) := ⟨by
        constructor
        · rw [List.map_cons, q4, ← eh2, ← eh1, ← HHD.out]
          simp only [flatF, List.append_nil, List.cons.injEq, Im.mk.injEq, and_true, true_and]
          exact ⟨by omega, by omega⟩
        · rw [List.map_cons, q5, ← eh2, ← eh1, ← HHD.out]
          simp [subsF]⟩
      have HALL : Fact (AS (Old n) w h2.av h2.im.d.ats ∧ FL (Old n) w h2.kv h2.k) := ⟨by
        rw [← eh2, ← eh1, ← HHD.out]
        exact ⟨HA.out, HFK.out⟩⟩
      have HOEND : Fact (AllO ((wr.setCell ⟨g, L * 15 + 1, none⟩ (.int .i64 Z)).setCell ⟨g, L * 15 + 3, none⟩ (.int .i64 E)) (some g) (h2 :: done)) := ⟨by
        have h1 := hOO.out.grow (grown_setN (grown_setN (grown_below (Below.refl _ wr)) (.inl rfl) (L * 15 + 1) (.int .i64 Z)) (.inl rfl) (L * 15 + 3) (.int .i64 E)) (.inl rfl)
        intro r hr
        rcases List.mem_cons.1 hr with rfl | hr
        · have h3 := h1 hd List.mem_cons_self
          rw [← eh2, ← eh1]
          exact h3
        · exact h1 r (List.mem_cons_of_mem _ hr)⟩
      have HQ6 := Fact.mk q6
      have hsub : IntKind.i64.wrap ((m : Int) - (L : Int)) = (Z : Int) := by rw [wrap_id (by omega) (by omega)]; omega
      have hadd : IntKind.i64.wrap ((D : Int) + 1) = (E : Int) := by rw [wrap_id (by omega) (by omega)]; omega
      have l0 : (0 : Int) ≤ L := by omega
      have l1 : (L : Int) < m := by omega
      have HMZ := Fact.mk hmZ
      have HZZ := Fact.mk hZ
      clear hfx hlr hm hkd hr hfz hget hset1 hget1 hr1 hfz1 hset2 hs1 hs2 q1 q2 q4 q5 q6 hmZ hZ hE hgo hgB' hW
      subst hi
      go_wp2_with fail
      go_ret
      have hgw := grown_trans (grown_below HB1.out) HGW.out (.inl rfl)
      have hlike := grown_like (n := n) hgw (fun k e => Nat.le_trans hnB (HOB.out k e).1)
      refine ⟨_, rfl, h2 :: done, by rw [HZZ.out, ← HMZ.out]; exact HS2.out, hgw, HAT.out, ⟨by rw [← hm0]; exact HNEW.out.1, HNEW.out.2, ?_, HOEND.out⟩⟩
      intro r hr
      rcases List.mem_cons.1 hr with rfl | hr
      · exact ⟨HALL.out.1.like hlike, HALL.out.2.like hlike⟩
      · exact ⟨(HQ6.out r hr).1.like hlike, (HQ6.out r hr).2.like hlike⟩
    | node xb xo d' k' r' =>
      have hlen' : i + (r'.len + 1) = kl := hlr
      have hfu' : r'.len + 1 ≤ gk := hfu
      obtain ⟨g', rfl⟩ : ∃ g', gk = g' + 1 := ⟨gk - 1, by omega⟩
      have hlt2 : i < kl := by omega
      obtain ⟨ea2, hb2, _⟩ := hkd.out i hlt2
      subst ea2
      obtain ⟨hfat, ⟨hP, hHr⟩, q1, q2, q3, q4, q5, q6⟩ := hfx.out
      have hfat' := hfat.resolve_left (by show ¬ r'.len + 1 = 0; omega)
      obtain ⟨⟨av', ka', kc', e0, e1, e2, e3, e4, hav', h4, h5, hkk⟩, hrr⟩ := hfat'
      obtain ⟨x1', x2', x3', ex⟩ := hav'.val
      subst ex
      obtain ⟨kl', hkl'⟩ : ∃ kl', k'.len = kl' := ⟨_, rfl⟩
      simp only [BT.size] at q1
      simp only [BT.depth] at q2
      simp only [BT.slots] at q3
      have hcc : ∀ o, wr.cell? ⟨b2, o, none⟩ = w.cell? ⟨b2, o, none⟩ := fun o => hgl.cell (p := ⟨b2, o, none⟩) hb2
      have m0_ := (hcc _).trans e0
      have m1_ := (hcc _).trans e1
      have m2_ := (hcc _).trans e2
      have m3_ := (hcc _).trans e3
      have m4_ := (hcc _).trans e4
      have hlk : Like (Old n) w wr := like_below hgl
      have hml : (l ++ hd :: done).length = m := by rw [List.length_append, List.length_cons, HLL.out, hm]; omega
      have hcall := hP d' (.slice x1' x2' x3') (.slice ka' k'.len kc') n B wr (l ++ hd :: done) (.slice (some ⟨g, 0, none⟩) m c) L (dp + 1) i ⟨hav'.like hlk, FL.like hlk ⟨ka', kc', rfl, h4, h5, hkk⟩⟩ hnB (Nat.le_trans hBw (Nat.le_trans HB1.out.size hW.out.1.size)) (by rw [hml]; exact hW.out.2.2) (by rw [hml]; omega) (by omega) (by omega)
      obtain ⟨Z, hZ⟩ : ∃ Z, k'.size + 1 = Z := ⟨_, rfl⟩
      obtain ⟨m2, hm2'⟩ : ∃ m2, m + Z = m2 := ⟨_, rfl⟩
      rw [hml, hkl', hZ, hm2', show ((dp + 1 : Nat) : Int) = (dp : Int) + 1 from by omega] at hcall
      rw [hkl'] at m4_
      have HCALL := Fact.mk hcall
      obtain ⟨E, hE⟩ : ∃ E, k'.depth + 1 = E := ⟨_, rfl⟩
      obtain ⟨M, hM⟩ : ∃ M, max D E = M := ⟨_, rfl⟩
      have hmaxI : max (D : Int) (E : Int) = (M : Int) := by omega
      have hdpI : IntKind.i64.wrap ((dp : Int) + 1) = (dp : Int) + 1 := wrap_id (by omega) (by omega)
      have iI : (i : Int) < kl := by omega
      have iI0 : (0 : Int) ≤ i := by omega
      have mI0 : (0 : Int) ≤ m := by omega
      have mI1 : (m : Int) < m2 := by omega
      have HR : Fact ((r'.len = 0 ∨ FAt (Old n) w r' b2 (o2 + (i + 1) * 5)) ∧ Hered RFlatP r' ∧ k.size = done.length + (1 + k'.size + r'.size) ∧ k.depth = max D (max (k'.depth + 1) r'.depth) ∧ r'.slots ≤ 1000000) := ⟨.inr (by rw [show o2 + (i + 1) * 5 = o2 + i * 5 + 5 by omega]; exact hrr), hHr, q1, q2, by omega⟩
      have HQ4 := Fact.mk q4
      have HQ5 := Fact.mk q5
      have HQ6 := Fact.mk q6
      have HM := Fact.mk hm
      have HZ := Fact.mk hZ
      have HM2 := Fact.mk hm2'
      have HE := Fact.mk hE
      have HMM := Fact.mk hM
      have HML := Fact.mk hml
      clear hfx hfat hP hHr hrr hkk hav' hcall hlk e0 e1 e2 e3 e4 hkd hlr hfu q1 q2 q3 q4 q5 q6 hcc hgl hm hZ hm2' hE hM hml
      go_upto_region 9 with (go_at_call 31; refine HCALL.out.mono ?_; rintro e w5 ⟨v5, news, rfl, hown5, hgr5, hat5, hn5⟩)
      obtain ⟨g5, c5, rfl⟩ := own_pos (by omega) hown5
      obtain ⟨hn1, hn2, hn3, hn4⟩ := hn5.out
      obtain ⟨nw, news', rfl⟩ : ∃ nw news', news = nw :: news' := by
        cases news with
        | nil => simp at hn1
        | cons a b => exact ⟨a, b, rfl⟩
      have hnwh : nw.im.h = E := by
        rw [List.map_cons, List.cons.injEq] at hn1
        rw [hn1.1]
        have := HE.out
        show (k'.depth : Int) + 1 = E
        omega
      have HOO5 : Fact (AllO w5 (some g5) (hd :: (done ++ nw :: news'))) := ⟨by
        have h1 := hOO.out.grow hgr5 hat5
        intro r hr
        rw [← List.cons_append] at hr
        rcases List.mem_append.1 hr with h | h
        · exact h1 r h
        · exact hn4 r h⟩
      have hget : ((l ++ hd :: done) ++ nw :: news')[m]? = some nw := by
        rw [List.getElem?_append_right (by rw [HML.out]; exact Nat.le_refl _), HML.out, Nat.sub_self]; rfl
      obtain ⟨hr, _, _, _, hcm5, _, _⟩ := row15_at hown5 hget
      have ch : w5.cell? ⟨g5, m * 15 + 3, none⟩ = some (.int .i64 E) := by have := hr 3 _ rfl; rw [hnwh] at this; exact this
      have HW5 : Fact (W1.grownBy w5 (Value.slice av0 L cv).ownBlock ∧ ((Value.slice (some ⟨g5, 0, none⟩) m2 c5).ownBlock = (Value.slice av0 L cv).ownBlock ∨ ∃ b, (Value.slice (some ⟨g5, 0, none⟩) m2 c5).ownBlock = some b ∧ W1.heap.size ≤ b) ∧ w5.ownsRow B 41 15 (.slice (some ⟨g5, 0, none⟩) m2 c5) m2 (c15L (l ++ hd :: (done ++ nw :: news')))) := ⟨by
        have hsz := hW.out.1.size
        refine ⟨grown_trans hW.out.1 hgr5 ?_, ?_, ?_⟩
        · exact hW.out.2.1
        · rcases hat5 with h | ⟨b, h, hb⟩
          · rw [h]; exact hW.out.2.1
          · exact .inr ⟨b, h, by omega⟩
        · have e : (l ++ hd :: done) ++ nw :: news' = l ++ hd :: (done ++ nw :: news') := by simp
          rw [← e]
          exact hown5⟩
      have hnl : (nw :: news').length = Z := by
        have := congrArg List.length hn1
        simp only [List.length_map, List.length_cons, flatF_len] at this
        rw [List.length_cons]
        have h2 := HZ.out
        omega
      have HMAP : Fact (flatF L (dp + 1) 0 (L + 1) k = (done ++ nw :: news').map (·.im) ++ flatF L (dp + 1) (i + 1) (L + 1 + (done ++ nw :: news').length) r') := ⟨by
        have h1 := HQ4.out
        rw [flatF] at h1
        rw [h1, List.map_append, hn1, List.append_assoc, List.cons_append]
        have hmm : L + 1 + done.length = m := HM.out.symm
        rw [hmm, show L + 1 + (done ++ nw :: news').length = m + 1 + k'.size by rw [List.length_append, hnl]; have := HZ.out; omega]⟩
      have HSUB : Fact (subsF k = (done ++ nw :: news').map (fun r => (r.im.d, r.k)) ++ subsF r') := ⟨by
        have h1 := HQ5.out
        rw [subsF] at h1
        rw [h1, List.map_append, hn2, List.append_assoc, List.cons_append]⟩
      have HALLR : Fact (AllR n w (done ++ nw :: news')) := ⟨HQ6.out.append (fun r hr => by
        have hb : Like (Old n) w5 w := fun k hk _ => by
          have hk' : k < n := hk
          have hsz := HB1.out.size
          have h1 := HW5.out.1.block k (by omega) (fun e => by have := (HOB.out _ e.symm).1; omega)
          exact ((HB1.out.block k (by omega)).symm).trans h1.symm
        exact ⟨(hn3 r hr).1.like hb, (hn3 r hr).2.like hb⟩)⟩
      have HLEN : Fact (m2 = L + 1 + (done ++ nw :: news').length) := ⟨by rw [List.length_append, hnl]; have := HM.out; have := HM2.out; omega⟩
      have HSZ : Fact (k.size = (done ++ nw :: news').length + r'.size) := ⟨by rw [List.length_append, hnl]; have := HR.out.2.2.1; have := HZ.out; omega⟩
      have HDP : Fact (k.depth = max M r'.depth) := ⟨by have := HR.out.2.2.2.1; have := HE.out; have := HMM.out; omega⟩
      clear hown5 hgr5 hat5 hn5 hn1 hn2 hn3 hn4 hr hget hW HCALL hnwh hnl m0_ m1_ m2_ m3_ m4_
      go_wp2_with fail
      all_goals
        go_roundg g'
        case measure => omega
        case rel => exact ⟨i + 1, r', done ++ nw :: news', M, m2, g5, c5, ⟨rfl, (by first | rfl | exact int_eqq (by have := HMM.out; omega)), by go_num⟩, by omega, by omega, HLEN.out, HW5, ⟨HR.out.1, HR.out.2.1, HSZ.out, HDP.out, HR.out.2.2.2.2, HMAP.out, HSUB.out, HALLR.out⟩, HOO5⟩
theorem rflat_any (k : M.F) : RFlatP k := indH rflat_step k
end Go.Proofs.Ytjjkidenlgghkaa
end

/- The document's own Flat; numbers held against one another. -/
section
set_option linter.unusedVariables false
set_option linter.unusedSimpArgs false
namespace Go.Proofs.Ytjjkidenlgghkaa
open Go.Deep (BT)
open Go.RowKit Go.Shelf M

/-- a tree that is not too great -/
structure Lim (d : Nd) (k : M.F) : Prop where
  sz : k.size + 1 ≤ 1000000
  dp : k.depth + 1 ≤ 1000000
  sl : d.ats.length + k.slots ≤ 1000000
theorem Fits.lim {d : Nd} {k : M.F} (h : Fits 0 0 d k) : Lim d k := ⟨by have := h.size; omega, by have := h.depth; omega, by have := h.slots; have := h.size; omega⟩

structure Box5 (n : Nat) (K : Int) (N X : ByteArray) (va vk : Value) (w : World) : Prop where
  c0 : w.cell? ⟨n, 0, none⟩ = some (.int .i64 K)
  c1 : w.cell? ⟨n, 1, none⟩ = some (.string N)
  c2 : w.cell? ⟨n, 2, none⟩ = some (.string X)
  c3 : w.cell? ⟨n, 3, none⟩ = some va
  c4 : w.cell? ⟨n, 4, none⟩ = some vk
theorem Box5.keep {n : Nat} {K : Int} {N X : ByteArray} {va vk : Value} {w w' : World} (h : Box5 n K N X va vk w) (hb : Below w.heap.size w w') : Box5 n K N X va vk w' := by
  have h2 : n < w.heap.size := World.block_lt_of_cell? w _ h.c0
  exact ⟨(hb.cell (p := ⟨n, 0, none⟩) h2).trans h.c0, (hb.cell (p := ⟨n, 1, none⟩) h2).trans h.c1, (hb.cell (p := ⟨n, 2, none⟩) h2).trans h.c2, (hb.cell (p := ⟨n, 3, none⟩) h2).trans h.c3, (hb.cell (p := ⟨n, 4, none⟩) h2).trans h.c4⟩
theorem Box5.new (w : World) (K : Int) (N X : ByteArray) (va vk : Value) (ty : Nat) : Box5 w.heap.size K N X va vk (w.alloc (.cells #[.int .i64 K, .string N, .string X, va, vk] ty)) :=
  ⟨World.cell?_alloc_new w _ _ 0, World.cell?_alloc_new w _ _ 1, World.cell?_alloc_new w _ _ 2, World.cell?_alloc_new w _ _ 3, World.cell?_alloc_new w _ _ 4⟩

def subsT (d : Nd) (k : M.F) : List (Nd × M.F) := (d, k) :: subsF k
theorem own_upH {w w' : World} {B E z n : Nat} {v : Value} {xs : List Value} (h : w.ownsRow B E z v n xs) (hb : Below w.heap.size w w') : w'.ownsRow B E z v n xs := own_block h (fun k _ hk => hb.block k hk)
set_option maxRecDepth 20000 in
set_option maxHeartbeats 4000000 in
theorem rFlat_any (d : Nd) (k : M.F) (va ka : Value) (n : Nat) (w : World) (hks : k.size + 1 = n) (L : Lim d k) (hl : Lies w.heap.size w d k va ka) :
    Calls Try.prog 13 #[nodeV d va ka] w fun e w' => ∃ g c news, e = .returned (.slice (some ⟨g, 0, none⟩) n c) ∧ Below w.heap.size w w' ∧ Fact (w'.ownsRow (w.heap.size + 1) 41 15 (.slice (some ⟨g, 0, none⟩) n c) n (c15L news)) ∧
      Fact (news.map (·.im) = flatT d k ∧ news.map (fun r => (r.im.d, r.k)) = subsT d k ∧ AllR w.heap.size w' news ∧ AllO w' (some g) news) := by
  obtain ⟨p1, p2, p3, e1⟩ := hl.a.val
  obtain ⟨q1, q2, e2⟩ := hl.f.val
  subst e1 e2
  obtain ⟨W1, hW1⟩ : ∃ W1, w.alloc (.cells #[.int .i64 d.k, .string d.n, .string d.x, .slice p1 p2 p3, .slice q1 k.len q2] 25) = W1 := ⟨_, rfl⟩
  have hB1 : Below w.heap.size w W1 := by rw [← hW1]; exact (Below.refl _ w).alloc (Nat.le_refl _) _
  have hz1 : W1.heap.size = w.heap.size + 1 := by rw [← hW1]; simp
  have hbx : Box5 w.heap.size d.k d.n d.x (.slice p1 p2 p3) (.slice q1 k.len q2) W1 := by rw [← hW1]; exact Box5.new _ _ _ _ _ _ _
  have hc := rflat_any k d (.slice p1 p2 p3) (.slice q1 k.len q2) w.heap.size (w.heap.size + 1) W1 [] (.slice none 0 0) (-1) 0 0 (hl.below hB1) (by omega) (by omega) (World.ownsRow_nil _ _ _ _) (by have := L.sz; simp; omega) (by have := L.dp; omega) L.sl
  obtain ⟨kl, hkl⟩ : ∃ kl, k.len = kl := ⟨_, rfl⟩
  rw [hkl] at hbx hc hW1 ⊢
  obtain ⟨K, N, X, A⟩ := d
  have hc' : Calls Try.prog 31 #[.slice none 0 0, .agg #[.int .i64 K, .string N, .string X, .slice p1 p2 p3, .slice q1 kl q2], .int .i64 (-1), .int .i64 0, .int .i64 0] W1 fun e w' => ∃ g c news, e = .returned (.slice (some ⟨g, 0, none⟩) n c) ∧ Below w.heap.size w w' ∧ Fact (w'.ownsRow (w.heap.size + 1) 41 15 (.slice (some ⟨g, 0, none⟩) n c) n (c15L news)) ∧
      Fact (news.map (·.im) = flatT ⟨K, N, X, A⟩ k ∧ news.map (fun r => (r.im.d, r.k)) = subsT ⟨K, N, X, A⟩ k ∧ AllR w.heap.size w' news ∧ AllO w' (some g) news) := by
    refine hc.mono ?_
    rintro e w' ⟨v', news, rfl, hown, hgr, _, hf⟩
    have hn : ([] : List Rm).length + (k.size + 1) = n := by simp; exact hks
    rw [hn, List.nil_append] at hown
    obtain ⟨g, c, rfl⟩ := own_pos (by omega) hown
    exact ⟨g, c, news, rfl, hB1.grown hgr hB1.size (fun k e => by cases e), ⟨hown⟩, ⟨hf.out.1, hf.out.2.1, hf.out.2.2.1, hf.out.2.2.2⟩⟩
  have HC := Fact.mk hc'
  have HW1 := Fact.mk hW1
  have b0 := hbx.c0
  have b1 := hbx.c1
  have b2 := hbx.c2
  have b3 := hbx.c3
  have b4 := hbx.c4
  dsimp only at b0 b1 b2
  clear hc hc' hbx hB1 hW1 hl hks L
  go_enter Try.func13, Try.ntmps13
  go_upto_region 1 with fail
  rw [HW1.out]
  go_wp2_with (go_at_call 31; refine HC.out.mono ?_; rintro e w6 ⟨g6, c6, news, rfl, hb6, hr6, hf6⟩)
  go_ret
  first | exact ⟨g6, c6, news, rfl, hb6, hr6, hf6⟩ | exact ⟨g6, c6, rfl, news, hb6, hr6, hf6⟩ | exact ⟨g6, c6, rfl, hb6, news, hr6, hf6⟩

/-- cells of numbers -/
def IsI (w : World) (v : Value) (l : List Nat) : Prop := ∃ a c, v = .slice a l.length c ∧ l.length ≤ c ∧ ∀ i y, l[i]? = some y → ∃ g, a = some ⟨g, 0, none⟩ ∧ w.cell? ⟨g, i, none⟩ = some (.int .i64 (y : Nat))
theorem own_I {w : World} {B E n : Nat} {v : Value} {l : List Nat} (hn : l.length = n) (h : w.ownsRow B E 1 v n (cI l)) : IsI w v l := by
  obtain ⟨h1, h2⟩ := h
  rcases h2 with ⟨rfl, h0⟩ | ⟨g, cap, cur, rfl, hg, hh, hc1, hc2, hs, ht⟩
  · exact ⟨none, 0, by rw [hn, h0], by omega, fun i y hy => by have := (List.getElem?_eq_some_iff.1 hy).1; omega⟩
  · refine ⟨_, cap, by rw [hn], by omega, fun i y hy => ⟨g, rfl, ?_⟩⟩
    simp only [World.cell?, hh]
    have h3 : (cI l)[i]? = some (.int .i64 y) := by simp [cI, hy]
    rw [← ht, List.getElem?_take] at h3
    split at h3
    · simpa using h3
    · cases h3
theorem IsI.below {w w' : World} {v : Value} {l : List Nat} (h : IsI w v l) (hb : Below w.heap.size w w') : IsI w' v l := by
  obtain ⟨a, c, e, h1, h2⟩ := h
  refine ⟨a, c, e, h1, fun i y hy => ?_⟩
  obtain ⟨g, ea, hc⟩ := h2 i y hy
  exact ⟨g, ea, (hb.cell (p := ⟨g, i, none⟩) (World.block_lt_of_cell? w _ hc)).trans hc⟩
set_option maxRecDepth 20000 in
set_option maxHeartbeats 2000000 in
theorem sameInts_any (l : List Nat) (u v : Value) (w : World) (hu : IsI w u l) (hv : IsI w v l) (hl : l.length ≤ 1000000) :
    Calls Try.prog 14 #[u, v] w fun e w' => e = .returned (.bool true) ∧ Below w.heap.size w w' := by
  obtain ⟨a, c, rfl, h1, h2⟩ := hu
  obtain ⟨b, c', rfl, h3, h4⟩ := hv
  obtain ⟨n, hn⟩ : ∃ n, l.length = n := ⟨_, rfl⟩
  rw [hn] at h1 h3 hl ⊢
  have HN := Fact.mk hn
  have H2 := Fact.mk h2
  have H4 := Fact.mk h4
  clear hn h2 h4
  go_enter Try.func14, Try.ntmps14
  go_wp2_with fail
  go_loopg [5] n (fun gf iv wr => ∃ i : Nat, iv = .int .i64 i ∧ i ≤ n ∧ n - i ≤ gf ∧ Fact (Below w.heap.size w wr))
  case atStart => exact ⟨0, rfl, Nat.zero_le _, Nat.le_refl _, ⟨Below.refl _ _⟩⟩
  case round =>
    obtain ⟨i, rfl, hi, hfu, hBr⟩ := hrel
    by_cases hlt : i < n
    · have hdec : decide ((i : Int) < (n : Int)) = true := decide_eq_true (by omega)
      obtain ⟨g', rfl⟩ : ∃ g', gk = g' + 1 := ⟨gk - 1, by omega⟩
      obtain ⟨y, hy⟩ : ∃ y, l[i]? = some y := ⟨l[i]'(by rw [HN.out]; exact hlt), by simp⟩
      obtain ⟨g1, e1, c1⟩ := H2.out i y hy
      obtain ⟨g2, e2, c2⟩ := H4.out i y hy
      subst e1 e2
      have d1 := (hBr.out.cell (p := ⟨g1, i, none⟩) (World.block_lt_of_cell? w _ c1)).trans c1
      have d2 := (hBr.out.cell (p := ⟨g2, i, none⟩) (World.block_lt_of_cell? w _ c2)).trans c2
      have i0_ : (0 : Int) ≤ i := by omega
      have i1_ : (i : Int) < n := by omega
      clear hy c1 c2 H2 H4
      go_wp2_with fail
      go_quiet (fail)
      go_wp2_with fail
      go_roundg g'
      case measure => omega
      case rel => exact ⟨i + 1, by go_num, by omega, by omega, ⟨below_drewN hBr.out _⟩⟩
    · obtain rfl : i = n := by omega
      have hdec : decide ((i : Int) < (i : Int)) = false := decide_eq_false (by omega)
      go_wp2_with fail
      go_ret
      exact ⟨rfl, hBr.out⟩
end Go.Proofs.Ytjjkidenlgghkaa
end

/- The document's own Post. -/
section
set_option linter.unusedVariables false
set_option linter.unusedSimpArgs false
namespace Go.Proofs.Ytjjkidenlgghkaa
open Go.Deep (BT)
open Go.RowKit Go.Shelf M

/-- how many each node has in it, with itself -/
def szF : M.F → List Int
  | .nil => []
  | .node _ _ d k r => ((k.size : Int) + 1) :: (szF k ++ szF r)
theorem szF_len : ∀ f : M.F, (szF f).length = f.size
  | .nil => rfl
  | .node _ _ d k r => by simp [szF, BT.size, szF_len k, szF_len r]; omega
theorem szF_flat : ∀ (f : M.F) (p : Int) (dp pl id : Nat), (flatF p dp pl id f).map (·.z) = szF f
  | .nil, _, _, _, _ => rfl
  | .node _ _ d k r, p, dp, pl, id => by rw [flatF, szF, List.map_cons, List.map_append, szF_flat k, szF_flat r]
/-- the sizes of a list of trees stand from a place on -/
def Seg (zs : List Int) (at_ : Nat) (f : M.F) : Prop := ∀ i y, (szF f)[i]? = some y → zs[at_ + i]? = some y
theorem Seg.head {zs : List Int} {at_ xb xo : Nat} {d : Nd} {k r : M.F} (h : Seg zs at_ (.node xb xo d k r)) : zs[at_]? = some ((k.size : Int) + 1) ∧ Seg zs (at_ + 1) k ∧ Seg zs (at_ + 1 + k.size) r := by
  refine ⟨h 0 _ rfl, fun i y hy => ?_, fun i y hy => ?_⟩
  · have := h (i + 1) y (by rw [szF, List.getElem?_cons_succ, List.getElem?_append_left (List.getElem?_eq_some_iff.1 hy).1]; exact hy)
    rw [show at_ + 1 + i = at_ + (i + 1) by omega]; exact this
  · have := h (k.size + i + 1) y (by rw [szF, List.getElem?_cons_succ, List.getElem?_append_right (by rw [szF_len]; omega), szF_len, Nat.add_sub_cancel_left]; exact hy)
    rw [show at_ + 1 + k.size + i = at_ + (k.size + i + 1) by omega]; exact this

def RPostP (k : M.F) : Prop := ∀ (l : List Rm) (g c n B : Nat) (w : World) (id : Nat), w.ownsRow B 41 15 (.slice (some ⟨g, 0, none⟩) n c) n (c15L l) → n ≤ 1000000 →
  (l.map (·.im.z))[id]? = some ((k.size : Int) + 1) → Seg (l.map (·.im.z)) (id + 1) k → id + 1 + k.size ≤ n →
  Calls Try.prog 32 #[.slice (some ⟨g, 0, none⟩) n c, .int .i64 id] w fun e w' => ∃ v, e = .returned v ∧ Below w.heap.size w w' ∧ Fact (w'.ownsRow w.heap.size 3 1 v (k.size + 1) (cI (postF k (id + 1) ++ [id])))
theorem postF_len : ∀ (f : M.F) (id : Nat), (postF f id).length = f.size
  | .nil, _ => rfl
  | .node _ _ d k r, id => by simp [postF, BT.size, postF_len k, postF_len r]; omega
theorem cI_append (a b : List Nat) : cI (a ++ b) = cI a ++ cI b := by simp [cI]
theorem cI_one (l : List Nat) : ∀ u ∈ cI l, u.oneCell' = true := by
  intro u hu
  simp only [cI, List.mem_map] at hu
  obtain ⟨i, _, rfl⟩ := hu
  rfl

set_option maxRecDepth 20000 in
set_option maxHeartbeats 4000000 in
theorem rpost_step (k : M.F) (hH : Hered RPostP k) : RPostP k := by
  intro l g c n B w id hrow hn hz hseg hle
  obtain ⟨y, hy⟩ : ∃ y, l[id]? = some y := by
    rw [List.getElem?_map] at hz
    cases h : l[id]? with
    | none => rw [h] at hz; cases hz
    | some y => exact ⟨y, rfl⟩
  have hyz : y.im.z = (k.size : Int) + 1 := by rw [List.getElem?_map, hy] at hz; simpa using hz
  obtain ⟨Z, hZ⟩ : ∃ Z, k.size + 1 = Z := ⟨_, rfl⟩
  have hyZ : y.im.z = (Z : Int) := by omega
  obtain ⟨hc, _, _, hgl, hnc, _, hidn⟩ := row15_at hrow hy
  have z1 : w.cell? ⟨g, id * 15 + 1, none⟩ = some (.int .i64 Z) := by have := hc 1 _ rfl; rw [hyZ] at this; exact this
  have HROW := Fact.mk hrow
  have HZ := Fact.mk hZ
  have HZ1 := Fact.mk z1
  have HH := Fact.mk hH
  have HSEG := Fact.mk hseg
  obtain ⟨i0, hii, hzz0, hzz1, hzz2⟩ := info_parts infoInt
  have d0_ : (0 : Int) ≤ id := by omega
  have d1_ : (id : Int) < n := by omega
  have w1_ : IntKind.i64.wrap ((id : Int) + 1) = (id : Int) + 1 := wrap_id (by omega) (by omega)
  obtain ⟨E, hE⟩ : ∃ E, id + Z = E := ⟨_, rfl⟩
  have w2_ : IntKind.i64.wrap ((id : Int) + (Z : Int)) = (E : Int) := by rw [wrap_id (by omega) (by omega)]; omega
  have HE := Fact.mk hE
  have HHZ := Fact.mk hz
  clear hrow hz hseg hy hyz hyZ hc z1 hH hZ hE
  go_enter Try.func32, Try.ntmps32
  go_wp2_with fail
  go_loopg [5, 6] (k.size + 1) (fun gf mv av wr => ∃ (at_ : Nat) (rest : M.F) (Q : List Nat) (ad : Option Addr) (q mc : Nat), (mv = .slice ad q mc ∧ av = .int .i64 at_) ∧ at_ + rest.size = E ∧ rest.size + 1 ≤ gf ∧
    Fact (Below w.heap.size w wr ∧ wr.ownsRow w.heap.size 3 1 (.slice ad q mc) q (cI Q) ∧ Q.length = q) ∧ Fact (postF k (id + 1) = Q ++ postF rest at_ ∧ Seg (l.map (·.im.z)) at_ rest ∧ Hered RPostP rest ∧ q + rest.size = k.size))
  case atStart =>
    refine ⟨id + 1, k, [], none, 0, 0, ⟨rfl, by go_num⟩, by have := HE.out; have := HZ.out; omega, by omega, ⟨Below.refl _ _, World.ownsRow_nil _ _ _ _, rfl⟩, ⟨rfl, HSEG.out, HH.out, by omega⟩⟩
  case round =>
    obtain ⟨at_, rest, Q, ad, q, mc, ⟨rfl, rfl⟩, hat, hfu, hW, hfx⟩ := hrel
    have z1 := (hW.out.1.cell (p := ⟨g, id * 15 + 1, none⟩) hgl).trans HZ1.out
    have hq6 : q ≤ 1000000 := by have := hfx.out.2.2.2; have := HZ.out; omega
    cases rest with
    | nil =>
      have hatE : at_ = E := by have : at_ + 0 = E := hat; omega
      obtain ⟨p1, _, _, p4⟩ := hfx.out
      have HQ : Fact (cI (postF k (id + 1) ++ [id]) = cI Q ++ [.int .i64 id] ∧ q + 1 = k.size + 1) := ⟨by rw [p1]; simp [postF, cI], by simp only [BT.size] at p4; omega⟩
      have hlt : ¬ (at_ : Int) < E := by omega
      have hHO := hW.out.2.1
      have hHB := hW.out.1
      have HHO := Fact.mk hHO
      have HHB := Fact.mk hHB
      clear hfx p1 p4 hat hHO hHB hW
      go_wp2_with (at_builtin; refine wpList_append_own _ rfl (.tmp 30) (.tmp 32) 34 rfl w.heap.size 3 i0 (.int .i64 0) 1 8 Try.underlying34 hii hzz0 hzz1 hzz2 rfl (by decide) (.slice ad q mc) q (cI Q) rfl (HHO.out.alloc _) ⟨wr.heap.size, 0, none⟩ 1 1 [.int .i64 id] rfl rfl (cells15_new wr [.int .i64 id] _) (by simp [Value.oneCell']) (by unfold maxLen; omega) (by omega) (by have := HHB.out.size; simp; omega) ?_; intro v' w6 hown' hgrow _)
      go_ret
      refine ⟨v', rfl, (HHB.out.alloc HHB.out.size _).grown hgrow (by have := HHB.out.size; simp; omega) (fun k e => (HHO.out.lt k e).1), ⟨?_⟩⟩
      rw [HQ.out.1, ← HQ.out.2]
      exact hown'
    | node xb xo d' k' r' =>
      have hat' : at_ + (1 + k'.size + r'.size) = E := hat
      have hfu' : (1 + k'.size + r'.size) + 1 ≤ gk := hfu
      obtain ⟨g', rfl⟩ : ∃ g', gk = g' + 1 := ⟨gk - 1, by omega⟩
      obtain ⟨p1, p2, ⟨hP, hHr⟩, p4⟩ := hfx.out
      obtain ⟨s1, s2, s3⟩ := p2.head
      simp only [BT.size] at p4
      have hZo := HZ.out
      have hEo := HE.out
      have hrow5 : wr.ownsRow B 41 15 (.slice (some ⟨g, 0, none⟩) n c) n (c15L l) := own_block HROW.out (fun k e hk => by
        have e2 : k = g := by simpa [Value.ownBlock] using e
        subst e2
        exact hW.out.1.block _ hk)
      have hcall := hP l g c n B wr at_ hrow5 hn s1 s2 (by omega)
      obtain ⟨y, hy⟩ : ∃ y, l[at_]? = some y := by
        rw [List.getElem?_map] at s1
        cases h : l[at_]? with
        | none => rw [h] at s1; cases s1
        | some y => exact ⟨y, rfl⟩
      obtain ⟨Y, hY⟩ : ∃ Y, k'.size + 1 = Y := ⟨_, rfl⟩
      have hyz0 : y.im.z = (k'.size : Int) + 1 := by
        rw [List.getElem?_map, hy] at s1
        simpa using s1
      have hyz : y.im.z = (Y : Int) := by omega
      obtain ⟨hc, _, _, _, _, _, hatn⟩ := row15_at hrow5 hy
      have za : wr.cell? ⟨g, at_ * 15 + 1, none⟩ = some (.int .i64 Y) := by have := hc 1 _ rfl; rw [hyz] at this; exact this
      rw [hY] at hcall
      obtain ⟨F, hF⟩ : ∃ F, at_ + Y = F := ⟨_, rfl⟩
      have w3_ : IntKind.i64.wrap ((at_ : Int) + (Y : Int)) = (F : Int) := by rw [wrap_id (by omega) (by omega)]; omega
      have hlt : (at_ : Int) < E := by omega
      have a0_ : (0 : Int) ≤ at_ := by omega
      have a1_ : (at_ : Int) < n := by omega
      have HCALL := Fact.mk hcall
      have HZA := Fact.mk za
      have hY1 : 1 ≤ Y := by omega
      have hYb : Y ≤ 1000000 := by omega
      have HR : Fact (postF k (id + 1) = (Q ++ (postF k' (at_ + 1) ++ [at_])) ++ postF r' F ∧ Seg (l.map (·.im.z)) F r' ∧ Hered RPostP r' ∧ (q + Y) + r'.size = k.size) := ⟨by rw [p1, postF, ← hF, ← hY, show at_ + (k'.size + 1) = at_ + 1 + k'.size by omega]; simp, by rw [← hF, ← hY, show at_ + (k'.size + 1) = at_ + 1 + k'.size by omega]; exact s3, hHr, by omega⟩
      have HPL : Fact ((postF k' (at_ + 1) ++ [at_]).length = Y) := ⟨by rw [List.length_append, postF_len]; simp; omega⟩
      have hFE : F + r'.size = E := by omega
      have HHO := Fact.mk hW.out.2.1
      have HHB := Fact.mk hW.out.1
      have HQL := Fact.mk hW.out.2.2
      clear hfx p1 p2 p4 s1 s2 s3 hP hHr hat hcall za hc hy hyz hyz0 hY hF hZo hEo hrow5 hW
      go_upto_region 4 with (first
        | (at_builtin; refine wpList_append_own _ rfl (.tmp 25) (.tmp 28) 34 rfl w.heap.size 3 i0 (.int .i64 0) 1 8 Try.underlying34 hii hzz0 hzz1 hzz2 rfl (by decide) (.slice ad q mc) q (cI Q) rfl HO5.out ⟨g5, 0, none⟩ Y c5 (cI (postF k' (at_ + 1) ++ [at_])) rfl (by rw [cI_len, HPL.out]; omega) (hr5.out.cells rfl) (cI_one _) (by unfold maxLen; omega) (by omega) hz5 ?_; intro v' w6 hown' hgrow _)
        | (go_at_call 32; refine HCALL.out.mono ?_; rintro e w5 ⟨v5, rfl, hb5, hr5⟩; obtain ⟨g5, c5, rfl⟩ := own_pos hY1 hr5.out; have hz5 := Nat.le_trans HHB.out.size hb5.size; have HO5 : Fact (w5.ownsRow w.heap.size 3 1 (.slice ad q mc) q (cI Q)) := ⟨own_upH HHO.out hb5⟩))
      obtain ⟨ad2, mc2, rfl⟩ := own_shape hown'
      have hB5 : Below w.heap.size w w5 := HHB.out.trans (hb5.mono HHB.out.size)
      have hB6 : Below w.heap.size w w6 := hB5.grown hgrow hz5 (fun k e => (HO5.out.lt k e).1)
      have HZA6 : Fact (w6.cell? ⟨g, at_ * 15 + 1, none⟩ = some (.int .i64 Y)) := ⟨(hB6.cell (p := ⟨g, at_ * 15 + 1, none⟩) hgl).trans ((HHB.out.cell (p := ⟨g, at_ * 15 + 1, none⟩) hgl).symm.trans HZA.out)⟩
      rw [← cI_append] at hown'
      have HOWN := Fact.mk hown'
      have HQQ : Fact ((Q ++ (postF k' (at_ + 1) ++ [at_])).length = q + Y) := ⟨by rw [List.length_append, HPL.out, HQL.out]⟩
      clear hown' hB5 HCALL HZA
      have za := HZA6.out
      go_wp2_with fail
      go_roundg g'
      case measure => omega
      case rel => exact ⟨F, r', Q ++ (postF k' (at_ + 1) ++ [at_]), ad2, q + Y, mc2, ⟨rfl, by go_num⟩, hFE, by omega, ⟨hB6, HOWN.out, HQQ.out⟩, HR⟩
theorem rpost_any (k : M.F) : RPostP k := indH rpost_step k
end Go.Proofs.Ytjjkidenlgghkaa
end

/- The document's own Post and Path. -/
section
set_option linter.unusedVariables false
set_option linter.unusedSimpArgs false
namespace Go.Proofs.Ytjjkidenlgghkaa.M
open Go.Deep
/-- from a node up to the first one, parent by parent -/
def Climb (l : List Im) : List St → Prop
  | [] => False
  | [s] => s.id = 0
  | s :: t :: rest => 0 < s.id ∧ (∃ y, l[s.id]? = some y ∧ y.p = (t.id : Int) ∧ y.pl = s.place) ∧ Climb l (t :: rest)
/-- a list stands in another one from a place on -/
def In (l : List Im) (id : Nat) (m : List Im) : Prop := ∀ i y, m[i]? = some y → l[id + i]? = some y
theorem In.head {l : List Im} {id : Nat} {x : Im} {a b : List Im} {n : Nat} (hn : a.length = n) (h : In l id (x :: (a ++ b))) : l[id]? = some x ∧ In l (id + 1) a ∧ In l (id + 1 + n) b := by
  refine ⟨h 0 _ rfl, fun i y hy => ?_, fun i y hy => ?_⟩
  · have := h (i + 1) y (by rw [List.getElem?_cons_succ, List.getElem?_append_left (List.getElem?_eq_some_iff.1 hy).1]; exact hy)
    rw [show id + 1 + i = id + (i + 1) by omega]; exact this
  · have := h (n + i + 1) y (by rw [List.getElem?_cons_succ, List.getElem?_append_right (by omega), hn, Nat.add_sub_cancel_left]; exact hy)
    rw [show id + 1 + n + i = id + (n + i + 1) by omega]; exact this
theorem climb_ev : ∀ (f : F) (l : List Im) (up : List St) (t : St) (id pl : Nat) (dp : Nat), 0 < id → In l id (flatF t.id dp pl id f) → Climb l (t :: up.reverse) → ∀ x ∈ evF (up ++ [t]) f id pl, Climb l x.way.reverse
  | .nil, _, _, _, _, _, _, _, _, _, x, h => by simp [evF] at h
  | .node xb xo d k r, l, up, t, id, pl, dp, h0, hin, hc, x, h => by
    rw [evF] at h
    rw [flatF] at hin
    obtain ⟨a1, a2, a3⟩ := hin.head (flatF_len k _ _ _ _)
    have top : Climb l (((up ++ [t]) ++ [(⟨d, k, id, pl⟩ : St)]).reverse) := by
      rw [List.reverse_append, List.reverse_append]
      exact ⟨h0, ⟨_, a1, rfl, rfl⟩, hc⟩
    have top2 : Climb l ((⟨d, k, id, pl⟩ : St) :: (up ++ [t]).reverse) := by
      rw [List.reverse_append]
      exact ⟨h0, ⟨_, a1, rfl, rfl⟩, hc⟩
    rcases List.mem_cons.1 h with rfl | h
    · exact top
    rcases List.mem_append.1 h with h | h
    · exact climb_ev k l (up ++ [t]) ⟨d, k, id, pl⟩ (id + 1) 0 (dp + 1) (by omega) a2 top2 x h
    rcases List.mem_cons.1 h with rfl | h
    · exact top
    · exact climb_ev r l up t (id + 1 + k.size) (pl + 1) dp (by omega) a3 hc x h
theorem climbT {d : Nd} {k : F} {x : Tl} (h : x ∈ evT d k) : Climb (flatT d k) x.way.reverse := by
  have h' : x ∈ (⟨[] ++ [(⟨d, k, 0, 0⟩ : St)], false⟩ : Tl) :: (evF ([] ++ [(⟨d, k, 0, 0⟩ : St)]) k (0 + 1) 0 ++ ⟨[] ++ [(⟨d, k, 0, 0⟩ : St)], true⟩ :: evF [] .nil (0 + 1 + k.size) (0 + 1)) := h
  rcases List.mem_cons.1 h' with rfl | h'
  · exact rfl
  rcases List.mem_append.1 h' with h' | h'
  · refine climb_ev k (flatT d k) [] ⟨d, k, 0, 0⟩ 1 0 1 (by omega) (fun i y hy => ?_) rfl x h'
    rw [flatT, show 1 + i = i + 1 by omega, List.getElem?_cons_succ]
    exact hy
  · rcases List.mem_cons.1 h' with rfl | h'
    · exact rfl
    · simp [evF] at h'
theorem evT_lt {d : Nd} {k : F} {x : Tl} (h : x ∈ evT d k) : lastId x < k.size + 1 := by
  obtain ⟨s, h1, _, h3, _⟩ := ev_sub _ _ _ _ x h
  unfold lastId
  rw [h1]
  simp only [BT.size] at h3
  show s.id < k.size + 1
  omega
end Go.Proofs.Ytjjkidenlgghkaa.M
namespace Go.Proofs.Ytjjkidenlgghkaa
open Go.Deep (BT)
open Go.RowKit Go.Shelf M

theorem Lies.inBox {w W1 : World} {d : Nd} {k : M.F} {va ka : Value} (hl : Lies w.heap.size w d k va ka) (hB : Below w.heap.size w W1) : Lies W1.heap.size W1 d k va ka := (hl.below hB).here hB.size

set_option maxRecDepth 20000 in
set_option maxHeartbeats 4000000 in
theorem rPost_any (d : Nd) (k : M.F) (va ka : Value) (n : Nat) (w : World) (hks : k.size + 1 = n) (L : Lim d k) (hl : Lies w.heap.size w d k va ka) :
    Calls Try.prog 16 #[nodeV d va ka] w fun e w' => ∃ v, e = .returned v ∧ Below w.heap.size w w' ∧ Fact (w'.ownsRow w.heap.size 3 1 v n (cI (postF k 1 ++ [0]))) := by
  obtain ⟨p1, p2, p3, e1⟩ := hl.a.val
  obtain ⟨q1, q2, e2⟩ := hl.f.val
  subst e1 e2
  obtain ⟨W1, hW1⟩ : ∃ W1, w.alloc (.cells #[.int .i64 d.k, .string d.n, .string d.x, .slice p1 p2 p3, .slice q1 k.len q2] 25) = W1 := ⟨_, rfl⟩
  have hB1 : Below w.heap.size w W1 := by rw [← hW1]; exact (Below.refl _ w).alloc (Nat.le_refl _) _
  have hbx : Box5 w.heap.size d.k d.n d.x (.slice p1 p2 p3) (.slice q1 k.len q2) W1 := by rw [← hW1]; exact Box5.new _ _ _ _ _ _ _
  have hc := rFlat_any d k (.slice p1 p2 p3) (.slice q1 k.len q2) n W1 hks L (hl.inBox hB1)
  obtain ⟨kl, hkl⟩ : ∃ kl, k.len = kl := ⟨_, rfl⟩
  rw [hkl] at hbx hc hW1 ⊢
  obtain ⟨K, N, X, A⟩ := d
  have hsz := L.sz
  have hc' : Calls Try.prog 13 #[.agg #[.int .i64 K, .string N, .string X, .slice p1 p2 p3, .slice q1 kl q2]] W1 fun e w' => ∃ g c, e = .returned (.slice (some ⟨g, 0, none⟩) n c) ∧
      Fact (Calls Try.prog 32 #[.slice (some ⟨g, 0, none⟩) n c, .int .i64 0] w' fun e w2 => ∃ v, e = .returned v ∧ Below w.heap.size w w2 ∧ Fact (w2.ownsRow w.heap.size 3 1 v n (cI (postF k 1 ++ [0])))) := by
    refine hc.mono ?_
    rintro e w' ⟨g, c, news, rfl, hb, hr, hf⟩
    refine ⟨g, c, rfl, ⟨?_⟩⟩
    have hmz : news.map (·.im.z) = ((k.size : Int) + 1) :: szF k := by
      have h1 := congrArg (List.map (·.z)) hf.out.1
      rw [List.map_map] at h1
      rw [flatT, List.map_cons, szF_flat] at h1
      exact h1
    have hcc := rpost_any k news g c n (W1.heap.size + 1) w' 0 hr.out (by omega) (by rw [hmz]; rfl) (fun i y hy => by rw [hmz, show 0 + 1 + i = i + 1 by omega, List.getElem?_cons_succ]; exact hy) (by omega)
    refine hcc.mono ?_
    rintro e w2 ⟨v, rfl, hb2, hr2⟩
    have hz := Nat.le_trans hB1.size hb.size
    refine ⟨v, rfl, (hB1.trans (hb.mono hB1.size)).trans (hb2.mono hz), ⟨?_⟩⟩
    have := own_lessP hr2.out hz
    rw [hks] at this
    exact this
  have HC := Fact.mk hc'
  have HW1 := Fact.mk hW1
  have b0 := hbx.c0
  have b1 := hbx.c1
  have b2 := hbx.c2
  have b3 := hbx.c3
  have b4 := hbx.c4
  dsimp only at b0 b1 b2
  clear hc hc' hbx hB1 hW1 hl hks L
  go_enter Try.func16, Try.ntmps16
  go_upto_region 1 with fail
  rw [HW1.out]
  go_wp2_with (first
    | (go_at_call 13; refine HC.out.mono ?_; rintro e w5 ⟨g5, c5, rfl, hC5⟩)
    | (go_at_call 32; refine hC5.out.mono ?_; rintro e w6 ⟨v6, rfl, hb6, hr6⟩))
  go_ret
  exact ⟨v6, rfl, hb6, hr6⟩
end Go.Proofs.Ytjjkidenlgghkaa
end

/- The document's own Path. -/
section
set_option linter.unusedVariables false
set_option linter.unusedSimpArgs false
namespace Go.Proofs.Ytjjkidenlgghkaa
open Go.Deep (BT)
open Go.RowKit Go.Shelf M

theorem climb_one {l : List Im} {s : St} (h : Climb l [s]) : s.id = 0 := h
theorem way_len : ∀ (f : M.F) (up : List St) (id pl : Nat) (x : Tl), x ∈ evF up f id pl → x.way.length ≤ up.length + f.depth
  | .nil, up, id, pl, x, h => by simp [evF] at h
  | .node xb xo d k r, up, id, pl, x, h => by
    rw [evF] at h
    simp only [BT.depth]
    have top : (up ++ [(⟨d, k, id, pl⟩ : St)]).length ≤ up.length + max (k.depth + 1) r.depth := by rw [List.length_append]; simp only [List.length_cons, List.length_nil]; omega
    rcases List.mem_cons.1 h with rfl | h
    · exact top
    rcases List.mem_append.1 h with h | h
    · have := way_len k _ _ _ x h
      rw [List.length_append] at this
      simp only [List.length_cons, List.length_nil] at this
      omega
    rcases List.mem_cons.1 h with rfl | h
    · exact top
    · have := way_len r _ _ _ x h
      omega
theorem climb_more {l : List Im} {s t : St} {r : List St} (h : Climb l (s :: t :: r)) : 0 < s.id ∧ (∃ y, l[s.id]? = some y ∧ y.p = (t.id : Int) ∧ y.pl = s.place) ∧ Climb l (t :: r) := h

set_option maxRecDepth 20000 in
set_option maxHeartbeats 4000000 in
theorem rPath_no (d : Nd) (k : M.F) (va ka : Value) (n : Nat) (w : World) (id : Int) (hks : k.size + 1 = n) (L : Lim d k) (hl : Lies w.heap.size w d k va ka) (hid : id < 0 ∨ (n : Int) ≤ id) :
    Calls Try.prog 18 #[nodeV d va ka, .int .i64 id] w fun e w' => e = .returned (.slice none 0 0) ∧ Below w.heap.size w w' := by
  obtain ⟨p1, p2, p3, e1⟩ := hl.a.val
  obtain ⟨q1, q2, e2⟩ := hl.f.val
  subst e1 e2
  obtain ⟨W1, hW1⟩ : ∃ W1, w.alloc (.cells #[.int .i64 d.k, .string d.n, .string d.x, .slice p1 p2 p3, .slice q1 k.len q2] 25) = W1 := ⟨_, rfl⟩
  have hB1 : Below w.heap.size w W1 := by rw [← hW1]; exact (Below.refl _ w).alloc (Nat.le_refl _) _
  have hbx : Box5 w.heap.size d.k d.n d.x (.slice p1 p2 p3) (.slice q1 k.len q2) W1 := by rw [← hW1]; exact Box5.new _ _ _ _ _ _ _
  have hc := rFlat_any d k (.slice p1 p2 p3) (.slice q1 k.len q2) n W1 hks L (hl.inBox hB1)
  obtain ⟨kl, hkl⟩ : ∃ kl, k.len = kl := ⟨_, rfl⟩
  rw [hkl] at hbx hc hW1 ⊢
  obtain ⟨K, N, X, A⟩ := d
  have hsz := L.sz
  have hc' : Calls Try.prog 13 #[.agg #[.int .i64 K, .string N, .string X, .slice p1 p2 p3, .slice q1 kl q2]] W1 fun e w' => ∃ g c, e = .returned (.slice (some ⟨g, 0, none⟩) n c) ∧ Below w.heap.size w w' := by
    refine hc.mono ?_
    rintro e w' ⟨g, c, news, rfl, hb, hr, hf⟩
    exact ⟨g, c, rfl, hB1.trans (hb.mono hB1.size)⟩
  have HC := Fact.mk hc'
  have HW1 := Fact.mk hW1
  have b0 := hbx.c0
  have b1 := hbx.c1
  have b2 := hbx.c2
  have b3 := hbx.c3
  have b4 := hbx.c4
  dsimp only at b0 b1 b2
  clear hc hc' hbx hB1 hW1 hl hks L
  by_cases hneg : id < 0
  · clear hid
    go_enter Try.func18, Try.ntmps18
    go_upto_region 1 with fail
    rw [HW1.out]
    go_wp2_with (go_at_call 13; refine HC.out.mono ?_; rintro e w5 ⟨g5, c5, rfl, hC5⟩)
    go_ret
    exact ⟨rfl, hC5⟩
  · have hge : (n : Int) ≤ id := by omega
    clear hid
    go_enter Try.func18, Try.ntmps18
    go_upto_region 1 with fail
    rw [HW1.out]
    go_wp2_with (go_at_call 13; refine HC.out.mono ?_; rintro e w5 ⟨g5, c5, rfl, hC5⟩)
    go_ret
    exact ⟨rfl, hC5⟩

set_option maxRecDepth 20000 in
set_option maxHeartbeats 8000000 in
theorem rPath_yes (d : Nd) (k : M.F) (va ka : Value) (n : Nat) (w : World) (x : Tl) (ps : List Nat) (P I : Nat) (hks : k.size + 1 = n) (L : Lim d k) (hl : Lies w.heap.size w d k va ka) (hx : x ∈ evT d k) (hps : (x.way.map (·.place)).drop 1 = ps) (hP : ps.length = P) (hI : lastId x = I) :
    Calls Try.prog 18 #[nodeV d va ka, .int .i64 I] w fun e w' => ∃ v, e = .returned v ∧ Below w.heap.size w w' ∧ Fact (w'.ownsRow w.heap.size 3 1 v P (cI ps)) := by
  obtain ⟨p1, p2, p3, e1⟩ := hl.a.val
  obtain ⟨q1, q2, e2⟩ := hl.f.val
  subst e1 e2
  have hidn := evT_lt hx
  have hcl := climbT hx
  obtain ⟨s0, up0, hup⟩ : ∃ s up, x.way.reverse = s :: up := by
    cases h : x.way.reverse with
    | nil => rw [h] at hcl; exact hcl.elim
    | cons s up => exact ⟨s, up, rfl⟩
  have hlast : lastId x = s0.id := by
    unfold lastId
    rw [List.getLast?_eq_head?_reverse, hup]; rfl
  have hway : x.way = up0.reverse ++ s0 :: [] := by
    have := congrArg List.reverse hup
    rw [List.reverse_reverse, List.reverse_cons] at this
    exact this
  rw [hup] at hcl
  rw [hI] at hlast
  subst hlast
  rw [hI, hks] at hidn
  have hwl : x.way.length ≤ 1000000 := by
    have := way_len _ _ _ _ x hx
    simp only [BT.depth, List.length_nil] at this
    have := L.dp
    omega
  obtain ⟨W1, hW1⟩ : ∃ W1, w.alloc (.cells #[.int .i64 d.k, .string d.n, .string d.x, .slice p1 p2 p3, .slice q1 k.len q2] 25) = W1 := ⟨_, rfl⟩
  have hB1 : Below w.heap.size w W1 := by rw [← hW1]; exact (Below.refl _ w).alloc (Nat.le_refl _) _
  have hbx : Box5 w.heap.size d.k d.n d.x (.slice p1 p2 p3) (.slice q1 k.len q2) W1 := by rw [← hW1]; exact Box5.new _ _ _ _ _ _ _
  have hc := rFlat_any d k (.slice p1 p2 p3) (.slice q1 k.len q2) n W1 hks L (hl.inBox hB1)
  obtain ⟨kl, hkl⟩ : ∃ kl, k.len = kl := ⟨_, rfl⟩
  rw [hkl] at hbx hc hW1 ⊢
  obtain ⟨fl, hfl⟩ : ∃ fl, flatT d k = fl := ⟨_, rfl⟩
  rw [hfl] at hc hcl
  obtain ⟨K, N, X, A⟩ := d
  have hsz := L.sz
  have hn6 : n ≤ 1000000 := by omega
  have hc' : Calls Try.prog 13 #[.agg #[.int .i64 K, .string N, .string X, .slice p1 p2 p3, .slice q1 kl q2]] W1 fun e w' => ∃ g c news, e = .returned (.slice (some ⟨g, 0, none⟩) n c) ∧ Fact (Below w.heap.size w w') ∧ Fact (w'.ownsRow (w.heap.size + 1) 41 15 (.slice (some ⟨g, 0, none⟩) n c) n (c15L news)) ∧ Fact (news.map (·.im) = fl) := by
    refine hc.mono ?_
    rintro e w' ⟨g, c, news, rfl, hb, hr, hf⟩
    exact ⟨g, c, news, rfl, ⟨hB1.trans (hb.mono hB1.size)⟩, ⟨own_lessP hr.out (by have := hB1.size; have := (by rw [← hW1]; simp : W1.heap.size = w.heap.size + 1); omega)⟩, ⟨hf.out.1⟩⟩
  have HC := Fact.mk hc'
  have HW1 := Fact.mk hW1
  have HCL := Fact.mk hcl
  have HWAY := Fact.mk hway
  have b0 := hbx.c0
  have b1 := hbx.c1
  have b2 := hbx.c2
  have b3 := hbx.c3
  have b4 := hbx.c4
  dsimp only at b0 b1 b2
  have i0_ : (0 : Int) ≤ s0.id := by omega
  have i1_ : (s0.id : Int) < n := by omega
  have i2_ : decide ((s0.id : Int) < 0) = false := decide_eq_false (by omega)
  have i3_ : decide (n ≤ s0.id) = false := decide_eq_false (by omega)
  have i4_ : decide ((n : Int) ≤ s0.id) = false := decide_eq_false (by omega)
  have i5_ : ¬ n ≤ s0.id := by omega
  obtain ⟨i0, hii, hzz0, hzz1, hzz2⟩ := info_parts infoInt
  have HUL : Fact (up0.length < up0.length + 1) := ⟨by omega⟩
  obtain ⟨U, hU⟩ : ∃ U, up0.length = U := ⟨_, rfl⟩
  have HU := Fact.mk hU
  have HPS := Fact.mk hps
  have HP := Fact.mk hP
  clear hc hc' hbx hB1 hW1 hl hks L hx hcl hway hup hfl hU HUL hsz hps hP hI
  go_enter Try.func18, Try.ntmps18
  go_upto_region 1 with fail
  rw [HW1.out]
  go_wp2_with (go_at_call 13; refine HC.out.mono ?_; rintro e w1 ⟨g, c, news, rfl, hB, hr, hf⟩)
  go_loopg [6, 7] U (fun gf mv kv wr => ∃ (s : St) (up done : List St) (ad : Option Addr) (q mc : Nat), (mv = .slice ad q mc ∧ kv = .int .i64 s.id) ∧ up.length ≤ gf ∧ s.id < n ∧
    Fact (Below w1.heap.size w1 wr ∧ wr.ownsRow w1.heap.size 3 1 (.slice ad q mc) q (cI (done.map (·.place))) ∧ done.length = q) ∧ Fact (Climb fl (s :: up) ∧ x.way = up.reverse ++ s :: done))
  case atStart => exact ⟨s0, up0, [], none, 0, 0, ⟨rfl, rfl⟩, by have := HU.out; omega, hidn, ⟨Below.refl _ _, World.ownsRow_nil _ _ _ _, rfl⟩, ⟨HCL.out, HWAY.out⟩⟩
  case round =>
    obtain ⟨s, up, done, ad, q, mc, ⟨rfl, rfl⟩, hfu, hsn, hW, hfx⟩ := hrel
    cases up with
    | nil =>
      have h0 := climb_one hfx.out.1
      have hq : Fact (Below w.heap.size w wr ∧ ps = done.map (·.place) ∧ wr.ownsRow w.heap.size 3 1 (.slice ad q mc) q (cI (done.map (·.place))) ∧ (done.map (·.place)).length = q) := ⟨hB.out.trans (hW.out.1.mono hB.out.size), by rw [← HPS.out, hfx.out.2]; rfl, own_lessP hW.out.2.1 hB.out.size, by rw [List.length_map]; exact hW.out.2.2⟩
      have hlt : ¬ (0 : Int) < s.id := by omega
      have hdec : decide ((0 : Int) < s.id) = false := decide_eq_false hlt
      clear hW hfx h0
      go_wp2_with fail
      go_ret
      refine ⟨_, rfl, hq.out.1, ⟨?_⟩⟩
      rw [← HP.out, hq.out.2.1, hq.out.2.2.2]
      exact hq.out.2.2.1
    | cons t up =>
      obtain ⟨c1, ⟨y, c2, c3, c4⟩, c5⟩ := climb_more hfx.out.1
      have hfu' : up.length + 1 ≤ gk := hfu
      obtain ⟨g', rfl⟩ : ∃ g', gk = g' + 1 := ⟨gk - 1, by omega⟩
      obtain ⟨r, hr1, hr2⟩ : ∃ r, news[s.id]? = some r ∧ r.im = y := by
        rw [← hf.out, List.getElem?_map] at c2
        cases h : news[s.id]? with
        | none => rw [h] at c2; cases c2
        | some r => rw [h] at c2; exact ⟨r, rfl, by simpa using c2⟩
      obtain ⟨hcc, _, _, hgl, hnc, _, _⟩ := row15_at hr.out hr1
      have z0 : w1.cell? ⟨g, s.id * 15, none⟩ = some (.int .i64 t.id) := by have := hcc 0 _ rfl; rw [hr2, c3] at this; exact this
      have z4 : w1.cell? ⟨g, s.id * 15 + 4, none⟩ = some (.int .i64 s.place) := by have := hcc 4 _ rfl; rw [hr2, c4] at this; exact this
      have y4 := (hW.out.1.cell (p := ⟨g, s.id * 15 + 4, none⟩) hgl).trans z4
      have HZ0 := Fact.mk z0
      have htn : t.id < n := by
        have h3 : t.id < fl.length ∨ t.id = 0 := by
          cases up with
          | nil => exact .inr (climb_one c5)
          | cons t2 up2 => obtain ⟨_, ⟨y2, c2', _⟩, _⟩ := climb_more c5; exact .inl (List.getElem?_eq_some_iff.1 c2').1
        have h4 : fl.length = n := by
          rw [← hf.out, List.length_map]
          have := hr.out.1
          rw [c15L_len] at this
          omega
        omega
      have hq6 : q ≤ 1000000 := by
        have h1 := congrArg List.length hfx.out.2
        rw [List.length_append, List.length_cons, hW.out.2.2] at h1
        omega
      have j0_ : (0 : Int) ≤ s.id := by omega
      have j1_ : (s.id : Int) < n := by omega
      have hlt : (0 : Int) < s.id := by omega
      have HFX : Fact (Climb fl (t :: up) ∧ x.way = up.reverse ++ t :: (s :: done)) := ⟨c5, by rw [hfx.out.2]; simp⟩
      have HHB := Fact.mk hW.out.1
      have HHO := Fact.mk hW.out.2.1
      have HDL := Fact.mk hW.out.2.2
      clear hfx c1 c2 c3 c4 c5 hr1 hr2 hcc z0 z4 hW
      rcases HHO.out.2 with ⟨hnil, hq0⟩ | ⟨ga, capa, cura, hsome, _⟩
      · cases hnil
        have hd0 : done = [] := List.eq_nil_of_length_eq_zero HDL.out
        subst hd0
        have hB6 : Below w1.heap.size w1 (wr.alloc (.cells #[.int .i64 s.place] 3)) := HHB.out.alloc HHB.out.size _
        have y0 : (wr.alloc (.cells #[.int .i64 s.place] 3)).cell? ⟨g, s.id * 15, none⟩ = some (.int .i64 t.id) := (hB6.cell (p := ⟨g, s.id * 15, none⟩) hgl).trans HZ0.out
        have HB6 := Fact.mk hB6
        clear hB6
        go_upto_region 7 with (at_builtin; refine wpList_append_own_none rfl (.tmp 31) (.tmp 32) 34 rfl w1.heap.size 3 i0 1 Try.underlying34 hii _ 1 [.int .i64 s.place] rfl (World.ownsRow_lit wr #[.int .i64 s.place] 1 HHB.out.size (by decide) rfl) rfl ?_)
        go_wp2_with fail
        go_roundg g'
        case measure => omega
        case rel => exact ⟨t, up, [s], some ⟨wr.heap.size, 0, none⟩, 1, 1, ⟨rfl, rfl⟩, by omega, htn, ⟨HB6.out, World.ownsRow_lit wr #[.int .i64 s.place] 1 HHB.out.size (by decide) rfl, rfl⟩, HFX⟩
      · cases hsome
        go_upto_region 7 with (at_builtin; refine wpList_append_own _ rfl (.tmp 31) (.tmp 32) 34 rfl w1.heap.size 3 i0 (.int .i64 0) 1 8 Try.underlying34 hii hzz0 hzz1 hzz2 rfl (by decide) _ 1 [.int .i64 s.place] rfl (World.ownsRow_lit wr #[.int .i64 s.place] 1 HHB.out.size (by decide) rfl) ⟨ga, 0, none⟩ q mc (cI (done.map (·.place))) rfl (by rw [cI_len, List.length_map, HDL.out]; omega) ((HHO.out.alloc _).cells rfl) (cI_one _) (by unfold maxLen; omega) (by omega) (by have := HHB.out.size; simp; omega) ?_; intro v' w6 hown' hgrow _)
        obtain ⟨ad2, mc2, rfl⟩ := own_shape hown'
        have hB6 : Below w1.heap.size w1 w6 := (HHB.out.alloc HHB.out.size _).grown hgrow (by have := HHB.out.size; simp; omega) (fun k e => by have e2 : wr.heap.size = k := Option.some.inj e; have := HHB.out.size; omega)
        have y0 : w6.cell? ⟨g, s.id * 15, none⟩ = some (.int .i64 t.id) := (hB6.cell (p := ⟨g, s.id * 15, none⟩) hgl).trans HZ0.out
        have HB6 := Fact.mk hB6
        have HOWN : Fact (w6.ownsRow w1.heap.size 3 1 (.slice ad2 (1 + q) mc2) (1 + q) (cI ((s :: done).map (·.place)))) := ⟨hown'⟩
        clear hB6 hown' hgrow
        go_wp2_with fail
        go_roundg g'
        case measure => omega
        case rel => exact ⟨t, up, s :: done, ad2, 1 + q, mc2, ⟨rfl, rfl⟩, by omega, htn, ⟨HB6.out, HOWN.out, by rw [List.length_cons, HDL.out]; omega⟩, HFX⟩
end Go.Proofs.Ytjjkidenlgghkaa
end

/- Within, of any numbers. -/
section
set_option linter.unusedVariables false
set_option linter.unusedSimpArgs false
namespace Go.Proofs.Ytjjkidenlgghkaa
open Go.RowKit M

set_option maxRecDepth 20000 in
set_option maxHeartbeats 1000000 in
theorem has_any (a : Option Addr) (n c : Nat) (i : Int) (w : World) (r : Bool) (h : (r = true ∧ 0 ≤ i ∧ i < n) ∨ (r = false ∧ (i < 0 ∨ n ≤ i))) : Calls Try.prog 38 #[.slice a n c, .int .i64 i] w fun e w' => e = .returned (.bool r) ∧ w' = w := by
  rcases h with ⟨rfl, h0, h1⟩ | ⟨rfl, h⟩
  · go_enter Try.func38, Try.ntmps38
    go_wp2_with fail
    go_ret
    exact ⟨rfl, rfl⟩
  · by_cases h0 : i < 0
    · have h1 : ¬ 0 ≤ i := by omega
      have h2 : decide (0 ≤ i) = false := decide_eq_false h1
      clear h
      go_enter Try.func38, Try.ntmps38
      go_wp2_with fail
      go_ret
      exact ⟨rfl, rfl⟩
    · have h1 : 0 ≤ i := by omega
      have h2 : ¬ i < n := by omega
      have h3 : decide (i < n) = false := decide_eq_false h2
      clear h
      go_enter Try.func38, Try.ntmps38
      go_wp2_with fail
      go_ret
      exact ⟨rfl, rfl⟩
theorem has_in (a : Option Addr) (n c : Nat) (i : Int) (w : World) (h0 : 0 ≤ i) (h1 : i < n) : Calls Try.prog 38 #[.slice a n c, .int .i64 i] w fun e w' => e = .returned (.bool true) ∧ w' = w := has_any a n c i w true (.inl ⟨rfl, h0, h1⟩)
theorem has_out (a : Option Addr) (n c : Nat) (i : Int) (w : World) (h : i < 0 ∨ n ≤ i) : Calls Try.prog 38 #[.slice a n c, .int .i64 i] w fun e w' => e = .returned (.bool false) ∧ w' = w := has_any a n c i w false (.inr ⟨rfl, h⟩)
/-- what Within says: the numbers are there, and the one lies in the other -/
structure In7 (g n : Nat) (id of : Int) (w : World) (r : Bool) : Prop where
  h : (r = false ∧ (id < 0 ∨ n ≤ id)) ∨ (r = false ∧ (0 ≤ id ∧ id < n) ∧ (of < 0 ∨ n ≤ of)) ∨
    ((0 ≤ id ∧ id < n) ∧ (0 ≤ of ∧ of < n) ∧ ∃ (j : Nat) (z : Nat), of = j ∧ z ≤ 1000000 ∧ w.cell? ⟨g, j * 10 + 1, none⟩ = some (.int .i64 z) ∧ 1 ≤ z ∧ ((r = false ∧ id < of) ∨ (r = true ∧ of ≤ id ∧ id < of + z) ∨ (r = false ∧ of + z ≤ id)))
set_option maxRecDepth 20000 in
set_option maxHeartbeats 4000000 in
theorem within_any (g n cap : Nat) (id of : Int) (w : World) (r : Bool) (hc : (n : Int) ≤ cap) (hn : n ≤ 1000000) (h : In7 g n id of w r) :
    Calls Try.prog 23 #[.slice (some ⟨g, 0, none⟩) n cap, .int .i64 id, .int .i64 of] w fun e w' => e = .returned (.bool r) ∧ w' = w := by
  have tok1 : True := trivial
  rcases h.h with ⟨rfl, h0⟩ | ⟨rfl, h0, h1⟩ | ⟨h0, h1, j, z, rfl, hz, hcell, hz1, h2⟩
  · clear h
    go_enter Try.func23, Try.ntmps23
    go_wp2_with (go_at_call 38; refine (has_out _ _ _ _ _ h0).mono ?_; rintro e w9 ⟨rfl, hw1⟩; have hw2 := hw1.symm; subst hw2; clear hw1)
    go_ret
    exact ⟨rfl, rfl⟩
  · clear h
    go_enter Try.func23, Try.ntmps23
    go_wp2_with (first
      | (go_at_call 38; have _t := tok1; refine (has_in _ _ _ _ _ h0.1 h0.2).mono ?_; rintro e w9 ⟨rfl, hw1⟩; have hw2 := hw1.symm; subst hw2; clear hw1 tok1 _t)
      | (go_at_call 38; refine (has_out _ _ _ _ _ h1).mono ?_; rintro e w9 ⟨rfl, hw1⟩; have hw2 := hw1.symm; subst hw2; clear hw1))
    go_ret
    exact ⟨rfl, rfl⟩
  · obtain ⟨i0, i1⟩ := h0
    obtain ⟨j0, j1⟩ := h1
    clear h
    rcases h2 with ⟨rfl, h2⟩ | ⟨rfl, h2, h3⟩ | ⟨rfl, h2⟩
    · have a1 : ¬ id = (j : Int) := by omega
      have a2 : ¬ (j : Int) < id := by omega
      have a3 : decide ((j : Int) < id) = false := decide_eq_false a2
      have a4 : (id == (j : Int)) = false := beq_eq_false_iff_ne.2 a1
      go_enter Try.func23, Try.ntmps23
      go_wp2_with (first
        | (go_at_call 38; have _t := tok1; refine (has_in _ _ _ _ _ i0 i1).mono ?_; rintro e w9 ⟨rfl, hw1⟩; have hw2 := hw1.symm; subst hw2; clear hw1 tok1 _t)
        | (go_at_call 38; refine (has_in _ _ _ _ _ j0 j1).mono ?_; rintro e w9 ⟨rfl, hw1⟩; have hw2 := hw1.symm; subst hw2; clear hw1))
      go_ret
      exact ⟨rfl, rfl⟩
    · by_cases he : id = j
      · subst he
        go_enter Try.func23, Try.ntmps23
        go_wp2_with (go_at_call 38; refine (has_in _ _ _ _ _ j0 j1).mono ?_; rintro e w9 ⟨rfl, hw1⟩; have hw2 := hw1.symm; subst hw2; clear hw1)
        go_ret
        exact ⟨rfl, rfl⟩
      · have a2 : (j : Int) < id := by omega
        have a3 : decide ((j : Int) < id) = true := decide_eq_true a2
        have a4 : (id == (j : Int)) = false := beq_eq_false_iff_ne.2 he
        have w1_ : IntKind.i64.wrap (id - (j : Int)) = id - (j : Int) := wrap_id (by omega) (by omega)
        have a5 : id - (j : Int) < z := by omega
        have a6 : decide (id - (j : Int) < z) = true := decide_eq_true a5
        go_enter Try.func23, Try.ntmps23
        go_wp2_with (first
          | (go_at_call 38; have _t := tok1; refine (has_in _ _ _ _ _ i0 i1).mono ?_; rintro e w9 ⟨rfl, hw1⟩; have hw2 := hw1.symm; subst hw2; clear hw1 tok1 _t)
          | (go_at_call 38; refine (has_in _ _ _ _ _ j0 j1).mono ?_; rintro e w9 ⟨rfl, hw1⟩; have hw2 := hw1.symm; subst hw2; clear hw1))
        go_ret
        exact ⟨rfl, rfl⟩
    · have he : ¬ id = (j : Int) := by omega
      have a2 : (j : Int) < id := by omega
      have a3 : decide ((j : Int) < id) = true := decide_eq_true a2
      have a4 : (id == (j : Int)) = false := beq_eq_false_iff_ne.2 he
      have w1_ : IntKind.i64.wrap (id - (j : Int)) = id - (j : Int) := wrap_id (by omega) (by omega)
      have a5 : ¬ id - (j : Int) < z := by omega
      have a6 : decide (id - (j : Int) < z) = false := decide_eq_false a5
      go_enter Try.func23, Try.ntmps23
      go_wp2_with (first
        | (go_at_call 38; have _t := tok1; refine (has_in _ _ _ _ _ i0 i1).mono ?_; rintro e w9 ⟨rfl, hw1⟩; have hw2 := hw1.symm; subst hw2; clear hw1 tok1 _t)
        | (go_at_call 38; refine (has_in _ _ _ _ _ j0 j1).mono ?_; rintro e w9 ⟨rfl, hw1⟩; have hw2 := hw1.symm; subst hw2; clear hw1))
      go_ret
      exact ⟨rfl, rfl⟩
end Go.Proofs.Ytjjkidenlgghkaa
end

/- The document's own Text of a tree. -/
section
set_option linter.unusedVariables false
set_option linter.unusedSimpArgs false
namespace Go.Proofs.Ytjjkidenlgghkaa
open Go.Deep (BT)
open Go.RowKit Go.Shelf M

theorem add_big (a b T : ByteArray) (h : a ++ b = T) (hs : a.size + b.size ≤ 1000000000000) (w : World) : (Op.stringOp .add a b).run Try.prog w = .ok (.string T) w := by
  have h1 := run_string_add_sum (P := Try.prog) (w := w) a b (by omega)
  rw [h] at h1
  exact h1
def RTxP (k : M.F) : Prop := ∀ (d : Nd) (av kv : Value) (n : Nat) (w : World), Lies n w d k av kv → n ≤ w.heap.size → (ownTx d ++ textF k).length ≤ 100000000 → k.size ≤ 1000000 →
  Calls Try.prog 20 #[nodeV d av kv] w fun e w' => ∃ T : ByteArray, e = .returned (.string T) ∧ T.data.toList = ownTx d ++ textF k ∧ Below w.heap.size w w'

set_option maxRecDepth 20000 in
set_option maxHeartbeats 4000000 in
theorem rtxt_step (k : M.F) (hH : Hered RTxP k) : RTxP k := by
  intro d av kv n w hl hn hbd hsz
  obtain ⟨K, N, X, A⟩ := d
  obtain ⟨a1, l1, c1, e1⟩ := hl.a.val
  subst e1
  obtain ⟨a2, c2, rfl, hc2, hm2, hF⟩ := hl.f
  obtain ⟨kl, hkl⟩ : ∃ kl, k.len = kl := ⟨_, rfl⟩
  rw [hkl]
  obtain ⟨W1, hW1⟩ : ∃ W1, w.alloc (.cells #[.int .i64 K, .string N, .string X, .slice a1 l1 c1, .slice a2 kl c2] 25) = W1 := ⟨_, rfl⟩
  have hB1 : Below w.heap.size w W1 := by rw [← hW1]; exact (Below.refl _ w).alloc (Nat.le_refl _) _
  have hz1 : W1.heap.size = w.heap.size + 1 := by rw [← hW1]; simp
  have hbx : ∀ i v, (#[.int .i64 K, .string N, .string X, .slice a1 l1 c1, .slice a2 kl c2] : Array Value)[i]? = some v → W1.cell? ⟨w.heap.size, i, none⟩ = some v := fun i v h => by
    rw [← hW1]; exact (World.cell?_alloc_new w _ _ i).trans h
  have x0 := hbx 0 _ rfl
  have x2 := hbx 2 _ rfl
  have x4 : W1.cell? ⟨w.heap.size, 4, none⟩ = some (.slice a2 kl c2) := hbx 4 _ rfl
  obtain ⟨b2, o2, hkd⟩ : ∃ b o, Fact (∀ i, i < kl → a2 = some ⟨b, o, none⟩ ∧ b < n ∧ FAt (Old n) w k b o) := by
    rcases hF with h0 | ⟨b, o, ea, hS, hcs⟩
    · refine ⟨0, 0, ⟨fun i hi => ?_⟩⟩
      omega
    · exact ⟨b, o, ⟨fun i hi => ⟨ea, hS, hcs⟩⟩⟩
  have HB1 := Fact.mk hB1
  have HH := Fact.mk hH
  have HKL := Fact.mk hkl
  have HBD := Fact.mk hbd
  have HX4 := Fact.mk x4
  have HW1 := Fact.mk hW1
  rw [hkl] at hc2
  unfold maxLen at hm2
  have hkl4 : kl ≤ 1000000 := by rw [← hkl]; have : ∀ f : M.F, f.len ≤ f.size := (fun f => by induction f with | nil => exact Nat.le_refl _ | node _ _ d k r _ ih => simp only [BT.len, BT.size]; omega); have := this k; omega
  obtain ⟨T, hT⟩ : ∃ T : ByteArray, ownTx ⟨K, N, X, A⟩ ++ textF k = T.data.toList := ⟨⟨(ownTx ⟨K, N, X, A⟩ ++ textF k).toArray⟩, rfl⟩
  have hTz : T.size ≤ 100000000 := by rw [Lib.size_eq, ← hT]; exact hbd
  obtain ⟨S0, hS0, hS0e⟩ : ∃ S0 : ByteArray, ownTx ⟨K, N, X, A⟩ = S0.data.toList ∧ ((K = 3 ∧ S0 = X) ∨ (K ≠ 3 ∧ S0 = ⟨#[]⟩)) := by
    unfold ownTx
    by_cases h : K = 3
    · exact ⟨X, by rw [if_pos h], .inl ⟨h, rfl⟩⟩
    · exact ⟨⟨#[]⟩, by rw [if_neg h], .inr ⟨h, rfl⟩⟩
  have HT := Fact.mk hT
  have HTZ := Fact.mk hTz
  have HS0 := Fact.mk hS0
  have HSZ := Fact.mk hsz
  clear hF hl hH hbx hB1 hkl hbd hT hTz hW1 hS0
  rcases hS0e with ⟨hK, hS⟩ | ⟨hK, hS⟩
  · subst hK hS
    go_enter Try.func20, Try.ntmps20
    go_wp2_with fail
    rw [HW1.out]
    go_wp2_with fail
    go_loopg [3, 4] kl (fun gf sv iv wr => ∃ (i : Nat) (rest : M.F) (S : ByteArray), (sv = .string S ∧ iv = .int .i64 i) ∧ i + rest.len = kl ∧ rest.len ≤ gf ∧
      Fact (Below (w.heap.size + 1) W1 wr) ∧ Fact ((rest.len = 0 ∨ FAt (Old n) w rest b2 (o2 + i * 5)) ∧ Hered RTxP rest ∧ rest.size ≤ k.size ∧ T.data.toList = S.data.toList ++ textF rest))
    case atStart =>
      refine ⟨0, k, S0, ⟨rfl, rfl⟩, by rw [HKL.out]; omega, by rw [HKL.out]; omega, ⟨Below.refl _ _⟩, ⟨?_, HH.out, Nat.le_refl _, by rw [← HT.out, HS0.out]⟩⟩
      by_cases h0 : kl = 0
      · left; rw [HKL.out]; exact h0
      · right
        rw [Nat.zero_mul, Nat.add_zero]
        exact (hkd.out 0 (by omega)).2.2
    case round =>
      obtain ⟨i, rest, S, ⟨rfl, rfl⟩, hlen, hfu, hBr, hfx⟩ := hrel
      have y4 := (hBr.out.cell (p := ⟨w.heap.size, 4, none⟩) (by show w.heap.size < _; omega)).trans HX4.out
      cases rest with
      | nil =>
        have hi : i = kl := by have : i + 0 = kl := hlen; omega
        obtain ⟨_, _, _, q⟩ := hfx.out
        have HQ : Fact (S.data.toList = T.data.toList) := ⟨by rw [q]; simp [textF]⟩
        clear hfx hlen q x0 x2 x4 hkd
        subst hi
        go_wp2_with fail
        go_ret
        exact ⟨S, rfl, by rw [HQ.out, ← HT.out], HB1.out.trans (hBr.out.mono (by omega))⟩
      | node xb xo d' k' r' =>
        have hlen' : i + (r'.len + 1) = kl := hlen
        have hfu' : r'.len + 1 ≤ gk := hfu
        obtain ⟨g', rfl⟩ : ∃ g', gk = g' + 1 := ⟨gk - 1, by omega⟩
        have hlt2 : i < kl := by omega
        obtain ⟨ea2, hb2, _⟩ := hkd.out i hlt2
        subst ea2
        obtain ⟨hfat, ⟨hP, hHr⟩, q1, q2⟩ := hfx.out
        have hfat' := hfat.resolve_left (by show ¬ r'.len + 1 = 0; omega)
        obtain ⟨⟨av', ka', kc', e0, e1, e2, e3, e4, hav', h4, h5, hkk⟩, hrr⟩ := hfat'
        obtain ⟨x1', x2', x3', ex⟩ := hav'.val
        subst ex
        obtain ⟨kl', hkl'⟩ : ∃ kl', k'.len = kl' := ⟨_, rfl⟩
        have hwr : Below w.heap.size w wr := HB1.out.trans (hBr.out.mono (by omega))
        have hcc : ∀ o, wr.cell? ⟨b2, o, none⟩ = w.cell? ⟨b2, o, none⟩ := fun o => hwr.cell (p := ⟨b2, o, none⟩) (by show b2 < _; omega)
        have l0 := (hcc _).trans e0
        have l1 := (hcc _).trans e1
        have l2 := (hcc _).trans e2
        have l3 := (hcc _).trans e3
        have l4 := (hcc _).trans e4
        have hlk : Like (Old n) w wr := like_below (hwr.mono hn)
        simp only [BT.size] at q1
        have hsz := HSZ.out
        rw [textF] at q2
        have hTl := congrArg List.length q2
        have hTz2 := HTZ.out
        rw [Lib.size_eq] at hTz2
        simp only [List.length_append] at hTl
        have hcall := hP d' (.slice x1' x2' x3') (.slice ka' k'.len kc') n wr ⟨hav'.like hlk, FL.like hlk ⟨ka', kc', rfl, h4, h5, hkk⟩⟩ (Nat.le_trans hn hwr.size) (by rw [List.length_append]; omega) (by omega)
        rw [hkl'] at hcall l4
        have HCALL := Fact.mk hcall
        have HR : Fact ((r'.len = 0 ∨ FAt (Old n) w r' b2 (o2 + (i + 1) * 5)) ∧ Hered RTxP r' ∧ r'.size ≤ k.size) := ⟨.inr (by rw [show o2 + (i + 1) * 5 = o2 + i * 5 + 5 by omega]; exact hrr), hHr, by omega⟩
        have HQ2 := Fact.mk q2
        have hSs : S.size ≤ 100000000 := by rw [Lib.size_eq]; omega
        have hlen3 : (ownTx d' ++ textF k').length ≤ 100000000 := by rw [List.length_append]; omega
        have iI : (i : Int) < kl := by omega
        have iI0 : (0 : Int) ≤ i := by omega
        clear hfx hfat hP hHr hrr hkk hav' hcall hlk e0 e1 e2 e3 e4 hkd hlen hfu q1 q2 hTl hTz2 hcc hwr hsz
        go_wp2_with (go_at_call 20; refine HCALL.out.mono ?_; rintro e w2 ⟨Z, rfl, hZ, hb2'⟩; have HB2 : Fact (Below (w.heap.size + 1) W1 w2) := ⟨hBr.out.trans (hb2'.mono (by have := hBr.out.size; omega))⟩; clear hb2'; obtain ⟨R, hR⟩ : ∃ R, S ++ Z = R := ⟨_, rfl⟩; have hadd := fun w => add_big S Z R hR (by have : Z.size = (ownTx d' ++ textF k').length := (by rw [Lib.size_eq, hZ]); omega) w; have HRR := Fact.mk hR; clear hR)
        go_roundg g'
        case measure => omega
        case rel =>
          refine ⟨i + 1, r', R, ⟨rfl, by go_num⟩, by omega, by omega, HB2, ⟨HR.out.1, HR.out.2.1, HR.out.2.2, ?_⟩⟩
          rw [HQ2.out, ← HRR.out, ByteArray.data_append, Array.toList_append, hZ]
          simp
  · subst hS
    have hK3 : (K == 3) = false := beq_eq_false_iff_ne.2 hK
    go_enter Try.func20, Try.ntmps20
    go_wp2_with fail
    rw [HW1.out]
    go_wp2_with fail
    go_loopg [3, 4] kl (fun gf sv iv wr => ∃ (i : Nat) (rest : M.F) (S : ByteArray), (sv = .string S ∧ iv = .int .i64 i) ∧ i + rest.len = kl ∧ rest.len ≤ gf ∧
      Fact (Below (w.heap.size + 1) W1 wr) ∧ Fact ((rest.len = 0 ∨ FAt (Old n) w rest b2 (o2 + i * 5)) ∧ Hered RTxP rest ∧ rest.size ≤ k.size ∧ T.data.toList = S.data.toList ++ textF rest))
    case atStart =>
      refine ⟨0, k, (⟨#[]⟩ : ByteArray), ⟨rfl, rfl⟩, by rw [HKL.out]; omega, by rw [HKL.out]; omega, ⟨Below.refl _ _⟩, ⟨?_, HH.out, Nat.le_refl _, by rw [← HT.out, HS0.out]⟩⟩
      by_cases h0 : kl = 0
      · left; rw [HKL.out]; exact h0
      · right
        rw [Nat.zero_mul, Nat.add_zero]
        exact (hkd.out 0 (by omega)).2.2
    case round =>
      obtain ⟨i, rest, S, ⟨rfl, rfl⟩, hlen, hfu, hBr, hfx⟩ := hrel
      have y4 := (hBr.out.cell (p := ⟨w.heap.size, 4, none⟩) (by show w.heap.size < _; omega)).trans HX4.out
      cases rest with
      | nil =>
        have hi : i = kl := by have : i + 0 = kl := hlen; omega
        obtain ⟨_, _, _, q⟩ := hfx.out
        have HQ : Fact (S.data.toList = T.data.toList) := ⟨by rw [q]; simp [textF]⟩
        clear hfx hlen q x0 x2 x4 hkd
        subst hi
        go_wp2_with fail
        go_ret
        exact ⟨S, rfl, by rw [HQ.out, ← HT.out], HB1.out.trans (hBr.out.mono (by omega))⟩
      | node xb xo d' k' r' =>
        have hlen' : i + (r'.len + 1) = kl := hlen
        have hfu' : r'.len + 1 ≤ gk := hfu
        obtain ⟨g', rfl⟩ : ∃ g', gk = g' + 1 := ⟨gk - 1, by omega⟩
        have hlt2 : i < kl := by omega
        obtain ⟨ea2, hb2, _⟩ := hkd.out i hlt2
        subst ea2
        obtain ⟨hfat, ⟨hP, hHr⟩, q1, q2⟩ := hfx.out
        have hfat' := hfat.resolve_left (by show ¬ r'.len + 1 = 0; omega)
        obtain ⟨⟨av', ka', kc', e0, e1, e2, e3, e4, hav', h4, h5, hkk⟩, hrr⟩ := hfat'
        obtain ⟨x1', x2', x3', ex⟩ := hav'.val
        subst ex
        obtain ⟨kl', hkl'⟩ : ∃ kl', k'.len = kl' := ⟨_, rfl⟩
        have hwr : Below w.heap.size w wr := HB1.out.trans (hBr.out.mono (by omega))
        have hcc : ∀ o, wr.cell? ⟨b2, o, none⟩ = w.cell? ⟨b2, o, none⟩ := fun o => hwr.cell (p := ⟨b2, o, none⟩) (by show b2 < _; omega)
        have l0 := (hcc _).trans e0
        have l1 := (hcc _).trans e1
        have l2 := (hcc _).trans e2
        have l3 := (hcc _).trans e3
        have l4 := (hcc _).trans e4
        have hlk : Like (Old n) w wr := like_below (hwr.mono hn)
        simp only [BT.size] at q1
        have hsz := HSZ.out
        rw [textF] at q2
        have hTl := congrArg List.length q2
        have hTz2 := HTZ.out
        rw [Lib.size_eq] at hTz2
        simp only [List.length_append] at hTl
        have hcall := hP d' (.slice x1' x2' x3') (.slice ka' k'.len kc') n wr ⟨hav'.like hlk, FL.like hlk ⟨ka', kc', rfl, h4, h5, hkk⟩⟩ (Nat.le_trans hn hwr.size) (by rw [List.length_append]; omega) (by omega)
        rw [hkl'] at hcall l4
        have HCALL := Fact.mk hcall
        have HR : Fact ((r'.len = 0 ∨ FAt (Old n) w r' b2 (o2 + (i + 1) * 5)) ∧ Hered RTxP r' ∧ r'.size ≤ k.size) := ⟨.inr (by rw [show o2 + (i + 1) * 5 = o2 + i * 5 + 5 by omega]; exact hrr), hHr, by omega⟩
        have HQ2 := Fact.mk q2
        have hSs : S.size ≤ 100000000 := by rw [Lib.size_eq]; omega
        have hlen3 : (ownTx d' ++ textF k').length ≤ 100000000 := by rw [List.length_append]; omega
        have iI : (i : Int) < kl := by omega
        have iI0 : (0 : Int) ≤ i := by omega
        clear hfx hfat hP hHr hrr hkk hav' hcall hlk e0 e1 e2 e3 e4 hkd hlen hfu q1 q2 hTl hTz2 hcc hwr hsz
        go_wp2_with (go_at_call 20; refine HCALL.out.mono ?_; rintro e w2 ⟨Z, rfl, hZ, hb2'⟩; have HB2 : Fact (Below (w.heap.size + 1) W1 w2) := ⟨hBr.out.trans (hb2'.mono (by have := hBr.out.size; omega))⟩; clear hb2'; obtain ⟨R, hR⟩ : ∃ R, S ++ Z = R := ⟨_, rfl⟩; have hadd := fun w => add_big S Z R hR (by have : Z.size = (ownTx d' ++ textF k').length := (by rw [Lib.size_eq, hZ]); omega) w; have HRR := Fact.mk hR; clear hR)
        go_roundg g'
        case measure => omega
        case rel =>
          refine ⟨i + 1, r', R, ⟨rfl, by go_num⟩, by omega, by omega, HB2, ⟨HR.out.1, HR.out.2.1, HR.out.2.2, ?_⟩⟩
          rw [HQ2.out, ← HRR.out, ByteArray.data_append, Array.toList_append, hZ]
          simp
theorem rtxt_any (k : M.F) : RTxP k := indH rtxt_step k
end Go.Proofs.Ytjjkidenlgghkaa
end

section
set_option linter.unusedVariables false
set_option linter.unusedSimpArgs false
namespace Go.Proofs.Ytjjkidenlgghkaa
open Go.Deep (BT)
open Go.RowKit Go.Shelf M

theorem ci_self7 (a : Int) : ci a a = 0 := by unfold ci; rw [if_neg (by omega), if_neg (by omega)]
theorem cl_self7 : ∀ l, cl l l = 0
  | [] => rfl
  | a :: l => by show orI (ci a.toNat a.toNat) (cl l l) = 0; rw [ci_self7, cl_self7 l]; rfl
theorem ca_self7 : ∀ l, ca l l = 0
  | [] => rfl
  | p :: l => by show orI (orI (cs p.1 p.1) (cs p.2 p.2)) (ca l l) = 0; unfold cs; rw [cl_self7, cl_self7, ca_self7 l]; rfl
theorem cn_self7 (d : Nd) : cn d d = 0 := by unfold cn cs; rw [ci_self7, cl_self7, cl_self7, ca_self7]; rfl
theorem cF_self7 : ∀ f, cF f f = 0
  | .nil => rfl
  | .node _ _ d k r => by show orI (cn d d) (orI (cF k k) (cF r r)) = 0; rw [cn_self7, cF_self7 k, cF_self7 r]; rfl
theorem cT_self7 (d : Nd) (k : M.F) : cT d k d k = 0 := by unfold cT; rw [cn_self7, cF_self7]; rfl
theorem same7 {w : World} {d : Nd} {k : M.F} {va vb ka kb : Value} (ha : Lies w.heap.size w d k va ka) (hb : Lies w.heap.size w d k vb kb) :
    Calls Try.prog 21 #[nodeV d va ka, nodeV d vb kb] w fun e w' => e = .returned (.bool true) ∧ Below w.heap.size w w' :=
  rsame_at true ⟨by rw [cT_self7]; rfl⟩ ha hb (Nat.le_refl _)
theorem copy7 {w : World} {K : Int} {N X : ByteArray} {A : List (ByteArray × ByteArray)} {k : M.F} {va ka : Value} {kl : Nat} (hkl : k.len = kl) (h : Lies w.heap.size w ⟨K, N, X, A⟩ k va ka) (L : Lim ⟨K, N, X, A⟩ k) :
    Calls Try.prog 11 #[.agg #[.int .i64 K, .string N, .string X, va, ka]] w fun e w' => ∃ r1 r2 r3 r4 r5, e = .returned (.agg #[.int .i64 K, .string N, .string X, .slice r1 r2 r3, .slice r4 kl r5]) ∧ Below w.heap.size w w' ∧ Fact (Lies w'.heap.size w' ⟨K, N, X, A⟩ k (.slice r1 r2 r3) (.slice r4 kl r5)) :=
  (copy_any k ⟨K, N, X, A⟩ va ka w.heap.size w h (Nat.le_refl _) L.sl (by have := L.sz; omega)).mono (by
    rintro e w' ⟨av', kv', rfl, hb, ha, hf⟩
    obtain ⟨a1, l1, c1, rfl⟩ := ha.val
    obtain ⟨a2, c2, rfl⟩ := hf.val
    rw [hkl] at hf ⊢
    exact ⟨a1, l1, c1, a2, c2, rfl, hb, ⟨ha.inn.mono (fun b hb => hb.2), hf.inn.mono (fun b hb => hb.2)⟩⟩)
/-- what a path is -/
def PS (d : Nd) (k : M.F) (n : Nat) (id : Int) (ps : List Nat) : Prop := (∃ x ∈ evT d k, (lastId x : Int) = id ∧ (x.way.map (·.place)).drop 1 = ps) ∨ ((id < 0 ∨ (n : Int) ≤ id) ∧ ps = [])
theorem PS.len {d : Nd} {k : M.F} {n : Nat} {id : Int} {ps : List Nat} (L : Lim d k) (h : PS d k n id ps) : ps.length ≤ 1000000 := by
  rcases h with ⟨x, hx, _, rfl⟩ | ⟨_, rfl⟩
  · have := way_len _ _ _ _ x hx
    have h2 := L.dp
    simp only [BT.depth, List.length_nil] at this
    rw [List.length_drop, List.length_map]
    omega
  · exact Nat.zero_le _
theorem path7 (d : Nd) (k : M.F) (va ka : Value) (n : Nat) (w : World) (id : Int) (hks : k.size + 1 = n) (L : Lim d k) (hl : Lies w.heap.size w d k va ka) :
    Calls Try.prog 17 #[nodeV d va ka, .int .i64 id] w fun e w' => ∃ v ps, e = .returned v ∧ Below w.heap.size w w' ∧ Fact (IsI w' v ps) ∧ Fact (PS d k n id ps) := by
  refine (path_any d k va ka id w hl.a hl.f L.dp (by have := L.sz; omega)).mono ?_
  rintro e w' ⟨hb, v, ps, rfl, hown, h⟩
  refine ⟨v, ps, rfl, hb, ⟨own_I rfl hown⟩, ⟨?_⟩⟩
  rcases h with ⟨pre, x, hpre, _, hid, hps⟩ | ⟨hno, hps⟩
  · exact .inl ⟨x, hpre.subset (List.mem_append_right _ List.mem_cons_self), hid, hps.symm⟩
  · refine .inr ⟨?_, hps⟩
    by_cases h0 : id < 0
    · exact .inl h0
    · right
      have := none_sub hno id.toNat (by omega)
      omega
theorem rpath7 (d : Nd) (k : M.F) (va ka : Value) (n : Nat) (w : World) (id : Int) (ps : List Nat) (hks : k.size + 1 = n) (L : Lim d k) (hl : Lies w.heap.size w d k va ka) (hp : PS d k n id ps) :
    Calls Try.prog 18 #[nodeV d va ka, .int .i64 id] w fun e w' => ∃ v, e = .returned v ∧ Below w.heap.size w w' ∧ Fact (IsI w' v ps) := by
  rcases hp with ⟨x, hx, hid, hps⟩ | ⟨h0, rfl⟩
  · subst hid
    refine (rPath_yes d k va ka n w x ps ps.length (lastId x) hks L hl hx hps rfl rfl).mono ?_
    rintro e w' ⟨v, rfl, hb, hr⟩
    exact ⟨v, rfl, hb, ⟨own_I rfl hr.out⟩⟩
  · refine (rPath_no d k va ka n w id hks L hl h0).mono ?_
    rintro e w' ⟨rfl, hb⟩
    exact ⟨_, rfl, hb, ⟨own_I (B := 0) (E := 3) rfl (World.ownsRow_nil _ _ _ _)⟩⟩
theorem text7 (d : Nd) (k : M.F) (va ka : Value) (TX : ByteArray) (w : World) (hT : TX.data.toList = ownTx d ++ textF k) (hlen : (ownTx d ++ textF k).length ≤ 100000000) (L : Lim d k) (hl : Lies w.heap.size w d k va ka) :
    Calls Try.prog 19 #[nodeV d va ka] w fun e w' => e = .returned (.string TX) ∧ Below w.heap.size w w' := by
  refine (text_any d k va ka w hl.a hl.f L.dp (by have := L.sz; omega) (by omega)).mono ?_
  rintro e w' ⟨rfl, hb⟩
  rw [← hT]
  exact ⟨rfl, hb⟩
theorem rtext7 (d : Nd) (k : M.F) (va ka : Value) (TX : ByteArray) (w : World) (hT : TX.data.toList = ownTx d ++ textF k) (hlen : (ownTx d ++ textF k).length ≤ 100000000) (L : Lim d k) (hl : Lies w.heap.size w d k va ka) :
    Calls Try.prog 20 #[nodeV d va ka] w fun e w' => e = .returned (.string TX) ∧ Below w.heap.size w w' := by
  refine (rtxt_any k d va ka w.heap.size w hl (Nat.le_refl _) hlen (by have := L.sz; omega)).mono ?_
  rintro e w' ⟨T, rfl, hT', hb⟩
  have : T = TX := by
    apply ByteArray.ext
    apply Array.toList_inj.1
    rw [hT, hT']
  rw [this]
  exact ⟨rfl, hb⟩
theorem subs_sub : ∀ (f : M.F) (i : Nat), (subsF f)[i]? = M.sub f i
  | .nil, i => by simp [subsF, M.sub]
  | .node xb xo d k r, i => by
    rw [subsF]
    rcases sub_cases (xb := xb) (xo := xo) (d := d) (k := k) (r := r) (i := i) with rfl | ⟨j, rfl, hj⟩ | ⟨j, rfl⟩
    · rw [sub_zero]; rfl
    · rw [sub_in hj, List.getElem?_cons_succ, List.getElem?_append_left (by rw [subsF_len]; exact hj)]
      exact subs_sub k j
    · rw [sub_out, show j + 1 + k.size = (j + k.size) + 1 by omega, List.getElem?_cons_succ, List.getElem?_append_right (by rw [subsF_len]; omega), subsF_len, Nat.add_sub_cancel]
      exact subs_sub r j
theorem subsT_sub (d : Nd) (k : M.F) (i : Nat) : (subsT d k)[i]? = M.sub (.cons d k .nil) i := by
  rw [← subs_sub]
  show _ = ((d, k) :: (subsF k ++ subsF .nil))[i]?
  rw [show subsF .nil = [] from rfl, List.append_nil]
  rfl
theorem sub7_no {d : Nd} {k : M.F} {av kv : Value} {w : World} {n : Nat} (id : Int) (hks : k.size + 1 = n) (hid : id < 0 ∨ (n : Int) ≤ id) (h : Lies w.heap.size w d k av kv) (L : Lim d k) :
    Calls Try.prog 22 #[nodeV d av kv, .int .i64 id] w fun e w' => e = .returned (.tuple #[.agg #[.int .i64 0, .string ⟨#[]⟩, .string ⟨#[]⟩, .slice none 0 0, .slice none 0 0], .bool false]) ∧ Below w.heap.size w w' := by
  refine (sub_any d k av kv id w h L.dp L.sz L.sl).mono ?_
  rintro e w' ⟨hb, ⟨j, d2, k2, av', kv', h1, h2, rfl, h4⟩ | ⟨_, rfl⟩⟩
  · exfalso
    have := (sub_bd _ _ _ _ h2).1
    simp only [BT.size] at this
    omega
  · exact ⟨rfl, hb⟩
theorem same7_nil {w : World} {K : Int} {N X : ByteArray} {A : List (ByteArray × ByteArray)} {va vb : Value} (ha : AS (Old w.heap.size) w va A) (hb : AS (Old w.heap.size) w vb A) :
    Calls Try.prog 21 #[.agg #[.int .i64 K, .string N, .string X, va, .slice none 0 0], .agg #[.int .i64 K, .string N, .string X, vb, .slice none 0 0]] w fun e w' => e = .returned (.bool true) ∧ Below w.heap.size w w' :=
  same7 (d := ⟨K, N, X, A⟩) (k := .nil) ⟨ha, FL.nothing⟩ ⟨hb, FL.nothing⟩
end Go.Proofs.Ytjjkidenlgghkaa
end
