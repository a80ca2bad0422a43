/- slices.Backward: it gives a list's items, the last one first. -/
import Derived.Test.YtjlijpaefdbohaaDoorFX
import Derived.Test.YtjlijpaefdbohaaDoorLaw
import Derived.Shelf.Abstract
import Derived.Shelf.RegionOpen
import Derived.OwnWalkIn
import Derived.TacticsInMore
import Derived.LoopNIn
import Derived.LoopIn
import Derived.Deep.LoopGhost
set_option linter.unusedVariables false
namespace Go.Proofs.YtjlijpaefdbohaaDoor
open Go.RowKit Go.Shelf
attribute [local go_sem] Oper.semAt_some

def tI (L : List It) (i : Nat) : It := L.getD i ⟨0, ⟨#[]⟩, [], false, 0, .slice none 0 0⟩
theorem tI_get (L : List It) (i : Nat) (h : i < L.length) : L[i]? = some (tI L i) := by simp [tI, h]
/-- the first k items, the last one first -/
def bk (L : List It) : Nat → List (Nat × It)
  | 0 => []
  | k + 1 => (k, tI L k) :: bk L k
def encB (x : Nat × It) : Array Value := #[.int .i64 x.1, itV x.2]
/-- items that lie in blocks below n -/
def TS (n : Nat) (w : World) (v : Value) (L : List It) : Prop :=
  ∃ a cap b, v = .slice a L.length cap ∧ L.length ≤ cap ∧ cap ≤ maxLen ∧ ∀ i, i < L.length → a = some ⟨b, 0, none⟩ ∧ b < n ∧ (∃ a n c, (tI L i).av = .slice a n c) ∧ w.cell? ⟨b, i * 5, none⟩ = some (.int .i64 (tI L i).id) ∧ w.cell? ⟨b, i * 5 + 1, none⟩ = some (.string (tI L i).nm) ∧ w.cell? ⟨b, i * 5 + 2, none⟩ = some (tI L i).av ∧ w.cell? ⟨b, i * 5 + 3, none⟩ = some (.bool (tI L i).mr) ∧ w.cell? ⟨b, i * 5 + 4, none⟩ = some (.int .i64 (tI L i).ms)
theorem TS.below {n m : Nat} {w w' : World} {v : Value} {L : List It} (h : TS n w v L) (hb : Below m w w') (hm : n ≤ m) : TS n w' v L := by
  obtain ⟨a, cap, b, e, h1, h2, h3⟩ := h
  refine ⟨a, cap, b, e, h1, h2, fun i hi => ?_⟩
  obtain ⟨q1, q2, q3, q4, q5, q6, q7, q8⟩ := h3 i hi
  have hk : ∀ o, w'.cell? ⟨b, o, none⟩ = w.cell? ⟨b, o, none⟩ := fun o => hb.cell (p := ⟨b, o, none⟩) (by show b < m; omega)
  exact ⟨q1, q2, q3, (hk _).trans q4, (hk _).trans q5, (hk _).trans q6, (hk _).trans q7, (hk _).trans q8⟩
theorem FL.ts {w : World} {B p mb c : Nat} {L : List It} {v : Value} (h : FL w B p L v mb c) : TS w.heap.size w v L := by
  have hr := h.row
  obtain ⟨a, cap, ev, hc1, hc2⟩ := own_val hr
  by_cases h0 : L.length = 0
  · exact ⟨a, cap, 0, ev, hc1, hc2, fun i hi => by omega⟩
  · obtain ⟨g, cap', e, q1, q2, q3, q4, _⟩ := own_get hr (by omega)
    rw [e] at hr
    refine ⟨_, cap', g, e, q1, q2, fun i hi => ?_⟩
    have hx := tI_get L i hi
    obtain ⟨a', c', e', _⟩ := own_val (h.ats _ (List.mem_of_getElem? hx))
    exact ⟨rfl, q4, ⟨_, _, _, e'⟩, five_cells w L B g L.length cap' i _ hr hx⟩

set_option maxRecDepth 100000 in
set_option maxHeartbeats 2000000 in
theorem back_gives (F : Fence) (n : Nat) (hf : F.fn 47) (hro : F.round = none) (hn : 1 ≤ n) (m Bn : Nat) (v : Value) (l : List It) (S : Nat → Prop) (w : World)
    (hS : TS m w v l) (hm : m ≤ w.heap.size) (hSm : ∀ k, k < m → S k) (hB : Bn < w.heap.size) (hSB : S Bn) (hc : w.cell? ⟨Bn, 0, none⟩ = some v) (hl1 : l.length ≤ 1000) :
    Gives F n Tryd.prog 47 #[.pointer (some ⟨Bn, 0, none⟩)] encB S (bk l l.length) w := by
  intro lp J Jx W hW hJ hJx hY h0
  have hcW := (hW.cell (p := ⟨Bn, 0, none⟩) hB).trans hc
  have hSW := hS.below hW hm
  have hWs := hW.size
  have hBW : Bn < W.heap.size := by omega
  have hmW : m ≤ W.heap.size := by omega
  clear hc hS hW
  obtain ⟨a, cap, b, rfl, hc1, hm1, h1⟩ := hSW
  have H1 := Fact.mk h1
  have HY := Fact.mk hY
  obtain ⟨al, hal⟩ : ∃ al, l.length = al := ⟨_, rfl⟩
  rw [hal] at H1 hc1 HY hcW hl1 ⊢
  clear h1 hal hY
  unfold maxLen at hm1
  refine callsIn_of_wp Tryd.func47 rfl hf ?_ hro
  simp only [Tryd.ntmps47, List.size_toArray, List.length_cons, List.length_nil, Nat.reduceAdd, Nat.reduceSub, Array.replicate_succ, Array.replicate_zero, List.push_toArray, List.append_toArray, List.nil_append, List.cons_append]
  gi_wp2
  gi_loopw [3] (fun i wr => ∃ (k : Nat) (pre : List (Nat × It)), i = .int .i64 ((k : Int) - 1) ∧ k ≤ al ∧ Fact (bk l al = pre ++ bk l k) ∧ J pre wr ∧ Fact (Keep S W.heap.size W wr)) (fun i _ => ((intOf i) + 1).toNat)
  case atStart => exact ⟨al, [], by go_num, Nat.le_refl _, ⟨rfl⟩, h0, ⟨Keep.refl _ _ _⟩⟩
  case round =>
    obtain ⟨k, pre, rfl, hk, hpre, hj, hkp⟩ := hrel
    cases k with
    | zero =>
      gi_wp2
      go_end0
      refine ⟨⟨_, rfl⟩, .inl ?_⟩
      have := hpre.out
      rw [show bk l 0 = [] from rfl, List.append_nil] at this
      rw [this]; exact hj
    | succ k =>
      obtain ⟨ea, hbm, ⟨xa, xn, xc, hav⟩, y0, y1, y2, y3, y4⟩ := H1.out k (by omega)
      subst ea
      have hbW : b < W.heap.size := by omega
      have hcc : ∀ o, wr.cell? ⟨b, o, none⟩ = W.cell? ⟨b, o, none⟩ := fun o => World.cell?_of_block (w := W) (a := ⟨b, o, none⟩) (hkp.out.block b hbW (.inl (hSm b hbm)))
      replace y0 := (hcc _).trans y0
      replace y1 := (hcc _).trans y1
      replace y2 := (hcc _).trans y2
      replace y3 := (hcc _).trans y3
      replace y4 := (hcc _).trans y4
      have zc : wr.cell? ⟨Bn, 0, none⟩ = some (.slice (some ⟨b, 0, none⟩) al cap) := (World.cell?_of_block (w := W) (a := ⟨Bn, 0, none⟩) (hkp.out.block Bn hBW (.inl hSB))).trans hcW
      have hpre2 : bk l al = (pre ++ [(k, tI l k)]) ++ bk l k := by rw [hpre.out]; simp [bk]
      obtain ⟨N', hp⟩ : ∃ p, tI l k = p := ⟨_, rfl⟩
      rw [hp] at y0 y1 y2 y3 y4 hpre2 hav
      have e1 : ((k + 1 : Nat) : Int) - 1 = (k : Int) := by omega
      rw [e1]
      obtain ⟨fn, tmps, assign, body, hy, hR⟩ := HY.out pre (k, N') wr hj hkp.out.size (by rw [hpre2]; exact ⟨_, rfl⟩)
      simp only [encB] at hy
      have HP := Fact.mk hpre2
      have HR := Fact.mk hR
      obtain ⟨id, nm, ats, mr, ms, av⟩ := N'
      dsimp only at hav y0 y1 y2 y3 y4 hy
      subst hav
      have hki : (k : Int) < (al : Int) := by omega
      clear H1 HY hpre hpre2 hp hR hcc
      gi_wp2
      refine HR.out.mono ?_
      rintro e W3 (⟨rfl, hJ3, hk3⟩ | ⟨rfl, hJx3⟩)
      · have HJ3 := Fact.mk hJ3
        have HK3 := Fact.mk hk3
        clear hJ3 hk3 HR hy
        gi_wp2
        go_roundw
        case rel => exact ⟨k, _, by go_num, by omega, HP, HJ3.out, ⟨hkp.out.trans HK3.out⟩⟩
        case measure => simp [intOf]
      · have HJ3 := Fact.mk hJx3
        clear hJx3 HR hy
        gi_wp2
        refine bodyPost_ret (results_none rfl _ _ _) rfl ?_
        exact ⟨⟨_, rfl⟩, .inr ⟨_, by rw [HP.out]; exact ⟨_, rfl⟩, HJ3.out⟩⟩

theorem backward_in (F : Fence) (n : Nat) (hf : F.fn 36) (hro : F.round = none) (a : Option Addr) (ln cp : Nat) (w : World) :
    CallsIn F n Tryd.prog 36 #[.slice a ln cp] w fun e w' => e = .returned (.func (.func 47) #[] #[.pointer (some ⟨w.heap.size, 0, none⟩)]) ∧ w' = w.alloc (.cells #[.slice a ln cp] 63) := by
  refine callsIn_of_wp Tryd.func36 rfl hf ?_ hro
  simp only [Tryd.ntmps36, List.size_toArray, List.length_cons, List.length_nil, Nat.reduceAdd, Nat.reduceSub, Array.replicate_succ, Array.replicate_zero, List.push_toArray, List.append_toArray, List.nil_append, List.cons_append]
  gi_wp2
  go_ret
  exact ⟨rfl, rfl⟩

theorem bk_len (l : List It) : ∀ n, (bk l n).length = n
  | 0 => rfl
  | n + 1 => by simp [bk, bk_len l n]
theorem bk_pre (l : List It) : ∀ (n : Nat) (pre : List (Nat × It)) (x : Nat × It), pre ++ [x] <+: bk l n → ∃ j, n = pre.length + (j + 1) ∧ x = (j, tI l j)
  | 0, pre, x, h => by have := h.length_le; simp [bk] at this
  | n + 1, [], x, h => by
    obtain ⟨t, ht⟩ := h
    simp [bk] at ht
    exact ⟨n, by simp, ht.1⟩
  | n + 1, p :: pre, x, h => by
    obtain ⟨t, ht⟩ := h
    have h2 : pre ++ [x] <+: bk l n := ⟨t, by simp [bk] at ht; simpa using ht.2⟩
    obtain ⟨j, e1, e2⟩ := bk_pre l n pre x h2
    exact ⟨j, by simp; omega, e2⟩
theorem fold2 (t : Array Value) (p q : Tmp) (u v : Value) : (#[p, q].zip #[u, v]).foldl (fun t (x, y) => t.setIfInBounds x y) t = (t.setIfInBounds p u).setIfInBounds q v := by
  simp
theorem free_new (w : World) (c : Array Value) (t : TypeId) (o : Nat) : (w.alloc (.cells c t)).frozen? ⟨w.heap.size, o, none⟩ = false := by
  have e : (w.alloc (.cells c t)).heap[w.heap.size]? = some (.cells c t) := heap_alloc_new w _
  simp only [World.frozen?, e]
  simp
end Go.Proofs.YtjlijpaefdbohaaDoor
