/- slices.Backward: it gives a list's names, the last one first, each with its place. -/
import Derived.Test.YtnioibpeagffdaaKA
import Derived.Shelf.Abstract
import Derived.Shelf.RegionOpen
import Derived.OwnWalkIn
import Derived.TacticsInMore
import Derived.LoopNIn
import Derived.LoopIn
import Derived.Deep.LoopGhost
set_option linter.unusedVariables false
namespace Go.Proofs.Ytnioibpeagffdaa
open Go.RowKit Go.Shelf
attribute [local go_sem] Oper.semAt_some

/-- the first k names, the last one first -/
def bk (l : List ByteArray) : Nat → List (Nat × ByteArray)
  | 0 => []
  | k + 1 => (k, tx l k) :: bk l k
def encB (x : Nat × ByteArray) : Array Value := #[.int .i64 x.1, .string x.2]

set_option maxRecDepth 100000 in
set_option maxHeartbeats 2000000 in
theorem back_gives (F : Fence) (n : Nat) (hf : F.fn 26) (hro : F.round = none) (hn : 1 ≤ n) (m Bn : Nat) (v : Value) (l : List ByteArray) (S : Nat → Prop) (w : World)
    (hS : SS m w v l) (hm : m ≤ w.heap.size) (hSm : ∀ k, k < m → S k) (hB : Bn < w.heap.size) (hSB : S Bn) (hc : w.cell? ⟨Bn, 0, none⟩ = some v) :
    Gives F n Try.prog 26 #[.pointer (some ⟨Bn, 0, none⟩)] encB S (bk l l.length) w := by
  intro lp J Jx W hW hJ hJx hY h0
  have hcW := (hW.cell (p := ⟨Bn, 0, none⟩) hB).trans hc
  have hSW := hS.below hW hm
  have hWs := hW.size
  have hBW : Bn < W.heap.size := by omega
  have hmW : m ≤ W.heap.size := by omega
  clear hc hS hW
  obtain ⟨a, cap, b, o, rfl, hc1, hm1, h1⟩ := hSW
  have H1 := Fact.mk h1
  have HY := Fact.mk hY
  obtain ⟨al, hal⟩ : ∃ al, l.length = al := ⟨_, rfl⟩
  rw [hal] at H1 hc1 HY hcW ⊢
  clear h1 hal hY
  unfold maxLen at hm1
  refine callsIn_of_wp Try.func26 rfl hf ?_ hro
  simp only [Try.ntmps26, List.size_toArray, List.length_cons, List.length_nil, Nat.reduceAdd, Nat.reduceSub, Array.replicate_succ, Array.replicate_zero, List.push_toArray, List.append_toArray, List.nil_append, List.cons_append]
  gi_wp2
  gi_loopw [3] (fun i wr => ∃ (k : Nat) (pre : List (Nat × ByteArray)), i = .int .i64 ((k : Int) - 1) ∧ k ≤ al ∧ Fact (bk l al = pre ++ bk l k) ∧ J pre wr ∧ Fact (Keep S W.heap.size W wr)) (fun i _ => ((intOf i) + 1).toNat)
  case atStart => exact ⟨al, [], by go_num, Nat.le_refl _, ⟨rfl⟩, h0, ⟨Keep.refl _ _ _⟩⟩
  case round =>
    obtain ⟨k, pre, rfl, hk, hpre, hj, hkp⟩ := hrel
    cases k with
    | zero =>
      gi_wp2
      go_end0
      refine ⟨⟨_, rfl⟩, .inl ?_⟩
      have := hpre.out
      rw [show bk l 0 = [] from rfl, List.append_nil] at this
      rw [this]; exact hj
    | succ k =>
      obtain ⟨ea, hbm, y0⟩ := H1.out k (by omega)
      subst ea
      have hbW : b < W.heap.size := by omega
      have z0 : wr.cell? ⟨b, o + k, none⟩ = some (.string (tx l k)) := (World.cell?_of_block (w := W) (a := ⟨b, o + k, none⟩) (hkp.out.block b hbW (.inl (hSm b hbm)))).trans y0
      have zc : wr.cell? ⟨Bn, 0, none⟩ = some (.slice (some ⟨b, o, none⟩) al cap) := (World.cell?_of_block (w := W) (a := ⟨Bn, 0, none⟩) (hkp.out.block Bn hBW (.inl hSB))).trans hcW
      obtain ⟨N', hp⟩ : ∃ p, tx l k = p := ⟨_, rfl⟩
      have hpre2 : bk l al = (pre ++ [(k, N')]) ++ bk l k := by rw [hpre.out, ← hp]; simp [bk]
      rw [hp] at z0
      have e1 : ((k + 1 : Nat) : Int) - 1 = (k : Int) := by omega
      rw [e1]
      obtain ⟨fn, tmps, assign, body, hy, hR⟩ := HY.out pre (k, N') wr hj hkp.out.size (by rw [hpre2]; exact ⟨_, rfl⟩)
      simp only [encB] at hy
      have HP := Fact.mk hpre2
      have HR := Fact.mk hR
      clear H1 HY hpre hpre2 y0 hp hR
      gi_wp2
      refine HR.out.mono ?_
      rintro e W3 (⟨rfl, hJ3, hk3⟩ | ⟨rfl, hJx3⟩)
      · have HJ3 := Fact.mk hJ3
        have HK3 := Fact.mk hk3
        clear hJ3 hk3 HR hy
        gi_wp2
        go_roundw
        case rel => exact ⟨k, _, by go_num, by omega, HP, HJ3.out, ⟨hkp.out.trans HK3.out⟩⟩
        case measure => simp [intOf]
      · have HJ3 := Fact.mk hJx3
        clear hJx3 HR hy
        gi_wp2
        refine bodyPost_ret (results_none rfl _ _ _) rfl ?_
        exact ⟨⟨_, rfl⟩, .inr ⟨_, by rw [HP.out]; exact ⟨_, rfl⟩, HJ3.out⟩⟩

theorem backward_in (F : Fence) (n : Nat) (hf : F.fn 22) (hro : F.round = none) (a : Option Addr) (ln cp : Nat) (w : World) :
    CallsIn F n Try.prog 22 #[.slice a ln cp] w fun e w' => e = .returned (.func (.func 26) #[] #[.pointer (some ⟨w.heap.size, 0, none⟩)]) ∧ w' = w.alloc (.cells #[.slice a ln cp] 22) := by
  refine callsIn_of_wp Try.func22 rfl hf ?_ hro
  simp only [Try.ntmps22, List.size_toArray, List.length_cons, List.length_nil, Nat.reduceAdd, Nat.reduceSub, Array.replicate_succ, Array.replicate_zero, List.push_toArray, List.append_toArray, List.nil_append, List.cons_append]
  gi_wp2
  go_ret
  exact ⟨rfl, rfl⟩
end Go.Proofs.Ytnioibpeagffdaa
