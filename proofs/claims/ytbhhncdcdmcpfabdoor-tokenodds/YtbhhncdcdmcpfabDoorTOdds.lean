/- TokenOdds. -/
import Derived.Test.YtbhhncdcdmcpfabDoorTP
import Derived.Deep.QuietTactic
import Derived.BigQuiet
set_option linter.unusedVariables false
namespace Go.Proofs.YtbhhncdcdmcpfabDoor
open Go.RowKit M

theorem below_drewN {B : Nat} {a w : World} (h : Below B a w) (n : Nat) : Below B a (w.drewN n) := ⟨h.os, h.tape, h.output, h.size, h.block⟩
theorem od_open {l : List UInt8} (h0 : bAt l 0 = 60) {t : Tk} {E : Nat} {ok : Bool} (h : NxR l 0 [] t E ok) : OpR l 0 t E ok := by
  unfold NxR at h
  rw [if_pos rfl] at h
  unfold NxN at h
  rw [if_pos h0] at h
  exact h
/-- what opened asks, for a text that is known -/
def odS (l : List UInt8) : Nat :=
  if ltrAt l 1 = true then 1
  else if ([60, 47].isPrefixOf (l.drop 0) && ltrAt l 2) = true then 2
  else if [60, 47, 62].isPrefixOf (l.drop 0) = true then 3
  else if [60, 33, 45, 45].isPrefixOf (l.drop 0) = true then 4
  else if [60, 33, 100, 111, 99, 116, 121, 112, 101].isPrefixOf (lwL (l.drop 0)) = true then 5
  else if ([60, 33].isPrefixOf (l.drop 0) || ([60, 47].isPrefixOf (l.drop 0) && !(l.drop 0 == [60, 47]))) = true then 6
  else if [60, 63].isPrefixOf (l.drop 0) = true then 7
  else 8
theorem od_is {l : List UInt8} {t : Tk} {E : Nat} {ok : Bool} (h : OpR l 0 t E ok) : (odS l = 3 → t.Is 0 [] [] [] false ∧ E = 3 ∧ ok = false) ∧ (odS l = 6 → BogR l 2 t E ok) ∧ (odS l = 7 → BogR l 1 t E ok) ∧ (odS l = 8 → t.Is 3 [] [60] [] false ∧ E = 1 ∧ ok = true) := by
  unfold OpR at h
  unfold odS
  rw [Nat.zero_add, Nat.zero_add] at h
  split at h
  · rename_i c
    rw [if_pos c]
    exact ⟨(fun e => by cases e), (fun e => by cases e), (fun e => by cases e), (fun e => by cases e)⟩
  rename_i c1
  rw [if_neg c1]
  split at h
  · rename_i c
    rw [if_pos c]
    exact ⟨(fun e => by cases e), (fun e => by cases e), (fun e => by cases e), (fun e => by cases e)⟩
  rename_i c2
  rw [if_neg c2]
  split at h
  · rename_i c
    rw [if_pos c]
    exact ⟨fun _ => h, (fun e => by cases e), (fun e => by cases e), (fun e => by cases e)⟩
  rename_i c3
  rw [if_neg c3]
  split at h
  · rename_i c
    rw [if_pos c]
    exact ⟨(fun e => by cases e), (fun e => by cases e), (fun e => by cases e), (fun e => by cases e)⟩
  rename_i c4
  rw [if_neg c4]
  split at h
  · rename_i c
    rw [if_pos c]
    exact ⟨(fun e => by cases e), (fun e => by cases e), (fun e => by cases e), (fun e => by cases e)⟩
  rename_i c5
  rw [if_neg c5]
  split at h
  · rename_i c
    rw [if_pos c]
    exact ⟨(fun e => by cases e), fun _ => h, (fun e => by cases e), (fun e => by cases e)⟩
  rename_i c6
  rw [if_neg c6]
  split at h
  · rename_i c
    rw [if_pos c]
    exact ⟨(fun e => by cases e), (fun e => by cases e), fun _ => h, (fun e => by cases e)⟩
  rename_i c7
  rw [if_neg c7]
  exact ⟨(fun e => by cases e), (fun e => by cases e), (fun e => by cases e), fun _ => h⟩
/-- the texts by their number -/
def ot : Nat → ByteArray
  | 0 => ⟨#[60]⟩
  | 1 => ⟨#[60, 32, 97, 62]⟩
  | 2 => ⟨#[60, 47]⟩
  | 3 => ⟨#[60, 49, 62]⟩
  | _ => ⟨#[60, 61]⟩
def os : Nat → ByteArray
  | 0 => ⟨#[60, 33, 120, 62]⟩
  | 1 => ⟨#[60, 63, 120, 62]⟩
  | 2 => ⟨#[60, 47, 32, 120, 62]⟩
  | 3 => ⟨#[60, 33, 62]⟩
  | 4 => ⟨#[60, 33, 91, 67, 68, 65, 84, 65, 91, 120, 93, 93, 62]⟩
  | _ => ⟨#[60, 47, 49]⟩
def ow : Nat → ByteArray
  | 0 => ⟨#[120]⟩
  | 1 => ⟨#[63, 120]⟩
  | 2 => ⟨#[32, 120]⟩
  | 3 => ⟨#[]⟩
  | 4 => ⟨#[91, 67, 68, 65, 84, 65, 91, 120, 93, 93]⟩
  | _ => ⟨#[49]⟩
theorem five5 {j : Nat} (h : j < 5) : j = 0 ∨ j = 1 ∨ j = 2 ∨ j = 3 ∨ j = 4 := by omega
theorem six6 {j : Nat} (h : j < 6) : j = 0 ∨ j = 1 ∨ j = 2 ∨ j = 3 ∨ j = 4 ∨ j = 5 := by omega
theorem ot_ok {j : Nat} (h : j < 5) : odS (ot j).data.toList = 8 ∧ bAt (ot j).data.toList 0 = 60 ∧ IsSm (ot j).size ∧ 0 < (ot j).size := by
  rcases five5 h with rfl | rfl | rfl | rfl | rfl <;> exact ⟨by decide, by decide, ⟨by decide⟩, by decide⟩
theorem ot_next {j : Nat} (h : j < 5) (w : World) (hl : Laid w) : Calls Tryd.prog 4 #[.string (ot j), .int .i64 0, .string ⟨#[]⟩] w fun e w' => TokOut w ⟨3, ⟨#[]⟩, ⟨#[60]⟩, [], false⟩ 1 true e w' := by
  obtain ⟨h1, h2, h3, h4⟩ := ot_ok h
  exact next_is (ot j) ⟨#[]⟩ ⟨#[]⟩ ⟨#[60]⟩ 0 3 [] false 1 true h3 ⟨by decide⟩ h4 (fun t' E' ok' hR => (od_is (od_open h2 hR)).2.2.2 h1) w hl
def bogX (l : List UInt8) (k : Nat) : List UInt8 := sub l k (spE (fun x => x != 62) l k)
def bogE (l : List UInt8) (k : Nat) : Nat := min (spE (fun x => x != 62) l k + 1) l.length
theorem os_ok {j : Nat} (h : j < 6) : (odS (os j).data.toList = 6 ∧ bogX (os j).data.toList 2 = (ow j).data.toList ∧ bogE (os j).data.toList 2 = (os j).size ∨ odS (os j).data.toList = 7 ∧ bogX (os j).data.toList 1 = (ow j).data.toList ∧ bogE (os j).data.toList 1 = (os j).size) ∧ bAt (os j).data.toList 0 = 60 ∧ IsSm (os j).size ∧ 0 < (os j).size := by
  rcases six6 h with rfl | rfl | rfl | rfl | rfl | rfl
  · exact ⟨Or.inl ⟨by decide, by decide, by decide⟩, by decide, ⟨by decide⟩, by decide⟩
  · exact ⟨Or.inr ⟨by decide, by decide, by decide⟩, by decide, ⟨by decide⟩, by decide⟩
  · exact ⟨Or.inl ⟨by decide, by decide, by decide⟩, by decide, ⟨by decide⟩, by decide⟩
  · exact ⟨Or.inl ⟨by decide, by decide, by decide⟩, by decide, ⟨by decide⟩, by decide⟩
  · exact ⟨Or.inl ⟨by decide, by decide, by decide⟩, by decide, ⟨by decide⟩, by decide⟩
  · exact ⟨Or.inl ⟨by decide, by decide, by decide⟩, by decide, ⟨by decide⟩, by decide⟩
theorem bog_is {l : List UInt8} {k : Nat} {t : Tk} {E : Nat} {ok : Bool} (h : BogR l k t E ok) : t.Is 4 [] (bogX l k) [] false ∧ E = bogE l k ∧ ok = true := h
theorem os_next {j : Nat} (h : j < 6) (w : World) (hl : Laid w) : Calls Tryd.prog 4 #[.string (os j), .int .i64 0, .string ⟨#[]⟩] w fun e w' => TokOut w ⟨4, ⟨#[]⟩, ow j, [], false⟩ (os j).size true e w' := by
  obtain ⟨h1, h2, h3, h4⟩ := os_ok h
  refine next_is (os j) ⟨#[]⟩ ⟨#[]⟩ (ow j) 0 4 [] false (os j).size true h3 ⟨by decide⟩ h4 (fun t' E' ok' hR => ?_) w hl
  have ho := od_is (od_open h2 hR)
  rcases h1 with ⟨e1, e2, e3⟩ | ⟨e1, e2, e3⟩
  · have hb := bog_is (ho.2.1 e1)
    rw [e2, e3] at hb
    exact hb
  · have hb := bog_is (ho.2.2.1 e1)
    rw [e2, e3] at hb
    exact hb
theorem oz_next (w : World) (hl : Laid w) : Calls Tryd.prog 4 #[.string ⟨#[60, 47, 62]⟩, .int .i64 0, .string ⟨#[]⟩] w fun e w' => TokOut w ⟨0, ⟨#[]⟩, ⟨#[]⟩, [], false⟩ 3 false e w' :=
  next_is ⟨#[60, 47, 62]⟩ ⟨#[]⟩ ⟨#[]⟩ ⟨#[]⟩ 0 0 [] false 3 false ⟨by decide⟩ ⟨by decide⟩ (by decide) (fun t' E' ok' hR => (od_is (od_open (by decide) hR)).1 (by decide)) w hl
theorem TokOut.same {w : World} {t : Tk} {E : Nat} {ok : Bool} {e : Ending} {w' : World} (h : TokOut w t E ok e w') (h0 : t.at_ = []) : ∃ a c, e = .returned (.tuple #[tokV t.kd t.n t.x (.slice a 0 c) t.raw, .int .i64 E, .bool ok]) ∧ Below w.heap.size w w' := by
  obtain ⟨v, rfl, hrow, hb⟩ := h
  obtain ⟨a, c, rfl⟩ := row_slice hrow
  rw [h0]
  exact ⟨a, c, rfl, hb⟩
set_option maxRecDepth 20000 in
set_option maxHeartbeats 2000000 in
theorem odds_walk (w : World) (hl : Laid w) : Calls Tryd.prog 3 #[] w fun e w' => e = .returned (.bool true) ∧ Below w.heap.size w w' := by
  have HL := Fact.mk hl
  clear hl
  go_enter Tryd.func3, Tryd.ntmps3
  go_wp2_with fail
  have HB0 := Fact.mk (bl1 w (.cells #[.string ⟨#[60]⟩, .string ⟨#[60, 32, 97, 62]⟩, .string ⟨#[60, 47]⟩, .string ⟨#[60, 49, 62]⟩, .string ⟨#[60, 61]⟩] 22))
  have HC0 : Fact (∀ j, j < 5 → (w.alloc (.cells #[.string ⟨#[60]⟩, .string ⟨#[60, 32, 97, 62]⟩, .string ⟨#[60, 47]⟩, .string ⟨#[60, 49, 62]⟩, .string ⟨#[60, 61]⟩] 22)).cell? ⟨w.heap.size, j, none⟩ = some (.string (ot j))) := ⟨fun j hj => by
    rcases five5 hj with rfl | rfl | rfl | rfl | rfl <;> exact World.cell?_alloc_new w _ _ _⟩
  go_loopw [2] (fun i wx => ∃ j : Nat, i = .int .i64 j ∧ j ≤ 5 ∧ Below w.heap.size w wx ∧ w.heap.size < wx.heap.size ∧ Fact (∀ j, j < 5 → wx.cell? ⟨w.heap.size, j, none⟩ = some (.string (ot j)))) (fun i _ => 5 - (intOf i).toNat)
  case atStart => exact ⟨0, rfl, Nat.zero_le _, HB0.out, by simp, HC0⟩
  case round =>
    clear HC0 HB0
    obtain ⟨j, rfl, hj, hb, hlt0, hc⟩ := hrel
    by_cases hlt : j < 5
    · have g1 : (j : Int) < 5 := by omega
      have g2 : decide ((j : Int) < 5) = true := decide_eq_true g1
      have g2n : decide (j < 5) = true := decide_eq_true hlt
      have g3 : (0 : Int) ≤ j := by omega
      have hw1 : wrap64 ((j : Int) + 1) = (j : Int) + 1 := wrap_ok (m := j + 1) rfl ⟨by omega⟩
      have hcell := hc.out j hlt
      have KA := Fact.mk (ot_next hlt wr (HL.out.since hb))
      obtain ⟨S, hS⟩ : ∃ S, ot j = S := ⟨_, rfl⟩
      rw [hS] at hcell KA
      clear hS
      go_wp2_with (first
        | (go_at_call 4; refine KA.out.mono ?_; intro e w2 h1; obtain ⟨va, vc, rfl, hb1⟩ := h1.same rfl; have HB1 := Fact.mk hb1; clear h1 hb1 hcell))
      have hbb := hb.trans (HB1.out.mono hb.size)
      go_roundw
      case rel => exact ⟨j + 1, by (first | exact int_eq rfl | exact int_eq hw1), hlt, hbb.alloc hbb.size _, Nat.lt_of_lt_of_le hlt0 (Nat.le_trans HB1.out.size (bl1 _ _).size), ⟨fun i hi => by
        have h1 := (bl1 w2 (.cells #[.int .i64 3, .string ⟨#[]⟩, .string ⟨#[60]⟩, .slice va 0 vc, .bool false] 25)).cell (p := ⟨w.heap.size, i, none⟩) (Nat.lt_of_lt_of_le hlt0 HB1.out.size)
        have h2 := HB1.out.cell (p := ⟨w.heap.size, i, none⟩) hlt0
        exact (h1.trans h2).trans (hc.out i hi)⟩⟩
      case measure => (try rw [hw1]); simp only [intOf]; omega
    · have g5 : (5 : Int) ≤ j := by omega
      have g6 : decide ((j : Int) < 5) = false := decide_eq_false (by omega)
      have g7 : decide (j < 5) = false := decide_eq_false hlt
      clear hc
      rename World => wa
      go_wp2_with fail
      obtain ⟨o1, ho1⟩ : ∃ o : Obj, (Obj.cells #[.string ⟨#[60, 33, 120, 62]⟩, .string ⟨#[60, 63, 120, 62]⟩, .string ⟨#[60, 47, 32, 120, 62]⟩, .string ⟨#[60, 33, 62]⟩, .string ⟨#[60, 33, 91, 67, 68, 65, 84, 65, 91, 120, 93, 93, 62]⟩, .string ⟨#[60, 47, 49]⟩] 28) = o := ⟨_, rfl⟩
      obtain ⟨o2, ho2⟩ : ∃ o : Obj, (Obj.cells #[.string ⟨#[120]⟩, .string ⟨#[63, 120]⟩, .string ⟨#[32, 120]⟩, .string ⟨#[]⟩, .string ⟨#[91, 67, 68, 65, 84, 65, 91, 120, 93, 93]⟩, .string ⟨#[49]⟩] 28) = o := ⟨_, rfl⟩
      have C1 : Fact (∀ j, j < 6 → ((wa.alloc o1).alloc o2).cell? ⟨wa.heap.size, j, none⟩ = some (.string (os j))) := ⟨fun j hj => by
        have h1 := (bl1 (wa.alloc o1) o2).cell (p := ⟨wa.heap.size, j, none⟩) (by simp)
        rw [h1, ← ho1]
        rcases six6 hj with rfl | rfl | rfl | rfl | rfl | rfl <;> exact World.cell?_alloc_new wa _ _ _⟩
      have C2 : Fact (∀ j, j < 6 → ((wa.alloc o1).alloc o2).cell? ⟨wa.heap.size + 1, j, none⟩ = some (.string (ow j))) := ⟨fun j hj => by
        have e : (wa.alloc o1).heap.size = wa.heap.size + 1 := by simp
        rw [← e, ← ho2]
        rcases six6 hj with rfl | rfl | rfl | rfl | rfl | rfl <;> exact World.cell?_alloc_new _ _ _ _⟩
      have HBB := Fact.mk ((hb.alloc hb.size o1).alloc (hb.alloc hb.size o1).size o2)
      rw [ho1, ho2]
      clear ho1 ho2
      go_loopw [8] (fun i wx => ∃ j : Nat, i = .int .i64 j ∧ j ≤ 6 ∧ Below w.heap.size w wx ∧ wa.heap.size + 1 < wx.heap.size ∧ Fact (∀ j, j < 6 → wx.cell? ⟨wa.heap.size, j, none⟩ = some (.string (os j))) ∧ Fact (∀ j, j < 6 → wx.cell? ⟨wa.heap.size + 1, j, none⟩ = some (.string (ow j)))) (fun i _ => 6 - (intOf i).toNat)
      case atStart => exact ⟨0, rfl, Nat.zero_le _, HBB.out, by simp, C1, C2⟩
      case round =>
        clear C1 C2 HBB
        obtain ⟨j, rfl, hj, hb2, hlt1, hc1, hc2⟩ := hrel
        by_cases hlt : j < 6
        · have g1 : (j : Int) < 6 := by omega
          have g2 : decide ((j : Int) < 6) = true := decide_eq_true g1
          have g2n : decide (j < 6) = true := decide_eq_true hlt
          have g3 : (0 : Int) ≤ j := by omega
          have hw1 : wrap64 ((j : Int) + 1) = (j : Int) + 1 := wrap_ok (m := j + 1) rfl ⟨by omega⟩
          have hcell := hc1.out j hlt
          have hcell2 := Fact.mk (hc2.out j hlt)
          have KA := Fact.mk (os_next hlt wr (HL.out.since hb2))
          obtain ⟨S, hS⟩ : ∃ S, os j = S := ⟨_, rfl⟩
          obtain ⟨X, hX⟩ : ∃ X, ow j = X := ⟨_, rfl⟩
          rw [hS] at hcell KA
          rw [hX] at hcell2 KA
          have HS := Fact.mk hcell
          clear hS hX
          have q1 : (((S.size : Int)) != (S.size : Int)) = false := by simp
          have q2 : (X.toList == X.toList) = true := beq_self_eq_true _
          have hB1 : wa.heap.size < wr.heap.size := by omega
          go_wp2_with (first
            | (go_at_call 4; refine KA.out.mono ?_; intro e w2 h1; obtain ⟨va, vc, rfl, hb1⟩ := h1.same rfl; have HB1 := Fact.mk hb1; have X1 : ∀ o, (w2.alloc o).cell? ⟨wa.heap.size, j, none⟩ = some (.string S) := (fun o => ((bl1 w2 o).cell (p := ⟨wa.heap.size, j, none⟩) (Nat.lt_of_lt_of_le hB1 HB1.out.size)).trans ((HB1.out.cell (p := ⟨wa.heap.size, j, none⟩) hB1).trans HS.out)); have X2 : ∀ o, (w2.alloc o).cell? ⟨wa.heap.size + 1, j, none⟩ = some (.string X) := (fun o => ((bl1 w2 o).cell (p := ⟨wa.heap.size + 1, j, none⟩) (Nat.lt_of_lt_of_le hlt1 HB1.out.size)).trans ((HB1.out.cell (p := ⟨wa.heap.size + 1, j, none⟩) hlt1).trans hcell2.out)); clear h1 hb1 hcell))
          go_quiet (fail)
          go_wp2_with fail
          have hbb := hb2.trans (HB1.out.mono hb2.size)
          go_roundw
          case rel =>
            refine ⟨j + 1, by (first | exact int_eq rfl | exact int_eq hw1), hlt, below_drewN (hbb.alloc hbb.size _) _, Nat.lt_of_lt_of_le hlt1 (Nat.le_trans HB1.out.size (bl1 _ _).size), ⟨fun i hi => ?_⟩, ⟨fun i hi => ?_⟩⟩
            · have h1 := (below_drewN (bl1 w2 (.cells #[.int .i64 4, .string ⟨#[]⟩, .string X, .slice va 0 vc, .bool false] 25)) nq).cell (p := ⟨wa.heap.size, i, none⟩) (Nat.lt_of_lt_of_le hB1 HB1.out.size)
              have h2 := HB1.out.cell (p := ⟨wa.heap.size, i, none⟩) hB1
              exact (h1.trans h2).trans (hc1.out i hi)
            · have h1 := (below_drewN (bl1 w2 (.cells #[.int .i64 4, .string ⟨#[]⟩, .string X, .slice va 0 vc, .bool false] 25)) nq).cell (p := ⟨wa.heap.size + 1, i, none⟩) (Nat.lt_of_lt_of_le hlt1 HB1.out.size)
              have h2 := HB1.out.cell (p := ⟨wa.heap.size + 1, i, none⟩) hlt1
              exact (h1.trans h2).trans (hc2.out i hi)
          case measure => (try rw [hw1]); simp only [intOf]; omega
        · have e : j = 6 := by omega
          subst e
          clear hc1 hc2
          have KZ := Fact.mk (oz_next wr (HL.out.since hb2))
          go_wp2_with (first
            | (go_at_call 4; refine KZ.out.mono ?_; intro e w2 h1; obtain ⟨va, vc, rfl, hb1⟩ := h1.same rfl; have HB1 := Fact.mk (hb2.trans (hb1.mono hb2.size)); clear h1 hb1)
            | (go_at_call 5; refine (awake10_true _ (HL.out.since (HB1.out.alloc HB1.out.size _))).mono ?_; rintro e w3 ⟨rfl, hb3⟩; have HB3 := Fact.mk ((HB1.out.alloc HB1.out.size _).trans (hb3.mono (HB1.out.alloc HB1.out.size _).size)); clear hb3))
          go_ret
          exact ⟨rfl, HB3.out⟩
end Go.Proofs.YtbhhncdcdmcpfabDoor
