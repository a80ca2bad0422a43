/- Text: of any text the call returns its number, and makes new memory alone. -/
import Derived.Test.YtfcmgkakmaclcaaHM
import Derived.Test.YtfcmgkakmaclcaaHMix
import Derived.Test.YtfcmgkakmaclcaaSmall
import Derived.Lib.BufferWrite
import Derived.Lib.SlBuf
import Derived.Laws.CopyOwn
set_option linter.unusedVariables false
set_option linter.unusedSimpArgs false
namespace Go.Proofs.Ytfcmgkakmaclcaa
open Go.Deep (BT)
open Go.RowKit Go.Shelf M
open Bt (mx sum8 IsU mx_u ret_int)

/-- the eight cells behind a copy -/
abbrev octV (l : List UInt8) : Array Value := #[.int .u8 (bt l 0), .int .u8 (bt l 1), .int .u8 (bt l 2), .int .u8 (bt l 3), .int .u8 (bt l 4), .int .u8 (bt l 5), .int .u8 (bt l 6), .int .u8 (bt l 7)]
theorem oct_cells (l : List UInt8) : (Lib.byteCells (l.take 8) ++ (List.replicate 8 (Value.int .u8 0)).drop (min l.length 8)).toArray = octV l := by
  match l with
  | [] => rfl
  | [_] => rfl
  | [_, _] => rfl
  | [_, _, _] => rfl
  | [_, _, _, _] => rfl
  | [_, _, _, _, _] => rfl
  | [_, _, _, _, _, _] => rfl
  | [_, _, _, _, _, _, _] => rfl
  | a :: b :: c :: d :: e :: f :: g :: h :: r =>
    rw [show min (a :: b :: c :: d :: e :: f :: g :: h :: r).length 8 = 8 by simp]
    simp [Lib.byteCells, bt]
theorem copy8 (W : World) (g ty : Nat) (t : ByteArray) (hg : W.heap[g]? = some (.cells #[.int .u8 0, .int .u8 0, .int .u8 0, .int .u8 0, .int .u8 0, .int .u8 0, .int .u8 0, .int .u8 0] 54 (0, 0))) :
    (Builtin.copy_ #[55, 9] ty #[.slice (some ⟨g, 0, none⟩) 8 8, .string t]).run Try.prog W = .ok (.int .i64 ((min t.size 8 : Nat) : Int)) (W.setRow g (octV t.data.toList)) := by
  have hz : t.data.toList.length = t.size := by rw [Lib.size_eq]
  have htk : List.take (Nat.min t.size 8) (List.map (fun b : UInt8 => Value.int IntKind.u8 (b.toNat : Int)) t.data.toList) = Lib.byteCells (t.data.toList.take 8) := by
    rw [← List.map_take]
    unfold Lib.byteCells
    congr 1
    by_cases h : t.size ≤ 8
    · rw [show Nat.min t.size 8 = t.size from Nat.min_eq_left h, List.take_of_length_le (by omega), List.take_of_length_le (by omega)]
    · rw [show Nat.min t.size 8 = 8 from Nat.min_eq_right (by omega)]
  have hl : (Lib.byteCells (t.data.toList.take 8)).length = min t.size 8 := by
    rw [Lib.byteCells_length, List.length_take, hz, Nat.min_comm]
  have hst := run_storeCells_at Try.prog g 0 54 (Lib.byteCells (t.data.toList.take 8)) 0 #[.int .u8 0, .int .u8 0, .int .u8 0, .int .u8 0, .int .u8 0, .int .u8 0, .int .u8 0, .int .u8 0] W hg (by rw [hl]; simp; omega) (Lib.byteCells_one _)
  simp only [Nat.add_zero] at hst
  have hq : (Try.prog.info? 5).map (·.size) = some 1 := by kernel_rfl
  cases hi : Try.prog.info? 5 with
  | none => rw [hi] at hq; cases hq
  | some i =>
    rw [hi] at hq
    simp at hq
    simp [Builtin.copy_, run_underlying (show Try.prog.underlying 55 = some (.slice 5) from Try.underlying55), Builtin.lenOf, Builtin.firstCells, sizeOf, typeInfo, hi, hq]
    rw [htk, hst]
    simp [Result.andThen]
    exact ⟨rfl, by rw [hl, ← hz, ← oct_cells]; rfl⟩

theorem oct_call (l : List UInt8) (w : World) : Calls Try.prog 27 #[.agg (octV l)] w fun e w' => e = .returned (.int .u64 (oct l)) ∧ Below w.heap.size w w' :=
  Bt.of_any _ _ _ _ _ _ _ _ _ w ⟨(bt_b l 0).1, (bt_b l 0).2⟩ ⟨(bt_b l 1).1, (bt_b l 1).2⟩ ⟨(bt_b l 2).1, (bt_b l 2).2⟩ ⟨(bt_b l 3).1, (bt_b l 3).2⟩ ⟨(bt_b l 4).1, (bt_b l 4).2⟩ ⟨(bt_b l 5).1, (bt_b l 5).2⟩ ⟨(bt_b l 6).1, (bt_b l 6).2⟩ ⟨(bt_b l 7).1, (bt_b l 7).2⟩ rfl
structure Tx (s t : ByteArray) (h : Int) : Prop where
  u : IsU h
  e : txG h t.data.toList = tx s
  z : t.size ≤ s.size
theorem Tx.step {s t : ByteArray} {h : Int} (H : Tx s t h) (h0 : 0 < t.size) : Tx s (t.extract (min t.size 8) t.size) (mx h (oct t.data.toList)) := by
  have hd : (t.extract (min t.size 8) t.size).data.toList = t.data.toList.drop 8 := by
    have := Lib.extract_toList t (min t.size 8) t.size
    rw [← Lib.toList_data, this, List.take_of_length_le (by rw [List.length_drop]; have := Lib.size_eq t; omega)]
    by_cases h8 : t.size ≤ 8
    · rw [List.drop_of_length_le (by have := Lib.size_eq t; omega), List.drop_of_length_le (by have := Lib.size_eq t; omega)]
    · rw [Nat.min_eq_right (by omega)]
  refine ⟨mx_u _ _, ?_, by rw [ByteArray.size_extract]; have := H.z; omega⟩
  rw [hd, txG_step _ _ (by have := Lib.size_eq t; omega)]
  exact H.e

set_option maxRecDepth 100000 in
set_option maxHeartbeats 4000000 in
theorem htext_any (s : ByteArray) (w : World) :
    Calls Try.prog 14 #[.string s] w fun e w' => e = .returned (.int .u64 (tx s)) ∧ Below w.heap.size w w' := by
  obtain ⟨U, hU⟩ : ∃ U, IntKind.u64.wrap (s.size : Int) = U := ⟨_, rfl⟩
  have hUU : IsU U := by rw [← hU]; exact wrap_u _
  have hTx : Fact (Tx s s U) := ⟨⟨hUU, by rw [← hU]; rfl, Nat.le_refl _⟩⟩
  clear hUU
  go_enter Try.func14, Try.ntmps14
  go_wp2
  go_loopg [0, 3] s.size (fun gf sv hv wr => ∃ (t : ByteArray) (h : Int), (sv = .string t ∧ hv = .int .u64 h) ∧ t.size ≤ gf ∧ Fact (Below w.heap.size w wr) ∧ Fact (Tx s t h))
  case atStart => exact ⟨s, U, ⟨rfl, rfl⟩, by omega, ⟨Below.refl _ _⟩, hTx⟩
  case round =>
    obtain ⟨t, h, ⟨rfl, rfl⟩, hfu, hBr, hT⟩ := hrel
    have hts := hT.out.z
    by_cases h0 : t.size = 0
    · have e0 : txG h t.data.toList = h := by
        have : t.data.toList = [] := List.eq_nil_of_length_eq_zero (by rw [← Lib.size_eq]; exact h0)
        rw [this]; exact txG_nil _
      have e1 := hT.out.e
      rw [e0] at e1
      have E1 := Fact.mk e1
      clear e0 e1
      go_wp2
      go_ret
      exact ⟨ret_int E1.out, hBr.out⟩
    · obtain ⟨g', rfl⟩ : ∃ g', gk = g' + 1 := ⟨gk - 1, by omega⟩
      obtain ⟨W1, hW1⟩ : ∃ W1, wr.alloc (.cells #[.int .u8 0, .int .u8 0, .int .u8 0, .int .u8 0, .int .u8 0, .int .u8 0, .int .u8 0, .int .u8 0] 54) = W1 := ⟨_, rfl⟩
      have hz1 : W1.heap.size = wr.heap.size + 1 := by rw [← hW1]; simp
      have hg1 : W1.heap[wr.heap.size]? = some (.cells #[.int .u8 0, .int .u8 0, .int .u8 0, .int .u8 0, .int .u8 0, .int .u8 0, .int .u8 0, .int .u8 0] 54 (0, 0)) := by rw [← hW1]; exact Array.getElem?_push_size
      have hB1 : Below w.heap.size w W1 := by rw [← hW1]; exact hBr.out.alloc hBr.out.size _
      obtain ⟨T, hT1⟩ : ∃ T, t.extract (min t.size 8) t.size = T := ⟨_, rfl⟩
      obtain ⟨m, hm⟩ : ∃ m, min t.size 8 = m := ⟨_, rfl⟩
      have hst := hT.out.step (by omega)
      rw [hT1] at hst
      have hcp := fun ty => copy8 W1 wr.heap.size ty t hg1
      rw [hm] at hcp hT1
      obtain ⟨W2, hW2⟩ : ∃ W2, W1.setRow wr.heap.size (octV t.data.toList) = W2 := ⟨_, rfl⟩
      rw [hW2] at hcp
      have hg2 : W2.heap[wr.heap.size]? = some (.cells (octV t.data.toList) 54 (0, 0)) := by rw [← hW2]; exact setRow_heap W1 _ _ _ _ _ hg1
      have hB2 : Below w.heap.size w W2 := by rw [← hW2]; exact below_setRow hB1 hBr.out.size _
      have c0 : W2.cell? ⟨wr.heap.size, 0, none⟩ = some (.int .u8 (bt t.data.toList 0)) := by simp [World.cell?, hg2]
      have c1 : W2.cell? ⟨wr.heap.size, 1, none⟩ = some (.int .u8 (bt t.data.toList 1)) := by simp [World.cell?, hg2]
      have c2 : W2.cell? ⟨wr.heap.size, 2, none⟩ = some (.int .u8 (bt t.data.toList 2)) := by simp [World.cell?, hg2]
      have c3 : W2.cell? ⟨wr.heap.size, 3, none⟩ = some (.int .u8 (bt t.data.toList 3)) := by simp [World.cell?, hg2]
      have c4 : W2.cell? ⟨wr.heap.size, 4, none⟩ = some (.int .u8 (bt t.data.toList 4)) := by simp [World.cell?, hg2]
      have c5 : W2.cell? ⟨wr.heap.size, 5, none⟩ = some (.int .u8 (bt t.data.toList 5)) := by simp [World.cell?, hg2]
      have c6 : W2.cell? ⟨wr.heap.size, 6, none⟩ = some (.int .u8 (bt t.data.toList 6)) := by simp [World.cell?, hg2]
      have c7 : W2.cell? ⟨wr.heap.size, 7, none⟩ = some (.int .u8 (bt t.data.toList 7)) := by simp [World.cell?, hg2]
      have hml : m ≤ t.size := by omega
      have hm0 : 0 < m := by omega
      have hTz : T.size + m = t.size := by rw [← hT1, ByteArray.size_extract]; omega
      have hsl : ∀ w, (Instr.slice 9 (.string t) (some (.int .i64 (m : Int))) none none).run Try.prog w = .ok (.string T) w := by
        intro w
        have h1 : (0 : Int) ≤ m := by omega
        have h2 : (m : Int) ≤ t.size := by omega
        go_simp
      have HT := Fact.mk hst
      have HTz := Fact.mk (show T.size ≤ g' by omega)
      have HB2 := Fact.mk hB2
      have h0t : 0 < t.size := by omega
      have hU := hT.out.u
      clear hst hT hfu hg1 hB1 hW2 hB2 hg2 hz1 hm hT1 hTz hml hm0 hts
      go_wp2_with (first
        | (at_builtin; refine Lib.wpList_copy_run _ rfl _ _ 55 9 rfl _ _ rfl rfl (hcp _) ?_)
        | (go_at_call 27; refine (oct_call t.data.toList _).mono ?_; rintro e w3 ⟨rfl, hb3⟩)
        | (go_at_call 26; refine (Bt.mix_any _ _ _ hU (oct_u _)).mono ?_; rintro e w4 ⟨rfl, rfl⟩))
      go_roundg g'
      case measure => omega
      case rel => exact ⟨T, _, ⟨rfl, rfl⟩, HTz.out, ⟨HB2.out.trans (hb3.mono HB2.out.size)⟩, HT⟩
end Go.Proofs.Ytfcmgkakmaclcaa
