/- slices.Clone of attributes: in new memory. -/
import Derived.Test.YtkojhgagkoeeiaaCopyA
import Derived.Laws.Cover3
set_option linter.unusedVariables false
namespace Go.Proofs.Ytkojhgagkoeeiaa
open Go.Deep (BT)
open Go.RowKit M

/-- append of nothing -/
theorem wpList_append_same {P : Program} (w : World) {ops : Array Oper} {rest : List Oper} {o : Oper} {a : Act} {Q : Exit → Act → World → Prop} (hgd : o.guard = none) (s x : Operand) (t e : TypeId) (i : TypeInfo)
    (ho : o.op = .call { callee := .builtin .append, args := #[s, x], argTypes := #[t, t] }) (ht : P.underlying t = some (.slice e)) (hi : P.info? e = some i)
    (a1 ad : Option Addr) (c : Nat) (hs : a.eval s = .slice a1 0 0) (hx : a.eval x = .slice ad 0 c) (h : wpList P ops Q rest (a.put o.dst (.slice a1 0 0)) w) : wpList P ops Q (o :: rest) a w := by
  refine wpList_plain hgd fun K hK => ?_
  have hr : (Builtin.append_ #[t, t] o.type #[.slice a1 0 0, .slice ad 0 c]).run P w = .ok (.slice a1 0 0) w := by
    cases ad <;> cases a1 <;> simp [Builtin.append_, run_underlying ht, sizeOf, typeInfo, hi, Builtin.lenOf, Builtin.firstCells, loadCells, loadCellsFrom, storeCells]
  unfold Oper.wp execOp
  simp only [ho, resolve, invoke, builtin, Sem.run_bind, Sem.run_pure, Result.andThen_ok, List.map_toArray, List.map_cons, List.map_nil, hs, hx, hr]
  exact hK _ _ h

/-- a slice held against nil -/
theorem eqNil {t e : TypeId} (h : Try.prog.underlying t = some (.slice e)) (a : Option Addr) (l c : Nat) (w : World) : (binOp .eql t (.slice a l c) (.slice none 0 0)).run Try.prog w = .ok (.bool a.isNone) w := by
  simp only [binOp, Sem.run_bind, run_equal_slice_nil w t e a l c h, Result.andThen_ok, Sem.run_pure]

set_option maxRecDepth 20000 in
set_option maxHeartbeats 1000000 in
theorem cloneA_any (l : List (ByteArray × ByteArray)) (v : Value) (n : Nat) (w : World) (ha : AS (Old n) w v l) (hm : l.length ≤ 1000000) :
    Calls Try.prog 72 #[v] w fun e w' => ∃ v', e = .returned v' ∧ AS (fun b => w.heap.size ≤ b) w' v' l ∧ Below w.heap.size w w' := by
  obtain ⟨i0, hii, hz0, hz1, hz2⟩ := info_parts infoA
  by_cases h0 : l = []
  · subst h0
    obtain ⟨a, cap, rfl, h1, h2, _⟩ := ha
    cases a with
    | none =>
      have hq : ∀ W, (binOp .eql 22 (.slice none 0 cap) (.slice none 0 0)).run Try.prog W = .ok (.bool true) W := fun W => eqNil Try.underlying22 none 0 cap W
      go_enter Try.func72, Try.ntmps72
      go_wp2_with fail
      go_ret
      exact ⟨_, rfl, AS.nothing, Below.refl _ _⟩
    | some a =>
      have hq : ∀ W, (binOp .eql 22 (.slice (some a) 0 cap) (.slice none 0 0)).run Try.prog W = .ok (.bool false) W := fun W => eqNil Try.underlying22 (some a) 0 cap W
      go_enter Try.func72, Try.ntmps72
      go_wp2_with (at_builtin; refine wpList_append_same _ rfl (.tmp 5) (.tmp 6) 22 95 i0 rfl Try.underlying22 hii _ (some a) cap rfl rfl ?_)
      go_ret
      exact ⟨_, rfl, ⟨_, 0, rfl, Nat.le_refl _, Nat.zero_le _, .inl rfl⟩, (Below.refl _ w).alloc (Nat.le_refl _) _⟩
  · obtain ⟨a, cap, rfl, h1, h2, h3⟩ := ha
    obtain ⟨b, o, rfl, hS, hc⟩ := h3.resolve_left h0
    have HC : Fact (∀ W : World, Below w.heap.size w W → ∀ j u, (rowA l)[j]? = some u → W.cell? ((⟨b, o, none⟩ : Addr).add j) = some u) := ⟨fun W hW j u hu => by
      have hj : j < (rowA l).length := (List.getElem?_eq_some_iff.1 hu).1
      rw [rowA_len] at hj
      have hi : j / 2 < l.length := by omega
      obtain ⟨g1, g2⟩ := rowA_get l (j / 2) hi
      have hcc := hc (j / 2) hi
      rw [bs_get l (j / 2) hi] at hcc
      rw [add_cell]
      rcases (by omega : j = j / 2 * 2 ∨ j = j / 2 * 2 + 1) with e | e
      · rw [e] at hu ⊢
        rw [g1] at hu
        cases hu
        have : j / 2 * 2 / 2 = j / 2 := by omega
        exact (hW.cell (p := ⟨b, o + j / 2 * 2, none⟩) (World.block_lt_of_cell? w _ hcc.1)).trans hcc.1
      · rw [e] at hu ⊢
        rw [g2] at hu
        cases hu
        exact (hW.cell (p := ⟨b, o + j / 2 * 2 + 1, none⟩) (World.block_lt_of_cell? w _ hcc.2)).trans hcc.2⟩
    have HL : Fact ((rowA l).length = l.length * 2) := ⟨rowA_len l⟩
    have HO : Fact (∀ u ∈ rowA l, u.oneCell' = true) := ⟨rowA_one l⟩
    obtain ⟨al, hal⟩ : ∃ al, l.length = al := ⟨_, rfl⟩
    obtain ⟨row, hrow⟩ : ∃ row, rowA l = row := ⟨_, rfl⟩
    rw [hal, hrow] at HL
    rw [hrow] at HC HO
    rw [hal] at hm h1 ⊢
    have HAL := Fact.mk hal
    have HROW := Fact.mk hrow
    clear hal hrow h3 hc
    have hq : ∀ W, (binOp .eql 22 (.slice (some ⟨b, o, none⟩) al cap) (.slice none 0 0)).run Try.prog W = .ok (.bool false) W := fun W => eqNil Try.underlying22 (some ⟨b, o, none⟩) al cap W
    go_enter Try.func72, Try.ntmps72
    go_wp2_with (at_builtin; refine wpList_append_own _ rfl (.tmp 5) (.tmp 6) 22 rfl w.heap.size 95 i0 (.agg #[.string ⟨#[]⟩, .string ⟨#[]⟩]) 2 32 Try.underlying22 hii hz0 hz1 hz2 rfl (by decide) (.slice (some ⟨w.heap.size, 0, none⟩) 0 0) 0 [] rfl (World.ownsRow_made w #[] 0 (Nat.le_refl _) (Nat.zero_le _) rfl) ⟨b, o, none⟩ al cap row rfl HL.out (HC.out _ ((Below.refl _ w).alloc (Nat.le_refl _) _)) HO.out (by unfold maxLen; omega) (by omega) (by simp) ?_; intro v' w1 hown' hgrow _)
    go_ret
    refine ⟨_, rfl, own_AS ?_, ((Below.refl _ w).alloc (Nat.le_refl _) _).grown hgrow (by simp) (fun k e => by cases e; exact Nat.le_refl _)⟩
    rw [HAL.out, HROW.out]
    simpa using hown'
end Go.Proofs.Ytkojhgagkoeeiaa
