/- Attrs: attributes in new memory. -/
import Derived.Test.YtkojhgagkoeeiaaDeep
import Derived.Test.YtkojhgagkoeeiaaCmpA
set_option linter.unusedVariables false
namespace Go.Proofs.Ytkojhgagkoeeiaa
open Go.Deep (BT)
open Go.RowKit M

/-- append of nothing onto nil -/
theorem wpList_append_none {P : Program} (w : World) {ops : Array Oper} {rest : List Oper} {o : Oper} {a : Act} {Q : Exit → Act → World → Prop} (hgd : o.guard = none) (s x : Operand) (t e : TypeId) (i : TypeInfo)
    (ho : o.op = .call { callee := .builtin .append, args := #[s, x], argTypes := #[t, t] }) (ht : P.underlying t = some (.slice e)) (hi : P.info? e = some i)
    (ad : Option Addr) (c : Nat) (hs : a.eval s = .slice none 0 0) (hx : a.eval x = .slice ad 0 c) (h : wpList P ops Q rest (a.put o.dst (.slice none 0 0)) w) : wpList P ops Q (o :: rest) a w := by
  refine wpList_plain hgd fun K hK => ?_
  have hr : (Builtin.append_ #[t, t] o.type #[.slice none 0 0, .slice ad 0 c]).run P w = .ok (.slice none 0 0) w := by
    cases ad <;> simp [Builtin.append_, run_underlying ht, sizeOf, typeInfo, hi, Builtin.lenOf, Builtin.firstCells, loadCells, loadCellsFrom]
  unfold Oper.wp execOp
  simp only [ho, resolve, invoke, builtin, Sem.run_bind, Sem.run_pure, Result.andThen_ok, List.map_toArray, List.map_cons, List.map_nil, hs, hx, hr]
  exact hK _ _ h

def rowA (l : List (ByteArray × ByteArray)) : List Value := l.flatMap fun p => [.string p.1, .string p.2]
theorem rowA_len : ∀ l : List (ByteArray × ByteArray), (rowA l).length = l.length * 2
  | [] => rfl
  | p :: l => by show ([_, _] ++ rowA l).length = _; rw [List.length_append, rowA_len l]; simp; omega
theorem rowA_get : ∀ (l : List (ByteArray × ByteArray)) (i : Nat), i < l.length → (rowA l)[i * 2]? = some (.string (bs l i).1) ∧ (rowA l)[i * 2 + 1]? = some (.string (bs l i).2)
  | [], _, h => absurd h (Nat.not_lt_zero _)
  | p :: l, 0, _ => ⟨rfl, rfl⟩
  | p :: l, i + 1, h => by
    have := rowA_get l i (by simpa using h)
    have e : rowA (p :: l) = .string p.1 :: .string p.2 :: rowA l := rfl
    have e2 : bs (p :: l) (i + 1) = bs l i := rfl
    rw [e, e2, show (i + 1) * 2 = i * 2 + 1 + 1 by omega, List.getElem?_cons_succ, List.getElem?_cons_succ, List.getElem?_cons_succ, List.getElem?_cons_succ]
    exact this
theorem rowA_one (l : List (ByteArray × ByteArray)) : ∀ u ∈ rowA l, u.oneCell' = true := by
  intro u hu
  obtain ⟨p, _, hp⟩ := List.mem_flatMap.1 hu
  simp only [List.mem_cons, List.not_mem_nil, or_false] at hp
  rcases hp with rfl | rfl <;> rfl
theorem add_cell (b o j : Nat) : (⟨b, o, none⟩ : Addr).add j = ⟨b, o + j, none⟩ := by
  unfold Addr.add
  split
  · next h => rw [h]; rfl
  · rfl
theorem infoA : (Try.prog.info? 95).map (fun i => (i.zero, i.size, i.bytes)) = some (some (.agg #[.string ⟨#[]⟩, .string ⟨#[]⟩]), 2, 32) := by kernel_rfl
/-- a row of attributes of the call's own -/
theorem own_AS {w : World} {B : Nat} {v : Value} {l : List (ByteArray × ByteArray)} (h : w.ownsRow B 95 2 v l.length (rowA l)) : AS (fun b => B ≤ b) w v l := by
  rcases h.2 with ⟨rfl, h0⟩ | ⟨g, cap, cur, rfl, hg, hh, hc1, hc2, hs, ht⟩
  · rw [List.eq_nil_of_length_eq_zero h0]; exact AS.nothing
  · refine ⟨some ⟨g, 0, none⟩, cap, rfl, hc1, hc2, .inr ⟨g, 0, rfl, hg, fun i hi => ?_⟩⟩
    have hc := h.cells (g := g) rfl
    obtain ⟨g1, g2⟩ := rowA_get l i hi
    have k1 := hc _ _ g1
    have k2 := hc _ _ g2
    rw [add_cell] at k1 k2
    rw [bs_get l i hi]
    exact ⟨k1, by rw [Nat.add_assoc]; exact k2⟩

set_option maxRecDepth 20000 in
set_option maxHeartbeats 1000000 in
theorem copyAttrs_any (l : List (ByteArray × ByteArray)) (v : Value) (n : Nat) (w : World) (ha : AS (Old n) w v l) (hm : l.length ≤ 1000000) :
    Calls Try.prog 35 #[v] w fun e w' => ∃ v', e = .returned v' ∧ AS (fun b => w.heap.size ≤ b) w' v' l ∧ Below w.heap.size w w' := by
  obtain ⟨i0, hii, hz0, hz1, hz2⟩ := info_parts infoA
  by_cases h0 : l = []
  · subst h0
    obtain ⟨a, cap, rfl, h1, h2, _⟩ := ha
    go_enter Try.func35, Try.ntmps35
    go_wp2_with (at_builtin; refine wpList_append_none _ rfl (.const (.slice none 0 0)) (.tmp 3) 22 95 i0 rfl Try.underlying22 hii a cap rfl rfl ?_)
    go_ret
    exact ⟨_, rfl, AS.nothing, Below.refl _ _⟩
  · obtain ⟨a, cap, rfl, h1, h2, h3⟩ := ha
    obtain ⟨b, o, rfl, hS, hc⟩ := h3.resolve_left h0
    have HC : Fact (∀ j u, (rowA l)[j]? = some u → w.cell? ((⟨b, o, none⟩ : Addr).add j) = some u) := ⟨fun j u hu => by
      have hj : j < (rowA l).length := (List.getElem?_eq_some_iff.1 hu).1
      rw [rowA_len] at hj
      have hi : j / 2 < l.length := by omega
      obtain ⟨g1, g2⟩ := rowA_get l (j / 2) hi
      have hcc := hc (j / 2) hi
      rw [bs_get l (j / 2) hi] at hcc
      rw [add_cell]
      rcases (by omega : j = j / 2 * 2 ∨ j = j / 2 * 2 + 1) with e | e
      · rw [e] at hu ⊢
        rw [g1] at hu
        cases hu
        have : j / 2 * 2 / 2 = j / 2 := by omega
        exact hcc.1
      · rw [e] at hu ⊢
        rw [g2] at hu
        cases hu
        exact hcc.2⟩
    have HL : Fact ((rowA l).length = l.length * 2) := ⟨rowA_len l⟩
    have HO : Fact (∀ u ∈ rowA l, u.oneCell' = true) := ⟨rowA_one l⟩
    obtain ⟨al, hal⟩ : ∃ al, l.length = al := ⟨_, rfl⟩
    obtain ⟨row, hrow⟩ : ∃ row, rowA l = row := ⟨_, rfl⟩
    rw [hal, hrow] at HL
    rw [hrow] at HC HO
    rw [hal] at hm h1 ⊢
    have HAL := Fact.mk hal
    have HROW := Fact.mk hrow
    clear hal hrow h3 hc
    go_enter Try.func35, Try.ntmps35
    go_wp2_with (at_builtin; refine wpList_append_own _ rfl (.const (.slice none 0 0)) (.tmp 3) 22 rfl w.heap.size 95 i0 (.agg #[.string ⟨#[]⟩, .string ⟨#[]⟩]) 2 32 Try.underlying22 hii hz0 hz1 hz2 rfl (by decide) (.slice none 0 0) 0 [] rfl (World.ownsRow_nil _ _ _ _) ⟨b, o, none⟩ al cap row rfl HL.out HC.out HO.out (by unfold maxLen; omega) (by omega) (Nat.le_refl _) ?_; intro v' w1 hown' hgrow _)
    go_ret
    refine ⟨_, rfl, own_AS ?_, (Below.refl _ _).grown hgrow (Nat.le_refl _) (fun k e => by cases e)⟩
    rw [HAL.out, HROW.out]
    simpa using hown'
end Go.Proofs.Ytkojhgagkoeeiaa
