/- The map of all names, as the call makes it: its table, entry by entry; and a look-up in it. -/
import Derived.Test.YtdniddiaiinggaaDoorRows
import Derived.Test.YtdniddiaiinggaaDoorMath
import Derived.WalkKit
import Derived.Maps.OwnSet
import Derived.Deep.QuietTactic
namespace Go.Proofs.YtdniddiaiinggaaDoor
open Go.RowKit M

structure Fact (p : Prop) : Prop where
  out : p

theorem law9 : Maps.Keyed Tryd.prog 9 := Maps.string_keyed Tryd.underlying9
theorem zeroSg (w : World) : (zeroValue 115).run Tryd.prog w = .ok (.agg #[.int .i32 0, .int .i32 0, .bool false]) w := by kernel_rfl

def sgD (v : Int × Int × Bool) : DataW Unit := .agg [.lit (.int .i32 v.1), .lit (.int .i32 v.2.1), .lit (.bool v.2.2)]
def sgV (v : Int × Int × Bool) : Value := .agg #[.int .i32 v.1, .int .i32 v.2.1, .bool v.2.2]
def sgElem : Value → Option (DataW Unit × List MemPlace)
  | .agg ⟨[.int .i32 a, .int .i32 b, .bool c]⟩ => some (sgD (a, b, c), [])
  | _ => none
theorem sgElem_mk (v : Int × Int × Bool) : sgElem (sgV v) = some (sgD v, []) := rfl
theorem sgElem_inv {x : Value} {v : Int × Int × Bool} {ps : List MemPlace} (h : sgElem x = some (sgD v, ps)) : x = sgV v := by
  unfold sgElem at h
  split at h
  · obtain ⟨a, b, c⟩ := v
    simp only [sgD, Option.some.injEq, Prod.mk.injEq, DataW.agg.injEq, List.cons.injEq, DataW.lit.injEq, Lit.int.injEq, Lit.bool.injEq, true_and, and_true] at h
    obtain ⟨⟨rfl, rfl, rfl⟩, _⟩ := h
    rfl
  · cases h
def putsR : List (List UInt8 × Int × Int × Bool) → DataW Unit
  | [] => .map []
  | e :: r => (putsR r).put (.string e.1) (sgD e.2)
theorem puts_map : ∀ l, Maps.IsMap (putsR l)
  | [] => Maps.isMap_empty
  | _ :: r => (puts_map r).put _ _
theorem puts_at (k : List UInt8) (z : DataW Unit) : ∀ l, (putsR l).atKey (.string k) z = match l.lookup k with | some v => sgD v | none => z
  | [] => rfl
  | e :: r => by
    obtain ⟨a, v⟩ := e
    rw [putsR, List.lookup_cons]
    by_cases h : k = a
    · subst h
      rw [Maps.atKey_put_same (puts_map r) (show WideAt.IsKeyLit (.string k) from trivial), beq_self_eq_true]
    · rw [Maps.atKey_put_other (by intro e; exact h (by cases e; rfl)), puts_at k z r, beq_eq_false_iff_ne.2 h]
theorem puts_has (k : List UInt8) : ∀ l, Maps.has (putsR l) (.string k) = (l.lookup k).isSome
  | [] => rfl
  | e :: r => by
    obtain ⟨a, v⟩ := e
    rw [putsR, List.lookup_cons]
    by_cases h : k = a
    · subst h
      rw [Maps.has_put_same (puts_map r) (show WideAt.IsKeyLit (.string k) from trivial), beq_self_eq_true]
      rfl
    · rw [Maps.has_put_other (by intro e; exact h (by cases e; rfl)), puts_has k r, beq_eq_false_iff_ne.2 h]

/-- a map that the call makes, entry by entry -/
structure Made (w0 : World) (l : List (List UInt8 × Int × Int × Bool)) (w : World) : Prop where
  own : w.ownsMap Tryd.prog 9 sgElem w0.heap.size l.length (putsR l)
  below : Below w0.heap.size w0 w
theorem made_0 (w : World) : Made w [] (w.alloc (.map #[] 0)) := ⟨World.ownsMap_made _ _ _ _, (Below.refl _ _).alloc (Nat.le_refl _) _⟩
theorem Made.step {w0 w : World} {l : List (List UInt8 × Int × Int × Bool)} (h : Made w0 l w) (hl : l.length < 1000) (s : ByteArray) (hs : s.size ≤ 1000) (v : Int × Int × Bool) :
    ∃ w', (Instr.mapUpdate 108 (.map (some w0.heap.size)) (.string s) (sgV v)).run Tryd.prog w = .ok () w' ∧ Made w0 ((s.data.toList, v) :: l) w' := by
  obtain ⟨w', h1, h2, h3⟩ := h.own.update law9 Tryd.underlying108 (by unfold maxLen; omega) (key := .string s) (kl := .string s.data.toList) (Go.WideMaps.keyOf_string_mk Tryd.underlying9 (by unfold maxLen; omega)) (sgElem_mk v)
  exact ⟨w', h1, h2, h.below.grown h3 h.below.size (fun j hj => by cases hj; exact Nat.le_refl _)⟩
set_option maxRecDepth 20000 in
theorem upon_insert_made {o : Oper} {a : Act} {next : Act → World → Prop} {Q : Exit → Act → World → Prop} {w0 w : World} {l : List (List UInt8 × Int × Int × Bool)} (h : Made w0 l w) (s : ByteArray) (p q : Int) (c : Bool)
    (hl : (decide (l.length < 1000)) = true) (hs : decide (s.size ≤ 1000) = true) (hK : ∀ w', Made w0 ((s.data.toList, p, q, c) :: l) w' → next (a.put o.dst undef) w') :
    Oper.upon Tryd.prog o a next Q (((Instr.mapUpdate 108 (.map (some w0.heap.size)) (.string s) (.agg #[.int .i32 p, .int .i32 q, .bool c])).run Tryd.prog w).andThen fun _ w' => .ok Next.skip w') := by
  obtain ⟨w', hrun, r1⟩ := h.step (of_decide_eq_true hl) s (of_decide_eq_true hs) (p, q, c)
  have hrun' : (Instr.mapUpdate 108 (.map (some w0.heap.size)) (.string s) (.agg #[.int .i32 p, .int .i32 q, .bool c])).run Tryd.prog w = .ok () w' := hrun
  rw [hrun']
  exact hK w' r1
set_option maxRecDepth 100000 in
set_option maxHeartbeats 4000000 in
theorem names_any (w : World) : Calls Tryd.prog 96 #[] w fun e w' => e = .returned (.map (some w.heap.size)) ∧ Made w Tb w' := by
  have hmm := @run_makeMap Tryd.prog
  have hM := made_0 w
  go_enter Tryd.func96, Tryd.ntmps96
  go_wp2_with (refine upon_insert_made hM _ _ _ _ rfl rfl ?_; clear hM; intro w1 hM)
  go_ret
  exact ⟨rfl, hM⟩
end Go.Proofs.YtdniddiaiinggaaDoor
