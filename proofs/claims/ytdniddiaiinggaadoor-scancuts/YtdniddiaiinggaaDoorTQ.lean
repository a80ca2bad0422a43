/- Plain: spans of a text put together; Place. -/
import Derived.Test.YtdniddiaiinggaaDoorTP
set_option linter.unusedVariables false
namespace Go.Proofs.YtdniddiaiinggaaDoor
open Go.RowKit M

theorem data_app (a b : ByteArray) : (a ++ b).data.toList = a.data.toList ++ b.data.toList := by simp
theorem size_app (a b : ByteArray) : (a ++ b).size = a.size + b.size := by rw [Lib.size_eq, data_app, List.length_append, ← Lib.size_eq, ← Lib.size_eq]
theorem Five.alloc {w : World} {b : Nat} {v0 v1 v2 v3 v4 : Value} (h : Five w b v0 v1 v2 v3 v4) (o : Obj) : Five (w.alloc o) b v0 v1 v2 v3 v4 := h.keep (bl1 w o)
theorem TokOut.same {w : World} {t : Tk} {E : Nat} {ok : Bool} {e : Ending} {w' : World} (h : TokOut w t E ok e w') (h0 : t.at_ = []) : ∃ a c, e = .returned (.tuple #[tokV t.kd t.n t.x (.slice a 0 c) t.raw, .int .i64 E, .bool ok]) ∧ Below w.heap.size w w' := by
  obtain ⟨v, rfl, hrow, hb⟩ := h
  obtain ⟨a, c, rfl⟩ := row_slice hrow
  rw [h0]
  exact ⟨a, c, rfl, hb⟩
theorem want_keep {w w' : World} {o : Obj} {v0 v1 v2 v3 v4 : Value} {t : TypeId} (hb : Below ((w.alloc o).alloc (.cells #[v0, v1, v2, v3, v4] t)).heap.size ((w.alloc o).alloc (.cells #[v0, v1, v2, v3, v4] t)) w') : Five w' (w.heap.size + 1) v0 v1 v2 v3 v4 := by
  have h := (Five.new (w.alloc o) v0 v1 v2 v3 v4 t).keep hb
  have e : (w.alloc o).heap.size = w.heap.size + 1 := by simp
  rw [e] at h
  exact h
theorem spN_app {p : UInt8 → Bool} : ∀ {a b : List UInt8}, (∀ c ∈ a, p c = true) → spN p (a ++ b) = a.length + spN p b
  | [], b, h => by simp
  | c :: r, b, h => by
    rw [List.cons_append, spN, if_pos (h c (List.mem_cons_self ..)), spN_app (fun x hx => h x (List.mem_cons_of_mem _ hx)), List.length_cons]
    omega
theorem spN_stop {p : UInt8 → Bool} {c : UInt8} {r : List UInt8} (h : p c = false) : spN p (c :: r) = 0 := by
  rw [spN, if_neg (by rw [h]; decide)]
theorem add_at (a b T : ByteArray) (h : a ++ b = T) (hs : a.size + b.size ≤ 100000000) (w : World) : (Op.stringOp .add a b).run Tryd.prog w = .ok (.string T) w := by
  have h1 := run_string_add_sum (P := Tryd.prog) (w := w) a b (by omega)
  rw [h] at h1
  exact h1
set_option maxRecDepth 20000 in
theorem place_gen (v N : Int) (h0 : 0 < N) (hN : N ≤ 100000000) : ∃ j : Nat, (j : Int) < N ∧ ∀ w, Calls Tryd.prog 15 #[.int .i64 v, .int .i64 N] w fun e w' => e = .returned (.int .i64 j) ∧ w' = w := by
  have h1 : -N < v.tmod N := Int.lt_tmod_of_pos v h0
  have h2 : v.tmod N < N := Int.tmod_lt_of_pos v h0
  obtain ⟨r, hr⟩ : ∃ r, v.tmod N = r := ⟨_, rfl⟩
  rw [hr] at h1 h2
  have hw : wrap64 r = r := by unfold wrap64; omega
  have hz : (N == 0) = false := beq_eq_false_iff_ne.2 (by omega)
  have hm : (N == -1) = false := beq_eq_false_iff_ne.2 (by omega)
  by_cases h : r < 0
  · have hw2 : wrap64 (r + N) = r + N := by unfold wrap64; omega
    refine ⟨(r + N).toNat, by omega, fun w => ?_⟩
    have e : (((r + N).toNat : Nat) : Int) = r + N := by omega
    rw [e]
    go_enter Tryd.func15, Tryd.ntmps15
    go_wp2
    go_ret
    exact ⟨rfl, rfl⟩
  · refine ⟨r.toNat, by omega, fun w => ?_⟩
    have e : ((r.toNat : Nat) : Int) = r := by omega
    rw [e]
    go_enter Tryd.func15, Tryd.ntmps15
    go_wp2
    go_ret
    exact ⟨rfl, rfl⟩

end Go.Proofs.YtdniddiaiinggaaDoor
