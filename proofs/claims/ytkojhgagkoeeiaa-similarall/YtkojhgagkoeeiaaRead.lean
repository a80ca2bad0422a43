/- A tree that came in, read: whatever can be read as data of the type Tree is a tree that lies in memory. -/
import Derived.Test.YtkojhgagkoeeiaaAwake
import Derived.Deep.SlicePairs
import Derived.ProofKit
import Derived.OpenShut
set_option linter.unusedVariables false
namespace Go.Proofs.Ytkojhgagkoeeiaa
open Go.Deep (BT add_add)
open Go.RowKit M Go.ChangeShapes Go.WideShapes

theorem cellsI : Try.prog.cellsOf 3 = 1 := by kernel_rfl
theorem cellsS : Try.prog.cellsOf 9 = 1 := by kernel_rfl
theorem cellsA : Try.prog.cellsOf 95 = 2 := by kernel_rfl
theorem cellsT : Try.prog.cellsOf 25 = 5 := by kernel_rfl
theorem cellsAS : Try.prog.cellsOf 22 = 1 := by kernel_rfl
theorem cellsTS : Try.prog.cellsOf 23 = 1 := by kernel_rfl

theorem add_plain (b o i : Nat) : (⟨b, o, none⟩ : Addr).add i = ⟨b, o + i, none⟩ := by
  unfold Addr.add; split
  · next h => subst h; rfl
  · rfl
theorem spot_none {w : World} {a : Addr} {v : Value} (h : w.cell? a = some v) : a = ⟨a.block, a.off, none⟩ := by
  obtain ⟨b, o, s⟩ := a
  cases s with
  | none => rfl
  | some q =>
    exfalso
    unfold World.cell? at h
    dsimp only at h
    split at h
    · simp at h
    · cases h

section
variable {H : Type} {enc : TypeId × Value → H} {w : World} {base : Nat} {spare : Nat → Bool} {held : Bool}

theorem read_attrs {fuel : Nat} {cs : List Value} {x : DataW H × List MemPlace} (h : DataW.trod enc Try.prog w base spare held fuel 22 cs = some x) :
    ∃ v l, cs = [v] ∧ AS (Old w.heap.size) w v l := by
  rcases Go.Deep.open_slice_pairs Try.underlying22 Try.underlying95 cellsA rfl rfl cellsS cellsS h with ⟨rfl, _⟩ | ⟨a, len, cap, m, n, V0, V1, D0, D1, P0, P1, rfl, hb, hl, hm, hmm, hx, hc⟩
  · exact ⟨_, [], rfl, AS.nothing⟩
  · have hlm : len ≤ m := by rw [hmm]; split <;> omega
    have hs : ∀ i, i < len → ∃ q : ByteArray × ByteArray, V0 i = .string q.1 ∧ V1 i = .string q.2 := fun i hi => by
      obtain ⟨_, _, h0, h1⟩ := hc i (by omega)
      obtain ⟨s0, e0, _⟩ := DataW.trod_string Try.underlying9 h0
      obtain ⟨s1, e1, _⟩ := DataW.trod_string Try.underlying9 h1
      exact ⟨(s0, s1), by simpa using e0, by simpa using e1⟩
    refine ⟨_, (List.range len).map (fun i => (match V0 i with | .string s => s | _ => ⟨#[]⟩, match V1 i with | .string s => s | _ => ⟨#[]⟩)), rfl, some a, cap, by simp, by simpa using hl, hm, ?_⟩
    by_cases h0 : len = 0
    · left; subst h0; rfl
    · right
      have c0 := (hc 0 (by omega)).1
      have ea := spot_none (show w.cell? a = _ from c0)
      refine ⟨a.block, a.off, by rw [← ea], World.block_lt_of_cell? w _ c0, fun i hi => ?_⟩
      have hi' : i < len := by simpa using hi
      obtain ⟨d0, d1, _⟩ := hc i (by omega)
      obtain ⟨q, e0, e1⟩ := hs i hi'
      rw [ea, add_plain] at d0 d1
      simp only [List.getElem_map, List.getElem_range, e0, e1]
      rw [e0] at d0
      rw [e1] at d1
      exact ⟨d0, d1⟩

set_option maxRecDepth 20000 in
theorem read_node {fuel : Nat} {cs : List Value} {x : DataW H × List MemPlace} (h : DataW.trod enc Try.prog w base spare held fuel 25 cs = some x) :
    ∃ n K N X v3 v4 y3 y4, fuel = n + 1 ∧ cs = [.int .i64 K, .string N, .string X, v3, v4] ∧ DataW.trod enc Try.prog w base spare held n 22 [v3] = some y3 ∧ DataW.trod enc Try.prog w base spare held n 23 [v4] = some y4 := by
  obtain ⟨xs, n, hk, hxy, hcl, hxl, hf⟩ := DataW.trod_struct Try.underlying25 h
  rw [cellsT] at hcl
  match xs, hxl, cs, hcl with
  | [y0, y1, y2, y3, y4], _, [v0, v1, v2, v3, v4], _ =>
    have g0 := hf 0 _ rfl
    have g1 := hf 1 _ rfl
    have g2 := hf 2 _ rfl
    have g3 := hf 3 _ rfl
    have g4 := hf 4 _ rfl
    simp [cellsI, cellsS, cellsAS, cellsTS] at g0 g1 g2 g3 g4
    obtain ⟨K, e0, _⟩ := DataW.trod_int Try.underlying3 g0
    obtain ⟨N, e1, _⟩ := DataW.trod_string Try.underlying9 g1
    obtain ⟨X, e2, _⟩ := DataW.trod_string Try.underlying9 g2
    simp at e0 e1 e2
    subst e0 e1 e2
    exact ⟨n, K, N, X, v3, v4, y3, y4, hk, rfl, g3, g4⟩

theorem read_kids : ∀ (fuel : Nat) (cs : List Value) (x : DataW H × List MemPlace), DataW.trod enc Try.prog w base spare held fuel 23 cs = some x → ∃ v f, cs = [v] ∧ FL (Old w.heap.size) w v f := by
  intro fuel
  induction fuel using Nat.strongRecOn with
  | _ fuel ih =>
    intro cs x h
    rcases DataW.trod_slice Try.underlying23 h with ⟨rfl, _⟩ | ⟨a, len, cap, elems, rest, n, hn, rfl, hx, hb, hl, hm, hlen, hel, _, _⟩
    · exact ⟨_, .nil, rfl, FL.nothing⟩
    · rw [cellsT] at hel
      have each : ∀ i, i < len → ∃ (d : Nd) (k : M.F) (av : Value) (ka : Option Addr) (kc : Nat), (∀ j v, ([.int .i64 d.k, .string d.n, .string d.x, av, .slice ka k.len kc] : List Value)[j]? = some v → w.cell? (a.add (i * 5 + j)) = some v) ∧ AS (Old w.heap.size) w av d.ats ∧ k.len ≤ kc ∧ kc ≤ maxLen ∧ (k.len = 0 ∨ ∃ b' o', ka = some ⟨b', o', none⟩ ∧ b' < w.heap.size ∧ FAt (Old w.heap.size) w k b' o') := by
        intro i hi
        have hE := hel i hi
        rw [List.getElem?_eq_getElem (by omega)] at hE
        obtain ⟨cs', h1, h2⟩ := Option.bind_eq_some_iff.1 hE
        obtain ⟨_, hcl, hcell⟩ := World.cells?_some h1
        obtain ⟨m, K, N, X, v3, v4, y3, y4, hm2, rfl, g3, g4⟩ := read_node h2
        obtain ⟨va, l, ea, ha⟩ := read_attrs g3
        obtain ⟨vk, f, ek, hk⟩ := ih m (by omega) _ _ g4
        simp at ea ek
        subst ea ek
        obtain ⟨ka, kc, rfl, h3, h4, h5⟩ := hk
        refine ⟨⟨K, N, X, l⟩, f, v3, ka, kc, fun j v hv => ?_, ha, h3, h4, h5⟩
        have hj : j < 5 := by
          have := (List.getElem?_eq_some_iff.1 hv).1
          simpa using this
        have e := hcell j (by simpa using hj)
        rw [add_add] at e
        exact e.trans hv
      by_cases h0 : len = 0
      · subst h0
        exact ⟨_, .nil, rfl, FL.empty hm⟩
      · obtain ⟨d0, k0, av0, ka0, kc0, hc0, _⟩ := each 0 (by omega)
        have c0 := hc0 0 _ rfl
        have ea := spot_none (show w.cell? a = _ from c0)
        have hbl : a.block < w.heap.size := World.block_lt_of_cell? w _ (show w.cell? a = _ from c0)
        have build : ∀ m i, i + m = len → ∃ f : M.F, f.len = m ∧ FAt (Old w.heap.size) w f a.block (a.off + i * 5) := by
          intro m
          induction m with
          | zero => intro i _; exact ⟨.nil, rfl, trivial⟩
          | succ m ihm =>
            intro i hi
            obtain ⟨r, hr1, hr2⟩ := ihm (i + 1) (by omega)
            obtain ⟨d, k, av, ka, kc, hc, ha, h3, h4, h5⟩ := each i (by omega)
            rw [ea] at hc
            simp only [add_plain] at hc
            refine ⟨.cons d k r, by show r.len + 1 = _; rw [hr1], ⟨av, ka, kc, hc 0 _ rfl, hc 1 _ rfl, hc 2 _ rfl, hc 3 _ rfl, hc 4 _ rfl, ha, h3, h4, h5⟩, ?_⟩
            rw [show a.off + i * 5 + 5 = a.off + (i + 1) * 5 by omega]
            exact hr2
        obtain ⟨f, hf1, hf2⟩ := build len 0 (by omega)
        refine ⟨_, f, rfl, some a, cap, by rw [hf1], by rw [hf1]; exact hl, hm, .inr ⟨a.block, a.off, by rw [← ea], hbl, ?_⟩⟩
        rw [Nat.zero_mul, Nat.add_zero] at hf2
        exact hf2

theorem read_tree {v : Value} {d : DataW H} {p : List MemPlace} (hv : ∃ cs : Array Value, v = .agg cs) (h : DataW.Trod enc Try.prog w base spare held 25 v d p) :
    ∃ (n : Nd) (k : M.F) (av kv : Value), v = nodeV n av kv ∧ Lies w.heap.size w n k av kv := by
  obtain ⟨cs, rfl⟩ := hv
  obtain ⟨fuel, hf⟩ := h
  obtain ⟨m, K, N, X, v3, v4, y3, y4, _, e, g3, g4⟩ := read_node hf
  obtain ⟨va, l, ea, ha⟩ := read_attrs g3
  obtain ⟨vk, f, ek, hk⟩ := read_kids m _ _ g4
  simp at ea ek
  subst ea ek
  refine ⟨⟨K, N, X, l⟩, f, v3, v4, ?_, ha, hk⟩
  have e2 : cs.toList = [.int .i64 K, .string N, .string X, v3, v4] := by simpa [Value.cells] using e
  obtain ⟨cl⟩ := cs
  simp at e2
  subst e2
  rfl
end
end Go.Proofs.Ytkojhgagkoeeiaa
