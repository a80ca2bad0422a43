/- Lists of names that grow; few, awake, Place; lists of names that came in, read. -/
import Derived.Test.YtnioibpeagffdaaKJ
import Derived.Test.YtnioibpeagffdaaKK
import Derived.Test.YtnioibpeagffdaaKM
import Derived.OwnWalk
import Derived.Laws.OwnMore
import Derived.Laws.AppendOwnNone
import Derived.SliceStrings
import Derived.ProofKit
import Derived.OpenShut
set_option linter.unusedVariables false
namespace Go.Proofs.Ytnioibpeagffdaa
open Go.RowKit Go.Shelf Go.ChangeShapes Go.WideShapes

def rowS (l : List ByteArray) : List Value := l.map .string
/-- names in a row of the call's own -/
def OwnN (base : Nat) (w : World) (v : Value) (l : List ByteArray) : Prop := w.ownsRow base 9 1 v l.length (rowS l)
theorem add_cell (b o j : Nat) : (⟨b, o, none⟩ : Addr).add j = ⟨b, o + j, none⟩ := by
  unfold Addr.add
  split
  · next h => rw [h]; rfl
  · rfl
theorem infoS : (Try.prog.info? 9).map (fun i => (i.zero, i.size, i.bytes)) = some (some (.string ⟨#[]⟩), 1, 16) := by kernel_rfl
theorem rowS_at (l : List ByteArray) (i : Nat) (h : i < l.length) : (rowS l)[i]? = some (.string (tx l i)) := by simp [rowS, tx, h]
theorem OwnN.nil (base : Nat) (w : World) : OwnN base w (.slice none 0 0) [] := World.ownsRow_nil _ _ _ _
theorem OwnN.ss {base : Nat} {w : World} {v : Value} {l : List ByteArray} (h : OwnN base w v l) : SS w.heap.size w v l := by
  rcases h.2 with ⟨rfl, h0⟩ | ⟨g, cap, cur, rfl, hg, hh, hc1, hc2, hs, ht⟩
  · rw [List.eq_nil_of_length_eq_zero h0]; exact ss_nil _ _
  · refine ⟨_, cap, g, 0, rfl, hc1, hc2, fun i hi => ⟨rfl, (Array.getElem?_eq_some_iff.1 hh).1, ?_⟩⟩
    have := World.ownsRow.cells h (g := g) rfl i _ (rowS_at l i hi)
    rwa [add_cell] at this
theorem OwnN.below {base m : Nat} {w w' : World} {v : Value} {l : List ByteArray} (h : OwnN base w v l) (hb : Below m w w') (hm : w.heap.size ≤ m) : OwnN base w' v l := by
  obtain ⟨h1, h2⟩ := h
  refine ⟨h1, ?_⟩
  rcases h2 with h2 | ⟨g, cap, cur, e, hg, hh, r⟩
  · exact .inl h2
  · exact .inr ⟨g, cap, cur, e, hg, (hb.block g (Nat.lt_of_lt_of_le (Array.getElem?_eq_some_iff.1 hh).1 hm)).trans hh, r⟩
theorem OwnN.part {base : Nat} {w : World} {g cap : Nat} {l1 l2 : List ByteArray} (h : OwnN base w (.slice (some ⟨g, 0, none⟩) (l1 ++ l2).length cap) (l1 ++ l2)) : OwnN base w (.slice (some ⟨g, 0, none⟩) l1.length cap) l1 := by
  obtain ⟨h1, h2⟩ := h
  refine ⟨by simp [rowS], .inr ?_⟩
  rcases h2 with ⟨e, _⟩ | ⟨g', cap', cur, e, hg, hh, hc1, hc2, hs, ht⟩
  · cases e
  · cases e
    refine ⟨g, cap, cur, rfl, hg, hh, by rw [List.length_append] at hc1; omega, hc2, hs, ?_⟩
    have := congrArg (List.take l1.length) ht
    rw [List.take_take, show rowS (l1 ++ l2) = rowS l1 ++ rowS l2 by simp [rowS], List.take_append_of_le_length (by simp [rowS]), List.take_of_length_le (l := rowS l1) (by simp [rowS])] at this
    rw [Nat.mul_one, ← this]
    congr 1
    rw [List.length_append]
    omega

/-- append: what comes of it, and that the old list stays -/
theorem run_app (w : World) (base m ty : Nat) (v u : Value) (l1 l2 : List ByteArray) (hown : OwnN base w v l1) (hu : SS m w u l2) (hlen : l1.length + l2.length ≤ 100000) (hbase : base ≤ w.heap.size) :
    ∃ v' w', (Builtin.append_ #[22, 22] ty #[v, u]).run Try.prog w = .ok v' w' ∧ OwnN base w' v' (l1 ++ l2) ∧ OwnN base w' v l1 ∧ Below base w w' ∧ (v = .slice none 0 0 → Below w.heap.size w w') := by
  obtain ⟨i0, hi, hz0, hz1, hz2⟩ := info_parts infoS
  obtain ⟨a, cap, b, o, rfl, hc1, hm1, h1⟩ := hu
  cases a with
  | none =>
    have h0 : l2 = [] := by
      cases l2 with
      | nil => rfl
      | cons y r => have := (h1 0 (by simp)).1; cases this
    subst h0
    have hcap : cap = cap := rfl
    have hr : (Builtin.append_ #[22, 22] ty #[v, .slice none (List.length ([] : List ByteArray)) cap]).run Try.prog w = .ok v w := by
      rcases hown.2 with ⟨rfl, _⟩ | ⟨g, cap', cur, rfl, _, _, hnc, _⟩
      · simp [Builtin.append_, run_underlying Try.underlying22, sizeOf, typeInfo, hi, Builtin.lenOf, Builtin.firstCells]
      · simp [Builtin.append_, run_underlying Try.underlying22, sizeOf, typeInfo, hi, Builtin.lenOf, Builtin.firstCells, hnc, storeCells]
    exact ⟨v, w, hr, by rw [List.append_nil]; exact hown, hown, Below.refl _ _, fun _ => Below.refl _ _⟩
  | some ad =>
    have hnews : ∀ j y, (rowS l2)[j]? = some y → w.cell? (ad.add j) = some y := by
      intro j y hj
      have hjl : j < l2.length := by have := (List.getElem?_eq_some_iff.1 hj).1; simpa [rowS] using this
      obtain ⟨e1, _, e3⟩ := h1 j hjl
      cases e1
      rw [rowS_at l2 j hjl] at hj
      cases hj
      rw [add_cell]; exact e3
    have hone : ∀ y ∈ rowS l2, y.oneCell' = true := by
      intro y hy
      obtain ⟨z, _, rfl⟩ := List.mem_map.1 hy
      rfl
    have hll : (rowS l2).length = l2.length * 1 := by simp [rowS]
    obtain ⟨v', w', hr, h2, h3, h4⟩ := run_append_own (P := Try.prog) w base 22 ty 9 i0 (.string ⟨#[]⟩) 1 16 Try.underlying22 hi hz0 hz1 hz2 rfl (by decide) v l1.length (rowS l1) hown ad l2.length cap (rowS l2) hll hnews hone (by unfold maxLen; omega) (by omega) hbase
    have h2' : OwnN base w' v' (l1 ++ l2) := by
      unfold OwnN
      rw [List.length_append, show rowS (l1 ++ l2) = rowS l1 ++ rowS l2 by simp [rowS]]
      exact h2
    refine ⟨v', w', hr, h2', ?_⟩
    rcases hown.2 with ⟨e, h0⟩ | ⟨g, cp, cur, e, hg, hh, hk1, hk2, hk3, hk4⟩
    · subst e
      have hn : l1 = [] := List.eq_nil_of_length_eq_zero h0
      have hall : ∀ k, k < w.heap.size → w'.heap[k]? = w.heap[k]? := fun k hk => h3.block k hk (fun e => by cases e)
      refine ⟨by rw [hn]; exact OwnN.nil _ _, ⟨h3.os, h3.tape, h3.output, h3.size, fun k hk => hall k (by omega)⟩, fun _ => ⟨h3.os, h3.tape, h3.output, h3.size, hall⟩⟩
    · subst e
      have hbel : Below base w w' := ⟨h3.os, h3.tape, h3.output, h3.size, fun k hk => h3.block k (by omega) (fun e => by have e' : k = g := Option.some.inj e; omega)⟩
      refine ⟨?_, hbel, fun e => by cases e⟩
      by_cases hroom : l1.length + l2.length ≤ cp
      · have hr2 := run_append_room (P := Try.prog) w 22 ty 9 i0 Try.underlying22 hi g l1.length cp cur hh ad l2.length cap (rowS l2) (by rw [hz1]; exact hll) hnews hone hroom (by rw [hz1, hll, hk3, ← Nat.add_mul]; exact Nat.mul_le_mul_right _ hroom)
        rw [hr] at hr2
        injection hr2 with e1 e2
        subst e1
        rw [← List.length_append] at h2'
        exact h2'.part
      · have hr2 := run_append_grow (P := Try.prog) w 22 ty 9 i0 (.string ⟨#[]⟩) Try.underlying22 hi hz0 ⟨g, 0, none⟩ l1.length cp (rowS l1) (by rw [hz1]; exact hown.1) (World.ownsRow.cells hown (g := g) rfl) ad l2.length cap (rowS l2) (by rw [hz1]; exact hll) hnews (by omega) (by omega) (growslice_fits (by omega) (by rw [hz2]; omega))
        rw [hr] at hr2
        injection hr2 with e1 e2
        have hba : Below w.heap.size w w' := by rw [e2]; exact (Below.refl _ w).drew.alloc (Nat.le_refl _) _
        exact OwnN.below hown hba (Nat.le_refl _)

/-- append of names, as the walk meets it -/
theorem wpList_app {w : World} {ops : Array Oper} {rest : List Oper} {o : Oper} {a : Act} {Q : Exit → Act → World → Prop} (hw : Region.wanted o (yielded ops a.tmps) = true) (s x : Operand)
    (ho : o.op = .call { callee := .builtin .append, args := #[s, x], argTypes := #[22, 22] }) (base m : Nat) (v u : Value) (l1 l2 : List ByteArray) (hs : a.eval s = v) (hx : a.eval x = u)
    (hown : OwnN base w v l1) (hu : SS m w u l2) (hlen : l1.length + l2.length ≤ 100000) (hbase : base ≤ w.heap.size)
    (h : ∀ v' w', Fact (OwnN base w' v' (l1 ++ l2)) → Fact (OwnN base w' v l1) → Fact (Below base w w') → wpList Try.prog ops Q rest (a.put o.dst v') w') : wpList Try.prog ops Q (o :: rest) a w := by
  obtain ⟨v', w', hr, h1, h2, h3, _⟩ := run_app w base m o.type v u l1 l2 hown hu hlen hbase
  refine BigFrame.wpList_want hw fun K hK => ?_
  unfold Oper.wp execOp
  simp only [ho, resolve, invoke, builtin, Sem.run_bind, Sem.run_pure, Result.andThen_ok, List.map_toArray, List.map_cons, List.map_nil, hs, hx, hr]
  exact hK _ _ (h v' w' ⟨h1⟩ ⟨h2⟩ ⟨h3⟩)

theorem ss_one (w : World) (x : ByteArray) : SS (w.heap.size + 1) (w.alloc (.cells #[.string x] 9)) (.slice (some ⟨w.heap.size, 0, none⟩) 1 1) [x] := by
  refine ⟨_, _, w.heap.size, 0, rfl, Nat.le_refl _, by unfold maxLen; omega, fun i hi => ⟨rfl, by omega, ?_⟩⟩
  have : i = 0 := by simpa using hi
  subst this
  exact World.cell?_alloc_new w _ _ 0

/-- what few says of a list of so many -/
structure FewR (n : Nat) (e : Ending) : Prop where
  h : ∃ B, e = .returned (.bool B) ∧ (B = true → n ≤ 50)
set_option maxRecDepth 20000 in
set_option maxHeartbeats 1000000 in
theorem few_any (l : List ByteArray) (v : Value) (n : Nat) (w : World) (ha : SS n w v l) :
    Calls Try.prog 8 #[v] w fun e w' => FewR l.length e ∧ w' = w := by
  obtain ⟨a, cap, b, o, rfl, hc1, hm1, h1⟩ := ha
  have H1 := Fact.mk h1
  obtain ⟨al, hal⟩ : ∃ al, l.length = al := ⟨_, rfl⟩
  rw [hal] at H1 hc1 ⊢
  clear h1 hal
  unfold maxLen at hm1
  have HM := Fact.mk hm1
  clear hm1
  go_enter Try.func8, Try.ntmps8
  go_wp2_with fail
  go_loop [3] (fun i => ∃ j : Nat, j ≤ al ∧ j ≤ 50 ∧ i = .int .i64 j) (fun i => 50 - (intOf i).toNat)
  case atStart => exact ⟨0, Nat.zero_le _, by omega, rfl⟩
  case round =>
    obtain ⟨j, hj, hj5, rfl⟩ := hrel
    by_cases hlt : j < al
    · by_cases h5 : j < 50
      · obtain ⟨ea, _, y0⟩ := H1.out j hlt
        subst ea
        obtain ⟨N', hp⟩ : ∃ p, tx l j = p := ⟨_, rfl⟩
        rw [hp] at y0
        have i1 : (j : Int) < al := by omega
        have i2 : (j : Int) < 50 := by omega
        clear hp H1 HM
        by_cases hbig : 100 < N'.size
        · go_wp2_with fail
          go_ret
          exact ⟨⟨_, rfl, fun e => by cases e⟩, rfl⟩
        · go_wp2_with fail
          go_round
          case rel => exact ⟨j + 1, by omega, by omega, by go_num⟩
          case measure => simp [intOf]; omega
      · have i1 : (j : Int) < al := by omega
        have i2 : ¬ (j : Int) < 50 := by omega
        clear H1 HM
        go_wp2_with fail
        go_ret
        exact ⟨⟨_, rfl, fun e => by simp at e; omega⟩, rfl⟩
    · have i1 : ¬ (j : Int) < al := by omega
      clear H1 HM
      go_wp2_with fail
      go_ret
      exact ⟨⟨_, rfl, fun e => by simp at e; omega⟩, rfl⟩

theorem spotN {w : World} {a : Addr} {v : Value} (h : w.cell? a = some v) : a = ⟨a.block, a.off, none⟩ := by
  obtain ⟨b, o, s⟩ := a
  cases s with
  | none => rfl
  | some q =>
    exfalso
    unfold World.cell? at h
    dsimp only at h
    split at h
    · simp at h
    · cases h
theorem add0 (a : Addr) : a.add 0 = a := by unfold Addr.add; simp
theorem read_strs {H : Type} {enc : TypeId × Value → H} {w : World} {base : Nat} {spare : Nat → Bool} {held : Bool} {v : Value} {d : DataW H} {p : List MemPlace} (hv : ∃ a l c, v = .slice a l c) (h : DataW.Trod enc Try.prog w base spare held 22 v d p) :
    ∃ l, SS w.heap.size w v l := by
  obtain ⟨a0, l0, c0, rfl⟩ := hv
  obtain ⟨fuel, hf⟩ := h
  rcases open_strings Try.underlying22 Try.underlying9 (by kernel_rfl) hf with ⟨hcs, _⟩ | ⟨x, l, c, zs, hcs, _, hl, hm, hz, _, hcell, _⟩
  · simp [Value.cells] at hcs
    obtain ⟨rfl, rfl, rfl⟩ := hcs
    exact ⟨[], ss_nil _ _⟩
  · simp [Value.cells] at hcs
    obtain ⟨rfl, rfl, rfl⟩ := hcs
    have hlz : l0 ≤ zs.length := by rw [hz]; split <;> omega
    have hlen : (zs.take l0).length = l0 := by rw [List.length_take]; omega
    by_cases h0 : l0 = 0
    · subst h0
      exact ⟨[], some x, c0, 0, 0, rfl, hl, hm, fun i hi => by simp at hi⟩
    · have c1 := hcell 0 (by omega)
      rw [add0] at c1
      have ea := spotN c1
      refine ⟨zs.take l0, some x, c0, x.block, x.off, by rw [hlen], by rw [hlen]; exact hl, hm, fun i hi => ⟨by rw [← ea], World.block_lt_of_cell? w _ c1, ?_⟩⟩
      rw [hlen] at hi
      have := hcell i (by omega)
      rw [ea, add_cell] at this
      rw [this]
      simp [tx, hi]
      rfl
end Go.Proofs.Ytnioibpeagffdaa
