/- Sub, told by a node's number; small laws on boxes. -/
import Derived.Test.YtjjkidenlgghkaaSub
import Derived.Test.YtjjkidenlgghkaaOrder
set_option linter.unusedVariables false
set_option linter.unusedSimpArgs false
namespace Go.Proofs.Ytjjkidenlgghkaa
open Go.Deep (BT)
open Go.RowKit M

theorem sub_yes {d : Nd} {k : M.F} {av kv : Value} {w : World} (i : Nat) (id : Int) (hid : Fact (id = i)) (d' : Nd) (k' : M.F) (hsub : Fact (M.sub (.cons d k .nil) i = some (d', k'))) (h : Lies w.heap.size w d k av kv) (hk : k.depth + 1 ≤ 1000000) (hs : k.size + 1 ≤ 1000000) (hsl : d.ats.length + k.slots ≤ 1000000) :
    Calls Try.prog 22 #[.agg #[.int .i64 d.k, .string d.n, .string d.x, av, kv], .int .i64 id] w fun e w' => ∃ a1 n1 c1 a2 n2 c2, e = .returned (.tuple #[.agg #[.int .i64 d'.k, .string d'.n, .string d'.x, .slice a1 n1 c1, .slice a2 n2 c2], .bool true]) ∧ Below w.heap.size w w' ∧ Lies w'.heap.size w' d' k' (.slice a1 n1 c1) (.slice a2 n2 c2) := by
  refine (sub_any d k av kv id w h hk hs hsl).mono ?_
  rintro e w' ⟨hb, ⟨j, d2, k2, av', kv', h1, h2, rfl, h4⟩ | ⟨h1, _⟩⟩
  · have hji : j = i := by have := hid.out; omega
    subst hji
    rw [hsub.out] at h2
    simp only [Option.some.injEq, Prod.mk.injEq] at h2
    obtain ⟨rfl, rfl⟩ := h2
    have h5 := h4
    obtain ⟨⟨a1, c1, rfl, _⟩, ⟨a2, c2, rfl, _⟩⟩ := h4
    exact ⟨a1, _, c1, a2, _, c2, rfl, hb, h5⟩
  · exfalso
    have h3 := h1 i hid.out
    have h4 := (sub_bd _ _ _ _ hsub.out).1
    simp only [BT.size] at h4
    omega
theorem sub_not {d : Nd} {k : M.F} {av kv : Value} {w : World} (i : Nat) (hi : Fact (k.size + 1 ≤ i)) (h : Lies w.heap.size w d k av kv) (hk : k.depth + 1 ≤ 1000000) (hs : k.size + 1 ≤ 1000000) (hsl : d.ats.length + k.slots ≤ 1000000) :
    Calls Try.prog 22 #[.agg #[.int .i64 d.k, .string d.n, .string d.x, av, kv], .int .i64 i] w fun e w' => e = .returned (.tuple #[.agg #[.int .i64 0, .string ⟨#[]⟩, .string ⟨#[]⟩, .slice none 0 0, .slice none 0 0], .bool false]) ∧ Below w.heap.size w w' := by
  refine (sub_any d k av kv i w h hk hs hsl).mono ?_
  rintro e w' ⟨hb, ⟨j, d2, k2, av', kv', h1, h2, _⟩ | ⟨_, rfl⟩⟩
  · exfalso
    have h4 := (sub_bd _ _ _ _ h2).1
    simp only [BT.size] at h4
    have := hi.out
    omega
  · exact ⟨rfl, hb⟩
theorem ci_self (a : Int) : ci a a = 0 := by unfold ci; rw [if_neg (by omega), if_neg (by omega)]
theorem cl_self : ∀ l, cl l l = 0
  | [] => rfl
  | a :: l => by show orI (ci a.toNat a.toNat) (cl l l) = 0; rw [ci_self, cl_self l]; rfl
theorem ca_self : ∀ l, ca l l = 0
  | [] => rfl
  | p :: l => by
    have h1 : cp p p = 0 := by unfold cp cs; rw [cl_self, cl_self]; rfl
    show orI (cp p p) (ca l l) = 0; rw [h1, ca_self l]; rfl
theorem cn_self (d : Nd) : cn d d = 0 := by unfold cn cs; rw [ci_self, cl_self, cl_self, ca_self]; rfl
theorem cF_self : ∀ f, cF f f = 0
  | .nil => rfl
  | .node _ _ d k r => by show orI (cn d d) (orI (cF k k) (cF r r)) = 0; rw [cn_self, cF_self k, cF_self r]; rfl
theorem cT_self (d : Nd) (k : M.F) : cT d k d k = 0 := by unfold cT; rw [cn_self, cF_self]; rfl

theorem Five.up {W W' : World} {b : Nat} {v0 v1 v2 v3 v4 : Value} (h : Five W b v0 v1 v2 v3 v4) (hb : Below W.heap.size W W') : Five W' b v0 v1 v2 v3 v4 := h.same (hb.block _ h.lt)
theorem Lies.up {W W' : World} {d : Nd} {k : M.F} {av kv : Value} (h : Lies W.heap.size W d k av kv) (hb : Below W.heap.size W W') : Lies W'.heap.size W' d k av kv := (h.below hb).here hb.size
theorem box_below {w : World} (o : Obj) : Below w.heap.size w (w.alloc o) := (Below.refl _ w).alloc (Nat.le_refl _) _
end Go.Proofs.Ytjjkidenlgghkaa
