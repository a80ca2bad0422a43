/- The pieces of a source, one behind the other: plain; rawBehind. -/
import Derived.Test.YtdniddiaiinggaaDoorTO
set_option linter.unusedVariables false
namespace Go.Proofs.YtdniddiaiinggaaDoor
open Go.RowKit M

/-- a piece: its token, the place behind it, whether it says something -/
structure Pc where
  t : Tk
  E : Nat
  ok : Bool
/-- the raw element that is open behind a token -/
def rawB (t : Tk) (raw : List UInt8) : List UInt8 := if t.kd = 1 ∧ rawN t.n.data.toList ≠ 0 then t.n.data.toList else if t.kd = 1 ∨ (t.kd = 2 ∧ t.n.data.toList = raw) then [] else raw
/-- the place and the raw element behind pieces -/
def posS (tr : List Pc) : Nat × List UInt8 := tr.foldl (fun s p => (p.E, rawB p.t s.2)) (0, [])
theorem posS_nil : posS [] = (0, []) := rfl
theorem posS_snoc (tr : List Pc) (x : Pc) : posS (tr ++ [x]) = (x.E, rawB x.t (posS tr).2) := by
  unfold posS
  rw [List.foldl_append]
  rfl
/-- what stands at a place, up to the end of all -/
def StpR (l : List UInt8) (k : Nat) (raw : List UInt8) (p : Pc) : Prop :=
  if k < l.length then NxR l k raw p.t p.E p.ok else p.t.Is 6 [] [] [] false ∧ p.E = l.length ∧ p.ok = true
/-- pieces one behind the other -/
def TrR (l : List UInt8) (tr : List Pc) : Prop := ∀ pre x, pre ++ [x] <+: tr → StpR l (posS pre).1 (posS pre).2 x
theorem TrR.nil (l : List UInt8) : TrR l [] := fun pre x h => by
  have := h.length_le
  simp at this
theorem TrR.snoc {l : List UInt8} {tr : List Pc} {x : Pc} (h : TrR l tr) (hx : StpR l (posS tr).1 (posS tr).2 x) : TrR l (tr ++ [x]) := by
  intro pre y hp
  obtain ⟨post, e⟩ := hp
  rcases List.eq_nil_or_concat post with rfl | ⟨q, z, rfl⟩
  · rw [List.append_nil] at e
    obtain ⟨e1, e2⟩ := List.append_inj' e rfl
    cases e2
    rw [e1]
    exact hx
  · rw [List.concat_eq_append, ← List.append_assoc] at e
    obtain ⟨e1, e2⟩ := List.append_inj' e rfl
    exact h pre y ⟨q, e1⟩
theorem TrR.pre {l : List UInt8} {tr : List Pc} {x : Pc} (h : TrR l (tr ++ [x])) : TrR l tr := fun pre y hp => h pre y (hp.trans (List.prefix_append _ _))
theorem TrR.last {l : List UInt8} {tr : List Pc} {x : Pc} (h : TrR l (tr ++ [x])) : StpR l (posS tr).1 (posS tr).2 x := h tr x (List.prefix_refl _)
theorem rawN_len {l : List UInt8} (h : rawN l ≠ 0) : l.length ≤ 8 := by
  unfold rawN at h
  split at h
  · rename_i h1
    simp at h1
    rcases h1 with rfl | rfl <;> decide
  split at h
  · rename_i h1
    simp at h1
    rcases h1 with rfl | rfl | rfl | rfl | rfl | rfl <;> decide
  · exact absurd rfl h
/-- a raw element's name, or none -/
structure RawOK (raw : List UInt8) : Prop where
  is : raw = [] ∨ rawN raw ≠ 0
theorem RawOK.sm {raw : List UInt8} (h : RawOK raw) : IsSm raw.length := ⟨by
  rcases h.is with rfl | h
  · decide
  · have := rawN_len h
    omega⟩
theorem RawOK.behind {raw : List UInt8} (h : RawOK raw) (t : Tk) : RawOK (rawB t raw) := ⟨by
  unfold rawB
  split
  · rename_i h1
    exact Or.inr h1.2
  split
  · exact Or.inl rfl
  · exact h.is⟩
theorem RawOK.pos (tr : List Pc) : RawOK (posS tr).2 := by
  have key : ∀ (tr : List Pc) (s : Nat × List UInt8), RawOK s.2 → RawOK (tr.foldl (fun s p => (p.E, rawB p.t s.2)) s).2 := by
    intro tr
    induction tr with
    | nil => intro s h; exact h
    | cons x r ih => intro s h; exact ih _ (h.behind x.t)
  exact key tr (0, []) ⟨Or.inl rfl⟩

set_option maxRecDepth 20000 in
set_option maxHeartbeats 2000000 in
theorem rawBehind_any (kd : Int) (n x raw R : ByteArray) (va : Option Addr) (vn vc : Nat) (r : Bool) (hR : Fact (rawB ⟨kd, n, x, [], r⟩ raw.data.toList = R.data.toList)) (w : World) :
    Calls Tryd.prog 32 #[tokV kd n x (.slice va vn vc) r, .string raw] w fun e w' => e = .returned (.string R) ∧ Below w.heap.size w w' := by
  have hb : Below w.heap.size w (w.alloc (.cells #[.int .i64 kd, .string n, .string x, .slice va vn vc, .bool r] 27)) := bl1 w _
  obtain ⟨c, hc⟩ : ∃ c, Fact (rawN n.data.toList = c) := ⟨_, ⟨rfl⟩⟩
  have HR := hR.out
  unfold rawB at HR
  simp only [hc.out] at HR
  by_cases h1 : kd = 1
  · subst h1
    by_cases h2 : c = 0
    · have q1 : ((c : Int) == 0) = true := by rw [h2]; rfl
      rw [if_neg (by rw [h2]; simp), if_pos (Or.inl rfl)] at HR
      have e : R = ⟨#[]⟩ := tx_ext HR.symm
      subst e
      clear hR HR
      go_enter Tryd.func32, Tryd.ntmps32
      go_wp2_with (go_at_call 46; refine (raw_any n c hc _).mono ?_; rintro e w2 ⟨rfl, rfl⟩)
      go_ret
      exact ⟨rfl, hb⟩
    · have q1 : ((c : Int) == 0) = false := by rw [beq_eq_false_iff_ne]; omega
      rw [if_pos ⟨rfl, h2⟩] at HR
      have e : n = R := tx_ext HR
      subst e
      clear hR HR
      go_enter Tryd.func32, Tryd.ntmps32
      go_wp2_with (go_at_call 46; refine (raw_any n c hc _).mono ?_; rintro e w2 ⟨rfl, rfl⟩)
      go_ret
      exact ⟨rfl, hb⟩
  · have q1 : (kd == 1) = false := by rw [beq_eq_false_iff_ne]; exact h1
    rw [if_neg (fun e => h1 e.1)] at HR
    by_cases h2 : kd = 2
    · subst h2
      by_cases h3 : n.data.toList = raw.data.toList
      · have q2 : (n.toList == raw.toList) = true := by rw [Lib.toList_data, Lib.toList_data, h3]; exact beq_self_eq_true _
        rw [if_pos (Or.inr ⟨rfl, h3⟩)] at HR
        have e : R = ⟨#[]⟩ := tx_ext HR.symm
        subst e
        clear hR HR
        go_enter Tryd.func32, Tryd.ntmps32
        go_wp2_with fail
        go_ret
        exact ⟨rfl, hb⟩
      · have q2 : (n.toList == raw.toList) = false := by rw [Lib.toList_data, Lib.toList_data, beq_eq_false_iff_ne]; exact h3
        rw [if_neg (by rintro (e | e); exact h1 e; exact h3 e.2)] at HR
        have e : raw = R := tx_ext HR
        subst e
        clear hR HR
        go_enter Tryd.func32, Tryd.ntmps32
        go_wp2_with fail
        go_ret
        exact ⟨rfl, hb⟩
    · have q2 : (kd == 2) = false := by rw [beq_eq_false_iff_ne]; exact h2
      rw [if_neg (by rintro (e | e); exact h1 e; exact h2 e.1)] at HR
      have e : raw = R := tx_ext HR
      subst e
      clear hR HR
      go_enter Tryd.func32, Tryd.ntmps32
      go_wp2_with fail
      go_ret
      exact ⟨rfl, hb⟩
end Go.Proofs.YtdniddiaiinggaaDoor
