/- ScanCuts: lists of tokens as they are read (for its walk). -/
import Derived.Test.YtdniddiaiinggaaDoorWF
set_option linter.unusedVariables false
namespace Go.Proofs.YtdniddiaiinggaaDoor
open Go.RowKit M

/-- a list of tokens, read -/
structure Got (w : World) (ts : List (Tk × Value)) (g cap n : Nat) : Prop where
  len : ts.length = n
  lt : g < w.heap.size
  cp : n ≤ cap
  cells : ∀ j p, ts[j]? = some p → w.cell? ⟨g, j * 5, none⟩ = some (.int .i64 p.1.kd) ∧ w.cell? ⟨g, j * 5 + 1, none⟩ = some (.string p.1.n) ∧ w.cell? ⟨g, j * 5 + 2, none⟩ = some (.string p.1.x) ∧ w.cell? ⟨g, j * 5 + 3, none⟩ = some p.2 ∧ w.cell? ⟨g, j * 5 + 4, none⟩ = some (.bool p.1.raw)
  avs : ∀ y ∈ ts, ∃ B, w.ownsRow B 30 2 y.2 y.1.at_.length (rowA y.1.at_)
theorem Got.keep {w w' : World} {ts : List (Tk × Value)} {g cap n : Nat} (h : Got w ts g cap n) (hb : Below w.heap.size w w') : Got w' ts g cap n := by
  have k : ∀ {o : Nat} {u : Value}, w.cell? ⟨g, o, none⟩ = some u → w'.cell? ⟨g, o, none⟩ = some u := fun hc => (hb.cell (p := ⟨g, _, none⟩) h.lt).trans hc
  refine ⟨h.len, Nat.lt_of_lt_of_le h.lt hb.size, h.cp, fun j p hj => ?_, fun y hy => ?_⟩
  · obtain ⟨a1, a2, a3, a4, a5⟩ := h.cells j p hj
    exact ⟨k a1, k a2, k a3, k a4, k a5⟩
  · obtain ⟨B, hB⟩ := h.avs y hy
    exact ⟨B, own_keep hB hb⟩
theorem AllR.got {w : World} {l : List UInt8} {w' : World} {v : Value} {tr : List Pc} {x : Pc} {its : List (Tk × Value)} (h : AllR w l w' v tr x its) :
    ∃ g cap, v = .slice (some ⟨g, 0, none⟩) (its.length + 1) cap ∧ Got w' (its ++ [(endTk, .slice none 0 0)]) g cap (its.length + 1) := by
  obtain ⟨g, cap, e, h1, h2, h3, h4⟩ := h.toks.read (by simp)
  have hl : (its ++ [(endTk, Value.slice none 0 0)]).length = its.length + 1 := by simp
  rw [hl] at e h3
  exact ⟨g, cap, e, hl, h2, h3, h4, fun y hy => ⟨_, h.toks.avs y hy⟩⟩
theorem AllR.tok {w : World} {l : List UInt8} {w' : World} {v : Value} {tr : List Pc} {x : Pc} {its : List (Tk × Value)} (h : AllR w l w' v tr x its) : (its ++ [(endTk, Value.slice none 0 0)]).map (·.1) = sayd tr ++ [endTk] := by
  rw [List.map_append, h.map]; rfl
/-- the five cells of a token, and what is known of its attributes -/
structure TkC (w : World) (g o : Nat) (kd : Int) (N X : ByteArray) (va : Option Addr) (m vc : Nat) (r : Bool) (L : AL) : Prop where
  c0 : w.cell? ⟨g, o, none⟩ = some (.int .i64 kd)
  c1 : w.cell? ⟨g, o + 1, none⟩ = some (.string N)
  c2 : w.cell? ⟨g, o + 2, none⟩ = some (.string X)
  c3 : w.cell? ⟨g, o + 3, none⟩ = some (.slice va m vc)
  c4 : w.cell? ⟨g, o + 4, none⟩ = some (.bool r)
  lies : LiesA w va L
  len : L.length = m
  sm : IsLen m
theorem row_len {w : World} {B : Nat} {a : Option Addr} {n c : Nat} {L : AL} (h : w.ownsRow B 30 2 (.slice a n c) L.length (rowA L)) : IsLen n := by
  rcases h.2 with ⟨e, _⟩ | ⟨g, cap, cur, e, _, _, h1, h2, _⟩
  · cases e; exact ⟨by omega⟩
  · cases e
    exact ⟨by unfold maxLen at h2; omega⟩
theorem Got.tk {w : World} {ts : List (Tk × Value)} {g cap n : Nat} (h : Got w ts g cap n) {j : Nat} {t : Tk} (ht : (ts.map (·.1))[j]? = some t) : ∃ va vc, TkC w g (j * 5) t.kd t.n t.x va t.at_.length vc t.raw t.at_ := by
  rw [List.getElem?_map] at ht
  cases hi : ts[j]? with
  | none => rw [hi] at ht; cases ht
  | some p =>
    rw [hi] at ht
    have e : p.1 = t := Option.some.inj ht
    obtain ⟨B, hB⟩ := h.avs p (List.mem_of_getElem? hi)
    obtain ⟨a1, a2, a3, a4, a5⟩ := h.cells j p hi
    obtain ⟨va, vc, ev, hL⟩ := row_lies hB
    rw [ev] at a4 hB
    rw [e] at a1 a2 a3 a4 a5 hL hB
    exact ⟨va, vc, a1, a2, a3, a4, a5, hL, rfl, row_len hB⟩
/-- what a drawn region that asks two tokens keeps -/
abbrev Two5 (W : World) (g o g' o' : Nat) (kd : Int) (N X : ByteArray) (va va' : Option Addr) (m vc vc' : Nat) (r : Bool) (w' : World) : Prop :=
  Below W.heap.size W w' ∧ (w'.cell? ⟨g, o, none⟩ = some (.int .i64 kd) ∧ w'.cell? ⟨g, o + 1, none⟩ = some (.string N) ∧ w'.cell? ⟨g, o + 2, none⟩ = some (.string X) ∧ w'.cell? ⟨g, o + 3, none⟩ = some (.slice va m vc) ∧ w'.cell? ⟨g, o + 4, none⟩ = some (.bool r)) ∧
    (w'.cell? ⟨g', o', none⟩ = some (.int .i64 kd) ∧ w'.cell? ⟨g', o' + 1, none⟩ = some (.string N) ∧ w'.cell? ⟨g', o' + 2, none⟩ = some (.string X) ∧ w'.cell? ⟨g', o' + 3, none⟩ = some (.slice va' m vc') ∧ w'.cell? ⟨g', o' + 4, none⟩ = some (.bool r))
theorem TkC.keep {w w' : World} {g o : Nat} {kd : Int} {N X : ByteArray} {va : Option Addr} {m vc : Nat} {r : Bool} {L : AL} (h : TkC w g o kd N X va m vc r L) (hb : Below w.heap.size w w') : TkC w' g o kd N X va m vc r L := by
  have hg : g < w.heap.size := World.block_lt_of_cell? w _ h.c0
  have k : ∀ {o2 : Nat} {u : Value}, w.cell? ⟨g, o2, none⟩ = some u → w'.cell? ⟨g, o2, none⟩ = some u := fun {o2} {u} hc => (hb.cell (p := ⟨g, o2, none⟩) hg).trans hc
  exact ⟨k h.c0, k h.c1, k h.c2, k h.c3, k h.c4, h.lies.keep hb, h.len, h.sm⟩
theorem TkC.two {w : World} {g o g' o' : Nat} {kd : Int} {N X : ByteArray} {va va' : Option Addr} {m vc vc' : Nat} {r : Bool} {L : AL} (h : TkC w g o kd N X va m vc r L) (h' : TkC w g' o' kd N X va' m vc' r L) {W : World} (hb : Below W.heap.size W w) : Two5 W g o g' o' kd N X va va' m vc vc' r w :=
  ⟨hb, ⟨h.c0, h.c1, h.c2, h.c3, h.c4⟩, ⟨h'.c0, h'.c1, h'.c2, h'.c3, h'.c4⟩⟩
end Go.Proofs.YtdniddiaiinggaaDoor
