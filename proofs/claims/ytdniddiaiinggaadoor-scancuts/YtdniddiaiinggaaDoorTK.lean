/- comment, doctype: what they answer; a token that is told. -/
import Derived.Test.YtdniddiaiinggaaDoorTH
import Derived.Test.YtdniddiaiinggaaDoorTJ
set_option linter.unusedVariables false
namespace Go.Proofs.YtdniddiaiinggaaDoor
open Go.RowKit M

/-- a token in a cell, a place, a truth: what is told -/
theorem results_tk {fn : Func} (c p q : Nat) (hf : fn.results = #[.cell c 27, .tmp p, .tmp q]) {tm : Array Value} {w : World} {b : Nat} {v0 v1 v2 v3 v4 x y : Value} (h6 : tm.getD c undef = .pointer (some ⟨b, 0, none⟩)) (h7 : tm.getD p undef = x) (h8 : tm.getD q undef = y) (F : Five w b v0 v1 v2 v3 v4) :
    (results fn tm).run Tryd.prog w = .ok (.tuple #[.agg #[v0, v1, v2, v3, v4], x, y]) w := by
  obtain ⟨c0, c1, c2, c3, c4, cz⟩ := F
  simp only [Array.getD_eq_getD_getElem?] at h6 h7 h8
  simp [results, hf, go_sem, h6, h7, h8, c0, c1, c2, c3, c4]

/-- a token -/
structure Tk where
  kd : Int
  n : ByteArray
  x : ByteArray
  at_ : AL
  raw : Bool
/-- a token, a place and a truth are told -/
def TokOut (w : World) (t : Tk) (E : Nat) (ok : Bool) (e : Ending) (w' : World) : Prop :=
  ∃ v : Value, e = .returned (.tuple #[tokV t.kd t.n t.x v t.raw, .int .i64 E, .bool ok]) ∧ w'.ownsRow w.heap.size 30 2 v t.at_.length (rowA t.at_) ∧ Below w.heap.size w w'
/-- it is such a one -/
structure Tk.Is (t : Tk) (kd : Int) (n x : List UInt8) (L : AL) (r : Bool) : Prop where
  kd : t.kd = kd
  n : t.n.data.toList = n
  x : t.x.data.toList = x
  at_ : t.at_ = L
  raw : t.raw = r
/-- the end of a function that puts its token into the cell made first -/
theorem tok_end {w w2 : World} {u0 u1 u2 u3 u4 : Value} (t : Tk) (E : Nat) (ok : Bool) (v : Value) (F : Five w2 w.heap.size u0 u1 u2 u3 u4) (hb : Below w.heap.size w w2) {B : Nat} (hB : w.heap.size < B) (ho : w2.ownsRow B 30 2 v t.at_.length (rowA t.at_)) :
    TokOut w t E ok (.returned (.tuple #[tokV t.kd t.n t.x v t.raw, .int .i64 E, .bool ok])) (((((w2.setCell ⟨w.heap.size, 0, none⟩ (.int .i64 t.kd)).setCell ⟨w.heap.size, 1, none⟩ (.string t.n)).setCell ⟨w.heap.size, 2, none⟩ (.string t.x)).setCell ⟨w.heap.size, 3, none⟩ v).setCell ⟨w.heap.size, 4, none⟩ (.bool t.raw)) :=
  ⟨v, rfl, own_low (own_five ho hB) (Nat.le_of_lt hB), five_set hb (Nat.le_refl _) _ _ _ _ _⟩
theorem no_row (w : World) (B : Nat) : w.ownsRow B 30 2 (.slice none 0 0) ([] : AL).length (rowA []) := World.ownsRow_nil _ _ _ _

set_option maxRecDepth 20000 in
set_option maxHeartbeats 1000000 in
theorem comment_any (s : ByteArray) (k : Nat) (hs : IsSm s.size) (hk : k ≤ s.size) (w : World) :
    Calls Tryd.prog 60 #[.string s, .int .i64 k] w fun e w' => ∃ (T : ByteArray) (E : Nat), CmT s.data.toList k T.data.toList E ∧ TokOut w ⟨4, ⟨#[]⟩, T, [], false⟩ E true e w' := by
  go_enter Tryd.func60, Tryd.ntmps60
  go_wp2_with (go_at_call 75; refine (commentText_any s k hs hk _).mono ?_; rintro e w2 ⟨T, E, rfl, hC, hb2⟩; have HC := Fact.mk hC; have F5 := Fact.mk ((Five.new w _ _ _ _ _ _).keep hb2); have HB := Fact.mk ((bl1 w _).trans (hb2.mono (bl1 w _).size)); obtain ⟨c0, c1, c2, c3, c4, fz⟩ := F5.out; clear hb2 hC)
  refine bodyPost_ret (results_tk 4 5 6 rfl rfl rfl rfl (F5.out.put (.int .i64 4) (.string ⟨#[]⟩) (.string T) (.slice none 0 0) (.bool false))) rfl ?_
  exact ⟨T, E, HC.out, tok_end ⟨4, ⟨#[]⟩, T, [], false⟩ E true (.slice none 0 0) F5.out HB.out (Nat.lt_succ_self _) (no_row _ _)⟩

/-- a doctype's name, and the place behind it -/
def dcF (l : List UInt8) (k : Nat) : Nat := spE blk l k
def dcB (l : List UInt8) (k : Nat) : Nat := spE (fun c => !stp [62] c) l (dcF l k)
def dcN (l : List UInt8) (k : Nat) : List UInt8 := lwL (sub l (dcF l k) (dcB l k))
def dcE (l : List UInt8) (k : Nat) : Nat := min (spE (fun x => x != 62) l (dcB l k) + 1) l.length
theorem dcB_le {l : List UInt8} {k : Nat} (h : k ≤ l.length) : k ≤ dcF l k ∧ dcF l k ≤ dcB l k ∧ dcB l k ≤ l.length := ⟨spE_ge _ _ _, spE_ge _ _ _, spE_le _ (spE_le _ h)⟩
theorem dcE_le {l : List UInt8} {k : Nat} (h : k ≤ l.length) : k ≤ dcE l k ∧ dcE l k ≤ l.length := by
  have h1 := dcB_le h
  have h2 := spE_ge (fun x => x != 62) l (dcB l k)
  unfold dcE
  omega
set_option maxRecDepth 20000 in
set_option maxHeartbeats 1000000 in
theorem doctype_any (s N : ByteArray) (k E : Nat) (hs : IsSm s.size) (hk : k ≤ s.size) (hN : Fact (dcN s.data.toList k = N.data.toList)) (hE : Fact (dcE s.data.toList k = E)) (w : World) :
    Calls Tryd.prog 61 #[.string s, .int .i64 k] w fun e w' => TokOut w ⟨5, N, ⟨#[]⟩, [], false⟩ E true e w' := by
  have hsz := hs.le
  have h1 := dcB_le (l := s.data.toList) (k := k) (by rw [← Lib.size_eq]; exact hk)
  obtain ⟨F, hF⟩ : ∃ F, Fact (spE blk s.data.toList k = F) := ⟨_, ⟨rfl⟩⟩
  obtain ⟨B, hB⟩ : ∃ B, Fact (spE (fun x => !stp (⟨#[62]⟩ : ByteArray).data.toList x) s.data.toList F = B) := ⟨_, ⟨rfl⟩⟩
  have eF : dcF s.data.toList k = F := hF.out
  have eB : dcB s.data.toList k = B := by unfold dcB; rw [eF]; exact hB.out
  rw [eF, eB, ← Lib.size_eq] at h1
  obtain ⟨g1, g2, g3⟩ := h1
  obtain ⟨U, hU⟩ : ∃ U, Fact (spE (fun x => x != (62 : UInt8)) s.data.toList B = U) := ⟨_, ⟨rfl⟩⟩
  have hUle : U ≤ s.size := by rw [← hU.out, Lib.size_eq]; exact spE_le _ (by rw [← Lib.size_eq]; exact g3)
  have hP : Fact (min (U + 1) s.size = E) := ⟨by have := hE.out; unfold dcE at this; rw [eB, hU.out, ← Lib.size_eq] at this; exact this⟩
  obtain ⟨S1, hS1⟩ : ∃ S1 : ByteArray, s.extract F B = S1 := ⟨_, rfl⟩
  have hS1m : IsSm S1.size := by rw [← hS1]; exact sub_sm s _ _ hs
  have hN1 : Fact (lwL S1.data.toList = N.data.toList) := ⟨by rw [← hS1, sub_data s _ _ g2, ← hN.out]; unfold dcN; rw [eF, eB]⟩
  have a1 : (0 : Int) ≤ F := by omega
  have a2 : (F : Int) ≤ B := by omega
  have a3 : (B : Int) ≤ s.size := by omega
  have gF : F ≤ s.size := by omega
  clear hN hE eF eB
  go_enter Tryd.func61, Tryd.ntmps61
  go_wp2_with (first
    | (go_at_call 76; refine (blanksEnd_any s k F hs hk hF _).mono ?_; rintro e w1 ⟨rfl, rfl⟩)
    | (go_at_call 69; refine (wordEnd_any s F B ⟨#[62]⟩ hs gF hB _).mono ?_; rintro e w1 ⟨rfl, rfl⟩)
    | (go_at_call 53; refine (lower_any S1 N hN1 hS1m _).mono ?_; rintro e w2 ⟨rfl, hb2⟩; have F5 := Fact.mk ((Five.new w _ _ _ _ _ _).keep hb2); have HB := Fact.mk ((bl1 w _).trans (hb2.mono (bl1 w _).size)); obtain ⟨c0, c1, c2, c3, c4, fz⟩ := F5.out; clear hb2)
    | (go_at_call 54; refine (upTo_at s _ _ B U 62 rfl rfl hs g3 hU _).mono ?_; rintro e w3 ⟨rfl, rfl⟩)
    | (go_at_call 62; refine (past_any s U E hs hUle hP _).mono ?_; rintro e w4 ⟨rfl, rfl⟩))
  refine bodyPost_ret (results_tk 4 5 6 rfl rfl rfl rfl (F5.out.put (.int .i64 5) (.string N) (.string ⟨#[]⟩) (.slice none 0 0) (.bool false))) rfl ?_
  exact tok_end ⟨5, N, ⟨#[]⟩, [], false⟩ E true (.slice none 0 0) F5.out HB.out (Nat.lt_succ_self _) (no_row _ _)

/-- a tag -/
structure TagR (l : List UInt8) (k : Nat) (kd : Int) (t : Tk) (E : Nat) (ok : Bool) : Prop where
  is : ((tagB l k).2 = l.length ∧ t.Is 0 [] [] [] false ∧ E = l.length ∧ ok = false) ∨ ((tagB l k).2 < l.length ∧ t.Is kd (tagN l k) [] (if kd = 1 then srtA (tagB l k).1 else []) false ∧ E = (tagB l k).2 + 1 ∧ ok = true)
theorem tag_out (s : ByteArray) (k : Nat) (kd : Int) (hs : IsSm s.size) (hk : k ≤ s.size) (w : World) (hl : Laid w) :
    Calls Tryd.prog 58 #[.string s, .int .i64 k, .int .i64 kd] w fun e w' => ∃ (t : Tk) (E : Nat) (ok : Bool), TagR s.data.toList k kd t E ok ∧ TokOut w t E ok e w' := by
  obtain ⟨N, hN⟩ : ∃ N : ByteArray, Fact (tagN s.data.toList k = N.data.toList) := ⟨tx _, ⟨rfl⟩⟩
  refine (tag_any s N k kd (tagB s.data.toList k).1 (tagB s.data.toList k).2 hs hk hN ⟨rfl⟩ w hl).mono ?_
  rintro e w' (⟨h1, rfl, hb⟩ | ⟨h1, v, rfl, h2, h3, hb⟩)
  · exact ⟨⟨0, ⟨#[]⟩, ⟨#[]⟩, [], false⟩, s.size, false, ⟨Or.inl ⟨by rw [← Lib.size_eq]; exact h1, ⟨rfl, rfl, rfl, rfl, rfl⟩, Lib.size_eq s, rfl⟩⟩, _, rfl, no_row _ _, hb⟩
  · by_cases hkd : kd = 1
    · exact ⟨⟨kd, N, ⟨#[]⟩, srtA (tagB s.data.toList k).1, false⟩, _, true, ⟨Or.inr ⟨by rw [← Lib.size_eq]; exact h1, ⟨rfl, hN.out.symm, rfl, by rw [if_pos hkd], rfl⟩, rfl, rfl⟩⟩, v, rfl, by rw [srtA_len]; exact h2 hkd, hb⟩
    · have e := h3 hkd
      subst e
      exact ⟨⟨kd, N, ⟨#[]⟩, [], false⟩, _, true, ⟨Or.inr ⟨by rw [← Lib.size_eq]; exact h1, ⟨rfl, hN.out.symm, rfl, by rw [if_neg hkd], rfl⟩, rfl, rfl⟩⟩, _, rfl, no_row _ _, hb⟩
end Go.Proofs.YtdniddiaiinggaaDoor
