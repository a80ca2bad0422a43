/- A row of trees of which one is turned: what lies there then; that such a tree may not be. -/
import Derived.Test.YtblgjmohcdioeabGrownR
set_option linter.unusedVariables false
namespace Go.Proofs.Ytblgjmohcdioeab
open Go.Deep (BT)
open Go.RowKit M

theorem cells5_len (r : Nw) : (cells5 r).length = 5 := rfl
theorem rowF_get : ∀ (rs : List Nw) (i j : Nat), j < 5 → (rowF rs)[i * 5 + j]? = (rs[i]?).bind (fun r => (cells5 r)[j]?)
  | [], i, j, _ => by simp [rowF]
  | r :: rs, 0, j, h => by
    show (cells5 r ++ rowF rs)[0 * 5 + j]? = _
    rw [Nat.zero_mul, Nat.zero_add, List.getElem?_append_left (by rw [cells5_len]; exact h)]
    rfl
  | r :: rs, i + 1, j, h => by
    show (cells5 r ++ rowF rs)[(i + 1) * 5 + j]? = _
    rw [List.getElem?_append_right (by rw [cells5_len]; omega), cells5_len, show (i + 1) * 5 + j - 5 = i * 5 + j by omega, rowF_get rs i j h]
    rfl
theorem RowOf.below {N : Nat} {w w' : World} {v : Value} {rs : List Nw} (h : RowOf N w v rs) (hb : Below w.heap.size w w') : RowOf N w' v rs :=
  ⟨own_like h.own (fun k _ hz => hb.block k hz), (h.all.like (fun b _ hz => hb.block b hz)).mono (fun b hb' => ⟨hb'.1, Nat.lt_of_lt_of_le hb'.2.1 hb.size, hb'.2.2⟩)⟩
theorem RowOf.fl {N : Nat} {w : World} {v : Value} {rs : List Nw} (h : RowOf N w v rs) : FL (Old w.heap.size) w v (forF rs) :=
  own_FL (n := 0) h.own (h.all.mono (fun b hb => hb.2.1))
/-- where the row lies -/
theorem RowOf.at_ {N : Nat} {w : World} {a : Option Addr} {c : Nat} {rs : List Nw} (h : RowOf N w (.slice a rs.length c) rs) (h0 : 0 < rs.length) :
    ∃ g, a = some ⟨g, 0, none⟩ ∧ g < w.heap.size ∧ rs.length ≤ c ∧ c ≤ maxLen ∧ ∀ o, w.frozen? ⟨g, o, none⟩ = false := by
  rcases h.own.2 with ⟨_, h1⟩ | ⟨g, cap, cur, e, hg, hh, hc1, hc2, hs, ht⟩
  · omega
  · cases e
    exact ⟨g, rfl, (Array.getElem?_eq_some_iff.1 hh).1, hc1, hc2, fun o => by simp [World.frozen?, hh]⟩
theorem RowOf.cell {N : Nat} {w : World} {g c : Nat} {rs : List Nw} (h : RowOf N w (.slice (some ⟨g, 0, none⟩) rs.length c) rs) (i j : Nat) (hj : j < 5) (r : Nw) (hr : rs[i]? = some r) (v : Value) (hv : (cells5 r)[j]? = some v) :
    w.cell? ⟨g, i * 5 + j, none⟩ = some v := by
  have h1 : (rowF rs)[i * 5 + j]? = some v := by rw [rowF_get rs i j hj, hr]; exact hv
  have := h.own.cells (g := g) rfl _ _ h1
  rw [add_cell, Nat.zero_add] at this
  exact this
/-- one turned -/
theorem RowOf.turned {N : Nat} {w W : World} {g c : Nat} {rs : List Nw} (h : RowOf N w (.slice (some ⟨g, 0, none⟩) rs.length c) rs) (hcc : rs.length ≤ c ∧ c ≤ maxLen) (q : Nat) (hq : q < rs.length) (r' : Nw) (hg : g < w.heap.size)
    (hc : ∀ j v, (cells5 r')[j]? = some v → W.cell? ⟨g, q * 5 + j, none⟩ = some v) (ho : ∀ o, (o < q * 5 ∨ q * 5 + 5 ≤ o) → W.cell? ⟨g, o, none⟩ = w.cell? ⟨g, o, none⟩)
    (hb : ∀ b, b ≠ g → b < w.heap.size → W.heap[b]? = w.heap[b]?) (hs : w.heap.size ≤ W.heap.size) (hr : AS (Old W.heap.size) W r'.av r'.d.ats ∧ FL (Old W.heap.size) W r'.kv r'.k) :
    FL (Old W.heap.size) W (.slice (some ⟨g, 0, none⟩) rs.length c) (forF (rs.set q r')) := by
  have hlen : (forF (rs.set q r')).len = rs.length := by rw [forF_len, List.length_set]
  refine ⟨some ⟨g, 0, none⟩, c, by rw [hlen], by rw [hlen]; exact hcc.1, hcc.2, .inr ⟨g, 0, rfl, Nat.lt_of_lt_of_le hg hs, ?_⟩⟩
  have hall : AllIn (Old W.heap.size) W (rs.set q r') := fun r hr' => by
    rcases List.mem_or_eq_of_mem_set hr' with h1 | h1
    · have hl : Like (fun b => N ≤ b ∧ b < w.heap.size ∧ some b ≠ (Value.slice (some ⟨g, 0, none⟩) rs.length c).ownBlock) w W := fun b hb' hz => hb b (fun e => hb'.2.2 (by rw [e]; rfl)) hz
      have := (h.all r h1)
      exact ⟨(this.1.like hl).mono (fun b hb' => Nat.lt_of_lt_of_le hb'.2.1 hs), (this.2.like hl).mono (fun b hb' => Nat.lt_of_lt_of_le hb'.2.1 hs)⟩
    · rw [h1]; exact hr
  have := own_FAt (g := g) (rs.set q r') (fun j u hu => ?_) hall [] _ rfl
  · simpa using this
  · rw [add_cell, Nat.zero_add]
    have hj : j = j / 5 * 5 + j % 5 := by omega
    rw [hj] at hu ⊢
    rw [rowF_get _ _ _ (Nat.mod_lt _ (by omega))] at hu
    by_cases hi : j / 5 = q
    · rw [hi] at hu ⊢
      rw [List.getElem?_set_self hq] at hu
      exact hc _ _ hu
    · rw [List.getElem?_set_ne (Ne.symm hi)] at hu
      rw [ho _ (by omega)]
      cases hx : rs[j / 5]? with
      | none => rw [hx] at hu; cases hu
      | some r =>
        rw [hx] at hu
        exact h.cell _ _ (Nat.mod_lt _ (by omega)) r hx u hu

theorem bad_fit : ∀ (rs : List Nw) (r : Nw), r ∈ rs → mayOK r.d r.k.len 2 = false → allFit (pre 2 (forF rs)) = false
  | [], _, h, _ => absurd h (List.not_mem_nil)
  | x :: rs, r, h, hb => by
    show (fits ⟨2, x.d, x.k⟩ && (pre 3 x.k ++ pre 2 (forF rs)).all fits) = false
    rcases List.mem_cons.1 h with rfl | h
    · have : fits ⟨2, r.d, r.k⟩ = false := by
        show (decide (2 ≤ 60) && mayOK r.d r.k.len 2) = false
        rw [hb]; rfl
      rw [this]; rfl
    · have h2 : (pre 2 (forF rs)).all fits = false := bad_fit rs r h hb
      rw [List.all_append, h2, Bool.and_false, Bool.and_false]
theorem bad_tree (rs : List Nw) (r : Nw) (h : r ∈ rs) (hb : mayOK r.d r.k.len 2 = false) : treeOK rootD (forF rs) = false := by
  have h2 : (pre 2 (forF rs)).all fits = false := bad_fit rs r h hb
  unfold treeOK
  have e : allFit (pre 1 (.cons rootD (forF rs) .nil)) = false := by
    show (fits ⟨1, rootD, forF rs⟩ && (pre 2 (forF rs) ++ []).all fits) = false
    rw [List.append_nil, h2, Bool.and_false]
  rw [e, Bool.and_false, Bool.and_false]
theorem depth_mem : ∀ (rs : List Nw) (n : Nat), (∀ r ∈ rs, r.k.depth + 1 ≤ n) → (forF rs).depth ≤ n
  | [], _, _ => Nat.zero_le _
  | r :: rs, n, h => by
    have h1 := h r List.mem_cons_self
    have h2 := depth_mem rs n (fun x hx => h x (List.mem_cons_of_mem _ hx))
    show max (r.k.depth + 1) (forF rs).depth ≤ n
    omega
theorem depth_of : ∀ (rs : List Nw) (r : Nw), r ∈ rs → r.k.depth + 1 ≤ (forF rs).depth
  | [], _, h => absurd h (List.not_mem_nil)
  | x :: rs, r, h => by
    show _ ≤ max (x.k.depth + 1) (forF rs).depth
    rcases List.mem_cons.1 h with rfl | h
    · omega
    · have := depth_of rs r h; omega
/-- of a row one is turned into one that may not be: the tree may not be -/
structure Bad (W : World) (kv : Value) (f : M.F) : Prop where
  fl : FL (Old W.heap.size) W kv f
  no : treeOK rootD f = false
  deep : f.depth + 2 ≤ 1000000
theorem Bad.mk' {N : Nat} {w W : World} {g c : Nat} {rs : List Nw} (h : RowOf N w (.slice (some ⟨g, 0, none⟩) rs.length c) rs) (hd : (forF rs).depth ≤ 6) (hcc : rs.length ≤ c ∧ c ≤ maxLen) (q : Nat) (hq : q < rs.length) (r' : Nw) (hg : g < w.heap.size)
    (hc : ∀ j v, (cells5 r')[j]? = some v → W.cell? ⟨g, q * 5 + j, none⟩ = some v) (ho : ∀ o, (o < q * 5 ∨ q * 5 + 5 ≤ o) → W.cell? ⟨g, o, none⟩ = w.cell? ⟨g, o, none⟩)
    (hb : ∀ b, b ≠ g → b < w.heap.size → W.heap[b]? = w.heap[b]?) (hs : w.heap.size ≤ W.heap.size) (hr : AS (Old W.heap.size) W r'.av r'.d.ats ∧ FL (Old W.heap.size) W r'.kv r'.k) (hno : mayOK r'.d r'.k.len 2 = false) (hr6 : r'.k.depth ≤ 6) :
    Bad W (.slice (some ⟨g, 0, none⟩) rs.length c) (forF (rs.set q r')) := by
  have hm : r' ∈ rs.set q r' := List.mem_iff_getElem?.2 ⟨q, List.getElem?_set_self hq⟩
  refine ⟨h.turned hcc q hq r' hg hc ho hb hs hr, bad_tree _ r' hm hno, ?_⟩
  have := depth_mem (rs.set q r') 7 (fun r hx => by
    rcases List.mem_or_eq_of_mem_set hx with h1 | h1
    · have := depth_of rs r h1; omega
    · rw [h1]; omega)
  omega
end Go.Proofs.Ytblgjmohcdioeab
