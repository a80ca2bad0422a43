/- A tree with one text more: what it is, and the row that is made of it. -/
import Derived.Test.YtblgjmohcdioeabSpoil
import Derived.Test.YtblgjmohcdioeabGrowS
import Derived.Test.YtblgjmohcdioeabCompare
import Derived.Test.YtblgjmohcdioeabRefA
import Derived.Maps.AppendAt
set_option linter.unusedVariables false
namespace Go.Proofs.Ytblgjmohcdioeab
open Go.Deep (BT)
open Go.RowKit M

theorem ci_self (a : Int) : ci a a = 0 := by unfold ci; rw [if_neg (by omega), if_neg (by omega)]
theorem cl_self : ∀ l, cl l l = 0
  | [] => rfl
  | a :: l => by show orI (ci a.toNat a.toNat) (cl l l) = 0; rw [ci_self, cl_self l]; rfl
theorem ca_self : ∀ l, ca l l = 0
  | [] => rfl
  | p :: l => by
    have h1 : cp p p = 0 := by unfold cp cs; rw [cl_self, cl_self]; rfl
    show orI (cp p p) (ca l l) = 0; rw [h1, ca_self l]; rfl
theorem cn_self (d : Nd) : cn d d = 0 := by unfold cn cs; rw [ci_self, cl_self, cl_self, ca_self]; rfl
theorem cF_self : ∀ f, cF f f = 0
  | .nil => rfl
  | .node _ _ d k r => by show orI (cn d d) (orI (cF k k) (cF r r)) = 0; rw [cn_self, cF_self k, cF_self r]; rfl
theorem cT_self (d : Nd) (k : M.F) : cT d k d k = 0 := by unfold cT; rw [cn_self, cF_self]; rfl
/-- what is the same is as long -/
theorem cF_len : ∀ f g, cF f g = 0 → f.len = g.len
  | .nil, .nil, _ => rfl
  | .nil, .node _ _ _ _ _, h => by cases h
  | .node _ _ _ _ _, .nil, h => by cases h
  | .node _ _ d k r, .node _ _ d' k' r', h => by
    have h1 : orI (cn d d') (orI (cF k k') (cF r r')) = 0 := h
    have h2 : cF r r' = 0 := by
      unfold orI at h1
      split at h1
      · split at h1
        · exact h1
        · omega
      · omega
    show r.len + 1 = r'.len + 1
    rw [cF_len r r' h2]
/-- a forest with one more at a place -/
def insF : Nat → Nd → M.F → M.F
  | 0, d, f => .cons d .nil f
  | _ + 1, d, .nil => .cons d .nil .nil
  | q + 1, d, .node b o e k r => .node b o e k (insF q d r)
theorem insF_len : ∀ (q : Nat) (d : Nd) (f : M.F), (insF q d f).len = f.len + 1
  | 0, _, _ => rfl
  | _ + 1, _, .nil => rfl
  | q + 1, d, .node b o e k r => by show (insF q d r).len + 1 = r.len + 1 + 1; rw [insF_len q d r]
theorem insF_size : ∀ (q : Nat) (d : Nd) (f : M.F), (insF q d f).size = f.size + 1
  | 0, _, f => by show 1 + 0 + f.size = f.size + 1; omega
  | _ + 1, _, .nil => rfl
  | q + 1, d, .node b o e k r => by show 1 + k.size + (insF q d r).size = 1 + k.size + r.size + 1; rw [insF_size q d r]; omega
theorem insF_depth : ∀ (q : Nat) (d : Nd) (f : M.F), (insF q d f).depth ≤ max 1 f.depth
  | 0, _, f => by show max (0 + 1) f.depth ≤ _; omega
  | _ + 1, _, .nil => by show max (0 + 1) 0 ≤ _; omega
  | q + 1, d, .node b o e k r => by
    have := insF_depth q d r
    show max (k.depth + 1) (insF q d r).depth ≤ max 1 (max (k.depth + 1) r.depth)
    omega
/-- with one more it is another one -/
theorem insF_other (q : Nat) (d : Nd) (f : M.F) (e : Nd) : cT e f e (insF q d f) ≠ 0 := fun h => by
  have h1 : cF f (insF q d f) = 0 := by
    unfold cT at h
    rw [cn_self] at h
    exact h
  have := cF_len _ _ h1
  rw [insF_len] at this
  omega


abbrev hopD : Nd := ⟨3, ⟨#[]⟩, ⟨#[104, 111, 112]⟩, []⟩
abbrev hopN : Nw := ⟨hopD, .nil, .slice none 0 0, .slice none 0 0⟩
theorem ins_for : ∀ (q : Nat) (rs : List Nw), q ≤ rs.length → forF (rs.take q ++ hopN :: rs.drop q) = insF q hopD (forF rs)
  | 0, rs, _ => by simp [forF, insF]
  | q + 1, [], h => by simp at h
  | q + 1, r :: rs, h => by
    have := ins_for q rs (by simpa using h)
    simp only [List.take_succ_cons, List.drop_succ_cons, List.cons_append, forF, this]
    rfl
theorem rowF_app (a b : List Nw) : rowF (a ++ b) = rowF a ++ rowF b := by simp [rowF]
theorem rowF_one {S : Nat → Prop} {w : World} {rs : List Nw} (h : AllIn S w rs) : ∀ u ∈ rowF rs, u.oneCell' = true := fun u hu => by
  obtain ⟨r, hr, hu⟩ := List.mem_flatMap.1 hu
  obtain ⟨h1, h2⟩ := h r hr
  obtain ⟨a1, b1, c1, e1⟩ := h1.val
  obtain ⟨a2, c2, e2⟩ := h2.val
  simp only [cells5, List.mem_cons, List.not_mem_nil, or_false] at hu
  rcases hu with rfl | rfl | rfl | rfl | rfl
  · rfl
  · rfl
  · rfl
  · rw [e1]; rfl
  · rw [e2]; rfl

/-- one append of trees onto a list of the call's own -/
theorem app5 (V : World) (B : Nat) (v : Value) (n : Nat) (xs : List Value) (hown : V.ownsRow B 26 5 v n xs) (a : Addr) (m c : Nat) (news : List Value) (hl : news.length = m * 5) (hnews : ∀ j u, news[j]? = some u → V.cell? (a.add j) = some u) (h1 : ∀ u ∈ news, u.oneCell' = true)
    (hn : n + m ≤ 100) (hB : B ≤ V.heap.size) :
    ∃ v' V', (Builtin.append_ #[24, 24] 24 #[v, .slice (some a) m c]).run Try.prog V = .ok v' V' ∧ V'.ownsRow B 26 5 v' (n + m) (xs ++ news) ∧ Below B V V' ∧ (∀ k, k < V.heap.size → some k ≠ v.ownBlock → V'.heap[k]? = V.heap[k]?) := by
  obtain ⟨i0, hi, hz0, hz1, hz2⟩ := info_parts infoN
  obtain ⟨v', V', hr, ho, hg, _, _⟩ := run_append_own_at (P := Try.prog) V B 24 24 26 i0 _ 5 88 Try.underlying24 hi hz0 hz1 hz2 rfl (by decide) v n xs hown a m c news hl hnews h1 (by unfold maxLen; omega) (by omega) hB
  exact ⟨v', V', hr, ho, (Below.refl B V).grown hg hB (fun k e => (hown.lt k e).1), hg.block⟩

abbrev hopO : Obj := .cells #[.int .i64 3, .string ⟨#[]⟩, .string ⟨#[104, 111, 112]⟩, .slice none 0 0, .slice none 0 0] 26
theorem hop_news (V : World) : ∀ j u, (cells5 hopN)[j]? = some u → (V.alloc hopO).cell? ((⟨V.heap.size, 0, none⟩ : Addr).add j) = some u := fun j u hu => by
  rw [add_cell, Nat.zero_add]
  refine (World.cell?_alloc_new V _ _ j).trans ?_
  rw [← hu]; simp [cells5]

/-- the three appends, the new text made behind the first -/
theorem three_a {N : Nat} {V : World} {g c q : Nat} {rs : List Nw} (h : RowOf N V (.slice (some ⟨g, 0, none⟩) rs.length c) rs) (hq : q ≤ rs.length) (hl : rs.length ≤ 40) (a3 : Addr) (c3 : Nat) (ha : rs.length = q ∨ a3 = ⟨g, q * 5, none⟩) :
    ∃ v1 V1 v2 V3 v3 V4, (Builtin.append_ #[24, 24] 24 #[.slice none 0 0, .slice (some ⟨g, 0, none⟩) q c]).run Try.prog V = .ok v1 V1 ∧
      (Builtin.append_ #[24, 24] 24 #[v1, .slice (some ⟨V1.heap.size, 0, none⟩) 1 1]).run Try.prog (V1.alloc hopO) = .ok v2 V3 ∧
      (Builtin.append_ #[24, 24] 24 #[v2, .slice (some a3) (rs.length - q) c3]).run Try.prog V3 = .ok v3 V4 ∧
      Below V.heap.size V V1 ∧ Below V.heap.size V V3 ∧ Below V.heap.size V V4 ∧ V4.ownsRow V.heap.size 26 5 v3 (rs.length + 1) (rowF (rs.take q ++ hopN :: rs.drop q)) := by
  have hs : rowF rs = rowF (rs.take q) ++ rowF (rs.drop q) := by rw [← rowF_app, List.take_append_drop]
  have hone := rowF_one h.all
  have htl : (rowF (rs.take q)).length = q * 5 := by rw [rowF_len, List.length_take]; omega
  have hcell : ∀ W, Below V.heap.size V W → ∀ j u, (rowF rs)[j]? = some u → W.cell? ⟨g, j, none⟩ = some u := fun W hW j u hu => by
    have := h.own.cells (g := g) rfl _ _ hu
    rw [add_cell, Nat.zero_add] at this
    exact (hW.cell (p := ⟨g, j, none⟩) (World.block_lt_of_cell? V _ this)).trans this
  have hn3 : ∀ W, Below V.heap.size V W → ∀ j u, (rowF (rs.drop q))[j]? = some u → W.cell? (a3.add j) = some u := fun W hW j u hu => by
    rcases ha with e | e
    · rw [List.drop_eq_nil_of_le (by omega)] at hu
      simp [rowF] at hu
    · subst e
      rw [add_cell]
      refine hcell W hW _ _ ?_
      rw [hs, List.getElem?_append_right (by omega), htl, Nat.add_sub_cancel_left]
      exact hu
  obtain ⟨v1, V1, r1, o1, b1, _⟩ := app5 V V.heap.size (.slice none 0 0) 0 [] (World.ownsRow_nil _ _ _ _) ⟨g, 0, none⟩ q c (rowF (rs.take q)) htl (fun j u hu => by
      rw [add_cell, Nat.zero_add]
      refine hcell V (Below.refl _ _) j u ?_
      rw [hs, List.getElem?_append_left (List.getElem?_eq_some_iff.1 hu).1]; exact hu) (fun u hu => hone u (by rw [hs]; exact List.mem_append_left _ hu)) (by omega) (Nat.le_refl _)
  obtain ⟨v2, V3, r2, o2, b2, _⟩ := app5 (V1.alloc hopO) V.heap.size v1 _ _ (o1.alloc _) ⟨V1.heap.size, 0, none⟩ 1 1 (cells5 hopN) rfl (hop_news V1) (by simp [cells5, Value.oneCell']) (by omega) (by have := b1.size; simp; omega)
  have b12 := (b1.alloc b1.size hopO).trans b2
  obtain ⟨v3, V4, r3, o3, b3, _⟩ := app5 V3 V.heap.size v2 _ _ o2 a3 (rs.length - q) c3 (rowF (rs.drop q)) (by rw [rowF_len, List.length_drop]) (hn3 V3 b12) (fun u hu => hone u (by rw [hs]; exact List.mem_append_right _ hu)) (by omega) (by have := b12.size; omega)
  refine ⟨v1, V1, v2, V3, v3, V4, r1, r2, r3, b1, b12, b12.trans b3, ?_⟩
  have e1 : 0 + q + 1 + (rs.length - q) = rs.length + 1 := by omega
  have e2 : [] ++ rowF (rs.take q) ++ cells5 hopN ++ rowF (rs.drop q) = rowF (rs.take q ++ hopN :: rs.drop q) := by rw [rowF_app]; simp [rowF]
  rw [e1, e2] at o3
  exact o3
/-- .. made ahead of it -/
theorem three_b {N : Nat} {V : World} {g c q : Nat} {rs : List Nw} (h : RowOf N V (.slice (some ⟨g, 0, none⟩) rs.length c) rs) (hq : q ≤ rs.length) (hl : rs.length ≤ 40) (a3 : Addr) (c3 : Nat) (ha : rs.length = q ∨ a3 = ⟨g, q * 5, none⟩) :
    ∃ v1 V1 v2 V3 v3 V4, (Builtin.append_ #[24, 24] 24 #[.slice none 0 0, .slice (some ⟨g, 0, none⟩) q c]).run Try.prog (V.alloc hopO) = .ok v1 V1 ∧
      (Builtin.append_ #[24, 24] 24 #[v1, .slice (some ⟨V.heap.size, 0, none⟩) 1 1]).run Try.prog V1 = .ok v2 V3 ∧
      (Builtin.append_ #[24, 24] 24 #[v2, .slice (some a3) (rs.length - q) c3]).run Try.prog V3 = .ok v3 V4 ∧
      Below V.heap.size V V1 ∧ Below V.heap.size V V3 ∧ Below V.heap.size V V4 ∧ V4.ownsRow V.heap.size 26 5 v3 (rs.length + 1) (rowF (rs.take q ++ hopN :: rs.drop q)) := by
  have hs : rowF rs = rowF (rs.take q) ++ rowF (rs.drop q) := by rw [← rowF_app, List.take_append_drop]
  have hone := rowF_one h.all
  have htl : (rowF (rs.take q)).length = q * 5 := by rw [rowF_len, List.length_take]; omega
  have hcell : ∀ W, Below V.heap.size V W → ∀ j u, (rowF rs)[j]? = some u → W.cell? ⟨g, j, none⟩ = some u := fun W hW j u hu => by
    have := h.own.cells (g := g) rfl _ _ hu
    rw [add_cell, Nat.zero_add] at this
    exact (hW.cell (p := ⟨g, j, none⟩) (World.block_lt_of_cell? V _ this)).trans this
  have hn3 : ∀ W, Below V.heap.size V W → ∀ j u, (rowF (rs.drop q))[j]? = some u → W.cell? (a3.add j) = some u := fun W hW j u hu => by
    rcases ha with e | e
    · rw [List.drop_eq_nil_of_le (by omega)] at hu
      simp [rowF] at hu
    · subst e
      rw [add_cell]
      refine hcell W hW _ _ ?_
      rw [hs, List.getElem?_append_right (by omega), htl, Nat.add_sub_cancel_left]
      exact hu
  have b0 : Below V.heap.size V (V.alloc hopO) := (Below.refl _ _).alloc (Nat.le_refl _) _
  have z0 : (V.alloc hopO).heap.size = V.heap.size + 1 := by simp
  obtain ⟨v1, V1, r1, o1, b1, k1⟩ := app5 (V.alloc hopO) (V.heap.size + 1) (.slice none 0 0) 0 [] (World.ownsRow_nil _ _ _ _) ⟨g, 0, none⟩ q c (rowF (rs.take q)) htl (fun j u hu => by
      rw [add_cell, Nat.zero_add]
      refine hcell _ b0 j u ?_
      rw [hs, List.getElem?_append_left (List.getElem?_eq_some_iff.1 hu).1]; exact hu) (fun u hu => hone u (by rw [hs]; exact List.mem_append_left _ hu)) (by omega) (by omega)
  have b01 : Below V.heap.size V V1 := b0.trans (b1.mono (by omega))
  obtain ⟨v2, V3, r2, o2, b2, _⟩ := app5 V1 (V.heap.size + 1) v1 _ _ o1 ⟨V.heap.size, 0, none⟩ 1 1 (cells5 hopN) rfl (fun j u hu => by
      have := hop_news V j u hu
      rw [add_cell] at this ⊢
      exact (b1.cell (p := ⟨V.heap.size, 0 + j, none⟩) (by show V.heap.size < _; omega)).trans this) (by simp [cells5, Value.oneCell']) (by omega) (by have := b1.size; omega)
  have b12 := b01.trans (b2.mono (by omega))
  obtain ⟨v3, V4, r3, o3, b3, _⟩ := app5 V3 (V.heap.size + 1) v2 _ _ o2 a3 (rs.length - q) c3 (rowF (rs.drop q)) (by rw [rowF_len, List.length_drop]) (hn3 V3 b12) (fun u hu => hone u (by rw [hs]; exact List.mem_append_right _ hu)) (by omega) (by have := b1.size; have := b2.size; omega)
  refine ⟨v1, V1, v2, V3, v3, V4, r1, r2, r3, b01, b12, b12.trans (b3.mono (by omega)), ?_⟩
  have e1 : 0 + q + 1 + (rs.length - q) = rs.length + 1 := by omega
  have e2 : [] ++ rowF (rs.take q) ++ cells5 hopN ++ rowF (rs.drop q) = rowF (rs.take q ++ hopN :: rs.drop q) := by rw [rowF_app]; simp [rowF]
  rw [e1, e2] at o3
  exact own_less o3 (by omega)
end Go.Proofs.Ytblgjmohcdioeab
