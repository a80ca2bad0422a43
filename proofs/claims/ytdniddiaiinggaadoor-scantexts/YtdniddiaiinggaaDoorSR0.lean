/- ScanRaws, plain: the pieces of such sources. -/
import Derived.Test.YtdniddiaiinggaaDoorSE
set_option linter.unusedVariables false
namespace Go.Proofs.YtdniddiaiinggaaDoor
open Go.RowKit M

/-- pieces one behind the other, from a place on -/
def TrF (l : List UInt8) : Nat → List UInt8 → List Pc → Prop
  | _, _, [] => True
  | k, raw, p :: r => StpR l k raw p ∧ TrF l p.E (rawB p.t raw) r
theorem TrF.of (l : List UInt8) : ∀ (tr : List Pc) (s : Nat × List UInt8), (∀ pre x, pre ++ [x] <+: tr → StpR l (pre.foldl (fun s p => (p.E, rawB p.t s.2)) s).1 (pre.foldl (fun s p => (p.E, rawB p.t s.2)) s).2 x) → TrF l s.1 s.2 tr
  | [], _, _ => trivial
  | p :: r, s, h => by
    refine ⟨h [] p ⟨r, rfl⟩, TrF.of l r (p.E, rawB p.t s.2) (fun pre x hp => ?_)⟩
    exact h (p :: pre) x (by obtain ⟨q, e⟩ := hp; exact ⟨q, by rw [← e]; rfl⟩)
theorem TrR.f {l : List UInt8} {tr : List Pc} (h : TrR l tr) : TrF l 0 [] tr := TrF.of l tr (0, []) h
theorem TrF.head {l : List UInt8} {k : Nat} {raw : List UInt8} {tr : List Pc} {x : Pc} (h : TrF l k raw (tr ++ [x])) (h6 : x.t.kd = 6) (hk : k < l.length) : ∃ p r, tr = p :: r ∧ NxR l k raw p.t p.E p.ok ∧ TrF l p.E (rawB p.t raw) (r ++ [x]) := by
  cases tr with
  | nil =>
    have h1 : StpR l k raw x := h.1
    unfold StpR at h1
    rw [if_pos hk] at h1
    exact absurd h6 (h1.goes hk).kd
  | cons p r =>
    obtain ⟨h1, h2⟩ := h
    unfold StpR at h1
    rw [if_pos hk] at h1
    exact ⟨p, r, rfl, h1, h2⟩
theorem TrF.tail {l : List UInt8} {k : Nat} {raw : List UInt8} {tr : List Pc} {x : Pc} (h : TrF l k raw (tr ++ [x])) (h6 : ∀ y ∈ tr, y.t.kd ≠ 6) (hk : l.length ≤ k) : tr = [] := by
  cases tr with
  | nil => rfl
  | cons p r =>
    have h1 : StpR l k raw p := h.1
    unfold StpR at h1
    rw [if_neg (by omega)] at h1
    exact absurd h1.1.kd (h6 p (by simp))
/-- a whole tag, computed -/
theorem nx_start {l : List UInt8} {k e : Nat} {n : List UInt8} {t : Tk} {E : Nat} {ok : Bool} (h : NxN l k t E ok) (h0 : bAt l k = 60) (h1 : ltrAt l (k + 1) = true) (h2 : tagB l (k + 1) = ([], e)) (he : e < l.length) (hn : tagN l (k + 1) = n) : t.Is 1 n [] [] false ∧ E = e + 1 ∧ ok = true := by
  unfold NxN at h
  rw [if_pos h0] at h
  unfold OpR at h
  rw [if_pos h1] at h
  rcases h.is with ⟨h3, _⟩ | ⟨h3, h4, h5, h6⟩
  · rw [h2] at h3
    simp only at h3
    omega
  · rw [h2, hn, if_pos rfl] at h4
    rw [h2] at h5
    have e0 : srtA [] = [] := by simp [srtA]
    rw [e0] at h4
    exact ⟨h4, h5, h6⟩
theorem nx_end {l : List UInt8} {k e : Nat} {n : List UInt8} {t : Tk} {E : Nat} {ok : Bool} (h : NxN l k t E ok) (h0 : bAt l k = 60) (h1 : ltrAt l (k + 1) = false) (h1b : ([60, 47].isPrefixOf (l.drop k) && ltrAt l (k + 2)) = true) (h2 : tagB l (k + 2) = ([], e)) (he : e < l.length) (hn : tagN l (k + 2) = n) : t.Is 2 n [] [] false ∧ E = e + 1 ∧ ok = true := by
  unfold NxN at h
  rw [if_pos h0] at h
  unfold OpR at h
  rw [if_neg (by rw [h1]; simp), if_pos h1b] at h
  rcases h.is with ⟨h3, _⟩ | ⟨h3, h4, h5, h6⟩
  · rw [h2] at h3
    simp only at h3
    omega
  · rw [h2, hn, if_neg (by decide)] at h4
    rw [h2] at h5
    exact ⟨h4, h5, h6⟩
def rep8 : Nat → List UInt8
  | 0 => []
  | k + 1 => rep8 k ++ [60, 98, 62, 120, 60, 47, 105, 62]
theorem rep8_len : ∀ k, (rep8 k).length = 8 * k
  | 0 => rfl
  | k + 1 => by rw [rep8, List.length_append, rep8_len k]; simp; omega
def srcR (nm : List UInt8) (k : Nat) : List UInt8 := (((((60 :: nm) ++ [62]) ++ rep8 k) ++ [60, 47]) ++ nm) ++ [62, 60, 98, 62]
/-- what is asked of such a source, computed -/
def chkR (nm : List UInt8) (k : Nat) : Bool :=
  let S := srcR nm k
  let n := nm.length
  let e := n + 2 + 8 * k
  let f := e + 3 + n
  ((((bAt S 0 == 60) && ltrAt S 1) && ((tagB S 1 == ([], n + 1)) && (tagN S 1 == nm))) && (rawN nm != 0) &&
  ((List.range e).all (fun j => decide (j < n + 2) || !endT (lwL nm) (S.drop j)) && endT (lwL nm) (S.drop e))) &&
  ((((bAt S e == 60) && !ltrAt S (e + 1)) && ([60, 47].isPrefixOf (S.drop e) && ltrAt S (e + 2))) && ((tagB S (e + 2) == ([], e + 2 + n)) && (tagN S (e + 2) == nm)) &&
  (((bAt S f == 60) && ltrAt S (f + 1)) && ((tagB S (f + 1) == ([], f + 2)) && (tagN S (f + 1) == [98])) && (S.length == f + 3)) &&
  ((rawX (sub S (n + 2) e) nm).length == 8 * k) && S.all (fun c => decide (32 ≤ c.toNat) && decide (c.toNat < 128)))
def nms8 : List (List UInt8) := [[116, 105, 116, 108, 101], [116, 101, 120, 116, 97, 114, 101, 97], [115, 116, 121, 108, 101], [115, 99, 114, 105, 112, 116], [120, 109, 112], [105, 102, 114, 97, 109, 101], [110, 111, 101, 109, 98, 101, 100], [110, 111, 102, 114, 97, 109, 101, 115]]
set_option maxRecDepth 100000 in
theorem chk_all : nms8.all (fun nm => (List.range 10).all (chkR nm)) = true := by kernel_rfl
theorem chk_at {nm : List UInt8} {k : Nat} (h : nm ∈ nms8) (hk : k < 10) : chkR nm k = true := by
  have h1 := List.all_eq_true.1 chk_all nm h
  exact List.all_eq_true.1 h1 k (List.mem_range.2 hk)
/-- a plain text is clean -/
theorem C_plain : ∀ {l : List UInt8}, (∀ c ∈ l, 32 ≤ c.toNat ∧ c.toNat < 128) → U.C false l = l
  | [], _ => rfl
  | c :: r, h => by
    have hc := h c (by simp)
    have hr : U.IsR c.toNat := ⟨by omega⟩
    have e1 : U.en (c.toNat : Nat) = [c] := by
      rw [U.en1 c.toNat hr hc.2]
      simp
    have e2 : c :: r = U.en (c.toNat : Nat) ++ r := by rw [e1]; rfl
    rw [e2, U.C_en false c.toNat hr r, if_neg (by simp)]
    have e3 : U.cz c.toNat = c.toNat := by
      unfold U.cz
      rw [if_neg (by omega), if_neg (by omega)]
    have e4 : decide (c.toNat = 13) = false := decide_eq_false (by omega)
    rw [e3, e4, C_plain (fun d hd => h d (by simp [hd]))]
/-- the tokens of such a source -/
structure RwT (nm : List UInt8) (k : Nat) (L : List Tk) : Prop where
  len : L.length = (if 0 < k then 2 else 1) + 2
  t0 : ∃ t, L[0]? = some t ∧ t.kd = 1 ∧ t.n.data.toList = nm
  t1 : 0 < k → ∃ t, L[1]? = some t ∧ t.kd = 3 ∧ t.raw = true ∧ t.x.data.toList.length = 8 * k
  t2 : ∃ t, L[if 0 < k then 2 else 1]? = some t ∧ t.kd = 2 ∧ t.n.data.toList = nm
  t3 : ∃ t, L[(if 0 < k then 2 else 1) + 1]? = some t ∧ t.kd = 1 ∧ t.n.data.toList = [98]
theorem IsFirst.is_at {p : Nat → Bool} {n k E F : Nat} (h : IsFirst p n k E) (hk : k ≤ F) (hF : F < n) (hp : p F = true) (hn : ∀ j, k ≤ j → j < F → p j = false) : E = F := by
  rcases Nat.lt_trichotomy E F with h1 | h1 | h1
  · have := h.at_ (by omega)
    rw [hn E h.ge h1] at this
    cases this
  · exact h1
  · have := h.no F hk h1
    rw [hp] at this
    cases this
theorem lw_names : nms8.all (fun nm => (lwL nm == nm) && (rawN nm != 0) && (nm != []) && (nm != [98])) = true := by kernel_rfl
theorem raws_toks {nm : List UInt8} {k : Nat} (hm : nm ∈ nms8) (hk : k < 10) {tr : List Pc} {x : Pc} (h : TrR (srcR nm k) (tr ++ [x])) (h6 : x.t.kd = 6) (hn6 : ∀ y ∈ tr, y.t.kd ≠ 6) : RwT nm k (sayd tr) := by
  have hc := chk_at hm hk
  have hl := List.all_eq_true.1 lw_names nm hm
  simp only [chkR, Bool.and_eq_true, beq_iff_eq, bne_iff_ne, ne_eq, Bool.not_eq_true', decide_eq_true_eq, List.all_eq_true, Bool.or_eq_true, List.mem_range] at hc
  simp only [Bool.and_eq_true, beq_iff_eq, bne_iff_ne, ne_eq] at hl
  obtain ⟨⟨⟨hl1, hl2⟩, hl3⟩, hl4⟩ := hl
  obtain ⟨⟨⟨⟨⟨a1, a2⟩, a3, a4⟩, a5⟩, a6, a7⟩, ⟨⟨⟨⟨⟨b1, b2⟩, b3, b4⟩, b5, b6⟩, ⟨⟨c1, c2⟩, c3, c4⟩, c5⟩, d1⟩, d2⟩ := hc
  obtain ⟨S, hS⟩ : ∃ S, srcR nm k = S := ⟨_, rfl⟩
  obtain ⟨n, hn⟩ : ∃ n, nm.length = n := ⟨_, rfl⟩
  rw [hS] at h a1 a2 a3 a4 a6 a7 b1 b2 b3 b4 b5 b6 c1 c2 c3 c4 c5 d1 d2
  rw [hn] at a3 a6 a7 b1 b2 b3 b4 b5 b6 c1 c2 c3 c4 c5 d1
  obtain ⟨e, he⟩ : ∃ e, n + 2 + 8 * k = e := ⟨_, rfl⟩
  rw [he] at a6 a7 b1 b2 b3 b4 b5 b6 c1 c2 c3 c4 c5 d1
  have hF := h.f
  have hlen : S.length = e + 3 + n + 3 := c5
  obtain ⟨p1, r1, rfl, n1, hF1⟩ := hF.head h6 (by omega)
  unfold NxR at n1
  rw [if_pos rfl] at n1
  obtain ⟨i1, E1, o1⟩ := nx_start n1 a1 a2 a3 (by omega) a4
  have w1 : rawB p1.t [] = nm := by
    unfold rawB
    rw [i1.kd, i1.n, if_pos ⟨rfl, a5⟩]
  rw [w1, E1] at hF1
  have first : ∀ {B : Nat} {k0 : Nat}, n + 2 ≤ k0 → k0 ≤ e → IsFirst (fun j => endT (lwL nm) (S.drop j)) S.length k0 B → B = e := fun h1 h2 hB =>
    hB.is_at h2 (by omega) a7 (fun j hj hj2 => by
      rcases a6 j hj2 with h | h
      · omega
      · exact h)
  have rest : ∀ {r : List Pc}, TrF S e nm (r ++ [x]) → (∀ y ∈ r, y.t.kd ≠ 6) → ∃ p3 p4, r = [p3, p4] ∧ p3.ok = true ∧ p4.ok = true ∧ p3.t.kd = 2 ∧ p3.t.n.data.toList = nm ∧ p4.t.kd = 1 ∧ p4.t.n.data.toList = [98] := by
    intro r hr hr6
    obtain ⟨p3, r3, rfl, n3, hF3⟩ := hr.head h6 (by omega)
    unfold NxR at n3
    rw [if_neg hl3] at n3
    obtain ⟨B, hB, n3⟩ := n3
    have eB := first (by omega) (Nat.le_refl _) hB
    rw [if_neg (by omega)] at n3
    obtain ⟨i3, E3, o3⟩ := nx_end n3 b1 b2 (by rw [b3, b4]; rfl) b5 (by omega) b6
    have w3 : rawB p3.t nm = [] := by
      unfold rawB
      rw [i3.kd, i3.n, if_neg (fun e => absurd e.1 (by decide)), if_pos (Or.inr ⟨rfl, rfl⟩)]
    rw [w3, E3, show e + 2 + n + 1 = e + 3 + n by omega] at hF3
    obtain ⟨p4, r4, rfl, n4, hF4⟩ := hF3.head h6 (by omega)
    unfold NxR at n4
    rw [if_pos rfl] at n4
    obtain ⟨i4, E4, o4⟩ := nx_start n4 c1 c2 c3 (by omega) c4
    rw [E4] at hF4
    have e4 := hF4.tail (fun y hy => hr6 y (by simp [hy])) (by omega)
    subst e4
    exact ⟨p3, p4, rfl, o3, o4, i3.kd, i3.n, i4.kd, i4.n⟩
  by_cases hk0 : 0 < k
  · obtain ⟨p2, r2, rfl, n2, hF2⟩ := hF1.head h6 (by omega)
    unfold NxR at n2
    rw [if_neg hl3] at n2
    obtain ⟨B, hB, n2⟩ := n2
    have eB := first (by omega) (by omega) hB
    rw [if_pos (by omega)] at n2
    obtain ⟨i2, E2, o2⟩ := n2
    have w2 : rawB p2.t nm = nm := by
      unfold rawB
      rw [i2.kd, if_neg (fun e => absurd e.1 (by decide)), if_neg (by rintro (e | e); exact absurd e (by decide); exact absurd e.1 (by decide))]
    rw [w2, E2, eB] at hF2
    obtain ⟨p3, p4, rfl, o3, o4, x1, x2, x3, x4⟩ := rest hF2 (fun y hy => hn6 y (by simp [hy]))
    have es : sayd [p1, p2, p3, p4] = [p1.t, p2.t, p3.t, p4.t] := by simp [sayd, o1, o2, o3, o4]
    rw [es]
    refine ⟨by rw [if_pos hk0]; rfl, ⟨_, rfl, i1.kd, i1.n⟩, fun _ => ⟨_, rfl, i2.kd, i2.raw, ?_⟩, ⟨_, by rw [if_pos hk0]; rfl, x1, x2⟩, ⟨_, by rw [if_pos hk0]; rfl, x3, x4⟩⟩
    rw [i2.x, eB]
    exact d1
  · have hk00 : k = 0 := by omega
    have ee : n + 1 + 1 = e := by omega
    rw [ee] at hF1
    obtain ⟨p3, p4, rfl, o3, o4, x1, x2, x3, x4⟩ := rest hF1 (fun y hy => hn6 y (by simp [hy]))
    have es : sayd [p1, p3, p4] = [p1.t, p3.t, p4.t] := by simp [sayd, o1, o3, o4]
    rw [es]
    refine ⟨by rw [if_neg hk0]; rfl, ⟨_, rfl, i1.kd, i1.n⟩, fun h => absurd h hk0, ⟨_, by rw [if_neg hk0]; rfl, x1, x2⟩, ⟨_, by rw [if_neg hk0]; rfl, x3, x4⟩⟩
theorem srcR_clean {nm : List UInt8} {k : Nat} (hm : nm ∈ nms8) (hk : k < 10) : U.C false (srcR nm k) = srcR nm k := by
  have hc := chk_at hm hk
  simp only [chkR, Bool.and_eq_true, decide_eq_true_eq, List.all_eq_true] at hc
  exact C_plain hc.2.2
end Go.Proofs.YtdniddiaiinggaaDoor
