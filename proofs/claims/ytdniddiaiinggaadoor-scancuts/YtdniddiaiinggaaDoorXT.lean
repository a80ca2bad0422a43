/- The document's example; tokens read; the document's own Lower. -/
import Derived.Test.YtdniddiaiinggaaDoorXB
import Derived.Test.YtdniddiaiinggaaDoorTQ
set_option linter.unusedVariables false
namespace Go.Proofs.YtdniddiaiinggaaDoor
open Go.RowKit M

set_option maxRecDepth 20000 in
set_option maxHeartbeats 1000000 in
theorem refLower_any (s T : ByteArray) (hT : Fact (lwL s.data.toList = T.data.toList)) (hs : IsSm s.size) (w : World) : Calls Tryd.prog 10 #[.string s] w fun e w' => e = .returned (.string T) ∧ Below w.heap.size w w' := by
  have hcv := run_bytes_of_string (P := Tryd.prog) w 9 46 5 s Tryd.underlying9 Tryd.underlying46 Tryd.underlying5
  have hcap := grownCap_ge w s.size 0 5
  obtain ⟨cp, hcp⟩ : ∃ cp, grownCap w s.size 0 5 = cp := ⟨_, rfl⟩
  rw [hcp] at hcv hcap
  have hlow := low_start lw w s cp
  obtain ⟨W, hW⟩ : ∃ W, w.drew.alloc (.cells (bytesRow s cp) 5 ((bytesRow s cp).size, (bytesRow s cp).size + 1)) = W := ⟨_, rfl⟩
  have hb : Below w.heap.size w W := by rw [← hW]; exact (Below.refl _ w).drew.alloc (Nat.le_refl _) _
  rw [hW] at hcv hlow
  clear hW hcp
  have hsz := hs.le
  go_enter Tryd.func10, Tryd.ntmps10
  go_wp2
  go_loopw [4] (fun i wx => ∃ k : Nat, i = .int .i64 k ∧ k ≤ s.size ∧ Below w.heap.size w wx ∧ Low lw wx w.heap.size s.data.toList k) (fun i _ => s.size - (intOf i).toNat)
  case atStart => exact ⟨0, rfl, Nat.zero_le _, hb, hlow⟩
  case round =>
    obtain ⟨k, rfl, hk, hbr, hl⟩ := hrel
    by_cases hlt : k < s.size
    · obtain ⟨b, hbk⟩ : ∃ b, s.data.toList[k]? = some b := ⟨_, List.getElem?_eq_getElem (by rw [← Lib.size_eq]; exact hlt)⟩
      have hc := hl.cells k b hbk
      rw [if_neg (Nat.lt_irrefl _)] at hc
      have hf := hl.free k (by rw [← Lib.size_eq]; exact hlt)
      have HB := Fact.mk hbk
      have HL := Fact.mk hl
      clear hbk hl
      go_wp2
      · have h1 : (65 : Int) ≤ (b.toNat : Int) := by assumption
        have h2 : (b.toNat : Int) ≤ 90 := by assumption
        go_roundw
        case rel => exact ⟨k + 1, by go_num, by omega, hbr.setCell (Nat.le_refl _) _, low_put HL.out HB.out (by have := lw_hit b h1 h2; omega)⟩
        case measure => simp [intOf]; omega
      · have h2 : (90 : Int) < (b.toNat : Int) := by assumption
        go_roundw
        case rel => exact ⟨k + 1, by go_num, by omega, hbr, low_keep HL.out HB.out (by unfold lw; rw [if_neg (by omega)])⟩
        case measure => simp [intOf]; omega
      · have h2 : ¬ (65 : Int) ≤ (b.toNat : Int) := by assumption
        go_roundw
        case rel => exact ⟨k + 1, by go_num, by omega, hbr, low_keep HL.out HB.out (by unfold lw; rw [if_neg (by omega)])⟩
        case measure => simp [intOf]; omega
    · have hcv2 := low_conv (cp := cp) hl hlt hT.out
      clear hl hlow hcv
      go_wp2
      go_ret
      exact ⟨rfl, hbr⟩


theorem cellsT_at : ∀ {l : List (Tk × Value)} {j : Nat} {p : Tk × Value}, l[j]? = some p → ∀ i u, (cells5 p)[i]? = some u → (cellsT l)[j * 5 + i]? = some u
  | [], j, p, h, i, u, hi => by simp at h
  | q :: r, 0, p, h, i, u, hi => by
    simp at h
    subst h
    have e : cellsT (q :: r) = cells5 q ++ cellsT r := by simp [cellsT]
    have hl := (List.getElem?_eq_some_iff.1 hi).1
    rw [e, Nat.zero_mul, Nat.zero_add, List.getElem?_append_left hl]
    exact hi
  | q :: r, j + 1, p, h, i, u, hi => by
    have h2 : r[j]? = some p := by simpa using h
    have e : cellsT (q :: r) = cells5 q ++ cellsT r := by simp [cellsT]
    have hl : (cells5 q).length = 5 := rfl
    rw [e, List.getElem?_append_right (by rw [hl]; omega), hl, show (j + 1) * 5 + i - 5 = j * 5 + i by omega]
    exact cellsT_at h2 i u hi
/-- a list of tokens, read -/
theorem TokL.read {w : World} {B : Nat} {v : Value} {its : List (Tk × Value)} (h : TokL w B v its) (h0 : 0 < its.length) : ∃ g cap, v = .slice (some ⟨g, 0, none⟩) its.length cap ∧ B ≤ g ∧ g < w.heap.size ∧ its.length ≤ cap ∧
    ∀ j p, its[j]? = some p → w.cell? ⟨g, j * 5, none⟩ = some (.int .i64 p.1.kd) ∧ w.cell? ⟨g, j * 5 + 1, none⟩ = some (.string p.1.n) ∧ w.cell? ⟨g, j * 5 + 2, none⟩ = some (.string p.1.x) ∧ w.cell? ⟨g, j * 5 + 3, none⟩ = some p.2 ∧ w.cell? ⟨g, j * 5 + 4, none⟩ = some (.bool p.1.raw) := by
  rcases h.row.2 with ⟨rfl, h1⟩ | ⟨g, cap, cur, rfl, hg, hh, hc1, hc2, hs, ht⟩
  · omega
  · refine ⟨g, cap, rfl, hg, (Array.getElem?_eq_some_iff.1 hh).1, hc1, fun j p hj => ?_⟩
    have q : ∀ i u, (cells5 p)[i]? = some u → w.cell? ⟨g, j * 5 + i, none⟩ = some u := fun i u hi => by
      have := h.row.cells (g := g) rfl _ _ (cellsT_at hj i u hi)
      rw [add_cell, Nat.zero_add] at this
      exact this
    exact ⟨q 0 _ rfl, q 1 _ rfl, q 2 _ rfl, q 3 _ rfl, q 4 _ rfl⟩
theorem TokL.keep {w w' : World} {B : Nat} {v : Value} {its : List (Tk × Value)} (h : TokL w B v its) (hb : Below w.heap.size w w') : TokL w' B v its :=
  ⟨own_keep h.row hb, fun y hy => own_keep (h.avs y hy) hb⟩
/-- of the empty text the end alone -/
theorem empty_tr {tr : List Pc} {x : Pc} (h : TrR [] (tr ++ [x])) (hn : ∀ y ∈ tr, y.t.kd ≠ 6) : tr = [] := by
  have h1 := TrR.len tr h.pre hn
  simp at h1
  exact List.eq_nil_of_length_eq_zero (by omega)
set_option maxRecDepth 20000 in
set_option maxHeartbeats 2000000 in
theorem awake11_true (w : World) (hl : Laid w) : Calls Tryd.prog 8 #[] w fun e w' => e = .returned (.bool true) ∧ Below w.heap.size w w' := by
  have HL := Fact.mk hl
  clear hl
  go_enter Tryd.func8, Tryd.ntmps8
  go_wp2_with (go_at_call 9; refine (all_any ⟨#[]⟩ (by decide) _ HL.out).mono ?_; rintro e w2 ⟨v, tr, x, its, rfl, hR⟩; have e1 := empty_tr (tr := tr) (x := x) hR.trs hR.no6; subst e1; have e2 : its = [] := (by have := hR.map; simpa [sayd] using this); subst e2; have HR := Fact.mk hR; obtain ⟨g, cap, ev, hg1, hg2, hg3, hc⟩ := hR.toks.read (by simp); have ev2 : v = .slice (some ⟨g, 0, none⟩) 1 cap := ev; subst ev2; obtain ⟨c0, _⟩ := hc 0 _ rfl; rw [Nat.zero_mul] at c0; have c0' : w2.cell? ⟨g, 0, none⟩ = some (.int .i64 6) := c0; clear hc hR ev c0)
  go_ret
  exact ⟨rfl, HR.out.below⟩
end Go.Proofs.YtdniddiaiinggaaDoor
/- ScanRaws, plain: the pieces of such sources. -/
set_option linter.unusedVariables false
namespace Go.Proofs.YtdniddiaiinggaaDoor
open Go.RowKit M

/-- pieces one behind the other, from a place on -/
def TrF (l : List UInt8) : Nat → List UInt8 → List Pc → Prop
  | _, _, [] => True
  | k, raw, p :: r => StpR l k raw p ∧ TrF l p.E (rawB p.t raw) r
theorem TrF.of (l : List UInt8) : ∀ (tr : List Pc) (s : Nat × List UInt8), (∀ pre x, pre ++ [x] <+: tr → StpR l (pre.foldl (fun s p => (p.E, rawB p.t s.2)) s).1 (pre.foldl (fun s p => (p.E, rawB p.t s.2)) s).2 x) → TrF l s.1 s.2 tr
  | [], _, _ => trivial
  | p :: r, s, h => by
    refine ⟨h [] p ⟨r, rfl⟩, TrF.of l r (p.E, rawB p.t s.2) (fun pre x hp => ?_)⟩
    exact h (p :: pre) x (by obtain ⟨q, e⟩ := hp; exact ⟨q, by rw [← e]; rfl⟩)
theorem TrR.f {l : List UInt8} {tr : List Pc} (h : TrR l tr) : TrF l 0 [] tr := TrF.of l tr (0, []) h
theorem TrF.head {l : List UInt8} {k : Nat} {raw : List UInt8} {tr : List Pc} {x : Pc} (h : TrF l k raw (tr ++ [x])) (h6 : x.t.kd = 6) (hk : k < l.length) : ∃ p r, tr = p :: r ∧ NxR l k raw p.t p.E p.ok ∧ TrF l p.E (rawB p.t raw) (r ++ [x]) := by
  cases tr with
  | nil =>
    have h1 : StpR l k raw x := h.1
    unfold StpR at h1
    rw [if_pos hk] at h1
    exact absurd h6 (h1.goes hk).kd
  | cons p r =>
    obtain ⟨h1, h2⟩ := h
    unfold StpR at h1
    rw [if_pos hk] at h1
    exact ⟨p, r, rfl, h1, h2⟩
theorem TrF.tail {l : List UInt8} {k : Nat} {raw : List UInt8} {tr : List Pc} {x : Pc} (h : TrF l k raw (tr ++ [x])) (h6 : ∀ y ∈ tr, y.t.kd ≠ 6) (hk : l.length ≤ k) : tr = [] := by
  cases tr with
  | nil => rfl
  | cons p r =>
    have h1 : StpR l k raw p := h.1
    unfold StpR at h1
    rw [if_neg (by omega)] at h1
    exact absurd h1.1.kd (h6 p (by simp))
/-- a whole tag, computed -/
theorem nx_start {l : List UInt8} {k e : Nat} {n : List UInt8} {t : Tk} {E : Nat} {ok : Bool} (h : NxN l k t E ok) (h0 : bAt l k = 60) (h1 : ltrAt l (k + 1) = true) (h2 : tagB l (k + 1) = ([], e)) (he : e < l.length) (hn : tagN l (k + 1) = n) : t.Is 1 n [] [] false ∧ E = e + 1 ∧ ok = true := by
  unfold NxN at h
  rw [if_pos h0] at h
  unfold OpR at h
  rw [if_pos h1] at h
  rcases h.is with ⟨h3, _⟩ | ⟨h3, h4, h5, h6⟩
  · rw [h2] at h3
    simp only at h3
    omega
  · rw [h2, hn, if_pos rfl] at h4
    rw [h2] at h5
    have e0 : srtA [] = [] := by simp [srtA]
    rw [e0] at h4
    exact ⟨h4, h5, h6⟩
theorem nx_end {l : List UInt8} {k e : Nat} {n : List UInt8} {t : Tk} {E : Nat} {ok : Bool} (h : NxN l k t E ok) (h0 : bAt l k = 60) (h1 : ltrAt l (k + 1) = false) (h1b : ([60, 47].isPrefixOf (l.drop k) && ltrAt l (k + 2)) = true) (h2 : tagB l (k + 2) = ([], e)) (he : e < l.length) (hn : tagN l (k + 2) = n) : t.Is 2 n [] [] false ∧ E = e + 1 ∧ ok = true := by
  unfold NxN at h
  rw [if_pos h0] at h
  unfold OpR at h
  rw [if_neg (by rw [h1]; simp), if_pos h1b] at h
  rcases h.is with ⟨h3, _⟩ | ⟨h3, h4, h5, h6⟩
  · rw [h2] at h3
    simp only at h3
    omega
  · rw [h2, hn, if_neg (by decide)] at h4
    rw [h2] at h5
    exact ⟨h4, h5, h6⟩
def rep8 : Nat → List UInt8
  | 0 => []
  | k + 1 => rep8 k ++ [60, 98, 62, 120, 60, 47, 105, 62]
theorem rep8_len : ∀ k, (rep8 k).length = 8 * k
  | 0 => rfl
  | k + 1 => by rw [rep8, List.length_append, rep8_len k]; simp; omega
def srcR (nm : List UInt8) (k : Nat) : List UInt8 := (((((60 :: nm) ++ [62]) ++ rep8 k) ++ [60, 47]) ++ nm) ++ [62, 60, 98, 62]
/-- what is asked of such a source, computed -/
def chkR (nm : List UInt8) (k : Nat) : Bool :=
  let S := srcR nm k
  let n := nm.length
  let e := n + 2 + 8 * k
  let f := e + 3 + n
  ((((bAt S 0 == 60) && ltrAt S 1) && ((tagB S 1 == ([], n + 1)) && (tagN S 1 == nm))) && (rawN nm != 0) &&
  ((List.range e).all (fun j => decide (j < n + 2) || !endT (lwL nm) (S.drop j)) && endT (lwL nm) (S.drop e))) &&
  ((((bAt S e == 60) && !ltrAt S (e + 1)) && ([60, 47].isPrefixOf (S.drop e) && ltrAt S (e + 2))) && ((tagB S (e + 2) == ([], e + 2 + n)) && (tagN S (e + 2) == nm)) &&
  (((bAt S f == 60) && ltrAt S (f + 1)) && ((tagB S (f + 1) == ([], f + 2)) && (tagN S (f + 1) == [98])) && (S.length == f + 3)) &&
  ((rawX (sub S (n + 2) e) nm).length == 8 * k) && S.all (fun c => decide (32 ≤ c.toNat) && decide (c.toNat < 128)))
def nms8 : List (List UInt8) := [[116, 105, 116, 108, 101], [116, 101, 120, 116, 97, 114, 101, 97], [115, 116, 121, 108, 101], [115, 99, 114, 105, 112, 116], [120, 109, 112], [105, 102, 114, 97, 109, 101], [110, 111, 101, 109, 98, 101, 100], [110, 111, 102, 114, 97, 109, 101, 115]]
set_option maxRecDepth 100000 in
theorem chk_all : nms8.all (fun nm => (List.range 10).all (chkR nm)) = true := by kernel_rfl
theorem chk_at {nm : List UInt8} {k : Nat} (h : nm ∈ nms8) (hk : k < 10) : chkR nm k = true := by
  have h1 := List.all_eq_true.1 chk_all nm h
  exact List.all_eq_true.1 h1 k (List.mem_range.2 hk)
/-- a plain text is clean -/
theorem C_plain : ∀ {l : List UInt8}, (∀ c ∈ l, 32 ≤ c.toNat ∧ c.toNat < 128) → U.C false l = l
  | [], _ => rfl
  | c :: r, h => by
    have hc := h c (by simp)
    have hr : U.IsR c.toNat := ⟨by omega⟩
    have e1 : U.en (c.toNat : Nat) = [c] := by
      rw [U.en1 c.toNat hr hc.2]
      simp
    have e2 : c :: r = U.en (c.toNat : Nat) ++ r := by rw [e1]; rfl
    rw [e2, U.C_en false c.toNat hr r, if_neg (by simp)]
    have e3 : U.cz c.toNat = c.toNat := by
      unfold U.cz
      rw [if_neg (by omega), if_neg (by omega)]
    have e4 : decide (c.toNat = 13) = false := decide_eq_false (by omega)
    rw [e3, e4, C_plain (fun d hd => h d (by simp [hd]))]
/-- the tokens of such a source -/
structure RwT (nm : List UInt8) (k : Nat) (L : List Tk) : Prop where
  len : L.length = (if 0 < k then 2 else 1) + 2
  t0 : ∃ t, L[0]? = some t ∧ t.kd = 1 ∧ t.n.data.toList = nm
  t1 : 0 < k → ∃ t, L[1]? = some t ∧ t.kd = 3 ∧ t.raw = true ∧ t.x.data.toList.length = 8 * k
  t2 : ∃ t, L[if 0 < k then 2 else 1]? = some t ∧ t.kd = 2 ∧ t.n.data.toList = nm
  t3 : ∃ t, L[(if 0 < k then 2 else 1) + 1]? = some t ∧ t.kd = 1 ∧ t.n.data.toList = [98]
theorem IsFirst.is_at {p : Nat → Bool} {n k E F : Nat} (h : IsFirst p n k E) (hk : k ≤ F) (hF : F < n) (hp : p F = true) (hn : ∀ j, k ≤ j → j < F → p j = false) : E = F := by
  rcases Nat.lt_trichotomy E F with h1 | h1 | h1
  · have := h.at_ (by omega)
    rw [hn E h.ge h1] at this
    cases this
  · exact h1
  · have := h.no F hk h1
    rw [hp] at this
    cases this
theorem lw_names : nms8.all (fun nm => (lwL nm == nm) && (rawN nm != 0) && (nm != []) && (nm != [98])) = true := by kernel_rfl
theorem raws_toks {nm : List UInt8} {k : Nat} (hm : nm ∈ nms8) (hk : k < 10) {tr : List Pc} {x : Pc} (h : TrR (srcR nm k) (tr ++ [x])) (h6 : x.t.kd = 6) (hn6 : ∀ y ∈ tr, y.t.kd ≠ 6) : RwT nm k (sayd tr) := by
  have hc := chk_at hm hk
  have hl := List.all_eq_true.1 lw_names nm hm
  simp only [chkR, Bool.and_eq_true, beq_iff_eq, bne_iff_ne, ne_eq, Bool.not_eq_true', decide_eq_true_eq, List.all_eq_true, Bool.or_eq_true, List.mem_range] at hc
  simp only [Bool.and_eq_true, beq_iff_eq, bne_iff_ne, ne_eq] at hl
  obtain ⟨⟨⟨hl1, hl2⟩, hl3⟩, hl4⟩ := hl
  obtain ⟨⟨⟨⟨⟨a1, a2⟩, a3, a4⟩, a5⟩, a6, a7⟩, ⟨⟨⟨⟨⟨b1, b2⟩, b3, b4⟩, b5, b6⟩, ⟨⟨c1, c2⟩, c3, c4⟩, c5⟩, d1⟩, d2⟩ := hc
  obtain ⟨S, hS⟩ : ∃ S, srcR nm k = S := ⟨_, rfl⟩
  obtain ⟨n, hn⟩ : ∃ n, nm.length = n := ⟨_, rfl⟩
  rw [hS] at h a1 a2 a3 a4 a6 a7 b1 b2 b3 b4 b5 b6 c1 c2 c3 c4 c5 d1 d2
  rw [hn] at a3 a6 a7 b1 b2 b3 b4 b5 b6 c1 c2 c3 c4 c5 d1
  obtain ⟨e, he⟩ : ∃ e, n + 2 + 8 * k = e := ⟨_, rfl⟩
  rw [he] at a6 a7 b1 b2 b3 b4 b5 b6 c1 c2 c3 c4 c5 d1
  have hF := h.f
  have hlen : S.length = e + 3 + n + 3 := c5
  obtain ⟨p1, r1, rfl, n1, hF1⟩ := hF.head h6 (by omega)
  unfold NxR at n1
  rw [if_pos rfl] at n1
  obtain ⟨i1, E1, o1⟩ := nx_start n1 a1 a2 a3 (by omega) a4
  have w1 : rawB p1.t [] = nm := by
    unfold rawB
    rw [i1.kd, i1.n, if_pos ⟨rfl, a5⟩]
  rw [w1, E1] at hF1
  have first : ∀ {B : Nat} {k0 : Nat}, n + 2 ≤ k0 → k0 ≤ e → IsFirst (fun j => endT (lwL nm) (S.drop j)) S.length k0 B → B = e := fun h1 h2 hB =>
    hB.is_at h2 (by omega) a7 (fun j hj hj2 => by
      rcases a6 j hj2 with h | h
      · omega
      · exact h)
  have rest : ∀ {r : List Pc}, TrF S e nm (r ++ [x]) → (∀ y ∈ r, y.t.kd ≠ 6) → ∃ p3 p4, r = [p3, p4] ∧ p3.ok = true ∧ p4.ok = true ∧ p3.t.kd = 2 ∧ p3.t.n.data.toList = nm ∧ p4.t.kd = 1 ∧ p4.t.n.data.toList = [98] := by
    intro r hr hr6
    obtain ⟨p3, r3, rfl, n3, hF3⟩ := hr.head h6 (by omega)
    unfold NxR at n3
    rw [if_neg hl3] at n3
    obtain ⟨B, hB, n3⟩ := n3
    have eB := first (by omega) (Nat.le_refl _) hB
    rw [if_neg (by omega)] at n3
    obtain ⟨i3, E3, o3⟩ := nx_end n3 b1 b2 (by rw [b3, b4]; rfl) b5 (by omega) b6
    have w3 : rawB p3.t nm = [] := by
      unfold rawB
      rw [i3.kd, i3.n, if_neg (fun e => absurd e.1 (by decide)), if_pos (Or.inr ⟨rfl, rfl⟩)]
    rw [w3, E3, show e + 2 + n + 1 = e + 3 + n by omega] at hF3
    obtain ⟨p4, r4, rfl, n4, hF4⟩ := hF3.head h6 (by omega)
    unfold NxR at n4
    rw [if_pos rfl] at n4
    obtain ⟨i4, E4, o4⟩ := nx_start n4 c1 c2 c3 (by omega) c4
    rw [E4] at hF4
    have e4 := hF4.tail (fun y hy => hr6 y (by simp [hy])) (by omega)
    subst e4
    exact ⟨p3, p4, rfl, o3, o4, i3.kd, i3.n, i4.kd, i4.n⟩
  by_cases hk0 : 0 < k
  · obtain ⟨p2, r2, rfl, n2, hF2⟩ := hF1.head h6 (by omega)
    unfold NxR at n2
    rw [if_neg hl3] at n2
    obtain ⟨B, hB, n2⟩ := n2
    have eB := first (by omega) (by omega) hB
    rw [if_pos (by omega)] at n2
    obtain ⟨i2, E2, o2⟩ := n2
    have w2 : rawB p2.t nm = nm := by
      unfold rawB
      rw [i2.kd, if_neg (fun e => absurd e.1 (by decide)), if_neg (by rintro (e | e); exact absurd e (by decide); exact absurd e.1 (by decide))]
    rw [w2, E2, eB] at hF2
    obtain ⟨p3, p4, rfl, o3, o4, x1, x2, x3, x4⟩ := rest hF2 (fun y hy => hn6 y (by simp [hy]))
    have es : sayd [p1, p2, p3, p4] = [p1.t, p2.t, p3.t, p4.t] := by simp [sayd, o1, o2, o3, o4]
    rw [es]
    refine ⟨by rw [if_pos hk0]; rfl, ⟨_, rfl, i1.kd, i1.n⟩, fun _ => ⟨_, rfl, i2.kd, i2.raw, ?_⟩, ⟨_, by rw [if_pos hk0]; rfl, x1, x2⟩, ⟨_, by rw [if_pos hk0]; rfl, x3, x4⟩⟩
    rw [i2.x, eB]
    exact d1
  · have hk00 : k = 0 := by omega
    have ee : n + 1 + 1 = e := by omega
    rw [ee] at hF1
    obtain ⟨p3, p4, rfl, o3, o4, x1, x2, x3, x4⟩ := rest hF1 (fun y hy => hn6 y (by simp [hy]))
    have es : sayd [p1, p3, p4] = [p1.t, p3.t, p4.t] := by simp [sayd, o1, o3, o4]
    rw [es]
    refine ⟨by rw [if_neg hk0]; rfl, ⟨_, rfl, i1.kd, i1.n⟩, fun h => absurd h hk0, ⟨_, by rw [if_neg hk0]; rfl, x1, x2⟩, ⟨_, by rw [if_neg hk0]; rfl, x3, x4⟩⟩
theorem srcR_clean {nm : List UInt8} {k : Nat} (hm : nm ∈ nms8) (hk : k < 10) : U.C false (srcR nm k) = srcR nm k := by
  have hc := chk_at hm hk
  simp only [chkR, Bool.and_eq_true, decide_eq_true_eq, List.all_eq_true] at hc
  exact C_plain hc.2.2
end Go.Proofs.YtdniddiaiinggaaDoor
/- ScanTexts, plain: a source without tags. -/
set_option linter.unusedVariables false
namespace Go.Proofs.YtdniddiaiinggaaDoor
open Go.RowKit M

/-- what is bad stays so ahead of a blank -/
theorem bad_more {b : UInt8} {t y : List UInt8} (h : U.Bad (b :: t)) : U.Bad (b :: (t ++ 32 :: y)) := by
  rcases U.parts (b :: (t ++ 32 :: y)) (by simp) with ⟨r, m, hr, e⟩ | h2
  · exfalso
    have e' : (b :: t) ++ (32 :: y) = U.en r ++ m := e
    rcases List.append_eq_append_iff.1 e' with ⟨q, e1, e2⟩ | ⟨q, e1, e2⟩
    · cases q with
      | nil =>
        rw [List.append_nil] at e1
        have : b :: t = U.en r ++ [] := by rw [List.append_nil]; exact e1.symm
        rw [this] at h
        exact U.not_bad r hr [] h
      | cons c q =>
        have hc : c = 32 := by
          have := congrArg List.head? e2
          simp at this
          exact this.symm
        have hlen : 2 ≤ (U.en r).length := by rw [e1]; simp; omega
        have hr128 : 128 ≤ r := by
          rcases Nat.lt_or_ge r 128 with h1 | h1
          · rw [U.en1 r hr h1] at hlen
            simp at hlen
          · exact h1
        have := U.en_high r hr hr128 c (by rw [e1]; simp)
        rw [hc] at this
        exact absurd this (by decide)
    · have : b :: t = U.en r ++ q := e1
      rw [this] at h
      exact U.not_bad r hr q h
  · exact h2
theorem C_blank : ∀ (a : List UInt8) (cr : Bool) (y : List UInt8), U.C cr (a ++ 32 :: y) = U.C cr a ++ 32 :: U.C false y := by
  refine U.ind (P := fun a => ∀ (cr : Bool) (y : List UInt8), U.C cr (a ++ 32 :: y) = U.C cr a ++ 32 :: U.C false y) ?_ ?_ ?_
  · intro cr y
    have hr : U.IsR 32 := ⟨by omega⟩
    have e1 : U.en ((32 : Nat) : Int) = [32] := by rw [U.en1 32 hr (by omega)]; rfl
    have e2 : ([] : List UInt8) ++ 32 :: y = U.en ((32 : Nat) : Int) ++ y := by rw [e1]; rfl
    rw [e2, U.C_en cr 32 hr y, if_neg (by simp), show U.cz 32 = 32 from rfl, e1, U.C_nil]
    rfl
  · intro r m hr ih cr y
    rw [List.append_assoc, U.C_en cr r hr, U.C_en cr r hr, ih, List.append_assoc]
  · intro b t hb ih cr y
    have h1 : (b :: t) ++ 32 :: y = b :: (t ++ 32 :: y) := rfl
    rw [h1, U.C_bad cr b _ (bad_more hb), U.C_bad cr b t hb, ih, List.append_assoc]
/-- neither sign -/
def Pl (l : List UInt8) : Prop := ∀ c ∈ l, c ≠ 60 ∧ c ≠ 38
theorem Pl.app {a b : List UInt8} (h : Pl (a ++ b)) : Pl a ∧ Pl b := ⟨fun c hc => h c (List.mem_append_left _ hc), fun c hc => h c (List.mem_append_right _ hc)⟩
theorem pl_bad : Pl [239, 191, 189] := by
  intro c hc
  simp at hc
  rcases hc with rfl | rfl | rfl <;> decide
theorem Pl.both {a b : List UInt8} (h : Pl a) (h' : Pl b) : Pl (a ++ b) := fun c hc => by
  rcases List.mem_append.1 hc with hc | hc
  · exact h c hc
  · exact h' c hc
theorem C_pl : ∀ (a : List UInt8) (cr : Bool), Pl a → Pl (U.C cr a) := by
  refine U.ind (P := fun a => ∀ (cr : Bool), Pl a → Pl (U.C cr a)) ?_ ?_ ?_
  · intro cr _ c hc
    rw [U.C_nil] at hc
    cases hc
  · intro r m hr ih cr h
    rw [U.C_en cr r hr]
    refine Pl.both ?_ (ih _ h.app.2)
    split
    · intro c hc
      cases hc
    · unfold U.cz
      split
      · rw [U.en_bad 65533 rfl]
        exact pl_bad
      split
      · have e1 : U.en ((10 : Nat) : Int) = [10] := by rw [U.en1 10 ⟨by omega⟩ (by omega)]; rfl
        rw [e1]
        intro c hc
        simp at hc
        subst hc
        decide
      · exact h.app.1
  · intro b t hb ih cr h
    rw [U.C_bad cr b t hb]
    exact Pl.both pl_bad (ih _ (fun c hc => h c (List.mem_cons_of_mem _ hc)))
theorem decB_pl {attr : Bool} : ∀ (x y : List UInt8), (∀ c ∈ x, c ≠ 38) → decB attr (x ++ y) = x ++ decB attr y
  | [], y, _ => rfl
  | c :: r, y, h => by
    rw [List.cons_append, decB_plain (h c (by simp)), decB_pl r y (fun d hd => h d (List.mem_cons_of_mem _ hd))]
    rfl
/-- a reference that is taken whole, whatever stands behind a blank -/
structure Rf1 (r : List UInt8) : Prop where
  nb : ∀ c ∈ r, txP false c = true
  amp : bAt r 0 = 38
  one : ∀ y, ∃ x, refT (r ++ 32 :: y) false = (x, r.length) ∧ refT r false = (x, r.length)
theorem decB_rf {r : List UInt8} (h : Rf1 r) (y : List UInt8) : decB false (r ++ 32 :: y) = decB false r ++ decB false (32 :: y) := by
  obtain ⟨x, h1, h2⟩ := h.one y
  have hne : r ≠ [] := fun e => by have := h.amp; rw [e] at this; exact absurd this (by decide)
  have h0 : bAt (r ++ 32 :: y) 0 = 38 := by
    cases r with
    | nil => exact absurd rfl hne
    | cons c q => exact h.amp
  rw [decB_ref h0, h1, decB_ref h.amp, h2]
  simp only [List.drop_left]
  rw [List.drop_length, decB_nil, List.append_nil]
theorem names_no : Tb.all (fun e => !e.1.contains 32) = true := by kernel_rfl
theorem look_no {w : List UInt8} (h : 32 ∈ w) : M.look w = none := by
  unfold M.look
  cases hl : Tb.lookup w with
  | none => rfl
  | some v =>
    exfalso
    have hm : ∃ e ∈ Tb, e.1 = w := by
      have key : ∀ (T : List (List UInt8 × Int × Int × Bool)), T.lookup w = some v → ∃ e ∈ T, e.1 = w := by
        intro T
        induction T with
        | nil => intro h; cases h
        | cons q T ih =>
          intro hq
          obtain ⟨n, d⟩ := q
          rw [List.lookup_cons] at hq
          split at hq
          · rename_i hb
            exact ⟨_, List.mem_cons_self .., (beq_iff_eq.1 hb).symm⟩
          · obtain ⟨e, he, e2⟩ := ih hq
            exact ⟨e, List.mem_cons_of_mem _ he, e2⟩
      exact key Tb hl
    obtain ⟨e, he, e2⟩ := hm
    have := List.all_eq_true.1 names_no e he
    rw [e2] at this
    simp at this
    exact this h
theorem word_mem {l : List UInt8} (h : 32 ∈ l) : 32 ∈ word l := by
  unfold word
  split
  · rename_i he
    unfold ends at he
    rw [decide_eq_true_eq] at he
    obtain ⟨q, hq⟩ : ∃ q, l = q ++ [59] := by
      rcases List.eq_nil_or_concat l with rfl | ⟨q, z, rfl⟩
      · cases h
      · rw [List.concat_eq_append] at he ⊢
        simp at he
        exact ⟨q, by rw [he]⟩
    rw [hq] at h ⊢
    simp at h ⊢
    exact h
  · exact h
theorem among_no {l : List UInt8} (h : 32 ∈ l) : (amongB l).2 = false := by
  unfold amongB
  rw [look_no (word_mem h)]
theorem longG_skip (t : List UInt8) (q : Nat) : ∀ n, q ≤ n → (∀ j, q < j → j ≤ n → (amongB (t.take j)).2 = false) → longG amongB t n = longG amongB t q
  | 0, h, _ => by
    obtain rfl : q = 0 := Nat.le_zero.1 h
    rfl
  | n + 1, h, hj => by
    by_cases e : q = n + 1
    · rw [e]
    · rw [longG, if_neg (by rw [hj (n + 1) (by omega) (Nat.le_refl _)]; simp)]
      exact longG_skip t q n (by omega) (fun j h1 h2 => hj j h1 (by omega))
/-- by name -/
theorem name_rf {nm x : List UInt8} (hl : nm.length ≤ 6) (h1 : 1 ≤ nm.length) (ha : amongB nm = (x, true)) (h35 : bAt nm 0 ≠ 35) (y : List UInt8) : refT ((38 :: nm) ++ 32 :: y) false = (x, nm.length + 1) ∧ refT (38 :: nm) false = (x, nm.length + 1) := by
  obtain ⟨m, hm⟩ : ∃ m, nm.length = m + 1 := ⟨nm.length - 1, by omega⟩
  have take_eq : ∀ z, (nm ++ z).take (m + 1) = nm := fun z => by rw [← hm, List.take_left]
  have lg : ∀ z, longG amongB (nm ++ z) (m + 1) = (m + 1, x) := fun z => by
    rw [longG, take_eq z, ha, if_pos rfl]
  have key : ∀ t, longB t 1 = (m + 1, x) → bAt t 0 = 38 → bAt t 1 ≠ 35 → refT t false = (x, nm.length + 1) := by
    intro t hb h0 h2
    unfold refT
    rw [if_neg (by rw [h0]; simp), if_neg h2]
    unfold nameT
    rw [hb, if_neg (by simp), if_neg (by simp), hm]
    simp [Nat.add_comm]
  have b1 : ∀ z, bAt ((38 :: nm) ++ z) 1 = bAt nm 0 := fun z => by
    cases nm with
    | nil => simp at h1
    | cons c q => rfl
  constructor
  · refine key _ ?_ rfl (by rw [b1]; exact h35)
    unfold longB
    have e : ((38 :: nm) ++ 32 :: y).drop 1 = nm ++ 32 :: y := rfl
    have e2 : ((38 :: nm) ++ 32 :: y).length - 1 = nm.length + 1 + y.length := by simp; omega
    rw [e, e2, longG_skip _ (m + 1) _ (by omega) (fun j h3 h4 => ?_)]
    · exact lg _
    · apply among_no
      have : (nm ++ 32 :: y).take j = nm ++ (32 :: y).take (j - nm.length) := by rw [List.take_append, List.take_of_length_le (by omega)]
      rw [this]
      obtain ⟨i, hi⟩ : ∃ i, j - nm.length = i + 1 := ⟨j - nm.length - 1, by omega⟩
      rw [hi]
      simp
  · have := key (38 :: nm) ?_ rfl (by have := b1 []; rw [List.append_nil] at this; rw [this]; exact h35)
    · exact this
    · unfold longB
      have e : (38 :: nm).drop 1 = nm := rfl
      have e2 : min 7 ((38 :: nm).length - 1) = m + 1 := by simp; omega
      rw [e, e2]
      have := lg []
      rw [List.append_nil] at this
      exact this
theorem rf_name {nm x : List UInt8} (hl : nm.length ≤ 6) (h1 : 1 ≤ nm.length) (ha : amongB nm = (x, true)) (h35 : bAt nm 0 ≠ 35) (hb : ∀ c ∈ nm, txP false c = true) : Rf1 (38 :: nm) :=
  ⟨fun c hc => by
    rcases List.mem_cons.1 hc with rfl | hc
    · decide
    · exact hb c hc, rfl, fun y => ⟨x, name_rf hl h1 ha h35 y⟩⟩
theorem rf_num : Rf1 [38, 35, 54, 53, 59] :=
  ⟨by decide, rfl, fun y => ⟨[65], by
    constructor
    · unfold refT
      rw [if_neg (by simp [bAt, List.getD]), if_pos (by rfl)]
      unfold numT
      have e : numP ([38, 35, 54, 53, 59] ++ 32 :: y) = (65, 2) := rfl
      rw [e]
      rfl
    · rfl⟩⟩
def rf4 : Nat → List UInt8
  | 0 => [38, 97, 109, 112, 59]
  | 1 => [38, 35, 54, 53, 59]
  | 2 => [38, 108, 116, 59]
  | _ => [38, 110, 98, 115, 112, 59]
theorem rf4_ok {p : Nat} (h : (p : Int) < 4) : Rf1 (rf4 p) ∧ (rf4 p).length ≤ 6 ∧ (∀ c ∈ rf4 p, 32 ≤ c.toNat ∧ c.toNat < 128 ∧ c ≠ 60) := by
  have : p = 0 ∨ p = 1 ∨ p = 2 ∨ p = 3 := by omega
  rcases this with rfl | rfl | rfl | rfl
  · exact ⟨rf_name (nm := [97, 109, 112, 59]) (x := (amongB [97, 109, 112, 59]).1) (by decide) (by decide) (by kernel_rfl) (by decide) (by decide), by decide, by decide⟩
  · exact ⟨rf_num, by decide, by decide⟩
  · exact ⟨rf_name (nm := [108, 116, 59]) (x := (amongB [108, 116, 59]).1) (by decide) (by decide) (by kernel_rfl) (by decide) (by decide), by decide, by decide⟩
  · exact ⟨rf_name (nm := [110, 98, 115, 112, 59]) (x := (amongB [110, 98, 115, 112, 59]).1) (by decide) (by decide) (by kernel_rfl) (by decide) (by decide), by decide, by decide⟩
end Go.Proofs.YtdniddiaiinggaaDoor
/- ScanTexts, plain: the pieces of a source without tags. -/
set_option linter.unusedVariables false
namespace Go.Proofs.YtdniddiaiinggaaDoor
open Go.RowKit M

theorem spE_stops {p : UInt8 → Bool} {l : List UInt8} {k j : Nat} (hk : k ≤ j) (hj : j < l.length) (hp : p (bAt l j) = false) : spE p l k ≤ j := by
  have key : ∀ d k, j - k = d → k ≤ j → spE p l k ≤ j := by
    intro d
    induction d with
    | zero =>
      intro k h1 h2
      obtain rfl : k = j := by omega
      rw [spE_stop hj hp]
      exact Nat.le_refl _
    | succ d ih =>
      intro k h1 h2
      cases hb : p (bAt l k) with
      | false => rw [spE_stop (by omega) hb]; exact h2
      | true =>
        rw [← spE_go (by omega) hb]
        exact ih (k + 1) (by omega) (by omega)
  exact key _ k rfl hk
theorem sub_split (l : List UInt8) {a b : Nat} (h : a ≤ b) : l.drop a = sub l a b ++ l.drop b := by
  unfold sub
  have e : l.drop b = (l.drop a).drop (b - a) := by rw [List.drop_drop]; congr 1; omega
  rw [e, List.take_append_drop]
theorem sub_mem {l : List UInt8} {a b : Nat} {c : UInt8} (hc : c ∈ sub l a b) (hb : b ≤ l.length) : ∃ i, a ≤ i ∧ i < b ∧ bAt l i = c := by
  obtain ⟨i, hi0, e⟩ := List.getElem_of_mem hc
  have e2 : (sub l a b)[i]? = some c := by rw [List.getElem?_eq_getElem hi0, e]
  have hi := hi0
  rw [sub_len hb] at hi
  unfold sub at e2
  rw [List.getElem?_take_of_lt hi, List.getElem?_drop] at e2
  refine ⟨a + i, by omega, by omega, ?_⟩
  rw [bAt_in (by omega)]
  exact (List.getElem?_eq_some_iff.1 e2).2
/-- a source without tags, one reference between blanks -/
structure TxS (l A r B : List UInt8) : Prop where
  eq : l = A ++ 32 :: (r ++ 32 :: B)
  pa : Pl A
  pb : Pl B
  rf : Rf1 r
  r60 : ∀ c ∈ r, c ≠ 60
theorem bAt_mem {l : List UInt8} {i : Nat} (h : i < l.length) : bAt l i ∈ l := by
  rw [bAt_in h]
  exact List.getElem_mem h
theorem TxS.no60 {l A r B : List UInt8} (h : TxS l A r B) {k : Nat} (hk : k < l.length) : bAt l k ≠ 60 := by
  have hm := bAt_mem hk
  have : ∀ c ∈ l, c ≠ 60 := by
    rw [h.eq]
    intro c hc
    simp at hc
    rcases hc with hc | rfl | hc | rfl | hc
    · exact (h.pa c hc).1
    · decide
    · exact h.r60 c hc
    · decide
    · exact (h.pb c hc).1
  exact this _ hm
theorem TxS.len {l A r B : List UInt8} (h : TxS l A r B) : l.length = A.length + 1 + r.length + 1 + B.length := by
  rw [h.eq]
  simp
  omega
theorem TxS.low {l A r B : List UInt8} (h : TxS l A r B) {i : Nat} (hi : i < A.length + 1) : bAt l i ≠ 38 := by
  have e : l = (A ++ [32]) ++ (r ++ 32 :: B) := by rw [h.eq]; simp
  have e2 : bAt l i = bAt (A ++ [32]) i := by
    rw [e, bAt_in (by simp; omega), bAt_in (by simp; omega)]
    exact List.getElem_append_left _
  rw [e2]
  have hm := bAt_mem (l := A ++ [32]) (i := i) (by simp; omega)
  rcases List.mem_append.1 hm with hm | hm
  · exact (h.pa _ hm).2
  · rw [List.mem_singleton] at hm
    rw [hm]
    decide
theorem TxS.high {l A r B : List UInt8} (h : TxS l A r B) {i : Nat} (hi : A.length + 1 + r.length ≤ i) (hl : i < l.length) : bAt l i ≠ 38 := by
  have e : l = (A ++ 32 :: r) ++ (32 :: B) := by rw [h.eq]; simp
  have hz : (A ++ 32 :: r).length = A.length + 1 + r.length := by simp; omega
  have e2 : bAt l i = bAt (32 :: B) (i - (A ++ 32 :: r).length) := by
    rw [e] at hl ⊢
    have hl2 := hl
    rw [List.length_append] at hl2
    rw [bAt_in hl, bAt_in (by omega)]
    exact List.getElem_append_right (by omega)
  rw [e2]
  have hlen := h.len
  have hm := bAt_mem (l := 32 :: B) (i := i - (A ++ 32 :: r).length) (by rw [hz]; simp; omega)
  rcases List.mem_cons.1 hm with hm | hm
  · rw [hm]; decide
  · exact (h.pb _ hm).2
theorem TxS.mid {l A r B : List UInt8} (h : TxS l A r B) : l.drop (A.length + 1) = r ++ 32 :: B ∧ bAt l (A.length + 1) = 38 ∧ bAt l A.length = 32 := by
  have e : l = (A ++ [32]) ++ (r ++ 32 :: B) := by rw [h.eq]; simp
  have hz : (A ++ [32]).length = A.length + 1 := by simp
  have hd : l.drop (A.length + 1) = r ++ 32 :: B := by rw [e, ← hz, List.drop_left]
  refine ⟨hd, ?_, ?_⟩
  · have : bAt (l.drop (A.length + 1)) 0 = bAt l (A.length + 1 + 0) := bAt_drop ..
    rw [Nat.add_zero] at this
    rw [← this, hd]
    have := h.rf.amp
    cases r with
    | nil => exact absurd this (by decide)
    | cons c q => exact this
  · have hl := h.len
    rw [bAt_in (by omega)]
    have : l[A.length]? = some 32 := by rw [h.eq]; simp
    exact (List.getElem?_eq_some_iff.1 this).2
/-- one piece of it -/
theorem TxS.piece {l A r B : List UInt8} (h : TxS l A r B) {k E : Nat} (hk : k < l.length) (hp : k ≤ A.length + 1 ∨ A.length + 1 + r.length ≤ k) (hE : E = spE (txP (blk (bAt l k))) l k) :
    decB false (l.drop k) = decB false (sub l k E) ++ decB false (l.drop E) ∧ (E ≤ A.length + 1 ∨ A.length + 1 + r.length ≤ E) := by
  have hg : k ≤ E := by rw [hE]; exact spE_ge _ _ _
  have hle : E ≤ l.length := by rw [hE]; exact spE_le _ (Nat.le_of_lt hk)
  have hlen := h.len
  obtain ⟨hd, h38, h32⟩ := h.mid
  have plain : (∀ i, k ≤ i → i < E → bAt l i ≠ 38) → decB false (l.drop k) = decB false (sub l k E) ++ decB false (l.drop E) := by
    intro hn
    have hs : ∀ c ∈ sub l k E, c ≠ 38 := fun c hc => by
      obtain ⟨i, h1, h2, h3⟩ := sub_mem hc hle
      rw [← h3]
      exact hn i h1 h2
    rw [sub_split l hg, decB_pl _ _ hs]
    have := decB_pl (attr := false) (sub l k E) [] hs
    rw [List.append_nil, decB_nil, List.append_nil] at this
    rw [this]
  rcases hp with hp | hp
  · rcases Nat.lt_or_eq_of_le hp with hlt | heq
    · have hEle : E ≤ A.length + 1 := by
        rw [hE]
        cases hb : blk (bAt l k) with
        | true => exact spE_stops (by omega) (by omega) (by rw [h38]; decide)
        | false => exact Nat.le_trans (spE_stops (j := A.length) (by omega) (by omega) (by rw [h32]; decide)) (by omega)
      exact ⟨plain (fun i h1 h2 => h.low (by omega)), Or.inl hEle⟩
    · subst heq
      have hb : blk (bAt l (A.length + 1)) = false := by rw [h38]; decide
      have hEe : E = A.length + 1 + r.length := by
        rw [hE, hb]
        unfold spE
        rw [hd, spN_app h.rf.nb, spN_stop (by decide)]; rfl
      refine ⟨?_, Or.inr (by omega)⟩
      have hs : sub l (A.length + 1) E = r := by
        unfold sub
        rw [hd, hEe, show A.length + 1 + r.length - (A.length + 1) = r.length by omega, List.take_left]
      have hdE : l.drop E = 32 :: B := by
        rw [hEe, ← List.drop_drop, hd, List.drop_left]
      rw [hd, hs, hdE]
      exact decB_rf h.rf B
  · exact ⟨plain (fun i h1 h2 => h.high (by omega) (by omega)), Or.inr (by omega)⟩
/-- all of them -/
theorem TxS.all {l A r B : List UInt8} (h : TxS l A r B) {x : Pc} (h6 : x.t.kd = 6) : ∀ (tr : List Pc) (k : Nat), (k ≤ A.length + 1 ∨ A.length + 1 + r.length ≤ k) → k ≤ l.length → TrF l k [] (tr ++ [x]) → (∀ y ∈ tr, y.t.kd ≠ 6) →
    (∀ t ∈ sayd tr, t.kd = 3) ∧ (sayd tr).flatMap (fun t => t.x.data.toList) = decB false (l.drop k)
  | [], k, hp, hk, hF, hn => by
    have hk2 : k = l.length := by
      rcases Nat.lt_or_eq_of_le hk with h1 | h1
      · obtain ⟨p, q, e, _⟩ := hF.head h6 h1
        cases e
      · exact h1
    subst hk2
    refine ⟨fun t ht => by simp [sayd] at ht, ?_⟩
    rw [List.drop_length, decB_nil]
    rfl
  | p :: q, k, hp, hk, hF, hn => by
    have hlt : k < l.length := by
      rcases Nat.lt_or_eq_of_le hk with h1 | h1
      · exact h1
      · have := hF.tail hn (by omega)
        cases this
    obtain ⟨h1, h2⟩ := hF
    unfold StpR at h1
    rw [if_pos hlt] at h1
    unfold NxR at h1
    rw [if_pos rfl] at h1
    unfold NxN at h1
    rw [if_neg (h.no60 hlt)] at h1
    obtain ⟨hi, hE, ho⟩ := h1
    obtain ⟨hd, hp2⟩ := h.piece hlt hp hE
    have hw : rawB p.t [] = [] := by
      unfold rawB
      rw [hi.kd, if_neg (fun e => absurd e.1 (by decide)), if_neg (by rintro (e | e); exact absurd e (by decide); exact absurd e.1 (by decide))]
    rw [hw] at h2
    have hEl : p.E ≤ l.length := by rw [hE]; exact spE_le _ hk
    obtain ⟨r1, r2⟩ := TxS.all h h6 q p.E hp2 hEl h2 (fun y hy => hn y (List.mem_cons_of_mem _ hy))
    have es : sayd (p :: q) = p.t :: sayd q := by simp [sayd, ho]
    rw [es]
    refine ⟨fun t ht => ?_, ?_⟩
    · rcases List.mem_cons.1 ht with rfl | ht
      · exact hi.kd
      · exact r1 t ht
    · rw [List.flatMap_cons, r2, hd, hi.x, hE]
/-- the cleaned source -/
theorem tx_clean {a b r : List UInt8} (ha : Pl a) (hb : Pl b) (hr : Rf1 r) (hc : ∀ c ∈ r, 32 ≤ c.toNat ∧ c.toNat < 128 ∧ c ≠ 60) : TxS (U.C false (((a ++ [32]) ++ r ++ [32]) ++ b)) (U.C false a) r (U.C false b) := by
  refine ⟨?_, C_pl a false ha, C_pl b false hb, hr, fun c h => (hc c h).2.2⟩
  have e : ((a ++ [32]) ++ r ++ [32]) ++ b = a ++ 32 :: (r ++ 32 :: b) := by simp
  rw [e, C_blank, C_blank, C_plain (fun c h => ⟨(hc c h).1, (hc c h).2.1⟩)]
end Go.Proofs.YtdniddiaiinggaaDoor
