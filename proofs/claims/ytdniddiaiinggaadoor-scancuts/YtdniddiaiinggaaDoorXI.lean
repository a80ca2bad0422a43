/- TokenGoes: each piece goes on, up to the end. -/
import Derived.Test.YtdniddiaiinggaaDoorTO
import Derived.Test.YtdniddiaiinggaaDoorXL
set_option linter.unusedVariables false
namespace Go.Proofs.YtdniddiaiinggaaDoor
open Go.RowKit M

/-- what is told goes on -/
structure Goes (l : List UInt8) (k : Nat) (t : Tk) (E : Nat) (ok : Bool) : Prop where
  gt : k < E
  le : E ≤ l.length
  kd : t.kd ≠ 6
  no : ok = false → t.Is 0 [] [] [] false
theorem TagR.goes {l : List UInt8} {k k0 : Nat} {kd : Int} {t : Tk} {E : Nat} {ok : Bool} (h : TagR l k kd t E ok) (hk : k ≤ l.length) (h0 : k0 < k) (hkd : kd ≠ 6) : Goes l k0 t E ok := by
  have hb := tagB_le hk
  rcases h.is with ⟨h1, h2, rfl, rfl⟩ | ⟨h1, h2, rfl, rfl⟩
  · exact ⟨by omega, Nat.le_refl _, by rw [h2.kd]; decide, fun _ => h2⟩
  · exact ⟨by omega, by omega, by rw [h2.kd]; exact hkd, fun e => by cases e⟩
theorem BogR.goes {l : List UInt8} {k k0 : Nat} {t : Tk} {E : Nat} {ok : Bool} (h : BogR l k t E ok) (hk : k ≤ l.length) (h0 : k0 < k) : Goes l k0 t E ok := by
  obtain ⟨h2, rfl, rfl⟩ := h
  have h3 := spE_ge (fun x => x != 62) l k
  have h4 := spE_le (fun x => x != 62) hk
  exact ⟨by omega, by omega, by rw [h2.kd]; decide, fun e => by cases e⟩
theorem pre_roomL {p l : List UInt8} {k : Nat} (h : p.isPrefixOf (l.drop k) = true) (hk : k ≤ l.length) : k + p.length ≤ l.length := by
  have := pre_len h
  rw [List.length_drop] at this
  omega
theorem pre_roomL2 {p l : List UInt8} {k : Nat} (h : p.isPrefixOf (lwL (l.drop k)) = true) (hk : k ≤ l.length) : k + p.length ≤ l.length := by
  have := pre_len h
  rw [lwL_len, List.length_drop] at this
  omega
theorem OpR.goes {l : List UInt8} {k : Nat} {t : Tk} {E : Nat} {ok : Bool} (h : OpR l k t E ok) (hk : k < l.length) : Goes l k t E ok := by
  unfold OpR at h
  split at h
  · exact h.goes hk (Nat.lt_succ_self _) (by decide)
  split at h
  · rename_i h2
    rw [Bool.and_eq_true] at h2
    exact h.goes (pre_roomL h2.1 (Nat.le_of_lt hk)) (by omega) (by decide)
  split at h
  · rename_i h2
    have := pre_roomL h2 (Nat.le_of_lt hk)
    obtain ⟨h3, rfl, rfl⟩ := h
    exact ⟨by omega, this, by rw [h3.kd]; decide, fun _ => h3⟩
  split at h
  · rename_i h2
    have h4 := pre_roomL h2 (Nat.le_of_lt hk)
    obtain ⟨T, hC, h3, rfl⟩ := h
    have h5 := hC.le h4
    exact ⟨by omega, h5.2, by rw [h3.kd]; decide, fun e => by cases e⟩
  split at h
  · rename_i h2
    have h4 := pre_roomL2 h2 (Nat.le_of_lt hk)
    obtain ⟨h3, rfl, rfl⟩ := h
    have h5 := dcE_le h4
    simp at h5
    exact ⟨by omega, h5.2, by rw [h3.kd]; decide, fun e => by cases e⟩
  split at h
  · rename_i h2
    rw [Bool.or_eq_true, Bool.and_eq_true] at h2
    rcases h2 with h2 | h2
    · exact h.goes (pre_roomL h2 (Nat.le_of_lt hk)) (by omega)
    · exact h.goes (pre_roomL h2.1 (Nat.le_of_lt hk)) (by omega)
  split at h
  · exact h.goes hk (Nat.lt_succ_self _)
  · obtain ⟨h3, rfl, rfl⟩ := h
    exact ⟨Nat.lt_succ_self _, hk, by rw [h3.kd]; decide, fun e => by cases e⟩
theorem NxN.goes {l : List UInt8} {k : Nat} {t : Tk} {E : Nat} {ok : Bool} (h : NxN l k t E ok) (hk : k < l.length) : Goes l k t E ok := by
  unfold NxN at h
  split at h
  · exact OpR.goes h hk
  · rename_i hc
    obtain ⟨h3, rfl, rfl⟩ := h
    have hp : txP (blk (bAt l k)) (bAt l k) = true := by
      unfold txP
      simp [hc]
    have e := spE_go (p := txP (blk (bAt l k))) hk hp
    have h4 := spE_ge (txP (blk (bAt l k))) l (k + 1)
    have h5 := spE_le (txP (blk (bAt l k))) (Nat.le_of_lt hk)
    exact ⟨by omega, h5, by rw [h3.kd]; decide, fun e => by cases e⟩
theorem NxR.goes {l : List UInt8} {k : Nat} {raw : List UInt8} {t : Tk} {E : Nat} {ok : Bool} (h : NxR l k raw t E ok) (hk : k < l.length) : Goes l k t E ok := by
  unfold NxR at h
  split at h
  · exact NxN.goes h hk
  · obtain ⟨B, hB, h⟩ := h
    split at h
    · rename_i h2
      obtain ⟨h3, rfl, rfl⟩ := h
      exact ⟨h2, hB.le, by rw [h3.kd]; decide, fun e => by cases e⟩
    · exact NxN.goes h hk
end Go.Proofs.YtdniddiaiinggaaDoor
/- The pieces of a source, one behind the other: plain; rawBehind. -/
set_option linter.unusedVariables false
namespace Go.Proofs.YtdniddiaiinggaaDoor
open Go.RowKit M

/-- a piece: its token, the place behind it, whether it says something -/
structure Pc where
  t : Tk
  E : Nat
  ok : Bool
/-- the raw element that is open behind a token -/
def rawB (t : Tk) (raw : List UInt8) : List UInt8 := if t.kd = 1 ∧ rawN t.n.data.toList ≠ 0 then t.n.data.toList else if t.kd = 1 ∨ (t.kd = 2 ∧ t.n.data.toList = raw) then [] else raw
/-- the place and the raw element behind pieces -/
def posS (tr : List Pc) : Nat × List UInt8 := tr.foldl (fun s p => (p.E, rawB p.t s.2)) (0, [])
theorem posS_nil : posS [] = (0, []) := rfl
theorem posS_snoc (tr : List Pc) (x : Pc) : posS (tr ++ [x]) = (x.E, rawB x.t (posS tr).2) := by
  unfold posS
  rw [List.foldl_append]
  rfl
/-- what stands at a place, up to the end of all -/
def StpR (l : List UInt8) (k : Nat) (raw : List UInt8) (p : Pc) : Prop :=
  if k < l.length then NxR l k raw p.t p.E p.ok else p.t.Is 6 [] [] [] false ∧ p.E = l.length ∧ p.ok = true
/-- pieces one behind the other -/
def TrR (l : List UInt8) (tr : List Pc) : Prop := ∀ pre x, pre ++ [x] <+: tr → StpR l (posS pre).1 (posS pre).2 x
theorem TrR.nil (l : List UInt8) : TrR l [] := fun pre x h => by
  have := h.length_le
  simp at this
theorem TrR.snoc {l : List UInt8} {tr : List Pc} {x : Pc} (h : TrR l tr) (hx : StpR l (posS tr).1 (posS tr).2 x) : TrR l (tr ++ [x]) := by
  intro pre y hp
  obtain ⟨post, e⟩ := hp
  rcases List.eq_nil_or_concat post with rfl | ⟨q, z, rfl⟩
  · rw [List.append_nil] at e
    obtain ⟨e1, e2⟩ := List.append_inj' e rfl
    cases e2
    rw [e1]
    exact hx
  · rw [List.concat_eq_append, ← List.append_assoc] at e
    obtain ⟨e1, e2⟩ := List.append_inj' e rfl
    exact h pre y ⟨q, e1⟩
theorem TrR.pre {l : List UInt8} {tr : List Pc} {x : Pc} (h : TrR l (tr ++ [x])) : TrR l tr := fun pre y hp => h pre y (hp.trans (List.prefix_append _ _))
theorem TrR.last {l : List UInt8} {tr : List Pc} {x : Pc} (h : TrR l (tr ++ [x])) : StpR l (posS tr).1 (posS tr).2 x := h tr x (List.prefix_refl _)
theorem rawN_len {l : List UInt8} (h : rawN l ≠ 0) : l.length ≤ 8 := by
  unfold rawN at h
  split at h
  · rename_i h1
    simp at h1
    rcases h1 with rfl | rfl <;> decide
  split at h
  · rename_i h1
    simp at h1
    rcases h1 with rfl | rfl | rfl | rfl | rfl | rfl <;> decide
  · exact absurd rfl h
/-- a raw element's name, or none -/
structure RawOK (raw : List UInt8) : Prop where
  is : raw = [] ∨ rawN raw ≠ 0
theorem RawOK.sm {raw : List UInt8} (h : RawOK raw) : IsSm raw.length := ⟨by
  rcases h.is with rfl | h
  · decide
  · have := rawN_len h
    omega⟩
theorem RawOK.behind {raw : List UInt8} (h : RawOK raw) (t : Tk) : RawOK (rawB t raw) := ⟨by
  unfold rawB
  split
  · rename_i h1
    exact Or.inr h1.2
  split
  · exact Or.inl rfl
  · exact h.is⟩
theorem RawOK.pos (tr : List Pc) : RawOK (posS tr).2 := by
  have key : ∀ (tr : List Pc) (s : Nat × List UInt8), RawOK s.2 → RawOK (tr.foldl (fun s p => (p.E, rawB p.t s.2)) s).2 := by
    intro tr
    induction tr with
    | nil => intro s h; exact h
    | cons x r ih => intro s h; exact ih _ (h.behind x.t)
  exact key tr (0, []) ⟨Or.inl rfl⟩

set_option maxRecDepth 20000 in
set_option maxHeartbeats 2000000 in
theorem rawBehind_any (kd : Int) (n x raw R : ByteArray) (va : Option Addr) (vn vc : Nat) (r : Bool) (hR : Fact (rawB ⟨kd, n, x, [], r⟩ raw.data.toList = R.data.toList)) (w : World) :
    Calls Tryd.prog 32 #[tokV kd n x (.slice va vn vc) r, .string raw] w fun e w' => e = .returned (.string R) ∧ Below w.heap.size w w' := by
  have hb : Below w.heap.size w (w.alloc (.cells #[.int .i64 kd, .string n, .string x, .slice va vn vc, .bool r] 27)) := bl1 w _
  obtain ⟨c, hc⟩ : ∃ c, Fact (rawN n.data.toList = c) := ⟨_, ⟨rfl⟩⟩
  have HR := hR.out
  unfold rawB at HR
  simp only [hc.out] at HR
  by_cases h1 : kd = 1
  · subst h1
    by_cases h2 : c = 0
    · have q1 : ((c : Int) == 0) = true := by rw [h2]; rfl
      rw [if_neg (by rw [h2]; simp), if_pos (Or.inl rfl)] at HR
      have e : R = ⟨#[]⟩ := tx_ext HR.symm
      subst e
      clear hR HR
      go_enter Tryd.func32, Tryd.ntmps32
      go_wp2_with (go_at_call 46; refine (raw_any n c hc _).mono ?_; rintro e w2 ⟨rfl, rfl⟩)
      go_ret
      exact ⟨rfl, hb⟩
    · have q1 : ((c : Int) == 0) = false := by rw [beq_eq_false_iff_ne]; omega
      rw [if_pos ⟨rfl, h2⟩] at HR
      have e : n = R := tx_ext HR
      subst e
      clear hR HR
      go_enter Tryd.func32, Tryd.ntmps32
      go_wp2_with (go_at_call 46; refine (raw_any n c hc _).mono ?_; rintro e w2 ⟨rfl, rfl⟩)
      go_ret
      exact ⟨rfl, hb⟩
  · have q1 : (kd == 1) = false := by rw [beq_eq_false_iff_ne]; exact h1
    rw [if_neg (fun e => h1 e.1)] at HR
    by_cases h2 : kd = 2
    · subst h2
      by_cases h3 : n.data.toList = raw.data.toList
      · have q2 : (n.toList == raw.toList) = true := by rw [Lib.toList_data, Lib.toList_data, h3]; exact beq_self_eq_true _
        rw [if_pos (Or.inr ⟨rfl, h3⟩)] at HR
        have e : R = ⟨#[]⟩ := tx_ext HR.symm
        subst e
        clear hR HR
        go_enter Tryd.func32, Tryd.ntmps32
        go_wp2_with fail
        go_ret
        exact ⟨rfl, hb⟩
      · have q2 : (n.toList == raw.toList) = false := by rw [Lib.toList_data, Lib.toList_data, beq_eq_false_iff_ne]; exact h3
        rw [if_neg (by rintro (e | e); exact h1 e; exact h3 e.2)] at HR
        have e : raw = R := tx_ext HR
        subst e
        clear hR HR
        go_enter Tryd.func32, Tryd.ntmps32
        go_wp2_with fail
        go_ret
        exact ⟨rfl, hb⟩
    · have q2 : (kd == 2) = false := by rw [beq_eq_false_iff_ne]; exact h2
      rw [if_neg (by rintro (e | e); exact h1 e; exact h2 e.1)] at HR
      have e : raw = R := tx_ext HR
      subst e
      clear hR HR
      go_enter Tryd.func32, Tryd.ntmps32
      go_wp2_with fail
      go_ret
      exact ⟨rfl, hb⟩
end Go.Proofs.YtdniddiaiinggaaDoor
/- The iterator of pieces: what it tells. -/
set_option linter.unusedVariables false
namespace Go.Proofs.YtdniddiaiinggaaDoor
open Go.RowKit M

structure Aside (p : Prop) : Prop where
  out : p
theorem own_block {w w' : World} {B E size n : Nat} {v : Value} {xs : List Value} (h : w.ownsRow B E size v n xs) (hb : ∀ k, some k = v.ownBlock → k < w.heap.size → w'.heap[k]? = w.heap[k]?) : w'.ownsRow B E size v n xs := by
  obtain ⟨h1, h2⟩ := h
  refine ⟨h1, ?_⟩
  rcases h2 with h2 | ⟨g, cap, cur, e, hg, hh, r⟩
  · exact .inl h2
  · exact .inr ⟨g, cap, cur, e, hg, (hb g (by rw [e]; rfl) (Array.getElem?_eq_some_iff.1 hh).1).trans hh, r⟩
/-- a piece as it is handed out: its attributes lie from B on, in no block that is kept -/
def EncP (B : Nat) (T : Nat → Prop) (W : World) (x : Pc) (args : Array Value) : Prop :=
  ∃ v, args = #[tokV x.t.kd x.t.n x.t.x v x.t.raw, .bool x.ok] ∧ W.ownsRow B 30 2 v x.t.at_.length (rowA x.t.at_) ∧ ∀ b, some b = v.ownBlock → ¬ T b
theorem EncP.keep {z : Nat} {T T' : Nat → Prop} {W W' : World} {x : Pc} {args : Array Value} (h : EncP (z + 2) T W x args) (hT : ∀ k, T' k → T k ∨ k = z ∨ k = z + 1) (hk : Kept (fun k => k ≠ z + 1) W W') : EncP (z + 2) T' W' x args := by
  obtain ⟨v, e, ho, hn⟩ := h
  refine ⟨v, e, own_block ho (fun k e hk' => hk.block k hk' (by have := (ho.lt k e.symm).1; omega)), fun b hb hTb => ?_⟩
  have := (ho.lt b hb.symm).1
  rcases hT b hTb with h | h | h
  · exact hn b hb h
  · omega
  · omega
/-- the end of all was told -/
def EndT (tr : List Pc) : Prop := ∃ pre x, tr = pre ++ [x] ∧ x.t.kd = 6
theorem EndT.not_nil : ¬ EndT [] := by
  rintro ⟨pre, x, h, _⟩
  have := congrArg List.length h
  simp at this
/-- Next wherever it is asked -/
theorem next_st (s R : ByteArray) (k : Nat) (hs : IsSm s.size) (hr : IsSm R.size) (w : World) (hl : Laid w) :
    Calls Tryd.prog 31 #[.string s, .int .i64 k, .string R] w fun e w' => ∃ p : Pc, StpR s.data.toList k R.data.toList p ∧ TokOut w p.t p.E p.ok e w' := by
  by_cases h : k < s.size
  · refine (next_any s R k hs hr h w hl).mono ?_
    rintro e w' ⟨t, E, ok, hR, hT⟩
    refine ⟨⟨t, E, ok⟩, ?_, hT⟩
    unfold StpR
    rw [if_pos (by rw [← Lib.size_eq]; exact h)]
    exact hR
  · refine (next_out s R k (Or.inr (by omega)) w).mono ?_
    rintro e w' hT
    refine ⟨⟨⟨6, ⟨#[]⟩, ⟨#[]⟩, [], false⟩, s.size, true⟩, ?_, hT⟩
    unfold StpR
    rw [if_neg (by rw [← Lib.size_eq]; exact h)]
    exact ⟨⟨rfl, rfl, rfl, rfl, rfl⟩, Lib.size_eq s, rfl⟩
theorem StpR.goes {l : List UInt8} {k : Nat} {raw : List UInt8} {p : Pc} (h : StpR l k raw p) (hk : k ≤ l.length) : k ≤ p.E ∧ p.E ≤ l.length ∧ (p.t.kd = 6 ∨ k < p.E) := by
  unfold StpR at h
  split at h
  · rename_i h1
    have := h.goes h1
    exact ⟨Nat.le_of_lt this.gt, this.le, Or.inr this.gt⟩
  · obtain ⟨h2, h3, h4⟩ := h
    exact ⟨by omega, by omega, Or.inl h2.kd⟩
/-- where the iterator stands -/
def RelP (s : ByteArray) (Bn B : Nat) (J : List Pc → (Nat → Prop) → World → Prop) (a r : Value) (wr : World) : Prop :=
  ∃ (tr : List Pc) (R : ByteArray) (k : Nat), a = .int .i64 k ∧ r = .string R ∧ posS tr = (k, R.data.toList) ∧ TrR s.data.toList tr ∧ k ≤ s.size ∧ J tr (fun _ => False) wr ∧ wr.cell? ⟨Bn, 0, none⟩ = some (.string s) ∧ Laid wr ∧ B ≤ wr.heap.size
theorem rawB_at (t : Tk) (L : AL) (raw : List UInt8) : rawB ⟨t.kd, t.n, t.x, L, t.raw⟩ raw = rawB t raw := rfl
theorem laid_kept {w w' : World} {K : Nat → Prop} (h : Laid w) (hk : Kept K w w') (h1 : K 1) : Laid w' :=
  ⟨fun i hi => hk.cell h1 (h.cells i hi), Nat.lt_of_lt_of_le h.pos hk.size⟩
set_option maxRecDepth 100000 in
set_option maxHeartbeats 2000000 in
theorem pieces_in (n : Nat) (hn : 1 ≤ n) (l Bn : Nat) (s : ByteArray) (hs : IsSm s.size) (N : Nat → Prop) (hN : N Bn) (hN1 : N 1) (J Jx : List Pc → (Nat → Prop) → World → Prop) (W : World) (hl : Laid W) (hJ : Bide J) (hE : ∀ tr T W, J tr T W → ¬ EndT tr)
    (hY : ∀ pre x T W1 args, J pre T W1 → (∀ k, T k → W.heap.size ≤ k ∧ k < W1.heap.size) → W.heap.size ≤ W1.heap.size → EncP W.heap.size T W1 x args → TrR s.data.toList (pre ++ [x]) → YieldAt Fence.wide (n - 1) Tryd.prog l args W1 fun e W' =>
      (e = .returned (.bool true) ∧ J (pre ++ [x]) T W' ∧ Kept (fun k => T k ∨ N k) W1 W') ∨ (e = .returned (.bool false) ∧ Jx (pre ++ [x]) T W'))
    (h0 : J [] (fun _ => False) W) (hc : W.cell? ⟨Bn, 0, none⟩ = some (.string s)) :
    CallsIn Fence.wide n Tryd.prog 30 #[.func (.yield l) #[] #[], .pointer (some ⟨Bn, 0, none⟩)] W fun e W' => (∃ v, e = .returned v) ∧ (∃ pre T, TrR s.data.toList pre ∧ Jx pre T W') := by
  have hsz := hs.le
  refine callsIn_of_wp Tryd.func30 rfl trivial ?_ rfl
  simp only [Tryd.ntmps30, List.size_toArray, List.length_cons, List.length_nil, Nat.reduceAdd, Nat.reduceSub, Array.replicate_succ, Array.replicate_zero, List.push_toArray, List.append_toArray, List.nil_append, List.cons_append]
  gi_wp2
  gi_loopw [3, 4] (fun a r wr => RelP s Bn W.heap.size J a r wr) (fun a _ _ => s.size - (intOf a).toNat)
  case atStart => exact ⟨[], ⟨#[]⟩, 0, rfl, rfl, rfl, TrR.nil _, Nat.zero_le _, h0, hc, hl, Nat.le_refl _⟩
  case round =>
    obtain ⟨tr, R, k, rfl, rfl, hp, hT, hk, hj, hcw, hlw, hzw⟩ := hrel
    have hrs : IsSm R.size := by
      have := (RawOK.pos tr).sm
      rw [hp] at this
      rw [Lib.size_eq]
      exact this
    have HJ := Fact.mk hj
    have HT := Fact.mk hT
    have HP := Fact.mk hp
    have HL := Fact.mk hlw
    have HY := Fact.mk hY
    have HJB := Fact.mk hJ
    have HE := Fact.mk hE
    have HC := Fact.mk hcw
    clear hj hT hp hlw hY hJ hE h0 hl hc
    gi_wp2_with (refine ⟨trivial, ?_⟩; gi_at_call 31; refine (callsIn_wide.2 (next_st s R k hs hrs _ HL.out)).mono ?_; rintro e w2 ⟨⟨⟨kd, Nm, X, AA, rr⟩, E, ok⟩, hSt, v, rfl, hrow, hb2⟩; obtain ⟨va, vc, rfl⟩ := row_slice hrow; obtain ⟨vn, hvn⟩ : ∃ vn, AA.length = vn := ⟨_, rfl⟩; dsimp only at hrow hSt hvn ⊢; rw [hvn] at hrow ⊢; obtain ⟨w4, hw4⟩ : ∃ w4, w2.alloc (.cells #[.int .i64 kd, .string Nm, .string X, .slice va vn vc, .bool rr] 27) = w4 := ⟨_, rfl⟩; have hb4 : Below wr.heap.size wr w4 := (by rw [← hw4]; exact hb2.alloc hb2.size _); have hz4 : Fact (w4.heap.size = w2.heap.size + 1) := ⟨by rw [← hw4]; simp⟩; have hrow4 : w4.ownsRow wr.heap.size 30 2 (.slice va vn vc) AA.length (rowA AA) := (by rw [← hw4, hvn]; exact hrow.alloc _); have F4 : Five w4 w2.heap.size (.int .i64 kd) (.string Nm) (.string X) (.slice va vn vc) (.bool rr) := (by rw [← hw4]; exact Five.new w2 _ _ _ _ _ _); have hTr := HT.out.snoc (x := ⟨⟨kd, Nm, X, AA, rr⟩, E, ok⟩) (by rw [HP.out]; exact hSt); have hJ4 := HJB.out _ _ (fun k => k = w2.heap.size) _ _ HJ.out (Kept.of_below' hb4) (fun k e => .inr (by have := hb2.size; omega)); obtain ⟨fn, tmps, assign, body, hy, hR⟩ := HY.out tr ⟨⟨kd, Nm, X, AA, rr⟩, E, ok⟩ (fun k => k = w2.heap.size) w4 _ hJ4 (fun k e => by have := hb2.size; have := hz4.out; omega) (by have := hb4.size; omega) ⟨.slice va vn vc, rfl, own_low hrow4 hzw, fun b hb e => by have := (hrow.lt b hb.symm).2; omega⟩ hTr; have HB4 := Fact.mk hb4; have HROW := Fact.mk hrow4; have HF4 := Fact.mk F4; have HTR := Fact.mk hTr; have HST := Fact.mk hSt; have HVN := Fact.mk hvn; have HB2 := Fact.mk hb2; clear hb4 hrow4 hTr hSt hvn hrow hb2 hJ4 F4; subst hw4)
    refine hR.mono ?_
    rintro e W3 (⟨rfl, hj3, hk3⟩ | ⟨rfl, hjx⟩)
    · have hne := HE.out _ _ _ hj3
      have hg := HST.out.goes (by rw [← Lib.size_eq]; exact hk)
      rw [← Lib.size_eq] at hg
      dsimp only at hg
      have h6 : ¬ kd = 6 := fun e => hne ⟨tr, _, rfl, e⟩
      have hlt : k < E := by
        rcases hg.2.2 with h | h
        · exact absurd h h6
        · exact h
      have hEle : E ≤ s.size := hg.2.1
      have hks : k < s.size := by omega
      obtain ⟨c0, c1, c2, c3, c4, fz⟩ := HF4.out
      have d0 := hk3.cell (.inl rfl) c0
      have d1 := hk3.cell (.inl rfl) c1
      have d2 := hk3.cell (.inl rfl) c2
      have d3 := hk3.cell (.inl rfl) c3
      have d4 := hk3.cell (.inl rfl) c4
      have hcB : W3.cell? ⟨Bn, 0, none⟩ = some (.string s) := hk3.cell (.inr hN) ((HB4.out.cell (p := ⟨Bn, 0, none⟩) (World.block_lt_of_cell? wr _ HC.out)).trans HC.out)
      have hl3 : Laid W3 := laid_kept (HL.out.since HB4.out) hk3 (.inr hN1)
      obtain ⟨R2, hR2⟩ : ∃ R2 : ByteArray, Fact (rawB ⟨kd, Nm, X, [], rr⟩ R.data.toList = R2.data.toList) := ⟨tx _, ⟨rfl⟩⟩
      have HK3 := Fact.mk hk3
      have HJ3 := Fact.mk hj3
      have HCB := Fact.mk hcB
      have HL3 := Fact.mk hl3
      have hz3 := Fact.mk (Nat.le_trans HB4.out.size hk3.size)
      clear c0 c1 c2 c3 c4 fz hy hR hne hg hk3 hj3 hcB hl3
      gi_wp2_with (refine ⟨trivial, ?_⟩; gi_at_call 32; refine (callsIn_wide.2 (rawBehind_any kd Nm X R R2 va vn vc rr hR2 _)).mono ?_; rintro e w5 ⟨rfl, hb5⟩)
      go_roundw
      case rel =>
        refine ⟨tr ++ [⟨⟨kd, Nm, X, AA, rr⟩, E, ok⟩], R2, E, rfl, rfl, ?_, HTR.out, hEle, HJB.out _ _ _ _ _ HJ3.out (Kept.of_below' hb5) (fun k h => h.elim), (hb5.cell (p := ⟨Bn, 0, none⟩) (World.block_lt_of_cell? _ _ HCB.out)).trans HCB.out, HL3.out.since hb5, Nat.le_trans (Nat.le_trans hzw hz3.out) hb5.size⟩
        rw [posS_snoc, HP.out, ← hR2.out]
        rfl
      case measure => exact meas_to hks hlt
    · clear hy hR
      gi_wp2
      refine bodyPost_ret (results_none rfl _ _ _) rfl ?_
      exact ⟨⟨_, rfl⟩, _, _, HTR.out, hjx⟩
/-- what the iterator tells -/
theorem pieces_tells (n : Nat) (hn : 1 ≤ n) (Bn : Nat) (s : ByteArray) (hs : IsSm s.size) (N : Nat → Prop) (hN : N Bn) (hN1 : N 1) (w : World) (hB : Bn < w.heap.size) (hl : Laid w) (hc : w.cell? ⟨Bn, 0, none⟩ = some (.string s)) :
    TellsX Fence.wide n Tryd.prog 30 #[.pointer (some ⟨Bn, 0, none⟩)] N EncP (TrR s.data.toList) EndT w := by
  intro l J Jx W hW hJ hE hY h0
  exact pieces_in n hn l Bn s hs N hN hN1 J Jx W (hl.since hW) hJ hE hY h0 ((hW.cell (p := ⟨Bn, 0, none⟩) hB).trans hc)
theorem pieces_call (n : Nat) (s : ByteArray) (w : World) : CallsIn Fence.wide n Tryd.prog 18 #[.string s] w fun e w' => e = .returned (.func (.func 30) #[] #[.pointer (some ⟨w.heap.size, 0, none⟩)]) ∧ w' = w.alloc (.cells #[.string s] 9) := by
  refine callsIn_of_wp Tryd.func18 rfl trivial ?_ rfl
  simp only [Tryd.ntmps18, List.size_toArray, List.length_cons, List.length_nil, Nat.reduceAdd, Nat.reduceSub, Array.replicate_succ, Array.replicate_zero, List.push_toArray, List.append_toArray, List.nil_append, List.cons_append]
  gi_wp2
  go_ret
  exact ⟨rfl, rfl⟩
end Go.Proofs.YtdniddiaiinggaaDoor
