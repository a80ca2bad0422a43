/- The iterator of pieces: what it tells. -/
import Derived.Test.YtdniddiaiinggaaDoorSP
import Derived.Test.YtdniddiaiinggaaDoorSL
import Derived.Test.YtdniddiaiinggaaDoorTGoes
set_option linter.unusedVariables false
namespace Go.Proofs.YtdniddiaiinggaaDoor
open Go.RowKit M

structure Aside (p : Prop) : Prop where
  out : p
theorem own_block {w w' : World} {B E size n : Nat} {v : Value} {xs : List Value} (h : w.ownsRow B E size v n xs) (hb : ∀ k, some k = v.ownBlock → k < w.heap.size → w'.heap[k]? = w.heap[k]?) : w'.ownsRow B E size v n xs := by
  obtain ⟨h1, h2⟩ := h
  refine ⟨h1, ?_⟩
  rcases h2 with h2 | ⟨g, cap, cur, e, hg, hh, r⟩
  · exact .inl h2
  · exact .inr ⟨g, cap, cur, e, hg, (hb g (by rw [e]; rfl) (Array.getElem?_eq_some_iff.1 hh).1).trans hh, r⟩
/-- a piece as it is handed out: its attributes lie from B on, in no block that is kept -/
def EncP (B : Nat) (T : Nat → Prop) (W : World) (x : Pc) (args : Array Value) : Prop :=
  ∃ v, args = #[tokV x.t.kd x.t.n x.t.x v x.t.raw, .bool x.ok] ∧ W.ownsRow B 30 2 v x.t.at_.length (rowA x.t.at_) ∧ ∀ b, some b = v.ownBlock → ¬ T b
theorem EncP.keep {z : Nat} {T T' : Nat → Prop} {W W' : World} {x : Pc} {args : Array Value} (h : EncP (z + 2) T W x args) (hT : ∀ k, T' k → T k ∨ k = z ∨ k = z + 1) (hk : Kept (fun k => k ≠ z + 1) W W') : EncP (z + 2) T' W' x args := by
  obtain ⟨v, e, ho, hn⟩ := h
  refine ⟨v, e, own_block ho (fun k e hk' => hk.block k hk' (by have := (ho.lt k e.symm).1; omega)), fun b hb hTb => ?_⟩
  have := (ho.lt b hb.symm).1
  rcases hT b hTb with h | h | h
  · exact hn b hb h
  · omega
  · omega
/-- the end of all was told -/
def EndT (tr : List Pc) : Prop := ∃ pre x, tr = pre ++ [x] ∧ x.t.kd = 6
theorem EndT.not_nil : ¬ EndT [] := by
  rintro ⟨pre, x, h, _⟩
  have := congrArg List.length h
  simp at this
/-- Next wherever it is asked -/
theorem next_st (s R : ByteArray) (k : Nat) (hs : IsSm s.size) (hr : IsSm R.size) (w : World) (hl : Laid w) :
    Calls Tryd.prog 31 #[.string s, .int .i64 k, .string R] w fun e w' => ∃ p : Pc, StpR s.data.toList k R.data.toList p ∧ TokOut w p.t p.E p.ok e w' := by
  by_cases h : k < s.size
  · refine (next_any s R k hs hr h w hl).mono ?_
    rintro e w' ⟨t, E, ok, hR, hT⟩
    refine ⟨⟨t, E, ok⟩, ?_, hT⟩
    unfold StpR
    rw [if_pos (by rw [← Lib.size_eq]; exact h)]
    exact hR
  · refine (next_out s R k (Or.inr (by omega)) w).mono ?_
    rintro e w' hT
    refine ⟨⟨⟨6, ⟨#[]⟩, ⟨#[]⟩, [], false⟩, s.size, true⟩, ?_, hT⟩
    unfold StpR
    rw [if_neg (by rw [← Lib.size_eq]; exact h)]
    exact ⟨⟨rfl, rfl, rfl, rfl, rfl⟩, Lib.size_eq s, rfl⟩
theorem StpR.goes {l : List UInt8} {k : Nat} {raw : List UInt8} {p : Pc} (h : StpR l k raw p) (hk : k ≤ l.length) : k ≤ p.E ∧ p.E ≤ l.length ∧ (p.t.kd = 6 ∨ k < p.E) := by
  unfold StpR at h
  split at h
  · rename_i h1
    have := h.goes h1
    exact ⟨Nat.le_of_lt this.gt, this.le, Or.inr this.gt⟩
  · obtain ⟨h2, h3, h4⟩ := h
    exact ⟨by omega, by omega, Or.inl h2.kd⟩
/-- where the iterator stands -/
def RelP (s : ByteArray) (Bn B : Nat) (J : List Pc → (Nat → Prop) → World → Prop) (a r : Value) (wr : World) : Prop :=
  ∃ (tr : List Pc) (R : ByteArray) (k : Nat), a = .int .i64 k ∧ r = .string R ∧ posS tr = (k, R.data.toList) ∧ TrR s.data.toList tr ∧ k ≤ s.size ∧ J tr (fun _ => False) wr ∧ wr.cell? ⟨Bn, 0, none⟩ = some (.string s) ∧ Laid wr ∧ B ≤ wr.heap.size
theorem rawB_at (t : Tk) (L : AL) (raw : List UInt8) : rawB ⟨t.kd, t.n, t.x, L, t.raw⟩ raw = rawB t raw := rfl
theorem laid_kept {w w' : World} {K : Nat → Prop} (h : Laid w) (hk : Kept K w w') (h1 : K 1) : Laid w' :=
  ⟨fun i hi => hk.cell h1 (h.cells i hi), Nat.lt_of_lt_of_le h.pos hk.size⟩
set_option maxRecDepth 100000 in
set_option maxHeartbeats 2000000 in
theorem pieces_in (n : Nat) (hn : 1 ≤ n) (l Bn : Nat) (s : ByteArray) (hs : IsSm s.size) (N : Nat → Prop) (hN : N Bn) (hN1 : N 1) (J Jx : List Pc → (Nat → Prop) → World → Prop) (W : World) (hl : Laid W) (hJ : Bide J) (hE : ∀ tr T W, J tr T W → ¬ EndT tr)
    (hY : ∀ pre x T W1 args, J pre T W1 → (∀ k, T k → W.heap.size ≤ k ∧ k < W1.heap.size) → W.heap.size ≤ W1.heap.size → EncP W.heap.size T W1 x args → TrR s.data.toList (pre ++ [x]) → YieldAt Fence.wide (n - 1) Tryd.prog l args W1 fun e W' =>
      (e = .returned (.bool true) ∧ J (pre ++ [x]) T W' ∧ Kept (fun k => T k ∨ N k) W1 W') ∨ (e = .returned (.bool false) ∧ Jx (pre ++ [x]) T W'))
    (h0 : J [] (fun _ => False) W) (hc : W.cell? ⟨Bn, 0, none⟩ = some (.string s)) :
    CallsIn Fence.wide n Tryd.prog 30 #[.func (.yield l) #[] #[], .pointer (some ⟨Bn, 0, none⟩)] W fun e W' => (∃ v, e = .returned v) ∧ (∃ pre T, TrR s.data.toList pre ∧ Jx pre T W') := by
  have hsz := hs.le
  refine callsIn_of_wp Tryd.func30 rfl trivial ?_ rfl
  simp only [Tryd.ntmps30, List.size_toArray, List.length_cons, List.length_nil, Nat.reduceAdd, Nat.reduceSub, Array.replicate_succ, Array.replicate_zero, List.push_toArray, List.append_toArray, List.nil_append, List.cons_append]
  gi_wp2
  gi_loopw [3, 4] (fun a r wr => RelP s Bn W.heap.size J a r wr) (fun a _ _ => s.size - (intOf a).toNat)
  case atStart => exact ⟨[], ⟨#[]⟩, 0, rfl, rfl, rfl, TrR.nil _, Nat.zero_le _, h0, hc, hl, Nat.le_refl _⟩
  case round =>
    obtain ⟨tr, R, k, rfl, rfl, hp, hT, hk, hj, hcw, hlw, hzw⟩ := hrel
    have hrs : IsSm R.size := by
      have := (RawOK.pos tr).sm
      rw [hp] at this
      rw [Lib.size_eq]
      exact this
    have HJ := Fact.mk hj
    have HT := Fact.mk hT
    have HP := Fact.mk hp
    have HL := Fact.mk hlw
    have HY := Fact.mk hY
    have HJB := Fact.mk hJ
    have HE := Fact.mk hE
    have HC := Fact.mk hcw
    clear hj hT hp hlw hY hJ hE h0 hl hc
    gi_wp2_with (refine ⟨trivial, ?_⟩; gi_at_call 31; refine (callsIn_wide.2 (next_st s R k hs hrs _ HL.out)).mono ?_; rintro e w2 ⟨⟨⟨kd, Nm, X, AA, rr⟩, E, ok⟩, hSt, v, rfl, hrow, hb2⟩; obtain ⟨va, vc, rfl⟩ := row_slice hrow; obtain ⟨vn, hvn⟩ : ∃ vn, AA.length = vn := ⟨_, rfl⟩; dsimp only at hrow hSt hvn ⊢; rw [hvn] at hrow ⊢; obtain ⟨w4, hw4⟩ : ∃ w4, w2.alloc (.cells #[.int .i64 kd, .string Nm, .string X, .slice va vn vc, .bool rr] 27) = w4 := ⟨_, rfl⟩; have hb4 : Below wr.heap.size wr w4 := (by rw [← hw4]; exact hb2.alloc hb2.size _); have hz4 : Fact (w4.heap.size = w2.heap.size + 1) := ⟨by rw [← hw4]; simp⟩; have hrow4 : w4.ownsRow wr.heap.size 30 2 (.slice va vn vc) AA.length (rowA AA) := (by rw [← hw4, hvn]; exact hrow.alloc _); have F4 : Five w4 w2.heap.size (.int .i64 kd) (.string Nm) (.string X) (.slice va vn vc) (.bool rr) := (by rw [← hw4]; exact Five.new w2 _ _ _ _ _ _); have hTr := HT.out.snoc (x := ⟨⟨kd, Nm, X, AA, rr⟩, E, ok⟩) (by rw [HP.out]; exact hSt); have hJ4 := HJB.out _ _ (fun k => k = w2.heap.size) _ _ HJ.out (Kept.of_below' hb4) (fun k e => .inr (by have := hb2.size; omega)); obtain ⟨fn, tmps, assign, body, hy, hR⟩ := HY.out tr ⟨⟨kd, Nm, X, AA, rr⟩, E, ok⟩ (fun k => k = w2.heap.size) w4 _ hJ4 (fun k e => by have := hb2.size; have := hz4.out; omega) (by have := hb4.size; omega) ⟨.slice va vn vc, rfl, own_low hrow4 hzw, fun b hb e => by have := (hrow.lt b hb.symm).2; omega⟩ hTr; have HB4 := Fact.mk hb4; have HROW := Fact.mk hrow4; have HF4 := Fact.mk F4; have HTR := Fact.mk hTr; have HST := Fact.mk hSt; have HVN := Fact.mk hvn; have HB2 := Fact.mk hb2; clear hb4 hrow4 hTr hSt hvn hrow hb2 hJ4 F4; subst hw4)
    refine hR.mono ?_
    rintro e W3 (⟨rfl, hj3, hk3⟩ | ⟨rfl, hjx⟩)
    · have hne := HE.out _ _ _ hj3
      have hg := HST.out.goes (by rw [← Lib.size_eq]; exact hk)
      rw [← Lib.size_eq] at hg
      dsimp only at hg
      have h6 : ¬ kd = 6 := fun e => hne ⟨tr, _, rfl, e⟩
      have hlt : k < E := by
        rcases hg.2.2 with h | h
        · exact absurd h h6
        · exact h
      have hEle : E ≤ s.size := hg.2.1
      have hks : k < s.size := by omega
      obtain ⟨c0, c1, c2, c3, c4, fz⟩ := HF4.out
      have d0 := hk3.cell (.inl rfl) c0
      have d1 := hk3.cell (.inl rfl) c1
      have d2 := hk3.cell (.inl rfl) c2
      have d3 := hk3.cell (.inl rfl) c3
      have d4 := hk3.cell (.inl rfl) c4
      have hcB : W3.cell? ⟨Bn, 0, none⟩ = some (.string s) := hk3.cell (.inr hN) ((HB4.out.cell (p := ⟨Bn, 0, none⟩) (World.block_lt_of_cell? wr _ HC.out)).trans HC.out)
      have hl3 : Laid W3 := laid_kept (HL.out.since HB4.out) hk3 (.inr hN1)
      obtain ⟨R2, hR2⟩ : ∃ R2 : ByteArray, Fact (rawB ⟨kd, Nm, X, [], rr⟩ R.data.toList = R2.data.toList) := ⟨tx _, ⟨rfl⟩⟩
      have HK3 := Fact.mk hk3
      have HJ3 := Fact.mk hj3
      have HCB := Fact.mk hcB
      have HL3 := Fact.mk hl3
      have hz3 := Fact.mk (Nat.le_trans HB4.out.size hk3.size)
      clear c0 c1 c2 c3 c4 fz hy hR hne hg hk3 hj3 hcB hl3
      gi_wp2_with (refine ⟨trivial, ?_⟩; gi_at_call 32; refine (callsIn_wide.2 (rawBehind_any kd Nm X R R2 va vn vc rr hR2 _)).mono ?_; rintro e w5 ⟨rfl, hb5⟩)
      go_roundw
      case rel =>
        refine ⟨tr ++ [⟨⟨kd, Nm, X, AA, rr⟩, E, ok⟩], R2, E, rfl, rfl, ?_, HTR.out, hEle, HJB.out _ _ _ _ _ HJ3.out (Kept.of_below' hb5) (fun k h => h.elim), (hb5.cell (p := ⟨Bn, 0, none⟩) (World.block_lt_of_cell? _ _ HCB.out)).trans HCB.out, HL3.out.since hb5, Nat.le_trans (Nat.le_trans hzw hz3.out) hb5.size⟩
        rw [posS_snoc, HP.out, ← hR2.out]
        rfl
      case measure => exact meas_to hks hlt
    · clear hy hR
      gi_wp2
      refine bodyPost_ret (results_none rfl _ _ _) rfl ?_
      exact ⟨⟨_, rfl⟩, _, _, HTR.out, hjx⟩
/-- what the iterator tells -/
theorem pieces_tells (n : Nat) (hn : 1 ≤ n) (Bn : Nat) (s : ByteArray) (hs : IsSm s.size) (N : Nat → Prop) (hN : N Bn) (hN1 : N 1) (w : World) (hB : Bn < w.heap.size) (hl : Laid w) (hc : w.cell? ⟨Bn, 0, none⟩ = some (.string s)) :
    TellsX Fence.wide n Tryd.prog 30 #[.pointer (some ⟨Bn, 0, none⟩)] N EncP (TrR s.data.toList) EndT w := by
  intro l J Jx W hW hJ hE hY h0
  exact pieces_in n hn l Bn s hs N hN hN1 J Jx W (hl.since hW) hJ hE hY h0 ((hW.cell (p := ⟨Bn, 0, none⟩) hB).trans hc)
theorem pieces_call (n : Nat) (s : ByteArray) (w : World) : CallsIn Fence.wide n Tryd.prog 18 #[.string s] w fun e w' => e = .returned (.func (.func 30) #[] #[.pointer (some ⟨w.heap.size, 0, none⟩)]) ∧ w' = w.alloc (.cells #[.string s] 9) := by
  refine callsIn_of_wp Tryd.func18 rfl trivial ?_ rfl
  simp only [Tryd.ntmps18, List.size_toArray, List.length_cons, List.length_nil, Nat.reduceAdd, Nat.reduceSub, Array.replicate_succ, Array.replicate_zero, List.push_toArray, List.append_toArray, List.nil_append, List.cons_append]
  gi_wp2
  go_ret
  exact ⟨rfl, rfl⟩
end Go.Proofs.YtdniddiaiinggaaDoor
