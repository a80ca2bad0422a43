/- Decode: what it answers. -/
import Derived.Test.YtdniddiaiinggaaDoorCC
import Derived.Test.YtdniddiaiinggaaDoorPut
import Derived.Deep.LoopGhost
import Derived.Laws.IdiomStrings
set_option linter.unusedVariables false
namespace Go.Proofs.YtdniddiaiinggaaDoor
open Go.RowKit M

theorem cl_append (a b : List UInt8) : cl (a ++ b) = cl a ++ cl b := by simp [cl]
theorem cl_str (s : ByteArray) : Lib.strCells s = cl s.data.toList := rfl
theorem info5 : (Tryd.prog.info? 5).map (fun i => (i.zero, i.size, i.bytes)) = some (some (.int .u8 0), 1, 1) := by kernel_rfl
theorem info_split {P : Program} {t : TypeId} {z : Value} {a b : Nat} (h : (P.info? t).map (fun i => (i.zero, i.size, i.bytes)) = some (some z, a, b)) : ∃ i, P.info? t = some i ∧ i.zero = some z ∧ i.size = a ∧ i.bytes = b := by
  cases hi : P.info? t with
  | none => rw [hi] at h; cases h
  | some i =>
    rw [hi] at h
    simp only [Option.map_some, Option.some.injEq, Prod.mk.injEq] at h
    exact ⟨i, rfl, h.1, h.2.1, h.2.2⟩
theorem own_conv {w : World} {B : Nat} {v : Value} {out : List UInt8} (h : w.ownsRow B 5 1 v out.length (cl out)) : (convert 46 9 v).run Tryd.prog w = .ok (.string ⟨out.toArray⟩) w := by
  rcases h.2 with ⟨rfl, h0⟩ | ⟨g, cap, cur, rfl, hb, hgg, rest⟩
  · have e : out = [] := List.eq_nil_of_length_eq_zero h0
    rw [run_convert_bytes_nil w 46 5 Tryd.underlying46 Tryd.underlying5 0 0 9 Tryd.underlying9, e]
    rfl
  · refine run_convert_bytes_back w 46 9 5 ⟨g, 0, none⟩ cap out Tryd.underlying46 Tryd.underlying5 Tryd.underlying9 (fun j hj => ?_)
    exact h.cells (g := g) rfl j _ (by rw [cl_get, List.getElem?_eq_getElem hj]; rfl)
theorem own_belowN {w w' : World} {B n : Nat} {v : Value} {xs : List Value} (h : w.ownsRow B 5 1 v n xs) (hb : Below w.heap.size w w') : w'.ownsRow B 5 1 v n xs := by
  refine ⟨h.1, ?_⟩
  rcases h.2 with h0 | ⟨g, cap, cur, hv, hB, hg, rest⟩
  · exact .inl h0
  · exact .inr ⟨g, cap, cur, hv, hB, by rw [hb.block g (Array.getElem?_eq_some_iff.1 hg).1]; exact hg, rest⟩

theorem meas_to {n k j : Nat} (h : k < n) (hj : k < j) : n - (intOf (.int .i64 (j : Int))).toNat < n - (intOf (.int .i64 (k : Int))).toNat := by
  simp [intOf]
  omega
/-- how far Decode has come: at k, with out put -/
structure DMid (attr : Bool) (l : List UInt8) (k : Nat) (out : List UInt8) : Prop where
  all : out ++ decB attr (l.drop k) = decB attr l
  len : out.length ≤ 8 * k
theorem dmid_start (attr : Bool) (l : List UInt8) : DMid attr l 0 [] := ⟨by simp, by simp⟩
theorem dmid_plain {attr : Bool} {l : List UInt8} {k : Nat} {out : List UInt8} (h : DMid attr l k out) (hk : k < l.length) (hr : (refT (l.drop k) attr).2 = 0) : DMid attr l (k + 1) (out ++ [bAt l k]) := by
  have hne : bAt l k ≠ 38 := by
    intro e
    have := refT_pos (t := l.drop k) (attr := attr) (by rw [bAt_drop]; exact e)
    omega
  refine ⟨?_, by have := h.len; rw [List.length_append]; simp only [List.length_cons, List.length_nil]; omega⟩
  rw [← h.all, drop_cons hk, decB_plain hne, List.append_assoc]
  rfl
theorem dmid_ref {attr : Bool} {l : List UInt8} {k N : Nat} {out : List UInt8} {t : List UInt8} (h : DMid attr l k out) (hr : refT (l.drop k) attr = (t, N)) (hN : N ≠ 0) : DMid attr l (k + N) (out ++ t) := by
  have h38 : bAt (l.drop k) 0 = 38 := by
    by_cases h38 : bAt (l.drop k) 0 = 38
    · exact h38
    · exfalso
      rw [refT_none h38] at hr
      exact hN (congrArg Prod.snd hr).symm
  refine ⟨?_, ?_⟩
  · have := decB_ref (attr := attr) h38
    rw [hr, List.drop_drop] at this
    rw [← h.all, this, List.append_assoc]
  · have h1 := h.len
    have h2 := refT_txt (l.drop k) attr
    rw [hr] at h2
    simp only at h2
    rw [List.length_append]
    omega
theorem dmid_end {attr : Bool} {l : List UInt8} {k : Nat} {out : List UInt8} (h : DMid attr l k out) (hk : l.length ≤ k) : out = decB attr l := by
  have := h.all
  rw [List.drop_eq_nil_of_le hk, decB_nil, List.append_nil] at this
  exact this
theorem one_byte (s : ByteArray) (k : Nat) (h : k < s.size) : (s.extract k (k + 1)).data.toList = [bAt s.data.toList k] := by
  rw [ext_data, drop_cons (by rw [← Lib.size_eq]; exact h)]
  rfl
theorem put_own {attr : Bool} {l : List UInt8} {out t : List UInt8} {k : Nat} {E : ByteArray} (hE : E.data.toList = t) {w2 : World} {v2 : Value} {B : Nat} (ho : w2.ownsRow B 5 1 v2 (out.length + E.size) (cl out ++ Lib.strCells E)) :
    w2.ownsRow B 5 1 v2 (out ++ t).length (cl (out ++ t)) := by
  rw [List.length_append, cl_append]
  rw [cl_str, Lib.size_eq, hE] at ho
  exact ho

set_option maxRecDepth 20000 in
set_option maxHeartbeats 2000000 in
theorem decode_any (s : ByteArray) (attr : Bool) (hs : IsSm s.size) (w : World) (hl : Laid w) :
    Calls Tryd.prog 45 #[.string s, .bool attr] w fun e w' => e = .returned (.string ⟨(decB attr s.data.toList).toArray⟩) ∧ Below w.heap.size w w' := by
  obtain ⟨i0, hi, hz0, hz1, hz2⟩ := info_split info5
  have HL := Fact.mk hl
  clear hl
  go_enter Tryd.func45, Tryd.ntmps45
  go_wp2_with fail
  go_loopw [5, 6] (fun v i wx => ∃ (k : Nat) (out : List UInt8), i = .int .i64 k ∧ k ≤ s.size ∧ Below w.heap.size w wx ∧ wx.ownsRow w.heap.size 5 1 v out.length (cl out) ∧ Fact (DMid attr s.data.toList k out)) (fun _ i _ => s.size - (intOf i).toNat)
  case atStart => exact ⟨0, [], rfl, Nat.zero_le _, Below.refl _ _, World.ownsRow_nil _ _ _ _, ⟨dmid_start _ _⟩⟩
  case round =>
    obtain ⟨k, out, rfl, hk, hb, hown, hm⟩ := hrel
    have hll : s.data.toList.length = s.size := (Lib.size_eq s).symm
    have HZ := Fact.mk hll
    clear hll
    by_cases hlt : k < s.size
    · have hkI : (k : Int) < s.size := by omega
      have hk0 : (0 : Int) ≤ k := by omega
      obtain ⟨T, N, hT⟩ : ∃ (T : ByteArray) (N : Nat), Fact (refT (s.data.toList.drop k) attr = (T.data.toList, N)) := ⟨⟨(refT (s.data.toList.drop k) attr).1.toArray⟩, _, ⟨rfl⟩⟩
      have hNle : k + N ≤ s.size := by
        have := refT_le (s.data.toList.drop k) attr
        rw [hT.out, List.length_drop, HZ.out] at this
        simp only at this
        omega
      have hTs : T.size ≤ 8 := by
        have := refT_txt (s.data.toList.drop k) attr
        rw [hT.out] at this
        rw [Lib.size_eq]
        exact this
      have hol := hm.out.len
      have hsl := hs.le
      have hlr : Laid wr := HL.out.below HL.out.pos hb
      have HR := Fact.mk hlr
      clear hlr
      by_cases hN : N = 0
      · have hw1 : wrap64 ((k : Int) + 1) = (k : Int) + 1 := wrap_ok (m := k + 1) rfl ⟨by omega⟩
        have h1I : (k : Int) + 1 ≤ s.size := by omega
        have h2I : (k : Int) ≤ (k : Int) + 1 := by omega
        have h3I : (0 : Int) ≤ (k : Int) + 1 := by omega
        obtain ⟨S1, hS1⟩ : ∃ S1 : ByteArray, s.extract k (k + 1) = S1 := ⟨_, rfl⟩
        have h4I : ((k : Int) + 1).toNat = k + 1 := by omega
        have hSd : Fact (S1.data.toList = [bAt s.data.toList k]) := ⟨by rw [← hS1]; exact one_byte s k hlt⟩
        have hSz : S1.size ≤ 8 := by rw [Lib.size_eq, hSd.out]; simp
        have hm1 : Fact (DMid attr s.data.toList (k + 1) (out ++ [bAt s.data.toList k])) := ⟨dmid_plain hm.out (by rw [HZ.out]; exact hlt) (by rw [hT.out]; exact hN)⟩
        have hNB : ((N : Int) == 0) = true := beq_iff_eq.2 (by omega)
        subst hN
        clear hm
        go_wp2_with (first
          | (go_at_call 64; refine (ref_in s T k 0 attr hs hlt hT _ HR.out).mono ?_; rintro e w1 ⟨rfl, hb1⟩; have hown1 := own_belowN hown hb1; have hbb := hb.trans (hb1.mono hb.size))
          | (at_builtin; refine Lib.wpList_append_own_string _ rfl (.tmp 27) (.tmp 28) 46 9 rfl w.heap.size 5 i0 Tryd.underlying46 Tryd.underlying9 hi hz0 hz1 hz2 _ _ _ rfl hown1 S1 rfl ?x1 ?x2 ?x3 ?_))
        case x1 => unfold maxLen; omega
        case x2 => omega
        case x3 => exact hbb.size
        intro v2 w2 ho hgr _
        have hfin := put_own (attr := attr) (l := []) (k := 0) hSd.out ho
        have hbf : Below w.heap.size w w2 := hbb.grown hgr hbb.size (fun j hj => (hown1.lt j hj).1)
        clear ho hgr hown1 hown
        go_wp2_with fail
        go_roundw
        case rel => exact ⟨k + 1, _, by (first | rfl | exact int_eq rfl), Nat.succ_le_of_lt hlt, hbf, hfin, hm1⟩
        case measure => exact meas_up hlt
      · obtain ⟨k1, hk1⟩ : ∃ k1, Fact (k + N = k1) := ⟨_, ⟨rfl⟩⟩
        have hw1 : wrap64 ((k : Int) + N) = (k1 : Int) := wrap_ok (by have := hk1.out; omega) ⟨by have := hk1.out; omega⟩
        have hm1 : Fact (DMid attr s.data.toList k1 (out ++ T.data.toList)) := ⟨by rw [← hk1.out]; exact dmid_ref hm.out hT.out hN⟩
        have hNB : ((N : Int) == 0) = false := beq_eq_false_iff_ne.2 (by omega)
        have hk1l : k1 ≤ s.size := by have := hk1.out; omega
        have hk2l : k < k1 := by have := hk1.out; omega
        clear hm
        go_wp2_with (first
          | (go_at_call 64; refine (ref_in s T k N attr hs hlt hT _ HR.out).mono ?_; rintro e w1 ⟨rfl, hb1⟩; have hown1 := own_belowN hown hb1; have hbb := hb.trans (hb1.mono hb.size))
          | (at_builtin; refine Lib.wpList_append_own_string _ rfl (.tmp 27) (.tmp 28) 46 9 rfl w.heap.size 5 i0 Tryd.underlying46 Tryd.underlying9 hi hz0 hz1 hz2 _ _ _ rfl hown1 T rfl ?y1 ?y2 ?y3 ?_))
        case y1 => unfold maxLen; omega
        case y2 => omega
        case y3 => exact hbb.size
        intro v2 w2 ho hgr _
        have hfin := put_own (attr := attr) (l := []) (k := 0) rfl ho
        have hbf : Below w.heap.size w w2 := hbb.grown hgr hbb.size (fun j hj => (hown1.lt j hj).1)
        clear ho hgr hown1 hown
        go_wp2_with fail
        go_roundw
        case rel => exact ⟨k1, _, by (first | rfl | exact int_eq (by have := hk1.out; omega)), hk1l, hbf, hfin, hm1⟩
        case measure =>
          have e : ((k : Int) + N) = (k1 : Int) := by have := hk1.out; omega
          first | exact meas_to hlt hk2l | (rw [e]; exact meas_to hlt hk2l)
    · have hkI : (s.size : Int) ≤ k := by omega
      have hkB : decide ((k : Int) < s.size) = false := decide_eq_false (by omega)
      have e := dmid_end hm.out (by rw [HZ.out]; omega)
      have hcv := own_conv hown
      rw [e] at hcv
      clear e hm hown
      go_wp2_with fail
      go_ret
      exact ⟨rfl, hb⟩
end Go.Proofs.YtdniddiaiinggaaDoor
