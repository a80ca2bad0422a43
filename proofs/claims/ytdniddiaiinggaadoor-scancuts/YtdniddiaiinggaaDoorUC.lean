/- What runes' Clean answers: the text cleaned. -/
import Derived.Test.YtdniddiaiinggaaDoorUT
import Derived.Test.YtdniddiaiinggaaDoorCD
import Derived.Deep.LoopGhost
set_option linter.unusedVariables false
namespace Go.Proofs.YtdniddiaiinggaaDoor
open Go.RowKit U

theorem cleanRune_any (r : Nat) (w : World) : Calls Tryd.prog 34 #[.int .i32 r] w fun e w' => e = .returned (.int .i32 (cz r : Nat)) ∧ w' = w := by
  unfold cz
  by_cases h0 : r = 0
  · subst h0
    go_enter Tryd.func34, Tryd.ntmps34
    go_wp2
    go_ret
    exact ⟨rfl, rfl⟩
  by_cases h1 : r = 13
  · subst h1
    go_enter Tryd.func34, Tryd.ntmps34
    go_wp2
    go_ret
    exact ⟨rfl, rfl⟩
  rw [if_neg h0, if_neg h1]
  go_enter Tryd.func34, Tryd.ntmps34
  go_wp2
  all_goals go_ret
  all_goals exact ⟨rfl, rfl⟩

theorem cleanRune_at (r : Nat) (x : Int) (h : x = r) (w : World) : Calls Tryd.prog 34 #[.int .i32 x] w fun e w' => e = .returned (.int .i32 (cz r : Nat)) ∧ w' = w := by
  subst h
  exact cleanRune_any r w

theorem en_def (r : Int) : (Utf8.encode r).data.toList = en r := rfl

/-- moving the iterator on leaves what is owned -/
theorem own_it {w : World} {B n : Nat} {v : Value} {xs : List Value} {k : Nat} {s : ByteArray} {pos : Nat} (h : w.ownsRow B 5 1 v n xs) (hk : w.heap[k]? = some (.stringIter s pos)) (q : Nat) : (w.iterAt k s q).ownsRow B 5 1 v n xs := by
  refine ⟨h.1, ?_⟩
  rcases h.2 with h0 | ⟨g, cap, cur, hv, hb, hg, rest⟩
  · exact .inl h0
  · have hne : g ≠ k := by
      intro e
      rw [e, hk] at hg
      cases hg
    exact .inr ⟨g, cap, cur, hv, hb, (Lib.iterAt_other w k g s q hne).trans hg, rest⟩
/-- the iterator stays where what is owned grows -/
theorem it_grown {w w' : World} {B n : Nat} {v : Value} {xs : List Value} {k : Nat} {s : ByteArray} {pos : Nat} (h : w.ownsRow B 5 1 v n xs) (hk : w.heap[k]? = some (.stringIter s pos)) (hg : w.grownBy w' v.ownBlock) : w'.heap[k]? = some (.stringIter s pos) := by
  have hne : some k ≠ v.ownBlock := by
    rcases h.2 with ⟨rfl, _⟩ | ⟨g, cap, cur, rfl, hb, hgg, rest⟩
    · intro e; cases e
    · intro e
      have e2 : k = g := Option.some.inj e
      rw [← e2, hk] at hgg
      cases hgg
  exact (hg.block k (Array.getElem?_eq_some_iff.1 hk).1 hne).trans hk

theorem drop_ne (s : ByteArray) (pos : Nat) (h : pos < s.size) : s.data.toList.drop pos ≠ [] := by
  intro e
  have := congrArg List.length e
  rw [List.length_drop, List.length_nil] at this
  have e2 : s.size = s.data.toList.length := Lib.size_eq s
  omega
theorem drop_end (s : ByteArray) (pos : Nat) (h : ¬ pos < s.size) : s.data.toList.drop pos = [] := by
  apply List.drop_eq_nil_of_le
  have e2 : s.size = s.data.toList.length := Lib.size_eq s
  omega
theorem below_drewN {B : Nat} {a w : World} (h : Below B a w) (n : Nat) : Below B a (w.drewN n) := ⟨h.os, h.tape, h.output, h.size, h.block⟩

theorem dc_at (s : ByteArray) (pos : Nat) (h : pos < s.size) : 1 ≤ (Utf8.decode s pos).2 ∧ pos + (Utf8.decode s pos).2 ≤ s.size ∧ (Utf8.decode s pos).2 ≤ 4 := by
  rw [decode_dc]
  have h1 := dc_pos _ (drop_ne s pos h)
  rw [List.length_drop, ← Lib.size_eq] at h1
  omega
/-- how far Clean has come: at pos, behind a byte 13 or not, with out put -/
structure Mid (l : List UInt8) (pos : Nat) (cr : Bool) (out : List UInt8) : Prop where
  all : out ++ C cr (l.drop pos) = C false l
  at13 : cr = true ↔ (0 < pos ∧ l[pos - 1]? = some 13)
  len : out.length ≤ 4 * pos

theorem mid_start (l : List UInt8) : Mid l 0 false [] := ⟨by simp, by simp, by simp⟩

theorem at_next (l : List UInt8) (pos K : Nat) (hK : (dc (l.drop pos)).2 = K) (h : l.drop pos ≠ []) : (decide ((dc (l.drop pos)).1 = 13) = true ↔ (0 < pos + K ∧ l[pos + K - 1]? = some 13)) := by
  have h1 := dc_pos _ h
  have h2 := last13 _ h
  rw [hK] at h1 h2
  rw [List.getElem?_drop] at h2
  rw [decide_eq_true_eq, ← h2, show pos + (K - 1) = pos + K - 1 by omega]
  constructor
  · intro h3; exact ⟨by omega, h3⟩
  · intro h3; exact h3.2

theorem mid_skip {l : List UInt8} {pos K : Nat} {out : List UInt8} (m : Mid l pos true out) (h : l.drop pos ≠ []) (hK : (dc (l.drop pos)).2 = K) (hR : (dc (l.drop pos)).1 = 10) : Mid l (pos + K) (decide ((dc (l.drop pos)).1 = 13)) out := by
  refine ⟨?_, at_next l pos K hK h, by have := m.len; omega⟩
  rw [← m.all, C_step true _ h, if_pos ⟨rfl, hR⟩, hK, List.drop_drop]
  rfl
theorem mid_put {l : List UInt8} {pos K : Nat} {cr : Bool} {out : List UInt8} (m : Mid l pos cr out) (h : l.drop pos ≠ []) (hK : (dc (l.drop pos)).2 = K) (hR : ¬ (cr = true ∧ (dc (l.drop pos)).1 = 10)) : Mid l (pos + K) (decide ((dc (l.drop pos)).1 = 13)) (out ++ en (cz (dc (l.drop pos)).1)) := by
  refine ⟨?_, at_next l pos K hK h, ?_⟩
  · rw [← m.all, C_step cr _ h, if_neg hR, hK, List.drop_drop, List.append_assoc]
  · have h1 := m.len
    have h2 := (en_size (cz (dc (l.drop pos)).1)).2
    have h3 := (dc_pos _ h).1
    rw [List.length_append]
    omega
theorem mid_end {l : List UInt8} {pos : Nat} {cr : Bool} {out : List UInt8} (m : Mid l pos cr out) (h : l.drop pos = []) : out = C false l := by
  have := m.all
  rw [h, C_nil, List.append_nil] at this
  exact this

/-- what Clean's test reads -/
theorem at_byte {s : ByteArray} {pos : Nat} {cr : Bool} {out : List UInt8} (m : Mid s.data.toList pos cr out) (h : pos - 1 < s.size) (hp : 0 < pos) : cr = decide (((s[pos - 1]'h).toNat : Int) = 13) := by
  have e : s.data.toList[pos - 1]? = some (s[pos - 1]'h) := by
    rw [List.getElem?_eq_getElem (by rw [← Lib.size_eq]; exact h)]
    rfl
  have h1 := m.at13
  rw [e] at h1
  rw [Bool.eq_iff_iff, decide_eq_true_eq, h1]
  constructor
  · rintro ⟨_, h2⟩
    rw [Option.some.inj h2]
    rfl
  · intro h2
    refine ⟨hp, ?_⟩
    congr 1
    exact UInt8.toNat.inj (by rw [show (13 : UInt8).toNat = 13 from rfl]; omega)

theorem put_rel {s : ByteArray} {w W w2 : World} {v v2 : Value} {pos K R k : Nat} {cr : Bool} {out : List UInt8} (m : Mid s.data.toList (pos + K) cr (out ++ en (cz R : Nat)))
    {E : ByteArray} (hE : Fact (Utf8.encode ((cz R : Nat) : Int) = E)) (ho : w2.ownsRow w.heap.size 5 1 v2 (out.length + E.size) (cl out ++ Lib.strCells E)) (hgr : W.grownBy w2 v.ownBlock)
    (hit : W.heap[k]? = some (.stringIter s (pos + K))) (hown : W.ownsRow w.heap.size 5 1 v out.length (cl out)) (hb : Below w.heap.size w W) :
    w2.heap[k]? = some (.stringIter s (pos + K)) ∧ Below w.heap.size w w2 ∧ w2.ownsRow w.heap.size 5 1 v2 (out ++ en (cz R : Nat)).length (cl (out ++ en (cz R : Nat))) ∧ Mid s.data.toList (pos + K) cr (out ++ en (cz R : Nat)) := by
  refine ⟨it_grown hown hit hgr, hb.grown hgr hb.size (fun k hk => (hown.lt k hk).1), ?_, m⟩
  rw [List.length_append, cl_append]
  rw [← hE.out, cl_str, Lib.size_eq, en_def] at ho
  exact ho

set_option maxRecDepth 20000 in
set_option maxHeartbeats 1000000 in
theorem clean_any (s : ByteArray) (w : World) (hs : s.size ≤ 20000) : Calls Tryd.prog 19 #[.string s] w fun e w' => e = .returned (.string ⟨(C false s.data.toList).toArray⟩) ∧ Below w.heap.size w w' := by
  obtain ⟨i0, hi, hz0, hz1, hz2⟩ := info_parts info5
  go_enter Tryd.func19, Tryd.ntmps19
  go_wp2
  go_loopg [3] s.size (fun gf v wx => ∃ (pos : Nat) (cr : Bool) (out : List UInt8), wx.heap[w.heap.size]? = some (.stringIter s pos) ∧ Below w.heap.size w wx ∧ wx.ownsRow w.heap.size 5 1 v out.length (cl out) ∧ Mid s.data.toList pos cr out ∧ pos ≤ s.size ∧ s.size ≤ pos + gf)
  case atStart => exact ⟨0, false, [], World.iter_heap w s 0, (Below.refl _ w).alloc (Nat.le_refl _) _, World.ownsRow_nil _ _ _ _, mid_start _, Nat.zero_le _, by omega⟩
  case round =>
    obtain ⟨pos, cr, out, hit, hb, hown, hm, hps, hfu⟩ := hrel
    by_cases hlt : pos < s.size
    · obtain ⟨g', rfl⟩ : ∃ g', gk = g' + 1 := ⟨gk - 1, by omega⟩
      have hnx : ∀ ty, (Instr.next (.pointer (some ⟨w.heap.size, 0, none⟩)) true ty).run Tryd.prog wr = _ := fun ty => Lib.run_next_any_at wr w.heap.size s pos ty hit hlt
      obtain ⟨R, hR⟩ : ∃ R, (Utf8.decode s pos).1 = R := ⟨_, rfl⟩
      obtain ⟨K, hK⟩ : ∃ K, (Utf8.decode s pos).2 = K := ⟨_, rfl⟩
      rw [hR, hK] at hnx
      have hp := dc_at s pos hlt
      have hne := drop_ne s pos hlt
      have hM2 := fun h => mid_put (cr := cr) hm hne (K := K) (by rw [← decode_dc]; exact hK) h
      have hM1 := fun (h : cr = true) => mid_skip (K := K) (by rw [h] at hm; exact hm) hne (by rw [← decode_dc]; exact hK)
      rw [← decode_dc, hR] at hM1 hM2
      rw [hK] at hp
      have hit2 := Lib.iterAt_heap wr w.heap.size s pos (pos + K) hit
      have hb2 := Lib.below_iterAt hb (k := w.heap.size) (Nat.le_refl _) s (pos + K)
      have hown2 := own_it hown hit (pos + K)
      obtain ⟨W, hWd⟩ : ∃ W, wr.iterAt w.heap.size s (pos + K) = W := ⟨_, rfl⟩
      rw [hWd] at hnx hit2 hb2 hown2
      obtain ⟨E, hE⟩ : ∃ E, Fact (Utf8.encode ((cz R : Nat) : Int) = E) := ⟨_, ⟨rfl⟩⟩
      have hen : Fact (E.size ≤ 4) := ⟨by rw [← hE.out, Lib.size_eq]; exact (en_size _).2⟩
      have hol := hm.len
      have HM := Fact.mk hM2
      have HS := Fact.mk hM1
      have h13 := Fact.mk hm.at13
      have hbt : ∀ (h : pos - 1 < s.size), 0 < pos → cr = decide (((s[pos - 1]'h).toNat : Int) = 13) := fun h hp => at_byte hm h hp
      have HB := Fact.mk hbt
      clear hit hb hown hWd hM1 hM2 hm hbt
      by_cases hr : R = 10
      · have hrI : (R : Int) = 10 := by omega
        have HR := Fact.mk hr
        clear hr
        cases hcr : cr
        · by_cases h0 : pos = 0
          · clear HB
            go_wp2_with (first | (go_at_call 34; refine (cleanRune_at R _ (by omega) _).mono ?_; rintro e w1 ⟨rfl, rfl⟩) | (go_at_call 33; refine (put_at _ E hE _).mono ?_; rintro e w1 ⟨rfl, rfl⟩) | (at_builtin; refine Lib.wpList_append_own_string _ rfl (.tmp 25) (.tmp 28) 46 9 rfl w.heap.size 5 i0 Tryd.underlying46 Tryd.underlying9 hi hz0 hz1 hz2 _ _ _ rfl hown2 E rfl ?x31 ?x32 ?x3 ?_))
            case x31 => have := hen.out; unfold maxLen; omega
            case x32 => have := hen.out; omega
            case x3 => exact hb2.size
            intro v2 w2 ho hgr _
            have hR := put_rel (HM.out (fun h => by rw [hcr] at h; cases h.1)) hE ho hgr hit2 hown2 hb2
            clear ho hgr hit2 hown2 hb2
            go_wp2
            go_roundg g'
            case measure => omega
            case rel => exact ⟨pos + K, _, _, hR.1, hR.2.1, hR.2.2.1, hR.2.2.2, hp.2.1, by omega⟩
          · have hlt1 : pos - 1 < s.size := by omega
            have hb1 := HB.out hlt1 (by omega)
            have hq : ¬ ((s[pos - 1]'hlt1).toNat : Int) = 13 := by
              rw [hcr] at hb1
              exact of_decide_eq_false hb1.symm
            have hq0 : 0 < pos := by omega
            clear HB hb1
            go_wp2_with (first | (go_at_call 34; refine (cleanRune_at R _ (by omega) _).mono ?_; rintro e w1 ⟨rfl, rfl⟩) | (go_at_call 33; refine (put_at _ E hE _).mono ?_; rintro e w1 ⟨rfl, rfl⟩) | (at_builtin; refine Lib.wpList_append_own_string _ rfl (.tmp 25) (.tmp 28) 46 9 rfl w.heap.size 5 i0 Tryd.underlying46 Tryd.underlying9 hi hz0 hz1 hz2 _ _ _ rfl hown2 E rfl ?cD1 ?cD2 ?cD3 ?_))
            case cD1 => have := hen.out; unfold maxLen; omega
            case cD2 => have := hen.out; omega
            case cD3 => exact hb2.size
            intro v2 w2 ho hgr _
            have hR := put_rel (HM.out (fun h => by rw [hcr] at h; cases h.1)) hE ho hgr hit2 hown2 hb2
            clear ho hgr hit2 hown2 hb2
            go_wp2
            go_roundg g'
            case measure => omega
            case rel => exact ⟨pos + K, _, _, hR.1, hR.2.1, hR.2.2.1, hR.2.2.2, hp.2.1, by omega⟩
        · have h0 := (h13.out.1 hcr).1
          have hlt1 : pos - 1 < s.size := by omega
          have hb1 := HB.out hlt1 h0
          have hq : ((s[pos - 1]'hlt1).toNat : Int) = 13 := by
            rw [hcr] at hb1
            exact of_decide_eq_true hb1.symm
          clear HB hb1
          go_wp2
          go_roundg g'
          case measure => omega
          case rel => exact ⟨pos + K, _, _, hit2, hb2, hown2, HS.out hcr HR.out, hp.2.1, by omega⟩
      · have hrI : ¬ (R : Int) = 10 := by omega
        clear HB
        go_wp2_with (first | (go_at_call 34; refine (cleanRune_at R _ (by omega) _).mono ?_; rintro e w1 ⟨rfl, rfl⟩) | (go_at_call 33; refine (put_at _ E hE _).mono ?_; rintro e w1 ⟨rfl, rfl⟩) | (at_builtin; refine Lib.wpList_append_own_string _ rfl (.tmp 25) (.tmp 28) 46 9 rfl w.heap.size 5 i0 Tryd.underlying46 Tryd.underlying9 hi hz0 hz1 hz2 _ _ _ rfl hown2 E rfl ?cB21 ?cB2 ?cB3 ?_))
        case cB21 => have := hen.out; unfold maxLen; omega
        case cB2 => have := hen.out; omega
        case cB3 => exact hb2.size
        intro v2 w2 ho hgr _
        have hR := put_rel (HM.out (fun h => hr h.2)) hE ho hgr hit2 hown2 hb2
        clear ho hgr hit2 hown2 hb2
        go_wp2
        go_roundg g'
        case measure => omega
        case rel => exact ⟨pos + K, _, _, hR.1, hR.2.1, hR.2.2.1, hR.2.2.2, hp.2.1, by omega⟩
    · have hnx : ∀ ty, (Instr.next (.pointer (some ⟨w.heap.size, 0, none⟩)) true ty).run Tryd.prog wr = _ := fun ty => Lib.run_next_end_at wr w.heap.size s pos ty hit hlt
      have hcv := own_conv hown
      have hend := mid_end hm (drop_end s pos hlt)
      go_wp2
      go_ret
      exact ⟨rfl, hb⟩
end Go.Proofs.YtdniddiaiinggaaDoor
