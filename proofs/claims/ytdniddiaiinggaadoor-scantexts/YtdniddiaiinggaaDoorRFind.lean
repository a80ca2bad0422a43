/- Find and Longest of the document's own. -/
import Derived.Test.YtdniddiaiinggaaDoorRefs
import Derived.Test.YtdniddiaiinggaaDoorPut
namespace Go.Proofs.YtdniddiaiinggaaDoor
open Go.RowKit M

def hit (l : List UInt8) (e : List UInt8 × Int × Bool) : Bool := decide (l = e.1 ++ [59]) || (decide (l = e.1) && e.2.2)
def refGo (l : List UInt8) (r : List (List UInt8 × Int × Bool)) : List UInt8 × Bool :=
  match r.find? (hit l) with
  | some e => (en e.2.1, true)
  | none => ([], false)
theorem refGo_hit {l : List UInt8} {e : List UInt8 × Int × Bool} (h : hit l e = true) (r : List (List UInt8 × Int × Bool)) : refGo l (e :: r) = (en e.2.1, true) := by
  unfold refGo
  rw [List.find?_cons, h]
theorem refGo_miss {l : List UInt8} {e : List UInt8 × Int × Bool} (h : hit l e = false) (r : List (List UInt8 × Int × Bool)) : refGo l (e :: r) = refGo l r := by
  unfold refGo
  rw [List.find?_cons, h]
theorem refGo_all {l : List UInt8} (h : l ≠ [102, 106, 108, 105, 103, 59]) : refGo l Rf = amongB l := by
  rw [← refB_among]
  unfold refB
  rw [if_neg h]
  rfl
theorem rf_len : Rf.length = 52 := by decide
theorem rf_at {k : Nat} (h : k < 52) : ∃ e, Rf[k]? = some e ∧ Rf.drop k = e :: Rf.drop (k + 1) ∧ e ∈ Rf := by
  have hk : k < Rf.length := by rw [rf_len]; exact h
  exact ⟨Rf[k], List.getElem?_eq_getElem hk, List.drop_eq_getElem_cons hk, List.getElem_mem hk⟩
theorem ba_list (a b : ByteArray) : (a.toList == b.toList) = decide (a.data.toList = b.data.toList) := by
  rw [Lib.toList_data, Lib.toList_data, Bool.eq_iff_iff, beq_iff_eq, decide_eq_true_eq]
theorem ba_app (a b : ByteArray) : (a ++ b).data.toList = a.data.toList ++ b.data.toList := by rw [ByteArray.data_append, Array.toList_append]

set_option maxRecDepth 20000 in
set_option maxHeartbeats 2000000 in
theorem rfind_any (s E : ByteArray) (f : Bool) (hA : Fact (amongB s.data.toList = (E.data.toList, f))) (hne : s.data.toList ≠ [102, 106, 108, 105, 103, 59]) (w : World) :
    Calls Tryd.prog 52 #[.string s] w fun e w' => e = .returned (.tuple #[.string E, .bool f]) ∧ Below w.heap.size w w' := by
  have hR0 : Fact (refGo s.data.toList Rf = (E.data.toList, f)) := ⟨by rw [refGo_all hne]; exact hA.out⟩
  have hq : (s.toList == [102, 106, 108, 105, 103, 59]) = false := by rw [Lib.toList_data]; exact beq_eq_false_iff_ne.2 hne
  have hq2 : ¬ s.toList = [102, 106, 108, 105, 103, 59] := by rw [Lib.toList_data]; exact hne
  clear hne hA
  go_enter Tryd.func52, Tryd.ntmps52
  go_wp2_with (go_at_call 66; refine (rall8_any _).mono ?_; rintro e w1 ⟨rfl, hb1, hl1⟩)
  go_loopw [5] (fun i wx => ∃ k : Nat, i = .int .i64 k ∧ k ≤ 52 ∧ Below w.heap.size w wx ∧ Fact (Listed wx w.heap.size) ∧ Fact (refGo s.data.toList (Rf.drop k) = (E.data.toList, f))) (fun i _ => 52 - (intOf i).toNat)
  case atStart => exact ⟨0, rfl, by omega, hb1, ⟨hl1⟩, hR0⟩
  case round =>
    obtain ⟨k, rfl, hk, hbr, hls, hrg⟩ := hrel
    clear hR0 hl1
    by_cases hlt : k < 52
    · obtain ⟨e, he, hd, hmem⟩ := rf_at hlt
      obtain ⟨nm, sg, c⟩ := e
      obtain ⟨Nm, hNm⟩ : ∃ Nm : ByteArray, Fact (Nm = ⟨nm.toArray⟩) := ⟨_, ⟨rfl⟩⟩
      have c0 := hls.out.at0 k _ he
      have c1 := hls.out.at1 k _ he
      have c2 := hls.out.at2 k _ he
      simp only at c0 c1 c2
      rw [Nat.mul_comm] at c0 c1 c2
      rw [← hNm.out] at c0
      have hnl : Nm.data.toList = nm := by rw [hNm.out]
      have hsz : ¬ 9223372036854775807 < Nm.size + 1 := by
        have := (ref_mem hmem).2.2
        rw [Lib.size_eq, hnl]
        omega
      have HMEM := Fact.mk hmem
      have HD := Fact.mk hd
      have HNL := Fact.mk hnl
      clear hmem hd hnl he
      have hkI : (k : Int) < 52 := by omega
      have hkI0 : (0 : Int) ≤ k := by omega
      have hrg' := hrg.out
      rw [HD.out] at hrg'
      have HNE : Fact (¬ Nm.toList = (Nm ++ ⟨#[59]⟩).toList) := ⟨by
        rw [Lib.toList_data, Lib.toList_data, ba_app]
        intro h
        have := congrArg List.length h
        rw [List.length_append] at this
        simp at this⟩
      clear hrg hNm
      by_cases h1 : s = Nm ++ ⟨#[59]⟩
      · have hh : hit s.data.toList (nm, sg, c) = true := by
          rw [h1, ba_app, HNL.out]
          simp [hit]
        rw [refGo_hit hh] at hrg'
        have e2 : f = true := (congrArg Prod.snd hrg').symm
        have hE : Fact (E.data.toList = en sg) := ⟨(congrArg Prod.fst hrg').symm⟩
        subst e2 h1
        clear hrg' hh HNE
        go_wp2_with (go_at_call 50; refine (refPut_at sg (sign_nat HMEM.out) E hE _).mono ?_; rintro e w2 ⟨rfl, hb2⟩)
        go_ret2
        exact ⟨rfl, hbr.trans (hb2.mono hbr.size)⟩
      have g1 : ¬ s.toList = (Nm ++ ⟨#[59]⟩).toList := by
        intro h
        apply h1
        apply ByteArray.ext
        apply Array.toList_inj.1
        rw [Lib.toList_data, Lib.toList_data] at h
        exact h
      have g1' : (s.toList == (Nm ++ ⟨#[59]⟩).toList) = false := beq_eq_false_iff_ne.2 g1
      by_cases h2 : s = Nm
      · subst h2
        cases c
        · have hh : hit s.data.toList (nm, sg, false) = false := by
            rw [HNL.out]
            simp [hit]
          rw [refGo_miss hh] at hrg'
          have HR := Fact.mk hrg'
          clear hrg' hh HNE
          go_wp2_with fail
          go_roundw
          case rel => exact ⟨k + 1, by go_num, by omega, hbr, hls, HR⟩
          case measure => simp [intOf]; omega
        · have hh : hit s.data.toList (nm, sg, true) = true := by
            rw [HNL.out]
            simp [hit]
          rw [refGo_hit hh] at hrg'
          have e2 : f = true := (congrArg Prod.snd hrg').symm
          have hE : Fact (E.data.toList = en sg) := ⟨(congrArg Prod.fst hrg').symm⟩
          subst e2
          clear hrg' hh HNE
          go_wp2_with (go_at_call 50; refine (refPut_at sg (sign_nat HMEM.out) E hE _).mono ?_; rintro e w2 ⟨rfl, hb2⟩)
          go_ret2
          exact ⟨rfl, hbr.trans (hb2.mono hbr.size)⟩
      · have g2 : ¬ s.toList = Nm.toList := by
          intro h
          apply h2
          apply ByteArray.ext
          apply Array.toList_inj.1
          rw [Lib.toList_data, Lib.toList_data] at h
          exact h
        have g2' : (s.toList == Nm.toList) = false := beq_eq_false_iff_ne.2 g2
        have hh : hit s.data.toList (nm, sg, c) = false := by
          rw [Lib.toList_data, Lib.toList_data, ba_app, HNL.out] at g1
          rw [Lib.toList_data, Lib.toList_data, HNL.out] at g2
          unfold hit
          rw [decide_eq_false g1, decide_eq_false g2]
          rfl
        rw [refGo_miss hh] at hrg'
        have HR := Fact.mk hrg'
        clear hrg' hh HNE h1 h2
        go_wp2_with fail
        go_roundw
        case rel => exact ⟨k + 1, by go_num, by omega, hbr, hls, HR⟩
        case measure => simp [intOf]; omega
    · have hk2 : k = 52 := by omega
      subst hk2
      have hz := hrg.out
      rw [show Rf.drop 52 = [] from by kernel_rfl] at hz
      have e1 : E = ⟨#[]⟩ := (ba_eq (l := []) (congrArg Prod.fst hz)).symm
      have e2 : f = false := (congrArg Prod.snd hz).symm
      subst e1 e2
      clear hz hrg hlt
      go_wp2_with fail
      go_ret2
      exact ⟨rfl, hbr⟩
set_option maxRecDepth 20000 in
theorem rfind_fj (w : World) : Calls Tryd.prog 52 #[.string ⟨#[102, 106, 108, 105, 103, 59]⟩] w fun e w' => e = .returned (.tuple #[.string ⟨#[102, 106]⟩, .bool true]) ∧ Below w.heap.size w w' := by
  go_enter Tryd.func52, Tryd.ntmps52
  go_wp2_with fail
  go_ret2
  exact ⟨rfl, Below.refl _ w⟩
theorem rfind_at (s E : ByteArray) (f : Bool) (hA : Fact (amongB s.data.toList = (E.data.toList, f))) (w : World) :
    Calls Tryd.prog 52 #[.string s] w fun e w' => e = .returned (.tuple #[.string E, .bool f]) ∧ Below w.heap.size w w' := by
  by_cases h : s.data.toList = [102, 106, 108, 105, 103, 59]
  · have e0 := hA.out
    rw [h, ex_fj] at e0
    have e1 : E = ⟨#[102, 106]⟩ := (ba_eq (l := [102, 106]) (congrArg Prod.fst e0)).symm
    have e2 : f = true := (congrArg Prod.snd e0).symm
    have e3 : s = ⟨#[102, 106, 108, 105, 103, 59]⟩ := (ba_eq h.symm).symm
    subst e1 e2 e3
    exact rfind_fj w
  · exact rfind_any s E f hA h w
end Go.Proofs.YtdniddiaiinggaaDoor
