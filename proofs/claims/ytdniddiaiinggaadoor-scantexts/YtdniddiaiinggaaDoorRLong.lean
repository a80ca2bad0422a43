/- Longest of the document's own. -/
import Derived.Test.YtdniddiaiinggaaDoorRFind
namespace Go.Proofs.YtdniddiaiinggaaDoor
open Go.RowKit M

set_option maxRecDepth 20000 in
set_option maxHeartbeats 1000000 in
theorem rlongest_out (s : ByteArray) (a : Int) (h : a < 0 ∨ (s.size : Int) < a) (w : World) :
    Calls Tryd.prog 38 #[.string s, .int .i64 a] w fun e w' => e = .returned (.tuple #[.int .i64 0, .string ⟨#[]⟩]) ∧ Below w.heap.size w w' := by
  by_cases h1 : a < 0
  · clear h
    go_enter Tryd.func38, Tryd.ntmps38
    go_wp2_with fail
    go_ret2
    exact ⟨rfl, Below.refl _ _⟩
  · have h2 : (s.size : Int) < a := by omega
    clear h
    go_enter Tryd.func38, Tryd.ntmps38
    go_wp2_with fail
    go_ret2
    exact ⟨rfl, Below.refl _ _⟩

set_option maxRecDepth 20000 in
set_option maxHeartbeats 1000000 in
theorem rlongest_any (s E : ByteArray) (k N : Nat) (hs : IsLen s.size) (hk : k ≤ s.size) (hL : Fact (longB s.data.toList k = (N, E.data.toList))) (w : World) :
    Calls Tryd.prog 38 #[.string s, .int .i64 k] w fun e w' => e = .returned (.tuple #[.int .i64 N, .string E]) ∧ Below w.heap.size w w' := by
  have hn1 : (0 : Int) ≤ (k : Int) := by omega
  have hn2 : (k : Int) ≤ s.size := by omega
  have hq1 : decide ((k : Int) < 0) = false := decide_eq_false (by omega)
  have hq2 : decide ((s.size : Int) < k) = false := decide_eq_false (by omega)
  have hq3 : decide (s.size < k) = false := decide_eq_false (by omega)
  obtain ⟨d, hd⟩ : ∃ d : Nat, Fact (s.size = k + d) := ⟨s.size - k, ⟨by omega⟩⟩
  have hwd : wrap64 ((s.size : Int) - k) = (d : Nat) := wrap_ok (by have := hd.out; omega) ⟨by have := hs.le; have := hd.out; omega⟩
  have hL0 : Fact (longG amongB (s.data.toList.drop k) (min d 8) = (N, E.data.toList)) := ⟨by
    have := hL.out
    rw [← long_ref, longG_ext refB_among, ← Lib.size_eq, hd.out, Nat.add_sub_cancel_left] at this
    exact this⟩
  clear hL
  have hc : ((8 : Int) < d ∧ min d 8 = 8) ∨ ((d : Int) ≤ 8 ∧ min d 8 = d) := by omega
  rcases hc with ⟨hc, he⟩ | ⟨hc, he⟩
  all_goals
    rw [he] at hL0
    go_enter Tryd.func38, Tryd.ntmps38
    go_wp2_with fail
    clear he
    go_loopw [6] (fun i wx => ∃ m : Nat, i = .int .i64 m ∧ m ≤ d ∧ Below w.heap.size w wx ∧ Fact (longG amongB (s.data.toList.drop k) m = (N, E.data.toList))) (fun i _ => (intOf i).toNat)
    case atStart => first | exact ⟨8, rfl, by omega, Below.refl _ _, hL0⟩ | exact ⟨d, rfl, by omega, Below.refl _ _, hL0⟩
    case round =>
      obtain ⟨m, rfl, hmd, hbr, hlg⟩ := hrel
      clear hL0 hwd
      by_cases h0 : m = 0
      · subst h0
        have e1 := hlg.out
        have e2 : N = 0 := (congrArg Prod.fst e1).symm
        have e3 : E = ⟨#[]⟩ := (ba_eq (l := []) (congrArg Prod.snd e1)).symm
        subst e2 e3
        clear e1 hlg
        go_wp2_with fail
        go_ret2
        exact ⟨rfl, hbr⟩
      · obtain ⟨e, hke⟩ : ∃ e : Nat, Fact (e = k + m) := ⟨_, ⟨rfl⟩⟩
        have hwe : wrap64 ((k : Int) + m) = (e : Nat) := wrap_ok (by have := hke.out; omega) ⟨by have := hs.le; have := hd.out; have := hke.out; omega⟩
        have q1 : (k : Int) ≤ e := by have := hke.out; omega
        have q2 : (e : Int) ≤ s.size := by have := hke.out; have := hd.out; omega
        have q3 : (0 : Int) ≤ e := by omega
        have q4 : (0 : Int) < m := by omega
        have hx : (s.extract k e).data.toList = (s.data.toList.drop k).take m := by rw [hke.out]; exact ext_data s k m
        obtain ⟨m1, hm1⟩ : ∃ m1 : Nat, Fact (m = m1 + 1) := ⟨m - 1, ⟨by omega⟩⟩
        have hwm : wrap64 ((m : Int) - 1) = (m1 : Nat) := wrap_ok (by have := hm1.out; omega) ⟨by have := hs.le; have := hd.out; have := hm1.out; omega⟩
        obtain ⟨G, f, hG⟩ : ∃ (G : ByteArray) (f : Bool), Fact (amongB (s.extract k e).data.toList = (G.data.toList, f)) := ⟨⟨(amongB (s.extract k e).data.toList).1.toArray⟩, _, ⟨rfl⟩⟩
        have hst := hlg.out
        rw [hm1.out, longG, ← hm1.out, ← hx, hG.out] at hst
        have HX := Fact.mk hx
        clear hx
        cases f
        · have hst2 : Fact (longG amongB (s.data.toList.drop k) m1 = (N, E.data.toList)) := ⟨hst⟩
          clear hst
          go_wp2_with (go_at_call 52; refine (rfind_at (s.extract k e) G false hG _).mono ?_; rintro e w2 ⟨rfl, hb2⟩)
          go_roundw
          case rel => exact ⟨m1, by (first | rfl | exact int_eq hwm | exact int_eq (by have := hm1.out; omega)), by have := hm1.out; omega, hbr.trans (hb2.mono hbr.size), hst2⟩
          case measure => have := hm1.out; simp [intOf]; omega
        · have e2 : N = m := (congrArg Prod.fst hst).symm
          have e3 : E = G := (ba_eq (l := G.data.toList) (congrArg Prod.snd hst)).symm.trans (ba_eq rfl)
          subst e2 e3
          clear hst
          go_wp2_with (go_at_call 52; refine (rfind_at (s.extract k e) _ true hG _).mono ?_; rintro e w2 ⟨rfl, hb2⟩)
          go_ret2
          exact ⟨rfl, hbr.trans (hb2.mono hbr.size)⟩
end Go.Proofs.YtdniddiaiinggaaDoor
