/- among: the signs of a text among all names; Find; Longest; Code. -/
import Derived.Test.YtdniddiaiinggaaDoorCut
namespace Go.Proofs.YtdniddiaiinggaaDoor
open Go.RowKit M

theorem word_len (l : List UInt8) : (word l).length ≤ l.length := by
  unfold word
  split
  · rw [List.length_dropLast]; omega
  · exact Nat.le_refl _
theorem look_run {w : World} {B n : Nat} (hown : w.ownsMap Tryd.prog 9 sgElem B n (putsR Tb)) (W : ByteArray) (hW : IsLen W.size) :
    (M.look W.data.toList = none ∧ (Instr.lookup 108 (.map (some B)) (.string W) true).run Tryd.prog w = .ok (.tuple #[.agg #[.int .i32 0, .int .i32 0, .bool false], .bool false]) w) ∨
    ∃ a b c, M.look W.data.toList = some (a, b, c) ∧ (Instr.lookup 108 (.map (some B)) (.string W) true).run Tryd.prog w = .ok (.tuple #[.agg #[.int .i32 a, .int .i32 b, .bool c], .bool true]) w := by
  obtain ⟨v, ps, hr, hv⟩ := hown.look_ok law9 Tryd.underlying108 (zeroSg w) (sgElem_mk (0, 0, false)) (WideMaps.keyOf_string_mk Tryd.underlying9 (s := W) (by have := hW.le; unfold maxLen; omega))
  rw [puts_at] at hv
  rw [puts_has] at hr
  cases h : M.look W.data.toList with
  | none =>
    unfold M.look at h
    rw [h] at hv hr
    have := sgElem_inv hv
    subst this
    exact .inl ⟨rfl, hr⟩
  | some x =>
    obtain ⟨a, b, c⟩ := x
    unfold M.look at h
    rw [h] at hv hr
    have := sgElem_inv hv
    subst this
    exact .inr ⟨a, b, c, rfl, hr⟩

theorem ba_eq {E : ByteArray} {l : List UInt8} (h : l = E.data.toList) : (⟨l.toArray⟩ : ByteArray) = E := by subst h; rfl

theorem two_below {w w' : World} {o : Obj} (h : Below (w.alloc o).heap.size (w.alloc o) w') : Below w.heap.size w w' := by
  have h0 := (Below.refl _ w).alloc (Nat.le_refl _) o
  exact h0.trans (h.mono h0.size)

set_option maxRecDepth 20000 in
theorem among_any (s E : ByteArray) (f : Bool) (hs : IsLen s.size) (hA : Fact (amongB s.data.toList = (E.data.toList, f))) (B n : Nat) (w : World) (hown : Fact (w.ownsMap Tryd.prog 9 sgElem B n (putsR Tb))) :
    Calls Tryd.prog 97 #[.map (some B), .string s] w fun e w' => e = .returned (.tuple #[.string E, .bool f]) ∧ Below w.heap.size w w' := by
  obtain ⟨W, hW⟩ : ∃ W : ByteArray, Fact ((⟨(word s.data.toList).toArray⟩ : ByteArray) = W) := ⟨_, ⟨rfl⟩⟩
  obtain ⟨b, hb⟩ : ∃ b, Fact (ends s.data.toList = b) := ⟨_, ⟨rfl⟩⟩
  have eW : W.data.toList = word s.data.toList := by rw [← hW.out]
  have hWs : IsLen W.size := ⟨by have := hs.le; have := word_len s.data.toList; rw [Lib.size_eq, eW]; rw [Lib.size_eq] at *; omega⟩
  rcases look_run hown.out W hWs with ⟨h1, hlk⟩ | ⟨p, q, c, h1, hlk⟩
  · rw [eW] at h1
    have hE := hA.out
    rw [among_none h1] at hE
    have e1 : E = ⟨#[]⟩ := (ba_eq (congrArg Prod.fst hE)).symm
    have e2 : f = false := (congrArg Prod.snd hE).symm
    subst e1 e2
    clear hE hA h1 eW hown
    go_enter Tryd.func97, Tryd.ntmps97
    go_wp2_with (go_at_call 94; refine (cut_any s W b hs hb hW _).mono ?_; rintro e w1 ⟨rfl, rfl⟩)
    go_ret2
    exact ⟨rfl, (Below.refl _ _).alloc (Nat.le_refl _) _⟩
  · rw [eW] at h1
    obtain ⟨T, hT⟩ : ∃ T : ByteArray, Fact ((⟨(txt p q).toArray⟩ : ByteArray) = T) := ⟨_, ⟨rfl⟩⟩
    cases hc : (b || c) with
    | true =>
      have hE := hA.out
      rw [among_some h1 (by rw [hb.out]; exact hc)] at hE
      have e1 : E = T := (ba_eq (congrArg Prod.fst hE)).symm.trans hT.out
      have e2 : f = true := (congrArg Prod.snd hE).symm
      subst e1 e2
      clear hE hA h1 eW hown
      have hbc : (b = true) ∨ (b = false ∧ c = true) := by
        cases b
        · exact .inr ⟨rfl, hc⟩
        · exact .inl rfl
      clear hc
      rcases hbc with rfl | ⟨rfl, rfl⟩
      all_goals
        go_enter Tryd.func97, Tryd.ntmps97
        go_wp2_with (first
          | (go_at_call 94; refine (cut_any s W _ hs hb hW _).mono ?_; rintro e w1 ⟨rfl, rfl⟩)
          | (go_at_call 102; refine (text_at p q _ E hT _).mono ?_; rintro e w2 ⟨rfl, hb2⟩))
        go_ret2
        exact ⟨rfl, two_below hb2⟩
    | false =>
      have hE := hA.out
      rw [among_not h1 (by rw [hb.out]; exact hc)] at hE
      have e1 : E = ⟨#[]⟩ := (ba_eq (congrArg Prod.fst hE)).symm
      have e2 : f = false := (congrArg Prod.snd hE).symm
      subst e1 e2
      have e3 : b = false := by cases b; rfl; cases hc
      have e4 : c = false := by subst e3; exact hc
      subst e3 e4
      clear hE hA h1 eW hown hc
      go_enter Tryd.func97, Tryd.ntmps97
      go_wp2_with (go_at_call 94; refine (cut_any s W _ hs hb hW _).mono ?_; rintro e w1 ⟨rfl, rfl⟩)
      go_ret2
      exact ⟨rfl, (Below.refl _ _).alloc (Nat.le_refl _) _⟩

theorem int_eq {a b : Int} (h : a = b) : Value.int .i64 a = .int .i64 b := by rw [h]
theorem wrap_ok {n : Int} {m : Nat} (h : n = m) (hm : IsLen m) : wrap64 n = m := by
  subst h
  have := hm.le
  unfold wrap64
  omega
theorem ext_data (s : ByteArray) (k m : Nat) : (s.extract k (k + m)).data.toList = (s.data.toList.drop k).take m := by
  have := Lib.extract_toList s k (k + m)
  rw [Lib.toList_data] at this
  rw [this, Nat.add_sub_cancel_left]
theorem ext_len {s : ByteArray} (k m : Nat) (h : IsLen s.size) : IsLen (s.extract k (k + m)).size := by
  have := h.le
  refine ⟨?_⟩
  rw [ByteArray.size_extract]
  omega

theorem _root_.Go.World.ownsMap.kept2 {w w' : World} {n B : Nat} {D : DataW Unit} (h : w.ownsMap Tryd.prog 9 sgElem B n D) (hb : Below w.heap.size w w') : w'.ownsMap Tryd.prog 9 sgElem B n D := by
  have hlt := h.lt
  obtain ⟨es, clock, h1, h2⟩ := h
  exact ⟨es, clock, by rw [hb.block B hlt]; exact h1, h2⟩

set_option maxRecDepth 20000 in
set_option maxHeartbeats 1000000 in
theorem longest_out (s : ByteArray) (a : Int) (h : a < 0 ∨ (s.size : Int) < a) (w : World) :
    Calls Tryd.prog 88 #[.string s, .int .i64 a] w fun e w' => e = .returned (.tuple #[.int .i64 0, .string ⟨#[]⟩]) ∧ Below w.heap.size w w' := by
  by_cases h1 : a < 0
  · clear h
    go_enter Tryd.func88, Tryd.ntmps88
    go_wp2_with fail
    go_ret2
    exact ⟨rfl, Below.refl _ _⟩
  · have h2 : (s.size : Int) < a := by omega
    clear h
    go_enter Tryd.func88, Tryd.ntmps88
    go_wp2_with fail
    go_ret2
    exact ⟨rfl, Below.refl _ _⟩

set_option maxRecDepth 20000 in
set_option maxHeartbeats 1000000 in
theorem longest_any (s E : ByteArray) (k N : Nat) (hs : IsLen s.size) (hk : k ≤ s.size) (hL : Fact (longB s.data.toList k = (N, E.data.toList))) (w : World) :
    Calls Tryd.prog 88 #[.string s, .int .i64 k] w fun e w' => e = .returned (.tuple #[.int .i64 N, .string E]) ∧ Below w.heap.size w w' := by
  have hn1 : (0 : Int) ≤ (k : Int) := by omega
  have hn2 : (k : Int) ≤ s.size := by omega
  have hq1 : decide ((k : Int) < 0) = false := decide_eq_false (by omega)
  have hq2 : decide ((s.size : Int) < k) = false := decide_eq_false (by omega)
  obtain ⟨d, hd⟩ : ∃ d : Nat, Fact (s.size = k + d) := ⟨s.size - k, ⟨by omega⟩⟩
  have hwd : wrap64 ((s.size : Int) - k) = (d : Nat) := wrap_ok (by have := hd.out; omega) ⟨by have := hs.le; have := hd.out; omega⟩
  have hL0 : Fact (longG amongB (s.data.toList.drop k) (min 7 d) = (N, E.data.toList)) := ⟨by
    have := hL.out
    unfold longB at this
    rw [← Lib.size_eq, hd.out, Nat.add_sub_cancel_left] at this
    exact this⟩
  clear hL
  have hc : ((7 : Int) ≤ d ∧ min 7 d = 7) ∨ ((d : Int) < 7 ∧ min 7 d = d) := by omega
  rcases hc with ⟨hc, he⟩ | ⟨hc, he⟩
  all_goals
    rw [he] at hL0
    go_enter Tryd.func88, Tryd.ntmps88
    go_wp2_with (go_at_call 96; refine (names_any _).mono ?_; rintro e w1 ⟨rfl, hM⟩)
    clear he
    go_loopw [7] (fun i wx => ∃ m : Nat, i = .int .i64 m ∧ m ≤ d ∧ Below w.heap.size w wx ∧ Fact (wx.ownsMap Tryd.prog 9 sgElem w.heap.size Tb.length (putsR Tb)) ∧ Fact (longG amongB (s.data.toList.drop k) m = (N, E.data.toList))) (fun i _ => (intOf i).toNat)
    case atStart => first | exact ⟨7, rfl, by omega, hM.below, ⟨hM.own⟩, hL0⟩ | exact ⟨d, rfl, by omega, hM.below, ⟨hM.own⟩, hL0⟩
    case round =>
      obtain ⟨m, rfl, hmd, hbr, how, hlg⟩ := hrel
      clear hL0 hM hwd
      by_cases h0 : m = 0
      · subst h0
        have e1 := hlg.out
        have e2 : N = 0 := (congrArg Prod.fst e1).symm
        have e3 : E = ⟨#[]⟩ := (ba_eq (l := []) (congrArg Prod.snd e1)).symm
        subst e2 e3
        clear e1 hlg
        go_wp2_with fail
        go_ret2
        exact ⟨rfl, hbr⟩
      · obtain ⟨e, hke⟩ : ∃ e : Nat, Fact (e = k + m) := ⟨_, ⟨rfl⟩⟩
        have hwe : wrap64 ((k : Int) + m) = (e : Nat) := wrap_ok (by have := hke.out; omega) ⟨by have := hs.le; have := hd.out; have := hke.out; omega⟩
        have q1 : (k : Int) ≤ e := by have := hke.out; omega
        have q2 : (e : Int) ≤ s.size := by have := hke.out; have := hd.out; omega
        have q3 : (0 : Int) ≤ e := by omega
        have q4 : (0 : Int) < m := by omega
        have hx : (s.extract k e).data.toList = (s.data.toList.drop k).take m := by rw [hke.out]; exact ext_data s k m
        obtain ⟨m1, hm1⟩ : ∃ m1 : Nat, Fact (m = m1 + 1) := ⟨m - 1, ⟨by omega⟩⟩
        have hwm : wrap64 ((m : Int) - 1) = (m1 : Nat) := wrap_ok (by have := hm1.out; omega) ⟨by have := hs.le; have := hd.out; have := hm1.out; omega⟩
        have hxl : IsLen (s.extract k e).size := by rw [hke.out]; exact ext_len k m hs
        obtain ⟨G, f, hG⟩ : ∃ (G : ByteArray) (f : Bool), Fact (amongB (s.extract k e).data.toList = (G.data.toList, f)) := ⟨⟨(amongB (s.extract k e).data.toList).1.toArray⟩, _, ⟨rfl⟩⟩
        have hst := hlg.out
        rw [hm1.out, longG, ← hm1.out, ← hx, hG.out] at hst
        have HX := Fact.mk hx
        clear hx
        cases f
        · have hst2 : Fact (longG amongB (s.data.toList.drop k) m1 = (N, E.data.toList)) := ⟨hst⟩
          clear hst
          go_wp2_with (go_at_call 97; refine (among_any (s.extract k e) G false hxl hG _ _ _ how).mono ?_; rintro e w2 ⟨rfl, hb2⟩)
          go_roundw
          case rel => exact ⟨m1, by (first | rfl | exact int_eq hwm | exact int_eq (by have := hm1.out; omega)), by have := hm1.out; omega, hbr.trans (hb2.mono hbr.size), ⟨how.out.kept2 hb2⟩, hst2⟩
          case measure => have := hm1.out; simp [intOf]; omega
        · have e2 : N = m := (congrArg Prod.fst hst).symm
          have e3 : E = G := (ba_eq (l := G.data.toList) (congrArg Prod.snd hst)).symm.trans (ba_eq rfl)
          subst e2 e3
          clear hst
          go_wp2_with (go_at_call 97; refine (among_any (s.extract k e) _ true hxl hG _ _ _ how).mono ?_; rintro e w2 ⟨rfl, hb2⟩)
          go_ret2
          exact ⟨rfl, hbr.trans (hb2.mono hbr.size)⟩
end Go.Proofs.YtdniddiaiinggaaDoor
