/- tag: what it answers. -/
import Derived.Test.YtdniddiaiinggaaDoorTG
import Derived.Carry
import Derived.Deep.Heap
set_option linter.unusedVariables false
namespace Go.Proofs.YtdniddiaiinggaaDoor
open Go.RowKit M

theorem Five.other {w : World} {b : Nat} {v0 v1 v2 v3 v4 : Value} (h : Five w b v0 v1 v2 v3 v4) (c o : Nat) (v : Value) (hc : b ≠ c) : Five (w.setCell ⟨c, o, none⟩ v) b v0 v1 v2 v3 v4 := by
  have g : ∀ p, (w.setCell ⟨c, o, none⟩ v).cell? ⟨b, p, none⟩ = w.cell? ⟨b, p, none⟩ := fun p => World.cell?_setCell_other _ _ _ _ (by intro e; cases e; exact hc rfl)
  exact ⟨(g 0).trans h.c0, (g 1).trans h.c1, (g 2).trans h.c2, (g 3).trans h.c3, (g 4).trans h.c4, fun o => by simp only [World.frozen?_setCell]; exact h.fz o⟩
theorem Five.grown {w w' : World} {b c : Nat} {v0 v1 v2 v3 v4 : Value} (h : Five w b v0 v1 v2 v3 v4) (hg : w.grownBy w' (some c)) (hc : b ≠ c) : Five w' b v0 v1 v2 v3 v4 := h.same (hg.block b h.lt (by intro e; cases e; exact hc rfl))
theorem Five.set3 {w : World} {b : Nat} {v0 v1 v2 v3 v4 : Value} (h : Five w b v0 v1 v2 v3 v4) (v : Value) : Five (w.setCell ⟨b, 3, none⟩ v) b v0 v1 v2 v v4 := by
  have g : ∀ p, p ≠ 3 → (w.setCell ⟨b, 3, none⟩ v).cell? ⟨b, p, none⟩ = w.cell? ⟨b, p, none⟩ := fun p hp => World.cell?_setCell_other _ _ _ _ (by intro e; cases e; exact hp rfl)
  exact ⟨(g 0 (by decide)).trans h.c0, (g 1 (by decide)).trans h.c1, (g 2 (by decide)).trans h.c2, World.cell?_setCell_same' _ _ _ (by rw [h.c3]; rfl), (g 4 (by decide)).trans h.c4, fun o => by simp only [World.frozen?_setCell]; exact h.fz o⟩

theorem own_set {w : World} {B c o : Nat} {e : TypeId} {size : Nat} {u x : Value} {m : Nat} {xs : List Value} (ho : w.ownsRow B e size u m xs) (hc : c < B) : (w.setCell ⟨c, o, none⟩ x).ownsRow B e size u m xs := by
  refine ⟨ho.1, ?_⟩
  rcases ho.2 with h0 | ⟨g, cap, cur, h1, h2, h3, h4⟩
  · exact .inl h0
  · exact .inr ⟨g, cap, cur, h1, h2, (Deep.blk_setCell_other w ⟨c, o, none⟩ x g (by simp only; omega)).trans h3, h4⟩
theorem own_five {w : World} {B c : Nat} {e : TypeId} {size : Nat} {u v0 v1 v2 v3 v4 : Value} {m : Nat} {xs : List Value} (ho : w.ownsRow B e size u m xs) (hc : c < B) : (((((w.setCell ⟨c, 0, none⟩ v0).setCell ⟨c, 1, none⟩ v1).setCell ⟨c, 2, none⟩ v2).setCell ⟨c, 3, none⟩ v3).setCell ⟨c, 4, none⟩ v4).ownsRow B e size u m xs :=
  own_set (own_set (own_set (own_set (own_set ho hc) hc) hc) hc) hc
/-- a token in a cell, a place, a truth: what is told -/
theorem results_tok {fn : Func} (hf : fn.results = #[.cell 6 27, .tmp 7, .tmp 8]) {tm : Array Value} {w : World} {b : Nat} {v0 v1 v2 v3 v4 x y : Value} (h6 : tm.getD 6 undef = .pointer (some ⟨b, 0, none⟩)) (h7 : tm.getD 7 undef = x) (h8 : tm.getD 8 undef = y) (F : Five w b v0 v1 v2 v3 v4) :
    (results fn tm).run Tryd.prog w = .ok (.tuple #[.agg #[v0, v1, v2, v3, v4], x, y]) w := by
  obtain ⟨c0, c1, c2, c3, c4, cz⟩ := F
  simp only [Array.getD_eq_getD_getElem?] at h6 h7 h8
  simp [results, hf, go_sem, h6, h7, h8, c0, c1, c2, c3, c4]
theorem Five.drew {w : World} {b : Nat} {v0 v1 v2 v3 v4 : Value} (h : Five w b v0 v1 v2 v3 v4) : Five w.drew b v0 v1 v2 v3 v4 := h.same rfl
theorem five_cells {w : World} {b : Nat} {v0 v1 v2 v3 v4 : Value} (h : Five w b v0 v1 v2 v3 v4) : w.cell? ⟨b, 0, none⟩ = some v0 ∧ w.cell? ⟨b, 1, none⟩ = some v1 ∧ w.cell? ⟨b, 2, none⟩ = some v2 ∧ w.cell? ⟨b, 3, none⟩ = some v3 ∧ w.cell? ⟨b, 4, none⟩ = some v4 := ⟨h.c0, h.c1, h.c2, h.c3, h.c4⟩
theorem Five.others {w : World} {b : Nat} {v0 v1 v2 v3 v4 : Value} (h : Five w b v0 v1 v2 v3 v4) (c : Nat) (x0 x1 x2 x3 x4 : Value) (hc : b ≠ c) : Five (((((w.setCell ⟨c, 0, none⟩ x0).setCell ⟨c, 1, none⟩ x1).setCell ⟨c, 2, none⟩ x2).setCell ⟨c, 3, none⟩ x3).setCell ⟨c, 4, none⟩ x4) b v0 v1 v2 v3 v4 :=
  ((((h.other c 0 x0 hc).other c 1 x1 hc).other c 2 x2 hc).other c 3 x3 hc).other c 4 x4 hc
/-- what a tag's loop keeps -/
structure TagI (w wx : World) (b1 bm : Nat) (kd : Int) (N : ByteArray) (acc : AL) : Prop where
  below : Below w.heap.size w wx
  res : Five wx w.heap.size (.int .i64 0) (.string ⟨#[]⟩) (.string ⟨#[]⟩) (.slice none 0 0) (.bool false)
  tok : Five wx b1 (.int .i64 kd) (.string N) (.string ⟨#[]⟩) (.slice none 0 0) (.bool false)
  map : MapA wx bm acc
theorem TagI.keep {w wx wy : World} {b1 bm : Nat} {kd : Int} {N : ByteArray} {acc : AL} (h : TagI w wx b1 bm kd N acc) (hb : Below wx.heap.size wx wy) : TagI w wy b1 bm kd N acc :=
  ⟨h.below.trans (hb.mono h.below.size), h.res.keep hb, h.tok.keep hb, h.map.keep hb⟩
theorem TagI.alloc {w wx : World} {b1 bm : Nat} {kd : Int} {N : ByteArray} {acc : AL} (h : TagI w wx b1 bm kd N acc) (o : Obj) : TagI w (wx.alloc o) b1 bm kd N acc := h.keep (bl1 wx o)
theorem TagI.set {w wx wy : World} {b1 bm : Nat} {kd : Int} {N : ByteArray} {acc : AL} (h : TagI w wx b1 bm kd N acc) (hy : TagI w wy b1 bm kd N acc) (o : Nat) (v : Value) : TagI w (wy.setCell ⟨wx.heap.size, o, none⟩ v) b1 bm kd N acc :=
  ⟨hy.below.setCell h.below.size _, hy.res.other _ _ _ (Nat.ne_of_lt h.res.lt), hy.tok.other _ _ _ (Nat.ne_of_lt h.tok.lt), hy.map.set _ _ _ (Nat.ne_of_lt h.map.lt)⟩
/-- a round of a tag's loop, the attribute being read: what the worlds are good for -/
theorem tag_round {w wx w2 : World} {b1 bm : Nat} {kd : Int} {N : ByteArray} {acc : AL} (h : TagI w wx b1 bm kd N acc) (hne : w.heap.size < bm ∧ b1 ≠ bm) (A V : ByteArray) (hA : A.size ≤ 1000000000) (hl : acc.length ≤ 1000000000)
    (hb2 : Below (wx.alloc (.cells #[.string ⟨#[]⟩, .string ⟨#[]⟩] 30)).heap.size (wx.alloc (.cells #[.string ⟨#[]⟩, .string ⟨#[]⟩] 30)) w2) :
    Two w2 wx.heap.size (.string ⟨#[]⟩) (.string ⟨#[]⟩) ∧
    ∃ (w3 w5 : World) (a c : ByteArray), (w2.setCell ⟨wx.heap.size, 0, none⟩ (.string A)).setCell ⟨wx.heap.size, 1, none⟩ (.string V) = w3 ∧
      (Instr.lookup 90 (.map (some bm)) (.string A) true).run Tryd.prog w3 = .ok (.tuple #[attV a c, .bool (decide (A.data.toList ∈ acc.map (·.1)))]) w3 ∧
      w3.alloc (.cells #[.string a, .string c] 30) = w5 ∧ Two w3 wx.heap.size (.string A) (.string V) ∧ Two w5 wx.heap.size (.string A) (.string V) ∧ TagI w w5 b1 bm kd N acc ∧
      (A.data.toList ∉ acc.map (·.1) → ∃ w6, (Instr.mapUpdate 90 (.map (some bm)) (.string A) (attV A V)).run Tryd.prog w5 = .ok () w6 ∧ TagI w w6 b1 bm kd N (acc ++ [(A.data.toList, V.data.toList)])) := by
  have t2 := (Two.new wx (.string ⟨#[]⟩) (.string ⟨#[]⟩) 30).keep hb2
  have i2 := (h.alloc _).keep hb2
  refine ⟨t2, ?_⟩
  have t3 := t2.put (.string A) (.string V)
  have i3 := h.set (h.set i2 0 (.string A)) 1 (.string V)
  obtain ⟨a, c, hr⟩ := i3.map.look_ok A hA
  have i5 := i3.alloc (.cells #[.string a, .string c] 30)
  refine ⟨_, _, a, c, rfl, hr, rfl, t3, t3.alloc _, i5, fun hn => ?_⟩
  obtain ⟨w6, h6, hM, hg⟩ := i5.map.put A V hA hl hn
  exact ⟨w6, h6, ⟨i5.below.grown hg i5.below.size (fun j hj => by cases hj; exact Nat.le_of_lt hne.1), i5.res.grown hg (Nat.ne_of_lt hne.1), i5.tok.grown hg hne.2, hM⟩⟩

theorem addA_old {acc : AL} {n v : List UInt8} (h : n ∈ acc.map (·.1)) : addA acc n v = acc := if_pos h
theorem addA_new {acc : AL} {n v : List UInt8} (h : n ∉ acc.map (·.1)) : addA acc n v = acc ++ [(n, v)] := if_neg h
/-- what a tag is at the end -/
def TagQ (s : ByteArray) (kd : Int) (N : ByteArray) (acc : AL) (E : Nat) (w : World) (e : Ending) (w' : World) : Prop :=
  (E = s.size ∧ e = .returned (.tuple #[tokV 0 ⟨#[]⟩ ⟨#[]⟩ (.slice none 0 0) false, .int .i64 s.size, .bool false]) ∧ Below w.heap.size w w') ∨
  (E < s.size ∧ ∃ v : Value, e = .returned (.tuple #[tokV kd N ⟨#[]⟩ v false, .int .i64 ((E + 1 : Nat) : Int), .bool true]) ∧ (kd = 1 → w'.ownsRow w.heap.size 30 2 v acc.length (rowA (srtA acc))) ∧ (kd ≠ 1 → v = .slice none 0 0) ∧ Below w.heap.size w w')
set_option maxRecDepth 20000 in
set_option maxHeartbeats 4000000 in
theorem tag_any (s N : ByteArray) (k0 : Nat) (kd : Int) (acc9 : AL) (E : Nat) (hs : IsSm s.size) (hk : k0 ≤ s.size) (hN : Fact (tagN s.data.toList k0 = N.data.toList)) (hK : Fact (tagB s.data.toList k0 = (acc9, E))) (w : World) (hl : Laid w) :
    Calls Tryd.prog 58 #[.string s, .int .i64 k0, .int .i64 kd] w (TagQ s kd N acc9 E w) := by
  have HL := Fact.mk hl
  clear hl
  have hsz := hs.le
  have h0 : (0 : Int) ≤ k0 := by omega
  obtain ⟨E1, hE1⟩ : ∃ E1, Fact (spE (fun x => !stp (⟨#[47, 62]⟩ : ByteArray).data.toList x) s.data.toList k0 = E1) := ⟨_, ⟨rfl⟩⟩
  have hT : tagE s.data.toList k0 = E1 := hE1.out
  have hle := tagE_le (l := s.data.toList) (k := k0) (by rw [← Lib.size_eq]; exact hk)
  rw [hT, ← Lib.size_eq] at hle
  obtain ⟨hg, hle⟩ := hle
  obtain ⟨S1, hS1⟩ : ∃ S1 : ByteArray, s.extract k0 E1 = S1 := ⟨_, rfl⟩
  have hN1 : Fact (nmB S1.data.toList = N.data.toList) := ⟨by rw [← hS1, sub_data s _ _ hg, ← hN.out]; unfold tagN; rw [hT]⟩
  have hS1m : IsSm S1.size := by rw [← hS1]; exact sub_sm s _ _ hs
  obtain ⟨E2, hE2⟩ : ∃ E2, Fact (spE (stp [47]) s.data.toList E1 = E2) := ⟨_, ⟨rfl⟩⟩
  have hle2 : E2 ≤ s.size := by rw [← hE2.out, Lib.size_eq]; exact spE_le _ (by rw [← Lib.size_eq]; exact hle)
  have HK : Fact (tagA s.data.toList E2 [] = (acc9, E)) := ⟨by rw [← hK.out, ← hE2.out]; unfold tagB btw; rw [hT]⟩
  have g1 : (k0 : Int) ≤ E1 := by omega
  have g2 : (E1 : Int) ≤ s.size := by omega
  have hmm := @run_makeMap Tryd.prog
  clear hK hN hT
  go_enter Tryd.func58, Tryd.ntmps58
  go_wp2_with (first
    | (go_at_call 69; refine (wordEnd_any s k0 E1 ⟨#[47, 62]⟩ hs hk hE1 _).mono ?_; rintro e w2 ⟨rfl, rfl⟩)
    | (go_at_call 70; refine (tagName_any S1 N hN1 hS1m _).mono ?_; rintro e w1 ⟨rfl, hb1⟩; have F0 := Fact.mk ((Five.new w _ _ _ _ _ _).keep hb1); have hB1 := Fact.mk ((bl1 w _).trans (hb1.mono (bl1 w _).size)); have hne : w.heap.size < w1.heap.size := F0.out.lt; clear hb1)
    | (go_at_call 71; refine (betweenEnd_any s E1 E2 hs hle hE2 _).mono ?_; rintro e w2 ⟨rfl, rfl⟩))
  have HI : Fact (TagI w ((w1.alloc (.cells #[.int .i64 kd, .string N, .string ⟨#[]⟩, .slice none 0 0, .bool false] 27)).alloc (.map #[] 0)) w1.heap.size (w1.heap.size + 1) kd N []) := ⟨by
    have h1 := hB1.out.alloc hB1.out.size (.cells #[.int .i64 kd, .string N, .string ⟨#[]⟩, .slice none 0 0, .bool false] 27)
    have h2 := MapA.made (w1.alloc (.cells #[.int .i64 kd, .string N, .string ⟨#[]⟩, .slice none 0 0, .bool false] 27))
    have e : (w1.alloc (.cells #[.int .i64 kd, .string N, .string ⟨#[]⟩, .slice none 0 0, .bool false] 27)).heap.size = w1.heap.size + 1 := by simp
    rw [e] at h2
    exact ⟨h1.alloc h1.size _, (F0.out.keep (bl1 _ _)).keep (bl1 _ _), (Five.new w1 _ _ _ _ _ _).keep (bl1 _ _), h2⟩⟩
  have HNE : Fact (w.heap.size < w1.heap.size + 1 ∧ w1.heap.size ≠ w1.heap.size + 1) := ⟨⟨by omega, by omega⟩⟩
  have HNB : Fact (w.heap.size ≠ w1.heap.size) := ⟨by omega⟩
  have HNB2 : Fact (w1.heap.size ≠ w.heap.size) := ⟨by omega⟩
  clear F0
  go_loopw [1] (fun i wx => ∃ (k : Nat) (acc : AL), i = .int .i64 k ∧ k ≤ s.size ∧ Fact (TagI w wx w1.heap.size (w1.heap.size + 1) kd N acc) ∧ Fact (tagA s.data.toList k acc = (acc9, E)) ∧ Fact (acc.length ≤ k ∧ ∀ p ∈ acc, p.1.length ≤ s.size)) (fun i _ => s.size - (intOf i).toNat)
  case atStart => exact ⟨E2, [], rfl, hle2, HI, HK, ⟨Nat.zero_le _, fun p hp => by cases hp⟩⟩
  case round =>
    obtain ⟨k, acc, rfl, hk, HT, hr, hsm⟩ := hrel
    clear HI HK hE2
    by_cases hgo : k < s.size ∧ bAt s.data.toList k ≠ 62
    · obtain ⟨hlt, hc62⟩ := hgo
      have h1 : (k : Int) < s.size := by omega
      have h2 : (0 : Int) ≤ k := by omega
      have q1 : decide ((k : Int) < s.size) = true := decide_eq_true h1
      have q1n : decide (k < s.size) = true := decide_eq_true hlt
      have hll : k < s.data.toList.length := by rw [← Lib.size_eq]; exact hlt
      have hgoA := tagA_go (acc := acc) ⟨hll, hc62⟩
      obtain ⟨c, hc⟩ : ∃ c, bAt s.data.toList k = c := ⟨_, rfl⟩
      have hcc : s[k] = c := by rw [← byte_at s k hlt]; exact hc
      rw [hc] at hc62
      have q2 : ((c.toNat : Int) != 62) = true := by rw [bne, show ((c.toNat : Int) == 62) = false from u8_ne (by decide) hc62]; rfl
      obtain ⟨A, hA⟩ : ∃ A : ByteArray, Fact (attN s.data.toList k = A.data.toList) := ⟨tx _, ⟨rfl⟩⟩
      obtain ⟨V, E3, hV⟩ : ∃ (V : ByteArray) (E3 : Nat), Fact (attB s.data.toList k = (V.data.toList, E3)) := ⟨tx (attB s.data.toList k).1, (attB s.data.toList k).2, ⟨rfl⟩⟩
      have hb3 := attB_le hll
      rw [hV.out, ← Lib.size_eq] at hb3
      obtain ⟨hb3a, hb3b⟩ : k + 1 ≤ E3 ∧ E3 ≤ s.size := hb3
      obtain ⟨E4, hE4⟩ : ∃ E4, Fact (spE (stp [47]) s.data.toList E3 = E4) := ⟨_, ⟨rfl⟩⟩
      have hg4 : E3 ≤ E4 := by rw [← hE4.out]; exact spE_ge _ _ _
      have hle4 : E4 ≤ s.size := by rw [← hE4.out, Lib.size_eq]; exact spE_le _ (by rw [← Lib.size_eq]; exact hb3b)
      have HR2 : Fact (tagA s.data.toList E4 (addA acc A.data.toList V.data.toList) = (acc9, E)) := ⟨by rw [← hr.out, hgoA, hV.out, hA.out]; unfold btw; rw [hE4.out]⟩
      have hAl : A.data.toList.length ≤ s.size := by
        rw [← hA.out]
        unfold attN
        rw [nmB_len, Lib.size_eq s]
        exact sub_le _ _ _
      have hAz : A.size ≤ 1000000000 := by rw [Lib.size_eq]; omega
      have hacc : acc.length ≤ 1000000000 := by have := hsm.out.1; omega
      have HAl := Fact.mk hAl
      clear hgoA hr hc hc62 hAl
      by_cases hin : A.data.toList ∈ acc.map (·.1)
      · have q3 : decide (A.data.toList ∈ acc.map (·.1)) = true := decide_eq_true hin
        rw [addA_old hin] at HR2
        clear hin
        go_wp2_with (first
          | (go_at_call 72; refine (attribute_any s A V k (E3) hs hlt hA hV _ (HL.out.since (HT.out.alloc _).below)).mono ?_; rintro e w2 ⟨rfl, hb2⟩; obtain ⟨t2, w3, w5, a, cc, hw3, hlook, hw5, t3, t5, i5, hput⟩ := tag_round HT.out HNE.out A V hAz hacc hb2; obtain ⟨u0, u1, uz⟩ := t2; obtain ⟨x0, x1, xz⟩ := t3; obtain ⟨y0, y1, yz⟩ := t5; have I5 := Fact.mk i5; rw [q3] at hlook; clear i5 hb2 hput)
          | (go_at_call 71; refine (betweenEnd_any s E3 E4 hs hb3b hE4 _).mono ?_; rintro e w9 ⟨rfl, rfl⟩))
        go_roundw
        case rel => exact ⟨E4, acc, rfl, hle4, I5, HR2, ⟨⟨by have := hsm.out.1; omega, hsm.out.2⟩⟩⟩
        case measure => exact meas_to hlt (by omega)
      · have q3 : decide (A.data.toList ∈ acc.map (·.1)) = false := decide_eq_false hin
        rw [addA_new hin] at HR2
        have HIN := Fact.mk hin
        clear hin
        go_wp2_with (first
          | (go_at_call 72; refine (attribute_any s A V k (E3) hs hlt hA hV _ (HL.out.since (HT.out.alloc _).below)).mono ?_; rintro e w2 ⟨rfl, hb2⟩; obtain ⟨t2, w3, w5, a, cc, hw3, hlook, hw5, t3, t5, i5, hput⟩ := tag_round HT.out HNE.out A V hAz hacc hb2; obtain ⟨u0, u1, uz⟩ := t2; obtain ⟨x0, x1, xz⟩ := t3; obtain ⟨y0, y1, yz⟩ := t5; have I5 := Fact.mk i5; rw [q3] at hlook; obtain ⟨w6, hup, i6⟩ := hput HIN.out; have I6 := Fact.mk i6; clear i6; clear i5 hb2 hput)
          | (go_at_call 71; refine (betweenEnd_any s E3 E4 hs hb3b hE4 _).mono ?_; rintro e w9 ⟨rfl, rfl⟩))
        go_roundw
        case rel => exact ⟨E4, _, rfl, hle4, I6, HR2, ⟨⟨by rw [List.length_append]; have := hsm.out.1; simp; omega, fun p hp => by
          rcases List.mem_append.1 hp with hp | hp
          · exact hsm.out.2 p hp
          · simp at hp
            subst hp
            exact HAl.out⟩⟩⟩
        case measure => exact meas_to hlt (by omega)
    · have e := tagA_stop (acc := acc) (by rw [← Lib.size_eq]; exact hgo)
      rw [hr.out] at e
      have e1 : acc9 = acc := congrArg Prod.fst e
      have e2 : E = k := congrArg Prod.snd e
      subst e1 e2
      clear e hr
      obtain ⟨r0, r1, r2, r3, r4, rz⟩ := HT.out.res
      by_cases hlt : E < s.size
      · have hc : bAt s.data.toList E = 62 := by
          by_cases h : bAt s.data.toList E = 62
          · exact h
          · exact absurd ⟨hlt, h⟩ hgo
        have hcc : s[E] = 62 := by rw [← byte_at s E hlt]; exact hc
        have h1 : (E : Int) < s.size := by omega
        have h2 : (0 : Int) ≤ E := by omega
        have q1 : decide ((E : Int) < s.size) = true := decide_eq_true h1
        have q1n : decide (E < s.size) = true := decide_eq_true hlt
        have q2 : ((E : Int) == s.size) = false := by rw [beq_eq_false_iff_ne]; omega
        have q3 : (E == s.size) = false := by rw [beq_eq_false_iff_ne]; omega
        have hP : Fact (min (E + 1) s.size = E + 1) := ⟨by omega⟩
        have hEle : E ≤ s.size := by omega
        clear hc hgo
        by_cases hkd : kd = 1
        · subst hkd
          go_wp2_with (first | (go_at_call 73; refine (tbyName_any _ acc9 _ HT.out.map ⟨by have := hsm.out.1; omega, fun p hp => by have := hsm.out.2 p hp; omega⟩).mono ?_; rintro e w4 ⟨v, rfl, hrow, hb4⟩; have HRW := Fact.mk hrow; have I4 := Fact.mk (HT.out.keep hb4); have hv : ∃ a n cap, v = .slice a n cap := (by rcases hrow.2 with ⟨rfl, _⟩ | ⟨g, cap, cur, rfl, _⟩ <;> exact ⟨_, _, _, rfl⟩); obtain ⟨va, vn, vc, rfl⟩ := hv; obtain ⟨z0, z1, z2, z3, z4, zz⟩ := I4.out.tok; obtain ⟨y0, y1, y2, y3, y4, yz⟩ := I4.out.res; clear hrow hb4))
          have T5 := Fact.mk (I4.out.tok.set3 (.slice va vn vc))
          have R5 := Fact.mk (I4.out.res.other w1.heap.size 3 (.slice va vn vc) HNB.out)
          have B5 : Fact (Below w.heap.size w (w4.setCell ⟨w1.heap.size, 3, none⟩ (.slice va vn vc))) := ⟨I4.out.below.setCell hB1.out.size _⟩
          clear z0 z1 z2 z3 z4 zz y0 y1 y2 y3 y4 yz r0 r1 r2 r3 r4 rz
          have HRW2 := Fact.mk (own_set (c := w1.heap.size) (o := 3) (x := .slice va vn vc) HRW.out HT.out.tok.lt)
          obtain ⟨w5, hw5⟩ : ∃ w5, w4.setCell ⟨w1.heap.size, 3, none⟩ (.slice va vn vc) = w5 := ⟨_, rfl⟩
          rw [hw5] at T5 R5 B5 HRW2 ⊢
          clear hw5
          obtain ⟨z0, z1, z2, z3, z4, zz⟩ := T5.out
          obtain ⟨y0, y1, y2, y3, y4, yz⟩ := R5.out
          have HS0 := Fact.mk (T5.out)
          go_region_held3 (fun w' => w'.cell? ⟨w1.heap.size, 0, none⟩ = some (.int .i64 1) ∧ w'.cell? ⟨w1.heap.size, 1, none⟩ = some (.string N) ∧ w'.cell? ⟨w1.heap.size, 2, none⟩ = some (.string ⟨#[]⟩) ∧ w'.cell? ⟨w1.heap.size, 3, none⟩ = some (.slice va vn vc) ∧ w'.cell? ⟨w1.heap.size, 4, none⟩ = some (.bool false)) (first | with_reducible exact five_cells HS0.out | with_reducible exact five_cells HS0.out.drew | with_reducible exact five_cells (HS0.out.drew.others _ _ _ _ _ _ HNB2.out) | with_reducible exact five_cells (HS0.out.others _ _ _ _ _ _ HNB2.out) | with_reducible exact five_cells (HS0.out.others _ _ _ _ _ _ HNB2.out).drew) (first | (go_at_call 62; refine (past_any s E (E + 1) hs hEle hP _).mono ?_; rintro e w9 ⟨rfl, rfl⟩))
          all_goals
            go_wp2_with fail
            refine bodyPost_ret (v := .tuple #[tokV 1 N ⟨#[]⟩ (.slice va vn vc) false, .int .i64 ((E + 1 : Nat) : Int), .bool true]) (results_tok rfl rfl rfl rfl (R5.out.put (.int .i64 1) (.string N) (.string ⟨#[]⟩) (.slice va vn vc) (.bool false)).drew) rfl ?_
            refine Or.inr ⟨hlt, _, rfl, fun _ => ?_, fun h => absurd rfl h, (five_set B5.out (Nat.le_refl _) _ _ _ _ _).drew⟩
            exact own_low (own_five (w := w5) HRW2.out HT.out.res.lt) HT.out.below.size
        · have q4 : (kd == 1) = false := by rw [beq_eq_false_iff_ne]; exact hkd
          obtain ⟨z0, z1, z2, z3, z4, zz⟩ := HT.out.tok
          go_wp2_with fail
          have HS0 := Fact.mk (HT.out.tok)
          go_region_held3 (fun w' => w'.cell? ⟨w1.heap.size, 0, none⟩ = some (.int .i64 kd) ∧ w'.cell? ⟨w1.heap.size, 1, none⟩ = some (.string N) ∧ w'.cell? ⟨w1.heap.size, 2, none⟩ = some (.string ⟨#[]⟩) ∧ w'.cell? ⟨w1.heap.size, 3, none⟩ = some (.slice none 0 0) ∧ w'.cell? ⟨w1.heap.size, 4, none⟩ = some (.bool false)) (first | with_reducible exact five_cells HS0.out | with_reducible exact five_cells HS0.out.drew | with_reducible exact five_cells (HS0.out.drew.others _ _ _ _ _ _ HNB2.out) | with_reducible exact five_cells (HS0.out.others _ _ _ _ _ _ HNB2.out) | with_reducible exact five_cells (HS0.out.others _ _ _ _ _ _ HNB2.out).drew) (first | (go_at_call 62; refine (past_any s E (E + 1) hs hEle hP _).mono ?_; rintro e w9 ⟨rfl, rfl⟩))
          all_goals
            go_wp2_with fail
            refine bodyPost_ret (v := .tuple #[tokV kd N ⟨#[]⟩ (.slice none 0 0) false, .int .i64 ((E + 1 : Nat) : Int), .bool true]) (results_tok rfl rfl rfl rfl (HT.out.res.put (.int .i64 kd) (.string N) (.string ⟨#[]⟩) (.slice none 0 0) (.bool false)).drew) rfl ?_
            exact Or.inr ⟨hlt, _, rfl, fun h => absurd h hkd, fun _ => rfl, (five_set HT.out.below (Nat.le_refl _) _ _ _ _ _).drew⟩
      · have e : E = s.size := by omega
        have h1 : (s.size : Int) ≤ E := by omega
        have q1 : decide ((E : Int) < s.size) = false := decide_eq_false (by omega)
        have q1n : decide (E < s.size) = false := decide_eq_false hlt
        have q2 : ((E : Int) == s.size) = true := by rw [beq_iff_eq]; omega
        have q3 : (E == s.size) = true := by rw [beq_iff_eq]; omega
        have HE := Fact.mk e
        clear hgo e
        go_wp2_with fail
        refine bodyPost_ret (v := .tuple #[tokV 0 ⟨#[]⟩ ⟨#[]⟩ (.slice none 0 0) false, .int .i64 s.size, .bool false]) (results_tok rfl rfl rfl rfl (HT.out.res.put (.int .i64 0) (.string ⟨#[]⟩) (.string ⟨#[]⟩) (.slice none 0 0) (.bool false))) rfl ?_
        exact Or.inl ⟨HE.out, rfl, five_set HT.out.below (Nat.le_refl _) _ _ _ _ _⟩
end Go.Proofs.YtdniddiaiinggaaDoor
