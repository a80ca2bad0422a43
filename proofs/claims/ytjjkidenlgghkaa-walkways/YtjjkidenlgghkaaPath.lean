/- Path: the places that lead to a node. -/
import Derived.Test.YtjjkidenlgghkaaWayTo
set_option linter.unusedVariables false
namespace Go.Proofs.Ytjjkidenlgghkaa
open Go.Deep (BT)
open Go.RowKit M

/-- steps one behind the other, as cells -/
def cellsSt : List Fr → List Value
  | [] => []
  | f :: l => cells8 f ++ cellsSt l
theorem cellsSt_append : ∀ a b, cellsSt (a ++ b) = cellsSt a ++ cellsSt b
  | [], b => rfl
  | f :: a, b => by simp [cellsSt, cellsSt_append a b]
theorem cellsW_S : ∀ l, cellsW l = cellsSt l.reverse
  | [] => rfl
  | f :: l => by rw [cellsW, cellsW_S l, List.reverse_cons, cellsSt_append]; simp [cellsSt]
theorem wayOf_rev : ∀ l, wayOf l = l.reverse.map (·.s)
  | [] => rfl
  | f :: l => by rw [wayOf, wayOf_rev l]; simp
theorem cellsSt_get : ∀ (l : List Fr) (i : Nat) (f : Fr), l[i]? = some f → ∀ j u, (cells8 f)[j]? = some u → (cellsSt l)[i * 8 + j]? = some u
  | [], _, _, h, _, _, _ => by cases h
  | x :: l, 0, f, h, j, u, hu => by
    simp only [List.getElem?_cons_zero, Option.some.injEq] at h
    subst h
    have hj := (List.getElem?_eq_some_iff.1 hu).1
    rw [cellsSt, List.getElem?_append_left (by simpa using hj)]
    simpa using hu
  | x :: l, i + 1, f, h, j, u, hu => by
    simp only [List.getElem?_cons_succ] at h
    have := cellsSt_get l i f h j u hu
    have hx : (cells8 x).length = 8 := rfl
    rw [cellsSt, List.getElem?_append_right (by omega), hx, show (i + 1) * 8 + j - 8 = i * 8 + j by omega]
    exact this
theorem way_at {w : World} {B E g n cap : Nat} {L : List Fr} (h : w.ownsRow B E 8 (.slice (some ⟨g, 0, none⟩) n cap) n (cellsW L)) {i : Nat} {f : Fr} (hf : L.reverse[i]? = some f) :
    (∀ j u, (cells8 f)[j]? = some u → w.cell? ⟨g, i * 8 + j, none⟩ = some u) ∧ g < w.heap.size ∧ n ≤ cap ∧ cap ≤ maxLen := by
  obtain ⟨h1, h2⟩ := h
  rcases h2 with ⟨e, _⟩ | ⟨g', cap', cur, e, hg, hh, hc1, hc2, hs, ht⟩
  · cases e
  · cases e
    refine ⟨fun j u hj => ?_, (Array.getElem?_eq_some_iff.1 hh).1, hc1, hc2⟩
    simp only [World.cell?, hh]
    have h3 := cellsSt_get L.reverse i f hf j u hj
    rw [← cellsW_S, ← ht, List.getElem?_take] at h3
    split at h3
    · simpa using h3
    · cases h3

theorem allOK_mem {S : Nat → Prop} {w : World} : ∀ {L : List Fr}, AllOK S w L → ∀ f ∈ L, FrOK S w f
  | [], _, _, h => by cases h
  | x :: L, hL, f, h => by
    rcases List.mem_cons.1 h with rfl | h
    · exact hL.1
    · exact allOK_mem hL.2 f h

set_option maxRecDepth 20000 in
set_option maxHeartbeats 2000000 in
theorem path_any (d : Nd) (k : M.F) (av kv : Value) (id : Int) (w : World) (ha : AS (Old w.heap.size) w av d.ats) (hf : FL (Old w.heap.size) w kv k) (hk : k.depth + 1 ≤ 1000000) (hs : k.size + 1 ≤ 1000000000) :
    Calls Try.prog 17 #[nodeV d av kv, .int .i64 id] w fun e w' => Below w.heap.size w w' ∧ ∃ v ps, e = .returned v ∧ w'.ownsRow w.heap.size 3 1 v ps.length (cI ps) ∧
      ((∃ pre x, pre ++ [x] <+: evT d k ∧ (∀ y ∈ pre, (lastId y : Int) ≠ id) ∧ (lastId x : Int) = id ∧ ps = (x.way.map (·.place)).drop 1) ∨ ((∀ y ∈ evT d k, (lastId y : Int) ≠ id) ∧ ps = [])) := by
  obtain ⟨a1, b1, c1, eav⟩ := ha.val
  obtain ⟨ka, kc, ekv⟩ := hf.val
  have ha' := ha
  have hf' := hf
  subst eav ekv
  have HA : Fact (AS (Old w.heap.size) w (.slice a1 b1 c1) d.ats) := ⟨ha'⟩
  have HF : Fact (FL (Old w.heap.size) w (.slice ka k.len kc) k) := ⟨hf'⟩
  clear ha' hf' ha hf
  obtain ⟨W0, hW0⟩ : ∃ W0, w.alloc (.cells #[.int .i64 d.k, .string d.n, .string d.x, .slice a1 b1 c1, .slice ka k.len kc] 25) = W0 := ⟨_, rfl⟩
  have hb0 : Below w.heap.size w W0 := by rw [← hW0]; exact (Below.refl _ w).alloc (Nat.le_refl _) _
  have hbx : ∀ i, W0.cell? ⟨w.heap.size, i, none⟩ = (#[.int .i64 d.k, .string d.n, .string d.x, .slice a1 b1 c1, .slice ka k.len kc] : Array Value)[i]? := fun i => by rw [← hW0]; exact World.cell?_alloc_new w _ _ i
  go_enter Try.func17, Try.ntmps17
  go_wp2_with fail
  have hway := (callsIn_wide (n := 4)).1 (wayTo_in 4 (by omega) d k (.slice a1 b1 c1) (.slice ka k.len kc) id W0 (HA.out.old hb0 hb0.size) (HF.out.old hb0 hb0.size) hk hs)
  refine hway.mono ?_
  clear hway
  rintro e w1 ⟨hb1, (⟨v, rfl, hF⟩ | ⟨rfl, hno⟩)⟩
  · obtain ⟨pre, x, L, g, cap, base, h1, h2, h3, h4, h5, rfl, h7, h8, h9, h10⟩ := hF.way
    obtain ⟨n, hn⟩ : ∃ n, L.length = n := ⟨_, rfl⟩
    rw [hn] at h8 h10 ⊢
    have hn0 : 0 < n := by rw [← hn]; exact List.length_pos_iff.2 h5
    have HB : Fact (Below w.heap.size w w1) := ⟨hb0.trans (hb1.mono hb0.size)⟩
    have HR := Fact.mk h8
    have HK9 := Fact.mk h9
    have HX := Fact.mk (And.intro h1 (And.intro h2 (And.intro h3 h4)))
    clear hF h1 h2 h3 h4 h5 h8 h9 hb0 hb1 hW0 hbx
    obtain ⟨i0, hii, hzz0, hzz1, hzz2⟩ := info_parts infoInt
    have HL := Fact.mk hn
    clear hn
    go_wp2_with fail
    go_loopg [5, 12] n (fun gf lv iv wr => ∃ i : Nat, iv = .int .i64 i ∧ i ≤ n ∧ n - i ≤ gf ∧ Fact (Below w1.heap.size w1 wr) ∧ Fact (wr.ownsRow w1.heap.size 3 1 lv (i - 1) (cI (((L.reverse.map (·.s.place)).take i).drop 1))))
    case atStart => exact ⟨0, rfl, Nat.zero_le _, Nat.le_refl _, ⟨Below.refl _ _⟩, ⟨World.ownsRow_nil _ _ _ _⟩⟩
    case round =>
      obtain ⟨i, rfl, hi, hgf, hBr, hOr⟩ := hrel
      by_cases hin : i = n
      · subst hin
        have hdec : decide ((i : Int) < (i : Int)) = false := decide_eq_false (by omega)
        go_wp2_with fail
        go_ret
        refine ⟨HB.out.trans (hBr.out.mono HB.out.size), _, _, rfl, ?_, .inl ⟨pre, x, HX.out.1, HX.out.2.1, HX.out.2.2.1, rfl⟩⟩
        have e : (x.way.map (·.place)).drop 1 = ((L.reverse.map (·.s.place)).take i).drop 1 := by
          rw [← HX.out.2.2.2, wayOf_rev, List.map_map, List.take_of_length_le (by simp [HL.out])]
          rfl
        have hl : ((x.way.map (·.place)).drop 1).length = i - 1 := by rw [e]; simp [HL.out]
        rw [hl, e]
        exact own_lessP hOr.out HB.out.size
      · have hlt : i < n := by omega
        have hdec : decide ((i : Int) < (n : Int)) = true := decide_eq_true (by omega)
        obtain ⟨f, hfi⟩ : ∃ f, L.reverse[i]? = some f := ⟨L.reverse[i]'(by simp [HL.out]; omega), List.getElem?_eq_getElem _⟩
        obtain ⟨hat, hg2, hcp, hcm⟩ := way_at (own_block HR.out (fun k e hk => hBr.out.block k hk)) hfi
        have htk : (L.reverse.map (·.s.place)).take (i + 1) = (L.reverse.map (·.s.place)).take i ++ [f.s.place] := by
          rw [List.take_add_one, List.getElem?_map, hfi]; rfl
        obtain ⟨x1, x2, x3, eav⟩ : ∃ a b c, f.av = .slice a b c := by
          have hm : f ∈ L := by rw [← List.mem_reverse]; exact List.mem_of_getElem? hfi
          exact (allOK_mem HK9.out f hm).at_.val
        obtain ⟨⟨⟨K, N, X, A⟩, kk, id', pl⟩, rest, nx, av, ka', kc'⟩ := f
        dsimp only at eav htk
        subst eav
        have y0 : wr.cell? ⟨g, i * 8, none⟩ = some (.int .i64 K) := hat 0 _ rfl
        have y1 : wr.cell? ⟨g, i * 8 + 1, none⟩ = some (.string N) := hat 1 _ rfl
        have y2 : wr.cell? ⟨g, i * 8 + 2, none⟩ = some (.string X) := hat 2 _ rfl
        have y3 : wr.cell? ⟨g, i * 8 + 3, none⟩ = some (.slice x1 x2 x3) := hat 3 _ rfl
        have y4 : wr.cell? ⟨g, i * 8 + 4, none⟩ = some (.slice ka' kk.len kc') := hat 4 _ rfl
        have y5 : wr.cell? ⟨g, i * 8 + 5, none⟩ = some (.int .i64 id') := hat 5 _ rfl
        have y6 : wr.cell? ⟨g, i * 8 + 6, none⟩ = some (.int .i64 pl) := hat 6 _ rfl
        have y7 : wr.cell? ⟨g, i * 8 + 7, none⟩ = some (.int .i64 nx) := hat 7 _ rfl
        obtain ⟨g', rfl⟩ : ∃ g', gk = g' + 1 := ⟨gk - 1, by omega⟩
        have HTK := Fact.mk htk
        clear hat htk hfi
        by_cases hi0 : i = 0
        · subst hi0
          go_wp2_with fail
          go_roundg g'
          case measure => omega
          case rel => exact ⟨1, by simp, by omega, by omega, ⟨hBr.out.alloc hBr.out.size _⟩, ⟨by rw [HTK.out]; simpa [cI] using hOr.out.alloc _⟩⟩
        · have hd0 : decide ((0 : Int) < (i : Int)) = true := decide_eq_true (by omega)
          have hszr := hBr.out.size
          obtain ⟨Wb, hWb⟩ : ∃ Wb, wr.alloc (.cells #[.int .i64 K, .string N, .string X, .slice x1 x2 x3, .slice ka' kk.len kc', .int .i64 id', .int .i64 pl, .int .i64 nx] 61) = Wb := ⟨_, rfl⟩
          have hOb : Wb.ownsRow w1.heap.size 3 1 u5 (i - 1) (cI (((L.reverse.map (·.s.place)).take i).drop 1)) := by rw [← hWb]; exact hOr.out.alloc _
          have hBb : Below w1.heap.size w1 Wb := by rw [← hWb]; exact hBr.out.alloc hszr _
          have hpb : Wb.cell? ⟨wr.heap.size, 6, none⟩ = some (.int .i64 pl) := by rw [← hWb]; exact World.cell?_alloc_new wr _ _ 6
          have HBb := Fact.mk hBb
          have HWb := Fact.mk hWb
          clear hWb
          have hz8 : i ≤ 1000000 := by omega
          have hsb := HBb.out.size
          go_upto_region 6 with fail
          rw [HWb.out]
          go_wp2_with (at_builtin; refine wpList_append_own _ rfl (.tmp 19) (.tmp 22) 34 rfl w1.heap.size 3 i0 (.int .i64 0) 1 8 Try.underlying34 hii hzz0 hzz1 hzz2 rfl (by decide) u5 (i - 1) (cI (((L.reverse.map (·.s.place)).take i).drop 1)) rfl (hOb.alloc _) ⟨Wb.heap.size, 0, none⟩ 1 1 [.int .i64 pl] rfl rfl (cells_new Wb _ _) (by simp [Value.oneCell']) (by unfold maxLen; omega) (by omega) (by simp; omega) ?_; intro v' w3 hown' hgrow _)
          go_roundg g'
          case measure => omega
          case rel =>
            refine ⟨i + 1, by simp, by omega, by omega, ⟨(HBb.out.alloc hsb _).grown hgrow (by simp; omega) (fun k e => (hOb.lt k e).1)⟩, ⟨?_⟩⟩
            have e : (((L.reverse.map (·.s.place)).take (i + 1)).drop 1) = (((L.reverse.map (·.s.place)).take i).drop 1) ++ [pl] := by
              rw [HTK.out, List.drop_append_of_le_length (by simp [HL.out]; omega)]
            rw [e, cI_snoc, show i + 1 - 1 = i - 1 + 1 by omega]
            exact hown'
  · have HB : Fact (Below w.heap.size w w1) := ⟨hb0.trans (hb1.mono hb0.size)⟩
    clear hb0 hb1 hW0 hbx
    go_wp2_with fail
    go_rounds 1
    go_ret
    exact ⟨HB.out, _, [], rfl, World.ownsRow_nil _ _ _ _, .inr ⟨hno, rfl⟩⟩
end Go.Proofs.Ytjjkidenlgghkaa
