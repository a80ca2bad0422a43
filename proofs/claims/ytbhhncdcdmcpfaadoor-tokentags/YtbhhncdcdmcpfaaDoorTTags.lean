/- TokenTags. -/
import Derived.Test.YtbhhncdcdmcpfaaDoorTTagP
import Derived.Test.YtbhhncdcdmcpfaaDoorTG
import Derived.Deep.RegionHeld3
set_option linter.unusedVariables false
namespace Go.Proofs.YtbhhncdcdmcpfaaDoor
open Go.RowKit M

/-- a list of numbers that came in -/
structure IsL (n : Nat) (w : World) (v : Value) (ln : Nat) : Prop where
  h : ∃ a cap, v = .slice a ln cap ∧ ln ≤ cap ∧ cap ≤ maxLen ∧ (ln = 0 ∨ ∃ b o, a = some ⟨b, o, none⟩ ∧ b < n ∧ ∀ i, i < ln → ∃ x : Int, w.cell? ⟨b, o + i, none⟩ = some (.int .i64 x))
/-- what the loop keeps -/
structure TgI (w wx : World) (en : Bool) (N S : ByteArray) (L : List Pc) (v : Value) (j : Nat) : Prop where
  below : Below w.heap.size w wx
  tok : Five wx w.heap.size (.int .i64 (if en = true then 2 else 1)) (.string N) (.string ⟨#[]⟩) v (.bool false)
  row : wx.ownsRow (w.heap.size + 1) 34 2 v (if en = true then [] else atL L).length (rowA (if en = true then [] else atL L))
  txt : S.data.toList = (if en = true then [60, 47] else [60]) ++ (N.data.toList ++ txtL L)
  ok : ∀ p ∈ L, p.OK
  nm : L.map (·.n) = nms j
  sz : S.size ≤ 10 + 60 * j
theorem dig_ext {j : Nat} (h : j < 8) : ((⟨#[48, 49, 50, 51, 52, 53, 54, 55]⟩ : ByteArray).extract j (j + 1)).data.toList = [UInt8.ofNat (48 + j)] := by
  rcases eight8 h with rfl | rfl | rfl | rfl | rfl | rfl | rfl | rfl <;> decide
theorem val_ext {v : Nat} (h : v < 5) : ((⟨#[118, 97, 108, 117, 101]⟩ : ByteArray).extract 0 (v + 1)).data.toList = pvl v := by
  have : v = 0 ∨ v = 1 ∨ v = 2 ∨ v = 3 ∨ v = 4 := by omega
  rcases this with rfl | rfl | rfl | rfl | rfl <;> decide
theorem thr {q : Nat} (h : (q : Int) < 3) : q = 0 ∨ q = 1 ∨ q = 2 := by omega
theorem fou {q : Nat} (h : (q : Int) < 4) : q = 0 ∨ q = 1 ∨ q = 2 ∨ q = 3 := by omega
theorem lt5 {p : Nat} (h : (p : Int) < 5) : p < 5 := by omega
theorem lt4 {p : Nat} (h : (p : Int) < 4) : p < 4 := by omega
theorem place_ex (v N : Int) (h0 : 0 < N) (hN : N ≤ 100000000) (w : World) : Calls Tryd.prog 12 #[.int .i64 v, .int .i64 N] w fun e w' => ∃ j : Nat, (j : Int) < N ∧ e = .returned (.int .i64 j) ∧ w' = w := by
  obtain ⟨j, hj, c⟩ := place_gen v N h0 hN
  exact (c w).mono fun e w' ⟨h1, h2⟩ => ⟨j, hj, h1, h2⟩
theorem q_index {q : Nat} (h : (q : Int) < 3) (w : World) : (Instr.index 35 (.agg #[.string ⟨#[34]⟩, .string ⟨#[39]⟩, .string ⟨#[]⟩]) (.int .i64 q)).run Tryd.prog w = .ok (.string (tx (pqu q))) w := by
  rcases thr h with rfl | rfl | rfl <;> kernel_rfl
theorem g_index {q : Nat} (h : (q : Int) < 4) (w : World) : (Instr.index 36 (.agg #[.string ⟨#[32]⟩, .string ⟨#[10]⟩, .string ⟨#[32, 47, 32]⟩, .string ⟨#[9, 32]⟩]) (.int .i64 q)).run Tryd.prog w = .ok (.string (tx (pgp q))) w := by
  rcases fou h with rfl | rfl | rfl | rfl <;> kernel_rfl
theorem six_sums (S Gp Kn Qt Vl : ByteArray) (hS : S.size ≤ 1000) (hG : Gp.size ≤ 10) (hK : Kn.size ≤ 10) (hQ : Qt.size ≤ 10) (hV : Vl.size ≤ 10) :
    ∃ A1 A2 A3 A4 A5 A6 : ByteArray, (∀ w, (Op.stringOp .add S Gp).run Tryd.prog w = .ok (.string A1) w) ∧ (∀ w, (Op.stringOp .add A1 Kn).run Tryd.prog w = .ok (.string A2) w) ∧ (∀ w, (Op.stringOp .add A2 ⟨#[61]⟩).run Tryd.prog w = .ok (.string A3) w) ∧ (∀ w, (Op.stringOp .add A3 Qt).run Tryd.prog w = .ok (.string A4) w) ∧ (∀ w, (Op.stringOp .add A4 Vl).run Tryd.prog w = .ok (.string A5) w) ∧ (∀ w, (Op.stringOp .add A5 Qt).run Tryd.prog w = .ok (.string A6) w) ∧
      A6.data.toList = S.data.toList ++ (Gp.data.toList ++ (Kn.data.toList ++ (61 :: (Qt.data.toList ++ (Vl.data.toList ++ Qt.data.toList))))) ∧ A6.size = S.size + (Gp.size + (Kn.size + (1 + (Qt.size + (Vl.size + Qt.size))))) := by
  have e1 : (S ++ Gp).size = S.size + Gp.size := size_app _ _
  have e2 : (S ++ Gp ++ Kn).size = S.size + Gp.size + Kn.size := by rw [size_app, e1]
  have e3 : (S ++ Gp ++ Kn ++ (⟨#[61]⟩ : ByteArray)).size = S.size + Gp.size + Kn.size + 1 := by rw [size_app, e2]; rfl
  have e4 : (S ++ Gp ++ Kn ++ (⟨#[61]⟩ : ByteArray) ++ Qt).size = S.size + Gp.size + Kn.size + 1 + Qt.size := by rw [size_app, e3]
  have e5 : (S ++ Gp ++ Kn ++ (⟨#[61]⟩ : ByteArray) ++ Qt ++ Vl).size = S.size + Gp.size + Kn.size + 1 + Qt.size + Vl.size := by rw [size_app, e4]
  have m3 : (S ++ Gp ++ Kn).size + 1 ≤ 100000000 := by omega
  refine ⟨_, _, _, _, _, _, fun w => add_at S Gp _ rfl (by omega) w, fun w => add_at _ Kn _ rfl (by omega) w, fun w => add_at _ ⟨#[61]⟩ _ rfl m3 w, fun w => add_at _ Qt _ rfl (by omega) w, fun w => add_at _ Vl _ rfl (by omega) w, fun w => add_at _ Qt _ rfl (by omega) w, ?_, ?_⟩
  · rw [data_app, data_app, data_app, data_app, data_app, data_app]
    simp
  · rw [size_app, e5]
    omega
theorem szk {K : ByteArray} {j : Nat} (h : K.data.toList = pnm j) : K.size ≤ 10 := by rw [Lib.size_eq, h]; exact (show (2 : Nat) ≤ 10 by decide)
theorem szv {K : ByteArray} {v : Nat} (h : K.data.toList = pvl v) (hv : v < 5) : K.size ≤ 10 := by rw [Lib.size_eq, h]; exact Nat.le_trans (pvl_ok hv).2.2 (by decide)
theorem szq {K : ByteArray} {q : Nat} (h : tx (pqu q) = K) : K.size ≤ 10 := by rw [← h, Lib.size_eq]; exact Nat.le_trans (pqu_ok q).2 (by decide)
theorem szg {K : ByteArray} {g : Nat} (h : tx (pgp g) = K) (hg : g < 4) : K.size ≤ 10 := by rw [← h, Lib.size_eq]; exact Nat.le_trans (pgp_ok hg).2.2 (by decide)
theorem szs {K : ByteArray} {j : Nat} (h : K.size ≤ 10 + 60 * j) (hj : j ≤ 8) : K.size ≤ 1000 := by omega
theorem lenA {L : List Pc} {j : Nat} (h : L.map (·.n) = nms j) (hj : j ≤ 8) : (atL L).length ≤ 1000000000 := by
  have : L.length = j := by rw [← List.length_map (f := (·.n)), h]; unfold nms; simp
  unfold atL
  rw [List.length_map]
  omega
theorem wz (j : Nat) (h : j ≤ 8) : wrap64 ((j : Int) + 1) = (j : Int) + 1 := by unfold wrap64; omega
theorem TgI.drew {w wx : World} {en : Bool} {N S : ByteArray} {L : List Pc} {v : Value} {j : Nat} (h : TgI w wx en N S L v j) : TgI w wx.drew en N S L v j := ⟨h.below.drew, h.tok.drew, h.row, h.txt, h.ok, h.nm, h.sz⟩
/-- the text with a piece more -/
theorem tg_txt {en : Bool} {N S A6 Gp Kn Qt Vl : ByteArray} {L : List Pc} {j p4 p3 p5 : Nat} (ht : S.data.toList = (if en = true then [60, 47] else [60]) ++ (N.data.toList ++ txtL L)) (hG : tx (pgp p4) = Gp) (hK : Kn.data.toList = pnm j) (hQ : tx (pqu p3) = Qt) (hV : Vl.data.toList = pvl p5)
    (dA : A6.data.toList = S.data.toList ++ (Gp.data.toList ++ (Kn.data.toList ++ (61 :: (Qt.data.toList ++ (Vl.data.toList ++ Qt.data.toList)))))) : A6.data.toList = (if en = true then [60, 47] else [60]) ++ (N.data.toList ++ txtL (L ++ [pcs j p4 p3 p5])) := by
  rw [dA, ht, txtL_app, hK, hV, ← hG, ← hQ]
  unfold pcs Pc.txt
  simp
theorem tg_next {w wY w4 : World} {N S A6 Gp Kn Qt Vl : ByteArray} {L : List Pc} {v v' : Value} {j p4 p3 p5 : Nat} (h : TgI w wY false N S L v j) (hj : j < 8) (h4 : p4 < 4) (h5 : p5 < 5) (hG : tx (pgp p4) = Gp) (hK : Kn.data.toList = pnm j) (hQ : tx (pqu p3) = Qt) (hV : Vl.data.toList = pvl p5)
    (dA : A6.data.toList = S.data.toList ++ (Gp.data.toList ++ (Kn.data.toList ++ (61 :: (Qt.data.toList ++ (Vl.data.toList ++ Qt.data.toList)))))) (zA : A6.size = S.size + (Gp.size + (Kn.size + (1 + (Qt.size + (Vl.size + Qt.size))))))
    (hr : w4.ownsRow (w.heap.size + 1) 34 2 v' ((atL L).length + 1) (rowA (atL L ++ [(pnm j, pvl p5)]))) (hb : Below (w.heap.size + 1) wY w4) : TgI w (w4.setCell ⟨w.heap.size, 3, none⟩ v') false N A6 (L ++ [pcs j p4 p3 p5]) v' (j + 1) := by
  have e : atL (L ++ [pcs j p4 p3 p5]) = atL L ++ [(pnm j, pvl p5)] := atL_app L _
  have f : Five w4 w.heap.size _ _ _ _ _ := h.tok.same (hb.block _ (Nat.lt_succ_self _))
  refine ⟨(h.below.trans (hb.mono (Nat.le_succ _))).setCell (Nat.le_refl _) _, f.set3 v', ?_, tg_txt h.txt hG hK hQ hV dA, ?_, ?_, ?_⟩
  · rw [if_neg (by decide), e, List.length_append]
    exact own_set hr (Nat.lt_succ_self _)
  · intro p hp
    rcases List.mem_append.1 hp with hp | hp
    · exact h.ok p hp
    · simp at hp
      subst hp
      exact pcs_ok hj h4 h5
  · rw [List.map_append, h.nm, nms_step]
    rfl
  · have := h.sz
    have a1 := szk hK
    have a2 := szv hV h5
    have a3 := szq hQ
    have a4 := szg hG h4
    omega
theorem tg_nextE {w wY : World} {N S A6 Gp Kn Qt Vl : ByteArray} {L : List Pc} {v : Value} {j p4 p3 p5 : Nat} (h : TgI w wY true N S L v j) (hj : j < 8) (h4 : p4 < 4) (h5 : p5 < 5) (hG : tx (pgp p4) = Gp) (hK : Kn.data.toList = pnm j) (hQ : tx (pqu p3) = Qt) (hV : Vl.data.toList = pvl p5)
    (dA : A6.data.toList = S.data.toList ++ (Gp.data.toList ++ (Kn.data.toList ++ (61 :: (Qt.data.toList ++ (Vl.data.toList ++ Qt.data.toList)))))) (zA : A6.size = S.size + (Gp.size + (Kn.size + (1 + (Qt.size + (Vl.size + Qt.size)))))) : TgI w wY true N A6 (L ++ [pcs j p4 p3 p5]) v (j + 1) := by
  refine ⟨h.below, h.tok, ?_, tg_txt h.txt hG hK hQ hV dA, ?_, ?_, ?_⟩
  · have := h.row
    rw [if_pos rfl] at this ⊢
    exact this
  · intro p hp
    rcases List.mem_append.1 hp with hp | hp
    · exact h.ok p hp
    · simp at hp
      subst hp
      exact pcs_ok hj h4 h5
  · rw [List.map_append, h.nm, nms_step]
    rfl
  · have := h.sz
    have a1 := szk hK
    have a2 := szv hV h5
    have a3 := szq hQ
    have a4 := szg hG h4
    omega
theorem tg_calls {w wx : World} {en : Bool} {N S SB : ByteArray} {L : List Pc} {v : Value} {j : Nat} (h : TgI w wx en N S L v j) (hN : TnOK N.data.toList) (hj : j ≤ 8) (hSB : SB.data.toList = S.data.toList ++ [32, 62, 98]) :
    (∀ w', Laid w' → Calls Tryd.prog 10 #[.string SB, .int .i64 0, .string ⟨#[]⟩] w' fun e w'' => TokOut w' ⟨if en = true then 2 else 1, N, ⟨#[]⟩, if en = true then [] else atL L, false⟩ (S.size + 2) true e w'') ∧
    (∀ w', Laid w' → Calls Tryd.prog 10 #[.string S, .int .i64 0, .string ⟨#[]⟩] w' fun e w'' => TokOut w' ⟨0, ⟨#[]⟩, ⟨#[]⟩, [], false⟩ S.size false e w'') := by
  have hz := szs h.sz hj
  have hnd : (L.map (·.n)).Nodup := by rw [h.nm]; exact (nms_ok hj).1
  have e1 : SB.size = S.size + 3 := by rw [Lib.size_eq, hSB, List.length_append, ← Lib.size_eq]; rfl
  have e0 : 0 < S.size := by
    rw [Lib.size_eq, h.txt]
    cases en <;> simp
  have eB : SB.data.toList = (if en = true then [60, 47] else [60]) ++ (N.data.toList ++ (txtL L ++ [32, 62, 98])) := by
    rw [hSB, h.txt]
    simp
  have eS : S.data.toList = (if en = true then [60, 47] else [60]) ++ (N.data.toList ++ (txtL L ++ [])) := by
    rw [h.txt]
    simp
  refine ⟨fun w' hl => next_is SB ⟨#[]⟩ N ⟨#[]⟩ 0 _ _ false (S.size + 2) true ⟨by omega⟩ ⟨by decide⟩ (by omega) (fun t' E' ok' hR => ?_) w' hl, fun w' hl => next_is S ⟨#[]⟩ ⟨#[]⟩ ⟨#[]⟩ 0 0 [] false S.size false ⟨by omega⟩ ⟨by decide⟩ e0 (fun t' E' ok' hR => ?_) w' hl⟩
  · rw [eB] at hR
    obtain ⟨h1, h2, h3⟩ := tags_yes en hN h.ok hnd (srt_atL h.nm hj) hR
    rw [← eB, ← Lib.size_eq, e1] at h2
    exact ⟨h1, by omega, h3⟩
  · rw [eS] at hR
    obtain ⟨h1, h2, h3⟩ := tags_no en hN h.ok hnd hR
    rw [← eS, ← Lib.size_eq] at h2
    exact ⟨h1, h2, h3⟩
theorem slice_inj {a b : Option Addr} {n c d : Nat} (h : Value.slice a n c = .slice b n d) : a = b ∧ c = d := by cases h; exact ⟨rfl, rfl⟩
theorem lenB {L : List Pc} {j : Nat} (h : L.map (·.n) = nms j) (hj : j ≤ 8) : (atL L).length ≤ 1000 := by
  have : L.length = j := by rw [← List.length_map (f := (·.n)), h]; unfold nms; simp
  unfold atL
  rw [List.length_map]
  omega
theorem w2z (n : Nat) (h : n ≤ 1000) : wrap64 ((n : Int) + 2) = (n : Int) + 2 := by unfold wrap64; omega
set_option maxRecDepth 20000 in
set_option maxHeartbeats 4000000 in
theorem tags_walk (nm : Int) (lv : Value) (ln : Nat) (quote : Int) (en : Bool) (w : World) (hl : Laid w) (hI : IsL w.heap.size w lv ln) :
    Calls Tryd.prog 4 #[.int .i64 nm, lv, .int .i64 quote, .bool en] w fun e w' => e = .returned (.bool true) ∧ Below w.heap.size w w' := by
  have HL := Fact.mk hl
  clear hl
  obtain ⟨la, lc, rfl, hlc, hlm, hI⟩ := hI.h
  have HI := Fact.mk hI
  clear hI
  obtain ⟨p, hp, cp⟩ := place_gen nm 5 (by decide) (by decide)
  have CP := Fact.mk cp
  clear cp
  have n1 := tnm_ok hp
  obtain ⟨N, hN⟩ : ∃ N, tnm p = N := ⟨_, rfl⟩
  have iN : ∀ w, (Instr.index 31 (.agg #[.string ⟨#[97]⟩, .string ⟨#[100, 105, 118]⟩, .string ⟨#[104, 49]⟩, .string ⟨#[120, 45, 121]⟩, .string ⟨#[116, 97, 98, 108, 101]⟩]) (.int .i64 p)).run Tryd.prog w = .ok (.string N) w := by
    rw [← hN]
    have : p = 0 ∨ p = 1 ∨ p = 2 ∨ p = 3 ∨ p = 4 := by omega
    rcases this with rfl | rfl | rfl | rfl | rfl <;> intro w <;> kernel_rfl
  rw [hN] at n1
  have N1 := Fact.mk n1
  clear n1 hN
  obtain ⟨S0, hS0⟩ : ∃ A : ByteArray, (⟨#[60]⟩ : ByteArray) ++ N = A := ⟨_, rfl⟩
  obtain ⟨S1, hS1⟩ : ∃ A : ByteArray, (⟨#[60, 47]⟩ : ByteArray) ++ N = A := ⟨_, rfl⟩
  have zN := N1.out.2
  have m0 : (1 : Nat) + N.size ≤ 100000000 := by omega
  have m1 : (2 : Nat) + N.size ≤ 100000000 := by omega
  have r0 := fun w => add_at ⟨#[60]⟩ N S0 hS0 m0 w
  have r1 := fun w => add_at ⟨#[60, 47]⟩ N S1 hS1 m1 w
  have ST : Fact (∃ S, (if en = true then S1 else S0) = S ∧ TgI w (w.alloc (.cells #[.int .i64 (if en = true then 2 else 1), .string N, .string ⟨#[]⟩, .slice none 0 0, .bool false] 25)) en N S [] (.slice none 0 0) 0) := ⟨⟨_, rfl, ⟨bl1 w _, Five.new w _ _ _ _ _ _, by cases en <;> exact World.ownsRow_nil _ _ _ _, by
    cases en
    · rw [if_neg (by decide), if_neg (by decide), ← hS0, data_app]
      simp [txtL]
    · rw [if_pos rfl, if_pos rfl, ← hS1, data_app]
      simp [txtL], fun p hp => (by cases hp), rfl, by
    cases en
    · rw [if_neg (by decide), ← hS0, size_app]
      show 1 + N.size ≤ _
      omega
    · rw [if_pos rfl, ← hS1, size_app]
      show 2 + N.size ≤ _
      omega⟩⟩⟩
  clear m0 m1 hS0 hS1
  cases en
  · obtain ⟨S, hS, I0⟩ := ST.out
    rw [if_neg (by decide)] at hS
    subst hS
    have HI0 := Fact.mk I0
    clear I0 ST
    go_enter Tryd.func4, Tryd.ntmps4
    go_wp2_with (first | (go_at_call 12; refine (CP.out _).mono ?_; rintro e w1 ⟨rfl, h9⟩; have h9' := h9.symm; subst h9'; clear h9))
    go_loopw [10, 12] (fun sv iv wx => ∃ (j : Nat) (S : ByteArray) (L : List Pc) (v : Value), sv = .string S ∧ iv = .int .i64 j ∧ j ≤ ln ∧ j ≤ 8 ∧ Fact (TgI w wx false N S L v j)) (fun _ iv _ => 8 - (intOf iv).toNat)
    case atStart => exact ⟨0, S0, [], _, rfl, rfl, Nat.zero_le _, by omega, HI0⟩
    case round =>
      clear HI0
      obtain ⟨j, S, L, v, rfl, rfl, hjl, hj8, HT⟩ := hrel
      obtain ⟨va, vc, hv⟩ := row_slice HT.out.row
      rw [if_neg (by decide)] at hv
      subst hv
      by_cases hgo : j < ln ∧ j < 8
      · obtain ⟨h1, h2⟩ := hgo
        have g1 : (j : Int) < ln := by omega
        have g2 : decide ((j : Int) < ln) = true := decide_eq_true g1
        have g2n : decide (j < ln) = true := decide_eq_true h1
        have g3 : (j : Int) < 8 := by omega
        have g4 : decide ((j : Int) < 8) = true := decide_eq_true g3
        have g4n : decide (j < 8) = true := decide_eq_true h2
        have g5 : (0 : Int) ≤ j := by omega
        have g6 : (j : Int) + 1 ≤ 8 := by omega
        have g7 : (j : Int) ≤ (j : Int) + 1 := by omega
        have g8 : (0 : Int) ≤ (j : Int) + 1 := by omega
        have g9 : ((j : Int) + 1).toNat = j + 1 := by omega
        have hw1 := wz j hj8
        have hw2 : IntKind.i64.wrap ((j : Int) + 1) = (j : Int) + 1 := IntWalk.i64_in _ ⟨by omega, by omega⟩
        obtain ⟨b, o, hla, hbl, hcs⟩ : ∃ b o, la = some ⟨b, o, none⟩ ∧ b < w.heap.size ∧ ∀ i, i < ln → ∃ x : Int, w.cell? ⟨b, o + i, none⟩ = some (.int .i64 x) := by
          rcases HI.out with h | h
          · omega
          · exact h
        obtain ⟨z, hz⟩ := hcs j h1
        have hzr : wr.cell? ⟨b, o + j, none⟩ = some (.int .i64 z) := (HT.out.below.cell (p := ⟨b, o + j, none⟩) hbl).trans hz
        have hzd : wr.drew.cell? ⟨b, o + j, none⟩ = some (.int .i64 z) := hzr
        have hza : ∀ ob, (wr.drew.alloc ob).cell? ⟨b, o + j, none⟩ = some (.int .i64 z) := fun ob => ((bl1 wr.drew ob).cell (p := ⟨b, o + j, none⟩) (Nat.lt_of_lt_of_le hbl HT.out.below.size)).trans hzr
        have hzb : ∀ ob, (wr.alloc ob).drew.cell? ⟨b, o + j, none⟩ = some (.int .i64 z) := fun ob => hza ob
        have hzc : ∀ ob, (wr.alloc ob).cell? ⟨b, o + j, none⟩ = some (.int .i64 z) := fun ob => hza ob
        obtain ⟨p5, hp5, c5⟩ := place_gen z 5 (by decide) (by decide)
        have C5 := Fact.mk c5
        have k1 : (p5 : Int) + 1 ≤ 5 := by omega
        have k2 : (0 : Int) ≤ (p5 : Int) + 1 := by omega
        have k3 : ((p5 : Int) + 1).toNat = p5 + 1 := by omega
        have k4 : IntKind.i64.wrap ((p5 : Int) + 1) = (p5 : Int) + 1 := IntWalk.i64_in _ ⟨by omega, by omega⟩
        have k5 := wz p5 (by omega)
        obtain ⟨Dg, hDg⟩ : ∃ A : ByteArray, (⟨#[48, 49, 50, 51, 52, 53, 54, 55]⟩ : ByteArray).extract j (j + 1) = A := ⟨_, rfl⟩
        obtain ⟨Kn, hKn⟩ : ∃ A : ByteArray, (⟨#[107]⟩ : ByteArray) ++ Dg = A := ⟨_, rfl⟩
        obtain ⟨Vl, hVl⟩ : ∃ A : ByteArray, (⟨#[118, 97, 108, 117, 101]⟩ : ByteArray).extract 0 (p5 + 1) = A := ⟨_, rfl⟩
        have dK : Fact (Kn.data.toList = pnm j) := ⟨by rw [← hKn, data_app, ← hDg, dig_ext h2]; rfl⟩
        have dV : Fact (Vl.data.toList = pvl p5) := ⟨(congrArg (fun x : ByteArray => x.data.toList) hVl).symm.trans (val_ext (lt5 hp5))⟩
        have zD : Dg.size = 1 := by rw [Lib.size_eq, ← hDg, dig_ext h2, List.length_singleton]
        have m2 : (1 : Nat) + Dg.size ≤ 100000000 := by rw [zD]; decide
        have r2 := fun w => add_at ⟨#[107]⟩ Dg Kn hKn m2 w
        subst hla
        clear c5 hcs hz hKn zD m2
        go_wp2_with fail
        go_region_held3 (fun w' => w'.cell? ⟨b, o + j, none⟩ = some (.int .i64 z)) (first | with_reducible exact hzd | with_reducible exact hzr | with_reducible exact hza _ | with_reducible exact hzb _ | with_reducible exact hzc _ | with_reducible assumption | go_keep) (first | (go_at_call 12; refine (C5.out _).mono ?_; rintro e w9 ⟨rfl, rfl⟩))
        all_goals
          clear hzd hza hzb hzc
          have hzx : (wr.alloc (.cells #[.string Kn, .string Vl] 34)).drew.cell? ⟨b, o + j, none⟩ = some (.int .i64 z) := ((bl1 wr _).cell (p := ⟨b, o + j, none⟩) (Nat.lt_of_lt_of_le hbl HT.out.below.size)).trans hzr
          have HX2 := Fact.mk (Two.new wr (.string Kn) (.string Vl) 34)
          obtain ⟨wX, hwX⟩ : ∃ x, wr.alloc (.cells #[.string Kn, .string Vl] 34) = x := ⟨_, rfl⟩
          rw [hwX] at hzx HX2 ⊢
          have IX : Fact (TgI w wX false N S L (.slice va (atL L).length vc) j) := ⟨by rw [← hwX]; exact ⟨HT.out.below.alloc HT.out.below.size _, HT.out.tok.keep (bl1 _ _), own_keep HT.out.row (bl1 _ _), HT.out.txt, HT.out.ok, HT.out.nm, HT.out.sz⟩⟩
          have HXB : Fact (wr.heap.size < wX.heap.size) := ⟨HX2.out.lt⟩
          clear hwX hzr
          go_wp2_with (first | (go_at_call 12; refine (place_ex _ 3 (by decide) (by decide) _).mono ?_; rintro e w9 ⟨p3, hp3, rfl, h9⟩; have h9' := h9.symm; subst h9'; clear h9; have iQ := q_index hp3; obtain ⟨Qt, hQt⟩ : ∃ A : ByteArray, tx (pqu p3) = A := ⟨_, rfl⟩; rw [hQt] at iQ))
          obtain ⟨x0, x1, xz⟩ := HX2.out
          have zK : Kn.size ≤ 10 := szk dK.out
          have zV : Vl.size ≤ 10 := szv dV.out (lt5 hp5)
          have zQ : Qt.size ≤ 10 := szq hQt
          have zS : S.size ≤ 1000 := szs HT.out.sz hj8
          have hzx2 : wX.cell? ⟨b, o + j, none⟩ = some (.int .i64 z) := hzx
          clear hzx
          go_region_held3 (fun w' => w'.cell? ⟨b, o + j, none⟩ = some (.int .i64 z) ∧ w'.cell? ⟨wr.heap.size, 0, none⟩ = some (.string Kn) ∧ w'.cell? ⟨wr.heap.size, 1, none⟩ = some (.string Vl)) (first | exact ⟨hzx2, x0, x1⟩) (first | (go_at_call 12; refine (place_ex _ 4 (by decide) (by decide) _).mono ?_; rintro e w9 ⟨p4, hp4, rfl, h9⟩; have h9' := h9.symm; subst h9'; clear h9; have iG := g_index hp4; obtain ⟨Gp, hGp⟩ : ∃ A : ByteArray, tx (pgp p4) = A := ⟨_, rfl⟩; rw [hGp] at iG; obtain ⟨A1, A2, A3, A4, A5, A6, s1, s2, s3, s4, s5, s6, dA, zA⟩ := six_sums S Gp Kn Qt Vl zS (szg hGp (lt4 hp4)) zK zQ zV))
          all_goals
            have IY := Fact.mk IX.out.drew.drew
            have X2 := Fact.mk (show Two wX.drew.drew wr.heap.size (.string Kn) (.string Vl) from HX2.out.same rfl)
            obtain ⟨wY, hwY⟩ : ∃ x, wX.drew.drew = x := ⟨_, rfl⟩
            rw [hwY] at IY X2 ⊢
            clear hwY x0 x1 xz hzx2 HX2 IX
            have hIr := IY.out.row
            rw [if_neg (by decide)] at hIr
            obtain ⟨v', w4, hap, hrow4, hb4⟩ := append_att (n := pnm j) (u := pvl p5) hIr (lenA IY.out.nm hj8) (Nat.le_of_lt_succ (Nat.succ_lt_succ IY.out.tok.lt))
            have eK : tx (pnm j) = Kn := tx_ext dK.out.symm
            have eV : tx (pvl p5) = Vl := tx_ext dV.out.symm
            rw [eK, eV] at hap
            have IN := Fact.mk (tg_next IY.out h2 (lt4 hp4) (lt5 hp5) hGp dK.out hQt dV.out dA zA hrow4 hb4)
            have hv' : ∃ a n c, v' = .slice a n c := (by rcases hrow4.2 with ⟨rfl, _⟩ | ⟨g, cap, cur, rfl, _⟩ <;> exact ⟨_, _, _, rfl⟩)
            obtain ⟨a', n', c', rfl⟩ := hv'
            have HAP := Fact.mk hap
            have F4 : Five w4 w.heap.size _ _ _ _ _ := IY.out.tok.same (hb4.block _ (Nat.lt_succ_self _))
            obtain ⟨y0, y1, yz⟩ := X2.out
            obtain ⟨t0, t1, t2, t3, t4, tz⟩ := IY.out.tok
            obtain ⟨f0, f1, f2, f3, f4, fz⟩ := F4
            clear hap hrow4 hb4 hIr eK eV dA zA s1 s2 s3 s4 s5 s6 iG iQ
            go_wp2_with (at_builtin; refine wpList_append_said _ rfl (.tmp 85) (.tmp 87) 23 rfl 23 rfl _ _ rfl rfl HAP.out ?_; clear HAP)
            go_roundw
            case rel => exact ⟨j + 1, A6, _, _, rfl, by (first | exact int_eq rfl | exact int_eq hw1), h1, h2, IN⟩
            case measure => (try rw [hw1]); simp only [intOf]; omega
      · by_cases h1 : j < ln
        · have h2 : ¬ j < 8 := fun h => hgo ⟨h1, h⟩
          have g1 : (j : Int) < ln := Int.ofNat_lt.2 h1
          have g2 : decide ((j : Int) < ln) = true := decide_eq_true g1
          have g2n : decide (j < ln) = true := decide_eq_true h1
          have g3 : (8 : Int) ≤ j := by omega
          have g4 : decide ((j : Int) < 8) = false := decide_eq_false (by omega)
          have g4n : decide (j < 8) = false := decide_eq_false h2
          have hz0 := szs HT.out.sz hj8
          obtain ⟨SB, hSB⟩ : ∃ A : ByteArray, S ++ (⟨#[32, 62, 98]⟩ : ByteArray) = A := ⟨_, rfl⟩
          have m9 : S.size + 3 ≤ 100000000 := Nat.le_trans (Nat.add_le_add_right hz0 3) (by decide)
          have r9 := fun w => add_at S ⟨#[32, 62, 98]⟩ SB hSB m9 w
          have hcl := tg_calls (SB := SB) HT.out N1.out.1 hj8 (by rw [← hSB, data_app])
          rw [if_neg (by decide), if_neg (by decide)] at hcl
          have K1 := Fact.mk hcl.1
          have K2 := Fact.mk hcl.2
          have hRw := HT.out.row
          rw [if_neg (by decide)] at hRw
          obtain ⟨vb, vd, hv9, hLs⟩ := row_lies hRw
          have HLs := Fact.mk hLs
          have e9 : va = vb ∧ vc = vd := slice_inj hv9
          obtain ⟨rfl, rfl⟩ := e9
          have ww := w2z S.size hz0
          have yy : (((S.size : Int) + 2) == ((S.size : Int) + 2)) = true := beq_self_eq_true _
          have tok1 : True := trivial
          have HTK := Fact.mk HT.out.tok
          have HTB := Fact.mk HT.out.below
          have HLN := Fact.mk (lenB HT.out.nm hj8)
          clear hcl hRw hLs hv9 m9 hSB r0 r1 iN
          go_wp2_with (first
            | (have _t := tok1; go_at_call 10; refine (K1.out _ (HL.out.since HTB.out)).mono ?_; intro e w2 h1; obtain ⟨uv, rfl, hrow, hb1⟩ := h1; obtain ⟨ua, uc, rfl, hl1⟩ := row_lies hrow; have HB1 := Fact.mk (HTB.out.trans (hb1.mono HTB.out.size)); have G1 := Fact.mk (HTK.out.keep hb1); have L1 := Fact.mk hl1; have L2 := Fact.mk (HLs.out.keep hb1); clear hrow hl1 hb1 tok1 _t)
            | (go_at_call 10; refine (K2.out _ (HL.out.since (HB1.out.alloc HB1.out.size _))).mono ?_; intro e w3 h1; obtain ⟨xa, xc, rfl, hb3⟩ := h1.same rfl; have HB3 := Fact.mk ((HB1.out.alloc HB1.out.size _).trans (hb3.mono (HB1.out.alloc HB1.out.size _).size)); have T3 := (Five.new w2 _ _ _ _ _ _).keep hb3; have G3 := (G1.out.keep (bl1 _ _)).keep hb3; have L3 := Fact.mk ((L1.out.keep (bl1 _ _)).keep hb3); have L4 := Fact.mk ((L2.out.keep (bl1 _ _)).keep hb3); have q3 := T3.lt; have q4 := G3.lt; obtain ⟨c0, c1, c2, c3, c4, cz⟩ := T3; obtain ⟨d0, d1, d2, d3, d4, dz⟩ := G3; clear h1 hb3)
            | (go_at_call 11; refine (sameToken_eq 1 N ⟨#[]⟩ false (atL L) _ _ _ _ _ rfl HLN.out _ (L3.out.keep (bl1 _ _)) (L4.out.keep (bl1 _ _))).mono ?_; rintro e w5 ⟨rfl, hb5⟩; have HB5 := Fact.mk ((HB3.out.alloc HB3.out.size _).trans (hb5.mono (HB3.out.alloc HB3.out.size _).size)); clear hb5)
            | (go_at_call 9; refine (awake10_true _ (HL.out.since HB5.out)).mono ?_; rintro e w8 ⟨rfl, hb8⟩; have HB8 := Fact.mk (HB5.out.trans (hb8.mono HB5.out.size)); clear hb8))
          go_ret
          exact ⟨rfl, HB8.out⟩
        · have g1 : (ln : Int) ≤ j := by omega
          have g2 : decide ((j : Int) < ln) = false := decide_eq_false (by omega)
          have g2n : decide (j < ln) = false := decide_eq_false h1
          have hz0 := szs HT.out.sz hj8
          obtain ⟨SB, hSB⟩ : ∃ A : ByteArray, S ++ (⟨#[32, 62, 98]⟩ : ByteArray) = A := ⟨_, rfl⟩
          have m9 : S.size + 3 ≤ 100000000 := Nat.le_trans (Nat.add_le_add_right hz0 3) (by decide)
          have r9 := fun w => add_at S ⟨#[32, 62, 98]⟩ SB hSB m9 w
          have hcl := tg_calls (SB := SB) HT.out N1.out.1 hj8 (by rw [← hSB, data_app])
          rw [if_neg (by decide), if_neg (by decide)] at hcl
          have K1 := Fact.mk hcl.1
          have K2 := Fact.mk hcl.2
          have hRw := HT.out.row
          rw [if_neg (by decide)] at hRw
          obtain ⟨vb, vd, hv9, hLs⟩ := row_lies hRw
          have HLs := Fact.mk hLs
          have e9 : va = vb ∧ vc = vd := slice_inj hv9
          obtain ⟨rfl, rfl⟩ := e9
          have ww := w2z S.size hz0
          have yy : (((S.size : Int) + 2) == ((S.size : Int) + 2)) = true := beq_self_eq_true _
          have tok1 : True := trivial
          have HTK := Fact.mk HT.out.tok
          have HTB := Fact.mk HT.out.below
          have HLN := Fact.mk (lenB HT.out.nm hj8)
          clear hcl hRw hLs hv9 m9 hSB r0 r1 iN
          go_wp2_with (first
            | (have _t := tok1; go_at_call 10; refine (K1.out _ (HL.out.since HTB.out)).mono ?_; intro e w2 h1; obtain ⟨uv, rfl, hrow, hb1⟩ := h1; obtain ⟨ua, uc, rfl, hl1⟩ := row_lies hrow; have HB1 := Fact.mk (HTB.out.trans (hb1.mono HTB.out.size)); have G1 := Fact.mk (HTK.out.keep hb1); have L1 := Fact.mk hl1; have L2 := Fact.mk (HLs.out.keep hb1); clear hrow hl1 hb1 tok1 _t)
            | (go_at_call 10; refine (K2.out _ (HL.out.since (HB1.out.alloc HB1.out.size _))).mono ?_; intro e w3 h1; obtain ⟨xa, xc, rfl, hb3⟩ := h1.same rfl; have HB3 := Fact.mk ((HB1.out.alloc HB1.out.size _).trans (hb3.mono (HB1.out.alloc HB1.out.size _).size)); have T3 := (Five.new w2 _ _ _ _ _ _).keep hb3; have G3 := (G1.out.keep (bl1 _ _)).keep hb3; have L3 := Fact.mk ((L1.out.keep (bl1 _ _)).keep hb3); have L4 := Fact.mk ((L2.out.keep (bl1 _ _)).keep hb3); have q3 := T3.lt; have q4 := G3.lt; obtain ⟨c0, c1, c2, c3, c4, cz⟩ := T3; obtain ⟨d0, d1, d2, d3, d4, dz⟩ := G3; clear h1 hb3)
            | (go_at_call 11; refine (sameToken_eq 1 N ⟨#[]⟩ false (atL L) _ _ _ _ _ rfl HLN.out _ (L3.out.keep (bl1 _ _)) (L4.out.keep (bl1 _ _))).mono ?_; rintro e w5 ⟨rfl, hb5⟩; have HB5 := Fact.mk ((HB3.out.alloc HB3.out.size _).trans (hb5.mono (HB3.out.alloc HB3.out.size _).size)); clear hb5)
            | (go_at_call 9; refine (awake10_true _ (HL.out.since HB5.out)).mono ?_; rintro e w8 ⟨rfl, hb8⟩; have HB8 := Fact.mk (HB5.out.trans (hb8.mono HB5.out.size)); clear hb8))
          go_ret
          exact ⟨rfl, HB8.out⟩
  · obtain ⟨S, hS, I0⟩ := ST.out
    rw [if_pos rfl] at hS
    subst hS
    have HI0 := Fact.mk I0
    clear I0 ST
    go_enter Tryd.func4, Tryd.ntmps4
    go_wp2_with (first | (go_at_call 12; refine (CP.out _).mono ?_; rintro e w1 ⟨rfl, h9⟩; have h9' := h9.symm; subst h9'; clear h9))
    go_loopw [10, 12] (fun sv iv wx => ∃ (j : Nat) (S : ByteArray) (L : List Pc) (v : Value), sv = .string S ∧ iv = .int .i64 j ∧ j ≤ ln ∧ j ≤ 8 ∧ Fact (TgI w wx true N S L v j)) (fun _ iv _ => 8 - (intOf iv).toNat)
    case atStart => exact ⟨0, S1, [], _, rfl, rfl, Nat.zero_le _, by omega, HI0⟩
    case round =>
      clear HI0
      obtain ⟨j, S, L, v, rfl, rfl, hjl, hj8, HT⟩ := hrel
      obtain ⟨va, vc, hv⟩ := row_slice HT.out.row
      rw [if_pos rfl] at hv
      subst hv
      by_cases hgo : j < ln ∧ j < 8
      · obtain ⟨h1, h2⟩ := hgo
        have g1 : (j : Int) < ln := by omega
        have g2 : decide ((j : Int) < ln) = true := decide_eq_true g1
        have g2n : decide (j < ln) = true := decide_eq_true h1
        have g3 : (j : Int) < 8 := by omega
        have g4 : decide ((j : Int) < 8) = true := decide_eq_true g3
        have g4n : decide (j < 8) = true := decide_eq_true h2
        have g5 : (0 : Int) ≤ j := by omega
        have g6 : (j : Int) + 1 ≤ 8 := by omega
        have g7 : (j : Int) ≤ (j : Int) + 1 := by omega
        have g8 : (0 : Int) ≤ (j : Int) + 1 := by omega
        have g9 : ((j : Int) + 1).toNat = j + 1 := by omega
        have hw1 := wz j hj8
        have hw2 : IntKind.i64.wrap ((j : Int) + 1) = (j : Int) + 1 := IntWalk.i64_in _ ⟨by omega, by omega⟩
        obtain ⟨b, o, hla, hbl, hcs⟩ : ∃ b o, la = some ⟨b, o, none⟩ ∧ b < w.heap.size ∧ ∀ i, i < ln → ∃ x : Int, w.cell? ⟨b, o + i, none⟩ = some (.int .i64 x) := by
          rcases HI.out with h | h
          · omega
          · exact h
        obtain ⟨z, hz⟩ := hcs j h1
        have hzr : wr.cell? ⟨b, o + j, none⟩ = some (.int .i64 z) := (HT.out.below.cell (p := ⟨b, o + j, none⟩) hbl).trans hz
        have hzd : wr.drew.cell? ⟨b, o + j, none⟩ = some (.int .i64 z) := hzr
        have hza : ∀ ob, (wr.drew.alloc ob).cell? ⟨b, o + j, none⟩ = some (.int .i64 z) := fun ob => ((bl1 wr.drew ob).cell (p := ⟨b, o + j, none⟩) (Nat.lt_of_lt_of_le hbl HT.out.below.size)).trans hzr
        have hzb : ∀ ob, (wr.alloc ob).drew.cell? ⟨b, o + j, none⟩ = some (.int .i64 z) := fun ob => hza ob
        have hzc : ∀ ob, (wr.alloc ob).cell? ⟨b, o + j, none⟩ = some (.int .i64 z) := fun ob => hza ob
        obtain ⟨p5, hp5, c5⟩ := place_gen z 5 (by decide) (by decide)
        have C5 := Fact.mk c5
        have k1 : (p5 : Int) + 1 ≤ 5 := by omega
        have k2 : (0 : Int) ≤ (p5 : Int) + 1 := by omega
        have k3 : ((p5 : Int) + 1).toNat = p5 + 1 := by omega
        have k4 : IntKind.i64.wrap ((p5 : Int) + 1) = (p5 : Int) + 1 := IntWalk.i64_in _ ⟨by omega, by omega⟩
        have k5 := wz p5 (by omega)
        obtain ⟨Dg, hDg⟩ : ∃ A : ByteArray, (⟨#[48, 49, 50, 51, 52, 53, 54, 55]⟩ : ByteArray).extract j (j + 1) = A := ⟨_, rfl⟩
        obtain ⟨Kn, hKn⟩ : ∃ A : ByteArray, (⟨#[107]⟩ : ByteArray) ++ Dg = A := ⟨_, rfl⟩
        obtain ⟨Vl, hVl⟩ : ∃ A : ByteArray, (⟨#[118, 97, 108, 117, 101]⟩ : ByteArray).extract 0 (p5 + 1) = A := ⟨_, rfl⟩
        have dK : Fact (Kn.data.toList = pnm j) := ⟨by rw [← hKn, data_app, ← hDg, dig_ext h2]; rfl⟩
        have dV : Fact (Vl.data.toList = pvl p5) := ⟨(congrArg (fun x : ByteArray => x.data.toList) hVl).symm.trans (val_ext (lt5 hp5))⟩
        have zD : Dg.size = 1 := by rw [Lib.size_eq, ← hDg, dig_ext h2, List.length_singleton]
        have m2 : (1 : Nat) + Dg.size ≤ 100000000 := by rw [zD]; decide
        have r2 := fun w => add_at ⟨#[107]⟩ Dg Kn hKn m2 w
        subst hla
        clear c5 hcs hz hKn zD m2
        go_wp2_with fail
        go_region_held3 (fun w' => w'.cell? ⟨b, o + j, none⟩ = some (.int .i64 z)) (first | with_reducible exact hzd | with_reducible exact hzr | with_reducible exact hza _ | with_reducible exact hzb _ | with_reducible exact hzc _ | with_reducible assumption | go_keep) (first | (go_at_call 12; refine (C5.out _).mono ?_; rintro e w9 ⟨rfl, rfl⟩))
        all_goals
          clear hzd hza hzb hzc
          have hzx : (wr.alloc (.cells #[.string Kn, .string Vl] 34)).drew.cell? ⟨b, o + j, none⟩ = some (.int .i64 z) := ((bl1 wr _).cell (p := ⟨b, o + j, none⟩) (Nat.lt_of_lt_of_le hbl HT.out.below.size)).trans hzr
          have HX2 := Fact.mk (Two.new wr (.string Kn) (.string Vl) 34)
          obtain ⟨wX, hwX⟩ : ∃ x, wr.alloc (.cells #[.string Kn, .string Vl] 34) = x := ⟨_, rfl⟩
          rw [hwX] at hzx HX2 ⊢
          have IX : Fact (TgI w wX true N S L (.slice va ([] : AL).length vc) j) := ⟨by rw [← hwX]; exact ⟨HT.out.below.alloc HT.out.below.size _, HT.out.tok.keep (bl1 _ _), own_keep HT.out.row (bl1 _ _), HT.out.txt, HT.out.ok, HT.out.nm, HT.out.sz⟩⟩
          have HXB : Fact (wr.heap.size < wX.heap.size) := ⟨HX2.out.lt⟩
          clear hwX hzr
          go_wp2_with (first | (go_at_call 12; refine (place_ex _ 3 (by decide) (by decide) _).mono ?_; rintro e w9 ⟨p3, hp3, rfl, h9⟩; have h9' := h9.symm; subst h9'; clear h9; have iQ := q_index hp3; obtain ⟨Qt, hQt⟩ : ∃ A : ByteArray, tx (pqu p3) = A := ⟨_, rfl⟩; rw [hQt] at iQ))
          obtain ⟨x0, x1, xz⟩ := HX2.out
          have zK : Kn.size ≤ 10 := szk dK.out
          have zV : Vl.size ≤ 10 := szv dV.out (lt5 hp5)
          have zQ : Qt.size ≤ 10 := szq hQt
          have zS : S.size ≤ 1000 := szs HT.out.sz hj8
          have hzx2 : wX.cell? ⟨b, o + j, none⟩ = some (.int .i64 z) := hzx
          clear hzx
          go_region_held3 (fun w' => w'.cell? ⟨b, o + j, none⟩ = some (.int .i64 z) ∧ w'.cell? ⟨wr.heap.size, 0, none⟩ = some (.string Kn) ∧ w'.cell? ⟨wr.heap.size, 1, none⟩ = some (.string Vl)) (first | exact ⟨hzx2, x0, x1⟩) (first | (go_at_call 12; refine (place_ex _ 4 (by decide) (by decide) _).mono ?_; rintro e w9 ⟨p4, hp4, rfl, h9⟩; have h9' := h9.symm; subst h9'; clear h9; have iG := g_index hp4; obtain ⟨Gp, hGp⟩ : ∃ A : ByteArray, tx (pgp p4) = A := ⟨_, rfl⟩; rw [hGp] at iG; obtain ⟨A1, A2, A3, A4, A5, A6, s1, s2, s3, s4, s5, s6, dA, zA⟩ := six_sums S Gp Kn Qt Vl zS (szg hGp (lt4 hp4)) zK zQ zV))
          all_goals
            have IY := Fact.mk IX.out.drew.drew
            have X2 := Fact.mk (show Two wX.drew.drew wr.heap.size (.string Kn) (.string Vl) from HX2.out.same rfl)
            obtain ⟨wY, hwY⟩ : ∃ x, wX.drew.drew = x := ⟨_, rfl⟩
            rw [hwY] at IY X2 ⊢
            clear hwY x0 x1 xz hzx2 HX2 IX
            have IN := Fact.mk (tg_nextE IY.out h2 (lt4 hp4) (lt5 hp5) hGp dK.out hQt dV.out dA zA)
            clear dA zA s1 s2 s3 s4 s5 s6 iG iQ
            go_wp2_with fail
            go_roundw
            case rel => exact ⟨j + 1, A6, _, _, rfl, by (first | exact int_eq rfl | exact int_eq hw1), h1, h2, IN⟩
            case measure => (try rw [hw1]); simp only [intOf]; omega
      · by_cases h1 : j < ln
        · have h2 : ¬ j < 8 := fun h => hgo ⟨h1, h⟩
          have g1 : (j : Int) < ln := Int.ofNat_lt.2 h1
          have g2 : decide ((j : Int) < ln) = true := decide_eq_true g1
          have g2n : decide (j < ln) = true := decide_eq_true h1
          have g3 : (8 : Int) ≤ j := by omega
          have g4 : decide ((j : Int) < 8) = false := decide_eq_false (by omega)
          have g4n : decide (j < 8) = false := decide_eq_false h2
          have hz0 := szs HT.out.sz hj8
          obtain ⟨SB, hSB⟩ : ∃ A : ByteArray, S ++ (⟨#[32, 62, 98]⟩ : ByteArray) = A := ⟨_, rfl⟩
          have m9 : S.size + 3 ≤ 100000000 := Nat.le_trans (Nat.add_le_add_right hz0 3) (by decide)
          have r9 := fun w => add_at S ⟨#[32, 62, 98]⟩ SB hSB m9 w
          have hcl := tg_calls (SB := SB) HT.out N1.out.1 hj8 (by rw [← hSB, data_app])
          rw [if_pos rfl, if_pos rfl] at hcl
          have K1 := Fact.mk hcl.1
          have K2 := Fact.mk hcl.2
          have hRw := HT.out.row
          rw [if_pos rfl] at hRw
          obtain ⟨vb, vd, hv9, hLs⟩ := row_lies hRw
          have HLs := Fact.mk hLs
          have e9 : va = vb ∧ vc = vd := slice_inj hv9
          obtain ⟨rfl, rfl⟩ := e9
          have ww := w2z S.size hz0
          have yy : (((S.size : Int) + 2) == ((S.size : Int) + 2)) = true := beq_self_eq_true _
          have tok1 : True := trivial
          have HTK := Fact.mk HT.out.tok
          have HTB := Fact.mk HT.out.below
          have HLN := Fact.mk (lenB HT.out.nm hj8)
          clear hcl hRw hLs hv9 m9 hSB r0 r1 iN
          go_wp2_with (first
            | (have _t := tok1; go_at_call 10; refine (K1.out _ (HL.out.since HTB.out)).mono ?_; intro e w2 h1; obtain ⟨uv, rfl, hrow, hb1⟩ := h1; obtain ⟨ua, uc, rfl, hl1⟩ := row_lies hrow; have HB1 := Fact.mk (HTB.out.trans (hb1.mono HTB.out.size)); have G1 := Fact.mk (HTK.out.keep hb1); have L1 := Fact.mk hl1; have L2 := Fact.mk (HLs.out.keep hb1); clear hrow hl1 hb1 tok1 _t)
            | (go_at_call 10; refine (K2.out _ (HL.out.since (HB1.out.alloc HB1.out.size _))).mono ?_; intro e w3 h1; obtain ⟨xa, xc, rfl, hb3⟩ := h1.same rfl; have HB3 := Fact.mk ((HB1.out.alloc HB1.out.size _).trans (hb3.mono (HB1.out.alloc HB1.out.size _).size)); have T3 := (Five.new w2 _ _ _ _ _ _).keep hb3; have G3 := (G1.out.keep (bl1 _ _)).keep hb3; have L3 := Fact.mk ((L1.out.keep (bl1 _ _)).keep hb3); have L4 := Fact.mk ((L2.out.keep (bl1 _ _)).keep hb3); have q3 := T3.lt; have q4 := G3.lt; obtain ⟨c0, c1, c2, c3, c4, cz⟩ := T3; obtain ⟨d0, d1, d2, d3, d4, dz⟩ := G3; clear h1 hb3)
            | (go_at_call 11; refine (sameToken_eq 2 N ⟨#[]⟩ false ([] : AL) _ _ _ _ _ rfl (Nat.zero_le _) _ (L3.out.keep (bl1 _ _)) (L4.out.keep (bl1 _ _))).mono ?_; rintro e w5 ⟨rfl, hb5⟩; have HB5 := Fact.mk ((HB3.out.alloc HB3.out.size _).trans (hb5.mono (HB3.out.alloc HB3.out.size _).size)); clear hb5)
            | (go_at_call 9; refine (awake10_true _ (HL.out.since HB5.out)).mono ?_; rintro e w8 ⟨rfl, hb8⟩; have HB8 := Fact.mk (HB5.out.trans (hb8.mono HB5.out.size)); clear hb8))
          go_ret
          exact ⟨rfl, HB8.out⟩
        · have g1 : (ln : Int) ≤ j := by omega
          have g2 : decide ((j : Int) < ln) = false := decide_eq_false (by omega)
          have g2n : decide (j < ln) = false := decide_eq_false h1
          have hz0 := szs HT.out.sz hj8
          obtain ⟨SB, hSB⟩ : ∃ A : ByteArray, S ++ (⟨#[32, 62, 98]⟩ : ByteArray) = A := ⟨_, rfl⟩
          have m9 : S.size + 3 ≤ 100000000 := Nat.le_trans (Nat.add_le_add_right hz0 3) (by decide)
          have r9 := fun w => add_at S ⟨#[32, 62, 98]⟩ SB hSB m9 w
          have hcl := tg_calls (SB := SB) HT.out N1.out.1 hj8 (by rw [← hSB, data_app])
          rw [if_pos rfl, if_pos rfl] at hcl
          have K1 := Fact.mk hcl.1
          have K2 := Fact.mk hcl.2
          have hRw := HT.out.row
          rw [if_pos rfl] at hRw
          obtain ⟨vb, vd, hv9, hLs⟩ := row_lies hRw
          have HLs := Fact.mk hLs
          have e9 : va = vb ∧ vc = vd := slice_inj hv9
          obtain ⟨rfl, rfl⟩ := e9
          have ww := w2z S.size hz0
          have yy : (((S.size : Int) + 2) == ((S.size : Int) + 2)) = true := beq_self_eq_true _
          have tok1 : True := trivial
          have HTK := Fact.mk HT.out.tok
          have HTB := Fact.mk HT.out.below
          have HLN := Fact.mk (lenB HT.out.nm hj8)
          clear hcl hRw hLs hv9 m9 hSB r0 r1 iN
          go_wp2_with (first
            | (have _t := tok1; go_at_call 10; refine (K1.out _ (HL.out.since HTB.out)).mono ?_; intro e w2 h1; obtain ⟨uv, rfl, hrow, hb1⟩ := h1; obtain ⟨ua, uc, rfl, hl1⟩ := row_lies hrow; have HB1 := Fact.mk (HTB.out.trans (hb1.mono HTB.out.size)); have G1 := Fact.mk (HTK.out.keep hb1); have L1 := Fact.mk hl1; have L2 := Fact.mk (HLs.out.keep hb1); clear hrow hl1 hb1 tok1 _t)
            | (go_at_call 10; refine (K2.out _ (HL.out.since (HB1.out.alloc HB1.out.size _))).mono ?_; intro e w3 h1; obtain ⟨xa, xc, rfl, hb3⟩ := h1.same rfl; have HB3 := Fact.mk ((HB1.out.alloc HB1.out.size _).trans (hb3.mono (HB1.out.alloc HB1.out.size _).size)); have T3 := (Five.new w2 _ _ _ _ _ _).keep hb3; have G3 := (G1.out.keep (bl1 _ _)).keep hb3; have L3 := Fact.mk ((L1.out.keep (bl1 _ _)).keep hb3); have L4 := Fact.mk ((L2.out.keep (bl1 _ _)).keep hb3); have q3 := T3.lt; have q4 := G3.lt; obtain ⟨c0, c1, c2, c3, c4, cz⟩ := T3; obtain ⟨d0, d1, d2, d3, d4, dz⟩ := G3; clear h1 hb3)
            | (go_at_call 11; refine (sameToken_eq 2 N ⟨#[]⟩ false ([] : AL) _ _ _ _ _ rfl (Nat.zero_le _) _ (L3.out.keep (bl1 _ _)) (L4.out.keep (bl1 _ _))).mono ?_; rintro e w5 ⟨rfl, hb5⟩; have HB5 := Fact.mk ((HB3.out.alloc HB3.out.size _).trans (hb5.mono (HB3.out.alloc HB3.out.size _).size)); clear hb5)
            | (go_at_call 9; refine (awake10_true _ (HL.out.since HB5.out)).mono ?_; rintro e w8 ⟨rfl, hb8⟩; have HB8 := Fact.mk (HB5.out.trans (hb8.mono HB5.out.size)); clear hb8))
          go_ret
          exact ⟨rfl, HB8.out⟩
end Go.Proofs.YtbhhncdcdmcpfaaDoor
