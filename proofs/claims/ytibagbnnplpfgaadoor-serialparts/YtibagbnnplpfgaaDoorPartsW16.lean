/- SerialParts, walked: a Root's source is its kids', one behind the other; an element's has them between its tags. -/
import Derived.Test.YtibagbnnplpfgaaDoorTextP
import Derived.Test.YtibagbnnplpfgaaDoorGrown
set_option linter.unusedVariables false
set_option linter.unusedSimpArgs false
namespace Go.Proofs.YtibagbnnplpfgaaDoor
open Go.Deep (BT)
open Go.RowKit M

theorem ext_size (s : ByteArray) (a b : Nat) : (s.extract a b).size ≤ s.size := by
  rw [ByteArray.size_extract]; omega
theorem GNd.okd {d : Nd} {l : Nat} (h : GNd d l) : OKnd d := by
  obtain ⟨K, N, X, A⟩ := d
  rcases h with ⟨h1, h2, ⟨i, hi, h3⟩, h4, _⟩ | ⟨h1, h2, ⟨i, hi, h3⟩, h4, _⟩ | ⟨h1, h2, h3, h4⟩
  · dsimp only at h1 h2 h3 h4
    subst h2 h3 h4
    exact ⟨Nat.le_of_ble_eq_true rfl, Nat.le_of_ble_eq_true rfl, Nat.le_trans (ext_size _ _ _) (by decide), fun p hp => by cases hp⟩
  · dsimp only at h1 h2 h3 h4
    subst h2 h3 h4
    exact ⟨Nat.le_of_ble_eq_true rfl, Nat.le_of_ble_eq_true rfl, Nat.le_trans (ext_size _ _ _) (by decide), fun p hp => by cases hp⟩
  · dsimp only at h1 h2 h3 h4
    subst h3
    have hn : N.size ≤ 200 := by rcases h2 with rfl | rfl | rfl | rfl <;> decide
    have e1 : tNum.size ≤ 6000 := by decide
    have e2 : tUv.size ≤ 6000 := by decide
    have e3 : tId.size ≤ 200 := by decide
    have e4 : tX.size ≤ 200 := by decide
    have one : ∀ m, GAt1 m → m.length ≤ 1 ∧ ∀ p ∈ m, p.1.size ≤ 200 ∧ p.2.size ≤ 6000 := fun m hm => by
      rcases hm with rfl | ⟨i, hi, rfl⟩
      · exact ⟨Nat.zero_le _, fun p hp => by cases hp⟩
      · refine ⟨Nat.le_refl _, fun p hp => ?_⟩
        obtain rfl := List.mem_singleton.1 hp
        exact ⟨e3, Nat.le_trans (ext_size _ _ _) e1⟩
    rcases h4 with h4 | ⟨m, j, hm, hj, rfl⟩
    · obtain ⟨q1, q2⟩ := one _ h4
      exact ⟨by dsimp only; omega, hn, Nat.le_of_ble_eq_true rfl, q2⟩
    · obtain ⟨q1, q2⟩ := one _ hm
      refine ⟨by simp only [List.length_append, List.length_cons, List.length_nil]; omega, hn, Nat.le_of_ble_eq_true rfl, fun p hp => ?_⟩
      rcases List.mem_append.1 hp with hp | hp
      · exact q2 p hp
      · obtain rfl := List.mem_singleton.1 hp
        exact ⟨e4, Nat.le_trans (ext_size _ _ _) e2⟩
theorem gOK.okf : ∀ {k : M.F}, gOK k → allF OKnd k
  | .nil, _ => trivial
  | .node _ _ d k r, h => ⟨h.1.okd, gOK.okf h.2.1, gOK.okf h.2.2⟩
theorem flt_node (raw : Bool) (xb xo : Nat) (d : Nd) (k r : M.F) : fltP (pcs raw (.node xb xo d k r)) = fltP (pcs raw (.cons d k .nil)) ++ fltP (pcs raw r) := by
  rw [pcs, pcs]
  simp only [fltP_append, fltP_cons, pcs, fltP_nil, List.append_nil, List.append_assoc]
theorem src_root (k : M.F) : srcB rootD k = fltP (pcs false k) := by
  have h1 : opn rootD = false := rfl
  have h2 : insK rootD = true := rfl
  have h4 : insR rootD = false := rfl
  have h5 : insE rootD = ⟨#[]⟩ := rfl
  unfold srcB
  rw [pcs, h2, h4, h5]
  simp [begP, pcs, fltP_cons, fltP_nil, fltP_append]
theorem name_four (q : Nat) (hq : q < 4) : ∃ R : ByteArray, Fact (isB R 1 = false) ∧ Fact ((rawN R.data.toList == 2) = false) ∧ R.size ≤ 10 ∧
    ∀ W : World, (Instr.index 34 (.agg #[.string ⟨#[97]⟩, .string ⟨#[100, 105, 118]⟩, .string ⟨#[112]⟩, .string ⟨#[120, 45, 121]⟩]) (.int .i64 q)).run Tryd.prog W = .ok (.string R) W := by
  rcases (by omega : q = 0 ∨ q = 1 ∨ q = 2 ∨ q = 3) with rfl | rfl | rfl | rfl
  · exact ⟨⟨#[97]⟩, ⟨by kernel_rfl⟩, ⟨by kernel_rfl⟩, by decide, fun W => by simp [Instr.index, go_sem]⟩
  · exact ⟨⟨#[100, 105, 118]⟩, ⟨by kernel_rfl⟩, ⟨by kernel_rfl⟩, by decide, fun W => by simp [Instr.index, go_sem]⟩
  · exact ⟨⟨#[112]⟩, ⟨by kernel_rfl⟩, ⟨by kernel_rfl⟩, by decide, fun W => by simp [Instr.index, go_sem]⟩
  · exact ⟨⟨#[120, 45, 121]⟩, ⟨by kernel_rfl⟩, ⟨by kernel_rfl⟩, by decide, fun W => by simp [Instr.index, go_sem]⟩
abbrev atK : List (ByteArray × ByteArray) := [(⟨#[107]⟩, ⟨#[34, 38]⟩)]
theorem esc_at : escS true ⟨#[34, 38]⟩ = ⟨#[38, 113, 117, 111, 116, 59, 38, 97, 109, 112, 59]⟩ := by kernel_rfl
theorem src_u (R : ByteArray) (k : M.F) (hv : isB R 1 = false) (hr : (rawN R.data.toList == 2) = false) :
    srcB ⟨2, R, ⟨#[]⟩, atK⟩ k = [60] ++ R.data.toList ++ [32, 107, 61, 34, 38, 113, 117, 111, 116, 59, 38, 97, 109, 112, 59, 34, 62] ++ fltP (pcs false k) ++ [60, 47] ++ R.data.toList ++ [62] := by
  rw [src_open rfl hv]
  show fltP (tagP _) ++ (fltP (pcs (rawN R.data.toList == 2) _) ++ _) = _
  rw [hr, app_data, app_data]
  simp [tagP, attP, fltP_cons, fltP_nil, esc_at]

set_option maxRecDepth 20000 in
set_option maxHeartbeats 8000000 in
theorem parts_walk (v : Value) (ln : Nat) (z : Int) (w : World) (hl : IsL w.heap.size w v ln) (hm : Met w) :
    Calls Tryd.prog 5 #[v, .int .i64 z] w fun e w' => e = .returned (.bool true) ∧ Below w.heap.size w w' := by
  obtain ⟨va, vc, ev, _⟩ := hl.h
  subst ev
  have HL := Fact.mk hl
  have HM := Fact.mk hm
  clear hl hm
  go_enter Tryd.func5, Tryd.ntmps5
  go_wp2_with fail
  refine (Grown_any _ ln w.heap.size w HL.out (Nat.le_refl _)).mono ?_
  rintro e w1 ⟨k, a2, c2, rfl, hgt, hb1, hfl⟩
  obtain ⟨kl, hkl⟩ : ∃ kl, k.len = kl := ⟨_, rfl⟩
  have hfl0 := hfl.inn.mono (S' := Old w1.heap.size) (fun b hb => hb.2)
  obtain ⟨a3, c3, e3, hc1, hc2, hF⟩ := id hfl0
  cases e3
  rw [hkl] at hfl0 hF hc1 ⊢
  unfold maxLen at hc2
  have hok := hgt.out.ok.okf
  have hmost := hgt.out.most
  have hdeep := hgt.out.deep
  obtain ⟨T, hT⟩ : ∃ T : ByteArray, fltP (pcs false k) = T.data.toList := ⟨⟨(fltP (pcs false k)).toArray⟩, rfl⟩
  have hTz : T.size ≤ 30000000 := by
    have := pcs_len k false hok
    rw [hT, data_len] at this
    omega
  have hm1 : Met w1 := HM.out.below hb1
  have HTR : Fact (TrT w1 1 ⟨#[]⟩ ⟨#[]⟩ [] k (.slice none 0 0) (.slice a2 kl c2) T) := ⟨⟨AS.nothing, hfl0⟩, by omega, by omega, ⟨⟨Nat.le_of_ble_eq_true rfl, Nat.le_of_ble_eq_true rfl, Nat.le_of_ble_eq_true rfl, fun p hp => by cases hp⟩, hok, trivial⟩, by rw [show (⟨1, ⟨#[]⟩, ⟨#[]⟩, []⟩ : Nd) = rootD from rfl, src_root]; exact hT, hm1⟩
  obtain ⟨W1, hW1⟩ : ∃ W1, w1.alloc (.cells #[.int .i64 1, .string ⟨#[]⟩, .string ⟨#[]⟩, .slice none 0 0, .slice a2 kl c2] 25) = W1 := ⟨_, rfl⟩
  have hbW : Below w1.heap.size w1 W1 := by rw [← hW1]; exact (Below.refl _ w1).alloc (Nat.le_refl _) _
  have hzW : W1.heap.size = w1.heap.size + 1 := by rw [← hW1]; simp
  have hbx : ∀ i u, (#[.int .i64 1, .string ⟨#[]⟩, .string ⟨#[]⟩, .slice none 0 0, .slice a2 kl c2] : Array Value)[i]? = some u → W1.cell? ⟨w1.heap.size, i, none⟩ = some u := fun i u h => by
    rw [← hW1]; exact (World.cell?_alloc_new w1 _ _ i).trans h
  obtain ⟨b2, o2, hkd⟩ : ∃ b o, Fact (∀ i, i < kl → a2 = some ⟨b, o, none⟩ ∧ b < w1.heap.size ∧ FAt (Old w1.heap.size) w1 k b o) := by
    rcases hF with h0 | ⟨b, o, ea, hS, hcs⟩
    · exact ⟨0, 0, ⟨fun i hi => by omega⟩⟩
    · exact ⟨b, o, ⟨fun i hi => ⟨ea, hS, hcs⟩⟩⟩
  have hX : ∀ W', Below (w1.heap.size + 1) W1 W' → ∀ i u, (#[.int .i64 1, .string ⟨#[]⟩, .string ⟨#[]⟩, .slice none 0 0, .slice a2 kl c2] : Array Value)[i]? = some u → W'.cell? ⟨w1.heap.size, i, none⟩ = some u := fun W' h i u hu => (h.cell (p := ⟨w1.heap.size, i, none⟩) (Nat.lt_succ_self _)).trans (hbx i u hu)
  have HX := Fact.mk hX
  have HB1 := Fact.mk hb1
  have HBW := Fact.mk hbW
  have HW1 := Fact.mk hW1
  have HLK := Fact.mk hkl
  have HT := Fact.mk hT
  have HOK := Fact.mk hok
  have hkl40 : kl ≤ 40 := by rw [← hkl]; have := len_size k; omega
  obtain ⟨q, hq, hq4⟩ := pl_ex z 4 (by decide)
  obtain ⟨R, hRv, hRr, hR10, hidx⟩ := name_four q hq4
  clear hfl hfl0 hF hb1 hbW hW1 hkl hT hok hm1 hX hbx hgt hq4
  go_wp2_with fail
  rw [HW1.out]
  go_wp2_with fail
  go_loopg [6, 7] kl (fun gf sv iv wr => ∃ (i : Nat) (rest : M.F) (S : ByteArray), (sv = .string S ∧ iv = .int .i64 i) ∧ i + rest.len = kl ∧ rest.len ≤ gf ∧
    Fact (Below (w1.heap.size + 1) W1 wr) ∧ Fact ((rest.len = 0 ∨ FAt (Old w1.heap.size) w1 rest b2 (o2 + i * 5)) ∧ rest.size ≤ k.size ∧ rest.depth ≤ k.depth ∧ allF OKnd rest ∧ T.data.toList = S.data.toList ++ fltP (pcs false rest)))
  case atStart =>
    refine ⟨0, k, (⟨#[]⟩ : ByteArray), ⟨rfl, rfl⟩, by rw [HLK.out]; omega, by rw [HLK.out]; omega, ⟨Below.refl _ _⟩, ⟨?_, Nat.le_refl _, Nat.le_refl _, HOK.out, by rw [← HT.out]; rfl⟩⟩
    by_cases h0 : kl = 0
    · left; rw [HLK.out]; exact h0
    · right
      rw [Nat.zero_mul, Nat.add_zero]
      exact (hkd.out 0 (by omega)).2.2
  case round =>
    obtain ⟨i, rest, S, ⟨rfl, rfl⟩, hlen, hfu, hBr, hfx⟩ := hrel
    obtain ⟨x0, x1, x2, x3, x4⟩ : wr.cell? ⟨w1.heap.size, 0, none⟩ = some (.int .i64 1) ∧ wr.cell? ⟨w1.heap.size, 1, none⟩ = some (.string ⟨#[]⟩) ∧ wr.cell? ⟨w1.heap.size, 2, none⟩ = some (.string ⟨#[]⟩) ∧ wr.cell? ⟨w1.heap.size, 3, none⟩ = some (.slice none 0 0) ∧ wr.cell? ⟨w1.heap.size, 4, none⟩ = some (.slice a2 kl c2) := ⟨HX.out _ hBr.out 0 _ rfl, HX.out _ hBr.out 1 _ rfl, HX.out _ hBr.out 2 _ rfl, HX.out _ hBr.out 3 _ rfl, HX.out _ hBr.out 4 _ rfl⟩
    have hsr := hBr.out.size
    cases rest with
    | nil =>
      have hi : i = kl := by have : i + 0 = kl := hlen; omega
      obtain ⟨_, q1, q2, q3, q4⟩ := hfx.out
      obtain rfl : T = S := by
        apply ByteArray.ext
        apply Array.toList_inj.1
        rw [q4]
        exact List.append_nil _
      clear hfx hlen q1 q2 q3 q4 hkd
      subst hi
      obtain ⟨W9, hW9⟩ : ∃ W9, (wr.alloc (.cells #[.string ⟨#[107]⟩, .string ⟨#[34, 38]⟩] 37)).alloc (.cells #[.int .i64 2, .string R, .string ⟨#[]⟩, .slice (some ⟨wr.heap.size, 0, none⟩) 1 1, .slice a2 i c2] 25) = W9 := ⟨_, rfl⟩
      have hb9 : Below wr.heap.size wr W9 := by rw [← hW9]; exact ((Below.refl _ wr).alloc (Nat.le_refl _) _).alloc (by simp) _
      have hz9 : W9.heap.size = wr.heap.size + 2 := by rw [← hW9]; simp
      have hbr9 : Below (w1.heap.size + 1) W1 W9 := hBr.out.trans (hb9.mono (by omega))
      have hb19 : Below w1.heap.size w1 W9 := HBW.out.trans (hbr9.mono (by omega))
      have hu : ∀ j u, (#[.int .i64 2, .string R, .string ⟨#[]⟩, .slice (some ⟨wr.heap.size, 0, none⟩) 1 1, .slice a2 i c2] : Array Value)[j]? = some u → W9.cell? ⟨wr.heap.size + 1, j, none⟩ = some u := fun j u h => by
        have h9 := World.cell?_alloc_new (wr.alloc (.cells #[.string ⟨#[107]⟩, .string ⟨#[34, 38]⟩] 37)) #[.int .i64 2, .string R, .string ⟨#[]⟩, .slice (some ⟨wr.heap.size, 0, none⟩) 1 1, .slice a2 i c2] 25 j
        rw [hW9, World.size_alloc] at h9
        exact h9.trans h
      have hat : ∀ j u, (#[.string ⟨#[107]⟩, .string ⟨#[34, 38]⟩] : Array Value)[j]? = some u → W9.cell? ⟨wr.heap.size, j, none⟩ = some u := fun j u h => by
        rw [← hW9, World.cell?_alloc_lt _ _ _ (by simp)]; exact (World.cell?_alloc_new wr _ _ j).trans h
      obtain ⟨B1, hB1, zB1, dB1⟩ := cat ⟨#[60]⟩ R
      obtain ⟨B2, hB2, zB2, dB2⟩ := cat B1 ⟨#[32, 107, 61, 34, 38, 113, 117, 111, 116, 59, 38, 97, 109, 112, 59, 34, 62]⟩
      obtain ⟨B3, hB3, zB3, dB3⟩ := cat B2 T
      obtain ⟨B4, hB4, zB4, dB4⟩ := cat B3 ⟨#[60, 47]⟩
      obtain ⟨B5, hB5, zB5, dB5⟩ := cat B4 R
      obtain ⟨U, hB6, zB6, dB6⟩ := cat B5 ⟨#[62]⟩
      have y3 : (⟨#[60]⟩ : ByteArray).size = 1 := rfl
      have y4 : (⟨#[62]⟩ : ByteArray).size = 1 := rfl
      have y5 : (⟨#[60, 47]⟩ : ByteArray).size = 2 := rfl
      have y6 : (⟨#[32, 107, 61, 34, 38, 113, 117, 111, 116, 59, 38, 97, 109, 112, 59, 34, 62]⟩ : ByteArray).size = 17 := rfl
      have r1 := fun w => add_at _ _ _ hB1 (by omega) w
      have r2 := fun w => add_at _ _ _ hB2 (by omega) w
      have r3 := fun w => add_at _ _ _ hB3 (by omega) w
      have r4 := fun w => add_at _ _ _ hB4 (by omega) w
      have r5 := fun w => add_at _ _ _ hB5 (by omega) w
      have r6 := fun w => add_at _ _ _ hB6 (by omega) w
      have HTU : Fact (TrT W9 2 R ⟨#[]⟩ atK k (.slice (some ⟨wr.heap.size, 0, none⟩) 1 1) (.slice a2 i c2) U) := ⟨by
        refine ⟨⟨⟨_, _, rfl, Nat.le_refl _, by unfold maxLen; omega, .inr ⟨wr.heap.size, 0, rfl, by show wr.heap.size < _; omega, fun j hj => ?_⟩⟩, ((HTR.out.lies.below hb19).here hb19.size).f⟩, HTR.out.deep, HTR.out.size, ⟨⟨Nat.le_of_ble_eq_true rfl, by show R.size ≤ 200; omega, Nat.le_of_ble_eq_true rfl, fun p hp => ?_⟩, HOK.out, trivial⟩, ?_, HTR.out.met.below hb19⟩
        · have hj0 : j = 0 := by simpa using hj
          subst hj0
          exact ⟨hat 0 _ rfl, hat 1 _ rfl⟩
        · obtain rfl := List.mem_singleton.1 hp
          exact ⟨by decide, by decide⟩
        · rw [src_u R k hRv.out hRr.out, HT.out, dB6, dB5, dB4, dB3, dB2, dB1]⟩
      have HS9 : Fact (Below w1.heap.size w1 W9 ∧ True) := ⟨hb19, trivial⟩
      have HU := Fact.mk hu
      have HBR9 := Fact.mk hbr9
      have HW9 := Fact.mk hW9
      have eT : (T.toList == T.toList) = true := beq_self_eq_true _
      have eU : (U.toList == U.toList) = true := beq_self_eq_true _
      have yx4 : (wr.alloc (.cells #[.string ⟨#[107]⟩, .string ⟨#[34, 38]⟩] 37)).cell? ⟨w1.heap.size, 4, none⟩ = some (.slice a2 i c2) := (World.cell?_alloc_lt _ _ _ (by show w1.heap.size < _; omega)).trans x4
      have tok1 : True := trivial
      clear hB1 hB2 hB3 hB4 hB5 hB6 zB1 zB2 zB3 zB4 zB5 zB6 dB1 dB2 dB3 dB4 dB5 dB6 y3 y4 y5 y6 hb9 hbr9 hb19 hu hat hW9 hR10
      have zx0 : ((wr.alloc (.cells #[.string ⟨#[107]⟩, .string ⟨#[34, 38]⟩] 37)).alloc (.cells #[.int .i64 2, .string R, .string ⟨#[]⟩, .slice (some ⟨wr.heap.size, 0, none⟩) 1 1, .slice a2 i c2] 25)).cell? ⟨w1.heap.size, 0, none⟩ = some (.int .i64 1) := by rw [HW9.out]; exact HX.out _ HBR9.out 0 _ rfl
      have zx1 : ((wr.alloc (.cells #[.string ⟨#[107]⟩, .string ⟨#[34, 38]⟩] 37)).alloc (.cells #[.int .i64 2, .string R, .string ⟨#[]⟩, .slice (some ⟨wr.heap.size, 0, none⟩) 1 1, .slice a2 i c2] 25)).cell? ⟨w1.heap.size, 1, none⟩ = some (.string ⟨#[]⟩) := by rw [HW9.out]; exact HX.out _ HBR9.out 1 _ rfl
      have zx2 : ((wr.alloc (.cells #[.string ⟨#[107]⟩, .string ⟨#[34, 38]⟩] 37)).alloc (.cells #[.int .i64 2, .string R, .string ⟨#[]⟩, .slice (some ⟨wr.heap.size, 0, none⟩) 1 1, .slice a2 i c2] 25)).cell? ⟨w1.heap.size, 2, none⟩ = some (.string ⟨#[]⟩) := by rw [HW9.out]; exact HX.out _ HBR9.out 2 _ rfl
      have zx3 : ((wr.alloc (.cells #[.string ⟨#[107]⟩, .string ⟨#[34, 38]⟩] 37)).alloc (.cells #[.int .i64 2, .string R, .string ⟨#[]⟩, .slice (some ⟨wr.heap.size, 0, none⟩) 1 1, .slice a2 i c2] 25)).cell? ⟨w1.heap.size, 3, none⟩ = some (.slice none 0 0) := by rw [HW9.out]; exact HX.out _ HBR9.out 3 _ rfl
      have zx4 : ((wr.alloc (.cells #[.string ⟨#[107]⟩, .string ⟨#[34, 38]⟩] 37)).alloc (.cells #[.int .i64 2, .string R, .string ⟨#[]⟩, .slice (some ⟨wr.heap.size, 0, none⟩) 1 1, .slice a2 i c2] 25)).cell? ⟨w1.heap.size, 4, none⟩ = some (.slice a2 i c2) := by rw [HW9.out]; exact HX.out _ HBR9.out 4 _ rfl
      go_wp2_with (go_at_call 20; refine (place_at z 4 q hq _ (by decide) (by decide)).mono ?_; rintro e w4 ⟨rfl, hw4⟩; have hw5 := hw4.symm; subst hw5; clear hw4)
      rw [HW9.out]
      clear zx0 zx1 zx2 zx3 zx4 x0 x1 x2 x3 x4 yx4
      go_wp2_with (first
        | (go_at_call 13; have _t := tok1; with_reducible refine (text_l HTR.out HS9.out).mono ?_; rintro e w5 ⟨rfl, hb5⟩; clear tok1 _t; have HL5 : Fact (Below W9.heap.size W9 w5 ∧ True) := ⟨hb5, trivial⟩; have u0 := (hb5.cell (p := ⟨wr.heap.size + 1, 0, none⟩) (by show wr.heap.size + 1 < _; omega)).trans (HU.out 0 _ rfl); have u1 := (hb5.cell (p := ⟨wr.heap.size + 1, 1, none⟩) (by show wr.heap.size + 1 < _; omega)).trans (HU.out 1 _ rfl); have u2 := (hb5.cell (p := ⟨wr.heap.size + 1, 2, none⟩) (by show wr.heap.size + 1 < _; omega)).trans (HU.out 2 _ rfl); have u3 := (hb5.cell (p := ⟨wr.heap.size + 1, 3, none⟩) (by show wr.heap.size + 1 < _; omega)).trans (HU.out 3 _ rfl); have u4 := (hb5.cell (p := ⟨wr.heap.size + 1, 4, none⟩) (by show wr.heap.size + 1 < _; omega)).trans (HU.out 4 _ rfl); clear hb5)
        | (go_at_call 13; with_reducible refine (text_l HTU.out HL5.out).mono ?_; rintro e w6 ⟨rfl, hb6⟩; have HL6 : Fact (Below (w1.heap.size + 1) W1 w6) := ⟨(HBR9.out.trans (HL5.out.1.mono (by omega))).trans (hb6.mono (by have := HL5.out.1.size; omega))⟩; have HS6 : Fact (Below w1.heap.size w1 w6 ∧ True) := ⟨HBW.out.trans (HL6.out.mono (by omega)), trivial⟩; obtain ⟨v0, v1, v2, v3, v4⟩ : w6.cell? ⟨w1.heap.size, 0, none⟩ = some (.int .i64 1) ∧ w6.cell? ⟨w1.heap.size, 1, none⟩ = some (.string ⟨#[]⟩) ∧ w6.cell? ⟨w1.heap.size, 2, none⟩ = some (.string ⟨#[]⟩) ∧ w6.cell? ⟨w1.heap.size, 3, none⟩ = some (.slice none 0 0) ∧ w6.cell? ⟨w1.heap.size, 4, none⟩ = some (.slice a2 i c2) := ⟨HX.out _ HL6.out 0 _ rfl, HX.out _ HL6.out 1 _ rfl, HX.out _ HL6.out 2 _ rfl, HX.out _ HL6.out 3 _ rfl, HX.out _ HL6.out 4 _ rfl⟩; clear hb6)
        | (go_at_call 14; with_reducible refine (len_l HTR.out HS6.out).mono ?_; rintro e w7 ⟨rfl, hb7⟩; have HS7 : Fact (Below w1.heap.size w1 w7) := ⟨HS6.out.1.trans (hb7.mono HS6.out.1.size)⟩; clear hb7)
        | (go_at_call 10; with_reducible refine (awake_l HTR.out.met ⟨HS7.out, trivial⟩).mono ?_; rintro e w8 ⟨rfl, hb8⟩))
      go_ret
      exact ⟨rfl, HB1.out.trans ((HS7.out.trans (hb8.mono HS7.out.size)).mono HB1.out.size)⟩
    | node xb xo d' k' r' =>
      have hlen' : i + (r'.len + 1) = kl := hlen
      have hfu' : r'.len + 1 ≤ gk := hfu
      obtain ⟨g', rfl⟩ : ∃ g', gk = g' + 1 := ⟨gk - 1, by omega⟩
      have hlt2 : i < kl := by omega
      obtain ⟨ea2, hb2, _⟩ := hkd.out i hlt2
      subst ea2
      obtain ⟨hfat, q1, q2, q3, q4⟩ := hfx.out
      have hfat' := hfat.resolve_left (by show ¬ r'.len + 1 = 0; omega)
      obtain ⟨⟨av', ka', kc', e0, e1, e2, e3, e4, hav', h4, h5, hkk⟩, hrr⟩ := hfat'
      have hbw : Below w1.heap.size w1 wr := HBW.out.trans (hBr.out.mono (by omega))
      have hcc : ∀ o, wr.cell? ⟨b2, o, none⟩ = w1.cell? ⟨b2, o, none⟩ := fun o => hbw.cell (p := ⟨b2, o, none⟩) hb2
      have m0 := (hcc _).trans e0
      have m1 := (hcc _).trans e1
      have m2 := (hcc _).trans e2
      have m3 := (hcc _).trans e3
      have m4 := (hcc _).trans e4
      obtain ⟨p1, p2, p3, ep⟩ := hav'.val
      subst ep
      obtain ⟨kl', hkl'⟩ : ∃ l, k'.len = l := ⟨_, rfl⟩
      obtain ⟨K', N', X', A'⟩ := d'
      dsimp only at m0 m1 m2 m3 m4
      obtain ⟨Z, hZ⟩ : ∃ Z : ByteArray, srcB ⟨K', N', X', A'⟩ k' = Z.data.toList := ⟨⟨(srcB ⟨K', N', X', A'⟩ k').toArray⟩, rfl⟩
      have HTK : Fact (TrT w1 K' N' X' A' k' (.slice p1 p2 p3) (.slice ka' k'.len kc') Z) := ⟨⟨hav', ⟨ka', kc', rfl, h4, h5, hkk⟩⟩, by simp only [BT.depth] at q2; omega, by simp only [BT.size] at q1; omega, ⟨q3.1, q3.2.1, trivial⟩, hZ, HTR.out.met⟩
      have hS0 : Below w1.heap.size w1 wr ∧ True := ⟨hbw, trivial⟩
      have HS0 := Fact.mk hS0
      have HR : Fact (FAt (Old w1.heap.size) w1 r' b2 (o2 + (i + 1) * 5)) := ⟨by rw [show o2 + (i + 1) * 5 = o2 + i * 5 + 5 by omega]; exact hrr⟩
      have HZ : Fact (r'.size ≤ k.size ∧ r'.depth ≤ k.depth ∧ allF OKnd r') := ⟨by simp only [BT.size] at q1; omega, by simp only [BT.depth] at q2; omega, q3.2.2⟩
      have HQ : Fact (T.data.toList = S.data.toList ++ (Z.data.toList ++ fltP (pcs false r'))) := ⟨by rw [q4, flt_node, ← hZ]; rfl⟩
      have hsz : S.size + Z.size ≤ 30000000 := by
        have h1 := congrArg List.length HQ.out
        rw [List.length_append, List.length_append, data_len, data_len, data_len] at h1
        omega
      obtain ⟨S2, hS2⟩ : ∃ S2, S ++ Z = S2 := ⟨_, rfl⟩
      have radd := fun w => add_at S Z S2 hS2 (by omega) w
      have HS2 : Fact (S2.data.toList = S.data.toList ++ Z.data.toList) := ⟨by rw [← hS2, app_data]⟩
      rw [hkl'] at m4 HTK
      clear hfx hfat q1 q2 q3 q4 hrr hkk hav' hcc e0 e1 e2 e3 e4 hkd hlen hfu hZ hS0 hbw hS2 hsz
      go_wp2_with (go_at_call 13; with_reducible refine (text_l HTK.out HS0.out).mono ?_; rintro e w3 ⟨rfl, hb3⟩; have HB4 := Fact.mk (hBr.out.trans (hb3.mono (by omega))); clear hb3)
      go_roundg g'
      case measure => omega
      case rel =>
        refine ⟨i + 1, r', S2, ⟨rfl, by go_num⟩, by omega, by omega, HB4, ⟨.inr HR.out, HZ.out.1, HZ.out.2.1, HZ.out.2.2, ?_⟩⟩
        rw [HQ.out, HS2.out, List.append_assoc]
end Go.Proofs.YtibagbnnplpfgaaDoor
