/- The document's own Valid and Clean answer as the program's. -/
import Derived.Test.YtdniddiaiinggaaDoorVM
import Derived.Test.YtdniddiaiinggaaDoorVX
namespace Go.Proofs.YtdniddiaiinggaaDoor.V4
open Go.RowKit U

theorem next_ex (l : List UInt8) (hl : l ≠ []) : ∃ R K, NextIs l R K ∧ K ≤ 4 := by
  rcases parts l hl with ⟨r, m, hr, el⟩ | hb
  · exact ⟨r, (en r).length, .inr ⟨m, hr, el, rfl⟩, (U.en_len r hr).2⟩
  · exact ⟨0, 0, .inl ⟨hb, rfl, rfl⟩, by omega⟩
theorem next_one (l : List UInt8) (R K R' K' : Nat) (h : NextIs l R K) (h' : NextIs l R' K') : R' = R ∧ K' = K := by
  rcases h with ⟨hb, e1, e2⟩ | ⟨m, hr, el, e⟩
  · rcases h' with ⟨_, e3, e4⟩ | ⟨m', hr', el', e'⟩
    · exact ⟨by rw [e1, e3], by rw [e2, e4]⟩
    · rw [el'] at hb
      exact absurd hb (not_bad R' hr' m')
  · rcases h' with ⟨hb', _, _⟩ | ⟨m', hr', el', e'⟩
    · rw [el] at hb'
      exact absurd hb' (not_bad R hr m)
    · have d1 := dc_en R hr m
      have d2 := dc_en R' hr' m'
      rw [← el] at d1
      rw [← el', d1] at d2
      obtain ⟨hR, hK⟩ := Prod.mk.inj d2
      exact ⟨hR.symm, by omega⟩
theorem next_at (s : ByteArray) (p R K : Nat) (h : p < s.size) (hs : s.size ≤ 20000) (hN : Fact (NextIs (s.data.toList.drop p) R K)) (w : World) :
    Calls Tryd.prog 29 #[.string s, .int .i64 p] w fun e w' => e = .returned (.tuple #[.int .i32 R, .int .i64 K]) ∧ w' = w := by
  refine (next_any s p w h hs).mono ?_
  rintro e w1 ⟨R', K', hN', rfl, rfl⟩
  obtain ⟨e1, e2⟩ := next_one _ R K R' K' hN.out hN'
  rw [e1, e2]
  exact ⟨rfl, rfl⟩

/-- how far the document's Clean has come -/
structure RC (l : List UInt8) (pos : Nat) (S : ByteArray) : Prop where
  all : S.data.toList ++ C false (l.drop pos) = C false l
  len : S.size ≤ 4 * pos
theorem rc_step {l : List UInt8} {pos q : Nat} {S : ByteArray} (h : RC l pos S) (E : ByteArray) (he : C false (l.drop pos) = E.data.toList ++ C false ((l.drop pos).drop q)) (hE : E.size ≤ 4 * q) : RC l (pos + q) (S ++ E) := by
  constructor
  · rw [ByteArray.data_append, Array.toList_append, List.append_assoc, ← List.drop_drop, ← he, h.all]
  · have := h.len
    rw [ByteArray.size_append]
    omega
theorem cut_data (s : ByteArray) (p K : Nat) : (s.extract p (p + K)).data.toList = (s.data.toList.drop p).take K := by
  rw [Lib.extract_data, show p + K - p = K by omega]
theorem cut_size (s : ByteArray) (p K : Nat) : (s.extract p (p + K)).size ≤ 4 * K := by
  rw [Lib.size_eq, cut_data, List.length_take]
  omega
theorem cut_run (s : ByteArray) (p K : Nat) (h : p + K ≤ s.size) (w : World) : (Instr.slice 9 (.string s) (some (.int .i64 (p : Int))) (some (.int .i64 ((p : Int) + (K : Int)))) none).run Tryd.prog w = .ok (.string (s.extract p (p + K))) w := by
  have := run_slice_string (P := Tryd.prog) w 9 s .i64 .i64 (p : Int) ((p : Int) + (K : Int)) Tryd.underlying9 (by omega) (by omega) (by omega)
  rw [show ((p : Int) + (K : Int)).toNat = p + K by omega, show ((p : Int)).toNat = p by omega] at this
  exact this
theorem two_more (s : ByteArray) (pos : Nat) (h : pos + 1 < s.size) : 1 < (s.data.toList.drop pos).length := by
  rw [List.length_drop, ← Lib.size_eq]
  omega

set_option maxRecDepth 20000 in
set_option maxHeartbeats 1000000 in
theorem refClean_any (s : ByteArray) (w : World) (hs : s.size ≤ 20000) : Calls Tryd.prog 17 #[.string s] w fun e w' => e = .returned (.string ⟨(C false s.data.toList).toArray⟩) ∧ w' = w := by
  go_enter Tryd.func17, Tryd.ntmps17
  go_wp2
  go_loop [3, 4] (fun t i => ∃ (pos : Nat) (S : ByteArray), i = .int .i64 pos ∧ t = .string S ∧ pos ≤ s.size ∧ RC s.data.toList pos S) (fun _ i => s.size - (intOf i).toNat)
  case atStart => exact ⟨0, _, rfl, rfl, Nat.zero_le _, ⟨rfl, Nat.le_refl _⟩⟩
  case round =>
    obtain ⟨pos, S, rfl, rfl, hp, hm⟩ := hrel
    have hSl := hm.len
    have HM := Fact.mk hm
    clear hm
    by_cases hlt : pos < s.size
    · obtain ⟨R, K, hN, hK4⟩ := next_ex _ (drop_ne s pos hlt)
      have HN := Fact.mk hN
      have hg0 := g_first s pos hlt
      obtain ⟨x, hx⟩ : ∃ x, (s[pos]'hlt).toNat = x := ⟨_, rfl⟩
      rw [hx] at hg0
      by_cases hK : K = 0
      · subst hK
        obtain ⟨e1, e2⟩ := clean_bad _ _ hN
        have HS := Fact.mk (rc_step (q := 1) HM.out ⟨#[239, 191, 189]⟩ e1 (by decide))
        clear hN e1 e2 hg0
        go_wp2_with (go_at_call 29; refine (next_at s pos R 0 hlt hs HN _).mono ?_; rintro e w1 ⟨rfl, rfl⟩)
        go_round
        case rel => exact ⟨pos + 1, _, by go_num, rfl, by omega, HS.out⟩
        case measure => simp [intOf]; omega
      have hKp := Nat.pos_of_ne_zero hK
      by_cases h0 : x = 0
      · obtain ⟨e1, e2⟩ := clean_zero _ _ _ hKp hN (by omega)
        have HS := Fact.mk (rc_step (q := 1) HM.out ⟨#[239, 191, 189]⟩ e1 (by decide))
        have hKb : ((K : Int) == 0) = false := beq_eq_false_iff_ne.2 (by omega)
        subst h0
        clear hN e1 e2 hg0
        go_wp2_with (go_at_call 29; refine (next_at s pos R K hlt hs HN _).mono ?_; rintro e w1 ⟨rfl, rfl⟩)
        go_round
        case rel => exact ⟨pos + 1, _, by go_num, rfl, by omega, HS.out⟩
        case measure => simp [intOf]; omega
      have hKb : ((K : Int) == 0) = false := beq_eq_false_iff_ne.2 (by omega)
      have hxb : ((x : Int) == 0) = false := beq_eq_false_iff_ne.2 (by omega)
      have hxn : ¬ (x : Int) = 0 := by omega
      by_cases h13 : x = 13
      · by_cases hl1 : pos + 1 < s.size
        · have hg1 := g_more s pos 1 hlt hl1
          obtain ⟨y, hy⟩ : ∃ y, (s[pos + 1]'hl1).toNat = y := ⟨_, rfl⟩
          rw [hy] at hg1
          by_cases h10 : y = 10
          · obtain ⟨e1, e2⟩ := clean_cr2 _ _ _ hKp hN (by omega) (two_more s pos hl1) (by omega)
            have HS := Fact.mk (rc_step (q := 2) HM.out ⟨#[10]⟩ e1 (by decide))
            subst h13
            subst h10
            clear hN e1 e2 hg0 hg1
            go_wp2_with (go_at_call 29; refine (next_at s pos R K hlt hs HN _).mono ?_; rintro e w1 ⟨rfl, rfl⟩)
            go_round
            case rel => exact ⟨pos + 2, _, by go_num, rfl, by omega, HS.out⟩
            case measure => simp [intOf]; omega
          · obtain ⟨e1, e2, e3⟩ := clean_cr1 _ _ _ hKp hN (by omega) (.inr (by omega))
            have HS := Fact.mk (rc_step (q := 1) HM.out ⟨#[10]⟩ e1 (by decide))
            have hyn : ¬ (y : Int) = 10 := by omega
            have hyb : ((y : Int) == 10) = false := beq_eq_false_iff_ne.2 hyn
            subst h13
            subst e3
            clear hN e1 e2 hg0 hg1
            go_wp2_with (go_at_call 29; refine (next_at s pos R 1 hlt hs HN _).mono ?_; rintro e w1 ⟨rfl, rfl⟩)
            go_round
            case rel => exact ⟨pos + 1, _, by go_num, rfl, by omega, HS.out⟩
            case measure => simp [intOf]; omega
        · obtain ⟨e1, e2, e3⟩ := clean_cr1 _ _ _ hKp hN (by omega) (.inl (by rw [List.length_drop, ← Lib.size_eq]; omega))
          have HS := Fact.mk (rc_step (q := 1) HM.out ⟨#[10]⟩ e1 (by decide))
          subst h13
          subst e3
          clear hN e1 e2 hg0
          go_wp2_with (go_at_call 29; refine (next_at s pos R 1 hlt hs HN _).mono ?_; rintro e w1 ⟨rfl, rfl⟩)
          go_round
          case rel => exact ⟨pos + 1, _, by go_num, rfl, by omega, HS.out⟩
          case measure => simp [intOf]; omega
      · obtain ⟨e1, e2⟩ := clean_other _ _ _ hKp hN (by omega) (by omega)
        rw [List.length_drop, ← Lib.size_eq] at e2
        have HS := Fact.mk (rc_step (q := K) HM.out (s.extract pos (pos + K)) (by rw [cut_data]; exact e1) (cut_size s pos K))
        have hsz := cut_size s pos K
        have hsl := fun wx => cut_run s pos K (by omega) wx
        obtain ⟨E, hE⟩ : ∃ E, s.extract pos (pos + K) = E := ⟨_, rfl⟩
        rw [hE] at HS hsz hsl
        clear hE
        have h13n : ¬ (x : Int) = 13 := by omega
        have h13b : ((x : Int) == 13) = false := beq_eq_false_iff_ne.2 h13n
        have hle : pos + K ≤ s.size := by omega
        clear hN e1 e2 hg0
        go_wp2_with (go_at_call 29; refine (next_at s pos R K hlt hs HN _).mono ?_; rintro e w1 ⟨rfl, rfl⟩)
        go_round
        case rel => exact ⟨pos + K, _, by go_num, rfl, by omega, HS.out⟩
        case measure => simp [intOf]; omega
    · have hend := HM.out.all
      rw [drop_end s pos hlt, C_nil, List.append_nil] at hend
      have hE : Fact (S = ⟨(C false s.data.toList).toArray⟩) := ⟨by rw [← hend]⟩
      clear hend
      go_wp2
      go_ret
      exact ⟨ret_str hE.out, rfl⟩
end Go.Proofs.YtdniddiaiinggaaDoor.V4
