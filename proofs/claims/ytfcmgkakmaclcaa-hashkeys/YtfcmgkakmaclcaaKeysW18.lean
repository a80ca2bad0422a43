/- HashKeys, walked: a line of elements with so many texts. -/
import Derived.Test.YtfcmgkakmaclcaaHO
import Derived.Test.YtfcmgkakmaclcaaDeep
import Derived.Test.YtfcmgkakmaclcaaRnA
set_option linter.unusedVariables false
set_option linter.unusedSimpArgs false
namespace Go.Proofs.Ytfcmgkakmaclcaa
open Go.Deep (BT)
open Go.RowKit Go.Shelf M
open Bt (mx IsU mx_u ret_int)

theorem and31 (x : Int) : ∃ r : Nat, bits .and .i64 x 31 = r ∧ r < 32 := by
  obtain ⟨y, hy⟩ : ∃ y : BitVec 64, bits .and .i64 x 31 = IntKind.i64.wrap ((y &&& BitVec.ofInt 64 31).toNat : Int) := ⟨_, rfl⟩
  have h2 : (y &&& BitVec.ofInt 64 31).toNat < 32 := by
    rw [BitVec.toNat_and]
    exact Nat.lt_of_le_of_lt Nat.and_le_right (by decide)
  refine ⟨(y &&& BitVec.ofInt 64 31).toNat, ?_, h2⟩
  rw [hy]
  exact wrap_id (by omega) (by omega)
abbrev elX : Nd := ⟨2, ⟨#[120]⟩, ⟨#[]⟩, []⟩
abbrev txT : Nd := ⟨3, ⟨#[]⟩, ⟨#[116]⟩, []⟩
def txR : Nw := ⟨txT, .nil, .slice none 0 0, .slice none 0 0⟩
def lineF (b : Nat) : Nat → M.F
  | 0 => forF (List.replicate b txR)
  | j + 1 => .cons elX (lineF b j) .nil
theorem reps : ∀ b : Nat, (forF (List.replicate b txR)).size = b ∧ (forF (List.replicate b txR)).slots = 0 ∧ (forF (List.replicate b txR)).depth = min b 1
  | 0 => ⟨rfl, rfl, rfl⟩
  | b + 1 => by
    have h := reps b
    have e : forF (List.replicate (b + 1) txR) = .node 0 0 txT .nil (forF (List.replicate b txR)) := rfl
    rw [e, BT.size, BT.slots, BT.depth, h.1, h.2.1, h.2.2, BT.size, BT.slots, BT.depth]
    refine ⟨by omega, rfl, by omega⟩
theorem line_is (b : Nat) : ∀ j, (lineF b j).size = b + j ∧ (lineF b j).slots = 0 ∧ (lineF b j).depth = min b 1 + j
  | 0 => reps b
  | j + 1 => by
    have h := line_is b j
    simp only [lineF, BT.size, BT.slots, BT.depth]
    rw [h.1, h.2.1, h.2.2]
    refine ⟨by omega, rfl, by omega⟩
theorem own_FLs {S : Nat → Prop} {w : World} {base n : Nat} {v : Value} {rs : List Nw} (hS : ∀ g, base ≤ g → S g) (h : w.ownsRow base 25 5 v rs.length (rowF rs)) (ha : AllIn S w rs) : FL S w v (forF rs) := by
  rcases h.2 with ⟨rfl, h0⟩ | ⟨g, cap, cur, rfl, hg, hh, hc1, hc2, hs, ht⟩
  · rw [List.eq_nil_of_length_eq_zero h0]; exact FL.nothing
  · refine ⟨some ⟨g, 0, none⟩, cap, by rw [forF_len], by rw [forF_len]; exact hc1, hc2, .inr ⟨g, 0, rfl, hS g hg, ?_⟩⟩
    have := own_FAt rs (h.cells rfl) ha [] rs rfl
    simpa using this

set_option maxRecDepth 100000 in
set_option maxHeartbeats 8000000 in
theorem hashKeys_walk (x y : Int) (w : World) :
    Calls Try.prog 7 #[.int .i64 x, .int .i64 y] w fun e w' => e = .returned (.bool true) ∧ Below w.heap.size w w' := by
  obtain ⟨a, ha, ha32⟩ := and31 x
  obtain ⟨b, hb, hb32⟩ := and31 y
  go_enter Try.func7, Try.ntmps7
  go_wp2_with fail
  go_loopg [8] b (fun gf iv wr => ∃ (i : Nat) (v : Value), iv = .int .i64 i ∧ i ≤ b ∧ b ≤ i + gf ∧
    Fact (Five wr w.heap.size (.int .i64 2) (.string ⟨#[120]⟩) (.string ⟨#[]⟩) (.slice none 0 0) v ∧ wr.ownsRow (w.heap.size + 1) 25 5 v i (rowF (List.replicate i txR)) ∧ Below w.heap.size w wr))
  case atStart =>
    refine ⟨0, .slice none 0 0, rfl, Nat.zero_le _, by omega, ⟨Five.new w (.int .i64 2) (.string ⟨#[120]⟩) (.string ⟨#[]⟩) (.slice none 0 0) (.slice none 0 0) 25, World.ownsRow_nil _ _ _ _, (Below.refl _ w).alloc (Nat.le_refl _) _⟩⟩
  case round =>
    obtain ⟨i, v, rfl, hi, hfu, hx⟩ := hrel
    obtain ⟨hT, hown, hB⟩ := hx.out
    obtain ⟨c0, c1, c2, c3, c4, hfz⟩ := id hT
    have hTl := hT.lt
    by_cases hlt : i < b
    · obtain ⟨g', rfl⟩ : ∃ g', gk = g' + 1 := ⟨gk - 1, by omega⟩
      obtain ⟨i0, hii, hz0, hz1, hz2⟩ := info_parts infoN
      have hfz4 := hfz 4
      have HT := Fact.mk hT
      have HB := Fact.mk hB
      have HO := Fact.mk hown
      clear hx hT hown hB hfz
      go_wp2_with (at_builtin; refine wpList_append_own _ rfl (.tmp 23) (.tmp 25) 23 rfl (w.heap.size + 1) 25 i0 (.agg #[.int .i64 0, .string ⟨#[]⟩, .string ⟨#[]⟩, .slice none 0 0, .slice none 0 0]) 5 88 Try.underlying23 hii hz0 hz1 hz2 rfl (by decide) v i (rowF (List.replicate i txR)) rfl (HO.out.alloc _) ⟨wr.heap.size, 0, none⟩ 1 1 [.int .i64 3, .string ⟨#[]⟩, .string ⟨#[116]⟩, .slice none 0 0, .slice none 0 0] rfl rfl (cell_five_new _ _ _ _ _ _ _) (by simp [Value.oneCell']) (by unfold maxLen; omega) (by omega) (by simp; omega) ?_; intro v' w1 hown' hgrow _; obtain ⟨g2, cap2, rfl, hg2⟩ := own_succ hown'; have hkT : w1.heap[w.heap.size]? = wr.heap[w.heap.size]? := (hgrow.block _ (by simp; omega) (fun e => by have := (HO.out.alloc (.cells #[.int .i64 3, .string ⟨#[]⟩, .string ⟨#[116]⟩, .slice none 0 0, .slice none 0 0] 25)).lt _ e.symm; omega)).trans (Below.heap_alloc _ _ _ hTl); have HT1 := Fact.mk (HT.out.same hkT); have d4 := HT1.out.c4; have e4 := HT1.out.fz 4)
      have HF : Fact (Five (w1.setCell ⟨w.heap.size, 4, none⟩ (.slice (some ⟨g2, 0, none⟩) (i + 1) cap2)) w.heap.size (.int .i64 2) (.string ⟨#[120]⟩) (.string ⟨#[]⟩) (.slice none 0 0) (.slice (some ⟨g2, 0, none⟩) (i + 1) cap2)) := ⟨HT1.out.put4 _⟩
      have HO2 : Fact ((w1.setCell ⟨w.heap.size, 4, none⟩ (.slice (some ⟨g2, 0, none⟩) (i + 1) cap2)).ownsRow (w.heap.size + 1) 25 5 (.slice (some ⟨g2, 0, none⟩) (i + 1) cap2) (i + 1) (rowF (List.replicate (i + 1) txR))) := ⟨by
        rw [List.replicate_succ', rowF_snoc]
        exact ownsRow_setCell_below hown' (by show w.heap.size < _; omega) _⟩
      have HB2 : Fact (Below w.heap.size w (w1.setCell ⟨w.heap.size, 4, none⟩ (.slice (some ⟨g2, 0, none⟩) (i + 1) cap2))) := ⟨((HB.out.alloc HB.out.size _).grown hgrow (by simp; have := HB.out.size; omega) (fun k e => by have := (HO.out.alloc (.cells #[.int .i64 3, .string ⟨#[]⟩, .string ⟨#[116]⟩, .slice none 0 0, .slice none 0 0] 25)).lt _ e; omega)).setCell (p := ⟨w.heap.size, 4, none⟩) (Nat.le_refl _) _⟩
      go_roundg g'
      case measure => omega
      case rel => exact ⟨i + 1, _, by go_num, by omega, by omega, ⟨HF.out, HO2.out, HB2.out⟩⟩
    · obtain rfl : i = b := by omega
      obtain ⟨ax, cx, rfl⟩ := own_shape hown
      have hfl : FL (fun b => w.heap.size + 1 ≤ b) wr (.slice ax i cx) (lineF i 0) := own_FLs (n := i) (fun g hg => hg) (by rw [List.length_replicate]; exact hown) (fun r hr => by rw [List.eq_of_mem_replicate hr]; exact ⟨AS.nothing, FL.nothing⟩)
      obtain ⟨m, hm⟩ : ∃ m : Nat, min i 1 = m := ⟨_, rfl⟩
      have hmI : min (i : Int) 1 = m := by omega
      have HX := Fact.mk (⟨hT, hfl, hB⟩ : _ ∧ _ ∧ _)
      have hm1 : m ≤ 1 := by omega
      clear hx hT hown hB hfz hfl c0 c1 c2 c3 c4
      go_wp2_with fail
      go_loopg [9, 10] a (fun gf hv iv wr => ∃ (j : Nat) (ad : Option Addr) (l c : Nat), (hv = .int .i64 (m + 1 + j : Nat) ∧ iv = .int .i64 j) ∧ j ≤ a ∧ a ≤ j + gf ∧
        Fact (Five wr w.heap.size (.int .i64 2) (.string ⟨#[120]⟩) (.string ⟨#[]⟩) (.slice none 0 0) (.slice ad l c) ∧ FL (fun b => w.heap.size + 1 ≤ b) wr (.slice ad l c) (lineF i j) ∧ Below w.heap.size w wr))
      case atStart => exact ⟨0, ax, i, cx, ⟨by go_num, rfl⟩, Nat.zero_le _, by omega, HX⟩
      case round =>
        obtain ⟨j, ad, l, c, ⟨rfl, rfl⟩, hj, hfu2, hx⟩ := hrel
        obtain ⟨hT, hfl, hB⟩ := hx.out
        have hTl := hT.lt
        by_cases hlt2 : j < a
        · obtain ⟨W1, hW1⟩ : ∃ W1, wr.alloc (.cells #[.int .i64 2, .string ⟨#[120]⟩, .string ⟨#[]⟩, .slice none 0 0, .slice ad l c] 25) = W1 := ⟨_, rfl⟩
          have hz1 : W1.heap.size = wr.heap.size + 1 := by rw [← hW1]; simp
          have hT1 : Five W1 w.heap.size (.int .i64 2) (.string ⟨#[120]⟩) (.string ⟨#[]⟩) (.slice none 0 0) (.slice ad l c) := hT.same (by rw [← hW1]; exact Below.heap_alloc _ _ _ hTl)
          have hN1 : Five W1 wr.heap.size (.int .i64 2) (.string ⟨#[120]⟩) (.string ⟨#[]⟩) (.slice none 0 0) (.slice ad l c) := by rw [← hW1]; exact Five.new wr _ _ _ _ _ _
          have hfl1 : FL (fun b => w.heap.size + 1 ≤ b) W1 (.slice ad l c) (lineF i j) := hfl.like (fun b _ hz => by rw [← hW1]; exact Below.heap_alloc _ _ _ hz)
          have hB1 : Below w.heap.size w W1 := by rw [← hW1]; exact hB.alloc hB.size _
          have hone : FL (fun b => w.heap.size + 1 ≤ b) W1 (.slice (some ⟨wr.heap.size, 0, none⟩) 1 1) (lineF i (j + 1)) := one_FL (d := elX) hN1 (by show _ ≤ wr.heap.size; omega) AS.nothing hfl1
          have HX := Fact.mk (⟨hT1, hone, hB1⟩ : _ ∧ _ ∧ _)
          obtain ⟨c0, c1, c2, c3, c4, hfz⟩ := hT
          obtain ⟨d0, d1, d2, d3, d4, gfz⟩ := id hT1
          have g0 := gfz 0
          have g1 := gfz 1
          have g2 := gfz 2
          have g3 := gfz 3
          have g4 := gfz 4
          clear hx hfl hB hT1 hN1 hfl1 hB1 hone hfz gfz
          obtain ⟨g', rfl⟩ : ∃ g', gk = g' + 1 := ⟨gk - 1, by omega⟩
          have jI : (j : Int) < a := by omega
          go_wp2_with fail
          obtain ⟨hT1, hone, hB1⟩ := HX.out
          have h5 := five_all hT1 (.int .i64 2) (.string ⟨#[120]⟩) (.string ⟨#[]⟩) (.slice none 0 0) (.slice (some ⟨wr.heap.size, 0, none⟩) 1 1)
          have hoth : ∀ b, b ≠ w.heap.size → _ := fun b hb => five_other W1 w.heap.size hb (.int .i64 2) (.string ⟨#[120]⟩) (.string ⟨#[]⟩) (.slice none 0 0) (.slice (some ⟨wr.heap.size, 0, none⟩) 1 1)
          obtain ⟨W5, hW5⟩ : ∃ W5, ((((W1.setCell ⟨w.heap.size, 0, none⟩ (.int .i64 2)).setCell ⟨w.heap.size, 1, none⟩ (.string ⟨#[120]⟩)).setCell ⟨w.heap.size, 2, none⟩ (.string ⟨#[]⟩)).setCell ⟨w.heap.size, 3, none⟩ (.slice none 0 0)).setCell ⟨w.heap.size, 4, none⟩ (.slice (some ⟨wr.heap.size, 0, none⟩) 1 1) = W5 := ⟨_, rfl⟩
          rw [hW5] at h5
          have hz5 : W5.heap.size = W1.heap.size := by rw [← hW5]; simp [World.setCell]
          have hB5 : Below w.heap.size w W5 := ⟨by rw [← hW5]; exact hB1.os, by rw [← hW5]; exact hB1.tape, by rw [← hW5]; exact hB1.output, by rw [hz5]; exact hB1.size, fun k hk => by rw [← hW5]; exact (hoth k (by omega)).trans (hB1.block k hk)⟩
          have HQ : Fact (Five W5 w.heap.size (.int .i64 2) (.string ⟨#[120]⟩) (.string ⟨#[]⟩) (.slice none 0 0) (.slice (some ⟨wr.heap.size, 0, none⟩) 1 1) ∧ FL (fun b => w.heap.size + 1 ≤ b) W5 (.slice (some ⟨wr.heap.size, 0, none⟩) 1 1) (lineF i (j + 1)) ∧ Below w.heap.size w W5) :=
            ⟨h5, hone.like (fun b hb _ => by have hb' : w.heap.size + 1 ≤ b := hb; rw [← hW5]; exact hoth b (by omega)), hB5⟩
          rw [hW5]
          clear h5 hoth hB5 hT1 hone hB1 HX
          go_roundg g'
          case measure => omega
          case rel => exact ⟨j + 1, some ⟨wr.heap.size, 0, none⟩, 1, 1, ⟨by go_num, by go_num⟩, by omega, by omega, HQ⟩
        · obtain rfl : j = a := by omega
          have jI : ¬ (j : Int) < j := by omega
          obtain ⟨k, hk⟩ : ∃ k, lineF i j = k := ⟨_, rfl⟩
          have hli := line_is i j
          rw [hk] at hfl hli
          obtain ⟨h1, h2, h3⟩ := hli
          obtain ⟨s, hs⟩ : ∃ s : Nat, j + i = s := ⟨_, rfl⟩
          obtain ⟨n, hn⟩ : ∃ n : Nat, s + 1 = n := ⟨_, rfl⟩
          obtain ⟨hh, ehh⟩ : ∃ hh : Nat, m + 1 + j = hh := ⟨_, rfl⟩
          obtain ⟨D, hD⟩ : ∃ D, M.hT elX k = D := ⟨_, rfl⟩
          obtain ⟨Z, hZ⟩ : ∃ Z, (n : Int) * 4294967296 + hh = Z := ⟨_, rfl⟩
          have hks : k.size + 1 = n := by omega
          have hkz : ks k = Z := by rw [← hZ]; unfold ks; rw [h3, h1]; omega
          have hlim : Lim elX k := ⟨by omega, by omega, by rw [h2]; show 0 + 0 ≤ 1000000; omega⟩
          have hlen : k.len = l := by obtain ⟨a', c', e, _⟩ := hfl; cases e; rfl
          have hlies : Lies wr.heap.size wr elX k (.slice none 0 0) (.slice ad l c) := ⟨AS.nothing, hfl.here⟩
          have HKEY : Fact (∀ w', Below wr.heap.size wr w' → Calls Try.prog 18 #[.agg #[.int .i64 2, .string ⟨#[120]⟩, .string ⟨#[]⟩, .slice none 0 0, .slice ad l c]] w' fun e w2 => e = .returned (.agg #[.int .u64 D, .int .u64 Z]) ∧ Below w'.heap.size w' w2) := ⟨fun w' hb => by
            have := hkey_any elX k (.slice none 0 0) (.slice ad l c) w' hlim ((hlies.below hb).here hb.size)
            rw [hD, hkz] at this
            exact this⟩
          have HOF : Fact (∀ w', Below wr.heap.size wr w' → Calls Try.prog 16 #[.agg #[.int .i64 2, .string ⟨#[120]⟩, .string ⟨#[]⟩, .slice none 0 0, .slice ad l c]] w' fun e w2 => e = .returned (.int .u64 D) ∧ Below w'.heap.size w' w2) := ⟨fun w' hb => by
            have := hof_any elX k (.slice none 0 0) (.slice ad l c) w' hlim ((hlies.below hb).here hb.size)
            rw [hD] at this
            exact this⟩
          have HALL : Fact (∀ w', Below wr.heap.size wr w' → Calls Try.prog 12 #[.agg #[.int .i64 2, .string ⟨#[120]⟩, .string ⟨#[]⟩, .slice none 0 0, .slice ad l c]] w' fun e w2 => ∃ g, e = .returned (.slice (some ⟨g, 0, none⟩) n n) ∧ Below w'.heap.size w' w2) := ⟨fun w' hb => by
            refine (hall_any elX k (.slice none 0 0) (.slice ad l c) n w' hks hlim ((hlies.below hb).here hb.size)).mono ?_
            rintro e w2 ⟨g, rfl, hb2, _⟩
            exact ⟨g, rfl, hb2⟩⟩
          have ew1 : IntKind.i64.wrap ((j : Int) + (i : Int)) = (s : Int) := by rw [wrap_id (by omega) (by omega)]; omega
          have ew2 : IntKind.i64.wrap ((s : Int) + 1) = (n : Int) := by rw [wrap_id (by omega) (by omega)]; omega
          have ew3 : IntKind.u64.wrap (n : Int) = n := by rw [IntKind.wrap_u64]; omega
          have ew4 : IntKind.u64.wrap ((n : Int) * 4294967296) = (n : Int) * 4294967296 := by rw [IntKind.wrap_u64]; omega
          have ew5 : IntKind.u64.wrap (hh : Int) = hh := by rw [IntKind.wrap_u64]; omega
          have ew6 : IntKind.u64.wrap ((n : Int) * 4294967296 + hh) = Z := by rw [← hZ, IntKind.wrap_u64]; omega
          have ehI : ((m : Int) + 1 + j) = hh := by omega
          obtain ⟨c0, c1, c2, c3, c4, hfz⟩ := id hT
          have HT := Fact.mk hT
          have HB := Fact.mk hB
          rw [ehh]
          clear hx hT hfl hB hfz hk h1 h2 h3 hs hn hD hZ hks hkz hlim hlen hlies ehh HX
          go_upto_region 14 with (go_at_call 18; refine (HKEY.out _ (Below.refl _ _)).mono ?_; rintro e w8 ⟨rfl, hb8⟩)
          obtain ⟨W9, hW9⟩ : ∃ W9, w8.alloc (.cells #[.int .u64 D, .int .u64 Z] 35) = W9 := ⟨_, rfl⟩
          have hb9 : Below wr.heap.size wr W9 := by rw [← hW9]; exact hb8.alloc hb8.size _
          have q0 : W9.cell? ⟨w8.heap.size, 0, none⟩ = some (.int .u64 D) := by rw [← hW9]; exact World.cell?_alloc_new w8 _ _ 0
          have q1 : W9.cell? ⟨w8.heap.size, 1, none⟩ = some (.int .u64 Z) := by rw [← hW9]; exact World.cell?_alloc_new w8 _ _ 1
          have hTl : w.heap.size < wr.heap.size := HT.out.lt
          have HSK : Fact (∀ w', Below W9.heap.size W9.drew w' → (Below wr.heap.size wr w' ∧ (w'.cell? ⟨w.heap.size, 0, none⟩ = some (.int .i64 2) ∧ w'.cell? ⟨w.heap.size, 1, none⟩ = some (.string ⟨#[120]⟩) ∧ w'.cell? ⟨w.heap.size, 2, none⟩ = some (.string ⟨#[]⟩) ∧ w'.cell? ⟨w.heap.size, 3, none⟩ = some (.slice none 0 0) ∧ w'.cell? ⟨w.heap.size, 4, none⟩ = some (.slice ad l c) ∧ w'.cell? ⟨w8.heap.size, 0, none⟩ = some (.int .u64 D) ∧ w'.cell? ⟨w8.heap.size, 1, none⟩ = some (.int .u64 Z)))) := ⟨fun w' hb => by
            have hb' : Below W9.heap.size W9 w' := ⟨hb.os, hb.tape, hb.output, hb.size, hb.block⟩
            have hbr := hb9.trans (hb'.mono hb9.size)
            refine ⟨hbr, (hbr.cell (p := ⟨w.heap.size, 0, none⟩) hTl).trans c0, (hbr.cell (p := ⟨w.heap.size, 1, none⟩) hTl).trans c1, (hbr.cell (p := ⟨w.heap.size, 2, none⟩) hTl).trans c2, (hbr.cell (p := ⟨w.heap.size, 3, none⟩) hTl).trans c3, (hbr.cell (p := ⟨w.heap.size, 4, none⟩) hTl).trans c4, (hb'.cell (p := ⟨w8.heap.size, 0, none⟩) (World.block_lt_of_cell? W9 _ q0)).trans q0, (hb'.cell (p := ⟨w8.heap.size, 1, none⟩) (World.block_lt_of_cell? W9 _ q1)).trans q1⟩⟩
          have HW9 := Fact.mk hW9
          have hS0 := HSK.out W9.drew (Below.refl _ _)
          clear c0 c1 c2 c3 c4 hb9 hb8 hTl hW9 q0 q1
          rw [HW9.out]
          go_region_held3 (fun w' => Below wr.heap.size wr w' ∧ (w'.cell? ⟨w.heap.size, 0, none⟩ = some (.int .i64 2) ∧ w'.cell? ⟨w.heap.size, 1, none⟩ = some (.string ⟨#[120]⟩) ∧ w'.cell? ⟨w.heap.size, 2, none⟩ = some (.string ⟨#[]⟩) ∧ w'.cell? ⟨w.heap.size, 3, none⟩ = some (.slice none 0 0) ∧ w'.cell? ⟨w.heap.size, 4, none⟩ = some (.slice ad l c) ∧ w'.cell? ⟨w8.heap.size, 0, none⟩ = some (.int .u64 D) ∧ w'.cell? ⟨w8.heap.size, 1, none⟩ = some (.int .u64 Z)))
            (first | with_reducible exact hS0 | with_reducible assumption)
            (first
              | (go_at_call 16; refine (HOF.out _ hS0.1).mono ?_; rintro e wA ⟨rfl, hbA⟩; have hSA := HSK.out _ hbA)
              | (go_at_call 12; refine (HALL.out _ hSA.1).mono ?_; rintro e wB ⟨gB, rfl, hbB⟩; have hSB := HSK.out _ (hbA.trans (hbB.mono hbA.size)))
              | (go_at_call 10; refine (awake18_true _).mono ?_; rintro e wC ⟨rfl, hbC⟩; have hSC := HSK.out _ ((hbA.trans (hbB.mono hbA.size)).trans (hbC.mono (Nat.le_trans hbA.size hbB.size)))))
          go_wp2_with fail
          go_ret
          exact ⟨rfl, HB.out.trans (hSC.1.mono HB.out.size)⟩
end Go.Proofs.Ytfcmgkakmaclcaa
