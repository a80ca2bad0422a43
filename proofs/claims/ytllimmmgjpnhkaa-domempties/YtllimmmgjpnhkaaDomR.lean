/- number: a tree's nodes taken in, each with the next number. -/
import Derived.Test.YtllimmmgjpnhkaaDomM
import Derived.Test.YtllimmmgjpnhkaaSmall
import Derived.Deep.LoopGhost
set_option linter.unusedVariables false
set_option linter.unusedSimpArgs false
namespace Go.Proofs.Ytllimmmgjpnhkaa
open Go.Deep (BT)
open Go.RowKit M

/-- the parent that number is told -/
def ParOK (L : List DN) (q : Int) : Prop := q = -1 ∨ ∃ i : Nat, i < L.length ∧ q = i
def DnP (k : M.F) : Prop := ∀ (d : Nd) (av kv : Value) (n : Nat) (w : World) (L : List DN) (B p mb : Nat) (v : Value) (q : Int), Lies n w d k av kv → Arena w B p L v mb → OKP (L.map pn) → n ≤ B → ParOK L q → L.length + (k.size + 1) ≤ 1000 → d.ats.length + k.slots ≤ 100000 →
  Calls Try.prog 37 #[.pointer (some ⟨p, 0, none⟩), nodeV d av kv, .int .i64 q] w fun e w' => e = .returned (.tuple #[]) ∧ ∃ L' v', Arena w' B p L' v' mb ∧ Turns w w' (inA p mb v L) (inA p mb v' L') ∧ L'.map pn = numF k (placeP (L.map pn) d q) L.length

/-- a block that is no arena's stays -/
theorem Turns.cell {w w' : World} {A A' : Nat → Prop} (h : Turns w w' A A') {b o : Nat} {u : Value} (hc : w.cell? ⟨b, o, none⟩ = some u) (hb : ¬ A b) : w'.cell? ⟨b, o, none⟩ = some u :=
  (World.cell?_of_block (w := w) (a := ⟨b, o, none⟩) (h.block b (World.block_lt_of_cell? w _ hc) hb)).trans hc
theorem is64_len {L : List DN} (h : L.length ≤ 1000) : Is64 (L.length : Int) := ⟨by simp [Lit.wf, IntKind.min, IntKind.max, IntKind.signed, IntKind.bits]; omega⟩
theorem is64_nat {i : Nat} (h : i ≤ 1000) : Is64 (i : Int) := ⟨by simp [Lit.wf, IntKind.min, IntKind.max, IntKind.signed, IntKind.bits]; omega⟩

set_option maxRecDepth 20000 in
set_option maxHeartbeats 4000000 in
theorem dn_step (k : M.F) (hH : Hered DnP k) : DnP k := by
  intro d av kv n w L B p mb v q hl hA hok hnB hq hfew hsl
  obtain ⟨Kd, N, X, A⟩ := d
  obtain ⟨a1, c1, rfl, hc1, hm1, hAA⟩ := id hl.a
  obtain ⟨a2, c2, rfl, hc2, hm2, hF⟩ := id hl.f
  dsimp only at hc1 hAA hsl
  unfold maxLen at hm1 hm2
  obtain ⟨kl, hkl⟩ : ∃ kl, k.len = kl := ⟨_, rfl⟩
  have HKL := Fact.mk hkl
  dsimp only
  rw [hkl]
  rw [hkl] at hc2
  have hBw : B ≤ w.heap.size := by have := (Array.getElem?_eq_some_iff.1 hA.box).1; have := hA.at'.1; omega
  -- the box
  obtain ⟨W, hW⟩ : ∃ W, w.alloc (.cells #[.int .i64 Kd, .string N, .string X, .slice a1 A.length c1, .slice a2 kl c2] 25) = W := ⟨_, rfl⟩
  obtain ⟨hz, hbW, hnew⟩ := five_one hW
  have hAW := hA.below hbW (Nat.le_refl _)
  have hlW : Lies n W ⟨Kd, N, X, A⟩ k (.slice a1 A.length c1) (.slice a2 k.len c2) := hl.below (hbW.mono (by omega))
  obtain ⟨x0, x1, x2, x3, x4, _⟩ := five_at hnew
  have HA := Fact.mk hAW
  have HA0 := Fact.mk hA
  have HL := Fact.mk hlW
  have HOK := Fact.mk hok
  have HW := Fact.mk hW
  have HBW := Fact.mk hbW
  have HNEW := Fact.mk hnew
  have HZ := Fact.mk hz
  have HF := Fact.mk hF
  have HH := Fact.mk hH
  have HFEW := Fact.mk hfew
  have HSL := Fact.mk hsl
  have hadd := dadd_any L B p mb v W (L.length : Int) ⟨Kd, N, X, A⟩ (.slice a1 A.length c1) a2 kl c2 hAW (is64_len (by omega)) (pos_none hok) hlW.a.row (by omega) (by show A.length ≤ _; omega)
  have HADD := Fact.mk hadd
  clear hl hA hok hAW hlW hbW hnew hz hadd hF hH hfew hsl
  rcases hq with rfl | ⟨i, hi, rfl⟩
  · go_enter Try.func37, Try.ntmps37
    go_wp2_with fail
    refine (dLen_any L B p mb v W HA.out).mono ?_
    rintro e w9 ⟨rfl, h9⟩
    have h9' := h9.symm
    subst h9'
    clear h9
    go_wp2_with fail
    refine HADD.out.mono ?_
    rintro e w2 ⟨rfl, v2, av2, hA2, hT2⟩
    have hP2 := pn_add L ⟨Kd, N, X, A⟩ av2
    clear HADD hW
    obtain ⟨L2, hL2⟩ : ∃ L2, L ++ [(⟨(L.length : Int), -1, [], ⟨Kd, N, X, A⟩, .slice none 0 0, av2⟩ : DN)] = L2 := ⟨_, rfl⟩
    rw [hL2] at hA2 hT2 hP2
    clear hL2
    have HA2 := Fact.mk hA2
    have HT2 := Fact.mk hT2
    have HP2 : Fact (L2.map pn = placeP (L.map pn) ⟨Kd, N, X, A⟩ (-1)) := ⟨hP2⟩
    have hlen2 : L2.length = L.length + 1 := by
      have h1 := congrArg List.length hP2
      rw [List.length_map, placeP_len, List.length_map] at h1
      exact h1
    have HLEN := Fact.mk hlen2
    have hb0 : ¬ inA p mb v L w.heap.size := fun h1 => by have := HA0.out.lt _ h1; omega
    have y4 : w2.cell? ⟨w.heap.size, 4, none⟩ = some (.slice a2 kl c2) := hT2.cell x4 hb0
    clear hA2 hT2 hP2 hlen2
    obtain ⟨b2, o2, hkd⟩ : ∃ b o, Fact (∀ j, j < kl → a2 = some ⟨b, o, none⟩ ∧ b < n ∧ FAt (Old n) W k b o) := by
      rcases HL.out.f with ⟨a3, c3, e3, _, _, h3⟩
      have e4 : a3 = a2 := by injection e3 with h1; exact h1.symm
      subst e4
      rcases h3 with h0 | ⟨b, o, ea, hS, hcs⟩
      · refine ⟨0, 0, ⟨fun j hj => ?_⟩⟩
        have := HKL.out
        omega
      · exact ⟨b, o, ⟨fun j hj => ⟨ea, hS, hcs⟩⟩⟩
    go_wp2_with fail
    go_loopg [29] kl (fun gf iv wr => ∃ (j : Nat) (rest : M.F) (L3 : List DN) (v3 : Value), iv = .int .i64 j ∧ j + rest.len = kl ∧ rest.len ≤ gf ∧ Fact (Arena wr B p L3 v3 mb ∧ Turns W wr (inA p mb v L) (inA p mb v3 L3) ∧ numF rest (L3.map pn) L.length = numF k (placeP (L.map pn) ⟨Kd, N, X, A⟩ (-1)) L.length ∧ OKP (L3.map pn) ∧ L3.length + rest.size = L.length + 1 + k.size ∧ L.length < L3.length ∧ (rest.len = 0 ∨ FAt (Old n) W rest b2 (o2 + j * 5)) ∧ Hered DnP rest ∧ rest.slots ≤ 100000))
    case atStart =>
      refine ⟨0, k, L2, v2, rfl, by rw [HKL.out]; omega, by rw [HKL.out]; omega, ⟨HA2.out, HT2.out, by rw [HP2.out], by rw [HP2.out]; exact placeP_ok HOK.out _ _, by rw [HLEN.out], by rw [HLEN.out]; omega, ?_, HH.out, by have := HSL.out; omega⟩⟩
      by_cases h0 : kl = 0
      · left; rw [HKL.out]; exact h0
      · right
        rw [Nat.zero_mul, Nat.add_zero]
        exact (hkd.out 0 (by omega)).2.2
    case round =>
      obtain ⟨j, rest, L3, v3, rfl, hlen, hfu, hfx⟩ := hrel
      cases rest with
      | nil =>
        have hj : j = kl := by have : j + 0 = kl := hlen; omega
        obtain ⟨h1, h2, h3, _⟩ := hfx.out
        have HEND : Fact (Arena wr B p L3 v3 mb ∧ Turns w wr (inA p mb v L) (inA p mb v3 L3) ∧ L3.map pn = numF k (placeP (L.map pn) ⟨Kd, N, X, A⟩ (-1)) L.length) := ⟨h1, (Turns.of_below HBW.out).trans h2, h3⟩
        clear hfx h1 h2 h3 hlen
        subst hj
        go_wp2_with fail
        go_end0
        exact ⟨rfl, L3, v3, HEND.out⟩
      | node xb xo d' k' r' =>
        have hlen' : j + (r'.len + 1) = kl := hlen
        have hfu' : r'.len + 1 ≤ gk := hfu
        obtain ⟨g', rfl⟩ : ∃ g', gk = g' + 1 := ⟨gk - 1, by omega⟩
        have hlt2 : j < kl := by omega
        obtain ⟨ea2, hb2, _⟩ := hkd.out j hlt2
        subst ea2
        obtain ⟨h1, h2, h3, h4, h5, h6, hfat, ⟨hP, hHr⟩, hs9⟩ := hfx.out
        have hfat' := hfat.resolve_left (by show ¬ r'.len + 1 = 0; omega)
        obtain ⟨⟨av', ka', kc', e0, e1, e2, e3, e4, hav', q4, q5, hkk⟩, hrr⟩ := hfat'
        have hnA : ¬ inA p mb v L b2 := fun h9 => by have := HA0.out.ge _ h9; omega
        have l0 := h2.cell e0 hnA
        have l1 := h2.cell e1 hnA
        have l2 := h2.cell e2 hnA
        have l3 := h2.cell e3 hnA
        have l4 := h2.cell e4 hnA
        have z4 : wr.cell? ⟨w.heap.size, 4, none⟩ = some (.slice (some ⟨b2, o2, none⟩) kl c2) := h2.cell x4 (fun h9 => by have := HA0.out.lt _ h9; omega)
        have hbr : Below n W wr := h2.below (fun k9 h9 => by have := HA0.out.ge _ h9; omega) (by have := HZ.out; omega)
        obtain ⟨o9, ho9⟩ : ∃ o9, Obj.cells #[.int .i64 d'.k, .string d'.n, .string d'.x, av', .slice ka' k'.len kc'] 25 (0, 0) = o9 := ⟨_, rfl⟩
        have hba : Below wr.heap.size wr (wr.alloc o9) := (Below.refl _ _).alloc (Nat.le_refl _) _
        have hwn : n ≤ wr.heap.size := by have := hbr.size; have := HZ.out; omega
        have hcall := hP d' av' (.slice ka' k'.len kc') n (wr.alloc o9) L3 B p mb v3 (L.length : Int) (Lies.below ⟨hav', ⟨ka', kc', rfl, q4, q5, hkk⟩⟩ (hbr.trans (hba.mono hwn))) (h1.below hba (Nat.le_refl _)) h4 hnB (.inr ⟨L.length, h6, rfl⟩) (by have := HFEW.out; simp only [BT.size] at h5; omega) (by simp only [BT.slots] at hs9; omega)
        have HCALL := Fact.mk hcall
        have HR : Fact ((r'.len = 0 ∨ FAt (Old n) W r' b2 (o2 + (j + 1) * 5)) ∧ Hered DnP r' ∧ r'.slots ≤ 100000 ∧ Turns W (wr.alloc o9) (inA p mb v L) (inA p mb v3 L3) ∧ numF r' (numF k' (placeP (L3.map pn) d' L.length) L3.length) L.length = numF k (placeP (L.map pn) ⟨Kd, N, X, A⟩ (-1)) L.length ∧ OKP (L3.map pn) ∧ L3.length + (1 + k'.size + r'.size) = L.length + 1 + k.size ∧ L.length < L3.length) :=
          ⟨.inr (by rw [show o2 + (j + 1) * 5 = o2 + j * 5 + 5 by omega]; exact hrr), hHr, by simp only [BT.slots] at hs9; omega, h2.trans (Turns.of_below hba), by rw [← h3]; show _ = numF r' (numF k' (placeP (L3.map pn) d' L.length) (L3.map pn).length) L.length; rw [List.length_map], h4, h5, h6⟩
        have m9 : (wr.alloc o9).heap[wr.heap.size]? = some (.cells #[.int .i64 d'.k, .string d'.n, .string d'.x, av', .slice ka' k'.len kc'] 25) := by rw [← ho9]; exact World.alloc_heap_new wr _
        obtain ⟨m0, m1, m2, m3, m4, _⟩ := five_at m9
        obtain ⟨dk, dnn, dx, dats⟩ := d'
        dsimp only at l0 l1 l2 l3 l4 m0 m1 m2 m3 m4 ho9
        obtain ⟨av1, av2, av3, eav, _⟩ : ∃ a1 a2 a3, av' = Value.slice a1 a2 a3 ∧ True := by
          obtain ⟨a, c, e, _⟩ := hav'
          exact ⟨a, _, c, e, trivial⟩
        subst eav
        clear hfx hfat hP hHr h1 h2 h3 h4 h5 h6 hrr hkk hav' hcall e0 e1 e2 e3 e4 hkd hlen hfu hbr hs9 m9
        go_wp2_with fail
        refine HCALL.out.mono ?_
        rintro e w4 ⟨rfl, L4, v4, hA4, hT4, hP4⟩
        have HREL : Fact (Arena w4 B p L4 v4 mb ∧ Turns W w4 (inA p mb v L) (inA p mb v4 L4) ∧ numF r' (L4.map pn) L.length = numF k (placeP (L.map pn) ⟨Kd, N, X, A⟩ (-1)) L.length ∧ OKP (L4.map pn) ∧ L4.length + r'.size = L.length + 1 + k.size ∧ L.length < L4.length ∧ (r'.len = 0 ∨ FAt (Old n) W r' b2 (o2 + (j + 1) * 5)) ∧ Hered DnP r' ∧ r'.slots ≤ 100000) := by
          obtain ⟨g1, g2, g3, g4, g5, g6, g7, g8⟩ := HR.out
          obtain ⟨n1, n2⟩ := numF_ok k' (placeP (L3.map pn) ⟨dk, dnn, dx, dats⟩ L.length) L3.length (placeP_ok g6 _ _)
          have n3 : L4.length = L3.length + 1 + k'.size := by
            have h9 := congrArg List.length hP4
            rw [List.length_map, n2, placeP_len, List.length_map] at h9
            exact h9
          exact ⟨hA4, g4.trans hT4, by rw [hP4]; exact g5, by rw [hP4]; exact n1, by omega, by omega, g1, g2, g3⟩
        clear HCALL HR hA4 hT4 hP4 l0 l1 l2 l3 l4 m0 m1 m2 m3 m4 hba hwn z4 ho9
        go_wp2_with fail
        go_roundg g'
        case measure => omega
        case rel => exact ⟨j + 1, r', L4, v4, by go_num, by omega, by omega, HREL⟩
  · have hy : ∃ y, L[i]? = some y := ⟨_, List.getElem?_eq_getElem hi⟩
    obtain ⟨y, hy⟩ := hy
    have HY := Fact.mk hy
    have hne : ((i : Int) != -1) = true := by rw [bne_iff_ne]; omega
    have hne2 : ((i : Int) == -1) = false := by rw [beq_eq_false_iff_ne]; omega
    clear hy
    go_enter Try.func37, Try.ntmps37
    go_wp2_with fail
    refine (dLen_any L B p mb v W HA.out).mono ?_
    rintro e w9 ⟨rfl, h9⟩
    have h9' := h9.symm
    subst h9'
    clear h9
    go_wp2_with fail
    refine HADD.out.mono ?_
    rintro e w1 ⟨rfl, v1, av2, hA1, hT1⟩
    clear HADD hW
    have hok1 : OKP ((L ++ [(⟨(L.length : Int), -1, [], ⟨Kd, N, X, A⟩, .slice none 0 0, av2⟩ : DN)]).map pn) := by rw [pn_add]; exact placeP_ok HOK.out _ _
    have hy1 : (L ++ [(⟨(L.length : Int), -1, [], ⟨Kd, N, X, A⟩, .slice none 0 0, av2⟩ : DN)])[i]? = some y := by rw [List.getElem?_append_left hi]; exact HY.out
    have hz1 : (L ++ [(⟨(L.length : Int), -1, [], ⟨Kd, N, X, A⟩, .slice none 0 0, av2⟩ : DN)])[L.length]? = some ⟨(L.length : Int), -1, [], ⟨Kd, N, X, A⟩, .slice none 0 0, av2⟩ := by rw [List.getElem?_append_right (Nat.le_refl _)]; simp
    have hpi : placeOf (L ++ [(⟨(L.length : Int), -1, [], ⟨Kd, N, X, A⟩, .slice none 0 0, av2⟩ : DN)]) (i : Int) = some (i : Int) := pos_place hok1 (by simp; omega)
    have hpl : placeOf (L ++ [(⟨(L.length : Int), -1, [], ⟨Kd, N, X, A⟩, .slice none 0 0, av2⟩ : DN)]) (L.length : Int) = some (L.length : Int) := pos_place hok1 (by simp)
    obtain ⟨L1, hL1⟩ : ∃ L1, L ++ [(⟨(L.length : Int), -1, [], ⟨Kd, N, X, A⟩, .slice none 0 0, av2⟩ : DN)] = L1 := ⟨_, rfl⟩
    have hatt := fun kv' => pn_att L ⟨Kd, N, X, A⟩ av2 kv' HY.out
    rw [hL1] at hA1 hT1 hok1 hy1 hz1 hpi hpl hatt
    have hLle := HFEW.out
    have i6 : Is64 (i : Int) := is64_nat (by omega)
    have l6 : Is64 (L.length : Int) := is64_len (by omega)
    have h8 : (L1.map pn).length = L.length + 1 := by rw [← hL1]; simp
    have hkle : y.kids.length ≤ 1000 := by
      have h9 : y.kids.length ≤ (L1.map pn).length := hok1.few (pn y) (List.mem_map_of_mem (List.mem_of_getElem? hy1))
      omega
    have hnode := dnode_any L1 B p mb v1 w1 (i : Int) i y hA1 i6 hpi hy1
    have HNODE := Fact.mk hnode
    obtain ⟨ya, yc, eyk, _⟩ := own_val (hA1.kids y (List.mem_of_getElem? hy1))
    obtain ⟨za, zc, eya, _⟩ := own_val (hA1.ats y (List.mem_of_getElem? hy1))
    have hatc := fun w3 (h : Below w1.heap.size w1 w3) => dattach_end L1 B p mb v1 w3 (L.length : Int) (i : Int) i L.length y _ (hA1.below h (Nat.le_refl _)) l6 i6 hpi hy1 hpl hz1 (by omega) hkle
    have HATC := Fact.mk hatc
    have HT1 := Fact.mk hT1
    have HATT := Fact.mk hatt
    clear hA1 hT1 hok1 hy1 hz1 hpi hpl hatt hnode hatc hL1
    obtain ⟨yid, ypar, ykids, ⟨yK, yN, yX, yA⟩, ykv, yav⟩ := y
    dsimp only at eyk eya hkle
    subst eyk eya
    go_wp2_with fail
    refine HNODE.out.mono ?_
    rintro e w3 ⟨rfl, hb3⟩
    have HB3 := Fact.mk hb3
    have hfk := field_kids w3 yid ypar yK yN yX ya za ykids.length yc yA.length zc
    clear hb3 HNODE
    go_wp2_with fail
    refine (HATC.out w3 HB3.out).mono ?_
    rintro e w2 ⟨rfl, kv2, hA2, hT2'⟩
    have hT2 := HT1.out.trans ((Turns.of_below HB3.out).trans hT2')
    have hP2 := HATT.out kv2
    obtain ⟨L2, hL2⟩ : ∃ L2, attL L1 i L.length ⟨yid, ypar, ykids, ⟨yK, yN, yX, yA⟩, .slice ya ykids.length yc, .slice za yA.length zc⟩ ⟨(L.length : Int), -1, [], ⟨Kd, N, X, A⟩, .slice none 0 0, av2⟩ (L.length : Int) (i : Int) kv2 = L2 := ⟨_, rfl⟩
    rw [hL2] at hA2 hT2 hP2
    clear hL2 hT2' HATC HATT HT1 HB3 hfk h8
    have HA2 := Fact.mk hA2
    have HT2 := Fact.mk hT2
    have HP2 : Fact (L2.map pn = placeP (L.map pn) ⟨Kd, N, X, A⟩ (i : Int)) := ⟨hP2⟩
    have hlen2 : L2.length = L.length + 1 := by
      have h1 := congrArg List.length hP2
      rw [List.length_map, placeP_len, List.length_map] at h1
      exact h1
    have HLEN := Fact.mk hlen2
    have hb0 : ¬ inA p mb v L w.heap.size := fun h1 => by have := HA0.out.lt _ h1; omega
    have y4 : w2.cell? ⟨w.heap.size, 4, none⟩ = some (.slice a2 kl c2) := hT2.cell x4 hb0
    clear hA2 hT2 hP2 hlen2
    obtain ⟨b2, o2, hkd⟩ : ∃ b o, Fact (∀ j, j < kl → a2 = some ⟨b, o, none⟩ ∧ b < n ∧ FAt (Old n) W k b o) := by
      rcases HL.out.f with ⟨a3, c3, e3, _, _, h3⟩
      have e4 : a3 = a2 := by injection e3 with h1; exact h1.symm
      subst e4
      rcases h3 with h0 | ⟨b, o, ea, hS, hcs⟩
      · refine ⟨0, 0, ⟨fun j hj => ?_⟩⟩
        have := HKL.out
        omega
      · exact ⟨b, o, ⟨fun j hj => ⟨ea, hS, hcs⟩⟩⟩
    go_wp2_with fail
    go_loopg [29] kl (fun gf iv wr => ∃ (j : Nat) (rest : M.F) (L3 : List DN) (v3 : Value), iv = .int .i64 j ∧ j + rest.len = kl ∧ rest.len ≤ gf ∧ Fact (Arena wr B p L3 v3 mb ∧ Turns W wr (inA p mb v L) (inA p mb v3 L3) ∧ numF rest (L3.map pn) L.length = numF k (placeP (L.map pn) ⟨Kd, N, X, A⟩ (i : Int)) L.length ∧ OKP (L3.map pn) ∧ L3.length + rest.size = L.length + 1 + k.size ∧ L.length < L3.length ∧ (rest.len = 0 ∨ FAt (Old n) W rest b2 (o2 + j * 5)) ∧ Hered DnP rest ∧ rest.slots ≤ 100000))
    case atStart =>
      refine ⟨0, k, L2, v1, rfl, by rw [HKL.out]; omega, by rw [HKL.out]; omega, ⟨HA2.out, HT2.out, by rw [HP2.out], by rw [HP2.out]; exact placeP_ok HOK.out _ _, by rw [HLEN.out], by rw [HLEN.out]; omega, ?_, HH.out, by have := HSL.out; omega⟩⟩
      by_cases h0 : kl = 0
      · left; rw [HKL.out]; exact h0
      · right
        rw [Nat.zero_mul, Nat.add_zero]
        exact (hkd.out 0 (by omega)).2.2
    case round =>
      obtain ⟨j, rest, L3, v3, rfl, hlen, hfu, hfx⟩ := hrel
      cases rest with
      | nil =>
        have hj : j = kl := by have : j + 0 = kl := hlen; omega
        obtain ⟨h1, h2, h3, _⟩ := hfx.out
        have HEND : Fact (Arena wr B p L3 v3 mb ∧ Turns w wr (inA p mb v L) (inA p mb v3 L3) ∧ L3.map pn = numF k (placeP (L.map pn) ⟨Kd, N, X, A⟩ (i : Int)) L.length) := ⟨h1, (Turns.of_below HBW.out).trans h2, h3⟩
        clear hfx h1 h2 h3 hlen
        subst hj
        go_wp2_with fail
        go_end0
        exact ⟨rfl, L3, v3, HEND.out⟩
      | node xb xo d' k' r' =>
        have hlen' : j + (r'.len + 1) = kl := hlen
        have hfu' : r'.len + 1 ≤ gk := hfu
        obtain ⟨g', rfl⟩ : ∃ g', gk = g' + 1 := ⟨gk - 1, by omega⟩
        have hlt2 : j < kl := by omega
        obtain ⟨ea2, hb2, _⟩ := hkd.out j hlt2
        subst ea2
        obtain ⟨h1, h2, h3, h4, h5, h6, hfat, ⟨hP, hHr⟩, hs9⟩ := hfx.out
        have hfat' := hfat.resolve_left (by show ¬ r'.len + 1 = 0; omega)
        obtain ⟨⟨av', ka', kc', e0, e1, e2, e3, e4, hav', q4, q5, hkk⟩, hrr⟩ := hfat'
        have hnA : ¬ inA p mb v L b2 := fun h9 => by have := HA0.out.ge _ h9; omega
        have l0 := h2.cell e0 hnA
        have l1 := h2.cell e1 hnA
        have l2 := h2.cell e2 hnA
        have l3 := h2.cell e3 hnA
        have l4 := h2.cell e4 hnA
        have z4 : wr.cell? ⟨w.heap.size, 4, none⟩ = some (.slice (some ⟨b2, o2, none⟩) kl c2) := h2.cell x4 (fun h9 => by have := HA0.out.lt _ h9; omega)
        have hbr : Below n W wr := h2.below (fun k9 h9 => by have := HA0.out.ge _ h9; omega) (by have := HZ.out; omega)
        obtain ⟨o9, ho9⟩ : ∃ o9, Obj.cells #[.int .i64 d'.k, .string d'.n, .string d'.x, av', .slice ka' k'.len kc'] 25 (0, 0) = o9 := ⟨_, rfl⟩
        have hba : Below wr.heap.size wr (wr.alloc o9) := (Below.refl _ _).alloc (Nat.le_refl _) _
        have hwn : n ≤ wr.heap.size := by have := hbr.size; have := HZ.out; omega
        have hcall := hP d' av' (.slice ka' k'.len kc') n (wr.alloc o9) L3 B p mb v3 (L.length : Int) (Lies.below ⟨hav', ⟨ka', kc', rfl, q4, q5, hkk⟩⟩ (hbr.trans (hba.mono hwn))) (h1.below hba (Nat.le_refl _)) h4 hnB (.inr ⟨L.length, h6, rfl⟩) (by have := HFEW.out; simp only [BT.size] at h5; omega) (by simp only [BT.slots] at hs9; omega)
        have HCALL := Fact.mk hcall
        have HR : Fact ((r'.len = 0 ∨ FAt (Old n) W r' b2 (o2 + (j + 1) * 5)) ∧ Hered DnP r' ∧ r'.slots ≤ 100000 ∧ Turns W (wr.alloc o9) (inA p mb v L) (inA p mb v3 L3) ∧ numF r' (numF k' (placeP (L3.map pn) d' L.length) L3.length) L.length = numF k (placeP (L.map pn) ⟨Kd, N, X, A⟩ (i : Int)) L.length ∧ OKP (L3.map pn) ∧ L3.length + (1 + k'.size + r'.size) = L.length + 1 + k.size ∧ L.length < L3.length) :=
          ⟨.inr (by rw [show o2 + (j + 1) * 5 = o2 + j * 5 + 5 by omega]; exact hrr), hHr, by simp only [BT.slots] at hs9; omega, h2.trans (Turns.of_below hba), by rw [← h3]; show _ = numF r' (numF k' (placeP (L3.map pn) d' L.length) (L3.map pn).length) L.length; rw [List.length_map], h4, h5, h6⟩
        have m9 : (wr.alloc o9).heap[wr.heap.size]? = some (.cells #[.int .i64 d'.k, .string d'.n, .string d'.x, av', .slice ka' k'.len kc'] 25) := by rw [← ho9]; exact World.alloc_heap_new wr _
        obtain ⟨m0, m1, m2, m3, m4, _⟩ := five_at m9
        obtain ⟨dk, dnn, dx, dats⟩ := d'
        dsimp only at l0 l1 l2 l3 l4 m0 m1 m2 m3 m4 ho9
        obtain ⟨av1, av2, av3, eav, _⟩ : ∃ a1 a2 a3, av' = Value.slice a1 a2 a3 ∧ True := by
          obtain ⟨a, c, e, _⟩ := hav'
          exact ⟨a, _, c, e, trivial⟩
        subst eav
        clear hfx hfat hP hHr h1 h2 h3 h4 h5 h6 hrr hkk hav' hcall e0 e1 e2 e3 e4 hkd hlen hfu hbr hs9 m9
        go_wp2_with fail
        refine HCALL.out.mono ?_
        rintro e w4 ⟨rfl, L4, v4, hA4, hT4, hP4⟩
        have HREL : Fact (Arena w4 B p L4 v4 mb ∧ Turns W w4 (inA p mb v L) (inA p mb v4 L4) ∧ numF r' (L4.map pn) L.length = numF k (placeP (L.map pn) ⟨Kd, N, X, A⟩ (i : Int)) L.length ∧ OKP (L4.map pn) ∧ L4.length + r'.size = L.length + 1 + k.size ∧ L.length < L4.length ∧ (r'.len = 0 ∨ FAt (Old n) W r' b2 (o2 + (j + 1) * 5)) ∧ Hered DnP r' ∧ r'.slots ≤ 100000) := by
          obtain ⟨g1, g2, g3, g4, g5, g6, g7, g8⟩ := HR.out
          obtain ⟨n1, n2⟩ := numF_ok k' (placeP (L3.map pn) ⟨dk, dnn, dx, dats⟩ L.length) L3.length (placeP_ok g6 _ _)
          have n3 : L4.length = L3.length + 1 + k'.size := by
            have h9 := congrArg List.length hP4
            rw [List.length_map, n2, placeP_len, List.length_map] at h9
            exact h9
          exact ⟨hA4, g4.trans hT4, by rw [hP4]; exact g5, by rw [hP4]; exact n1, by omega, by omega, g1, g2, g3⟩
        clear HCALL HR hA4 hT4 hP4 l0 l1 l2 l3 l4 m0 m1 m2 m3 m4 hba hwn z4 ho9
        go_wp2_with fail
        go_roundg g'
        case measure => omega
        case rel => exact ⟨j + 1, r', L4, v4, by go_num, by omega, by omega, HREL⟩
theorem dnumber_any (k : M.F) : DnP k := indH dn_step k
end Go.Proofs.Ytllimmmgjpnhkaa
