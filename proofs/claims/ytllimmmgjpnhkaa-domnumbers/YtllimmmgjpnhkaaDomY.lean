/- The law's number: each node's number, its kids' and theirs. -/
import Derived.Test.YtllimmmgjpnhkaaDomX
import Derived.Test.YtllimmmgjpnhkaaDomF
set_option linter.unusedVariables false
set_option linter.unusedSimpArgs false
namespace Go.Proofs.Ytllimmmgjpnhkaa
open Go.Deep (BT)
open Go.RowKit M

theorem kidsOf_len : ∀ (f : M.F) (b : Nat), (kidsOf f b).length = f.len
  | .nil, _ => rfl
  | .node xb xo d k r, b => by
    simp only [kidsOf, List.length_cons, kidsOf_len r]
    rfl
def ParsOK (L : List DN) : Prop := ∀ y ∈ L, -1 ≤ y.par ∧ y.par < y.id
theorem pn_at {L : List DN} {b : Nat} {x : PN} (h : (L.map pn)[b]? = some x) : ∃ kv av, L[b]? = some ⟨x.id, x.par, x.kids, x.d, kv, av⟩ := by
  rw [List.getElem?_map] at h
  obtain ⟨y, hy, rfl⟩ := Option.map_eq_some_iff.1 h
  exact ⟨y.kv, y.av, hy⟩
theorem chain_yes {L : List DN} (hok : OKP (L.map pn)) {b c : Nat} {y : DN} (hc : L[c]? = some y) (hp : y.par = b) (hb : b < L.length) (hbc : b ≠ c) (hl : L.length ≤ 1000) : Chain L b 1 c true := by
  refine .up 0 c c y true (pos_place hok (List.getElem?_eq_some_iff.1 hc).1) hc (by omega) (by rw [hp]; exact is64_nat (by omega)) ?_
  rw [hp]
  exact .here 0 b (pos_place hok hb)
theorem chain_no {L : List DN} (hok : OKP (L.map pn)) (hpar : ParsOK L) (hl : L.length ≤ 1000) (c : Int) : ∀ (m : Nat) (x : Int), -1 ≤ x → x < c → x < L.length → x + 1 ≤ m → Chain L c m x false := by
  intro m
  induction m with
  | zero =>
    intro x h1 h2 h3 h4
    have : x = -1 := by omega
    subst this
    exact .out _ _ (neg_none hok)
  | succ m ih =>
    intro x h1 h2 h3 h4
    by_cases e : x = -1
    · subst e; exact .out _ _ (neg_none hok)
    · obtain ⟨i, rfl⟩ : ∃ i : Nat, x = i := ⟨x.toNat, by omega⟩
      have hi : i < L.length := by omega
      have hy : L[i]? = some L[i] := List.getElem?_eq_getElem hi
      have hid : (L[i]).id = i := hok.pos i (pn L[i]) (by rw [List.getElem?_map, hy]; rfl)
      obtain ⟨p1, p2⟩ := hpar L[i] (List.getElem_mem hi)
      refine .up m i i L[i] false (pos_place hok hi) hy (by omega) ?_ (ih _ p1 (by omega) (by omega) (by omega))
      by_cases e2 : (L[i]).par = -1
      · rw [e2]; exact ⟨by decide⟩
      · obtain ⟨j, hj⟩ : ∃ j : Nat, (L[i]).par = j := ⟨(L[i]).par.toNat, by omega⟩
        rw [hj]; exact is64_nat (by omega)

def NmP (k : M.F) : Prop := ∀ (d : Nd) (av kv : Value) (n : Nat) (w : World) (L : List DN) (B p mb : Nat) (v : Value) (b : Nat) (q : Int) (okv : Addr), Lies n w d k av kv → n ≤ w.heap.size → Arena w B p L v mb → OKP (L.map pn) → ParsOK L → (L.map pn)[b]? = some ⟨b, q, kidsOf k (b + 1), d⟩ → Sits (L.map pn) k (b + 1) b → L.length ≤ 1000 → d.ats.length + k.slots ≤ 100000 →
  Calls Try.prog 34 #[.pointer (some ⟨p, 0, none⟩), nodeV d av kv, .int .i64 b, .pointer (some okv)] w fun e w' => e = .returned (.int .i64 (b + 1 + k.size : Nat)) ∧ Below w.heap.size w w'

set_option maxRecDepth 20000 in
set_option maxHeartbeats 4000000 in
theorem nm_step (k : M.F) (hH : Hered NmP k) : NmP k := by
  intro d av kv n w L B p mb v b q okv hl hnw hA hok hpar hb hs hfew hsl
  obtain ⟨yk, ya, hyb⟩ := pn_at hb
  dsimp only at hyb
  have hbl : b < L.length := (List.getElem?_eq_some_iff.1 hyb).1
  have hkn : k.len ≤ 1000 := by
    have h1 := hok.few _ (List.mem_of_getElem? hb)
    rw [List.length_map] at h1
    have h2 := kidsOf_len k (b + 1)
    dsimp only at h1
    omega
  obtain ⟨Kd, N, X, A⟩ := d
  obtain ⟨a1, c1, rfl, hc1, hm1, hAA⟩ := id hl.a
  obtain ⟨a2, c2, rfl, hc2, hm2, hF⟩ := id hl.f
  dsimp only at hc1 hAA hsl
  unfold maxLen at hm1 hm2
  obtain ⟨kl, hkl⟩ : ∃ kl, k.len = kl := ⟨_, rfl⟩
  have HKL := Fact.mk hkl
  dsimp only
  rw [hkl]
  rw [hkl] at hc2 hkn
  obtain ⟨W, hW⟩ : ∃ W, w.alloc (.cells #[.int .i64 Kd, .string N, .string X, .slice a1 A.length c1, .slice a2 kl c2] 25) = W := ⟨_, rfl⟩
  obtain ⟨hz, hbW, hnew⟩ := five_one hW
  have hAW := hA.below hbW (Nat.le_refl _)
  have hlW : Lies n W ⟨Kd, N, X, A⟩ k (.slice a1 A.length c1) (.slice a2 k.len c2) := hl.below (hbW.mono (by omega))
  obtain ⟨x0, x1, x2, x3, x4, _⟩ := five_at hnew
  have hpb := pos_place hok hbl
  have HKD := Fact.mk (dKids_any L B p mb v W b b _ hAW (is64_nat (by omega)) hpb hyb (by show (kidsOf k (b + 1)).length ≤ _; rw [kidsOf_len]; omega))
  have HND : Fact (∀ w1, Below W.heap.size W w1 → _) := ⟨fun w1 h1 => dNode_any L B p mb v w1 b b _ (hAW.below h1 (Nat.le_refl _)) (is64_nat (by omega)) hpb hyb (by show A.length ≤ _; omega)⟩
  have HA := Fact.mk hAW
  have HL := Fact.mk hlW
  have HOK := Fact.mk hok
  have HPAR := Fact.mk hpar
  have HS := Fact.mk hs
  have HW := Fact.mk hW
  have HBW := Fact.mk hbW
  have HNEW := Fact.mk hnew
  have HZ := Fact.mk hz
  have HF := Fact.mk hF
  have HH := Fact.mk hH
  have HFEW := Fact.mk hfew
  have HSL := Fact.mk hsl
  have HYB := Fact.mk hyb
  clear hl hA hok hAW hlW hbW hnew hz hF hH hfew hsl hpar hs hb hpb hyb
  go_enter Try.func34, Try.ntmps34
  go_wp2_with fail
  refine HKD.out.mono ?_
  rintro e w1 ⟨v1, rfl, ho1, hb1⟩
  rw [kidsOf_len, HKL.out] at ho1
  have HO1 := Fact.mk ho1
  have HB1 := Fact.mk hb1
  obtain ⟨a3, c3, rfl, hc3, hm3⟩ := own_val ho1
  unfold maxLen at hm3
  clear ho1 hb1
  go_wp2_with fail
  refine (HND.out _ HB1.out).mono ?_
  rintro e w2 ⟨v2, rfl, ho2, hb2⟩
  obtain ⟨a4, c4, rfl, hc4, hm4⟩ := own_val ho2
  have HB2 := Fact.mk hb2
  have hB02 : Below W.heap.size W w2 := HB1.out.trans (hb2.mono HB1.out.size)
  have HB02 := Fact.mk hB02
  have hlt : w.heap.size < w2.heap.size := by have := HZ.out; have := hB02.size; omega
  obtain ⟨t0, t1, t2, t3, t4, _⟩ := five_at ((hB02.block w.heap.size (by have := HZ.out; omega)).trans HNEW.out)
  have T4 := Fact.mk t4
  have HLT := Fact.mk hlt
  have y0 := (World.cell?_alloc_lt (w := w2) (a := ⟨w.heap.size, 0, none⟩) (.cells #[.int .i64 Kd, .string N, .string X, .slice a4 A.length c4, .slice none 0 0] 25) hlt).trans t0
  have y1 := (World.cell?_alloc_lt (w := w2) (a := ⟨w.heap.size, 1, none⟩) (.cells #[.int .i64 Kd, .string N, .string X, .slice a4 A.length c4, .slice none 0 0] 25) hlt).trans t1
  have y2 := (World.cell?_alloc_lt (w := w2) (a := ⟨w.heap.size, 2, none⟩) (.cells #[.int .i64 Kd, .string N, .string X, .slice a4 A.length c4, .slice none 0 0] 25) hlt).trans t2
  have y4 := (World.cell?_alloc_lt (w := w2) (a := ⟨w.heap.size, 4, none⟩) (.cells #[.int .i64 Kd, .string N, .string X, .slice a4 A.length c4, .slice none 0 0] 25) hlt).trans t4
  obtain ⟨g, HG⟩ : ∃ g, Fact (∀ (j nx : Nat), (kidsOf k (b + 1))[j]? = some (nx : Int) → a3 = some ⟨g, 0, none⟩ ∧ g < w2.heap.size ∧ w2.cell? ⟨g, j, none⟩ = some (.int .i64 nx)) := by
    by_cases h0 : 0 < kl
    · obtain ⟨g, cap, e1, _, _, _, h2, h3, _⟩ := own_get HO1.out h0
      refine ⟨g, ⟨fun j nx hj => ?_⟩⟩
      injection e1 with e1
      have h4 := h3 j (.int .i64 nx) (by simp [rowI, hj])
      refine ⟨e1, by have := HB2.out.size; omega, ?_⟩
      exact (World.cell?_of_block (w := w1) (a := ⟨g, j, none⟩) (HB2.out.block g h2)).trans h4
    · refine ⟨0, ⟨fun j nx hj => ?_⟩⟩
      have h1 := (List.getElem?_eq_some_iff.1 hj).1
      have h2 := kidsOf_len k (b + 1)
      have h3 := HKL.out
      omega
  obtain ⟨b2, o2, hkd⟩ : ∃ b o, Fact (∀ j, j < kl → a2 = some ⟨b, o, none⟩ ∧ b < n ∧ FAt (Old n) W k b o) := by
    rcases HL.out.f with ⟨a3, c3, e3, _, _, h3⟩
    have e4 : a3 = a2 := by injection e3 with h1; exact h1.symm
    subst e4
    rcases h3 with h0 | ⟨b, o, ea, hS, hcs⟩
    · refine ⟨0, 0, ⟨fun j hj => ?_⟩⟩
      have := HKL.out
      omega
    · exact ⟨b, o, ⟨fun j hj => ⟨ea, hS, hcs⟩⟩⟩
  have hb1000 : b < 1000 := by have := HFEW.out; omega
  clear ho2 hb2 hB02 x0 x1 x2 x3 x4 t0 t1 t2 t3 t4 hlt HNEW HND HKD HO1
  dsimp only
  go_wp2_with fail
  go_loopg [12, 13] kl (fun gf nv iv wr => ∃ (j nx : Nat) (rest : M.F), nv = .int .i64 nx ∧ iv = .int .i64 j ∧ j + rest.len = kl ∧ rest.len ≤ gf ∧ Fact (Below w2.heap.size w2 wr ∧ nx + rest.size = b + 1 + k.size ∧ Sits (L.map pn) rest nx b ∧ (kidsOf k (b + 1)).drop j = kidsOf rest nx ∧ (rest.len = 0 ∨ FAt (Old n) W rest b2 (o2 + j * 5)) ∧ Hered NmP rest ∧ rest.slots ≤ 100000))
  case atStart =>
    refine ⟨0, b + 1, k, by go_num, rfl, by rw [HKL.out]; omega, by rw [HKL.out]; omega, ⟨(Below.refl _ _).alloc (Nat.le_refl _) _, rfl, HS.out, by simp, ?_, HH.out, by have := HSL.out; omega⟩⟩
    by_cases h0 : kl = 0
    · left; rw [HKL.out]; exact h0
    · right
      rw [Nat.zero_mul, Nat.add_zero]
      exact (hkd.out 0 (by omega)).2.2
  case round =>
    obtain ⟨j, nx, rest, rfl, rfl, hlen, hfu, hfx⟩ := hrel
    cases rest with
    | nil =>
      have hj : j = kl := by have : j + 0 = kl := hlen; omega
      obtain ⟨h1, h2, _⟩ := hfx.out
      have HEND : Fact (nx = b + 1 + k.size ∧ Below w.heap.size w wr) := ⟨by simpa [BT.size] using h2, HBW.out.trans ((HB02.out.trans (h1.mono HB02.out.size)).mono HBW.out.size)⟩
      clear hfx h1 h2 hlen y0 y1 y2 y4
      subst hj
      obtain ⟨enx, hend⟩ := HEND.out
      have HE2 := Fact.mk hend
      have HEX := Fact.mk enx
      clear HEND hend enx
      go_wp2_with fail
      go_ret
      obtain ⟨enx⟩ := HEX
      subst enx
      exact ⟨rfl, HE2.out⟩
    | node xb xo d' k' r' =>
      have hlen' : j + (r'.len + 1) = kl := hlen
      have hfu' : r'.len + 1 ≤ gk := hfu
      obtain ⟨g', rfl⟩ : ∃ g', gk = g' + 1 := ⟨gk - 1, by omega⟩
      have hlt2 : j < kl := by omega
      obtain ⟨ea2, hb2, _⟩ := hkd.out j hlt2
      subst ea2
      obtain ⟨h1, h2, h3, h4, hfat, ⟨hP, hHr⟩, hs9⟩ := hfx.out
      have hfat' := hfat.resolve_left (by show ¬ r'.len + 1 = 0; omega)
      obtain ⟨⟨av', ka', kc', e0, e1, e2, e3, e4, hav', q4, q5, hkk⟩, hrr⟩ := hfat'
      have hkj : (kidsOf k (b + 1))[j]? = some (nx : Int) := by
        have h9 := congrArg (fun l => l[0]?) h4
        simpa [List.getElem?_drop, kidsOf] using h9
      obtain ⟨ea3, hg, hcl⟩ := HG.out j nx hkj
      subst ea3
      have hW2 : Below W.heap.size W wr := HB02.out.trans (h1.mono HB02.out.size)
      have hnW : n ≤ W.heap.size := by have := HZ.out; omega
      have hAr := HA.out.below hW2 (Nat.le_refl _)
      obtain ⟨yk', ya', hyn⟩ := pn_at h3.here
      dsimp only at hyn
      have hnl : nx < L.length := (List.getElem?_eq_some_iff.1 hyn).1
      have hbn : b < nx := by
        have h9 := kidsOf_ge k (b + 1) nx (List.mem_of_getElem? hkj)
        omega
      have hpn := pos_place HOK.out hnl
      have hpb := pos_place HOK.out hbl
      have i1 : Is64 (nx : Int) := is64_nat (by have := HFEW.out; omega)
      have i2 : Is64 (b : Int) := is64_nat (by have := HFEW.out; omega)
      have HPL : Fact (Calls Try.prog 31 #[.pointer (some ⟨p, 0, none⟩), .int .i64 nx] wr fun e w' => e = .returned (.int .i64 j) ∧ Below wr.heap.size wr w') := ⟨by
        have h9 := dPlace_any L B p mb v wr nx nx b _ _ hAr i1 i2 hpn hyn (by show (b : Int) ≠ -1; omega) hpb HYB.out (by show (kidsOf k (b + 1)).length ≤ _; rw [kidsOf_len, HKL.out]; omega)
        dsimp only at h9
        rw [kidsOf_idx k (b + 1) j 0 nx hkj, Nat.zero_add] at h9
        exact h9⟩
      have HPA : Fact (∀ w', Below wr.heap.size wr w' → _) := ⟨fun w' h' => dParent_any L B p mb v w' nx nx _ (hAr.below h' (Nat.le_refl _)) i1 hpn hyn⟩
      have HW1 : Fact (∀ w', Below wr.heap.size wr w' → _) := ⟨fun w' h' => dWithin_any L B p mb v w' b nx 1 true (hAr.below h' (Nat.le_refl _)) i1 (chain_yes HOK.out hyn rfl hbl (by omega) HFEW.out)⟩
      have HW2 : Fact (∀ w', Below wr.heap.size wr w' → _) := ⟨fun w' h' => dWithin_any L B p mb v w' nx b (b + 1) false (hAr.below h' (Nat.le_refl _)) i2 (chain_no HOK.out HPAR.out HFEW.out nx (b + 1) b (by omega) (by omega) (by omega) (by omega))⟩
      have hcell : ∀ w', Below wr.heap.size wr w' → w'.cell? ⟨g, j, none⟩ = some (.int .i64 nx) := fun w' h' =>
        (World.cell?_of_block (w := w2) (a := ⟨g, j, none⟩) ((h1.trans (h'.mono h1.size)).block g hg)).trans hcl
      have HCELL := Fact.mk hcell
      have c0 := hcell wr (Below.refl _ _)
      have hlr : Lies n W d' k' av' (.slice ka' k'.len kc') := ⟨hav', ⟨ka', kc', rfl, q4, q5, hkk⟩⟩
      have HCALL : Fact (∀ w', Below wr.heap.size wr w' → Calls Try.prog 34 #[.pointer (some ⟨p, 0, none⟩), nodeV d' av' (.slice ka' k'.len kc'), .int .i64 nx, .pointer (some okv)] w' fun e w'' => e = .returned (.int .i64 (nx + 1 + k'.size : Nat)) ∧ Below w'.heap.size w' w'') := ⟨fun w' h' => by
        have hbx : Below W.heap.size W w' := hW2.trans (h'.mono hW2.size)
        exact hP d' av' (.slice ka' k'.len kc') n w' L B p mb v nx b okv (hlr.below (hbx.mono hnW)) (by have := hbx.size; omega) (HA.out.below hbx (Nat.le_refl _)) HOK.out HPAR.out h3.here h3.kids HFEW.out (by simp only [BT.slots] at hs9; omega)⟩
      have HTREE : Fact (∀ w', Below wr.heap.size wr w' → w'.cell? ⟨w.heap.size, 4, none⟩ = some (.slice (some ⟨b2, o2, none⟩) kl c2) ∧ w'.cell? ⟨b2, o2 + j * 5, none⟩ = some (.int .i64 d'.k) ∧ w'.cell? ⟨b2, o2 + j * 5 + 1, none⟩ = some (.string d'.n) ∧ w'.cell? ⟨b2, o2 + j * 5 + 2, none⟩ = some (.string d'.x) ∧ w'.cell? ⟨b2, o2 + j * 5 + 3, none⟩ = some av' ∧ w'.cell? ⟨b2, o2 + j * 5 + 4, none⟩ = some (.slice ka' k'.len kc')) := ⟨fun w' h' => by
        have hbx : Below W.heap.size W w' := hW2.trans (h'.mono hW2.size)
        have hb9 : b2 < W.heap.size := by omega
        have hb8 : w.heap.size < w2.heap.size := HLT.out
        exact ⟨(World.cell?_of_block (w := w2) (a := ⟨w.heap.size, 4, none⟩) ((h1.trans (h'.mono h1.size)).block _ hb8)).trans T4.out,
          (World.cell?_of_block (w := W) (a := ⟨b2, _, none⟩) (hbx.block _ hb9)).trans e0, (World.cell?_of_block (w := W) (a := ⟨b2, _, none⟩) (hbx.block _ hb9)).trans e1,
          (World.cell?_of_block (w := W) (a := ⟨b2, _, none⟩) (hbx.block _ hb9)).trans e2, (World.cell?_of_block (w := W) (a := ⟨b2, _, none⟩) (hbx.block _ hb9)).trans e3, (World.cell?_of_block (w := W) (a := ⟨b2, _, none⟩) (hbx.block _ hb9)).trans e4⟩⟩
      have HR : Fact ((∀ w', Below wr.heap.size wr w' → Below w2.heap.size w2 w') ∧ nx + 1 + k'.size + r'.size = b + 1 + k.size ∧ Sits (L.map pn) r' (nx + 1 + k'.size) b ∧ (kidsOf k (b + 1)).drop (j + 1) = kidsOf r' (nx + 1 + k'.size) ∧ (r'.len = 0 ∨ FAt (Old n) W r' b2 (o2 + (j + 1) * 5)) ∧ Hered NmP r' ∧ r'.slots ≤ 100000) :=
        ⟨fun w' h' => h1.trans (h'.mono h1.size), by simp only [BT.size] at h2; omega, h3.rest, by rw [← List.drop_drop, h4]; rfl, .inr (by rw [show o2 + (j + 1) * 5 = o2 + j * 5 + 5 by omega]; exact hrr), hHr, by simp only [BT.slots] at hs9; omega⟩
      have hnx : nx < 1000 := by have := HFEW.out; omega
      obtain ⟨dk, dnn, dx, dats⟩ := d'
      obtain ⟨av1, av2, av3, eav, _⟩ : ∃ a1 a2 a3, av' = Value.slice a1 a2 a3 ∧ True := by
        obtain ⟨a, c, e, _⟩ := hav'
        exact ⟨a, _, c, e, trivial⟩
      subst eav
      clear hfx hfat hP hHr h1 h2 h3 h4 hrr hkk hav' e0 e1 e2 e3 e4 hkd hlen hfu hs9 hcell hlr hAr hW2 hnW hyn hpn hpb i1 i2 hkj hcl y0 y1 y2 y4
      have tok1 : True := trivial
      have tok2 : True := trivial
      have tok3 : True := trivial
      have tok4 : True := trivial
      go_wp2_with (first
        | (have _t := tok1; go_at_call 31; refine HPL.out.mono ?_; rintro e w4 ⟨rfl, hb4⟩; have HB4 : Fact (Below wr.heap.size wr w4) := ⟨hb4⟩; have c4 := HCELL.out w4 hb4; clear hb4 tok1 _t HPL c0)
        | (have _t := tok2; go_at_call 30; refine (HPA.out _ HB4.out).mono ?_; rintro e w5 ⟨rfl, hb5⟩; have HB5 : Fact (Below wr.heap.size wr w5) := ⟨HB4.out.trans (hb5.mono HB4.out.size)⟩; have c5 := HCELL.out w5 HB5.out; clear hb5 tok2 _t HPA)
        | (have _t := tok3; go_at_call 49; refine (HW1.out _ HB5.out).mono ?_; rintro e w6 ⟨rfl, hb6⟩; have HB6 : Fact (Below wr.heap.size wr w6) := ⟨HB5.out.trans (hb6.mono HB5.out.size)⟩; have c6 := HCELL.out w6 HB6.out; clear hb6 tok3 _t HW1)
        | (have _t := tok4; go_at_call 49; refine (HW2.out _ HB6.out).mono ?_; rintro e w7 ⟨rfl, hb7⟩; have HB7 : Fact (Below wr.heap.size wr w7) := ⟨HB6.out.trans (hb7.mono HB6.out.size)⟩; obtain ⟨z4, l0, l1, l2, l3, l4⟩ := HTREE.out w7 HB7.out; clear hb7 tok4 _t HW2)
        | (go_at_call 34; refine (HCALL.out _ HB7.out).mono ?_; rintro e w8 ⟨rfl, hb8⟩; have HB8 : Fact (Below wr.heap.size wr w8) := ⟨HB7.out.trans (hb8.mono HB7.out.size)⟩; clear hb8 HCALL))
      go_roundg g'
      case measure => omega
      case rel => exact ⟨j + 1, nx + 1 + k'.size, r', by go_num, by go_num, by omega, by omega, ⟨HR.out.1 _ HB8.out, HR.out.2⟩⟩
theorem lnumber_any (k : M.F) : NmP k := indH nm_step k
end Go.Proofs.Ytllimmmgjpnhkaa
