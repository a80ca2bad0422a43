/- Tree: a tree in new memory. -/
import Derived.Test.YtkojhgagkoeeiaaCopyL
import Derived.Test.YtkojhgagkoeeiaaSmall
import Derived.Deep.RegionLaw
import Derived.Deep.DeepCutAuto
set_option linter.unusedVariables false
namespace Go.Proofs.Ytkojhgagkoeeiaa
open Go.Deep (BT)
open Go.RowKit M

theorem len_size : ∀ f : M.F, f.len ≤ f.size
  | .nil => Nat.le_refl _
  | .node _ _ _ k r => by have := len_size r; simp only [BT.len, BT.size]; omega
theorem RowAt.keep {X : Nat} {W1 wr w2 w3 : World} {d : Nd} {av v v' : Value} {rs : List Nw} {o : Obj} (h : RowAt W1.heap.size X wr d av v rs) (hK : Keep X (X + 1) W1 wr) (hb2 : Below wr.heap.size wr w2)
    (hgrow : (w2.alloc o).grownBy w3 v.ownBlock) : Keep X (X + 1) W1 (w3.setCell ⟨X, 4, none⟩ v') := by
  have hs : (w3.setCell ⟨X, 4, none⟩ v').heap.size = w3.heap.size := by simp [World.setCell]
  have h1 : w2.heap.size + 1 ≤ w3.heap.size := by have := hgrow.size; simpa using this
  have h2 := hb2.size
  have h3 := h.size
  exact ⟨hgrow.os.trans (hb2.os.trans hK.os), hgrow.tape.trans (hb2.tape.trans hK.tape), hgrow.output.trans (hb2.output.trans hK.output), by rw [hs]; omega, fun b hz hb => (h.other hb2.size hgrow b hz (by omega)).trans ((hb2.block b (by omega)).trans (hK.block b hz hb))⟩

def CopyP (k : M.F) : Prop := ∀ (d : Nd) (av kv : Value) (n : Nat) (w : World), Lies n w d k av kv → n ≤ w.heap.size → d.ats.length + k.slots ≤ 1000000 → k.size ≤ 1000000 →
  Calls Try.prog 15 #[nodeV d av kv] w fun e w' => ∃ av' kv', e = .returned (nodeV d av' kv') ∧ Below w.heap.size w w' ∧ AS (fun b => w.heap.size ≤ b) w' av' d.ats ∧ FL (fun b => w.heap.size ≤ b) w' kv' k

theorem keepC {W0 W w5 : World} {B : Nat} {x0 x1 x2 x3 : Value} (hb : Below W0.heap.size W w5) (hlt : B < W0.heap.size)
    (h : Below W0.heap.size W0 W ∧ (W.cell? ⟨B, 0, none⟩ = some x0 ∧ W.cell? ⟨B, 1, none⟩ = some x1 ∧ W.cell? ⟨B, 2, none⟩ = some x2 ∧ W.cell? ⟨B, 3, none⟩ = some x3)) :
    Below W0.heap.size W0 w5 ∧ (w5.cell? ⟨B, 0, none⟩ = some x0 ∧ w5.cell? ⟨B, 1, none⟩ = some x1 ∧ w5.cell? ⟨B, 2, none⟩ = some x2 ∧ w5.cell? ⟨B, 3, none⟩ = some x3) := by
  obtain ⟨h0, q0, q1, q2, q3⟩ := h
  exact ⟨h0.trans hb, (hb.cell (p := ⟨B, 0, none⟩) hlt).trans q0, (hb.cell (p := ⟨B, 1, none⟩) hlt).trans q1, (hb.cell (p := ⟨B, 2, none⟩) hlt).trans q2, (hb.cell (p := ⟨B, 3, none⟩) hlt).trans q3⟩
theorem keepCalloc {W0 W : World} {B : Nat} {x0 x1 x2 x3 : Value} {o : Obj} (hlt : B < W0.heap.size)
    (h : Below W0.heap.size W0 W ∧ (W.cell? ⟨B, 0, none⟩ = some x0 ∧ W.cell? ⟨B, 1, none⟩ = some x1 ∧ W.cell? ⟨B, 2, none⟩ = some x2 ∧ W.cell? ⟨B, 3, none⟩ = some x3)) :
    Below W0.heap.size W0 (W.alloc o) ∧ ((W.alloc o).cell? ⟨B, 0, none⟩ = some x0 ∧ (W.alloc o).cell? ⟨B, 1, none⟩ = some x1 ∧ (W.alloc o).cell? ⟨B, 2, none⟩ = some x2 ∧ (W.alloc o).cell? ⟨B, 3, none⟩ = some x3) :=
  keepC ((Below.refl _ _).alloc h.1.size _) hlt h
theorem keepCdrew {W0 : World} {B : Nat} {x0 x1 x2 x3 : Value} {o : Obj} (hlt : B < W0.heap.size)
    (h : Below W0.heap.size W0 W0.drew ∧ (W0.drew.cell? ⟨B, 0, none⟩ = some x0 ∧ W0.drew.cell? ⟨B, 1, none⟩ = some x1 ∧ W0.drew.cell? ⟨B, 2, none⟩ = some x2 ∧ W0.drew.cell? ⟨B, 3, none⟩ = some x3)) :
    Below W0.heap.size W0 (W0.alloc o).drew ∧ ((W0.alloc o).drew.cell? ⟨B, 0, none⟩ = some x0 ∧ (W0.alloc o).drew.cell? ⟨B, 1, none⟩ = some x1 ∧ (W0.alloc o).drew.cell? ⟨B, 2, none⟩ = some x2 ∧ (W0.alloc o).drew.cell? ⟨B, 3, none⟩ = some x3) :=
  keepC (W := W0.drew) ⟨rfl, rfl, rfl, by simp, fun k hk => Below.heap_alloc W0 _ _ hk⟩ hlt h
theorem keepCset {W0 W : World} {B Y : Nat} {x0 x1 x2 x3 v0 v1 v2 v3 v4 : Value} (hlt : B < W0.heap.size) (hY : W0.heap.size ≤ Y)
    (h : Below W0.heap.size W0 W ∧ (W.cell? ⟨B, 0, none⟩ = some x0 ∧ W.cell? ⟨B, 1, none⟩ = some x1 ∧ W.cell? ⟨B, 2, none⟩ = some x2 ∧ W.cell? ⟨B, 3, none⟩ = some x3)) :
    Below W0.heap.size W0 (((((W.setCell ⟨Y, 0, none⟩ v0).setCell ⟨Y, 1, none⟩ v1).setCell ⟨Y, 2, none⟩ v2).setCell ⟨Y, 3, none⟩ v3).setCell ⟨Y, 4, none⟩ v4) ∧ ((((((W.setCell ⟨Y, 0, none⟩ v0).setCell ⟨Y, 1, none⟩ v1).setCell ⟨Y, 2, none⟩ v2).setCell ⟨Y, 3, none⟩ v3).setCell ⟨Y, 4, none⟩ v4).cell? ⟨B, 0, none⟩ = some x0 ∧ (((((W.setCell ⟨Y, 0, none⟩ v0).setCell ⟨Y, 1, none⟩ v1).setCell ⟨Y, 2, none⟩ v2).setCell ⟨Y, 3, none⟩ v3).setCell ⟨Y, 4, none⟩ v4).cell? ⟨B, 1, none⟩ = some x1 ∧ (((((W.setCell ⟨Y, 0, none⟩ v0).setCell ⟨Y, 1, none⟩ v1).setCell ⟨Y, 2, none⟩ v2).setCell ⟨Y, 3, none⟩ v3).setCell ⟨Y, 4, none⟩ v4).cell? ⟨B, 2, none⟩ = some x2 ∧ (((((W.setCell ⟨Y, 0, none⟩ v0).setCell ⟨Y, 1, none⟩ v1).setCell ⟨Y, 2, none⟩ v2).setCell ⟨Y, 3, none⟩ v3).setCell ⟨Y, 4, none⟩ v4).cell? ⟨B, 3, none⟩ = some x3) :=
  keepC ((((((Below.refl _ _).setCell (p := ⟨Y, 0, none⟩) hY _).setCell (p := ⟨Y, 1, none⟩) hY _).setCell (p := ⟨Y, 2, none⟩) hY _).setCell (p := ⟨Y, 3, none⟩) hY _).setCell (p := ⟨Y, 4, none⟩) hY _) hlt h

set_option maxRecDepth 20000 in
set_option maxHeartbeats 4000000 in
theorem copy_step (k : M.F) (hH : Hered CopyP k) : CopyP k := by
  intro d av kv n w hl hn hsl hsz
  obtain ⟨K, N, X, A⟩ := d
  obtain ⟨a1, l1, c1, eav⟩ := hl.a.val
  obtain ⟨a2, c2, ekv⟩ := hl.f.val
  subst eav ekv
  obtain ⟨kl, hkl⟩ : ∃ kl, k.len = kl := ⟨_, rfl⟩
  dsimp only
  rw [hkl]
  obtain ⟨W0, hW0⟩ : ∃ W0, (w.alloc (.cells #[.int .i64 K, .string N, .string X, .slice a1 l1 c1, .slice a2 kl c2] 25)).alloc (.cells #[.int .i64 0, .string ⟨#[]⟩, .string ⟨#[]⟩, .slice none 0 0, .slice none 0 0] 25) = W0 := ⟨_, rfl⟩
  have hz0 : W0.heap.size = w.heap.size + 2 := by rw [← hW0]; simp
  have hB0 : Below w.heap.size w W0 := by rw [← hW0]; exact ((Below.refl _ w).alloc (Nat.le_refl _) _).alloc (by simp) _
  have hbx : ∀ i v, (#[.int .i64 K, .string N, .string X, .slice a1 l1 c1, .slice a2 kl c2] : Array Value)[i]? = some v → W0.cell? ⟨w.heap.size, i, none⟩ = some v := fun i v h => by
    rw [← hW0, World.cell?_alloc_lt _ _ _ (by simp)]; exact (World.cell?_alloc_new w _ _ i).trans h
  have hR0 : Five W0 (w.heap.size + 1) (.int .i64 0) (.string ⟨#[]⟩) (.string ⟨#[]⟩) (.slice none 0 0) (.slice none 0 0) := by
    rw [← hW0]
    have := Five.new (w.alloc (.cells #[.int .i64 K, .string N, .string X, .slice a1 l1 c1, .slice a2 kl c2] 25)) (.int .i64 0) (.string ⟨#[]⟩) (.string ⟨#[]⟩) (.slice none 0 0) (.slice none 0 0) 25
    rw [World.size_alloc] at this
    exact this
  have HS : Fact (Below W0.heap.size W0 W0.drew ∧ (W0.drew.cell? ⟨w.heap.size, 0, none⟩ = some (.int .i64 K) ∧ W0.drew.cell? ⟨w.heap.size, 1, none⟩ = some (.string N) ∧ W0.drew.cell? ⟨w.heap.size, 2, none⟩ = some (.string X) ∧ W0.drew.cell? ⟨w.heap.size, 3, none⟩ = some (.slice a1 l1 c1))) :=
    ⟨(Below.refl _ _).drew, hbx 0 _ rfl, hbx 1 _ rfl, hbx 2 _ rfl, hbx 3 _ rfl⟩
  have hx4 : W0.cell? ⟨w.heap.size, 4, none⟩ = some (.slice a2 kl c2) := hbx 4 _ rfl
  have HX4 := Fact.mk hx4
  have HR0 := Fact.mk hR0
  have HB0 := Fact.mk hB0
  have HL := Fact.mk hl
  have HH := Fact.mk hH
  have HKL := Fact.mk hkl
  have HW0 := Fact.mk hW0
  have HSL : Fact (A.length + k.slots ≤ 1000000) := ⟨hsl⟩
  have HSZ := Fact.mk hsz
  have hA0 : Fact (AS (Old w.heap.size) W0.drew (.slice a1 l1 c1) A) := ⟨((hl.a.like (like_below (hB0.mono hn))).mono (fun b (hb : b < n) => (by show b < w.heap.size; omega)))⟩
  clear hbx hR0 hB0 hl hH hkl hx4 hsl hsz
  go_enter Try.func15, Try.ntmps15
  go_wp2_with fail
  clear HW0 hW0
  go_cut [3] (fun xv wc => ∃ (Y : Nat) (b1 : Option Addr) (b2 b3 : Nat), xv = .pointer (some ⟨Y, 0, none⟩) ∧ Fact (Five wc Y (.int .i64 K) (.string N) (.string X) (.slice b1 b2 b3) (.slice none 0 0) ∧ Below W0.heap.size W0 wc ∧ w.heap.size + 2 ≤ Y ∧ AS (fun b => w.heap.size + 2 ≤ b ∧ b ≠ Y) wc (.slice b1 b2 b3) A))
  case first =>
    have hS0 := HS.out
    clear HS
    have hlt4 : w.heap.size < W0.heap.size := by omega
    have hY0 : W0.heap.size ≤ w.heap.size + 2 := by omega
    clear HX4 HR0 HL HH HKL HSZ HB0
    go_region_held3 (fun w' => Below W0.heap.size W0 w' ∧ (w'.cell? ⟨w.heap.size, 0, none⟩ = some (.int .i64 K) ∧ w'.cell? ⟨w.heap.size, 1, none⟩ = some (.string N) ∧ w'.cell? ⟨w.heap.size, 2, none⟩ = some (.string X) ∧ w'.cell? ⟨w.heap.size, 3, none⟩ = some (.slice a1 l1 c1)))
      (first | with_reducible exact hS0 | with_reducible exact keepCdrew hlt4 hS0 | with_reducible exact keepC (hb5.alloc hz5 _) hlt4 hS0 | with_reducible exact keepCset hlt4 hY0 (by assumption) | with_reducible exact keepC hb5 hlt4 (by assumption) | with_reducible exact keepCalloc hlt4 (by assumption))
      (first | (go_at_call 35; refine (copyAttrs_any A _ w.heap.size _ (by first | exact hA0.out | exact hA0.out.like (fun b hb hz => Below.heap_alloc W0 _ _ hz)) (by have := HSL.out; omega)).mono ?_; rintro e w5 ⟨v5, rfl, has5, hb50⟩; obtain ⟨p1, p2, p3, ep⟩ := has5.val; subst ep; have hb5 : Below W0.heap.size _ w5 := hb50.mono (by simp); have hz5 : W0.heap.size ≤ w5.heap.size := Nat.le_trans (by simp) hb50.size; obtain ⟨hc5, hf5⟩ := bcell hb50; have HAS5 := Fact.mk has5; have HB50 := Fact.mk hb50; clear has5 hb50))
    · rename_i hHeld
      have HH1 := Fact.mk hHeld.1
      clear hHeld
      go_wp2_with fail
      go_meet
      case rel =>
        refine ⟨_, p1, p2, p3, rfl, ⟨Five.new w5 _ _ _ _ _ _, HH1.out, by omega, ?_⟩⟩
        have hx := HAS5.out.inn
        exact (hx.like (w' := w5.alloc _) (fun b hb hz => Below.heap_alloc _ _ _ hz)).mono (fun b hb => ⟨by have h1 : W0.heap.size ≤ b := hb.1; omega, by have := hb.2; omega⟩)
    · rename_i hHeld
      have HH1 := Fact.mk hHeld.1
      clear hHeld
      go_wp2_with fail
      go_meet
      case rel =>
        have hfv : Five w5 W0.heap.size (.int .i64 0) (.string ⟨#[]⟩) (.string ⟨#[]⟩) (.slice none 0 0) (.slice none 0 0) := by
          have h0 := Five.new W0 (.int .i64 0) (.string ⟨#[]⟩) (.string ⟨#[]⟩) (.slice none 0 0) (.slice none 0 0) 25
          exact h0.same (HB50.out.block _ (by simp))
        rw [hz0] at hfv
        refine ⟨_, p1, p2, p3, rfl, ⟨five_all hfv _ _ _ _ _, HH1.out, Nat.le_refl _, ?_⟩⟩
        refine (HAS5.out.like (fun b hb hz => ?_)).mono (fun b hb => ?_)
        · have hb' : W0.heap.size + 1 ≤ b := by simpa using hb
          exact five_other _ _ (by omega) _ _ _ _ _
        · have hb' : W0.heap.size + 1 ≤ b := by simpa using hb
          exact ⟨by omega, by omega⟩
  case rest =>
    obtain ⟨Y, b1, b2, b3, rfl, hcx⟩ := hcut
    obtain ⟨bk, ok, hkd⟩ : ∃ b o, Fact (∀ i, i < kl → a2 = some ⟨b, o, none⟩ ∧ b < n ∧ FAt (Old n) w k b o) := by
      obtain ⟨a2', c2', e2, _, _, hF⟩ := HL.out.f
      cases e2
      rcases hF with h0 | ⟨b, o, ea, hS, hcs⟩
      · refine ⟨0, 0, ⟨fun i hi => ?_⟩⟩
        have := HKL.out
        omega
      · exact ⟨b, o, ⟨fun i hi => ⟨ea, hS, hcs⟩⟩⟩
    have hY1 := hcx.out.2.2.1
    have hY2 := hcx.out.1.lt
    have hwcs : w.heap.size + 2 ≤ wc.heap.size := by have := hcx.out.2.1.size; omega
    clear hA0 HS
    go_wp2_with fail
    go_loopg [4] kl (fun gf iv wr => ∃ (i : Nat) (rest : M.F) (rs : List Nw) (v : Value), iv = .int .i64 i ∧ i + rest.len = kl ∧ rest.len ≤ gf ∧ Fact (RowAt wc.heap.size Y wr ⟨K, N, X, A⟩ (.slice b1 b2 b3) v rs ∧ rs.length = i ∧ MatP rs k rest ∧ Keep Y (Y + 1) wc wr ∧ (rest.len = 0 ∨ FAt (Old n) w rest bk (ok + i * 5)) ∧ Hered CopyP rest ∧ rest.slots ≤ 1000000 ∧ rest.size ≤ 1000000))
    case atStart =>
      refine ⟨0, k, [], .slice none 0 0, rfl, by rw [HKL.out]; omega, by rw [HKL.out]; omega, ⟨⟨hcx.out.1, World.ownsRow_nil _ _ _ _, fun r hr => absurd hr (List.not_mem_nil), hY2, Nat.le_refl _⟩, rfl, rfl, Keep.refl _ _ _, ?_, HH.out, by have := HSL.out; omega, HSZ.out⟩⟩
      by_cases h0 : kl = 0
      · left; rw [HKL.out]; exact h0
      · right
        rw [Nat.zero_mul, Nat.add_zero]
        exact (hkd.out 0 (by omega)).2.2
    case round =>
      obtain ⟨i, rest, rs, v, rfl, hlen, hfu, hx⟩ := hrel
      obtain ⟨hrow, hrs, hmat, hkp, hfat, hHr, hs1, hs2⟩ := hx.out
      obtain ⟨q0, q1, q2, q3, q4, qf⟩ := id hrow.five
      have hbox : wr.cell? ⟨w.heap.size, 4, none⟩ = some (.slice a2 kl c2) := hkp.cell ((hcx.out.2.1.cell (p := ⟨w.heap.size, 4, none⟩) (by show w.heap.size < _; omega)).trans HX4.out) (.inl (by omega))
      obtain ⟨va, vc, rfl⟩ := own_shape hrow.own
      rw [hrs] at q4 hx hrow
      have HROW := Fact.mk hrow
      have HKP := Fact.mk hkp
      have HMAT := Fact.mk hmat
      have HRS := Fact.mk hrs
      cases rest with
      | nil =>
        have hi : i = kl := by have : i + 0 = kl := hlen; omega
        clear hx hfat hHr hs1 hs2 hlen hfu hrow hkp hmat hrs HH HSL HSZ
        have hR : Five wr (w.heap.size + 1) (.int .i64 0) (.string ⟨#[]⟩) (.string ⟨#[]⟩) (.slice none 0 0) (.slice none 0 0) := (HR0.out.same (hcx.out.2.1.block _ (by omega))).same (HKP.out.block _ (by omega) (.inl (by omega)))
        obtain ⟨r0, r1, r2, r3, r4, rfz⟩ := id hR
        have rf0 := rfz 0
        have rf1 := rfz 1
        have rf2 := rfz 2
        have rf3 := rfz 3
        have rf4 := rfz 4
        have HR := Fact.mk hR
        subst hi
        clear rfz qf hR
        go_wp2_with fail
        have hR := HR.out
        obtain ⟨W5, hW5⟩ : ∃ W5, ((((wr.setCell ⟨w.heap.size + 1, 0, none⟩ (.int .i64 K)).setCell ⟨w.heap.size + 1, 1, none⟩ (.string N)).setCell ⟨w.heap.size + 1, 2, none⟩ (.string X)).setCell ⟨w.heap.size + 1, 3, none⟩ (.slice b1 b2 b3)).setCell ⟨w.heap.size + 1, 4, none⟩ (.slice va i vc) = W5 := ⟨_, rfl⟩
        have hoth : ∀ b, b ≠ w.heap.size + 1 → W5.heap[b]? = wr.heap[b]? := fun b hb => by rw [← hW5]; exact five_other _ _ hb _ _ _ _ _
        have hz5 : W5.heap.size = wr.heap.size := by rw [← hW5]; simp [World.setCell]
        have hBr : Below w.heap.size w wr := (HB0.out.trans (hcx.out.2.1.mono (by omega))).trans ((HKP.out.below (by omega)).mono (by omega))
        have hB5 : Below w.heap.size w W5 := ⟨by rw [← hW5]; exact hBr.os, by rw [← hW5]; exact hBr.tape, by rw [← hW5]; exact hBr.output, by rw [hz5]; exact hBr.size, fun k hk => (hoth k (by omega)).trans (hBr.block k hk)⟩
        have h5 := five_all hR (.int .i64 K) (.string N) (.string X) (.slice b1 b2 b3) (.slice va i vc)
        rw [hW5] at h5
        rw [hW5]
        refine bodyPost_ret (v := nodeV ⟨K, N, X, A⟩ (.slice b1 b2 b3) (.slice va i vc)) (by simp [results, Try.f15, go_sem, h5.c0, h5.c1, h5.c2, h5.c3, h5.c4]) rfl ⟨_, _, rfl, hB5, ?_, ?_⟩
        · refine ((hcx.out.2.2.2.inn.like (w' := W5) (fun b hb hz => ?_)).mono (fun b hb => by have := hb.1.1; omega))
          exact (hoth b (by have := hb.1.1; omega)).trans (HKP.out.block b hz (by have := hb.1.2; omega))
        · have hsz := HROW.out.size
          exact FL.mat HMAT.out ((HROW.out.out.like (w' := W5) (fun b hb hz => hoth b (by have := hb.1; omega))).mono (fun b hb => by have := hb.1; omega))
      | node xb xo d' k' r' =>
        have hlen' : i + (r'.len + 1) = kl := hlen
        have hfu' : r'.len + 1 ≤ gk := hfu
        obtain ⟨g', rfl⟩ : ∃ g', gk = g' + 1 := ⟨gk - 1, by omega⟩
        have hlt2 : i < kl := by omega
        obtain ⟨ea2, hbk, _⟩ := hkd.out i hlt2
        subst ea2
        obtain ⟨hP, hHr'⟩ := hHr
        have hfat' := hfat.resolve_left (by show ¬ r'.len + 1 = 0; omega)
        obtain ⟨⟨av', ka', kc', e0, e1, e2, e3, e4, hav', h4, h5, hkk⟩, hrr⟩ := hfat'
        have hBr : Below w.heap.size w wr := (HB0.out.trans (hcx.out.2.1.mono (by omega))).trans ((HKP.out.below (by omega)).mono (by omega))
        have hlk : Like (Old n) w wr.drew := like_below (hBr.mono hn).drew
        obtain ⟨x1, x2, x3, ex⟩ := hav'.val
        subst ex
        obtain ⟨kl', hkl'⟩ : ∃ kl', k'.len = kl' := ⟨_, rfl⟩
        have l0 := (hBr.cell (p := ⟨bk, ok + i * 5, none⟩) (by show bk < _; omega)).trans e0
        have l1 := (hBr.cell (p := ⟨bk, ok + i * 5 + 1, none⟩) (by show bk < _; omega)).trans e1
        have l2 := (hBr.cell (p := ⟨bk, ok + i * 5 + 2, none⟩) (by show bk < _; omega)).trans e2
        have l3 := (hBr.cell (p := ⟨bk, ok + i * 5 + 3, none⟩) (by show bk < _; omega)).trans e3
        have l4 := (hBr.cell (p := ⟨bk, ok + i * 5 + 4, none⟩) (by show bk < _; omega)).trans e4
        have hcall := hP d' (.slice x1 x2 x3) (.slice ka' k'.len kc') n wr.drew ⟨hav'.like hlk, FL.like hlk ⟨ka', kc', rfl, h4, h5, hkk⟩⟩ (Nat.le_trans hn hBr.size) (by simp only [BT.slots] at hs1; omega) (by simp only [BT.size] at hs2; omega)
        rw [hkl'] at hcall l4
        have HCALL := Fact.mk hcall
        have HR : Fact ((r'.len = 0 ∨ FAt (Old n) w r' bk (ok + (i + 1) * 5)) ∧ Hered CopyP r' ∧ r'.slots ≤ 1000000 ∧ r'.size ≤ 1000000) := ⟨.inr (by rw [show ok + (i + 1) * 5 = ok + i * 5 + 5 by omega]; exact hrr), hHr', by simp only [BT.slots] at hs1; omega, by simp only [BT.size] at hs2; omega⟩
        have j1 : (i : Int) < kl := by omega
        have j3 : (0 : Int) ≤ i := by omega
        have hkl6 : i + 1 ≤ 1000000 := by have := HSZ.out; have := HKL.out; have := len_size k; omega
        have hYr : Y < wr.heap.size := by have := HROW.out.size; omega
        have hwr : wc.heap.size ≤ wr.heap.size := HROW.out.size
        obtain ⟨i0, hii, hzz0, hzz1, hzz2⟩ := info_parts infoN
        clear hx hfat hP hHr' hs1 hs2 hrr hkk hav' hcall hlk e0 e1 e2 e3 e4 hkd hlen hfu hrow hkp hmat hrs qf HR0 HL HH
        go_wp2_with fail
        go_region_law (first
          | (refine wp_append_at _ (.tmp 23) (.tmp 30) 23 rfl wc.heap.size 25 i0 (.agg #[.int .i64 0, .string ⟨#[]⟩, .string ⟨#[]⟩, .slice none 0 0, .slice none 0 0]) 5 88 Try.underlying23 hii hzz0 hzz1 hzz2 rfl (by decide) (.slice va i vc) i (rowF rs) (by simp [Act.eval]) (HO2.out.alloc _) ⟨w2.heap.size, 0, none⟩ 1 1 [.int .i64 d'.k, .string d'.n, .string d'.x, .slice y1 y2 y3, .slice z1 kl' z3] (by simp [Act.eval]) rfl (cell_five_new _ _ _ _ _ _ _) (by simp [Value.oneCell']) (by unfold maxLen; omega) (by omega) (by simp; omega) ?_; intro v3 w3 hown3 hgrow3 hat3; obtain ⟨g2, cap2, rfl, hg2⟩ := own_succ hown3; have HO3 := Fact.mk hown3; have HG3 := Fact.mk hgrow3; have HAT3 := Fact.mk hat3; clear hown3 hgrow3 hat3; have hT3 : w3.heap[Y]? = wr.heap[Y]? := (HG3.out.block Y (by simp; omega) (fun e => by have := (HROW.out.blk Y e).1; omega)).trans ((Below.heap_alloc _ _ _ (by omega)).trans (HB2.out.block Y hYr)); have s4 := (HROW.out.five.same hT3).c4; have t4 := (HROW.out.five.same hT3).fz 4; clear hT3)
          | (go_simp; go_at_call 15; refine HCALL.out.mono ?_; rintro e w2 ⟨av2, kv2, rfl, hb2, has2, hfl2⟩; obtain ⟨y1, y2, y3, ey⟩ := has2.val; subst ey; obtain ⟨z1, z3, ez⟩ := hfl2.val; rw [hkl'] at ez; subst ez; have m4 : w2.cell? ⟨Y, 4, none⟩ = some (.slice va i vc) := (hb2.cell (p := ⟨Y, 4, none⟩) hYr).trans q4; have m6 : ∀ o, (w2.alloc o).cell? ⟨Y, 4, none⟩ = some (.slice va i vc) := fun o => (World.cell?_alloc_lt _ _ _ (World.block_lt_of_cell? w2 _ m4)).trans m4; have hz2 : wr.heap.size ≤ w2.heap.size := hb2.size; have HO2 : Fact (w2.ownsRow wc.heap.size 25 5 (.slice va i vc) i (rowF rs)) := ⟨own_like (HRS.out ▸ HROW.out.own) (fun k hk hz => hb2.block k hz)⟩; have HB2 := Fact.mk hb2; have HA2 := Fact.mk has2; have HF2 := Fact.mk hfl2; clear hb2 has2 hfl2))
        all_goals
          clear m4 m6 HCALL
          go_wp2_with fail
          go_roundg g'
          case measure => omega
          case rel =>
            refine ⟨i + 1, r', rs ++ [⟨d', k', .slice y1 y2 y3, .slice z1 kl' z3⟩], _, by go_num, by omega, by omega, ⟨HROW.out.step (r := ⟨d', k', .slice y1 y2 y3, .slice z1 kl' z3⟩) HB2.out.size (fun b _ hz => HB2.out.block b hz) HA2.out (by rw [← hkl']; exact hkl' ▸ HF2.out) (by rw [HRS.out]; exact HO3.out) HG3.out HAT3.out, by rw [List.length_append, HRS.out]; rfl, HMAT.out.snoc _ _ _ _, HROW.out.keep HKP.out ⟨HB2.out.os, HB2.out.tape, HB2.out.output, HB2.out.size, HB2.out.block⟩ HG3.out, HR.out.1, HR.out.2.1, HR.out.2.2.1, HR.out.2.2.2⟩⟩
theorem copy_any (k : M.F) : CopyP k := indH copy_step k
end Go.Proofs.Ytkojhgagkoeeiaa
