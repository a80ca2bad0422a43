/- Sub: a node of a number, with all in it, in new memory. -/
import Derived.Test.YtjjkidenlgghkaaWhole
import Derived.Test.YtjjkidenlgghkaaSubM
import Derived.Test.YtjjkidenlgghkaaWayTo2
import Derived.Test.YtjjkidenlgghkaaAwake
set_option linter.unusedVariables false
set_option linter.unusedSimpArgs false
namespace Go.Proofs.Ytjjkidenlgghkaa
open Go.Deep (BT)
open Go.RowKit M

theorem found_sub {n₀ : Nat} {w w' : World} {id : Int} {d : Nd} {k : M.F} {v : Value} (h : Found2 n₀ w id (evT d k) w' v) : ∃ (i : Nat) (d' : Nd) (k' : M.F) (av' : Value) (ka : Option Addr) (kc g m cap : Nat), id = i ∧ M.sub (.cons d k .nil) i = some (d', k') ∧ v = .slice (some ⟨g, 0, none⟩) (m + 1) cap ∧ m + 1 ≤ cap ∧ cap ≤ maxLen ∧ m ≤ 1000000 ∧
    w'.cell? ⟨g, m * 8, none⟩ = some (.int .i64 d'.k) ∧ w'.cell? ⟨g, m * 8 + 1, none⟩ = some (.string d'.n) ∧ w'.cell? ⟨g, m * 8 + 2, none⟩ = some (.string d'.x) ∧ w'.cell? ⟨g, m * 8 + 3, none⟩ = some av' ∧ w'.cell? ⟨g, m * 8 + 4, none⟩ = some (.slice ka k'.len kc) ∧
    AS (Old n₀) w' av' d'.ats ∧ FL (Old n₀) w' (.slice ka k'.len kc) k' := by
  obtain ⟨_, pre, x, L, g, cap, base, h1, h2, h3, h4, h5, h6, h7, h8, h9, h10⟩ := h
  cases L with
  | nil => exact absurd rfl h5
  | cons f L =>
    have hx : x ∈ evT d k := h1.subset (List.mem_append_right _ List.mem_cons_self)
    obtain ⟨s, hs1, hs2, hs3, hs4⟩ := ev_sub _ _ _ _ x hx
    have hw : x.way = wayOf L ++ [f.s] := by rw [← h4]; rfl
    rw [hw] at hs1
    simp only [List.getLast?_append, List.getLast?_singleton, Option.some_or, Option.some.injEq] at hs1
    subst hs1
    have hid : (f.s.id : Int) = id := by
      rw [← h3]
      unfold lastId
      rw [hw]
      simp
    subst h6
    have hc := own8_at (m := L.length) h8 rfl
    obtain ⟨q1, q2, q3, q4, q5, q6⟩ := hc
    have hok := h9.1
    rw [Nat.sub_zero] at hs4
    refine ⟨f.s.id, f.s.d, f.s.k, f.av, f.ka, f.kc, g, L.length, cap, hid.symm, hs4, rfl, q5, q6, by simp only [List.length_cons] at h10; omega, ?_, ?_, ?_, ?_, ?_, hok.at_, hok.kids⟩
    · exact q1 0 _ rfl
    · exact q1 1 _ rfl
    · exact q1 2 _ rfl
    · exact q1 3 _ rfl
    · exact q1 4 _ rfl
theorem none_sub {d : Nd} {k : M.F} {id : Int} (h : ∀ y ∈ evT d k, (lastId y : Int) ≠ id) (i : Nat) (hi : id = i) : k.size + 1 ≤ i := by
  by_cases hlt : i < k.size + 1
  · obtain ⟨x, hx, s, h1, h2⟩ := ev_all (.cons d k .nil) [] 0 0 i (by simp only [BT.size]; omega)
    have := h x hx
    unfold lastId at this
    rw [h1] at this
    simp only at this
    omega
  · omega
abbrev zeroN : Nd := ⟨0, ⟨#[]⟩, ⟨#[]⟩, []⟩

set_option maxRecDepth 100000 in
set_option maxHeartbeats 2000000 in
theorem sub_any (d : Nd) (k : M.F) (av kv : Value) (id : Int) (w : World) (h : Lies w.heap.size w d k av kv) (hk : k.depth + 1 ≤ 1000000) (hs : k.size + 1 ≤ 1000000) (hsl : d.ats.length + k.slots ≤ 1000000) :
    Calls Try.prog 22 #[nodeV d av kv, .int .i64 id] w fun e w' => Below w.heap.size w w' ∧
      ((∃ (i : Nat) (d' : Nd) (k' : M.F) (av' kv' : Value), id = i ∧ M.sub (.cons d k .nil) i = some (d', k') ∧ e = .returned (.tuple #[nodeV d' av' kv', .bool true]) ∧ Lies w'.heap.size w' d' k' av' kv') ∨
       ((∀ i : Nat, id = i → k.size + 1 ≤ i) ∧ e = .returned (.tuple #[nodeV zeroN (.slice none 0 0) (.slice none 0 0), .bool false]))) := by
  obtain ⟨W, hW⟩ : ∃ W, (w.alloc (.cells #[.int .i64 d.k, .string d.n, .string d.x, av, kv] 25)).alloc (.cells #[.int .i64 0, .string ⟨#[]⟩, .string ⟨#[]⟩, .slice none 0 0, .slice none 0 0] 25) = W := ⟨_, rfl⟩
  have hb1 := (Below.refl w.heap.size w).alloc (Nat.le_refl _) (.cells #[.int .i64 d.k, .string d.n, .string d.x, av, kv] 25)
  have hbW : Below w.heap.size w W := by rw [← hW]; exact hb1.alloc hb1.size _
  have hzW : W.heap.size = w.heap.size + 1 + 1 := by rw [← hW]; simp
  have hF1 : Five W w.heap.size (.int .i64 d.k) (.string d.n) (.string d.x) av kv := by
    rw [← hW]
    exact (Five.new w _ _ _ _ _ _).same (Below.heap_alloc _ _ _ (by simp))
  have hF2 : Five W (w.heap.size + 1) (.int .i64 0) (.string ⟨#[]⟩) (.string ⟨#[]⟩) (.slice none 0 0) (.slice none 0 0) := by
    have := Five.new (w.alloc (.cells #[.int .i64 d.k, .string d.n, .string d.x, av, kv] 25)) (.int .i64 0) (.string ⟨#[]⟩) (.string ⟨#[]⟩) (.slice none 0 0) (.slice none 0 0) 25
    rw [hW] at this
    simpa using this
  have hL : Lies w.heap.size W d k av kv := h.below hbW
  obtain ⟨K, N, X, A⟩ := d
  have HW := Fact.mk hW
  have HL := Fact.mk hL
  obtain ⟨a1, ac, eav, _⟩ := hL.a
  obtain ⟨ka0, kc0, ekv, _⟩ := hL.f
  subst eav ekv
  have c0 := hF1.c0
  have c1 := hF1.c1
  have c2 := hF1.c2
  have c3 := hF1.c3
  have c4 := hF1.c4
  have HBW := Fact.mk hbW
  have HF2 := Fact.mk hF2
  have HZ := Fact.mk hzW
  clear hW h hL hF1 hF2 hb1 hbW hzW
  go_enter Try.func22, Try.ntmps22
  go_wp2_with (rw [HW.out]; clear HW)
  refine ((callsIn_wide (n := 4)).1 (wayTo_n w.heap.size 4 (by omega) ⟨K, N, X, A⟩ k _ _ id W HBW.out.size HL.out.a HL.out.f hk (by omega))).mono ?_
  rintro e w3 ⟨hb3, hcase⟩
  have hR : Five w3 (w.heap.size + 1) (.int .i64 0) (.string ⟨#[]⟩) (.string ⟨#[]⟩) (.slice none 0 0) (.slice none 0 0) := HF2.out.same (hb3.block _ (by have := HZ.out; omega))
  have hB3 : Below w.heap.size w w3 := HBW.out.trans (hb3.mono HBW.out.size)
  have hz3 : w.heap.size + 1 < w3.heap.size := by have := HZ.out; have := hb3.size; omega
  clear c0 c1 c2 c3 c4
  rcases hcase with ⟨v, rfl, hF⟩ | ⟨rfl, hno⟩
  · obtain ⟨i, d', k', av', ka, kc, g, m, cap, hid, hsub, rfl, m1, m2, m3, t0, t1, t2, t3, t4, ha, hf⟩ := found_sub hF
    have hq : ∀ Wx, (binOp .eql 58 (.slice (some ⟨g, 0, none⟩) (m + 1) cap) (.slice none 0 0)).run Try.prog Wx = .ok (.bool false) Wx := fun Wx => eqNil Try.underlying58 _ _ _ Wx
    have hbd := sub_bd _ _ _ _ hsub
    simp only [BT.size, BT.depth, BT.slots] at hbd
    have HA2 := Fact.mk (show AS (fun b => b < w3.heap.size ∧ b ≠ w.heap.size + 1) w3 av' d'.ats from ha.mono (fun b (hb : b < w.heap.size) => ⟨by omega, by omega⟩))
    have HF3 := Fact.mk (show FL (fun b => b < w3.heap.size ∧ b ≠ w.heap.size + 1) w3 (.slice ka k'.len kc) k' from hf.mono (fun b (hb : b < w.heap.size) => ⟨by omega, by omega⟩))
    obtain ⟨a2, ac2, eav2, _⟩ := ha
    subst eav2
    obtain ⟨kl, hkl⟩ : ∃ kl, Fact (k'.len = kl) := ⟨_, ⟨rfl⟩⟩
    rw [hkl.out] at t4 HF3
    obtain ⟨al, hal⟩ : ∃ al, Fact (d'.ats.length = al) := ⟨_, ⟨rfl⟩⟩
    rw [hal.out] at t3 HA2
    have HID := Fact.mk hid
    have HSUB := Fact.mk hsub
    obtain ⟨K', N', X', A'⟩ := d'
    have HR := Fact.mk hR
    have HB3 := Fact.mk hB3
    have p1 : (0 : Int) ≤ m := by omega
    have p2 : (m : Int) < m + 1 := by omega
    have q1 : k'.size + 1 ≤ 1000000 := by omega
    have q2 : A'.length + k'.slots ≤ 1000000 := by simp only at hbd; omega
    have HZ3 := Fact.mk hz3
    clear hF hf hid hsub hbd hb3 hR hB3 HF2 HL HZ HBW hz3
    simp only at t0 t1 t2
    go_wp2_with (go_at_call 37; refine (whole_any (w.heap.size + 1) ⟨K', N', X', A'⟩ k' _ _ w3 HZ3.out HA2.out HF3.out q1 q2).mono ?_; rintro e w4 ⟨hb4, av4, kv4, rfl, ha4, hf4⟩; have HA4 := Fact.mk ha4; have HF4 := Fact.mk hf4; obtain ⟨x1, x2, ex, _⟩ := ha4; obtain ⟨y1, y2, ey, _⟩ := hf4; subst ex ey; have hR4 := HR.out.same (hb4.block _ HZ3.out); have r0 := hR4.c0; have r1 := hR4.c1; have r2 := hR4.c2; have r3 := hR4.c3; have r4 := hR4.c4; have rf0 := hR4.fz 0; have rf1 := hR4.fz 1; have rf2 := hR4.fz 2; have rf3 := hR4.fz 3; have rf4 := hR4.fz 4; have HR4 := Fact.mk hR4; clear hR4 HR)
    obtain ⟨W5, hW5⟩ : ∃ W5, ((((w4.setCell ⟨w.heap.size + 1, 0, none⟩ (.int .i64 K')).setCell ⟨w.heap.size + 1, 1, none⟩ (.string N')).setCell ⟨w.heap.size + 1, 2, none⟩ (.string X')).setCell ⟨w.heap.size + 1, 3, none⟩ (.slice x1 A'.length x2)).setCell ⟨w.heap.size + 1, 4, none⟩ (.slice y1 k'.len y2) = W5 := ⟨_, rfl⟩
    have hoth : ∀ b, b ≠ w.heap.size + 1 → W5.heap[b]? = w4.heap[b]? := fun b hb => by rw [← hW5]; exact five_other _ _ hb _ _ _ _ _
    have hz5 : W5.heap.size = w4.heap.size := by rw [← hW5]; simp [World.setCell]
    have hBr := HB3.out.trans (hb4.mono HB3.out.size)
    have hB5 : Below w.heap.size w W5 := ⟨by rw [← hW5]; exact hBr.os, by rw [← hW5]; exact hBr.tape, by rw [← hW5]; exact hBr.output, by rw [hz5]; exact hBr.size, fun k hk => (hoth k (by omega)).trans (hBr.block k hk)⟩
    have h5 := five_all HR4.out (.int .i64 K') (.string N') (.string X') (.slice x1 A'.length x2) (.slice y1 k'.len y2)
    rw [hW5] at h5
    rw [hW5]
    have hlk : Like (fun b => b < w4.heap.size ∧ b ≠ w.heap.size + 1) w4 W5 := fun b hb _ => hoth b hb.2
    refine bodyPost_ret (v := .tuple #[nodeV ⟨K', N', X', A'⟩ (.slice x1 A'.length x2) (.slice y1 k'.len y2), .bool true]) (by simp [results, Try.f22, go_sem, h5.c0, h5.c1, h5.c2, h5.c3, h5.c4]) rfl ⟨hB5, .inl ⟨i, _, k', _, _, HID.out, HSUB.out, rfl, ?_, ?_⟩⟩
    · exact (HA4.out.like hlk).mono (fun b hb => by show b < W5.heap.size; rw [hz5]; exact hb.1)
    · exact (HF4.out.like hlk).mono (fun b hb => by show b < W5.heap.size; rw [hz5]; exact hb.1)
  · have hq : ∀ Wx, (binOp .eql 58 (.slice none 0 0) (.slice none 0 0)).run Try.prog Wx = .ok (.bool true) Wx := fun Wx => eqNil Try.underlying58 _ _ _ Wx
    have r0 := hR.c0
    have r1 := hR.c1
    have r2 := hR.c2
    have r3 := hR.c3
    have r4 := hR.c4
    have rf0 := hR.fz 0
    have rf1 := hR.fz 1
    have rf2 := hR.fz 2
    have rf3 := hR.fz 3
    have rf4 := hR.fz 4
    have HR := Fact.mk hR
    have HB3 := Fact.mk hB3
    have HNO := Fact.mk hno
    clear hR hb3 hB3 HF2 HL HZ HBW hno
    go_wp2_with fail
    obtain ⟨W5, hW5⟩ : ∃ W5, ((((w3.setCell ⟨w.heap.size + 1, 0, none⟩ (.int .i64 0)).setCell ⟨w.heap.size + 1, 1, none⟩ (.string ⟨#[]⟩)).setCell ⟨w.heap.size + 1, 2, none⟩ (.string ⟨#[]⟩)).setCell ⟨w.heap.size + 1, 3, none⟩ (.slice none 0 0)).setCell ⟨w.heap.size + 1, 4, none⟩ (.slice none 0 0) = W5 := ⟨_, rfl⟩
    have hoth : ∀ b, b ≠ w.heap.size + 1 → W5.heap[b]? = w3.heap[b]? := fun b hb => by rw [← hW5]; exact five_other _ _ hb _ _ _ _ _
    have hz5 : W5.heap.size = w3.heap.size := by rw [← hW5]; simp [World.setCell]
    have hBr := HB3.out
    have hB5 : Below w.heap.size w W5 := ⟨by rw [← hW5]; exact hBr.os, by rw [← hW5]; exact hBr.tape, by rw [← hW5]; exact hBr.output, by rw [hz5]; exact hBr.size, fun k hk => (hoth k (by omega)).trans (hBr.block k hk)⟩
    have h5 := five_all HR.out (.int .i64 0) (.string ⟨#[]⟩) (.string ⟨#[]⟩) (.slice none 0 0) (.slice none 0 0)
    rw [hW5] at h5
    rw [hW5]
    exact bodyPost_ret (v := .tuple #[nodeV zeroN (.slice none 0 0) (.slice none 0 0), .bool false]) (by simp [results, Try.f22, go_sem, h5.c0, h5.c1, h5.c2, h5.c3, h5.c4]) rfl ⟨hB5, .inr ⟨fun i hi => none_sub HNO.out i hi, rfl⟩⟩
end Go.Proofs.Ytjjkidenlgghkaa
