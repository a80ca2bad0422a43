/- New: a tree whose nodes have numbers. -/
import Derived.Test.YtllimmmgjpnhkaaDomR
import Derived.Test.YtllimmmgjpnhkaaAwake
set_option linter.unusedVariables false
set_option linter.unusedSimpArgs false
namespace Go.Proofs.Ytllimmmgjpnhkaa
open Go.Deep (BT)
open Go.RowKit M

theorem arena_0 (w : World) (B : Nat) (hB : B ≤ w.heap.size) : Arena ((w.alloc (.map #[] 0)).alloc (.cells #[.slice none 0 0, .map (some w.heap.size)] 70)) B (w.heap.size + 1) [] (.slice none 0 0) w.heap.size := by
  have hm : ((w.alloc (.map #[] 0)).alloc (.cells #[.slice none 0 0, .map (some w.heap.size)] 70)).heap[w.heap.size]? = (w.alloc (.map #[] 0)).heap[w.heap.size]? := Below.heap_alloc _ _ _ (by simp)
  refine ⟨?_, World.ownsRow_nil _ _ _ _, (fun _ h => by cases h), (fun _ h => by cases h), (fun _ _ _ _ _ h => by simp at h), (fun _ _ _ _ _ h => by simp at h), (MapI.made w).block hm, (by simp), ⟨by omega, hB⟩, (fun _ h => by cases h)⟩
  have := World.alloc_heap_new (w.alloc (.map #[] 0)) (.cells #[.slice none 0 0, .map (some w.heap.size)] 70)
  rw [World.size_alloc] at this
  exact this

set_option maxRecDepth 20000 in
set_option maxHeartbeats 4000000 in
theorem dNew_not (d : Nd) (k : M.F) (av kv : Value) (n : Nat) (w : World) (hl : Lies n w d k av kv) (hn : n ≤ w.heap.size) (hk : k.depth + 2 ≤ 1000000) (hno : treeOK d k = false) :
    Calls Try.prog 11 #[nodeV d av kv] w fun e w' => e = .returned (.tuple #[.pointer none, .int .i64 1]) ∧ Below w.heap.size w w' := by
  obtain ⟨Kd, N, X, A⟩ := d
  obtain ⟨a1, c1, rfl, _⟩ := id hl.a
  obtain ⟨a2, c2, rfl, _⟩ := id hl.f
  dsimp only
  obtain ⟨W, hW⟩ : ∃ W, w.alloc (.cells #[.int .i64 Kd, .string N, .string X, .slice a1 A.length c1, .slice a2 k.len c2] 25) = W := ⟨_, rfl⟩
  obtain ⟨hz, hbW, hnew⟩ := five_one hW
  obtain ⟨x0, x1, x2, x3, x4, _⟩ := five_at hnew
  have hck := check_at false ⟨hno⟩ hk (hl.below (hbW.mono hn)) (show n ≤ W.heap.size by omega)
  have HCK := Fact.mk hck
  have HBW := Fact.mk hbW
  clear hck hl hbW hnew hno
  go_enter Try.func11, Try.ntmps11
  go_wp2_with (go_at_call 25; refine HCK.out.mono ?_; rintro e w1 ⟨rfl, hb1⟩; have HB1 := Fact.mk hb1; clear hb1)
  go_ret2
  exact ⟨rfl, HBW.out.trans (HB1.out.mono HBW.out.size)⟩
set_option maxRecDepth 20000 in
set_option maxHeartbeats 4000000 in
theorem dNew_any (d : Nd) (k : M.F) (av kv : Value) (n : Nat) (w : World) (hl : Lies n w d k av kv) (hn : n ≤ w.heap.size) (hk : k.depth + 2 ≤ 1000000) (hok : treeOK d k = true) (hsz : k.size + 1 ≤ 1000) (hsl : d.ats.length + k.slots ≤ 100000) :
    Calls Try.prog 11 #[nodeV d av kv] w fun e w' => ∃ p mb L v, e = .returned (.tuple #[.pointer (some ⟨p, 0, none⟩), .int .i64 0]) ∧ Arena w' w.heap.size p L v mb ∧ Below w.heap.size w w' ∧ L.map pn = numF k (placeP [] d (-1)) 0 := by
  obtain ⟨Kd, N, X, A⟩ := d
  obtain ⟨a1, c1, rfl, _⟩ := id hl.a
  obtain ⟨a2, c2, rfl, _⟩ := id hl.f
  dsimp only
  obtain ⟨W, hW⟩ : ∃ W, w.alloc (.cells #[.int .i64 Kd, .string N, .string X, .slice a1 A.length c1, .slice a2 k.len c2] 25) = W := ⟨_, rfl⟩
  obtain ⟨hz, hbW, hnew⟩ := five_one hW
  obtain ⟨x0, x1, x2, x3, x4, _⟩ := five_at hnew
  have hck := check_at true ⟨hok⟩ hk (hl.below (hbW.mono hn)) (show n ≤ W.heap.size by omega)
  have HCK := Fact.mk hck
  have HBW := Fact.mk hbW
  have HL := Fact.mk hl
  have HNEW := Fact.mk hnew
  have HZ := Fact.mk hz
  have HSZ := Fact.mk hsz
  have HSL := Fact.mk hsl
  have hmm := @run_makeMap Try.prog
  clear hck hl hbW hnew hok hz hsz hsl
  go_enter Try.func11, Try.ntmps11
  go_wp2_with (go_at_call 25; refine HCK.out.mono ?_; rintro e w1 ⟨rfl, hb1⟩; have HB1 := Fact.mk hb1; have HN1 := Fact.mk ((hb1.block _ (by have := HZ.out; omega)).trans HNEW.out); clear hb1; have ha0 := arena_0 w1 w.heap.size (Nat.le_trans HBW.out.size HB1.out.size); obtain ⟨W3, hW3⟩ : ∃ W3, (w1.alloc (.map #[] 0)).alloc (.cells #[.slice none 0 0, .map (some w1.heap.size)] 70) = W3 := ⟨_, rfl⟩; rw [hW3] at ha0; have hb3 : Below w1.heap.size w1 W3 := (by rw [← hW3]; exact ((Below.refl _ _).alloc (Nat.le_refl _) _).alloc (by simp) _); have HA0 := Fact.mk ha0; have HB3 := Fact.mk hb3; have h33 := (hb3.block _ (by have := HZ.out; have := HB1.out.size; omega)).trans HN1.out; obtain ⟨z0, z1, z2, z3, z4, _⟩ := five_at h33; clear ha0 hb3 h33)
  have hcall := dnumber_any k ⟨Kd, N, X, A⟩ (.slice a1 A.length c1) (.slice a2 k.len c2) n W3 [] w.heap.size (w1.heap.size + 1) w1.heap.size (.slice none 0 0) (-1) ((HL.out.below (HBW.out.mono hn)).below ((HB1.out.trans (HB3.out.mono HB1.out.size)).mono (Nat.le_trans hn HBW.out.size))) HA0.out ⟨fun i x h => by simp at h, fun x h => by cases h⟩ hn (.inl rfl) (by have := HSZ.out; simp; omega) HSL.out
  refine hcall.mono ?_
  rintro e w4 ⟨rfl, L', v', hA', hT', hP'⟩
  have HEND : Fact (Arena w4 w.heap.size (w1.heap.size + 1) L' v' w1.heap.size ∧ Below w.heap.size w w4 ∧ L'.map pn = numF k (placeP [] ⟨Kd, N, X, A⟩ (-1)) 0) := ⟨hA', (HBW.out.trans (HB1.out.mono HBW.out.size)).trans ((HB3.out.mono (Nat.le_trans HBW.out.size HB1.out.size)).trans (hT'.below (fun k9 h9 => HA0.out.ge _ h9) (Nat.le_trans (Nat.le_trans HBW.out.size HB1.out.size) HB3.out.size))), hP'⟩
  clear hA' hT' hP' hcall
  go_wp2_with fail
  go_ret2
  exact ⟨_, _, L', v', rfl, HEND.out⟩
end Go.Proofs.Ytllimmmgjpnhkaa
