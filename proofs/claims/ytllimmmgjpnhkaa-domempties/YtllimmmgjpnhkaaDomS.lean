/- Tree of a Dom that holds one node without kids. -/
import Derived.Test.YtllimmmgjpnhkaaDomZ
import Derived.Deep.LoopGhost
set_option linter.unusedVariables false
set_option linter.unusedSimpArgs false
namespace Go.Proofs.Ytllimmmgjpnhkaa
open Go.Deep (BT)
open Go.RowKit M

set_option maxRecDepth 20000 in
set_option maxHeartbeats 4000000 in
theorem dwhole_bare (L : List DN) (B p mb i : Nat) (v : Value) (w : World) (x : Int) (y : DN) (h : Arena w B p L v mb) (hx : Is64 x) (hp : placeOf L x = some (i : Int)) (hi : L[i]? = some y) (hk : y.kids = []) (hm : y.d.ats.length ≤ 1000000) :
    Calls Try.prog 68 #[.pointer (some ⟨p, 0, none⟩), .int .i64 x] w fun e w' => ∃ v', e = .returned (nodeV y.d v' (.slice none 0 0)) ∧ w'.ownsRow w.heap.size 97 2 v' y.d.ats.length (rowA y.d.ats) ∧ Below w.heap.size w w' := by
  have HA := Fact.mk h
  have HP := Fact.mk hp
  have HI := Fact.mk hi
  have hats := h.ats y (List.mem_of_getElem? hi)
  obtain ⟨ka, kc, ek, _⟩ := own_val (h.kids y (List.mem_of_getElem? hi))
  obtain ⟨aa, ac, ea, _⟩ := own_val hats
  have HAT := Fact.mk hats
  obtain ⟨id, par, kids, ⟨K, N, X, A⟩, kv, av⟩ := y
  dsimp only at ek ea hk hm ⊢
  subst hk
  dsimp only [List.length_nil] at ek
  subst ek ea
  clear h hp hi hats
  go_enter Try.func68, Try.ntmps68
  go_wp2_with fail
  obtain ⟨W, hW⟩ : ∃ W, w.alloc (.cells #[.int .i64 0, .string ⟨#[]⟩, .string ⟨#[]⟩, .slice none 0 0, .slice none 0 0] 25) = W := ⟨_, rfl⟩
  obtain ⟨hz, hB, hnew⟩ := five_one hW
  rw [hW]
  have HBW := Fact.mk hB
  have HZ := Fact.mk hz
  have HNEW := Fact.mk hnew
  refine (dnode_any L B p mb v _ x i _ (HA.out.below hB (Nat.le_refl _)) hx HP.out HI.out).mono ?_
  rintro e w1 ⟨rfl, hb1⟩
  have HB1 := Fact.mk hb1
  have hB1 : Below w.heap.size w w1 := hB.trans (hb1.mono hB.size)
  have HBB1 := Fact.mk hB1
  clear hb1 hB hz hnew hW
  dsimp only [valN]
  go_wp2_with fail
  obtain ⟨W2, hW2⟩ : ∃ W2, w1.alloc (.cells #[.int .i64 id, .int .i64 par, .slice ka 0 kc, .int .i64 K, .string N, .string X, .slice aa A.length ac, .slice none 0 0] 89) = W2 := ⟨_, rfl⟩
  rw [hW2]
  have hW2b : Below w1.heap.size w1 W2 := by rw [← hW2]; exact (Below.refl _ w1).alloc (Nat.le_refl _) _
  have hnode : W2.heap[w1.heap.size]? = some (.cells #[.int .i64 id, .int .i64 par, .slice ka 0 kc, .int .i64 K, .string N, .string X, .slice aa A.length ac, .slice none 0 0] 89) := by rw [← hW2]; exact World.alloc_heap_new _ _
  have hsz2 : W2.heap.size = w1.heap.size + 1 := by rw [← hW2]; simp
  have hBW2 : Below w.heap.size w W2 := HBB1.out.trans (hW2b.mono HBB1.out.size)
  refine (bare_any ⟨K, N, X, A⟩ (.slice aa A.length ac) none 0 0 _ (RowOn.own (own_below HAT.out hBW2 (Nat.le_refl _)) (rowA_one _)) hm).mono ?_
  rintro e w3 ⟨v', rfl, hown, hb3⟩
  obtain ⟨va, vc, ev, _⟩ := own_val hown
  dsimp only at ev
  subst ev
  have k3 : w3.heap[w1.heap.size]? = W2.heap[w1.heap.size]? := hb3.block _ (by omega)
  have c2 : w3.cell? ⟨w1.heap.size, 2, none⟩ = some (.slice ka 0 kc) := by simp [World.cell?, k3, hnode]
  have kz : w3.heap[w.heap.size]? = W.heap[w.heap.size]? := by
    have h1 := HB1.out.size
    have h2 := HZ.out
    rw [hb3.block _ (by omega), hW2b.block _ (by omega), HB1.out.block _ (by omega)]
  obtain ⟨b0, b1, b2, b3, b4, fb⟩ := five_at (kz.trans HNEW.out)
  have kz9 := Fact.mk (kz.trans HNEW.out)
  have HO := Fact.mk hown
  have HB3 : Fact (Below w.heap.size w w3) := ⟨hBW2.trans (hb3.mono hBW2.size)⟩
  have S3 : Fact (W2.heap.size ≤ w3.heap.size ∧ w.heap.size < w1.heap.size ∧ w1.heap.size < W2.heap.size) := ⟨hb3.size, by have h1 := HB1.out.size; have h2 := HZ.out; omega, by omega⟩
  clear hW2 hW2b hnode hsz2 hBW2 hown hb3 k3 kz
  dsimp only [nodeV]
  go_upto_region 3 with fail
  obtain ⟨W4, hW4⟩ : ∃ W4, w3.alloc (.cells #[.int .i64 K, .string N, .string X, .slice va A.length vc, .slice none 0 0] 25) = W4 := ⟨_, rfl⟩
  obtain ⟨hz4, hB4, hnew4⟩ := five_one hW4
  rw [hW4]
  have d2 : W4.cell? ⟨w1.heap.size, 2, none⟩ = some (.slice ka 0 kc) := (World.cell?_of_block (w := w3) (a := ⟨w1.heap.size, 2, none⟩) (hB4.block w1.heap.size (by have := S3.out; omega))).trans c2
  obtain ⟨r0, r1, r2, r3, r4, fr⟩ := five_at ((hB4.block w.heap.size (by have := S3.out; omega)).trans kz9.out)
  obtain ⟨t0, t1, t2, t3, t4, ft⟩ := five_at hnew4
  have HB4 := Fact.mk hB4
  have HZ4 := Fact.mk hz4
  clear hW4 hB4 hnew4 hz4 c2 b0 b1 b2 b3 b4 fb
  go_wp2_with fail
  go_loopg [18] 0 (fun gf iv wr => iv = .int .i64 0 ∧ wr = W4)
  case atStart => exact ⟨rfl, rfl⟩
  case round =>
    obtain ⟨rfl, rfl⟩ := hrel
    go_wp2_with fail
    obtain ⟨w9, hw9⟩ : ∃ w9, ((((wr.setCell ⟨w.heap.size, 0, none⟩ (.int .i64 K)).setCell ⟨w.heap.size, 1, none⟩ (.string N)).setCell ⟨w.heap.size, 2, none⟩ (.string X)).setCell ⟨w.heap.size, 3, none⟩ (.slice va A.length vc)).setCell ⟨w.heap.size, 4, none⟩ (.slice none 0 0) = w9 := ⟨_, rfl⟩
    obtain ⟨⟨y0, y1, y2, y3, y4⟩, hb9, hk9⟩ := five_put (n := w.heap.size) (Nat.le_refl _) ((HB4.out.block w.heap.size (by have := S3.out; omega)).trans kz9.out) hw9
    rw [hw9]
    refine bodyPost_ret (v := .agg #[.int .i64 K, .string N, .string X, .slice va A.length vc, .slice none 0 0]) (by simp [results, Try.f68, go_sem, y0, y1, y2, y3, y4]) rfl ?_
    refine ⟨_, rfl, ?_, (HB3.out.trans (HB4.out.mono HB3.out.size)).trans hb9⟩
    have hs := S3.out
    have r1 := own_below HO.out HB4.out (Nat.le_refl _)
    refine own_base (own_same r1 (fun b hb hlt => hk9 b ?_)) (by omega)
    have := (r1.lt _ hb).1
    omega

set_option maxRecDepth 20000 in
set_option maxHeartbeats 4000000 in
theorem dTree_bare (L : List DN) (B p mb i : Nat) (v : Value) (w : World) (y : DN) (h : Arena w B p L v mb) (hp : placeOf L 0 = some (i : Int)) (hi : L[i]? = some y) (hk : y.kids = []) (hm : y.d.ats.length ≤ 1000000) :
    Calls Try.prog 24 #[.pointer (some ⟨p, 0, none⟩)] w fun e w' => ∃ v', e = .returned (nodeV y.d v' (.slice none 0 0)) ∧ w'.ownsRow w.heap.size 97 2 v' y.d.ats.length (rowA y.d.ats) ∧ Below w.heap.size w w' := by
  have HA := Fact.mk h
  have HP := Fact.mk hp
  have HI := Fact.mk hi
  have HK := Fact.mk hk
  have hx : Is64 0 := ⟨by decide⟩
  clear h hp hi hk
  go_enter Try.func24, Try.ntmps24
  go_wp2_with fail
  obtain ⟨W, hW⟩ : ∃ W, w.alloc (.cells #[.int .i64 0, .string ⟨#[]⟩, .string ⟨#[]⟩, .slice none 0 0, .slice none 0 0] 25) = W := ⟨_, rfl⟩
  obtain ⟨hz, hB, hnew⟩ := five_one hW
  rw [hW]
  refine (dwhole_bare L B p mb i v _ 0 y (HA.out.below hB (Nat.le_refl _)) hx HP.out HI.out HK.out hm).mono ?_
  rintro e w1 ⟨v', rfl, hown, hb1⟩
  obtain ⟨va, vc, ev, _⟩ := own_val hown
  subst ev
  obtain ⟨id, par, kids, ⟨K, N, X, A⟩, kv, av⟩ := y
  have c1 := (hb1.block w.heap.size (by omega)).trans hnew
  obtain ⟨a0, a1, a2, a3, a4, fa⟩ := five_at c1
  have C1 := Fact.mk c1
  have HO := Fact.mk hown
  have HZ := Fact.mk hz
  have HB : Fact (Below w.heap.size w w1) := ⟨hB.trans (hb1.mono hB.size)⟩
  clear hW hz hB hnew hown hb1 c1
  dsimp only [nodeV] at HO ⊢
  go_wp2_with fail
  obtain ⟨w9, hw9⟩ : ∃ w9, ((((w1.setCell ⟨w.heap.size, 0, none⟩ (.int .i64 K)).setCell ⟨w.heap.size, 1, none⟩ (.string N)).setCell ⟨w.heap.size, 2, none⟩ (.string X)).setCell ⟨w.heap.size, 3, none⟩ (.slice va A.length vc)).setCell ⟨w.heap.size, 4, none⟩ (.slice none 0 0) = w9 := ⟨_, rfl⟩
  obtain ⟨⟨y0, y1, y2, y3, y4⟩, hb9, hk9⟩ := five_put (n := w.heap.size) (Nat.le_refl _) C1.out hw9
  rw [hw9]
  refine bodyPost_ret (v := .agg #[.int .i64 K, .string N, .string X, .slice va A.length vc, .slice none 0 0]) (by simp [results, Try.f24, go_sem, y0, y1, y2, y3, y4]) rfl ?_
  refine ⟨_, rfl, ?_, HB.out.trans hb9⟩
  have hs := HZ.out
  refine own_base (own_same HO.out (fun b hb hlt => hk9 b ?_)) (by omega)
  have := (HO.out.lt _ hb).1
  omega
end Go.Proofs.Ytllimmmgjpnhkaa
