/- What is asked of an arena: bare, Kids, Node, Parent, Place, Within. -/
import Derived.Test.YtllimmmgjpnhkaaDomA
set_option linter.unusedVariables false
namespace Go.Proofs.Ytllimmmgjpnhkaa
open Go.Deep (BT)
open Go.RowKit M

theorem field_kids (w : World) (id par K : Int) (N X : ByteArray) (a1 a2 : Option Addr) (l1 c1 l2 c2 : Nat) :
    (Instr.field 89 (.agg #[.int .i64 id, .int .i64 par, .slice a1 l1 c1, .int .i64 K, .string N, .string X, .slice a2 l2 c2, .slice none 0 0]) 2).run Try.prog w = .ok (.slice a1 l1 c1) w := by kernel_rfl
theorem field_par (w : World) (id par K : Int) (N X : ByteArray) (a1 a2 : Option Addr) (l1 c1 l2 c2 : Nat) :
    (Instr.field 89 (.agg #[.int .i64 id, .int .i64 par, .slice a1 l1 c1, .int .i64 K, .string N, .string X, .slice a2 l2 c2, .slice none 0 0]) 1).run Try.prog w = .ok (.int .i64 par) w := by kernel_rfl
theorem field_self (w : World) (id par K : Int) (N X : ByteArray) (a1 a2 : Option Addr) (l1 c1 l2 c2 : Nat) :
    (Instr.field 89 (.agg #[.int .i64 id, .int .i64 par, .slice a1 l1 c1, .int .i64 K, .string N, .string X, .slice a2 l2 c2, .slice none 0 0]) 3).run Try.prog w = .ok (.agg #[.int .i64 K, .string N, .string X, .slice a2 l2 c2, .slice none 0 0]) w := by kernel_rfl
theorem own_below {w w' : World} {B n : Nat} {e : TypeId} {size : Nat} {u : Value} {m : Nat} {xs : List Value} (ho : w.ownsRow B e size u m xs) (hb : Below n w w') (hn : w.heap.size ≤ n) : w'.ownsRow B e size u m xs := by
  refine ⟨ho.1, ?_⟩
  rcases ho.2 with h0 | ⟨g, cap, cur, h1, h2, h3, h4⟩
  · exact .inl h0
  · exact .inr ⟨g, cap, cur, h1, h2, (hb.block g (by have := (Array.getElem?_eq_some_iff.1 h3).1; omega)).trans h3, h4⟩
theorem own_base {w : World} {B B' : Nat} {e : TypeId} {size : Nat} {u : Value} {m : Nat} {xs : List Value} (ho : w.ownsRow B e size u m xs) (hB : B' ≤ B) : w.ownsRow B' e size u m xs := by
  refine ⟨ho.1, ?_⟩
  rcases ho.2 with h0 | ⟨g, cap, cur, h1, h2, h3, h4⟩
  · exact .inl h0
  · exact .inr ⟨g, cap, cur, h1, by omega, h3, h4⟩
theorem Arena.below {w w' : World} {B p mb : Nat} {L : List DN} {v : Value} {n : Nat} (h : Arena w B p L v mb) (hb : Below n w w') (hn : w.heap.size ≤ n) : Arena w' B p L v mb := by
  have hk : ∀ k, k < w.heap.size → w'.heap[k]? = w.heap[k]? := fun k hk => hb.block k (by omega)
  have own : ∀ {e : TypeId} {size : Nat} {u : Value} {m : Nat} {xs : List Value}, w.ownsRow B e size u m xs → w'.ownsRow B e size u m xs := by
    intro e size u m xs ho
    refine ⟨ho.1, ?_⟩
    rcases ho.2 with h0 | ⟨g, cap, cur, h1, h2, h3, h4⟩
    · exact .inl h0
    · exact .inr ⟨g, cap, cur, h1, h2, (hk g (Array.getElem?_eq_some_iff.1 h3).1).trans h3, h4⟩
  obtain ⟨es, clock, hm⟩ := h.map.isMap
  exact ⟨(hk p (Array.getElem?_eq_some_iff.1 h.box).1).trans h.box, own h.row, fun x hx => own (h.kids x hx), fun x hx => own (h.ats x hx), h.kidsApart, h.atsApart, h.map.block (hk mb (Array.getElem?_eq_some_iff.1 hm).1), h.few, h.at', h.ids⟩

theorem RowOn.kept {w w' : World} {v : Value} {n size : Nat} {row : List Value} (h : RowOn w v n size row) (hg : w.grownBy w' none) : RowOn w' v n size row := by
  refine ⟨h.len, h.one, ?_⟩
  obtain ⟨a, cap, e, h1, h2, h3⟩ := h.at'
  refine ⟨a, cap, e, h1, h2, ?_⟩
  rcases h3 with h3 | ⟨ad, ea, hc⟩
  · exact .inl h3
  · exact .inr ⟨ad, ea, fun j u hu => hg.cell (hc j u hu) (by simp)⟩
theorem five_new {w W w2 : World} {t t2 : TypeId} {u0 u1 u2 u3 u4 v0 v1 v2 v3 v4 : Value} (hW : (w.alloc (.cells #[u0, u1, u2, u3, u4] t)).alloc (.cells #[v0, v1, v2, v3, v4] t2) = W) (hb : Below W.heap.size W w2) :
    W.heap.size = w.heap.size + 2 ∧ Below w.heap.size w W ∧ w.grownBy W none ∧ w2.heap[w.heap.size]? = some (.cells #[u0, u1, u2, u3, u4] t) ∧ w2.heap[w.heap.size + 1]? = some (.cells #[v0, v1, v2, v3, v4] t2) := by
  subst hW
  have g1 : w.grownBy ((w.alloc (.cells #[u0, u1, u2, u3, u4] t)).alloc (.cells #[v0, v1, v2, v3, v4] t2)) none := (World.grownBy_alloc w _ none).trans (World.grownBy_alloc _ _ none)
  refine ⟨by simp, ((Below.refl _ _).alloc (Nat.le_refl _) _).alloc (by simp) _, g1, ?_, ?_⟩
  · rw [hb.block _ (by simp; omega), Below.heap_alloc _ _ _ (by simp)]; exact World.alloc_heap_new w _
  · rw [hb.block _ (by simp)]
    have := World.alloc_heap_new (w.alloc (.cells #[u0, u1, u2, u3, u4] t)) (.cells #[v0, v1, v2, v3, v4] t2)
    rw [World.size_alloc] at this
    exact this
theorem five_at {w : World} {b : Nat} {t : TypeId} {u0 u1 u2 u3 u4 : Value} (h : w.heap[b]? = some (.cells #[u0, u1, u2, u3, u4] t)) :
    w.cell? ⟨b, 0, none⟩ = some u0 ∧ w.cell? ⟨b, 1, none⟩ = some u1 ∧ w.cell? ⟨b, 2, none⟩ = some u2 ∧ w.cell? ⟨b, 3, none⟩ = some u3 ∧ w.cell? ⟨b, 4, none⟩ = some u4 ∧ (∀ o, w.frozen? ⟨b, o, none⟩ = false) := by
  simp [World.cell?, World.frozen?, h]

theorem five_set {w w1 : World} {n X B : Nat} {a3 a4 u0 u1 u2 u3 u4 v0 v1 v2 v3 v4 : Value} {t : TypeId} (hX : B ≠ X) (hB : n ≤ B) (hn : n ≤ X) (h : w.heap[B]? = some (.cells #[u0, u1, u2, u3, u4] t))
    (e : ((((((w.setCell ⟨X, 3, none⟩ a3).setCell ⟨X, 4, none⟩ a4).setCell ⟨B, 0, none⟩ v0).setCell ⟨B, 1, none⟩ v1).setCell ⟨B, 2, none⟩ v2).setCell ⟨B, 3, none⟩ v3).setCell ⟨B, 4, none⟩ v4 = w1) :
    (w1.cell? ⟨B, 0, none⟩ = some v0 ∧ w1.cell? ⟨B, 1, none⟩ = some v1 ∧ w1.cell? ⟨B, 2, none⟩ = some v2 ∧ w1.cell? ⟨B, 3, none⟩ = some v3 ∧ w1.cell? ⟨B, 4, none⟩ = some v4) ∧
    Below n w w1 ∧ (∀ k, k ≠ B → k ≠ X → w1.heap[k]? = w.heap[k]?) := by
  have h0 : ((w.setCell ⟨X, 3, none⟩ a3).setCell ⟨X, 4, none⟩ a4).heap[B]? = some (.cells #[u0, u1, u2, u3, u4] t) := by
    rw [Below.heap_setCell _ _ _ _ hX, Below.heap_setCell _ _ _ _ hX]; exact h
  have h1 := set_heap6 (i := 4) (v := v4) (set_heap6 (i := 3) (v := v3) (set_heap6 (i := 2) (v := v2) (set_heap6 (i := 1) (v := v1) (set_heap6 (i := 0) (v := v0) h0))))
  rw [e] at h1
  refine ⟨?_, ?_, fun k k1 k2 => ?_⟩
  · simp [World.cell?, h1]
  · rw [← e]
    exact (((((((Below.refl n w).setCell (p := ⟨X, 3, none⟩) hn _).setCell (p := ⟨X, 4, none⟩) hn _).setCell (p := ⟨B, 0, none⟩) hB _).setCell (p := ⟨B, 1, none⟩) hB _).setCell (p := ⟨B, 2, none⟩) hB _).setCell (p := ⟨B, 3, none⟩) hB _).setCell (p := ⟨B, 4, none⟩) hB _
  · rw [← e]
    rw [Below.heap_setCell _ _ _ _ k1, Below.heap_setCell _ _ _ _ k1, Below.heap_setCell _ _ _ _ k1, Below.heap_setCell _ _ _ _ k1, Below.heap_setCell _ _ _ _ k1, Below.heap_setCell _ _ _ _ k2, Below.heap_setCell _ _ _ _ k2]

theorem five_put {w w1 : World} {n B : Nat} {u0 u1 u2 u3 u4 v0 v1 v2 v3 v4 : Value} {t : TypeId} (hB : n ≤ B) (h : w.heap[B]? = some (.cells #[u0, u1, u2, u3, u4] t))
    (e : ((((w.setCell ⟨B, 0, none⟩ v0).setCell ⟨B, 1, none⟩ v1).setCell ⟨B, 2, none⟩ v2).setCell ⟨B, 3, none⟩ v3).setCell ⟨B, 4, none⟩ v4 = w1) :
    (w1.cell? ⟨B, 0, none⟩ = some v0 ∧ w1.cell? ⟨B, 1, none⟩ = some v1 ∧ w1.cell? ⟨B, 2, none⟩ = some v2 ∧ w1.cell? ⟨B, 3, none⟩ = some v3 ∧ w1.cell? ⟨B, 4, none⟩ = some v4) ∧
    Below n w w1 ∧ (∀ k, k ≠ B → w1.heap[k]? = w.heap[k]?) := by
  have h1 := set_heap6 (i := 4) (v := v4) (set_heap6 (i := 3) (v := v3) (set_heap6 (i := 2) (v := v2) (set_heap6 (i := 1) (v := v1) (set_heap6 (i := 0) (v := v0) h))))
  rw [e] at h1
  refine ⟨?_, ?_, fun k k1 => ?_⟩
  · simp [World.cell?, h1]
  · rw [← e]
    exact (((((Below.refl n w).setCell (p := ⟨B, 0, none⟩) hB _).setCell (p := ⟨B, 1, none⟩) hB _).setCell (p := ⟨B, 2, none⟩) hB _).setCell (p := ⟨B, 3, none⟩) hB _).setCell (p := ⟨B, 4, none⟩) hB _
  · rw [← e]
    rw [Below.heap_setCell _ _ _ _ k1, Below.heap_setCell _ _ _ _ k1, Below.heap_setCell _ _ _ _ k1, Below.heap_setCell _ _ _ _ k1, Below.heap_setCell _ _ _ _ k1]

theorem AS.row {S : Nat → Prop} {w : World} {v : Value} {l : List (ByteArray × ByteArray)} (h : AS S w v l) : RowOn w v l.length 2 (rowA l) := by
  obtain ⟨a, cap, e, h1, h2, h3⟩ := h
  refine ⟨rowA_len l, rowA_one l, a, cap, e, h1, h2, ?_⟩
  rcases h3 with h3 | ⟨b, o, ea, hS, hc⟩
  · exact .inl (by simp [h3])
  · refine .inr ⟨_, ea, fun j u hu => ?_⟩
    have hj : j < (rowA l).length := (List.getElem?_eq_some_iff.1 hu).1
    rw [rowA_len] at hj
    have hi : j / 2 < l.length := by omega
    obtain ⟨g1, g2⟩ := rowA_get l (j / 2) hi
    have hcc := hc (j / 2) hi
    rw [bs_get l (j / 2) hi] at hcc
    rw [add_cell]
    rcases (by omega : j = j / 2 * 2 ∨ j = j / 2 * 2 + 1) with e | e
    · rw [e] at hu ⊢
      rw [g1] at hu
      cases hu
      exact hcc.1
    · rw [e] at hu ⊢
      rw [g2] at hu
      cases hu
      exact hcc.2

set_option maxRecDepth 20000 in
set_option maxHeartbeats 2000000 in
theorem bare_any (d : Nd) (av : Value) (ka : Option Addr) (kl kc : Nat) (w : World) (h : RowOn w av d.ats.length 2 (rowA d.ats)) (hm : d.ats.length ≤ 1000000) :
    Calls Try.prog 74 #[nodeV d av (.slice ka kl kc)] w fun e w' => ∃ v', e = .returned (nodeV d v' (.slice none 0 0)) ∧ w'.ownsRow w.heap.size 97 2 v' d.ats.length (rowA d.ats) ∧ Below w.heap.size w w' := by
  obtain ⟨K, N, X, A⟩ := d
  dsimp only at h hm ⊢
  obtain ⟨aa, ac, ea, _⟩ := h.at'
  subst ea
  have HR := Fact.mk h
  clear h
  go_enter Try.func74, Try.ntmps74
  go_wp2_with fail
  obtain ⟨W, hW⟩ : ∃ W, (w.alloc (.cells #[.int .i64 K, .string N, .string X, .slice aa A.length ac, .slice ka kl kc] 25)).alloc (.cells #[.int .i64 0, .string ⟨#[]⟩, .string ⟨#[]⟩, .slice none 0 0, .slice none 0 0] 25) = W := ⟨_, rfl⟩
  rw [hW]
  have hgW : w.grownBy W none := by rw [← hW]; exact (World.grownBy_alloc w _ none).trans (World.grownBy_alloc _ _ none)
  refine (copiedA_any A.length (rowA A) _ W (HR.out.kept hgW) hm).mono ?_
  rintro e w2 ⟨v', rfl, hown, hb2⟩
  obtain ⟨hz, hB, _, c1, c2⟩ := five_new hW hb2
  obtain ⟨va, vc, ev, _⟩ := own_val hown
  subst ev
  obtain ⟨a0, a1, a2, a3, a4, fa⟩ := five_at c1
  obtain ⟨b0, b1, b2, b3, b4, fb⟩ := five_at c2
  have HO := Fact.mk hown
  have HB := Fact.mk (hB.trans (hb2.mono (by omega)))
  have HZ := Fact.mk hz
  have C1 := Fact.mk c1
  have C2 := Fact.mk c2
  clear hW hgW hown hb2 hB hz c1 c2 HR
  go_wp2_with fail
  obtain ⟨w9, hw9⟩ : ∃ w9, ((((((w2.setCell ⟨w.heap.size, 3, none⟩ (.slice va A.length vc)).setCell ⟨w.heap.size, 4, none⟩ (.slice none 0 0)).setCell ⟨w.heap.size + 1, 0, none⟩ (.int .i64 K)).setCell ⟨w.heap.size + 1, 1, none⟩ (.string N)).setCell ⟨w.heap.size + 1, 2, none⟩ (.string X)).setCell ⟨w.heap.size + 1, 3, none⟩ (.slice va A.length vc)).setCell ⟨w.heap.size + 1, 4, none⟩ (.slice none 0 0) = w9 := ⟨_, rfl⟩
  obtain ⟨⟨t0, t1, t2, t3, t4⟩, hb9, hk9⟩ := five_set (n := w.heap.size) (by omega) (by omega) (Nat.le_refl _) C2.out hw9
  rw [hw9]
  refine bodyPost_ret (v := .agg #[.int .i64 K, .string N, .string X, .slice va A.length vc, .slice none 0 0]) (by simp [results, Try.f74, go_sem, t0, t1, t2, t3, t4]) rfl ?_
  refine ⟨_, rfl, ?_, HB.out.trans hb9⟩
  have hO := HO.out
  have hZ := HZ.out
  refine ⟨hO.1, ?_⟩
  rcases hO.2 with h0 | ⟨g, cap, cur, h1, h2, h3, h4⟩
  · exact .inl h0
  · exact .inr ⟨g, cap, cur, h1, by omega, (hk9 g (by omega) (by omega)).trans h3, h4⟩

set_option maxRecDepth 20000 in
set_option maxHeartbeats 2000000 in
theorem dKids_not (L : List DN) (B p mb : Nat) (v : Value) (w : World) (x : Int) (h : Arena w B p L v mb) (hx : Is64 x) (hp : placeOf L x = none) :
    Calls Try.prog 28 #[.pointer (some ⟨p, 0, none⟩), .int .i64 x] w fun e w' => e = .returned (.slice none 0 0) ∧ w' = w := by
  have HA := Fact.mk h
  have hs : (placeOf L x).isSome = false := by simp [hp]
  clear h
  go_enter Try.func28, Try.ntmps28
  go_wp2_with (go_at_call 35; refine (dHas_any L B p mb v _ x HA.out hx).mono ?_; rintro e w' ⟨rfl, rfl⟩)
  go_ret
  exact ⟨rfl, rfl⟩

set_option maxRecDepth 20000 in
set_option maxHeartbeats 2000000 in
theorem dKids_any (L : List DN) (B p mb : Nat) (v : Value) (w : World) (x : Int) (i : Nat) (y : DN) (h : Arena w B p L v mb) (hx : Is64 x) (hp : placeOf L x = some (i : Int)) (hi : L[i]? = some y) (hm : y.kids.length ≤ 1000000) :
    Calls Try.prog 28 #[.pointer (some ⟨p, 0, none⟩), .int .i64 x] w fun e w' => ∃ v', e = .returned v' ∧ w'.ownsRow w.heap.size 3 1 v' y.kids.length (rowI y.kids) ∧ Below w.heap.size w w' := by
  have HA := Fact.mk h
  have hs : (placeOf L x).isSome = true := by simp [hp]
  have HP := Fact.mk hp
  have HI := Fact.mk hi
  have hkk := h.kids y (List.mem_of_getElem? hi)
  obtain ⟨ka, kc, ek, _⟩ := own_val hkk
  obtain ⟨aa, ac, ea, _⟩ := own_val (h.ats y (List.mem_of_getElem? hi))
  have HK := Fact.mk hkk
  obtain ⟨id, par, kids, ⟨K, N, X, A⟩, kv, av⟩ := y
  dsimp only at ek ea hm ⊢
  subst ek ea
  clear h hp hi hkk
  go_enter Try.func28, Try.ntmps28
  go_wp2_with (first
    | (go_at_call 35; refine (dHas_any L B p mb v _ x HA.out hx).mono ?_; rintro e w' ⟨rfl, rfl⟩)
    | (go_at_call 59; refine (dnode_any L B p mb v _ x i _ HA.out hx HP.out HI.out).mono ?_; rintro e w1 ⟨rfl, hb1⟩; have HB := Fact.mk hb1; clear hb1; dsimp only [valN]; have hfk := field_kids w1 id par K N X ka aa kids.length kc A.length ac)
    | (go_at_call 71; refine (copiedI_any kids.length (rowI kids) _ _ (RowOn.own (own_below HK.out HB.out (Nat.le_refl _)) (rowI_one _)) hm).mono ?_; rintro e w2 ⟨v', rfl, hown, hb2⟩; have HO := Fact.mk hown; have HB2 := Fact.mk hb2; clear hown hb2))
  go_ret
  exact ⟨_, rfl, own_base HO.out HB.out.size, HB.out.trans (HB2.out.mono HB.out.size)⟩

set_option maxRecDepth 20000 in
set_option maxHeartbeats 2000000 in
theorem dParent_not (L : List DN) (B p mb : Nat) (v : Value) (w : World) (x : Int) (h : Arena w B p L v mb) (hx : Is64 x) (hp : placeOf L x = none) :
    Calls Try.prog 30 #[.pointer (some ⟨p, 0, none⟩), .int .i64 x] w fun e w' => e = .returned (.int .i64 (-1)) ∧ w' = w := by
  have HA := Fact.mk h
  have hs : (placeOf L x).isSome = false := by simp [hp]
  clear h
  go_enter Try.func30, Try.ntmps30
  go_wp2_with (go_at_call 35; refine (dHas_any L B p mb v _ x HA.out hx).mono ?_; rintro e w' ⟨rfl, rfl⟩)
  go_ret
  exact ⟨rfl, rfl⟩

set_option maxRecDepth 20000 in
set_option maxHeartbeats 2000000 in
theorem dParent_any (L : List DN) (B p mb : Nat) (v : Value) (w : World) (x : Int) (i : Nat) (y : DN) (h : Arena w B p L v mb) (hx : Is64 x) (hp : placeOf L x = some (i : Int)) (hi : L[i]? = some y) :
    Calls Try.prog 30 #[.pointer (some ⟨p, 0, none⟩), .int .i64 x] w fun e w' => e = .returned (.int .i64 y.par) ∧ Below w.heap.size w w' := by
  have HA := Fact.mk h
  have hs : (placeOf L x).isSome = true := by simp [hp]
  have HP := Fact.mk hp
  have HI := Fact.mk hi
  obtain ⟨ka, kc, ek, _⟩ := own_val (h.kids y (List.mem_of_getElem? hi))
  obtain ⟨aa, ac, ea, _⟩ := own_val (h.ats y (List.mem_of_getElem? hi))
  obtain ⟨id, par, kids, ⟨K, N, X, A⟩, kv, av⟩ := y
  dsimp only at ek ea ⊢
  subst ek ea
  clear h hp hi
  go_enter Try.func30, Try.ntmps30
  go_wp2_with (first
    | (go_at_call 35; refine (dHas_any L B p mb v _ x HA.out hx).mono ?_; rintro e w' ⟨rfl, rfl⟩)
    | (go_at_call 59; refine (dnode_any L B p mb v _ x i _ HA.out hx HP.out HI.out).mono ?_; rintro e w1 ⟨rfl, hb1⟩; have HB := Fact.mk hb1; clear hb1; dsimp only [valN]; have hfk := field_par w1 id par K N X ka aa kids.length kc A.length ac))
  go_ret
  exact ⟨rfl, HB.out⟩

theorem five_one {w W : World} {t : TypeId} {u0 u1 u2 u3 u4 : Value} (hW : w.alloc (.cells #[u0, u1, u2, u3, u4] t) = W) :
    W.heap.size = w.heap.size + 1 ∧ Below w.heap.size w W ∧ W.heap[w.heap.size]? = some (.cells #[u0, u1, u2, u3, u4] t) := by
  subst hW
  exact ⟨by simp, (Below.refl _ _).alloc (Nat.le_refl _) _, World.alloc_heap_new w _⟩

set_option maxRecDepth 20000 in
set_option maxHeartbeats 2000000 in
theorem dNode_any (L : List DN) (B p mb : Nat) (v : Value) (w : World) (x : Int) (i : Nat) (y : DN) (h : Arena w B p L v mb) (hx : Is64 x) (hp : placeOf L x = some (i : Int)) (hi : L[i]? = some y) (hm : y.d.ats.length ≤ 1000000) :
    Calls Try.prog 32 #[.pointer (some ⟨p, 0, none⟩), .int .i64 x] w fun e w' => ∃ v', e = .returned (.tuple #[nodeV y.d v' (.slice none 0 0), .bool true]) ∧ w'.ownsRow w.heap.size 97 2 v' y.d.ats.length (rowA y.d.ats) ∧ Below w.heap.size w w' := by
  have hs : (placeOf L x).isSome = true := by simp [hp]
  have HP := Fact.mk hp
  have HI := Fact.mk hi
  have hka := h.ats y (List.mem_of_getElem? hi)
  obtain ⟨ka, kc, ek, _⟩ := own_val (h.kids y (List.mem_of_getElem? hi))
  obtain ⟨aa, ac, ea, _⟩ := own_val hka
  have HK := Fact.mk hka
  have HA := Fact.mk h
  obtain ⟨id, par, kids, ⟨K, N, X, A⟩, kv, av⟩ := y
  dsimp only at ek ea hm ⊢
  subst ek ea
  clear h hp hi hka
  go_enter Try.func32, Try.ntmps32
  go_wp2_with fail
  obtain ⟨W, hW⟩ : ∃ W, w.alloc (.cells #[.int .i64 0, .string ⟨#[]⟩, .string ⟨#[]⟩, .slice none 0 0, .slice none 0 0] 25) = W := ⟨_, rfl⟩
  rw [hW]
  obtain ⟨hz, hB, hnew⟩ := five_one hW
  have HA1 := Fact.mk (HA.out.below hB (Nat.le_refl _))
  have HK1 := Fact.mk (own_below HK.out hB (Nat.le_refl _))
  have HZ := Fact.mk hz
  have HB0 := Fact.mk hB
  have HN := Fact.mk hnew
  clear hW hz hB hnew
  go_wp2_with (first
    | (go_at_call 35; refine (dHas_any L B p mb v _ x HA1.out hx).mono ?_; rintro e w' ⟨rfl, rfl⟩)
    | (go_at_call 59; refine (dnode_any L B p mb v _ x i _ HA1.out hx HP.out HI.out).mono ?_; rintro e w1 ⟨rfl, hb1⟩; have HB := Fact.mk hb1; clear hb1; dsimp only [valN]; have hfk := field_self w1 id par K N X ka aa kids.length kc A.length ac)
    | (go_at_call 74; refine (bare_any ⟨K, N, X, A⟩ _ none 0 0 _ (RowOn.own (own_below HK1.out HB.out (Nat.le_refl _)) (rowA_one _)) hm).mono ?_; rintro e w2 ⟨v', rfl, hown, hb2⟩; obtain ⟨va, vc, ev, _⟩ := own_val hown; subst ev; have h9 := (hb2.block _ (by have := HZ.out; have := HB.out.size; omega)).trans ((HB.out.block _ (by have := HZ.out; omega)).trans HN.out); have H9 := Fact.mk h9; obtain ⟨a0, a1, a2, a3, a4, fa⟩ := five_at h9; have HO := Fact.mk hown; have HB2 := Fact.mk hb2; clear hown hb2 h9; dsimp only [nodeV]))
  obtain ⟨w9, hw9⟩ : ∃ w9, ((((w2.setCell ⟨w.heap.size, 0, none⟩ (.int .i64 K)).setCell ⟨w.heap.size, 1, none⟩ (.string N)).setCell ⟨w.heap.size, 2, none⟩ (.string X)).setCell ⟨w.heap.size, 3, none⟩ (.slice va A.length vc)).setCell ⟨w.heap.size, 4, none⟩ (.slice none 0 0) = w9 := ⟨_, rfl⟩
  obtain ⟨⟨t0, t1, t2, t3, t4⟩, hb9, hk9⟩ := five_put (n := w.heap.size) (Nat.le_refl _) H9.out hw9
  rw [hw9]
  refine bodyPost_ret (v := .tuple #[.agg #[.int .i64 K, .string N, .string X, .slice va A.length vc, .slice none 0 0], .bool true]) (by simp [results, Try.f32, go_sem, t0, t1, t2, t3, t4]) rfl ?_
  have hZ := HZ.out
  have hS := HB.out.size
  refine ⟨_, rfl, ?_, (HB0.out.trans (HB.out.mono (by omega))).trans ((HB2.out.mono (by omega)).trans hb9)⟩
  have hO := HO.out
  refine ⟨hO.1, ?_⟩
  rcases hO.2 with h0 | ⟨g, cap, cur, h1, h2, h3, h4⟩
  · exact .inl h0
  · exact .inr ⟨g, cap, cur, h1, by omega, (hk9 g (by omega)).trans h3, h4⟩

set_option maxRecDepth 20000 in
set_option maxHeartbeats 2000000 in
theorem dPlace_not (L : List DN) (B p mb : Nat) (v : Value) (w : World) (x : Int) (i : Nat) (y : DN) (h : Arena w B p L v mb) (hx : Is64 x) (hp : placeOf L x = some (i : Int)) (hi : L[i]? = some y) (hr : y.par = -1) :
    Calls Try.prog 31 #[.pointer (some ⟨p, 0, none⟩), .int .i64 x] w fun e w' => e = .returned (.int .i64 (-1)) ∧ Below w.heap.size w w' := by
  have HA := Fact.mk h
  have HP := Fact.mk hp
  have HI := Fact.mk hi
  clear h hp hi
  go_enter Try.func31, Try.ntmps31
  go_wp2_with (go_at_call 30; refine (dParent_any L B p mb v _ x i y HA.out hx HP.out HI.out).mono ?_; rintro e w1 ⟨rfl, hb1⟩; have HB := Fact.mk hb1; clear hb1; rw [hr])
  go_ret
  exact ⟨rfl, HB.out⟩
end Go.Proofs.Ytllimmmgjpnhkaa
