/- detach: a node that is its parent's last kid is taken out of the kids. -/
import Derived.Test.YtllimmmgjpnhkaaDomH
import Derived.Test.YtllimmmgjpnhkaaDomO
import Derived.Test.YtllimmmgjpnhkaaDomI
set_option linter.unusedVariables false
set_option linter.unusedSimpArgs false
namespace Go.Proofs.Ytllimmmgjpnhkaa
open Go.Deep (BT)
open Go.RowKit M

/-- the arena with a node's kids as K0 -/
def detL (L : List DN) (i : Nat) (y : DN) (K0 : List Int) (kv' : Value) : List DN := L.set i { y with kids := K0, kv := kv' }

theorem det_get {L : List DN} {i : Nat} {y u : DN} {K0 : List Int} {kv' : Value} (hi : L[i]? = some y) {k : Nat} (h : (detL L i y K0 kv')[k]? = some u) :
    (k = i ∧ u = { y with kids := K0, kv := kv' }) ∨ (k ≠ i ∧ L[k]? = some u) := by
  have hiL : i < L.length := (List.getElem?_eq_some_iff.1 hi).1
  unfold detL at h
  by_cases h2 : k = i
  · subst h2
    rw [List.getElem?_set_self hiL] at h
    exact .inl ⟨rfl, (Option.some.inj h).symm⟩
  · rw [List.getElem?_set_ne (fun e => h2 e.symm)] at h
    exact .inr ⟨h2, h⟩

theorem det_end {w w1 : World} {B p mb g : Nat} {L : List DN} {v : Value} {i : Nat} {y : DN} {K0 : List Int} {kv' : Value} (h : Arena w B p L v mb) (hi : L[i]? = some y)
    (ho : w1.ownsRow B 3 1 kv' K0.length (rowI K0)) (hgr : w.grownBy w1 y.kv.ownBlock) (hb : kv'.ownBlock = y.kv.ownBlock) (hg : v.ownBlock = some g) :
    Arena (w1.setCell ⟨g, i * 8 + 2, none⟩ kv') B p (detL L i y K0 kv') v mb ∧ Turns w (w1.setCell ⟨g, i * 8 + 2, none⟩ kv') (inA p mb v L) (inA p mb v (detL L i y K0 kv')) := by
  have hiL : i < L.length := (List.getElem?_eq_some_iff.1 hi).1
  have hy := h.kids y (List.mem_of_getElem? hi)
  have k1 : ∀ k, k < w.heap.size → some k ≠ y.kv.ownBlock → w1.heap[k]? = w.heap[k]? := fun k hk hne => hgr.block k hk hne
  have hpy : some p ≠ y.kv.ownBlock := fun e => own_not hy h.box (fun cur h => by injection h with _ h2; revert h2; decide) e.symm
  obtain ⟨es, clock, hm⟩ := h.map.isMap
  have hmy : some mb ≠ y.kv.ownBlock := fun e => own_not hy hm (fun cur h => by cases h) e.symm
  have hpL := (Array.getElem?_eq_some_iff.1 h.box).1
  have hmL := (Array.getElem?_eq_some_iff.1 hm).1
  have to1 : ∀ {e : TypeId} {size : Nat} {u : Value} {m : Nat} {xs : List Value}, w.ownsRow B e size u m xs → e ≠ 3 → w1.ownsRow B e size u m xs := by
    intro e size u m xs ho2 he
    exact own_same ho2 (fun b hb2 hlt => k1 b hlt (fun e2 => own_apart ho2 hy he hb2 e2.symm))
  have row1 := to1 h.row (by decide)
  have hpg : p ≠ g := fun e => own_not h.row h.box (fun cur h => by injection h with _ h2; revert h2; decide) (by rw [e]; exact hg)
  have hmg : mb ≠ g := fun e => own_not h.row hm (fun cur h => by cases h) (by rw [e]; exact hg)
  have kk : ∀ k, k ≠ g → (w1.setCell ⟨g, i * 8 + 2, none⟩ kv').heap[k]? = w1.heap[k]? := fun k hk => Below.heap_setCell _ _ _ _ hk
  have to3 : ∀ {e : TypeId} {size : Nat} {u : Value} {m : Nat} {xs : List Value}, w1.ownsRow B e size u m xs → e ≠ 89 → (w1.setCell ⟨g, i * 8 + 2, none⟩ kv').ownsRow B e size u m xs := by
    intro e size u m xs ho he
    exact own_same ho (fun b hb _ => kk b (fun e2 => own_apart ho row1 he hb (by rw [e2]; exact hg)))
  have hlen : (detL L i y K0 kv').length = L.length := by unfold detL; rw [List.length_set]
  have orig : ∀ {k : Nat} {u : DN}, (detL L i y K0 kv')[k]? = some u → ∃ u0, L[k]? = some u0 ∧ u.av = u0.av ∧ u.d = u0.d ∧ u.id = u0.id ∧ u.kv.ownBlock = u0.kv.ownBlock := by
    intro k u hu
    rcases det_get hi hu with ⟨rfl, rfl⟩ | ⟨_, h1⟩
    · exact ⟨y, hi, rfl, rfl, rfl, hb⟩
    · exact ⟨u, h1, rfl, rfl, rfl, rfl⟩
  have idx : ∀ {u : DN}, u ∈ detL L i y K0 kv' → ∃ k, (detL L i y K0 kv')[k]? = some u := fun hu => List.mem_iff_getElem?.1 hu
  constructor
  · refine ⟨?_, ?_, ?_, ?_, ?_, ?_, ?_, ?_, h.at', ?_⟩
    · rw [kk p hpg, k1 p hpL hpy]; exact h.box
    · rw [hlen]
      have r1 := own_putC row1 hg (k := i * 8 + 2) (by omega) kv'
      rw [rowN_set L i y _ 2 kv' hi (by decide) (set_cells y K0 kv')] at r1
      exact r1
    · intro u hu
      obtain ⟨k, hk⟩ := idx hu
      rcases det_get hi hk with ⟨rfl, rfl⟩ | ⟨h2, h1⟩
      · exact to3 ho (by decide)
      · exact to3 (own_same (h.kids u (List.mem_of_getElem? h1)) (fun b hb2 hlt => k1 b hlt (fun e2 => h.kidsApart k i u y h2 h1 hi b hb2 e2.symm))) (by decide)
    · intro u hu
      obtain ⟨k, hk⟩ := idx hu
      obtain ⟨u0, h0, e1, e2, _⟩ := orig hk
      rw [e1, e2]
      exact to3 (to1 (h.ats u0 (List.mem_of_getElem? h0)) (by decide)) (by decide)
    · intro a b s t hab hs ht c hc
      obtain ⟨s0, h1, _, _, _, e1⟩ := orig hs
      obtain ⟨t0, h2, _, _, _, e2⟩ := orig ht
      rw [e1] at hc
      rw [e2]
      exact h.kidsApart a b s0 t0 hab h1 h2 c hc
    · intro a b s t hab hs ht c hc
      obtain ⟨s0, h1, e1, _⟩ := orig hs
      obtain ⟨t0, h2, e2, _⟩ := orig ht
      rw [e1] at hc
      rw [e2]
      exact h.atsApart a b s0 t0 hab h1 h2 c hc
    · have e : placeOf (detL L i y K0 kv') = placeOf L := funext fun u => placeOf_set L i y { y with kids := K0, kv := kv' } hi rfl u
      rw [e, hlen]
      exact (h.map.block (k1 mb hmL hmy)).block (kk mb hmg)
    · rw [hlen]; exact h.few
    · intro u hu
      obtain ⟨k, hk⟩ := idx hu
      obtain ⟨u0, h0, _, _, e3, _⟩ := orig hk
      rw [e3]
      exact h.ids u0 (List.mem_of_getElem? h0)
  · refine ⟨hgr.os, hgr.tape, hgr.output, by simp only [World.size_setCell]; exact hgr.size, ?_, ?_⟩
    · intro k hk hA
      rw [kk k (fun e => hA (.inr (.inr (.inl (by rw [e]; exact hg)))))]
      exact k1 k hk (fun e => hA (.inr (.inr (.inr ⟨y, List.mem_of_getElem? hi, .inl e.symm⟩))))
    · intro k hA
      rcases hA with e | e | e | ⟨u, hu, e⟩
      · exact .inl (.inl e)
      · exact .inl (.inr (.inl e))
      · exact .inl (.inr (.inr (.inl e)))
      · obtain ⟨k', hk'⟩ := idx hu
        obtain ⟨u0, h0, e1, _, _, e4⟩ := orig hk'
        rw [e1, e4] at e
        exact .inl (.inr (.inr (.inr ⟨u0, List.mem_of_getElem? h0, e⟩)))

theorem det_mid {w w1 : World} {B p mb : Nat} {L : List DN} {v : Value} {i : Nat} {y : DN} (h : Arena w B p L v mb) (hi : L[i]? = some y) (hgr : w.grownBy w1 y.kv.ownBlock) :
    w1.heap[p]? = some (.cells #[v, .map (some mb)] 70) ∧ w1.ownsRow B 89 8 v L.length (rowN L) := by
  have hy := h.kids y (List.mem_of_getElem? hi)
  have hpy : some p ≠ y.kv.ownBlock := fun e => own_not hy h.box (fun cur h => by injection h with _ h2; revert h2; decide) e.symm
  refine ⟨by rw [hgr.block p (Array.getElem?_eq_some_iff.1 h.box).1 hpy]; exact h.box, ?_⟩
  exact own_same h.row (fun b hb2 hlt => hgr.block b hlt (fun e2 => own_apart h.row hy (by decide) hb2 e2.symm))

theorem idx_last : ∀ (l : List Int) (x : Int) (n : Nat), x ∉ l → idxI x (l ++ [x]) n = ((n + l.length : Nat) : Int)
  | [], x, n, _ => by simp [idxI]
  | a :: l, x, n, h => by
    have h1 : x ≠ a := fun e => h (by rw [e]; exact List.mem_cons_self)
    have h2 : x ∉ l := fun e => h (List.mem_cons_of_mem _ e)
    rw [List.cons_append, idxI, idx_last l x (n + 1) h2]
    simp [h1, h1.symm, List.length_cons]
    try omega

set_option maxRecDepth 20000 in
set_option maxHeartbeats 4000000 in
theorem ddetach_last (L : List DN) (B p mb : Nat) (v : Value) (w : World) (x : Int) (i j : Nat) (y z : DN) (K0 : List Int) (h : Arena w B p L v mb) (hx : Is64 x) (hq : Is64 z.par) (hqr : z.par ≠ -1) (hpq : placeOf L z.par = some (i : Int)) (hi : L[i]? = some y) (hpx : placeOf L x = some (j : Int)) (hj : L[j]? = some z) (hk : y.kids = K0 ++ [x]) (hn0 : x ∉ K0) (hm : K0.length ≤ 1000) :
    Calls Try.prog 60 #[.pointer (some ⟨p, 0, none⟩), .int .i64 x] w fun e w' => e = .returned (.tuple #[]) ∧ ∃ kv', Arena w' B p (detL L i y K0 kv') v mb ∧ Turns w w' (inA p mb v L) (inA p mb v (detL L i y K0 kv')) := by
  have hiL : i < L.length := (List.getElem?_eq_some_iff.1 hi).1
  have hjL : j < L.length := (List.getElem?_eq_some_iff.1 hj).1
  have hc1 : w.cell? ⟨p, 1, none⟩ = some (.map (some mb)) := by simp [World.cell?, h.box]
  have HA := Fact.mk h
  have HP := Fact.mk hpx
  have HQ := Fact.mk hpq
  have HI := Fact.mk hi
  have HJ := Fact.mk hj
  have HKK := Fact.mk hk
  have HQR := Fact.mk hqr
  obtain ⟨zp, hzp⟩ : ∃ zp, z.par = zp := ⟨_, rfl⟩
  have HZ := Fact.mk hzp
  rw [hzp] at hq
  have hf := h.few
  clear h hpq hpx hi hj hk hzp hqr
  go_enter Try.func60, Try.ntmps60
  go_upto_region 0 with fail
  refine wp_region_held_drew (S := fun W => W.cell? ⟨p, 1, none⟩ = some (.map (some mb))) (by kernel_rfl) hc1 (fun _ => ?_)
  refine wpAnyH_take (i := 0) (v := ?v0n1) rfl (by kernel_rfl) (by kernel_rfl) (by kernel_rfl) (fun _ _ _ h => h) (Or.inl ⟨by rfl, ?hy0n1⟩) hc1 ?rr0n1
  case hy0n1 =>
    intro w hSw
    go_simp
    try with_reducible rfl
  try simp only [Act.put, List.getElem_toArray, List.getElem_cons_succ, List.getElem_cons_zero, List.setIfInBounds_toArray, List.set_cons_zero, List.set_cons_succ]
  refine wpAnyH_take (i := 1) (v := ?v1n2) rfl (by kernel_rfl) (by kernel_rfl) (by kernel_rfl) (fun _ _ _ h => h) (Or.inl ⟨by rfl, ?hy1n2⟩) hc1 ?rr1n2
  case hy1n2 =>
    intro w hSw
    go_simp
    try with_reducible rfl
  try simp only [Act.put, List.getElem_toArray, List.getElem_cons_succ, List.getElem_cons_zero, List.setIfInBounds_toArray, List.set_cons_zero, List.set_cons_succ]
  refine wpAnyH_take (i := 2) (v := ?v2n3) rfl (by kernel_rfl) (by kernel_rfl) (by kernel_rfl) (fun _ _ _ h => h) (Or.inl ⟨by rfl, ?hy2n3⟩) hc1 ?rr2n3
  case hy2n3 =>
    intro w hSw
    go_simp
    try with_reducible rfl
  try simp only [Act.put, List.getElem_toArray, List.getElem_cons_succ, List.getElem_cons_zero, List.setIfInBounds_toArray, List.set_cons_zero, List.set_cons_succ]
  refine wpAnyH_take (i := 3) (v := ?v3n4) rfl (by kernel_rfl) (by kernel_rfl) (by kernel_rfl) (fun _ _ _ h => h) (Or.inl ⟨by rfl, ?hy3n4⟩) hc1 ?rr3n4
  case hy3n4 =>
    intro w hSw
    go_simp
    try with_reducible rfl
  try simp only [Act.put, List.getElem_toArray, List.getElem_cons_succ, List.getElem_cons_zero, List.setIfInBounds_toArray, List.set_cons_zero, List.set_cons_succ]
  refine wpAnyH_take (i := 4) (v := ?v4n5) rfl (by kernel_rfl) (by kernel_rfl) (by kernel_rfl) (fun _ _ _ h => h) (Or.inl ⟨by rfl, ?hy4n5⟩) hc1 ?rr4n5
  case hy4n5 =>
    intro w hSw
    go_simp
    try with_reducible rfl
  try simp only [Act.put, List.getElem_toArray, List.getElem_cons_succ, List.getElem_cons_zero, List.setIfInBounds_toArray, List.set_cons_zero, List.set_cons_succ]
  refine wpAnyH_take (i := 5) (v := ?v5n6) rfl (by kernel_rfl) (by kernel_rfl) (by kernel_rfl) (fun _ _ _ h => h) (Or.inl ⟨by rfl, ?hy5n6⟩) hc1 ?rr5n6
  case hy5n6 =>
    intro w hSw
    go_simp
    try with_reducible rfl
  try simp only [Act.put, List.getElem_toArray, List.getElem_cons_succ, List.getElem_cons_zero, List.setIfInBounds_toArray, List.set_cons_zero, List.set_cons_succ]
  refine wpAnyH_ready (rs := [6]) (by kernel_rfl) (by simp) ?_
  refine AllReadyH.cons rfl (fun K hK => ?_) AllReadyH.nil
  go_simp
  have HAD : Fact (Arena w.drew B p L v mb) := ⟨HA.out.below ((Below.refl w.heap.size w).drew) (Nat.le_refl _)⟩
  refine (dParent_any L B p mb v _ x j z HAD.out hx HP.out HJ.out).mono ?_
  rintro e w1 ⟨rfl, hb1⟩
  rw [HZ.out]
  have HB1 : Fact (Below w.heap.size w w1) := ⟨((Below.refl w.heap.size w).drew).trans hb1⟩
  have HA1 : Fact (Arena w1 B p L v mb) := ⟨HA.out.below HB1.out (Nat.le_refl _)⟩
  clear hb1 HAD
  have c1 : w1.cell? ⟨p, 1, none⟩ = some (.map (some mb)) := by simp [World.cell?, HA1.out.box]
  have hlk : (Instr.lookup 67 (.map (some mb)) (.int .i64 zp) false).run Try.prog w1 = .ok (.int .i64 (i : Int)) w1 := HA1.out.map.look hq (by rw [← HZ.out]; exact HQ.out)
  dsimp only
  refine hK.out _ _ c1 (fun _ => ?_)
  clear hK K
  refine wpAnyH_ready (rs := [7]) (by kernel_rfl) (by simp) ?_
  refine AllReadyH.cons rfl (fun K hK => ?_) AllReadyH.nil
  go_simp
  refine hK.out _ _ c1 (fun _ => ?_)
  clear hK K
  refine wpAnyH_ready (rs := [8]) (by kernel_rfl) (by simp) ?_
  refine AllReadyH.cons rfl (fun K hK => ?_) AllReadyH.nil
  go_simp
  refine hK.out _ _ c1 (fun _ => ?_)
  clear hK K
  refine wpAnyH_done (by kernel_rfl) ?_ _
  obtain ⟨g, cap, ev, q1, q2, q3, q4, hat, hfz⟩ := own_get HA1.out.row (by omega)
  have hkk := HA1.out.kids y (List.mem_of_getElem? HI.out)
  obtain ⟨ka, kc, ek, _⟩ := own_val hkk
  have yk := hat _ _ (rowN_get L i y HI.out 2 _ rfl)
  obtain ⟨kl, hkl⟩ : ∃ kl, K0.length = kl := ⟨_, rfl⟩
  have HKL := Fact.mk hkl
  have hyl : y.kids.length = kl + 1 := by rw [HKK.out, List.length_append, hkl]; rfl
  rw [hyl] at ek
  rw [ek] at yk
  have EK := Fact.mk ek
  obtain ⟨n, hn⟩ : ∃ n, L.length = n := ⟨_, rfl⟩
  have HN := Fact.mk hn
  have HYL := Fact.mk hyl
  have hc0 : w1.cell? ⟨p, 0, none⟩ = some v := by simp [World.cell?, HA1.out.box]
  subst ev
  rw [hn] at hiL hjL q1 hf hc0
  rw [hkl] at hm
  have i0I : (0 : Int) ≤ i := by omega
  have iI : (i : Int) < n := by omega
  clear hat hfz hkk hkl ek hn hyl
  go_upto_region 1 with fail
  refine wp_region_held_drew (S := fun W => W.cell? ⟨p, 0, none⟩ = some (.slice (some ⟨g, 0, none⟩) n cap)) (by kernel_rfl) hc0 (fun _ => ?_)
  refine wpAnyH_take (i := 0) (v := ?v0n7) rfl (by kernel_rfl) (by kernel_rfl) (by kernel_rfl) (fun _ _ _ h => h) (Or.inl ⟨by rfl, ?hy0n7⟩) hc0 ?rr0n7
  case hy0n7 =>
    intro w hSw
    go_simp
    try with_reducible rfl
  try simp only [Act.put, List.getElem_toArray, List.getElem_cons_succ, List.getElem_cons_zero, List.setIfInBounds_toArray, List.set_cons_zero, List.set_cons_succ]
  refine wpAnyH_take (i := 1) (v := ?v1n8) rfl (by kernel_rfl) (by kernel_rfl) (by kernel_rfl) (fun _ _ _ h => h) (Or.inl ⟨by rfl, ?hy1n8⟩) hc0 ?rr1n8
  case hy1n8 =>
    intro w hSw
    go_simp
    try with_reducible rfl
  try simp only [Act.put, List.getElem_toArray, List.getElem_cons_succ, List.getElem_cons_zero, List.setIfInBounds_toArray, List.set_cons_zero, List.set_cons_succ]
  refine wpAnyH_take (i := 2) (v := ?v2n9) rfl (by kernel_rfl) (by kernel_rfl) (by kernel_rfl) (fun _ _ _ h => h) (Or.inl ⟨by rfl, ?hy2n9⟩) hc0 ?rr2n9
  case hy2n9 =>
    intro w hSw
    go_simp
    try with_reducible rfl
  try simp only [Act.put, List.getElem_toArray, List.getElem_cons_succ, List.getElem_cons_zero, List.setIfInBounds_toArray, List.set_cons_zero, List.set_cons_succ]
  refine wpAnyH_take (i := 3) (v := ?v3n10) rfl (by kernel_rfl) (by kernel_rfl) (by kernel_rfl) (fun _ _ _ h => h) (Or.inl ⟨by rfl, ?hy3n10⟩) hc0 ?rr3n10
  case hy3n10 =>
    intro w hSw
    go_simp
    try with_reducible rfl
  try simp only [Act.put, List.getElem_toArray, List.getElem_cons_succ, List.getElem_cons_zero, List.setIfInBounds_toArray, List.set_cons_zero, List.set_cons_succ]
  refine wpAnyH_take (i := 4) (v := ?v4n11) rfl (by kernel_rfl) (by kernel_rfl) (by kernel_rfl) (fun _ _ _ h => h) (Or.inl ⟨by rfl, ?hy4n11⟩) hc0 ?rr4n11
  case hy4n11 =>
    intro w hSw
    go_simp
    try with_reducible rfl
  try simp only [Act.put, List.getElem_toArray, List.getElem_cons_succ, List.getElem_cons_zero, List.setIfInBounds_toArray, List.set_cons_zero, List.set_cons_succ]
  refine wpAnyH_take (i := 5) (v := ?v5n12) rfl (by kernel_rfl) (by kernel_rfl) (by kernel_rfl) (fun _ _ _ h => h) (Or.inl ⟨by rfl, ?hy5n12⟩) hc0 ?rr5n12
  case hy5n12 =>
    intro w hSw
    go_simp
    try with_reducible rfl
  try simp only [Act.put, List.getElem_toArray, List.getElem_cons_succ, List.getElem_cons_zero, List.setIfInBounds_toArray, List.set_cons_zero, List.set_cons_succ]
  refine wpAnyH_take (i := 6) (v := ?v6n13) rfl (by kernel_rfl) (by kernel_rfl) (by kernel_rfl) (fun _ _ _ h => h) (Or.inl ⟨by rfl, ?hy6n13⟩) hc0 ?rr6n13
  case hy6n13 =>
    intro w hSw
    go_simp
    try with_reducible rfl
  try simp only [Act.put, List.getElem_toArray, List.getElem_cons_succ, List.getElem_cons_zero, List.setIfInBounds_toArray, List.set_cons_zero, List.set_cons_succ]
  refine wpAnyH_take (i := 7) (v := ?v7n14) rfl (by kernel_rfl) (by kernel_rfl) (by kernel_rfl) (fun _ _ _ h => h) (Or.inl ⟨by rfl, ?hy7n14⟩) hc0 ?rr7n14
  case hy7n14 =>
    intro w hSw
    go_simp
    try with_reducible rfl
  try simp only [Act.put, List.getElem_toArray, List.getElem_cons_succ, List.getElem_cons_zero, List.setIfInBounds_toArray, List.set_cons_zero, List.set_cons_succ]
  refine wpAnyH_take (i := 8) (v := ?v8n15) rfl (by kernel_rfl) (by kernel_rfl) (by kernel_rfl) (fun _ _ _ h => h) (Or.inl ⟨by rfl, ?hy8n15⟩) hc0 ?rr8n15
  case hy8n15 =>
    intro w hSw
    go_simp
    try with_reducible rfl
  try simp only [Act.put, List.getElem_toArray, List.getElem_cons_succ, List.getElem_cons_zero, List.setIfInBounds_toArray, List.set_cons_zero, List.set_cons_succ]
  refine wpAnyH_take (i := 9) (v := ?v9n16) rfl (by kernel_rfl) (by kernel_rfl) (by kernel_rfl) (fun _ _ _ h => h) (Or.inl ⟨by rfl, ?hy9n16⟩) hc0 ?rr9n16
  case hy9n16 =>
    intro w hSw
    go_simp
    try with_reducible rfl
  try simp only [Act.put, List.getElem_toArray, List.getElem_cons_succ, List.getElem_cons_zero, List.setIfInBounds_toArray, List.set_cons_zero, List.set_cons_succ]
  refine wpAnyH_take (i := 10) (v := ?v10n17) rfl (by kernel_rfl) (by kernel_rfl) (by kernel_rfl) (fun _ _ _ h => h) (Or.inl ⟨by rfl, ?hy10n17⟩) hc0 ?rr10n17
  case hy10n17 =>
    intro w hSw
    go_simp
    try with_reducible rfl
  try simp only [Act.put, List.getElem_toArray, List.getElem_cons_succ, List.getElem_cons_zero, List.setIfInBounds_toArray, List.set_cons_zero, List.set_cons_succ]
  refine wpAnyH_take (i := 11) (v := ?v11n18) rfl (by kernel_rfl) (by kernel_rfl) (by kernel_rfl) (fun _ _ _ h => h) (Or.inl ⟨by rfl, ?hy11n18⟩) hc0 ?rr11n18
  case hy11n18 =>
    intro w hSw
    go_simp
    try with_reducible rfl
  try simp only [Act.put, List.getElem_toArray, List.getElem_cons_succ, List.getElem_cons_zero, List.setIfInBounds_toArray, List.set_cons_zero, List.set_cons_succ]
  refine wpAnyH_take (i := 13) (v := ?v13n19) rfl (by kernel_rfl) (by kernel_rfl) (by kernel_rfl) (fun _ _ _ h => h) (Or.inl ⟨by rfl, ?hy13n19⟩) hc0 ?rr13n19
  case hy13n19 =>
    intro w hSw
    go_simp
    try with_reducible rfl
  try simp only [Act.put, List.getElem_toArray, List.getElem_cons_succ, List.getElem_cons_zero, List.setIfInBounds_toArray, List.set_cons_zero, List.set_cons_succ]
  refine wpAnyH_take (i := 14) (v := ?v14n20) rfl (by kernel_rfl) (by kernel_rfl) (by kernel_rfl) (fun _ _ _ h => h) (Or.inl ⟨by rfl, ?hy14n20⟩) hc0 ?rr14n20
  case hy14n20 =>
    intro w hSw
    go_simp
    try with_reducible rfl
  try simp only [Act.put, List.getElem_toArray, List.getElem_cons_succ, List.getElem_cons_zero, List.setIfInBounds_toArray, List.set_cons_zero, List.set_cons_succ]
  refine wpAnyH_ready (rs := [12, 15]) (by kernel_rfl) (by simp) ?_
  refine AllReadyH.cons rfl (fun K hK => ?_) (AllReadyH.cons rfl (fun K hK => ?_) AllReadyH.nil)
  · go_simp
    refine hK.out _ _ hc0 (fun _ => ?_)
    clear hK K
    refine wpAnyH_ready (rs := [15]) (by kernel_rfl) (by simp) ?_
    refine AllReadyH.cons rfl (fun K hK => ?_) AllReadyH.nil
    go_simp
    have HAD : Fact (Arena w1.drew B p L (.slice (some ⟨g, 0, none⟩) n cap) mb) := ⟨by rw [← HN.out]; exact HA1.out.below ((Below.refl w1.heap.size w1).drew) (Nat.le_refl _)⟩
    refine (dPlace_any L B p mb _ _ x j i z y HAD.out hx (by rw [HZ.out]; exact hq) HP.out HJ.out HQR.out HQ.out HI.out (by rw [HYL.out]; omega)).mono ?_
    rintro e w2 ⟨rfl, hb2⟩
    rw [HKK.out, idx_last K0 x 0 hn0, Nat.zero_add, HKL.out]
    have HB2 : Fact (Below w1.heap.size w1 w2) := ⟨((Below.refl w1.heap.size w1).drew).trans hb2⟩
    have HA2 : Fact (Arena w2 B p L (.slice (some ⟨g, 0, none⟩) n cap) mb) := ⟨HAD.out.below hb2 (Nat.le_refl _)⟩
    clear hb2 HAD
    have d0 : w2.cell? ⟨p, 0, none⟩ = some (.slice (some ⟨g, 0, none⟩) n cap) := by simp [World.cell?, HA2.out.box]
    have dk : w2.cell? ⟨g, i * 8 + 2, none⟩ = some (.slice ka (kl + 1) kc) := (World.cell?_of_block (w := w1) (a := ⟨g, i * 8 + 2, none⟩) (HB2.out.block g q4)).trans yk
    dsimp only
    refine hK.out _ _ d0 (fun _ => ?_)
    clear hK K
    refine wpAnyH_ready (rs := [16]) (by kernel_rfl) (by simp) ?_
    refine AllReadyH.cons rfl (fun K hK => ?_) AllReadyH.nil
    go_simp
    have HK2 : Fact (w2.ownsRow B 3 1 (.slice ka (kl + 1) kc) (kl + 1) (rowI (K0 ++ [x]))) := ⟨by
      have h1 := HA2.out.kids y (List.mem_of_getElem? HI.out)
      rw [EK.out, HYL.out, HKK.out] at h1
      exact h1⟩
    refine (takeOut_end K0 x kl B _ _ HKL.out HK2.out (by omega)).mono ?_
    rintro e w3 ⟨g2, kc2, ev2, rfl, hown, hgr⟩
    have egk : y.kv.ownBlock = some g2 := by rw [EK.out, ev2]; rfl
    have HGR : Fact (w2.grownBy w3 y.kv.ownBlock) := ⟨by rw [egk]; exact hgr⟩
    have HM := Fact.mk (det_mid HA2.out HI.out HGR.out)
    have HE := Fact.mk (det_end (g := g) (K0 := K0) HA2.out HI.out (by rw [HKL.out]; exact hown) HGR.out (by rw [egk]; rfl) rfl)
    have e0 : w3.cell? ⟨p, 0, none⟩ = some (.slice (some ⟨g, 0, none⟩) n cap) := by simp [World.cell?, HM.out.1]
    dsimp only
    refine hK.out _ _ e0 (fun _ => ?_)
    clear hK K
    refine wpAnyH_ready (rs := [17]) (by kernel_rfl) (by simp) ?_
    refine AllReadyH.cons rfl (fun K hK => ?_) AllReadyH.nil
    go_simp
    refine hK.out _ _ e0 (fun _ => ?_)
    clear hK K
    refine wpAnyH_ready (rs := [18]) (by kernel_rfl) (by simp) ?_
    refine AllReadyH.cons rfl (fun K hK => ?_) AllReadyH.nil
    go_simp
    refine hK.out _ _ e0 (fun _ => ?_)
    clear hK K
    refine wpAnyH_ready (rs := [19]) (by kernel_rfl) (by simp) ?_
    refine AllReadyH.cons rfl (fun K hK => ?_) AllReadyH.nil
    obtain ⟨g3, cap3, egc, _, _, _, hg4, hat2, hfz2⟩ := own_get HM.out.2 (by rw [HN.out]; omega)
    have eg : g3 = g := by injection egc with h1; injection h1 with h2; injection h2 with h3; exact h3.symm
    subst eg
    have s0 := hat2 _ _ (rowN_get L i y HI.out 2 _ rfl)
    have s1 := hfz2 (i * 8 + 2)
    have hpg : p ≠ g3 := fun e => own_not HM.out.2 HM.out.1 (fun cur h => by injection h with _ h2; revert h2; decide) (by rw [e]; rfl)
    clear egc hat2 hfz2
    go_simp
    have c2 : (w3.setCell ⟨g3, i * 8 + 2, none⟩ (.slice (some ⟨g2, 0, none⟩) kl kc2)).cell? ⟨p, 0, none⟩ = some (.slice (some ⟨g3, 0, none⟩) n cap) := (World.cell?_setCell_other _ _ _ _ (fun e => by injection e with e1; exact hpg e1.symm)).trans e0
    refine hK.out _ _ c2 (fun _ => ?_)
    clear hK K
    refine wpAnyH_done (by kernel_rfl) ?_ _
    go_end0
    rw [HN.out]
    refine ⟨rfl, _, HE.out.1, ?_⟩
    refine Turns.trans (Turns.of_below (HB1.out.trans (HB2.out.mono HB1.out.size))) ?_
    exact HE.out.2
  · go_simp
    have HAD : Fact (Arena w1.drew B p L (.slice (some ⟨g, 0, none⟩) n cap) mb) := ⟨by rw [← HN.out]; exact HA1.out.below ((Below.refl w1.heap.size w1).drew) (Nat.le_refl _)⟩
    refine (dPlace_any L B p mb _ _ x j i z y HAD.out hx (by rw [HZ.out]; exact hq) HP.out HJ.out HQR.out HQ.out HI.out (by rw [HYL.out]; omega)).mono ?_
    rintro e w2 ⟨rfl, hb2⟩
    rw [HKK.out, idx_last K0 x 0 hn0, Nat.zero_add, HKL.out]
    have HB2 : Fact (Below w1.heap.size w1 w2) := ⟨((Below.refl w1.heap.size w1).drew).trans hb2⟩
    have HA2 : Fact (Arena w2 B p L (.slice (some ⟨g, 0, none⟩) n cap) mb) := ⟨HAD.out.below hb2 (Nat.le_refl _)⟩
    clear hb2 HAD
    have d0 : w2.cell? ⟨p, 0, none⟩ = some (.slice (some ⟨g, 0, none⟩) n cap) := by simp [World.cell?, HA2.out.box]
    have dk : w2.cell? ⟨g, i * 8 + 2, none⟩ = some (.slice ka (kl + 1) kc) := (World.cell?_of_block (w := w1) (a := ⟨g, i * 8 + 2, none⟩) (HB2.out.block g q4)).trans yk
    dsimp only
    refine hK.out _ _ d0 (fun _ => ?_)
    clear hK K
    refine wpAnyH_ready (rs := [12]) (by kernel_rfl) (by simp) ?_
    refine AllReadyH.cons rfl (fun K hK => ?_) AllReadyH.nil
    go_simp
    refine hK.out _ _ d0 (fun _ => ?_)
    clear hK K
    refine wpAnyH_ready (rs := [16]) (by kernel_rfl) (by simp) ?_
    refine AllReadyH.cons rfl (fun K hK => ?_) AllReadyH.nil
    go_simp
    have HK2 : Fact (w2.ownsRow B 3 1 (.slice ka (kl + 1) kc) (kl + 1) (rowI (K0 ++ [x]))) := ⟨by
      have h1 := HA2.out.kids y (List.mem_of_getElem? HI.out)
      rw [EK.out, HYL.out, HKK.out] at h1
      exact h1⟩
    refine (takeOut_end K0 x kl B _ _ HKL.out HK2.out (by omega)).mono ?_
    rintro e w3 ⟨g2, kc2, ev2, rfl, hown, hgr⟩
    have egk : y.kv.ownBlock = some g2 := by rw [EK.out, ev2]; rfl
    have HGR : Fact (w2.grownBy w3 y.kv.ownBlock) := ⟨by rw [egk]; exact hgr⟩
    have HM := Fact.mk (det_mid HA2.out HI.out HGR.out)
    have HE := Fact.mk (det_end (g := g) (K0 := K0) HA2.out HI.out (by rw [HKL.out]; exact hown) HGR.out (by rw [egk]; rfl) rfl)
    have e0 : w3.cell? ⟨p, 0, none⟩ = some (.slice (some ⟨g, 0, none⟩) n cap) := by simp [World.cell?, HM.out.1]
    dsimp only
    refine hK.out _ _ e0 (fun _ => ?_)
    clear hK K
    refine wpAnyH_ready (rs := [17]) (by kernel_rfl) (by simp) ?_
    refine AllReadyH.cons rfl (fun K hK => ?_) AllReadyH.nil
    go_simp
    refine hK.out _ _ e0 (fun _ => ?_)
    clear hK K
    refine wpAnyH_ready (rs := [18]) (by kernel_rfl) (by simp) ?_
    refine AllReadyH.cons rfl (fun K hK => ?_) AllReadyH.nil
    go_simp
    refine hK.out _ _ e0 (fun _ => ?_)
    clear hK K
    refine wpAnyH_ready (rs := [19]) (by kernel_rfl) (by simp) ?_
    refine AllReadyH.cons rfl (fun K hK => ?_) AllReadyH.nil
    obtain ⟨g3, cap3, egc, _, _, _, hg4, hat2, hfz2⟩ := own_get HM.out.2 (by rw [HN.out]; omega)
    have eg : g3 = g := by injection egc with h1; injection h1 with h2; injection h2 with h3; exact h3.symm
    subst eg
    have s0 := hat2 _ _ (rowN_get L i y HI.out 2 _ rfl)
    have s1 := hfz2 (i * 8 + 2)
    have hpg : p ≠ g3 := fun e => own_not HM.out.2 HM.out.1 (fun cur h => by injection h with _ h2; revert h2; decide) (by rw [e]; rfl)
    clear egc hat2 hfz2
    go_simp
    have c2 : (w3.setCell ⟨g3, i * 8 + 2, none⟩ (.slice (some ⟨g2, 0, none⟩) kl kc2)).cell? ⟨p, 0, none⟩ = some (.slice (some ⟨g3, 0, none⟩) n cap) := (World.cell?_setCell_other _ _ _ _ (fun e => by injection e with e1; exact hpg e1.symm)).trans e0
    refine hK.out _ _ c2 (fun _ => ?_)
    clear hK K
    refine wpAnyH_done (by kernel_rfl) ?_ _
    go_end0
    rw [HN.out]
    refine ⟨rfl, _, HE.out.1, ?_⟩
    refine Turns.trans (Turns.of_below (HB1.out.trans (HB2.out.mono HB1.out.size))) ?_
    exact HE.out.2
end Go.Proofs.Ytllimmmgjpnhkaa
