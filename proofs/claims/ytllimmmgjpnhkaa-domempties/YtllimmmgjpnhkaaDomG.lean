/- remove: the arena's last node is taken out. -/
import Derived.Test.YtllimmmgjpnhkaaDomV
set_option linter.unusedVariables false
set_option linter.unusedSimpArgs false
namespace Go.Proofs.Ytllimmmgjpnhkaa
open Go.Deep (BT)
open Go.RowKit M

theorem map_sharp {w : World} {b n m : Nat} {D : DataW Unit} (h : w.ownsMap Try.prog 3 (plainElem Try.prog 3) b n D) (hm : Maps.size D ≤ m) : w.ownsMap Try.prog 3 (plainElem Try.prog 3) b m D := by
  obtain ⟨es, clock, h1, h2, h3, rfl⟩ := h
  exact ⟨es, clock, h1, h2, by simpa [Maps.size, length_sorted] using hm, rfl⟩
theorem MapI.putSame {w : World} {b n : Nat} {f : Int → Option Int} (h : MapI w b n f) {x y : Int} (hx : Is64 x) (hy : Is64 y) (hf : f x = some y) (hn : n < maxLen) :
    ∃ w', (Instr.mapUpdate 67 (.map (some b)) (.int .i64 x) (.int .i64 y)).run Try.prog w = .ok () w' ∧ MapI w' b n f ∧ w.grownBy w' (some b) := by
  obtain ⟨D, h1, h2⟩ := h
  obtain ⟨w', hr, h3, h4⟩ := h1.update keyedI Try.underlying67 hn (keyI hx) (plainElem_int Try.underlying3 hy.out)
  have hh : Maps.has D (.int .i64 x) = true := by rw [(h2 x hx).1, hf]; rfl
  refine ⟨w', hr, ⟨_, map_sharp h3 ?_, fun z hz => ?_⟩, h4⟩
  · rw [Maps.size_put (h1.tidy keyedI), hh]
    exact h1.size_le
  · by_cases e : z = x
    · subst e
      refine ⟨by rw [hf]; simp [Maps.has_put_same h1.isMap (keyLitI z)], fun y' hy' => ?_⟩
      rw [hf] at hy'
      cases hy'
      exact Maps.atKey_put_same h1.isMap (keyLitI z) _ _
    · have ne : Lit.int .i64 z ≠ .int .i64 x := by simpa using e
      exact ⟨by rw [Maps.has_put_other ne]; exact (h2 z hz).1, fun y' hy' => by rw [Maps.atKey_put_other ne]; exact (h2 z hz).2 y' hy'⟩
theorem MapI.dropHas {w : World} {b n : Nat} {f : Int → Option Int} (h : MapI w b (n + 1) f) {x : Int} (hx : Is64 x) (hf : (f x).isSome = true) (ty : TypeId) :
    ∃ w', (Builtin.delete_ #[67, 3] ty #[.map (some b), .int .i64 x]).run Try.prog w = .ok (.tuple #[]) w' ∧ MapI w' b n (fun z => if z = x then none else f z) ∧ w.grownBy w' (some b) := by
  obtain ⟨D, h1, h2⟩ := h
  obtain ⟨w', hr, h3, h4⟩ := h1.drop keyedI Try.underlying67 (keyI hx) ty
  have hh : Maps.has D (.int .i64 x) = true := by rw [(h2 x hx).1, hf]
  refine ⟨w', hr, ⟨_, map_sharp h3 ?_, fun z hz => ?_⟩, h4.grown⟩
  · have e1 := Maps.size_del (k := .int .i64 x) (h1.tidy keyedI)
    rw [hh] at e1
    have e2 := h1.size_le
    simp at e1
    omega
  · by_cases e : z = x
    · subst e
      exact ⟨by simp [Maps.has_del_same], fun y' hy' => by simp at hy'⟩
    · have ne : Lit.int .i64 z ≠ .int .i64 x := by simpa using e
      simp only [e, if_false]
      exact ⟨by rw [Maps.has_del_other ne]; exact (h2 z hz).1, fun y' hy' => by rw [Maps.atKey_del_other ne]; exact (h2 z hz).2 y' hy'⟩

theorem place_cut {L0 : List DN} {z : DN} (h : placeOf (L0 ++ [z]) z.id = some (L0.length : Int)) : (fun y => if y = z.id then none else placeOf (L0 ++ [z]) y) = placeOf L0 := by
  funext y
  have h0 : L0.findIdx? (fun u => u.id == z.id) = none := by
    unfold placeOf at h
    rw [List.findIdx?_append] at h
    cases e : L0.findIdx? (fun u => u.id == z.id) with
    | none => rfl
    | some i =>
      rw [e] at h
      have hi := (List.findIdx?_eq_some_iff_getElem.1 e).1
      simp at h
      omega
  by_cases e : y = z.id
  · subst e
    simp [placeOf, h0]
  · simp only [e, if_false]
    unfold placeOf
    rw [List.findIdx?_append]
    have : [z].findIdx? (fun u => u.id == y) = none := by simp [List.findIdx?_cons, Ne.symm e]
    rw [this]
    cases L0.findIdx? (fun u => u.id == y) <;> rfl

theorem set_gr9 (w : World) (g k : Nat) (u : Value) : w.grownBy (w.setCell ⟨g, k, none⟩ u) (some g) := ⟨rfl, rfl, rfl, by simp [World.setCell], fun i hi hne => Below.heap_setCell _ _ _ _ (fun e => hne (by rw [e]))⟩
theorem rem_end {w W1 W2 : World} {B p mb g cap : Nat} {L0 : List DN} {z : DN} (h : Arena w B p (L0 ++ [z]) (.slice (some ⟨g, 0, none⟩) (L0.length + 1) cap) mb) (hz : placeOf (L0 ++ [z]) z.id = some (L0.length : Int))
    (hmap : MapI W1 mb L0.length (fun y => if y = z.id then none else placeOf (L0 ++ [z]) y)) (hg1 : w.grownBy W1 (some mb))
    (hrow : W2.ownsRow B 89 8 (.slice (some ⟨g, 0, none⟩) L0.length cap) L0.length (rowN L0)) (hg2 : W1.grownBy W2 (some g)) :
    Arena (W2.setCell ⟨p, 0, none⟩ (.slice (some ⟨g, 0, none⟩) L0.length cap)) B p L0 (.slice (some ⟨g, 0, none⟩) L0.length cap) mb ∧
      Turns w (W2.setCell ⟨p, 0, none⟩ (.slice (some ⟨g, 0, none⟩) L0.length cap)) (inA p mb (.slice (some ⟨g, 0, none⟩) (L0.length + 1) cap) (L0 ++ [z])) (inA p mb (.slice (some ⟨g, 0, none⟩) L0.length cap) L0) := by
  obtain ⟨es, clock, hm⟩ := h.map.isMap
  obtain ⟨es1, clock1, hm1⟩ := hmap.isMap
  have hrowW := h.row
  have hpL := (Array.getElem?_eq_some_iff.1 h.box).1
  have hmL := (Array.getElem?_eq_some_iff.1 hm).1
  have hpm : p ≠ mb := fun e => by rw [← e, h.box] at hm; cases hm
  have hpg : p ≠ g := fun e => own_not h.row h.box (fun cur h => by injection h with _ h2; revert h2; decide) (by rw [e]; rfl)
  have hmg : mb ≠ g := fun e => own_not h.row hm (fun cur h => by cases h) (by rw [e]; rfl)
  have s1 := hg1.size
  have s2 := hg2.size
  have k1 : ∀ k, k < w.heap.size → k ≠ mb → W1.heap[k]? = w.heap[k]? := fun k hk hne => hg1.block k hk (fun e => hne (Option.some.inj e))
  have k2 : ∀ k, k < W1.heap.size → k ≠ g → W2.heap[k]? = W1.heap[k]? := fun k hk hne => hg2.block k hk (fun e => hne (Option.some.inj e))
  have k3 : ∀ k, k ≠ p → (W2.setCell ⟨p, 0, none⟩ (.slice (some ⟨g, 0, none⟩) L0.length cap)).heap[k]? = W2.heap[k]? := fun k hk => Below.heap_setCell _ _ _ _ hk
  have kk : ∀ k, k < w.heap.size → k ≠ mb → k ≠ g → k ≠ p → (W2.setCell ⟨p, 0, none⟩ (.slice (some ⟨g, 0, none⟩) L0.length cap)).heap[k]? = w.heap[k]? := fun k hk h1 h2 h3 => by rw [k3 k h3, k2 k (by omega) h2, k1 k hk h1]
  have hbox2 : W2.heap[p]? = some (.cells #[.slice (some ⟨g, 0, none⟩) (L0 ++ [z]).length cap, .map (some mb)] 70) := by
    rw [k2 p (by omega) hpg, k1 p hpL hpm, List.length_append]; exact h.box
  have toE : ∀ {e : TypeId} {size : Nat} {u : Value} {m : Nat} {xs : List Value}, w.ownsRow B e size u m xs → e ≠ 89 → e ≠ 70 → (W2.setCell ⟨p, 0, none⟩ (.slice (some ⟨g, 0, none⟩) L0.length cap)).ownsRow B e size u m xs := by
    intro e size u m xs ho hen hed
    refine own_same ho (fun b hb hlt => kk b hlt ?_ ?_ ?_)
    · intro e2; exact own_not ho hm (fun cur h => by cases h) (by rw [← e2]; exact hb)
    · intro e2; exact own_apart ho hrowW hen hb (by rw [e2]; rfl)
    · intro e2; exact own_not ho h.box (fun cur h => by injection h with _ h2; exact hed h2.symm) (by rw [← e2]; exact hb)
  have sub : ∀ {u : DN}, u ∈ L0 → u ∈ L0 ++ [z] := fun hu => List.mem_append_left _ hu
  have idx : ∀ {k : Nat} {u : DN}, L0[k]? = some u → (L0 ++ [z])[k]? = some u := fun {k u} hu => by rw [List.getElem?_append_left (List.getElem?_eq_some_iff.1 hu).1]; exact hu
  constructor
  · refine ⟨?_, ?_, ?_, ?_, ?_, ?_, ?_, ?_, h.at', ?_⟩
    · exact set_heap6 hbox2
    · exact own_same hrow (fun b hb _ => k3 b (fun e => by cases hb; exact hpg e.symm))
    · intro u hu; exact toE (h.kids u (sub hu)) (by decide) (by decide)
    · intro u hu; exact toE (h.ats u (sub hu)) (by decide) (by decide)
    · intro a b s t hab hs ht; exact h.kidsApart a b s t hab (idx hs) (idx ht)
    · intro a b s t hab hs ht; exact h.atsApart a b s t hab (idx hs) (idx ht)
    · rw [place_cut hz] at hmap
      exact (hmap.block (k2 mb (Array.getElem?_eq_some_iff.1 hm1).1 hmg)).block (k3 mb (fun e => hpm e.symm))
    · have := h.few; rw [List.length_append] at this; exact Nat.le_trans (Nat.le_add_right _ _) this
    · intro u hu; exact h.ids u (sub hu)
  · refine ⟨hg2.os.trans hg1.os, hg2.tape.trans hg1.tape, hg2.output.trans hg1.output, by simp only [World.size_setCell]; omega, ?_, ?_⟩
    · intro k hk hA
      exact kk k hk (fun e => hA (.inr (.inl e))) (fun e => hA (.inr (.inr (.inl (by rw [e]; rfl))))) (fun e => hA (.inl e))
    · intro k hA
      rcases hA with e | e | e | ⟨u, hu, e⟩
      · exact .inl (.inl e)
      · exact .inl (.inr (.inl e))
      · exact .inl (.inr (.inr (.inl e)))
      · exact .inl (.inr (.inr (.inr ⟨u, sub hu, e⟩)))

set_option maxRecDepth 20000 in
set_option maxHeartbeats 4000000 in
theorem dremove_last (L0 : List DN) (z : DN) (B p mb : Nat) (v : Value) (w : World) (h : Arena w B p (L0 ++ [z]) v mb) (hz : placeOf (L0 ++ [z]) z.id = some (L0.length : Int)) :
    Calls Try.prog 61 #[.pointer (some ⟨p, 0, none⟩), .int .i64 z.id] w fun e w' => e = .returned (.tuple #[]) ∧ ∃ v', Arena w' B p L0 v' mb ∧ Turns w w' (inA p mb v (L0 ++ [z])) (inA p mb v' L0) := by
  have hlen : (L0 ++ [z]).length = L0.length + 1 := by simp
  have hx : Is64 z.id := h.ids z (List.mem_append_right _ List.mem_cons_self)
  have hf := h.few
  rw [hlen] at hf
  have hI : Is64 (L0.length : Int) := ⟨by simp [Lit.wf, IntKind.min, IntKind.max, IntKind.signed, IntKind.bits]; omega⟩
  have hrow := h.row
  rw [hlen] at hrow
  obtain ⟨g, cap, rfl, q1, q2, q3, q4, hat, hfz⟩ := own_get hrow (by omega)
  have hi : (L0 ++ [z])[L0.length]? = some z := by simp
  obtain ⟨ka, kc, ek, _⟩ := own_val (h.kids z (List.mem_append_right _ List.mem_cons_self))
  obtain ⟨aa, ac, ea, _⟩ := own_val (h.ats z (List.mem_append_right _ List.mem_cons_self))
  have a0 := hat _ _ (rowN_get _ _ z hi 0 _ rfl)
  have a1 := hat _ _ (rowN_get _ _ z hi 1 _ rfl)
  have a2 := hat _ _ (rowN_get _ _ z hi 2 _ rfl)
  have a3 := hat _ _ (rowN_get _ _ z hi 3 _ rfl)
  have a4 := hat _ _ (rowN_get _ _ z hi 4 _ rfl)
  have a5 := hat _ _ (rowN_get _ _ z hi 5 _ rfl)
  have a6 := hat _ _ (rowN_get _ _ z hi 6 _ rfl)
  have a7 := hat _ _ (rowN_get _ _ z hi 7 _ rfl)
  have hc0 : w.cell? ⟨p, 0, none⟩ = some (.slice (some ⟨g, 0, none⟩) (L0.length + 1) cap) := by simp [World.cell?, h.box]
  have hc1 : w.cell? ⟨p, 1, none⟩ = some (.map (some mb)) := by simp [World.cell?, h.box]
  have hlk : (Instr.lookup 67 (.map (some mb)) (.int .i64 z.id) false).run Try.prog w = .ok (.int .i64 (L0.length : Int)) w := h.map.look hx hz
  have HA := Fact.mk h
  have HZ := Fact.mk hz
  have HFZ := Fact.mk hfz
  obtain ⟨id, par, kids, ⟨K, N, X, A⟩, kv, av⟩ := z
  dsimp only at ek ea hlk hx ⊢
  subst ek ea
  obtain ⟨n, hn⟩ : ∃ n, L0.length = n := ⟨_, rfl⟩
  have HN := Fact.mk hn
  have f0 := hfz (n * 8 + 0)
  have f1 := hfz (n * 8 + 1)
  have f2 := hfz (n * 8 + 2)
  have f3 := hfz (n * 8 + 3)
  have f4 := hfz (n * 8 + 4)
  have f5 := hfz (n * 8 + 5)
  have f6 := hfz (n * 8 + 6)
  have f7 := hfz (n * 8 + 7)
  rw [hn] at a0 a1 a2 a3 a4 a5 a6 a7 hc0 hlk hI q1 hf ⊢
  rw [Nat.add_zero] at a0 f0
  have n0 : (0 : Int) ≤ (n : Int) := by omega
  have n1 : (n : Int) < ((n + 1 : Nat) : Int) := by omega
  clear h hz hat hfz hrow hi hlen hn
  go_enter Try.func61, Try.ntmps61
  go_upto_region 2 with fail
  go_region
  rw [set_same a0, set_same a1, set_same a2, set_same a3, set_same a4, set_same a5, set_same a6, set_same a7]
  have hmM := HA.out.map.block (w' := w.drew.drew) rfl
  rw [show (L0 ++ [(⟨id, par, kids, ⟨K, N, X, A⟩, .slice ka kids.length kc, .slice aa A.length ac⟩ : DN)]).length = L0.length + 1 from by simp] at hmM
  obtain ⟨W1, hr1, hm1, hg1⟩ := hmM.putSame hx hI (by rw [← HN.out]; exact HZ.out) (by rw [HN.out]; unfold maxLen; omega)
  obtain ⟨W2, hr2, hm2, hg2⟩ := hm1.dropHas hx (by rw [HZ.out]; rfl) 0
  have HM2 := Fact.mk hm2
  have HG : Fact (w.grownBy W2 (some mb)) := ⟨World.grownBy.trans ⟨hg1.os, hg1.tape, hg1.output, hg1.size, hg1.block⟩ hg2⟩
  have hg1' : w.grownBy W1 (some mb) := ⟨hg1.os, hg1.tape, hg1.output, hg1.size, hg1.block⟩
  obtain ⟨es, clock, hmm⟩ := HA.out.map.isMap
  have hgm : g ≠ mb := fun e => own_not HA.out.row hmm (fun cur h => by cases h) (by rw [← e]; rfl)
  have hpm : p ≠ mb := fun e => by rw [← e, HA.out.box] at hmm; cases hmm
  have hpg : p ≠ g := fun e => own_not HA.out.row HA.out.box (fun cur h => by injection h with _ h2; revert h2; decide) (by rw [e]; rfl)
  have hpL := (Array.getElem?_eq_some_iff.1 HA.out.box).1
  have g1 : W1.heap[g]? = w.heap[g]? := hg1'.block g q4 (fun e => hgm (Option.some.inj e))
  have g2 : W2.heap[g]? = w.heap[g]? := HG.out.block g q4 (fun e => hgm (Option.some.inj e))
  have p1 : W1.heap[p]? = w.heap[p]? := hg1'.block p hpL (fun e => hpm (Option.some.inj e))
  have p2 : W2.heap[p]? = w.heap[p]? := HG.out.block p hpL (fun e => hpm (Option.some.inj e))
  have d1 : W1.cell? ⟨p, 1, none⟩ = some (.map (some mb)) := (World.cell?_of_block (w := w) (a := ⟨p, 1, none⟩) p1).trans hc1
  have e0 : W2.cell? ⟨p, 0, none⟩ = some (.slice (some ⟨g, 0, none⟩) (n + 1) cap) := (World.cell?_of_block (w := w) (a := ⟨p, 0, none⟩) p2).trans hc0
  have ef : W2.frozen? ⟨p, 0, none⟩ = false := by rw [World.frozen?_of_block (w := w) (a := ⟨p, 0, none⟩) p2]; simp [World.frozen?, HA.out.box]
  have b0 := (World.cell?_of_block (w := w) (a := ⟨g, n * 8, none⟩) g2).trans a0
  have b1 := (World.cell?_of_block (w := w) (a := ⟨g, n * 8 + 1, none⟩) g2).trans a1
  have b2 := (World.cell?_of_block (w := w) (a := ⟨g, n * 8 + 2, none⟩) g2).trans a2
  have b3 := (World.cell?_of_block (w := w) (a := ⟨g, n * 8 + 3, none⟩) g2).trans a3
  have b4 := (World.cell?_of_block (w := w) (a := ⟨g, n * 8 + 4, none⟩) g2).trans a4
  have b5 := (World.cell?_of_block (w := w) (a := ⟨g, n * 8 + 5, none⟩) g2).trans a5
  have b6 := (World.cell?_of_block (w := w) (a := ⟨g, n * 8 + 6, none⟩) g2).trans a6
  have b7 := (World.cell?_of_block (w := w) (a := ⟨g, n * 8 + 7, none⟩) g2).trans a7
  have ff : ∀ o, W2.frozen? ⟨g, o, none⟩ = false := fun o => by rw [World.frozen?_of_block (w := w) (a := ⟨g, o, none⟩) g2]; exact HFZ.out o
  have h0 := ff (n * 8)
  have h1 := ff (n * 8 + 1)
  have h2 := ff (n * 8 + 2)
  have h3 := ff (n * 8 + 3)
  have h4 := ff (n * 8 + 4)
  have h5 := ff (n * 8 + 5)
  have h6 := ff (n * 8 + 6)
  have h7 := ff (n * 8 + 7)
  clear hmM hm1 hm2 hg1 hg2 hmm ff g1 p1 f0 f1 f2 f3 f4 f5 f6 f7 
  go_upto_region 3 with fail
  go_region
  go_upto_region 5 with fail
  go_upto_region 6 with fail
  have r0 : W2.ownsRow B 89 8 (.slice (some ⟨g, 0, none⟩) n cap) n (rowN L0) := by
    have r := HA.out.row
    rw [show (L0 ++ [(⟨id, par, kids, ⟨K, N, X, A⟩, .slice ka kids.length kc, .slice aa A.length ac⟩ : DN)]).length = n + 1 from by simp [HN.out], HN.out, rowN_app] at r
    exact own_cut (own_same r (fun b hb _ => by cases hb; exact g2)) (by rw [rowN_len, HN.out])
  have r1 := own_past r0 (n * 8) (by omega) (.int .i64 0)
  have r2 := own_past r1 (n * 8 + 1) (by omega) (.int .i64 0)
  have r3 := own_past r2 (n * 8 + 2) (by omega) (.slice none 0 0)
  have r4 := own_past r3 (n * 8 + 3) (by omega) (.int .i64 0)
  have r5 := own_past r4 (n * 8 + 4) (by omega) (.string ⟨#[]⟩)
  have r6 := own_past r5 (n * 8 + 5) (by omega) (.string ⟨#[]⟩)
  have r7 := own_past r6 (n * 8 + 6) (by omega) (.slice none 0 0)
  have r8 := own_past r7 (n * 8 + 7) (by omega) (.slice none 0 0)
  have HGR : Fact (W2.grownBy ((((((((W2.setCell ⟨g, n * 8, none⟩ (.int .i64 0)).setCell ⟨g, n * 8 + 1, none⟩ (.int .i64 0)).setCell ⟨g, n * 8 + 2, none⟩ (.slice none 0 0)).setCell ⟨g, n * 8 + 3, none⟩ (.int .i64 0)).setCell ⟨g, n * 8 + 4, none⟩ (.string ⟨#[]⟩)).setCell ⟨g, n * 8 + 5, none⟩ (.string ⟨#[]⟩)).setCell ⟨g, n * 8 + 6, none⟩ (.slice none 0 0)).setCell ⟨g, n * 8 + 7, none⟩ (.slice none 0 0)) (some g)) := ⟨(((((((set_gr9 W2 g (n * 8) (.int .i64 0)).trans (set_gr9 _ g (n * 8 + 1) (.int .i64 0))).trans (set_gr9 _ g (n * 8 + 2) (.slice none 0 0))).trans (set_gr9 _ g (n * 8 + 3) (.int .i64 0))).trans (set_gr9 _ g (n * 8 + 4) (.string ⟨#[]⟩))).trans (set_gr9 _ g (n * 8 + 5) (.string ⟨#[]⟩))).trans (set_gr9 _ g (n * 8 + 6) (.slice none 0 0))).trans (set_gr9 _ g (n * 8 + 7) (.slice none 0 0))⟩
  obtain ⟨W3, hW3⟩ : ∃ W3, ((((((((W2.setCell ⟨g, n * 8, none⟩ (.int .i64 0)).setCell ⟨g, n * 8 + 1, none⟩ (.int .i64 0)).setCell ⟨g, n * 8 + 2, none⟩ (.slice none 0 0)).setCell ⟨g, n * 8 + 3, none⟩ (.int .i64 0)).setCell ⟨g, n * 8 + 4, none⟩ (.string ⟨#[]⟩)).setCell ⟨g, n * 8 + 5, none⟩ (.string ⟨#[]⟩)).setCell ⟨g, n * 8 + 6, none⟩ (.slice none 0 0)).setCell ⟨g, n * 8 + 7, none⟩ (.slice none 0 0)) = W3 := ⟨_, rfl⟩
  have k3 : W3.heap[p]? = W2.heap[p]? := by
    have hs := HG.out.size
    rw [← hW3]
    exact HGR.out.block p (by omega) (fun e => hpg (Option.some.inj e))
  rw [hW3] at HGR r8 ⊢
  have HR := Fact.mk r8
  have s0 : W3.cell? ⟨p, 0, none⟩ = some (.slice (some ⟨g, 0, none⟩) (n + 1) cap) := (World.cell?_of_block (w := W2) (a := ⟨p, 0, none⟩) k3).trans e0
  have s1 : W3.frozen? ⟨p, 0, none⟩ = false := by rw [World.frozen?_of_block (w := W2) (a := ⟨p, 0, none⟩) k3]; exact ef
  have HE := Fact.mk (rem_end (W1 := W2) (W2 := W3) HA.out HZ.out HM2.out HG.out (by rw [HN.out]; exact HR.out) HGR.out)
  rw [HN.out] at HE
  clear r0 r1 r2 r3 r4 r5 r6 r7 r8 hW3 b0 b1 b2 b3 b4 b5 b6 b7 h0 h1 h2 h3 h4 h5 h6 h7 a0 a1 a2 a3 a4 a5 a6 a7 hr1 hr2 hlk
  go_wp2_with fail
  go_end0
  exact ⟨rfl, _, HE.out.1, HE.out.2⟩
end Go.Proofs.Ytllimmmgjpnhkaa
