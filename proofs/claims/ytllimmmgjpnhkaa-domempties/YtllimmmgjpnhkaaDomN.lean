/- add: a node more in the arena. -/
import Derived.Test.YtllimmmgjpnhkaaDomT
import Derived.Deep.RegionHeld3
import Derived.Deep.DeepCutAuto
set_option linter.unusedVariables false
set_option linter.unusedSimpArgs false
namespace Go.Proofs.Ytllimmmgjpnhkaa
open Go.Deep (BT)
open Go.RowKit M

/-- append as one step, whose outcome is known -/
theorem wp_append_known {P : Program} {Q : Exit → Act → World → Prop} {o : Oper} {a : Act} {w : World} {K : Act → World → Prop} {s y : Operand} {t : TypeId} {v x v' : Value} {w' : World} (ho : o.op = .call { callee := .builtin .append, args := #[s, y], argTypes := #[t, t] })
    (hs : a.eval s = v) (hx : a.eval y = x) (hr : (Builtin.append_ #[t, t] o.type #[v, x]).run P w = .ok v' w') (h : K (a.put o.dst v') w') : o.wp P a w K Q := by
  unfold Oper.wp execOp
  simp only [ho, resolve, invoke, builtin, Sem.run_bind, Sem.run_pure, Result.andThen_ok, List.map_toArray, List.map_cons, List.map_nil, hs, hx, hr]
  exact h
theorem box_grown {w w' : World} {p mb : Nat} {c : Array Value} {t : TypeId} (h : w.heap[p]? = some (.cells c t)) (hm : ∃ es clock, w.heap[mb]? = some (.map es clock)) (hg : w.grownBy w' (some mb)) : w'.heap[p]? = some (.cells c t) := by
  obtain ⟨es, clock, hm⟩ := hm
  have hne : p ≠ mb := fun e => by rw [e, hm] at h; cases h
  rw [hg.block p (Array.getElem?_eq_some_iff.1 h).1 (fun e => hne (Option.some.inj e))]
  exact h
theorem RowOn.keptMap {w w' : World} {v : Value} {n size mb : Nat} {row : List Value} (h : RowOn w v n size row) (hm : ∃ es clock, w.heap[mb]? = some (.map es clock)) (hg : w.grownBy w' (some mb)) : RowOn w' v n size row := by
  obtain ⟨es, clock, hm⟩ := hm
  refine ⟨h.len, h.one, ?_⟩
  obtain ⟨a, cap, e, h1, h2, h3⟩ := h.at'
  refine ⟨a, cap, e, h1, h2, ?_⟩
  rcases h3 with h3 | ⟨ad, ea, hc⟩
  · exact .inl h3
  · refine .inr ⟨ad, ea, fun j u hu => hg.cell (hc j u hu) ?_⟩
    intro e
    have h5 := hc j u hu
    have e2 : (ad.add j).block = mb := Option.some.inj e
    simp only [World.cell?, e2, hm] at h5
    cases h5
theorem infoDN : (Try.prog.info? 89).map (fun i => (i.zero, i.size, i.bytes)) = some (some (.agg #[.int .i64 0, .int .i64 0, .slice none 0 0, .int .i64 0, .string ⟨#[]⟩, .string ⟨#[]⟩, .slice none 0 0, .slice none 0 0]), 8, 128) := by kernel_rfl
theorem own_same {w w' : World} {B : Nat} {e : TypeId} {size : Nat} {u : Value} {m : Nat} {xs : List Value} (ho : w.ownsRow B e size u m xs) (h : ∀ g, u.ownBlock = some g → g < w.heap.size → w'.heap[g]? = w.heap[g]?) : w'.ownsRow B e size u m xs := by
  refine ⟨ho.1, ?_⟩
  rcases ho.2 with h0 | ⟨g, cap, cur, h1, h2, h3, h4⟩
  · exact .inl h0
  · exact .inr ⟨g, cap, cur, h1, h2, (h g (by rw [h1]; rfl) (Array.getElem?_eq_some_iff.1 h3).1).trans h3, h4⟩
theorem own_cells {w : World} {B : Nat} {e : TypeId} {size : Nat} {u : Value} {m : Nat} {xs : List Value} (ho : w.ownsRow B e size u m xs) {g : Nat} (hg : u.ownBlock = some g) : ∃ cur, w.heap[g]? = some (.cells cur e (0, 0)) := by
  rcases ho.2 with ⟨h0, _⟩ | ⟨g', cap, cur, h1, h2, h3, h4⟩
  · rw [h0] at hg; cases hg
  · rw [h1] at hg
    cases hg
    exact ⟨cur, h3⟩
/-- rows of unlike types lie in unlike blocks -/
theorem own_apart {w : World} {B B' : Nat} {e e' : TypeId} {size size' : Nat} {u u' : Value} {m m' : Nat} {xs xs' : List Value} (ho : w.ownsRow B e size u m xs) (ho' : w.ownsRow B' e' size' u' m' xs') (hne : e ≠ e') {g : Nat} (hg : u.ownBlock = some g) : u'.ownBlock ≠ some g := by
  intro hg'
  obtain ⟨cur, h1⟩ := own_cells ho hg
  obtain ⟨cur', h2⟩ := own_cells ho' hg'
  rw [h1] at h2
  injection h2 with h3
  injection h3 with _ h4
  exact hne h4
theorem own_not {w : World} {B : Nat} {e : TypeId} {size : Nat} {u : Value} {m : Nat} {xs : List Value} (ho : w.ownsRow B e size u m xs) {k : Nat} {o : Obj} (hk : w.heap[k]? = some o) (hn : ∀ cur, o ≠ .cells cur e (0, 0)) : u.ownBlock ≠ some k := by
  intro hg
  obtain ⟨cur, h1⟩ := own_cells ho hg
  rw [hk] at h1
  exact hn cur (Option.some.inj h1)

/-- the arena behind add -/
theorem add_end {w W W1 w2 : World} {L : List DN} {B p mb : Nat} {v : Value} {x : Int} {d : Nd} {av' : Value} {o : Obj} (h : Arena w B p L v mb) (hW : Arena W B p L v mb) (hbW : Below w.heap.size w W) (hx : Is64 x) (hno : placeOf L x = none) (hfew : L.length < 1000)
    (hmap : MapI W1 mb (L.length + 1) (fun z => if z = x then some (L.length : Int) else placeOf L z)) (hg : W.drew.grownBy W1 (some mb)) (hb2 : Below W1.drew.heap.size W1.drew w2) (hown : w2.ownsRow W1.drew.heap.size 97 2 av' d.ats.length (rowA d.ats)) (ho : o = .cells (cellsN ⟨x, -1, [], d, .slice none 0 0, av'⟩).toArray 89) :
    ∃ v2 w4, (Builtin.append_ #[68, 68] 68 #[v, .slice (some ⟨w2.heap.size, 0, none⟩) 1 1]).run Try.prog (w2.alloc o) = .ok v2 w4 ∧ w4.heap[p]? = some (.cells #[v, .map (some mb)] 70) ∧ (∃ a c, v2 = .slice a (L.length + 1) c) ∧
      Arena (w4.setCell ⟨p, 0, none⟩ v2) B p (L ++ [⟨x, -1, [], d, .slice none 0 0, av'⟩]) v2 mb ∧ Turns w (w4.setCell ⟨p, 0, none⟩ v2) (inA p mb v L) (inA p mb v2 (L ++ [⟨x, -1, [], d, .slice none 0 0, av'⟩])) := by
  subst ho
  obtain ⟨i0, hii, hz0, hz1, hz2⟩ := info_parts infoDN
  obtain ⟨es, clock, hmapW⟩ := hW.map.isMap
  have hmD : W.drew.heap[mb]? = some (.map es clock) := hmapW
  obtain ⟨es1, clock1, hmapW1⟩ := hmap.isMap
  have hszD : W.drew.heap.size = W.heap.size := rfl
  have hsz1 : W.heap.size ≤ W1.heap.size := hg.size
  have hsz2 : W1.heap.size ≤ w2.heap.size := hb2.size
  have hszW : w.heap.size ≤ W.heap.size := hbW.size
  have k1 : ∀ k, k < W.heap.size → k ≠ mb → W1.heap[k]? = W.heap[k]? := fun k hk hm => hg.block k hk (fun e => hm (Option.some.inj e))
  have k2 : ∀ k, k < W1.heap.size → w2.heap[k]? = W1.heap[k]? := fun k hk => hb2.block k hk
  -- every row of the arena, in W1 and in w2
  have toW2 : ∀ {e : TypeId} {size : Nat} {u : Value} {m : Nat} {xs : List Value}, W.ownsRow B e size u m xs → w2.ownsRow B e size u m xs := by
    intro e size u m xs ho2
    refine own_same ho2 (fun g hg2 hlt => ?_)
    have hne : g ≠ mb := fun e2 => own_not ho2 hmapW (fun cur h => by cases h) (by rw [← e2]; exact hg2)
    rw [k2 g (by omega), k1 g hlt hne]
  have hrow2 := toW2 hW.row
  have hpW : p < W.heap.size := (Array.getElem?_eq_some_iff.1 hW.box).1
  have hpm : p ≠ mb := fun e => by rw [← e, hW.box] at hmapW; cases hmapW
  have hbox2 : w2.heap[p]? = some (.cells #[v, .map (some mb)] 70) := by rw [k2 p (by omega), k1 p hpW hpm]; exact hW.box
  have hmb1 : mb < W1.heap.size := (Array.getElem?_eq_some_iff.1 hmapW1).1
  have hmap2 : MapI w2 mb (L.length + 1) (fun z => if z = x then some (L.length : Int) else placeOf L z) := hmap.block (k2 mb hmb1)
  -- one block more
  generalize hoo : Obj.cells (cellsN ⟨x, -1, [], d, .slice none 0 0, av'⟩).toArray 89 (0, 0) = o
  have k3 : ∀ k, k < w2.heap.size → (w2.alloc o).heap[k]? = w2.heap[k]? := fun k hk => Below.heap_alloc _ _ _ hk
  have hrow3 : (w2.alloc o).ownsRow B 89 8 v L.length (rowN L) := own_same hrow2 (fun g _ hlt => k3 g hlt)
  obtain ⟨v2, w4, hr, hown4, hg4, _, hblk⟩ := run_append_own_at (P := Try.prog) (w2.alloc o) B 68 68 89 i0 _ 8 128 Try.underlying68 hii hz0 hz1 hz2 rfl (by decide) v L.length (rowN L) hrow3 ⟨w2.heap.size, 0, none⟩ 1 1 (cellsN ⟨x, -1, [], d, .slice none 0 0, av'⟩) rfl
    (fun j u hu => by
      rw [← hoo, add_cell, Nat.zero_add, World.cell?_alloc_mark, List.getElem?_toArray]
      exact hu) (by
      intro u hu
      obtain ⟨aa, cc, eu, _⟩ := own_val hown
      simp only [cellsN, List.mem_cons, List.mem_nil_iff, or_false] at hu
      rcases hu with rfl | rfl | rfl | rfl | rfl | rfl | rfl | rfl <;> first | rfl | (rw [eu]; rfl)) (by unfold maxLen; omega) (by omega) (by
      have := hW.at'.1
      simp only [World.size_alloc]
      omega)
  have hsz4 : w2.heap.size + 1 ≤ w4.heap.size := by have := hg4.size; simp only [World.size_alloc] at this; exact this
  have k4 : ∀ k, k < w2.heap.size → some k ≠ v.ownBlock → w4.heap[k]? = w2.heap[k]? := fun k hk hne => by
    rw [hg4.block k (by simp only [World.size_alloc]; omega) hne]; exact k3 k hk
  have hpv : some p ≠ v.ownBlock := fun e => own_not hrow2 hbox2 (fun cur h => by injection h with _ h2; revert h2; decide) e.symm
  have hbox4 : w4.heap[p]? = some (.cells #[v, .map (some mb)] 70) := by rw [k4 p (by omega) hpv]; exact hbox2
  obtain ⟨es2, clock2, hmapw2⟩ := hmap2.isMap
  have hmv : some mb ≠ v.ownBlock := fun e => own_not hrow2 hmapw2 (fun cur h => by cases h) e.symm
  have k5 : ∀ k, k ≠ p → (w4.setCell ⟨p, 0, none⟩ v2).heap[k]? = w4.heap[k]? := fun k hk => Below.heap_setCell _ _ _ _ hk
  -- rows of other types
  have to5 : ∀ {e : TypeId} {size : Nat} {u : Value} {m : Nat} {xs : List Value} {B' : Nat}, w2.ownsRow B' e size u m xs → e ≠ 89 → e ≠ 70 → (w4.setCell ⟨p, 0, none⟩ v2).ownsRow B' e size u m xs := by
    intro e size u m xs B' ho2 hen hed
    refine own_same ho2 (fun g hg2 hlt => ?_)
    have hgp : g ≠ p := fun e2 => own_not ho2 hbox2 (fun cur h => by injection h with _ h2; exact hed h2.symm) (by rw [← e2]; exact hg2)
    have hgv : some g ≠ v.ownBlock := fun e2 => own_apart ho2 hrow2 hen hg2 e2.symm
    rw [k5 g hgp, k4 g hlt hgv]
  refine ⟨v2, w4, hr, hbox4, ?_, ?_, ?_⟩
  · obtain ⟨a, c, e, _⟩ := own_val hown4
    exact ⟨a, c, e⟩
  · have hp2 : ∀ g, v2.ownBlock = some g → g ≠ p := fun g hg2 e2 => own_not hown4 hbox4 (fun cur h => by injection h with _ h2; revert h2; decide) (by rw [← e2]; exact hg2)
    have hB1 : B ≤ W1.heap.size := by have := hW.at'.1; omega
    have hatL : ∀ {z : DN} {g : Nat}, z ∈ L → z.av.ownBlock = some g → g < W1.heap.size := fun hz hg2 => by have := ((hW.ats _ hz).lt _ hg2).2; omega
    have hatN : ∀ {g : Nat}, av'.ownBlock = some g → W1.heap.size ≤ g := fun hg2 => (hown.lt _ hg2).1
    have split : ∀ {i : Nat} {z : DN}, (L ++ [⟨x, -1, [], d, .slice none 0 0, av'⟩])[i]? = some z → L[i]? = some z ∨ (i = L.length ∧ z = ⟨x, -1, [], d, .slice none 0 0, av'⟩) := by
      intro i z hz
      by_cases hi : i < L.length
      · rw [List.getElem?_append_left hi] at hz; exact .inl hz
      · rw [List.getElem?_append_right (by omega)] at hz
        have h0 : i - L.length = 0 := by
          have := (List.getElem?_eq_some_iff.1 hz).1
          simp at this
          exact this
        rw [h0] at hz
        simp at hz
        exact .inr ⟨by omega, hz.symm⟩
    have hpl : placeOf (L ++ [⟨x, -1, [], d, .slice none 0 0, av'⟩]) = fun z => if z = x then some (L.length : Int) else placeOf L z := funext fun z => placeOf_app L _ hno z
    refine ⟨?_, ?_, ?_, ?_, ?_, ?_, ?_, ?_, hW.at', ?_⟩
    · exact set_heap6 (i := 0) (v := v2) hbox4
    · rw [rowN_app, List.length_append]
      exact own_same hown4 (fun g hg2 _ => k5 g (hp2 g hg2))
    · intro z hz
      rcases List.mem_append.1 hz with hz | hz
      · exact to5 (toW2 (hW.kids z hz)) (by decide) (by decide)
      · rw [List.mem_singleton] at hz
        subst hz
        exact World.ownsRow_nil _ _ _ _
    · intro z hz
      rcases List.mem_append.1 hz with hz | hz
      · exact to5 (toW2 (hW.ats z hz)) (by decide) (by decide)
      · rw [List.mem_singleton] at hz
        subst hz
        exact own_base (to5 hown (by decide) (by decide)) hB1
    · intro i j y z hij hy hz b hb
      rcases split hy with hy | ⟨_, rfl⟩
      · rcases split hz with hz | ⟨_, rfl⟩
        · exact hW.kidsApart i j y z hij hy hz b hb
        · intro e; cases e
      · cases hb
    · intro i j y z hij hy hz b hb
      rcases split hy with hy | ⟨hi, rfl⟩
      · rcases split hz with hz | ⟨_, rfl⟩
        · exact hW.atsApart i j y z hij hy hz b hb
        · intro e
          have h1 := hatL (List.mem_of_getElem? hy) hb
          have h2 := hatN e
          omega
      · rcases split hz with hz | ⟨hj, rfl⟩
        · intro e
          have h1 := hatL (List.mem_of_getElem? hz) e
          have h2 := hatN hb
          omega
        · omega
    · rw [hpl, List.length_append]
      refine hmap2.block ?_
      have hmw2 : mb < w2.heap.size := (Array.getElem?_eq_some_iff.1 hmapw2).1
      rw [k5 mb (fun e => hpm e.symm), k4 mb hmw2 hmv]
    · rw [List.length_append]
      simp only [List.length_cons, List.length_nil]
      omega
    · intro z hz
      rcases List.mem_append.1 hz with hz | hz
      · exact hW.ids z hz
      · rw [List.mem_singleton] at hz
        subst hz
        exact hx
  · refine ⟨?_, ?_, ?_, ?_, ?_, ?_⟩
    · exact (hg4.os.trans hb2.os).trans (hg.os.trans hbW.os)
    · exact (hg4.tape.trans hb2.tape).trans (hg.tape.trans hbW.tape)
    · exact (hg4.output.trans hb2.output).trans (hg.output.trans hbW.output)
    · simp only [World.size_setCell]; omega
    · intro k hk hA
      have h1 : k ≠ p := fun e => hA (.inl e)
      have h2 : k ≠ mb := fun e => hA (.inr (.inl e))
      have h3 : some k ≠ v.ownBlock := fun e => hA (.inr (.inr (.inl e.symm)))
      rw [k5 k h1, k4 k (by omega) h3, k2 k (by omega), k1 k (by omega) h2]
      exact hbW.block k hk
    · intro k hA
      rcases hA with e | e | e | ⟨z, hz, e⟩
      · exact .inl (.inl e)
      · exact .inl (.inr (.inl e))
      · rcases hblk with h1 | h1
        · exact .inl (.inr (.inr (.inl (by rw [← h1]; exact e))))
        · rw [h1] at e
          cases e
          exact .inr (by simp only [World.size_alloc]; omega)
      · rcases List.mem_append.1 hz with hz | hz
        · exact .inl (.inr (.inr (.inr ⟨z, hz, e⟩)))
        · rw [List.mem_singleton] at hz
          subst hz
          rcases e with e | e
          · cases e
          · exact .inr (by have := (hown.lt _ e).1; have : W1.drew.heap.size = W1.heap.size := rfl; omega)
set_option maxRecDepth 20000 in
set_option maxHeartbeats 4000000 in
theorem dadd_any (L : List DN) (B p mb : Nat) (v : Value) (w : World) (x : Int) (d : Nd) (av : Value) (ka : Option Addr) (kl kc : Nat) (h : Arena w B p L v mb) (hx : Is64 x) (hno : placeOf L x = none) (hr : RowOn w av d.ats.length 2 (rowA d.ats)) (hfew : L.length < 1000) (ha : d.ats.length ≤ 1000000) :
    Calls Try.prog 57 #[.pointer (some ⟨p, 0, none⟩), .int .i64 x, nodeV d av (.slice ka kl kc)] w fun e w' => e = .returned (.tuple #[]) ∧ ∃ v' av', Arena w' B p (L ++ [⟨x, -1, [], d, .slice none 0 0, av'⟩]) v' mb ∧ Turns w w' (inA p mb v L) (inA p mb v' (L ++ [⟨x, -1, [], d, .slice none 0 0, av'⟩])) := by
  obtain ⟨Kd, N, X, A⟩ := d
  dsimp only at hr ha ⊢
  obtain ⟨aa, ac, ea, _⟩ := hr.at'
  subst ea
  have hc0 : w.cell? ⟨p, 0, none⟩ = some v := by simp [World.cell?, h.box]
  have hc1 : w.cell? ⟨p, 1, none⟩ = some (.map (some mb)) := by simp [World.cell?, h.box]
  obtain ⟨va, vc, ev, _⟩ := own_val h.row
  subst ev
  have HA := Fact.mk h
  have HR := Fact.mk hr
  have HN := Fact.mk hno
  have hI : Is64 (L.length : Int) := ⟨by simp [Lit.wf, IntKind.min, IntKind.max, IntKind.signed, IntKind.bits]; omega⟩
  clear h hr hno
  go_enter Try.func57, Try.ntmps57
  go_wp2_with fail
  obtain ⟨W, hW⟩ : ∃ W, w.alloc (.cells #[.int .i64 Kd, .string N, .string X, .slice aa A.length ac, .slice ka kl kc] 25) = W := ⟨_, rfl⟩
  rw [hW]
  obtain ⟨hz, hB, hnew⟩ := five_one hW
  have hgW : w.grownBy W none := by rw [← hW]; exact World.grownBy_alloc w _ none
  have HA1 := Fact.mk (HA.out.below hB (Nat.le_refl _))
  have d0 : W.cell? ⟨p, 0, none⟩ = some (.slice va L.length vc) := by simp [World.cell?, HA1.out.box]
  have d1 : W.cell? ⟨p, 1, none⟩ = some (.map (some mb)) := by simp [World.cell?, HA1.out.box]
  obtain ⟨W1, hrun, hmap, hgr⟩ := (HA1.out.map.block (w' := W.drew) rfl).put hx hI (by unfold maxLen; omega)
  have HM := Fact.mk hmap
  have HG := Fact.mk hgr
  have HZ := Fact.mk hz
  have HB0 := Fact.mk hB
  have HNEW := Fact.mk hnew
  have HR1 := Fact.mk (HR.out.kept hgW)
  clear hW hz hB hnew hgW hmap hgr hc0 hc1
  go_region
  have hmm : ∃ es clock, W.drew.heap[mb]? = some (.map es clock) := HA1.out.map.isMap
  have hbox1 : W1.heap[p]? = some (.cells #[.slice va L.length vc, .map (some mb)] 70) := box_grown (w := W.drew) HA1.out.box hmm HG.out
  have htr1 : W1.heap[w.heap.size]? = some (.cells #[.int .i64 Kd, .string N, .string X, .slice aa A.length ac, .slice ka kl kc] 25) := box_grown (w := W.drew) HNEW.out hmm HG.out
  have e0 : W1.cell? ⟨p, 0, none⟩ = some (.slice va L.length vc) := by simp [World.cell?, hbox1]
  obtain ⟨t0, t1, t2, t3, t4, _⟩ := five_at htr1
  have HX1 := Fact.mk hbox1
  have HRW := Fact.mk ((RowOn.keptMap (w := W.drew) (w' := W1) ⟨HR1.out.len, HR1.out.one, HR1.out.at'⟩ hmm HG.out))
  clear d0 d1 hrun hmm
  go_upto_region 2 with fail
  refine wp_region_held_drew (S := fun _ => True) (by kernel_rfl) trivial (fun _ => ?_)
  refine wpAnyH_take (i := 0) (v := ?v0n1) rfl (by kernel_rfl) (by kernel_rfl) (by kernel_rfl) (fun _ _ _ h => h) (Or.inl ⟨by rfl, ?hy0n1⟩) trivial ?rr0n1
  case hy0n1 =>
    intro w hSw
    go_simp
    try with_reducible rfl
  try simp only [Act.put, List.getElem_toArray, List.getElem_cons_succ, List.getElem_cons_zero, List.setIfInBounds_toArray, List.set_cons_zero, List.set_cons_succ]
  refine wpAnyH_take (i := 1) (v := ?v1n2) rfl (by kernel_rfl) (by kernel_rfl) (by kernel_rfl) (fun _ _ _ h => h) (Or.inl ⟨by rfl, ?hy1n2⟩) trivial ?rr1n2
  case hy1n2 =>
    intro w hSw
    go_simp
    try with_reducible rfl
  try simp only [Act.put, List.getElem_toArray, List.getElem_cons_succ, List.getElem_cons_zero, List.setIfInBounds_toArray, List.set_cons_zero, List.set_cons_succ]
  refine wpAnyH_take (i := 2) (v := ?v2n3) rfl (by kernel_rfl) (by kernel_rfl) (by kernel_rfl) (fun _ _ _ h => h) (Or.inl ⟨by rfl, ?hy2n3⟩) trivial ?rr2n3
  case hy2n3 =>
    intro w hSw
    go_simp
    try with_reducible rfl
  try simp only [Act.put, List.getElem_toArray, List.getElem_cons_succ, List.getElem_cons_zero, List.setIfInBounds_toArray, List.set_cons_zero, List.set_cons_succ]
  refine wpAnyH_take (i := 3) (v := ?v3n4) rfl (by kernel_rfl) (by kernel_rfl) (by kernel_rfl) (fun _ _ _ h => h) (Or.inl ⟨by rfl, ?hy3n4⟩) trivial ?rr3n4
  case hy3n4 =>
    intro w hSw
    go_simp
    try with_reducible rfl
  try simp only [Act.put, List.getElem_toArray, List.getElem_cons_succ, List.getElem_cons_zero, List.setIfInBounds_toArray, List.set_cons_zero, List.set_cons_succ]
  refine wpAnyH_take (i := 5) (v := ?v5n5) rfl (by kernel_rfl) (by kernel_rfl) (by kernel_rfl) (fun _ _ _ h => h) (Or.inl ⟨by rfl, ?hy5n5⟩) trivial ?rr5n5
  case hy5n5 =>
    intro w hSw
    go_simp
    try with_reducible rfl
  try simp only [Act.put, List.getElem_toArray, List.getElem_cons_succ, List.getElem_cons_zero, List.setIfInBounds_toArray, List.set_cons_zero, List.set_cons_succ]
  refine wpAnyH_ready (rs := [4, 6]) (by kernel_rfl) (by simp) ?_
  refine AllReadyH.cons rfl (fun K hK => ?_) (AllReadyH.cons rfl (fun K hK => ?_) AllReadyH.nil)
  ·
    go_simp
    refine hK.out _ _ trivial (fun _ => ?_)
    clear hK K
    refine wpAnyH_ready (rs := [6]) (by kernel_rfl) (by simp) ?_
    refine AllReadyH.cons rfl (fun K hK => ?_) AllReadyH.nil
    go_simp
    refine hK.out _ _ trivial (fun _ => ?_)
    clear hK K
    refine wpAnyH_ready (rs := [7]) (by kernel_rfl) (by simp) ?_
    refine AllReadyH.cons rfl (fun K hK => ?_) AllReadyH.nil
    go_simp
    refine (bare_any ⟨Kd, N, X, A⟩ _ ka kl kc _ (show RowOn W1.drew _ _ _ _ from ⟨HRW.out.len, HRW.out.one, HRW.out.at'⟩) ha).mono ?_
    rintro e w2 ⟨v', rfl, hown, hb2⟩
    obtain ⟨na, nc, ev, _⟩ := own_val hown
    subst ev
    have e2 : w2.cell? ⟨p, 0, none⟩ = some (.slice va L.length vc) := (hb2.cell (p := ⟨p, 0, none⟩) (World.block_lt_of_cell? _ _ e0)).trans e0
    have e3 : ∀ o, (w2.alloc o).cell? ⟨p, 0, none⟩ = some (.slice va L.length vc) := fun o => (World.cell?_alloc_some _ _ _ (by rw [e2]; rfl)).trans e2
    dsimp only
    refine hK.out _ _ trivial (fun _ => ?_)
    clear hK K
    refine wpAnyH_ready (rs := [8]) (by kernel_rfl) (by simp) ?_
    refine AllReadyH.cons rfl (fun K hK => ?_) AllReadyH.nil
    go_simp
    refine hK.out _ _ trivial (fun _ => ?_)
    clear hK K
    refine wpAnyH_ready (rs := [9]) (by kernel_rfl) (by simp) ?_
    refine AllReadyH.cons rfl (fun K hK => ?_) AllReadyH.nil
    go_simp
    refine hK.out _ _ trivial (fun _ => ?_)
    clear hK K
    refine wpAnyH_ready (rs := [10]) (by kernel_rfl) (by simp) ?_
    refine AllReadyH.cons rfl (fun K hK => ?_) AllReadyH.nil
    obtain ⟨v2, w4, hr4, hbox4, ⟨v2a, v2c, ev2⟩, HAR, HTU⟩ := add_end (x := x) (d := ⟨Kd, N, X, A⟩) (o := .cells #[.int .i64 x, .int .i64 (-1), .slice none 0 0, .int .i64 Kd, .string N, .string X, .slice na A.length nc, .slice none 0 0] 89) HA.out HA1.out HB0.out hx HN.out hfew HM.out HG.out hb2 hown rfl
    subst ev2
    have f0 : w4.cell? ⟨p, 0, none⟩ = some (.slice va L.length vc) := by simp [World.cell?, hbox4]
    have f1 : w4.frozen? ⟨p, 0, none⟩ = false := by simp [World.frozen?, hbox4]
    rw [if_pos (by rfl)]
    refine wp_append_known rfl rfl rfl hr4 ?_
    refine hK.out _ _ trivial (fun _ => ?_)
    clear hK K
    try simp only [Act.put, List.getElem_toArray, List.getElem_cons_succ, List.getElem_cons_zero, List.setIfInBounds_toArray, List.set_cons_zero, List.set_cons_succ]
    refine wpAnyH_ready (rs := [11]) (by kernel_rfl) (by simp) ?_
    refine AllReadyH.cons rfl (fun K hK => ?_) AllReadyH.nil
    go_simp
    refine hK.out _ _ trivial (fun _ => ?_)
    clear hK K
    refine wpAnyH_ready (rs := [12]) (by kernel_rfl) (by simp) ?_
    refine AllReadyH.cons rfl (fun K hK => ?_) AllReadyH.nil
    go_simp
    refine hK.out _ _ trivial (fun _ => ?_)
    clear hK K
    refine wpAnyH_ready (rs := [13]) (by kernel_rfl) (by simp) ?_
    refine AllReadyH.cons rfl (fun K hK => ?_) AllReadyH.nil
    go_simp
    refine hK.out _ _ trivial (fun _ => ?_)
    clear hK K
    refine wpAnyH_done (by kernel_rfl) ?_ _
    go_wp2_with fail
    go_end0
    exact ⟨rfl, _, _, HAR, HTU⟩
  ·
    go_simp
    refine hK.out _ _ trivial (fun _ => ?_)
    clear hK K
    refine wpAnyH_ready (rs := [4, 7]) (by kernel_rfl) (by simp) ?_
    refine AllReadyH.cons rfl (fun K hK => ?_) (AllReadyH.cons rfl (fun K hK => ?_) AllReadyH.nil)
    ·
      go_simp
      refine hK.out _ _ trivial (fun _ => ?_)
      clear hK K
      refine wpAnyH_ready (rs := [7]) (by kernel_rfl) (by simp) ?_
      refine AllReadyH.cons rfl (fun K hK => ?_) AllReadyH.nil
      go_simp
      refine (bare_any ⟨Kd, N, X, A⟩ _ ka kl kc _ (show RowOn W1.drew _ _ _ _ from ⟨HRW.out.len, HRW.out.one, HRW.out.at'⟩) ha).mono ?_
      rintro e w2 ⟨v', rfl, hown, hb2⟩
      obtain ⟨na, nc, ev, _⟩ := own_val hown
      subst ev
      have e2 : w2.cell? ⟨p, 0, none⟩ = some (.slice va L.length vc) := (hb2.cell (p := ⟨p, 0, none⟩) (World.block_lt_of_cell? _ _ e0)).trans e0
      have e3 : ∀ o, (w2.alloc o).cell? ⟨p, 0, none⟩ = some (.slice va L.length vc) := fun o => (World.cell?_alloc_some _ _ _ (by rw [e2]; rfl)).trans e2
      dsimp only
      refine hK.out _ _ trivial (fun _ => ?_)
      clear hK K
      refine wpAnyH_ready (rs := [8]) (by kernel_rfl) (by simp) ?_
      refine AllReadyH.cons rfl (fun K hK => ?_) AllReadyH.nil
      go_simp
      refine hK.out _ _ trivial (fun _ => ?_)
      clear hK K
      refine wpAnyH_ready (rs := [9]) (by kernel_rfl) (by simp) ?_
      refine AllReadyH.cons rfl (fun K hK => ?_) AllReadyH.nil
      go_simp
      refine hK.out _ _ trivial (fun _ => ?_)
      clear hK K
      refine wpAnyH_ready (rs := [10]) (by kernel_rfl) (by simp) ?_
      refine AllReadyH.cons rfl (fun K hK => ?_) AllReadyH.nil
      obtain ⟨v2, w4, hr4, hbox4, ⟨v2a, v2c, ev2⟩, HAR, HTU⟩ := add_end (x := x) (d := ⟨Kd, N, X, A⟩) (o := .cells #[.int .i64 x, .int .i64 (-1), .slice none 0 0, .int .i64 Kd, .string N, .string X, .slice na A.length nc, .slice none 0 0] 89) HA.out HA1.out HB0.out hx HN.out hfew HM.out HG.out hb2 hown rfl
      subst ev2
      have f0 : w4.cell? ⟨p, 0, none⟩ = some (.slice va L.length vc) := by simp [World.cell?, hbox4]
      have f1 : w4.frozen? ⟨p, 0, none⟩ = false := by simp [World.frozen?, hbox4]
      rw [if_pos (by rfl)]
      refine wp_append_known rfl rfl rfl hr4 ?_
      refine hK.out _ _ trivial (fun _ => ?_)
      clear hK K
      try simp only [Act.put, List.getElem_toArray, List.getElem_cons_succ, List.getElem_cons_zero, List.setIfInBounds_toArray, List.set_cons_zero, List.set_cons_succ]
      refine wpAnyH_ready (rs := [11]) (by kernel_rfl) (by simp) ?_
      refine AllReadyH.cons rfl (fun K hK => ?_) AllReadyH.nil
      go_simp
      refine hK.out _ _ trivial (fun _ => ?_)
      clear hK K
      refine wpAnyH_ready (rs := [12]) (by kernel_rfl) (by simp) ?_
      refine AllReadyH.cons rfl (fun K hK => ?_) AllReadyH.nil
      go_simp
      refine hK.out _ _ trivial (fun _ => ?_)
      clear hK K
      refine wpAnyH_ready (rs := [13]) (by kernel_rfl) (by simp) ?_
      refine AllReadyH.cons rfl (fun K hK => ?_) AllReadyH.nil
      go_simp
      refine hK.out _ _ trivial (fun _ => ?_)
      clear hK K
      refine wpAnyH_done (by kernel_rfl) ?_ _
      go_wp2_with fail
      go_end0
      exact ⟨rfl, _, _, HAR, HTU⟩
    ·
      go_simp
      refine (bare_any ⟨Kd, N, X, A⟩ _ ka kl kc _ (show RowOn W1.drew _ _ _ _ from ⟨HRW.out.len, HRW.out.one, HRW.out.at'⟩) ha).mono ?_
      rintro e w2 ⟨v', rfl, hown, hb2⟩
      obtain ⟨na, nc, ev, _⟩ := own_val hown
      subst ev
      have e2 : w2.cell? ⟨p, 0, none⟩ = some (.slice va L.length vc) := (hb2.cell (p := ⟨p, 0, none⟩) (World.block_lt_of_cell? _ _ e0)).trans e0
      have e3 : ∀ o, (w2.alloc o).cell? ⟨p, 0, none⟩ = some (.slice va L.length vc) := fun o => (World.cell?_alloc_some _ _ _ (by rw [e2]; rfl)).trans e2
      dsimp only
      refine hK.out _ _ trivial (fun _ => ?_)
      clear hK K
      refine wpAnyH_ready (rs := [4, 8]) (by kernel_rfl) (by simp) ?_
      refine AllReadyH.cons rfl (fun K hK => ?_) (AllReadyH.cons rfl (fun K hK => ?_) AllReadyH.nil)
      ·
        go_simp
        refine hK.out _ _ trivial (fun _ => ?_)
        clear hK K
        refine wpAnyH_ready (rs := [8]) (by kernel_rfl) (by simp) ?_
        refine AllReadyH.cons rfl (fun K hK => ?_) AllReadyH.nil
        go_simp
        refine hK.out _ _ trivial (fun _ => ?_)
        clear hK K
        refine wpAnyH_ready (rs := [9]) (by kernel_rfl) (by simp) ?_
        refine AllReadyH.cons rfl (fun K hK => ?_) AllReadyH.nil
        go_simp
        refine hK.out _ _ trivial (fun _ => ?_)
        clear hK K
        refine wpAnyH_ready (rs := [10]) (by kernel_rfl) (by simp) ?_
        refine AllReadyH.cons rfl (fun K hK => ?_) AllReadyH.nil
        obtain ⟨v2, w4, hr4, hbox4, ⟨v2a, v2c, ev2⟩, HAR, HTU⟩ := add_end (x := x) (d := ⟨Kd, N, X, A⟩) (o := .cells #[.int .i64 x, .int .i64 (-1), .slice none 0 0, .int .i64 Kd, .string N, .string X, .slice na A.length nc, .slice none 0 0] 89) HA.out HA1.out HB0.out hx HN.out hfew HM.out HG.out hb2 hown rfl
        subst ev2
        have f0 : w4.cell? ⟨p, 0, none⟩ = some (.slice va L.length vc) := by simp [World.cell?, hbox4]
        have f1 : w4.frozen? ⟨p, 0, none⟩ = false := by simp [World.frozen?, hbox4]
        rw [if_pos (by rfl)]
        refine wp_append_known rfl rfl rfl hr4 ?_
        refine hK.out _ _ trivial (fun _ => ?_)
        clear hK K
        try simp only [Act.put, List.getElem_toArray, List.getElem_cons_succ, List.getElem_cons_zero, List.setIfInBounds_toArray, List.set_cons_zero, List.set_cons_succ]
        refine wpAnyH_ready (rs := [11]) (by kernel_rfl) (by simp) ?_
        refine AllReadyH.cons rfl (fun K hK => ?_) AllReadyH.nil
        go_simp
        refine hK.out _ _ trivial (fun _ => ?_)
        clear hK K
        refine wpAnyH_ready (rs := [12]) (by kernel_rfl) (by simp) ?_
        refine AllReadyH.cons rfl (fun K hK => ?_) AllReadyH.nil
        go_simp
        refine hK.out _ _ trivial (fun _ => ?_)
        clear hK K
        refine wpAnyH_ready (rs := [13]) (by kernel_rfl) (by simp) ?_
        refine AllReadyH.cons rfl (fun K hK => ?_) AllReadyH.nil
        go_simp
        refine hK.out _ _ trivial (fun _ => ?_)
        clear hK K
        refine wpAnyH_done (by kernel_rfl) ?_ _
        go_wp2_with fail
        go_end0
        exact ⟨rfl, _, _, HAR, HTU⟩
      ·
        go_simp
        refine hK.out _ _ trivial (fun _ => ?_)
        clear hK K
        refine wpAnyH_ready (rs := [4, 9]) (by kernel_rfl) (by simp) ?_
        refine AllReadyH.cons rfl (fun K hK => ?_) (AllReadyH.cons rfl (fun K hK => ?_) AllReadyH.nil)
        ·
          go_simp
          refine hK.out _ _ trivial (fun _ => ?_)
          clear hK K
          refine wpAnyH_ready (rs := [9]) (by kernel_rfl) (by simp) ?_
          refine AllReadyH.cons rfl (fun K hK => ?_) AllReadyH.nil
          go_simp
          refine hK.out _ _ trivial (fun _ => ?_)
          clear hK K
          refine wpAnyH_ready (rs := [10]) (by kernel_rfl) (by simp) ?_
          refine AllReadyH.cons rfl (fun K hK => ?_) AllReadyH.nil
          obtain ⟨v2, w4, hr4, hbox4, ⟨v2a, v2c, ev2⟩, HAR, HTU⟩ := add_end (x := x) (d := ⟨Kd, N, X, A⟩) (o := .cells #[.int .i64 x, .int .i64 (-1), .slice none 0 0, .int .i64 Kd, .string N, .string X, .slice na A.length nc, .slice none 0 0] 89) HA.out HA1.out HB0.out hx HN.out hfew HM.out HG.out hb2 hown rfl
          subst ev2
          have f0 : w4.cell? ⟨p, 0, none⟩ = some (.slice va L.length vc) := by simp [World.cell?, hbox4]
          have f1 : w4.frozen? ⟨p, 0, none⟩ = false := by simp [World.frozen?, hbox4]
          rw [if_pos (by rfl)]
          refine wp_append_known rfl rfl rfl hr4 ?_
          refine hK.out _ _ trivial (fun _ => ?_)
          clear hK K
          try simp only [Act.put, List.getElem_toArray, List.getElem_cons_succ, List.getElem_cons_zero, List.setIfInBounds_toArray, List.set_cons_zero, List.set_cons_succ]
          refine wpAnyH_ready (rs := [11]) (by kernel_rfl) (by simp) ?_
          refine AllReadyH.cons rfl (fun K hK => ?_) AllReadyH.nil
          go_simp
          refine hK.out _ _ trivial (fun _ => ?_)
          clear hK K
          refine wpAnyH_ready (rs := [12]) (by kernel_rfl) (by simp) ?_
          refine AllReadyH.cons rfl (fun K hK => ?_) AllReadyH.nil
          go_simp
          refine hK.out _ _ trivial (fun _ => ?_)
          clear hK K
          refine wpAnyH_ready (rs := [13]) (by kernel_rfl) (by simp) ?_
          refine AllReadyH.cons rfl (fun K hK => ?_) AllReadyH.nil
          go_simp
          refine hK.out _ _ trivial (fun _ => ?_)
          clear hK K
          refine wpAnyH_done (by kernel_rfl) ?_ _
          go_wp2_with fail
          go_end0
          exact ⟨rfl, _, _, HAR, HTU⟩
        ·
          go_simp
          refine hK.out _ _ trivial (fun _ => ?_)
          clear hK K
          refine wpAnyH_ready (rs := [4]) (by kernel_rfl) (by simp) ?_
          refine AllReadyH.cons rfl (fun K hK => ?_) AllReadyH.nil
          go_simp
          refine hK.out _ _ trivial (fun _ => ?_)
          clear hK K
          refine wpAnyH_ready (rs := [10]) (by kernel_rfl) (by simp) ?_
          refine AllReadyH.cons rfl (fun K hK => ?_) AllReadyH.nil
          obtain ⟨v2, w4, hr4, hbox4, ⟨v2a, v2c, ev2⟩, HAR, HTU⟩ := add_end (x := x) (d := ⟨Kd, N, X, A⟩) (o := .cells #[.int .i64 x, .int .i64 (-1), .slice none 0 0, .int .i64 Kd, .string N, .string X, .slice na A.length nc, .slice none 0 0] 89) HA.out HA1.out HB0.out hx HN.out hfew HM.out HG.out hb2 hown rfl
          subst ev2
          have f0 : w4.cell? ⟨p, 0, none⟩ = some (.slice va L.length vc) := by simp [World.cell?, hbox4]
          have f1 : w4.frozen? ⟨p, 0, none⟩ = false := by simp [World.frozen?, hbox4]
          rw [if_pos (by rfl)]
          refine wp_append_known rfl rfl rfl hr4 ?_
          refine hK.out _ _ trivial (fun _ => ?_)
          clear hK K
          try simp only [Act.put, List.getElem_toArray, List.getElem_cons_succ, List.getElem_cons_zero, List.setIfInBounds_toArray, List.set_cons_zero, List.set_cons_succ]
          refine wpAnyH_ready (rs := [11]) (by kernel_rfl) (by simp) ?_
          refine AllReadyH.cons rfl (fun K hK => ?_) AllReadyH.nil
          go_simp
          refine hK.out _ _ trivial (fun _ => ?_)
          clear hK K
          refine wpAnyH_ready (rs := [12]) (by kernel_rfl) (by simp) ?_
          refine AllReadyH.cons rfl (fun K hK => ?_) AllReadyH.nil
          go_simp
          refine hK.out _ _ trivial (fun _ => ?_)
          clear hK K
          refine wpAnyH_ready (rs := [13]) (by kernel_rfl) (by simp) ?_
          refine AllReadyH.cons rfl (fun K hK => ?_) AllReadyH.nil
          go_simp
          refine hK.out _ _ trivial (fun _ => ?_)
          clear hK K
          refine wpAnyH_done (by kernel_rfl) ?_ _
          go_wp2_with fail
          go_end0
          exact ⟨rfl, _, _, HAR, HTU⟩
end Go.Proofs.Ytllimmmgjpnhkaa
