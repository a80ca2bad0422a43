/- attach: a node gets a parent, whose last kid it is. -/
import Derived.Test.YtllimmmgjpnhkaaDomN
set_option linter.unusedVariables false
set_option linter.unusedSimpArgs false
namespace Go.Proofs.Ytllimmmgjpnhkaa
open Go.Deep (BT)
open Go.RowKit M

theorem own_putC {w : World} {B : Nat} {e : TypeId} {size : Nat} {v : Value} {n : Nat} {xs : List Value} (h : w.ownsRow B e size v n xs) {g : Nat} (hg : v.ownBlock = some g) {k : Nat} (hk : k < n * size) (u : Value) : (w.setCell ⟨g, k, none⟩ u).ownsRow B e size v n (xs.set k u) := by
  refine ⟨by rw [List.length_set]; exact h.1, ?_⟩
  rcases h.2 with ⟨h0, _⟩ | ⟨g', cap, cur, h1, h2, h3, h4, h5, h6, h7⟩
  · rw [h0] at hg; cases hg
  · rw [h1] at hg
    cases hg
    refine .inr ⟨g', cap, cur.setIfInBounds k u, h1, h2, set_heap6 h3, h4, h5, by simp [h6], ?_⟩
    rw [← h7]
    simp only [Array.toList_setIfInBounds]
    rw [List.take_set]
theorem set_cells (y : DN) (ks : List Int) (kv' : Value) : (cellsN y).set 2 kv' = cellsN { y with kids := ks, kv := kv' } := rfl
theorem set_par (y : DN) (q : Int) : (cellsN y).set 1 (.int .i64 q) = cellsN { y with par := q } := rfl
theorem rowN_set : ∀ (L : List DN) (i : Nat) (y y' : DN) (k : Nat) (u : Value), L[i]? = some y → k < 8 → (cellsN y).set k u = cellsN y' → (rowN L).set (i * 8 + k) u = rowN (L.set i y')
  | [], i, y, y', k, u, h, _, _ => by simp at h
  | z :: L, 0, y, y', k, u, h, hk, he => by
    simp at h
    subst h
    show (cellsN z ++ rowN L).set (0 * 8 + k) u = cellsN y' ++ rowN L
    rw [show 0 * 8 + k = k by omega, List.set_append_left _ _ (by simp [cellsN]; omega), he]
  | z :: L, i + 1, y, y', k, u, h, hk, he => by
    show (cellsN z ++ rowN L).set ((i + 1) * 8 + k) u = cellsN z ++ rowN (L.set i y')
    have hl : (cellsN z).length = 8 := rfl
    rw [List.set_append_right _ _ (by rw [hl]; omega), hl, show (i + 1) * 8 + k - 8 = i * 8 + k by omega, rowN_set L i y y' k u (by simpa using h) hk he]

theorem placeOf_set (L : List DN) (i : Nat) (y y' : DN) (h : L[i]? = some y) (hid : y'.id = y.id) (z : Int) : placeOf (L.set i y') z = placeOf L z := by
  unfold placeOf
  congr 1
  induction L generalizing i with
  | nil => simp
  | cons a L ih =>
    cases i with
    | zero =>
      simp at h
      subst h
      simp [List.findIdx?_cons, hid]
    | succ i =>
      simp only [List.set_cons_succ, List.findIdx?_cons]
      rw [ih i (by simpa using h)]

/-- what stays as it was where a kids' row grows -/
structure Grows (w w1 : World) (B p mb g : Nat) (L : List DN) (v : Value) (i : Nat) (y : DN) (x : Int) (kv' : Value) : Prop where
  box : w1.heap[p]? = some (.cells #[v, .map (some mb)] 70)
  row : w1.ownsRow B 89 8 v L.length (rowN L)
  kid : w1.ownsRow B 3 1 kv' (y.kids.length + 1) (rowI (y.kids ++ [x]))
  kids : ∀ (k : Nat) (z : DN), k ≠ i → L[k]? = some z → w1.ownsRow B 3 1 z.kv z.kids.length (rowI z.kids)
  ats : ∀ z ∈ L, w1.ownsRow B 97 2 z.av z.d.ats.length (rowA z.d.ats)
  map : MapI w1 mb L.length (placeOf L)
  apart : ∀ (k : Nat) (z : DN), k ≠ i → L[k]? = some z → ∀ b, z.kv.ownBlock = some b → kv'.ownBlock ≠ some b
  turn : ∀ k, k < w.heap.size → ¬ inA p mb v L k → w1.heap[k]? = w.heap[k]?
  size : w.heap.size ≤ w1.heap.size
  same : w1.os = w.os ∧ w1.tape = w.tape ∧ w1.output = w.output
  own : kv'.ownBlock = y.kv.ownBlock ∨ ∃ b, kv'.ownBlock = some b ∧ w.heap.size ≤ b
theorem grows_of {w w1 : World} {B p mb g : Nat} {L : List DN} {v : Value} {i : Nat} {y : DN} {x : Int} {kv' : Value} (h : Arena w B p L v mb) (hi : L[i]? = some y) (ho : w1.ownsRow B 3 1 kv' (y.kids.length + 1) (rowI (y.kids ++ [x]))) (hg : w.drew.grownBy w1 y.kv.ownBlock)
    (hb : kv'.ownBlock = y.kv.ownBlock ∨ ∃ b, kv'.ownBlock = some b ∧ w.heap.size ≤ b) : Grows w w1 B p mb g L v i y x kv' := by
  have hy := h.kids y (List.mem_of_getElem? hi)
  have kk : ∀ k, k < w.heap.size → some k ≠ y.kv.ownBlock → w1.heap[k]? = w.heap[k]? := fun k hk hne => hg.block k hk hne
  have to1 : ∀ {e : TypeId} {size : Nat} {u : Value} {m : Nat} {xs : List Value}, w.ownsRow B e size u m xs → e ≠ 3 → w1.ownsRow B e size u m xs := by
    intro e size u m xs ho2 he
    exact own_same ho2 (fun b hb2 hlt => kk b hlt (fun e2 => own_apart ho2 hy he hb2 e2.symm))
  have hpy : some p ≠ y.kv.ownBlock := fun e => own_not hy h.box (fun cur h => by injection h with _ h2; revert h2; decide) e.symm
  obtain ⟨es, clock, hm⟩ := h.map.isMap
  have hmy : some mb ≠ y.kv.ownBlock := fun e => own_not hy hm (fun cur h => by cases h) e.symm
  refine ⟨?_, to1 h.row (by decide), ho, ?_, fun z hz => to1 (h.ats z hz) (by decide), ?_, ?_, ?_, hg.size, ⟨hg.os, hg.tape, hg.output⟩, hb⟩
  · rw [kk p (Array.getElem?_eq_some_iff.1 h.box).1 hpy]; exact h.box
  · intro k z hk hz
    refine own_same (h.kids z (List.mem_of_getElem? hz)) (fun b hb2 hlt => kk b hlt (fun e2 => h.kidsApart k i z y hk hz hi b hb2 e2.symm))
  · exact h.map.block (kk mb (Array.getElem?_eq_some_iff.1 hm).1 hmy)
  · intro k z hk hz b hb2 e2
    rcases hb with h1 | ⟨b', h1, h2⟩
    · rw [h1] at e2; exact h.kidsApart k i z y hk hz hi b hb2 e2
    · rw [h1] at e2
      cases e2
      have := ((h.kids z (List.mem_of_getElem? hz)).lt _ hb2).2
      omega
  · intro k hk hA
    exact kk k hk (fun e => hA (.inr (.inr (.inr ⟨y, List.mem_of_getElem? hi, .inl e.symm⟩))))
/-- the arena with a node more among a node's kids -/
def attL (L : List DN) (i j : Nat) (y z : DN) (x q : Int) (kv' : Value) : List DN := (L.set i { y with kids := y.kids ++ [x], kv := kv' }).set j { z with par := q }

theorem att_get {L : List DN} {i j : Nat} {y z u : DN} {x q : Int} {kv' : Value} (hi : L[i]? = some y) (hj : L[j]? = some z) (hij : i ≠ j) {k : Nat} (h : (attL L i j y z x q kv')[k]? = some u) :
    (k = j ∧ u = { z with par := q }) ∨ (k ≠ j ∧ k = i ∧ u = { y with kids := y.kids ++ [x], kv := kv' }) ∨ (k ≠ j ∧ k ≠ i ∧ L[k]? = some u) := by
  have hiL : i < L.length := (List.getElem?_eq_some_iff.1 hi).1
  have hjL : j < L.length := (List.getElem?_eq_some_iff.1 hj).1
  unfold attL at h
  by_cases h1 : k = j
  · subst h1
    rw [List.getElem?_set_self (by rw [List.length_set]; exact hjL)] at h
    exact .inl ⟨rfl, (Option.some.inj h).symm⟩
  · rw [List.getElem?_set_ne (fun e => h1 e.symm)] at h
    by_cases h2 : k = i
    · subst h2
      rw [List.getElem?_set_self hiL] at h
      exact .inr (.inl ⟨h1, rfl, (Option.some.inj h).symm⟩)
    · rw [List.getElem?_set_ne (fun e => h2 e.symm)] at h
      exact .inr (.inr ⟨h1, h2, h⟩)
theorem att_end {w w1 : World} {B p mb g : Nat} {L : List DN} {v : Value} {i j : Nat} {y z : DN} {x q : Int} {kv' : Value} (h : Arena w B p L v mb) (G : Grows w w1 B p mb g L v i y x kv') (hg : v.ownBlock = some g) (hi : L[i]? = some y) (hj : L[j]? = some z) (hij : i ≠ j) :
    Arena ((w1.setCell ⟨g, i * 8 + 2, none⟩ kv').setCell ⟨g, j * 8 + 1, none⟩ (.int .i64 q)) B p (attL L i j y z x q kv') v mb ∧ Turns w ((w1.setCell ⟨g, i * 8 + 2, none⟩ kv').setCell ⟨g, j * 8 + 1, none⟩ (.int .i64 q)) (inA p mb v L) (inA p mb v (attL L i j y z x q kv')) := by
  have hiL : i < L.length := (List.getElem?_eq_some_iff.1 hi).1
  have hjL : j < L.length := (List.getElem?_eq_some_iff.1 hj).1
  have hpg : p ≠ g := fun e => own_not G.row G.box (fun cur h => by injection h with _ h2; revert h2; decide) (by rw [e]; exact hg)
  obtain ⟨es, clock, hm⟩ := G.map.isMap
  have hmg : mb ≠ g := fun e => own_not G.row hm (fun cur h => by cases h) (by rw [e]; exact hg)
  have kk : ∀ k, k ≠ g → ((w1.setCell ⟨g, i * 8 + 2, none⟩ kv').setCell ⟨g, j * 8 + 1, none⟩ (.int .i64 q)).heap[k]? = w1.heap[k]? := fun k hk => by rw [Below.heap_setCell _ _ _ _ hk, Below.heap_setCell _ _ _ _ hk]
  have to3 : ∀ {e : TypeId} {size : Nat} {u : Value} {m : Nat} {xs : List Value}, w1.ownsRow B e size u m xs → e ≠ 89 → ((w1.setCell ⟨g, i * 8 + 2, none⟩ kv').setCell ⟨g, j * 8 + 1, none⟩ (.int .i64 q)).ownsRow B e size u m xs := by
    intro e size u m xs ho he
    exact own_same ho (fun b hb _ => kk b (fun e2 => own_apart ho G.row he hb (by rw [e2]; exact hg)))
  have hlen : (attL L i j y z x q kv').length = L.length := by unfold attL; rw [List.length_set, List.length_set]
  have orig : ∀ {k : Nat} {u : DN}, (attL L i j y z x q kv')[k]? = some u → ∃ u0, L[k]? = some u0 ∧ u.av = u0.av ∧ u.d = u0.d ∧ u.id = u0.id := by
    intro k u hu
    rcases att_get hi hj hij hu with ⟨rfl, rfl⟩ | ⟨_, rfl, rfl⟩ | ⟨_, _, h1⟩
    · exact ⟨z, hj, rfl, rfl, rfl⟩
    · exact ⟨y, hi, rfl, rfl, rfl⟩
    · exact ⟨u, h1, rfl, rfl, rfl⟩
  have idx : ∀ {u : DN}, u ∈ attL L i j y z x q kv' → ∃ k, (attL L i j y z x q kv')[k]? = some u := fun hu => List.mem_iff_getElem?.1 hu
  constructor
  · refine ⟨?_, ?_, ?_, ?_, ?_, ?_, ?_, ?_, h.at', ?_⟩
    · rw [kk p hpg]; exact G.box
    · rw [hlen]
      have r1 := own_putC G.row hg (k := i * 8 + 2) (by omega) kv'
      rw [rowN_set L i y _ 2 kv' hi (by decide) (set_cells y (y.kids ++ [x]) kv')] at r1
      have r2 := own_putC r1 hg (k := j * 8 + 1) (by omega) (.int .i64 q)
      rw [rowN_set _ j z _ 1 (.int .i64 q) (by rw [List.getElem?_set_ne hij]; exact hj) (by decide) (set_par z q)] at r2
      exact r2
    · intro u hu
      obtain ⟨k, hk⟩ := idx hu
      rcases att_get hi hj hij hk with ⟨rfl, rfl⟩ | ⟨_, rfl, rfl⟩ | ⟨_, h2, h1⟩
      · exact to3 (G.kids k z (fun e => hij e.symm) hj) (by decide)
      · refine to3 ?_ (by decide)
        show w1.ownsRow B 3 1 kv' (y.kids ++ [x]).length (rowI (y.kids ++ [x]))
        rw [List.length_append]
        exact G.kid
      · exact to3 (G.kids k u h2 h1) (by decide)
    · intro u hu
      obtain ⟨k, hk⟩ := idx hu
      obtain ⟨u0, h0, e1, e2, _⟩ := orig hk
      rw [e1, e2]
      exact to3 (G.ats u0 (List.mem_of_getElem? h0)) (by decide)
    · intro a b s t hab hs ht c hc
      rcases att_get hi hj hij hs with ⟨rfl, rfl⟩ | ⟨_, rfl, rfl⟩ | ⟨_, h2, h1⟩
      · rcases att_get hi hj hij ht with ⟨rfl, rfl⟩ | ⟨_, rfl, rfl⟩ | ⟨_, h4, h3⟩
        · exact absurd rfl hab
        · exact G.apart a z hab hj c hc
        · exact h.kidsApart a b z t hab hj h3 c hc
      · rcases att_get hi hj hij ht with ⟨rfl, rfl⟩ | ⟨_, rfl, rfl⟩ | ⟨_, h4, h3⟩
        · intro e; exact G.apart b z (fun e2 => hab e2.symm) hj c e hc
        · exact absurd rfl hab
        · intro e; exact G.apart b t (fun e2 => hab e2.symm) h3 c e hc
      · rcases att_get hi hj hij ht with ⟨rfl, rfl⟩ | ⟨_, rfl, rfl⟩ | ⟨_, h4, h3⟩
        · exact h.kidsApart a b s z hab h1 hj c hc
        · exact G.apart a s hab h1 c hc
        · exact h.kidsApart a b s t hab h1 h3 c hc
    · intro a b s t hab hs ht c hc
      obtain ⟨s0, h1, e1, _⟩ := orig hs
      obtain ⟨t0, h2, e2, _⟩ := orig ht
      rw [e1] at hc
      rw [e2]
      exact h.atsApart a b s0 t0 hab h1 h2 c hc
    · have e : placeOf (attL L i j y z x q kv') = placeOf L := funext fun u => by
        exact (placeOf_set (L.set i { y with kids := y.kids ++ [x], kv := kv' }) j z { z with par := q } (by rw [List.getElem?_set_ne hij]; exact hj) rfl u).trans (placeOf_set L i y { y with kids := y.kids ++ [x], kv := kv' } hi rfl u)
      rw [e, hlen]
      exact G.map.block (kk mb hmg)
    · rw [hlen]; exact h.few
    · intro u hu
      obtain ⟨k, hk⟩ := idx hu
      obtain ⟨u0, h0, _, _, e3⟩ := orig hk
      rw [e3]
      exact h.ids u0 (List.mem_of_getElem? h0)
  · refine ⟨G.same.1, G.same.2.1, G.same.2.2, by simp only [World.size_setCell]; exact G.size, ?_, ?_⟩
    · intro k hk hA
      rw [kk k (fun e => hA (.inr (.inr (.inl (by rw [e]; exact hg)))))]
      exact G.turn k hk hA
    · intro k hA
      rcases hA with e | e | e | ⟨u, hu, e⟩
      · exact .inl (.inl e)
      · exact .inl (.inr (.inl e))
      · exact .inl (.inr (.inr (.inl e)))
      · obtain ⟨k', hk'⟩ := idx hu
        rcases e with e | e
        · rcases att_get hi hj hij hk' with ⟨rfl, rfl⟩ | ⟨_, rfl, rfl⟩ | ⟨_, _, h1⟩
          · exact .inl (.inr (.inr (.inr ⟨z, List.mem_of_getElem? hj, .inl e⟩)))
          · rcases G.own with h1 | ⟨b, h1, h2⟩
            · exact .inl (.inr (.inr (.inr ⟨y, List.mem_of_getElem? hi, .inl (by rw [← h1]; exact e)⟩)))
            · have e2 : kv'.ownBlock = some k := e
              rw [h1] at e2
              cases e2
              exact .inr h2
          · exact .inl (.inr (.inr (.inr ⟨u, List.mem_of_getElem? h1, .inl e⟩)))
        · obtain ⟨u0, h0, e1, _⟩ := orig hk'
          rw [e1] at e
          exact .inl (.inr (.inr (.inr ⟨u0, List.mem_of_getElem? h0, .inr e⟩)))
set_option maxRecDepth 20000 in
set_option maxHeartbeats 4000000 in
theorem dattach_end (L : List DN) (B p mb : Nat) (v : Value) (w : World) (x q : Int) (i j : Nat) (y z : DN) (h : Arena w B p L v mb) (hx : Is64 x) (hq : Is64 q) (hpq : placeOf L q = some (i : Int)) (hi : L[i]? = some y) (hpx : placeOf L x = some (j : Int)) (hj : L[j]? = some z) (hij : i ≠ j) (hm : y.kids.length ≤ 1000) :
    Calls Try.prog 58 #[.pointer (some ⟨p, 0, none⟩), .int .i64 x, .int .i64 q, .int .i64 y.kids.length] w fun e w' => e = .returned (.tuple #[]) ∧ ∃ kv', Arena w' B p (attL L i j y z x q kv') v mb ∧ Turns w w' (inA p mb v L) (inA p mb v (attL L i j y z x q kv')) := by
  have hiL : i < L.length := (List.getElem?_eq_some_iff.1 hi).1
  have hjL : j < L.length := (List.getElem?_eq_some_iff.1 hj).1
  have hc0 : w.cell? ⟨p, 0, none⟩ = some v := by simp [World.cell?, h.box]
  have hc1 : w.cell? ⟨p, 1, none⟩ = some (.map (some mb)) := by simp [World.cell?, h.box]
  obtain ⟨g, cap, rfl, q1, q2, q3, q4, hat, hfz⟩ := own_get h.row (by omega)
  have yk := hat _ _ (rowN_get L i y hi 2 _ rfl)
  have hkk := h.kids y (List.mem_of_getElem? hi)
  obtain ⟨ka, kc, ek, _⟩ := own_val hkk
  have HK := Fact.mk hkk
  have hf := h.few
  have hlk : (Instr.lookup 67 (.map (some mb)) (.int .i64 q) false).run Try.prog w = .ok (.int .i64 (i : Int)) w := h.map.look hq hpq
  have HA := Fact.mk h
  have HP := Fact.mk hpx
  have HI := Fact.mk hi
  have HJ := Fact.mk hj
  obtain ⟨kl, hkl⟩ : ∃ kl, y.kids.length = kl := ⟨_, rfl⟩
  have HKL := Fact.mk hkl
  rw [hkl] at ek hm ⊢
  rw [ek] at yk
  have EK := Fact.mk ek
  have i0I : (0 : Int) ≤ i := by omega
  have iI : (i : Int) < L.length := by omega
  obtain ⟨n, hn⟩ : ∃ n, L.length = n := ⟨_, rfl⟩
  have HN := Fact.mk hn
  rw [hn] at hiL hjL q1 hf iI hc0 ⊢
  clear h hat hfz hkk hpq hpx hi hj hkl ek hn
  go_enter Try.func58, Try.ntmps58
  go_upto_region 1 with fail
  refine wp_region_held_drew (S := fun W => W.cell? ⟨p, 0, none⟩ = some (.slice (some ⟨g, 0, none⟩) n cap)) (by kernel_rfl) hc0 (fun _ => ?_)
  refine wpAnyH_take (i := 0) (v := ?v0n1) rfl (by kernel_rfl) (by kernel_rfl) (by kernel_rfl) (fun _ _ _ h => h) (Or.inl ⟨by rfl, ?hy0n1⟩) hc0 ?rr0n1
  case hy0n1 =>
    intro w hSw
    go_simp
    try with_reducible rfl
  try simp only [Act.put, List.getElem_toArray, List.getElem_cons_succ, List.getElem_cons_zero, List.setIfInBounds_toArray, List.set_cons_zero, List.set_cons_succ]
  refine wpAnyH_take (i := 1) (v := ?v1n2) rfl (by kernel_rfl) (by kernel_rfl) (by kernel_rfl) (fun _ _ _ h => h) (Or.inl ⟨by rfl, ?hy1n2⟩) hc0 ?rr1n2
  case hy1n2 =>
    intro w hSw
    go_simp
    try with_reducible rfl
  try simp only [Act.put, List.getElem_toArray, List.getElem_cons_succ, List.getElem_cons_zero, List.setIfInBounds_toArray, List.set_cons_zero, List.set_cons_succ]
  refine wpAnyH_take (i := 2) (v := ?v2n3) rfl (by kernel_rfl) (by kernel_rfl) (by kernel_rfl) (fun _ _ _ h => h) (Or.inl ⟨by rfl, ?hy2n3⟩) hc0 ?rr2n3
  case hy2n3 =>
    intro w hSw
    go_simp
    try with_reducible rfl
  try simp only [Act.put, List.getElem_toArray, List.getElem_cons_succ, List.getElem_cons_zero, List.setIfInBounds_toArray, List.set_cons_zero, List.set_cons_succ]
  refine wpAnyH_take (i := 3) (v := ?v3n4) rfl (by kernel_rfl) (by kernel_rfl) (by kernel_rfl) (fun _ _ _ h => h) (Or.inl ⟨by rfl, ?hy3n4⟩) hc0 ?rr3n4
  case hy3n4 =>
    intro w hSw
    go_simp
    try with_reducible rfl
  try simp only [Act.put, List.getElem_toArray, List.getElem_cons_succ, List.getElem_cons_zero, List.setIfInBounds_toArray, List.set_cons_zero, List.set_cons_succ]
  refine wpAnyH_take (i := 4) (v := ?v4n5) rfl (by kernel_rfl) (by kernel_rfl) (by kernel_rfl) (fun _ _ _ h => h) (Or.inl ⟨by rfl, ?hy4n5⟩) hc0 ?rr4n5
  case hy4n5 =>
    intro w hSw
    go_simp
    try with_reducible rfl
  try simp only [Act.put, List.getElem_toArray, List.getElem_cons_succ, List.getElem_cons_zero, List.setIfInBounds_toArray, List.set_cons_zero, List.set_cons_succ]
  refine wpAnyH_take (i := 5) (v := ?v5n6) rfl (by kernel_rfl) (by kernel_rfl) (by kernel_rfl) (fun _ _ _ h => h) (Or.inl ⟨by rfl, ?hy5n6⟩) hc0 ?rr5n6
  case hy5n6 =>
    intro w hSw
    go_simp
    try with_reducible rfl
  try simp only [Act.put, List.getElem_toArray, List.getElem_cons_succ, List.getElem_cons_zero, List.setIfInBounds_toArray, List.set_cons_zero, List.set_cons_succ]
  refine wpAnyH_take (i := 6) (v := ?v6n7) rfl (by kernel_rfl) (by kernel_rfl) (by kernel_rfl) (fun _ _ _ h => h) (Or.inl ⟨by rfl, ?hy6n7⟩) hc0 ?rr6n7
  case hy6n7 =>
    intro w hSw
    go_simp
    try with_reducible rfl
  try simp only [Act.put, List.getElem_toArray, List.getElem_cons_succ, List.getElem_cons_zero, List.setIfInBounds_toArray, List.set_cons_zero, List.set_cons_succ]
  refine wpAnyH_take (i := 7) (v := ?v7n8) rfl (by kernel_rfl) (by kernel_rfl) (by kernel_rfl) (fun _ _ _ h => h) (Or.inl ⟨by rfl, ?hy7n8⟩) hc0 ?rr7n8
  case hy7n8 =>
    intro w hSw
    go_simp
    try with_reducible rfl
  try simp only [Act.put, List.getElem_toArray, List.getElem_cons_succ, List.getElem_cons_zero, List.setIfInBounds_toArray, List.set_cons_zero, List.set_cons_succ]
  refine wpAnyH_take (i := 8) (v := ?v8n9) rfl (by kernel_rfl) (by kernel_rfl) (by kernel_rfl) (fun _ _ _ h => h) (Or.inl ⟨by rfl, ?hy8n9⟩) hc0 ?rr8n9
  case hy8n9 =>
    intro w hSw
    go_simp
    try with_reducible rfl
  try simp only [Act.put, List.getElem_toArray, List.getElem_cons_succ, List.getElem_cons_zero, List.setIfInBounds_toArray, List.set_cons_zero, List.set_cons_succ]
  refine wpAnyH_take (i := 9) (v := ?v9n10) rfl (by kernel_rfl) (by kernel_rfl) (by kernel_rfl) (fun _ _ _ h => h) (Or.inl ⟨by rfl, ?hy9n10⟩) hc0 ?rr9n10
  case hy9n10 =>
    intro w hSw
    go_simp
    try with_reducible rfl
  try simp only [Act.put, List.getElem_toArray, List.getElem_cons_succ, List.getElem_cons_zero, List.setIfInBounds_toArray, List.set_cons_zero, List.set_cons_succ]
  refine wpAnyH_take (i := 10) (v := ?v10n11) rfl (by kernel_rfl) (by kernel_rfl) (by kernel_rfl) (fun _ _ _ h => h) (Or.inl ⟨by rfl, ?hy10n11⟩) hc0 ?rr10n11
  case hy10n11 =>
    intro w hSw
    go_simp
    try with_reducible rfl
  try simp only [Act.put, List.getElem_toArray, List.getElem_cons_succ, List.getElem_cons_zero, List.setIfInBounds_toArray, List.set_cons_zero, List.set_cons_succ]
  refine wpAnyH_take (i := 11) (v := ?v11n12) rfl (by kernel_rfl) (by kernel_rfl) (by kernel_rfl) (fun _ _ _ h => h) (Or.inl ⟨by rfl, ?hy11n12⟩) hc0 ?rr11n12
  case hy11n12 =>
    intro w hSw
    go_simp
    try with_reducible rfl
  try simp only [Act.put, List.getElem_toArray, List.getElem_cons_succ, List.getElem_cons_zero, List.setIfInBounds_toArray, List.set_cons_zero, List.set_cons_succ]
  refine wpAnyH_take (i := 13) (v := ?v13n13) rfl (by kernel_rfl) (by kernel_rfl) (by kernel_rfl) (fun _ _ _ h => h) (Or.inl ⟨by rfl, ?hy13n13⟩) hc0 ?rr13n13
  case hy13n13 =>
    intro w hSw
    go_simp
    try with_reducible rfl
  try simp only [Act.put, List.getElem_toArray, List.getElem_cons_succ, List.getElem_cons_zero, List.setIfInBounds_toArray, List.set_cons_zero, List.set_cons_succ]
  refine wpAnyH_take (i := 14) (v := ?v14n14) rfl (by kernel_rfl) (by kernel_rfl) (by kernel_rfl) (fun _ _ _ h => h) (Or.inl ⟨by rfl, ?hy14n14⟩) hc0 ?rr14n14
  case hy14n14 =>
    intro w hSw
    go_simp
    try with_reducible rfl
  try simp only [Act.put, List.getElem_toArray, List.getElem_cons_succ, List.getElem_cons_zero, List.setIfInBounds_toArray, List.set_cons_zero, List.set_cons_succ]
  refine wpAnyH_ready (rs := [12]) (by kernel_rfl) (by simp) ?_
  refine AllReadyH.cons rfl (fun K hK => ?_) AllReadyH.nil
  go_simp
  refine hK.out _ _ hc0 (fun _ => ?_)
  clear hK K
  refine wpAnyH_ready (rs := [15]) (by kernel_rfl) (by simp) ?_
  refine AllReadyH.cons rfl (fun K hK => ?_) AllReadyH.nil
  go_simp
  have HKD : Fact (w.drew.ownsRow B 3 1 (.slice ka kl kc) kl (rowI y.kids)) := ⟨by
    have h1 := HK.out
    rw [EK.out, HKL.out] at h1
    exact own_below h1 ((Below.refl w.heap.size w).drew) (Nat.le_refl _)⟩
  refine (putIn_end y.kids x kl B (.slice ka kl kc) _ HKL.out HKD.out (by omega) (by show B ≤ w.heap.size; omega)).mono ?_
  rintro e w1 ⟨kv', rfl, hown, hgr, hblk⟩
  obtain ⟨kva, kvc, ekv, _⟩ := own_val hown
  have HGR := Fact.mk (grows_of (g := g) HA.out HI.out (by rw [HKL.out]; exact hown) (by rw [EK.out]; exact hgr) (by rw [EK.out]; exact hblk))
  subst ekv
  have c0 : w1.cell? ⟨p, 0, none⟩ = some (.slice (some ⟨g, 0, none⟩) n cap) := by
    have h1 := HGR.out.box
    rw [← HN.out]
    simp [World.cell?, h1]
  dsimp only
  refine hK.out _ _ c0 (fun _ => ?_)
  clear hK K
  refine wpAnyH_ready (rs := [16]) (by kernel_rfl) (by simp) ?_
  refine AllReadyH.cons rfl (fun K hK => ?_) AllReadyH.nil
  go_simp
  refine hK.out _ _ c0 (fun _ => ?_)
  clear hK K
  refine wpAnyH_ready (rs := [17]) (by kernel_rfl) (by simp) ?_
  refine AllReadyH.cons rfl (fun K hK => ?_) AllReadyH.nil
  go_simp
  refine hK.out _ _ c0 (fun _ => ?_)
  clear hK K
  refine wpAnyH_ready (rs := [18]) (by kernel_rfl) (by simp) ?_
  refine AllReadyH.cons rfl (fun K hK => ?_) AllReadyH.nil
  obtain ⟨g2, cap2, egc, _, _, _, hg4, hat2, hfz2⟩ := own_get HGR.out.row (by rw [HN.out]; omega)
  have eg : g2 = g := by injection egc with h1; injection h1 with h2; injection h2 with h3; exact h3.symm
  subst eg
  have s0 := hat2 _ _ (rowN_get L i y HI.out 2 _ rfl)
  have s1 := hfz2 (i * 8 + 2)
  have hpg : p ≠ g2 := fun e => own_not HGR.out.row HGR.out.box (fun cur h => by injection h with _ h2; revert h2; decide) (by rw [e]; rfl)
  clear egc hat2 hfz2
  go_simp
  have c2 : (w1.setCell ⟨g2, i * 8 + 2, none⟩ (.slice kva (kl + 1) kvc)).cell? ⟨p, 0, none⟩ = some (.slice (some ⟨g2, 0, none⟩) n cap) := (World.cell?_setCell_other _ _ _ _ (fun e => by injection e with e1; exact hpg e1.symm)).trans c0
  refine hK.out _ _ c2 (fun _ => ?_)
  clear hK K
  refine wpAnyH_done (by kernel_rfl) ?_ _
  obtain ⟨w2, hw2⟩ : ∃ w2, w1.setCell ⟨g2, i * 8 + 2, none⟩ (.slice kva (kl + 1) kvc) = w2 := ⟨_, rfl⟩
  rw [hw2] at c2 ⊢
  have HE := Fact.mk (att_end (g := g2) (x := x) (q := q) HA.out HGR.out rfl HI.out HJ.out hij)
  rw [hw2] at HE
  obtain ⟨es, clock, hmm⟩ := HGR.out.map.isMap
  have hmg : mb ≠ g2 := fun e => own_not HGR.out.row hmm (fun cur h => by cases h) (by rw [e]; rfl)
  have hbox2 : w2.heap[p]? = some (.cells #[.slice (some ⟨g2, 0, none⟩) L.length cap, .map (some mb)] 70) := by rw [← hw2, Below.heap_setCell _ _ _ _ hpg]; exact HGR.out.box
  have c3 : w2.cell? ⟨p, 1, none⟩ = some (.map (some mb)) := by simp [World.cell?, hbox2]
  have hlx : (Instr.lookup 67 (.map (some mb)) (.int .i64 x) false).run Try.prog w2.drew = .ok (.int .i64 (j : Int)) w2.drew := ((HGR.out.map.block (w' := w2.drew) (by show w2.heap[mb]? = _; rw [← hw2, Below.heap_setCell _ _ _ _ hmg]))).look hx HP.out
  obtain ⟨g3, cap3, egc, _, _, _, _, hat3, hfz3⟩ := own_get HGR.out.row (by rw [HN.out]; omega)
  have eg3 : g3 = g2 := by injection egc with h1; injection h1 with h2; injection h2 with h3; exact h3.symm
  subst eg3
  have s2 : w2.cell? ⟨g3, j * 8 + 1, none⟩ = some (.int .i64 z.par) := by
    rw [← hw2, World.cell?_setCell_other _ _ _ _ (fun e => by injection e with _ e2; omega)]
    exact hat3 _ _ (rowN_get L j z HJ.out 1 _ rfl)
  have s3 : w2.frozen? ⟨g3, j * 8 + 1, none⟩ = false := by rw [← hw2, World.frozen?_setCell]; exact hfz3 _
  have j0I : (0 : Int) ≤ j := by omega
  have jI : (j : Int) < n := by omega
  clear egc hat3 hfz3 hbox2 hmm s0 s1 hw2
  go_upto_region 2 with fail
  go_region
  go_wp2_with fail
  go_end0
  rw [← HN.out]
  have hd9 := (Below.refl (w2.setCell ⟨g3, j * 8 + 1, none⟩ (.int .i64 q)).heap.size (w2.setCell ⟨g3, j * 8 + 1, none⟩ (.int .i64 q))).drew
  exact ⟨rfl, _, HE.out.1.below hd9 (Nat.le_refl _), HE.out.2.trans (Turns.of_below hd9)⟩
end Go.Proofs.Ytllimmmgjpnhkaa
