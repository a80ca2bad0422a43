/- The arena: nodes with numbers, as they lie in memory; Len, Has, node. -/
import Derived.Test.YtllimmmgjpnhkaaDomC
import Derived.Maps.OwnSet
import Derived.Maps.OwnOps
import Derived.Maps.Views
set_option linter.unusedVariables false
namespace Go.Proofs.Ytllimmmgjpnhkaa
open Go.Deep (BT)
open Go.RowKit M

/-- a number of 64 bits -/
structure Is64 (x : Int) : Prop where
  out : (Lit.int .i64 x).wf = true

/-- a map from numbers to numbers, as a function -/
def MapI (w : World) (b n : Nat) (f : Int → Option Int) : Prop :=
  ∃ D : DataW Unit, w.ownsMap Try.prog 3 (plainElem Try.prog 3) b n D ∧ ∀ x : Int, Is64 x → Maps.has D (.int .i64 x) = (f x).isSome ∧ ∀ y, f x = some y → D.atKey (.int .i64 x) (.lit (.int .i64 0)) = .lit (.int .i64 y)

theorem keyedI : Maps.Keyed Try.prog 3 := Maps.int_keyed Try.underlying3
theorem zeroI (w : World) : (zeroValue 3).run Try.prog w = .ok (.int .i64 0) w := by
  obtain ⟨i0, hii, hz0, hz1, hz2⟩ := info_parts infoI
  simp [zeroValue, typeInfo, hii, hz0]
theorem keyI {x : Int} (h : Is64 x) : keyOf Try.prog 3 (.int .i64 x) = some (.int .i64 x) := Maps.keyOf_int_mk Try.underlying3 h.out
theorem keyLitI (x : Int) : WideAt.IsKeyLit (.int .i64 x) := by constructor

theorem MapI.made (w : World) : MapI (w.alloc (.map #[] 0)) w.heap.size 0 (fun _ => none) :=
  ⟨.map [], World.ownsMap_made w _ _ _, fun x _ => ⟨rfl, fun y e => by cases e⟩⟩
theorem MapI.kept {w w' : World} {b n : Nat} {f : Int → Option Int} {row : Option Nat} (h : MapI w b n f) (hg : w.grownBy w' row) (hne : some b ≠ row) : MapI w' b n f := by
  obtain ⟨D, h1, h2⟩ := h
  exact ⟨D, h1.kept hg hne, h2⟩
theorem MapI.setCell {w : World} {b n : Nat} {f : Int → Option Int} (h : MapI w b n f) {a : Addr} (ha : b ≠ a.block) (u : Value) : MapI (w.setCell a u) b n f := by
  obtain ⟨D, h1, h2⟩ := h
  exact ⟨D, h1.setCell ha u, h2⟩
theorem MapI.block {w w' : World} {b n : Nat} {f : Int → Option Int} (h : MapI w b n f) (hb : w'.heap[b]? = w.heap[b]?) : MapI w' b n f := by
  obtain ⟨D, ⟨es, clock, h1, h3⟩, h2⟩ := h
  exact ⟨D, ⟨es, clock, hb.trans h1, h3⟩, h2⟩
theorem MapI.isMap {w : World} {b n : Nat} {f : Int → Option Int} (h : MapI w b n f) : ∃ es clock, w.heap[b]? = some (.map es clock) := by
  obtain ⟨D, ⟨es, clock, h1, h3⟩, h2⟩ := h
  exact ⟨es, clock, h1⟩
theorem MapI.look {w : World} {b n : Nat} {f : Int → Option Int} (h : MapI w b n f) {x y : Int} (hx : Is64 x) (hy : f x = some y) :
    (Instr.lookup 67 (.map (some b)) (.int .i64 x) false).run Try.prog w = .ok (.int .i64 y) w := by
  obtain ⟨D, h1, h2⟩ := h
  obtain ⟨c, hr, hc, _⟩ := h1.lookup_int keyedI Try.underlying67 Try.underlying3 (zeroI w) (keyI hx)
  rw [(h2 x hx).2 y hy] at hc
  cases hc
  exact hr
theorem MapI.look_ok {w : World} {b n : Nat} {f : Int → Option Int} (h : MapI w b n f) {x : Int} (hx : Is64 x) :
    ∃ y, (Instr.lookup 67 (.map (some b)) (.int .i64 x) true).run Try.prog w = .ok (.tuple #[.int .i64 y, .bool (f x).isSome]) w := by
  obtain ⟨D, h1, h2⟩ := h
  obtain ⟨v, ps, hr, hv⟩ := h1.look_ok keyedI Try.underlying67 (zeroI w) (plainElem_int Try.underlying3 (by decide)) (keyI hx)
  obtain ⟨y, rfl, _, _⟩ := plainElem_int_inv Try.underlying3 hv
  rw [(h2 x hx).1] at hr
  exact ⟨y, hr⟩
theorem MapI.put {w : World} {b n : Nat} {f : Int → Option Int} (h : MapI w b n f) {x y : Int} (hx : Is64 x) (hy : Is64 y) (hn : n < maxLen) :
    ∃ w', (Instr.mapUpdate 67 (.map (some b)) (.int .i64 x) (.int .i64 y)).run Try.prog w = .ok () w' ∧ MapI w' b (n + 1) (fun z => if z = x then some y else f z) ∧ w.grownBy w' (some b) := by
  obtain ⟨D, h1, h2⟩ := h
  obtain ⟨w', hr, h3, h4⟩ := h1.update keyedI Try.underlying67 hn (keyI hx) (plainElem_int Try.underlying3 hy.out)
  refine ⟨w', hr, ⟨_, h3, fun z hz => ?_⟩, h4⟩
  by_cases e : z = x
  · subst e
    refine ⟨by simp [Maps.has_put_same h1.isMap (keyLitI z)], fun y' hy' => ?_⟩
    simp at hy'
    subst hy'
    exact Maps.atKey_put_same h1.isMap (keyLitI z) _ _
  · have ne : Lit.int .i64 z ≠ .int .i64 x := by simpa using e
    simp only [e, if_false]
    exact ⟨by rw [Maps.has_put_other ne]; exact (h2 z hz).1, fun y' hy' => by rw [Maps.atKey_put_other ne]; exact (h2 z hz).2 y' hy'⟩
theorem MapI.drop {w : World} {b n : Nat} {f : Int → Option Int} (h : MapI w b n f) {x : Int} (hx : Is64 x) (ty : TypeId) :
    ∃ w', (Builtin.delete_ #[67, 3] ty #[.map (some b), .int .i64 x]).run Try.prog w = .ok (.tuple #[]) w' ∧ MapI w' b n (fun z => if z = x then none else f z) ∧ w.grownBy w' (some b) := by
  obtain ⟨D, h1, h2⟩ := h
  obtain ⟨w', hr, h3, h4⟩ := h1.drop keyedI Try.underlying67 (keyI hx) ty
  refine ⟨w', hr, ⟨_, h3, fun z hz => ?_⟩, h4.grown⟩
  by_cases e : z = x
  · subst e
    exact ⟨by simp [Maps.has_del_same], fun y' hy' => by simp at hy'⟩
  · have ne : Lit.int .i64 z ≠ .int .i64 x := by simpa using e
    simp only [e, if_false]
    exact ⟨by rw [Maps.has_del_other ne]; exact (h2 z hz).1, fun y' hy' => by rw [Maps.atKey_del_other ne]; exact (h2 z hz).2 y' hy'⟩

/-- a node in the arena: its number, its parent's, its kids' numbers, itself; the values of its slices -/
structure DN where
  id : Int
  par : Int
  kids : List Int
  d : Nd
  kv : Value
  av : Value

def cellsN (x : DN) : List Value := [.int .i64 x.id, .int .i64 x.par, x.kv, .int .i64 x.d.k, .string x.d.n, .string x.d.x, x.av, .slice none 0 0]
def rowN (L : List DN) : List Value := L.flatMap cellsN
def rowI (l : List Int) : List Value := l.map (.int .i64)
theorem rowI_one (l : List Int) : ∀ u ∈ rowI l, u.oneCell' = true := by
  intro u hu
  obtain ⟨x, _, rfl⟩ := List.mem_map.1 hu
  rfl
theorem rowN_len : ∀ L : List DN, (rowN L).length = L.length * 8
  | [] => rfl
  | x :: L => by show (cellsN x ++ rowN L).length = _; rw [List.length_append, rowN_len L]; simp [cellsN]; omega
theorem rowN_get : ∀ (L : List DN) (i : Nat) (x : DN), L[i]? = some x → ∀ j u, (cellsN x)[j]? = some u → (rowN L)[i * 8 + j]? = some u
  | [], i, x, h, _, _, _ => by simp at h
  | y :: L, 0, x, h, j, u, hu => by
    simp at h
    subst h
    have : j < (cellsN y).length := (List.getElem?_eq_some_iff.1 hu).1
    show (cellsN y ++ rowN L)[0 * 8 + j]? = _
    rw [show 0 * 8 + j = j by omega, List.getElem?_append_left this]; exact hu
  | y :: L, i + 1, x, h, j, u, hu => by
    show (cellsN y ++ rowN L)[(i + 1) * 8 + j]? = _
    rw [List.getElem?_append_right (by simp [cellsN]; omega)]
    have := rowN_get L i x (by simpa using h) j u hu
    rw [← this]; congr 1; simp [cellsN]; omega

/-- where a number's node is -/
def placeOf (L : List DN) (x : Int) : Option Int := (L.findIdx? (fun y => y.id == x)).map Int.ofNat

/-- the nodes as they lie in memory -/
structure Arena (w : World) (B p : Nat) (L : List DN) (v : Value) (mb : Nat) : Prop where
  box : w.heap[p]? = some (.cells #[v, .map (some mb)] 70)
  row : w.ownsRow B 89 8 v L.length (rowN L)
  kids : ∀ x ∈ L, w.ownsRow B 3 1 x.kv x.kids.length (rowI x.kids)
  ats : ∀ x ∈ L, w.ownsRow B 97 2 x.av x.d.ats.length (rowA x.d.ats)
  kidsApart : ∀ (i j : Nat) (x y : DN), i ≠ j → L[i]? = some x → L[j]? = some y → ∀ b, x.kv.ownBlock = some b → y.kv.ownBlock ≠ some b
  atsApart : ∀ (i j : Nat) (x y : DN), i ≠ j → L[i]? = some x → L[j]? = some y → ∀ b, x.av.ownBlock = some b → y.av.ownBlock ≠ some b
  map : MapI w mb L.length (placeOf L)
  few : L.length ≤ 1000
  at' : B ≤ p ∧ B ≤ mb
  ids : ∀ x ∈ L, Is64 x.id

theorem own_val {w : World} {B : Nat} {e : TypeId} {size : Nat} {v : Value} {n : Nat} {row : List Value} (h : w.ownsRow B e size v n row) : ∃ a cap, v = .slice a n cap ∧ n ≤ cap ∧ cap ≤ maxLen := by
  rcases h.2 with ⟨rfl, h0⟩ | ⟨g, cap, cur, rfl, hg, hh, hc1, hc2, hs, ht⟩
  · exact ⟨none, 0, by rw [h0], by omega, Nat.zero_le _⟩
  · exact ⟨_, cap, rfl, hc1, hc2⟩
theorem own_get {w : World} {B : Nat} {e : TypeId} {size : Nat} {v : Value} {n : Nat} {row : List Value} (h : w.ownsRow B e size v n row) (h0 : 0 < n) : ∃ g cap, v = .slice (some ⟨g, 0, none⟩) n cap ∧ n ≤ cap ∧ cap ≤ maxLen ∧ B ≤ g ∧ g < w.heap.size ∧ (∀ j u, row[j]? = some u → w.cell? ⟨g, j, none⟩ = some u) ∧ (∀ o, w.frozen? ⟨g, o, none⟩ = false) := by
  rcases h.2 with ⟨rfl, h1⟩ | ⟨g, cap, cur, rfl, hg, hh, hc1, hc2, hs, ht⟩
  · omega
  · refine ⟨g, cap, rfl, hc1, hc2, hg, (Array.getElem?_eq_some_iff.1 hh).1, fun j u hu => ?_, fun o => by simp [World.frozen?, hh]⟩
    have := h.cells (g := g) rfl j u hu
    rw [add_cell, Nat.zero_add] at this
    exact this

set_option maxRecDepth 20000 in
set_option maxHeartbeats 1000000 in
theorem dLen_any (L : List DN) (B p mb : Nat) (v : Value) (w : World) (h : Arena w B p L v mb) :
    Calls Try.prog 27 #[.pointer (some ⟨p, 0, none⟩)] w fun e w' => e = .returned (.int .i64 L.length) ∧ w' = w := by
  have hc : w.cell? ⟨p, 0, none⟩ = some v := by simp [World.cell?, h.box]
  obtain ⟨a, cap, hv, _⟩ := own_val h.row
  subst hv
  generalize L.length = n at *
  clear h
  go_enter Try.func27, Try.ntmps27
  go_wp2
  go_ret
  exact ⟨rfl, rfl⟩

set_option maxRecDepth 20000 in
set_option maxHeartbeats 1000000 in
theorem dHas_any (L : List DN) (B p mb : Nat) (v : Value) (w : World) (x : Int) (h : Arena w B p L v mb) (hx : Is64 x) :
    Calls Try.prog 35 #[.pointer (some ⟨p, 0, none⟩), .int .i64 x] w fun e w' => e = .returned (.bool (placeOf L x).isSome) ∧ w' = w := by
  have hc : w.cell? ⟨p, 1, none⟩ = some (.map (some mb)) := by simp [World.cell?, h.box]
  obtain ⟨y, hl⟩ := h.map.look_ok hx
  generalize (placeOf L x).isSome = bb at *
  clear h
  go_enter Try.func35, Try.ntmps35
  go_wp2
  go_ret
  exact ⟨rfl, rfl⟩

/-- a node of the arena as a value -/
abbrev valN (x : DN) : Value := .agg #[.int .i64 x.id, .int .i64 x.par, x.kv, .int .i64 x.d.k, .string x.d.n, .string x.d.x, x.av, .slice none 0 0]

theorem eight_new {w W : World} {t : TypeId} {u0 u1 u2 u3 u4 u5 u6 u7 : Value} (hW : w.alloc (.cells #[u0, u1, u2, u3, u4, u5, u6, u7] t) = W) :
    (∀ b o v, w.cell? ⟨b, o, none⟩ = some v → W.cell? ⟨b, o, none⟩ = some v) ∧ W.heap.size = w.heap.size + 1 ∧ Below w.heap.size w W ∧ w.grownBy W none ∧ W.heap[w.heap.size]? = some (.cells #[u0, u1, u2, u3, u4, u5, u6, u7] t) := by
  subst hW
  refine ⟨fun b o v h => (World.grownBy_alloc w _ none).cell h (by simp), by simp, (Below.refl _ _).alloc (Nat.le_refl _) _, World.grownBy_alloc w _ none, World.alloc_heap_new w _⟩
theorem eight_at {w : World} {b : Nat} {t : TypeId} {u0 u1 u2 u3 u4 u5 u6 u7 : Value} (h : w.heap[b]? = some (.cells #[u0, u1, u2, u3, u4, u5, u6, u7] t)) :
    w.cell? ⟨b, 0, none⟩ = some u0 ∧ w.cell? ⟨b, 1, none⟩ = some u1 ∧ w.cell? ⟨b, 2, none⟩ = some u2 ∧ w.cell? ⟨b, 3, none⟩ = some u3 ∧ w.cell? ⟨b, 4, none⟩ = some u4 ∧ w.cell? ⟨b, 5, none⟩ = some u5 ∧ w.cell? ⟨b, 6, none⟩ = some u6 ∧ w.cell? ⟨b, 7, none⟩ = some u7 ∧ (∀ o, w.frozen? ⟨b, o, none⟩ = false) := by
  simp [World.cell?, World.frozen?, h]
theorem set_heap6 {w : World} {B i : Nat} {cur : Array Value} {t : TypeId} {v : Value} (h : w.heap[B]? = some (.cells cur t)) : (w.setCell ⟨B, i, none⟩ v).heap[B]? = some (.cells (cur.setIfInBounds i v) t) := by
  simp only [World.setCell, Array.getElem?_modify, h]
  simp
/-- eight cells written anew -/
theorem eight_set {w w1 : World} {n B : Nat} {u0 u1 u2 u3 u4 u5 u6 u7 v0 v1 v2 v3 v4 v5 v6 v7 : Value} {t : TypeId} (hB : n ≤ B) (h : w.heap[B]? = some (.cells #[u0, u1, u2, u3, u4, u5, u6, u7] t))
    (e : (((((((w.setCell ⟨B, 0, none⟩ v0).setCell ⟨B, 1, none⟩ v1).setCell ⟨B, 2, none⟩ v2).setCell ⟨B, 3, none⟩ v3).setCell ⟨B, 4, none⟩ v4).setCell ⟨B, 5, none⟩ v5).setCell ⟨B, 6, none⟩ v6).setCell ⟨B, 7, none⟩ v7 = w1) :
    (w1.cell? ⟨B, 0, none⟩ = some v0 ∧ w1.cell? ⟨B, 1, none⟩ = some v1 ∧ w1.cell? ⟨B, 2, none⟩ = some v2 ∧ w1.cell? ⟨B, 3, none⟩ = some v3 ∧ w1.cell? ⟨B, 4, none⟩ = some v4 ∧ w1.cell? ⟨B, 5, none⟩ = some v5 ∧ w1.cell? ⟨B, 6, none⟩ = some v6 ∧ w1.cell? ⟨B, 7, none⟩ = some v7) ∧
    Below n w w1 ∧ (∀ k, k ≠ B → w1.heap[k]? = w.heap[k]?) := by
  have h1 := set_heap6 (i := 7) (v := v7) (set_heap6 (i := 6) (v := v6) (set_heap6 (i := 5) (v := v5) (set_heap6 (i := 4) (v := v4) (set_heap6 (i := 3) (v := v3) (set_heap6 (i := 2) (v := v2) (set_heap6 (i := 1) (v := v1) (set_heap6 (i := 0) (v := v0) h)))))))
  rw [e] at h1
  refine ⟨?_, ?_, fun k k1 => ?_⟩
  · simp [World.cell?, h1]
  · rw [← e]
    exact ((((((((Below.refl n w).setCell (p := ⟨B, 0, none⟩) hB _).setCell (p := ⟨B, 1, none⟩) hB _).setCell (p := ⟨B, 2, none⟩) hB _).setCell (p := ⟨B, 3, none⟩) hB _).setCell (p := ⟨B, 4, none⟩) hB _).setCell (p := ⟨B, 5, none⟩) hB _).setCell (p := ⟨B, 6, none⟩) hB _).setCell (p := ⟨B, 7, none⟩) hB _
  · rw [← e]
    rw [Below.heap_setCell _ _ _ _ k1, Below.heap_setCell _ _ _ _ k1, Below.heap_setCell _ _ _ _ k1, Below.heap_setCell _ _ _ _ k1, Below.heap_setCell _ _ _ _ k1, Below.heap_setCell _ _ _ _ k1, Below.heap_setCell _ _ _ _ k1, Below.heap_setCell _ _ _ _ k1]

set_option maxRecDepth 20000 in
set_option maxHeartbeats 2000000 in
theorem dnode_any (L : List DN) (B p mb : Nat) (v : Value) (w : World) (x : Int) (i : Nat) (y : DN) (h : Arena w B p L v mb) (hx : Is64 x) (hp : placeOf L x = some (i : Int)) (hi : L[i]? = some y) :
    Calls Try.prog 59 #[.pointer (some ⟨p, 0, none⟩), .int .i64 x] w fun e w' => e = .returned (valN y) ∧ Below w.heap.size w w' := by
  have hL : i < L.length := (List.getElem?_eq_some_iff.1 hi).1
  have hc0 : w.cell? ⟨p, 0, none⟩ = some v := by simp [World.cell?, h.box]
  have hc1 : w.cell? ⟨p, 1, none⟩ = some (.map (some mb)) := by simp [World.cell?, h.box]
  obtain ⟨g, cap, rfl, q1, q2, q3, q4, hat, _⟩ := own_get h.row (by omega)
  have hg := rowN_get L i y hi
  have y0 := hat _ _ (hg 0 _ rfl)
  rw [Nat.add_zero] at y0
  have y1 := hat _ _ (hg 1 _ rfl)
  have y2 := hat _ _ (hg 2 _ rfl)
  have y3 := hat _ _ (hg 3 _ rfl)
  have y4 := hat _ _ (hg 4 _ rfl)
  have y5 := hat _ _ (hg 5 _ rfl)
  have y6 := hat _ _ (hg 6 _ rfl)
  have y7 := hat _ _ (hg 7 _ rfl)
  obtain ⟨ka, kc, ek, _⟩ := own_val (h.kids y (List.mem_of_getElem? hi))
  obtain ⟨aa, ac, ea, _⟩ := own_val (h.ats y (List.mem_of_getElem? hi))
  have hf := h.few
  have HM := Fact.mk h.map
  have HP := Fact.mk hp
  obtain ⟨id, par, kids, ⟨K, N, X, A⟩, kv, av⟩ := y
  dsimp only at ek ea y0 y1 y2 y3 y4 y5 y6 y7 ⊢
  subst ek ea
  clear h hat hg hi hp
  generalize L.length = n at *
  go_enter Try.func59, Try.ntmps59
  go_wp2
  generalize hW : w.alloc (.cells #[.int .i64 0, .int .i64 0, .slice none 0 0, .int .i64 0, .string ⟨#[]⟩, .string ⟨#[]⟩, .slice none 0 0, .slice none 0 0] 89) = W
  obtain ⟨hk, hsz, hB, hgr, hnew⟩ := eight_new hW
  obtain ⟨r0, r1, r2, r3, r4, r5, r6, r7, hfz⟩ := eight_at hnew
  replace hc0 := hk _ _ _ hc0
  replace hc1 := hk _ _ _ hc1
  replace y0 := hk _ _ _ y0
  replace y1 := hk _ _ _ y1
  replace y2 := hk _ _ _ y2
  replace y3 := hk _ _ _ y3
  replace y4 := hk _ _ _ y4
  replace y5 := hk _ _ _ y5
  replace y6 := hk _ _ _ y6
  replace y7 := hk _ _ _ y7
  have hl : (Instr.lookup 67 (.map (some mb)) (.int .i64 x) false).run Try.prog W.drew = .ok (.int .i64 (i : Int)) W.drew := ((HM.out.kept hgr (by simp)).block (w' := W.drew) rfl).look hx HP.out
  have HB := Fact.mk hB
  have hgb : g ≠ w.heap.size := by omega
  have b0 := hfz 0
  have b1 := hfz 1
  have b2 := hfz 2
  have b3 := hfz 3
  have b4 := hfz 4
  have b5 := hfz 5
  have b6 := hfz 6
  have b7 := hfz 7
  have HNEW := Fact.mk hnew
  clear hfz hnew hgr hB hsz hk hW HM HP
  go_region
  obtain ⟨w9, hw9⟩ : ∃ w9, (((((((W.setCell ⟨w.heap.size, 0, none⟩ (.int .i64 id)).setCell ⟨w.heap.size, 1, none⟩ (.int .i64 par)).setCell ⟨w.heap.size, 2, none⟩ (.slice ka kids.length kc)).setCell ⟨w.heap.size, 3, none⟩ (.int .i64 K)).setCell ⟨w.heap.size, 4, none⟩ (.string N)).setCell ⟨w.heap.size, 5, none⟩ (.string X)).setCell ⟨w.heap.size, 6, none⟩ (.slice aa A.length ac)).setCell ⟨w.heap.size, 7, none⟩ (.slice none 0 0) = w9 := ⟨_, rfl⟩
  obtain ⟨⟨t0, t1, t2, t3, t4, t5, t6, t7⟩, hb9, hk9⟩ := eight_set (w := W) (n := w.heap.size) (Nat.le_refl _) HNEW.out hw9
  rw [hw9]
  clear hk9
  go_wp2
  refine bodyPost_ret (v := .agg #[.int .i64 id, .int .i64 par, .slice ka kids.length kc, .int .i64 K, .string N, .string X, .slice aa A.length ac, .slice none 0 0]) (by simp [results, Try.f59, go_sem, t0, t1, t2, t3, t4, t5, t6, t7]) rfl ?_
  exact ⟨rfl, (HB.out.trans hb9).drew⟩
end Go.Proofs.Ytllimmmgjpnhkaa
