/- The list as it lies in memory; Len, markersAhead, Place. -/
import Derived.Test.YtjlijpaefdbohaaDoorFJ
import Derived.Deep.LoopGhost
set_option linter.unusedVariables false
namespace Go.Proofs.YtjlijpaefdbohaaDoor
open Go.RowKit

/-- what stands in a list: an entry, or a marker; how many markers there are up to it; the value of its attributes' slice -/
structure It where
  id : Int
  nm : ByteArray
  ats : List (ByteArray × ByteArray)
  mr : Bool
  ms : Int
  av : Value
def It.ky (x : It) : Ky := ⟨x.ms, x.nm, x.ats⟩
structure It.Ok (x : It) : Prop where
  id : Is64 x.id
  ky : x.ky.Ok
def cellsT (x : It) : List Value := [.int .i64 x.id, .string x.nm, x.av, .bool x.mr, .int .i64 x.ms]
abbrev itV (x : It) : Value := .agg #[.int .i64 x.id, .string x.nm, x.av, .bool x.mr, .int .i64 x.ms]
def rowT (L : List It) : List Value := L.flatMap cellsT
theorem rowT_len : ∀ L : List It, (rowT L).length = L.length * 5
  | [] => rfl
  | x :: L => by show (cellsT x ++ rowT L).length = _; rw [List.length_append, rowT_len L]; simp [cellsT]; omega
theorem rowT_app (A B : List It) : rowT (A ++ B) = rowT A ++ rowT B := by simp [rowT]
theorem rowT_take : ∀ (L : List It) (i : Nat), rowT (L.take i) = (rowT L).take (i * 5)
  | [], i => by simp [rowT]
  | x :: L, 0 => by simp [rowT]
  | x :: L, i + 1 => by
    have e : rowT (x :: L) = cellsT x ++ rowT L := rfl
    have e2 : rowT ((x :: L).take (i + 1)) = cellsT x ++ rowT (L.take i) := rfl
    rw [e, e2, rowT_take L i, show (i + 1) * 5 = (cellsT x).length + i * 5 by simp [cellsT]; omega, List.take_length_add_append]
theorem rowT_drop : ∀ (L : List It) (i : Nat), rowT (L.drop i) = (rowT L).drop (i * 5)
  | [], i => by simp [rowT]
  | x :: L, 0 => by simp
  | x :: L, i + 1 => by
    have e : rowT (x :: L) = cellsT x ++ rowT L := rfl
    have e2 : rowT ((x :: L).drop (i + 1)) = rowT (L.drop i) := rfl
    rw [e, e2, rowT_drop L i, show (i + 1) * 5 = (cellsT x).length + i * 5 by simp [cellsT]; omega, List.drop_length_add_append]
theorem rowT_get : ∀ (L : List It) (i : Nat) (x : It), L[i]? = some x → ∀ j u, (cellsT x)[j]? = some u → (rowT L)[i * 5 + j]? = some u
  | [], i, x, h, _, _, _ => by simp at h
  | y :: L, 0, x, h, j, u, hu => by
    simp at h
    subst h
    have : j < (cellsT y).length := (List.getElem?_eq_some_iff.1 hu).1
    show (cellsT y ++ rowT L)[0 * 5 + j]? = _
    rw [show 0 * 5 + j = j by omega, List.getElem?_append_left this]; exact hu
  | y :: L, i + 1, x, h, j, u, hu => by
    show (cellsT y ++ rowT L)[(i + 1) * 5 + j]? = _
    rw [List.getElem?_append_right (by simp [cellsT]; omega)]
    have := rowT_get L i x (by simpa using h) j u hu
    rw [← this]; congr 1; simp [cellsT]; omega
theorem rowT_one (L : List It) (h : ∀ x ∈ L, x.av.oneCell' = true) : ∀ u ∈ rowT L, u.oneCell' = true := by
  intro u hu
  obtain ⟨x, hx, hp⟩ := List.mem_flatMap.1 hu
  simp only [cellsT, List.mem_cons, List.not_mem_nil, or_false] at hp
  rcases hp with rfl | rfl | rfl | rfl | rfl
  · rfl
  · rfl
  · exact h x hx
  · rfl
  · rfl

open Classical in
/-- how many entries there are of a key -/
noncomputable def cnt (L : List It) (k : Ky) : Int := (L.countP (fun x => !x.mr && decide (x.ky = k)) : Nat)

/-- the list as it lies in memory -/
structure FL (w : World) (B p : Nat) (L : List It) (v : Value) (mb c : Nat) : Prop where
  box : w.heap[p]? = some (.cells #[v, .map (some mb)] 65)
  row : w.ownsRow B 68 5 v L.length (rowT L)
  ats : ∀ x ∈ L, w.ownsRow B 53 2 x.av x.ats.length (rowA x.ats)
  map : MapK w mb c (cnt L)
  few : L.length ≤ 1000
  cfew : c ≤ 100000
  at' : B ≤ p ∧ B ≤ mb
  ok : ∀ x ∈ L, x.Ok

/-- the blocks that are written to -/
def inF (p mb : Nat) (v : Value) (k : Nat) : Prop := k = p ∨ k = mb ∨ v.ownBlock = some k
/-- blocks of A alone were written to -/
structure KeepX (w w' : World) (A : Nat → Prop) : Prop where
  os : w'.os = w.os
  tape : w'.tape = w.tape
  output : w'.output = w.output
  size : w.heap.size ≤ w'.heap.size
  block : ∀ k, k < w.heap.size → ¬ A k → w'.heap[k]? = w.heap[k]?
theorem KeepX.refl (w : World) (A : Nat → Prop) : KeepX w w A := ⟨rfl, rfl, rfl, Nat.le_refl _, fun _ _ _ => rfl⟩
theorem KeepX.trans {w w1 w2 : World} {A A1 : Nat → Prop} (h : KeepX w w1 A) (k : KeepX w1 w2 A1) (hA : ∀ j, j < w.heap.size → A1 j → A j) : KeepX w w2 A :=
  ⟨k.os.trans h.os, k.tape.trans h.tape, k.output.trans h.output, Nat.le_trans h.size k.size, fun j hj hn => (k.block j (Nat.lt_of_lt_of_le hj h.size) (fun h1 => hn (hA j hj h1))).trans (h.block j hj hn)⟩
theorem KeepX.of_below {w w' : World} {A : Nat → Prop} (h : Below w.heap.size w w') : KeepX w w' A := ⟨h.os, h.tape, h.output, h.size, fun k hk _ => h.block k hk⟩
theorem KeepX.mono {w w' : World} {A A' : Nat → Prop} (h : KeepX w w' A) (hA : ∀ j, j < w.heap.size → A j → A' j) : KeepX w w' A' := ⟨h.os, h.tape, h.output, h.size, fun k hk hn => h.block k hk (fun h1 => hn (hA k hk h1))⟩
theorem KeepX.below {w w' : World} {A : Nat → Prop} (h : KeepX w w' A) {n : Nat} (hA : ∀ k, A k → n ≤ k) (hn : n ≤ w.heap.size) : Below n w w' :=
  ⟨h.os, h.tape, h.output, h.size, fun k hk => h.block k (by omega) (fun h1 => by have := hA k h1; omega)⟩
theorem KeepX.of_grown {w w' : World} {g : Option Nat} {A : Nat → Prop} (h : w.grownBy w' g) (hA : ∀ k, g = some k → A k) : KeepX w w' A :=
  ⟨h.os, h.tape, h.output, h.size, fun k hk hn => h.block k hk (fun e => hn (hA k e.symm))⟩
theorem FL.ge {w : World} {B p mb c : Nat} {L : List It} {v : Value} (h : FL w B p L v mb c) : ∀ k, inF p mb v k → B ≤ k := by
  intro k hk
  rcases hk with rfl | rfl | hk
  · exact h.at'.1
  · exact h.at'.2
  · exact (h.row.lt k hk).1
theorem FL.lt {w : World} {B p mb c : Nat} {L : List It} {v : Value} (h : FL w B p L v mb c) : ∀ k, inF p mb v k → k < w.heap.size := by
  intro k hk
  rcases hk with rfl | rfl | hk
  · exact (Array.getElem?_eq_some_iff.1 h.box).1
  · obtain ⟨es, clock, hm⟩ := h.map.isMap
    exact (Array.getElem?_eq_some_iff.1 hm).1
  · exact (h.row.lt k hk).2
/-- an attributes' row is none of the blocks that are written to -/
theorem FL.atsOut {w : World} {B p mb c : Nat} {L : List It} {v : Value} (h : FL w B p L v mb c) {B' n : Nat} {av : Value} {row : List Value} (ha : w.ownsRow B' 53 2 av n row) : ∀ k, av.ownBlock = some k → ¬ inF p mb v k := by
  intro k hk hi
  rcases ha.2 with ⟨rfl, _⟩ | ⟨g, cap, cur, rfl, hg, hh, _⟩
  · cases hk
  · obtain rfl : g = k := Option.some.inj hk
    rcases hi with rfl | rfl | hi
    · rw [h.box] at hh; simp at hh
    · obtain ⟨es, clock, hm⟩ := h.map.isMap
      rw [hm] at hh; cases hh
    · rcases h.row.2 with ⟨rfl, _⟩ | ⟨g', cap', cur', rfl, hg', hh', _⟩
      · cases hi
      · obtain rfl : g' = g := Option.some.inj hi
        rw [hh'] at hh; simp at hh
theorem own_keepX {w w' : World} {A : Nat → Prop} (hk : KeepX w w' A) {B e size n : Nat} {v : Value} {row : List Value} (h : w.ownsRow B e size v n row) (hA : ∀ k, v.ownBlock = some k → ¬ A k) : w'.ownsRow B e size v n row := by
  refine ⟨h.1, ?_⟩
  rcases h.2 with h0 | ⟨g, cap, cur, rfl, h2, h3, h4⟩
  · exact .inl h0
  · exact .inr ⟨g, cap, cur, rfl, h2, (hk.block g (Array.getElem?_eq_some_iff.1 h3).1 (hA g rfl)).trans h3, h4⟩
theorem FL.below {w w' : World} {B p mb c : Nat} {L : List It} {v : Value} {n : Nat} (h : FL w B p L v mb c) (hb : Below n w w') (hn : w.heap.size ≤ n) : FL w' B p L v mb c := by
  have hk : ∀ k, k < w.heap.size → w'.heap[k]? = w.heap[k]? := fun k hk => hb.block k (by omega)
  exact ⟨(hk p (h.lt p (.inl rfl))).trans h.box, own_below h.row hb hn, fun x hx => own_below (h.ats x hx) hb hn, h.map.block (hk mb (h.lt mb (.inr (.inl rfl)))), h.few, h.cfew, h.at', h.ok⟩
theorem FL.avOne {w : World} {B p mb c : Nat} {L : List It} {v : Value} (h : FL w B p L v mb c) : ∀ x ∈ L, x.av.oneCell' = true := by
  intro x hx
  obtain ⟨a, cap, e, _⟩ := own_val (h.ats x hx)
  rw [e]; rfl
theorem FL.on {w : World} {B p mb c : Nat} {L : List It} {v : Value} (h : FL w B p L v mb c) {x : It} (hx : x ∈ L) : RowOn w x.av x.ats.length 2 (rowA x.ats) := RowOn.own (h.ats x hx) (rowA_one _)
theorem FL.mono {w : World} {B p mb c c' : Nat} {L : List It} {v : Value} (h : FL w B p L v mb c) (hc : c ≤ c') (hf : c' ≤ 100000) : FL w B p L v mb c' := ⟨h.box, h.row, h.ats, h.map.mono hc, h.few, hf, h.at', h.ok⟩

set_option maxRecDepth 20000 in
set_option maxHeartbeats 1000000 in
theorem len_any (L : List It) (B p mb c : Nat) (v : Value) (w : World) (h : FL w B p L v mb c) :
    Calls Tryd.prog 29 #[.pointer (some ⟨p, 0, none⟩)] w fun e w' => e = .returned (.int .i64 L.length) ∧ w' = w := by
  have hc : w.cell? ⟨p, 0, none⟩ = some v := by simp [World.cell?, h.box]
  obtain ⟨a, cap, hv, _⟩ := own_val h.row
  subst hv
  generalize L.length = n at *
  clear h
  go_enter Tryd.func29, Tryd.ntmps29
  go_wp2
  go_ret
  exact ⟨rfl, rfl⟩

/-- how many markers there are ahead of a place -/
def msA (L : List It) : Nat → Int
  | 0 => 0
  | i + 1 => ((L[i]?).map It.ms).getD 0

set_option maxRecDepth 20000 in
set_option maxHeartbeats 1000000 in
theorem ahead_any (L : List It) (B p mb c : Nat) (v : Value) (w : World) (i : Nat) (h : FL w B p L v mb c) (hi : i ≤ L.length) :
    Calls Tryd.prog 33 #[.pointer (some ⟨p, 0, none⟩), .int .i64 i] w fun e w' => e = .returned (.int .i64 (msA L i)) ∧ w' = w := by
  have hc : w.cell? ⟨p, 0, none⟩ = some v := by simp [World.cell?, h.box]
  cases i with
  | zero =>
    clear h hc
    go_enter Tryd.func33, Tryd.ntmps33
    go_wp2
    go_ret
    exact ⟨rfl, rfl⟩
  | succ i =>
    obtain ⟨x, hx⟩ : ∃ x, L[i]? = some x := ⟨_, List.getElem?_eq_getElem (by omega)⟩
    obtain ⟨g, cap, rfl, q1, q2, q3, q4, hat, _⟩ := own_get h.row (by omega)
    have y4 := hat _ _ (rowT_get L i x hx 4 _ rfl)
    have hms : msA L (i + 1) = x.ms := by simp [msA, hx]
    rw [hms]
    have hf := h.few
    generalize L.length = n at *
    generalize x.ms = ms at *
    clear h hat hx hms
    have e1 : ((i + 1 : Nat) : Int) = (i : Int) + 1 := by omega
    rw [e1]
    go_enter Tryd.func33, Tryd.ntmps33
    go_wp2
    go_ret
    exact ⟨rfl, rfl⟩
end Go.Proofs.YtjlijpaefdbohaaDoor
