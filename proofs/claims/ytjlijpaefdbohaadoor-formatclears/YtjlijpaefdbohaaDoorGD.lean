/- FormatPuts. -/
import Derived.Test.YtjlijpaefdbohaaDoorGP
set_option linter.unusedVariables false
set_option linter.unusedSimpArgs false
namespace Go.Proofs.YtjlijpaefdbohaaDoor
open Go.RowKit

def tAl : ByteArray := ⟨#[97, 98, 99, 100, 101, 102, 103, 104, 105, 106, 107, 108]⟩
/-- the letter of a number -/
def lt1 (i : Nat) : ByteArray := tAl.extract i (i + 1)
theorem lt1_inj : ∀ i j : Fin 12, lt1 i = lt1 j → i = j := by decide
theorem lt1_size : ∀ i : Fin 12, (lt1 i).size ≤ 100 := by decide
/-- entries with these numbers, each with its letter -/
structure Row (L : List It) (k : Nat) : Prop where
  len : L.length = k
  at' : ∀ (i : Nat) (x : It), L[i]? = some x → x.id = (i : Int) + 1 ∧ x.mr = false ∧ x.ms = 0 ∧ x.nm = lt1 i ∧ x.ats = []
theorem Row.ms {L : List It} {k : Nat} (h : Row L k) (i : Nat) (hi : i ≤ k) : msA L i = 0 := by
  cases i with
  | zero => rfl
  | succ i =>
    have hx := tI_get L i (by rw [h.len]; omega)
    show (Option.map It.ms L[i]?).getD 0 = 0
    rw [hx]
    exact (h.at' i _ hx).2.2.1
theorem Row.mem {L : List It} {k : Nat} (h : Row L k) {x : It} (hx : x ∈ L) : ∃ i, i < k ∧ L[i]? = some x := by
  obtain ⟨i, hi, e⟩ := List.getElem_of_mem hx
  exact ⟨i, by rw [← h.len]; exact hi, by rw [← e]; exact List.getElem?_eq_getElem hi⟩
theorem Row.cnt {L : List It} {k : Nat} (h : Row L k) (hk : k < 12) : cnt L ⟨0, lt1 k, []⟩ = 0 := by
  refine cnt_none L _ (fun x hx => .inr (fun e => ?_))
  obtain ⟨i, hi, hx'⟩ := h.mem hx
  have e2 : lt1 i = lt1 k := by
    have := congrArg Ky.nm e
    rw [← (h.at' i x hx').2.2.2.1]
    exact this
  have := lt1_inj ⟨i, by omega⟩ ⟨k, hk⟩ e2
  simp at this
  omega
theorem Row.snoc {L : List It} {k : Nat} (h : Row L k) (av : Value) : Row (L ++ [⟨((k : Int) + 1), lt1 k, [], false, 0, av⟩]) (k + 1) := by
  refine ⟨by simp [h.len], fun i x hx => ?_⟩
  by_cases hi : i < L.length
  · rw [List.getElem?_append_left hi] at hx
    exact h.at' i x hx
  · rw [List.getElem?_append_right (by omega)] at hx
    have : i - L.length = 0 := by
      have := (List.getElem?_eq_some_iff.1 hx).1
      simp at this
      omega
    rw [this] at hx
    simp at hx
    subst hx
    have e : i = k := by rw [← h.len]; omega
    subst e
    exact ⟨rfl, rfl, rfl, rfl, rfl⟩
theorem Row.no {L : List It} {k : Nat} (h : Row L k) (id : Int) (hid : id < 1 ∨ (k : Int) < id) : ∀ x ∈ L, x.mr = true ∨ x.id ≠ id := fun x hx => by
  obtain ⟨i, hi, hx'⟩ := h.mem hx
  have := (h.at' i x hx').1
  exact .inr (by omega)
theorem Row.place {L : List It} {k : Nat} (h : Row L k) (i : Nat) (hi : i < k) : plc L ((i : Int) + 1) = (i : Int) := by
  have hx := tI_get L i (by rw [h.len]; exact hi)
  have hs := split_at L i _ hx
  have hat := h.at' i _ hx
  have hl : (L.take i).length = i := by rw [List.length_take, h.len]; omega
  have := plc_at ((i : Int) + 1) (L.take i) (L.drop (i + 1)) (tI L i) (fun y hy => by
    obtain ⟨q, hq, e⟩ := List.getElem_of_mem hy
    rw [hl] at hq
    have e2 : L[q]? = some y := by rw [← e, List.getElem_take]; exact List.getElem?_eq_getElem _
    have := (h.at' q y e2).1
    exact .inr (by omega)) hat.2.1 hat.1
  rw [← hs, hl] at this
  exact this

/-- the list with one more at a place -/
theorem mid_place {L : List It} {k : Nat} (h : Row L k) (p : Nat) (hp : p ≤ k) (x : It) (id : Int) (h1 : x.mr = false) (h2 : x.id = id) (h3 : (k : Int) < id) : plc (L.take p ++ x :: L.drop p) id = (p : Int) := by
  have := plc_at id (L.take p) (L.drop p) x (fun y hy => h.no id (.inr h3) y (List.mem_of_mem_take hy)) h1 h2
  rw [List.length_take, h.len, Nat.min_eq_left hp] at this
  exact this
theorem mid_no {L : List It} {k : Nat} (h : Row L k) (p : Nat) (x : It) (id : Int) (h2 : x.id ≠ id) (h3 : (k : Int) < id) : plc (L.take p ++ x :: L.drop p) id = -1 := by
  refine plc_no id _ (fun y hy => ?_)
  rcases List.mem_append.1 hy with hy | hy
  · exact h.no id (.inr h3) y (List.mem_of_mem_take hy)
  · rcases List.mem_cons.1 hy with rfl | hy
    · exact .inr h2
    · exact h.no id (.inr h3) y (List.mem_of_mem_drop hy)
theorem mid_get {L : List It} {k : Nat} (h : Row L k) (p : Nat) (hp : p ≤ k) (x : It) : (L.take p ++ x :: L.drop p)[p]? = some x := by
  have hl : (L.take p).length = p := by rw [List.length_take, h.len]; omega
  rw [List.getElem?_append_right (by omega), hl]
  simp
theorem mid_ms {L : List It} {k : Nat} (h : Row L k) (p : Nat) (hp : p ≤ k) (x : It) : msA (L.take p ++ x :: L.drop p) p = 0 := by
  cases p with
  | zero => rfl
  | succ p =>
    show (Option.map It.ms (L.take (p + 1) ++ x :: L.drop (p + 1))[p]?).getD 0 = 0
    have hl : (L.take (p + 1)).length = p + 1 := by rw [List.length_take, h.len]; omega
    rw [List.getElem?_append_left (by omega), List.getElem?_take, if_pos (by omega)]
    exact h.ms (p + 1) hp
theorem mid_len {L : List It} {k : Nat} (h : Row L k) (p : Nat) (x : It) : (L.take p ++ x :: L.drop p).length = k + 1 := by
  have := h.len
  simp; omega
theorem mid_swap {L : List It} {k : Nat} (h : Row L k) (p : Nat) (hp : p ≤ k) (x y : It) : (L.take p ++ x :: L.drop p).take p ++ y :: (L.take p ++ x :: L.drop p).drop (p + 1) = L.take p ++ y :: L.drop p := by
  have hl : (L.take p).length = p := by rw [List.length_take, h.len]; omega
  have e1 : (L.take p ++ x :: L.drop p).take p = L.take p := by rw [List.take_append_of_le_length (by omega), List.take_take]; simp
  have e2 : (L.take p ++ x :: L.drop p).drop (p + 1) = L.drop p := by
    rw [List.drop_append, List.drop_eq_nil_of_le (by omega), hl, List.nil_append, show p + 1 - p = 1 by omega]
    rfl
  rw [e1, e2]
theorem mid_del {L : List It} {k : Nat} (h : Row L k) (p : Nat) (hp : p ≤ k) (x : It) : (L.take p ++ x :: L.drop p).take p ++ (L.take p ++ x :: L.drop p).drop (p + 1) = L := by
  have hl : (L.take p).length = p := by rw [List.length_take, h.len]; omega
  have e1 : (L.take p ++ x :: L.drop p).take p = L.take p := by rw [List.take_append_of_le_length (by omega), List.take_take]; simp
  have e2 : (L.take p ++ x :: L.drop p).drop (p + 1) = L.drop p := by
    rw [List.drop_append, List.drop_eq_nil_of_le (by omega), hl, List.nil_append, show p + 1 - p = 1 by omega]
    rfl
  rw [e1, e2, List.take_append_drop]
end Go.Proofs.YtjlijpaefdbohaaDoor
