/- byName: what it answers. -/
import Derived.Test.YtdniddiaiinggaaDoorTF
import Derived.Handy
set_option linter.unusedVariables false
namespace Go.Proofs.YtdniddiaiinggaaDoor
open Go.RowKit M

/-- append whose run is known -/
theorem wpList_append_said {P : Program} (w : World) {ops : Array Oper} {rest : List Oper} {o : Oper} {a : Act} {Q : Exit → Act → World → Prop} (hgd : o.guard = none) (s x : Operand) (t : TypeId)
    (ho : o.op = .call { callee := .builtin .append, args := #[s, x], argTypes := #[t, t] }) (ty : TypeId) (hty : o.type = ty) (v u : Value) (hs : a.eval s = v) (hx : a.eval x = u) {v' : Value} {w' : World}
    (hr : (Builtin.append_ #[t, t] ty #[v, u]).run P w = .ok v' w') (h : wpList P ops Q rest (a.put o.dst v') w') : wpList P ops Q (o :: rest) a w := by
  subst hty
  refine wpList_plain hgd fun K hK => ?_
  unfold Oper.wp execOp
  simp only [ho, resolve, invoke, builtin, Sem.run_bind, Sem.run_pure, Result.andThen_ok, List.map_toArray, List.map_cons, List.map_nil, hs, hx, hr]
  exact hK _ _ h
/-- names that are not too long -/
structure SmA (acc : AL) : Prop where
  len : acc.length ≤ 100000000
  nm : ∀ p ∈ acc, p.1.length ≤ 100000000
set_option maxRecDepth 20000 in
set_option maxHeartbeats 2000000 in
theorem tbyName_any (b : Nat) (acc : AL) (w : World) (h : MapA w b acc) (hl : SmA acc) :
    Calls Tryd.prog 73 #[.map (some b)] w fun e w' => ∃ v : Value, e = .returned v ∧ w'.ownsRow w.heap.size 30 2 v acc.length (rowA (srtA acc)) ∧ Below w.heap.size w w' := by
  have HM := Fact.mk h
  clear h
  have hal := hl.len
  go_enter Tryd.func73, Tryd.ntmps73
  go_wp2_with (first
    | (go_at_call 84; refine (keys_any b _).mono ?_; rintro e w1 ⟨rfl, rfl⟩)
    | (go_at_call 83; refine (sorted_any b acc w HM.out (by omega)).mono ?_; rintro e w2 ⟨v, rfl, hrow, hb2⟩; have HR := Fact.mk hrow; obtain ⟨hrl, ⟨rfl, hn0⟩ | ⟨g, cap, cur, rfl, hg, hh, hc1, hc2, hs, ht⟩⟩ := hrow))
  · go_rounds 1
    go_wp2_with fail
    go_ret
    have e : acc = [] := List.eq_nil_of_length_eq_zero hn0
    subst e
    have e2 : rowA (srtA []) = [] := by simp [srtA, rowA]
    exact ⟨.slice none 0 0, rfl, by rw [e2]; exact World.ownsRow_nil _ _ _ _, hb2⟩
  · have hgl : g < w2.heap.size := (Array.getElem?_eq_some_iff.1 hh).1
    have HG : Fact (∀ j x, (keysA acc)[j]? = some x → w2.cell? ⟨g, j, none⟩ = some (.string (tx x))) := ⟨fun j x hx => by
      have := HR.out.cells (g := g) rfl j (.string (tx x)) (by rw [List.getElem?_map, hx]; rfl)
      rw [add_cell, Nat.zero_add] at this
      exact this⟩
    clear hh hs ht hrl HR
    go_loopw [3, 10] (fun lv i wx => ∃ j : Nat, i = .int .i64 j ∧ j ≤ acc.length ∧ Below w2.heap.size w2 wx ∧ wx.ownsRow w2.heap.size 30 2 lv ((srtA acc).take j).length (rowA ((srtA acc).take j))) (fun _ i _ => acc.length - (intOf i).toNat)
    case atStart => exact ⟨0, rfl, Nat.zero_le _, Below.refl _ _, World.ownsRow_nil _ _ _ _⟩
    case round =>
      obtain ⟨j, rfl, hj, hbr, hown⟩ := hrel
      by_cases hlt : j < acc.length
      · have hltI : (j : Int) < acc.length := by omega
        have qlt : decide ((j : Int) < acc.length) = true := decide_eq_true hltI
        have qn : decide (j < acc.length) = true := decide_eq_true hlt
        have h0 : (0 : Int) ≤ j := by omega
        obtain ⟨x, hx⟩ : ∃ x, Fact ((keysA acc)[j]? = some x) := ⟨_, ⟨List.getElem?_eq_getElem (by rw [keysA_len]; exact hlt)⟩⟩
        have hmem := keysA_mem hx.out
        have hcell : wr.cell? ⟨g, j, none⟩ = some (.string (tx x)) := (hbr.cell (p := ⟨g, j, none⟩) hgl).trans (HG.out j x hx.out)
        have hM := (HM.out.keep hb2).keep hbr
        have hlook := hM.look hmem (by have := hl.nm _ hmem; simp only at this; omega)
        obtain ⟨v', w4, hap, hown4, hb4⟩ := append_att (n := x) (u := lookA acc x) hown (by rw [List.length_take]; omega) hbr.size
        have HO : Fact (w4.ownsRow w2.heap.size 30 2 v' ((srtA acc).take (j + 1)).length (rowA ((srtA acc).take (j + 1)))) := ⟨by rw [srtA_take hx.out, List.length_append]; exact hown4⟩
        have HB4 := Fact.mk (hbr.trans hb4)
        have HA := Fact.mk hap
        have HH := Fact.mk hown
        clear hown4 hb4 hmem hM hap hown
        obtain ⟨Nm, hNm⟩ : ∃ Nm : ByteArray, tx x = Nm := ⟨_, rfl⟩
        obtain ⟨Vl, hVl⟩ : ∃ Vl : ByteArray, tx (lookA acc x) = Vl := ⟨_, rfl⟩
        rw [hNm, hVl] at hlook HA
        rw [hNm] at hcell
        clear hNm hVl hx
        go_wp2_with (at_builtin; refine wpList_append_said _ rfl (.tmp 14) (.tmp 18) 25 rfl 25 rfl _ _ rfl rfl HA.out ?_; clear HA)
        go_roundw
        case rel => exact ⟨j + 1, by (first | exact int_eq rfl | exact int_eq (by omega)), hlt, HB4.out, HO.out⟩
        case measure => exact meas_up hlt
      · have hge : (acc.length : Int) ≤ j := by omega
        have qlt : decide ((j : Int) < acc.length) = false := decide_eq_false (by omega)
        have qn : decide (j < acc.length) = false := decide_eq_false hlt
        have e : (srtA acc).take j = srtA acc := List.take_of_length_le (by rw [srtA_len]; omega)
        rw [e, srtA_len] at hown
        have HO := Fact.mk hown
        clear hown e
        go_wp2_with fail
        go_ret
        exact ⟨_, rfl, own_low HO.out hb2.size, hb2.trans (hbr.mono hb2.size)⟩
end Go.Proofs.YtdniddiaiinggaaDoor
