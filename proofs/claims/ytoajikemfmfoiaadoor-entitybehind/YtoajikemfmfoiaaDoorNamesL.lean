/- The walk of EntityNames: it returns true. -/
import Derived.Test.YtoajikemfmfoiaaDoorRFind
namespace Go.Proofs.YtoajikemfmfoiaaDoor
open Go.RowKit M

theorem find_fj (w : World) : Calls Tryd.prog 7 #[.string ⟨#[102, 106, 108, 105, 103, 59]⟩] w fun e w' => e = .returned (.tuple #[.string ⟨#[102, 106]⟩, .bool true]) ∧ Below w.heap.size w w' :=
  find_any ⟨#[102, 106, 108, 105, 103, 59]⟩ ⟨#[102, 106]⟩ true ⟨by decide⟩ ⟨ex_fj⟩ w
theorem find_fjno (w : World) : Calls Tryd.prog 7 #[.string ⟨#[102, 106, 108, 105, 103]⟩] w fun e w' => e = .returned (.tuple #[.string ⟨#[]⟩, .bool false]) ∧ Below w.heap.size w w' :=
  find_any ⟨#[102, 106, 108, 105, 103]⟩ ⟨#[]⟩ false ⟨by decide⟩ ⟨ex_fjno⟩ w
/-- an entry of the list in block B of w, at place k -/
structure Ent (w : World) (B k : Nat) (Nm : ByteArray) (sg : Int) (c : Bool) : Prop where
  c0 : w.cell? ⟨B, k * 3, none⟩ = some (.string Nm)
  c1 : w.cell? ⟨B, k * 3 + 1, none⟩ = some (.int .i32 sg)
  c2 : w.cell? ⟨B, k * 3 + 2, none⟩ = some (.bool c)
theorem Listed.ent {w : World} {B k : Nat} (h : Listed w B) {e : List UInt8 × Int × Bool} (he : Rf[k]? = some e) : Ent w B k ⟨e.1.toArray⟩ e.2.1 e.2.2 :=
  ⟨by rw [Nat.mul_comm]; exact h.at0 k e he, by rw [Nat.mul_comm]; exact h.at1 k e he, by rw [Nat.mul_comm]; exact h.at2 k e he⟩
theorem Ent.below {w w' : World} {B k : Nat} {Nm : ByteArray} {sg : Int} {c : Bool} (h : Ent w B k Nm sg c) (hB : B < w.heap.size) (hb : Below w.heap.size w w') : Ent w' B k Nm sg c :=
  ⟨by rw [hb.cell hB]; exact h.c0, by rw [hb.cell hB]; exact h.c1, by rw [hb.cell hB]; exact h.c2⟩
/-- what the law asks of an entry -/
structure Told (Nm : ByteArray) (sg : Int) (c : Bool) (W G : ByteArray) (N : Nat) : Prop where
  nat : ∃ k : Nat, sg = k ∧ k < 55296
  put : W.data.toList = en sg
  semi : amongB (Nm ++ ⟨#[59]⟩).data.toList = (W.data.toList, true)
  bare : amongB Nm.data.toList = (G.data.toList, c)
  same : c = true → G = W
  long : longB (Nm ++ ⟨#[59, 59]⟩).data.toList 0 = (N, W.data.toList)
  len : N = Nm.size + 1
  six : Nm.size ≤ 6
theorem told_of {e : List UInt8 × Int × Bool} (he : e ∈ Rf) : ∃ W G N, Told ⟨e.1.toArray⟩ e.2.1 e.2.2 W G N := by
  obtain ⟨nm, sg, c⟩ := e
  have hz : (⟨nm.toArray⟩ : ByteArray).size = nm.length := Lib.size_eq _
  refine ⟨⟨(en sg).toArray⟩, ⟨(amongB nm).1.toArray⟩, nm.length + 1, ⟨sign_nat he, rfl, ?_, ?_, ?_, ?_, by rw [hz], by rw [hz]; exact (ref_mem he).2.2⟩⟩
  · rw [ba_app]; exact ref_among he
  · rw [ref_bare he]
    cases c <;> rfl
  · intro hc
    simp only at hc
    subst hc
    rw [ref_bare he]
    rfl
  · rw [ba_app]; exact long_self he

set_option maxRecDepth 20000 in
set_option maxHeartbeats 2000000 in
theorem names_walk (w : World) (hl : Laid w) : Calls Tryd.prog 4 #[] w fun e w' => e = .returned (.bool true) ∧ Below w.heap.size w w' := by
  have HL := Fact.mk hl
  clear hl
  go_enter Tryd.func4, Tryd.ntmps4
  go_wp2_with (go_at_call 14; refine (all_any _).mono ?_; rintro e w1 ⟨rfl, hb1, hl1⟩)
  go_loopw [2] (fun i wx => ∃ k : Nat, i = .int .i64 k ∧ k ≤ 52 ∧ Below w.heap.size w wx ∧ Fact (Listed wx w.heap.size)) (fun i _ => 52 - (intOf i).toNat)
  case atStart => exact ⟨0, rfl, by omega, hb1, ⟨hl1⟩⟩
  case round =>
    obtain ⟨k, rfl, hk, hbr, hls⟩ := hrel
    clear hl1 hb1
    by_cases hlt : k < 52
    · obtain ⟨e, he, hd, hmem⟩ := rf_at hlt
      obtain ⟨W, G, N, hT⟩ := told_of hmem
      have hent := hls.out.ent he
      obtain ⟨nm, sg, c⟩ := e
      simp only at hT hent
      obtain ⟨Nm, hNm⟩ : ∃ Nm : ByteArray, (⟨nm.toArray⟩ : ByteArray) = Nm := ⟨_, rfl⟩
      rw [hNm] at hT hent
      clear hNm he hd hmem
      have hsz1 : ¬ 9223372036854775807 < Nm.size + 1 := by have := hT.six; omega
      have hsz2 : ¬ 9223372036854775807 < Nm.size + 2 := by have := hT.six; omega
      have L1 : IsLen (Nm ++ ⟨#[59]⟩).size := ⟨by rw [ByteArray.size_append]; have := hT.six; show Nm.size + 1 ≤ _; omega⟩
      have L2 : IsLen (Nm ++ ⟨#[59, 59]⟩).size := ⟨by rw [ByteArray.size_append]; have := hT.six; show Nm.size + 2 ≤ _; omega⟩
      have L3 : IsLen Nm.size := ⟨by have := hT.six; omega⟩
      have F1 := Fact.mk hT.put
      have F2 := Fact.mk hT.semi
      have F3 := Fact.mk hT.bare
      have F4 := Fact.mk hT.long
      have hN1 : (N : Int) = (Nm.size : Int) + 1 := by have := hT.len; omega
      have hN2 : (((N : Int)) == (Nm.size : Int) + 1) = true := beq_iff_eq.2 hN1
      have HT := Fact.mk hT
      have hkI : (k : Int) < 52 := by omega
      have hkI0 : (0 : Int) ≤ k := by omega
      have x1 : (W.toList == W.toList) = true := beq_self_eq_true _
      have x3 : (c == c) = true := beq_self_eq_true _
      have hlt0 := hls.out.lt
      have E1 := Fact.mk hent
      obtain ⟨c0, c1, c2⟩ := hent
      have tok1 : True := trivial
      have hsame := Fact.mk hT.same
      clear hT
      cases c
      · clear hsame
        go_wp2_with (first
          | (go_at_call 15; refine (refPut_at sg HT.out.nat W F1 _).mono ?_; rintro e w2 ⟨rfl, hb2⟩; have E2 := Fact.mk (E1.out.below hlt0 hb2); have p2 := hb2; clear c0 c1 c2; obtain ⟨c0, c1, c2⟩ := E2.out; have hlt2 := Nat.lt_of_lt_of_le hlt0 hb2.size)
          | (go_at_call 7; have _t := tok1; refine (find_any _ W true L1 F2 _).mono ?_; rintro e w3 ⟨rfl, hb3⟩; clear tok1 _t; have E3 := Fact.mk (E2.out.below hlt2 hb3); have p3 := p2.trans (hb3.mono p2.size); clear c0 c1 c2; obtain ⟨c0, c1, c2⟩ := E3.out; have hlt3 := Nat.lt_of_lt_of_le hlt2 hb3.size)
          | (go_at_call 7; refine (find_any Nm _ _ L3 F3 _).mono ?_; rintro e w4 ⟨rfl, hb4⟩; have E4 := Fact.mk (E3.out.below hlt3 hb4); have p4 := p3.trans (hb4.mono p3.size); clear c0 c1 c2; obtain ⟨c0, c1, c2⟩ := E4.out; have hlt4 := Nat.lt_of_lt_of_le hlt3 hb4.size)
          | (go_at_call 9; refine (longest_any _ W 0 N L2 (Nat.zero_le _) F4 _).mono ?_; rintro e w5 ⟨rfl, hb5⟩; have E5 := Fact.mk (E4.out.below hlt4 hb5); have p5 := p4.trans (hb5.mono p4.size); clear c0 c1 c2; obtain ⟨c0, c1, c2⟩ := E5.out))
        go_roundw
        case rel => exact ⟨k + 1, by go_num, by omega, hbr.trans (p5.mono hbr.size), ⟨hls.out.below p5⟩⟩
        case measure => simp [intOf]; omega
      · have e1 : G = W := hsame.out rfl
        subst e1
        clear hsame
        go_wp2_with (first
          | (go_at_call 15; refine (refPut_at sg HT.out.nat _ F1 _).mono ?_; rintro e w2 ⟨rfl, hb2⟩; have E2 := Fact.mk (E1.out.below hlt0 hb2); have p2 := hb2; clear c0 c1 c2; obtain ⟨c0, c1, c2⟩ := E2.out; have hlt2 := Nat.lt_of_lt_of_le hlt0 hb2.size)
          | (go_at_call 7; have _t := tok1; refine (find_any _ _ true L1 F2 _).mono ?_; rintro e w3 ⟨rfl, hb3⟩; clear tok1 _t; have E3 := Fact.mk (E2.out.below hlt2 hb3); have p3 := p2.trans (hb3.mono p2.size); clear c0 c1 c2; obtain ⟨c0, c1, c2⟩ := E3.out; have hlt3 := Nat.lt_of_lt_of_le hlt2 hb3.size)
          | (go_at_call 7; refine (find_any Nm _ _ L3 F3 _).mono ?_; rintro e w4 ⟨rfl, hb4⟩; have E4 := Fact.mk (E3.out.below hlt3 hb4); have p4 := p3.trans (hb4.mono p3.size); clear c0 c1 c2; obtain ⟨c0, c1, c2⟩ := E4.out; have hlt4 := Nat.lt_of_lt_of_le hlt3 hb4.size)
          | (go_at_call 9; refine (longest_any _ _ 0 N L2 (Nat.zero_le _) F4 _).mono ?_; rintro e w5 ⟨rfl, hb5⟩; have E5 := Fact.mk (E4.out.below hlt4 hb5); have p5 := p4.trans (hb5.mono p4.size); clear c0 c1 c2; obtain ⟨c0, c1, c2⟩ := E5.out))
        go_roundw
        case rel => exact ⟨k + 1, by go_num, by omega, hbr.trans (p5.mono hbr.size), ⟨hls.out.below p5⟩⟩
        case measure => simp [intOf]; omega
    · have hk2 : k = 52 := by omega
      subst hk2
      have tok1 : True := trivial
      clear hlt
      go_wp2_with (first
        | (go_at_call 7; have _t := tok1; refine (find_fj _).mono ?_; rintro e w2 ⟨rfl, hb2⟩; clear tok1 _t; have q2 := hbr.trans (hb2.mono hbr.size))
        | (go_at_call 7; refine (find_fjno _).mono ?_; rintro e w3 ⟨rfl, hb3⟩; have q3 := q2.trans (hb3.mono q2.size); have hl3 := Fact.mk (HL.out.below HL.out.pos q3))
        | (go_at_call 13; refine (awake_true _ hl3.out).mono ?_; rintro e w4 ⟨rfl, hb4⟩))
      go_ret
      exact ⟨rfl, q3.trans (hb4.mono q3.size)⟩
end Go.Proofs.YtoajikemfmfoiaaDoor
