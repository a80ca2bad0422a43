/- Delete: of a last leaf; of the root; of what is not there. -/
import Derived.Test.YtllimmmgjpnhkaaDomG
set_option linter.unusedVariables false
set_option linter.unusedSimpArgs false
namespace Go.Proofs.Ytllimmmgjpnhkaa
open Go.Deep (BT)
open Go.RowKit M

set_option maxRecDepth 20000 in
set_option maxHeartbeats 2000000 in
theorem dDelete_none (L : List DN) (B p mb : Nat) (v : Value) (w : World) (x : Int) (h : Arena w B p L v mb) (hx : Is64 x) (hp : placeOf L x = none) :
    Calls Try.prog 19 #[.pointer (some ⟨p, 0, none⟩), .int .i64 x] w fun e w' => e = .returned (.int .i64 3) ∧ w' = w := by
  have HA := Fact.mk h
  have hs : (placeOf L x).isSome = false := by simp [hp]
  clear h
  go_enter Try.func19, Try.ntmps19
  go_wp2_with (go_at_call 35; refine (dHas_any L B p mb v _ x HA.out hx).mono ?_; rintro e w' ⟨rfl, rfl⟩)
  go_ret
  exact ⟨rfl, rfl⟩

set_option maxRecDepth 20000 in
set_option maxHeartbeats 2000000 in
theorem dDelete_root (L : List DN) (B p mb i : Nat) (v : Value) (w : World) (h : Arena w B p L v mb) (hp : placeOf L 0 = some (i : Int)) :
    Calls Try.prog 19 #[.pointer (some ⟨p, 0, none⟩), .int .i64 0] w fun e w' => e = .returned (.int .i64 4) ∧ w' = w := by
  have HA := Fact.mk h
  have hs : (placeOf L 0).isSome = true := by simp [hp]
  have hx : Is64 0 := ⟨by decide⟩
  clear h
  go_enter Try.func19, Try.ntmps19
  go_wp2_with (go_at_call 35; refine (dHas_any L B p mb v _ 0 HA.out hx).mono ?_; rintro e w' ⟨rfl, rfl⟩)
  go_ret
  exact ⟨rfl, rfl⟩

theorem det_app {L0 : List DN} {z y : DN} {i : Nat} {K0 : List Int} {kv' : Value} (h : i < L0.length) : detL (L0 ++ [z]) i y K0 kv' = detL L0 i y K0 kv' ++ [z] := by
  unfold detL
  rw [List.set_append_left _ _ h]

set_option maxRecDepth 20000 in
set_option maxHeartbeats 4000000 in
theorem dDelete_last (L0 : List DN) (z y : DN) (B p mb i : Nat) (v : Value) (w : World) (K0 : List Int) (h : Arena w B p (L0 ++ [z]) v mb) (hz : placeOf (L0 ++ [z]) z.id = some (L0.length : Int)) (hq : Is64 z.par) (hqr : z.par ≠ -1) (hpq : placeOf (L0 ++ [z]) z.par = some (i : Int)) (hiL : i < L0.length) (hi : L0[i]? = some y) (hk : y.kids = K0 ++ [z.id]) (hn0 : z.id ∉ K0) (hm : K0.length ≤ 1000) (hzk : z.kids = []) (hz0 : z.id ≠ 0) :
    Calls Try.prog 19 #[.pointer (some ⟨p, 0, none⟩), .int .i64 z.id] w fun e w' => e = .returned (.int .i64 0) ∧ ∃ v' kv', Arena w' B p (detL L0 i y K0 kv') v' mb ∧ Turns w w' (inA p mb v (L0 ++ [z])) (inA p mb v' (detL L0 i y K0 kv')) := by
  have HA := Fact.mk h
  have hx : Is64 z.id := h.ids z (List.mem_append_right _ List.mem_cons_self)
  have hs : (placeOf (L0 ++ [z]) z.id).isSome = true := by simp [hz]
  have hi2 : (L0 ++ [z])[i]? = some y := by rw [List.getElem?_append_left hiL]; exact hi
  have hj2 : (L0 ++ [z])[L0.length]? = some z := by simp
  obtain ⟨ka, kc, ek, _⟩ := own_val (h.kids z (List.mem_append_right _ List.mem_cons_self))
  obtain ⟨aa, ac, ea, _⟩ := own_val (h.ats z (List.mem_append_right _ List.mem_cons_self))
  have HZ := Fact.mk hz
  have HQ := Fact.mk hpq
  have HI := Fact.mk hi2
  have HJ := Fact.mk hj2
  have HK := Fact.mk hk
  have HQR := Fact.mk hqr
  have HQ6 := Fact.mk hq
  have HN0 := Fact.mk hn0
  have HI0 := Fact.mk hi
  obtain ⟨id, par, kids, ⟨K, N, X, A⟩, kv, av⟩ := z
  dsimp only at ek ea hzk hz0 hx hs
  subst hzk
  dsimp only [List.length_nil] at ek
  subst ek ea
  have hne : (id == 0) = false := by simpa using hz0
  clear h hz hpq hi hi2 hj2 hk hqr hq hn0
  dsimp only
  go_enter Try.func19, Try.ntmps19
  go_wp2_with (first
    | (go_at_call 35; refine (dHas_any _ B p mb v _ id HA.out hx).mono ?_; rintro e w' ⟨rfl, rfl⟩)
    | (go_at_call 59; refine (dnode_any _ B p mb v _ id L0.length _ HA.out hx HZ.out HJ.out).mono ?_; rintro e w1 ⟨rfl, hb1⟩; have HB := Fact.mk hb1; clear hb1; dsimp only [valN]; have hfk := field_kids w1 id par K N X ka aa 0 kc A.length ac; try simp only [List.length_nil])
    | (go_at_call 60; refine (ddetach_last _ B p mb v _ id i L0.length y _ K0 (HA.out.below HB.out (Nat.le_refl _)) hx HQ6.out HQR.out HQ.out HI.out HZ.out HJ.out HK.out HN0.out hm).mono ?_; rintro e w2 ⟨rfl, kv', hA2, hT2⟩; rw [det_app hiL] at hA2 hT2; have HA2 := Fact.mk hA2; have HT2 := Fact.mk hT2; clear hA2 hT2)
    | (go_at_call 61; refine (dremove_last (detL L0 i y K0 kv') _ B p mb v _ HA2.out (by
        have e1 := HZ.out
        rw [← placeOf_set _ i y { y with kids := K0, kv := kv' } HI.out rfl] at e1
        have e2 : (detL L0 i y K0 kv').length = L0.length := by simp [detL]
        rw [e2, ← det_app hiL]
        exact e1)).mono ?_; rintro e w3 ⟨rfl, v3, hA3, hT3⟩; have HA3 := Fact.mk hA3; have HT3 := Fact.mk hT3; clear hA3 hT3))
  go_ret
  exact ⟨rfl, v3, kv', HA3.out, (Turns.of_below HB.out).trans (HT2.out.trans HT3.out)⟩
end Go.Proofs.Ytllimmmgjpnhkaa
