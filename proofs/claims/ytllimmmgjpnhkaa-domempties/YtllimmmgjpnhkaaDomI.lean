/- slices.Index of numbers; Place, Within. -/
import Derived.Test.YtllimmmgjpnhkaaDomQ
set_option linter.unusedVariables false
namespace Go.Proofs.Ytllimmmgjpnhkaa
open Go.Deep (BT)
open Go.RowKit M

/-- where a number is first, from a place on -/
def idxI (x : Int) : List Int → Nat → Int
  | [], _ => -1
  | z :: zs, k => if x = z then k else idxI x zs (k + 1)

theorem rowI_get (l : List Int) (i : Nat) (h : i < l.length) : (rowI l)[i]? = some (.int .i64 l[i]) := by simp [rowI, h]

set_option maxRecDepth 20000 in
set_option maxHeartbeats 2000000 in
theorem index_any (l : List Int) (x : Int) (v : Value) (w : World) (h : RowOn w v l.length 1 (rowI l)) (hm : l.length ≤ 1000000) :
    Calls Try.prog 73 #[v, .int .i64 x] w fun e w' => e = .returned (.int .i64 (idxI x l 0)) ∧ w' = w := by
  obtain ⟨_, _, a, cap, rfl, hc1, hc2, hat⟩ := h
  by_cases h0 : l.length = 0
  · obtain rfl : l = [] := List.eq_nil_of_length_eq_zero h0
    simp only [List.length_nil]
    go_enter Try.func73, Try.ntmps73
    go_wp2
    go_rounds 1
    go_ret
    exact ⟨rfl, rfl⟩
  · obtain ⟨ad, rfl, hc⟩ := hat.resolve_left h0
    have HC : Fact (∀ i (h : i < l.length), w.cell? (ad.add i) = some (.int .i64 l[i])) := ⟨fun i hi => hc i _ (rowI_get l i hi)⟩
    obtain ⟨n, hn⟩ : ∃ n, l.length = n := ⟨_, rfl⟩
    have HN := Fact.mk hn
    rw [hn] at hm hc1 ⊢
    clear hn hat hc h0
    go_enter Try.func73, Try.ntmps73
    go_wp2
    go_loop [8] (fun i => ∃ k : Nat, k ≤ n ∧ i = .int .i64 k ∧ Fact (idxI x (l.drop k) k = idxI x l 0)) (fun i => n - (intOf i).toNat)
    case atStart => exact ⟨0, Nat.zero_le _, rfl, ⟨rfl⟩⟩
    case round =>
      obtain ⟨k, hk, rfl, hf⟩ := hrel
      by_cases hlt : k < n
      · have hl : k < l.length := by have := HN.out; omega
        have hck := HC.out k hl
        have ht : idxI x (l.drop k) k = if x = l[k] then (k : Int) else idxI x (l.drop (k + 1)) (k + 1) := by
          rw [List.drop_eq_getElem_cons hl]; rfl
        obtain ⟨z, hz⟩ : ∃ z, l[k] = z := ⟨_, rfl⟩
        rw [hz] at hck ht
        by_cases hxz : x = z
        · subst hxz
          rw [if_pos rfl] at ht
          have HT : Fact ((k : Int) = idxI x l 0) := ⟨by rw [← hf.out, ht]⟩
          clear ht hf hz HC hl
          go_wp2
          go_ret
          exact ⟨ret_int HT.out, rfl⟩
        · rw [if_neg hxz] at ht
          have hne : (x == z) = false := by simpa using hxz
          have HT : Fact (idxI x (l.drop (k + 1)) (k + 1) = idxI x l 0) := ⟨by rw [← hf.out, ht]⟩
          clear ht hf hz HC hl
          go_wp2
          go_round
          case rel => exact ⟨k + 1, by omega, by go_num, HT⟩
          case measure => simp [intOf]; omega
      · have hA : Fact ((-1 : Int) = idxI x l 0) := ⟨by rw [← hf.out, List.drop_eq_nil_of_le (by have := HN.out; omega)]; rfl⟩
        clear hf HC
        go_wp2
        go_ret
        exact ⟨ret_int hA.out, rfl⟩

set_option maxRecDepth 20000 in
set_option maxHeartbeats 2000000 in
theorem dPlace_any (L : List DN) (B p mb : Nat) (v : Value) (w : World) (x : Int) (i j : Nat) (y z : DN) (h : Arena w B p L v mb) (hx : Is64 x) (hy : Is64 y.par) (hp : placeOf L x = some (i : Int)) (hi : L[i]? = some y) (hr : y.par ≠ -1) (hq : placeOf L y.par = some (j : Int)) (hj : L[j]? = some z) (hm : z.kids.length ≤ 1000000) :
    Calls Try.prog 31 #[.pointer (some ⟨p, 0, none⟩), .int .i64 x] w fun e w' => e = .returned (.int .i64 (idxI x z.kids 0)) ∧ Below w.heap.size w w' := by
  have HP := Fact.mk hp
  have HI := Fact.mk hi
  have HQ := Fact.mk hq
  have HJ := Fact.mk hj
  have hkk := h.kids z (List.mem_of_getElem? hj)
  obtain ⟨ka, kc, ek, _⟩ := own_val hkk
  obtain ⟨aa, ac, ea, _⟩ := own_val (h.ats z (List.mem_of_getElem? hj))
  have HK := Fact.mk hkk
  have HA := Fact.mk h
  obtain ⟨id, par, kids, ⟨K, N, X, A⟩, kv, av⟩ := z
  dsimp only at ek ea hm ⊢
  subst ek ea
  have hne : (y.par == -1) = false := by simpa using hr
  obtain ⟨yp, hyp⟩ : ∃ yp, y.par = yp := ⟨_, rfl⟩
  have HY := Fact.mk hyp
  rw [hyp] at hne hy
  have HQ' : Fact (placeOf L yp = some (j : Int)) := ⟨by rw [← hyp]; exact HQ.out⟩
  clear h hp hi hq hj hkk hr hyp HQ
  go_enter Try.func31, Try.ntmps31
  go_wp2_with (first
    | (go_at_call 30; refine (dParent_any L B p mb v _ x i y HA.out hx HP.out HI.out).mono ?_; rintro e w1 ⟨rfl, hb1⟩; have HB := Fact.mk hb1; clear hb1; rw [HY.out])
    | (go_at_call 59; refine (dnode_any L B p mb v _ yp j _ (HA.out.below HB.out (Nat.le_refl _)) hy HQ'.out HJ.out).mono ?_; rintro e w2 ⟨rfl, hb2⟩; have HB2 := Fact.mk (HB.out.trans (hb2.mono HB.out.size)); clear hb2; dsimp only [valN]; have hfk := field_kids w2 id par K N X ka aa kids.length kc A.length ac)
    | (go_at_call 73; refine (index_any kids x _ _ (RowOn.own (own_below HK.out HB2.out (Nat.le_refl _)) (rowI_one _)) hm).mono ?_; rintro e w3 ⟨rfl, rfl⟩))
  go_ret
  exact ⟨rfl, HB2.out⟩
end Go.Proofs.Ytllimmmgjpnhkaa
