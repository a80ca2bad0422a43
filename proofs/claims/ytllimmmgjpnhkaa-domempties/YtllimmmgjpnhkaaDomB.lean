/- Delete of the last number, as the numbers tell. -/
import Derived.Test.YtllimmmgjpnhkaaDomS
import Derived.Test.YtllimmmgjpnhkaaDomE
set_option linter.unusedVariables false
set_option linter.unusedSimpArgs false
namespace Go.Proofs.Ytllimmmgjpnhkaa
open Go.Deep (BT)
open Go.RowKit M

theorem inc_len : ∀ (l : List Int) (lo hi : Int), lo ≤ hi → l.Pairwise (· < ·) → (∀ c ∈ l, lo ≤ c ∧ c < hi) → (l.length : Int) ≤ hi - lo
  | [], lo, hi, h, _, _ => by simp; omega
  | a :: t, lo, hi, h, hp, hc => by
    have h1 := hc a List.mem_cons_self
    rw [List.pairwise_cons] at hp
    have := inc_len t (a + 1) hi (by omega) hp.2 (fun c hcm => ⟨by have := hp.1 c hcm; omega, (hc c (List.mem_cons_of_mem _ hcm)).2⟩)
    rw [List.length_cons]
    omega
theorem cut_ok {P : List PN} (h : WFP P) {k : Nat} (hk : k ≤ P.length) : OKP (cutP P k) := by
  have key : ∀ (i : Nat) (x : PN), (cutP P k)[i]? = some x → i < k ∧ ∃ y, P[i]? = some y ∧ x = lowP k y := by
    intro i x hx
    have hi : i < k := by have := (List.getElem?_eq_some_iff.1 hx).1; rw [cut_len hk] at this; exact this
    rw [cut_get hi] at hx
    obtain ⟨y, hy, e⟩ := Option.map_eq_some_iff.1 hx
    exact ⟨hi, y, hy, e.symm⟩
  refine ⟨fun i x hx => ?_, fun x hx => ?_⟩
  · obtain ⟨_, y, hy, rfl⟩ := key i x hx
    exact h.pos i y hy
  · obtain ⟨i, hi⟩ := List.mem_iff_getElem?.1 hx
    obtain ⟨hik, y, hy, rfl⟩ := key i x hi
    obtain ⟨k1, k2⟩ := h.kids i y hy
    rw [cut_len hk]
    have := inc_len (lowP k y).kids 0 k (by omega) (k1.filter _) (fun c hc => by
      obtain ⟨m1, m2⟩ := List.mem_filter.1 hc
      rw [decide_eq_true_iff] at m2
      have := (k2 c m1).1
      exact ⟨by omega, m2⟩)
    omega

theorem del_step {P : List PN} (hP : WFP P) (hlen : P.length ≤ 1000) {m : Nat} (h1 : 1 ≤ m) (hm : m < P.length) (L : List DN) (B p mb : Nat) (v : Value) (w : World) (h : Arena w B p L v mb) (hL : L.map pn = cutP P (m + 1)) :
    Calls Try.prog 19 #[.pointer (some ⟨p, 0, none⟩), .int .i64 (m : Int)] w fun e w' => e = .returned (.int .i64 0) ∧ ∃ v' L', Arena w' B p L' v' mb ∧ L'.map pn = cutP P m ∧ Below B w w' := by
  obtain ⟨q, y0, z0, K0, hq, hy, hk, hn0, hz, hid, hpar, hzk, hcut⟩ := cut_step hP h1 hm
  have hok := cut_ok hP (k := m + 1) (by omega)
  rw [← hL] at hok
  have hll : L.length = m + 1 := by
    have := congrArg List.length hL
    rw [List.length_map, cut_len (by omega)] at this
    exact this
  rw [← hL] at hy hz hcut
  rcases List.eq_nil_or_concat L with rfl | ⟨L0, z, rfl⟩
  · simp at hll
  rw [List.concat_eq_append] at h hL hok hll hy hz hcut
  have hl0 : L0.length = m := by simpa using hll
  have ez : pn z = z0 := by
    rw [List.getElem?_map, List.getElem?_append_right (by omega), hl0] at hz
    simpa using hz
  obtain ⟨y, hy1, ey⟩ : ∃ y, L0[q]? = some y ∧ pn y = y0 := by
    rw [List.getElem?_map, List.getElem?_append_left (by omega)] at hy
    obtain ⟨y, a, b⟩ := Option.map_eq_some_iff.1 hy
    exact ⟨y, a, b⟩
  have zid : z.id = m := by rw [← hid, ← ez]; rfl
  have zpar : z.par = q := by rw [← hpar, ← ez]; rfl
  have zkids : z.kids = [] := by rw [← hzk, ← ez]; rfl
  have ykids : y.kids = K0 ++ [z.id] := by rw [zid, ← hk, ← ey]; rfl
  have yfew : y.kids.length ≤ m + 1 := by
    have := hok.few (pn y) (List.mem_map.2 ⟨y, List.mem_append_left _ (List.mem_of_getElem? hy1), rfl⟩)
    rw [List.length_map, hll] at this
    exact this
  have kfew : K0.length ≤ 1000 := by rw [ykids, List.length_append] at yfew; omega
  have pz : placeOf (L0 ++ [z]) z.id = some (L0.length : Int) := by rw [zid, hl0]; exact pos_place hok (by omega)
  have pq : placeOf (L0 ++ [z]) z.par = some (q : Int) := by rw [zpar]; exact pos_place hok (by omega)
  have i6 : Is64 z.par := ⟨by rw [zpar]; simp [Lit.wf, IntKind.min, IntKind.max, IntKind.signed, IntKind.bits]; omega⟩
  rw [← zid]
  refine (dDelete_last L0 z y B p mb q v w K0 h pz i6 (by rw [zpar]; omega) pq (by omega) hy1 ykids (by rw [zid]; exact hn0) kfew zkids (by rw [zid]; omega)).mono ?_
  rintro e w' ⟨rfl, v', kv', hA, hT⟩
  refine ⟨rfl, v', _, hA, ?_, hT.below h.ge ?_⟩
  · rw [hcut]
    unfold detL
    rw [List.map_set, List.map_append, List.set_append_left _ _ (by rw [List.length_map]; omega), List.take_append_of_le_length (by rw [List.length_set, List.length_map]; omega), List.take_of_length_le (by rw [List.length_set, List.length_map]; omega), ← ey]
    rfl
  · have := (Array.getElem?_eq_some_iff.1 h.box).1
    have := h.at'.1
    omega
end Go.Proofs.Ytllimmmgjpnhkaa
