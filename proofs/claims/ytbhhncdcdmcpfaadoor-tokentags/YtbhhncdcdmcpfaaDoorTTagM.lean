/- TokenTags, plain: a tag with attributes. -/
import Derived.Test.YtbhhncdcdmcpfaaDoorTQ
set_option linter.unusedVariables false
namespace Go.Proofs.YtbhhncdcdmcpfaaDoor
open Go.RowKit M

theorem decB_none {attr : Bool} : ∀ {t : List UInt8}, (∀ c ∈ t, c ≠ 38) → decB attr t = t
  | [], _ => decB_nil attr
  | c :: r, h => by rw [decB_plain (h c (List.mem_cons_self ..)), decB_none (fun x hx => h x (List.mem_cons_of_mem _ hx))]
/-- an attribute as it stands in a tag: what is ahead of it, its name, its quote, its value -/
structure Pc where
  g : List UInt8
  n : List UInt8
  q : List UInt8
  v : List UInt8
def Pc.txt (p : Pc) : List UInt8 := p.g ++ (p.n ++ (61 :: (p.q ++ (p.v ++ p.q))))
/-- it is one that is read back -/
structure Pc.OK (p : Pc) : Prop where
  g1 : ∃ c r, p.g = c :: r ∧ blk c = true
  g2 : ∀ c ∈ p.g, stp [47] c = true
  n1 : ∃ c r, p.n = c :: r ∧ stp [47] c = false ∧ c ≠ 62 ∧ ∀ d ∈ r, (!stp [47, 62, 61] d) = true
  n2 : nmB p.n = p.n
  v1 : ∃ c r, p.v = c :: r
  v2 : ∀ c ∈ p.v, (!stp [62] c) = true ∧ c ≠ 34 ∧ c ≠ 39 ∧ c ≠ 38
  q1 : p.q = [34] ∨ p.q = [39] ∨ p.q = []
def txtL : List Pc → List UInt8
  | [] => []
  | p :: r => p.txt ++ txtL r
def atL (L : List Pc) : AL := L.map fun p => (p.n, p.v)
/-- what follows begins with a blank, or there is nothing -/
def Beh (r : List UInt8) : Prop := r = [] ∨ ∃ c s, r = c :: s ∧ blk c = true
theorem beh_txt {L : List Pc} {r : List UInt8} (hL : ∀ p ∈ L, p.OK) (hr : Beh r) : Beh (txtL L ++ r) := by
  cases L with
  | nil => exact hr
  | cons p m =>
    obtain ⟨c, s, hg, hc⟩ := (hL p (List.mem_cons_self ..)).g1
    exact Or.inr ⟨c, s ++ (p.n ++ (61 :: (p.q ++ (p.v ++ p.q)))) ++ txtL m ++ r, by
      show (p.txt ++ txtL m) ++ r = _
      unfold Pc.txt
      rw [hg]
      rfl, hc⟩
theorem spN_nil (p : UInt8 → Bool) : spN p [] = 0 := rfl
theorem stp_blk {sg : List UInt8} {c : UInt8} (h : blk c = true) : stp sg c = true := by unfold stp; rw [h]; rfl
theorem spE_at {p : UInt8 → Bool} {l : List UInt8} {k : Nat} {a b : List UInt8} (h : l.drop k = a ++ b) (ha : ∀ c ∈ a, p c = true) (hb : spN p b = 0) : spE p l k = k + a.length := by
  unfold spE
  rw [h, spN_app ha, hb]
  rfl
theorem drop_app {l a b : List UInt8} {k : Nat} (h : l.drop k = a ++ b) : l.drop (k + a.length) = b := by rw [← List.drop_drop, h, List.drop_left]
theorem sub_at {l a b : List UInt8} {k : Nat} (h : l.drop k = a ++ b) : sub l k (k + a.length) = a := by
  unfold sub
  rw [h, show k + a.length - k = a.length by omega, List.take_left]
theorem bAt_at {l b : List UInt8} {c : UInt8} {k : Nat} (h : l.drop k = c :: b) : bAt l k = c ∧ k < l.length := by
  have h1 : bAt (l.drop k) 0 = c := by rw [h]; rfl
  rw [bAt_drop, Nat.add_zero] at h1
  refine ⟨h1, ?_⟩
  have := congrArg List.length h
  rw [List.length_drop] at this
  simp at this
  omega
theorem val_is {l r : List UInt8} {p : Pc} {k : Nat} (h : p.OK) (hr : Beh r) (hd : l.drop k = (p.q ++ (p.v ++ p.q)) ++ r) : valB l k = (p.v, k + (p.q ++ (p.v ++ p.q)).length) := by
  have hdec : decB true p.v = p.v := decB_none (fun c hc => (h.v2 c hc).2.2.2)
  obtain ⟨v0, vr, hv⟩ := h.v1
  have quoted : ∀ x, p.q = [x] → (x = 34 ∨ x = 39) → valB l k = (p.v, k + (p.q ++ (p.v ++ p.q)).length) := by
    intro x hq hx
    rw [hq] at hd ⊢
    have hd0 : l.drop k = x :: (p.v ++ (x :: r)) := by rw [hd]; simp
    obtain ⟨hb, hk⟩ := bAt_at hd0
    have hd1 : l.drop (k + 1) = p.v ++ (x :: r) := by
      rw [← List.drop_drop, hd0]
      rfl
    have hE : spE (fun c => c != x) l (k + 1) = k + 1 + p.v.length := spE_at hd1 (fun c hc => by
      have := h.v2 c hc
      rcases hx with rfl | rfl
      · simpa using this.2.1
      · simpa using this.2.2.1) (spN_stop (by simp))
    rw [val_quo hk hb hx hE, sub_at hd1, hdec]
    have hlen := congrArg List.length hd1
    rw [List.length_drop] at hlen
    simp at hlen
    refine Prod.ext rfl ?_
    simp
    omega
  rcases h.q1 with hq | hq | hq
  · exact quoted 34 hq (Or.inl rfl)
  · exact quoted 39 hq (Or.inr rfl)
  · rw [hq] at hd ⊢
    have hd0 : l.drop k = p.v ++ r := by rw [hd]; simp
    have hv0 := h.v2 v0 (by rw [hv]; exact List.mem_cons_self ..)
    obtain ⟨hb, hk⟩ := bAt_at (l := l) (k := k) (c := v0) (b := vr ++ r) (by rw [hd0, hv]; rfl)
    have hE : spE (fun c => !stp [62] c) l k = k + p.v.length := spE_at hd0 (fun c hc => (h.v2 c hc).1) (by
      rcases hr with rfl | ⟨c, s, rfl, hc⟩
      · rfl
      · exact spN_stop (by rw [stp_blk hc]; rfl))
    rw [val_bare (by rw [hb]; exact fun ⟨_, e⟩ => e.elim hv0.2.1 hv0.2.2.1) hE, sub_at hd0, hdec]
    simp
theorem att_is {l r : List UInt8} {p : Pc} {k : Nat} (h : p.OK) (hr : Beh r) (hd : l.drop k = (p.n ++ (61 :: (p.q ++ (p.v ++ p.q)))) ++ r) :
    attN l k = p.n ∧ attB l k = (p.v, k + (p.n ++ (61 :: (p.q ++ (p.v ++ p.q)))).length) ∧ k < l.length ∧ bAt l k ≠ 62 := by
  obtain ⟨n0, nr, hn, hn0, hn62, hnr⟩ := h.n1
  have hd0 : l.drop k = p.n ++ (61 :: ((p.q ++ (p.v ++ p.q)) ++ r)) := by rw [hd]; simp
  obtain ⟨hb, hk⟩ := bAt_at (l := l) (k := k) (c := n0) (b := nr ++ (61 :: ((p.q ++ (p.v ++ p.q)) ++ r))) (by rw [hd0, hn]; rfl)
  have hd1 : l.drop (k + 1) = nr ++ (61 :: ((p.q ++ (p.v ++ p.q)) ++ r)) := by
    rw [← List.drop_drop, hd0, hn]
    rfl
  have hnl : p.n.length = nr.length + 1 := by rw [hn]; rfl
  have eE : attE l k = k + p.n.length := by
    unfold attE
    rw [spE_at hd1 hnr (spN_stop (by decide)), hnl]
    omega
  have hd2 : l.drop (k + p.n.length) = 61 :: ((p.q ++ (p.v ++ p.q)) ++ r) := drop_app hd0
  obtain ⟨hb2, hk2⟩ := bAt_at hd2
  have e2 : spE blk l (k + p.n.length) = k + p.n.length := spE_stop hk2 (by rw [hb2]; rfl)
  have hd3 : l.drop (k + p.n.length + 1) = (p.q ++ (p.v ++ p.q)) ++ r := by
    rw [← List.drop_drop, hd2]
    rfl
  have e3 : spE blk l (k + p.n.length + 1) = k + p.n.length + 1 := by
    obtain ⟨v0, vr, hv⟩ := h.v1
    have hv0 := h.v2 v0 (by rw [hv]; exact List.mem_cons_self ..)
    have hbv : blk v0 = false := by
      have := hv0.1
      unfold stp at this
      simp only [Bool.not_eq_true', Bool.or_eq_false_iff] at this
      exact this.1
    have : ∃ c b, l.drop (k + p.n.length + 1) = c :: b ∧ blk c = false := by
      rcases h.q1 with hq | hq | hq
      · exact ⟨34, _, by rw [hd3, hq]; rfl, by decide⟩
      · exact ⟨39, _, by rw [hd3, hq]; rfl, by decide⟩
      · exact ⟨v0, _, by rw [hd3, hq, hv]; rfl, hbv⟩
    obtain ⟨c, b, hcb, hc⟩ := this
    obtain ⟨hb5, hk5⟩ := bAt_at hcb
    exact spE_stop hk5 (by rw [hb5]; exact hc)
  refine ⟨?_, ?_, hk, by rw [hb]; exact hn62⟩
  · unfold attN
    rw [eE, sub_at hd0, h.n2]
  · unfold attB
    rw [eE, e2, if_pos ⟨hk2, hb2⟩, e3, val_is h hr hd3]
    refine Prod.ext rfl ?_
    simp
    omega
theorem tag_steps {l R : List UInt8} (hR : Beh R) : ∀ (L : List Pc) (k : Nat) (acc : AL), (∀ p ∈ L, p.OK) → (acc.map (·.1) ++ (L.map (·.n))).Nodup → l.drop k = txtL L ++ R →
    ∃ k', l.drop k' = R ∧ tagA l (btw l k) acc = tagA l (btw l k') (acc ++ atL L)
  | [], k, acc, hL, hn, hd => ⟨k, hd, by unfold atL; simp⟩
  | p :: m, k, acc, hL, hn, hd => by
    have hp := hL p (List.mem_cons_self ..)
    have hm : ∀ q ∈ m, q.OK := fun q hq => hL q (List.mem_cons_of_mem _ hq)
    have hd0 : l.drop k = p.g ++ ((p.n ++ (61 :: (p.q ++ (p.v ++ p.q)))) ++ (txtL m ++ R)) := by
      rw [hd]
      show (p.txt ++ txtL m) ++ R = _
      unfold Pc.txt
      simp
    obtain ⟨n0, nr, hn0, hs0, _, _⟩ := hp.n1
    have e1 : btw l k = k + p.g.length := spE_at hd0 hp.g2 (by
      rw [hn0]
      exact spN_stop hs0)
    have hd1 := drop_app hd0
    obtain ⟨a1, a2, a3, a4⟩ := att_is hp (beh_txt hm hR) hd1
    have hd2 := drop_app hd1
    have hnew : p.n ∉ acc.map (·.1) := by
      intro hc
      have := List.nodup_append.1 hn
      exact this.2.2 _ hc _ (by simp) rfl
    obtain ⟨k', h1, h2⟩ := tag_steps hR m (k + p.g.length + (p.n ++ (61 :: (p.q ++ (p.v ++ p.q)))).length) (acc ++ [(p.n, p.v)]) hm (by
      simp only [List.map_append, List.map_cons, List.map_nil, List.append_assoc] at hn ⊢
      exact hn) hd2
    refine ⟨k', h1, ?_⟩
    rw [e1, tagA_go ⟨a3, a4⟩, a1, a2, addA_new hnew, h2]
    unfold atL
    simp
end Go.Proofs.YtbhhncdcdmcpfaaDoor
