/- TokenTags, plain: the whole tag. -/
import Derived.Test.YtbhhncdcdmcpfaaDoorTTagM
set_option linter.unusedVariables false
namespace Go.Proofs.YtbhhncdcdmcpfaaDoor
open Go.RowKit M

/-- a tag's name -/
structure TnOK (n : List UInt8) : Prop where
  hd : ∃ c r, n = c :: r ∧ ltrN c.toNat = true
  all : ∀ c ∈ n, (!stp [47, 62] c) = true
  nm : nmB n = n
theorem beh_R {R : List UInt8} (h : R = [] ∨ R = [32, 62, 98]) : Beh R := by
  rcases h with rfl | rfl
  · exact Or.inl rfl
  · exact Or.inr ⟨32, _, rfl, by decide⟩
theorem tag_name {l n x : List UInt8} {k : Nat} (h : TnOK n) (hx : Beh x) (hd : l.drop k = n ++ x) : tagE l k = k + n.length ∧ tagN l k = n := by
  have e : tagE l k = k + n.length := spE_at hd h.all (by
    rcases hx with rfl | ⟨c, s, rfl, hc⟩
    · rfl
    · exact spN_stop (by rw [stp_blk hc]; rfl))
  refine ⟨e, ?_⟩
  unfold tagN
  rw [e, sub_at hd, h.nm]
theorem tag_done {l n : List UInt8} {L : List Pc} {k : Nat} (h : TnOK n) (hL : ∀ p ∈ L, p.OK) (hn : (L.map (·.n)).Nodup) (hd : l.drop k = n ++ (txtL L ++ [32, 62, 98])) : tagB l k = (atL L, l.length - 2) := by
  have hR : Beh [32, 62, 98] := beh_R (Or.inr rfl)
  obtain ⟨e1, _⟩ := tag_name h (beh_txt hL hR) hd
  obtain ⟨k', h1, h2⟩ := tag_steps (l := l) hR L (k + n.length) [] hL (by simpa using hn) (drop_app hd)
  unfold tagB
  rw [e1, h2, List.nil_append]
  obtain ⟨b0, hk0⟩ := bAt_at h1
  have hlen := congrArg List.length h1
  rw [List.length_drop] at hlen
  simp at hlen
  have e2 : btw l k' = k' + 1 := spE_at (a := [32]) (b := [62, 98]) h1 (by decide) (spN_stop (by decide))
  have h3 : l.drop (k' + 1) = [62, 98] := by rw [← List.drop_drop, h1]; rfl
  obtain ⟨b1, hk1⟩ := bAt_at h3
  rw [e2, tagA_stop (by rw [b1]; exact fun hh => hh.2 rfl)]
  refine Prod.ext rfl ?_
  simp
  omega
theorem tag_open {l n : List UInt8} {L : List Pc} {k : Nat} (h : TnOK n) (hL : ∀ p ∈ L, p.OK) (hn : (L.map (·.n)).Nodup) (hd : l.drop k = n ++ (txtL L ++ [])) (hk : k ≤ l.length) : (tagB l k).2 = l.length := by
  have hR : Beh [] := beh_R (Or.inl rfl)
  obtain ⟨e1, _⟩ := tag_name h (beh_txt hL hR) hd
  obtain ⟨k', h1, h2⟩ := tag_steps (l := l) hR L (k + n.length) [] hL (by simpa using hn) (drop_app hd)
  have hb := tagB_le hk
  have hk2 : l.length ≤ k' := by
    have := congrArg List.length h1
    rw [List.length_drop] at this
    simp at this
    omega
  have e2 : btw l k' = k' := spE_end hk2
  have e3 : tagB l k = (atL L, k') := by
    unfold tagB
    rw [e1, h2, List.nil_append, e2, tagA_stop (fun hh => by omega)]
  rw [e3] at hb ⊢
  simp only at hb ⊢
  omega
/-- names in their order stay so -/
theorem srt_same {acc : AL} (h : (acc.map (·.1)).Pairwise (fun x y => x ≤ y)) (hn : (acc.map (·.1)).Nodup) : srtA acc = acc := by
  have e : (acc.map (·.1)).mergeSort (fun x y => decide (x ≤ y)) = acc.map (·.1) := by
    apply List.mergeSort_of_pairwise
    exact h.imp (fun hh => decide_eq_true hh)
  unfold srtA
  rw [e, List.map_map]
  have : ∀ p ∈ acc, ((fun n => (n, lookA acc n)) ∘ (·.1)) p = p := by
    intro p hp
    have hm := lookA_mem (acc := acc) (x := p.1) (List.mem_map.2 ⟨p, hp, rfl⟩)
    have hu : ∀ {acc : AL}, (acc.map (·.1)).Nodup → ∀ {x a b : List UInt8}, (x, a) ∈ acc → (x, b) ∈ acc → a = b := by
      intro acc
      induction acc with
      | nil => intro _ x a b h1; cases h1
      | cons q r ih =>
        intro hn x a b h1 h2
        rw [List.map_cons, List.nodup_cons] at hn
        rcases List.mem_cons.1 h1 with h1 | h1 <;> rcases List.mem_cons.1 h2 with h2 | h2
        · rw [← h1] at h2
          exact (Prod.ext_iff.1 h2).2.symm
        · exact absurd (List.mem_map.2 ⟨(x, b), h2, by rw [← h1]⟩) hn.1
        · exact absurd (List.mem_map.2 ⟨(x, a), h1, by rw [← h2]⟩) hn.1
        · exact ih hn.2 h1 h2
    exact Prod.ext rfl (hu hn hm hp)
  exact (List.map_congr_left this).trans (List.map_id _)
theorem nx_open {l : List UInt8} (h0 : bAt l 0 = 60) {t : Tk} {E : Nat} {ok : Bool} (h : NxR l 0 [] t E ok) : OpR l 0 t E ok := by
  unfold NxR at h
  rw [if_pos rfl] at h
  unfold NxN at h
  rw [if_pos h0] at h
  exact h
theorem start_R {n x : List UInt8} (h : TnOK n) {t : Tk} {E : Nat} {ok : Bool} (hR : NxR ([60] ++ (n ++ x)) 0 [] t E ok) : TagR ([60] ++ (n ++ x)) 1 1 t E ok := by
  have ho := nx_open (by rfl) hR
  obtain ⟨c, r, rfl, hc⟩ := h.hd
  unfold OpR at ho
  have l1 : ltrAt ([60] ++ (c :: r ++ x)) (0 + 1) = true := by
    unfold ltrAt
    rw [show bAt ([60] ++ (c :: r ++ x)) (0 + 1) = c from rfl, hc, Bool.and_true]
    exact decide_eq_true (by simp)
  rw [if_pos l1] at ho
  exact ho
theorem end_R {n x : List UInt8} (h : TnOK n) {t : Tk} {E : Nat} {ok : Bool} (hR : NxR ([60, 47] ++ (n ++ x)) 0 [] t E ok) : TagR ([60, 47] ++ (n ++ x)) 2 2 t E ok := by
  have ho := nx_open (by rfl) hR
  obtain ⟨c, r, rfl, hc⟩ := h.hd
  unfold OpR at ho
  have l1 : ltrAt ([60, 47] ++ (c :: r ++ x)) (0 + 1) = false := by
    unfold ltrAt
    rw [show bAt ([60, 47] ++ (c :: r ++ x)) (0 + 1) = 47 from rfl]
    simp [ltrN]
  have l2 : ltrAt ([60, 47] ++ (c :: r ++ x)) (0 + 2) = true := by
    unfold ltrAt
    rw [show bAt ([60, 47] ++ (c :: r ++ x)) (0 + 2) = c from rfl, hc, Bool.and_true]
    exact decide_eq_true (by simp)
  rw [if_neg (by rw [l1]; decide), if_pos (by rw [l2]; rfl)] at ho
  exact ho
/-- a tag of such a name with such attributes is that token -/
theorem tags_yes {n : List UInt8} {L : List Pc} (b : Bool) (h : TnOK n) (hL : ∀ p ∈ L, p.OK) (hn : (L.map (·.n)).Nodup) (hs : srtA (atL L) = atL L) {t : Tk} {E : Nat} {ok : Bool}
    (hR : NxR ((if b = true then [60, 47] else [60]) ++ (n ++ (txtL L ++ [32, 62, 98]))) 0 [] t E ok) :
    t.Is (if b = true then 2 else 1) n [] (if b = true then [] else atL L) false ∧ E = ((if b = true then [60, 47] else [60]) ++ (n ++ (txtL L ++ [32, 62, 98])) : List UInt8).length - 1 ∧ ok = true := by
  cases b
  · rw [if_neg (by decide)] at hR
    have hT := start_R h hR
    have e := tag_done (l := [60] ++ (n ++ (txtL L ++ [32, 62, 98]))) (k := 1) h hL hn rfl
    have eN := (tag_name (l := [60] ++ (n ++ (txtL L ++ [32, 62, 98]))) (k := 1) h (beh_txt hL (beh_R (Or.inr rfl))) rfl).2
    rcases hT.is with ⟨h1, _⟩ | ⟨_, h2, h3, h4⟩
    · rw [e] at h1
      simp at h1
      omega
    · rw [e, eN, if_pos rfl, hs] at h2
      rw [e] at h3
      refine ⟨h2, ?_, h4⟩
      rw [h3, if_neg (by decide)]
      simp
      omega
  · rw [if_pos rfl] at hR
    have hT := end_R h hR
    have e := tag_done (l := [60, 47] ++ (n ++ (txtL L ++ [32, 62, 98]))) (k := 2) h hL hn rfl
    have eN := (tag_name (l := [60, 47] ++ (n ++ (txtL L ++ [32, 62, 98]))) (k := 2) h (beh_txt hL (beh_R (Or.inr rfl))) rfl).2
    rcases hT.is with ⟨h1, _⟩ | ⟨_, h2, h3, h4⟩
    · rw [e] at h1
      simp at h1
      omega
    · rw [e, eN, if_neg (by decide)] at h2
      rw [e] at h3
      refine ⟨h2, ?_, h4⟩
      rw [h3, if_pos rfl]
      simp
/-- without its end it says nothing -/
theorem tags_no {n : List UInt8} {L : List Pc} (b : Bool) (h : TnOK n) (hL : ∀ p ∈ L, p.OK) (hn : (L.map (·.n)).Nodup) {t : Tk} {E : Nat} {ok : Bool}
    (hR : NxR ((if b = true then [60, 47] else [60]) ++ (n ++ (txtL L ++ []))) 0 [] t E ok) : t.Is 0 [] [] [] false ∧ E = ((if b = true then [60, 47] else [60]) ++ (n ++ (txtL L ++ [])) : List UInt8).length ∧ ok = false := by
  cases b
  · rw [if_neg (by decide)] at hR ⊢
    have e := tag_open (l := [60] ++ (n ++ (txtL L ++ []))) (k := 1) h hL hn rfl (by simp)
    rcases (start_R h hR).is with ⟨_, h2, h3, h4⟩ | ⟨h1, _⟩
    · exact ⟨h2, h3, h4⟩
    · omega
  · rw [if_pos rfl] at hR ⊢
    have e := tag_open (l := [60, 47] ++ (n ++ (txtL L ++ []))) (k := 2) h hL hn rfl (by simp)
    rcases (end_R h hR).is with ⟨_, h2, h3, h4⟩ | ⟨h1, _⟩
    · exact ⟨h2, h3, h4⟩
    · omega
end Go.Proofs.YtbhhncdcdmcpfaaDoor
