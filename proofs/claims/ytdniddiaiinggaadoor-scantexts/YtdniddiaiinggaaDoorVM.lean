/- The document's own Valid and Clean, step by step: plain mathematics. -/
import Derived.Test.YtdniddiaiinggaaDoorVN
namespace Go.Proofs.YtdniddiaiinggaaDoor.U

theorem drop_en (l : List UInt8) (R : Nat) (m : List UInt8) (e : l = en R ++ m) : l.drop (en R).length = m := by rw [e, List.drop_left]

theorem valid_go (l : List UInt8) (R K : Nat) (hK : 0 < K) (h : NextIs l R K) : V l = V (l.drop K) ∧ K ≤ l.length := by
  rcases h with ⟨_, _, e⟩ | ⟨m, hR, el, e⟩
  · omega
  · rw [e, drop_en l R m el]
    have hl := congrArg List.length el
    rw [List.length_append] at hl
    exact ⟨by rw [el, V_en R hR], by omega⟩
theorem valid_stop (l : List UInt8) (R : Nat) (h : NextIs l R 0) : V l = false := by
  rcases h with ⟨hb, _, _⟩ | ⟨m, hR, el, e⟩
  · exact V_bad l hb
  · have := en_len R hR
    omega

/-- what does not begin with a byte 10 is cleaned alike behind a byte 13 -/
theorem C_cr (l : List UInt8) (h : l = [] ∨ g l 0 ≠ 10) : C true l = C false l := by
  by_cases hl : l = []
  · rw [hl]; rfl
  have h1 : (dc l).1 ≠ 10 := by
    intro e
    rcases parts l hl with ⟨r, m, hr, el⟩ | hb
    · rw [el, dc_en r hr] at e
      have e2 : r = 10 := e
      have : g l 0 = r := by rw [el]; exact g_en1 r hr m (by omega)
      rcases h with h | h
      · exact hl h
      · omega
    · rw [hb.dc] at e
      have e2 : 65533 = 10 := e
      omega
  rw [C_step true l hl, C_step false l hl, if_neg (fun h => h1 h.2), if_neg (fun h => by cases h.1)]

/-- a byte at which no rune begins -/
theorem clean_bad (l : List UInt8) (R : Nat) (h : NextIs l R 0) : C false l = [239, 191, 189] ++ C false (l.drop 1) ∧ 1 ≤ l.length := by
  rcases h with ⟨hb, _, _⟩ | ⟨m, hR, el, e⟩
  · match l, hb with
    | b :: t, hb => exact ⟨C_bad false b t hb, by rw [List.length_cons]; omega⟩
    | [], hb => exact absurd rfl hb.ne
  · have := en_len R hR
    omega
theorem head_en (l : List UInt8) (R K : Nat) (hK : 0 < K) (h : NextIs l R K) (hlow : g l 0 < 128) : R = g l 0 ∧ K = 1 := by
  rcases h with ⟨_, _, e⟩ | ⟨m, hR, el, e⟩
  · omega
  · by_cases h1 : R < 128
    · have : g l 0 = R := by rw [el]; exact g_en1 R hR m h1
      rw [en1 R hR h1] at e
      exact ⟨this.symm, e⟩
    · exfalso
      have hh := en_high R hR (by omega)
      have hl := en_len R hR
      obtain ⟨b, t, hbt⟩ : ∃ b t, en R = b :: t := by
        cases hc : en R with
        | nil => rw [hc, List.length_nil] at hl; omega
        | cons b t => exact ⟨b, t, rfl⟩
      have h2 := hh b (by rw [hbt]; exact List.mem_cons_self)
      have h3 : g l 0 = b.toNat := by rw [el, hbt]; rfl
      omega
theorem head_low (R : Nat) (hR : IsR R) (m : List UInt8) (h : R < 128) : g (en R ++ m) 0 = R := g_en1 R hR m h
/-- a byte 0 -/
theorem clean_zero (l : List UInt8) (R K : Nat) (hK : 0 < K) (h : NextIs l R K) (h0 : g l 0 = 0) : C false l = [239, 191, 189] ++ C false (l.drop 1) ∧ 1 ≤ l.length := by
  obtain ⟨e1, e2⟩ := head_en l R K hK h (by omega)
  rcases h with ⟨_, _, e⟩ | ⟨m, hR, el, e⟩
  · omega
  · have hd := drop_en l R m el
    rw [← e, e2] at hd
    have hl := congrArg List.length el
    rw [List.length_append] at hl
    refine ⟨?_, by omega⟩
    have hz : cz R = 65533 := by unfold cz; rw [if_pos (by omega)]
    rw [hd, el, C_en false R hR, if_neg (fun h => by cases h.1), decide_eq_false (by omega), en_bad _ hz]
/-- a byte 13 -/
theorem clean_cr (l : List UInt8) (R K : Nat) (hK : 0 < K) (h : NextIs l R K) (h0 : g l 0 = 13) : C false l = [10] ++ C true (l.drop 1) ∧ 1 ≤ l.length ∧ K = 1 := by
  obtain ⟨e1, e2⟩ := head_en l R K hK h (by omega)
  rcases h with ⟨_, _, e⟩ | ⟨m, hR, el, e⟩
  · omega
  · have hd := drop_en l R m el
    rw [← e, e2] at hd
    have hl := congrArg List.length el
    rw [List.length_append] at hl
    refine ⟨?_, by omega, e2⟩
    have hz : cz R = 10 := by unfold cz; rw [if_neg (by omega), if_pos (by omega)]
    rw [hd, el, C_en false R hR, if_neg (fun h => by cases h.1), decide_eq_true (by omega), en1 _ (cz_is R hR).1 (by omega), hz]
    rfl
theorem clean_cr1 (l : List UInt8) (R K : Nat) (hK : 0 < K) (h : NextIs l R K) (h0 : g l 0 = 13) (h1 : ¬ 1 < l.length ∨ g l 1 ≠ 10) : C false l = [10] ++ C false (l.drop 1) ∧ 1 ≤ l.length ∧ K = 1 := by
  obtain ⟨a, b, c⟩ := clean_cr l R K hK h h0
  refine ⟨?_, b, c⟩
  rw [a, C_cr]
  by_cases hl : 1 < l.length
  · right
    rw [g_drop]
    rcases h1 with h1 | h1
    · omega
    · exact h1
  · left
    exact List.drop_eq_nil_of_le (by omega)
theorem clean_cr2 (l : List UInt8) (R K : Nat) (hK : 0 < K) (h : NextIs l R K) (h0 : g l 0 = 13) (hl : 1 < l.length) (h1 : g l 1 = 10) : C false l = [10] ++ C false (l.drop 2) ∧ 2 ≤ l.length := by
  obtain ⟨a, b, c⟩ := clean_cr l R K hK h h0
  refine ⟨?_, by omega⟩
  have hg : g (l.drop 1) 0 = 10 := by rw [g_drop]; exact h1
  have hne : l.drop 1 ≠ [] := by
    intro e
    have := congrArg List.length e
    rw [List.length_drop, List.length_nil] at this
    omega
  rw [a]
  congr 1
  rcases parts (l.drop 1) hne with ⟨r, m, hr, el⟩ | hb
  · have hr10 : r = 10 := by
      have h2 := head_en (l.drop 1) r (en r).length (by have := en_len r hr; omega) (.inr ⟨m, hr, el, rfl⟩) (by omega)
      omega
    have hd := drop_en (l.drop 1) r m el
    have h3 : (en r).length = 1 := by rw [en1 r hr (by omega)]; rfl
    rw [h3, List.drop_drop] at hd
    rw [hd, el, C_en true r hr, if_pos ⟨rfl, hr10⟩, decide_eq_false (by omega)]
    rfl
  · have := hb.hi
    omega
/-- any other rune -/
theorem clean_other (l : List UInt8) (R K : Nat) (hK : 0 < K) (h : NextIs l R K) (h0 : g l 0 ≠ 0) (h13 : g l 0 ≠ 13) : C false l = l.take K ++ C false (l.drop K) ∧ K ≤ l.length := by
  rcases h with ⟨_, _, e⟩ | ⟨m, hR, el, e⟩
  · omega
  · have hz : R ≠ 0 := fun hc => by have := g_en1 R hR m (by omega); rw [← el] at this; omega
    have h13' : R ≠ 13 := fun hc => by have := g_en1 R hR m (by omega); rw [← el] at this; omega
    have hl := congrArg List.length el
    rw [List.length_append] at hl
    refine ⟨?_, by omega⟩
    have hc : cz R = R := by unfold cz; rw [if_neg hz, if_neg h13']
    rw [e, drop_en l R m el, el, List.take_left, C_en false R hR, if_neg (fun h => by cases h.1), decide_eq_false h13', hc]
end Go.Proofs.YtdniddiaiinggaaDoor.U
