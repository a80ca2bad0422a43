/- Names of signs as lists of bytes, plain mathematics: the table of all names, what a text is among them, the longest one at a place; and that the document's own list says the same. -/
import GoSem.Core.Utf8
import Derived.KernelRfl
set_option linter.unusedVariables false
set_option linter.unusedSimpArgs false
namespace Go.Proofs.YtdniddiaiinggaaDoor.M

def Tb : List (List UInt8 × Int × Int × Bool) := [([102, 106, 108, 105, 103], 102, 106, false), ([103, 101], 8805, 0, false), ([108, 101], 8804, 0, false), ([110, 101], 8800, 0, false), ([110, 111, 116, 110, 105], 8716, 0, false), ([110, 111, 116, 105, 110], 8713, 0, false), ([112, 105], 960, 0, false), ([98, 101, 116, 97], 946, 0, false), ([97, 108, 112, 104, 97], 945, 0, false), ([105, 110, 102, 105, 110], 8734, 0, false), ([101, 117, 114, 111], 8364, 0, false), ([114, 100, 113, 117, 111], 8221, 0, false), ([108, 100, 113, 117, 111], 8220, 0, false), ([114, 115, 113, 117, 111], 8217, 0, false), ([108, 115, 113, 117, 111], 8216, 0, false), ([109, 100, 97, 115, 104], 8212, 0, false), ([110, 100, 97, 115, 104], 8211, 0, false), ([98, 117, 108, 108], 8226, 0, false), ([104, 101, 108, 108, 105, 112], 8230, 0, false), ([116, 114, 97, 100, 101], 8482, 0, false), ([97, 112, 111, 115], 39, 0, false), ([101, 97, 99, 117, 116, 101], 233, 0, true), ([101, 103, 114, 97, 118, 101], 232, 0, true), ([97, 97, 99, 117, 116, 101], 225, 0, true), ([115, 122, 108, 105, 103], 223, 0, true), ([117, 117, 109, 108], 252, 0, true), ([85, 117, 109, 108], 220, 0, true), ([111, 117, 109, 108], 246, 0, true), ([79, 117, 109, 108], 214, 0, true), ([97, 117, 109, 108], 228, 0, true), ([65, 117, 109, 108], 196, 0, true), ([100, 105, 118, 105, 100, 101], 247, 0, true), ([116, 105, 109, 101, 115], 215, 0, true), ([102, 114, 97, 99, 49, 50], 189, 0, true), ([109, 105, 100, 100, 111, 116], 183, 0, true), ([112, 97, 114, 97], 182, 0, true), ([112, 108, 117, 115, 109, 110], 177, 0, true), ([100, 101, 103], 176, 0, true), ([114, 101, 103], 174, 0, true), ([110, 111, 116], 172, 0, true), ([99, 111, 112, 121], 169, 0, true), ([115, 101, 99, 116], 167, 0, true), ([121, 101, 110], 165, 0, true), ([112, 111, 117, 110, 100], 163, 0, true), ([99, 101, 110, 116], 162, 0, true), ([110, 98, 115, 112], 160, 0, true), ([113, 117, 111, 116], 34, 0, true), ([71, 84], 62, 0, true), ([103, 116], 62, 0, true), ([76, 84], 60, 0, true), ([108, 116], 60, 0, true), ([65, 77, 80], 38, 0, true), ([97, 109, 112], 38, 0, true)]
def Rf : List (List UInt8 × Int × Bool) := [([97, 109, 112], 38, true), ([108, 116], 60, true), ([103, 116], 62, true), ([113, 117, 111, 116], 34, true), ([65, 77, 80], 38, true), ([76, 84], 60, true), ([71, 84], 62, true), ([110, 98, 115, 112], 160, true), ([99, 101, 110, 116], 162, true), ([112, 111, 117, 110, 100], 163, true), ([121, 101, 110], 165, true), ([115, 101, 99, 116], 167, true), ([99, 111, 112, 121], 169, true), ([110, 111, 116], 172, true), ([114, 101, 103], 174, true), ([100, 101, 103], 176, true), ([112, 108, 117, 115, 109, 110], 177, true), ([112, 97, 114, 97], 182, true), ([109, 105, 100, 100, 111, 116], 183, true), ([102, 114, 97, 99, 49, 50], 189, true), ([65, 117, 109, 108], 196, true), ([116, 105, 109, 101, 115], 215, true), ([79, 117, 109, 108], 214, true), ([85, 117, 109, 108], 220, true), ([115, 122, 108, 105, 103], 223, true), ([97, 97, 99, 117, 116, 101], 225, true), ([97, 117, 109, 108], 228, true), ([101, 103, 114, 97, 118, 101], 232, true), ([101, 97, 99, 117, 116, 101], 233, true), ([111, 117, 109, 108], 246, true), ([100, 105, 118, 105, 100, 101], 247, true), ([117, 117, 109, 108], 252, true), ([97, 112, 111, 115], 39, false), ([116, 114, 97, 100, 101], 8482, false), ([104, 101, 108, 108, 105, 112], 8230, false), ([109, 100, 97, 115, 104], 8212, false), ([110, 100, 97, 115, 104], 8211, false), ([108, 115, 113, 117, 111], 8216, false), ([114, 115, 113, 117, 111], 8217, false), ([108, 100, 113, 117, 111], 8220, false), ([114, 100, 113, 117, 111], 8221, false), ([98, 117, 108, 108], 8226, false), ([101, 117, 114, 111], 8364, false), ([97, 108, 112, 104, 97], 945, false), ([98, 101, 116, 97], 946, false), ([112, 105], 960, false), ([105, 110, 102, 105, 110], 8734, false), ([110, 111, 116, 105, 110], 8713, false), ([110, 111, 116, 110, 105], 8716, false), ([110, 101], 8800, false), ([108, 101], 8804, false), ([103, 101], 8805, false)]
def Cd : List Int := [8364, 129, 8218, 402, 8222, 8230, 8224, 8225, 710, 8240, 352, 8249, 338, 141, 381, 143, 144, 8216, 8217, 8220, 8221, 8226, 8211, 8212, 732, 8482, 353, 8250, 339, 157, 382, 376]
/-- the bytes of a rune -/
def en (r : Int) : List UInt8 := (Utf8.encode r).data.toList
def txt (a b : Int) : List UInt8 := if b = 0 then en a else en a ++ en b
def ends (l : List UInt8) : Bool := decide (l.getLast? = some 59)
def word (l : List UInt8) : List UInt8 := if ends l = true then l.dropLast else l
def look (w : List UInt8) : Option (Int × Int × Bool) := Tb.lookup w
/-- what a text is among all names -/
def amongB (l : List UInt8) : List UInt8 × Bool :=
  match look (word l) with
  | none => ([], false)
  | some (a, b, c) => if (ends l || c) = true then (txt a b, true) else ([], false)
/-- what the document's own list says of a text -/
def refB (l : List UInt8) : List UInt8 × Bool :=
  if l = [102, 106, 108, 105, 103, 59] then ([102, 106], true)
  else match Rf.find? (fun e => decide (l = e.1 ++ [59]) || (decide (l = e.1) && e.2.2)) with
    | some e => (en e.2.1, true)
    | none => ([], false)
/-- the longest beginning of t, of at most n bytes, that f finds -/
def longG (f : List UInt8 → List UInt8 × Bool) (t : List UInt8) : Nat → Nat × List UInt8
  | 0 => (0, [])
  | n + 1 => if (f (t.take (n + 1))).2 = true then (n + 1, (f (t.take (n + 1))).1) else longG f t n
def longB (s : List UInt8) (at' : Nat) : Nat × List UInt8 := longG amongB (s.drop at') (min 7 (s.length - at'))

/-- each name of the document's list stands in the table, with the same signs; and the other way round -/
theorem tab1 : Rf.all (fun e => Tb.lookup e.1 == some (e.2.1, 0, e.2.2)) = true := by kernel_rfl
theorem tab2 : Tb.all (fun e => (decide (e = ([102, 106, 108, 105, 103], 102, 106, false))) || (decide (e.2.2.1 = 0) && Rf.lookup e.1 == some (e.2.1, e.2.2.2))) = true := by kernel_rfl
theorem tab3 : Tb.all (fun e => e.1.all (fun b => decide (b ≠ 59)) && decide (1 ≤ e.1.length) && decide (e.1.length ≤ 6)) = true := by kernel_rfl
theorem tab4 : Rf.all (fun e => e.1.all (fun b => decide (b ≠ 59)) && decide (1 ≤ e.1.length) && decide (e.1.length ≤ 6)) = true := by kernel_rfl

theorem mem_of_lookup {α β : Type} [BEq α] [LawfulBEq α] {l : List (α × β)} {k : α} {v : β} (h : l.lookup k = some v) : (k, v) ∈ l := by
  induction l with
  | nil => simp at h
  | cons e r ih =>
    obtain ⟨a, b⟩ := e
    by_cases hk : k == a
    · rw [List.lookup_cons, hk] at h
      simp only at h
      rw [Option.some.inj h, eq_of_beq hk]
      exact List.mem_cons_self
    · rw [List.lookup_cons, Bool.eq_false_iff.2 hk] at h
      exact List.mem_cons_of_mem _ (ih h)
theorem look_ok {w : List UInt8} {a b : Int} {c : Bool} (h : look w = some (a, b, c)) : (w = [102, 106, 108, 105, 103] ∧ a = 102 ∧ b = 106 ∧ c = false) ∨ (b = 0 ∧ Rf.lookup w = some (a, c)) := by
  have h1 := List.all_eq_true.1 tab2 _ (mem_of_lookup h)
  simp only [Bool.or_eq_true, decide_eq_true_eq, Bool.and_eq_true, beq_iff_eq, Prod.mk.injEq] at h1
  exact h1
theorem look_mem {w : List UInt8} {a b : Int} {c : Bool} (h : look w = some (a, b, c)) : (∀ x ∈ w, x ≠ 59) ∧ 1 ≤ w.length ∧ w.length ≤ 6 := by
  have h1 := List.all_eq_true.1 tab3 _ (mem_of_lookup h)
  simp only [Bool.and_eq_true, decide_eq_true_eq, List.all_eq_true] at h1
  exact ⟨h1.1.1, h1.1.2, h1.2⟩
theorem ref_look {w : List UInt8} {a : Int} {c : Bool} (h : (w, a, c) ∈ Rf) : look w = some (a, 0, c) := by
  have h1 := List.all_eq_true.1 tab1 _ h
  exact eq_of_beq h1
theorem ref_mem {w : List UInt8} {a : Int} {c : Bool} (h : (w, a, c) ∈ Rf) : (∀ x ∈ w, x ≠ 59) ∧ 1 ≤ w.length ∧ w.length ≤ 6 := look_mem (ref_look h)

theorem ends_add (w : List UInt8) : ends (w ++ [59]) = true := by simp [ends]
theorem word_add (w : List UInt8) : word (w ++ [59]) = w := by rw [word, if_pos (ends_add w)]; simp
theorem ends_eq {l : List UInt8} (h : ends l = true) : l = word l ++ [59] := by
  unfold ends at h
  have h1 := of_decide_eq_true h
  rw [word, if_pos (by unfold ends; exact h)]
  obtain ⟨x, rfl⟩ := List.getLast?_eq_some_iff.1 h1
  simp
theorem word_no {l : List UInt8} (h : ends l = false) : word l = l := by rw [word, h]; rfl
theorem no_end {w : List UInt8} (h : ∀ x ∈ w, x ≠ 59) : ends w = false := by
  unfold ends
  apply decide_eq_false
  intro e
  exact h 59 (List.mem_of_getLast? e) rfl

theorem among_none {l : List UInt8} (h : look (word l) = none) : amongB l = ([], false) := by unfold amongB; rw [h]
theorem among_some {l : List UInt8} {a b : Int} {c : Bool} (h : look (word l) = some (a, b, c)) (hc : (ends l || c) = true) : amongB l = (txt a b, true) := by unfold amongB; rw [h]; simp only [hc]; rfl
theorem among_not {l : List UInt8} {a b : Int} {c : Bool} (h : look (word l) = some (a, b, c)) (hc : (ends l || c) = false) : amongB l = ([], false) := by unfold amongB; rw [h]; simp only [hc]; rfl

theorem en_fj : txt 102 106 = [102, 106] := by kernel_rfl

/-- one of the document's list is the text's: the text's word is its name -/
theorem hit_word {l : List UInt8} {e : List UInt8 × Int × Bool} (he : e ∈ Rf) (h : (decide (l = e.1 ++ [59]) || (decide (l = e.1) && e.2.2)) = true) : word l = e.1 ∧ (ends l || e.2.2) = true := by
  obtain ⟨w, a, c⟩ := e
  have hm := ref_mem he
  simp only [Bool.or_eq_true, Bool.and_eq_true, decide_eq_true_eq] at h
  rcases h with rfl | ⟨rfl, rfl⟩
  · exact ⟨word_add w, by rw [ends_add]; rfl⟩
  · exact ⟨word_no (no_end hm.1), by simp⟩
theorem refB_among (l : List UInt8) : refB l = amongB l := by
  unfold refB
  by_cases hf : l = [102, 106, 108, 105, 103, 59]
  · rw [if_pos hf, hf]
    kernel_rfl
  rw [if_neg hf]
  cases h : Rf.find? (fun e => decide (l = e.1 ++ [59]) || (decide (l = e.1) && e.2.2)) with
  | some e =>
    obtain ⟨w, a, c⟩ := e
    have hm := List.mem_of_find?_eq_some h
    have hp := List.find?_some h
    obtain ⟨h1, h2⟩ := hit_word hm hp
    have hl := ref_look hm
    simp only at h1 h2 ⊢
    rw [among_some (by rw [h1]; exact hl) h2]
    rfl
  | none =>
    simp only
    have hn := List.find?_eq_none.1 h
    cases hk : look (word l) with
    | none => rw [among_none hk]
    | some v =>
      obtain ⟨a, b, c⟩ := v
      rcases look_ok hk with ⟨hw, rfl, rfl, rfl⟩ | ⟨rfl, hr⟩
      · cases he : ends l with
        | true => exact absurd (by rw [ends_eq he, hw]; rfl) hf
        | false => rw [among_not hk (by rw [he]; rfl)]
      · have hm := mem_of_lookup hr
        have := hn _ hm
        simp only [Bool.or_eq_true, Bool.and_eq_true, decide_eq_true_eq, not_or, not_and, Bool.not_eq_true] at this
        cases he : ends l with
        | true => exact absurd (ends_eq he) this.1
        | false => rw [among_not hk (by rw [he, this.2 (word_no he).symm]; rfl)]

theorem among_len {l : List UInt8} (h : (amongB l).2 = true) : l.length ≤ 7 ∧ ∀ x ∈ l.dropLast, x ≠ 59 := by
  unfold amongB at h
  cases hk : look (word l) with
  | none => rw [hk] at h; cases h
  | some v =>
    obtain ⟨a, b, c⟩ := v
    have hm := look_mem hk
    cases he : ends l with
    | true =>
      have e1 := ends_eq he
      have e2 : l.dropLast = word l := by conv => lhs; rw [e1]
                                          simp
      rw [e2]
      refine ⟨?_, hm.1⟩
      rw [e1, List.length_append]
      simp only [List.length_cons, List.length_nil]
      omega
    | false =>
      rw [word_no he] at hm
      exact ⟨by omega, fun x hx => hm.1 x (List.dropLast_subset _ hx)⟩

theorem longG_ext {f g : List UInt8 → List UInt8 × Bool} (h : ∀ l, f l = g l) (t : List UInt8) : ∀ n, longG f t n = longG g t n
  | 0 => rfl
  | n + 1 => by rw [longG, longG, h, longG_ext h t n]
theorem longG_far (t : List UInt8) (h : 8 ≤ t.length) : longG amongB t 8 = longG amongB t 7 := by
  rw [longG]
  rw [if_neg]
  intro hh
  have := (among_len hh).1
  rw [List.length_take] at this
  omega
theorem long_ref (s : List UInt8) (at' : Nat) : longG refB (s.drop at') (min (s.length - at') 8) = longB s at' := by
  rw [longG_ext refB_among]
  unfold longB
  by_cases h : 8 ≤ s.length - at'
  · rw [Nat.min_eq_right h, Nat.min_eq_left (by omega), longG_far _ (by rw [List.length_drop]; exact h)]
  · rw [Nat.min_eq_left (by omega), Nat.min_eq_right (by omega)]

/-- a name with its end, whatever stands behind, is the longest -/
theorem long_name {t b : List UInt8} {w : List UInt8} {v : List UInt8} (ht : t = w ++ 59 :: b) (hw : amongB (w ++ [59]) = (v, true)) : ∀ n, w.length + 1 ≤ n → n ≤ t.length → longG amongB t n = (w.length + 1, v)
  | 0, h, _ => by omega
  | n + 1, h, h2 => by
    rw [longG]
    by_cases hn : n = w.length
    · subst hn
      have e : t.take (w.length + 1) = w ++ [59] := by
        rw [ht]
        have : w ++ 59 :: b = (w ++ [59]) ++ b := by simp
        rw [this]
        exact List.take_left' (by simp)
      rw [e, hw]
      rfl
    · rw [if_neg]
      · exact long_name ht hw n (by omega) (by omega)
      intro hh
      have h3 := (among_len hh).2
      have : (59 : UInt8) ∈ (t.take (n + 1)).dropLast := by
        rw [List.dropLast_eq_take, List.length_take, List.take_take]
        have e2 : min (min (n + 1) t.length - 1) (n + 1) = n := by omega
        rw [e2, ht]
        rw [List.take_append]
        refine List.mem_append_right _ ?_
        obtain ⟨k, hk⟩ : ∃ k, n - w.length = k + 1 := ⟨n - w.length - 1, by omega⟩
        rw [hk, List.take_succ_cons]
        exact List.mem_cons_self
      exact h3 59 this rfl
theorem ref_among {w : List UInt8} {a : Int} {c : Bool} (h : (w, a, c) ∈ Rf) : amongB (w ++ [59]) = (en a, true) := by
  rw [among_some (by rw [word_add]; exact ref_look h) (by rw [ends_add]; rfl)]
  rfl
theorem ref_bare {w : List UInt8} {a : Int} {c : Bool} (h : (w, a, c) ∈ Rf) : amongB w = if c = true then (en a, true) else ([], false) := by
  have e := no_end (ref_mem h).1
  have hl := ref_look h
  rw [← word_no e] at hl
  cases c with
  | true => rw [among_some hl (by simp)]; rfl
  | false => rw [among_not hl (by rw [e]; rfl)]; rfl
theorem long_behind {x w b : List UInt8} {a : Int} {c : Bool} (h : (w, a, c) ∈ Rf) : longB (x ++ (w ++ [59]) ++ b) x.length = (w.length + 1, en a) := by
  have hm := ref_mem h
  unfold longB
  have e1 : (x ++ (w ++ [59]) ++ b).drop x.length = w ++ 59 :: b := by
    rw [List.append_assoc, List.drop_left' rfl]
    simp
  rw [e1]
  have e2 : (x ++ (w ++ [59]) ++ b).length - x.length = (w ++ 59 :: b).length := by
    simp only [List.length_append, List.length_cons, List.length_nil]
    omega
  rw [e2]
  refine long_name rfl (ref_among h) _ ?_ (Nat.min_le_right _ _)
  simp only [List.length_append, List.length_cons]
  omega
theorem long_self {w : List UInt8} {a : Int} {c : Bool} (h : (w, a, c) ∈ Rf) : longB (w ++ [59, 59]) 0 = (w.length + 1, en a) := by
  have := long_behind (x := []) (b := [59]) h
  simp only [List.nil_append, List.append_assoc, List.length_nil, List.cons_append] at this
  exact this
theorem ex_notit : longB [110, 111, 116, 105, 116, 59] 0 = (3, [194, 172]) := by kernel_rfl
theorem ex_notin : (longB [110, 111, 116, 105, 110, 59] 0).1 = 6 := by kernel_rfl
theorem ex_fj : amongB [102, 106, 108, 105, 103, 59] = ([102, 106], true) := by kernel_rfl
theorem ex_fjno : amongB [102, 106, 108, 105, 103] = ([], false) := by kernel_rfl
end Go.Proofs.YtdniddiaiinggaaDoor.M
