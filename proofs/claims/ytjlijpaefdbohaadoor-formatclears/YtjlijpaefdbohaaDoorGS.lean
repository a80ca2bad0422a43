/- One list, as a law has it: what each call makes of it. -/
import Derived.Test.YtjlijpaefdbohaaDoorGD
set_option linter.unusedVariables false
set_option linter.unusedSimpArgs false
namespace Go.Proofs.YtjlijpaefdbohaaDoor
open Go.RowKit

/-- a list that was made in a world w0, with at most so much in its map -/
structure St (w0 wx : World) (L : List It) (c : Nat) : Prop where
  h : ∃ v, FL wx w0.heap.size (w0.heap.size + 1) L v w0.heap.size c ∧ Below w0.heap.size w0 wx
abbrev pt (w0 : World) : Value := .pointer (some ⟨w0.heap.size + 1, 0, none⟩)
theorem St.bel {w0 wx : World} {L : List It} {c : Nat} (h : St w0 wx L c) : Below w0.heap.size w0 wx := by obtain ⟨v, _, hb⟩ := h.h; exact hb
theorem St.few {w0 wx : World} {L : List It} {c : Nat} (h : St w0 wx L c) : L.length ≤ 1000 := by obtain ⟨v, hf, _⟩ := h.h; exact hf.few
theorem St.below {w0 wx w' : World} {L : List It} {c n : Nat} (h : St w0 wx L c) (hb : Below n wx w') (hn : wx.heap.size ≤ n) : St w0 w' L c := by
  obtain ⟨v, hf, hb0⟩ := h.h
  have hz := hb0.size
  exact ⟨v, hf.below hb hn, hb0.trans (hb.mono (by omega))⟩
theorem St.alloc {w0 wx : World} {L : List It} {c : Nat} (h : St w0 wx L c) (o : Obj) : St w0 (wx.alloc o) L c := h.below ((Below.refl _ wx).alloc (Nat.le_refl _) o) (Nat.le_refl _)
theorem St.mono {w0 wx : World} {L : List It} {c c' : Nat} (h : St w0 wx L c) (hc : c ≤ c') (hf : c' ≤ 100000) : St w0 wx L c' := by
  obtain ⟨v, f, hb⟩ := h.h
  exact ⟨v, f.mono hc hf, hb⟩
theorem St.of {w0 wx w' : World} {L L' : List It} {c c' : Nat} {v : Value} (hf : FL wx w0.heap.size (w0.heap.size + 1) L v w0.heap.size c) (hb : Below w0.heap.size w0 wx) (ht : Tn wx w' w0.heap.size (w0.heap.size + 1) w0.heap.size v L' c') : St w0 w' L' c' := by
  obtain ⟨v', f', b'⟩ := ht.below hf
  exact ⟨v', f', hb.trans b'⟩

theorem st_new (w : World) : Calls Tryd.prog 7 #[] w fun e w' => e = .returned (pt w) ∧ St w w' [] 0 :=
  (new_any w).mono fun e w' ⟨h1, h2, h3⟩ => ⟨h1, ⟨_, h2, h3⟩⟩
theorem st_len {w0 wx : World} {L : List It} {c : Nat} (h : St w0 wx L c) : Calls Tryd.prog 29 #[pt w0] wx fun e w' => e = .returned (.int .i64 L.length) ∧ w' = wx := by
  obtain ⟨v, hf, hb⟩ := h.h
  exact len_any L _ _ _ c v wx hf
theorem st_place {w0 wx : World} {L : List It} {c : Nat} (h : St w0 wx L c) (id P : Int) (hP : plc L id = P) : Calls Tryd.prog 27 #[pt w0, .int .i64 id] wx fun e w' => e = .returned (.int .i64 P) ∧ St w0 w' L c := by
  obtain ⟨v, hf, hb⟩ := h.h
  exact (place_any L _ _ _ c v wx id hf P ⟨hP⟩).mono fun e w' ⟨h1, h2⟩ => ⟨h1, h.below h2 (Nat.le_refl _)⟩
theorem st_push {w0 wx : World} {L : List It} {c : Nat} (h : St w0 wx L c) (L1 : List It) (m m1 : Nat) (id : Int) (nm : ByteArray) (hid : Is64 id) (hn : nm.size ≤ 100) (hm : msA L L.length = (m : Int)) (hm1 : msA L1 L1.length = (m1 : Int)) (hmb : m ≤ 1000000) (hmb1 : m1 ≤ 1000000) (hL : Left L L1 ⟨(m : Int), nm, []⟩) (hl : L.length < 1000) (hc : c + 1 < 100000) :
    Calls Tryd.prog 24 #[pt w0, .agg #[.int .i64 id, .string nm, .slice none 0 0]] wx fun e w' => e = .returned (.tuple #[]) ∧ ∃ av, St w0 w' (L1 ++ [⟨id, nm, [], false, (m1 : Int), av⟩]) (c + 2) := by
  obtain ⟨v, hf, hb⟩ := h.h
  have := push_any L L1 _ _ _ c v wx id nm [] (.slice none 0 0) hf (nil_row wx) (fun k e => by cases e) hid (by rw [hm]; exact ky_ok m nm hmb hn) (by rw [hm1]; exact ky_ok m1 nm hmb1 hn) (by rw [hm]; exact hL) hl hc
  rw [hm1] at this
  exact this.mono fun e w' ⟨h1, av, ht⟩ => ⟨h1, av, St.of hf hb ht⟩
theorem st_mark {w0 wx : World} {L : List It} {c : Nat} (h : St w0 wx L c) (m : Nat) (hm : msA L L.length = (m : Int)) (hmb : m ≤ 1000000) (hl : L.length < 1000) (hc : c < 100000) :
    Calls Tryd.prog 11 #[pt w0] wx fun e w' => e = .returned (.tuple #[]) ∧ St w0 w' (L ++ [⟨0, ⟨#[]⟩, [], true, (m : Int) + 1, .slice none 0 0⟩]) (c + 1) := by
  obtain ⟨v, hf, hb⟩ := h.h
  exact (mark_any L _ _ _ c v wx m hf hm (by omega) hl hc).mono fun e w' ⟨h1, ht⟩ => ⟨h1, St.of hf hb ht⟩
theorem st_put {w0 wx : World} {L : List It} {c : Nat} (h : St w0 wx L c) (i m : Nat) (id : Int) (nm : ByteArray) (hid : Is64 id) (hn : nm.size ≤ 100) (hm : msA L i = (m : Int)) (hmb : m ≤ 1000000) (hi : i ≤ L.length) (hl : L.length < 1000) (hc : c < 100000) :
    Calls Tryd.prog 20 #[pt w0, .int .i64 i, .agg #[.int .i64 id, .string nm, .slice none 0 0]] wx fun e w' => e = .returned (.bool true) ∧ ∃ av, St w0 w' (L.take i ++ ⟨id, nm, [], false, (m : Int), av⟩ :: L.drop i) (c + 1) := by
  obtain ⟨v, hf, hb⟩ := h.h
  have := put_yes L _ _ _ c v wx i id nm [] (.slice none 0 0) hf (nil_row wx) hid (by rw [hm]; exact ky_ok m nm hmb hn) hi hl hc
  rw [hm] at this
  exact this.mono fun e w' ⟨h1, av, ht⟩ => ⟨h1, av, St.of hf hb ht⟩
theorem st_putNo {w0 wx : World} {L : List It} {c : Nat} (h : St w0 wx L c) (i id : Int) (nm : ByteArray) (hi : i < 0 ∨ (L.length : Int) < i) :
    Calls Tryd.prog 20 #[pt w0, .int .i64 i, .agg #[.int .i64 id, .string nm, .slice none 0 0]] wx fun e w' => e = .returned (.bool false) ∧ St w0 w' L c := by
  obtain ⟨v, hf, hb⟩ := h.h
  exact (put_no L _ _ _ c v wx i id nm none 0 0 hf hi).mono fun e w' ⟨h1, h2⟩ => ⟨h1, h.below h2 (Nat.le_refl _)⟩
theorem st_at {w0 wx : World} {L : List It} {c : Nat} (h : St w0 wx L c) (i : Nat) (x : It) (hx : L[i]? = some x) :
    Calls Tryd.prog 31 #[pt w0, .int .i64 i] wx fun e w' => ∃ a n k, e = .returned (.tuple #[enV x.id x.nm (.slice a n k), .bool true]) ∧ St w0 w' L c := by
  obtain ⟨v, hf, hb⟩ := h.h
  refine (at_any L _ _ _ c v wx i x hf hx).mono fun e w' ⟨av, h1, h2, h3⟩ => ?_
  obtain ⟨a, k, e2, _⟩ := own_val h2
  subst e2
  exact ⟨a, _, k, h1, h.below h3 (Nat.le_refl _)⟩
theorem st_swap {w0 wx : World} {L : List It} {c : Nat} (h : St w0 wx L c) (i m : Nat) (id0 id : Int) (nm : ByteArray) (hid : Is64 id) (hn : nm.size ≤ 100) (hm : msA L i = (m : Int)) (hmb : m ≤ 1000000) (hp : plc L id0 = (i : Int)) (hc : c + 1 < 100000) :
    Calls Tryd.prog 22 #[pt w0, .int .i64 id0, .agg #[.int .i64 id, .string nm, .slice none 0 0]] wx fun e w' => e = .returned (.bool true) ∧ ∃ av, St w0 w' (L.take i ++ ⟨id, nm, [], false, (m : Int), av⟩ :: L.drop (i + 1)) (c + 2) := by
  obtain ⟨v, hf, hb⟩ := h.h
  have := swap_yes L _ _ _ c v wx id0 id nm [] (.slice none 0 0) i hf (nil_row wx) (fun k e => by cases e) hid (by rw [hm]; exact ky_ok m nm hmb hn) hp hc
  rw [hm] at this
  exact this.mono fun e w' ⟨h1, av, ht⟩ => ⟨h1, av, St.of hf hb ht⟩
theorem st_swapNo {w0 wx : World} {L : List It} {c : Nat} (h : St w0 wx L c) (id0 id : Int) (nm : ByteArray) (hp : plc L id0 = -1) :
    Calls Tryd.prog 22 #[pt w0, .int .i64 id0, .agg #[.int .i64 id, .string nm, .slice none 0 0]] wx fun e w' => e = .returned (.bool false) ∧ St w0 w' L c := by
  obtain ⟨v, hf, hb⟩ := h.h
  exact (swap_no L _ _ _ c v wx id0 id nm none 0 0 hf hp).mono fun e w' ⟨h1, h2⟩ => ⟨h1, h.below h2 (Nat.le_refl _)⟩
theorem st_remove {w0 wx : World} {L : List It} {c : Nat} (h : St w0 wx L c) (i : Nat) (id : Int) (hp : plc L id = (i : Int)) (hc : c < 100000) :
    Calls Tryd.prog 18 #[pt w0, .int .i64 id] wx fun e w' => e = .returned (.bool true) ∧ St w0 w' (L.take i ++ L.drop (i + 1)) (c + 1) := by
  obtain ⟨v, hf, hb⟩ := h.h
  exact (remove_yes L _ _ _ c v wx id i hf hp hc).mono fun e w' ⟨h1, ht⟩ => ⟨h1, St.of hf hb ht⟩
theorem st_removeNo {w0 wx : World} {L : List It} {c : Nat} (h : St w0 wx L c) (id : Int) (hp : plc L id = -1) :
    Calls Tryd.prog 18 #[pt w0, .int .i64 id] wx fun e w' => e = .returned (.bool false) ∧ St w0 w' L c := by
  obtain ⟨v, hf, hb⟩ := h.h
  exact (remove_no L _ _ _ c v wx id hf hp).mono fun e w' ⟨h1, h2⟩ => ⟨h1, h.below h2 (Nat.le_refl _)⟩
theorem st_clear {w0 wx : World} {L : List It} {c : Nat} (h : St w0 wx L c) (hc : c + L.length < 100000) :
    Calls Tryd.prog 13 #[pt w0] wx fun e w' => e = .returned (.tuple #[]) ∧ St w0 w' (L.take (clN L L.length)) (c + L.length) := by
  obtain ⟨v, hf, hb⟩ := h.h
  exact (clear_any L _ _ _ c v wx hf hc _ ⟨rfl⟩).mono fun e w' ⟨h1, ht⟩ => ⟨h1, St.of hf hb ht⟩
theorem st_last {w0 wx : World} {L : List It} {c : Nat} (h : St w0 wx L c) (x : ByteArray) (ok : Bool) (hok : (laF L x L.length).isSome = ok) :
    Calls Tryd.prog 15 #[pt w0, .string x] wx fun e w' => ∃ id nm a n k, e = .returned (.tuple #[enV id nm (.slice a n k), .bool ok]) ∧ St w0 w' L c := by
  obtain ⟨v, hf, hb⟩ := h.h
  refine (last_any L _ _ _ c v wx x hf _ ⟨rfl⟩).mono fun e w' ⟨id, nm, a, n, k, ok', h1, h2, h3⟩ => ?_
  have := la_ok h2
  rw [hok] at this
  subst this
  exact ⟨id, nm, a, n, k, h1, h.below h3 (Nat.le_refl _)⟩
end Go.Proofs.YtjlijpaefdbohaaDoor
