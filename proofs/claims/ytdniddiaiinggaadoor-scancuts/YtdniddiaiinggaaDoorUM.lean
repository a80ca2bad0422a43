/- Texts as bytes, plain mathematics: what begins at a place (dc), a rune's bytes (en), whether a text is right (V), cleaned (C), in lower case (L); and what follows of them. -/
import Derived.Lib.DecodeN
import GoSem.Core.Utf8
set_option linter.unusedVariables false
set_option linter.unusedSimpArgs false
namespace Go.Proofs.YtdniddiaiinggaaDoor.U

def g (l : List UInt8) (i : Nat) : Nat := (l.getD i 0).toNat
/-- the rune and its bytes at the beginning of l -/
def dc (l : List UInt8) : Nat × Nat := Lib.decodeN l.length (g l 0) (g l 1) (g l 2) (g l 3)
/-- the bytes of a rune -/
def en (r : Int) : List UInt8 := (Utf8.encode r).data.toList
structure IsR (r : Nat) : Prop where
  h : r < 55296 ∨ (57344 ≤ r ∧ r ≤ 1114111)

theorem g_lt (l : List UInt8) (i : Nat) : g l i < 256 := (l.getD i 0).toNat_lt
theorem g_drop (l : List UInt8) (p i : Nat) : g (l.drop p) i = g l (p + i) := by simp [g, List.getD]

theorem get_g (s : ByteArray) (i : Nat) : (s.get! i).toNat = g s.data.toList i := by
  unfold g
  congr 1
  show s.data.get!Internal i = _
  simp [Array.get!Internal, List.getD]
  cases s.data[i]? <;> rfl

theorem decode_dc (s : ByteArray) (p : Nat) : Utf8.decode s p = dc (s.data.toList.drop p) := by
  rw [Lib.decode_at]
  unfold dc
  simp only [g_drop, get_g, List.length_drop, Nat.add_zero]
  rfl

theorem dN1 (n r b1 b2 b3 : Nat) (h : r < 128) : Lib.decodeN n r b1 b2 b3 = (r, 1) := by simp [Lib.decodeN, h]
set_option maxHeartbeats 2000000 in
theorem dN2 (n r b2 b3 : Nat) (h : 128 ≤ r) (h2 : r < 2048) (hn : 2 ≤ n) : Lib.decodeN n (192 + r / 64) (128 + r % 64) b2 b3 = (r, 2) := by
  unfold Lib.decodeN
  repeat' split
  all_goals first | (exfalso; omega) | (apply Prod.ext <;> simp only <;> omega)
set_option maxHeartbeats 2000000 in
theorem dN3 (n r b3 : Nat) (h : 2048 ≤ r) (h2 : r < 65536) (hr : IsR r) (hn : 3 ≤ n) : Lib.decodeN n (224 + r / 4096) (128 + r / 64 % 64) (128 + r % 64) b3 = (r, 3) := by
  have := hr.h
  unfold Lib.decodeN
  repeat' split
  all_goals first | (exfalso; omega) | (apply Prod.ext <;> simp only <;> omega)
set_option maxHeartbeats 2000000 in
theorem dN4 (n r : Nat) (h : 65536 ≤ r) (hr : IsR r) (hn : 4 ≤ n) : Lib.decodeN n (240 + r / 262144) (128 + r / 4096 % 64) (128 + r / 64 % 64) (128 + r % 64) = (r, 4) := by
  have := hr.h
  unfold Lib.decodeN
  repeat' split
  all_goals first | (exfalso; omega) | (apply Prod.ext <;> simp only <;> omega)

set_option maxHeartbeats 4000000 in
theorem dN_inv (n b0 b1 b2 b3 : Nat) (h0 : b0 < 256) (h1 : b1 < 256) (h2 : b2 < 256) (h3 : b3 < 256) :
    (b0 < 128 ∧ Lib.decodeN n b0 b1 b2 b3 = (b0, 1)) ∨
    (∃ r, 2 ≤ n ∧ 128 ≤ r ∧ r < 2048 ∧ b0 = 192 + r / 64 ∧ b1 = 128 + r % 64) ∨
    (∃ r, 3 ≤ n ∧ 2048 ≤ r ∧ r < 65536 ∧ IsR r ∧ b0 = 224 + r / 4096 ∧ b1 = 128 + r / 64 % 64 ∧ b2 = 128 + r % 64) ∨
    (∃ r, 4 ≤ n ∧ 65536 ≤ r ∧ IsR r ∧ b0 = 240 + r / 262144 ∧ b1 = 128 + r / 4096 % 64 ∧ b2 = 128 + r / 64 % 64 ∧ b3 = 128 + r % 64) ∨
    (128 ≤ b0 ∧ Lib.decodeN n b0 b1 b2 b3 = (65533, 1) ∧ ¬ (3 ≤ n ∧ b0 = 239 ∧ b1 = 191 ∧ b2 = 189)) := by
  unfold Lib.decodeN
  split
  · exact .inl ⟨by assumption, rfl⟩
  split
  · split
    · exact .inr (.inl ⟨b0 % 32 * 64 + b1 % 64, by omega⟩)
    · exact .inr (.inr (.inr (.inr ⟨by omega, rfl, by omega⟩)))
  split
  · split
    · exact .inr (.inr (.inl ⟨b0 % 16 * 4096 + b1 % 64 * 64 + b2 % 64, by omega, by omega, by omega, ⟨by omega⟩, by omega, by omega, by omega⟩))
    · exact .inr (.inr (.inr (.inr ⟨by omega, rfl, by omega⟩)))
  split
  · split
    · exact .inr (.inr (.inr (.inl ⟨b0 % 8 * 262144 + b1 % 64 * 4096 + b2 % 64 * 64 + b3 % 64, by omega, by omega, ⟨by omega⟩, by omega, by omega, by omega, by omega⟩)))
    · exact .inr (.inr (.inr (.inr ⟨by omega, rfl, by omega⟩)))
  · exact .inr (.inr (.inr (.inr ⟨by omega, rfl, by omega⟩)))

theorem valid_iff (r : Nat) : Utf8.valid (r : Int) = true ↔ IsR r := by
  unfold Utf8.valid
  simp only [Bool.or_eq_true, Bool.and_eq_true, decide_eq_true_eq]
  constructor
  · intro h; exact ⟨by omega⟩
  · intro h; have := h.h; omega

def ec (c : Nat) : List UInt8 :=
  if c < 128 then [UInt8.ofNat c]
  else if c < 2048 then [UInt8.ofNat (192 + c / 64), UInt8.ofNat (128 + c % 64)]
  else if c < 65536 then [UInt8.ofNat (224 + c / 4096), UInt8.ofNat (128 + c / 64 % 64), UInt8.ofNat (128 + c % 64)]
  else [UInt8.ofNat (240 + c / 262144), UInt8.ofNat (128 + c / 4096 % 64), UInt8.ofNat (128 + c / 64 % 64), UInt8.ofNat (128 + c % 64)]
set_option maxRecDepth 100000 in
theorem en_ec (r : Int) (c : Nat) (h : (if Utf8.valid r = true then r.toNat else Utf8.runeError) = c) : en r = ec c := by
  unfold en Utf8.encode ec
  simp only [h]
  by_cases h1 : c < 128
  · rw [if_pos h1, if_pos h1]
  rw [if_neg h1, if_neg h1]
  by_cases h2 : c < 2048
  · rw [if_pos h2, if_pos h2]
  rw [if_neg h2, if_neg h2]
  by_cases h3 : c < 65536
  · rw [if_pos h3, if_pos h3]
  rw [if_neg h3, if_neg h3]
theorem enc_c (r : Nat) (hr : IsR r) : (if Utf8.valid (r : Int) = true then (r : Int).toNat else Utf8.runeError) = r := by
  rw [if_pos ((valid_iff r).2 hr)]
  rfl
theorem en1 (r : Nat) (hr : IsR r) (h : r < 128) : en r = [UInt8.ofNat r] := by
  rw [en_ec r r (enc_c r hr)]
  unfold ec
  rw [if_pos h]
theorem en2 (r : Nat) (hr : IsR r) (h : 128 ≤ r) (h2 : r < 2048) : en r = [UInt8.ofNat (192 + r / 64), UInt8.ofNat (128 + r % 64)] := by
  rw [en_ec r r (enc_c r hr)]
  unfold ec
  rw [if_neg (by omega), if_pos h2]
theorem en3 (r : Nat) (hr : IsR r) (h : 2048 ≤ r) (h2 : r < 65536) : en r = [UInt8.ofNat (224 + r / 4096), UInt8.ofNat (128 + r / 64 % 64), UInt8.ofNat (128 + r % 64)] := by
  rw [en_ec r r (enc_c r hr)]
  unfold ec
  rw [if_neg (by omega), if_neg (by omega), if_pos h2]
theorem en4 (r : Nat) (hr : IsR r) (h : 65536 ≤ r) : en r = [UInt8.ofNat (240 + r / 262144), UInt8.ofNat (128 + r / 4096 % 64), UInt8.ofNat (128 + r / 64 % 64), UInt8.ofNat (128 + r % 64)] := by
  rw [en_ec r r (enc_c r hr)]
  unfold ec
  rw [if_neg (by omega), if_neg (by omega), if_neg (by omega)]
theorem en_bad (r : Nat) (h : r = 65533) : en r = [239, 191, 189] := by
  rw [en3 r ⟨by omega⟩ (by omega) (by omega)]
  have e1 : r / 4096 = 15 := by omega
  have e2 : r / 64 % 64 = 63 := by omega
  have e3 : r % 64 = 61 := by omega
  rw [e1, e2, e3]
  rfl
theorem en_none (r : Int) (h : Utf8.valid r = false) : en r = [239, 191, 189] := by
  rw [en_ec r 65533 (by rw [h]; rfl)]
  unfold ec
  rw [if_neg (by omega), if_neg (by omega), if_pos (by omega)]
  rfl

theorem toNat_of (x : Nat) (h : x < 256) : (UInt8.ofNat x).toNat = x := by simp; omega

/-- what is put is read -/
theorem dc_en (r : Nat) (hr : IsR r) (m : List UInt8) : dc (en r ++ m) = (r, (en r).length) := by
  have := hr.h
  unfold dc
  by_cases h1 : r < 128
  · rw [en1 r hr h1]
    simp only [g, List.cons_append, List.getD_cons_zero, List.nil_append, List.length_cons, List.length_nil]
    rw [toNat_of r (by omega)]
    exact dN1 _ _ _ _ _ h1
  by_cases h2 : r < 2048
  · rw [en2 r hr (by omega) h2]
    simp only [g, List.cons_append, List.getD_cons_zero, List.getD_cons_succ, List.nil_append, List.length_cons, List.length_nil]
    rw [toNat_of _ (by omega), toNat_of _ (by omega)]
    exact dN2 _ _ _ _ (by omega) h2 (by omega)
  by_cases h3 : r < 65536
  · rw [en3 r hr (by omega) h3]
    simp only [g, List.cons_append, List.getD_cons_zero, List.getD_cons_succ, List.nil_append, List.length_cons, List.length_nil]
    rw [toNat_of _ (by omega), toNat_of _ (by omega), toNat_of _ (by omega)]
    exact dN3 _ _ _ (by omega) h3 hr (by omega)
  · rw [en4 r hr (by omega)]
    simp only [g, List.cons_append, List.getD_cons_zero, List.getD_cons_succ, List.nil_append, List.length_cons, List.length_nil]
    rw [toNat_of _ (by omega), toNat_of _ (by omega), toNat_of _ (by omega), toNat_of _ (by omega)]
    exact dN4 _ _ (by omega) hr (by omega)

theorem en_len (r : Nat) (hr : IsR r) : 1 ≤ (en r).length ∧ (en r).length ≤ 4 := by
  by_cases h1 : r < 128
  · rw [en1 r hr h1]; simp
  by_cases h2 : r < 2048
  · rw [en2 r hr (by omega) h2]; simp
  by_cases h3 : r < 65536
  · rw [en3 r hr (by omega) h3]; simp
  · rw [en4 r hr (by omega)]; simp

theorem en_high (r : Nat) (hr : IsR r) (h : 128 ≤ r) : ∀ b ∈ en r, 128 ≤ b.toNat := by
  have := hr.h
  by_cases h2 : r < 2048
  · rw [en2 r hr (by omega) h2]
    intro b hb
    simp only [List.mem_cons, List.not_mem_nil, or_false] at hb
    rcases hb with rfl | rfl <;> rw [toNat_of _ (by omega)] <;> omega
  by_cases h3 : r < 65536
  · rw [en3 r hr (by omega) h3]
    intro b hb
    simp only [List.mem_cons, List.not_mem_nil, or_false] at hb
    rcases hb with rfl | rfl | rfl <;> rw [toNat_of _ (by omega)] <;> omega
  · rw [en4 r hr (by omega)]
    intro b hb
    simp only [List.mem_cons, List.not_mem_nil, or_false] at hb
    rcases hb with rfl | rfl | rfl | rfl <;> rw [toNat_of _ (by omega)] <;> omega

/-- no rune begins at l -/
structure Bad (l : List UInt8) : Prop where
  ne : l ≠ []
  dc : dc l = (65533, 1)
  no : ¬ [239, 191, 189] <+: l
  hi : 128 ≤ g l 0

theorem byte_eq {b : UInt8} {x : Nat} (h : b.toNat = x) : b = UInt8.ofNat x := by rw [← h]; simp

theorem parts (l : List UInt8) (hl : l ≠ []) : (∃ r m, IsR r ∧ l = en r ++ m) ∨ Bad l := by
  rcases dN_inv l.length (g l 0) (g l 1) (g l 2) (g l 3) (g_lt l 0) (g_lt l 1) (g_lt l 2) (g_lt l 3) with ⟨h, _⟩ | ⟨r, hn, h1, h2, e0, e1⟩ | ⟨r, hn, h1, h2, hr, e0, e1, e2⟩ | ⟨r, hn, h1, hr, e0, e1, e2, e3⟩ | ⟨h, hd, hno⟩
  · match l, hl with
    | b :: t, _ =>
      refine .inl ⟨b.toNat, t, ⟨by have : g (b :: t) 0 = b.toNat := rfl; omega⟩, ?_⟩
      have e : g (b :: t) 0 = b.toNat := rfl
      rw [en1 _ ⟨by omega⟩ (by omega)]
      simp
  · match l, hn with
    | a :: b :: t, _ =>
      refine .inl ⟨r, t, ⟨by omega⟩, ?_⟩
      rw [en2 r ⟨by omega⟩ h1 h2, ← byte_eq (b := a) e0, ← byte_eq (b := b) e1]
      rfl
  · match l, hn with
    | a :: b :: c :: t, _ =>
      refine .inl ⟨r, t, hr, ?_⟩
      rw [en3 r hr h1 h2, ← byte_eq (b := a) e0, ← byte_eq (b := b) e1, ← byte_eq (b := c) e2]
      rfl
  · match l, hn with
    | a :: b :: c :: d :: t, _ =>
      refine .inl ⟨r, t, hr, ?_⟩
      rw [en4 r hr h1, ← byte_eq (b := a) e0, ← byte_eq (b := b) e1, ← byte_eq (b := c) e2, ← byte_eq (b := d) e3]
      rfl
  · refine .inr ⟨hl, hd, ?_, h⟩
    rintro ⟨m, rfl⟩
    exact hno ⟨by simp, rfl, rfl, rfl⟩

theorem pre_bad (r : Nat) (h : r = 65533) (m : List UInt8) : [239, 191, 189] <+: en r ++ m := by
  rw [en_bad r h]
  exact List.prefix_append _ _

theorem not_bad (r : Nat) (hr : IsR r) (m : List UInt8) : ¬ Bad (en r ++ m) := by
  intro h
  have e := h.dc
  rw [dc_en r hr m] at e
  have e1 : r = 65533 := congrArg Prod.fst e
  exact h.no (pre_bad r e1 m)

/-- Valid's own test -/
theorem bad_iff (l : List UInt8) (hl : l ≠ []) : Bad l ↔ ((dc l).1 = 65533 ∧ ¬ [239, 191, 189] <+: l) := by
  refine ⟨fun h => ⟨by rw [h.dc], h.no⟩, fun ⟨h1, h2⟩ => ?_⟩
  rcases parts l hl with ⟨r, m, hr, el⟩ | h
  · rw [el] at h1 h2
    rw [dc_en r hr] at h1
    exact absurd (pre_bad r h1 m) h2
  · exact h

theorem dc_pos (l : List UInt8) (hl : l ≠ []) : 1 ≤ (dc l).2 ∧ (dc l).2 ≤ l.length ∧ (dc l).2 ≤ 4 := by
  rcases parts l hl with ⟨r, m, hr, el⟩ | h
  · rw [el, dc_en r hr, List.length_append]
    have := en_len r hr
    dsimp only
    omega
  · rw [h.dc]
    exact ⟨Nat.le_refl _, List.length_pos_iff.2 hl, by decide⟩

theorem ind {P : List UInt8 → Prop} (h0 : P []) (h1 : ∀ r m, IsR r → P m → P (en r ++ m)) (h2 : ∀ b t, Bad (b :: t) → P t → P (b :: t)) : ∀ l, P l := by
  have : ∀ n (l : List UInt8), l.length ≤ n → P l := by
    intro n
    induction n with
    | zero => intro l hl; rw [List.eq_nil_of_length_eq_zero (l := l) (by omega)]; exact h0
    | succ n ih =>
      intro l hl
      by_cases hn : l = []
      · rw [hn]; exact h0
      rcases parts l hn with ⟨r, m, hr, el⟩ | h
      · rw [el] at hl ⊢
        have := en_len r hr
        exact h1 r m hr (ih m (by rw [List.length_append] at hl; omega))
      · match l, hn with
        | b :: t, _ => exact h2 b t h (ih t (by simp at hl; omega))
  exact fun l => this l.length l (Nat.le_refl _)
end Go.Proofs.YtdniddiaiinggaaDoor.U
