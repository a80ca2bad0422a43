/- What the document's Next works out, byte by byte, is the rune that begins there: plain mathematics. -/
import Derived.Test.YtdniddiaiinggaaDoorUT
set_option linter.unusedVariables false
namespace Go.Proofs.YtdniddiaiinggaaDoor.U

/-- a byte that goes on -/
structure Cont (l : List UInt8) (k : Nat) : Prop where
  len : k < l.length
  lo : 128 ≤ g l k
  hi : g l k ≤ 191
/-- what has been read ahead of place k -/
def acc (v0 : Nat) (l : List UInt8) : Nat → Nat
  | 0 => v0
  | k + 1 => 64 * acc v0 l k + (g l (k + 1) - 128)
/-- the answer of Next: nothing, or a rune and its bytes -/
def NextIs (l : List UInt8) (R K : Nat) : Prop := (Bad l ∧ R = 0 ∧ K = 0) ∨ (∃ m, IsR R ∧ l = en R ++ m ∧ K = (en R).length)
/-- the sort of a first byte: how many bytes, what it has, what is the least -/
structure Kind (b n v0 least : Nat) : Prop where
  h : (n = 2 ∧ 192 ≤ b ∧ b < 224 ∧ v0 = b - 192 ∧ least = 128) ∨ (n = 3 ∧ 224 ≤ b ∧ b < 240 ∧ v0 = b - 224 ∧ least = 2048) ∨ (n = 4 ∧ 240 ≤ b ∧ b < 248 ∧ v0 = b - 240 ∧ least = 65536)

theorem g_en2 (r : Nat) (hr : IsR r) (m : List UInt8) (h : 128 ≤ r) (h2 : r < 2048) : g (en r ++ m) 0 = 192 + r / 64 ∧ g (en r ++ m) 1 = 128 + r % 64 := by
  rw [en2 r hr h h2]
  exact ⟨toNat_of _ (by omega), toNat_of _ (by omega)⟩
theorem g_en3 (r : Nat) (hr : IsR r) (m : List UInt8) (h : 2048 ≤ r) (h2 : r < 65536) : g (en r ++ m) 0 = 224 + r / 4096 ∧ g (en r ++ m) 1 = 128 + r / 64 % 64 ∧ g (en r ++ m) 2 = 128 + r % 64 := by
  rw [en3 r hr h h2]
  exact ⟨toNat_of _ (by omega), toNat_of _ (by omega), toNat_of _ (by omega)⟩
theorem g_en4 (r : Nat) (hr : IsR r) (m : List UInt8) (h : 65536 ≤ r) : g (en r ++ m) 0 = 240 + r / 262144 ∧ g (en r ++ m) 1 = 128 + r / 4096 % 64 ∧ g (en r ++ m) 2 = 128 + r / 64 % 64 ∧ g (en r ++ m) 3 = 128 + r % 64 := by
  have := hr.h
  rw [en4 r hr h]
  exact ⟨toNat_of _ (by omega), toNat_of _ (by omega), toNat_of _ (by omega), toNat_of _ (by omega)⟩
theorem g_en1 (r : Nat) (hr : IsR r) (m : List UInt8) (h : r < 128) : g (en r ++ m) 0 = r := by
  rw [en1 r hr h]
  exact toNat_of _ (by omega)

/-- where a rune of n bytes begins all others go on -/
theorem cont_en (r : Nat) (hr : IsR r) (m : List UInt8) (n v0 least : Nat) (hs : Kind (g (en r ++ m) 0) n v0 least) : n = (en r).length ∧ ∀ k, 1 ≤ k → k < n → Cont (en r ++ m) k := by
  have hh := hs.h
  have hr' := hr.h
  by_cases h1 : r < 128
  · rw [g_en1 r hr m h1] at hh
    exfalso; omega
  by_cases h2 : r < 2048
  · obtain ⟨e0, e1⟩ := g_en2 r hr m (by omega) h2
    have hl : (en r).length = 2 := by rw [en2 r hr (by omega) h2]; rfl
    rw [e0] at hh
    have hn : n = 2 := by omega
    refine ⟨by omega, fun k hk1 hk2 => ?_⟩
    have hk : k = 1 := by omega
    subst hk
    exact ⟨by rw [List.length_append]; omega, by omega, by omega⟩
  by_cases h3 : r < 65536
  · obtain ⟨e0, e1, e2⟩ := g_en3 r hr m (by omega) h3
    have hl : (en r).length = 3 := by rw [en3 r hr (by omega) h3]; rfl
    rw [e0] at hh
    have hn : n = 3 := by omega
    refine ⟨by omega, fun k hk1 hk2 => ?_⟩
    have hk : k = 1 ∨ k = 2 := by omega
    rcases hk with hk | hk
    · subst hk; exact ⟨by rw [List.length_append]; omega, by omega, by omega⟩
    · subst hk; exact ⟨by rw [List.length_append]; omega, by omega, by omega⟩
  · obtain ⟨e0, e1, e2, e3⟩ := g_en4 r hr m (by omega)
    have hl : (en r).length = 4 := by rw [en4 r hr (by omega)]; rfl
    rw [e0] at hh
    have hn : n = 4 := by omega
    refine ⟨by omega, fun k hk1 hk2 => ?_⟩
    have hk : k = 1 ∨ k = 2 ∨ k = 3 := by omega
    rcases hk with hk | hk | hk
    · subst hk; exact ⟨by rw [List.length_append]; omega, by omega, by omega⟩
    · subst hk; exact ⟨by rw [List.length_append]; omega, by omega, by omega⟩
    · subst hk; exact ⟨by rw [List.length_append]; omega, by omega, by omega⟩

theorem next_cut (l : List UInt8) (hl : l ≠ []) (n v0 least k : Nat) (hs : Kind (g l 0) n v0 least) (h1 : 1 ≤ k) (h2 : k < n) (h : ¬ Cont l k) : NextIs l 0 0 := by
  rcases parts l hl with ⟨r, m, hr, el⟩ | hb
  · rw [el] at hs h
    exact absurd ((cont_en r hr m n v0 least hs).2 k h1 h2) h
  · exact .inl ⟨hb, rfl, rfl⟩
theorem next_low (l : List UInt8) (hl : l ≠ []) (h : g l 0 < 128) : NextIs l (g l 0) 1 := by
  rcases parts l hl with ⟨r, m, hr, el⟩ | hb
  · have hr' := hr.h
    have h1 : r < 128 := by
      rcases Nat.lt_or_ge r 128 with h1 | h1
      · exact h1
      exfalso
      rw [el] at h
      have := en_high r hr h1
      have hlen := en_len r hr
      match he : en r, hlen with
      | b :: t, _ =>
        rw [he] at h
        have := this b (by rw [he]; exact List.mem_cons_self)
        have e : g (b :: t ++ m) 0 = b.toNat := rfl
        omega
    have e0 : g l 0 = r := by rw [el]; exact g_en1 r hr m h1
    rw [e0]
    exact .inr ⟨m, hr, el, by rw [en1 r hr h1]; rfl⟩
  · have := hb.hi
    omega
theorem next_none (l : List UInt8) (hl : l ≠ []) (h : 128 ≤ g l 0) (h2 : g l 0 < 192 ∨ 248 ≤ g l 0) : NextIs l 0 0 := by
  rcases parts l hl with ⟨r, m, hr, el⟩ | hb
  · exfalso
    have hr' := hr.h
    rw [el] at h h2
    by_cases c1 : r < 128
    · rw [g_en1 r hr m c1] at h; omega
    by_cases c2 : r < 2048
    · obtain ⟨e0, e1⟩ := g_en2 r hr m (by omega) c2; omega
    by_cases c3 : r < 65536
    · obtain ⟨e0, e1, e2⟩ := g_en3 r hr m (by omega) c3; omega
    · obtain ⟨e0, e1, e2, e3⟩ := g_en4 r hr m (by omega); omega
  · exact .inl ⟨hb, rfl, rfl⟩

theorem acc1 (v0 : Nat) (l : List UInt8) : acc v0 l 1 = 64 * v0 + (g l 1 - 128) := rfl
theorem acc2 (v0 : Nat) (l : List UInt8) : acc v0 l 2 = 64 * (64 * v0 + (g l 1 - 128)) + (g l 2 - 128) := rfl
theorem acc3 (v0 : Nat) (l : List UInt8) : acc v0 l 3 = 64 * (64 * (64 * v0 + (g l 1 - 128)) + (g l 2 - 128)) + (g l 3 - 128) := rfl

theorem of2 (l : List UInt8) (v : Nat) (hR : IsR v) (h : 128 ≤ v) (h2 : v < 2048) (hl : 1 < l.length) (e0 : g l 0 = 192 + v / 64) (e1 : g l 1 = 128 + v % 64) : ∃ m, l = en v ++ m := by
  match l, hl, e0, e1 with
  | a :: b :: t, _, e0, e1 =>
    refine ⟨t, ?_⟩
    rw [en2 v hR h h2, ← byte_eq (b := a) e0, ← byte_eq (b := b) e1]
    rfl
theorem of3 (l : List UInt8) (v : Nat) (hR : IsR v) (h : 2048 ≤ v) (h2 : v < 65536) (hl : 2 < l.length) (e0 : g l 0 = 224 + v / 4096) (e1 : g l 1 = 128 + v / 64 % 64) (e2 : g l 2 = 128 + v % 64) : ∃ m, l = en v ++ m := by
  match l, hl, e0, e1, e2 with
  | a :: b :: c :: t, _, e0, e1, e2 =>
    refine ⟨t, ?_⟩
    rw [en3 v hR h h2, ← byte_eq (b := a) e0, ← byte_eq (b := b) e1, ← byte_eq (b := c) e2]
    rfl
theorem of4 (l : List UInt8) (v : Nat) (hR : IsR v) (h : 65536 ≤ v) (hl : 3 < l.length) (e0 : g l 0 = 240 + v / 262144) (e1 : g l 1 = 128 + v / 4096 % 64) (e2 : g l 2 = 128 + v / 64 % 64) (e3 : g l 3 = 128 + v % 64) : ∃ m, l = en v ++ m := by
  match l, hl, e0, e1, e2, e3 with
  | a :: b :: c :: d :: t, _, e0, e1, e2, e3 =>
    refine ⟨t, ?_⟩
    rw [en4 v hR h, ← byte_eq (b := a) e0, ← byte_eq (b := b) e1, ← byte_eq (b := c) e2, ← byte_eq (b := d) e3]
    rfl

/-- all bytes are read -/
theorem next_end (l : List UInt8) (hl : l ≠ []) (n v0 least v : Nat) (hs : Kind (g l 0) n v0 least) (hc : ∀ k, 1 ≤ k → k < n → Cont l k) (hv : v = acc v0 l (n - 1)) :
    if v < least ∨ v > 1114111 ∨ (55296 ≤ v ∧ v ≤ 57343) then NextIs l 0 0 else NextIs l v n := by
  have key : ∀ r, IsR r → ∀ m, l = en r ++ m → v = r ∧ ¬ (v < least ∨ v > 1114111 ∨ (55296 ≤ v ∧ v ≤ 57343)) ∧ n = (en r).length := by
    intro r hr m el
    have hr' := hr.h
    have hn := (cont_en r hr m n v0 least (by rw [← el]; exact hs)).1
    have hh := hs.h
    rw [el] at hh hv
    by_cases c1 : r < 128
    · rw [g_en1 r hr m c1] at hh; exfalso; omega
    by_cases c2 : r < 2048
    · obtain ⟨e0, e1⟩ := g_en2 r hr m (by omega) c2
      rw [e0] at hh
      have h2 : n = 2 := by omega
      rw [h2, acc1, e1] at hv
      have : v = r := by omega
      exact ⟨this, by omega, hn⟩
    by_cases c3 : r < 65536
    · obtain ⟨e0, e1, e2⟩ := g_en3 r hr m (by omega) c3
      rw [e0] at hh
      have h2 : n = 3 := by omega
      rw [h2, acc2, e1, e2] at hv
      have : v = r := by omega
      exact ⟨this, by omega, hn⟩
    · obtain ⟨e0, e1, e2, e3⟩ := g_en4 r hr m (by omega)
      rw [e0] at hh
      have h2 : n = 4 := by omega
      rw [h2, acc3, e1, e2, e3] at hv
      have : v = r := by omega
      exact ⟨this, by omega, hn⟩
  split
  · rename_i hbad
    rcases parts l hl with ⟨r, m, hr, el⟩ | hb
    · exact absurd hbad (key r hr m el).2.1
    · exact .inl ⟨hb, rfl, rfl⟩
  · rename_i hok
    have hR : IsR v := ⟨by omega⟩
    have hh := hs.h
    have b1 := g_lt l 1
    have b2 := g_lt l 2
    have b3 := g_lt l 3
    rcases hh with ⟨hn, h1, h2, h3, h4⟩ | ⟨hn, h1, h2, h3, h4⟩ | ⟨hn, h1, h2, h3, h4⟩
    · have k1 := hc 1 (by omega) (by omega)
      have := k1.lo
      have := k1.hi
      rw [hn, acc1] at hv
      obtain ⟨t, ht⟩ := of2 l v hR (by omega) (by omega) k1.len (by omega) (by omega)
      exact .inr ⟨t, hR, ht, by rw [en2 v hR (by omega) (by omega)]; exact hn⟩
    · have k1 := hc 1 (by omega) (by omega)
      have k2 := hc 2 (by omega) (by omega)
      have := k1.lo
      have := k1.hi
      have := k2.lo
      have := k2.hi
      rw [hn, acc2] at hv
      obtain ⟨t, ht⟩ := of3 l v hR (by omega) (by omega) k2.len (by omega) (by omega) (by omega)
      exact .inr ⟨t, hR, ht, by rw [en3 v hR (by omega) (by omega)]; exact hn⟩
    · have k1 := hc 1 (by omega) (by omega)
      have k2 := hc 2 (by omega) (by omega)
      have k3 := hc 3 (by omega) (by omega)
      have := k1.lo
      have := k1.hi
      have := k2.lo
      have := k2.hi
      have := k3.lo
      have := k3.hi
      rw [hn, acc3] at hv
      obtain ⟨t, ht⟩ := of4 l v hR (by omega) k3.len (by omega) (by omega) (by omega) (by omega)
      exact .inr ⟨t, hR, ht, by rw [en4 v hR (by omega)]; exact hn⟩
end Go.Proofs.YtdniddiaiinggaaDoor.U
