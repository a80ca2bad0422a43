/- Keys of entries, and the map that counts them. -/
import Derived.Test.YtjlijpaefdbohaaDoorFE
import Derived.DeepKeys4
import Derived.WideKeyEntry
import Derived.Maps.OwnSet
import Derived.Maps.OwnOps
import Derived.Maps.Views
set_option linter.unusedVariables false
namespace Go.Proofs.YtjlijpaefdbohaaDoor
open Go.RowKit

def rowA (l : List (ByteArray × ByteArray)) : List Value := l.flatMap fun p => [.string p.1, .string p.2]
theorem rowA_len : ∀ l : List (ByteArray × ByteArray), (rowA l).length = l.length * 2
  | [] => rfl
  | p :: l => by show ([_, _] ++ rowA l).length = _; rw [List.length_append, rowA_len l]; simp; omega
theorem rowA_one (l : List (ByteArray × ByteArray)) : ∀ u ∈ rowA l, u.oneCell' = true := by
  intro u hu
  obtain ⟨p, _, hp⟩ := List.mem_flatMap.1 hu
  simp only [List.mem_cons, List.not_mem_nil, or_false] at hp
  rcases hp with rfl | rfl <;> rfl
theorem rowA_inj : ∀ {l l' : List (ByteArray × ByteArray)}, rowA l = rowA l' → l = l'
  | [], [], _ => rfl
  | [], p :: l', h => by simp [rowA] at h
  | p :: l, [], h => by simp [rowA] at h
  | p :: l, p' :: l', h => by
    have e : rowA (p :: l) = .string p.1 :: .string p.2 :: rowA l := rfl
    have e' : rowA (p' :: l') = .string p'.1 :: .string p'.2 :: rowA l' := rfl
    rw [e, e'] at h
    simp only [List.cons.injEq, Value.string.injEq] at h
    obtain ⟨a, b, c⟩ := h
    rw [rowA_inj c, Prod.ext a b]

/-- what entries that are alike have in common -/
structure Ky where
  ms : Int
  nm : ByteArray
  ats : List (ByteArray × ByteArray)
structure Ky.Ok (k : Ky) : Prop where
  ms : Is64 k.ms
  nm : k.nm.size ≤ maxLen
  ats : k.ats.length ≤ 12
  sz : ∀ p ∈ k.ats, p.1.size ≤ maxLen ∧ p.2.size ≤ maxLen

/-- twelve attributes, the last ones without a byte -/
def padA (l : List (ByteArray × ByteArray)) : List Value := rowA l ++ List.replicate (24 - l.length * 2) (.string ⟨#[]⟩)
theorem padA_len (l : List (ByteArray × ByteArray)) (h : l.length ≤ 12) : (padA l).length = 24 := by
  simp only [padA, List.length_append, rowA_len, List.length_replicate]; omega
def kC (k : Ky) : List Value := .int .i64 k.ms :: .string k.nm :: .int .i64 k.ats.length :: (padA k.ats ++ [.string ⟨#[]⟩])
def kV (k : Ky) : Value := .agg (kC k).toArray
theorem kC_len (k : Ky) (h : k.Ok) : (kC k).length = 28 := by
  simp [kC, padA_len k.ats h.ats]
theorem kV_inj {k k' : Ky} (e : kV k = kV k') : k = k' := by
  have e2 : kC k = kC k' := by
    have := Value.agg.inj e
    simpa using this
  simp only [kC, List.cons.injEq, Value.int.injEq, Value.string.injEq, true_and] at e2
  obtain ⟨h1, h2, h3, h4⟩ := e2
  have h5 : k.ats.length = k'.ats.length := by omega
  have h6 := List.append_inj_left' h4 rfl
  have h7 : rowA k.ats = rowA k'.ats := List.append_inj_left h6 (by rw [rowA_len, rowA_len, h5])
  have h8 := rowA_inj h7
  cases k; cases k'
  simp_all

theorem laidOut : laidOutB Tryd.prog = true := by kernel_rfl
theorem rowK : 77 < Tryd.prog.types.size := by rw [show Tryd.prog.types.size = 133 from by kernel_rfl]; decide
theorem wideK : (match Tryd.prog.underlying 77 with | some (.array _ _) | some (.struct _) => true | _ => false) = true := by kernel_rfl
theorem deepK : Tryd.prog.keyType 77 = true := by kernel_rfl
set_option maxRecDepth 20000 in
theorem lawK : WideMaps.KeyLaw Tryd.prog 77 := deep_law_laid laidOut (m := 6) (by omega) rowK (by kernel_rfl) wideK
theorem keyedK : Maps.Keyed Tryd.prog 77 := Maps.Keyed.of_law lawK

theorem mapM_some {α β : Type} (f : α → Option β) : ∀ l : List α, (∀ x ∈ l, ∃ y, f x = some y) → ∃ ys, l.mapM f = some ys
  | [], _ => ⟨[], by simp⟩
  | x :: l, h => by
    obtain ⟨y, hy⟩ := h x (by simp)
    obtain ⟨ys, hys⟩ := mapM_some f l (fun z hz => h z (by simp [hz]))
    exact ⟨y :: ys, by simp [List.mapM_cons, hy, hys]⟩
theorem cells2 : Tryd.prog.cellsOf 53 = 2 := by kernel_rfl
theorem cells1 : Tryd.prog.cellsOf 9 = 1 := by kernel_rfl
theorem cells1i : Tryd.prog.cellsOf 3 = 1 := by kernel_rfl
theorem cells24 : Tryd.prog.cellsOf 75 = 24 := by kernel_rfl
theorem cells28 : Tryd.prog.cellsOf 77 = 28 := by kernel_rfl
theorem kl_int (d : Nat) (x : Int) (h : Is64 x) : Tryd.prog.keyLits (d + 1) 3 [.int .i64 x] = some [.int .i64 x] := by
  unfold Program.keyLits
  simp [Tryd.underlying3, h.out]
theorem kl_str (d : Nat) (s : ByteArray) (h : s.size ≤ maxLen) : Tryd.prog.keyLits (d + 1) 9 [.string s] = some [.string s.data.toList] := by
  unfold Program.keyLits
  simp [Tryd.underlying9, h]
theorem kl_attr (d : Nat) (a b : ByteArray) (ha : a.size ≤ maxLen) (hb : b.size ≤ maxLen) : ∃ ls, Tryd.prog.keyLits (d + 2) 53 [.string a, .string b] = some ls := by
  unfold Program.keyLits
  simp [Tryd.underlying53, cells2, cells1, kl_str d a ha, kl_str d b hb]
theorem take2 {α : Type} (l : List α) (i : Nat) (h : i + 1 < l.length) : ∃ a b, (l.drop i).take 2 = [a, b] ∧ a ∈ l ∧ b ∈ l := by
  refine ⟨l[i], l[i + 1], ?_, List.getElem_mem _, List.getElem_mem _⟩
  rw [List.drop_eq_getElem_cons (by omega), List.drop_eq_getElem_cons (by omega)]
  rfl
theorem kl_arr (d : Nat) (cs : List Value) (hl : cs.length = 24) (h : ∀ u ∈ cs, ∃ s : ByteArray, u = .string s ∧ s.size ≤ maxLen) : ∃ ls, Tryd.prog.keyLits (d + 3) 75 cs = some ls := by
  unfold Program.keyLits
  simp only [Tryd.underlying75, cells24, cells2, hl, if_true]
  obtain ⟨ys, hys⟩ := mapM_some (fun i => Tryd.prog.keyLits (d + 2) 53 ((cs.drop (i * 2)).take 2)) (List.range 12) (fun i hi => by
    have hi' : i < 12 := by simpa using hi
    obtain ⟨a, b, e, h1, h2⟩ := take2 cs (i * 2) (by omega)
    obtain ⟨s1, rfl, z1⟩ := h a h1
    obtain ⟨s2, rfl, z2⟩ := h b h2
    rw [e]
    exact kl_attr d s1 s2 z1 z2)
  rw [hys]
  exact ⟨_, rfl⟩
theorem padA_str (l : List (ByteArray × ByteArray)) (h : ∀ p ∈ l, p.1.size ≤ maxLen ∧ p.2.size ≤ maxLen) : ∀ u ∈ padA l, ∃ s : ByteArray, u = .string s ∧ s.size ≤ maxLen := by
  intro u hu
  rcases List.mem_append.1 hu with hu | hu
  · obtain ⟨p, hp, hq⟩ := List.mem_flatMap.1 hu
    simp only [List.mem_cons, List.not_mem_nil, or_false] at hq
    rcases hq with rfl | rfl
    · exact ⟨_, rfl, (h p hp).1⟩
    · exact ⟨_, rfl, (h p hp).2⟩
  · exact ⟨_, List.eq_of_mem_replicate hu, Nat.zero_le _⟩
theorem is64_len (n : Nat) (h : n ≤ 1000000) : Is64 (n : Int) := ⟨WalkArith.wf_i64 (by omega)⟩
theorem key_lit (k : Ky) (h : k.Ok) : ∃ l, keyOf Tryd.prog 77 (kV k) = some l := by
  obtain ⟨d, hd⟩ : ∃ d, Tryd.prog.types.size + 1 = d + 4 := ⟨130, by kernel_rfl⟩
  have hl := padA_len k.ats h.ats
  obtain ⟨ls, hls⟩ := kl_arr d (padA k.ats) hl (padA_str k.ats h.sz)
  have h1 : ((padA k.ats ++ [Value.string ⟨#[]⟩]).take 24) = padA k.ats := by rw [List.take_append_of_le_length (by omega), List.take_of_length_le (by omega)]
  have h2 : ((padA k.ats ++ [Value.string ⟨#[]⟩]).drop 24) = [Value.string ⟨#[]⟩] := by rw [List.drop_append_of_le_length (by omega), List.drop_eq_nil_of_le (by omega)]; rfl
  have hf : (kV k).formed Tryd.prog 77 = true := by simp [kV, Value.formed, Tryd.underlying77, cells28, kC_len k h]
  have hkl : ∃ ls, Tryd.prog.keyLits (d + 4) 77 (kC k) = some ls := by
    unfold Program.keyLits
    have hlen := kC_len k h
    simp only [Tryd.underlying77, cells28, hlen]
    simp [kC, cells1, cells1i, cells24, kl_int _ _ h.ms, kl_int _ _ (is64_len k.ats.length (by have := h.ats; omega)), kl_str _ _ h.nm, h1, h2, hls, kl_str _ ⟨#[]⟩ (Nat.zero_le _)]
  obtain ⟨ls', hls'⟩ := hkl
  refine ⟨.string (keyBytes ls'), ?_⟩
  unfold keyOf
  simp only [Tryd.underlying77, deepK, hf, hd]
  simp [kV, Value.cells, hls']
end Go.Proofs.YtjlijpaefdbohaaDoor
