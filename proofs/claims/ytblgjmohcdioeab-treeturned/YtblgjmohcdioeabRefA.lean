/- tree.Attr and the chapter's own Attr. -/
import Derived.Test.YtblgjmohcdioeabCmpA
set_option linter.unusedVariables false
namespace Go.Proofs.Ytblgjmohcdioeab
open Go.Deep (BT)
open Go.RowKit M

def atOf : List (ByteArray × ByteArray) → ByteArray → ByteArray × Bool
  | [], _ => (⟨#[]⟩, false)
  | p :: l, nm => if (p.1.toList == nm.toList) = true then (p.2, true) else atOf l nm
theorem atOf_drop (l : List (ByteArray × ByteArray)) (nm : ByteArray) (i : Nat) (h : i < l.length) : atOf (l.drop i) nm = if ((bs l i).1.toList == nm.toList) = true then ((bs l i).2, true) else atOf (l.drop (i + 1)) nm := by
  rw [List.drop_eq_getElem_cons h, ← bs_get l i h]; rfl
theorem ret_two {a b : ByteArray} {p q : Bool} (h : (a, p) = (b, q)) : Ending.returned (.tuple #[.string a, .bool p]) = .returned (.tuple #[.string b, .bool q]) := by
  cases h; rfl

set_option maxRecDepth 20000 in
set_option maxHeartbeats 1000000 in
theorem attr_any (d : Nd) (k : M.F) (av kv : Value) (n : Nat) (w : World) (hl : Lies n w d k av kv) (hn : n ≤ w.heap.size) (nm : ByteArray) (V : ByteArray) (B : Bool) (hV : Fact (atOf d.ats nm = (V, B))) :
    Calls Try.prog 6 #[nodeV d av kv, .string nm] w fun e w' => e = .returned (.tuple #[.string V, .bool B]) ∧ Below w.heap.size w w' := by
  obtain ⟨K, N, X, l⟩ := d
  obtain ⟨a2, c2, ekv⟩ := hl.f.val
  subst ekv
  obtain ⟨a, cap, b, o, rfl, hc1, hm1, h1⟩ := hl.a.place
  have H1 := Fact.mk h1
  dsimp only at hV H1 hc1 ⊢
  have HD := Fact.mk (atOf_drop l nm)
  have HE : Fact (∀ i, l.length ≤ i → atOf (l.drop i) nm = (⟨#[]⟩, false)) := ⟨fun i hi => by rw [List.drop_of_length_le hi]; rfl⟩
  obtain ⟨al, hal⟩ : ∃ al, l.length = al := ⟨_, rfl⟩
  obtain ⟨kl, hkl⟩ : ∃ kl, k.len = kl := ⟨_, rfl⟩
  rw [hal] at H1 hc1 HD HE ⊢
  rw [hkl]
  clear h1 hl hal hkl
  unfold maxLen at hm1
  go_enter Try.func6, Try.ntmps6
  go_wp2_with fail
  go_loopg [11] al (fun gf iv wr => ∃ j : Nat, iv = .int .i64 j ∧ j ≤ al ∧ al ≤ j + gf ∧ Fact (Below w.heap.size w wr) ∧ Fact (atOf (l.drop j) nm = (V, B)))
  case atStart => exact ⟨0, rfl, Nat.zero_le _, by omega, ⟨(Below.refl _ w).alloc (Nat.le_refl _) _⟩, hV⟩
  case round =>
    obtain ⟨j, rfl, hj, hfu, hBr, hf⟩ := hrel
    by_cases hlt : j < al
    · obtain ⟨g', rfl⟩ : ∃ g', gk = g' + 1 := ⟨gk - 1, by omega⟩
      obtain ⟨ea, hb, y0, y1⟩ := H1.out j hlt
      have hd := HD.out j hlt
      subst ea
      obtain ⟨⟨N', V'⟩, hp⟩ : ∃ p, bs l j = p := ⟨_, rfl⟩
      rw [hp] at y0 y1 hd
      dsimp only at y0 y1 hd
      have z0 := (hBr.out.cell (p := ⟨b, o + j * 2, none⟩) (by show b < _; omega)).trans y0
      have z1 := (hBr.out.cell (p := ⟨b, o + j * 2 + 1, none⟩) (by show b < _; omega)).trans y1
      rw [hf.out] at hd
      have HB2 : Fact (∀ o, Below w.heap.size w (wr.alloc o)) := ⟨fun o => hBr.out.alloc hBr.out.size _⟩
      clear hp H1 HD HE hf hV y0 y1
      cases ht : (N'.toList == nm.toList)
      · rw [ht, if_neg (by simp)] at hd
        have HN := Fact.mk hd.symm
        clear hd
        go_wp2_with fail
        go_roundg g'
        case measure => omega
        case rel => exact ⟨j + 1, by go_num, by omega, by omega, ⟨HB2.out _⟩, HN⟩
      · rw [ht, if_pos rfl] at hd
        have HN := Fact.mk hd.symm
        clear hd
        go_wp2_with fail
        go_ret2
        exact ⟨ret_two HN.out, HB2.out _⟩
    · have HN := Fact.mk ((HE.out j (by omega)).symm.trans hf.out)
      clear H1 HD HE hf hV
      go_wp2_with fail
      go_ret2
      exact ⟨ret_two HN.out, hBr.out⟩
end Go.Proofs.Ytblgjmohcdioeab
