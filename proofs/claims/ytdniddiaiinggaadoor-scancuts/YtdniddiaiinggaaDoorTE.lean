/- value, attribute: what they answer. -/
import Derived.Test.YtdniddiaiinggaaDoorTD
set_option linter.unusedVariables false
namespace Go.Proofs.YtdniddiaiinggaaDoor
open Go.RowKit M

theorem sub_data (s : ByteArray) (a b : Nat) (h : a ≤ b) : (s.extract a b).data.toList = sub s.data.toList a b := by
  have e : b = a + (b - a) := by omega
  have := ext_data s a (b - a)
  rw [← e] at this
  exact this
theorem sub_sm (s : ByteArray) (a b : Nat) (h : IsSm s.size) : IsSm (s.extract a b).size := ⟨by rw [ByteArray.size_extract]; have := h.le; omega⟩
theorem val_quo {l : List UInt8} {k : Nat} {c : UInt8} {E1 : Nat} (hk : k < l.length) (hc : bAt l k = c) (h : c = 34 ∨ c = 39) (hE : spE (fun x => x != c) l (k + 1) = E1) : valB l k = (decB true (sub l (k + 1) E1), min (E1 + 1) l.length) := by
  unfold valB
  rw [hc, if_pos ⟨hk, h⟩, hE]
theorem val_bare {l : List UInt8} {k : Nat} {E1 : Nat} (h : ¬ (k < l.length ∧ (bAt l k = 34 ∨ bAt l k = 39))) (hE : spE (fun c => !stp [62] c) l k = E1) : valB l k = (decB true (sub l k E1), E1) := by
  unfold valB
  rw [if_neg h, hE]
set_option maxRecDepth 20000 in
set_option maxHeartbeats 2000000 in
theorem value_any (s V : ByteArray) (k E : Nat) (hs : IsSm s.size) (hk : k ≤ s.size) (hV : Fact (valB s.data.toList k = (V.data.toList, E))) (w : World) (hl : Laid w) :
    Calls Tryd.prog 82 #[.string s, .int .i64 k] w fun e w' => e = .returned (.tuple #[.string V, .int .i64 E]) ∧ Below w.heap.size w w' := by
  have HL := Fact.mk hl
  clear hl
  have hsz := hs.le
  obtain ⟨c, hc⟩ : ∃ c, bAt s.data.toList k = c := ⟨_, rfl⟩
  have h0 : (0 : Int) ≤ k := by omega
  by_cases hq : k < s.size ∧ (c = 34 ∨ c = 39)
  · have hlt := hq.1
    have h1 : (k : Int) < s.size := by omega
    have q1 : decide ((k : Int) < s.size) = true := decide_eq_true h1
    have hcc : s[k] = c := by rw [← byte_at s k hlt]; exact hc
    obtain ⟨E1, hE1⟩ : ∃ E1, Fact (spE (fun x => x != c) s.data.toList (k + 1) = E1) := ⟨_, ⟨rfl⟩⟩
    have hv := val_quo (by rw [← Lib.size_eq]; exact hlt) hc hq.2 hE1.out
    rw [hV.out, ← Lib.size_eq] at hv
    have hg : k + 1 ≤ E1 := by rw [← hE1.out]; exact spE_ge _ _ _
    have hle : E1 ≤ s.size := by rw [← hE1.out, Lib.size_eq]; exact spE_le _ (by rw [← Lib.size_eq]; exact hlt)
    obtain ⟨S1, hS1⟩ : ∃ S1 : ByteArray, s.extract (k + 1) E1 = S1 := ⟨_, rfl⟩
    have hd : Fact (decB true S1.data.toList = V.data.toList) := ⟨by rw [← hS1, sub_data s _ _ hg]; exact (congrArg Prod.fst hv).symm⟩
    have hS1m : IsSm S1.size := by rw [← hS1]; exact sub_sm s _ _ hs
    have hE : Fact (min (E1 + 1) s.size = E) := ⟨(congrArg Prod.snd hv).symm⟩
    have hw1 : wrap64 ((k : Int) + 1) = (k : Int) + 1 := wrap_ok (m := k + 1) rfl ⟨by omega⟩
    have e1 : ((k : Int) + 1).toNat = k + 1 := by omega
    have g1 : (k : Int) + 1 ≤ E1 := by omega
    have g2 : (E1 : Int) ≤ s.size := by omega
    have g3 : (0 : Int) ≤ (k : Int) + 1 := by omega
    have hk1 : k + 1 ≤ s.size := hlt
    have hcs := hq.2
    clear hv hV hc hq
    rcases hcs with rfl | rfl
    all_goals
      go_enter Tryd.func82, Tryd.ntmps82
      go_wp2_with (first
        | (go_at_call 54; refine (upTo_at s _ _ (k + 1) E1 _ (by first | rfl | omega) rfl hs hk1 hE1 _).mono ?_; rintro e w2 ⟨rfl, rfl⟩)
        | (go_at_call 45; refine (decode_at S1 V true hS1m hd _ HL.out).mono ?_; rintro e w3 ⟨rfl, hb3⟩)
        | (go_at_call 62; refine (past_any s E1 E hs hle hE _).mono ?_; rintro e w4 ⟨rfl, rfl⟩))
      go_ret2
      exact ⟨rfl, hb3⟩
  · obtain ⟨E1, hE1⟩ : ∃ E1, Fact (spE (fun x => !stp (⟨#[62]⟩ : ByteArray).data.toList x) s.data.toList k = E1) := ⟨_, ⟨rfl⟩⟩
    have hv := val_bare (l := s.data.toList) (k := k) (by rw [← Lib.size_eq, hc]; exact hq) hE1.out
    rw [hV.out] at hv
    have e2 : E = E1 := congrArg Prod.snd hv
    subst e2
    have hg : k ≤ E := by rw [← hE1.out]; exact spE_ge _ _ _
    have hle : E ≤ s.size := by rw [← hE1.out, Lib.size_eq]; exact spE_le _ (by rw [← Lib.size_eq]; exact hk)
    obtain ⟨S1, hS1⟩ : ∃ S1 : ByteArray, s.extract k E = S1 := ⟨_, rfl⟩
    have hd : Fact (decB true S1.data.toList = V.data.toList) := ⟨by rw [← hS1, sub_data s _ _ hg]; exact (congrArg Prod.fst hv).symm⟩
    have hS1m : IsSm S1.size := by rw [← hS1]; exact sub_sm s _ _ hs
    have g1 : (k : Int) ≤ E := by omega
    have g2 : (E : Int) ≤ s.size := by omega
    clear hv hV
    by_cases hlt : k < s.size
    · have h1 : (k : Int) < s.size := by omega
      have q1 : decide ((k : Int) < s.size) = true := decide_eq_true h1
      have hcc : s[k] = c := by rw [← byte_at s k hlt]; exact hc
      have c1 : c ≠ 34 := fun e => hq ⟨hlt, Or.inl e⟩
      have c2 : c ≠ 39 := fun e => hq ⟨hlt, Or.inr e⟩
      have q2 : ((c.toNat : Int) == 34) = false := u8_ne (by decide) c1
      have q3 : ((c.toNat : Int) == 39) = false := u8_ne (by decide) c2
      clear hc hq c1 c2
      go_enter Tryd.func82, Tryd.ntmps82
      go_wp2_with (first
        | (go_at_call 69; refine (wordEnd_any s k E ⟨#[62]⟩ hs hk hE1 _).mono ?_; rintro e w2 ⟨rfl, rfl⟩)
        | (go_at_call 45; refine (decode_at S1 V true hS1m hd _ HL.out).mono ?_; rintro e w3 ⟨rfl, hb3⟩))
      go_ret2
      exact ⟨rfl, hb3⟩
    · have h1 : (s.size : Int) ≤ k := by omega
      have q1 : decide ((k : Int) < s.size) = false := decide_eq_false (by omega)
      clear hc hq
      go_enter Tryd.func82, Tryd.ntmps82
      go_wp2_with (first
        | (go_at_call 69; refine (wordEnd_any s k E ⟨#[62]⟩ hs hk hE1 _).mono ?_; rintro e w2 ⟨rfl, rfl⟩)
        | (go_at_call 45; refine (decode_at S1 V true hS1m hd _ HL.out).mono ?_; rintro e w3 ⟨rfl, hb3⟩))
      go_ret2
      exact ⟨rfl, hb3⟩

/-- two cells of a block of one's own -/
structure Two (w : World) (b : Nat) (v0 v1 : Value) : Prop where
  c0 : w.cell? ⟨b, 0, none⟩ = some v0
  c1 : w.cell? ⟨b, 1, none⟩ = some v1
  fz : ∀ o, w.frozen? ⟨b, o, none⟩ = false
theorem Two.lt {w : World} {b : Nat} {v0 v1 : Value} (h : Two w b v0 v1) : b < w.heap.size := World.block_lt_of_cell? w _ h.c0
theorem Two.same {w w' : World} {b : Nat} {v0 v1 : Value} (h : Two w b v0 v1) (e : w'.heap[b]? = w.heap[b]?) : Two w' b v0 v1 :=
  ⟨(World.cell?_of_block (w := w) (a := ⟨b, 0, none⟩) e).trans h.c0, (World.cell?_of_block (w := w) (a := ⟨b, 1, none⟩) e).trans h.c1, fun o => (World.frozen?_of_block (w := w) (a := ⟨b, o, none⟩) e).trans (h.fz o)⟩
theorem Two.keep {w w' : World} {b : Nat} {v0 v1 : Value} (h : Two w b v0 v1) (hb : Below w.heap.size w w') : Two w' b v0 v1 := h.same (hb.block _ h.lt)
theorem Two.alloc {w : World} {b : Nat} {v0 v1 : Value} (h : Two w b v0 v1) (o : Obj) : Two (w.alloc o) b v0 v1 := h.keep (bl1 w o)
theorem Two.new (w : World) (v0 v1 : Value) (t : TypeId) : Two (w.alloc (.cells #[v0, v1] t)) w.heap.size v0 v1 :=
  ⟨World.cell?_alloc_new w _ _ 0, World.cell?_alloc_new w _ _ 1, fun o => World.frozen?_alloc_new _ _ _ _⟩
theorem Two.put {w : World} {b : Nat} {u0 u1 : Value} (h : Two w b u0 u1) (v0 v1 : Value) : Two ((w.setCell ⟨b, 0, none⟩ v0).setCell ⟨b, 1, none⟩ v1) b v0 v1 := by
  have g1 : ∀ (W : World) (o p : Nat) (v : Value), o ≠ p → (W.setCell ⟨b, p, none⟩ v).cell? ⟨b, o, none⟩ = W.cell? ⟨b, o, none⟩ := fun W o p v hop => World.cell?_setCell_other _ _ _ _ (by intro e; cases e; exact hop rfl)
  have g2 : ∀ (W : World) (o : Nat) (v : Value), (W.cell? ⟨b, o, none⟩).isSome = true → (W.setCell ⟨b, o, none⟩ v).cell? ⟨b, o, none⟩ = some v := fun W o v hs => World.cell?_setCell_same' _ _ _ hs
  refine ⟨?_, ?_, fun o => by simp only [World.frozen?_setCell]; exact h.fz o⟩
  · rw [g1 _ 0 1 _ (by omega)]; exact g2 _ _ _ (by rw [h.c0]; rfl)
  · exact g2 _ _ _ (by rw [g1 _ 1 0 _ (by omega), h.c1]; rfl)
theorem Two.set1 {w : World} {b : Nat} {u0 u1 : Value} (h : Two w b u0 u1) (v : Value) : Two (w.setCell ⟨b, 1, none⟩ v) b u0 v := by
  refine ⟨?_, World.cell?_setCell_same' _ _ _ (by rw [h.c1]; rfl), fun o => by simp only [World.frozen?_setCell]; exact h.fz o⟩
  rw [World.cell?_setCell_other _ _ _ _ (by intro e; cases e)]
  exact h.c0
theorem Two.other {w : World} {b : Nat} {u0 u1 : Value} (h : Two w b u0 u1) (c o : Nat) (v : Value) (hc : b ≠ c) : Two (w.setCell ⟨c, o, none⟩ v) b u0 u1 := by
  refine ⟨?_, ?_, fun o => by simp only [World.frozen?_setCell]; exact h.fz o⟩
  · rw [World.cell?_setCell_other _ _ _ _ (by intro e; cases e; exact hc rfl)]; exact h.c0
  · rw [World.cell?_setCell_other _ _ _ _ (by intro e; cases e; exact hc rfl)]; exact h.c1

abbrev attV (n v : ByteArray) : Value := .agg #[.string n, .string v]
set_option maxRecDepth 20000 in
set_option maxHeartbeats 2000000 in
theorem attribute_any (s N V : ByteArray) (k E : Nat) (hs : IsSm s.size) (hk : k < s.size) (hN : Fact (attN s.data.toList k = N.data.toList)) (hV : Fact (attB s.data.toList k = (V.data.toList, E))) (w : World) (hl : Laid w) :
    Calls Tryd.prog 72 #[.string s, .int .i64 k] w fun e w' => e = .returned (.tuple #[attV N V, .int .i64 E]) ∧ Below w.heap.size w w' := by
  have HL := Fact.mk hl
  clear hl
  have hsz := hs.le
  have h0 : (0 : Int) ≤ k := by omega
  have hkl : k < s.data.toList.length := by rw [← Lib.size_eq]; exact hk
  obtain ⟨E1, hE1⟩ : ∃ E1, Fact (spE (fun x => !stp (⟨#[47, 62, 61]⟩ : ByteArray).data.toList x) s.data.toList (k + 1) = E1) := ⟨_, ⟨rfl⟩⟩
  have hA : attE s.data.toList k = E1 := hE1.out
  have hle := attE_le hkl
  rw [hA, ← Lib.size_eq] at hle
  obtain ⟨hg, hle⟩ := hle
  obtain ⟨S1, hS1⟩ : ∃ S1 : ByteArray, s.extract k E1 = S1 := ⟨_, rfl⟩
  have hN1 : Fact (nmB S1.data.toList = N.data.toList) := ⟨by rw [← hS1, sub_data s _ _ (by omega), ← hN.out]; unfold attN; rw [hA]⟩
  have hS1m : IsSm S1.size := by rw [← hS1]; exact sub_sm s _ _ hs
  obtain ⟨E2, hE2⟩ : ∃ E2, Fact (spE blk s.data.toList E1 = E2) := ⟨_, ⟨rfl⟩⟩
  have hg2 : E1 ≤ E2 := by rw [← hE2.out]; exact spE_ge _ _ _
  have hle2 : E2 ≤ s.size := by rw [← hE2.out, Lib.size_eq]; exact spE_le _ (by rw [← Lib.size_eq]; exact hle)
  have hw1 : wrap64 ((k : Int) + 1) = (k : Int) + 1 := wrap_ok (m := k + 1) rfl ⟨by omega⟩
  have g1 : (k : Int) ≤ E1 := by omega
  have g2 : (E1 : Int) ≤ s.size := by omega
  have hk1 : k + 1 ≤ s.size := hk
  have hv := hV.out
  unfold attB at hv
  rw [hA, hE2.out, ← Lib.size_eq] at hv
  clear hV hN hA hkl
  by_cases hq : E2 < s.size ∧ bAt s.data.toList E2 = 61
  · rw [if_pos hq] at hv
    obtain ⟨hlt, hc⟩ := hq
    have hcc : s[E2] = 61 := by rw [← byte_at s E2 hlt]; exact hc
    have h1 : (E2 : Int) < s.size := by omega
    have h2 : (0 : Int) ≤ E2 := by omega
    have q1 : decide ((E2 : Int) < s.size) = true := decide_eq_true h1
    obtain ⟨E3, hE3⟩ : ∃ E3, Fact (spE blk s.data.toList (E2 + 1) = E3) := ⟨_, ⟨rfl⟩⟩
    rw [hE3.out] at hv
    have HV := Fact.mk hv
    have hle3 : E3 ≤ s.size := by rw [← hE3.out, Lib.size_eq]; exact spE_le _ (by rw [← Lib.size_eq]; exact hlt)
    have hw2 : wrap64 ((E2 : Int) + 1) = (E2 : Int) + 1 := wrap_ok (m := E2 + 1) rfl ⟨by omega⟩
    have hlt1 : E2 + 1 ≤ s.size := hlt
    clear hv hc
    go_enter Tryd.func72, Tryd.ntmps72
    have tok1 : True := trivial
    go_wp2_with (first
      | (go_at_call 69; refine (wordEnd_at s _ (k + 1) E1 ⟨#[47, 62, 61]⟩ (by first | rfl | omega) hs hk1 hE1 _).mono ?_; rintro e w2 ⟨rfl, rfl⟩)
      | (go_at_call 70; refine (tagName_any S1 N hN1 hS1m _).mono ?_; rintro e w1 ⟨rfl, hb1⟩; have T0 := Fact.mk ((Two.new w _ _ _).keep hb1); have A0 : ∀ o, (w1.alloc o).cell? ⟨w.heap.size, 0, none⟩ = some (.string ⟨#[]⟩) := (fun o => (T0.out.alloc o).c0); have A1 : ∀ o, (w1.alloc o).cell? ⟨w.heap.size, 1, none⟩ = some (.string ⟨#[]⟩) := (fun o => (T0.out.alloc o).c1); have hB1 := Fact.mk ((bl1 w _).trans (hb1.mono (bl1 w _).size)); clear hb1)
      | (have _t := tok1; go_at_call 76; refine (blanksEnd_any s E1 E2 hs hle hE2 _).mono ?_; rintro e w2 ⟨rfl, rfl⟩; clear tok1 _t)
      | (go_at_call 76; refine (blanksEnd_at s _ (E2 + 1) E3 (by first | rfl | omega) hs hlt1 hE3 _).mono ?_; rintro e w2 ⟨rfl, rfl⟩)
      | (go_at_call 82; refine (value_any s V E3 E hs hle3 HV _ (HL.out.since (hB1.out.alloc hB1.out.size _))).mono ?_; rintro e w3 ⟨rfl, hb3⟩; have T1 := Fact.mk ((Two.new w1 _ _ _).keep hb3); have T2 := Fact.mk ((T0.out.alloc _).keep hb3); obtain ⟨c0, c1, fz⟩ := T1.out; obtain ⟨d0, d1, dz⟩ := T2.out; have hB3 := Fact.mk ((hB1.out.alloc hB1.out.size _).trans (hb3.mono (Nat.le_trans hB1.out.size (bl1 w1 _).size))); have hne : w.heap.size < w1.heap.size := T0.out.lt; have hne2 : w.heap.size ≠ w1.heap.size := Nat.ne_of_lt hne; have hne3 : w1.heap.size ≠ w.heap.size := Nat.ne_of_gt hne; clear hb3))
    have t1 := T1.out.set1 (.string V)
    have t2 := (T2.out.other w1.heap.size 1 (.string V) hne2).put (.string N) (.string V)
    obtain ⟨p0, p1, pz⟩ := t2
    refine bodyPost_ret (v := .tuple #[attV N V, .int .i64 E]) (by simp [results, Tryd.f72, go_sem, p0, p1]) rfl ?_
    exact ⟨rfl, ((hB3.out.setCell hB1.out.size _).setCell (Nat.le_refl _) _).setCell (Nat.le_refl _) _⟩
  · rw [if_neg hq] at hv
    have e1 : V = ⟨#[]⟩ := by
      apply ByteArray.ext
      apply Array.toList_inj.1
      exact (congrArg Prod.fst hv).symm
    have e2 : E2 = E := congrArg Prod.snd hv
    subst e1 e2
    clear hv
    by_cases hlt : E2 < s.size
    · obtain ⟨c, hc⟩ : ∃ c, bAt s.data.toList E2 = c := ⟨_, rfl⟩
      have hcc : s[E2] = c := by rw [← byte_at s E2 hlt]; exact hc
      have h1 : (E2 : Int) < s.size := by omega
      have h2 : (0 : Int) ≤ E2 := by omega
      have q1 : decide ((E2 : Int) < s.size) = true := decide_eq_true h1
      have c61 : c ≠ 61 := fun e => hq ⟨hlt, hc.trans e⟩
      have q2 : ((c.toNat : Int) == 61) = false := u8_ne (by decide) c61
      clear hc hq c61
      go_enter Tryd.func72, Tryd.ntmps72
      go_wp2_with (first
        | (go_at_call 69; refine (wordEnd_at s _ (k + 1) E1 ⟨#[47, 62, 61]⟩ (by first | rfl | omega) hs hk1 hE1 _).mono ?_; rintro e w2 ⟨rfl, rfl⟩)
        | (go_at_call 70; refine (tagName_any S1 N hN1 hS1m _).mono ?_; rintro e w1 ⟨rfl, hb1⟩; have T0 := Fact.mk ((Two.new w _ _ _).keep hb1); obtain ⟨c0, c1, fz⟩ := T0.out; have hB1 := Fact.mk ((bl1 w _).trans (hb1.mono (bl1 w _).size)); have hne : w.heap.size < w1.heap.size := T0.out.lt; have hne2 : w.heap.size ≠ w1.heap.size := Nat.ne_of_lt hne; clear hb1)
        | (go_at_call 76; refine (blanksEnd_any s E1 E2 hs hle hE2 _).mono ?_; rintro e w2 ⟨rfl, rfl⟩))
      have t2 := (T0.out.put (.string N) (.string ⟨#[]⟩)).alloc (.cells #[.string N, .string ⟨#[]⟩] 30)
      obtain ⟨p0, p1, pz⟩ := t2
      refine bodyPost_ret (v := .tuple #[attV N ⟨#[]⟩, .int .i64 E2]) (by simp [results, Tryd.f72, go_sem, p0, p1]) rfl ?_
      exact ⟨rfl, ((hB1.out.setCell (Nat.le_refl _) _).setCell (Nat.le_refl _) _).alloc (((hB1.out.setCell (Nat.le_refl _) _).setCell (Nat.le_refl _) _).size) _⟩
    · have h1 : (s.size : Int) ≤ E2 := by omega
      have q1 : decide ((E2 : Int) < s.size) = false := decide_eq_false (by omega)
      clear hq
      go_enter Tryd.func72, Tryd.ntmps72
      go_wp2_with (first
        | (go_at_call 69; refine (wordEnd_at s _ (k + 1) E1 ⟨#[47, 62, 61]⟩ (by first | rfl | omega) hs hk1 hE1 _).mono ?_; rintro e w2 ⟨rfl, rfl⟩)
        | (go_at_call 70; refine (tagName_any S1 N hN1 hS1m _).mono ?_; rintro e w1 ⟨rfl, hb1⟩; have T0 := Fact.mk ((Two.new w _ _ _).keep hb1); obtain ⟨c0, c1, fz⟩ := T0.out; have hB1 := Fact.mk ((bl1 w _).trans (hb1.mono (bl1 w _).size)); have hne : w.heap.size < w1.heap.size := T0.out.lt; have hne2 : w.heap.size ≠ w1.heap.size := Nat.ne_of_lt hne; clear hb1)
        | (go_at_call 76; refine (blanksEnd_any s E1 E2 hs hle hE2 _).mono ?_; rintro e w2 ⟨rfl, rfl⟩))
      have t2 := (T0.out.put (.string N) (.string ⟨#[]⟩)).alloc (.cells #[.string N, .string ⟨#[]⟩] 30)
      obtain ⟨p0, p1, pz⟩ := t2
      refine bodyPost_ret (v := .tuple #[attV N ⟨#[]⟩, .int .i64 E2]) (by simp [results, Tryd.f72, go_sem, p0, p1]) rfl ?_
      exact ⟨rfl, ((hB1.out.setCell (Nat.le_refl _) _).setCell (Nat.le_refl _) _).alloc (((hB1.out.setCell (Nat.le_refl _) _).setCell (Nat.le_refl _) _).size) _⟩
end Go.Proofs.YtdniddiaiinggaaDoor
