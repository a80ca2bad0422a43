/- ScanEnds: the last piece, and no other one, is the end. -/
import Derived.Test.YtdniddiaiinggaaDoorSF
import Derived.Deep.QuietTactic
import Derived.Laws.Cover1
import Derived.Sort.Walk0
set_option linter.unusedVariables false
set_option linter.unusedSimpArgs false
namespace Go.Proofs.YtdniddiaiinggaaDoor
open Go.RowKit M

/-- the tokens of All, each as it should be -/
structure EndsI (l : List UInt8) (its : List (Tk × Value)) : Prop where
  good : ∀ j p, its[j]? = some p → j + 1 < its.length → Good l p.1
  last : ∀ p, its[its.length - 1]? = some p → p.1 = endTk
theorem AllR.ends {w w' : World} {l : List UInt8} {v : Value} {tr : List Pc} {x : Pc} {its : List (Tk × Value)} (h : AllR w l w' v tr x its) : EndsI l (its ++ [(endTk, .slice none 0 0)]) := by
  refine ⟨fun j p hj hl => ?_, fun p hp => ?_⟩
  · rw [List.length_append, List.length_singleton] at hl
    rw [List.getElem?_append_left (by omega)] at hj
    refine said_good tr h.trs.pre h.no6 p.1 ?_
    rw [← h.map]
    exact List.mem_map_of_mem (List.mem_of_getElem? hj)
  · rw [List.length_append, List.length_singleton, Nat.add_sub_cancel, List.getElem?_append_right (Nat.le_refl _), Nat.sub_self] at hp
    simp at hp
    rw [← hp]
theorem row_max {w : World} {B E z n : Nat} {v : Value} {xs : List Value} (h : w.ownsRow B E z v n xs) : n ≤ maxLen := by
  rcases h.2 with ⟨_, h0⟩ | ⟨g, cap, cur, _, _, _, hc1, hc2, _, _⟩
  · rw [h0]; exact Nat.zero_le _
  · exact Nat.le_trans hc1 hc2
theorem leq_no {a b : List UInt8} (h : a < b) : Op.bytesLess (tx b).toList (tx a).toList = false ∧ ((tx b).toList == (tx a).toList) = false := by
  have h1 : ¬ b < a := fun e => List.lt_irrefl a (List.lt_trans h e)
  have h2 : b ≠ a := fun e => List.lt_irrefl a (e ▸ h)
  rw [Lib.toList_data, Lib.toList_data]
  exact ⟨by rw [Go.Proofs.bytesLess_eq]; exact decide_eq_false h1, by rw [beq_eq_false_iff_ne]; exact h2⟩
theorem keepE {w4 w' w5 : World} {z : Nat} {x0 x1 x2 x3 x4 : Value} (hz : z < w4.heap.size) (hb : Below w'.heap.size w' w5) (h : Below w4.heap.size w4 w' ∧ w'.cell? ⟨z, 0, none⟩ = some x0 ∧ w'.cell? ⟨z, 1, none⟩ = some x1 ∧ w'.cell? ⟨z, 2, none⟩ = some x2 ∧ w'.cell? ⟨z, 3, none⟩ = some x3 ∧ w'.cell? ⟨z, 4, none⟩ = some x4) :
    Below w4.heap.size w4 w5 ∧ w5.cell? ⟨z, 0, none⟩ = some x0 ∧ w5.cell? ⟨z, 1, none⟩ = some x1 ∧ w5.cell? ⟨z, 2, none⟩ = some x2 ∧ w5.cell? ⟨z, 3, none⟩ = some x3 ∧ w5.cell? ⟨z, 4, none⟩ = some x4 := by
  obtain ⟨h0, q0, q1, q2, q3, q4⟩ := h
  have hs := h0.size
  have k : ∀ o, w5.cell? ⟨z, o, none⟩ = w'.cell? ⟨z, o, none⟩ := fun o => hb.cell (p := ⟨z, o, none⟩) (Nat.lt_of_lt_of_le hz hs)
  exact ⟨h0.trans (hb.mono hs), (k 0).trans q0, (k 1).trans q1, (k 2).trans q2, (k 3).trans q3, (k 4).trans q4⟩
set_option maxRecDepth 20000 in
set_option maxHeartbeats 4000000 in
theorem ends_walk (s : ByteArray) (w : World) (hl : Laid w) : Calls Tryd.prog 3 #[.string s] w fun e w' => e = .returned (.bool true) ∧ Below w.heap.size w w' := by
  have HL := Fact.mk hl
  clear hl
  by_cases h1 : 3000 < s.size
  · have i1 : (3000 : Int) < s.size := by omega
    have q1 : decide ((3000 : Int) < s.size) = true := decide_eq_true i1
    go_enter Tryd.func3, Tryd.ntmps3
    go_wp2_with (go_at_call 8; refine (awake11_true _ HL.out).mono ?_; rintro e w1 ⟨rfl, hb1⟩)
    go_ret
    exact ⟨rfl, hb1⟩
  have i1 : (s.size : Int) ≤ 3000 := by omega
  have q1 : decide ((3000 : Int) < s.size) = false := decide_eq_false (by omega)
  have q1n : decide (3000 < s.size) = false := decide_eq_false h1
  go_enter Tryd.func3, Tryd.ntmps3
  go_wp2_with (go_at_call 9; refine (all_any s (by omega) _ HL.out).mono ?_; rintro e w2 ⟨v, tr, x, its0, rfl, hR⟩; have HB2 := Fact.mk hR.below; have HT := Fact.mk hR.toks; have HE := Fact.mk hR.ends; have HLL : Fact ((U.C false s.data.toList).length ≤ 9000) := ⟨(by have h4 := U.C_len s.data.toList false; rw [← Lib.size_eq] at h4; omega)⟩; have hlen : its0.length ≤ 9000 := (by have h1 := congrArg List.length hR.map; rw [List.length_map] at h1; have h2 := sayd_len tr; have h3 := TrR.len tr hR.trs.pre hR.no6; have h4 := U.C_len s.data.toList false; rw [← Lib.size_eq] at h4; omega); obtain ⟨its, hits⟩ : ∃ its, its0 ++ [(endTk, Value.slice none 0 0)] = its := ⟨_, rfl⟩; have hn0 : 0 < its.length := (by rw [← hits]; simp); have hn1 : its.length ≤ 9001 := (by rw [← hits]; simp; omega); rw [hits] at HT HE; clear hits hlen hR; obtain ⟨g, cap, rfl, hg1, hg2, hg3, hc⟩ := HT.out.read hn0; obtain ⟨n, hn⟩ : ∃ n, its.length = n := ⟨_, rfl⟩; rw [hn] at hn0 hn1 hg3 ⊢; have HN := Fact.mk hn; have HC := Fact.mk hc; clear hn hc)
  go_loopw [4] (fun i wx => ∃ j : Nat, i = .int .i64 j ∧ j ≤ n ∧ Below w2.heap.size w2 wx) (fun i _ => n - (intOf i).toNat)
  case atStart => exact ⟨0, rfl, Nat.zero_le _, Below.refl _ _⟩
  case round =>
    obtain ⟨j, rfl, hj, hb⟩ := hrel
    have HB := Fact.mk hb
    clear hb
    by_cases hlt : j < n
    · obtain ⟨p, hp⟩ : ∃ p, its[j]? = some p := ⟨its[j]'(by rw [HN.out]; exact hlt), List.getElem?_eq_getElem _⟩
      have hav := HT.out.avs p (List.mem_of_getElem? hp)
      have hcs := HC.out j p hp
      have hgd : j + 1 < n → Good _ p.1 := fun h => HE.out.good j p hp (by rw [HN.out]; exact h)
      have hls : j + 1 = n → p.1 = endTk := fun h => HE.out.last p (by rw [HN.out, ← h]; exact hp)
      obtain ⟨⟨kd, N, X, AA, r⟩, av⟩ := p
      obtain ⟨va, vc, ev⟩ := row_slice hav
      dsimp only at hav hcs hgd hls ev
      subst ev
      obtain ⟨m, hm⟩ : ∃ m, AA.length = m := ⟨_, rfl⟩
      rw [hm] at hcs
      have kp : ∀ {o : Nat} {u : Value}, w2.cell? ⟨g, o, none⟩ = some u → wr.cell? ⟨g, o, none⟩ = some u := fun h => (HB.out.cell (p := ⟨g, _, none⟩) hg2).trans h
      have c0 := kp hcs.1
      have c1 := kp hcs.2.1
      have c2 := kp hcs.2.2.1
      have c3 := kp hcs.2.2.2.1
      have c4 := kp hcs.2.2.2.2
      have HAV := Fact.mk hav
      have HM := Fact.mk hm
      have HGD := Fact.mk hgd
      clear hcs hav hm
      have a1 : (j : Int) < n := by omega
      have q4 : decide ((j : Int) < n) = true := decide_eq_true a1
      have q4n : decide (j < n) = true := decide_eq_true hlt
      have hw1 : wrap64 ((n : Int) - 1) = (n : Int) - 1 := by unfold wrap64; omega
      have hw2 : wrap64 ((j : Int) + 1) = ((j + 1 : Nat) : Int) := wrap_ok rfl ⟨by omega⟩
      have hbr : Below w2.heap.size w2 (wr.alloc (.cells #[.int .i64 kd, .string N, .string X, .slice va m vc, .bool r] 27)) := HB.out.alloc HB.out.size _
      have HBR := Fact.mk hbr
      clear hbr
      by_cases hk1 : kd = 1
      · have HK1 := Fact.mk hk1
        have q1k : (kd == 1) = true := by rw [hk1]; rfl
        have q2k : (kd == 2) = false := by rw [hk1]; rfl
        have q3k : (kd == 3) = false := by rw [hk1]; rfl
        have q6k : (kd == 6) = false := by rw [hk1]; rfl
        have q7 : decide (kd < 1) = false := by rw [hk1]; rfl
        have q8 : decide ((6 : Int) < kd) = false := by rw [hk1]; rfl
        have hj2 : j + 1 < n := by
          rcases Nat.lt_or_ge (j + 1) n with h | h
          · exact h
          · exact absurd (congrArg Tk.kd (hls (by omega))) (by show ¬ kd = 6; omega)
        have hG := hgd hj2
        have q5 : ((j : Int) == (n : Int) - 1) = false := by rw [beq_eq_false_iff_ne]; omega
        obtain ⟨hne, hlow⟩ := hG.st hk1
        dsimp only at hne hlow
        have hasc := hG.asc
        dsimp only at hasc
        have hLow : Fact (lwL N.data.toList = N.data.toList) := ⟨hlow⟩
        have q9 : (N.toList == []) = false := by rw [Lib.toList_data, beq_eq_false_iff_ne]; exact hne
        have q10 : (N.toList == N.toList) = true := beq_self_eq_true _
        have hNs : IsSm N.size := ⟨by have := hG.nl hk1; rw [Lib.size_eq]; dsimp only at this; have := HLL.out; omega⟩
        have HASC := Fact.mk hasc
        clear hgd hls hlow hne hG hasc hk1
        go_wp2_with fail
        obtain ⟨w4, hw4⟩ : ∃ w4, wr.alloc (.cells #[.int .i64 kd, .string N, .string X, .slice va m vc, .bool r] 27) = w4 := ⟨_, rfl⟩
        have hF4 : Five w4 wr.heap.size (.int .i64 kd) (.string N) (.string X) (.slice va m vc) (.bool r) := by rw [← hw4]; exact Five.new wr _ _ _ _ _ _
        have hz4 : wr.heap.size < w4.heap.size := hF4.lt
        have HB4 : Fact (Below w2.heap.size w2 w4) := ⟨by rw [← hw4]; exact HBR.out⟩
        have hS0 : Below w4.heap.size w4 w4.drew ∧ w4.drew.cell? ⟨wr.heap.size, 0, none⟩ = some (.int .i64 kd) ∧ w4.drew.cell? ⟨wr.heap.size, 1, none⟩ = some (.string N) ∧ w4.drew.cell? ⟨wr.heap.size, 2, none⟩ = some (.string X) ∧ w4.drew.cell? ⟨wr.heap.size, 3, none⟩ = some (.slice va m vc) ∧ w4.drew.cell? ⟨wr.heap.size, 4, none⟩ = some (.bool r) := ⟨(Below.refl _ w4).drew, hF4.c0, hF4.c1, hF4.c2, hF4.c3, hF4.c4⟩
        rw [hw4]
        clear hw4 hF4 HBR c0 c1 c2 c3 c4 kp
        refine wp_region_held_drew (S := (fun w' => Below w4.heap.size w4 w' ∧ w'.cell? ⟨wr.heap.size, 0, none⟩ = some (.int .i64 kd) ∧ w'.cell? ⟨wr.heap.size, 1, none⟩ = some (.string N) ∧ w'.cell? ⟨wr.heap.size, 2, none⟩ = some (.string X) ∧ w'.cell? ⟨wr.heap.size, 3, none⟩ = some (.slice va m vc) ∧ w'.cell? ⟨wr.heap.size, 4, none⟩ = some (.bool r))) (by kernel_rfl) hS0 (fun _ => ?_)
        refine wpAnyH_take (i := 0) (v := ?v0n1) rfl (by kernel_rfl) (by kernel_rfl) (by kernel_rfl) (fun _ _ _ h => h) (Or.inl ⟨by rfl, ?hy0n1⟩) hS0 ?rr0n1
        case hy0n1 =>
          intro w hSw
          go_simp
          try with_reducible rfl
        try simp only [Act.put, List.getElem_toArray, List.getElem_cons_succ, List.getElem_cons_zero, List.setIfInBounds_toArray, List.set_cons_zero, List.set_cons_succ]
        refine wpAnyH_take (i := 1) (v := ?v1n2) rfl (by kernel_rfl) (by kernel_rfl) (by kernel_rfl) (fun _ _ _ h => h) (Or.inl ⟨by rfl, ?hy1n2⟩) hS0 ?rr1n2
        case hy1n2 =>
          intro w hSw
          go_simp
          try with_reducible rfl
        try simp only [Act.put, List.getElem_toArray, List.getElem_cons_succ, List.getElem_cons_zero, List.setIfInBounds_toArray, List.set_cons_zero, List.set_cons_succ]
        refine wpAnyH_take (i := 2) (v := ?v2n3) rfl (by kernel_rfl) (by kernel_rfl) (by kernel_rfl) (fun _ _ _ h => h) (Or.inl ⟨by rfl, ?hy2n3⟩) hS0 ?rr2n3
        case hy2n3 =>
          intro w hSw
          go_simp
          try with_reducible rfl
        try simp only [Act.put, List.getElem_toArray, List.getElem_cons_succ, List.getElem_cons_zero, List.setIfInBounds_toArray, List.set_cons_zero, List.set_cons_succ]
        refine wpAnyH_take (i := 3) (v := ?v3n4) rfl (by kernel_rfl) (by kernel_rfl) (by kernel_rfl) (fun _ _ _ h => h) (Or.inl ⟨by rfl, ?hy3n4⟩) hS0 ?rr3n4
        case hy3n4 =>
          intro w hSw
          go_simp
          try with_reducible rfl
        try simp only [Act.put, List.getElem_toArray, List.getElem_cons_succ, List.getElem_cons_zero, List.setIfInBounds_toArray, List.set_cons_zero, List.set_cons_succ]
        refine wpAnyH_take (i := 4) (v := ?v4n5) rfl (by kernel_rfl) (by kernel_rfl) (by kernel_rfl) (fun _ _ _ h => h) (Or.inl ⟨by rfl, ?hy4n5⟩) hS0 ?rr4n5
        case hy4n5 =>
          intro w hSw
          go_simp
          try with_reducible rfl
        try simp only [Act.put, List.getElem_toArray, List.getElem_cons_succ, List.getElem_cons_zero, List.setIfInBounds_toArray, List.set_cons_zero, List.set_cons_succ]
        refine wpAnyH_take (i := 5) (v := ?v5n6) rfl (by kernel_rfl) (by kernel_rfl) (by kernel_rfl) (fun _ _ _ h => h) (Or.inl ⟨by rfl, ?hy5n6⟩) hS0 ?rr5n6
        case hy5n6 =>
          intro w hSw
          go_simp
          try with_reducible rfl
        try simp only [Act.put, List.getElem_toArray, List.getElem_cons_succ, List.getElem_cons_zero, List.setIfInBounds_toArray, List.set_cons_zero, List.set_cons_succ]
        refine wpAnyH_take (i := 6) (v := ?v6n7) rfl (by kernel_rfl) (by kernel_rfl) (by kernel_rfl) (fun _ _ _ h => h) (Or.inl ⟨by rfl, ?hy6n7⟩) hS0 ?rr6n7
        case hy6n7 =>
          intro w hSw
          go_simp
          try with_reducible rfl
        try simp only [Act.put, List.getElem_toArray, List.getElem_cons_succ, List.getElem_cons_zero, List.setIfInBounds_toArray, List.set_cons_zero, List.set_cons_succ]
        refine wpAnyH_take (i := 7) (v := ?v7n8) rfl (by kernel_rfl) (by kernel_rfl) (by kernel_rfl) (fun _ _ _ h => h) (Or.inl ⟨by rfl, ?hy7n8⟩) hS0 ?rr7n8
        case hy7n8 =>
          intro w hSw
          go_simp
          try with_reducible rfl
        try simp only [Act.put, List.getElem_toArray, List.getElem_cons_succ, List.getElem_cons_zero, List.setIfInBounds_toArray, List.set_cons_zero, List.set_cons_succ]
        refine wpAnyH_take (i := 8) (v := ?v8n9) rfl (by kernel_rfl) (by kernel_rfl) (by kernel_rfl) (fun _ _ _ h => h) (Or.inl ⟨by rfl, ?hy8n9⟩) hS0 ?rr8n9
        case hy8n9 =>
          intro w hSw
          go_simp
          try with_reducible rfl
        try simp only [Act.put, List.getElem_toArray, List.getElem_cons_succ, List.getElem_cons_zero, List.setIfInBounds_toArray, List.set_cons_zero, List.set_cons_succ]
        refine wpAnyH_take (i := 9) (v := ?v9n10) rfl (by kernel_rfl) (by kernel_rfl) (by kernel_rfl) (fun _ _ _ h => h) (Or.inl ⟨by rfl, ?hy9n10⟩) hS0 ?rr9n10
        case hy9n10 =>
          intro w hSw
          go_simp
          try with_reducible rfl
        try simp only [Act.put, List.getElem_toArray, List.getElem_cons_succ, List.getElem_cons_zero, List.setIfInBounds_toArray, List.set_cons_zero, List.set_cons_succ]
        refine wpAnyH_take (i := 11) (v := ?v11n11) rfl (by kernel_rfl) (by kernel_rfl) (by kernel_rfl) (fun _ _ _ h => h) (Or.inl ⟨by rfl, ?hy11n11⟩) hS0 ?rr11n11
        case hy11n11 =>
          intro w hSw
          go_simp
          try with_reducible rfl
        try simp only [Act.put, List.getElem_toArray, List.getElem_cons_succ, List.getElem_cons_zero, List.setIfInBounds_toArray, List.set_cons_zero, List.set_cons_succ]
        refine wpAnyH_take (i := 12) (v := ?v12n12) rfl (by kernel_rfl) (by kernel_rfl) (by kernel_rfl) (fun _ _ _ h => h) (Or.inl ⟨by rfl, ?hy12n12⟩) hS0 ?rr12n12
        case hy12n12 =>
          intro w hSw
          go_simp
          try with_reducible rfl
        try simp only [Act.put, List.getElem_toArray, List.getElem_cons_succ, List.getElem_cons_zero, List.setIfInBounds_toArray, List.set_cons_zero, List.set_cons_succ]
        refine wpAnyH_ready (rs := [10]) (by kernel_rfl) (by simp) ?_
        refine AllReadyH.cons rfl (fun K hK => ?_) AllReadyH.nil
        go_simp
        refine (refLower_any N N hLow hNs _).mono ?_
        rintro e w5 ⟨rfl, hb5⟩
        have hS5 := keepE hz4 hb5 hS0
        refine hK.out _ _ hS5 (fun _ => ?_)
        clear hK K
        refine wpAnyH_take (i := 13) (v := ?v13n13) rfl (by kernel_rfl) (by kernel_rfl) (by kernel_rfl) (fun _ _ _ h => h) (Or.inl ⟨by rfl, ?hy13n13⟩) hS5 ?rr13n13
        case hy13n13 =>
          intro w hSw
          go_simp
          try with_reducible rfl
        try simp only [Act.put, List.getElem_toArray, List.getElem_cons_succ, List.getElem_cons_zero, List.setIfInBounds_toArray, List.set_cons_zero, List.set_cons_succ]
        refine wpAnyH_take (i := 14) (v := ?v14n14) rfl (by kernel_rfl) (by kernel_rfl) (by kernel_rfl) (fun _ _ _ h => h) (Or.inl ⟨by rfl, ?hy14n14⟩) hS5 ?rr14n14
        case hy14n14 =>
          intro w hSw
          go_simp
          try with_reducible rfl
        try simp only [Act.put, List.getElem_toArray, List.getElem_cons_succ, List.getElem_cons_zero, List.setIfInBounds_toArray, List.set_cons_zero, List.set_cons_succ]
        refine wpAnyH_take (i := 15) (v := ?v15n15) rfl (by kernel_rfl) (by kernel_rfl) (by kernel_rfl) (fun _ _ _ h => h) (Or.inl ⟨by rfl, ?hy15n15⟩) hS5 ?rr15n15
        case hy15n15 =>
          intro w hSw
          go_simp
          try with_reducible rfl
        try simp only [Act.put, List.getElem_toArray, List.getElem_cons_succ, List.getElem_cons_zero, List.setIfInBounds_toArray, List.set_cons_zero, List.set_cons_succ]
        refine wpAnyH_take (i := 16) (v := ?v16n16) rfl (by kernel_rfl) (by kernel_rfl) (by kernel_rfl) (fun _ _ _ h => h) (Or.inl ⟨by rfl, ?hy16n16⟩) hS5 ?rr16n16
        case hy16n16 =>
          intro w hSw
          go_simp
          try with_reducible rfl
        try simp only [Act.put, List.getElem_toArray, List.getElem_cons_succ, List.getElem_cons_zero, List.setIfInBounds_toArray, List.set_cons_zero, List.set_cons_succ]
        refine wpAnyH_take (i := 17) (v := ?v17n17) rfl (by kernel_rfl) (by kernel_rfl) (by kernel_rfl) (fun _ _ _ h => h) (Or.inl ⟨by rfl, ?hy17n17⟩) hS5 ?rr17n17
        case hy17n17 =>
          intro w hSw
          go_simp
          try with_reducible rfl
        try simp only [Act.put, List.getElem_toArray, List.getElem_cons_succ, List.getElem_cons_zero, List.setIfInBounds_toArray, List.set_cons_zero, List.set_cons_succ]
        refine wpAnyH_take (i := 18) (v := ?v18n18) rfl (by kernel_rfl) (by kernel_rfl) (by kernel_rfl) (fun _ _ _ h => h) (Or.inl ⟨by rfl, ?hy18n18⟩) hS5 ?rr18n18
        case hy18n18 =>
          intro w hSw
          go_simp
          try with_reducible rfl
        try simp only [Act.put, List.getElem_toArray, List.getElem_cons_succ, List.getElem_cons_zero, List.setIfInBounds_toArray, List.set_cons_zero, List.set_cons_succ]
        refine wpAnyH_take (i := 19) (v := ?v19n19) rfl (by kernel_rfl) (by kernel_rfl) (by kernel_rfl) (fun _ _ _ h => h) (Or.inl ⟨by rfl, ?hy19n19⟩) hS5 ?rr19n19
        case hy19n19 =>
          intro w hSw
          go_simp
          try with_reducible rfl
        try simp only [Act.put, List.getElem_toArray, List.getElem_cons_succ, List.getElem_cons_zero, List.setIfInBounds_toArray, List.set_cons_zero, List.set_cons_succ]
        refine wpAnyH_take (i := 20) (v := ?v20n20) rfl (by kernel_rfl) (by kernel_rfl) (by kernel_rfl) (fun _ _ _ h => h) (Or.inl ⟨by rfl, ?hy20n20⟩) hS5 ?rr20n20
        case hy20n20 =>
          intro w hSw
          go_simp
          try with_reducible rfl
        try simp only [Act.put, List.getElem_toArray, List.getElem_cons_succ, List.getElem_cons_zero, List.setIfInBounds_toArray, List.set_cons_zero, List.set_cons_succ]
        refine wpAnyH_take (i := 21) (v := undef) rfl (by kernel_rfl) (by kernel_rfl) (by kernel_rfl) (fun _ _ _ h => h) (Or.inr ⟨by rfl, rfl⟩) hS5 ?_
        try simp only [Act.put, List.getElem_toArray, List.getElem_cons_succ, List.getElem_cons_zero, List.setIfInBounds_toArray, List.set_cons_zero, List.set_cons_succ]
        refine wpAnyH_take (i := 22) (v := undef) rfl (by kernel_rfl) (by kernel_rfl) (by kernel_rfl) (fun _ _ _ h => h) (Or.inr ⟨by rfl, rfl⟩) hS5 ?_
        try simp only [Act.put, List.getElem_toArray, List.getElem_cons_succ, List.getElem_cons_zero, List.setIfInBounds_toArray, List.set_cons_zero, List.set_cons_succ]
        refine wpAnyH_take (i := 23) (v := undef) rfl (by kernel_rfl) (by kernel_rfl) (by kernel_rfl) (fun _ _ _ h => h) (Or.inr ⟨by rfl, rfl⟩) hS5 ?_
        try simp only [Act.put, List.getElem_toArray, List.getElem_cons_succ, List.getElem_cons_zero, List.setIfInBounds_toArray, List.set_cons_zero, List.set_cons_succ]
        refine wpAnyH_take (i := 24) (v := undef) rfl (by kernel_rfl) (by kernel_rfl) (by kernel_rfl) (fun _ _ _ h => h) (Or.inr ⟨by rfl, rfl⟩) hS5 ?_
        try simp only [Act.put, List.getElem_toArray, List.getElem_cons_succ, List.getElem_cons_zero, List.setIfInBounds_toArray, List.set_cons_zero, List.set_cons_succ]
        refine wpAnyH_take (i := 25) (v := ?v25n21) rfl (by kernel_rfl) (by kernel_rfl) (by kernel_rfl) (fun _ _ _ h => h) (Or.inl ⟨by rfl, ?hy25n21⟩) hS5 ?rr25n21
        case hy25n21 =>
          intro w hSw
          go_simp
          try with_reducible rfl
        try simp only [Act.put, List.getElem_toArray, List.getElem_cons_succ, List.getElem_cons_zero, List.setIfInBounds_toArray, List.set_cons_zero, List.set_cons_succ]
        refine wpAnyH_take (i := 26) (v := ?v26n22) rfl (by kernel_rfl) (by kernel_rfl) (by kernel_rfl) (fun _ _ _ h => h) (Or.inl ⟨by rfl, ?hy26n22⟩) hS5 ?rr26n22
        case hy26n22 =>
          intro w hSw
          go_simp
          try with_reducible rfl
        try simp only [Act.put, List.getElem_toArray, List.getElem_cons_succ, List.getElem_cons_zero, List.setIfInBounds_toArray, List.set_cons_zero, List.set_cons_succ]
        refine wpAnyH_take (i := 27) (v := ?v27n23) rfl (by kernel_rfl) (by kernel_rfl) (by kernel_rfl) (fun _ _ _ h => h) (Or.inl ⟨by rfl, ?hy27n23⟩) hS5 ?rr27n23
        case hy27n23 =>
          intro w hSw
          go_simp
          try with_reducible rfl
        try simp only [Act.put, List.getElem_toArray, List.getElem_cons_succ, List.getElem_cons_zero, List.setIfInBounds_toArray, List.set_cons_zero, List.set_cons_succ]
        refine wpAnyH_take (i := 28) (v := ?v28n24) rfl (by kernel_rfl) (by kernel_rfl) (by kernel_rfl) (fun _ _ _ h => h) (Or.inl ⟨by rfl, ?hy28n24⟩) hS5 ?rr28n24
        case hy28n24 =>
          intro w hSw
          go_simp
          try with_reducible rfl
        try simp only [Act.put, List.getElem_toArray, List.getElem_cons_succ, List.getElem_cons_zero, List.setIfInBounds_toArray, List.set_cons_zero, List.set_cons_succ]
        refine wpAnyH_take (i := 29) (v := ?v29n25) rfl (by kernel_rfl) (by kernel_rfl) (by kernel_rfl) (fun _ _ _ h => h) (Or.inl ⟨by rfl, ?hy29n25⟩) hS5 ?rr29n25
        case hy29n25 =>
          intro w hSw
          go_simp
          try with_reducible rfl
        try simp only [Act.put, List.getElem_toArray, List.getElem_cons_succ, List.getElem_cons_zero, List.setIfInBounds_toArray, List.set_cons_zero, List.set_cons_succ]
        refine wpAnyH_take (i := 30) (v := ?v30n26) rfl (by kernel_rfl) (by kernel_rfl) (by kernel_rfl) (fun _ _ _ h => h) (Or.inl ⟨by rfl, ?hy30n26⟩) hS5 ?rr30n26
        case hy30n26 =>
          intro w hSw
          go_simp
          try with_reducible rfl
        try simp only [Act.put, List.getElem_toArray, List.getElem_cons_succ, List.getElem_cons_zero, List.setIfInBounds_toArray, List.set_cons_zero, List.set_cons_succ]
        refine wpAnyH_take (i := 31) (v := ?v31n27) rfl (by kernel_rfl) (by kernel_rfl) (by kernel_rfl) (fun _ _ _ h => h) (Or.inl ⟨by rfl, ?hy31n27⟩) hS5 ?rr31n27
        case hy31n27 =>
          intro w hSw
          go_simp
          try with_reducible rfl
        try simp only [Act.put, List.getElem_toArray, List.getElem_cons_succ, List.getElem_cons_zero, List.setIfInBounds_toArray, List.set_cons_zero, List.set_cons_succ]
        refine wpAnyH_take (i := 32) (v := undef) rfl (by kernel_rfl) (by kernel_rfl) (by kernel_rfl) (fun _ _ _ h => h) (Or.inr ⟨by rfl, rfl⟩) hS5 ?_
        try simp only [Act.put, List.getElem_toArray, List.getElem_cons_succ, List.getElem_cons_zero, List.setIfInBounds_toArray, List.set_cons_zero, List.set_cons_succ]
        refine wpAnyH_take (i := 33) (v := undef) rfl (by kernel_rfl) (by kernel_rfl) (by kernel_rfl) (fun _ _ _ h => h) (Or.inr ⟨by rfl, rfl⟩) hS5 ?_
        try simp only [Act.put, List.getElem_toArray, List.getElem_cons_succ, List.getElem_cons_zero, List.setIfInBounds_toArray, List.set_cons_zero, List.set_cons_succ]
        refine wpAnyH_take (i := 34) (v := undef) rfl (by kernel_rfl) (by kernel_rfl) (by kernel_rfl) (fun _ _ _ h => h) (Or.inr ⟨by rfl, rfl⟩) hS5 ?_
        try simp only [Act.put, List.getElem_toArray, List.getElem_cons_succ, List.getElem_cons_zero, List.setIfInBounds_toArray, List.set_cons_zero, List.set_cons_succ]
        refine wpAnyH_take (i := 35) (v := ?v35n28) rfl (by kernel_rfl) (by kernel_rfl) (by kernel_rfl) (fun _ _ _ h => h) (Or.inl ⟨by rfl, ?hy35n28⟩) hS5 ?rr35n28
        case hy35n28 =>
          intro w hSw
          go_simp
          try with_reducible rfl
        try simp only [Act.put, List.getElem_toArray, List.getElem_cons_succ, List.getElem_cons_zero, List.setIfInBounds_toArray, List.set_cons_zero, List.set_cons_succ]
        refine wpAnyH_take (i := 36) (v := ?v36n29) rfl (by kernel_rfl) (by kernel_rfl) (by kernel_rfl) (fun _ _ _ h => h) (Or.inl ⟨by rfl, ?hy36n29⟩) hS5 ?rr36n29
        case hy36n29 =>
          intro w hSw
          go_simp
          try with_reducible rfl
        try simp only [Act.put, List.getElem_toArray, List.getElem_cons_succ, List.getElem_cons_zero, List.setIfInBounds_toArray, List.set_cons_zero, List.set_cons_succ]
        refine wpAnyH_done (by kernel_rfl) ?_ _
        have HB5 : Fact (Below w2.heap.size w2 w5) := ⟨HB4.out.trans (hS5.1.mono HB4.out.size)⟩
        have z3 := hS5.2.2.2.2.1
        have hz5 : wr.heap.size < w5.heap.size := World.block_lt_of_cell? _ _ z3
        have hav5 := own_keep HAV.out HB5.out
        rw [HM.out] at hav5
        have HAV5 := Fact.mk hav5
        clear hS0 hS5 hb5 hav5 hz4 HAV
        go_wp2_with fail
        obtain ⟨wq, hwq⟩ : ∃ wq, wq = wr := ⟨_, rfl⟩
        subst hwq
        go_loopw [6] (fun i wx => ∃ k : Nat, i = .int .i64 k ∧ 1 ≤ k ∧ (k ≤ m ∨ k = 1) ∧ Below w5.heap.size w5 wx) (fun i _ => m - (intOf i).toNat)
        case atStart => exact ⟨1, rfl, Nat.le_refl _, Or.inr rfl, Below.refl _ _⟩
        case round =>
          obtain ⟨k, rfl, hk1, hk2, hbk⟩ := hrel
          have y3 : wr.cell? ⟨wq.heap.size, 3, none⟩ = some (.slice va m vc) := (hbk.cell (p := ⟨wq.heap.size, 3, none⟩) hz5).trans z3
          have HBK := Fact.mk hbk
          clear hbk
          by_cases hkm : k < m
          · obtain ⟨k1, rfl⟩ : ∃ k1, k = k1 + 1 := ⟨k - 1, by omega⟩
            obtain ⟨k, hkk⟩ : ∃ k, k1 + 1 = k := ⟨_, rfl⟩
            obtain ⟨p1, hp1⟩ : ∃ p1, AA[k1]? = some p1 := ⟨AA[k1]'(by rw [HM.out]; omega), List.getElem?_eq_getElem _⟩
            obtain ⟨p2, hp2⟩ : ∃ p2, AA[k1 + 1]? = some p2 := ⟨AA[k1 + 1]'(by rw [HM.out]; omega), List.getElem?_eq_getElem _⟩
            have hlt12 := HASC.out k1 p1 p2 hp1 hp2
            obtain ⟨g2, cap2, eg, hg2B, hg2l, hg2c, hcl2⟩ := row_cells (by rw [HM.out]; exact HAV5.out) (by rw [HM.out]; omega)
            rw [HM.out] at eg
            injection eg with e1 e2 e3
            subst e1 e3
            have d1 := (hcl2 k1 _ _ hp1).1
            have d2 := (hcl2 (k1 + 1) _ _ hp2).1
            rw [hkk] at d2
            have f1 : wr.cell? ⟨g2, k1 * 2, none⟩ = some (.string (tx p1.1)) := (HBK.out.cell (p := ⟨g2, _, none⟩) hg2l).trans d1
            have f2 : wr.cell? ⟨g2, k * 2, none⟩ = some (.string (tx p2.1)) := (HBK.out.cell (p := ⟨g2, _, none⟩) hg2l).trans d2
            rw [hkk] at hkm ⊢
            have hmm := row_max HAV5.out
            unfold maxLen at hmm
            have hk18 : (k : Int) ≤ 9223372036854775806 := by omega
            clear hmm
            have i0 : (0 : Int) ≤ k := by omega
            have i1 : (k : Int) < m := by omega
            have i2 : (0 : Int) ≤ k1 := by omega
            have i3 : (k1 : Int) < m := by omega
            have q11 : decide ((k : Int) < m) = true := decide_eq_true i1
            have q11n : decide (k < m) = true := decide_eq_true hkm
            have hw3 : wrap64 ((k : Int) - 1) = (k1 : Int) := by unfold wrap64; omega
            have hw4 : IntKind.i64.wrap ((k : Int) - 1) = (k1 : Int) := by simp [IntKind.wrap, IntKind.bits, IntKind.signed]; omega
            have hw5 : wrap64 ((k : Int) + 1) = ((k + 1 : Nat) : Int) := wrap_ok rfl ⟨by omega⟩
            have HKK := Fact.mk hkk
            obtain ⟨hleq, hleq2⟩ := leq_no hlt12
            obtain ⟨A1, hA1⟩ : ∃ A1, tx p1.1 = A1 := ⟨_, rfl⟩
            obtain ⟨A2, hA2⟩ : ∃ A2, tx p2.1 = A2 := ⟨_, rfl⟩
            rw [hA1] at f1 hleq hleq2
            rw [hA2] at f2 hleq hleq2
            clear hA1 hA2
            clear hlt12 hp1 hp2 hcl2 d1 d2 hk1 hk2 hkk
            go_wp2_with fail
            go_quiet (fail)
            have hbq := below_drewN HBK.out nq
            go_wp2_with fail
            go_roundw
            case rel => exact ⟨k + 1, by (first | exact int_eq rfl | exact int_eq hw5), Nat.le_add_left _ _, Or.inl hkm, hbq⟩
            case measure => first | (simp [intOf]; omega) | (simp only [hw5]; exact meas_to hkm (Nat.lt_succ_self _))
          · have q11 : decide ((k : Int) < m) = false := decide_eq_false (by omega)
            have q11n : decide (k < m) = false := decide_eq_false hkm
            go_wp2_with fail
            go_roundw
            case rel => exact ⟨j + 1, by (first | exact int_eq rfl | exact int_eq hw2), by omega, HB5.out.trans (HBK.out.mono HB5.out.size)⟩
            case measure => exact meas_to hlt (Nat.lt_succ_self _)
      · have hkk : 2 ≤ kd ∧ kd ≤ 6 ∧ m = 0 ∧ (kd == 6) = ((j : Int) == (n : Int) - 1) ∧ (kd = 3 → X.data.toList ≠ []) := by
          rcases Nat.lt_or_ge (j + 1) n with h | h
          · have hG := hgd h
            have h0 := hG.lo
            have h5 := hG.hi
            dsimp only at h0 h5
            refine ⟨by omega, by omega, ?_, ?_, hG.tx⟩
            · have := hG.en hk1
              dsimp only at this
              rw [← HM.out, this]
              rfl
            · have e1 : (kd == 6) = false := by rw [beq_eq_false_iff_ne]; omega
              have e2 : ((j : Int) == (n : Int) - 1) = false := by rw [beq_eq_false_iff_ne]; omega
              rw [e1, e2]
          · have hE := hls (by omega)
            injection hE with e1 e2 e3 e4 e5
            have e6 : ((j : Int) == (n : Int) - 1) = true := by rw [beq_iff_eq]; omega
            rw [e6, ← HM.out, e1, e4]
            exact ⟨by decide, by decide, rfl, rfl, fun h => absurd h (by decide)⟩
        obtain ⟨k2, k6, rfl, qe, hX⟩ := hkk
        obtain ⟨b6, hb6⟩ : ∃ b6, ((j : Int) == (n : Int) - 1) = b6 := ⟨_, rfl⟩
        rw [hb6] at qe
        have q1k : (kd == 1) = false := by rw [beq_eq_false_iff_ne]; exact hk1
        have q7 : decide (kd < 1) = false := decide_eq_false (by omega)
        have q8 : decide ((6 : Int) < kd) = false := decide_eq_false (by omega)
        clear hgd hls
        by_cases hk2 : kd = 2
        · have q2k : (kd == 2) = true := by rw [hk2]; rfl
          have q3k : (kd == 3) = false := by rw [hk2]; rfl
          clear hk2 hX
          go_wp2_with fail
          go_quiet (fail)
          have hbq := below_drewN HBR.out nq
          go_wp2_with fail
          refine wp_loop_rounds 1 ?_
          rw [rounds_succ]
          go_wp2_with fail
          go_roundw
          case rel => exact ⟨j + 1, by (first | exact int_eq rfl | exact int_eq hw2), by omega, hbq⟩
          case measure => exact meas_to hlt (Nat.lt_succ_self _)
        · by_cases hk3 : kd = 3
          · have q2k : (kd == 2) = false := by rw [beq_eq_false_iff_ne]; exact hk2
            have q3k : (kd == 3) = true := by rw [hk3]; rfl
            have q9 : (X.toList == []) = false := by rw [Lib.toList_data, beq_eq_false_iff_ne]; exact hX hk3
            clear hk2 hk3 hX
            go_wp2_with fail
            go_quiet (fail)
            have hbq := below_drewN HBR.out nq
            go_wp2_with fail
            refine wp_loop_rounds 1 ?_
            rw [rounds_succ]
            go_wp2_with fail
            go_roundw
            case rel => exact ⟨j + 1, by (first | exact int_eq rfl | exact int_eq hw2), by omega, hbq⟩
            case measure => exact meas_to hlt (Nat.lt_succ_self _)
          · have q2k : (kd == 2) = false := by rw [beq_eq_false_iff_ne]; exact hk2
            have q3k : (kd == 3) = false := by rw [beq_eq_false_iff_ne]; exact hk3
            clear hk2 hk3 hX
            go_wp2_with fail
            go_quiet (fail)
            have hbq := below_drewN HBR.out nq
            go_wp2_with fail
            refine wp_loop_rounds 1 ?_
            rw [rounds_succ]
            go_wp2_with fail
            go_roundw
            case rel => exact ⟨j + 1, by (first | exact int_eq rfl | exact int_eq hw2), by omega, hbq⟩
            case measure => exact meas_to hlt (Nat.lt_succ_self _)
    · have e : j = n := by omega
      subst e
      have q5 : decide ((j : Int) < j) = false := decide_eq_false (by omega)
      have q6 : decide ((0 : Int) < j) = true := decide_eq_true (by omega)
      have q6n : decide (0 < j) = true := decide_eq_true (by omega)
      go_wp2_with (go_at_call 8; refine (awake11_true _ (HL.out.since (HB2.out.trans (HB.out.mono HB2.out.size)))).mono ?_; rintro e w3 ⟨rfl, hb3⟩)
      go_ret
      exact ⟨rfl, (HB2.out.trans (HB.out.mono HB2.out.size)).trans (hb3.mono (HB2.out.trans (HB.out.mono HB2.out.size)).size)⟩
end Go.Proofs.YtdniddiaiinggaaDoor
