/- takeOut. -/
import Derived.Test.YtjlijpaefdbohaaDoorFP
set_option linter.unusedVariables false
set_option linter.unusedSimpArgs false
namespace Go.Proofs.YtjlijpaefdbohaaDoor
open Go.RowKit

/-- an item is taken out: what comes of the memory -/
theorem del_mem {w w1 w2 w3 : World} {B p mb c c' i g n cap : Nat} {L : List It} (h : FL w B p L (.slice (some ⟨g, 0, none⟩) (n + 1) cap) mb c) (hn : L.length = n + 1) (hi : i ≤ n) (hk : KeepX w w1 (fun k => k = mb)) (hm : MapK w1 mb c' (cnt (L.take i ++ L.drop (i + 1)))) (hc : c' ≤ 100000)
    (hg : w1.grownBy w2 (some g)) (ho : w2.ownsRow B 68 5 (.slice (some ⟨g, 0, none⟩) n cap) n ((rowT L).take (i * 5) ++ (rowT L).drop ((i + 1) * 5))) (e3 : w2.setCell ⟨p, 0, none⟩ (.slice (some ⟨g, 0, none⟩) n cap) = w3) :
    FL w3 B p (L.take i ++ L.drop (i + 1)) (.slice (some ⟨g, 0, none⟩) n cap) mb c' ∧ KeepX w w3 (inF p mb (.slice (some ⟨g, 0, none⟩) (n + 1) cap)) := by
  obtain ⟨es, clock, hmm⟩ := h.map.isMap
  have hpm : p ≠ mb := fun e => by have := h.box; rw [e, hmm] at this; cases this
  have hgl := h.lt g (.inr (.inr rfl))
  have hpl := h.lt p (.inl rfl)
  have hml := h.lt mb (.inr (.inl rfl))
  obtain ⟨cur, hh⟩ : ∃ cur, w.heap[g]? = some (.cells cur 68 (0, 0)) := by
    have hr := h.row
    rw [hn] at hr
    rcases hr.2 with ⟨e, _⟩ | ⟨g', cap', cur, e, _, hh, _⟩
    · cases e
    · cases e; exact ⟨cur, hh⟩
  have hgp : g ≠ p := fun e => by rw [e, h.box] at hh; simp at hh
  have hgm : g ≠ mb := fun e => by rw [e, hmm] at hh; cases hh
  have b1 : w1.heap[p]? = some (.cells #[.slice (some ⟨g, 0, none⟩) (n + 1) cap, .map (some mb)] 65) := (hk.block p hpl hpm).trans h.box
  have b2 : w2.heap[p]? = some (.cells #[.slice (some ⟨g, 0, none⟩) (n + 1) cap, .map (some mb)] 65) := (hg.block p (Nat.lt_of_lt_of_le hpl hk.size) (fun e => hgp (Option.some.inj e).symm)).trans b1
  have k3 : KeepX w w3 (inF p mb (.slice (some ⟨g, 0, none⟩) (n + 1) cap)) := ⟨by rw [← e3]; exact hg.os.trans hk.os, by rw [← e3]; exact hg.tape.trans hk.tape, by rw [← e3]; exact hg.output.trans hk.output, by rw [← e3]; simp [World.setCell]; exact Nat.le_trans hk.size hg.size, fun k hkl hn => by
    rw [← e3, Below.heap_setCell w2 ⟨p, 0, none⟩ _ k (fun e => hn (.inl e)), hg.block k (Nat.lt_of_lt_of_le hkl hk.size) (fun e => hn (.inr (.inr e.symm)))]
    exact hk.block k hkl (fun e => hn (.inr (.inl e)))⟩
  have el : (L.take i ++ L.drop (i + 1)).length = n := by simp; omega
  refine ⟨⟨?_, ?_, ?_, ?_, by rw [el]; have := h.few; omega, hc, h.at', ?_⟩, k3⟩
  · rw [← e3]; exact set_heap (i := 0) b2
  · have er : rowT (L.take i ++ L.drop (i + 1)) = (rowT L).take (i * 5) ++ (rowT L).drop ((i + 1) * 5) := by rw [rowT_app, rowT_take, rowT_drop]
    rw [el, er]
    refine ⟨ho.1, ?_⟩
    rcases ho.2 with h0 | ⟨g', cap', cur', e, q2, q3, q4⟩
    · cases h0.1
    · cases e
      refine .inr ⟨g, cap, cur', rfl, q2, ?_, q4⟩
      rw [← e3, Below.heap_setCell w2 ⟨p, 0, none⟩ _ g hgp]; exact q3
  · intro y hy
    have hyw : y ∈ L := by
      rcases List.mem_append.1 hy with hy | hy
      · exact List.mem_of_mem_take hy
      · exact List.mem_of_mem_drop hy
    exact own_keepX k3 (h.ats y hyw) (h.atsOut (h.ats y hyw))
  · refine hm.block ?_
    rw [← e3, Below.heap_setCell w2 ⟨p, 0, none⟩ _ mb (fun e => hpm e.symm)]
    exact hg.block mb (Nat.lt_of_lt_of_le hml hk.size) (fun e => hgm (Option.some.inj e).symm)
  · intro y hy
    rcases List.mem_append.1 hy with hy | hy
    · exact h.ok y (List.mem_of_mem_take hy)
    · exact h.ok y (List.mem_of_mem_drop hy)

set_option maxRecDepth 20000 in
set_option maxHeartbeats 2000000 in
theorem takeOut_any (L : List It) (B p mb c : Nat) (v : Value) (w : World) (i : Nat) (x : It) (h : FL w B p L v mb c) (hx : L[i]? = some x) (hc : c < 100000) :
    Calls Tryd.prog 34 #[.pointer (some ⟨p, 0, none⟩), .int .i64 i] w fun e w' => e = .returned (.tuple #[]) ∧ Tn w w' B p mb v (L.take i ++ L.drop (i + 1)) (c + 1) := by
  have hL : i < L.length := (List.getElem?_eq_some_iff.1 hx).1
  obtain ⟨n, hn⟩ : ∃ n, L.length = n + 1 := ⟨L.length - 1, by omega⟩
  obtain ⟨g, cap, ev, q1, q2, q3, q4, hat, _⟩ := own_get h.row (by omega)
  rw [hn] at ev
  subst ev
  have hmem := List.mem_of_getElem? hx
  have hr := h.row
  rw [hn] at hr
  obtain ⟨y0, y1, y2, y3, y4⟩ := five_cells w L B g (n + 1) cap i x hr hx
  obtain ⟨ka, kc, ek, _⟩ := own_val (h.ats x hmem)
  have hcnt : ∃ f : World → Prop, (∀ w', f w' → KeepX w w' (fun k => k = mb) ∧ MapK w' mb (c + 1) (cnt (L.take i ++ L.drop (i + 1)))) ∧ Calls Tryd.prog 45 #[.pointer (some ⟨p, 0, none⟩), itV x, .int .i64 (-1)] w fun e w' => e = .returned (.tuple #[]) ∧ f w' := by
    cases hmr : x.mr with
    | true =>
      refine ⟨fun w' => Below w.heap.size w w', fun w' hb => ⟨KeepX.of_below hb, ?_⟩, count_mark x p (-1) w hmr ⟨_, _, _, ek⟩⟩
      rw [cnt_delm L i x hx hmr]
      exact (h.map.block (hb.block mb (h.lt mb (.inr (.inl rfl))))).mono (by omega)
    | false =>
      have hle := cnt_le L x.ky
      have h1 := cnt_split (L.take i) (L.drop (i + 1)) x x.ky
      rw [← split_at L i x hx] at h1
      simp [hmr] at h1
      have hle2 := cnt_le (L.take i ++ L.drop (i + 1)) x.ky
      have hf := h.few
      refine ⟨_, fun w' hw => ⟨hw.2, ?_⟩, count_any x p mb c (cnt L) (-1) _ _ w hmr (h.ok x hmem) (h.on hmem) h.box h.map (by omega) rfl (by omega)⟩
      rw [cnt_del L i x hx hmr]
      exact hw.1
  obtain ⟨f, hf, hcall⟩ := hcnt
  have hc0 : w.cell? ⟨p, 0, none⟩ = some (.slice (some ⟨g, 0, none⟩) (n + 1) cap) := by simp [World.cell?, h.box]
  have HF := Fact.mk h
  have HN := Fact.mk hn
  have HCALL := Fact.mk hcall
  have HF2 : Fact (∀ w', f w' → (KeepX w w' (fun k => k = mb) ∧ MapK w' mb (c + 1) (cnt (L.take i ++ L.drop (i + 1)))) ∧ w'.cell? ⟨p, 0, none⟩ = some (.slice (some ⟨g, 0, none⟩) (n + 1) cap)) := ⟨fun w' hw => ⟨hf w' hw, by
    have hk1 := (hf w' hw).1
    have b1 := (hk1.block p (h.lt p (.inl rfl)) (fun e => by obtain ⟨es, clock, e2⟩ := h.map.isMap; rw [← e, h.box] at e2; cases e2)).trans h.box
    simp [World.cell?, b1]⟩⟩
  have HDEL : Fact (∀ w', KeepX w w' (fun k => k = mb) → MapK w' mb (c + 1) (cnt (L.take i ++ L.drop (i + 1))) → Calls Tryd.prog 46 #[.slice (some ⟨g, 0, none⟩) (n + 1) cap, .int .i64 i, .int .i64 ((i : Int) + 1)] w' fun e w2 => e = .returned (.slice (some ⟨g, 0, none⟩) n cap) ∧ (w2.cell? ⟨p, 0, none⟩ = some (.slice (some ⟨g, 0, none⟩) (n + 1) cap) ∧ w2.frozen? ⟨p, 0, none⟩ = false) ∧ ∀ w3, w2.setCell ⟨p, 0, none⟩ (.slice (some ⟨g, 0, none⟩) n cap) = w3 → Tn w w3 B p mb (.slice (some ⟨g, 0, none⟩) (n + 1) cap) (L.take i ++ L.drop (i + 1)) (c + 1)) := ⟨fun w' hk hm => by
    obtain ⟨es, clock, hmm⟩ := h.map.isMap
    have hpm : p ≠ mb := fun e => by have := h.box; rw [e, hmm] at this; cases this
    have hr' := own_keepX hk hr (fun k e1 e2 => by
      rcases hr.2 with ⟨e, _⟩ | ⟨g', cap', cur, e, _, hh, _⟩
      · cases e
      · cases e
        obtain rfl : g = k := Option.some.inj e1
        rw [e2, hmm] at hh; cases hh)
    rcases hr'.2 with ⟨e, _⟩ | ⟨g', cap', cur, e, r1, r2, r3, r4, r5, r6⟩
    · cases e
    · cases e
      refine (delete_any w' B g cap i cur n (rowT L) r2 r1 r3 r4 r5 r6 (by omega) (rowT_one L h.avOne) (by have := h.few; omega)).mono ?_
      rintro e w2 ⟨rfl, ho, hg⟩
      have hgp : g ≠ p := fun e => by
        have b1 := (hk.block p (h.lt p (.inl rfl)) hpm).trans h.box
        rw [e, b1] at r2; simp at r2
      have b2 : w2.heap[p]? = some (.cells #[.slice (some ⟨g, 0, none⟩) (n + 1) cap, .map (some mb)] 65) := (hg.block p (Nat.lt_of_lt_of_le (h.lt p (.inl rfl)) hk.size) (fun e => hgp (Option.some.inj e).symm)).trans ((hk.block p (h.lt p (.inl rfl)) hpm).trans h.box)
      refine ⟨rfl, by simp [World.cell?, World.frozen?, b2], fun w3 hw3 => ?_⟩
      obtain ⟨f1, f2⟩ := del_mem h hn (by omega) hk hm (by omega) hg ho hw3
      exact ⟨_, f1, f2, .inl rfl⟩⟩
  have hfew := h.few
  rw [hn] at hfew
  have HR := Fact.mk (rowT_one L h.avOne)
  have HX := Fact.mk hx
  have q2' : cap ≤ 9223372036854775807 := q2
  obtain ⟨id, nm, ats, mr, ms, av⟩ := x
  dsimp only at ek y0 y1 y2 y3 y4 HCALL
  subst ek
  have hi : i ≤ n := by omega
  clear h hat hr hcall hf hn hx hmem q2 q3 q4
  rw [HN.out] at q1 hL
  generalize ats.length = an at *
  have hiI : (i : Int) < (n : Int) + 1 := by omega
  go_enter Tryd.func34, Tryd.ntmps34
  go_wp2_with (first
    | (go_at_call 45; refine HCALL.out.mono ?_; rintro e w1 ⟨rfl, hf1⟩; obtain ⟨⟨hk1, hm1⟩, z0⟩ := HF2.out w1 hf1; have HK1 := Fact.mk hk1; have HM1 := Fact.mk hm1; clear hk1 hm1 hf1)
    | (go_at_call 46; refine (HDEL.out w1 HK1.out HM1.out).mono ?_; rintro e w2 ⟨rfl, ⟨p1, p2⟩, h3⟩; have H3 := Fact.mk h3; clear h3))
  go_end0
  exact ⟨rfl, H3.out _ rfl⟩
end Go.Proofs.YtjlijpaefdbohaaDoor
