/- SerialAll returns true at every tree: its source, how many bytes that has, and its texts put together are what the document works out; of a tree that is not small the document's example alone is asked; the listed tables are tied to the program's text. No condition. -/
import Derived.Test.YtibagbnnplpfgaaDoorCopyL
import Derived.Test.YtibagbnnplpfgaaDoorJnAll
import Derived.Test.YtibagbnnplpfgaaDoorCopy
import Derived.Deep.RegionHeld3
import Derived.Deep.DeepCutAuto
import Derived.Maps.AppendAt
import Derived.BigQuiet
import Derived.Test.YtibagbnnplpfgaaDoorSJa
import Derived.Test.YtibagbnnplpfgaaDoorRows
import Derived.Test.YtibagbnnplpfgaaDoorCards
import Derived.Test.YtibagbnnplpfgaaDoorTie
import Derived.WalkKit
import Derived.ProofKit
import Derived.LaidMore
import Derived.OpenShut
import Derived.Stop.Joined
import Derived.ShutString
import Derived.SevenTiedAt
import Derived.ChangeOld
import Derived.Below
import Derived.Lay
import Derived.Test.YtibagbnnplpfgaaDoorCDoor
import Derived.Test.YtibagbnnplpfgaaDoorRead
import Derived.Test.YtibagbnnplpfgaaDoorRdI
/- The chapter's own Join: the row of kids that grows, and whose last text may be turned. -/
section
set_option linter.unusedVariables false
set_option linter.unusedSimpArgs false
namespace Go.Proofs.YtibagbnnplpfgaaDoor
open Go.Deep (BT)
open Go.RowKit M

theorem RowAt.put {N X m g cap : Nat} {wr : World} {d : Nd} {av : Value} {rs0 : List Nw} {l : Nw} (s : ByteArray) (h : RowAt N X wr d av (.slice (some ⟨g, 0, none⟩) (m + 1) cap) (rs0 ++ [l])) (hm : rs0.length = m) :
    RowAt N X (wr.setCell ⟨g, m * 5 + 2, none⟩ (.string s)) d av (.slice (some ⟨g, 0, none⟩) (m + 1) cap) (rs0 ++ [{ l with d := { l.d with x := s } }]) := by
  have hlen : (rs0 ++ [l]).length = m + 1 := by rw [List.length_append, hm]; rfl
  have hlen2 : (rs0 ++ [{ l with d := { l.d with x := s } }]).length = m + 1 := by rw [List.length_append, hm]; rfl
  have hown := h.own
  rw [hlen] at hown
  have hg := (h.blk g rfl).1
  have hlt := h.lt
  have hsame : ∀ b, b ≠ g → (wr.setCell ⟨g, m * 5 + 2, none⟩ (.string s)).heap[b]? = wr.heap[b]? := fun b hb => Below.heap_setCell _ _ _ _ hb
  have hset : (wr.setCell ⟨g, m * 5 + 2, none⟩ (.string s)).heap.size = wr.heap.size := by simp [World.setCell]
  refine ⟨h.five.same (hsame X (by omega)), ?_, ?_, hlt, by rw [hset]; exact h.size⟩
  · rw [hlen2]; exact own5_put s hown hm
  · rw [hset]
    have hlike : AllIn (fun b => N ≤ b ∧ b < wr.heap.size ∧ some b ≠ (Value.slice (some ⟨g, 0, none⟩) (m + 1) cap).ownBlock) (wr.setCell ⟨g, m * 5 + 2, none⟩ (.string s)) (rs0 ++ [l]) :=
      h.all.like (fun b hb hz => hsame b (fun e => hb.2.2 (by rw [e]; rfl)))
    intro r hr
    rcases List.mem_append.1 hr with hr | hr
    · exact hlike r (List.mem_append_left _ hr)
    · obtain rfl := List.mem_singleton.1 hr
      exact hlike l (List.mem_append_right _ (List.mem_singleton.2 rfl))
/-- the chapter's Join, in plain terms: what a round makes of the row -/
theorem jst_rows (rs : List Nw) (acc : List PT) (r : Nw) (h : rs.map prN = acc.reverse) : (∀ rs' : List Nw, rs'.reverse = jstN rs.reverse r → rs'.map prN = (jstP acc (prN r)).reverse) := by
  intro rs' he
  have h1 : rs.reverse.map prN = acc := by rw [List.map_reverse, h, List.reverse_reverse]
  have h2 := jstN_map rs.reverse r
  rw [h1, ← he, List.map_reverse] at h2
  rw [← h2, List.reverse_reverse]
/-- the kids that are met, one more -/
theorem joinA_snoc (met : List PT) (d : Nd) (k : M.F) : joinA [] (ofL (met ++ [(d, k)])) = jstP (joinA [] (ofL met)) (d, joinF k) := by
  have key : ∀ (l : List PT) (acc : List PT), joinA acc (ofL (l ++ [(d, k)])) = jstP (joinA acc (ofL l)) (d, joinF k) := by
    intro l
    induction l with
    | nil => intro acc; rfl
    | cons p l ih => intro acc; exact ih _
  exact key met []
end Go.Proofs.YtibagbnnplpfgaaDoor
end

/- The chapter's own Join, walked. -/
section
set_option linter.unusedVariables false
set_option linter.unusedSimpArgs false
namespace Go.Proofs.YtibagbnnplpfgaaDoor
open Go.Deep (BT)
open Go.RowKit M

/-- attributes appended to nothing, as one step -/
theorem wp_appendA {o : Oper} {a : Act} {w : World} {K : Act → World → Prop} {Q : Exit → Act → World → Prop} {s y : Operand} (l : List (ByteArray × ByteArray)) (v : Value) (n : Nat) (ho : o.op = .call { callee := .builtin .append, args := #[s, y], argTypes := #[22, 22] })
    (hs : a.eval s = .slice none 0 0) (hx : a.eval y = v) (ha : AS (Old n) w v l) (hm : l.length ≤ 1000000)
    (h : ∀ y1 y2 y3 W2, AS (fun b => w.heap.size ≤ b) W2 (.slice y1 y2 y3) l → Below w.heap.size w W2 → K (a.put o.dst (.slice y1 y2 y3)) W2) : o.wp Tryd.prog a w K Q := by
  have key : ∃ y1 y2 y3 W2, (Builtin.append_ #[22, 22] o.type #[.slice none 0 0, v]).run Tryd.prog w = .ok (.slice y1 y2 y3) W2 ∧ AS (fun b => w.heap.size ≤ b) W2 (.slice y1 y2 y3) l ∧ Below w.heap.size w W2 := by
    obtain ⟨i0, hii, hz0, hz1, hz2⟩ := info_parts infoA
    by_cases h0 : l = []
    · subst h0
      obtain ⟨a, cap, rfl, h1, h2, _⟩ := ha
      refine ⟨none, 0, 0, w, ?_, AS.nothing, Below.refl _ _⟩
      cases a <;> simp [Builtin.append_, run_underlying Tryd.underlying22, sizeOf, typeInfo, hii, Builtin.lenOf, Builtin.firstCells, loadCells, loadCellsFrom]
    · obtain ⟨a, cap, rfl, h1, h2, h3⟩ := ha
      obtain ⟨b, o', rfl, hS, hc⟩ := h3.resolve_left h0
      have HC : ∀ j u, (rowA l)[j]? = some u → w.cell? ((⟨b, o', none⟩ : Addr).add j) = some u := fun j u hu => by
        have hj : j < (rowA l).length := (List.getElem?_eq_some_iff.1 hu).1
        rw [rowA_len] at hj
        have hi : j / 2 < l.length := by omega
        obtain ⟨g1, g2⟩ := rowA_get l (j / 2) hi
        have hcc := hc (j / 2) hi
        rw [bs_get l (j / 2) hi] at hcc
        rw [add_cell]
        rcases (by omega : j = j / 2 * 2 ∨ j = j / 2 * 2 + 1) with e | e
        · rw [e] at hu ⊢
          rw [g1] at hu
          cases hu
          exact hcc.1
        · rw [e] at hu ⊢
          rw [g2] at hu
          cases hu
          exact hcc.2
      obtain ⟨v', w', hr, h2', h3', _, h5'⟩ := run_append_own_at (P := Tryd.prog) w w.heap.size 22 o.type 37 i0 (.agg #[.string ⟨#[]⟩, .string ⟨#[]⟩]) 2 32 Tryd.underlying22 hii hz0 hz1 hz2 rfl (by decide) (.slice none 0 0) 0 [] (World.ownsRow_nil _ _ _ _) ⟨b, o', none⟩ l.length cap (rowA l) (rowA_len l) HC (rowA_one l) (by unfold maxLen; omega) (by omega) (Nat.le_refl _)
      have h2a : w'.ownsRow w.heap.size 37 2 v' l.length (rowA l) := by simpa using h2'
      obtain ⟨g, c, rfl⟩ : ∃ g c, v' = .slice g l.length c := own_shape h2a
      exact ⟨g, l.length, c, w', hr, own_AS h2a, (Below.refl _ _).grown h3' (Nat.le_refl _) (fun k e => by cases e)⟩
  obtain ⟨y1, y2, y3, W2, hr, hA, hb⟩ := key
  unfold Oper.wp execOp
  simp only [ho, resolve, invoke, builtin, Sem.run_bind, Sem.run_pure, Result.andThen_ok, List.map_toArray, List.map_cons, List.map_nil, hs, hx, hr]
  exact h _ _ _ _ hA hb
theorem RowAt.bel {N X : Nat} {wr W : World} {d : Nd} {av v : Value} {rs : List Nw} (h : RowAt N X wr d av v rs) (hb : Below wr.heap.size wr W) : RowAt N X W d av v rs := by
  have hs := hb.size
  have hz := h.size
  have hl := h.lt
  refine ⟨h.five.same (hb.block X (by omega)), own_like h.own (fun k _ hk => hb.block k hk), ?_, h.lt, by omega⟩
  exact (h.all.like (fun b hb' hz' => hb.block b hz')).mono (fun b hb' => ⟨hb'.1, by omega, hb'.2.2⟩)
theorem forF_map : ∀ rs : List Nw, ofL (rs.map prN) = forF rs
  | [] => rfl
  | r :: rs => by rw [List.map_cons, ofL, forF, forF_map rs]; rfl

theorem jstP_new (acc : List PT) (p : PT) (he : emp p.1 = false) (hf : ∀ l t, acc = l :: t → fit2 l.1 p.1 = false) : jstP acc p = p :: acc := by
  unfold jstP
  rw [if_neg (by simp [he])]
  cases acc with
  | nil => rfl
  | cons l t => dsimp only; rw [if_neg (by simp [hf l t rfl])]

theorem wrap_id16 {x : Int} (h : -4611686018427387904 ≤ x) (h2 : x ≤ 4611686018427387904) : IntKind.i64.wrap x = x := by
  unfold IntKind.wrap; simp [IntKind.bits, IntKind.signed]; omega
theorem own_pos5 {w : World} {B E z n : Nat} {v : Value} {xs : List Value} (hn : 1 ≤ n) (h : w.ownsRow B E z v n xs) : ∃ g c, v = .slice (some ⟨g, 0, none⟩) n c := by
  rcases h.2 with ⟨_, h0⟩ | ⟨g, cap, cur, e, _⟩
  · omega
  · exact ⟨g, cap, e⟩
theorem own5_at' {w : World} {B E g m cap : Nat} {l : Nw} {t : List Nw} (h : w.ownsRow B E 5 (.slice (some ⟨g, 0, none⟩) (m + 1) cap) (m + 1) (rowF (t ++ [l]))) (hm : t.length = m) :
    (∀ i u, (cells5 l)[i]? = some u → w.cell? ⟨g, m * 5 + i, none⟩ = some u) ∧ (∀ o, w.frozen? ⟨g, o, none⟩ = false) ∧ B ≤ g := by
  obtain ⟨h1, h2⟩ := h
  rcases h2 with ⟨e, _⟩ | ⟨g', cap', cur, e, hg, hh, hc1, hc2, hs, ht⟩
  · cases e
  · cases e
    refine ⟨fun i u hi => ?_, fun o => by simp [World.frozen?, hh], hg⟩
    simp only [World.cell?, hh]
    have h3 := rowF_get (t ++ [l]) m i l u (by rw [List.getElem?_append_right (by omega), hm, Nat.sub_self]; rfl) hi
    rw [← ht, List.getElem?_take] at h3
    split at h3
    · simpa using h3
    · cases h3

def RJoinP (k : M.F) : Prop := ∀ (d : Nd) (av kv : Value) (n : Nat) (w : World), Lies n w d k av kv → n ≤ w.heap.size → OKnd d → allF OKnd k → k.size ≤ 1000000 →
  Calls Tryd.prog 17 #[nodeV d av kv] w fun e w' => ∃ av' kv', e = .returned (nodeV d av' kv') ∧ Below w.heap.size w w' ∧ AS (fun b => w.heap.size ≤ b) w' av' d.ats ∧ FL (fun b => w.heap.size ≤ b) w' kv' (joinF k)

set_option maxRecDepth 100000 in
set_option maxHeartbeats 8000000 in
theorem rjoin_step (k : M.F) (hH : Hered RJoinP k) : RJoinP k := by
  intro d av kv n w hl hn hnd hok hsz
  obtain ⟨K, N, X, A⟩ := d
  obtain ⟨a1, l1, c1, eav⟩ := hl.a.val
  obtain ⟨a2, c2, ekv⟩ := hl.f.val
  subst eav ekv
  obtain ⟨kl, hkl⟩ : ∃ kl, k.len = kl := ⟨_, rfl⟩
  dsimp only
  rw [hkl]
  obtain ⟨W0, hW0⟩ : ∃ W0, (w.alloc (.cells #[.int .i64 K, .string N, .string X, .slice a1 l1 c1, .slice a2 kl c2] 25)).alloc (.cells #[.int .i64 0, .string ⟨#[]⟩, .string ⟨#[]⟩, .slice none 0 0, .slice none 0 0] 25) = W0 := ⟨_, rfl⟩
  have hz0 : W0.heap.size = w.heap.size + 2 := by rw [← hW0]; simp
  have hB0 : Below w.heap.size w W0 := by rw [← hW0]; exact ((Below.refl _ w).alloc (Nat.le_refl _) _).alloc (by simp) _
  have hbx : ∀ i v, (#[.int .i64 K, .string N, .string X, .slice a1 l1 c1, .slice a2 kl c2] : Array Value)[i]? = some v → W0.cell? ⟨w.heap.size, i, none⟩ = some v := fun i v h => by
    rw [← hW0, World.cell?_alloc_lt _ _ _ (by simp)]; exact (World.cell?_alloc_new w _ _ i).trans h
  have hR0 : Five W0 (w.heap.size + 1) (.int .i64 0) (.string ⟨#[]⟩) (.string ⟨#[]⟩) (.slice none 0 0) (.slice none 0 0) := by
    rw [← hW0]
    have := Five.new (w.alloc (.cells #[.int .i64 K, .string N, .string X, .slice a1 l1 c1, .slice a2 kl c2] 25)) (.int .i64 0) (.string ⟨#[]⟩) (.string ⟨#[]⟩) (.slice none 0 0) (.slice none 0 0) 25
    rw [World.size_alloc] at this
    exact this
  have HS : Fact (Below W0.heap.size W0 W0.drew ∧ (W0.drew.cell? ⟨w.heap.size, 0, none⟩ = some (.int .i64 K) ∧ W0.drew.cell? ⟨w.heap.size, 1, none⟩ = some (.string N) ∧ W0.drew.cell? ⟨w.heap.size, 2, none⟩ = some (.string X) ∧ W0.drew.cell? ⟨w.heap.size, 3, none⟩ = some (.slice a1 l1 c1))) :=
    ⟨(Below.refl _ _).drew, hbx 0 _ rfl, hbx 1 _ rfl, hbx 2 _ rfl, hbx 3 _ rfl⟩
  have hx4 : W0.cell? ⟨w.heap.size, 4, none⟩ = some (.slice a2 kl c2) := hbx 4 _ rfl
  have HX4 := Fact.mk hx4
  have HR0 := Fact.mk hR0
  have HB0 := Fact.mk hB0
  have HL := Fact.mk hl
  have HH := Fact.mk hH
  have HKL := Fact.mk hkl
  have HW0 := Fact.mk hW0
  have HND := Fact.mk hnd
  have HOK := Fact.mk hok
  have hA20 : A.length ≤ 1000000 := by have := hnd.many; dsimp only at this; omega
  have HSZ := Fact.mk hsz
  have hA0 : Fact (AS (Old w.heap.size) W0.drew (.slice a1 l1 c1) A) := ⟨((hl.a.like (like_below (hB0.mono hn))).mono (fun b (hb : b < n) => (by show b < w.heap.size; omega)))⟩
  clear hbx hR0 hB0 hl hH hkl hx4 hnd hok hsz
  go_enter Tryd.func17, Tryd.ntmps17
  go_wp2_with fail
  clear HW0 hW0
  go_cut [3] (fun xv wc => ∃ (Y : Nat) (b1 : Option Addr) (b2 b3 : Nat), xv = .pointer (some ⟨Y, 0, none⟩) ∧ Fact (Five wc Y (.int .i64 K) (.string N) (.string X) (.slice b1 b2 b3) (.slice none 0 0) ∧ Below W0.heap.size W0 wc ∧ w.heap.size + 2 ≤ Y ∧ AS (fun b => w.heap.size + 2 ≤ b ∧ b ≠ Y) wc (.slice b1 b2 b3) A))
  case first =>
    have hS0 := HS.out
    clear HS
    have hlt4 : w.heap.size < W0.heap.size := by omega
    have hY0 : W0.heap.size ≤ w.heap.size + 2 := by omega
    clear HX4 HR0 HL HH HKL HSZ HB0
    go_region_held3 (fun w' => Below W0.heap.size W0 w' ∧ (w'.cell? ⟨w.heap.size, 0, none⟩ = some (.int .i64 K) ∧ w'.cell? ⟨w.heap.size, 1, none⟩ = some (.string N) ∧ w'.cell? ⟨w.heap.size, 2, none⟩ = some (.string X) ∧ w'.cell? ⟨w.heap.size, 3, none⟩ = some (.slice a1 l1 c1)))
      (first | with_reducible exact hS0 | with_reducible exact keepCdrew hlt4 hS0 | with_reducible exact keepC (hb5.alloc hz5 _) hlt4 hS0 | with_reducible exact keepCset hlt4 hY0 (by assumption) | with_reducible exact keepC hb5 hlt4 (by assumption) | with_reducible exact keepCalloc hlt4 (by assumption))
      (first | (refine wp_appendA (s := .const (.slice none 0 0)) (y := .tmp 14) A (.slice a1 l1 c1) w.heap.size rfl (by simp [Act.eval]) (by simp [Act.eval]) (by first | exact hA0.out | exact hA0.out.like (fun b hb hz => Below.heap_alloc W0 _ _ hz)) hA20 ?_; intro p1 p2 p3 w5 has5 hb50; have hb5 : Below W0.heap.size _ w5 := hb50.mono (by simp); have hz5 : W0.heap.size ≤ w5.heap.size := Nat.le_trans (by simp) hb50.size; obtain ⟨hc5, hf5⟩ := bcell hb50; have HAS5 := Fact.mk has5; have HB50 := Fact.mk hb50; clear has5 hb50))
    · rename_i hHeld
      have HH1 := Fact.mk hHeld.1
      clear hHeld
      go_wp2_with fail
      go_meet
      case rel =>
        refine ⟨_, p1, p2, p3, rfl, ⟨Five.new w5 _ _ _ _ _ _, HH1.out, by omega, ?_⟩⟩
        have hx := HAS5.out.inn
        exact (hx.like (w' := w5.alloc _) (fun b hb hz => Below.heap_alloc _ _ _ hz)).mono (fun b hb => ⟨by have h1 : W0.heap.size ≤ b := hb.1; omega, by have := hb.2; omega⟩)
    · rename_i hHeld
      have HH1 := Fact.mk hHeld.1
      clear hHeld
      go_wp2_with fail
      go_meet
      case rel =>
        have hfv : Five w5 W0.heap.size (.int .i64 0) (.string ⟨#[]⟩) (.string ⟨#[]⟩) (.slice none 0 0) (.slice none 0 0) := by
          have h0 := Five.new W0 (.int .i64 0) (.string ⟨#[]⟩) (.string ⟨#[]⟩) (.slice none 0 0) (.slice none 0 0) 25
          exact h0.same (HB50.out.block _ (by simp))
        rw [hz0] at hfv
        refine ⟨_, p1, p2, p3, rfl, ⟨five_all hfv _ _ _ _ _, HH1.out, Nat.le_refl _, ?_⟩⟩
        refine (HAS5.out.like (fun b hb hz => ?_)).mono (fun b hb => ?_)
        · have hb' : W0.heap.size + 1 ≤ b := by simpa using hb
          exact five_other _ _ (by omega) _ _ _ _ _
        · have hb' : W0.heap.size + 1 ≤ b := by simpa using hb
          exact ⟨by omega, by omega⟩
  case rest =>
    obtain ⟨Y, b1, b2, b3, rfl, hcx⟩ := hcut
    obtain ⟨bk, ok, hkd⟩ : ∃ b o, Fact (∀ i, i < kl → a2 = some ⟨b, o, none⟩ ∧ b < n ∧ FAt (Old n) w k b o) := by
      obtain ⟨a2', c2', e2, _, _, hF⟩ := HL.out.f
      cases e2
      rcases hF with h0 | ⟨b, o, ea, hS, hcs⟩
      · refine ⟨0, 0, ⟨fun i hi => ?_⟩⟩
        have := HKL.out
        omega
      · exact ⟨b, o, ⟨fun i hi => ⟨ea, hS, hcs⟩⟩⟩
    have hY1 := hcx.out.2.2.1
    have hY2 := hcx.out.1.lt
    have hwcs : w.heap.size + 2 ≤ wc.heap.size := by have := hcx.out.2.1.size; omega
    clear hA0 HS
    go_wp2_with fail
    go_loopg [4] kl (fun gf iv wr => ∃ (i : Nat) (rest : M.F) (rs : List Nw) (v : Value), iv = .int .i64 i ∧ i + rest.len = kl ∧ rest.len ≤ gf ∧ Fact (RowAt wc.heap.size Y wr ⟨K, N, X, A⟩ (.slice b1 b2 b3) v rs ∧ rs.length ≤ i ∧ joinA (rs.map prN).reverse rest = joinA [] k ∧ OkL (rs.map prN) ∧ Keep Y (Y + 1) wc wr ∧ (rest.len = 0 ∨ FAt (Old n) w rest bk (ok + i * 5)) ∧ Hered RJoinP rest ∧ allF OKnd rest ∧ i + rest.size ≤ 1000000))
    case atStart =>
      refine ⟨0, k, [], .slice none 0 0, rfl, by rw [HKL.out]; omega, by rw [HKL.out]; omega, ⟨⟨hcx.out.1, World.ownsRow_nil _ _ _ _, fun r hr => absurd hr (List.not_mem_nil), hY2, Nat.le_refl _⟩, Nat.zero_le _, rfl, (fun p hp => nomatch hp), Keep.refl _ _ _, ?_, HH.out, HOK.out, by have := HSZ.out; omega⟩⟩
      by_cases h0 : kl = 0
      · left; rw [HKL.out]; exact h0
      · right
        rw [Nat.zero_mul, Nat.add_zero]
        exact (hkd.out 0 (by omega)).2.2
    case round =>
      obtain ⟨i, rest, rs, v, rfl, hlen, hfu, hx⟩ := hrel
      obtain ⟨hrow, hrs, hmat, hoka, hkp, hfat, hHr, hs1, hs2⟩ := hx.out
      obtain ⟨q0, q1, q2, q3, q4, qf⟩ := id hrow.five
      have hbox : wr.cell? ⟨w.heap.size, 4, none⟩ = some (.slice a2 kl c2) := hkp.cell ((hcx.out.2.1.cell (p := ⟨w.heap.size, 4, none⟩) (by show w.heap.size < _; omega)).trans HX4.out) (.inl (by omega))
      obtain ⟨va, vc, rfl⟩ := own_shape hrow.own
      have HROW := Fact.mk hrow
      have HKP := Fact.mk hkp
      have HMAT := Fact.mk hmat
      have HRS := Fact.mk hrs
      have HOKA := Fact.mk hoka
      have hm0 := hs2
      cases rest with
      | nil =>
        have hi : i = kl := by have : i + 0 = kl := hlen; omega
        obtain ⟨m, hm⟩ : ∃ m, rs.length = m := ⟨_, rfl⟩
        have HJ : Fact (joinF k = forF rs) := ⟨by
          have h1 : (rs.map prN).reverse = joinA [] k := hmat
          unfold joinF
          rw [← h1, List.reverse_reverse, forF_map]⟩
        rw [hm] at q4
        clear hx hfat hHr hs1 hs2 hlen hfu hrow hkp hmat hrs HH HSZ hm0 hoka
        have hR : Five wr (w.heap.size + 1) (.int .i64 0) (.string ⟨#[]⟩) (.string ⟨#[]⟩) (.slice none 0 0) (.slice none 0 0) := (HR0.out.same (hcx.out.2.1.block _ (by omega))).same (HKP.out.block _ (by omega) (.inl (by omega)))
        obtain ⟨r0, r1, r2, r3, r4, rfz⟩ := id hR
        have rf0 := rfz 0
        have rf1 := rfz 1
        have rf2 := rfz 2
        have rf3 := rfz 3
        have rf4 := rfz 4
        have HR := Fact.mk hR
        subst hi
        clear rfz qf hR
        go_wp2_with fail
        have hR := HR.out
        obtain ⟨W5, hW5⟩ : ∃ W5, ((((wr.setCell ⟨w.heap.size + 1, 0, none⟩ (.int .i64 K)).setCell ⟨w.heap.size + 1, 1, none⟩ (.string N)).setCell ⟨w.heap.size + 1, 2, none⟩ (.string X)).setCell ⟨w.heap.size + 1, 3, none⟩ (.slice b1 b2 b3)).setCell ⟨w.heap.size + 1, 4, none⟩ (.slice va m vc) = W5 := ⟨_, rfl⟩
        have hoth : ∀ b, b ≠ w.heap.size + 1 → W5.heap[b]? = wr.heap[b]? := fun b hb => by rw [← hW5]; exact five_other _ _ hb _ _ _ _ _
        have hz5 : W5.heap.size = wr.heap.size := by rw [← hW5]; simp [World.setCell]
        have hBr : Below w.heap.size w wr := (HB0.out.trans (hcx.out.2.1.mono (by omega))).trans ((HKP.out.below (by omega)).mono (by omega))
        have hB5 : Below w.heap.size w W5 := ⟨by rw [← hW5]; exact hBr.os, by rw [← hW5]; exact hBr.tape, by rw [← hW5]; exact hBr.output, by rw [hz5]; exact hBr.size, fun k hk => (hoth k (by omega)).trans (hBr.block k hk)⟩
        have h5 := five_all hR (.int .i64 K) (.string N) (.string X) (.slice b1 b2 b3) (.slice va m vc)
        rw [hW5] at h5
        rw [hW5]
        refine bodyPost_ret (v := nodeV ⟨K, N, X, A⟩ (.slice b1 b2 b3) (.slice va m vc)) (by simp [results, Tryd.f17, go_sem, h5.c0, h5.c1, h5.c2, h5.c3, h5.c4]) rfl ⟨_, _, rfl, hB5, ?_, ?_⟩
        · refine ((hcx.out.2.2.2.inn.like (w' := W5) (fun b hb hz => ?_)).mono (fun b hb => by have := hb.1.1; omega))
          exact (hoth b (by have := hb.1.1; omega)).trans (HKP.out.block b hz (by have := hb.1.2; omega))
        · have hsz := HROW.out.size
          rw [HJ.out]
          have hmv : (Value.slice va m vc) = .slice va rs.length vc := by rw [hm]
          rw [hmv]
          exact ((HROW.out.out.like (w' := W5) (fun b hb hz => hoth b (by have := hb.1; omega))).mono (fun b hb => by have := hb.1; omega))
      | node xb xo d' k' r' =>
        have hlen' : i + (r'.len + 1) = kl := hlen
        have hfu' : r'.len + 1 ≤ gk := hfu
        obtain ⟨g', rfl⟩ : ∃ g', gk = g' + 1 := ⟨gk - 1, by omega⟩
        have hlt2 : i < kl := by omega
        obtain ⟨ea2, hbk, _⟩ := hkd.out i hlt2
        subst ea2
        obtain ⟨hP, hHr'⟩ := hHr
        obtain ⟨ok1, ok2, ok3⟩ := hs1
        have hfat' := hfat.resolve_left (by show ¬ r'.len + 1 = 0; omega)
        obtain ⟨⟨av', ka', kc', e0, e1, e2, e3, e4, hav', h4, h5, hkk⟩, hrr⟩ := hfat'
        have hBr : Below w.heap.size w wr := (HB0.out.trans (hcx.out.2.1.mono (by omega))).trans ((HKP.out.below (by omega)).mono (by omega))
        have hlk : Like (Old n) w wr := like_below (hBr.mono hn)
        obtain ⟨x1, x2, x3, ex⟩ := hav'.val
        subst ex
        obtain ⟨kl', hkl'⟩ : ∃ kl', k'.len = kl' := ⟨_, rfl⟩
        have l0 := (hBr.cell (p := ⟨bk, ok + i * 5, none⟩) (by show bk < _; omega)).trans e0
        have l1 := (hBr.cell (p := ⟨bk, ok + i * 5 + 1, none⟩) (by show bk < _; omega)).trans e1
        have l2 := (hBr.cell (p := ⟨bk, ok + i * 5 + 2, none⟩) (by show bk < _; omega)).trans e2
        have l3 := (hBr.cell (p := ⟨bk, ok + i * 5 + 3, none⟩) (by show bk < _; omega)).trans e3
        have l4 := (hBr.cell (p := ⟨bk, ok + i * 5 + 4, none⟩) (by show bk < _; omega)).trans e4
        simp only [BT.size] at hs2
        have hcall := hP d' (.slice x1 x2 x3) (.slice ka' k'.len kc') n wr ⟨hav'.like hlk, FL.like hlk ⟨ka', kc', rfl, h4, h5, hkk⟩⟩ (Nat.le_trans hn hBr.size) ok1 ok2 (by omega)
        rw [hkl'] at hcall l4
        obtain ⟨K', N', X', A'⟩ := d'
        obtain ⟨jl, hjl⟩ : ∃ jl, (joinF k').len = jl := ⟨_, rfl⟩
        have HCALL := Fact.mk hcall
        have HJL := Fact.mk hjl
        have HR : Fact ((r'.len = 0 ∨ FAt (Old n) w r' bk (ok + (i + 1) * 5)) ∧ Hered RJoinP r' ∧ allF OKnd r' ∧ i + 1 + r'.size ≤ 1000000) := ⟨.inr (by rw [show ok + (i + 1) * 5 = ok + i * 5 + 5 by omega]; exact hrr), hHr', ok3, by omega⟩
        have HMAT2 : Fact (joinA (jstP (rs.map prN).reverse (⟨K', N', X', A'⟩, joinF k')) r' = joinA [] k) := ⟨hmat⟩
        have HOKN : Fact (OKnd ⟨K', N', X', A'⟩ ∧ allF OKnd (joinF k')) := ⟨ok1, (joinF_ok ok2).1⟩
        have hX6 : X'.size ≤ 6000 := ok1.text
        have j1 : (i : Int) < kl := by omega
        have j3 : (0 : Int) ≤ i := by omega
        obtain ⟨m, hm⟩ : ∃ m, rs.length = m := ⟨_, rfl⟩
        have HM := Fact.mk hm
        have hmL := hm
        rw [hm] at q4
        have hmi : m ≤ 1000000 := by omega
        have hi6 : i + 1 ≤ 1000000 := by omega
        clear hx hfat hP hHr' hs2 hrr hkk hav' hcall hlk e0 e1 e2 e3 e4 hkd hlen hfu hrow hkp hmat hrs hoka HR0 HL HH ok1 ok2 ok3 h4 h5 hkl' hjl hm0
        go_upto_region 6 with (go_at_call 17; refine HCALL.out.mono ?_; rintro e w2 ⟨av2, kv2, rfl, hb2, has2, hfl2⟩; obtain ⟨y1, y2, y3, ey⟩ := has2.val; subst ey; obtain ⟨z1, z3, ez⟩ := hfl2.val; rw [HJL.out] at ez; subst ez)
        obtain ⟨W3, hW3⟩ : ∃ W3, w2.alloc (.cells #[.int .i64 K', .string N', .string X', .slice y1 y2 y3, .slice z1 jl z3] 25) = W3 := ⟨_, rfl⟩
        have hb3 : Below wr.heap.size wr W3 := by rw [← hW3]; exact hb2.alloc hb2.size _
        have HFV3 : Fact (Five W3 w2.heap.size (.int .i64 K') (.string N') (.string X') (.slice y1 y2 y3) (.slice z1 jl z3)) := ⟨by rw [← hW3]; exact Five.new w2 _ _ _ _ _ _⟩
        have hz23 : w2.heap.size ≤ W3.heap.size := by rw [← hW3]; simp
        have HB23 : Fact (∀ b, b < w2.heap.size → W3.heap[b]? = w2.heap[b]?) := ⟨fun b hb => by rw [← hW3]; exact Below.heap_alloc _ _ _ hb⟩
        have HB3 := Fact.mk hb3
        have HROW3 := Fact.mk (HROW.out.bel hb3)
        have HAS2 := Fact.mk has2
        have HFL2 : Fact (FL (fun b => wr.heap.size ≤ b) w2 (.slice z1 jl z3) (joinF k')) := ⟨hfl2⟩
        obtain ⟨q0, q1, q2, q3, q4, qf⟩ := id HROW3.out.five
        obtain ⟨f0, f1, f2, f3, f4, ff⟩ := id HFV3.out
        rw [HM.out] at HROW3
        rw [hW3]
        clear hW3 hb2 hb3 has2 hfl2 l0 l1 l2 l3 l4 qf ff hbox HCALL
        have hisE : (X'.toList == []) = X'.toList.isEmpty := by cases X'.toList <;> rfl
        obtain ⟨E, hE⟩ : ∃ E, X'.toList.isEmpty = E := ⟨_, rfl⟩
        have HEE : Fact ((X'.toList == []) = E) := ⟨by rw [hisE, hE]⟩
        clear hisE
        by_cases h3 : K' = 3
        · subst h3
          cases E
          · have HEMP : Fact (emp ⟨3, N', X', A'⟩ = false) := ⟨by show ((3 : Int) == 3 && (X'.toList == [])) = false; rw [HEE.out]; rfl⟩
            rcases Nat.eq_zero_or_pos m with hm0 | hm0
            · have HNIL : Fact (rs = []) := ⟨List.eq_nil_of_length_eq_zero (by rw [HM.out]; exact hm0)⟩
              have hmI : ¬ (0 : Int) < m := by omega
              have hmN : ¬ 0 < m := by omega
              have hmD : decide ((0 : Int) < m) = false := decide_eq_false hmI
              have hmD2 : decide (0 < m) = false := decide_eq_false hmN
              clear hm0 hmL
              go_upto_region 9 with fail
              go_quiet (fail)
              obtain ⟨W4, hW4⟩ : ∃ W4, W3.drewN nq = W4 := ⟨_, rfl⟩
              rw [hW4]
              have hb34 : Below W3.heap.size W3 W4 := by rw [← hW4]; exact below_drewN (Below.refl _ _) nq
              have hb4 : Below wr.heap.size wr W4 := HB3.out.trans (hb34.mono HB3.out.size)
              have HROW4 := Fact.mk (HROW3.out.bel hb34)
              have HFV4 := Fact.mk (HFV3.out.same (hb34.block _ HFV3.out.lt))
              obtain ⟨r0, r1, r2, r3, r4, rfz⟩ := id HROW4.out.five
              obtain ⟨t0, t1, t2, t3, t4, tfz⟩ := id HFV4.out
              have HB4 := Fact.mk hb4
              have HAS4 := Fact.mk (HAS2.out.like (w' := W4) (fun b hb hz => (hb34.block b (Nat.lt_of_lt_of_le hz hz23)).trans (HB23.out b hz)))
              have HFL4 := Fact.mk (HFL2.out.like (w' := W4) (fun b hb hz => (hb34.block b (Nat.lt_of_lt_of_le hz hz23)).trans (HB23.out b hz)))
              have hYs : Y < W4.heap.size := HROW4.out.five.lt
              have hwc4 : wc.heap.size ≤ W4.heap.size := HROW4.out.size
              have HO4 : Fact (W4.ownsRow wc.heap.size 25 5 (.slice va m vc) m (rowF rs)) := ⟨by have := HROW4.out.own; rw [HM.out] at this; exact this⟩
              have HBK : Fact (∀ b, some b = (Value.slice va m vc).ownBlock → wc.heap.size ≤ b) := ⟨fun b e => (HROW4.out.blk b e).1⟩
              obtain ⟨i0, hii, hzz0, hzz1, hzz2⟩ := info_parts infoN
              clear hW4 hb34 hb4 rfz tfz
              go_wp2_with (at_builtin; refine wpList_append_own_at _ rfl (.tmp 34) (.tmp 36) 23 rfl wc.heap.size 25 i0 (.agg #[.int .i64 0, .string ⟨#[]⟩, .string ⟨#[]⟩, .slice none 0 0, .slice none 0 0]) 5 88 Tryd.underlying23 hii hzz0 hzz1 hzz2 rfl (by decide) (.slice va m vc) m (rowF rs) rfl (HO4.out.alloc _) ⟨W4.heap.size, 0, none⟩ 1 1 [.int .i64 3, .string N', .string X', .slice y1 y2 y3, .slice z1 jl z3] rfl rfl (cell_five_new _ _ _ _ _ _ _) (by simp [Value.oneCell']) (by unfold maxLen; omega) (by omega) (by simp; omega) ?_; intro v3 w5 hown3 hgrow3 _ hat3; obtain ⟨g2, cap2, rfl, hg2⟩ := own_succ hown3; have HO3 := Fact.mk hown3; have HG3 := Fact.mk hgrow3; have HAT3 := Fact.mk hat3; clear hown3 hgrow3 hat3; have hT3 : w5.heap[Y]? = W4.heap[Y]? := (HG3.out.block Y (by simp; omega) (fun e => by have := HBK.out Y e; have := HROW4.out.lt; omega)).trans (Below.heap_alloc _ _ _ hYs); have s4 := (HROW4.out.five.same hT3).c4; have t4' := (HROW4.out.five.same hT3).fz 4; clear hT3)
              go_roundg g'
              case measure => omega
              case rel =>
                have hz4 := HB4.out.size
                refine ⟨i + 1, r', rs ++ [⟨⟨3, N', X', A'⟩, joinF k', .slice y1 y2 y3, .slice z1 jl z3⟩], _, by go_num, by omega, by omega, ⟨HROW.out.step (w2 := W4) (r := ⟨⟨3, N', X', A'⟩, joinF k', .slice y1 y2 y3, .slice z1 jl z3⟩) hz4 (fun b _ hz => HB4.out.block b hz) HAS4.out HFL4.out (by rw [HM.out]; exact HO3.out) (by rw [HM.out]; exact HG3.out) (by rw [HM.out]; exact HAT3.out), by rw [List.length_append, List.length_singleton]; have := HRS.out; omega, ?_, ?_, HROW.out.keep HKP.out HB4.out (by rw [HM.out]; exact HG3.out), HR.out.1, HR.out.2.1, HR.out.2.2.1, HR.out.2.2.2⟩⟩
                · have h := HMAT2.out
                  rw [jstP_new _ _ (HEMP.out) ((fun l t e => by rw [HNIL.out] at e; cases e))] at h
                  rw [List.map_append, List.reverse_append]
                  exact h
                · rw [List.map_append]
                  intro p hp
                  rcases List.mem_append.1 hp with hp | hp
                  · exact HOKA.out p hp
                  · obtain rfl := List.mem_singleton.1 hp
                    exact HOKN.out
            · obtain ⟨g, ce, hve⟩ := own_pos5 hm0 (by have := HROW3.out.own; rw [HM.out] at this; exact this)
              cases hve
              obtain ⟨rs0, l, hrs0⟩ : ∃ rs0 l, rs = rs0 ++ [l] := ⟨rs.dropLast, rs.getLast (by intro e; rw [e] at hmL; simp at hmL; omega), (List.dropLast_concat_getLast _).symm⟩
              obtain ⟨m0, hmm⟩ : ∃ m0, rs0.length = m0 := ⟨_, rfl⟩
              have hmm1 : m = m0 + 1 := by have := HM.out; rw [hrs0, List.length_append, hmm] at this; simp at this; omega
              have HRS0 := Fact.mk hrs0
              have HMM := Fact.mk hmm
              have HMM1 := Fact.mk hmm1
              have hown5 : W3.ownsRow wc.heap.size 25 5 (.slice (some ⟨g, 0, none⟩) (m0 + 1) vc) (m0 + 1) (rowF (rs0 ++ [l])) := by
                have := HROW3.out.own
                rw [HM.out, hrs0, hmm1] at this
                exact this
              obtain ⟨hcl, _, _⟩ := own5_at' hown5 hmm
              have hokl := (HOKA.out (prN l) (by rw [hrs0, List.map_append]; simp)).1
              have hlx : l.d.x.size ≤ 6000 := hokl.text
              have d0 : W3.cell? ⟨g, m0 * 5, none⟩ = some (.int .i64 l.d.k) := hcl 0 _ rfl
              have d2 : W3.cell? ⟨g, m0 * 5 + 2, none⟩ = some (.string l.d.x) := hcl 2 _ rfl
              have hw1 : IntKind.i64.wrap ((m : Int) - 1) = (m0 : Int) := by rw [wrap_id16 (by omega) (by omega)]; omega
              have hmI : (0 : Int) < m := by omega
              have m00 : (0 : Int) ≤ m0 := by omega
              have m01 : (m0 : Int) < m := by omega
              have HOWN5 := Fact.mk hown5
              clear hcl hokl hrs0 hmm hown5 hmm1 hmL
              have hmN : 0 < m := hm0
              have hfitq : ∀ b, (decide (l.d.x.size + X'.size ≤ 4096)) = b → l.d.k = 3 → fit2 l.d ⟨3, N', X', A'⟩ = b := fun b h1 h2 => by
                unfold fit2; rw [h2]; show ((3 : Int) == 3 && (3 : Int) == 3 && _) = b; rw [← h1]; rfl
              have HFQ := Fact.mk hfitq
              have hrev : (rs.map prN).reverse = prN l :: (rs0.map prN).reverse := by rw [HRS0.out, List.map_append, List.reverse_append]; rfl
              have HREV := Fact.mk hrev
              obtain ⟨⟨lk, ln, lx, la⟩, lkk, lav, lkv⟩ := l
              dsimp only at d0 d2 hlx HFQ
              clear hfitq hrev
              by_cases hl3 : lk = 3
              · subst hl3
                by_cases hsz : X'.size + lx.size ≤ 4096
                · obtain ⟨T, hT⟩ : ∃ T, lx ++ X' = T := ⟨_, rfl⟩
                  have hadd := fun w => add_at lx X' T hT (by omega) w
                  have HT := Fact.mk hT
                  have hszI : ((X'.size : Int) + lx.size ≤ 4096) := by omega
                  have HFT : Fact (fit2 ⟨3, ln, lx, la⟩ ⟨3, N', X', A'⟩ = true) := ⟨HFQ.out true (decide_eq_true (by omega)) rfl⟩
                  go_upto_region 9 with fail
                  go_quiet (fail)
                  obtain ⟨W4, hW4⟩ : ∃ W4, W3.drewN nq = W4 := ⟨_, rfl⟩
                  rw [hW4]
                  have hb34 : Below W3.heap.size W3 W4 := by rw [← hW4]; exact below_drewN (Below.refl _ _) nq
                  have HROW4 := Fact.mk (HROW3.out.bel hb34)
                  have HFV4 := Fact.mk (HFV3.out.same (hb34.block _ HFV3.out.lt))
                  obtain ⟨r0, r1, r2, r3, r4, rfz⟩ := id HROW4.out.five
                  obtain ⟨t0, t1, t2, t3, t4, tfz⟩ := id HFV4.out
                  have hown4 := own_like HOWN5.out (fun k _ hk => hb34.block k hk)
                  obtain ⟨hcl, hcf, hgB⟩ := own5_at' hown4 HMM.out
                  have c2' : W4.cell? ⟨g, m0 * 5 + 2, none⟩ = some (.string lx) := hcl 2 _ rfl
                  have fz := hcf (m0 * 5 + 2)
                  have HB4 : Fact (Below wr.heap.size wr W4) := ⟨HB3.out.trans (hb34.mono HB3.out.size)⟩
                  have hgY : Y < g := by have := HROW4.out.lt; omega
                  clear hW4 hb34 hcl hcf hown4 rfz tfz
                  go_wp2_with fail
                  go_region
                  all_goals
                    go_wp2_with fail
                    go_roundg g'
                    case measure => omega
                    case rel =>
                      have hmm1 := HMM1.out
                      have hrw : RowAt wc.heap.size Y W4.drew ⟨K, N, X, A⟩ (.slice b1 b2 b3) (.slice (some ⟨g, 0, none⟩) (m0 + 1) vc) (rs0 ++ [⟨⟨3, ln, lx, la⟩, lkk, lav, lkv⟩]) := by
                        have h := HROW4.out
                        rw [HRS0.out, hmm1] at h
                        exact h.bel (Below.refl _ _).drew
                      have hput := hrw.put T HMM.out
                      refine ⟨i + 1, r', rs0 ++ [⟨⟨3, ln, T, la⟩, lkk, lav, lkv⟩], .slice (some ⟨g, 0, none⟩) m vc, by go_num, by omega, by omega, ⟨by rw [hmm1]; exact hput, by rw [List.length_append, HMM.out, List.length_singleton]; have := HRS.out; have := HM.out; omega, ?_, ?_, ?_, HR.out.1, HR.out.2.1, HR.out.2.2.1, HR.out.2.2.2⟩⟩
                      · have h := HMAT2.out
                        rw [HREV.out] at h
                        unfold jstP at h
                        rw [if_neg (by rw [HEMP.out]; simp)] at h
                        dsimp only [prN] at h
                        rw [if_pos HFT.out] at h
                        rw [List.map_append, List.reverse_append]
                        have e : addT ⟨3, ln, lx, la⟩ ⟨3, N', X', A'⟩ = ⟨3, ln, T, la⟩ := by rw [← HT.out]; rfl
                        have h2 : joinA ((addT ⟨3, ln, lx, la⟩ ⟨3, N', X', A'⟩, lkk) :: (rs0.map prN).reverse) r' = joinA [] k := h
                        rw [e] at h2
                        exact h2
                      · have hol := HOKA.out
                        rw [HRS0.out, List.map_append] at hol
                        rw [List.map_append]
                        intro p hp
                        rcases List.mem_append.1 hp with hp | hp
                        · exact hol p (List.mem_append_left _ hp)
                        · obtain rfl := List.mem_singleton.1 hp
                          have hl := hol (prN ⟨⟨3, ln, lx, la⟩, lkk, lav, lkv⟩) (List.mem_append_right _ (List.mem_singleton.2 rfl))
                          exact ⟨⟨hl.1.many, hl.1.name, by show T.size ≤ 6000; rw [← HT.out, ByteArray.size_append]; omega, hl.1.each⟩, hl.2⟩
                      · have hk := HKP.out.trans (Keep.of_below HB4.out)
                        have hgw : wc.heap.size ≤ g := hgB
                        exact ⟨hk.os, hk.tape, hk.output, by simp [World.setCell]; exact hk.size, fun b hb hc => (Below.heap_setCell _ _ _ _ (by show b ≠ g; omega)).trans (hk.block b hb hc)⟩
                · have hszI : ¬ ((X'.size : Int) + lx.size ≤ 4096) := by omega
                  have HFT : Fact (fit2 ⟨3, ln, lx, la⟩ ⟨3, N', X', A'⟩ = false) := ⟨HFQ.out false (decide_eq_false (by omega)) rfl⟩
                  go_upto_region 9 with fail
                  go_quiet (fail)
                  obtain ⟨W4, hW4⟩ : ∃ W4, W3.drewN nq = W4 := ⟨_, rfl⟩
                  rw [hW4]
                  have hb34 : Below W3.heap.size W3 W4 := by rw [← hW4]; exact below_drewN (Below.refl _ _) nq
                  have hb4 : Below wr.heap.size wr W4 := HB3.out.trans (hb34.mono HB3.out.size)
                  have HROW4 := Fact.mk (HROW3.out.bel hb34)
                  have HFV4 := Fact.mk (HFV3.out.same (hb34.block _ HFV3.out.lt))
                  obtain ⟨r0, r1, r2, r3, r4, rfz⟩ := id HROW4.out.five
                  obtain ⟨t0, t1, t2, t3, t4, tfz⟩ := id HFV4.out
                  have HB4 := Fact.mk hb4
                  have HAS4 := Fact.mk (HAS2.out.like (w' := W4) (fun b hb hz => (hb34.block b (Nat.lt_of_lt_of_le hz hz23)).trans (HB23.out b hz)))
                  have HFL4 := Fact.mk (HFL2.out.like (w' := W4) (fun b hb hz => (hb34.block b (Nat.lt_of_lt_of_le hz hz23)).trans (HB23.out b hz)))
                  have hYs : Y < W4.heap.size := HROW4.out.five.lt
                  have hwc4 : wc.heap.size ≤ W4.heap.size := HROW4.out.size
                  have HO4 : Fact (W4.ownsRow wc.heap.size 25 5 (.slice (some ⟨g, 0, none⟩) m vc) m (rowF rs)) := ⟨by have := HROW4.out.own; rw [HM.out] at this; exact this⟩
                  have HBK : Fact (∀ b, some b = (Value.slice (some ⟨g, 0, none⟩) m vc).ownBlock → wc.heap.size ≤ b) := ⟨fun b e => (HROW4.out.blk b e).1⟩
                  obtain ⟨i0, hii, hzz0, hzz1, hzz2⟩ := info_parts infoN
                  clear hW4 hb34 hb4 rfz tfz
                  go_wp2_with (at_builtin; refine wpList_append_own_at _ rfl (.tmp 34) (.tmp 36) 23 rfl wc.heap.size 25 i0 (.agg #[.int .i64 0, .string ⟨#[]⟩, .string ⟨#[]⟩, .slice none 0 0, .slice none 0 0]) 5 88 Tryd.underlying23 hii hzz0 hzz1 hzz2 rfl (by decide) (.slice (some ⟨g, 0, none⟩) m vc) m (rowF rs) rfl (HO4.out.alloc _) ⟨W4.heap.size, 0, none⟩ 1 1 [.int .i64 3, .string N', .string X', .slice y1 y2 y3, .slice z1 jl z3] rfl rfl (cell_five_new _ _ _ _ _ _ _) (by simp [Value.oneCell']) (by unfold maxLen; omega) (by omega) (by simp; omega) ?_; intro v3 w5 hown3 hgrow3 _ hat3; obtain ⟨g2, cap2, rfl, hg2⟩ := own_succ hown3; have HO3 := Fact.mk hown3; have HG3 := Fact.mk hgrow3; have HAT3 := Fact.mk hat3; clear hown3 hgrow3 hat3; have hT3 : w5.heap[Y]? = W4.heap[Y]? := (HG3.out.block Y (by simp; omega) (fun e => by have := HBK.out Y e; have := HROW4.out.lt; omega)).trans (Below.heap_alloc _ _ _ hYs); have s4 := (HROW4.out.five.same hT3).c4; have t4' := (HROW4.out.five.same hT3).fz 4; clear hT3)
                  go_roundg g'
                  case measure => omega
                  case rel =>
                    have hz4 := HB4.out.size
                    refine ⟨i + 1, r', rs ++ [⟨⟨3, N', X', A'⟩, joinF k', .slice y1 y2 y3, .slice z1 jl z3⟩], _, by go_num, by omega, by omega, ⟨HROW.out.step (w2 := W4) (r := ⟨⟨3, N', X', A'⟩, joinF k', .slice y1 y2 y3, .slice z1 jl z3⟩) hz4 (fun b _ hz => HB4.out.block b hz) HAS4.out HFL4.out (by rw [HM.out]; exact HO3.out) (by rw [HM.out]; exact HG3.out) (by rw [HM.out]; exact HAT3.out), by rw [List.length_append, List.length_singleton]; have := HRS.out; omega, ?_, ?_, HROW.out.keep HKP.out HB4.out (by rw [HM.out]; exact HG3.out), HR.out.1, HR.out.2.1, HR.out.2.2.1, HR.out.2.2.2⟩⟩
                    · have h := HMAT2.out
                      rw [jstP_new _ _ (HEMP.out) ((fun l t e => by rw [HREV.out] at e; cases e; exact HFT.out))] at h
                      rw [List.map_append, List.reverse_append]
                      exact h
                    · rw [List.map_append]
                      intro p hp
                      rcases List.mem_append.1 hp with hp | hp
                      · exact HOKA.out p hp
                      · obtain rfl := List.mem_singleton.1 hp
                        exact HOKN.out
              · have hl3b : (lk == 3) = false := beq_eq_false_iff_ne.2 hl3
                have HFT : Fact (fit2 ⟨lk, ln, lx, la⟩ ⟨3, N', X', A'⟩ = false) := ⟨by unfold fit2; show (lk == 3 && _ && _) = false; rw [hl3b]; rfl⟩
                go_upto_region 9 with fail
                go_quiet (fail)
                obtain ⟨W4, hW4⟩ : ∃ W4, W3.drewN nq = W4 := ⟨_, rfl⟩
                rw [hW4]
                have hb34 : Below W3.heap.size W3 W4 := by rw [← hW4]; exact below_drewN (Below.refl _ _) nq
                have hb4 : Below wr.heap.size wr W4 := HB3.out.trans (hb34.mono HB3.out.size)
                have HROW4 := Fact.mk (HROW3.out.bel hb34)
                have HFV4 := Fact.mk (HFV3.out.same (hb34.block _ HFV3.out.lt))
                obtain ⟨r0, r1, r2, r3, r4, rfz⟩ := id HROW4.out.five
                obtain ⟨t0, t1, t2, t3, t4, tfz⟩ := id HFV4.out
                have HB4 := Fact.mk hb4
                have HAS4 := Fact.mk (HAS2.out.like (w' := W4) (fun b hb hz => (hb34.block b (Nat.lt_of_lt_of_le hz hz23)).trans (HB23.out b hz)))
                have HFL4 := Fact.mk (HFL2.out.like (w' := W4) (fun b hb hz => (hb34.block b (Nat.lt_of_lt_of_le hz hz23)).trans (HB23.out b hz)))
                have hYs : Y < W4.heap.size := HROW4.out.five.lt
                have hwc4 : wc.heap.size ≤ W4.heap.size := HROW4.out.size
                have HO4 : Fact (W4.ownsRow wc.heap.size 25 5 (.slice (some ⟨g, 0, none⟩) m vc) m (rowF rs)) := ⟨by have := HROW4.out.own; rw [HM.out] at this; exact this⟩
                have HBK : Fact (∀ b, some b = (Value.slice (some ⟨g, 0, none⟩) m vc).ownBlock → wc.heap.size ≤ b) := ⟨fun b e => (HROW4.out.blk b e).1⟩
                obtain ⟨i0, hii, hzz0, hzz1, hzz2⟩ := info_parts infoN
                clear hW4 hb34 hb4 rfz tfz
                go_wp2_with (at_builtin; refine wpList_append_own_at _ rfl (.tmp 34) (.tmp 36) 23 rfl wc.heap.size 25 i0 (.agg #[.int .i64 0, .string ⟨#[]⟩, .string ⟨#[]⟩, .slice none 0 0, .slice none 0 0]) 5 88 Tryd.underlying23 hii hzz0 hzz1 hzz2 rfl (by decide) (.slice (some ⟨g, 0, none⟩) m vc) m (rowF rs) rfl (HO4.out.alloc _) ⟨W4.heap.size, 0, none⟩ 1 1 [.int .i64 3, .string N', .string X', .slice y1 y2 y3, .slice z1 jl z3] rfl rfl (cell_five_new _ _ _ _ _ _ _) (by simp [Value.oneCell']) (by unfold maxLen; omega) (by omega) (by simp; omega) ?_; intro v3 w5 hown3 hgrow3 _ hat3; obtain ⟨g2, cap2, rfl, hg2⟩ := own_succ hown3; have HO3 := Fact.mk hown3; have HG3 := Fact.mk hgrow3; have HAT3 := Fact.mk hat3; clear hown3 hgrow3 hat3; have hT3 : w5.heap[Y]? = W4.heap[Y]? := (HG3.out.block Y (by simp; omega) (fun e => by have := HBK.out Y e; have := HROW4.out.lt; omega)).trans (Below.heap_alloc _ _ _ hYs); have s4 := (HROW4.out.five.same hT3).c4; have t4' := (HROW4.out.five.same hT3).fz 4; clear hT3)
                go_roundg g'
                case measure => omega
                case rel =>
                  have hz4 := HB4.out.size
                  refine ⟨i + 1, r', rs ++ [⟨⟨3, N', X', A'⟩, joinF k', .slice y1 y2 y3, .slice z1 jl z3⟩], _, by go_num, by omega, by omega, ⟨HROW.out.step (w2 := W4) (r := ⟨⟨3, N', X', A'⟩, joinF k', .slice y1 y2 y3, .slice z1 jl z3⟩) hz4 (fun b _ hz => HB4.out.block b hz) HAS4.out HFL4.out (by rw [HM.out]; exact HO3.out) (by rw [HM.out]; exact HG3.out) (by rw [HM.out]; exact HAT3.out), by rw [List.length_append, List.length_singleton]; have := HRS.out; omega, ?_, ?_, HROW.out.keep HKP.out HB4.out (by rw [HM.out]; exact HG3.out), HR.out.1, HR.out.2.1, HR.out.2.2.1, HR.out.2.2.2⟩⟩
                  · have h := HMAT2.out
                    rw [jstP_new _ _ (HEMP.out) ((fun l t e => by rw [HREV.out] at e; cases e; exact HFT.out))] at h
                    rw [List.map_append, List.reverse_append]
                    exact h
                  · rw [List.map_append]
                    intro p hp
                    rcases List.mem_append.1 hp with hp | hp
                    · exact HOKA.out p hp
                    · obtain rfl := List.mem_singleton.1 hp
                      exact HOKN.out
          · have HEMP : Fact (emp ⟨3, N', X', A'⟩ = true) := ⟨by show ((3 : Int) == 3 && (X'.toList == [])) = true; rw [HEE.out]; rfl⟩
            go_wp2_with fail
            go_roundg g'
            case measure => omega
            case rel =>
              refine ⟨i + 1, r', rs, .slice va m vc, by go_num, by omega, by omega, ⟨HROW3.out, by have := HRS.out; omega, ?_, HOKA.out, HKP.out.trans (Keep.of_below (HB3.out)), HR.out.1, HR.out.2.1, HR.out.2.2.1, HR.out.2.2.2⟩⟩
              have h := HMAT2.out
              unfold jstP at h
              rw [if_pos HEMP.out] at h
              exact h
        · have hk3 : (K' == 3) = false := beq_eq_false_iff_ne.2 h3
          have HEMP : Fact (emp ⟨K', N', X', A'⟩ = false) := ⟨by show (K' == 3 && (X'.toList == [])) = false; rw [hk3]; rfl⟩
          go_upto_region 9 with fail
          go_quiet (fail)
          obtain ⟨W4, hW4⟩ : ∃ W4, W3.drewN nq = W4 := ⟨_, rfl⟩
          rw [hW4]
          have hb34 : Below W3.heap.size W3 W4 := by rw [← hW4]; exact below_drewN (Below.refl _ _) nq
          have hb4 : Below wr.heap.size wr W4 := HB3.out.trans (hb34.mono HB3.out.size)
          have HROW4 := Fact.mk (HROW3.out.bel hb34)
          have HFV4 := Fact.mk (HFV3.out.same (hb34.block _ HFV3.out.lt))
          obtain ⟨r0, r1, r2, r3, r4, rfz⟩ := id HROW4.out.five
          obtain ⟨t0, t1, t2, t3, t4, tfz⟩ := id HFV4.out
          have HB4 := Fact.mk hb4
          have HAS4 := Fact.mk (HAS2.out.like (w' := W4) (fun b hb hz => (hb34.block b (Nat.lt_of_lt_of_le hz hz23)).trans (HB23.out b hz)))
          have HFL4 := Fact.mk (HFL2.out.like (w' := W4) (fun b hb hz => (hb34.block b (Nat.lt_of_lt_of_le hz hz23)).trans (HB23.out b hz)))
          have hYs : Y < W4.heap.size := HROW4.out.five.lt
          have hwc4 : wc.heap.size ≤ W4.heap.size := HROW4.out.size
          have HO4 : Fact (W4.ownsRow wc.heap.size 25 5 (.slice va m vc) m (rowF rs)) := ⟨by have := HROW4.out.own; rw [HM.out] at this; exact this⟩
          have HBK : Fact (∀ b, some b = (Value.slice va m vc).ownBlock → wc.heap.size ≤ b) := ⟨fun b e => (HROW4.out.blk b e).1⟩
          obtain ⟨i0, hii, hzz0, hzz1, hzz2⟩ := info_parts infoN
          clear hW4 hb34 hb4 rfz tfz
          go_wp2_with (at_builtin; refine wpList_append_own_at _ rfl (.tmp 34) (.tmp 36) 23 rfl wc.heap.size 25 i0 (.agg #[.int .i64 0, .string ⟨#[]⟩, .string ⟨#[]⟩, .slice none 0 0, .slice none 0 0]) 5 88 Tryd.underlying23 hii hzz0 hzz1 hzz2 rfl (by decide) (.slice va m vc) m (rowF rs) rfl (HO4.out.alloc _) ⟨W4.heap.size, 0, none⟩ 1 1 [.int .i64 K', .string N', .string X', .slice y1 y2 y3, .slice z1 jl z3] rfl rfl (cell_five_new _ _ _ _ _ _ _) (by simp [Value.oneCell']) (by unfold maxLen; omega) (by omega) (by simp; omega) ?_; intro v3 w5 hown3 hgrow3 _ hat3; obtain ⟨g2, cap2, rfl, hg2⟩ := own_succ hown3; have HO3 := Fact.mk hown3; have HG3 := Fact.mk hgrow3; have HAT3 := Fact.mk hat3; clear hown3 hgrow3 hat3; have hT3 : w5.heap[Y]? = W4.heap[Y]? := (HG3.out.block Y (by simp; omega) (fun e => by have := HBK.out Y e; have := HROW4.out.lt; omega)).trans (Below.heap_alloc _ _ _ hYs); have s4 := (HROW4.out.five.same hT3).c4; have t4' := (HROW4.out.five.same hT3).fz 4; clear hT3)
          go_roundg g'
          case measure => omega
          case rel =>
            have hz4 := HB4.out.size
            refine ⟨i + 1, r', rs ++ [⟨⟨K', N', X', A'⟩, joinF k', .slice y1 y2 y3, .slice z1 jl z3⟩], _, by go_num, by omega, by omega, ⟨HROW.out.step (w2 := W4) (r := ⟨⟨K', N', X', A'⟩, joinF k', .slice y1 y2 y3, .slice z1 jl z3⟩) hz4 (fun b _ hz => HB4.out.block b hz) HAS4.out HFL4.out (by rw [HM.out]; exact HO3.out) (by rw [HM.out]; exact HG3.out) (by rw [HM.out]; exact HAT3.out), by rw [List.length_append, List.length_singleton]; have := HRS.out; omega, ?_, ?_, HROW.out.keep HKP.out HB4.out (by rw [HM.out]; exact HG3.out), HR.out.1, HR.out.2.1, HR.out.2.2.1, HR.out.2.2.2⟩⟩
            · have h := HMAT2.out
              rw [jstP_new _ _ (HEMP.out) ((fun l t e => by unfold fit2; show (l.1.k == 3 && K' == 3 && _) = false; rw [hk3]; simp))] at h
              rw [List.map_append, List.reverse_append]
              exact h
            · rw [List.map_append]
              intro p hp
              rcases List.mem_append.1 hp with hp | hp
              · exact HOKA.out p hp
              · obtain rfl := List.mem_singleton.1 hp
                exact HOKN.out
theorem rjoin_any (k : M.F) : RJoinP k := indH rjoin_step k
end Go.Proofs.YtibagbnnplpfgaaDoor
end

/- SerialAll, walked. -/
section
set_option linter.unusedVariables false
set_option linter.unusedSimpArgs false
namespace Go.Proofs.YtibagbnnplpfgaaDoor
open Go.Deep (BT)
open Go.RowKit M

set_option maxRecDepth 100000 in
set_option maxHeartbeats 8000000 in
theorem all_walk (d : Nd) (k : M.F) (va ka : Value) (w : World) (h : Lies w.heap.size w d k va ka) (hm : Met w) :
    Calls Tryd.prog 3 #[nodeV d va ka] w fun e w' => e = .returned (.bool true) ∧ Below w.heap.size w w' := by
  obtain ⟨p1, p2, p3, e1⟩ := h.a.val
  obtain ⟨q1, q2, e2⟩ := h.f.val
  subst e1 e2
  obtain ⟨kl, hkl⟩ : ∃ kl, k.len = kl := ⟨_, rfl⟩
  rw [hkl] at h ⊢
  obtain ⟨K, N, X, A⟩ := d
  have HL := Fact.mk h
  have HKL := Fact.mk hkl
  have HM := Fact.mk hm
  obtain ⟨W1, hW1⟩ : ∃ W1, w.alloc (.cells #[.int .i64 K, .string N, .string X, .slice p1 p2 p3, .slice q1 kl q2] 25) = W1 := ⟨_, rfl⟩
  have hB1 : Below w.heap.size w W1 := by rw [← hW1]; exact (Below.refl _ w).alloc (Nat.le_refl _) _
  have hbx : Five W1 w.heap.size (.int .i64 K) (.string N) (.string X) (.slice p1 p2 p3) (.slice q1 kl q2) := by rw [← hW1]; exact Five.new w _ _ _ _ _ _
  have HB1 := Fact.mk hB1
  have HW1 := Fact.mk hW1
  have HBX := Fact.mk hbx
  obtain ⟨b0, b1, b2, b3, b4, bf⟩ := id hbx
  clear hB1 hW1 hbx h hkl hm bf
  go_enter Tryd.func3, Tryd.ntmps3
  go_upto_region 1 with fail
  rw [HW1.out]
  go_wp2_with fail
  refine (SmallA_any ⟨K, N, X, A⟩ k _ _ w.heap.size W1 (HL.out.below HB1.out) HB1.out.size).mono ?_
  rintro e w1 (⟨rfl, hb1⟩ | ⟨rfl, hb1, f1⟩)
  · go_wp2_with (go_at_call 10; refine (awake_l HM.out ⟨HB1.out.trans (hb1.mono HB1.out.size), trivial⟩).mono ?_; rintro e w9 ⟨rfl, hb9⟩)
    go_ret
    exact ⟨rfl, HB1.out.trans ((hb1.mono HB1.out.size).trans (hb9.mono (Nat.le_trans HB1.out.size hb1.size)))⟩
  have HBa : Fact (Below w.heap.size w w1) := ⟨HB1.out.trans (hb1.mono HB1.out.size)⟩
  have HFV1 := Fact.mk (HBX.out.same (hb1.block _ HBX.out.lt))
  obtain ⟨y0, y1, y2, y3, y4, yf⟩ := id HFV1.out
  obtain ⟨T, ht⟩ := TrT.mk' (W := w) HL.out f1.out HM.out
  have HT := Fact.mk ht
  have HCOPY := Fact.mk (copy_l (P := True) HKL.out ht (W := w1) ⟨HBa.out, trivial⟩)
  clear b0 b1 b2 b3 b4 hb1 yf ht
  go_upto_region 4 with (go_at_call 11; refine HCOPY.out.mono ?_; rintro e w4 ⟨r1, r2, r3, r4, r5, rfl, hb4, ht4, _, _⟩)
  obtain ⟨W5, hW5⟩ : ∃ W5, w4.alloc (.cells #[.int .i64 K, .string N, .string X, .slice r1 r2 r3, .slice r4 kl r5] 25) = W5 := ⟨_, rfl⟩
  have hB4 : Below w.heap.size w w4 := HBa.out.trans (hb4.mono HBa.out.size)
  have hb5 : Below w4.heap.size w4 W5 := by rw [← hW5]; exact (Below.refl _ w4).alloc (Nat.le_refl _) _
  have hB5 : Below w.heap.size w W5 := hB4.trans (hb5.mono hB4.size)
  have hbt := (HFV1.out.same (hb4.block _ HFV1.out.lt)).same (hb5.block _ (HFV1.out.same (hb4.block _ HFV1.out.lt)).lt)
  have hbx : Five W5 w4.heap.size (.int .i64 K) (.string N) (.string X) (.slice r1 r2 r3) (.slice r4 kl r5) := by rw [← hW5]; exact Five.new w4 _ _ _ _ _ _
  have HQ : Fact (∀ W, Below W5.heap.size W5 W → (Below W5.heap.size W5 W ∧ (W.cell? ⟨w.heap.size, 0, none⟩ = some (.int .i64 K) ∧ W.cell? ⟨w.heap.size, 1, none⟩ = some (.string N) ∧ W.cell? ⟨w.heap.size, 2, none⟩ = some (.string X) ∧ W.cell? ⟨w.heap.size, 3, none⟩ = some (.slice p1 p2 p3) ∧ W.cell? ⟨w.heap.size, 4, none⟩ = some (.slice q1 kl q2) ∧ W.cell? ⟨w4.heap.size, 0, none⟩ = some (.int .i64 K) ∧ W.cell? ⟨w4.heap.size, 1, none⟩ = some (.string N) ∧ W.cell? ⟨w4.heap.size, 2, none⟩ = some (.string X) ∧ W.cell? ⟨w4.heap.size, 3, none⟩ = some (.slice r1 r2 r3) ∧ W.cell? ⟨w4.heap.size, 4, none⟩ = some (.slice r4 kl r5)))) := ⟨fun W hb => by
    have h1 := hbt.same (hb.block _ hbt.lt)
    have h2 := hbx.same (hb.block _ hbx.lt)
    exact ⟨hb, h1.c0, h1.c1, h1.c2, h1.c3, h1.c4, h2.c0, h2.c1, h2.c2, h2.c3, h2.c4⟩⟩
  have HBT : Fact (∀ W, Below W5.heap.size W5 W → Below w.heap.size w W ∧ True) := ⟨fun W hb => ⟨hB5.trans (hb.mono hB5.size), trivial⟩⟩
  have HBXX : Fact (∀ W, Below W5.heap.size W5 W → Below w4.heap.size w4 W ∧ True) := ⟨fun W hb => ⟨hb5.trans (hb.mono hb5.size), trivial⟩⟩
  have HTX := Fact.mk ht4
  have HB5 := Fact.mk hB5
  have HW5 := Fact.mk hW5
  obtain ⟨jl, hjl⟩ : ∃ jl, (joinF k).len = jl := ⟨_, rfl⟩
  have HTEXT : Fact (∀ W, Below W5.heap.size W5 W → Calls Tryd.prog 13 #[.agg #[.int .i64 K, .string N, .string X, .slice r1 r2 r3, .slice r4 kl r5]] W fun e w' => e = .returned (.string T) ∧ Below W.heap.size W w') := ⟨fun W hb => text_l HTX.out (HBXX.out W hb)⟩
  have HLEN : Fact (∀ W, Below W5.heap.size W5 W → Calls Tryd.prog 14 #[.agg #[.int .i64 K, .string N, .string X, .slice r1 r2 r3, .slice r4 kl r5]] W fun e w' => e = .returned (.int .i64 T.size) ∧ Below W.heap.size W w') := ⟨fun W hb => len_l HTX.out (HBXX.out W hb)⟩
  have HRTX : Fact (∀ W, Below W5.heap.size W5 W → Calls Tryd.prog 12 #[.agg #[.int .i64 K, .string N, .string X, .slice p1 p2 p3, .slice q1 kl q2]] W fun e w' => e = .returned (.string T) ∧ Below W.heap.size W w') := ⟨fun W hb => rtext_l HT.out (HBT.out W hb)⟩
  have HJN : Fact (∀ W, Below W5.heap.size W5 W → Calls Tryd.prog 16 #[.agg #[.int .i64 K, .string N, .string X, .slice r1 r2 r3, .slice r4 kl r5]] W fun e w' => ∃ y1 y2 y3 z1 z3, e = .returned (.agg #[.int .i64 K, .string N, .string X, .slice y1 y2 y3, .slice z1 jl z3]) ∧ Below W.heap.size W w' ∧ Fact (Lies w'.heap.size w' ⟨K, N, X, A⟩ (joinF k) (.slice y1 y2 y3) (.slice z1 jl z3))) := ⟨fun W hb => by
    refine (join_l hjl HTX.out (HBXX.out W hb)).mono ?_
    rintro e w' ⟨y1, y2, y3, z1, z3, rfl, hb', T', hT'⟩
    exact ⟨y1, y2, y3, z1, z3, rfl, hb', ⟨hT'.lies⟩⟩⟩
  have HRJ : Fact (∀ W, Below W5.heap.size W5 W → Calls Tryd.prog 17 #[.agg #[.int .i64 K, .string N, .string X, .slice p1 p2 p3, .slice q1 kl q2]] W fun e w' => ∃ y1 y2 y3 z1 z3, e = .returned (.agg #[.int .i64 K, .string N, .string X, .slice y1 y2 y3, .slice z1 jl z3]) ∧ Below W.heap.size W w' ∧ Fact (Lies w'.heap.size w' ⟨K, N, X, A⟩ (joinF k) (.slice y1 y2 y3) (.slice z1 jl z3))) := ⟨fun W hb => by
    have hw := (HBT.out W hb).1
    refine (rjoin_any k ⟨K, N, X, A⟩ (.slice p1 p2 p3) (.slice q1 kl q2) w.heap.size W (HL.out.below hw) hw.size f1.out.nd f1.out.all (by have := f1.out.size; omega)).mono ?_
    rintro e w' ⟨av', kv', rfl, hb', hA, hF⟩
    obtain ⟨y1, y2, y3, rfl⟩ := hA.val
    obtain ⟨z1, z3, rfl⟩ := hF.val
    rw [hjl] at hF ⊢
    exact ⟨y1, y2, y3, z1, z3, rfl, hb', ⟨⟨hA.here, hF.here⟩⟩⟩⟩
  have HSXT : Fact (∀ W, Below W5.heap.size W5 W → Calls Tryd.prog 15 #[.agg #[.int .i64 K, .string N, .string X, .slice r1 r2 r3, .slice r4 kl r5], .agg #[.int .i64 K, .string N, .string X, .slice p1 p2 p3, .slice q1 kl q2]] W fun e w' => e = .returned (.bool true) ∧ Below W.heap.size W w') := ⟨fun W hb =>
    rsame_at (n := W.heap.size) (w := W) (d := ⟨K, N, X, A⟩) (d' := ⟨K, N, X, A⟩) (k := k) (k' := k) (va := .slice r1 r2 r3) (vb := .slice p1 p2 p3) (ka := .slice r4 kl r5) (kb := .slice q1 kl q2) true ⟨by rw [cT_self']; rfl⟩ ((HTX.out.lies.below (HBXX.out W hb).1).here (HBXX.out W hb).1.size) ((HL.out.below (HBT.out W hb).1).here (HBT.out W hb).1.size) (Nat.le_refl _)⟩
  have h11 : (T.toList == T.toList) = true := beq_self_eq_true _
  clear ht4 hbt hbx hb5 hb4 hB4 hB5 hW5 y0 y1 y2 y3 y4 HCOPY hjl
  rw [HW5.out]
  obtain ⟨_, c0, c1, c2, c3, c4, x0, x1, x2, x3, x4⟩ := HQ.out W5 (Below.refl _ _)
  go_upto_region 5 with (go_at_call 12; refine (HRTX.out W5 (Below.refl _ _)).mono ?_; rintro e w7 ⟨rfl, hb7⟩)
  have HB7 := Fact.mk hb7
  have hS0 : Below W5.heap.size W5 w7.drew ∧ (w7.drew.cell? ⟨w.heap.size, 0, none⟩ = some (.int .i64 K) ∧ w7.drew.cell? ⟨w.heap.size, 1, none⟩ = some (.string N) ∧ w7.drew.cell? ⟨w.heap.size, 2, none⟩ = some (.string X) ∧ w7.drew.cell? ⟨w.heap.size, 3, none⟩ = some (.slice p1 p2 p3) ∧ w7.drew.cell? ⟨w.heap.size, 4, none⟩ = some (.slice q1 kl q2) ∧ w7.drew.cell? ⟨w4.heap.size, 0, none⟩ = some (.int .i64 K) ∧ w7.drew.cell? ⟨w4.heap.size, 1, none⟩ = some (.string N) ∧ w7.drew.cell? ⟨w4.heap.size, 2, none⟩ = some (.string X) ∧ w7.drew.cell? ⟨w4.heap.size, 3, none⟩ = some (.slice r1 r2 r3) ∧ w7.drew.cell? ⟨w4.heap.size, 4, none⟩ = some (.slice r4 kl r5)) := HQ.out w7.drew HB7.out.drew
  clear c0 c1 c2 c3 c4 x0 x1 x2 x3 x4 hb7
  go_region_held3 (fun w' => Below W5.heap.size W5 w' ∧ (w'.cell? ⟨w.heap.size, 0, none⟩ = some (.int .i64 K) ∧ w'.cell? ⟨w.heap.size, 1, none⟩ = some (.string N) ∧ w'.cell? ⟨w.heap.size, 2, none⟩ = some (.string X) ∧ w'.cell? ⟨w.heap.size, 3, none⟩ = some (.slice p1 p2 p3) ∧ w'.cell? ⟨w.heap.size, 4, none⟩ = some (.slice q1 kl q2) ∧ w'.cell? ⟨w4.heap.size, 0, none⟩ = some (.int .i64 K) ∧ w'.cell? ⟨w4.heap.size, 1, none⟩ = some (.string N) ∧ w'.cell? ⟨w4.heap.size, 2, none⟩ = some (.string X) ∧ w'.cell? ⟨w4.heap.size, 3, none⟩ = some (.slice r1 r2 r3) ∧ w'.cell? ⟨w4.heap.size, 4, none⟩ = some (.slice r4 kl r5)))
    (first | with_reducible exact hS0 | with_reducible assumption)
    (first
      | (go_at_call 13; refine (HTEXT.out _ hS0.1).mono ?_; rintro e wA ⟨rfl, hbA⟩; have hSA := HQ.out wA (hS0.1.trans (hbA.mono hS0.1.size)))
      | (go_at_call 14; refine (HLEN.out _ hSA.1).mono ?_; rintro e wB ⟨rfl, hbB⟩; have hSB := HQ.out wB (hSA.1.trans (hbB.mono hSA.1.size)))
      | (go_at_call 16; refine (HJN.out _ hSB.1).mono ?_; rintro e wC ⟨j1, j2, j3, j4, j5, rfl, hbC, hlC⟩; have hSC := HQ.out wC (hSB.1.trans (hbC.mono hSB.1.size)))
      | (go_at_call 17; refine (HRJ.out _ hSC.1).mono ?_; rintro e wD ⟨i1, i2, i3, i4, i5, rfl, hbD, hlD⟩; have hSD := HQ.out wD (hSC.1.trans (hbD.mono hSC.1.size)))
      | (go_at_call 15; refine (rsame_at (n := wD.heap.size) (w := wD) (d := ⟨K, N, X, A⟩) (d' := ⟨K, N, X, A⟩) (k := joinF k) (k' := joinF k) (va := .slice j1 j2 j3) (vb := .slice i1 i2 i3) (ka := .slice j4 jl j5) (kb := .slice i4 jl i5) true ⟨by rw [cT_self']; rfl⟩ ((hlC.out.below hbD).here hbD.size) hlD.out (Nat.le_refl _)).mono ?_; rintro e wE ⟨rfl, hbE⟩; have hSE := HQ.out wE (hSD.1.trans (hbE.mono hSD.1.size)))
      | (go_at_call 15; refine (HSXT.out _ hSE.1).mono ?_; rintro e wF ⟨rfl, hbF⟩; have hSF := HQ.out wF (hSE.1.trans (hbF.mono hSE.1.size)))
      | (go_at_call 10; refine (awake_l HM.out (HBT.out _ hSF.1)).mono ?_; rintro e wG ⟨rfl, hbG⟩; have hSG := HQ.out wG (hSF.1.trans (hbG.mono hSF.1.size))))
  go_wp2_with fail
  go_ret
  exact ⟨rfl, (HBT.out _ hSG.1).1⟩
end Go.Proofs.YtibagbnnplpfgaaDoor
end

section
namespace Go.Proofs.YtibagbnnplpfgaaDoor.serialAll
open Go.ChangeShapes Go.WideShapes Go.ChangeAt Go.RowKit M
open Go.ChangeMaps (open_string shut_string)
set_option linter.unusedVariables false

theorem laidOut : laidOutB Tryd.prog = true := by kernel_rfl
set_option maxRecDepth 100000 in
theorem lifted (os : Os) (started : os.Started) (H : Type) (enc : TypeId × Value → H) :
    ReturnsInHanded {} Tryd.checked os 3 .any (fun w args => (Rows.serialAllSpec.pre enc Tryd.prog Tryd.f3 [] false w args ∧ laidMetH Tryd.prog laid2 w) ∧ sizedMet enc Tryd.prog Tryd.f3 (OpenSpec.ofChange Rows.serialAllSpec) false w args)
      (Rows.serialAllSpec.post enc Tryd.prog Tryd.f3 false true false false) := by
  refine lift started (by kernel_rfl) Tryd.func3
    (ChangeSpec.witness_shaped (enc := enc) (C := Tryd.checked) (os := os) (X := fun w _ => laidMetH Tryd.prog laid2 w) false (World.laidAll Tryd.prog os laid2) #[.agg #[.int .i64 0, .string ⟨#[]⟩, .string ⟨#[]⟩, .slice none 0 0, .slice none 0 0]] 8 (World.laidAll_os _ _ _) (World.shaped_of_ZipB (by kernel_rfl) (by kernel_rfl)) (by kernel_rfl) (by kernel_rfl) (by kernel_rfl) (wit_met os _)) ?_
  intro W base args ds gs before hval0 hW hM
  have hval : ∀ (j : Nat) t v, Tryd.f3.params[j]? = some t → args[j]? = some v → Value.okWide Tryd.prog W .any base t v := hval0
  have hW' := hW
  obtain ⟨p, q, hA0, hV, rfl, hfz, hnd⟩ := hW
  have hA : DataW.TrodAll enc Tryd.prog W 0 (fun _ => true) true Tryd.f3.params.toList args.toList ds p := hA0
  rw [Tryd.params3] at hA hval
  obtain ⟨v0, vs0, d0, ds0, p0, q0, hargs, rfl, rfl, h0, r0⟩ := trodAll_cons hA
  obtain ⟨rfl, rfl, rfl⟩ := trodAll_nil r0
  obtain rfl : args = #[v0] := by cases args; simp_all
  obtain ⟨rfl, rfl⟩ := trodVars_none hV
  obtain ⟨cs0, e0, _⟩ := okWide_struct Tryd.underlying25 (hval 0 25 v0 rfl rfl)
  have k0 := h0
  have lt0 : ∀ x ∈ p0, x.block < W.heap.size := by obtain ⟨m, hm⟩ := k0; exact DataW.trod_lt m _ _ _ hm
  obtain ⟨n0, f0, av0, kv0, rfl, l0⟩ := read_tree ⟨cs0, e0⟩ h0
  clear hA0 hval0
  try simp only [List.append_nil] at hW'
  refine (all_walk n0 f0 av0 kv0 W l0 hM).mono fun e W' ⟨he, bel⟩ => ?_
  subst he
  exact ⟨_, rfl, _, _, _, [], _, [], hW', trodAll_mk1 (shut_bool Tryd.underlying4 _), (trodAll_cons_mk (Below.trod laidOut (by kernel_rfl) (of_decide_eq_true (by kernel_rfl)) k0 bel lt0) trodAll_mk0), rfl, bel.frame _, fun h => by cases h⟩

theorem over : Rows.SerialAllSaid :=
  OpenClaim.holds_of_wide 3 Tryd.f3 rfl rfl rfl rfl rfl rfl rfl ⟨rfl, rfl, rfl, rfl, rfl⟩ rfl rfl rfl rfl rfl (by kernel_rfl) Tryd.func3 (by kernel_rfl)
    (of_decide_eq_true (by kernel_rfl)) (by unfold Func.isWrapper; first | (rw [if_pos (by decide +kernel)]; kernel_rfl) | (rw [if_neg (by decide +kernel)]; exact ⟨rfl, rfl⟩))
    (fun os started H enc _ => lifted os started H enc)
theorem carded : Rows.SerialAllCardSaid :=
  Claim7.holds_tied_plain_at .later [] [.data, .pinned] true (true, "f4927841ebfcbcc446765cebcbc2c26f7b08c2ba7331ec42eae8d44f6cf3e03f") false
    over (fun _ h => by cases h) (by kernel_rfl) (fun _ h => by cases h) serialAll_row_tie rfl ⟨rfl, rfl⟩ (by kernel_rfl) rfl
    (fun f fn hf hfn => by
      obtain rfl : f = 3 := Option.some.inj ((show Tryd.prog.funcNamed "topiary/topiarylaw16.SerialAll" = some 3 by kernel_rfl).symm.trans hf) |>.symm
      obtain rfl : fn = Tryd.f3 := (Option.some.inj (Tryd.func3.symm.trans hfn)).symm
      exact ⟨by kernel_rfl, fun j t ht => by
        rw [Tryd.params3] at ht
        have hm : t ∈ [25] := by simpa using Array.mem_of_getElem? ht
        have hall : ([25].all fun u => !Tryd.prog.wantsStandIn u) = true := by kernel_rfl
        exact (show Tryd.prog.wantsStandIn t = false by simpa using List.all_eq_true.1 hall t hm)⟩)
    (by kernel_rfl)
end Go.Proofs.YtibagbnnplpfgaaDoor.serialAll
namespace Go.Proofs.YtibagbnnplpfgaaDoor
/-- the given statement -/
theorem serialAll_holds : Rows.SerialAllCardSaid :=
  serialAll.carded
#print axioms serialAll_holds
end Go.Proofs.YtibagbnnplpfgaaDoor
end
