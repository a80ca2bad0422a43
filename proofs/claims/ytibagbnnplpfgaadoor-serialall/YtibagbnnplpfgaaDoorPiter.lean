/- The iterator of serial: a tree's pieces, one behind the other. -/
import Derived.Test.YtibagbnnplpfgaaDoorBeg
import Derived.Test.YtibagbnnplpfgaaDoorLaw2
import Derived.WalkMore
import Derived.BigQuiet
import Derived.Sort.CutIn
import Derived.Deep.RegionHeld3
import Derived.Shelf.Abstract
import Derived.Shelf.RegionOpen
import Derived.OwnWalkIn
import Derived.TacticsInMore
import Derived.LoopNIn
import Derived.LoopIn
import Derived.Deep.LoopGhost
import Derived.Maps.AppendAt
set_option linter.unusedVariables false
set_option linter.unusedSimpArgs false
namespace Go.Proofs.YtibagbnnplpfgaaDoor
open Go.Deep (BT)
open Go.RowKit Go.Shelf M
attribute [local go_sem] Oper.semAt_some

theorem infoLv : (Tryd.prog.info? 69).map (fun i => (i.zero, i.size, i.bytes)) = some (some (.agg #[.slice none 0 0, .bool false, .string ⟨#[]⟩]), 3, 48) := by kernel_rfl
theorem wpListIn_append_at {F : Fence} {n : Nat} {P : Program} (w : World) {ops : Array Oper} {rest : List Oper} {o : Oper} {a : Act} {Q : Exit → Act → World → Prop}
    (hg : o.guard = none) (s x : Operand) (t : TypeId) (hop : o.op = Op.call { callee := Callee.builtin Builtin.append, args := #[s, x], argTypes := #[t, t] })
    (base : Nat) (e : TypeId) (i : TypeInfo) (z : Value) (size bytes : Nat) (h1 : P.underlying t = some (.slice e)) (h2 : P.info? e = some i) (h3 : i.zero = some z) (h4 : i.size = size) (h5 : i.bytes = bytes) (h6 : z.cells.size = size) (h7 : 0 < size)
    (v : Value) (k : Nat) (xs : List Value) (hs : a.eval s = v) (hown : w.ownsRow base e size v k xs) (ad : Addr) (m c : Nat) (news : List Value) (hx : a.eval x = .slice (some ad) m c) (hn : news.length = m * size)
    (hc : ∀ j u, news[j]? = some u → w.cell? (ad.add j) = some u) (h1c : ∀ u ∈ news, u.oneCell' = true) (b1 : k + m ≤ maxLen) (b2 : (k + m) * bytes ≤ 140737488355328) (b3 : base ≤ w.heap.size)
    (hK : ∀ v' w', w'.ownsRow base e size v' (k + m) (xs ++ news) → w.grownBy w' v.ownBlock → (v'.ownBlock = v.ownBlock ∨ v'.ownBlock = some w.heap.size) → wpListIn F n P ops Q rest (a.put o.dst v') w') :
    wpListIn F n P ops Q (o :: rest) a w := by
  refine wpListIn_plain hg fun K hK' => ?_
  obtain ⟨v', w', hrun, r1, r2, _, r3⟩ := run_append_own_at (P := P) w base t o.type e i z size bytes h1 h2 h3 h4 h5 h6 h7 v k xs hown ad m c news hn hc h1c b1 b2 b3
  unfold Oper.wpIn
  refine ⟨?_, ?_⟩
  · simp [Oper.about, hop, resolve, Target.leads, Sem.run_pure]
  · rw [Oper.semAt_plain F _ _ (by rw [hop]; intro c hc'; cases hc')]
    simp [execOp, hop, resolve, invoke, builtin, hs, hx, hrun, Result.andThen]
    exact hK' _ _ (hK v' w' r1 r2 r3)

/-- a list with a block of its own -/
theorem ownsRow_some {w : World} {B E z n : Nat} {v : Value} {xs : List Value} (h : w.ownsRow B E z v (n + 1) xs) (hz : 0 < z) : ∃ g c, v = .slice (some ⟨g, 0, none⟩) (n + 1) c := by
  rcases h.2 with ⟨rfl, h0⟩ | ⟨g, cap, cur, rfl, _⟩
  · exact absurd h0 (by omega)
  · exact ⟨_, _, rfl⟩

abbrev gM : Nat := laysM155_ren.g 1
theorem Met.lt {w : World} (h : Met w) : gM < w.heap.size := by
  obtain ⟨m, hm⟩ := h.max
  exact World.block_lt_of_cell? w _ hm
theorem Met.kept {K : Nat → Prop} {a b : World} (h : Met a) (hk : Kept K a b) (hK : K gM) : Met b := by
  obtain ⟨m, hm⟩ := h.max
  exact ⟨m, hk.cell hK hm⟩

/-- the level within a node, as it is stored -/
theorem lv_agg (S : Nat → Prop) (d : Nd) (k : M.F) (ka : Option Addr) (kc : Nat) : ∃ a c, lvV d (.slice ka k.len kc) = .agg #[.slice a (insF d k).len c, .bool (insR d), .string (insE d)] ∧ ∀ w, FL S w (.slice ka k.len kc) k → FL S w (.slice a (insF d k).len c) (insF d k) := by
  unfold lvV insF
  cases h : insK d
  · exact ⟨none, 0, rfl, fun w _ => FL.nothing⟩
  · exact ⟨ka, kc, rfl, fun w hf => hf⟩
theorem insF_ok {d : Nd} {k : M.F} (h : allF OKnd k) : allF OKnd (insF d k) := by
  unfold insF
  split
  · exact h
  · trivial

/-- where the iterator stands: k rounds at most are to come -/
def PRel (N n₀ B : Nat) (xs : List ByteArray) (J : List ByteArray → (Nat → Prop) → World → Prop) (k : Nat) (v : Value) (wr : World) : Prop :=
  ∃ (done : List ByteArray) (L : List Lv) (g cap : Nat), v = .slice (some ⟨g, 0, none⟩) L.length cap ∧ wr.ownsRow (B + 1) 69 3 v L.length (cellsL L) ∧
    AllLv (fun b => b < n₀ ∨ b = B) wr L ∧ xs = done ++ remP L ∧ J done (fun k => k = g ∨ k = B) wr ∧ fuelP L ≤ k ∧ highP N L ∧ Met wr ∧ B + 2 ≤ wr.heap.size
/-- where its inner loop stands -/
structure PIn (n₀ B X g m cap : Nat) (v : Lv) (L : List Lv) (lv : Value) (bp : List ByteArray) (d : Nd) (k : M.F) (av : Value) (ka : Option Addr) (kc : Nat) (done : List ByteArray) (J : List ByteArray → (Nat → Prop) → World → Prop) (j : Nat) (wr : World) : Prop where
  own : wr.ownsRow (B + 1) 69 3 (.slice (some ⟨g, 0, none⟩) (m + 1) cap) (m + 1) (cellsL (v :: L))
  all : AllLv (fun b => b < n₀ ∨ b = B) wr (v :: L)
  box : ∀ i u, (#[.int .i64 d.k, .string d.n, .string d.x, av, .slice ka k.len kc] : Array Value)[i]? = some u → wr.cell? ⟨X, i, none⟩ = some u
  row : wr.ownsRow (X + 1) 9 1 lv bp.length (strs bp)
  kids : FL (fun b => b < n₀ ∨ b = B) wr (.slice ka k.len kc) k
  told : J (done ++ bp.take j) (fun k => k = g ∨ k = B ∨ k = X ∨ some k = lv.ownBlock) wr
  met : Met wr
  size : X + 1 ≤ wr.heap.size
theorem PIn.step {n₀ B X g m cap : Nat} {v : Lv} {L : List Lv} {lv : Value} {bp : List ByteArray} {d : Nd} {k : M.F} {av : Value} {ka : Option Addr} {kc : Nat} {done : List ByteArray} {J : List ByteArray → (Nat → Prop) → World → Prop} {j : Nat} {wr w' : World}
    (h : PIn n₀ B X g m cap v L lv bp d k av ka kc done J j wr) (hk : Kept (fun k => (k = g ∨ k = B ∨ k = X ∨ some k = lv.ownBlock) ∨ k < n₀) wr w') (hj : J (done ++ bp.take (j + 1)) (fun k => k = g ∨ k = B ∨ k = X ∨ some k = lv.ownBlock) w') (hgM : gM < n₀) :
    PIn n₀ B X g m cap v L lv bp d k av ka kc done J (j + 1) w' := by
  have hlk : Like (fun b => b < n₀ ∨ b = B) wr w' := fun b hb hz => hk.block b hz (by rcases hb with hb | hb; exact .inr hb; exact .inl (.inr (.inl hb)))
  refine ⟨own_block h.own (fun k e hk' => hk.block k hk' (.inl (.inl (own_blk1 e)))), h.all.like hlk, fun i u hu => ?_, own_block h.row (fun k e hk' => hk.block k hk' (.inl (.inr (.inr (.inr e))))), h.kids.like hlk, hj, h.met.kept hk (.inr hgM), Nat.le_trans h.size hk.size⟩
  exact hk.cell (.inl (.inr (.inr (.inl rfl)))) (h.box i u hu)
theorem PIn.push {N n₀ B X g g' m cap cap' : Nat} {v : Lv} {L : List Lv} {lv : Value} {bp : List ByteArray} {d : Nd} {k : M.F} {av : Value} {ka a : Option Addr} {kc c : Nat} {done xs : List ByteArray} {J : List ByteArray → (Nat → Prop) → World → Prop} {wr w6 w7 : World} {o : Obj}
    (h : PIn n₀ B X g m cap v L lv bp d k av ka kc done J bp.length wr) (hJ : Bide J) (hm : L.length = m) (hn₀ : n₀ ≤ B) (hBX : B < X) (hg : B + 1 ≤ g ∧ g < wr.heap.size)
    (hxs : xs = done ++ bp ++ remP (⟨insF d k, insR d, insE d, a, c⟩ :: v :: L)) (hh : highP N (⟨insF d k, insR d, insE d, a, c⟩ :: v :: L))
    (hfl : ∀ w, FL (fun b => b < n₀ ∨ b = B) w (.slice ka k.len kc) k → FL (fun b => b < n₀ ∨ b = B) w (.slice a (insF d k).len c) (insF d k)) (hok : allF OKnd (insF d k))
    (hb6 : Below wr.heap.size wr w6) (hown : w7.ownsRow (B + 1) 69 3 (.slice (some ⟨g', 0, none⟩) (m + 1 + 1) cap') (m + 1 + 1) (cellsL (v :: L) ++ cells3 ⟨insF d k, insR d, insE d, a, c⟩))
    (hgrow : (w6.alloc o).grownBy w7 (some g)) (hat : some g' = some g ∨ some g' = some (w6.alloc o).heap.size) (hgM : gM < n₀) :
    PRel N n₀ B xs J (fuelP (⟨insF d k, insR d, insE d, a, c⟩ :: v :: L)) (.slice (some ⟨g', 0, none⟩) (m + 1 + 1) cap') w7 := by
  have hk : Kept (fun k => ¬ k = g) wr w7 := ((Kept.of_below' hb6).alloc _).grown hgrow (fun k hk _ e => hk (Option.some.inj e))
  have hlk : Like (fun b => b < n₀ ∨ b = B) wr w7 := fun b hb hz => hk.block b hz (fun e => by have hb' : b < n₀ ∨ b = B := hb; omega)
  have hs := hk.size
  have hs6 := hb6.size
  have hX := h.size
  have hml : (⟨insF d k, insR d, insE d, a, c⟩ :: v :: L).length = m + 1 + 1 := by simp [hm]
  refine ⟨done ++ bp, ⟨insF d k, insR d, insE d, a, c⟩ :: v :: L, g', cap', by rw [hml], by rw [hml]; exact hown, ⟨⟨hfl _ (h.kids.like hlk), hok⟩, h.all.like hlk⟩, hxs, ?_, Nat.le_refl _, hh, h.met.kept hk (fun e => by omega), by omega⟩
  have ht := h.told
  rw [List.take_length] at ht
  refine hJ _ _ _ _ _ ht (hk.mono (fun k _ hk' e => hk' (.inl e))) (fun k e => ?_)
  rcases e with e | e
  · subst e
    rcases hat with e | e
    · exact .inl (.inl (Option.some.inj e))
    · have := Option.some.inj e
      rw [World.size_alloc] at this
      exact .inr (by omega)
  · exact .inl (.inr (.inl e))
theorem slice_one (b o r cp : Nat) (h : r + 1 ≤ cp) (hm : cp ≤ 9223372036854775807) : ∃ a', (r = 0 ∨ a' = some ⟨b, o + 5, none⟩) ∧ ∀ w, (Instr.slice 23 (.slice (some ⟨b, o, none⟩) (r + 1) cp) (some (.int .i64 1)) none none).run Tryd.prog w = .ok (.slice a' r (cp - 1)) w := by
  have h1 : (1 : Int) ≤ cp := by omega
  by_cases hc : cp = 1
  · subst hc
    obtain rfl : r = 0 := by omega
    refine ⟨some ⟨b, o, none⟩, .inl rfl, fun w => ?_⟩
    go_simp
  · have hc2 : cp - 1 ≠ 0 := by omega
    have hr1 : ¬ ((r : Int) + 1 < 1) := by omega
    refine ⟨some ⟨b, o + 5, none⟩, .inr rfl, fun w => ?_⟩
    go_simp

set_option maxRecDepth 100000 in
set_option maxHeartbeats 4000000 in
theorem pieces_in (n : Nat) (hn : 1 ≤ n) (N n₀ l Bn : Nat) (d : Nd) (k : M.F) (av : Value) (ka : Option Addr) (kc : Nat) (J Jx : List ByteArray → (Nat → Prop) → World → Prop) (xs : List ByteArray) (W : World)
    (hN : N ≤ 1000000) (hk : k.depth + 2 ≤ N) (hn₀ : n₀ ≤ W.heap.size) (hJ : Bide J)
    (hY : ∀ pre x T W1 args, J pre T W1 → (∀ k, T k → W.heap.size ≤ k ∧ k < W1.heap.size) → W.heap.size ≤ W1.heap.size → args = #[.string x] → pre ++ [x] <+: xs → YieldAt Fence.wide (n - 1) Tryd.prog l args W1 fun e W' =>
      (e = .returned (.bool true) ∧ J (pre ++ [x]) T W' ∧ Kept (fun k => T k ∨ k < n₀) W1 W') ∨ (e = .returned (.bool false) ∧ Jx (pre ++ [x]) T W'))
    (h0 : J [] (fun _ => False) W) (hc : W.cell? ⟨Bn, 0, none⟩ = some (.int .i64 d.k) ∧ W.cell? ⟨Bn, 1, none⟩ = some (.string d.n) ∧ W.cell? ⟨Bn, 2, none⟩ = some (.string d.x) ∧ W.cell? ⟨Bn, 3, none⟩ = some av ∧ W.cell? ⟨Bn, 4, none⟩ = some (.slice ka k.len kc))
    (hx : xs = pcs false (.cons d k .nil) ++ [⟨#[]⟩]) (ha : AS (Old n₀) W av d.ats) (hfs : FL (Old n₀) W (.slice ka k.len kc) k) (hok : allF OKnd (.cons d k .nil)) (hm : Met W) (hgM : gM < n₀) :
    CallsIn Fence.wide n Tryd.prog 36 #[.func (.yield l) #[] #[], .pointer (some ⟨Bn, 0, none⟩)] W fun e W' => (∃ v, e = .returned v) ∧ ((∃ T, J xs T W') ∨ (∃ pre T, pre <+: xs ∧ Jx pre T W')) := by
  obtain ⟨c0, c1, c2, c3, c4⟩ := hc
  obtain ⟨a1, a2, a3, ea⟩ : ∃ a b c, av = .slice a b c := by obtain ⟨a, c, e, _⟩ := ha; exact ⟨a, _, c, e⟩
  refine callsIn_of_wp Tryd.func36 rfl trivial ?_ rfl
  simp only [Tryd.ntmps36, List.size_toArray, List.length_cons, List.length_nil, Nat.reduceAdd, Nat.reduceSub, Array.replicate_succ, Array.replicate_zero, List.push_toArray, List.append_toArray, List.nil_append, List.cons_append]
  gi_wp2
  gi_loopw [3] (fun v wr => ∃ k, PRel N n₀ W.heap.size xs J k v wr) (fun v wr => leastOf (fun k => PRel N n₀ W.heap.size xs J k v wr))
  case atStart =>
    subst ea
    obtain ⟨W0, hW0⟩ : ∃ W0, (W.alloc (.cells #[.int .i64 d.k, .string d.n, .string d.x, .slice a1 a2 a3, .slice ka k.len kc] 25)).alloc (.cells #[.slice (some ⟨W.heap.size, 0, none⟩) 1 1, .bool false, .string ⟨#[]⟩] 69) = W0 := ⟨_, rfl⟩
    have hb0 : Below W.heap.size W W0 := by rw [← hW0]; exact ((Below.refl _ W).alloc (Nat.le_refl _) _).alloc (by simp) _
    have hz0 : W0.heap.size = W.heap.size + 2 := by rw [← hW0]; simp
    have hlk : Like (Old n₀) W W0 := like_below (hb0.mono hn₀)
    have hbx : ∀ i v, (#[.int .i64 d.k, .string d.n, .string d.x, .slice a1 a2 a3, .slice ka k.len kc] : Array Value)[i]? = some v → W0.cell? ⟨W.heap.size, i, none⟩ = some v := fun i v h => by
      rw [← hW0, World.cell?_alloc_lt _ _ _ (by simp)]; exact (World.cell?_alloc_new W _ _ i).trans h
    have hmono : ∀ b, Old n₀ b → b < n₀ ∨ b = W.heap.size := fun b hb => .inl hb
    have hFL : FL (fun b => b < n₀ ∨ b = W.heap.size) W0 (.slice (some ⟨W.heap.size, 0, none⟩) 1 1) (.cons d k .nil) := by
      obtain ⟨a, cap, e, h1, h2, h3⟩ := (hfs.like hlk).mono hmono
      cases e
      exact ⟨_, _, rfl, Nat.le_refl _, by unfold maxLen; omega, .inr ⟨W.heap.size, 0, rfl, .inr rfl, ⟨⟨_, _, _, hbx 0 _ rfl, hbx 1 _ rfl, hbx 2 _ rfl, hbx 3 _ rfl, hbx 4 _ rfl, (ha.like hlk).mono hmono, h1, h2, h3⟩, trivial⟩⟩⟩
    rw [hW0]
    refine ⟨_, [], [⟨.cons d k .nil, false, ⟨#[]⟩, some ⟨W.heap.size, 0, none⟩, 1⟩], W.heap.size + 1, 1, rfl, ?_, ⟨⟨hFL, hok⟩, trivial⟩, ?_, ?_, Nat.le_refl _, ⟨?_, trivial⟩, hm.below hb0, by omega⟩
    · refine ⟨rfl, .inr ⟨W.heap.size + 1, 1, #[.slice (some ⟨W.heap.size, 0, none⟩) 1 1, .bool false, .string ⟨#[]⟩], rfl, Nat.le_refl _, ?_, Nat.le_refl _, by unfold maxLen; omega, rfl, rfl⟩⟩
      have := World.alloc_heap_new (W.alloc (.cells #[.int .i64 d.k, .string d.n, .string d.x, .slice a1 a2 a3, .slice ka k.len kc] 25)) (.cells #[.slice (some ⟨W.heap.size, 0, none⟩) 1 1, .bool false, .string ⟨#[]⟩] 69)
      rw [hW0, World.size_alloc] at this
      exact this
    · rw [hx]; simp [remP]
    · exact hJ _ _ _ _ _ h0 (Kept.of_below' hb0) (fun k hk => .inr (by omega))
    · simp [BT.depth]; omega
  case round =>
    have hrel0 := (leastOf_spec hrel).1
    obtain ⟨k0, hk0⟩ : ∃ k0, leastOf (fun k => PRel N n₀ W.heap.size xs J k u3 wr) = k0 := ⟨_, rfl⟩
    rw [hk0] at hrel0
    have HK : Aside (leastOf (fun k => PRel N n₀ W.heap.size xs J k u3 wr) = k0) := hk0
    clear hk0
    obtain ⟨done, L, g, cap, rfl, hown, hall, hxs, hJd, hfu, hhi, hmt, hsz⟩ := hrel0
    clear hrel hx ha hfs hok h0 c0 c1 c2 c3 c4 hk
    have hlen := highP_len hhi
    cases L with
    | nil =>
      gi_wp2
      go_end0
      exact ⟨⟨_, rfl⟩, .inl ⟨_, by rw [hxs, show remP [] = [] from rfl, List.append_nil]; exact hJd⟩⟩
    | cons v L =>
      obtain ⟨m, hm⟩ : ∃ m, L.length = m := ⟨_, rfl⟩
      simp only [List.length_cons, hm] at hown hlen HK ⊢
      obtain ⟨hat, hfz, hg1, hg2, hcp, hcm⟩ := own3_at hown hm
      have z0 : wr.cell? ⟨g, m * 3, none⟩ = some (.slice v.ka v.rest.len v.kc) := hat 0 _ rfl
      have z1 : wr.cell? ⟨g, m * 3 + 1, none⟩ = some (.bool v.raw) := hat 1 _ rfl
      have z2 : wr.cell? ⟨g, m * 3 + 2, none⟩ = some (.string v.fin) := hat 2 _ rfl
      have zf := hfz (m * 3)
      obtain ⟨rl, hrl⟩ : ∃ rl, v.rest.len = rl := ⟨_, rfl⟩
      rw [hrl] at z0
      have HRL : Aside (v.rest.len = rl) := hrl
      have HO : Aside _ := hown
      have HOK : Aside (AllLv (fun b => b < n₀ ∨ b = W.heap.size) wr (v :: L)) := hall
      have HX : Aside (xs = done ++ remP (v :: L) ∧ fuelP (v :: L) ≤ k0 ∧ highP N (v :: L) ∧ L.length = m) := ⟨hxs, hfu, hhi, hm⟩
      have HJD : Aside _ := hJd
      have HY : Aside _ := hY
      have HMT : Aside (Met wr) := hmt
      have HGM : Aside (gM < n₀) := hgM
      clear hrl hown hall hxs hfu hhi hm hJd hat hY hmt hgM
      cases hrest : v.rest with
      | nil =>
        obtain rfl : rl = 0 := by have := HRL.out; rw [hrest] at this; exact this.symm
        obtain ⟨fn, tmps, assign, body, hy, hR⟩ := HY.out done v.fin (fun k => k = g ∨ k = W.heap.size) wr _ HJD.out (fun k e => by rcases e with e | e <;> omega) (by omega) rfl (by rw [HX.out.1, remP_pop hrest]; exact ⟨remP L, by simp⟩)
        have hR' := hR.mono (R' := fun e W' => (e = .returned (.bool true) ∧ PRel N n₀ W.heap.size xs J (fuelP L) (.slice (some ⟨g, 0, none⟩) m cap) W') ∨
            (e = .returned (.bool false) ∧ Jx (done ++ [v.fin]) (fun k => k = g ∨ k = W.heap.size) W')) (by
          rintro e W' (⟨rfl, hj, hkp⟩ | h)
          · have hs := hkp.size
            obtain ⟨q1, q2, q3, q4⟩ := HX.out
            refine .inl ⟨rfl, done ++ [v.fin], L, g, cap, by rw [q4], by rw [q4]; exact own3_pop (own_block HO.out (fun k e hk' => hkp.block k hk' (.inl (.inl (own_blk1 e))))) q4, AllLv.like (fun b hb hz => hkp.block b hz (by rcases hb with hb | hb; exact .inr hb; exact .inl (.inr hb))) HOK.out.2, by rw [q1, remP_pop hrest]; simp, hj, Nat.le_refl _, q3.2, HMT.out.kept hkp (.inr HGM.out), by omega⟩
          · exact .inr h)
        have hpre : Aside (done ++ [v.fin] <+: xs) := by rw [HX.out.1, remP_pop hrest]; exact ⟨remP L, by simp⟩
        clear hR HY
        gi_wp2
        refine hR'.mono ?_
        rintro e W5 (⟨rfl, hr5⟩ | ⟨rfl, hJx5⟩)
        · have HR5 : Aside _ := hr5
          clear hr5 hR' hy
          gi_wp2
          go_roundw
          case rel => exact ⟨_, HR5.out⟩
          case measure => exact least_lt7 HK.out HR5.out (Nat.lt_of_lt_of_le (fuelP_pop v L) HX.out.2.1)
        · clear hR' hy
          gi_wp2
          refine bodyPost_ret (results_none rfl _ _ _) rfl ?_
          exact ⟨⟨_, rfl⟩, .inr ⟨_, _, hpre.out, hJx5⟩⟩
      | node xb xo d k r =>
        have hok1 := HOK.out.1.2
        rw [hrest] at hok1
        have hfl1 := HOK.out.1.1
        rw [hrest] at hfl1
        obtain ⟨b, o, cp, av1, ka1, kc1, e, q1, q2, hS, e0, e1, e2, e3, e4, hA, hF, hFr⟩ := hfl1.cons
        obtain ⟨p1, p2, p3, eav1⟩ := hA.val
        subst eav1
        obtain ⟨eka, ekc⟩ : v.ka = some ⟨b, o, none⟩ ∧ v.kc = cp := by
          simp only [Value.slice.injEq] at e
          exact ⟨e.1, e.2.2⟩
        obtain ⟨rr, hrr⟩ : ∃ rr, r.len = rr := ⟨_, rfl⟩
        obtain rfl : rl = rr + 1 := by have := HRL.out; rw [hrest] at this; simp only [BT.len] at this; omega
        rw [eka, ekc] at z0
        rw [hrr] at q1
        unfold maxLen at q2
        obtain ⟨a', ha', hsl⟩ := slice_one b o rr cp q1 q2
        obtain ⟨kl1, hkl1⟩ : ∃ kl1, k.len = kl1 := ⟨_, rfl⟩
        rw [hkl1] at e4
        have hbb : b < n₀ ∨ b = W.heap.size := hS
        have hgb : b ≠ g := by omega
        -- the level's kids go on
        obtain ⟨Ws, hWs⟩ : ∃ Ws, wr.setCell ⟨g, m * 3, none⟩ (.slice a' rr (cp - 1)) = Ws := ⟨_, rfl⟩
        have hkS : Kept (fun k => ¬ k = g) wr Ws := by rw [← hWs]; exact (Kept.refl _ _).setCell (p := ⟨g, m * 3, none⟩) (fun h => h rfl) _
        have hzS : Ws.heap.size = wr.heap.size := by rw [← hWs]; simp [World.setCell]
        obtain ⟨Wb, hWb⟩ : ∃ Wb, Ws.alloc (.cells #[.int .i64 d.k, .string d.n, .string d.x, .slice p1 p2 p3, .slice ka1 kl1 kc1] 25) = Wb := ⟨_, rfl⟩
        have hkb : Kept (fun k => ¬ k = g) wr Wb := by rw [← hWb]; exact hkS.alloc _
        have hzb : Wb.heap.size = wr.heap.size + 1 := by rw [← hWb]; simp [hzS]
        have hbx : ∀ i u, (#[.int .i64 d.k, .string d.n, .string d.x, .slice p1 p2 p3, .slice ka1 kl1 kc1] : Array Value)[i]? = some u → Wb.cell? ⟨wr.heap.size, i, none⟩ = some u := fun i u h => by
          rw [← hWb, ← hzS]; exact (World.cell?_alloc_new Ws _ _ i).trans h
        have hlkb : Like (fun b => b < n₀ ∨ b = W.heap.size) wr Wb := fun b hb hz => hkb.block b hz (fun e => by have hb' : b < n₀ ∨ b = W.heap.size := hb; omega)
        have hownb : Wb.ownsRow (W.heap.size + 1) 69 3 (.slice (some ⟨g, 0, none⟩) (m + 1) cap) (m + 1) (cellsL ({ v with rest := r, ka := a', kc := cp - 1 } :: L)) := by
          have := own3_next r a' (cp - 1) HO.out HX.out.2.2.2
          rw [hrr, hWs] at this
          rw [← hWb]
          exact this.alloc _
        have hallb : AllLv (fun b => b < n₀ ∨ b = W.heap.size) Wb ({ v with rest := r, ka := a', kc := cp - 1 } :: L) := by
          refine ⟨⟨?_, hok1.2.2⟩, AllLv.like hlkb HOK.out.2⟩
          show FL _ Wb (.slice a' r.len (cp - 1)) r
          refine ⟨a', cp - 1, rfl, by omega, by unfold maxLen; omega, ?_⟩
          rcases ha' with h | h
          · exact .inl (by omega)
          · exact .inr ⟨b, o + 5, h, hS, FAt.like hlkb _ _ _ hS hFr⟩
        have hz1b : Wb.cell? ⟨g, m * 3 + 1, none⟩ = some (.bool v.raw) := by
          rw [← hWb, World.cell?_alloc_lt _ _ _ (by show g < _; omega), ← hWs]
          have := own3_at (own3_next r a' (cp - 1) HO.out HX.out.2.2.2) HX.out.2.2.2
          rw [hrr] at this
          exact this.1 1 _ rfl
        have hmtb : Met Wb := HMT.out.kept hkb (fun e => by have := HGM.out; omega)
        have hAb : AS (Old Wb.drew.heap.size) Wb.drew (.slice p1 p2 p3) d.ats := (hA.like hlkb).mono (fun b hb => by have hb' : b < n₀ ∨ b = W.heap.size := hb; show b < Wb.heap.size; omega)
        have hFb : FL (fun b => b < n₀ ∨ b = W.heap.size) Wb (.slice ka1 k.len kc1) k := hF.like hlkb
        have HOKD : Aside (OKnd d) := hok1.1
        have HOKK : Aside (allF OKnd k) := hok1.2.1
        have HWS : Aside _ := hWs
        have HWB : Aside _ := hWb
        have HKB : Aside _ := hkb
        have HBX : Aside _ := hbx
        have HOWB : Aside _ := hownb
        have HALB : Aside _ := hallb
        have HMTB : Aside _ := hmtb
        have HAB : Aside _ := hAb
        have HFB : Aside _ := hFb
        have HKL1 : Aside (k.len = kl1) := hkl1
        have HRR : Aside (r.len = rr) := hrr
        have t0 : (((rr : Int) + 1) == 0) = false := beq_eq_false_iff_ne.2 (by omega)
        have hS0 : (Wb.drew.cell? ⟨wr.heap.size, 0, none⟩ = some (.int .i64 d.k) ∧ Wb.drew.cell? ⟨wr.heap.size, 1, none⟩ = some (.string d.n) ∧ Wb.drew.cell? ⟨wr.heap.size, 2, none⟩ = some (.string d.x) ∧ Wb.drew.cell? ⟨wr.heap.size, 3, none⟩ = some (.slice p1 p2 p3) ∧ Wb.drew.cell? ⟨wr.heap.size, 4, none⟩ = some (.slice ka1 kl1 kc1)) ∧ Wb.drew.cell? ⟨g, m * 3 + 1, none⟩ = some (.bool v.raw) :=
          ⟨⟨hbx 0 _ rfl, hbx 1 _ rfl, hbx 2 _ rfl, hbx 3 _ rfl, hbx 4 _ rfl⟩, hz1b⟩
        have hltX : wr.heap.size < Wb.heap.size := by omega
        have hltg : g < Wb.heap.size := by omega
        obtain ⟨bp, hbp⟩ : ∃ bp, begP d v.raw = bp := ⟨_, rfl⟩
        obtain ⟨bl, hbl⟩ : ∃ bl, bp.length = bl := ⟨_, rfl⟩
        have HBP : Aside (begP d v.raw = bp) := hbp
        have HBL : Aside (bp.length = bl) := hbl
        obtain ⟨na, nc, hlv, hfl⟩ := lv_agg (fun b => b < n₀ ∨ b = W.heap.size) d k ka1 kc1
        rw [hkl1] at hlv
        obtain ⟨il, hil⟩ : ∃ il, (insF d k).len = il := ⟨_, rfl⟩
        obtain ⟨ir, hir⟩ : ∃ ir, insR d = ir := ⟨_, rfl⟩
        obtain ⟨ie, hie⟩ : ∃ ie, insE d = ie := ⟨_, rfl⟩
        rw [hil, hir, hie] at hlv
        have HLV : Aside _ := hlv
        have HFL : Aside (∀ w, FL (fun b => b < n₀ ∨ b = W.heap.size) w (.slice ka1 k.len kc1) k → FL (fun b => b < n₀ ∨ b = W.heap.size) w (.slice na (insF d k).len nc) (insF d k)) := hfl
        have HIL : Aside (cells3 ⟨insF d k, insR d, insE d, na, nc⟩ = [.slice na il nc, .bool ir, .string ie]) := by rw [← hil, ← hir, ← hie]; rfl
        have HREM : Aside (remP (v :: L) = bp ++ remP (⟨insF d k, insR d, insE d, na, nc⟩ :: { v with rest := r, ka := a', kc := cp - 1 } :: L)) := by rw [← hbp]; exact remP_push hrest na a' nc (cp - 1)
        have HFU : Aside (fuelP (⟨insF d k, insR d, insE d, na, nc⟩ :: { v with rest := r, ka := a', kc := cp - 1 } :: L) < fuelP (v :: L)) := fuelP_push hrest na a' nc (cp - 1)
        have HHI : Aside (highP N (⟨insF d k, insR d, insE d, na, nc⟩ :: { v with rest := r, ka := a', kc := cp - 1 } :: L)) := highP_push hrest HX.out.2.2.1 na a' nc (cp - 1)
        clear hbp hbl hlv hfl hil hir hie
        clear hok1 hfl1 hA hF hFr hWs hWb hkb hbx hlkb hownb hallb hz1b hmtb hAb hFb hkS hkl1 hrr hS hfz e
        gi_wp2
        rw [HWS.out, HWB.out]
        gi_wp2
        refine wpIn_wide.2 ?_
        go_region_held3 (fun w' => (w'.cell? ⟨wr.heap.size, 0, none⟩ = some (.int .i64 d.k) ∧ w'.cell? ⟨wr.heap.size, 1, none⟩ = some (.string d.n) ∧ w'.cell? ⟨wr.heap.size, 2, none⟩ = some (.string d.x) ∧ w'.cell? ⟨wr.heap.size, 3, none⟩ = some (.slice p1 p2 p3) ∧ w'.cell? ⟨wr.heap.size, 4, none⟩ = some (.slice ka1 kl1 kc1)) ∧ w'.cell? ⟨g, m * 3 + 1, none⟩ = some (.bool v.raw))
          (first | with_reducible exact hS0 | with_reducible exact hS5)
          (first | (go_at_call 37; refine (begin_any d v.raw (.slice p1 p2 p3) (.slice ka1 kl1 kc1) _ HAB.out ⟨_, _, _, rfl⟩ HOKD.out (HMTB.out.below (Below.refl _ _).drew)).mono ?_; rintro e w5 ⟨lv, rfl, hb5, hrow5⟩; rw [HBP.out, HBL.out] at hrow5; obtain ⟨la, lc, rfl⟩ := own_shapeS hrow5; have hS5 : (w5.cell? ⟨wr.heap.size, 0, none⟩ = some (.int .i64 d.k) ∧ w5.cell? ⟨wr.heap.size, 1, none⟩ = some (.string d.n) ∧ w5.cell? ⟨wr.heap.size, 2, none⟩ = some (.string d.x) ∧ w5.cell? ⟨wr.heap.size, 3, none⟩ = some (.slice p1 p2 p3) ∧ w5.cell? ⟨wr.heap.size, 4, none⟩ = some (.slice ka1 kl1 kc1)) ∧ w5.cell? ⟨g, m * 3 + 1, none⟩ = some (.bool v.raw) := ⟨⟨(hb5.cell (p := ⟨wr.heap.size, 0, none⟩) hltX).trans hS0.1.1, (hb5.cell (p := ⟨wr.heap.size, 1, none⟩) hltX).trans hS0.1.2.1, (hb5.cell (p := ⟨wr.heap.size, 2, none⟩) hltX).trans hS0.1.2.2.1, (hb5.cell (p := ⟨wr.heap.size, 3, none⟩) hltX).trans hS0.1.2.2.2.1, (hb5.cell (p := ⟨wr.heap.size, 4, none⟩) hltX).trans hS0.1.2.2.2.2⟩, (hb5.cell (p := ⟨g, m * 3 + 1, none⟩) hltg).trans hS0.2⟩; have HB5 := Fact.mk hb5; have HR5 := Fact.mk hrow5; clear hb5 hrow5))
        have hk5 : Kept (fun k => ¬ k = g) wr w5 := HKB.out.trans (Kept.of_below' ((Below.refl _ Wb).drew.trans HB5.out))
        have hb5' : Below Wb.heap.size Wb w5 := (Below.refl _ Wb).drew.trans HB5.out
        have hz5 : wr.heap.size + 1 ≤ w5.heap.size := by have := hb5'.size; omega
        have hlk5 : Like (fun b => b < n₀ ∨ b = W.heap.size) Wb w5 := fun b hb hz => hb5'.block b hz
        have hp0 : PIn n₀ W.heap.size wr.heap.size g m cap { v with rest := r, ka := a', kc := cp - 1 } L (.slice la bl lc) bp d k (.slice p1 p2 p3) ka1 kc1 done J 0 w5 := by
          refine ⟨own_block HOWB.out (fun k e hz => hb5'.block k hz), AllLv.like hlk5 HALB.out, fun i u hu => ?_, ?_, FL.like hlk5 HFB.out, ?_, HMT.out.kept hk5 (fun e => by have := HGM.out; omega), hz5⟩
          · rw [HKL1.out] at hu
            exact (hb5'.cell (p := ⟨wr.heap.size, i, none⟩) hltX).trans (HBX.out i u hu)
          · rw [HBL.out]
            exact own_lessP HR5.out (by show wr.heap.size + 1 ≤ Wb.heap.size; omega)
          · rw [List.take_zero, List.append_nil]
            refine hJ _ _ _ _ _ HJD.out (hk5.mono (fun k _ h e => h (.inl e))) (fun q e => ?_)
            rcases e with e | e | e | e
            · exact .inl (.inl e)
            · exact .inl (.inr e)
            · exact .inr (by omega)
            · have h9 := (HR5.out.lt q e.symm).1
              have h10 : Wb.drew.heap.size = Wb.heap.size := rfl
              exact .inr (by omega)
        have HP0 : Aside _ := hp0
        have HXS : Aside (xs = done ++ (bp ++ remP (⟨insF d k, insR d, insE d, na, nc⟩ :: { v with rest := r, ka := a', kc := cp - 1 } :: L))) := by have h1 := HX.out.1; have h2 := HREM.out; rw [h2] at h1; exact h1
        have HLT : Aside (fuelP (⟨insF d k, insR d, insE d, na, nc⟩ :: { v with rest := r, ka := a', kc := cp - 1 } :: L) < k0) := Nat.lt_of_lt_of_le HFU.out HX.out.2.1
        have HLL : Aside (L.length = m) := HX.out.2.2.2
        obtain ⟨X, hX⟩ : ∃ X, wr.heap.size = X := ⟨_, rfl⟩
        rw [hX] at HP0 hz5 hsz hg2
        clear hk5 hb5' hlk5 hp0 hS0 hS5 HWS HWB HKB HBX HOWB HALB HMTB HAB HFB HB5 HR5 z0 z1 z2 zf e0 e1 e2 e3 e4 hsl ha' t0 HX HO HOK HJD HMT hltX hltg hzb hzS HREM HFU
        gi_wp2
        rw [hX]
        clear hX
        gi_loopw [59] (fun i wr2 => ∃ j : Nat, i = .int .i64 j ∧ j ≤ bl ∧ PIn n₀ W.heap.size X g m cap { v with rest := r, ka := a', kc := cp - 1 } L (.slice la bl lc) bp d k (.slice p1 p2 p3) ka1 kc1 done J j wr2) (fun i wr2 => bl - (intOf i).toNat)
        case atStart => exact ⟨0, rfl, Nat.zero_le _, HP0.out⟩
        case round =>
          obtain ⟨j, rfl, hj, hp⟩ := hrel
          have HPJ : Aside _ := hp
          have hgw : g < wr.heap.size := (hp.own.lt g rfl).2
          have hXw : X + 1 ≤ wr.heap.size := hp.size
          by_cases hlt : j < bl
          · have jI : (j : Int) < bl := by omega
            have jI0 : (0 : Int) ≤ j := by omega
            obtain ⟨x, hx⟩ : ∃ x, bp[j]? = some x := ⟨_, List.getElem?_eq_getElem (by have := HBL.out; omega)⟩
            obtain ⟨bh, rfl⟩ : ∃ bh, la = some ⟨bh, 0, none⟩ := by
              rcases hp.row.2 with ⟨_, h0⟩ | ⟨g9, c9, cur, e9, _⟩
              · have := HBL.out; omega
              · cases e9; exact ⟨_, rfl⟩
            have hbm : bl ≤ 9223372036854775807 := by
              rcases hp.row.2 with ⟨e9, _⟩ | ⟨g9, c9, cur, e9, _, _, h1, h2, _⟩
              · cases e9
              · have := HBL.out; unfold maxLen at h2; omega
            have y0 : wr.cell? ⟨bh, j, none⟩ = some (.string x) := by
              have := hp.row.cells (g := bh) rfl j (.string x) (by simp [strs, hx])
              rw [add_cell, Nat.zero_add] at this
              exact this
            have htk : bp.take (j + 1) = bp.take j ++ [x] := by rw [List.take_add_one, hx]; rfl
            have hpr : done ++ bp.take j ++ [x] <+: xs := by
              rw [HXS.out, List.append_assoc, ← htk]
              refine ⟨bp.drop (j + 1) ++ remP (⟨insF d k, insR d, insE d, na, nc⟩ :: { v with rest := r, ka := a', kc := cp - 1 } :: L), ?_⟩
              rw [List.append_assoc, ← List.append_assoc (bp.take (j + 1)), List.take_append_drop]
            obtain ⟨fn, tmps, assign, body, hy, hR⟩ := HY.out (done ++ bp.take j) x (fun k => k = g ∨ k = W.heap.size ∨ k = X ∨ some k = (Value.slice (some ⟨bh, 0, none⟩) bl lc).ownBlock) wr _ hp.told (fun q e => by
              rcases e with e | e | e | e
              · omega
              · omega
              · omega
              · have := hp.row.lt q e.symm; omega) (by omega) rfl hpr
            have hR' := hR.mono (R' := fun e W' => (e = .returned (.bool true) ∧ PIn n₀ W.heap.size X g m cap { v with rest := r, ka := a', kc := cp - 1 } L (.slice (some ⟨bh, 0, none⟩) bl lc) bp d k (.slice p1 p2 p3) ka1 kc1 done J (j + 1) W') ∨
                (e = .returned (.bool false) ∧ ∃ T, Jx (done ++ bp.take j ++ [x]) T W')) (by
              rintro e W' (⟨rfl, hj', hkp⟩ | ⟨rfl, h⟩)
              · exact .inl ⟨rfl, HPJ.out.step hkp (by rw [htk, ← List.append_assoc]; exact hj') HGM.out⟩
              · exact .inr ⟨rfl, _, h⟩)
            have HPR : Aside (done ++ bp.take j ++ [x] <+: xs) := hpr
            have HLJ : Fact (j + 1 ≤ bl) := ⟨hlt⟩
            clear hR hp hpr htk hx HPJ
            gi_wp2
            refine hR'.mono ?_
            rintro e W5 (⟨rfl, hr5⟩ | ⟨rfl, T5, hJx5⟩)
            · have HR5 : Aside _ := hr5
              clear hr5 hR' hy
              gi_wp2
              go_roundw
              case rel => exact ⟨j + 1, by go_num, HLJ.out, HR5.out⟩
              case measure => have := HLJ.out; simp [intOf]; omega
            · clear hR' hy
              gi_wp2
              refine bodyPost_ret (results_none rfl _ _ _) rfl ?_
              exact ⟨⟨_, rfl⟩, .inr ⟨_, _, HPR.out, hJx5⟩⟩
          · obtain rfl : j = bl := by omega
            have jI : ¬ (j : Int) < j := by omega
            have x0 := hp.box 0 _ rfl
            have x1 := hp.box 1 _ rfl
            have x2 := hp.box 2 _ rfl
            have x3 := hp.box 3 _ rfl
            have x4 := hp.box 4 _ rfl
            rw [HKL1.out] at x4
            have hin := inside_any d (.slice p1 p2 p3) (.slice ka1 kl1 kc1) wr ⟨_, _, _, rfl⟩ ⟨_, _, _, rfl⟩ HOKD.out
            rw [HLV.out] at hin
            have HIN : Aside _ := hin
            obtain ⟨i0, hii, hzz0, hzz1, hzz2⟩ := info_parts infoLv
            clear hp hin
            gi_wp2_with (first
              | (refine ⟨trivial, ?_⟩; gi_at_call 38; refine (callsIn_wide.2 HIN.out).mono ?_; rintro e w6 ⟨rfl, hb6⟩; have HB6 := Fact.mk hb6; have hz6 := hb6.size; have HO6 : Fact (w6.ownsRow (W.heap.size + 1) 69 3 (.slice (some ⟨g, 0, none⟩) (m + 1) cap) (m + 1) (cellsL ({ v with rest := r, ka := a', kc := cp - 1 } :: L))) := ⟨own_block HPJ.out.own (fun k e hz => hb6.block k hz)⟩; clear hb6)
              | (gi_at_builtin; refine wpListIn_append_at _ rfl (.tmp 68) (.tmp 71) 70 rfl (W.heap.size + 1) 69 i0 (.agg #[.slice none 0 0, .bool false, .string ⟨#[]⟩]) 3 48 Tryd.underlying70 hii hzz0 hzz1 hzz2 rfl (by decide) (.slice (some ⟨g, 0, none⟩) (m + 1) cap) (m + 1) (cellsL ({ v with rest := r, ka := a', kc := cp - 1 } :: L)) rfl (HO6.out.alloc _) ⟨w6.heap.size, 0, none⟩ 1 1 [.slice na il nc, .bool ir, .string ie] rfl rfl (str_cells _ _ _) (by simp [Value.oneCell']) (by unfold maxLen; omega) (by omega) (by simp; omega) ?_; intro v' w7 hown' hgrow hat'; obtain ⟨g', cap', rfl⟩ := ownsRow_some hown' (by decide)))
            have hpj := HPJ.out
            rw [← HBL.out] at hpj
            have hrel2 := PIn.push (N := N) (xs := xs) hpj hJ HLL.out hn₀ (by omega : W.heap.size < X) ⟨hg1, hgw⟩ (by rw [HXS.out, List.append_assoc]) HHI.out HFL.out (insF_ok HOKK.out) HB6.out (by rw [HIL.out]; exact hown') hgrow hat' HGM.out
            exact ⟨⟨_, hrel2⟩, least_lt7 HK.out hrel2 HLT.out⟩
end Go.Proofs.YtibagbnnplpfgaaDoor
