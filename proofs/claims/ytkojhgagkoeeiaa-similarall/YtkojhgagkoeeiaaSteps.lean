/- The iterator of walk: each way, where a node is come to and where it is left. -/
import Derived.Test.YtkojhgagkoeeiaaStM
import Derived.Test.YtkojhgagkoeeiaaScope2
import Derived.WalkMore
import Derived.BigQuiet
import Derived.Sort.CutIn
import Derived.Deep.RegionHeld3
import Derived.Shelf.Abstract
import Derived.Shelf.RegionOpen
import Derived.OwnWalkIn
import Derived.TacticsInMore
import Derived.LoopNIn
import Derived.LoopIn
import Derived.Deep.LoopGhost
import Derived.Maps.AppendAt
set_option linter.unusedVariables false
namespace Go.Proofs.Ytkojhgagkoeeiaa
open Go.Deep (BT)
open Go.RowKit Go.Shelf M
attribute [local go_sem] Oper.semAt_some

theorem infoStep : (Try.prog.info? 108).map (fun i => (i.zero, i.size, i.bytes)) = some (some (.agg #[.int .i64 0, .string ⟨#[]⟩, .string ⟨#[]⟩, .slice none 0 0, .slice none 0 0, .int .i64 0, .int .i64 0, .int .i64 0]), 8, 112) := by kernel_rfl

theorem cell_up {w : World} {a : Addr} {v : Value} {o : Obj} (h : w.drew.cell? a = some v) : (w.alloc o).drew.cell? a = some v :=
  (World.cell?_alloc_lt w o a (World.block_lt_of_cell? w a h)).trans h

theorem wpListIn_append_at {F : Fence} {n : Nat} {P : Program} (w : World) {ops : Array Oper} {rest : List Oper} {o : Oper} {a : Act} {Q : Exit → Act → World → Prop}
    (hg : o.guard = none) (s x : Operand) (t : TypeId) (hop : o.op = Op.call { callee := Callee.builtin Builtin.append, args := #[s, x], argTypes := #[t, t] })
    (base : Nat) (e : TypeId) (i : TypeInfo) (z : Value) (size bytes : Nat) (h1 : P.underlying t = some (.slice e)) (h2 : P.info? e = some i) (h3 : i.zero = some z) (h4 : i.size = size) (h5 : i.bytes = bytes) (h6 : z.cells.size = size) (h7 : 0 < size)
    (v : Value) (k : Nat) (xs : List Value) (hs : a.eval s = v) (hown : w.ownsRow base e size v k xs) (ad : Addr) (m c : Nat) (news : List Value) (hx : a.eval x = .slice (some ad) m c) (hn : news.length = m * size)
    (hc : ∀ j u, news[j]? = some u → w.cell? (ad.add j) = some u) (h1c : ∀ u ∈ news, u.oneCell' = true) (b1 : k + m ≤ maxLen) (b2 : (k + m) * bytes ≤ 140737488355328) (b3 : base ≤ w.heap.size)
    (hK : ∀ v' w', w'.ownsRow base e size v' (k + m) (xs ++ news) → w.grownBy w' v.ownBlock → (v'.ownBlock = v.ownBlock ∨ v'.ownBlock = some w.heap.size) → wpListIn F n P ops Q rest (a.put o.dst v') w') :
    wpListIn F n P ops Q (o :: rest) a w := by
  refine wpListIn_plain hg fun K hK' => ?_
  obtain ⟨v', w', hrun, r1, r2, _, r3⟩ := run_append_own_at (P := P) w base t o.type e i z size bytes h1 h2 h3 h4 h5 h6 h7 v k xs hown ad m c news hn hc h1c b1 b2 b3
  unfold Oper.wpIn
  refine ⟨?_, ?_⟩
  · simp [Oper.about, hop, resolve, Target.leads, Sem.run_pure]
  · rw [Oper.semAt_plain F _ _ (by rw [hop]; intro c hc'; cases hc')]
    simp [execOp, hop, resolve, invoke, builtin, hs, hx, hrun, Result.andThen]
    exact hK' _ _ (hK v' w' r1 r2 r3)
theorem cells_new (w : World) (c : Array Value) (t : TypeId) : ∀ j u, c.toList[j]? = some u → (w.alloc (.cells c t)).cell? ((⟨w.heap.size, 0, none⟩ : Addr).add j) = some u := fun j u h => by
  have e : (⟨w.heap.size, 0, none⟩ : Addr).add j = ⟨w.heap.size, j, none⟩ := by cases j <;> simp [Addr.add]
  rw [e]
  refine (World.cell?_alloc_new w c t j).trans ?_
  simpa using h

/-- where the iterator stands, ahead of a node that is come to: k rounds at most are to come -/
def Rel1 (N n₀ B C : Nat) (xs : List Tl) (J : List Tl → (Nat → Prop) → World → Prop) (k : Nat) (v : Value) (m : Value) (wr : World) : Prop :=
  ∃ (done : List Tl) (L : List Fr) (g cap met : Nat), v = .slice (some ⟨g, 0, none⟩) L.length cap ∧ m = .int .i64 met ∧ L ≠ [] ∧ wr.ownsRow B 108 8 v L.length (cellsW L) ∧
    AllOK (Old n₀) wr L ∧ xs = done ++ ⟨wayOf L, false⟩ :: remF met L ∧ J done (fun k => k = g) wr ∧ fuelF L ≤ k ∧ highF N L ∧ met + leftF L ≤ C ∧ B ≤ wr.heap.size
/-- .. behind it -/
def Rel2 (N n₀ B C : Nat) (xs : List Tl) (J : List Tl → (Nat → Prop) → World → Prop) (k : Nat) (v : Value) (m : Value) (wr : World) : Prop :=
  ∃ (done : List Tl) (L : List Fr) (g cap met : Nat), v = .slice (some ⟨g, 0, none⟩) L.length cap ∧ m = .int .i64 met ∧ wr.ownsRow B 108 8 v L.length (cellsW L) ∧
    AllOK (Old n₀) wr L ∧ xs = done ++ remF met L ∧ J done (fun k => k = g) wr ∧ fuelF L ≤ k ∧ highF N L ∧ met + leftF L ≤ C ∧ B ≤ wr.heap.size

set_option maxRecDepth 100000 in
set_option maxHeartbeats 2000000 in
theorem steps_in (n : Nat) (hn : 1 ≤ n) (N C n₀ l Bn : Nat) (d : Nd) (k : M.F) (av : Value) (ka : Option Addr) (kc : Nat) (J Jx : List Tl → (Nat → Prop) → World → Prop) (xs : List Tl) (W : World)
    (hN : N ≤ 1000000) (hC : C ≤ 1000000000) (hk : k.depth + 1 ≤ N) (hks : k.size + 1 ≤ C) (hn₀ : n₀ ≤ W.heap.size) (hJ : Bide J)
    (hY : ∀ pre x T W1 args, J pre T W1 → (∀ k, T k → W.heap.size ≤ k ∧ k < W1.heap.size) → W.heap.size ≤ W1.heap.size → EncW n₀ T W1 x args → pre ++ [x] <+: xs → YieldAt Fence.wide (n - 1) Try.prog l args W1 fun e W' =>
      (e = .returned (.bool true) ∧ J (pre ++ [x]) T W' ∧ Kept (fun k => T k ∨ k < n₀) W1 W') ∨ (e = .returned (.bool false) ∧ Jx (pre ++ [x]) T W'))
    (h0 : J [] (fun _ => False) W) (hc : W.cell? ⟨Bn, 0, none⟩ = some (.int .i64 d.k) ∧ W.cell? ⟨Bn, 1, none⟩ = some (.string d.n) ∧ W.cell? ⟨Bn, 2, none⟩ = some (.string d.x) ∧ W.cell? ⟨Bn, 3, none⟩ = some av ∧ W.cell? ⟨Bn, 4, none⟩ = some (.slice ka k.len kc))
    (hx : xs = evT d k) (ha : AS (Old n₀) W av d.ats) (hfs : FL (Old n₀) W (.slice ka k.len kc) k) :
    CallsIn Fence.wide n Try.prog 71 #[.func (.yield l) #[] #[], .pointer (some ⟨Bn, 0, none⟩)] W fun e W' => (∃ v, e = .returned v) ∧ ((∃ T, J xs T W') ∨ (∃ pre T, pre <+: xs ∧ Jx pre T W')) := by
  obtain ⟨c0, c1, c2, c3, c4⟩ := hc
  obtain ⟨a1, a2, a3, ea⟩ : ∃ a b c, av = .slice a b c := by obtain ⟨a, c, e, _⟩ := ha; exact ⟨a, _, c, e⟩
  refine callsIn_of_wp Try.func71 rfl trivial ?_ rfl
  simp only [Try.ntmps71, List.size_toArray, List.length_cons, List.length_nil, Nat.reduceAdd, Nat.reduceSub, Array.replicate_succ, Array.replicate_zero, List.push_toArray, List.append_toArray, List.nil_append, List.cons_append]
  refine wpIn_scope ?_
  gi_wp2
  refine wpIn_label ?_
  gi_wp2
  gi_loopw [3, 4] (fun v m wr => ∃ k, Rel1 N n₀ W.heap.size C xs J k v m wr) (fun v m wr => leastOf (fun k => Rel1 N n₀ W.heap.size C xs J k v m wr))
  case atStart =>
    subst ea
    obtain ⟨W0, hW0⟩ : ∃ W0, W.alloc (.cells #[.int .i64 d.k, .string d.n, .string d.x, .slice a1 a2 a3, .slice ka k.len kc, .int .i64 0, .int .i64 0, .int .i64 0] 108) = W0 := ⟨_, rfl⟩
    have hb0 : Below W.heap.size W W0 := by rw [← hW0]; exact (Below.refl _ W).alloc (Nat.le_refl _) _
    have hlk : Like (Old n₀) W W0 := like_below (hb0.mono hn₀)
    rw [hW0]
    refine ⟨fuelF [⟨⟨d, k, 0, 0⟩, k, 0, .slice a1 a2 a3, ka, kc⟩], [], [⟨⟨d, k, 0, 0⟩, k, 0, .slice a1 a2 a3, ka, kc⟩], W.heap.size, 1, 1, rfl, rfl, by simp, ?_, ⟨⟨ha.like hlk, hfs.like hlk, ?_, by simp, ?_⟩, trivial⟩, ?_, ?_, Nat.le_refl _, ⟨?_, trivial⟩, ?_, hb0.size⟩
    · refine ⟨rfl, .inr ⟨W.heap.size, 1, #[.int .i64 d.k, .string d.n, .string d.x, .slice a1 a2 a3, .slice ka k.len kc, .int .i64 0, .int .i64 0, .int .i64 0], rfl, Nat.le_refl _, ?_, Nat.le_refl _, by unfold maxLen; omega, rfl, rfl⟩⟩
      rw [← hW0]; exact World.alloc_heap_new W _
    · obtain ⟨a, cap, e, h1, h2, h3⟩ := hfs.like hlk
      cases e
      rcases h3 with h3 | ⟨b, o, ea, hS, hc⟩
      · exact .inl h3
      · exact .inr ⟨b, o, ea, hS, by simpa using hc⟩
    · obtain ⟨a, cap, e, h1, h2, h3⟩ := hfs
      cases e
      exact ⟨h1, h2⟩
    · rw [hx]; exact evT_eq d k _ _ _
    · exact hJ _ _ _ _ _ h0 (Kept.of_below' hb0) (fun k hk => .inr (by omega))
    · simp; omega
    · simp [leftF]; omega
  case round =>
    have hrel0 := (leastOf_spec hrel).1
    obtain ⟨k0, hk0⟩ : ∃ k0, leastOf (fun k => Rel1 N n₀ W.heap.size C xs J k u3 u4 wr) = k0 := ⟨_, rfl⟩
    rw [hk0] at hrel0
    have HK : Aside (leastOf (fun k => Rel1 N n₀ W.heap.size C xs J k u3 u4 wr) = k0) := hk0
    clear hk0
    obtain ⟨done, L, g, cap, met, rfl, rfl, hne, hown, hok, hxs, hJd, hfu, hhi, hmet, hsz⟩ := hrel0
    clear hrel
    have hg : W.heap.size ≤ g ∧ g < wr.heap.size := hown.lt g rfl
    obtain ⟨fn, tmps, assign, body, hy, hR⟩ := hY done ⟨wayOf L, false⟩ (fun k => k = g) wr _ hJd (fun k e => by subst e; exact hg) hsz ⟨L, g, cap, W.heap.size, rfl, hne, rfl, rfl, by omega, hown, hok, by have := highF_len hhi; omega⟩ (by rw [hxs]; exact ⟨remF met L, by simp⟩)
    have hR' := hR.mono (R' := fun e W' => (e = .returned (.bool true) ∧ Rel2 N n₀ W.heap.size C xs J (fuelF L) (.slice (some ⟨g, 0, none⟩) L.length cap) (.int .i64 met) W') ∨
        (e = .returned (.bool false) ∧ Jx (done ++ [⟨wayOf L, false⟩]) (fun k => k = g) W')) (by
      rintro e W' (⟨rfl, hj, hkp⟩ | h)
      · have hs := hkp.size
        exact .inl ⟨rfl, done ++ [⟨wayOf L, false⟩], L, g, cap, met, rfl, rfl, own_block hown (fun k e hk' => hkp.block k hk' (.inl (own_blk1 e))), hok.like (fun b hb hz => hkp.block b hz (.inr hb)), by rw [hxs]; simp, hj, Nat.le_refl _, hhi, hmet, by omega⟩
      · exact .inr h)
    have HF : Aside (fuelF L ≤ k0 ∧ xs = done ++ ⟨wayOf L, false⟩ :: remF met L) := ⟨hfu, hxs⟩
    have HY : Aside _ := hY
    clear hR hxs hfu hY hx ha hfs hown hok hJd hhi c0 c1 c2 c3 c4 hk h0
    gi_wp2
    refine hR'.mono ?_
    rintro e W3 (⟨rfl, hr2⟩ | ⟨rfl, hJx3⟩)
    · have HR2 : Aside _ := hr2
      clear hr2 hR' hy
      gi_wp2
      gi_loopw [3, 4] (fun v m wr => ∃ k, k ≤ fuelF L ∧ Rel2 N n₀ W.heap.size C xs J k v m wr) (fun v m wr => leastOf (fun k => Rel2 N n₀ W.heap.size C xs J k v m wr))
      case atStart => exact ⟨_, Nat.le_refl _, HR2.out⟩
      case round =>
        obtain ⟨k9, hk9, hr9⟩ := hrel
        have hls := leastOf_spec (p := fun k => Rel2 N n₀ W.heap.size C xs J k u3 u4 wr) ⟨k9, hr9⟩
        have hrel0 := hls.1
        have hk1 := hls.2 k9 hr9
        obtain ⟨k1, hk1'⟩ : ∃ k1, leastOf (fun k => Rel2 N n₀ W.heap.size C xs J k u3 u4 wr) = k1 := ⟨_, rfl⟩
        rw [hk1'] at hrel0 hk1
        have HK1 : Aside (leastOf (fun k => Rel2 N n₀ W.heap.size C xs J k u3 u4 wr) = k1) := hk1'
        have HKF : Aside (k1 ≤ fuelF L) := Nat.le_trans hk1 hk9
        clear hk1' hls hr9 hk1 hk9
        obtain ⟨done2, L2, g2, cap2, met2, rfl, rfl, hown, hok, hxs, hJd, hfu, hhi, hmet2, hsz2⟩ := hrel0
        have hlen := highF_len hhi
        cases L2 with
        | nil =>
          have hxs' : xs = done2 := by rw [hxs]; simp [remF]
          gi_wp2
          rw [Exit.noGoto_ret]
          refine bodyPost_ret (results_none rfl _ _ _) rfl ?_
          exact ⟨⟨_, rfl⟩, .inl ⟨_, by rw [hxs']; exact hJd⟩⟩
        | cons f L2 =>
          obtain ⟨m, hm⟩ : ∃ m, L2.length = m := ⟨_, rfl⟩
          simp only [List.length_cons, hm] at hown hlen HK1 ⊢
          obtain ⟨hat, hfz, hg1, hg2, hcp, hcm⟩ := own8_at hown hm
          have z4 : wr.cell? ⟨g2, m * 8 + 4, none⟩ = some (.slice f.ka f.s.k.len f.kc) := hat 4 _ rfl
          have z7 : wr.cell? ⟨g2, m * 8 + 7, none⟩ = some (.int .i64 f.next) := hat 7 _ rfl
          have HLen : Aside (f.s.k.len = f.next + f.rest.len ∧ f.s.k.len ≤ f.kc ∧ f.kc ≤ maxLen) := ⟨hok.1.len, hok.1.cap⟩
          obtain ⟨kl, hkl⟩ : ∃ kl, f.s.k.len = kl := ⟨_, rfl⟩
          obtain ⟨nx, hnx⟩ : ∃ nx, f.next = nx := ⟨_, rfl⟩
          rw [hkl] at z4 HLen
          rw [hnx] at z7 HLen
          have HK2 : Aside (f.s.k.len = kl) := hkl
          have HN2 : Aside (f.next = nx) := hnx
          have HO : Aside _ := hown
          have HOK : Aside (AllOK (Old n₀) wr (f :: L2)) := hok
          have HX : Aside (xs = done2 ++ remF met2 (f :: L2) ∧ fuelF (f :: L2) ≤ k1 ∧ highF N (f :: L2) ∧ met2 + leftF (f :: L2) ≤ C ∧ L2.length = m) := ⟨hxs, hfu, hhi, hmet2, hm⟩
          have HJD : Aside _ := hJd
          clear hkl hnx hown hok hxs hfu hhi hmet2 hm hJd hat
          cases hrest : f.rest with
          | nil =>
            have hfe : nx = kl := by have := HLen.out.1; rw [hrest] at this; simpa [BT.len] using this.symm
            subst hfe
            have hdec : decide ((nx : Int) < (nx : Int)) = false := decide_eq_false (by omega)
            gi_wp2
            refine wpIn_wide.2 ?_
            go_quiet (fail)
            obtain ⟨w4, hw4⟩ : ∃ w4, wr.drewN nq = w4 := ⟨_, rfl⟩
            have hk4 : Kept (fun _ => True) wr w4 := by rw [← hw4]; exact ⟨rfl, rfl, rfl, Nat.le_refl _, fun _ _ _ => rfl⟩
            have hh4 : w4.heap.size = wr.heap.size := by rw [← hw4]; rfl
            rw [hw4]
            have hown4 := own_block HO.out (w' := w4) (fun k e hk' => hk4.block k hk' trivial)
            have hok4 := AllOK.like (w' := w4) (fun b hb hz => hk4.block b hz trivial) HOK.out
            obtain ⟨fn, tmps, assign, body, hy, hR⟩ := HY.out done2 ⟨wayOf (f :: L2), true⟩ (fun k => k = g2) w4 _ (hJ _ _ _ _ _ HJD.out (hk4.mono (fun _ _ _ => trivial)) (fun k e => .inl e)) (fun k e => by subst e; exact ⟨hg1, by omega⟩) (by omega) ⟨f :: L2, g2, cap2, W.heap.size, rfl, by simp, rfl, rfl, by omega, by simp only [List.length_cons, HX.out.2.2.2.2]; exact hown4, hok4, by have := HX.out.2.2.2.2; simp only [List.length_cons]; omega⟩ (by rw [HX.out.1, remF_pop _ _ _ hrest]; exact ⟨remF met2 L2, by simp⟩)
            simp only [List.length_cons, HX.out.2.2.2.2] at hy
            have hR' := hR.mono (R' := fun e W' => (e = .returned (.bool true) ∧ Rel2 N n₀ W.heap.size C xs J (fuelF L2) (.slice (some ⟨g2, 0, none⟩) m cap2) (.int .i64 met2) W') ∨
                (e = .returned (.bool false) ∧ Jx (done2 ++ [⟨wayOf (f :: L2), true⟩]) (fun k => k = g2) W')) (by
              rintro e W' (⟨rfl, hj, hkp⟩ | h)
              · have hs := hkp.size
                obtain ⟨q1, q2, q3, q4, q5⟩ := HX.out
                exact .inl ⟨rfl, done2 ++ [⟨wayOf (f :: L2), true⟩], L2, g2, cap2, met2, by rw [q5], rfl, by rw [q5]; exact own8_pop (own_block hown4 (fun k e hk' => hkp.block k hk' (.inl (own_blk1 e)))) q5, hok4.2.like (fun b hb hz => hkp.block b hz (.inr hb)), by rw [q1, remF_pop _ _ _ hrest]; simp, hj, Nat.le_refl _, q3.2, by have : leftF (f :: L2) = leftF L2 := by { simp [leftF, hrest, BT.size] }; omega, by omega⟩
              · exact .inr h)
            have hpre : Aside (done2 ++ [⟨wayOf (f :: L2), true⟩] <+: xs) := by rw [HX.out.1, remF_pop _ _ _ hrest]; exact ⟨remF met2 L2, by simp⟩
            clear hR hw4 hok4 hown4 z4 z7
            gi_wp2
            refine hR'.mono ?_
            rintro e W5 (⟨rfl, hr5⟩ | ⟨rfl, hJx5⟩)
            · have HR5 : Aside _ := hr5
              clear hr5 hR' hy
              gi_wp2
              go_roundw
              case rel => exact ⟨_, Nat.le_trans (Nat.le_of_lt (Nat.lt_of_lt_of_le (fuelF_pop f L2) HX.out.2.1)) HKF.out, HR5.out⟩
              case measure => exact least_lt7 HK1.out HR5.out (Nat.lt_of_lt_of_le (fuelF_pop f L2) HX.out.2.1)
            · clear hR' hy
              gi_wp2
              rw [Exit.noGoto_ret]
              refine bodyPost_ret (results_none rfl _ _ _) rfl ?_
              exact ⟨⟨_, rfl⟩, .inr ⟨_, _, hpre.out, hJx5⟩⟩
          | node xb xo d k r =>
            have hlt : nx < kl := by have := HLen.out.1; rw [hrest] at this; simp only [BT.len] at this; omega
            have hdec : decide ((nx : Int) < (kl : Int)) = true := decide_eq_true (by omega)
            have hkid : ∃ b o av1 ka1 kc1, f.ka = some ⟨b, o, none⟩ ∧ b < n₀ ∧ wr.cell? ⟨b, o + nx * 5, none⟩ = some (.int .i64 d.k) ∧ wr.cell? ⟨b, o + nx * 5 + 1, none⟩ = some (.string d.n) ∧ wr.cell? ⟨b, o + nx * 5 + 2, none⟩ = some (.string d.x) ∧ wr.cell? ⟨b, o + nx * 5 + 3, none⟩ = some av1 ∧ wr.cell? ⟨b, o + nx * 5 + 4, none⟩ = some (.slice ka1 k.len kc1) ∧ AS (Old n₀) wr av1 d.ats ∧ FL (Old n₀) wr (.slice ka1 k.len kc1) k ∧ FAt (Old n₀) wr r b (o + (nx + 1) * 5) := by
              rcases HOK.out.1.rest with h | ⟨b, o, e, hS, hc⟩
              · rw [hrest] at h; simp [BT.len] at h
              · rw [hrest, HN2.out] at hc
                obtain ⟨⟨av1, ka1, kc1, c0, c1, c2, c3, c4, hA, h1, h2, h3⟩, hr⟩ := hc
                exact ⟨b, o, av1, ka1, kc1, e, hS, c0, c1, c2, c3, c4, hA, ⟨ka1, kc1, rfl, h1, h2, h3⟩, by rw [show o + (nx + 1) * 5 = o + nx * 5 + 5 by omega]; exact hr⟩
            obtain ⟨b, o, av1, ka1, kc1, eka, hbn, c0, c1, c2, c3, c4, hA, hF, hFr⟩ := hkid
            obtain ⟨p1, p2, p3, eav1⟩ : ∃ a b c, av1 = .slice a b c := by obtain ⟨a, c, e, _⟩ := hA; exact ⟨a, _, c, e⟩
            subst eav1
            obtain ⟨kl1, hkl1⟩ : ∃ kl1, k.len = kl1 := ⟨_, rfl⟩
            rw [hkl1] at c4
            rw [eka] at z4
            have HA1 : Aside (AS (Old n₀) wr (.slice p1 p2 p3) d.ats) := hA
            have HF1 : Aside (FL (Old n₀) wr (.slice ka1 k.len kc1) k) := hF
            have HF2 : Aside (FAt (Old n₀) wr r b (o + (nx + 1) * 5)) := hFr
            have HKL1 : Aside (k.len = kl1) := hkl1
            have hc5 : nx + 1 ≤ 9223372036854775807 := by have := HLen.out.2; unfold maxLen at this; omega
            clear hA hF hFr hkl1
            gi_wp2
            refine wpIn_wide.2 ?_
            go_quiet (fail)
            obtain ⟨w4, hw4⟩ : ∃ w4, wr.drewN nq = w4 := ⟨_, rfl⟩
            have hk4 : Kept (fun _ => True) wr w4 := by rw [← hw4]; exact ⟨rfl, rfl, rfl, Nat.le_refl _, fun _ _ _ => rfl⟩
            have hh4 : w4.heap.size = wr.heap.size := by rw [← hw4]; rfl
            rw [hw4]
            have hS0 : w4.drew.cell? ⟨g2, m * 8 + 4, none⟩ = some (.slice (some ⟨b, o, none⟩) kl f.kc) ∧ w4.drew.cell? ⟨g2, m * 8 + 7, none⟩ = some (.int .i64 nx) ∧ w4.drew.cell? ⟨b, o + nx * 5, none⟩ = some (.int .i64 d.k) ∧ w4.drew.cell? ⟨b, o + nx * 5 + 1, none⟩ = some (.string d.n) ∧ w4.drew.cell? ⟨b, o + nx * 5 + 2, none⟩ = some (.string d.x) ∧ w4.drew.cell? ⟨b, o + nx * 5 + 3, none⟩ = some (.slice p1 p2 p3) ∧ w4.drew.cell? ⟨b, o + nx * 5 + 4, none⟩ = some (.slice ka1 kl1 kc1) := by
              rw [← hw4]; exact ⟨z4, z7, c0, c1, c2, c3, c4⟩
            gi_wp2
            refine wpIn_wide.2 ?_
            go_region_held3 (fun w' => w'.cell? ⟨g2, m * 8 + 4, none⟩ = some (.slice (some ⟨b, o, none⟩) kl f.kc) ∧ w'.cell? ⟨g2, m * 8 + 7, none⟩ = some (.int .i64 nx) ∧ w'.cell? ⟨b, o + nx * 5, none⟩ = some (.int .i64 d.k) ∧ w'.cell? ⟨b, o + nx * 5 + 1, none⟩ = some (.string d.n) ∧ w'.cell? ⟨b, o + nx * 5 + 2, none⟩ = some (.string d.x) ∧ w'.cell? ⟨b, o + nx * 5 + 3, none⟩ = some (.slice p1 p2 p3) ∧ w'.cell? ⟨b, o + nx * 5 + 4, none⟩ = some (.slice ka1 kl1 kc1))
              (first | with_reducible exact hS0 | assumption | with_reducible exact ⟨cell_up hS0.1, cell_up hS0.2.1, cell_up hS0.2.2.1, cell_up hS0.2.2.2.1, cell_up hS0.2.2.2.2.1, cell_up hS0.2.2.2.2.2.1, cell_up hS0.2.2.2.2.2.2⟩) (fail)
            obtain ⟨w5, hw5⟩ : ∃ w5, (w4.alloc (.cells #[.int .i64 d.k, .string d.n, .string d.x, .slice p1 p2 p3, .slice ka1 kl1 kc1, .int .i64 met2, .int .i64 nx, .int .i64 0] 108)).drew = w5 := ⟨_, rfl⟩
            have hz5 : w5.heap.size = wr.heap.size + 1 := by rw [← hw5]; show (w4.alloc _).heap.size = _; simp [hh4]
            have hk5 : Kept (fun _ => True) wr w5 := hk4.trans (by rw [← hw5]; exact ⟨rfl, rfl, rfl, by simp, fun k hk _ => Below.heap_alloc w4 _ _ hk⟩)
            have hbx : ∀ j v, (#[.int .i64 d.k, .string d.n, .string d.x, .slice p1 p2 p3, .slice ka1 kl1 kc1, .int .i64 met2, .int .i64 nx, .int .i64 0] : Array Value)[j]? = some v → w5.cell? ⟨wr.heap.size, j, none⟩ = some v := fun j v h => by
              rw [← hw5, ← hh4]
              exact (World.cell?_alloc_new w4 _ _ j).trans h
            have hown5 := own_block HO.out (w' := w5) (fun k e hk' => hk5.block k hk' trivial)
            have hfz5 : w5.frozen? ⟨g2, m * 8 + 7, none⟩ = false := (World.frozen?_of_block (a := ⟨g2, m * 8 + 7, none⟩) (hk5.block g2 hg2 trivial)).trans (hfz _)
            have z75 := (World.cell?_of_block (w := wr) (w' := w5) (a := ⟨g2, m * 8 + 7, none⟩) (hk5.block g2 hg2 trivial)).trans z7
            have hown6 := own8_next (nx + 1) r hown5 HX.out.2.2.2.2
            have hb6 : ∀ k, k < w5.heap.size → k ≠ g2 → (w5.setCell ⟨g2, m * 8 + 7, none⟩ (.int .i64 (nx + 1 : Nat))).heap[k]? = w5.heap[k]? := fun k _ hk => Below.heap_setCell _ _ _ _ hk
            have hz6 : (w5.setCell ⟨g2, m * 8 + 7, none⟩ (.int .i64 (nx + 1 : Nat))).heap.size = w5.heap.size := by simp [World.setCell]
            have hos6 : (w5.setCell ⟨g2, m * 8 + 7, none⟩ (.int .i64 (nx + 1 : Nat))).os = w5.os ∧ (w5.setCell ⟨g2, m * 8 + 7, none⟩ (.int .i64 (nx + 1 : Nat))).tape = w5.tape ∧ (w5.setCell ⟨g2, m * 8 + 7, none⟩ (.int .i64 (nx + 1 : Nat))).output = w5.output := ⟨rfl, rfl, rfl⟩
            simp only [Int.natCast_add, Int.natCast_one] at hown6 hb6 hz6 hos6
            obtain ⟨w6, hw6⟩ : ∃ w6, w5.setCell ⟨g2, m * 8 + 7, none⟩ (.int .i64 ((nx : Int) + 1)) = w6 := ⟨_, rfl⟩
            rw [hw6] at hown6 hb6 hz6 hos6
            have hk6 : Kept (fun k => ¬ k = g2) wr w6 := hk5.mono (fun _ _ _ => trivial) |>.trans ⟨hos6.1, hos6.2.1, hos6.2.2, by omega, hb6⟩
            have hbx6 : ∀ j v, (#[.int .i64 d.k, .string d.n, .string d.x, .slice p1 p2 p3, .slice ka1 kl1 kc1, .int .i64 met2, .int .i64 nx, .int .i64 0] : Array Value)[j]? = some v → w6.cell? ⟨wr.heap.size, j, none⟩ = some v := fun j v h =>
              (World.cell?_of_block (w := w5) (w' := w6) (a := ⟨wr.heap.size, j, none⟩) (hb6 wr.heap.size (by omega) (by omega))).trans (hbx j v h)
            have y0 := hbx6 0 _ rfl
            have y1 := hbx6 1 _ rfl
            have y2 := hbx6 2 _ rfl
            have y3 := hbx6 3 _ rfl
            have y4 := hbx6 4 _ rfl
            have y5 := hbx6 5 _ rfl
            have y6 := hbx6 6 _ rfl
            have y7 := hbx6 7 _ rfl
            have HW6 : Aside (w5.setCell ⟨g2, m * 8 + 7, none⟩ (.int .i64 ((nx : Int) + 1)) = w6) := hw6
            rw [hw5]
            have HK6 : Aside _ := hk6
            have hm6 : met2 + 1 ≤ 9223372036854775807 := by have := HX.out.2.2.2.1; omega
            clear hw5 hw6 hbx hbx6 hS0 hown5 hk5 hb6 hos6 z4 z7 c0 c1 c2 c3 c4 hk6 hk4 hw4
            gi_upto_region 8 with fail
            rw [HW6.out]
            obtain ⟨i0, hi, hz0', hz1, hz2⟩ := info_parts infoStep
            have hmN : m + 1 ≤ 1000000 := by omega
            have hsz6 : W.heap.size ≤ w6.heap.size := by omega
            have HZ6 : Aside (w6.heap.size = wr.heap.size + 1) := hz6.trans hz5
            have hlt7 : wr.heap.size < w6.heap.size := by omega
            clear hz5 hz6 hh4
            gi_wp2_with (gi_at_builtin; refine wpListIn_append_at _ rfl _ _ 105 rfl W.heap.size 108 i0 _ 8 112 Try.underlying105 hi hz0' hz1 hz2 rfl (by decide) _ _ _ rfl (hown6.alloc _) ⟨w6.heap.size, 0, none⟩ 1 1 [.int .i64 d.k, .string d.n, .string d.x, .slice p1 p2 p3, .slice ka1 kl1 kc1, .int .i64 met2, .int .i64 nx, .int .i64 0] rfl rfl (cells_new _ _ _) (by simp [Value.oneCell']) (by unfold maxLen; omega) (by omega) (by simp; omega) ?_; intro v' w7 hown' hgrow hat'; obtain ⟨g', cap', rfl⟩ := ownsRow_succ hown')
            have HR7 : Rel1 N n₀ W.heap.size C xs J (fuelF (⟨⟨d, k, met2, f.next⟩, k, 0, .slice p1 p2 p3, ka1, kc1⟩ :: { f with rest := r, next := f.next + 1 } :: L2)) (.slice (some ⟨g', 0, none⟩) (m + 1 + 1) cap') (.int .i64 ((met2 : Int) + 1)) w7 := by
              obtain ⟨q1, q2, q3, q4, q5⟩ := HX.out
              have hk7 : Kept (fun k => ¬ k = g2) wr w7 := (HK6.out.alloc _).grown hgrow (fun k hk _ e => hk (own_blk1 e))
              have hs7 := hgrow.size
              have hz := HZ6.out
              rw [World.size_alloc] at hs7
              have hlk : Like (Old n₀) wr w7 := fun b hb hz => hk7.block b hz (fun e => by subst e; have hb' : b < n₀ := hb; omega)
              refine ⟨done2, ⟨⟨d, k, met2, f.next⟩, k, 0, .slice p1 p2 p3, ka1, kc1⟩ :: { f with rest := r, next := f.next + 1 } :: L2, g', cap', met2 + 1, ?_, by simp, by simp, ?_, ⟨⟨AS.like hlk HA1.out, FL.like hlk HF1.out, ?_, by simp, ?_⟩, ⟨AS.like hlk HOK.out.1.at_, FL.like hlk HOK.out.1.kids, ?_, ?_, HOK.out.1.cap⟩, AllOK.like hlk HOK.out.2⟩, ?_, ?_, Nat.le_refl _, highF_push hrest q3 _ _ _, ?_, by omega⟩
              · simp only [List.length_cons, q5]
              · simp only [List.length_cons, q5]
                have := hown'
                simp only [cellsW, cells8] at this ⊢
                rw [HKL1.out, HN2.out]
                exact this
              · obtain ⟨a, cap, e, h1, h2, h3⟩ := FL.like hlk HF1.out
                cases e
                rcases h3 with h3 | ⟨b, o, ea, hS, hc⟩
                · exact .inl h3
                · exact .inr ⟨b, o, ea, hS, by simpa using hc⟩
              · obtain ⟨a, cap, e, h1, h2, h3⟩ := HF1.out
                cases e
                exact ⟨h1, h2⟩
              · show r.len = 0 ∨ _
                exact .inr ⟨b, o, eka, hbn, by show FAt _ _ r b (o + (f.next + 1) * 5); rw [HN2.out]; exact FAt.like hlk _ _ _ hbn HF2.out⟩
              · have := HOK.out.1.len
                rw [hrest] at this
                simp only [BT.len] at this
                show f.s.k.len = f.next + 1 + r.len
                omega
              · rw [q1, remF_push _ _ _ hrest (.slice p1 p2 p3) ka1 kc1]
              · refine hJ _ _ _ _ _ HJD.out hk7 (fun k e => ?_)
                subst e
                rcases hat' with h | h
                · exact .inl (Option.some.inj h)
                · have := Option.some.inj h
                  rw [World.size_alloc] at this
                  have h' : k = w6.heap.size + 1 := by simpa using this
                  exact .inr (by omega)
              · have := leftF_push met2 f L2 hrest (.slice p1 p2 p3) ka1 kc1
                omega
            refine ⟨⟨_, HR7⟩, ?_⟩
            exact least_lt7 HK.out HR7 (Nat.lt_of_lt_of_le (Nat.lt_of_lt_of_le (Nat.lt_of_lt_of_le (fuelF_push met2 f L2 hrest (.slice p1 p2 p3) ka1 kc1) HX.out.2.1) HKF.out) HF.out.1)
    · clear hR' hy
      gi_wp2
      rw [Exit.noGoto_normal]
      go_end0
      exact ⟨⟨_, rfl⟩, .inr ⟨_, _, by rw [HF.out.2]; exact ⟨remF met L, by simp⟩, hJx3⟩⟩

theorem steps_tells (n : Nat) (hn : 1 ≤ n) (n₀ Bn : Nat) (d : Nd) (k : M.F) (av : Value) (ka : Option Addr) (kc : Nat) (w : World) (hk : k.depth + 1 ≤ 1000000) (hks : k.size + 1 ≤ 1000000000) (hn₀ : n₀ ≤ w.heap.size) (hB : Bn < w.heap.size)
    (hc : w.cell? ⟨Bn, 0, none⟩ = some (.int .i64 d.k) ∧ w.cell? ⟨Bn, 1, none⟩ = some (.string d.n) ∧ w.cell? ⟨Bn, 2, none⟩ = some (.string d.x) ∧ w.cell? ⟨Bn, 3, none⟩ = some av ∧ w.cell? ⟨Bn, 4, none⟩ = some (.slice ka k.len kc))
    (ha : AS (Old n₀) w av d.ats) (hfs : FL (Old n₀) w (.slice ka k.len kc) k) :
    Tells Fence.wide n Try.prog 71 #[.pointer (some ⟨Bn, 0, none⟩)] n₀ (EncW n₀) (evT d k) w := by
  intro l J Jx W hW hJ hY h0
  have hlk := like_below (hW.mono hn₀)
  have hcl : ∀ o, W.cell? ⟨Bn, o, none⟩ = w.cell? ⟨Bn, o, none⟩ := fun o => hW.cell (p := ⟨Bn, o, none⟩) hB
  exact steps_in n hn 1000000 1000000000 n₀ l Bn d k av ka kc J Jx (evT d k) W (Nat.le_refl _) (Nat.le_refl _) hk hks (Nat.le_trans hn₀ hW.size) hJ hY h0 ⟨(hcl 0).trans hc.1, (hcl 1).trans hc.2.1, (hcl 2).trans hc.2.2.1, (hcl 3).trans hc.2.2.2.1, (hcl 4).trans hc.2.2.2.2⟩ rfl (ha.like hlk) (hfs.like hlk)

theorem steps_call (n : Nat) (d : Nd) (av kv : Value) (w : World) (h : ∃ a b c, av = .slice a b c) (h2 : ∃ a b c, kv = .slice a b c) :
    CallsIn Fence.wide n Try.prog 62 #[nodeV d av kv] w fun e w' => e = .returned (.func (.func 71) #[] #[.pointer (some ⟨w.heap.size, 0, none⟩)]) ∧ w' = w.alloc (.cells #[.int .i64 d.k, .string d.n, .string d.x, av, kv] 25) := by
  obtain ⟨a1, b1, c1, rfl⟩ := h
  obtain ⟨a2, b2, c2, rfl⟩ := h2
  refine callsIn_of_wp Try.func62 rfl trivial ?_ rfl
  simp only [Try.ntmps62, List.size_toArray, List.length_cons, List.length_nil, Nat.reduceAdd, Nat.reduceSub, Array.replicate_succ, Array.replicate_zero, List.push_toArray, List.append_toArray, List.nil_append, List.cons_append]
  gi_wp2
  go_ret
  exact ⟨rfl, rfl⟩
end Go.Proofs.Ytkojhgagkoeeiaa
