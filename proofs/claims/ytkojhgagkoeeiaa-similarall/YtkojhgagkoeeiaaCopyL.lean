/- A node whose kids are appended one by one, each made by a call. -/
import Derived.Test.YtkojhgagkoeeiaaCopyA
set_option linter.unusedVariables false
namespace Go.Proofs.Ytkojhgagkoeeiaa
open Go.Deep (BT)
open Go.RowKit M

/-- append as one step of a drawn region, and where the new row lies -/
theorem wp_append_at {P : Program} (w : World) {o : Oper} {a : Act} {K : Act → World → Prop} {Q : Exit → Act → World → Prop} (s x : Operand) (t : TypeId)
    (ho : o.op = .call { callee := .builtin .append, args := #[s, x], argTypes := #[t, t] })
    (base : Nat) (e : TypeId) (i : TypeInfo) (z : Value) (size bytes : Nat) (ht : P.underlying t = some (.slice e)) (hi : P.info? e = some i) (hz : i.zero = some z)
    (hsize : i.size = size) (hby : i.bytes = bytes) (hzs : z.cells.size = size) (hsz : 0 < size)
    (v : Value) (n : Nat) (xs : List Value) (hs : a.eval s = v) (hown : w.ownsRow base e size v n xs)
    (ad : Addr) (m c : Nat) (news : List Value) (hx : a.eval x = .slice (some ad) m c) (hl : news.length = m * size) (hnews : ∀ j u, news[j]? = some u → w.cell? (ad.add j) = some u) (h1 : ∀ u ∈ news, u.oneCell' = true)
    (h63 : n + m ≤ maxLen) (hbytes : (n + m) * bytes ≤ 140737488355328) (hbase : base ≤ w.heap.size)
    (h : ∀ v' w', w'.ownsRow base e size v' (n + m) (xs ++ news) → w.grownBy w' v.ownBlock → (v'.ownBlock = v.ownBlock ∨ v'.ownBlock = some w.heap.size) → K (a.put o.dst v') w') : o.wp P a w K Q := by
  obtain ⟨v', w', hr, h2, h3, _, h5⟩ := run_append_own_at (P := P) w base t o.type e i z size bytes ht hi hz hsize hby hzs hsz v n xs hown ad m c news hl hnews h1 h63 hbytes hbase
  unfold Oper.wp execOp
  simp only [ho, resolve, invoke, builtin, Sem.run_bind, Sem.run_pure, Result.andThen_ok, List.map_toArray, List.map_cons, List.map_nil, hs, hx, hr]
  exact h v' w' h2 h3 h5

theorem AS.inn {S : Nat → Prop} {w : World} {v : Value} {l : List (ByteArray × ByteArray)} (h : AS S w v l) : AS (fun b => S b ∧ b < w.heap.size) w v l := by
  obtain ⟨a, cap, e, h1, h2, h3⟩ := h
  refine ⟨a, cap, e, h1, h2, ?_⟩
  rcases h3 with h3 | ⟨b, o, ea, hS, hc⟩
  · exact .inl h3
  · by_cases h0 : l = []
    · exact .inl h0
    · exact .inr ⟨b, o, ea, ⟨hS, World.block_lt_of_cell? w _ (hc 0 (List.length_pos_iff.2 h0)).1⟩, hc⟩
theorem FAt.inn {S : Nat → Prop} {w : World} : ∀ (f : M.F) (b o : Nat), FAt S w f b o → FAt (fun b => S b ∧ b < w.heap.size) w f b o
  | .nil, _, _, _ => trivial
  | .node xb xo d k r, b, o, hf => by
    obtain ⟨⟨av, ka, kc, c0, c1, c2, c3, c4, ha, h1, h2, hk⟩, hr⟩ := hf
    refine ⟨⟨av, ka, kc, c0, c1, c2, c3, c4, ha.inn, h1, h2, ?_⟩, FAt.inn r b (o + 5) hr⟩
    rcases hk with hk | ⟨b', o', e, hS', hk⟩
    · exact .inl hk
    · by_cases h0 : k.len = 0
      · exact .inl h0
      · refine .inr ⟨b', o', e, ⟨hS', ?_⟩, FAt.inn k b' o' hk⟩
        cases k with
        | nil => exact absurd rfl h0
        | node yb yo d2 k2 r2 =>
          obtain ⟨⟨_, _, _, e0, _⟩, _⟩ := hk
          exact World.block_lt_of_cell? w _ e0
theorem FL.inn {S : Nat → Prop} {w : World} {v : Value} {f : M.F} (h : FL S w v f) : FL (fun b => S b ∧ b < w.heap.size) w v f := by
  obtain ⟨a, cap, e, h1, h2, h3⟩ := h
  refine ⟨a, cap, e, h1, h2, ?_⟩
  rcases h3 with h3 | ⟨b, o, ea, hS, hc⟩
  · exact .inl h3
  · by_cases h0 : f.len = 0
    · exact .inl h0
    · refine .inr ⟨b, o, ea, ⟨hS, ?_⟩, FAt.inn f b o hc⟩
      cases f with
      | nil => exact absurd rfl h0
      | node yb yo d2 k2 r2 =>
        obtain ⟨⟨_, _, _, e0, _⟩, _⟩ := hc
        exact World.block_lt_of_cell? w _ e0

/-- a list of trees is the first ones of a forest, and rest is left -/
def MatP : List Nw → M.F → M.F → Prop
  | [], f, rest => f = rest
  | r :: rs, .node _ _ d k f, rest => r.d = d ∧ r.k = k ∧ MatP rs f rest
  | _ :: _, .nil, _ => False
theorem MatP.snoc : ∀ (rs : List Nw) (f : M.F) {xb xo : Nat} {d : Nd} {k r : M.F} (av kv : Value), MatP rs f (.node xb xo d k r) → MatP (rs ++ [⟨d, k, av, kv⟩]) f r
  | [], f, _, _, _, _, _, _, _, h => by cases h; exact ⟨rfl, rfl, rfl⟩
  | x :: rs, .nil, _, _, _, _, _, _, _, h => h.elim
  | x :: rs, .node _ _ _ _ f, _, _, _, _, _, av, kv, h => ⟨h.1, h.2.1, MatP.snoc rs f av kv h.2.2⟩
theorem MatP.len : ∀ (rs : List Nw) (f rest : M.F), MatP rs f rest → f.len = rs.length + rest.len
  | [], f, _, h => by cases h; simp
  | x :: rs, .nil, _, h => h.elim
  | x :: rs, .node _ _ _ _ f, rest, h => by have := MatP.len rs f rest h.2.2; simp only [BT.len, List.length_cons]; omega
theorem MatP.self : ∀ rs : List Nw, MatP rs (forF rs) .nil
  | [] => rfl
  | r :: rs => ⟨rfl, rfl, MatP.self rs⟩
theorem FAt.mat {S : Nat → Prop} {w : World} : ∀ (rs : List Nw) (f : M.F) (b o : Nat), MatP rs f .nil → FAt S w (forF rs) b o → FAt S w f b o
  | [], f, _, _, h, _ => by cases h; trivial
  | x :: rs, .nil, _, _, h, _ => h.elim
  | x :: rs, .node _ _ _ _ f, b, o, h, hf => by
    obtain ⟨rfl, rfl, h3⟩ := h
    exact ⟨hf.1, FAt.mat rs f b (o + 5) h3 hf.2⟩
theorem FL.mat {S : Nat → Prop} {w : World} {v : Value} {rs : List Nw} {f : M.F} (h : MatP rs f .nil) (hf : FL S w v (forF rs)) : FL S w v f := by
  obtain ⟨a, cap, e, h1, h2, h3⟩ := hf
  have hl : f.len = (forF rs).len := by rw [MatP.len rs f _ h, forF_len]; rfl
  refine ⟨a, cap, by rw [hl]; exact e, by rw [hl]; exact h1, h2, ?_⟩
  rw [hl]
  rcases h3 with h3 | ⟨b, o, ea, hS, hc⟩
  · exact .inl h3
  · exact .inr ⟨b, o, ea, hS, FAt.mat rs f b o h hc⟩

/-- a node in cells X whose kids so far are rs, in memory from N on -/
structure RowAt (N X : Nat) (wr : World) (d : Nd) (av v : Value) (rs : List Nw) : Prop where
  five : Five wr X (.int .i64 d.k) (.string d.n) (.string d.x) av v
  own : wr.ownsRow N 25 5 v rs.length (rowF rs)
  all : AllIn (fun b => N ≤ b ∧ b < wr.heap.size ∧ some b ≠ v.ownBlock) wr rs
  lt : X < N
  size : N ≤ wr.heap.size
theorem RowAt.blk {N X : Nat} {wr : World} {d : Nd} {av v : Value} {rs : List Nw} (h : RowAt N X wr d av v rs) : ∀ b, some b = v.ownBlock → N ≤ b ∧ b < wr.heap.size := fun b hb => by
  rcases h.own.2 with ⟨rfl, _⟩ | ⟨g, cap, cur, rfl, hg, hh, _⟩
  · cases hb
  · have : b = g := Option.some.inj hb
    subst this
    exact ⟨hg, (Array.getElem?_eq_some_iff.1 hh).1⟩
theorem RowAt.out {N X : Nat} {wr : World} {d : Nd} {av v : Value} {rs : List Nw} (h : RowAt N X wr d av v rs) : FL (fun b => N ≤ b ∧ b < wr.heap.size) wr v (forF rs) := by
  have ha : AllIn (fun b => N ≤ b ∧ b < wr.heap.size) wr rs := h.all.mono (fun b hb => ⟨hb.1, hb.2.1⟩)
  rcases h.own.2 with ⟨rfl, h0⟩ | ⟨g, cap, cur, rfl, hg, hh, hc1, hc2, hs, ht⟩
  · rw [List.eq_nil_of_length_eq_zero h0]; exact FL.nothing
  · refine ⟨some ⟨g, 0, none⟩, cap, by rw [forF_len], by rw [forF_len]; exact hc1, hc2, .inr ⟨g, 0, rfl, ⟨hg, (Array.getElem?_eq_some_iff.1 hh).1⟩, ?_⟩⟩
    have := own_FAt rs (h.own.cells rfl) ha [] rs rfl
    simpa using this
theorem RowAt.other {N X : Nat} {wr w2 w3 : World} {d : Nd} {av v v' : Value} {rs : List Nw} {o : Obj} (h : RowAt N X wr d av v rs) (hs : wr.heap.size ≤ w2.heap.size)
    (hgrow : (w2.alloc o).grownBy w3 v.ownBlock) : ∀ b, b < N → b ≠ X → (w3.setCell ⟨X, 4, none⟩ v').heap[b]? = w2.heap[b]? := fun b hb hX => by
  have hsz := h.size
  rw [Below.heap_setCell _ _ _ _ hX, hgrow.block b (by simp; omega) (fun e => by have := (h.blk b e).1; omega), Below.heap_alloc _ _ _ (by omega)]
theorem RowAt.step {N X : Nat} {wr w2 w3 : World} {d : Nd} {av v v' : Value} {rs : List Nw} {r : Nw} {o : Obj} (h : RowAt N X wr d av v rs) (hs : wr.heap.size ≤ w2.heap.size)
    (hk : ∀ b, (b = X ∨ N ≤ b) → b < wr.heap.size → w2.heap[b]? = wr.heap[b]?) (hA : AS (fun b => wr.heap.size ≤ b) w2 r.av r.d.ats) (hF : FL (fun b => wr.heap.size ≤ b) w2 r.kv r.k)
    (hown : w3.ownsRow N 25 5 v' (rs.length + 1) (rowF rs ++ cells5 r)) (hgrow : (w2.alloc o).grownBy w3 v.ownBlock) (hat : v'.ownBlock = v.ownBlock ∨ v'.ownBlock = some (w2.alloc o).heap.size) :
    RowAt N X (w3.setCell ⟨X, 4, none⟩ v') d av v' (rs ++ [r]) := by
  have hsz := h.size
  have hlt := h.lt
  have hsize3 : w2.heap.size + 1 ≤ w3.heap.size := by have := hgrow.size; simpa using this
  have hset : (w3.setCell ⟨X, 4, none⟩ v').heap.size = w3.heap.size := by simp [World.setCell]
  have e3 : ∀ b, b < w2.heap.size → some b ≠ v.ownBlock → w3.heap[b]? = w2.heap[b]? := fun b hb hn => (hgrow.block b (by simp; omega) hn).trans (Below.heap_alloc _ _ _ hb)
  have hX3 : w3.heap[X]? = wr.heap[X]? := (e3 X (by omega) (fun e => by have := (h.blk X e).1; omega)).trans (hk X (.inl rfl) (by omega))
  refine ⟨(h.five.same hX3).put4 v', ?_, ?_, hlt, by rw [hset]; omega⟩
  · rw [List.length_append, List.length_singleton, rowF_snoc]
    exact ownsRow_setCell_below hown (by show X < N; exact hlt) _
  · have hne : ∀ b, b < w2.heap.size → some b ≠ v.ownBlock → some b ≠ v'.ownBlock := fun b hb hn e => by
      rcases hat with hat | hat
      · exact hn (e.trans hat)
      · rw [hat] at e
        have := Option.some.inj e
        simp at this
        omega
    have hold : Like (fun b => N ≤ b ∧ b < wr.heap.size ∧ some b ≠ v.ownBlock) wr (w3.setCell ⟨X, 4, none⟩ v') := fun b hb hz => by
      rw [Below.heap_setCell _ _ _ _ (by show b ≠ X; omega), e3 b (by omega) hb.2.2, hk b (.inr hb.1) hb.2.1]
    have hnew : Like (fun b => wr.heap.size ≤ b ∧ b < w2.heap.size) w2 (w3.setCell ⟨X, 4, none⟩ v') := fun b hb hz => by
      rw [Below.heap_setCell _ _ _ _ (by show b ≠ X; omega), e3 b hz (fun e => by have := (h.blk b e).2; omega)]
    have m1 : ∀ b, (N ≤ b ∧ b < wr.heap.size ∧ some b ≠ v.ownBlock) → N ≤ b ∧ b < (w3.setCell ⟨X, 4, none⟩ v').heap.size ∧ some b ≠ v'.ownBlock := fun b hb => ⟨hb.1, by rw [hset]; omega, hne b (by omega) hb.2.2⟩
    have m2 : ∀ b, (wr.heap.size ≤ b ∧ b < w2.heap.size) → N ≤ b ∧ b < (w3.setCell ⟨X, 4, none⟩ v').heap.size ∧ some b ≠ v'.ownBlock := fun b hb => ⟨by omega, by rw [hset]; omega, hne b hb.2 (fun e => by have := (h.blk b e).2; omega)⟩
    exact ((h.all.like hold).mono m1).snoc ((hA.inn.like hnew).mono m2) ((hF.inn.like hnew).mono m2)
end Go.Proofs.Ytkojhgagkoeeiaa
