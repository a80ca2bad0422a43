/- What Size, Depth and Slots answer: how many nodes a tree has, how deep it is, how many attributes. -/
import Derived.Test.YtkojhgagkoeeiaaIter
set_option linter.unusedVariables false
namespace Go.Proofs.Ytkojhgagkoeeiaa
open Go.Deep (BT)
open Go.RowKit Go.Shelf M
attribute [local go_sem] Oper.semAt_some

theorem iter_gives (F : Fence) (n : Nat) (hf : F.fn 58) (hro : F.round = none) (hn : 1 ≤ n) (n₀ Bn : Nat) (d : Nd) (k : M.F) (av : Value) (ka : Option Addr) (kc : Nat) (w : World)
    (hk : k.depth + 2 ≤ 1000000) (hn₀ : n₀ ≤ w.heap.size) (hB : Bn < w.heap.size)
    (hc : w.cell? ⟨Bn, 0, none⟩ = some (.int .i64 d.k) ∧ w.cell? ⟨Bn, 1, none⟩ = some (.string d.n) ∧ w.cell? ⟨Bn, 2, none⟩ = some (.string d.x) ∧ w.cell? ⟨Bn, 3, none⟩ = some av ∧ w.cell? ⟨Bn, 4, none⟩ = some (.slice ka k.len kc))
    (ha : AS (Old n₀) w av d.ats) (hfs : FL (Old n₀) w (.slice ka k.len kc) k) :
    ∃ xs : List Ev, xs.map (·.1) = pre 1 (.cons d k .nil) ∧ (∀ x ∈ xs, IsAt (Old n₀) w x) ∧ Gives F n Try.prog 58 #[.pointer (some ⟨Bn, 0, none⟩)] encs n₀ xs w := by
  obtain ⟨l2, he⟩ := hfs.ev 2
  refine ⟨(⟨1, d, k⟩, av, .slice ka k.len kc) :: l2, ?_, ?_, ?_⟩
  · have := he.fst
    simp [pre, this]
  · intro x hx
    rcases List.mem_cons.1 hx with rfl | hx
    · exact ⟨ha, hfs⟩
    · exact he.is x hx
  · intro l J Jx W hW hJ hJx hY h0
    have hlk := like_below (hW.mono hn₀)
    have hcl : ∀ o, W.cell? ⟨Bn, o, none⟩ = w.cell? ⟨Bn, o, none⟩ := fun o => hW.cell (p := ⟨Bn, o, none⟩) hB
    refine iter_in F n hf hro hn 1000000 n₀ l Bn d k av ka kc J Jx _ W (Nat.le_refl _) hk (Nat.le_trans hn₀ hW.size) hJ hY h0 ⟨(hcl 0).trans hc.1, (hcl 1).trans hc.2.1, (hcl 2).trans hc.2.2.1, (hcl 3).trans hc.2.2.2.1, (hcl 4).trans hc.2.2.2.2⟩ l2 rfl (he.like hlk) (ha.like hlk) (hfs.like hlk)

theorem nodes_in (F : Fence) (n : Nat) (hf : F.fn 47) (hro : F.round = none) (d : Nd) (av kv : Value) (w : World) (h : ∃ a b c, av = .slice a b c) (h2 : ∃ a b c, kv = .slice a b c) :
    CallsIn F n Try.prog 47 #[nodeV d av kv] w fun e w' => e = .returned (.func (.func 58) #[] #[.pointer (some ⟨w.heap.size, 0, none⟩)]) ∧ w' = w.alloc (.cells #[.int .i64 d.k, .string d.n, .string d.x, av, kv] 25) := by
  obtain ⟨a1, b1, c1, rfl⟩ := h
  obtain ⟨a2, b2, c2, rfl⟩ := h2
  refine callsIn_of_wp Try.func47 rfl hf ?_ hro
  simp only [Try.ntmps47, List.size_toArray, List.length_cons, List.length_nil, Nat.reduceAdd, Nat.reduceSub, Array.replicate_succ, Array.replicate_zero, List.push_toArray, List.append_toArray, List.nil_append, List.cons_append]
  gi_wp2
  go_ret
  exact ⟨rfl, rfl⟩

theorem AS.val {S : Nat → Prop} {w : World} {v : Value} {l : List (ByteArray × ByteArray)} (h : AS S w v l) : ∃ a b c, v = .slice a b c := by
  obtain ⟨a, c, e, _⟩ := h
  exact ⟨a, _, c, e⟩
theorem FL.val {S : Nat → Prop} {w : World} {v : Value} {f : M.F} (h : FL S w v f) : ∃ a c, v = .slice a f.len c := by
  obtain ⟨a, c, e, _⟩ := h
  exact ⟨a, c, e⟩

theorem fold2 (t : Array Value) (p q : Tmp) (u v : Value) : (#[p, q].zip #[u, v]).foldl (fun t (x, y) => t.setIfInBounds x y) t = (t.setIfInBounds p u).setIfInBounds q v := by
  simp
theorem box_new (w : World) (c : Array Value) (t : TypeId) (o : Obj) : (∀ i v, c[i]? = some v → ((w.alloc (.cells c t)).alloc o).cell? ⟨w.heap.size, i, none⟩ = some v) ∧ ((w.alloc (.cells c t)).alloc o).frozen? ⟨w.heap.size, 0, none⟩ = false := by
  constructor
  · intro i v h
    rw [World.cell?_alloc_lt _ _ _ (by simp)]
    exact (World.cell?_alloc_new w c t i).trans h
  · have e : ((w.alloc (.cells c t)).alloc o).heap[w.heap.size]? = some (.cells c t) := (Below.heap_alloc _ _ _ (by simp)).trans (World.alloc_heap_new w _)
    simp [World.frozen?, e]

end Go.Proofs.Ytkojhgagkoeeiaa
