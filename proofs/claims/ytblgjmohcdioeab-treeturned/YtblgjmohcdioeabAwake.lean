/- The document's example holds: awake answers true. -/
import Derived.Test.YtblgjmohcdioeabCheck
set_option linter.unusedVariables false
namespace Go.Proofs.Ytblgjmohcdioeab
open Go.Deep (BT)
open Go.RowKit M

theorem AS.old {n : Nat} {w w0 : World} {v : Value} {l : List (ByteArray × ByteArray)} (h : AS (Old n) w0 v l) (hb : Below n w0 w) (hn : n ≤ w.heap.size) : AS (Old w.heap.size) w v l :=
  (h.like (like_below hb)).mono (fun b (hb : b < n) => (by show b < w.heap.size; omega))
theorem FL.old {n : Nat} {w w0 : World} {v : Value} {f : M.F} (h : FL (Old n) w0 v f) (hb : Below n w0 w) (hn : n ≤ w.heap.size) : FL (Old w.heap.size) w v f :=
  (h.like (like_below hb)).mono (fun b (hb : b < n) => (by show b < w.heap.size; omega))

/-- a tree that lies in memory as it was at some time, up to block n -/
structure Lies (n : Nat) (w : World) (d : Nd) (k : M.F) (av kv : Value) : Prop where
  a : AS (Old n) w av d.ats
  f : FL (Old n) w kv k
theorem Lies.below {n : Nat} {w w' : World} {d : Nd} {k : M.F} {av kv : Value} (h : Lies n w d k av kv) (hb : Below n w w') : Lies n w' d k av kv := ⟨h.a.like (like_below hb), h.f.like (like_below hb)⟩
theorem Lies.here {n : Nat} {w : World} {d : Nd} {k : M.F} {av kv : Value} (h : Lies n w d k av kv) (hn : n ≤ w.heap.size) : Lies w.heap.size w d k av kv :=
  ⟨h.a.mono (fun b (hb : b < n) => (by show b < w.heap.size; omega)), h.f.mono (fun b (hb : b < n) => (by show b < w.heap.size; omega))⟩

theorem check_at {n : Nat} {w : World} {d : Nd} {k : M.F} {av kv : Value} (r : Bool) (hr : Fact (treeOK d k = r)) (hk : k.depth + 2 ≤ 1000000) (h : Lies n w d k av kv) (hn : n ≤ w.heap.size) :
    Calls Try.prog 15 #[nodeV d av kv] w fun e w' => e = .returned (.bool r) ∧ Below w.heap.size w w' := by
  rw [← hr.out]; exact check_any d k av kv w (h.here hn).a (h.here hn).f hk
theorem size_at {n : Nat} {w : World} {d : Nd} {k : M.F} {av kv : Value} (r : Nat) (hr : Fact (k.size + 1 = r)) (hk : k.depth + 2 ≤ 1000000) (hs : k.size ≤ 1000000000) (h : Lies n w d k av kv) (hn : n ≤ w.heap.size) :
    Calls Try.prog 12 #[nodeV d av kv] w fun e w' => e = .returned (.int .i64 r) ∧ Below w.heap.size w w' := by
  rw [← hr.out]; exact size_any d k av kv w (h.here hn).a (h.here hn).f hk hs
theorem depth_at {n : Nat} {w : World} {d : Nd} {k : M.F} {av kv : Value} (r : Nat) (hr : Fact (k.depth + 1 = r)) (hk : k.depth + 2 ≤ 1000000) (h : Lies n w d k av kv) (hn : n ≤ w.heap.size) :
    Calls Try.prog 16 #[nodeV d av kv] w fun e w' => e = .returned (.int .i64 r) ∧ Below w.heap.size w w' := by
  rw [← hr.out]; exact depth_any d k av kv w (h.here hn).a (h.here hn).f hk

theorem bcell {W w1 : World} (hb : Below W.heap.size W w1) : (∀ b o, b < W.heap.size → w1.cell? ⟨b, o, none⟩ = W.cell? ⟨b, o, none⟩) ∧ (∀ b o, b < W.heap.size → w1.frozen? ⟨b, o, none⟩ = W.frozen? ⟨b, o, none⟩) :=
  ⟨fun b o h => hb.cell (p := ⟨b, o, none⟩) h, fun b o h => hb.frozen (p := ⟨b, o, none⟩) h⟩
theorem AS.nothing {S : Nat → Prop} {w : World} : AS S w (.slice none 0 0) [] := ⟨none, 0, rfl, Nat.le_refl _, by unfold maxLen; omega, .inl rfl⟩
theorem FL.nothing {S : Nat → Prop} {w : World} : FL S w (.slice none 0 0) .nil := FL.empty (by unfold maxLen; omega)

abbrev exKid : Nd := ⟨3, ⟨#[]⟩, ⟨#[97]⟩, []⟩
abbrev exRoot : Nd := ⟨1, ⟨#[]⟩, ⟨#[]⟩, []⟩
theorem ex1 : treeOK exRoot (.cons exKid .nil .nil) = true := by kernel_rfl
theorem ex2 : treeOK exKid .nil = false := by kernel_rfl

set_option maxRecDepth 20000 in
set_option maxHeartbeats 1000000 in
theorem awake_true (w : World) : Calls Try.prog 7 #[] w fun e w' => e = .returned (.bool true) ∧ Below w.heap.size w w' := by
  have E1 : Fact (treeOK exRoot (.cons exKid .nil .nil) = true) := ⟨ex1⟩
  have E2 : Fact (treeOK exKid .nil = false) := ⟨ex2⟩
  have E3 : Fact ((M.F.cons exKid .nil .nil).size + 1 = 2) := ⟨rfl⟩
  have E4 : Fact ((M.F.cons exKid .nil .nil).depth + 1 = 2) := ⟨rfl⟩
  have tok1 : True := trivial
  obtain ⟨W0, hW0⟩ : ∃ W0, (w.alloc (.cells #[.int .i64 3, .string ⟨#[]⟩, .string ⟨#[97]⟩, .slice none 0 0, .slice none 0 0] 26)).alloc (.cells #[.int .i64 1, .string ⟨#[]⟩, .string ⟨#[]⟩, .slice none 0 0, .slice (some ⟨w.heap.size, 0, none⟩) 1 1] 26) = W0 := ⟨_, rfl⟩
  have hz : W0.heap.size = w.heap.size + 2 := by rw [← hW0]; simp
  have hB : Below w.heap.size w W0 := by rw [← hW0]; exact ((Below.refl _ w).alloc (Nat.le_refl _) _).alloc (by simp) _
  have hk : ∀ i v, (#[.int .i64 3, .string ⟨#[]⟩, .string ⟨#[97]⟩, .slice none 0 0, .slice none 0 0] : Array Value)[i]? = some v → W0.cell? ⟨w.heap.size, i, none⟩ = some v := fun i v h => by
    rw [← hW0, World.cell?_alloc_lt _ _ _ (by simp)]; exact (World.cell?_alloc_new w _ _ i).trans h
  have hr : ∀ i v, (#[.int .i64 1, .string ⟨#[]⟩, .string ⟨#[]⟩, .slice none 0 0, .slice (some ⟨w.heap.size, 0, none⟩) 1 1] : Array Value)[i]? = some v → W0.cell? ⟨w.heap.size + 1, i, none⟩ = some v := fun i v h => by
    have := World.cell?_alloc_new (w.alloc (.cells #[.int .i64 3, .string ⟨#[]⟩, .string ⟨#[97]⟩, .slice none 0 0, .slice none 0 0] 26)) #[.int .i64 1, .string ⟨#[]⟩, .string ⟨#[]⟩, .slice none 0 0, .slice (some ⟨w.heap.size, 0, none⟩) 1 1] 26 i
    rw [hW0, World.size_alloc] at this
    exact this.trans h
  have HL : Fact (Lies W0.heap.size W0 exRoot (.cons exKid .nil .nil) (.slice none 0 0) (.slice (some ⟨w.heap.size, 0, none⟩) 1 1)) := ⟨AS.nothing, some ⟨w.heap.size, 0, none⟩, 1, rfl, Nat.le_refl _, by unfold maxLen; omega, .inr ⟨w.heap.size, 0, rfl, by show w.heap.size < _; omega, ⟨.slice none 0 0, none, 0, hk 0 _ rfl, hk 1 _ rfl, hk 2 _ rfl, hk 3 _ rfl, hk 4 _ rfl, AS.nothing, Nat.le_refl _, by unfold maxLen; omega, .inl rfl⟩, trivial⟩⟩
  have HK : ∀ n w', Fact (Lies n w' exKid .nil (.slice none 0 0) (.slice none 0 0)) := fun n w' => ⟨AS.nothing, FL.nothing⟩
  have k0 := hk 0 _ rfl
  have k1 := hk 1 _ rfl
  have k2 := hk 2 _ rfl
  have k3 := hk 3 _ rfl
  have k4 := hk 4 _ rfl
  have r0 := hr 0 _ rfl
  have r1 := hr 1 _ rfl
  have r2 := hr 2 _ rfl
  have r3 := hr 3 _ rfl
  have r4 := hr 4 _ rfl
  clear hk hr
  have HB := Fact.mk hB
  clear hB
  go_enter Try.func7, Try.ntmps7
  go_wp2_with (first
    | (go_at_call 15; have _t := tok1; refine (check_at true E1 (by decide) HL.out (Nat.le_refl _)).mono ?_; rintro e w1 ⟨rfl, hb1⟩; clear tok1 _t; obtain ⟨hc1, hf1⟩ := bcell hb1; have HB1 := Fact.mk hb1; clear hb1)
    | (go_at_call 12; refine (size_at 2 E3 (by decide) (by decide) (HL.out.below HB1.out) HB1.out.size).mono ?_; rintro e w2 ⟨rfl, hb2⟩; have HB2 := Fact.mk (HB1.out.trans (hb2.mono HB1.out.size)); obtain ⟨hc2, hf2⟩ := bcell HB2.out; clear hb2)
    | (go_at_call 16; refine (depth_at 2 E4 (by decide) (HL.out.below HB2.out) HB2.out.size).mono ?_; rintro e w3 ⟨rfl, hb3⟩; have HB3 := Fact.mk (HB2.out.trans (hb3.mono HB2.out.size)); obtain ⟨hc3, hf3⟩ := bcell HB3.out; clear hb3)
    | (go_at_call 15; refine (check_at false E2 (by decide) (HK W0.heap.size _).out HB3.out.size).mono ?_; rintro e w4 ⟨rfl, hb4⟩; have HB4 := Fact.mk (HB3.out.trans (hb4.mono HB3.out.size)); clear hb4))
  go_ret
  exact ⟨rfl, HB.out.trans (HB4.out.mono (by omega))⟩
end Go.Proofs.Ytblgjmohcdioeab
