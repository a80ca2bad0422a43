/- An evaluator for closed runs: it is sound. -/
import Derived.Test.YtfcmgkakmaclcaaEvU
set_option linter.unusedSimpArgs false
set_option linter.unusedVariables false
set_option linter.unusedSectionVars false
namespace Go.Ev
variable [Inhabited Env]
def cnt (listed : Array Bool) : Nat → Nat
  | 0 => 0
  | n + 1 => cnt listed n + (if listed.getD n false = true then 0 else 1)
theorem cnt_same {listed : Array Bool} {i : Nat} : ∀ {n : Nat}, n ≤ i → cnt (listed.setIfInBounds i true) n = cnt listed n
  | 0, _ => rfl
  | n + 1, h => by
    unfold cnt
    rw [cnt_same (by omega), set_other (by omega)]
theorem cnt_set {listed : Array Bool} {i : Nat} (hi : i < listed.size) (hu : listed.getD i false = false) : ∀ {n : Nat}, i < n → cnt (listed.setIfInBounds i true) n + 1 = cnt listed n
  | 0, h => by omega
  | n + 1, h => by
    unfold cnt
    by_cases e : i = n
    · subst e
      rw [cnt_same (Nat.le_refl _), set_self hi, hu]
      simp
    · have := cnt_set hi hu (n := n) (by omega)
      rw [set_other (fun h => e h.symm)]
      omega
theorem cnt_zero {listed : Array Bool} : ∀ {n : Nat}, cnt listed n = 0 → ∀ j, j < n → listed.getD j false = true
  | 0, _, j, hj => by omega
  | n + 1, h, j, hj => by
    unfold cnt at h
    by_cases e : j = n
    · subst e
      by_cases hl : listed.getD j false = true
      · exact hl
      · rw [if_neg hl] at h; omega
    · exact cnt_zero (n := n) (by omega) j (by omega)
theorem cnt_rep {m : Nat} : ∀ {n : Nat}, cnt (Array.replicate m false) n = n
  | 0 => rfl
  | n + 1 => by
    unfold cnt
    rw [cnt_rep]
    have : (Array.replicate m false).getD n false = false := by
      rw [Array.getD_eq_getD_getElem?, Array.getElem?_replicate]
      split <;> rfl
    rw [this]; simp
section
variable {P : Program} {orc : Orc} {rec : Rec} {ops : Array Oper} {bs : List Nat} {n : Nat} {tmF : Tm} {HF : Hp} {s0 : Sg} {H0 : Hp} {w0 : World}
theorem inv_end {listed : Array Bool} {s : Sg} {arr : Array Value} {w : World} {es' : List Nat} {past : Nat} {tmg : Tm} {Hg : Hp} {pend : List (Nat × Nat)} (inv : Inv P orc rec ops.toList bs n tmF HF s0 H0 w0 listed s arr w es' past tmg Hg pend)
    (hall : ∀ j, j < ops.toList.length → listed.getD j false = true) : TmR s n tmF arr ∧ Post P s0 H0 w0 s HF w := by
  have hes : es' = [] := by
    cases es' with
    | nil => rfl
    | cons e es2 =>
      exfalso
      obtain ⟨a, ha⟩ := inv.suf
      obtain ⟨i, o, h1, h2, _⟩ := effL_mem.1 (show e ∈ effL P ops.toList 0 by rw [ha]; simp)
      rw [Nat.zero_add] at h1
      subst h1
      have h3 := hall e (List.getElem?_eq_some_iff.1 h2).1
      have h4 := inv.left e (by simp)
      rw [h3] at h4; cases h4
  obtain ⟨e1, e2⟩ := inv.gap.done hes
  refine ⟨⟨inv.size, fun t => ?_⟩, by rw [← e2]; exact inv.post⟩
  rcases inv.tms t with ⟨j, o, h1, _, h3, _⟩ | h
  · have := hall j (List.getElem?_eq_some_iff.1 h1).1
    rw [this] at h3; cases h3
  · rw [← e1]; exact h
theorem any_run (hO : OrcS P orc) (hS : Snd P rec) (hR0 : R P s0 H0 w0) (htidy : tidyL P ops.toList bs n ops.toList bs 0 = true) (honce : onceOK ops.toList = true) (hchain : chainOK bs (effL P ops.toList 0) = true) (f : FuncId) (k : List Item) (d : List Deferred) (r : Option Nat) (cs : List Frame) :
    ∀ (fuel t : Nat) (listed : Array Bool) (s : Sg) (arr : Array Value) (w : World) (es' : List Nat) (past : Nat) (tmg : Tm) (Hg : Hp) (pend : List (Nat × Nat)), Inv P orc rec ops.toList bs n tmF HF s0 H0 w0 listed s arr w es' past tmg Hg pend → cnt listed ops.toList.length ≤ fuel →
    ∃ s1 arr1 w1, Steps P (lone (mk f arr (.inRegion ops (Region.linearise.go .any ops fuel t listed []) :: k) d r) cs w) (lone (mk f arr1 (.inRegion ops [] :: k) d r) cs w1) ∧ TmR s1 n tmF arr1 ∧ Post P s0 H0 w0 s1 HF w1 := by
  intro fuel
  induction fuel with
  | zero =>
    intro t listed s arr w es' past tmg Hg pend inv hc
    obtain ⟨h1, h2⟩ := inv_end inv (cnt_zero (by omega))
    exact ⟨s, arr, w, .refl _ _, h1, h2⟩
  | succ fuel ih =>
    intro t listed s arr w es' past tmg Hg pend inv hc
    simp only [Region.linearise.go]
    change ∃ s1 arr1 w1, Steps P (lone (mk f arr (.inRegion ops (match (Region.ready .any ops listed)[t % (Region.ready .any ops listed).length]? with
      | some i => Region.linearise.go .any ops fuel (t / (Region.ready .any ops listed).length) (listed.setIfInBounds i true) [i]
      | none => [].reverse) :: k) d r) cs w) (lone (mk f arr1 (.inRegion ops [] :: k) d r) cs w1) ∧ TmR s1 n tmF arr1 ∧ Post P s0 H0 w0 s1 HF w1
    cases hi : (Region.ready .any ops listed)[t % (Region.ready .any ops listed).length]? with
    | none =>
      have hnil : Region.ready .any ops listed = [] := by
        cases hr : Region.ready .any ops listed with
        | nil => rfl
        | cons x xs =>
          rw [hr] at hi
          have hlt : t % (x :: xs).length < (x :: xs).length := Nat.mod_lt _ (by simp)
          rw [List.getElem?_eq_getElem hlt] at hi
          cases hi
      have hall : ∀ j, j < ops.toList.length → listed.getD j false = true := by
        intro j
        induction j using Nat.strongRecOn with
        | _ j ihj =>
          intro hj
          cases hl : listed.getD j false with
          | true => rfl
          | false =>
            exfalso
            have ho : ops.toList[j]? = some ops.toList[j] := List.getElem?_eq_getElem hj
            obtain ⟨b, hb, hty⟩ := tidyL_mem htidy j _ ho
            rw [Nat.zero_add] at hty
            unfold tidyO at hty
            obtain ⟨hty, t5⟩ := and2 hty
            obtain ⟨hty, t4⟩ := and2 hty
            obtain ⟨t1, t2, t3⟩ := and3 hty
            have hmem : j ∈ Region.ready .any ops listed := mem_ready.2 ⟨by
              have : j < listed.size := by rw [inv.lsize]; exact hj
              simpa [this] using hl, ops.toList[j], by simp, fun e he hbd => by
              have hlt := backE_mem t2 (by simpa using he) hbd
              exact ihj e.on hlt (by omega)⟩
            rw [hnil] at hmem
            cases hmem
      obtain ⟨h1, h2⟩ := inv_end inv hall
      exact ⟨s, arr, w, .refl _ _, h1, h2⟩
    | some i =>
      have hmem := List.mem_of_getElem? hi
      obtain ⟨hun, o, ho0, _⟩ := mem_ready.1 hmem
      have ho : ops.toList[i]? = some o := by simpa using ho0
      have hlt : i < ops.toList.length := (List.getElem?_eq_some_iff.1 ho).1
      have hil : i < listed.size := by rw [inv.lsize]; exact hlt
      have hunf : listed.getD i false = false := by simpa [hil] using hun
      simp only []
      rw [linearise_go_acc, List.reverse_singleton, List.singleton_append]
      obtain ⟨s1, arr1, w1, es1, past1, tm1, H1, pend1, hst, inv1⟩ := inv_step hO hS hR0 htidy honce hchain inv hmem f (Region.linearise.go .any ops fuel (t / (Region.ready .any ops listed).length) (listed.setIfInBounds i true) []) k d r cs
      have hcs := cnt_set hil hunf hlt
      obtain ⟨s2, arr2, w2, h1, h2, h3⟩ := ih (t / (Region.ready .any ops listed).length) _ s1 arr1 w1 es1 past1 tm1 H1 pend1 inv1 (by omega)
      exact ⟨s2, arr2, w2, hst.trans h1, h2, h3⟩
end
theorem drawn_sound {P : Program} {orc : Orc} {rec : Rec} (hO : OrcS P orc) (hS : Snd P rec) : SndD P orc rec := by
  intro ops n tm H tm' H' he s w arr hR ht t f k d r cs
  unfold drawn drawn1 drawn2 at he
  split at he
  · rename_i hc
    obtain ⟨c1, c2, c3⟩ := and3 hc
    obtain ⟨tmg, Hg, pend, hq, hgap⟩ := stages_gap he
    have hk : ∀ j ∈ nowL P (bitsOf (effL P ops.toList 0)) none ops.toList (beforeL ops.toList []) 0, ∀ o, ops.toList[j]? = some o → kind P o.op ≠ 3 := by
      intro j hj o ho
      obtain ⟨j2, o2, c, e1, e2, _, e4, _⟩ := nowL_mem hj
      rw [Nat.zero_add] at e1
      subst e1
      rw [ho] at e2; cases e2; exact e4
    obtain ⟨g1, g2, g3, g4, q, g5, g6, g7⟩ := quietL_facts hq hk hR.ok
    have hrep : ∀ j, (Array.replicate ops.size false).getD j false = false := fun j => by
      rw [Array.getD_eq_getD_getElem?, Array.getElem?_replicate]
      split <;> rfl
    have inv : Inv P orc rec ops.toList (beforeL ops.toList []) n tm' H' s H w (Array.replicate ops.size false) s arr w (effL P ops.toList 0) 0 tmg Hg pend := by
      refine ⟨hgap, (Post.refl hR).unborn g1 g2 g3, by simp, ?_, fun e _ => hrep e, ?_, ⟨[], rfl⟩, ?_, ht.1, ?_, ?_, ?_⟩
      · intro i b hi; rw [hrep] at hi; cases hi
      · intro i o h1 h2 _; exact effL_mem.2 ⟨i, o, by omega, h1, h2⟩
      · intro i hi; simp at hi
      · intro t2
        by_cases hex : ∃ j ∈ nowL P (bitsOf (effL P ops.toList 0)) none ops.toList (beforeL ops.toList []) 0, ∃ o2, ops.toList[j]? = some o2 ∧ o2.dst = some t2
        · obtain ⟨j, hj, o2, h1, h2⟩ := hex
          exact .inl ⟨j, o2, h1, h2, hrep j, hk j hj o2 h1⟩
        · right
          rw [g4 t2 (fun j hj o2 h1 h2 => hex ⟨j, hj, o2, h1, h2⟩)]
          exact ht.2 t2
      · intro j id hj
        rw [g5, List.nil_append] at hj
        obtain ⟨h1, h2⟩ := g6 (j, id) hj
        refine ⟨h1, h2, fun _ => ?_⟩
        cases e : s id with
        | none => rfl
        | some x => have := hR.dom id x e; simp only at h1; omega
      · rw [g5, List.nil_append]; exact g7
    exact any_run hO hS hR c1 c2 c3 f k d r cs ops.size t _ s arr w _ 0 tmg Hg pend inv (by rw [cnt_rep]; simp)
  · cases he
/-- **The evaluator is sound.** -/
theorem evalF_sound {P : Program} {orc : Orc} (hm : P.follows .mixedOrders = true) (hO : OrcS P orc) : ∀ F, Snd P (evalF P orc F)
  | 0 => fun fn rnd n tm todo ds H v H' he => by cases he
  | F + 1 => stepF_sound hm hO (evalF_sound hm hO F) (drawn_sound hO (evalF_sound hm hO F))
/-- A call, from any heap of the evaluator. -/
theorem call_sound {P : Program} {orc : Orc} (hm : P.follows .mixedOrders = true) (hO : OrcS P orc) {F : Nat} {f : FuncId} {args : List Value} {H : Hp} {v : Value} {H' : Hp} (he : evalCall P orc F f args H = some (v, H')) {s : Sg} {w : World} (hR : R P s H w) {args' : List Value} (ha : VL s args args') :
    Calls P f ⟨args'⟩ w fun e w' => ∃ s' v', e = .returned v' ∧ V s' v v' ∧ Post P s H w s' H' w' := by
  intro cs
  unfold evalCall enterN at he
  split at he
  · rename_i g hg
    unfold enterB at he
    split at he
    · rename_i cd hc
      split at he
      · rename_i hb
        have hb := Nat.le_of_ble_eq_true hb
        have hg2 : P.funcs[f]? = some g := by rw [nthL_eq] at hg; simpa using hg
        obtain ⟨s', v', w', ⟨t, td, g', e1, e2, e3⟩, h2, h3⟩ := evalF_sound hm hO F _ _ _ _ _ _ _ _ _ he s w _ [.code cd] [] none hR (TmR_args ha hb) ⟨_, [], rfl, rfl, rfl⟩ rfl rfl cs
        refine ⟨.returned v', w', gone f t td [], ⟨s', v', rfl, h2, h3⟩, ?_, rfl, rfl, rfl, rfl, g', e1, e2⟩
        rw [enter_mk hg2 hc]
        exact e3
      · cases he
    · cases he
  · cases he
/-- **A closed call: whatever memory it is made in, it says what the evaluator says, and turns nothing that was there.** -/
theorem closed_call {P : Program} {orc : Orc} (hbase : (default : Env).base = none) (hm : P.follows .mixedOrders = true) (hO : OrcS P orc) {F : Nat} {f : FuncId} {v : Value} {H' : Hp} (he : evalCall P orc F f [] ⟨0, []⟩ = some (v, H')) (hv : clo v = true) (w : World) :
    Calls P f #[] w fun e w' => e = .returned v ∧ RowKit.Below w.heap.size w w' := by
  have hR : R P (fun _ => none) ⟨0, []⟩ w := ⟨rfl, fun i x h => (by cases h), fun i o u x h1 h2 h3 => (by cases h3), fun i j o u o' u' x y h1 h2 h3 h4 h5 => (by cases h5), fun x e => by rw [hbase] at e; cases e⟩
  refine (call_sound hm hO he hR (args' := []) rfl).mono ?_
  rintro e w' ⟨s', v', e1, h1, h2⟩
  rw [clo_V hv h1] at e1
  refine ⟨e1, h2.os, h2.tape, h2.output, h2.size, fun k hk => h2.keep k hk ?_⟩
  rintro ⟨i, o, u, x, _, _, h3, _⟩
  cases h3
end Go.Ev
