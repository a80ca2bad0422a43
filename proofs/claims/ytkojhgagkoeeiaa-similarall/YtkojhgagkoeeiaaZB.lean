/- newSide: a tree's nodes by their numbers, their keys, no partners. -/
import Derived.Test.YtkojhgagkoeeiaaZA
import Derived.Test.YtkojhgagkoeeiaaOrder
import Derived.BigRegion
import Derived.Test.YtkojhgagkoeeiaaCompare
import Derived.Test.YtkojhgagkoeeiaaDeep
import Derived.Deep.DeepCutAuto
import Derived.BigQuiet
import Derived.DeepKeys4
import Derived.WideKeyEntry
import Derived.Maps.OwnRows
import Derived.Maps.Views
import Derived.Maps.AppendAt
import Derived.Deep.RegionHeld3
/- Alike, in plain terms: partners by numbers; which subtrees are the same. -/
section
set_option linter.unusedVariables false
set_option linter.unusedSimpArgs false
namespace Go.Proofs.Ytkojhgagkoeeiaa.M
open Go.Deep (BT)
open Bt (mx)

theorem ca_zero : ∀ l m : List (ByteArray × ByteArray), ca l m = 0 → l = m
  | [], [], _ => rfl
  | [], _ :: _, h => by simp [ca] at h
  | _ :: _, [], h => by simp [ca] at h
  | p :: l, q :: m, h => by
    have h1 := (orI_zero _ _).1 (show orI (cp p q) (ca l m) = 0 from h)
    rw [(cp_zero p q).1 h1.1, ca_zero l m h1.2]
theorem cn_zero {d e : Nd} (h : cn d e = 0) : d = e := by
  obtain ⟨h1, h2⟩ := (orI_zero _ _).1 (show orI _ _ = 0 from h)
  obtain ⟨h3, h4⟩ := (orI_zero _ _).1 h2
  obtain ⟨h5, h6⟩ := (orI_zero _ _).1 h4
  obtain ⟨K, N, X, A⟩ := d
  obtain ⟨K', N', X', A'⟩ := e
  rw [show K = K' from (ci_zero _ _).1 h1, show N = N' from (cs_zero _ _).1 h3, show X = X' from (cs_zero _ _).1 h5, show A = A' from ca_zero _ _ h6]
theorem ci_self (a : Int) : ci a a = 0 := (ci_zero a a).2 rfl
theorem ca_self : ∀ l, ca l l = 0
  | [] => rfl
  | p :: l => by show orI (cp p p) (ca l l) = 0; rw [ca_self, (cp_zero p p).2 rfl]; rfl
theorem cn_self (d : Nd) : cn d d = 0 := by unfold cn; rw [ci_self, (cs_zero _ _).2 rfl, (cs_zero _ _).2 rfl, ca_self]; rfl
/-- lists of trees that are the same have the same numbers -/
theorem cF_same : ∀ f g : F, cF f g = 0 → f.len = g.len ∧ f.size = g.size ∧ f.depth = g.depth ∧ ∀ h, hK h f = hK h g
  | .nil, .nil, _ => ⟨rfl, rfl, rfl, fun _ => rfl⟩
  | .nil, .node _ _ _ _ _, h => by simp [cF] at h
  | .node _ _ _ _ _, .nil, h => by simp [cF] at h
  | .node _ _ d k r, .node _ _ d' k' r', h => by
    obtain ⟨h1, h2⟩ := (orI_zero _ _).1 (show orI _ _ = 0 from h)
    obtain ⟨h3, h4⟩ := (orI_zero _ _).1 h2
    obtain rfl := cn_zero h1
    obtain ⟨a1, a2, a3, a4⟩ := cF_same k k' h3
    obtain ⟨b1, b2, b3, b4⟩ := cF_same r r' h4
    refine ⟨by simp only [BT.len, b1], by simp only [BT.size, a2, b2], by simp only [BT.depth, a3, b3], fun h => ?_⟩
    rw [hK, hK, a1, a4, b4]
theorem cT_same {d d' : Nd} {k k' : F} (h : cT d k d' k' = 0) : hT d k = hT d' k' ∧ k.size = k'.size ∧ k.depth = k'.depth := by
  obtain ⟨h1, h2⟩ := (orI_zero _ _).1 (show orI _ _ = 0 from h)
  obtain rfl := cn_zero h1
  obtain ⟨a1, a2, a3, a4⟩ := cF_same k k' h2
  exact ⟨by unfold hT; rw [a1, a4], a2, a3⟩

/-- Sizes and nodes, in their order: they tell a tree -/
def sigF : F → List (Int × Nd)
  | .nil => []
  | .node _ _ d k r => (((k.size + 1 : Nat) : Int), d) :: (sigF k ++ sigF r)
def sigT (d : Nd) (k : F) : List (Int × Nd) := (((k.size + 1 : Nat) : Int), d) :: sigF k
def sg (l : List Im) : List (Int × Nd) := l.map fun y => (y.z, y.d)
theorem sigF_len : ∀ f : F, (sigF f).length = f.size
  | .nil => rfl
  | .node _ _ d k r => by simp [sigF, BT.size, sigF_len k, sigF_len r]; omega
theorem sg_flatF : ∀ (f : F) (p : Int) (dp pl id : Nat), sg (flatF p dp pl id f) = sigF f
  | .nil, _, _, _, _ => rfl
  | .node _ _ d k r, p, dp, pl, id => by
    have h1 := sg_flatF k id (dp + 1) 0 (id + 1)
    have h2 := sg_flatF r p dp (pl + 1) (id + 1 + k.size)
    unfold sg at h1 h2 ⊢
    rw [flatF, sigF, List.map_cons, List.map_append, h1, h2]
    rfl
theorem sg_flatT (d : Nd) (k : F) : sg (flatT d k) = sigT d k := by
  have h := sg_flatF k 0 1 0 1
  unfold sg at h ⊢
  rw [flatT, List.map_cons, h]
  rfl
theorem sigF_same : ∀ f g : F, sigF f = sigF g → cF f g = 0
  | .nil, .nil, _ => rfl
  | .nil, .node _ _ _ _ _, h => by simp [sigF] at h
  | .node _ _ _ _ _, .nil, h => by simp [sigF] at h
  | .node _ _ d k r, .node _ _ d' k' r', h => by
    rw [sigF, sigF] at h
    obtain ⟨h1, h2⟩ := List.cons.inj h
    have hz : k.size = k'.size := by have := (Prod.mk.inj h1).1; omega
    have hd : d = d' := (Prod.mk.inj h1).2
    obtain ⟨h3, h4⟩ := List.append_inj h2 (by rw [sigF_len, sigF_len, hz])
    show orI (cn d d') (orI (cF k k') (cF r r')) = 0
    rw [hd, cn_self, sigF_same k k' h3, sigF_same r r' h4]
    rfl
theorem sigF_of : ∀ f g : F, cF f g = 0 → sigF f = sigF g
  | .nil, .nil, _ => rfl
  | .nil, .node _ _ _ _ _, h => by simp [cF] at h
  | .node _ _ _ _ _, .nil, h => by simp [cF] at h
  | .node _ _ d k r, .node _ _ d' k' r', h => by
    obtain ⟨h1, h2⟩ := (orI_zero _ _).1 (show orI _ _ = 0 from h)
    obtain ⟨h3, h4⟩ := (orI_zero _ _).1 h2
    obtain rfl := cn_zero h1
    rw [sigF, sigF, sigF_of k k' h3, sigF_of r r' h4, (cF_same k k' h3).2.1]
theorem sigT_iff (d d' : Nd) (k k' : F) : cT d k d' k' = 0 ↔ sigT d k = sigT d' k' := by
  constructor
  · intro h
    obtain ⟨h1, h2⟩ := (orI_zero _ _).1 (show orI _ _ = 0 from h)
    obtain rfl := cn_zero h1
    unfold sigT
    rw [sigF_of k k' h2, (cF_same k k' h2).2.1]
  · intro h
    obtain ⟨h1, h2⟩ := List.cons.inj h
    have hd : d = d' := (Prod.mk.inj h1).2
    show orI _ _ = 0
    rw [hd, cn_self, sigF_same k k' h2]
    rfl
/-- a node and all in it stand together -/
theorem sig_seg : ∀ (f : F) (i : Nat) (q : Nd × F), (subsF f)[i]? = some q → ((sigF f).drop i).take (q.2.size + 1) = sigT q.1 q.2
  | .nil, i, q, h => by simp [subsF] at h
  | .node _ _ d k r, 0, q, h => by
    rw [subsF] at h
    simp at h
    subst h
    rw [sigF, sigT, List.drop_zero, List.take_succ_cons, List.take_append_of_le_length (by rw [sigF_len]; exact Nat.le_refl _), List.take_of_length_le (by rw [sigF_len]; exact Nat.le_refl _)]
  | .node _ _ d k r, i + 1, q, h => by
    rw [subsF, List.getElem?_cons_succ, List.getElem?_append, subsF_len] at h
    rw [sigF, List.drop_succ_cons]
    split at h
    · rename_i hi
      have ih := sig_seg k i q h
      have hl := congrArg List.length ih
      rw [List.length_take, List.length_drop, sigF_len, sigT, List.length_cons, sigF_len] at hl
      rw [List.drop_append_of_le_length (by rw [sigF_len]; omega), List.take_append_of_le_length (by rw [List.length_drop, sigF_len]; omega)]
      exact ih
    · rename_i hi
      have ih := sig_seg r (i - k.size) q h
      rw [List.drop_append, List.drop_eq_nil_of_le (by rw [sigF_len]; omega), List.nil_append, sigF_len]
      exact ih
theorem sig_segT (d : Nd) (k : F) (i : Nat) (q : Nd × F) (h : (subsT d k)[i]? = some q) : ((sigT d k).drop i).take (q.2.size + 1) = sigT q.1 q.2 := by
  have e : sigT d k = sigF (.node 0 0 d k .nil) := by simp [sigF, sigT]
  rw [e]
  exact sig_seg _ i q (by rw [subsT] at h; simpa [subsF] using h)
/-- what a node's number, Size, Height are -/
theorem flat_subs : ∀ (f : F) (p : Int) (dp pl id : Nat), (flatF p dp pl id f).map (fun y => (y.d, y.z, y.h)) = (subsF f).map (fun q => (q.1, ((q.2.size + 1 : Nat) : Int), ((q.2.depth + 1 : Nat) : Int)))
  | .nil, _, _, _, _ => rfl
  | .node _ _ d k r, p, dp, pl, id => by
    rw [flatF, subsF, List.map_cons, List.map_append, flat_subs k, flat_subs r, List.map_cons, List.map_append]
    rfl
theorem flatT_subs (d : Nd) (k : F) : (flatT d k).map (fun y => (y.d, y.z, y.h)) = (subsT d k).map (fun q => (q.1, ((q.2.size + 1 : Nat) : Int), ((q.2.depth + 1 : Nat) : Int))) := by
  rw [flatT, subsT, List.map_cons, List.map_cons, flat_subs]
  rfl
theorem flatT_sub {d : Nd} {k : F} {i : Nat} {y : Im} (h : (flatT d k)[i]? = some y) : ∃ f, (subsT d k)[i]? = some (y.d, f) ∧ y.z = ((f.size + 1 : Nat) : Int) ∧ y.h = ((f.depth + 1 : Nat) : Int) := by
  have e := congrArg (fun l => l[i]?) (flatT_subs d k)
  simp only [List.getElem?_map, h, Option.map_some] at e
  cases hq : (subsT d k)[i]? with
  | none => rw [hq] at e; simp at e
  | some q =>
    rw [hq] at e
    simp only [Option.map_some, Option.some.injEq, Prod.mk.injEq] at e
    exact ⟨q.2, by rw [e.1], e.2.1, e.2.2⟩
theorem flatT_of {d : Nd} {k : F} {i : Nat} {q : Nd × F} (h : (subsT d k)[i]? = some q) : ∃ y, (flatT d k)[i]? = some y ∧ y.d = q.1 ∧ y.z = ((q.2.size + 1 : Nat) : Int) ∧ y.h = ((q.2.depth + 1 : Nat) : Int) := by
  have e := congrArg (fun l => l[i]?) (flatT_subs d k)
  simp only [List.getElem?_map, h, Option.map_some] at e
  cases hq : (flatT d k)[i]? with
  | none => rw [hq] at e; simp at e
  | some y =>
    rw [hq] at e
    simp only [Option.map_some, Option.some.injEq, Prod.mk.injEq] at e
    exact ⟨y, rfl, e.1, e.2.1, e.2.2⟩
theorem fin_of {d : Nd} {k : F} {i : Nat} {q : Nd × F} (h : (subsT d k)[i]? = some q) : (finT d k)[i]? = some (hT q.1 q.2) := by
  rw [← subsT_fin, List.getElem?_map, h]; rfl

/-- so many of them are the same, one by one -/
def sameB : Nat → List (Int × Nd) → List (Int × Nd) → Bool
  | 0, _, _ => true
  | n + 1, a :: A, b :: B => decide (a.1 = b.1) && (decide (cn a.2 b.2 = 0) && sameB n A B)
  | _ + 1, _, _ => false
theorem sameB_iff : ∀ (n : Nat) (A B : List (Int × Nd)), n ≤ A.length → n ≤ B.length → (sameB n A B = true ↔ A.take n = B.take n)
  | 0, A, B, _, _ => by simp [sameB]
  | n + 1, [], B, h, _ => by simp at h
  | n + 1, a :: A, [], _, h => by simp at h
  | n + 1, a :: A, b :: B, h, h' => by
    have ih := sameB_iff n A B (by simpa using h) (by simpa using h')
    rw [sameB, List.take_succ_cons, List.take_succ_cons, List.cons.injEq, Bool.and_eq_true, Bool.and_eq_true, ih, decide_eq_true_iff, decide_eq_true_iff]
    obtain ⟨a1, a2⟩ := a
    obtain ⟨b1, b2⟩ := b
    constructor
    · rintro ⟨h1, h2, h3⟩
      exact ⟨by rw [show a1 = b1 from h1, show a2 = b2 from cn_zero h2], h3⟩
    · rintro ⟨h1, h3⟩
      cases h1
      exact ⟨rfl, cn_self _, h3⟩
/-- two subtrees, by their numbers -/
def smT (X Y : List (Nd × F)) (i k : Nat) : Bool := match X[i]?, Y[k]? with
  | some p, some q => decide (cT p.1 p.2 q.1 q.2 = 0)
  | _, _ => false
/-- Sizes that are the same: node by node is as good as the subtrees -/
theorem same_sm {d d' : Nd} {k k' : F} {i j : Nat} {y y' : Im} {z : Nat} (h : (flatT d k)[i]? = some y) (h' : (flatT d' k')[j]? = some y') (hz : y.z = z) (hz' : y'.z = z) :
    sameB z ((sg (flatT d k)).drop i) ((sg (flatT d' k')).drop j) = smT (subsT d k) (subsT d' k') i j := by
  obtain ⟨f, hf, e1, e2⟩ := flatT_sub h
  obtain ⟨f', hf', e1', e2'⟩ := flatT_sub h'
  have k1 : f.size + 1 = z := by omega
  have k2 : f'.size + 1 = z := by omega
  have s1 := sig_segT d k i _ hf
  have s2 := sig_segT d' k' j _ hf'
  dsimp only at s1 s2
  rw [k1] at s1
  rw [k2] at s2
  have l1 := congrArg List.length s1
  have l2 := congrArg List.length s2
  rw [List.length_take, show (sigT y.d f).length = z by rw [sigT, List.length_cons, sigF_len, k1]] at l1
  rw [List.length_take, show (sigT y'.d f').length = z by rw [sigT, List.length_cons, sigF_len, k2]] at l2
  rw [sg_flatT, sg_flatT]
  unfold smT
  rw [hf, hf']
  dsimp only
  rw [Bool.eq_iff_iff, sameB_iff _ _ _ (by omega) (by omega), s1, s2, decide_eq_true_iff, sigT_iff]

/-- each one's partner, on both sides; -1: none -/
structure Mt where
  a : List Int
  b : List Int
def setR (l : List Int) (i tt : Nat) : Nat → List Int
  | 0 => l
  | n + 1 => (setR l i tt n).set (i + n) ((tt + n : Nat) : Int)
def joinM (m : Mt) (i k n : Nat) : Mt := ⟨setR m.a i k n, setR m.b k i n⟩
theorem setR_len (l : List Int) (i tt : Nat) : ∀ n, (setR l i tt n).length = l.length
  | 0 => rfl
  | n + 1 => by rw [setR, List.length_set, setR_len l i tt n]
theorem setR_get (l : List Int) (i tt : Nat) : ∀ n j, i + n ≤ l.length → (setR l i tt n)[j]? = if i ≤ j ∧ j < i + n then some (((tt + (j - i) : Nat)) : Int) else l[j]?
  | 0, j, _ => by rw [setR, if_neg (by omega)]
  | n + 1, j, h => by
    rw [setR, List.getElem?_set, setR_len, setR_get l i tt n j (by omega)]
    by_cases h1 : i + n = j
    · rw [if_pos h1, if_pos (by omega), if_pos (by omega)]
      congr 2
      omega
    · rw [if_neg h1]
      by_cases h2 : i ≤ j ∧ j < i + n
      · rw [if_pos h2, if_pos (by omega)]
      · rw [if_neg h2, if_neg (by omega)]
theorem setR_ge {l : List Int} (h : ∀ v ∈ l, -1 ≤ v) (i tt : Nat) : ∀ n, ∀ v ∈ setR l i tt n, -1 ≤ v
  | 0, v, hv => h v hv
  | n + 1, v, hv => by
    rcases List.mem_or_eq_of_mem_set hv with h1 | h1
    · exact setR_ge h i tt n v h1
    · omega
/-- which one is taken -/
def candM (sm : Nat → Nat → Bool) (m : Nat) (M : Mt) (i : Nat) : Option Nat := (List.range' 1 (m - 1)).find? fun k => decide (M.b[k]? = some (-1)) && sm i k
/-- one node -/
def stepM (xs : List Im) (sm : Nat → Nat → Bool) (m : Nat) (h : Int) (M : Mt) (i : Nat) : Mt :=
  match xs[i]?, M.a[i]? with
  | some y, some p => if y.h = h ∧ p = -1 then (match candM sm m M i with | none => M | some k => joinM M i k y.z.toNat) else M
  | _, _ => M
/-- so many nodes from i on -/
def rndM (xs : List Im) (sm : Nat → Nat → Bool) (m : Nat) (h : Int) (M : Mt) (i : Nat) : Nat → Mt
  | 0 => M
  | c + 1 => rndM xs sm m h (stepM xs sm m h M i) (i + 1) c
/-- so many Heights from h down -/
def downM (xs : List Im) (sm : Nat → Nat → Bool) (n m : Nat) (M : Mt) (h : Int) : Nat → Mt
  | 0 => M
  | c + 1 => downM xs sm n m (rndM xs sm m h M 1 (n - 1)) (h - 1) c
def noneM (n m : Nat) : Mt := ⟨List.replicate n (-1), List.replicate m (-1)⟩
def alikeM (d : Nd) (k : F) (d' : Nd) (k' : F) (least : Int) : Mt :=
  if cT d k d' k' = 0 then joinM (noneM (k.size + 1) (k'.size + 1)) 0 0 (k.size + 1)
  else downM (flatT d k) (smT (subsT d k) (subsT d' k')) (k.size + 1) (k'.size + 1) (noneM (k.size + 1) (k'.size + 1)) (min ((k.depth + 1 : Nat) : Int) ((k'.depth + 1 : Nat) : Int)) (min ((k.depth + 1 : Nat) : Int) ((k'.depth + 1 : Nat) : Int) - max least 1 + 1).toNat
/-- pairs, by the first one's number -/
def pairsF : Nat → List Int → List (Nat × Int)
  | _, [] => []
  | i, v :: l => if v = -1 then pairsF (i + 1) l else (i, v) :: pairsF (i + 1) l
theorem pairsF_le : ∀ (i : Nat) (l : List Int), (pairsF i l).length ≤ l.length
  | _, [] => Nat.le_refl _
  | i, v :: l => by
    have := pairsF_le (i + 1) l
    rw [pairsF]
    split
    · simp only [List.length_cons]; omega
    · simp only [List.length_cons]; omega
/-- lengths, and no number below -1 -/
structure OKM (n m : Nat) (M : Mt) : Prop where
  a : M.a.length = n
  b : M.b.length = m
  ga : ∀ v ∈ M.a, -1 ≤ v
  gb : ∀ v ∈ M.b, -1 ≤ v
theorem OKM.join {n m : Nat} {M : Mt} (h : OKM n m M) (i k z : Nat) : OKM n m (joinM M i k z) :=
  ⟨by show (setR _ _ _ _).length = _; rw [setR_len, h.a], by show (setR _ _ _ _).length = _; rw [setR_len, h.b], setR_ge h.ga _ _ _, setR_ge h.gb _ _ _⟩
theorem OKM.step {n m : Nat} {M : Mt} (h : OKM n m M) (xs : List Im) (sm : Nat → Nat → Bool) (m' : Nat) (hh : Int) (i : Nat) : OKM n m (stepM xs sm m' hh M i) := by
  unfold stepM
  split
  · split
    · split
      · exact h
      · exact h.join _ _ _
    · exact h
  · exact h
theorem OKM.rnd {n m : Nat} (xs : List Im) (sm : Nat → Nat → Bool) (m' : Nat) (hh : Int) : ∀ (c : Nat) {M : Mt} (h : OKM n m M) (i : Nat), OKM n m (rndM xs sm m' hh M i c)
  | 0, _, h, _ => h
  | c + 1, _, h, i => OKM.rnd xs sm m' hh c (h.step xs sm m' hh i) (i + 1)
theorem OKM.start (n m : Nat) : OKM n m (noneM n m) :=
  ⟨List.length_replicate, List.length_replicate, fun v hv => by have := List.eq_of_mem_replicate hv; omega, fun v hv => by have := List.eq_of_mem_replicate hv; omega⟩

/-- the key of a node -/
def keyL (d : Nd) (k : F) : List (Int × Int) := List.zipWith (fun h (y : Im) => (h, y.z * 4294967296 + y.h)) (finT d k) (flatT d k)
/-- the nodes that have a key, but for the Root's -/
def idsK (ks : List (Int × Int)) (kk : Int × Int) : List Nat := (List.range' 1 (ks.length - 1)).filter fun k => decide (ks[k]? = some kk)
theorem find_congr {p q : Nat → Bool} : ∀ l : List Nat, (∀ k ∈ l, p k = q k) → l.find? p = l.find? q
  | [], _ => rfl
  | a :: l, h => by
    rw [List.find?_cons, List.find?_cons, h a (by simp), find_congr l (fun k hk => h k (by simp [hk]))]
end Go.Proofs.Ytkojhgagkoeeiaa.M
end

/- Two sides in memory; join. -/
section
set_option linter.unusedVariables false
set_option linter.unusedSimpArgs false
namespace Go.Proofs.Ytkojhgagkoeeiaa
open Go.Deep (BT)
open Go.RowKit Go.Shelf M

def cJ (l : List Int) : List Value := l.map fun i => .int .i64 i
theorem cJ_len (l : List Int) : (cJ l).length = l.length := by simp [cJ]
theorem cJ_get {l : List Int} {i : Nat} {y : Int} (h : l[i]? = some y) : (cJ l)[i]? = some (.int .i64 y) := by simp [cJ, h]
theorem cJ_set (l : List Int) (i : Nat) (y : Int) : (cJ l).set i (.int .i64 y) = cJ (l.set i y) := by simp [cJ, List.map_set]
/-- keys, in their cells -/
def c2K : List (Int × Int) → List Value
  | [] => []
  | y :: l => .int .u64 y.1 :: .int .u64 y.2 :: c2K l
theorem c2K_len : ∀ l, (c2K l).length = l.length * 2
  | [] => rfl
  | y :: l => by simp [c2K, c2K_len l]; omega
theorem c2K_append : ∀ a b, c2K (a ++ b) = c2K a ++ c2K b
  | [], _ => rfl
  | y :: l, b => by simp [c2K, c2K_append l b]
theorem c2K_get : ∀ {l : List (Int × Int)} {i : Nat} {y : Int × Int}, l[i]? = some y → (c2K l)[i * 2]? = some (.int .u64 y.1) ∧ (c2K l)[i * 2 + 1]? = some (.int .u64 y.2)
  | x :: l, 0, y, h => by simp at h; subst h; exact ⟨rfl, rfl⟩
  | x :: l, i + 1, y, h => by
    have ih := c2K_get (l := l) (i := i) (by simpa using h)
    rw [show (i + 1) * 2 = i * 2 + 1 + 1 by omega]
    exact ih
theorem rowC_at {w : World} {B E z g n cap : Nat} {xs : List Value} (h : w.ownsRow B E z (.slice (some ⟨g, 0, none⟩) n cap) n xs) {i : Nat} {y : Value} (hy : xs[i]? = some y) :
    w.cell? ⟨g, i, none⟩ = some y ∧ (∀ o, w.frozen? ⟨g, o, none⟩ = false) ∧ B ≤ g ∧ g < w.heap.size ∧ n ≤ cap ∧ cap ≤ maxLen := by
  obtain ⟨h1, h2⟩ := h
  have hi : i < xs.length := (List.getElem?_eq_some_iff.1 hy).1
  rcases h2 with ⟨e, _⟩ | ⟨g', cap', cur, e, hg, hh, hc1, hc2, hs, ht⟩
  · cases e
  · cases e
    refine ⟨?_, fun o => by simp [World.frozen?, hh], hg, (Array.getElem?_eq_some_iff.1 hh).1, hc1, hc2⟩
    simp only [World.cell?, hh]
    rw [← ht, List.getElem?_take] at hy
    split at hy
    · simpa using hy
    · cases hy

/-- a side: its three lists -/
structure Sd where
  n : Nat
  gi : Nat
  ci : Nat
  gk : Nat
  ck : Nat
  gp : Nat
  cp : Nat
  its : List (Im × Value)
  ks : List (Int × Int)
abbrev sdV (n gi ci gk ck gp cp : Nat) : Value := .agg #[.slice (some ⟨gi, 0, none⟩) n ci, .slice (some ⟨gk, 0, none⟩) n ck, .slice (some ⟨gp, 0, none⟩) n cp]
abbrev Sd.v (s : Sd) : Value := sdV s.n s.gi s.ci s.gk s.ck s.gp s.cp
/-- what of a side lies still -/
structure SdL (T : Nat → Prop) (w : World) (s : Sd) : Prop where
  it : w.ownsRow 0 65 10 (.slice (some ⟨s.gi, 0, none⟩) s.n s.ci) s.n (cellsIt s.its)
  ke : w.ownsRow 0 90 2 (.slice (some ⟨s.gk, 0, none⟩) s.n s.ck) s.n (c2K s.ks)
  ats : ∀ y ∈ s.its, AS T w y.2 y.1.d.ats
  ti : T s.gi
  tk : T s.gk
  li : s.its.length = s.n
  lk : s.ks.length = s.n
  sm : s.n ≤ 1000000
theorem SdL.keep {T : Nat → Prop} {w w' : World} {s : Sd} (h : SdL T w s) (hk : Kept T w w') : SdL T w' s :=
  ⟨own_block h.it (fun k e hb => hk.block k hb (by cases e; exact h.ti)), own_block h.ke (fun k e hb => hk.block k hb (by cases e; exact h.tk)), fun y hy => (h.ats y hy).like (fun b hb hz => hk.block b hz hb), h.ti, h.tk, h.li, h.lk, h.sm⟩
/-- both sides and the partners so far -/
structure Two (T : Nat → Prop) (w : World) (a b : Sd) (M : Mt) : Prop where
  sa : SdL T w a
  sb : SdL T w b
  pa : w.ownsRow 0 3 1 (.slice (some ⟨a.gp, 0, none⟩) a.n a.cp) a.n (cJ M.a)
  pb : w.ownsRow 0 3 1 (.slice (some ⟨b.gp, 0, none⟩) b.n b.cp) b.n (cJ M.b)
  na : ¬ T a.gp
  nb : ¬ T b.gp
  ne : a.gp ≠ b.gp
/-- blocks that stay -/
def Stays (T : Nat → Prop) (a b : Sd) (k : Nat) : Prop := T k ∨ k = a.gp ∨ k = b.gp
theorem Two.keep {T : Nat → Prop} {w w' : World} {a b : Sd} {M : Mt} (h : Two T w a b M) (hk : Kept (Stays T a b) w w') : Two T w' a b M :=
  ⟨h.sa.keep (hk.mono (fun k _ e => .inl e)), h.sb.keep (hk.mono (fun k _ e => .inl e)), own_block h.pa (fun k e hb => hk.block k hb (.inr (.inl (by cases e; rfl)))), own_block h.pb (fun k e hb => hk.block k hb (.inr (.inr (by cases e; rfl)))), h.na, h.nb, h.ne⟩
theorem Two.below {T : Nat → Prop} {w w' : World} {a b : Sd} {M : Mt} (h : Two T w a b M) (hb : Below w.heap.size w w') : Two T w' a b M := h.keep (Kept.of_below' hb)
theorem kept_set {T : Nat → Prop} {w : World} {g : Nat} (h : ¬ T g) (o : Nat) (u : Value) : Kept T w (w.setCell ⟨g, o, none⟩ u) := (Kept.refl T w).setCell (p := ⟨g, o, none⟩) h u
theorem own_otherS {w : World} {B E z g n c g' : Nat} {xs : List Value} (h : w.ownsRow B E z (.slice (some ⟨g, 0, none⟩) n c) n xs) (hg : g ≠ g') (o : Nat) (u : Value) : (w.setCell ⟨g', o, none⟩ u).ownsRow B E z (.slice (some ⟨g, 0, none⟩) n c) n xs :=
  own_block h (fun k e hb => Below.heap_setCell _ _ _ _ (fun e' => by cases e; exact hg e'))
theorem Two.putA {T : Nat → Prop} {w : World} {a b : Sd} {M : Mt} (h : Two T w a b M) (i : Nat) (y : Int) : Two T (w.setCell ⟨a.gp, i, none⟩ (.int .i64 y)) a b ⟨M.a.set i y, M.b⟩ :=
  ⟨h.sa.keep (kept_set h.na _ _), h.sb.keep (kept_set h.na _ _), by have := rowV_set h.pa i (.int .i64 y); rw [cJ_set] at this; exact this, own_otherS h.pb (fun e => h.ne e.symm) _ _, h.na, h.nb, h.ne⟩
theorem Two.putB {T : Nat → Prop} {w : World} {a b : Sd} {M : Mt} (h : Two T w a b M) (i : Nat) (y : Int) : Two T (w.setCell ⟨b.gp, i, none⟩ (.int .i64 y)) a b ⟨M.a, M.b.set i y⟩ :=
  ⟨h.sa.keep (kept_set h.nb _ _), h.sb.keep (kept_set h.nb _ _), own_otherS h.pa h.ne _ _, by have := rowV_set h.pb i (.int .i64 y); rw [cJ_set] at this; exact this, h.na, h.nb, h.ne⟩
/-- a value of three, in a box -/
structure Box3 (n : Nat) (x y z : Value) (w : World) : Prop where
  c0 : w.cell? ⟨n, 0, none⟩ = some x
  c1 : w.cell? ⟨n, 1, none⟩ = some y
  c2 : w.cell? ⟨n, 2, none⟩ = some z
theorem Box3.lt {n : Nat} {x y z : Value} {w : World} (h : Box3 n x y z w) : n < w.heap.size := World.block_lt_of_cell? w _ h.c0
theorem Box3.same {n : Nat} {x y z : Value} {w w' : World} (h : Box3 n x y z w) (e : w'.heap[n]? = w.heap[n]?) : Box3 n x y z w' :=
  ⟨(World.cell?_of_block (a := ⟨n, 0, none⟩) e).trans h.c0, (World.cell?_of_block (a := ⟨n, 1, none⟩) e).trans h.c1, (World.cell?_of_block (a := ⟨n, 2, none⟩) e).trans h.c2⟩
theorem Box3.keep {n : Nat} {x y z : Value} {w w' : World} (h : Box3 n x y z w) (hb : Below w.heap.size w w') : Box3 n x y z w' := h.same (hb.block n h.lt)
theorem Box3.set {n : Nat} {x y z : Value} {w : World} (h : Box3 n x y z w) {g : Nat} (hg : n ≠ g) (o : Nat) (u : Value) : Box3 n x y z (w.setCell ⟨g, o, none⟩ u) := h.same (Below.heap_setCell _ _ _ _ (fun e => hg e))
theorem Box3.new (w : World) (x y z : Value) (ty : Nat) : Box3 w.heap.size x y z (w.alloc (.cells #[x, y, z] ty)) :=
  ⟨World.cell?_alloc_new w _ _ 0, World.cell?_alloc_new w _ _ 1, World.cell?_alloc_new w _ _ 2⟩
/-- an item's ten cells -/
theorem it_at {w : World} {B g n c : Nat} {its : List (Im × Value)} (h : w.ownsRow B 65 10 (.slice (some ⟨g, 0, none⟩) n c) n (cellsIt its)) {i : Nat} {y : Im × Value} (hy : its[i]? = some y) :
    w.cell? ⟨g, i * 10 + 1, none⟩ = some (.int .i64 y.1.z) ∧ w.cell? ⟨g, i * 10 + 3, none⟩ = some (.int .i64 y.1.h) := by
  have hr := (row10_at h hy).1
  exact ⟨hr 1 _ rfl, hr 3 _ rfl⟩
/-- what stands while two nodes are joined -/
structure JI (T : Nat → Prop) (w : World) (a b : Sd) (M : Mt) (i k j : Nat) (W : World) : Prop where
  kept : Kept T w W
  two : Two T W a b (joinM M i k j)
  size : w.heap.size + 2 ≤ W.heap.size
  ba : Box3 w.heap.size (.slice (some ⟨a.gi, 0, none⟩) a.n a.ci) (.slice (some ⟨a.gk, 0, none⟩) a.n a.ck) (.slice (some ⟨a.gp, 0, none⟩) a.n a.cp) W
  bb : Box3 (w.heap.size + 1) (.slice (some ⟨b.gi, 0, none⟩) b.n b.ci) (.slice (some ⟨b.gk, 0, none⟩) b.n b.ck) (.slice (some ⟨b.gp, 0, none⟩) b.n b.cp) W
theorem JI.start {T : Nat → Prop} {w : World} {a b : Sd} {M : Mt} (h : Two T w a b M) (i k : Nat) (ta tb : Nat) :
    JI T w a b M i k 0 ((w.alloc (.cells #[.slice (some ⟨a.gi, 0, none⟩) a.n a.ci, .slice (some ⟨a.gk, 0, none⟩) a.n a.ck, .slice (some ⟨a.gp, 0, none⟩) a.n a.cp] ta)).alloc (.cells #[.slice (some ⟨b.gi, 0, none⟩) b.n b.ci, .slice (some ⟨b.gk, 0, none⟩) b.n b.ck, .slice (some ⟨b.gp, 0, none⟩) b.n b.cp] tb)) := by
  have hb : Below w.heap.size w ((w.alloc (.cells #[.slice (some ⟨a.gi, 0, none⟩) a.n a.ci, .slice (some ⟨a.gk, 0, none⟩) a.n a.ck, .slice (some ⟨a.gp, 0, none⟩) a.n a.cp] ta)).alloc (.cells #[.slice (some ⟨b.gi, 0, none⟩) b.n b.ci, .slice (some ⟨b.gk, 0, none⟩) b.n b.ck, .slice (some ⟨b.gp, 0, none⟩) b.n b.cp] tb)) := ((Below.refl _ w).alloc (Nat.le_refl _) _).alloc (by simp) _
  refine ⟨Kept.of_below' hb, h.below hb, by simp, (Box3.new w _ _ _ ta).same (Below.heap_alloc _ _ _ (by simp)), ?_⟩
  have h2 := Box3.new (w.alloc (.cells #[.slice (some ⟨a.gi, 0, none⟩) a.n a.ci, .slice (some ⟨a.gk, 0, none⟩) a.n a.ck, .slice (some ⟨a.gp, 0, none⟩) a.n a.cp] ta)) (.slice (some ⟨b.gi, 0, none⟩) b.n b.ci) (.slice (some ⟨b.gk, 0, none⟩) b.n b.ck) (.slice (some ⟨b.gp, 0, none⟩) b.n b.cp) tb
  rw [show (w.alloc (.cells #[.slice (some ⟨a.gi, 0, none⟩) a.n a.ci, .slice (some ⟨a.gk, 0, none⟩) a.n a.ck, .slice (some ⟨a.gp, 0, none⟩) a.n a.cp] ta)).heap.size = w.heap.size + 1 by simp] at h2
  exact h2
theorem JI.drew {T : Nat → Prop} {w : World} {a b : Sd} {M : Mt} {i k j : Nat} {W : World} (h : JI T w a b M i k j W) : JI T w a b M i k j W.drew :=
  ⟨⟨h.kept.os, h.kept.tape, h.kept.output, h.kept.size, h.kept.block⟩, ⟨⟨h.two.sa.it, h.two.sa.ke, h.two.sa.ats, h.two.sa.ti, h.two.sa.tk, h.two.sa.li, h.two.sa.lk, h.two.sa.sm⟩, ⟨h.two.sb.it, h.two.sb.ke, h.two.sb.ats, h.two.sb.ti, h.two.sb.tk, h.two.sb.li, h.two.sb.lk, h.two.sb.sm⟩, h.two.pa, h.two.pb, h.two.na, h.two.nb, h.two.ne⟩, h.size, ⟨h.ba.c0, h.ba.c1, h.ba.c2⟩, ⟨h.bb.c0, h.bb.c1, h.bb.c2⟩⟩
theorem JI.next {T : Nat → Prop} {w : World} {a b : Sd} {M : Mt} {i k j : Nat} {W : World} (h : JI T w a b M i k j W) (ha : a.gp < w.heap.size) (hb : b.gp < w.heap.size) :
    JI T w a b M i k (j + 1) ((W.setCell ⟨a.gp, i + j, none⟩ (.int .i64 ((k + j : Nat) : Int))).setCell ⟨b.gp, k + j, none⟩ (.int .i64 ((i + j : Nat) : Int))) := by
  refine ⟨(h.kept.setCell (p := ⟨a.gp, i + j, none⟩) h.two.na _).setCell (p := ⟨b.gp, k + j, none⟩) h.two.nb _, (h.two.putA (i + j) ((k + j : Nat) : Int)).putB (k + j) ((i + j : Nat) : Int), by simpa using h.size, ((h.ba.set (by omega) _ _).set (by omega) _ _), ((h.bb.set (by omega) _ _).set (by omega) _ _)⟩
theorem JI.next' {T : Nat → Prop} {w : World} {a b : Sd} {M : Mt} {i k j : Nat} {W : World} (h : JI T w a b M i k j W) (ha : a.gp < w.heap.size) (hb : b.gp < w.heap.size) :
    JI T w a b M i k (j + 1) ((W.setCell ⟨b.gp, k + j, none⟩ (.int .i64 ((i + j : Nat) : Int))).setCell ⟨a.gp, i + j, none⟩ (.int .i64 ((k + j : Nat) : Int))) := by
  refine ⟨(h.kept.setCell (p := ⟨b.gp, k + j, none⟩) h.two.nb _).setCell (p := ⟨a.gp, i + j, none⟩) h.two.na _, (h.two.putB (k + j) ((i + j : Nat) : Int)).putA (i + j) ((k + j : Nat) : Int), by simpa using h.size, ((h.ba.set (by omega) _ _).set (by omega) _ _), ((h.bb.set (by omega) _ _).set (by omega) _ _)⟩
theorem j2 {a b : Int} (h : a = b) : Value.int .i64 a = .int .i64 b := by rw [h]

set_option maxRecDepth 20000 in
set_option maxHeartbeats 4000000 in
theorem join_any (T : Nat → Prop) (a b : Sd) (M : Mt) (w : World) (h : Two T w a b M) (i k z : Nat) (y : Im × Value) (hy : a.its[i]? = some y) (hz : y.1.z = z) (hi : i + z ≤ a.n) (hk : k + z ≤ b.n) :
    Calls Try.prog 31 #[a.v, b.v, .int .i64 i, .int .i64 k] w fun e w' => (∃ v, e = .returned v) ∧ Kept T w w' ∧ Two T w' a b (joinM M i k z) := by
  have hpa := (h.pa.lt _ rfl).2
  have hpb := (h.pb.lt _ rfl).2
  have hna := h.sa.sm
  have hnb := h.sb.sm
  have J0 := Fact.mk (JI.start h i k 59 59)
  have HY := Fact.mk hy
  have HZ := Fact.mk hz
  have hpa' := hpa
  have hpb' := hpb
  have HT : Fact (T a.gi) := ⟨h.sa.ti⟩
  have hla := h.sa.li
  clear h hz hy
  obtain ⟨n, gi, ci, gq, ck, gp, cp, its, ks⟩ := a
  obtain ⟨n', gi', ci', gq', ck', gp', cp', its', ks'⟩ := b
  dsimp only [Sd.v, sdV] at *
  go_enter Try.func31, Try.ntmps31
  go_upto_region 1 with fail
  obtain ⟨W1, hW1⟩ : ∃ W1, (w.alloc (.cells #[.slice (some ⟨gi, 0, none⟩) n ci, .slice (some ⟨gq, 0, none⟩) n ck, .slice (some ⟨gp, 0, none⟩) n cp] 59)).alloc (.cells #[.slice (some ⟨gi', 0, none⟩) n' ci', .slice (some ⟨gq', 0, none⟩) n' ck', .slice (some ⟨gp', 0, none⟩) n' cp'] 59) = W1 := ⟨_, rfl⟩
  rw [hW1] at J0
  try rw [hW1]
  clear hW1
  have hit := it_at J0.out.two.sa.it HY.out
  rw [HZ.out] at hit
  have hit1 := hit.1
  have ba0 := J0.out.ba.c0
  have hin := (row10_at J0.out.two.sa.it HY.out).2.2.2.2
  have hin1 := hin.2.2
  have hin2 := hin.1
  have hin3 := hin.2.1
  clear hit hin
  go_wp2_with fail
  clear ba0 hit1
  go_loopg [15] z (fun gf iv wr => ∃ j : Nat, iv = .int .i64 j ∧ j ≤ z ∧ z - j ≤ gf ∧ Fact (JI T w ⟨n, gi, ci, gq, ck, gp, cp, its, ks⟩ ⟨n', gi', ci', gq', ck', gp', cp', its', ks'⟩ M i k j wr))
  case atStart => exact ⟨0, rfl, Nat.zero_le _, Nat.le_refl _, J0⟩
  case round =>
    obtain ⟨j, rfl, hj, hgf, hJ⟩ := hrel
    by_cases hjz : j = z
    · subst hjz
      have hdec : decide ((j : Int) < (j : Int)) = false := decide_eq_false (by omega)
      go_wp2_with fail
      go_end0
      exact ⟨⟨_, rfl⟩, hJ.out.kept, hJ.out.two⟩
    · have hlt : j < z := by omega
      have hdec : decide ((j : Int) < (z : Int)) = true := decide_eq_true (by omega)
      obtain ⟨p, hp⟩ : ∃ p, i + j = p := ⟨_, rfl⟩
      obtain ⟨q, hq⟩ : ∃ q, k + j = q := ⟨_, rfl⟩
      have hpI : (i : Int) + (j : Int) = (p : Int) := by omega
      have hqI : (k : Int) + (j : Int) = (q : Int) := by omega
      have la := hJ.out.two.pa.1
      have lb := hJ.out.two.pb.1
      rw [cJ_len] at la lb
      dsimp only at la lb
      obtain ⟨u, hu⟩ : ∃ u, (joinM M i k j).a[p]? = some u := ⟨(joinM M i k j).a[p]'(by omega), by simp⟩
      obtain ⟨u', hu'⟩ : ∃ u, (joinM M i k j).b[q]? = some u := ⟨(joinM M i k j).b[q]'(by omega), by simp⟩
      obtain ⟨c1, c2, _, c4, c5, c6, c7⟩ := rowV_at hJ.out.two.pa (cJ_get hu)
      obtain ⟨d1, d2, _, d4, d5, d6, d7⟩ := rowV_at hJ.out.two.pb (cJ_get hu')
      dsimp only at c1 c2 c4 c5 c6 c7 d1 d2 d4 d5 d6 d7
      have f1 := c2 p
      have f2 := d2 q
      have ba2 := hJ.out.ba.c2
      have bb2 := hJ.out.bb.c2
      dsimp only at ba2 bb2
      have hne := hJ.out.two.ne
      dsimp only at hne
      have hne2 : gp' ≠ gp := fun e => hne e.symm
      have N1 := Fact.mk (hJ.out.drew.next hpa' hpb')
      have N2 := Fact.mk (hJ.out.drew.next' hpa' hpb')
      rw [hp, hq] at N1 N2
      dsimp only at N1 N2
      obtain ⟨g', rfl⟩ : ∃ g', gk = g' + 1 := ⟨gk - 1, by omega⟩
      clear c2 d2 hu hu' la lb hJ
      go_wp2_with fail
      go_region
      all_goals go_wp2_with fail
      all_goals go_roundg g'
      case measure => omega
      case rel => exact ⟨j + 1, by go_num, by omega, by omega, by first | exact N1 | exact N2⟩
      all_goals first | omega | exact ⟨j + 1, by go_num, by omega, by omega, by first | exact N1 | exact N2⟩
end Go.Proofs.Ytkojhgagkoeeiaa
end

/- same: two nodes of one Size, node by node. -/
section
set_option linter.unusedVariables false
set_option linter.unusedSimpArgs false
namespace Go.Proofs.Ytkojhgagkoeeiaa
open Go.Deep (BT)
open Go.RowKit Go.Shelf M

/-- what of an item in a box is asked -/
structure BoxI (x : Nat) (z K : Int) (N X : ByteArray) (av : Value) (w : World) : Prop where
  c1 : w.cell? ⟨x, 1, none⟩ = some (.int .i64 z)
  c5 : w.cell? ⟨x, 5, none⟩ = some (.int .i64 K)
  c6 : w.cell? ⟨x, 6, none⟩ = some (.string N)
  c7 : w.cell? ⟨x, 7, none⟩ = some (.string X)
  c8 : w.cell? ⟨x, 8, none⟩ = some av
  c9 : w.cell? ⟨x, 9, none⟩ = some (.slice none 0 0)
theorem BoxI.same {x : Nat} {z K : Int} {N X : ByteArray} {av : Value} {w w' : World} (h : BoxI x z K N X av w) (e : w'.heap[x]? = w.heap[x]?) : BoxI x z K N X av w' :=
  ⟨(World.cell?_of_block (a := ⟨x, 1, none⟩) e).trans h.c1, (World.cell?_of_block (a := ⟨x, 5, none⟩) e).trans h.c5, (World.cell?_of_block (a := ⟨x, 6, none⟩) e).trans h.c6, (World.cell?_of_block (a := ⟨x, 7, none⟩) e).trans h.c7, (World.cell?_of_block (a := ⟨x, 8, none⟩) e).trans h.c8, (World.cell?_of_block (a := ⟨x, 9, none⟩) e).trans h.c9⟩
theorem BoxI.new (w : World) (p z dp h pl K : Int) (N X : ByteArray) (av : Value) (ty : Nat) : BoxI w.heap.size z K N X av (w.alloc (.cells #[.int .i64 p, .int .i64 z, .int .i64 dp, .int .i64 h, .int .i64 pl, .int .i64 K, .string N, .string X, av, .slice none 0 0] ty)) :=
  ⟨World.cell?_alloc_new w _ _ 1, World.cell?_alloc_new w _ _ 5, World.cell?_alloc_new w _ _ 6, World.cell?_alloc_new w _ _ 7, World.cell?_alloc_new w _ _ 8, World.cell?_alloc_new w _ _ 9⟩
theorem duoI (w : World) (p z dp h pl K : Int) (N X : ByteArray) (av : Value) (p' z' dp' h' pl' K' : Int) (N' X' : ByteArray) (av' : Value) (ty : Nat) :
    BoxI w.heap.size z K N X av ((w.alloc (.cells #[.int .i64 p, .int .i64 z, .int .i64 dp, .int .i64 h, .int .i64 pl, .int .i64 K, .string N, .string X, av, .slice none 0 0] ty)).alloc (.cells #[.int .i64 p', .int .i64 z', .int .i64 dp', .int .i64 h', .int .i64 pl', .int .i64 K', .string N', .string X', av', .slice none 0 0] ty)).drew ∧
    BoxI (w.heap.size + 1) z' K' N' X' av' ((w.alloc (.cells #[.int .i64 p, .int .i64 z, .int .i64 dp, .int .i64 h, .int .i64 pl, .int .i64 K, .string N, .string X, av, .slice none 0 0] ty)).alloc (.cells #[.int .i64 p', .int .i64 z', .int .i64 dp', .int .i64 h', .int .i64 pl', .int .i64 K', .string N', .string X', av', .slice none 0 0] ty)).drew ∧
    Below w.heap.size w ((w.alloc (.cells #[.int .i64 p, .int .i64 z, .int .i64 dp, .int .i64 h, .int .i64 pl, .int .i64 K, .string N, .string X, av, .slice none 0 0] ty)).alloc (.cells #[.int .i64 p', .int .i64 z', .int .i64 dp', .int .i64 h', .int .i64 pl', .int .i64 K', .string N', .string X', av', .slice none 0 0] ty)).drew := by
  obtain ⟨W, hW⟩ : ∃ W, w.alloc (.cells #[.int .i64 p, .int .i64 z, .int .i64 dp, .int .i64 h, .int .i64 pl, .int .i64 K, .string N, .string X, av, .slice none 0 0] ty) = W := ⟨_, rfl⟩
  have h1 := BoxI.new w p z dp h pl K N X av ty
  have hs : W.heap.size = w.heap.size + 1 := by rw [← hW]; simp
  have hb : Below w.heap.size w W := by rw [← hW]; exact (Below.refl _ w).alloc (Nat.le_refl _) _
  rw [hW] at h1 ⊢
  have h2 := BoxI.new W p' z' dp' h' pl' K' N' X' av' ty
  rw [hs] at h2
  have h3 := h1.same (w' := W.alloc (.cells #[.int .i64 p', .int .i64 z', .int .i64 dp', .int .i64 h', .int .i64 pl', .int .i64 K', .string N', .string X', av', .slice none 0 0] ty)) (Below.heap_alloc _ _ _ (by omega))
  exact ⟨⟨h3.c1, h3.c5, h3.c6, h3.c7, h3.c8, h3.c9⟩, ⟨h2.c1, h2.c5, h2.c6, h2.c7, h2.c8, h2.c9⟩, (hb.alloc (by omega) _).drew⟩
/-- what stands while two nodes are looked at -/
structure SI (T : Nat → Prop) (w : World) (a b : Sd) (W : World) : Prop where
  below : Below w.heap.size w W
  size : w.heap.size + 2 ≤ W.heap.size
  sa : SdL T W a
  sb : SdL T W b
  ba : Box3 w.heap.size (.slice (some ⟨a.gi, 0, none⟩) a.n a.ci) (.slice (some ⟨a.gk, 0, none⟩) a.n a.ck) (.slice (some ⟨a.gp, 0, none⟩) a.n a.cp) W
  bb : Box3 (w.heap.size + 1) (.slice (some ⟨b.gi, 0, none⟩) b.n b.ci) (.slice (some ⟨b.gk, 0, none⟩) b.n b.ck) (.slice (some ⟨b.gp, 0, none⟩) b.n b.cp) W
theorem SdL.below {T : Nat → Prop} {w w' : World} {s : Sd} (h : SdL T w s) (hb : Below w.heap.size w w') : SdL T w' s := h.keep (Kept.of_below' hb)
theorem SI.up {T : Nat → Prop} {w : World} {a b : Sd} {W W' : World} (h : SI T w a b W) (hb : Below W.heap.size W W') : SI T w a b W' :=
  ⟨h.below.trans (hb.mono h.below.size), Nat.le_trans h.size hb.size, h.sa.below hb, h.sb.below hb, h.ba.keep hb, h.bb.keep hb⟩
theorem SI.start {T : Nat → Prop} {w : World} {a b : Sd} (ha : SdL T w a) (hb' : SdL T w b) (ta tb : Nat) :
    SI T w a b ((w.alloc (.cells #[.slice (some ⟨a.gi, 0, none⟩) a.n a.ci, .slice (some ⟨a.gk, 0, none⟩) a.n a.ck, .slice (some ⟨a.gp, 0, none⟩) a.n a.cp] ta)).alloc (.cells #[.slice (some ⟨b.gi, 0, none⟩) b.n b.ci, .slice (some ⟨b.gk, 0, none⟩) b.n b.ck, .slice (some ⟨b.gp, 0, none⟩) b.n b.cp] tb)) := by
  have hb : Below w.heap.size w ((w.alloc (.cells #[.slice (some ⟨a.gi, 0, none⟩) a.n a.ci, .slice (some ⟨a.gk, 0, none⟩) a.n a.ck, .slice (some ⟨a.gp, 0, none⟩) a.n a.cp] ta)).alloc (.cells #[.slice (some ⟨b.gi, 0, none⟩) b.n b.ci, .slice (some ⟨b.gk, 0, none⟩) b.n b.ck, .slice (some ⟨b.gp, 0, none⟩) b.n b.cp] tb)) := ((Below.refl _ w).alloc (Nat.le_refl _) _).alloc (by simp) _
  refine ⟨hb, by simp, ha.below hb, hb'.below hb, (Box3.new w _ _ _ ta).same (Below.heap_alloc _ _ _ (by simp)), ?_⟩
  have h2 := Box3.new (w.alloc (.cells #[.slice (some ⟨a.gi, 0, none⟩) a.n a.ci, .slice (some ⟨a.gk, 0, none⟩) a.n a.ck, .slice (some ⟨a.gp, 0, none⟩) a.n a.cp] ta)) (.slice (some ⟨b.gi, 0, none⟩) b.n b.ci) (.slice (some ⟨b.gk, 0, none⟩) b.n b.ck) (.slice (some ⟨b.gp, 0, none⟩) b.n b.cp) tb
  rw [show (w.alloc (.cells #[.slice (some ⟨a.gi, 0, none⟩) a.n a.ci, .slice (some ⟨a.gk, 0, none⟩) a.n a.ck, .slice (some ⟨a.gp, 0, none⟩) a.n a.cp] ta)).heap.size = w.heap.size + 1 by simp] at h2
  exact h2
theorem drop_sg {its : List (Im × Value)} {p : Nat} {y : Im × Value} (hy : its[p]? = some y) : (sg (its.map (·.1))).drop p = (y.1.z, y.1.d) :: (sg (its.map (·.1))).drop (p + 1) := by
  have hl : p < (sg (its.map (·.1))).length := by simp [sg]; exact (List.getElem?_eq_some_iff.1 hy).1
  rw [List.drop_eq_getElem_cons hl]
  congr 1
  have h1 : (sg (its.map (·.1)))[p]? = some (y.1.z, y.1.d) := by simp [sg, hy]
  exact (List.getElem?_eq_some_iff.1 h1).2
theorem cT_nil (d d' : Nd) : cT d .nil d' .nil = cn d d' := by
  show orI (cn d d') 0 = _
  unfold orI
  split <;> omega
theorem same_node {w : World} {d d' : Nd} {va vb : Value} (r : Bool) (hr : Fact (decide (cn d d' = 0) = r)) (ha : Fact (AS (Old w.heap.size) w va d.ats)) (hb : Fact (AS (Old w.heap.size) w vb d'.ats)) :
    Calls Try.prog 30 #[.agg #[.int .i64 d.k, .string d.n, .string d.x, va, .slice none 0 0], .agg #[.int .i64 d'.k, .string d'.n, .string d'.x, vb, .slice none 0 0]] w fun e w' => e = .returned (.bool r) ∧ Below w.heap.size w w' :=
  same_at (n := w.heap.size) (k := .nil) (k' := .nil) r ⟨by rw [cT_nil]; exact hr.out⟩ (by simp [BT.depth]) ⟨ha.out, FL.nothing⟩ ⟨hb.out, FL.nothing⟩ (Nat.le_refl _)

set_option maxRecDepth 20000 in
set_option maxHeartbeats 4000000 in
theorem same_any (T : Nat → Prop) (a b : Sd) (w : World) (ha : SdL T w a) (hb : SdL T w b) (i k z : Nat) (y : Im × Value) (hy : a.its[i]? = some y) (hz : y.1.z = z) (hi : i + z ≤ a.n) (hk : k + z ≤ b.n) (r : Bool)
    (hr : Fact (sameB z ((sg (a.its.map (·.1))).drop i) ((sg (b.its.map (·.1))).drop k) = r)) :
    Calls Try.prog 67 #[a.v, b.v, .int .i64 i, .int .i64 k] w fun e w' => e = .returned (.bool r) ∧ Below w.heap.size w w' := by
  have hna := ha.sm
  have hnb := hb.sm
  have hla := ha.li
  have hlb := hb.li
  have J0 := Fact.mk (SI.start ha hb 59 59)
  have HY := Fact.mk hy
  have HZ := Fact.mk hz
  clear ha hb hz hy
  obtain ⟨n, gi, ci, gq, ck, gp, cp, its, ks⟩ := a
  obtain ⟨n', gi', ci', gq', ck', gp', cp', its', ks'⟩ := b
  dsimp only [Sd.v, sdV] at *
  go_enter Try.func67, Try.ntmps67
  go_upto_region 1 with fail
  obtain ⟨W1, hW1⟩ : ∃ W1, (w.alloc (.cells #[.slice (some ⟨gi, 0, none⟩) n ci, .slice (some ⟨gq, 0, none⟩) n ck, .slice (some ⟨gp, 0, none⟩) n cp] 59)).alloc (.cells #[.slice (some ⟨gi', 0, none⟩) n' ci', .slice (some ⟨gq', 0, none⟩) n' ck', .slice (some ⟨gp', 0, none⟩) n' cp'] 59) = W1 := ⟨_, rfl⟩
  rw [hW1] at J0
  try rw [hW1]
  clear hW1
  have hit := it_at J0.out.sa.it HY.out
  rw [HZ.out] at hit
  have hit1 := hit.1
  have ba0 := J0.out.ba.c0
  have hin := (row10_at J0.out.sa.it HY.out).2.2.2.2
  have hin1 := hin.2.2
  have hin2 := hin.1
  have hin3 := hin.2.1
  clear hit hin
  go_wp2_with fail
  clear ba0 hit1
  go_loopg [18] z (fun gf iv wr => ∃ j : Nat, iv = .int .i64 j ∧ j ≤ z ∧ z - j ≤ gf ∧ Fact (SI T w ⟨n, gi, ci, gq, ck, gp, cp, its, ks⟩ ⟨n', gi', ci', gq', ck', gp', cp', its', ks'⟩ wr) ∧ Fact (sameB (z - j) ((sg (its.map (·.1))).drop (i + j)) ((sg (its'.map (·.1))).drop (k + j)) = r))
  case atStart => exact ⟨0, rfl, Nat.zero_le _, Nat.le_refl _, J0, hr⟩
  case round =>
    obtain ⟨j, rfl, hj, hgf, hJ, hS⟩ := hrel
    by_cases hjz : j = z
    · subst hjz
      have hdec : decide ((j : Int) < (j : Int)) = false := decide_eq_false (by omega)
      have HR : Fact (true = r) := ⟨by have h := hS.out; rw [Nat.sub_self] at h; exact h⟩
      clear hS hr
      go_wp2_with fail
      go_ret
      exact ⟨ret_bool HR.out, hJ.out.below⟩
    · have hlt : j < z := by omega
      have hdec : decide ((j : Int) < (z : Int)) = true := decide_eq_true (by omega)
      obtain ⟨p, hp⟩ : ∃ p, i + j = p := ⟨_, rfl⟩
      obtain ⟨q, hq⟩ : ∃ q, k + j = q := ⟨_, rfl⟩
      have hpI : (i : Int) + (j : Int) = (p : Int) := by omega
      have hqI : (k : Int) + (j : Int) = (q : Int) := by omega
      rw [hp, hq] at hS
      obtain ⟨x, hx⟩ : ∃ y, its[p]? = some y := ⟨its[p]'(by omega), by simp⟩
      obtain ⟨x', hx'⟩ : ∃ y, its'[q]? = some y := ⟨its'[q]'(by omega), by simp⟩
      have h1 := row10_at hJ.out.sa.it hx
      have h2 := row10_at hJ.out.sb.it hx'
      have HA1 := Fact.mk ((hJ.out.sa.ats x (List.mem_of_getElem? hx)).here)
      have HA2 := Fact.mk ((hJ.out.sb.ats x' (List.mem_of_getElem? hx')).here)
      have hs0 := hS.out
      rw [show z - j = (z - (j + 1)) + 1 by omega, drop_sg hx, drop_sg hx', sameB] at hs0
      have HS := Fact.mk hs0
      clear hs0 hS hr
      obtain ⟨u1, u2, u3, eu⟩ := HA1.out.val
      obtain ⟨u1', u2', u3', eu'⟩ := HA2.out.val
      obtain ⟨⟨yp, yz, ydp, yh, ypl, ⟨K, N, X, A⟩⟩, yav⟩ := x
      obtain ⟨⟨yp', yz', ydp', yh', ypl', ⟨K', N', X', A'⟩⟩, yav'⟩ := x'
      dsimp only at eu eu' HA1 HA2 HS
      subst eu eu'
      have r0 : wr.cell? ⟨gi, p * 10, none⟩ = some (.int .i64 yp) := h1.1 0 _ rfl
      have r1 : wr.cell? ⟨gi, p * 10 + 1, none⟩ = some (.int .i64 yz) := h1.1 1 _ rfl
      have r2 : wr.cell? ⟨gi, p * 10 + 2, none⟩ = some (.int .i64 ydp) := h1.1 2 _ rfl
      have r3 : wr.cell? ⟨gi, p * 10 + 3, none⟩ = some (.int .i64 yh) := h1.1 3 _ rfl
      have r4 : wr.cell? ⟨gi, p * 10 + 4, none⟩ = some (.int .i64 ypl) := h1.1 4 _ rfl
      have r5 : wr.cell? ⟨gi, p * 10 + 5, none⟩ = some (.int .i64 K) := h1.1 5 _ rfl
      have r6 : wr.cell? ⟨gi, p * 10 + 6, none⟩ = some (.string N) := h1.1 6 _ rfl
      have r7 : wr.cell? ⟨gi, p * 10 + 7, none⟩ = some (.string X) := h1.1 7 _ rfl
      have r8 : wr.cell? ⟨gi, p * 10 + 8, none⟩ = some (.slice u1 u2 u3) := h1.1 8 _ rfl
      have r9 : wr.cell? ⟨gi, p * 10 + 9, none⟩ = some (.slice none 0 0) := h1.1 9 _ rfl
      have t0 : wr.cell? ⟨gi', q * 10, none⟩ = some (.int .i64 yp') := h2.1 0 _ rfl
      have t1 : wr.cell? ⟨gi', q * 10 + 1, none⟩ = some (.int .i64 yz') := h2.1 1 _ rfl
      have t2 : wr.cell? ⟨gi', q * 10 + 2, none⟩ = some (.int .i64 ydp') := h2.1 2 _ rfl
      have t3 : wr.cell? ⟨gi', q * 10 + 3, none⟩ = some (.int .i64 yh') := h2.1 3 _ rfl
      have t4 : wr.cell? ⟨gi', q * 10 + 4, none⟩ = some (.int .i64 ypl') := h2.1 4 _ rfl
      have t5 : wr.cell? ⟨gi', q * 10 + 5, none⟩ = some (.int .i64 K') := h2.1 5 _ rfl
      have t6 : wr.cell? ⟨gi', q * 10 + 6, none⟩ = some (.string N') := h2.1 6 _ rfl
      have t7 : wr.cell? ⟨gi', q * 10 + 7, none⟩ = some (.string X') := h2.1 7 _ rfl
      have t8 : wr.cell? ⟨gi', q * 10 + 8, none⟩ = some (.slice u1' u2' u3') := h2.1 8 _ rfl
      have t9 : wr.cell? ⟨gi', q * 10 + 9, none⟩ = some (.slice none 0 0) := h2.1 9 _ rfl
      have a1 := h1.2.2.2.2.1
      have a2 := h1.2.2.2.2.2.1
      have a3 := h1.2.2.2.2.2.2
      have b1 := h2.2.2.2.2.1
      have b2 := h2.2.2.2.2.2.1
      have b3 := h2.2.2.2.2.2.2
      have g1 : gi < wr.heap.size := h1.2.2.2.1
      have g2 : gi' < wr.heap.size := h2.2.2.2.1
      have ba2 := hJ.out.ba.c0
      have bb2 := hJ.out.bb.c0
      have hwz := hJ.out.size
      dsimp only at ba2 bb2 a1 a2 a3 b1 b2 b3
      obtain ⟨g', rfl⟩ : ∃ g', gk = g' + 1 := ⟨gk - 1, by omega⟩
      clear h1 h2 hx hx'
      go_upto_region 4 with fail
      go_cut [10, 11] from 19 to 48 (fun v1 v2 wc => ∃ x1 x2 : Nat, v1 = .pointer (some ⟨x1, 0, none⟩) ∧ v2 = .pointer (some ⟨x2, 0, none⟩) ∧ Fact (BoxI x1 yz K N X (.slice u1 u2 u3) wc ∧ BoxI x2 yz' K' N' X' (.slice u1' u2' u3') wc ∧ Below wr.heap.size wr wc))
      case first =>
        clear HS HA1 HA2 hJ
        have n1 : ¬ w.heap.size = wr.heap.size := by omega
        have n2 : ¬ w.heap.size + 1 = wr.heap.size := by omega
        have n3 : ¬ w.heap.size = wr.heap.size + 1 := by omega
        have n4 : w.heap.size + 1 < wr.heap.size := by omega
        have n5 : w.heap.size < wr.heap.size := by omega
        go_region
        all_goals go_wp2_with fail
        all_goals go_meet
        case rel =>
          obtain ⟨h1, h2, h3⟩ := duoI wr yp yz ydp yh ypl K N X (.slice u1 u2 u3) yp' yz' ydp' yh' ypl' K' N' X' (.slice u1' u2' u3') 65
          exact ⟨_, _, rfl, rfl, ⟨h1, h2, h3⟩⟩
        all_goals
          obtain ⟨h1, h2, h3⟩ := duoI wr yp' yz' ydp' yh' ypl' K' N' X' (.slice u1' u2' u3') yp yz ydp yh ypl K N X (.slice u1 u2 u3) 65
          exact ⟨_, _, rfl, rfl, ⟨h2, h1, h3⟩⟩
      case rest =>
        obtain ⟨x1, x2, rfl, rfl, hC⟩ := hcut
        have HJ := Fact.mk (hJ.out.up hC.out.2.2)
        have HB1 := Fact.mk (HA1.out.like (like_below hC.out.2.2))
        have HB2 := Fact.mk (HA2.out.like (like_below hC.out.2.2))
        have hzc := hC.out.2.2.size
        have HC1 : Fact (AS (Old wc.heap.size) wc (.slice u1 u2 u3) A) := ⟨HB1.out.mono (fun b (hb : b < wr.heap.size) => (by show b < wc.heap.size; omega))⟩
        have HC2 : Fact (AS (Old wc.heap.size) wc (.slice u1' u2' u3') A') := ⟨HB2.out.mono (fun b (hb : b < wr.heap.size) => (by show b < wc.heap.size; omega))⟩
        have x11 := hC.out.1.c1
        have x15 := hC.out.1.c5
        have x16 := hC.out.1.c6
        have x17 := hC.out.1.c7
        have x18 := hC.out.1.c8
        have x19 := hC.out.1.c9
        have x21 := hC.out.2.1.c1
        have x25 := hC.out.2.1.c5
        have x26 := hC.out.2.1.c6
        have x27 := hC.out.2.1.c7
        have x28 := hC.out.2.1.c8
        have x29 := hC.out.2.1.c9
        clear r0 r1 r2 r3 r4 r5 r6 r7 r8 r9 t0 t1 t2 t3 t4 t5 t6 t7 t8 t9 hC HA1 HA2 HB1 HB2 hJ ba2 bb2
        have hj6 : (j : Int) + 1 ≤ 1000000 := by omega
        have hj0 : (0 : Int) ≤ (j : Int) := by omega
        by_cases hzz : yz = yz'
        · subst hzz
          have hs1 := HS.out
          rw [decide_eq_true rfl, Bool.true_and] at hs1
          obtain ⟨c, hc⟩ : ∃ c, decide (cn ⟨K, N, X, A⟩ ⟨K', N', X', A'⟩ = 0) = c := ⟨_, rfl⟩
          try dsimp only at hs1
          rw [hc] at hs1
          have HS1 := Fact.mk hs1
          have HC := Fact.mk hc
          clear hs1 hc HS
          have hbq : (yz != yz) = false := by simp
          cases c
          · have HR : Fact (false = r) := ⟨HS1.out⟩
            clear HS1
            go_wp2_with (go_at_call 30; refine (same_node (d := ⟨K, N, X, A⟩) (d' := ⟨K', N', X', A'⟩) false HC HC1 HC2).mono ?_; rintro e w5 ⟨rfl, hb5⟩)
            go_ret
            exact ⟨ret_bool HR.out, HJ.out.below.trans (hb5.mono HJ.out.below.size)⟩
          · go_wp2_with (go_at_call 30; refine (same_node (d := ⟨K, N, X, A⟩) (d' := ⟨K', N', X', A'⟩) true HC HC1 HC2).mono ?_; rintro e w5 ⟨rfl, hb5⟩)
            try go_wp2_with fail
            have HJ5 := Fact.mk (HJ.out.up hb5)
            go_roundg g'
            case measure => omega
            case rel => exact ⟨j + 1, by go_num, by omega, by omega, HJ5, ⟨by rw [← Nat.add_assoc, ← Nat.add_assoc, hp, hq]; exact HS1.out⟩⟩
        · have HR : Fact (false = r) := ⟨by rw [← HS.out, decide_eq_false hzz]; rfl⟩
          have hbq : (yz != yz') = true := by simp [hzz]
          clear HS
          go_wp2_with fail
          go_ret
          exact ⟨ret_bool HR.out, HJ.out.below⟩
end Go.Proofs.Ytkojhgagkoeeiaa
end

/- firstSame: the first one of these that is free and the same. -/
section
set_option linter.unusedVariables false
set_option linter.unusedSimpArgs false
namespace Go.Proofs.Ytkojhgagkoeeiaa
open Go.Deep (BT)
open Go.RowKit Go.Shelf M

/-- a list of numbers, nil or one of its own -/
structure IL (w : World) (a : Option Addr) (n c : Nat) (l : List Nat) : Prop where
  len : l.length = n
  le : n ≤ c
  mx : c ≤ maxLen
  at_ : l = [] ∨ ∃ g, a = some ⟨g, 0, none⟩ ∧ ∀ (i x : Nat), l[i]? = some x → w.cell? ⟨g, i, none⟩ = some (.int .i64 x)
theorem IL.keep {T : Nat → Prop} {w w' : World} {a : Option Addr} {n c : Nat} {l : List Nat} (h : IL w a n c l) (hk : Kept T w w') (hT : ∀ g, a = some ⟨g, 0, none⟩ → T g) : IL w' a n c l := by
  refine ⟨h.len, h.le, h.mx, ?_⟩
  rcases h.at_ with h1 | ⟨g, e, h1⟩
  · exact .inl h1
  · exact .inr ⟨g, e, fun i x hx => hk.cell (hT g e) (h1 i x hx)⟩
/-- the number of a find, or -1 -/
def numO : Option Nat → Int
  | some k => k
  | none => -1
theorem same_at19 (T : Nat → Prop) (a b : Sd) (W : World) (ha : SdL T W a) (hb : SdL T W b) (i k z : Nat) (y : Im × Value) (hy : a.its[i]? = some y) (hz : y.1.z = z) (hi : i + z ≤ a.n) (hk : k + z ≤ b.n) (r : Bool)
    (hr : sameB z ((sg (a.its.map (·.1))).drop i) ((sg (b.its.map (·.1))).drop k) = r) :
    Calls Try.prog 67 #[a.v, b.v, .int .i64 i, .int .i64 k] W fun e w' => e = .returned (.bool r) ∧ Below W.heap.size W w' := same_any T a b W ha hb i k z y hy hz hi hk r ⟨hr⟩

structure FI (T : Nat → Prop) (w : World) (a b : Sd) (M : Mt) (W : World) : Prop where
  below : Below w.heap.size w W
  two : Two T W a b M
  size : w.heap.size + 2 ≤ W.heap.size
  ba : Box3 w.heap.size (.slice (some ⟨a.gi, 0, none⟩) a.n a.ci) (.slice (some ⟨a.gk, 0, none⟩) a.n a.ck) (.slice (some ⟨a.gp, 0, none⟩) a.n a.cp) W
  bb : Box3 (w.heap.size + 1) (.slice (some ⟨b.gi, 0, none⟩) b.n b.ci) (.slice (some ⟨b.gk, 0, none⟩) b.n b.ck) (.slice (some ⟨b.gp, 0, none⟩) b.n b.cp) W
theorem FI.up {T : Nat → Prop} {w : World} {a b : Sd} {M : Mt} {W W' : World} (h : FI T w a b M W) (hb : Below W.heap.size W W') : FI T w a b M W' :=
  ⟨h.below.trans (hb.mono h.below.size), h.two.below hb, Nat.le_trans h.size hb.size, h.ba.keep hb, h.bb.keep hb⟩
theorem FI.start {T : Nat → Prop} {w : World} {a b : Sd} {M : Mt} (h : Two T w a b M) (ta tb : Nat) :
    FI T w a b M ((w.alloc (.cells #[.slice (some ⟨a.gi, 0, none⟩) a.n a.ci, .slice (some ⟨a.gk, 0, none⟩) a.n a.ck, .slice (some ⟨a.gp, 0, none⟩) a.n a.cp] ta)).alloc (.cells #[.slice (some ⟨b.gi, 0, none⟩) b.n b.ci, .slice (some ⟨b.gk, 0, none⟩) b.n b.ck, .slice (some ⟨b.gp, 0, none⟩) b.n b.cp] tb)) := by
  have h0 := SI.start h.sa h.sb ta tb
  exact ⟨h0.below, h.below h0.below, h0.size, h0.ba, h0.bb⟩
theorem find_drop {l : List Nat} {p : Nat → Bool} {j x : Nat} (h : l[j]? = some x) : (l.drop j).find? p = if p x then some x else (l.drop (j + 1)).find? p := by
  have hj := (List.getElem?_eq_some_iff.1 h)
  rw [List.drop_eq_getElem_cons hj.1, hj.2, List.find?_cons]
  cases p x <;> rfl

set_option maxRecDepth 20000 in
set_option maxHeartbeats 4000000 in
theorem first_any (T : Nat → Prop) (a b : Sd) (M : Mt) (w : World) (h : Two T w a b M) (i z : Nat) (y : Im × Value) (hy : a.its[i]? = some y) (hz : y.1.z = z) (hi : i + z ≤ a.n)
    (ga : Option Addr) (m cm : Nat) (l : List Nat) (hl : IL w ga m cm l) (hf : ∀ k ∈ l, k + z ≤ b.n ∧ k < b.n) (r : Int)
    (hr : Fact (numO (l.find? fun k => decide (M.b[k]? = some (-1)) && sameB z ((sg (a.its.map (·.1))).drop i) ((sg (b.its.map (·.1))).drop k)) = r)) :
    Calls Try.prog 52 #[a.v, b.v, .int .i64 i, .slice ga m cm] w fun e w' => e = .returned (.int .i64 r) ∧ Below w.heap.size w w' := by
  have hna := h.sa.sm
  have hnb := h.sb.sm
  have hla := h.sa.li
  have hlb := h.sb.li
  have J0 := Fact.mk (FI.start h 59 59)
  have HY := Fact.mk hy
  have HZ := Fact.mk hz
  have HF := Fact.mk hf
  have hll := hl.len
  have hle := hl.le
  have hmx := hl.mx
  have HL0 : Fact (∀ W, Below w.heap.size w W → l = [] ∨ ∃ g, ga = some ⟨g, 0, none⟩ ∧ ∀ (i x : Nat), l[i]? = some x → W.cell? ⟨g, i, none⟩ = some (.int .i64 x)) := ⟨fun W hb => by
    rcases hl.at_ with h1 | ⟨g, e, h1⟩
    · exact .inl h1
    · exact .inr ⟨g, e, fun i x hx => (hb.cell (p := ⟨g, i, none⟩) (World.block_lt_of_cell? w _ (h1 i x hx))).trans (h1 i x hx)⟩⟩
  obtain ⟨P, hP⟩ : ∃ P : Nat → Bool, (fun k => decide (M.b[k]? = some (-1)) && sameB z ((sg (a.its.map (·.1))).drop i) ((sg (b.its.map (·.1))).drop k)) = P := ⟨_, rfl⟩
  rw [hP] at hr
  have HP := Fact.mk hP
  unfold maxLen at hmx
  clear h hz hy hl hf hP
  obtain ⟨n, gi, ci, gq, ck, gp, cp, its, ks⟩ := a
  obtain ⟨n', gi', ci', gq', ck', gp', cp', its', ks'⟩ := b
  dsimp only [Sd.v, sdV] at *
  go_enter Try.func52, Try.ntmps52
  go_upto_region 1 with fail
  obtain ⟨W1, hW1⟩ : ∃ W1, (w.alloc (.cells #[.slice (some ⟨gi, 0, none⟩) n ci, .slice (some ⟨gq, 0, none⟩) n ck, .slice (some ⟨gp, 0, none⟩) n cp] 59)).alloc (.cells #[.slice (some ⟨gi', 0, none⟩) n' ci', .slice (some ⟨gq', 0, none⟩) n' ck', .slice (some ⟨gp', 0, none⟩) n' cp'] 59) = W1 := ⟨_, rfl⟩
  rw [hW1] at J0
  try rw [hW1]
  clear hW1
  go_wp2_with fail
  go_loopg [13] m (fun gf iv wr => ∃ j : Nat, iv = .int .i64 j ∧ j ≤ m ∧ m - j ≤ gf ∧ Fact (FI T w ⟨n, gi, ci, gq, ck, gp, cp, its, ks⟩ ⟨n', gi', ci', gq', ck', gp', cp', its', ks'⟩ M wr) ∧ Fact (numO ((l.drop j).find? P) = r))
  case atStart => exact ⟨0, rfl, Nat.zero_le _, Nat.le_refl _, J0, hr⟩
  case round =>
    obtain ⟨j, rfl, hj, hgf, hJ, hS⟩ := hrel
    by_cases hjz : j = m
    · subst hjz
      have hdec : decide ((j : Int) < (j : Int)) = false := decide_eq_false (by omega)
      have HR : Fact (-1 = r) := ⟨by have h := hS.out; rw [List.drop_eq_nil_of_le (by omega)] at h; exact h⟩
      clear hS hr
      go_wp2_with fail
      go_ret
      exact ⟨ret_int HR.out, hJ.out.below⟩
    · have hlt : j < m := by omega
      have hdec : decide ((j : Int) < (m : Int)) = true := decide_eq_true (by omega)
      obtain ⟨x, hx⟩ : ∃ x, l[j]? = some x := ⟨l[j]'(by omega), by simp⟩
      have hxb := HF.out x (List.mem_of_getElem? hx)
      have hs0 := hS.out
      rw [find_drop hx] at hs0
      obtain ⟨g, hga, hcl⟩ : ∃ g, ga = some ⟨g, 0, none⟩ ∧ wr.cell? ⟨g, j, none⟩ = some (.int .i64 x) := by
        rcases HL0.out wr hJ.out.below with h1 | ⟨g, e, h1⟩
        · rw [h1] at hx; simp at hx
        · exact ⟨g, e, h1 j x hx⟩
      subst hga
      have lb := hJ.out.two.pb.1
      rw [cJ_len] at lb
      dsimp only at lb hxb
      obtain ⟨u, hu⟩ : ∃ u, M.b[x]? = some u := ⟨M.b[x]'(by omega), by simp⟩
      obtain ⟨d1, d2, _, d4, d5, d6, d7⟩ := rowV_at hJ.out.two.pb (cJ_get hu)
      dsimp only at d1 d4 d5 d6 d7
      have bb2 := hJ.out.bb.c2
      have ba0 := hJ.out.ba.c0
      have ba1 := hJ.out.ba.c1
      have ba2 := hJ.out.ba.c2
      have bb0 := hJ.out.bb.c0
      have bb1 := hJ.out.bb.c1
      dsimp only at ba0 ba1 ba2 bb0 bb1 bb2
      have hPx : P x = (decide (M.b[x]? = some (-1)) && sameB z ((sg (its.map (·.1))).drop i) ((sg (its'.map (·.1))).drop x)) := by rw [← HP.out]
      rw [hu] at hPx
      have hx6 : x ≤ 1000000 := by omega
      have HPX := Fact.mk hPx
      have HS := Fact.mk hs0
      obtain ⟨g', rfl⟩ : ∃ g', gk = g' + 1 := ⟨gk - 1, by omega⟩
      clear d2 hu lb hS hr hs0 hPx hx
      by_cases hu1 : u = -1
      · subst hu1
        obtain ⟨c, hc⟩ : ∃ c, sameB z ((sg (its.map (·.1))).drop i) ((sg (its'.map (·.1))).drop x) = c := ⟨_, rfl⟩
        have HC := Fact.mk hc
        have HQ : Fact (P x = c) := ⟨by rw [HPX.out, hc]; simp⟩
        clear hc HPX
        have HCALL : Fact (Calls Try.prog 67 #[sdV n gi ci gq ck gp cp, sdV n' gi' ci' gq' ck' gp' cp', .int .i64 i, .int .i64 x] wr fun e w' => e = .returned (.bool c) ∧ Below wr.heap.size wr w') := ⟨same_at19 T ⟨n, gi, ci, gq, ck, gp, cp, its, ks⟩ ⟨n', gi', ci', gq', ck', gp', cp', its', ks'⟩ wr hJ.out.two.sa hJ.out.two.sb i x z y HY.out HZ.out hi hxb.1 c HC.out⟩
        have h1q : ((-1 : Int) == -1) = true := rfl
        cases c
        · have HR := Fact.mk (show numO ((l.drop (j + 1)).find? P) = r by have h := HS.out; rw [HQ.out] at h; exact h)
          clear HS HQ HC
          go_wp2_with (go_at_call 67; refine HCALL.out.mono ?_; rintro e w5 ⟨rfl, hb5⟩)
          have HJ5 := Fact.mk (hJ.out.up hb5)
          go_roundg g'
          case measure => omega
          case rel => exact ⟨j + 1, by go_num, by omega, by omega, HJ5, HR⟩
        · have HR := Fact.mk (show (x : Int) = r by have h := HS.out; rw [HQ.out] at h; exact h)
          clear HS HQ HC
          go_wp2_with (go_at_call 67; refine HCALL.out.mono ?_; rintro e w5 ⟨rfl, hb5⟩)
          go_ret
          exact ⟨ret_int HR.out, hJ.out.below.trans (hb5.mono hJ.out.below.size)⟩
      · have hq : (u == -1) = false := by simp [hu1]
        have HR := Fact.mk (show numO ((l.drop (j + 1)).find? P) = r by have h := HS.out; rw [HPX.out, decide_eq_false (by simp [hu1])] at h; exact h)
        clear HS HPX
        go_wp2_with fail
        go_roundg g'
        case measure => omega
        case rel => exact ⟨j + 1, by go_num, by omega, by omega, hJ, HR⟩
end Go.Proofs.Ytkojhgagkoeeiaa
end

/- The map from keys to the numbers of the nodes that have them. -/
section
set_option linter.unusedVariables false
namespace Go.Proofs.Ytkojhgagkoeeiaa
open Go.RowKit
open Go.ChangeMaps (setBlock heap_setBlock_same heap_setBlock_other)
open Go.WideElems (Fit)

structure IsU8 (x : Int) : Prop where
  out : (Lit.int .u64 x).wf = true
structure KOk (k : Int × Int) : Prop where
  a : IsU8 k.1
  b : IsU8 k.2
def kW (k : Int × Int) : Value := .agg #[.int .u64 k.1, .int .u64 k.2]
theorem kW_inj {k k' : Int × Int} (e : kW k = kW k') : k = k' := by
  simp only [kW, Value.agg.injEq, Array.mk.injEq, List.cons.injEq, Value.int.injEq, true_and, and_true] at e
  exact Prod.ext e.1 e.2
theorem laidOut : laidOutB Try.prog = true := by kernel_rfl
theorem rowW : 90 < Try.prog.types.size := by rw [show Try.prog.types.size = 147 from by kernel_rfl]; decide
theorem wideW : (match Try.prog.underlying 90 with | some (.array _ _) | some (.struct _) => true | _ => false) = true := by kernel_rfl
theorem deepW : Try.prog.keyType 90 = true := by kernel_rfl
set_option maxRecDepth 20000 in
theorem lawW : WideMaps.KeyLaw Try.prog 90 := deep_law_laid laidOut (m := 6) (by omega) rowW (by kernel_rfl) wideW
theorem keyedW : Maps.Keyed Try.prog 90 := Maps.Keyed.of_law lawW
theorem cellsKy : Try.prog.cellsOf 90 = 2 := by kernel_rfl
theorem cellsU : Try.prog.cellsOf 88 = 1 := by kernel_rfl
theorem kl_u (d : Nat) (x : Int) (h : IsU8 x) : Try.prog.keyLits (d + 1) 88 [.int .u64 x] = some [.int .u64 x] := by
  unfold Program.keyLits
  simp [Try.underlying88, h.out]
theorem key_litW (k : Int × Int) (h : KOk k) : ∃ l, keyOf Try.prog 90 (kW k) = some l := by
  obtain ⟨d, hd⟩ : ∃ d, Try.prog.types.size + 1 = d + 2 := ⟨146, by kernel_rfl⟩
  have hf : (kW k).formed Try.prog 90 = true := by simp [kW, Value.formed, Try.underlying90, cellsKy]
  have hkl : ∃ ls, Try.prog.keyLits (d + 2) 90 [.int .u64 k.1, .int .u64 k.2] = some ls := by
    unfold Program.keyLits
    simp [Try.underlying90, cellsKy, cellsU, List.range_succ, kl_u _ _ h.a, kl_u _ _ h.b]
  obtain ⟨ls', hls'⟩ := hkl
  refine ⟨.string (keyBytes ls'), ?_⟩
  unfold keyOf
  simp only [Try.underlying90, deepW, hf, hd]
  simp [kW, Value.cells, hls']
theorem key_neW {k k' : Int × Int} (h : k ≠ k') {l l' : Lit} (hl : keyOf Try.prog 90 (kW k) = some l) (hl' : keyOf Try.prog 90 (kW k') = some l') : l ≠ l' := by
  rintro rfl
  exact h (kW_inj (keyedW.inj hl hl'))

/-- numbers as what a list reads as -/
def DL (l : List Nat) (d : DataW Unit) : Prop := (d = .nil ∧ l = []) ∨ d = .slice (ChangeShapes.lits .i64 (l.map fun (i : Nat) => (i : Int))) []
/-- a map from keys to lists of numbers, each in rows of its own -/
def MapG (w : World) (base b n : Nat) (f : Int × Int → List Nat) : Prop :=
  ∃ D : DataW Unit, w.ownsGroups Try.prog 90 base 3 .i64 b n D ∧ ∀ k, KOk k → ∀ l, keyOf Try.prog 90 (kW k) = some l → DL (f k) (D.atKey l .nil)
theorem MapG.made (w : World) : MapG (w.alloc (.map #[] 0)) (w.heap.size + 1) w.heap.size 0 (fun _ => []) :=
  ⟨.map [], World.ownsGroups_made _ _ _ _ _, fun k _ l _ => .inl ⟨rfl, rfl⟩⟩
theorem lits_inj {l l' : List Int} (h : ChangeShapes.lits (H := Unit) .i64 l = ChangeShapes.lits .i64 l') : l = l' := by
  unfold ChangeShapes.lits at h
  exact (List.map_inj_right (fun a b hab => by cases hab; rfl)).1 h
theorem DL.of {l : List Nat} {v : Value} {zs : List Int} {w : World} {base : Nat} (h : DL l (rowDatum .i64 v zs)) (ho : w.ownsInts base 3 .i64 v zs) : zs = l.map fun (i : Nat) => (i : Int) := by
  rcases ho.datum (H := Unit) with ⟨e, hz⟩ | e
  · rw [e] at h
    rcases h with ⟨_, hl⟩ | h
    · rw [hl, hz]; rfl
    · cases h
  · rw [e] at h
    rcases h with ⟨h, _⟩ | h
    · cases h
    · have h2 := (DataW.slice.inj h).1
      exact lits_inj h2
theorem zeroW (w : World) : (zeroValue 39).run Try.prog w = .ok (.slice none 0 0) w := by kernel_rfl
/-- which nodes have a key -/
theorem MapG.look {w : World} {base b n : Nat} {f : Int × Int → List Nat} (h : MapG w base b n f) (hn : n < maxLen) {k : Int × Int} (hk : KOk k) :
    ∃ a c, (Instr.lookup 62 (.map (some b)) (kW k) false).run Try.prog w = .ok (.slice a (f k).length c) w ∧ IL w a (f k).length c (f k) := by
  obtain ⟨D, h1, h2⟩ := h
  obtain ⟨l, hl⟩ := key_litW k hk
  obtain ⟨v, zs, hr, hat, ho, hzl, _⟩ := h1.at keyedW Try.underlying62 (zeroW w) hn hl
  have hd := h2 k hk l hl
  rw [hat] at hd
  have hz := DL.of hd ho
  subst hz
  rcases ho.1.2 with ⟨e, h0⟩ | ⟨g, cap, cur, e, hg, hh, hc1, hc2, hs, ht⟩
  · subst e
    have : (f k).length = 0 := by simpa using h0
    rw [this]
    exact ⟨none, 0, hr, by rw [this], Nat.le_refl _, by unfold maxLen; omega, .inl (List.length_eq_zero_iff.1 this)⟩
  · subst e
    rw [List.length_map] at hr hc1
    refine ⟨_, cap, hr, rfl, hc1, hc2, .inr ⟨g, rfl, fun i x hx => ?_⟩⟩
    have hr2 := ho.1.cellAt i (by have := (List.getElem?_eq_some_iff.1 hx).1; simp; omega)
    rw [hr2]
    simp [hx]
theorem upd_like {H : Type} {P : Program} {t k E : TypeId} {R : Value → Option (DataW H × List MemPlace)} (K : WideMaps.KeyLaw P k) (ht : P.underlying t = some (.map k E)) {w w' : World} {b : Nat} {es : Array MapEntry} {clock : Nat} (hb : w.heap[b]? = some (.map es clock)) (hb' : w'.heap[b]? = some (.map es clock)) (F : Fit P k R es clock)
    {key : Value} {kl : Lit} (hkey : keyOf P k key = some kl) {val : Value} {es' : Array MapEntry} {clock' : Nat} (h : (Instr.mapUpdate t (.map (some b)) key val).run P w = .ok () (setBlock w b (.map es' clock'))) :
    (Instr.mapUpdate t (.map (some b)) key val).run P w' = .ok () (setBlock w' b (.map es' clock')) := by
  have same : ∀ o : Obj, setBlock w b (.map es' clock') = setBlock w b o → o = .map es' clock' := fun o e => by
    have e1 := congrArg (fun u : World => u.heap[b]?) e
    rw [heap_setBlock_same hb, heap_setBlock_same hb] at e1
    exact (Option.some.inj e1).symm
  rcases K.find w hkey es.toList F.keys with ⟨q1, q2⟩ | ⟨j, e0, q1, q2, q3⟩
  · have r : (Instr.mapUpdate t (.map (some b)) key val).run P w = .ok () (setBlock w b (.map (es.push ⟨key, val, clock⟩) (clock + 1))) := by
      simp [Instr.mapUpdate, run_underlying ht, MapKept.run_getObj_map hb, K.check w false hkey, q1, MapKept.run_setObj_map _ hb, Result.andThen, setBlock]
    rw [r] at h
    have e := same _ (Result.ok.inj h).2.symm
    rcases K.find w' hkey es.toList F.keys with ⟨p1, _⟩ | ⟨j', e1, _, p2, p3⟩
    · rw [← e]
      simp [Instr.mapUpdate, run_underlying ht, MapKept.run_getObj_map hb', K.check w' false hkey, p1, MapKept.run_setObj_map _ hb', Result.andThen, setBlock]
    · exact absurd p3 (q2 e1 (List.mem_of_getElem? p2))
  · have hj : es[j]? = some e0 := by simpa using q2
    have r : (Instr.mapUpdate t (.map (some b)) key val).run P w = .ok () (setBlock w b (.map (es.modify j (fun e' => { e' with key := key, val := val })) clock)) := by
      simp [Instr.mapUpdate, run_underlying ht, MapKept.run_getObj_map hb, K.check w false hkey, q1, hj, q3, K.stays w hkey, MapKept.run_setObj_map _ hb, Result.andThen, setBlock]
    rw [r] at h
    have e := same _ (Result.ok.inj h).2.symm
    rcases K.find w' hkey es.toList F.keys with ⟨_, p2⟩ | ⟨j', e1, p1, p2, p3⟩
    · exact absurd q3 (p2 e0 (List.mem_of_getElem? q2))
    · have hjj : j' = j := by
        have hn : es.toList.Pairwise (fun x y => x.key ≠ y.key) := ((MapKept.stamped_iff es clock).1 F.stamped).2.2
        have hp := List.pairwise_iff_getElem.1 hn
        obtain ⟨l1, m1⟩ := List.getElem?_eq_some_iff.1 q2
        obtain ⟨l2, m2⟩ := List.getElem?_eq_some_iff.1 p2
        rcases Nat.lt_trichotomy j' j with c | c | c
        · exact absurd (by rw [m1, m2, p3, q3]) (hp j' j l2 l1 c)
        · exact c
        · exact absurd (by rw [m1, m2, p3, q3]) (hp j j' l1 l2 c)
      subst hjj
      have hj' : es[j']? = some e1 := by simpa using p2
      rw [← e]
      simp [Instr.mapUpdate, run_underlying ht, MapKept.run_getObj_map hb', K.check w' false hkey, p1, hj', p3, K.stays w' hkey, MapKept.run_setObj_map _ hb', Result.andThen, setBlock]

theorem grown_setB {w : World} {b : Nat} {es : Array MapEntry} {clock : Nat} (h : w.heap[b]? = some (.map es clock)) (o : Obj) : w.grownBy (setBlock w b o) (some b) :=
  ⟨rfl, rfl, rfl, by simp [setBlock], fun i _ hi => heap_setBlock_other h _ (fun e => hi (by rw [e]))⟩
open Classical in
/-- **l[k] = append(l[k], x), its three parts**: the entry; an append behind it; the store. -/
theorem MapG.entry {w : World} {base b n : Nat} {f : Int × Int → List Nat} (h : MapG w base b n f) (hn : n < maxLen) {k : Int × Int} (hk : KOk k) :
    ∃ v0 st w1, (Instr.mapEntry 62 (.map (some b)) (kW k)).run Try.prog w = .ok (.tuple #[v0, goInt st]) w1 ∧ w1.ownsInts base 3 .i64 v0 ((f k).map fun (i : Nat) => (i : Int)) ∧ (f k).length ≤ n ∧ w.grownBy w1 (some b) ∧ b < base ∧ w1.heap.size = w.heap.size ∧
      ∀ (w2 : World) (v' : Value) (x : Nat), w1.grownBy w2 v0.ownBlock → w2.ownsInts base 3 .i64 v' ((f k ++ [x]).map fun (i : Nat) => (i : Int)) → (v'.ownBlock = v0.ownBlock ∨ ∃ g, v'.ownBlock = some g ∧ w1.heap.size ≤ g) →
        ∃ w3, (Instr.entryStore 62 (.map (some b)) (goInt st) v').run Try.prog w2 = .ok () w3 ∧ MapG w3 base b (n + 1) (fun z => if z = k then f k ++ [x] else f z) ∧ w2.grownBy w3 (some b) := by
  obtain ⟨l, hl⟩ := key_litW k hk
  obtain ⟨D, h1, h2⟩ := h
  obtain ⟨es, clock, hb, F, hs, hD, hbb, hlen, hap⟩ := h1
  have h1 : w.ownsGroups Try.prog 90 base 3 .i64 b n D := ⟨es, clock, hb, F, hs, hD, hbb, hlen, hap⟩
  obtain ⟨v, zs, hrun, hat, ho, hzl, hback⟩ := h1.at keyedW Try.underlying62 (zeroW w) hn hl
  have hd := h2 k hk l hl
  rw [hat] at hd
  have hz := DL.of hd ho
  subst hz
  obtain ⟨v0, st, es1, clock1, hr, hor, hst⟩ := WideElems.entry_then_store lawW Try.underlying62 zeroW hb F hl
  have hvb : v.ownBlock ≠ some b := fun e => by have := (ho.1.lt b e).1; omega
  have hv : v0 = v := by
    rcases lawW.find w hl es.toList F.keys with ⟨q1, q2⟩ | ⟨j, e0, q1, q2, q3⟩
    · rcases hor with ⟨e1, he1, he2, _⟩ | ⟨_, e⟩
      · exact absurd he2 (q2 e1 he1)
      · have hv2 : (Instr.lookup 62 (.map (some b)) (kW k) false).run Try.prog w = .ok (.slice none 0 0) w := by
          simp [Instr.lookup, run_underlying Try.underlying62, MapKept.run_getObj_map hb, lawW.check w _ hl, q1]
        rw [hrun] at hv2
        rw [e]
        exact (Result.ok.inj hv2).1.symm
    · have hj : es[j]? = some e0 := by simpa using q2
      have hv2 : (Instr.lookup 62 (.map (some b)) (kW k) false).run Try.prog w = .ok e0.val w := by
        simp [Instr.lookup, run_underlying Try.underlying62, MapKept.run_getObj_map hb, lawW.check w _ hl, q1]
      rw [hrun] at hv2
      have e2 := (Result.ok.inj hv2).1
      have hr2 : ∃ W', (Instr.mapEntry 62 (.map (some b)) (kW k)).run Try.prog w = .ok (.tuple #[e0.val, goInt e0.born]) W' := by
        simp [Instr.mapEntry, run_underlying Try.underlying62, MapKept.run_getObj_map hb, lawW.check w false hl, q1, hj, q3, lawW.stays w hl, MapKept.run_setObj_map _ hb, Result.andThen]
      obtain ⟨W', hr2⟩ := hr2
      rw [hr] at hr2
      have e3 := (Result.ok.inj hr2).1
      simp only [Value.tuple.injEq, Array.mk.injEq, List.cons.injEq, and_true] at e3
      rw [e3.1, e2]
  subst hv
  have hb1 : (setBlock w b (.map es1 clock1)).heap[b]? = some (.map es1 clock1) := heap_setBlock_same hb _
  have hsz : (setBlock w b (.map es1 clock1)).heap.size = w.heap.size := by simp [setBlock]
  refine ⟨v0, st, _, hr, ⟨ho.1.kept (grown_setB hb _) (.inr hvb), ho.2⟩, by simpa using hzl, grown_setB hb _, hbb, hsz, fun w2 v' x hg hown hloc => ?_⟩
  have hblt : b < w.heap.size := (Array.getElem?_eq_some_iff.1 hb).1
  have hb2 : w2.heap[b]? = some (.map es1 clock1) := (hg.block b (by omega) (fun e => hvb e.symm)).trans hb1
  obtain ⟨es', clock', s1, s2⟩ := hst w2 v' hb2
  -- the same world with the block as it was ahead of the entry
  obtain ⟨wp, hwp⟩ : ∃ wp, wp = setBlock w2 b (.map es clock) := ⟨_, rfl⟩
  have hbp : wp.heap[b]? = some (.map es clock) := by rw [hwp]; exact heap_setBlock_same hb2 _
  have hop : ∀ i, i ≠ b → wp.heap[i]? = w2.heap[i]? := fun i hi => by rw [hwp]; exact heap_setBlock_other hb2 _ hi
  have hsp : wp.heap.size = w2.heap.size := by rw [hwp]; simp [setBlock]
  have hgp : w.grownBy wp v0.ownBlock := by
    refine ⟨by rw [hwp]; exact hg.os, by rw [hwp]; exact hg.tape, by rw [hwp]; exact hg.output, by rw [hsp]; have := hg.size; omega, fun i hi hne => ?_⟩
    by_cases e : i = b
    · subst e; rw [hbp, hb]
    · rw [hop i e, hg.block i (by omega) hne]
      exact heap_setBlock_other hb _ e
  have hvb' : v'.ownBlock ≠ some b := fun e => by have := (hown.1.lt b e).1; omega
  have hownp : wp.ownsInts base 3 .i64 v' ((f k ++ [x]).map fun (i : Nat) => (i : Int)) :=
    ⟨own_block hown.1 (fun i e _ => hop i (fun e' => hvb' (by rw [← e, e']))), hown.2⟩
  obtain ⟨w3, m1, m2, m3⟩ := hback wp v' _ hgp hownp (by simp at hzl ⊢; exact hzl) (hloc.imp id (fun ⟨g, e, hge⟩ => ⟨g, e, by omega⟩))
  have m4 := upd_like lawW Try.underlying62 hb hbp F hl s2
  rw [m1] at m4
  have m5 : w3 = setBlock wp b (.map es' clock') := (Result.ok.inj m4).2
  have m6 : setBlock wp b (.map es' clock') = setBlock w2 b (.map es' clock') := by rw [hwp]; simp [setBlock]
  refine ⟨_, s1, ?_, grown_setB hb2 _⟩
  rw [← m6, ← m5]
  refine ⟨_, m2, fun z hz l' hl' => ?_⟩
  by_cases e : z = k
  · subst e
    rw [hl] at hl'
    cases hl'
    simp only [if_true]
    rw [Maps.atKey_put_same ⟨_, hD⟩ (keyedW.key hl)]
    exact .inr (hownp.datum_pos (by simp))
  · simp only [e, if_false]
    rw [Maps.atKey_put_other (key_neW e hl' hl)]
    exact h2 z hz l' hl'
end Go.Proofs.Ytkojhgagkoeeiaa
end

/- places: the numbers of the nodes that have a key. -/
section
set_option linter.unusedVariables false
set_option linter.unusedSimpArgs false
namespace Go.Proofs.Ytkojhgagkoeeiaa
open Go.Deep (BT)
open Go.RowKit Go.Shelf M
open Go.WideElems (Fit rg rd_val)

theorem MapG.keep {w w' : World} {base b n : Nat} {f : Int × Int → List Nat} (h : MapG w base b n f) (hb : w'.heap[b]? = w.heap[b]?) (hr : ∀ g, base ≤ g → g < w.heap.size → w'.heap[g]? = w.heap[g]?) : MapG w' base b n f := by
  obtain ⟨D, ⟨es, clock, h1, F, hs, hD, hbb, hlen, hap⟩, h2⟩ := h
  have up : ∀ v zs, w.ownsInts base 3 .i64 v zs → w'.ownsInts base 3 .i64 v zs := fun v zs ho => ⟨own_block ho.1 (fun g e hg => hr g (ho.1.lt g e.symm).1 hg), ho.2⟩
  have hst : ∀ x ∈ es.toList, ∀ z, rowElem (H := Unit) w base 3 .i64 x.val = some z → rowElem w' base 3 .i64 x.val = some z := fun x hx z hz => by
    obtain ⟨zs, ho, rfl⟩ := rowElem_inv hz
    exact rowElem_mk (up _ _ ho)
  obtain ⟨F1, hm, _⟩ := F.stay hst
  refine ⟨D, ⟨es, clock, hb.trans h1, F1, hs, by rw [hm]; exact hD, hbb, fun x hx zs ho => ?_, hap⟩, h2⟩
  obtain ⟨y, hy⟩ := F.reads x hx
  obtain ⟨z, hz, _⟩ := rd_val hy
  obtain ⟨zs0, ho0, _⟩ := rowElem_inv hz
  rw [ho.unique (up _ _ ho0)]
  exact hlen x hx zs0 ho0
theorem MapG.mono {w : World} {base b n n' : Nat} {f : Int × Int → List Nat} (h : MapG w base b n f) (hn : n ≤ n') : MapG w base b n' f := by
  obtain ⟨D, ⟨es, clock, h1, F, hs, hD, hbb, hlen, hap⟩, h2⟩ := h
  exact ⟨D, ⟨es, clock, h1, F, Nat.le_trans hs hn, hD, hbb, fun x hx zs ho => Nat.le_trans (hlen x hx zs ho) hn, hap⟩, h2⟩
theorem MapG.lt {w : World} {base b n : Nat} {f : Int × Int → List Nat} (h : MapG w base b n f) : b < base ∧ b < w.heap.size := by
  obtain ⟨D, ⟨es, clock, h1, F, hs, hD, hbb, hlen, hap⟩, h2⟩ := h
  exact ⟨hbb, (Array.getElem?_eq_some_iff.1 h1).1⟩
/-- an append of which is known what it says -/
theorem wpA19 {P : Program} (w : World) {ops : Array Oper} {rest : List Oper} {o : Oper} {a : Act} {Q : Exit → Act → World → Prop} (hgd : o.guard = none) (s x : Operand) (t : TypeId)
    (ho : o.op = .call { callee := .builtin .append, args := #[s, x], argTypes := #[t, t] }) (ty : TypeId) (hty : o.type = ty) (v u : Value) (hs : a.eval s = v) (hx : a.eval x = u) {v' : Value} {w' : World}
    (hr : (Builtin.append_ #[t, t] ty #[v, u]).run P w = .ok v' w') (h : wpList P ops Q rest (a.put o.dst v') w') : wpList P ops Q (o :: rest) a w := by
  subst hty
  refine wpList_plain hgd fun K hK => ?_
  unfold Oper.wp execOp
  simp only [ho, resolve, invoke, builtin, Sem.run_bind, Sem.run_pure, Result.andThen_ok, List.map_toArray, List.map_cons, List.map_nil, hs, hx, hr]
  exact hK _ _ h
theorem int_cell (w : World) (x : Int) : ∀ (j : Nat) (u : Value), ([Value.int .i64 x])[j]? = some u → (w.alloc (.cells #[.int .i64 x] 3)).cell? ((⟨w.heap.size, 0, none⟩ : Addr).add j) = some u := by
  intro j u hu
  match j, hu with
  | 0, hu => cases hu; exact World.cell?_alloc_new w _ _ 0
  | j + 1, hu => simp at hu
open Classical in
/-- **one number more under its key** -/
theorem MapG.round {w : World} {base b n : Nat} {f : Int × Int → List Nat} (h : MapG w base b n f) (hn : n ≤ 1000000) (hbs : base ≤ w.heap.size) {k : Int × Int} (hk : KOk k) (x : Nat) (hx : x ≤ 1000000) :
    ∃ v0 st w1 v' w2 w3, (Instr.mapEntry 62 (.map (some b)) (kW k)).run Try.prog (w.alloc (.cells #[.int .i64 x] 3)) = .ok (.tuple #[v0, goInt st]) w1 ∧
      (Builtin.append_ #[39, 39] 39 #[v0, .slice (some ⟨w.heap.size, 0, none⟩) 1 1]).run Try.prog w1 = .ok v' w2 ∧
      (Instr.entryStore 62 (.map (some b)) (goInt st) v').run Try.prog w2 = .ok () w3 ∧
      MapG w3 base b (n + 1) (fun z => if z = k then f k ++ [x] else f z) ∧ Kept (fun g => g < base ∧ g ≠ b) w w3 := by
  obtain ⟨W2, hW2⟩ : ∃ W2, w.alloc (.cells #[.int .i64 x] 3) = W2 := ⟨_, rfl⟩
  have hc2 := int_cell w x
  have hz2 : W2.heap.size = w.heap.size + 1 := by rw [← hW2]; simp
  have hbk : ∀ i, i < w.heap.size → W2.heap[i]? = w.heap[i]? := fun i hi => by rw [← hW2]; exact Below.heap_alloc _ _ _ hi
  have hK2 : Kept (fun g => g < base ∧ g ≠ b) w W2 := by rw [← hW2]; exact (Kept.refl _ w).alloc _
  rw [hW2] at hc2 ⊢
  have hb := h.lt
  have hG2 : MapG W2 base b n f := h.keep (hbk b hb.2) (fun g _ hg => hbk g hg)
  obtain ⟨v0, st, w1, hr, ho, hl, hg1, hbb, hs1, hst⟩ := hG2.entry (by unfold maxLen; omega) hk
  have hbw1 : w1.heap[w.heap.size]? = W2.heap[w.heap.size]? := hg1.block _ (by omega) (fun e => by have := Option.some.inj e; omega)
  obtain ⟨i0, hii, hz0, hz1, hz3⟩ := info_parts infoInt
  have hlen : ((f k).map fun (i : Nat) => (i : Int)).length = (f k).length := by simp
  obtain ⟨v', w2, ha, hown, hgr, _, hloc⟩ := run_append_own_at (P := Try.prog) (w := w1) base 39 39 3 i0 _ 1 8 Try.underlying39 hii hz0 hz1 hz3 rfl (by decide) v0 _ _ ho.1 ⟨w.heap.size, 0, none⟩ 1 1 [.int .i64 x] rfl
    (fun j u hu => by
      match j, hu with
      | 0, hu => exact (World.cell?_of_block (w := W2) (a := ⟨w.heap.size, 0, none⟩) hbw1).trans (hc2 0 u hu)
      | j + 1, hu => simp at hu) (by simp [Value.oneCell']) (by rw [hlen]; unfold maxLen; omega) (by rw [hlen]; omega) (by omega)
  have hown' : w2.ownsInts base 3 .i64 v' ((f k ++ [x]).map fun (i : Nat) => (i : Int)) := by
    have h1 := ho.appended (x := (x : Int)) hown (WalkArith.wf_i64 (by omega))
    rw [List.map_append]
    exact h1
  obtain ⟨w3, hs, hm, hg3⟩ := hst w2 v' x hgr hown' (hloc.imp id (fun e => ⟨_, e, by omega⟩))
  refine ⟨v0, st, w1, v', w2, w3, hr, ha, hs, hm, ?_⟩
  refine ((hK2.grown hg1 (fun g hg _ e => hg.2 (Option.some.inj e))).grown hgr (fun g hg hl e => ?_)).grown hg3 (fun g hg _ e => hg.2 (Option.some.inj e))
  have := (ho.1.lt g e.symm).1
  omega
/-- the numbers that have a key, among those below i -/
def idsT (ks : List (Int × Int)) (i : Nat) (kk : Int × Int) : List Nat := (List.range' 1 (i - 1)).filter fun k => decide (ks[k]? = some kk)
theorem idsT_step {ks : List (Int × Int)} {i : Nat} {y : Int × Int} (hi : 1 ≤ i) (h : ks[i]? = some y) : idsT ks (i + 1) = fun z => if z = y then idsT ks i y ++ [i] else idsT ks i z := by
  funext z
  have e : List.range' 1 (i + 1 - 1) = List.range' 1 (i - 1) ++ [i] := by
    rw [show i + 1 - 1 = (i - 1) + 1 by omega, List.range'_concat]
    congr 2
    omega
  unfold idsT
  rw [e, List.filter_append]
  by_cases hz : z = y
  · subst hz
    rw [if_pos rfl]
    simp [h]
  · rw [if_neg hz]
    have : (ks[i]? = some z) = False := by rw [h]; simp; exact fun e => hz e.symm
    simp [this]
theorem idsT_one (ks : List (Int × Int)) : idsT ks 1 = fun _ => [] := by funext z; rfl
theorem idsT_all (ks : List (Int × Int)) : idsT ks ks.length = idsK ks := rfl
theorem key_at {w : World} {B g n c : Nat} {ks : List (Int × Int)} (h : w.ownsRow B 90 2 (.slice (some ⟨g, 0, none⟩) n c) n (c2K ks)) {i : Nat} {y : Int × Int} (hy : ks[i]? = some y) :
    w.cell? ⟨g, i * 2, none⟩ = some (.int .u64 y.1) ∧ w.cell? ⟨g, i * 2 + 1, none⟩ = some (.int .u64 y.2) ∧ n ≤ c ∧ c ≤ maxLen :=
  ⟨(rowC_at h (c2K_get hy).1).1, (rowC_at h (c2K_get hy).2).1, (rowC_at h (c2K_get hy).1).2.2.2.2.1, (rowC_at h (c2K_get hy).1).2.2.2.2.2⟩
/-- what stands while the map grows -/
structure PI (w : World) (n gi ci gk ck gp cp : Nat) (ks : List (Int × Int)) (i : Nat) (W : World) : Prop where
  below : Below w.heap.size w W
  size : w.heap.size + 2 ≤ W.heap.size
  box : Box3 w.heap.size (.slice (some ⟨gi, 0, none⟩) n ci) (.slice (some ⟨gk, 0, none⟩) n ck) (.slice (some ⟨gp, 0, none⟩) n cp) W
  map : MapG W (w.heap.size + 2) (w.heap.size + 1) (i - 1) (idsT ks i)
theorem PI.start (w : World) (n gi ci gk ck gp cp : Nat) (ks : List (Int × Int)) (ty : Nat) : PI w n gi ci gk ck gp cp ks 1 ((w.alloc (.cells #[.slice (some ⟨gi, 0, none⟩) n ci, .slice (some ⟨gk, 0, none⟩) n ck, .slice (some ⟨gp, 0, none⟩) n cp] ty)).alloc (.map #[] 0)) := by
  have hm := MapG.made (w.alloc (.cells #[.slice (some ⟨gi, 0, none⟩) n ci, .slice (some ⟨gk, 0, none⟩) n ck, .slice (some ⟨gp, 0, none⟩) n cp] ty))
  rw [show (w.alloc (.cells #[.slice (some ⟨gi, 0, none⟩) n ci, .slice (some ⟨gk, 0, none⟩) n ck, .slice (some ⟨gp, 0, none⟩) n cp] ty)).heap.size = w.heap.size + 1 by simp] at hm
  exact ⟨((Below.refl _ w).alloc (Nat.le_refl _) _).alloc (by simp) _, by simp, (Box3.new w _ _ _ ty).same (Below.heap_alloc _ _ _ (by simp)), by rw [idsT_one]; exact hm⟩
theorem PI.next {w : World} {n gi ci gk ck gp cp : Nat} {ks : List (Int × Int)} {i : Nat} {W W3 : World} (h : PI w n gi ci gk ck gp cp ks i W) (hi : 1 ≤ i) {y : Int × Int} (hy : ks[i]? = some y)
    (hm : MapG W3 (w.heap.size + 2) (w.heap.size + 1) (i - 1 + 1) (fun z => if z = y then idsT ks i y ++ [i] else idsT ks i z)) (hk : Kept (fun g => g < w.heap.size + 2 ∧ g ≠ w.heap.size + 1) W W3) : PI w n gi ci gk ck gp cp ks (i + 1) W3 :=
  ⟨h.below.trans (hk.below h.below.size (fun g hg => ⟨by omega, by omega⟩)), Nat.le_trans h.size hk.size, h.box.same (hk.block _ h.box.lt ⟨by omega, by omega⟩), by rw [idsT_step hi hy, show i + 1 - 1 = i - 1 + 1 by omega]; exact hm⟩

set_option maxRecDepth 20000 in
set_option maxHeartbeats 4000000 in
theorem places_any (n gi ci gq ck gp cp : Nat) (ks : List (Int × Int)) (w : World) (hrow : w.ownsRow 0 90 2 (.slice (some ⟨gq, 0, none⟩) n ck) n (c2K ks)) (hl : ks.length = n) (h1 : 1 ≤ n) (hn : n ≤ 1000000) (hok : ∀ y ∈ ks, KOk y) :
    Calls Try.prog 33 #[sdV n gi ci gq ck gp cp] w fun e w' => e = .returned (.map (some (w.heap.size + 1))) ∧ Below w.heap.size w w' ∧ Fact (MapG w' (w.heap.size + 2) (w.heap.size + 1) (n - 1) (idsK ks)) := by
  have hmm := @run_makeMap Try.prog
  have HROW := Fact.mk hrow
  have HOK := Fact.mk hok
  have hlt := (hrow.lt _ rfl).2
  clear hrow hok
  have J0 := Fact.mk (PI.start w n gi ci gq ck gp cp ks 59)
  dsimp only [sdV]
  go_enter Try.func33, Try.ntmps33
  go_upto_region 2 with fail
  obtain ⟨W1, hW1⟩ : ∃ W1, (w.alloc (.cells #[.slice (some ⟨gi, 0, none⟩) n ci, .slice (some ⟨gq, 0, none⟩) n ck, .slice (some ⟨gp, 0, none⟩) n cp] 59)).alloc (.map #[] 0) = W1 := ⟨_, rfl⟩
  rw [hW1] at J0
  try rw [hW1]
  clear hW1
  go_wp2_with fail
  go_loopg [4] n (fun gf iv wr => ∃ i : Nat, iv = .int .i64 i ∧ 1 ≤ i ∧ i ≤ n ∧ n - i ≤ gf ∧ Fact (PI w n gi ci gq ck gp cp ks i wr))
  case atStart => exact ⟨1, rfl, Nat.le_refl _, h1, by omega, J0⟩
  case round =>
    obtain ⟨i, rfl, hi1, hin, hgf, hJ⟩ := hrel
    have bx1 := hJ.out.box.c1
    by_cases hjz : i = n
    · subst hjz
      have hdec : decide ((i : Int) < (i : Int)) = false := decide_eq_false (by omega)
      go_wp2_with fail
      go_ret
      have hm := hJ.out.map
      rw [← hl, idsT_all, hl] at hm
      exact ⟨rfl, hJ.out.below, ⟨hm⟩⟩
    · have hlt : i < n := by omega
      have hdec : decide ((i : Int) < (n : Int)) = true := decide_eq_true (by omega)
      obtain ⟨y, hy⟩ : ∃ y, ks[i]? = some y := ⟨ks[i]'(by omega), by simp⟩
      obtain ⟨k0, k1, k2, k3⟩ := key_at (own_upH HROW.out hJ.out.below) hy
      obtain ⟨v0, st, w1, v', w2, w3, e1, e2, e3, e4, e5⟩ := hJ.out.map.round (by omega) (by have := hJ.out.size; omega) (HOK.out y (List.mem_of_getElem? hy)) i (by omega)
      have HN := Fact.mk (hJ.out.next hi1 hy e4 e5)
      obtain ⟨y1, y2⟩ := y
      dsimp only [kW] at e1 k0 k1
      unfold goInt at e1 e3
      clear e4 e5 hy hJ
      obtain ⟨g', rfl⟩ : ∃ g', gk = g' + 1 := ⟨gk - 1, by omega⟩
      have HA := Fact.mk e2
      clear e2
      go_wp2_with (at_builtin; refine wpA19 _ rfl (.tmp 19) (.tmp 21) 39 rfl 39 rfl _ _ rfl rfl HA.out ?_; clear HA)
      go_roundg g'
      case measure => omega
      case rel => exact ⟨i + 1, by go_num, by omega, by omega, by omega, HN⟩
end Go.Proofs.Ytkojhgagkoeeiaa
end

/- pairs: by the numbers of one side. -/
section
set_option linter.unusedVariables false
set_option linter.unusedSimpArgs false
namespace Go.Proofs.Ytkojhgagkoeeiaa
open Go.Deep (BT)
open Go.RowKit Go.Shelf M

/-- pairs, in their cells -/
def cP : List (Nat × Int) → List Value
  | [] => []
  | y :: l => .int .i64 y.1 :: .int .i64 y.2 :: cP l
theorem cP_len : ∀ l, (cP l).length = l.length * 2
  | [] => rfl
  | y :: l => by simp [cP, cP_len l]; omega
theorem cP_append : ∀ a b, cP (a ++ b) = cP a ++ cP b
  | [], _ => rfl
  | y :: l, b => by simp [cP, cP_append l b]
theorem cP_get : ∀ {l : List (Nat × Int)} {i : Nat} {y : Nat × Int}, l[i]? = some y → (cP l)[i * 2]? = some (.int .i64 y.1) ∧ (cP l)[i * 2 + 1]? = some (.int .i64 y.2)
  | x :: l, 0, y, h => by simp at h; subst h; exact ⟨rfl, rfl⟩
  | x :: l, i + 1, y, h => by
    have ih := cP_get (l := l) (i := i) (by simpa using h)
    rw [show (i + 1) * 2 = i * 2 + 1 + 1 by omega]
    exact ih
theorem infoPair : (Try.prog.info? 46).map (fun i => (i.zero, i.size, i.bytes)) = some (some (.agg #[.int .i64 0, .int .i64 0]), 2, 16) := by kernel_rfl
theorem two_cells (w : World) (x y : Value) (ty : Nat) : ∀ (j : Nat) (u : Value), ([x, y])[j]? = some u → (w.alloc (.cells #[x, y] ty)).cell? ⟨w.heap.size, j, none⟩ = some u := by
  intro j u hu
  match j, hu with
  | 0, hu => cases hu; exact World.cell?_alloc_new w _ _ 0
  | 1, hu => cases hu; exact World.cell?_alloc_new w _ _ 1
  | j + 2, hu => simp at hu
theorem add_zero (g j : Nat) : (⟨g, 0, none⟩ : Addr).add j = ⟨g, 0 + j, none⟩ := by cases j <;> rfl
/-- a pair more -/
theorem pair_more {w : World} {base : Nat} {v : Value} {acc : List (Nat × Int)} (h : w.ownsRow base 46 2 v acc.length (cP acc)) (hb : base ≤ w.heap.size) (hl : acc.length ≤ 1000000) (i : Nat) (x : Int) :
    ∃ v' w2, (Builtin.append_ #[31, 31] 31 #[v, .slice (some ⟨w.heap.size, 0, none⟩) 1 1]).run Try.prog (w.alloc (.cells #[.int .i64 i, .int .i64 x] 46)) = .ok v' w2 ∧
      w2.ownsRow base 46 2 v' (acc ++ [(i, x)]).length (cP (acc ++ [(i, x)])) ∧ Kept (fun g => g < base) w w2 := by
  obtain ⟨i0, hii, hz0, hz1, hz2⟩ := info_parts infoPair
  have hc := two_cells w (.int .i64 i) (.int .i64 x) 46
  obtain ⟨v', w2, ha, hown, hgr, _, hloc⟩ := run_append_own_at (P := Try.prog) (w := w.alloc (.cells #[.int .i64 i, .int .i64 x] 46)) base 31 31 46 i0 _ 2 16 Try.underlying31 hii hz0 hz1 hz2 rfl (by decide) v _ _ (h.alloc _) ⟨w.heap.size, 0, none⟩ 1 1 [.int .i64 i, .int .i64 x] rfl
    (fun j u hu => by rw [add_zero, Nat.zero_add]; exact hc j u hu) (by simp [Value.oneCell']) (by unfold maxLen; omega) (by omega) (by simp; omega)
  refine ⟨v', w2, ha, ?_, (((Kept.refl _ w).alloc _).grown hgr (fun g hg hl e => ?_))⟩
  · rw [cP_append, List.length_append]
    exact hown
  · have := (h.lt g e.symm).1
    omega
/-- what stands while pairs are put down -/
structure PR (w : World) (n gi ci gk ck gp cp : Nat) (L : List Int) (i : Nat) (v : Value) (W : World) : Prop where
  below : Below w.heap.size w W
  size : w.heap.size + 1 ≤ W.heap.size
  box : Box3 w.heap.size (.slice (some ⟨gi, 0, none⟩) n ci) (.slice (some ⟨gk, 0, none⟩) n ck) (.slice (some ⟨gp, 0, none⟩) n cp) W
  acc : ∃ acc, pairsF 0 L = acc ++ pairsF i (L.drop i) ∧ acc.length ≤ i ∧ W.ownsRow (w.heap.size + 1) 46 2 v acc.length (cP acc)
theorem pairsF_drop {L : List Int} {i : Nat} {x : Int} (h : L[i]? = some x) : pairsF i (L.drop i) = if x = -1 then pairsF (i + 1) (L.drop (i + 1)) else (i, x) :: pairsF (i + 1) (L.drop (i + 1)) := by
  have hj := (List.getElem?_eq_some_iff.1 h)
  rw [List.drop_eq_getElem_cons hj.1, hj.2, pairsF]
theorem PR.skip {w : World} {n gi ci gk ck gp cp : Nat} {L : List Int} {i : Nat} {v : Value} {W : World} (h : PR w n gi ci gk ck gp cp L i v W) (hx : L[i]? = some (-1)) : PR w n gi ci gk ck gp cp L (i + 1) v W := by
  obtain ⟨acc, e, hl, ho⟩ := h.acc
  exact ⟨h.below, h.size, h.box, acc, by rw [e, pairsF_drop hx, if_pos rfl], by omega, ho⟩
theorem PR.more {w : World} {n gi ci gk ck gp cp : Nat} {L : List Int} {i : Nat} {v : Value} {W : World} (h : PR w n gi ci gk ck gp cp L i v W) {x : Int} (hx : L[i]? = some x) (hne : ¬ x = -1) (hi : i ≤ 1000000) :
    ∃ v' w2, (Builtin.append_ #[31, 31] 31 #[v, .slice (some ⟨W.heap.size, 0, none⟩) 1 1]).run Try.prog (W.alloc (.cells #[.int .i64 i, .int .i64 x] 46)) = .ok v' w2 ∧ PR w n gi ci gk ck gp cp L (i + 1) v' w2 := by
  obtain ⟨acc, e, hl, ho⟩ := h.acc
  obtain ⟨v', w2, h1, h2, h3⟩ := pair_more ho h.size (by omega) i x
  refine ⟨v', w2, h1, h.below.trans (h3.below h.below.size (fun g hg => by omega)), Nat.le_trans h.size h3.size, h.box.same (h3.block _ h.box.lt (by omega)), acc ++ [(i, x)], ?_, by simp; omega, h2⟩
  rw [e, pairsF_drop hx, if_neg hne]
  simp

set_option maxRecDepth 20000 in
set_option maxHeartbeats 4000000 in
theorem pairs_any (n gi ci gq ck gp cp : Nat) (L : List Int) (w : World) (hrow : w.ownsRow 0 3 1 (.slice (some ⟨gp, 0, none⟩) n cp) n (cJ L)) (hn : n ≤ 1000000) :
    Calls Try.prog 32 #[sdV n gi ci gq ck gp cp] w fun e w' => ∃ v, e = .returned v ∧ Below w.heap.size w w' ∧ Fact (w'.ownsRow w.heap.size 46 2 v (pairsF 0 L).length (cP (pairsF 0 L))) := by
  have hl : L.length = n := by have := hrow.1; rw [cJ_len] at this; omega
  have HROW := Fact.mk hrow
  have hlt := (hrow.lt _ rfl).2
  clear hrow
  have J0 : Fact (PR w n gi ci gq ck gp cp L 0 (.slice none 0 0) (w.alloc (.cells #[.slice (some ⟨gi, 0, none⟩) n ci, .slice (some ⟨gq, 0, none⟩) n ck, .slice (some ⟨gp, 0, none⟩) n cp] 59))) :=
    ⟨⟨(Below.refl _ w).alloc (Nat.le_refl _) _, by simp, Box3.new w _ _ _ _, [], rfl, Nat.le_refl _, World.ownsRow_nil _ _ _ _⟩⟩
  dsimp only [sdV]
  go_enter Try.func32, Try.ntmps32
  go_upto_region 2 with fail
  obtain ⟨W1, hW1⟩ : ∃ W1, w.alloc (.cells #[.slice (some ⟨gi, 0, none⟩) n ci, .slice (some ⟨gq, 0, none⟩) n ck, .slice (some ⟨gp, 0, none⟩) n cp] 59) = W1 := ⟨_, rfl⟩
  rw [hW1] at J0
  try rw [hW1]
  clear hW1
  have bx2 := J0.out.box.c2
  go_wp2_with fail
  clear bx2
  go_loopg [3, 9] n (fun gf lv iv wr => ∃ i : Nat, iv = .int .i64 i ∧ i ≤ n ∧ n - i ≤ gf ∧ Fact (PR w n gi ci gq ck gp cp L i lv wr))
  case atStart => exact ⟨0, rfl, Nat.zero_le _, Nat.le_refl _, J0⟩
  case round =>
    obtain ⟨i, rfl, hin, hgf, hJ⟩ := hrel
    by_cases hjz : i = n
    · subst hjz
      have hdec : decide ((i : Int) < (i : Int)) = false := decide_eq_false (by omega)
      go_wp2_with fail
      go_ret
      obtain ⟨acc, e, hl2, ho⟩ := hJ.out.acc
      rw [List.drop_eq_nil_of_le (by omega)] at e
      have e2 : pairsF 0 L = acc := by rw [e]; simp [pairsF]
      rw [e2]
      exact ⟨_, rfl, hJ.out.below, ⟨own_lessP ho (by omega)⟩⟩
    · have hlt : i < n := by omega
      have hdec : decide ((i : Int) < (n : Int)) = true := decide_eq_true (by omega)
      obtain ⟨x, hx⟩ : ∃ x, L[i]? = some x := ⟨L[i]'(by omega), by simp⟩
      obtain ⟨d1, _, _, d4, d5, d6, d7⟩ := rowV_at (own_upH HROW.out hJ.out.below) (cJ_get hx)
      obtain ⟨g', rfl⟩ : ∃ g', gk = g' + 1 := ⟨gk - 1, by omega⟩
      by_cases hx1 : x = -1
      · subst hx1
        have hb : ((-1 : Int) != -1) = false := rfl
        have HN := Fact.mk (hJ.out.skip hx)
        clear hx
        go_wp2_with fail
        go_roundg g'
        case measure => omega
        case rel => exact ⟨i + 1, by go_num, by omega, by omega, HN⟩
      · have hb : (x != -1) = true := by simp [hx1]
        obtain ⟨v', w2, e1, e2⟩ := hJ.out.more hx hx1 (by omega)
        have HA := Fact.mk e1
        have HN := Fact.mk e2
        clear hx e1 e2
        go_wp2_with (at_builtin; refine wpA19 _ rfl (.tmp 16) (.tmp 20) 31 rfl 31 rfl _ _ rfl rfl HA.out ?_; clear HA)
        go_roundg g'
        case measure => omega
        case rel => exact ⟨i + 1, by go_num, by omega, by omega, HN⟩
end Go.Proofs.Ytkojhgagkoeeiaa
end

/- joinHigh: the nodes of one Height. -/
section
set_option linter.unusedVariables false
set_option linter.unusedSimpArgs false
namespace Go.Proofs.Ytkojhgagkoeeiaa
open Go.Deep (BT)
open Go.RowKit Go.Shelf M

theorem subs_le : ∀ (f : M.F) (i : Nat) (q : Nd × M.F), (subsF f)[i]? = some q → i + (q.2.size + 1) ≤ f.size
  | f, i, q, h => by
    have s := congrArg List.length (sig_seg f i q h)
    rw [List.length_take, List.length_drop, sigF_len, sigT, List.length_cons, sigF_len] at s
    have := (List.getElem?_eq_some_iff.1 h).1
    rw [subsF_len] at this
    omega
theorem flat_le {d : Nd} {k : M.F} {i : Nat} {y : Im} (h : (flatT d k)[i]? = some y) : ∃ z : Nat, y.z = z ∧ 1 ≤ z ∧ i + z ≤ k.size + 1 := by
  obtain ⟨f, hf, e, _⟩ := flatT_sub h
  have e2 : subsT d k = subsF (.node 0 0 d k .nil) := by simp [subsT, subsF]
  rw [e2] at hf
  have := subs_le _ _ _ hf
  simp only [BT.size] at this
  exact ⟨f.size + 1, e, by omega, by omega⟩
theorem keyL_get {d : Nd} {k : M.F} {i : Nat} {y : Int × Int} (h : (keyL d k)[i]? = some y) : ∃ x q, (flatT d k)[i]? = some x ∧ (subsT d k)[i]? = some q ∧ y = (hT q.1 q.2, x.z * 4294967296 + x.h) ∧ x.z = ((q.2.size + 1 : Nat) : Int) ∧ x.h = ((q.2.depth + 1 : Nat) : Int) ∧ x.d = q.1 := by
  unfold keyL at h
  rw [List.getElem?_zipWith] at h
  cases hx : (flatT d k)[i]? with
  | none => rw [hx] at h; cases hf : (finT d k)[i]? <;> rw [hf] at h <;> simp at h
  | some x =>
    obtain ⟨f, hf, e1, e2⟩ := flatT_sub hx
    rw [hx, fin_of hf] at h
    simp at h
    exact ⟨x, (x.d, f), rfl, hf, h.symm, e1, e2, rfl⟩
theorem keyL_of {d : Nd} {k : M.F} {i : Nat} {x : Im} {f : M.F} (hx : (flatT d k)[i]? = some x) (hf : (subsT d k)[i]? = some (x.d, f)) : (keyL d k)[i]? = some (hT x.d f, x.z * 4294967296 + x.h) := by
  unfold keyL
  rw [List.getElem?_zipWith, hx, fin_of hf]
theorem keyL_len (d : Nd) (k : M.F) : (keyL d k).length = k.size + 1 := by unfold keyL; simp [finT_len, flatT_len]
theorem depth_size : ∀ f : M.F, f.depth ≤ f.size
  | .nil => Nat.le_refl _
  | .node _ _ d k r => by
    have h1 := depth_size k
    have h2 := depth_size r
    simp only [BT.depth, BT.size]
    omega
theorem subs_depth : ∀ (f : M.F) (i : Nat) (q : Nd × M.F), (subsF f)[i]? = some q → q.2.depth + 1 ≤ f.depth
  | .nil, _, _, h => by simp [subsF] at h
  | .node _ _ d k r, 0, q, h => by
    rw [subsF] at h
    simp at h
    subst h
    simp only [BT.depth]
    omega
  | .node _ _ d k r, i + 1, q, h => by
    rw [subsF, List.getElem?_cons_succ, List.getElem?_append] at h
    simp only [BT.depth]
    split at h
    · have := subs_depth k _ q h; omega
    · have := subs_depth r _ q h; omega
theorem subsT_depth {d : Nd} {k : M.F} {i : Nat} {q : Nd × M.F} (h : (subsT d k)[i]? = some q) : q.2.depth ≤ k.depth := by
  have e2 : subsT d k = subsF (.node 0 0 d k .nil) := by simp [subsT, subsF]
  rw [e2] at h
  have := subs_depth _ _ _ h
  simp only [BT.depth] at this
  omega
/-- nodes of one key are of one Size -/
theorem key_size {d d' : Nd} {k k' : M.F} {i j : Nat} {y : Int × Int} (h : (keyL d k)[i]? = some y) (h' : (keyL d' k')[j]? = some y) (hb : k.depth + 1 ≤ 1000000) (hb' : k'.depth + 1 ≤ 1000000) : ∃ x x', (flatT d k)[i]? = some x ∧ (flatT d' k')[j]? = some x' ∧ x.z = x'.z := by
  obtain ⟨x, q, h1, h2, h3, h4, h5, _⟩ := keyL_get h
  obtain ⟨x', q', h1', h2', h3', h4', h5', _⟩ := keyL_get h'
  refine ⟨x, x', h1, h1', ?_⟩
  have e := h3.symm.trans h3'
  have e2 := (Prod.mk.inj e).2
  have b1 := subsT_depth h2
  have b2 := subsT_depth h2'
  omega
/-- what is taken: by the map, and by the chapter -/
theorem cand_eq {d d' : Nd} {k k' : M.F} (hb : k.depth + 1 ≤ 1000000) (hb' : k'.depth + 1 ≤ 1000000) (M : Mt) {i z : Nat} {x : Im} {y : Int × Int} (hx : (flatT d k)[i]? = some x) (hz : x.z = z) (hy : (keyL d k)[i]? = some y) :
    (idsK (keyL d' k') y).find? (fun j => decide (M.b[j]? = some (-1)) && sameB z ((sg (flatT d k)).drop i) ((sg (flatT d' k')).drop j)) = candM (smT (subsT d k) (subsT d' k')) (k'.size + 1) M i := by
  unfold idsK candM
  rw [List.find?_filter, keyL_len]
  refine find_congr _ (fun j _ => ?_)
  by_cases hj : (keyL d' k')[j]? = some y
  · rw [decide_eq_true hj]
    obtain ⟨x1, x', h1, h2, h3⟩ := key_size hy hj hb hb'
    rw [hx] at h1
    cases h1
    rw [same_sm hx h2 hz (by rw [← h3]; exact hz)]
    simp
  · rw [decide_eq_false hj]
    have : smT (subsT d k) (subsT d' k') i j = false := by
      unfold smT
      split
      · rename_i p q hp hq
        refine decide_eq_false (fun hc => hj ?_)
        obtain ⟨e1, e2, e3⟩ := cT_same hc
        obtain ⟨x1, q1, a1, a2, a3, a4, a5, _⟩ := keyL_get hy
        rw [hp] at a2
        cases a2
        obtain ⟨x', g1, g2, g3, g4⟩ := flatT_of hq
        rw [keyL_of g1 (by rw [g2]; exact hq), a3, g2, g3, g4, a4, a5, e1, e2, e3]
      · rfl
    rw [this]
    simp
/-- all blocks but the partners' -/
def TT (a b : Sd) (g : Nat) : Prop := g ≠ a.gp ∧ g ≠ b.gp
/-- a side of a tree -/
structure SdT (s : Sd) (d : Nd) (k : M.F) : Prop where
  it : s.its.map (·.1) = flatT d k
  ke : s.ks = keyL d k
  sz : k.size + 1 = s.n
  dp : k.depth + 1 ≤ 1000000
structure HI (w : World) (a b : Sd) (M : Mt) (mb base mn : Nat) (f : Int × Int → List Nat) (W : World) : Prop where
  kept : Kept (TT a b) w W
  two : Two (TT a b) W a b M
  map : MapG W base mb mn f
  pl : a.gp < base ∧ b.gp < base ∧ a.gp ≠ mb ∧ b.gp ≠ mb
  pw : a.gp < w.heap.size ∧ b.gp < w.heap.size
  size : w.heap.size + 2 ≤ W.heap.size
  ba : Box3 w.heap.size (.slice (some ⟨a.gi, 0, none⟩) a.n a.ci) (.slice (some ⟨a.gk, 0, none⟩) a.n a.ck) (.slice (some ⟨a.gp, 0, none⟩) a.n a.cp) W
  bb : Box3 (w.heap.size + 1) (.slice (some ⟨b.gi, 0, none⟩) b.n b.ci) (.slice (some ⟨b.gk, 0, none⟩) b.n b.ck) (.slice (some ⟨b.gp, 0, none⟩) b.n b.cp) W
theorem MapG.kept {w w' : World} {a b : Sd} {base mb mn : Nat} {f : Int × Int → List Nat} (h : MapG w base mb mn f) (hk : Kept (TT a b) w w') (hp : a.gp < base ∧ b.gp < base ∧ a.gp ≠ mb ∧ b.gp ≠ mb) : MapG w' base mb mn f :=
  h.keep (hk.block _ h.lt.2 ⟨fun e => hp.2.2.1 e.symm, fun e => hp.2.2.2 e.symm⟩) (fun g hg hl => hk.block _ hl ⟨by omega, by omega⟩)
theorem HI.step {w : World} {a b : Sd} {M M' : Mt} {mb base mn : Nat} {f : Int × Int → List Nat} {W W' : World} (h : HI w a b M mb base mn f W) (hk : Kept (TT a b) W W') (h2 : Two (TT a b) W' a b M') : HI w a b M' mb base mn f W' := by
  have hs := h.size
  have hp := h.pw
  refine ⟨h.kept.trans hk, h2, h.map.kept hk h.pl, h.pl, h.pw, by have := hk.size; omega, h.ba.same (hk.block _ (by omega) ⟨by omega, by omega⟩), h.bb.same (hk.block _ (by omega) ⟨by omega, by omega⟩)⟩
theorem HI.up {w : World} {a b : Sd} {M : Mt} {mb base mn : Nat} {f : Int × Int → List Nat} {W W' : World} (h : HI w a b M mb base mn f W) (hb : Below W.heap.size W W') : HI w a b M mb base mn f W' :=
  h.step (Kept.of_below' hb) (h.two.below hb)
theorem HI.start {w : World} {a b : Sd} {M : Mt} {mb base mn : Nat} {f : Int × Int → List Nat} (h : Two (TT a b) w a b M) (hm : MapG w base mb mn f) (pl : a.gp < base ∧ b.gp < base ∧ a.gp ≠ mb ∧ b.gp ≠ mb) (ta tb : Nat) :
    HI w a b M mb base mn f ((w.alloc (.cells #[.slice (some ⟨a.gi, 0, none⟩) a.n a.ci, .slice (some ⟨a.gk, 0, none⟩) a.n a.ck, .slice (some ⟨a.gp, 0, none⟩) a.n a.cp] ta)).alloc (.cells #[.slice (some ⟨b.gi, 0, none⟩) b.n b.ci, .slice (some ⟨b.gk, 0, none⟩) b.n b.ck, .slice (some ⟨b.gp, 0, none⟩) b.n b.cp] tb)) := by
  have h0 := SI.start h.sa h.sb ta tb
  exact ⟨Kept.of_below' h0.below, h.below h0.below, hm.kept (a := a) (b := b) (Kept.of_below' h0.below) pl, pl, ⟨(h.pa.lt _ rfl).2, (h.pb.lt _ rfl).2⟩, h0.size, h0.ba, h0.bb⟩
theorem keyL_ok (d : Nd) (k : M.F) (hs : k.size + 1 ≤ 1000000) (hd : k.depth + 1 ≤ 1000000) : ∀ y ∈ keyL d k, KOk y := by
  intro y hy
  obtain ⟨i, hi⟩ := List.mem_iff_getElem?.1 hy
  obtain ⟨x, q, h1, h2, h3, h4, h5, _⟩ := keyL_get hi
  obtain ⟨z, e1, e2, e3⟩ := flat_le h1
  have hdq := subsT_depth h2
  have hu := hT_u q.1 q.2
  rw [h3]
  refine ⟨⟨?_⟩, ⟨?_⟩⟩
  · have h0 : 0 ≤ hT q.1 q.2 ∧ hT q.1 q.2 < 18446744073709551616 := ⟨hu.lo, hu.hi⟩
    simp only [Lit.wf, IntKind.min, IntKind.max, IntKind.bits, IntKind.signed]
    simp
    omega
  · have h0 : 0 ≤ x.z * 4294967296 + x.h ∧ x.z * 4294967296 + x.h < 18446744073709551616 := ⟨by omega, by omega⟩
    simp only [Lit.wf, IntKind.min, IntKind.max, IntKind.bits, IntKind.signed]
    simp
    omega
theorem look_like {H : Type} {P : Program} {t kt E : TypeId} {R : Value → Option (DataW H × List MemPlace)} (K : WideMaps.KeyLaw P kt) (ht : P.underlying t = some (.map kt E)) {w w' : World} {b : Nat} {es : Array MapEntry} {clock : Nat} (hb : w.heap[b]? = some (.map es clock)) (hb' : w'.heap[b]? = some (.map es clock)) (F : WideElems.Fit P kt R es clock)
    {key : Value} {kl : Lit} (hkey : keyOf P kt key = some kl) {zv : Value} (hz : ∀ u : World, (zeroValue E).run P u = .ok zv u) {v : Value} (h : (Instr.lookup t (.map (some b)) key false).run P w = .ok v w) :
    (Instr.lookup t (.map (some b)) key false).run P w' = .ok v w' := by
  rcases K.find w hkey es.toList F.keys with ⟨q1, q2⟩ | ⟨j, e0, q1, q2, q3⟩
  · have r : (Instr.lookup t (.map (some b)) key false).run P w = .ok zv w := by
      simp [Instr.lookup, run_underlying ht, MapKept.run_getObj_map hb, K.check w _ hkey, q1, hz, Result.andThen]
    rw [r] at h
    have e := (Result.ok.inj h).1
    subst e
    rcases K.find w' hkey es.toList F.keys with ⟨p1, _⟩ | ⟨j', e1, _, p2, p3⟩
    · simp [Instr.lookup, run_underlying ht, MapKept.run_getObj_map hb', K.check w' _ hkey, p1, hz, Result.andThen]
    · exact absurd p3 (q2 e1 (List.mem_of_getElem? p2))
  · have r : (Instr.lookup t (.map (some b)) key false).run P w = .ok e0.val w := by
      simp [Instr.lookup, run_underlying ht, MapKept.run_getObj_map hb, K.check w _ hkey, q1, Result.andThen]
    rw [r] at h
    have e := (Result.ok.inj h).1
    subst e
    rcases K.find w' hkey es.toList F.keys with ⟨_, p2⟩ | ⟨j', e1, p1, p2, p3⟩
    · exact absurd q3 (p2 e0 (List.mem_of_getElem? q2))
    · have hv : e1 = e0 := by
        have hn : es.toList.Pairwise (fun x y => x.key ≠ y.key) := ((MapKept.stamped_iff es clock).1 F.stamped).2.2
        have hp := List.pairwise_iff_getElem.1 hn
        obtain ⟨l1, m1⟩ := List.getElem?_eq_some_iff.1 q2
        obtain ⟨l2, m2⟩ := List.getElem?_eq_some_iff.1 p2
        rcases Nat.lt_trichotomy j' j with c | c | c
        · exact absurd (by rw [m1, m2, p3, q3]) (hp j' j l2 l1 c)
        · subst c; rw [← m1, ← m2]
        · exact absurd (by rw [m1, m2, p3, q3]) (hp j j' l1 l2 c)
      subst hv
      simp [Instr.lookup, run_underlying ht, MapKept.run_getObj_map hb', K.check w' _ hkey, p1, Result.andThen]
theorem MapG.look2 {w : World} {base b n : Nat} {f : Int × Int → List Nat} (h : MapG w base b n f) (hn : n < maxLen) {y : Int × Int} (hk : KOk y) :
    ∃ a c, IL w a (f y).length c (f y) ∧ ∀ w', w'.heap[b]? = w.heap[b]? → (Instr.lookup 62 (.map (some b)) (kW y) false).run Try.prog w' = .ok (.slice a (f y).length c) w' := by
  obtain ⟨a, c, h1, h2⟩ := h.look hn hk
  obtain ⟨D, ⟨es, clock, hb, F, hs, hD, hbb, hlen, hap⟩, _⟩ := h
  obtain ⟨l, hl⟩ := key_litW y hk
  exact ⟨a, c, h2, fun w' hw => look_like lawW Try.underlying62 hb (hw.trans hb) F hl zeroW h1⟩
theorem IL.below {w w' : World} {a : Option Addr} {n c : Nat} {l : List Nat} (h : IL w a n c l) (hb : Below w.heap.size w w') : IL w' a n c l := h.keep (T := fun _ => True) (Kept.of_below' hb) (fun _ _ => trivial)

set_option maxRecDepth 20000 in
set_option maxHeartbeats 4000000 in
theorem high_any (a b : Sd) (d d' : Nd) (k k' : M.F) (ha : SdT a d k) (hb : SdT b d' k') (M M' : Mt) (w : World) (h2 : Two (TT a b) w a b M) (mb base mn : Nat) (hmp : MapG w base mb mn (idsK b.ks)) (hpl : a.gp < base ∧ b.gp < base ∧ a.gp ≠ mb ∧ b.gp ≠ mb) (hmn : mn ≤ 1000000) (hh : Int)
    (hM : Fact (rndM (flatT d k) (smT (subsT d k) (subsT d' k')) b.n hh M 1 (a.n - 1) = M')) :
    Calls Try.prog 34 #[a.v, b.v, .map (some mb), .int .i64 hh] w fun e w' => (∃ v, e = .returned v) ∧ Kept (TT a b) w w' ∧ Two (TT a b) w' a b M' := by
  have hna := h2.sa.sm
  have hnb := h2.sb.sm
  have hla := h2.sa.li
  have hn1 : 1 ≤ a.n := by rw [← ha.sz]; omega
  have J0 := Fact.mk (HI.start h2 hmp hpl 59 59)
  have HSA := Fact.mk ha
  have HSB := Fact.mk hb
  clear h2 hmp hpl ha hb
  obtain ⟨n, gi, ci, gq, ck, gp, cp, its, ks⟩ := a
  obtain ⟨n', gi', ci', gq', ck', gp', cp', its', ks'⟩ := b
  dsimp only [Sd.v, sdV] at *
  go_enter Try.func34, Try.ntmps34
  go_upto_region 1 with fail
  obtain ⟨W1, hW1⟩ : ∃ W1, (w.alloc (.cells #[.slice (some ⟨gi, 0, none⟩) n ci, .slice (some ⟨gq, 0, none⟩) n ck, .slice (some ⟨gp, 0, none⟩) n cp] 59)).alloc (.cells #[.slice (some ⟨gi', 0, none⟩) n' ci', .slice (some ⟨gq', 0, none⟩) n' ck', .slice (some ⟨gp', 0, none⟩) n' cp'] 59) = W1 := ⟨_, rfl⟩
  rw [hW1] at J0
  try rw [hW1]
  clear hW1
  go_wp2_with fail
  go_loopg [8] n (fun gf iv wr => ∃ (i : Nat) (Mi : Mt), iv = .int .i64 i ∧ 1 ≤ i ∧ i ≤ n ∧ n - i ≤ gf ∧ Fact (HI w ⟨n, gi, ci, gq, ck, gp, cp, its, ks⟩ ⟨n', gi', ci', gq', ck', gp', cp', its', ks'⟩ Mi mb base mn (idsK ks') wr) ∧ Fact (rndM (flatT d k) (smT (subsT d k) (subsT d' k')) n' hh Mi i (n - i) = M'))
  case atStart => exact ⟨1, M, rfl, Nat.le_refl _, hn1, by omega, J0, hM⟩
  case round =>
    obtain ⟨i, Mi, rfl, hi1, hin, hgf, hJ, hS⟩ := hrel
    have ba0 := hJ.out.ba.c0
    have ba1 := hJ.out.ba.c1
    have ba2 := hJ.out.ba.c2
    have bb0 := hJ.out.bb.c0
    have bb1 := hJ.out.bb.c1
    have bb2 := hJ.out.bb.c2
    dsimp only at ba0 ba1 ba2 bb0 bb1 bb2
    by_cases hjz : i = n
    · subst hjz
      have hdec : decide ((i : Int) < (i : Int)) = false := decide_eq_false (by omega)
      have HR : Fact (Mi = M') := ⟨by have h := hS.out; rw [Nat.sub_self] at h; exact h⟩
      clear hS hM
      go_wp2_with fail
      go_end0
      exact ⟨⟨_, rfl⟩, hJ.out.kept, by rw [← HR.out]; exact hJ.out.two⟩
    · have hlt : i < n := by omega
      have hdec : decide ((i : Int) < (n : Int)) = true := decide_eq_true (by omega)
      obtain ⟨y, hy⟩ : ∃ y, its[i]? = some y := ⟨its[i]'(by omega), by simp⟩
      have hy1 : (flatT d k)[i]? = some y.1 := by rw [← HSA.out.it, List.getElem?_map, hy]; rfl
      have la := hJ.out.two.pa.1
      rw [cJ_len] at la
      dsimp only at la
      obtain ⟨u, hu⟩ : ∃ u, Mi.a[i]? = some u := ⟨Mi.a[i]'(by omega), by simp⟩
      obtain ⟨d1, d2, _, d4, d5, d6, d7⟩ := rowV_at hJ.out.two.pa (cJ_get hu)
      dsimp only at d1 d4 d5 d6 d7
      obtain ⟨i1, i3⟩ := it_at hJ.out.two.sa.it hy
      have hin4 := (row10_at hJ.out.two.sa.it hy).2.2.2.2
      have hin5 := hin4.1
      have hin6 := hin4.2.1
      dsimp only at i1 i3 hin5 hin6
      have hstep : rndM (flatT d k) (smT (subsT d k) (subsT d' k')) n' hh (stepM (flatT d k) (smT (subsT d k) (subsT d' k')) n' hh Mi i) (i + 1) (n - (i + 1)) = M' := by
        have h := hS.out
        rw [show n - i = (n - (i + 1)) + 1 by omega] at h
        exact h
      have hst : stepM (flatT d k) (smT (subsT d k) (subsT d' k')) n' hh Mi i = if y.1.h = hh ∧ u = -1 then (match candM (smT (subsT d k) (subsT d' k')) n' Mi i with | none => Mi | some j => joinM Mi i j y.1.z.toNat) else Mi := by
        unfold stepM
        rw [hy1, hu]
        all_goals rfl
      obtain ⟨z, hz, hz1, hz2⟩ := flat_le hy1
      obtain ⟨yh, hyh⟩ : ∃ h, y.1.h = h := ⟨_, rfl⟩
      rw [hyh] at i3 hst
      obtain ⟨g', rfl⟩ : ∃ g', gk = g' + 1 := ⟨gk - 1, by omega⟩
      have HST := Fact.mk hst
      have HSTEP := Fact.mk hstep
      have HY := Fact.mk hy
      have HY1 := Fact.mk hy1
      have HZ := Fact.mk hz
      have hsz := HSA.out.sz
      dsimp only at hsz
      have hiz : i + z ≤ n := by omega
      clear hst hstep d2 hu la hS hM hy hy1 hin4 hz hz2 i1
      by_cases hq : yh = hh
      · subst hq
        have hbq : (yh != yh) = false := by simp
        by_cases hu1 : u = -1
        · subst hu1
          have hbu : ((-1 : Int) != -1) = false := rfl
          have hkl := hJ.out.two.sa.lk
          dsimp only at hkl
          obtain ⟨yk, hyk⟩ : ∃ y, ks[i]? = some y := ⟨ks[i]'(by omega), by simp⟩
          have hke := HSA.out.ke
          have hkb := HSB.out.ke
          dsimp only at hke hkb
          have hyk2 : (keyL d k)[i]? = some yk := by rw [← hke]; exact hyk
          have hok : KOk yk := keyL_ok d k (by omega) HSA.out.dp yk (List.mem_of_getElem? hyk2)
          obtain ⟨ga, c, hIL, hlk⟩ := hJ.out.map.look2 (by unfold maxLen; omega) hok
          obtain ⟨k0, k1, k2, k3⟩ := key_at hJ.out.two.sa.ke hyk
          dsimp only at k0 k1 k2 k3
          obtain ⟨m, hm⟩ : ∃ m, (idsK ks' yk).length = m := ⟨_, rfl⟩
          rw [hm] at hIL hlk
          obtain ⟨cd, hcd⟩ : ∃ cd, candM (smT (subsT d k) (subsT d' k')) n' Mi i = cd := ⟨_, rfl⟩
          have hszb := HSB.out.sz
          dsimp only at hszb
          have HF : ∀ j ∈ idsK ks' yk, j + z ≤ n' ∧ j < n' := fun j hj => by
            have hj1 : (keyL d' k')[j]? = some yk := by
              rw [hkb] at hj
              exact of_decide_eq_true (List.mem_filter.1 hj).2
            obtain ⟨x, x', e1, e2, e3⟩ := key_size hyk2 hj1 HSA.out.dp HSB.out.dp
            rw [HY1.out] at e1
            cases e1
            obtain ⟨z', g1, g2, g3⟩ := flat_le e2
            have := HZ.out
            omega
          have HCE : numO ((idsK ks' yk).find? fun j => decide (Mi.b[j]? = some (-1)) && sameB z ((sg (its.map (·.1))).drop i) ((sg (its'.map (·.1))).drop j)) = numO cd := by
            rw [← hcd, hkb, HSA.out.it, HSB.out.it, cand_eq HSA.out.dp HSB.out.dp Mi HY1.out HZ.out hyk2, hszb]
          have HCALL : Fact (∀ W, Below wr.heap.size wr W → Calls Try.prog 52 #[sdV n gi ci gq ck gp cp, sdV n' gi' ci' gq' ck' gp' cp', .int .i64 i, .slice ga m c] W fun e w' => e = .returned (.int .i64 (numO cd)) ∧ Below W.heap.size W w') := ⟨fun W hb =>
            first_any _ ⟨n, gi, ci, gq, ck, gp, cp, its, ks⟩ ⟨n', gi', ci', gq', ck', gp', cp', its', ks'⟩ Mi W (hJ.out.two.below hb) i z y HY.out HZ.out hiz ga m c (idsK ks' yk) (hIL.below hb) HF (numO cd) ⟨HCE⟩⟩
          have hlm := hJ.out.map.lt.2
          have HKEEP : Fact (∀ W, Below wr.heap.size wr W → (Below wr.heap.size wr W ∧ (W.cell? ⟨w.heap.size, 0, none⟩ = some (.slice (some ⟨gi, 0, none⟩) n ci) ∧ W.cell? ⟨w.heap.size, 1, none⟩ = some (.slice (some ⟨gq, 0, none⟩) n ck) ∧ W.cell? ⟨w.heap.size, 2, none⟩ = some (.slice (some ⟨gp, 0, none⟩) n cp) ∧ W.cell? ⟨w.heap.size + 1, 0, none⟩ = some (.slice (some ⟨gi', 0, none⟩) n' ci') ∧ W.cell? ⟨w.heap.size + 1, 1, none⟩ = some (.slice (some ⟨gq', 0, none⟩) n' ck') ∧ W.cell? ⟨w.heap.size + 1, 2, none⟩ = some (.slice (some ⟨gp', 0, none⟩) n' cp') ∧ W.cell? ⟨gq, i * 2, none⟩ = some (.int .u64 yk.1) ∧ W.cell? ⟨gq, i * 2 + 1, none⟩ = some (.int .u64 yk.2) ∧ (Instr.lookup 62 (.map (some mb)) (.agg #[.int .u64 yk.1, .int .u64 yk.2]) false).run Try.prog W = .ok (.slice ga m c) W))) := ⟨fun W hb => by
            have h1 := hJ.out.up hb
            obtain ⟨k0, k1, _, _⟩ := key_at h1.two.sa.ke hyk
            exact ⟨hb, h1.ba.c0, h1.ba.c1, h1.ba.c2, h1.bb.c0, h1.bb.c1, h1.bb.c2, k0, k1, hlk W (hb.block _ hlm)⟩⟩
          have hS0 := HKEEP.out wr.drew (Below.refl _ _).drew
          have HCD := Fact.mk hcd
          have HYK := Fact.mk hyk
          clear hIL hlk HF HCE hyk hyk2 hok hcd hke hkb hkl hm
          obtain ⟨q1, q2⟩ := yk
          dsimp only at k0 k1 hS0 HKEEP
          go_upto_region 5 with fail
          go_region_held3 (fun W => Below wr.heap.size wr W ∧ (W.cell? ⟨w.heap.size, 0, none⟩ = some (.slice (some ⟨gi, 0, none⟩) n ci) ∧ W.cell? ⟨w.heap.size, 1, none⟩ = some (.slice (some ⟨gq, 0, none⟩) n ck) ∧ W.cell? ⟨w.heap.size, 2, none⟩ = some (.slice (some ⟨gp, 0, none⟩) n cp) ∧ W.cell? ⟨w.heap.size + 1, 0, none⟩ = some (.slice (some ⟨gi', 0, none⟩) n' ci') ∧ W.cell? ⟨w.heap.size + 1, 1, none⟩ = some (.slice (some ⟨gq', 0, none⟩) n' ck') ∧ W.cell? ⟨w.heap.size + 1, 2, none⟩ = some (.slice (some ⟨gp', 0, none⟩) n' cp') ∧ W.cell? ⟨gq, i * 2, none⟩ = some (.int .u64 q1) ∧ W.cell? ⟨gq, i * 2 + 1, none⟩ = some (.int .u64 q2) ∧ (Instr.lookup 62 (.map (some mb)) (.agg #[.int .u64 q1, .int .u64 q2]) false).run Try.prog W = .ok (.slice ga m c) W))
            (first | with_reducible exact hS0 | with_reducible assumption)
            (first | (go_at_call 52; refine (HCALL.out _ (by first | with_reducible exact hS0.1 | (rename_i hq _ _; exact hq.1))).mono ?_; rintro e w5 ⟨rfl, hb5⟩; have hS5 := HKEEP.out w5 ((Below.refl _ wr).drew.trans hb5)))
          have HJ5 := Fact.mk (hJ.out.up ((Below.refl _ wr).drew.trans hb5))
          clear hS0 hS5 hb5 HKEEP HCALL ba0 ba1 ba2 bb0 bb1 bb2 k0 k1
          have ba0 := HJ5.out.ba.c0
          have ba1 := HJ5.out.ba.c1
          have ba2 := HJ5.out.ba.c2
          have bb0 := HJ5.out.bb.c0
          have bb1 := HJ5.out.bb.c1
          have bb2 := HJ5.out.bb.c2
          dsimp only at ba0 ba1 ba2 bb0 bb1 bb2
          cases cd with
          | none =>
            have HR := Fact.mk (show rndM (flatT d k) (smT (subsT d k) (subsT d' k')) n' yh Mi (i + 1) (n - (i + 1)) = M' by have h := HSTEP.out; rw [HST.out, if_pos (by simp), HCD.out] at h; exact h)
            clear HST HSTEP
            have hq1 : ((-1 : Int) != -1) = false := rfl
            have hn1' : numO none = -1 := rfl
            go_wp2_with fail
            go_roundg g'
            case measure => omega
            case rel => exact ⟨i + 1, Mi, by go_num, by omega, by omega, by omega, HJ5, HR⟩
          | some j =>
            have hjb : j < n' := by
              have h := HCD.out
              unfold candM at h
              have := List.mem_of_find?_eq_some h
              rw [List.mem_range'_1] at this
              omega
            have hjz : j + z ≤ n' := by
              have h := HCD.out
              unfold candM at h
              have h1 := List.find?_some h
              have h2 : smT (subsT d k) (subsT d' k') i j = true := by
                simp only [Bool.and_eq_true] at h1
                exact h1.2
              unfold smT at h2
              split at h2
              · rename_i p q hp hq
                obtain ⟨_, e2, _⟩ := cT_same (of_decide_eq_true h2)
                obtain ⟨f, hf, e3, _⟩ := flatT_sub HY1.out
                rw [hp] at hf
                cases hf
                obtain ⟨x', g1, g2, g3, g4⟩ := flatT_of hq
                obtain ⟨z', g5, g6, g7⟩ := flat_le g1
                have := HZ.out
                dsimp only at e2
                omega
              · cases h2
            have hzt : y.1.z.toNat = z := by rw [HZ.out]; rfl
            have HR := Fact.mk (show rndM (flatT d k) (smT (subsT d k) (subsT d' k')) n' yh (joinM Mi i j z) (i + 1) (n - (i + 1)) = M' by have h := HSTEP.out; rw [HST.out, if_pos (by simp), HCD.out] at h; rw [← hzt]; exact h)
            have hnj : numO (some j) = (j : Int) := rfl
            have hq1 : ((j : Int) != -1) = true := by simp
            have HJOIN : Fact (Calls Try.prog 31 #[sdV n gi ci gq ck gp cp, sdV n' gi' ci' gq' ck' gp' cp', .int .i64 i, .int .i64 j] w5 fun e w' => (∃ v, e = .returned v) ∧ Kept (TT ⟨n, gi, ci, gq, ck, gp, cp, its, ks⟩ ⟨n', gi', ci', gq', ck', gp', cp', its', ks'⟩) w5 w' ∧ Two (TT ⟨n, gi, ci, gq, ck, gp, cp, its, ks⟩ ⟨n', gi', ci', gq', ck', gp', cp', its', ks'⟩) w' ⟨n, gi, ci, gq, ck, gp, cp, its, ks⟩ ⟨n', gi', ci', gq', ck', gp', cp', its', ks'⟩ (joinM Mi i j z)) :=
              ⟨join_any _ ⟨n, gi, ci, gq, ck, gp, cp, its, ks⟩ ⟨n', gi', ci', gq', ck', gp', cp', its', ks'⟩ Mi w5 HJ5.out.two i j z y HY.out HZ.out hiz hjz⟩
            clear HST HSTEP hzt
            rw [hnj]
            go_wp2_with (go_at_call 31; refine HJOIN.out.mono ?_; rintro e w6 ⟨⟨v6, rfl⟩, hk6, h26⟩)
            have HJ6 := Fact.mk (HJ5.out.step hk6 h26)
            go_roundg g'
            case measure => omega
            case rel => exact ⟨i + 1, _, by go_num, by omega, by omega, by omega, HJ6, HR⟩
        · have hbu : (u != -1) = true := by simp [hu1]
          have HR := Fact.mk (show rndM (flatT d k) (smT (subsT d k) (subsT d' k')) n' yh Mi (i + 1) (n - (i + 1)) = M' by have h := HSTEP.out; rw [HST.out, if_neg (fun e => hu1 e.2)] at h; exact h)
          clear HST HSTEP
          go_wp2_with fail
          go_roundg g'
          case measure => omega
          case rel => exact ⟨i + 1, Mi, by go_num, by omega, by omega, by omega, hJ, HR⟩
      · have hbq : (yh != hh) = true := by simp [hq]
        have HR := Fact.mk (show rndM (flatT d k) (smT (subsT d k) (subsT d' k')) n' hh Mi (i + 1) (n - (i + 1)) = M' by have h := HSTEP.out; rw [HST.out, if_neg (fun e => hq e.1)] at h; exact h)
        clear HST HSTEP
        go_wp2_with fail
        go_roundg g'
        case measure => omega
        case rel => exact ⟨i + 1, Mi, by go_num, by omega, by omega, by omega, hJ, HR⟩
end Go.Proofs.Ytkojhgagkoeeiaa
end

/- The chapter's own matching: New, Add, whole, Pairs. -/
section
set_option linter.unusedVariables false
set_option linter.unusedSimpArgs false
namespace Go.Proofs.Ytkojhgagkoeeiaa
open Go.Deep (BT)
open Go.RowKit Go.Shelf M

/-- a matching in memory: its block, the two lists -/
structure MM (w : World) (base p n m : Nat) (va vb : Value) (M : Mt) : Prop where
  c0 : w.cell? ⟨p, 0, none⟩ = some va
  c1 : w.cell? ⟨p, 1, none⟩ = some vb
  fz : ∀ o, w.frozen? ⟨p, o, none⟩ = false
  ra : w.ownsRow base 3 1 va n (cJ M.a)
  rb : w.ownsRow base 3 1 vb m (cJ M.b)
  ap : va.ownBlock = none ∨ va.ownBlock ≠ vb.ownBlock
  pb : p < base
theorem MM.len {w : World} {base p n m : Nat} {va vb : Value} {M : Mt} (h : MM w base p n m va vb M) : M.a.length = n ∧ M.b.length = m := by
  have h1 := h.ra.1
  have h2 := h.rb.1
  rw [cJ_len] at h1 h2
  omega
theorem MM.keep {w w' : World} {base p n m : Nat} {va vb : Value} {M : Mt} (h : MM w base p n m va vb M) (hk : ∀ g, (g = p ∨ base ≤ g) → g < w.heap.size → w'.heap[g]? = w.heap[g]?) : MM w' base p n m va vb M := by
  have hp := World.block_lt_of_cell? w _ h.c0
  have e := hk p (.inl rfl) hp
  exact ⟨(World.cell?_of_block (a := ⟨p, 0, none⟩) e).trans h.c0, (World.cell?_of_block (a := ⟨p, 1, none⟩) e).trans h.c1, fun o => (World.frozen?_of_block (a := ⟨p, o, none⟩) e).trans (h.fz o), own_block h.ra (fun k e hk' => hk k (.inr (h.ra.lt k e.symm).1) hk'), own_block h.rb (fun k e hk' => hk k (.inr (h.rb.lt k e.symm).1) hk'), h.ap, h.pb⟩
theorem MM.below {w w' : World} {base p n m : Nat} {va vb : Value} {M : Mt} (h : MM w base p n m va vb M) (hb : Below w.heap.size w w') : MM w' base p n m va vb M := h.keep (fun g _ hg => hb.block g hg)
/-- a -1 more -/
theorem minus_more {w : World} {base l : Nat} {v : Value} (h : w.ownsRow base 3 1 v l (cJ (List.replicate l (-1)))) (hb : base ≤ w.heap.size) (hl : l ≤ 1000000) :
    ∃ v' w2, (Builtin.append_ #[39, 39] 39 #[v, .slice (some ⟨w.heap.size, 0, none⟩) 1 1]).run Try.prog (w.alloc (.cells #[.int .i64 (-1)] 3)) = .ok v' w2 ∧
      w2.ownsRow base 3 1 v' (l + 1) (cJ (List.replicate (l + 1) (-1))) ∧ (w.alloc (.cells #[.int .i64 (-1)] 3)).grownBy w2 v.ownBlock ∧ (v'.ownBlock = v.ownBlock ∨ ∃ g, v'.ownBlock = some g ∧ w.heap.size ≤ g) := by
  obtain ⟨i0, hii, hz0, hz1, hz2⟩ := info_parts infoInt
  have hc := int_cell w (-1)
  obtain ⟨v', w2, ha, hown, hgr, _, hloc⟩ := run_append_own_at (P := Try.prog) (w := w.alloc (.cells #[.int .i64 (-1)] 3)) base 39 39 3 i0 _ 1 8 Try.underlying39 hii hz0 hz1 hz2 rfl (by decide) v _ _ (h.alloc _) ⟨w.heap.size, 0, none⟩ 1 1 [.int .i64 (-1)] rfl
    hc (by simp [Value.oneCell']) (by unfold maxLen; omega) (by omega) (by simp; omega)
  refine ⟨v', w2, ha, ?_, hgr, hloc.imp id (fun e => ⟨_, e, by simp⟩)⟩
  rw [List.replicate_succ']
  unfold cJ at hown ⊢
  rw [List.map_append]
  exact hown
theorem own_apart19 {w : World} {B E E' z z' n n' : Nat} {v v' : Value} {xs xs' : List Value} (hne : E ≠ E') (h : w.ownsRow B E z v n xs) (h' : w.ownsRow B E' z' v' n' xs') : v.ownBlock = none ∨ v.ownBlock ≠ v'.ownBlock := by
  rcases h.2 with ⟨e, _⟩ | ⟨g, c, cur, e, _, hh, _⟩
  · subst e; exact .inl rfl
  · rcases h'.2 with ⟨e', _⟩ | ⟨g', c', cur', e', _, hh', _⟩
    · subst e e'; exact .inr (by simp [Value.ownBlock])
    · subst e e'
      refine .inr (fun hc => ?_)
      have hg : g = g' := by simpa [Value.ownBlock] using hc
      subst hg
      rw [hh] at hh'
      injection hh' with e1
      injection e1 with _ e2 _
      exact hne e2
structure NI2 (w : World) (n m : Nat) (va vb : Value) (W : World) : Prop where
  below : Below w.heap.size w W
  size : w.heap.size + 1 ≤ W.heap.size
  mm : MM W (w.heap.size + 1) w.heap.size n m va vb (noneM n m)
theorem NI2.start (w : World) (ty : Nat) : NI2 w 0 0 (.slice none 0 0) (.slice none 0 0) (w.alloc (.cells #[.slice none 0 0, .slice none 0 0] ty)) :=
  ⟨(Below.refl _ w).alloc (Nat.le_refl _) _, by simp, World.cell?_alloc_new w _ _ 0, World.cell?_alloc_new w _ _ 1, fun o => World.frozen?_alloc_new w _ _ o, World.ownsRow_nil _ _ _ _, World.ownsRow_nil _ _ _ _, .inl rfl, by omega⟩
theorem setC_same {W : World} {g o : Nat} {u v : Value} (h : W.cell? ⟨g, o, none⟩ = some u) : (W.setCell ⟨g, o, none⟩ v).cell? ⟨g, o, none⟩ = some v := World.cell?_setCell_same' _ _ _ (by rw [h]; rfl)
theorem setC_other {W : World} {g o p : Nat} {v : Value} (h : o ≠ p) : (W.setCell ⟨g, p, none⟩ v).cell? ⟨g, o, none⟩ = W.cell? ⟨g, o, none⟩ := World.cell?_setCell_other _ _ _ _ (by intro e; cases e; exact h rfl)
theorem frozen_setC {W : World} {g o o' : Nat} {u : Value} (h : ∀ q, W.frozen? ⟨g, q, none⟩ = false) : (W.setCell ⟨g, o', none⟩ u).frozen? ⟨g, o, none⟩ = false := by
  have := h o
  rw [World.frozen?_setCell]
  exact this
theorem NI2.moreA {w : World} {n m : Nat} {va vb : Value} {W : World} (h : NI2 w n m va vb W) (hn : n ≤ 1000000) :
    ∃ va' w2, (Builtin.append_ #[39, 39] 39 #[va, .slice (some ⟨W.heap.size, 0, none⟩) 1 1]).run Try.prog (W.alloc (.cells #[.int .i64 (-1)] 3)) = .ok va' w2 ∧ w2.cell? ⟨w.heap.size, 0, none⟩ = some va ∧ w2.frozen? ⟨w.heap.size, 0, none⟩ = false ∧ NI2 w (n + 1) m va' vb (w2.setCell ⟨w.heap.size, 0, none⟩ va') := by
  have hsz := h.size
  obtain ⟨v', w2, ha, hown, hgr, hloc⟩ := minus_more h.mm.ra h.size hn
  have hp := hgr.size
  have hbp : w2.heap[w.heap.size]? = W.heap[w.heap.size]? := (hgr.block _ (by simp; omega) (fun e => by have := (h.mm.ra.lt _ e.symm).1; omega)).trans (Below.heap_alloc _ _ _ (by omega))
  have hbk : Below w.heap.size w w2 := (h.below.alloc h.below.size _).grown hgr (by simp; omega) (fun k e => by have := (h.mm.ra.lt k e).1; omega)
  have hf2 : ∀ o, w2.frozen? ⟨w.heap.size, o, none⟩ = false := fun o => (World.frozen?_of_block (a := ⟨w.heap.size, o, none⟩) hbp).trans (h.mm.fz o)
  have hrb : w2.ownsRow (w.heap.size + 1) 3 1 vb m (cJ (noneM n m).b) := (h.mm.rb.alloc _).kept hgr (by
    rcases h.mm.ap with e | e
    · cases hvb : vb.ownBlock with
      | none => exact .inl rfl
      | some g => right; rw [e]; simp
    · right; exact fun e' => e e'.symm)
  have hne : ∀ (v : Value) (E z l : Nat) (xs : List Value), w2.ownsRow (w.heap.size + 1) E z v l xs → (w2.setCell ⟨w.heap.size, 0, none⟩ v').ownsRow (w.heap.size + 1) E z v l xs := fun v E z l xs ho => own_block ho (fun k e hk => Below.heap_setCell _ _ _ _ (fun e' => by have := (ho.lt k e.symm).1; have e2 : k = w.heap.size := e'; omega))
  refine ⟨v', w2, ha, (World.cell?_of_block (a := ⟨w.heap.size, 0, none⟩) hbp).trans h.mm.c0, hf2 0, hbk.setCell (p := ⟨w.heap.size, 0, none⟩) (Nat.le_refl _) _, by simp at hp ⊢; omega, ?_⟩
  refine ⟨setC_same ((World.cell?_of_block (a := ⟨w.heap.size, 0, none⟩) hbp).trans h.mm.c0), ?_, fun o => frozen_setC hf2, hne _ _ _ _ _ hown, hne _ _ _ _ _ hrb, ?_, by omega⟩
  · exact (setC_other (by omega)).trans ((World.cell?_of_block (a := ⟨w.heap.size, 1, none⟩) hbp).trans h.mm.c1)
  · rcases hloc with e | ⟨g, e, hg⟩
    · rcases h.mm.ap with e2 | e2
      · left; rw [e, e2]
      · right; rw [e]; exact e2
    · right
      rw [e]
      intro e'
      have := (h.mm.rb.lt g e'.symm).2
      omega
theorem NI2.moreB {w : World} {n m : Nat} {va vb : Value} {W : World} (h : NI2 w n m va vb W) (hn : m ≤ 1000000) :
    ∃ vb' w2, (Builtin.append_ #[39, 39] 39 #[vb, .slice (some ⟨W.heap.size, 0, none⟩) 1 1]).run Try.prog (W.alloc (.cells #[.int .i64 (-1)] 3)) = .ok vb' w2 ∧ w2.cell? ⟨w.heap.size, 1, none⟩ = some vb ∧ w2.frozen? ⟨w.heap.size, 1, none⟩ = false ∧ NI2 w n (m + 1) va vb' (w2.setCell ⟨w.heap.size, 1, none⟩ vb') := by
  have hsz := h.size
  obtain ⟨v', w2, ha, hown, hgr, hloc⟩ := minus_more h.mm.rb h.size hn
  have hp := hgr.size
  have hbp : w2.heap[w.heap.size]? = W.heap[w.heap.size]? := (hgr.block _ (by simp; omega) (fun e => by have := (h.mm.rb.lt _ e.symm).1; omega)).trans (Below.heap_alloc _ _ _ (by omega))
  have hbk : Below w.heap.size w w2 := (h.below.alloc h.below.size _).grown hgr (by simp; omega) (fun k e => by have := (h.mm.rb.lt k e).1; omega)
  have hf2 : ∀ o, w2.frozen? ⟨w.heap.size, o, none⟩ = false := fun o => (World.frozen?_of_block (a := ⟨w.heap.size, o, none⟩) hbp).trans (h.mm.fz o)
  have hra : w2.ownsRow (w.heap.size + 1) 3 1 va n (cJ (noneM n m).a) := (h.mm.ra.alloc _).kept hgr h.mm.ap
  have hne : ∀ (v : Value) (E z l : Nat) (xs : List Value), w2.ownsRow (w.heap.size + 1) E z v l xs → (w2.setCell ⟨w.heap.size, 1, none⟩ v').ownsRow (w.heap.size + 1) E z v l xs := fun v E z l xs ho => own_block ho (fun k e hk => Below.heap_setCell _ _ _ _ (fun e' => by have := (ho.lt k e.symm).1; have e2 : k = w.heap.size := e'; omega))
  refine ⟨v', w2, ha, (World.cell?_of_block (a := ⟨w.heap.size, 1, none⟩) hbp).trans h.mm.c1, hf2 1, hbk.setCell (p := ⟨w.heap.size, 1, none⟩) (Nat.le_refl _) _, by simp at hp ⊢; omega, ?_⟩
  refine ⟨(setC_other (by omega)).trans ((World.cell?_of_block (a := ⟨w.heap.size, 0, none⟩) hbp).trans h.mm.c0), setC_same ((World.cell?_of_block (a := ⟨w.heap.size, 1, none⟩) hbp).trans h.mm.c1), fun o => frozen_setC hf2, hne _ _ _ _ _ hra, hne _ _ _ _ _ hown, ?_, by omega⟩
  rcases hloc with e | ⟨g, e, hg⟩
  · rw [e]; exact h.mm.ap
  · cases hva : va.ownBlock with
    | none => exact .inl rfl
    | some g' =>
      right
      rw [e]
      intro e'
      cases e'
      have := (h.mm.ra.lt g hva).2
      omega

set_option maxRecDepth 20000 in
set_option maxHeartbeats 4000000 in
theorem rNew_any (n m : Nat) (w : World) (hn : n ≤ 1000000) (hm : m ≤ 1000000) :
    Calls Try.prog 38 #[.int .i64 n, .int .i64 m] w fun e w' => ∃ va vb, e = .returned (.pointer (some ⟨w.heap.size, 0, none⟩)) ∧ Below w.heap.size w w' ∧ Fact (MM w' (w.heap.size + 1) w.heap.size n m va vb (noneM n m)) := by
  have J0 := Fact.mk (NI2.start w 72)
  go_enter Try.func38, Try.ntmps38
  go_upto_region 2 with fail
  obtain ⟨W1, hW1⟩ : ∃ W1, w.alloc (.cells #[.slice none 0 0, .slice none 0 0] 72) = W1 := ⟨_, rfl⟩
  rw [hW1] at J0
  try rw [hW1]
  clear hW1
  go_wp2_with fail
  go_loopg [6] n (fun gf iv wr => ∃ (i : Nat) (va : Value), iv = .int .i64 i ∧ i ≤ n ∧ n - i ≤ gf ∧ Fact (NI2 w i 0 va (.slice none 0 0) wr))
  case atStart => exact ⟨0, _, rfl, Nat.zero_le _, Nat.le_refl _, J0⟩
  case round =>
    obtain ⟨i, va, rfl, hin, hgf, hJ⟩ := hrel
    by_cases hjz : i = n
    · subst hjz
      have hdec : decide ((i : Int) < (i : Int)) = false := decide_eq_false (by omega)
      obtain ⟨W0, hW0⟩ : ∃ W0, W0 = wr := ⟨_, rfl⟩
      subst hW0
      go_wp2_with fail
      go_loopg [7] m (fun gf iv wr => ∃ (j : Nat) (vb : Value), iv = .int .i64 j ∧ j ≤ m ∧ m - j ≤ gf ∧ Fact (NI2 w i j va vb wr))
      case atStart => exact ⟨0, _, rfl, Nat.zero_le _, Nat.le_refl _, hJ⟩
      case round =>
        obtain ⟨j, vb, rfl, hjm, hgf2, hK⟩ := hrel
        by_cases hjz : j = m
        · subst hjz
          have hdec2 : decide ((j : Int) < (j : Int)) = false := decide_eq_false (by omega)
          go_wp2_with fail
          go_ret
          exact ⟨va, vb, rfl, hK.out.below, ⟨hK.out.mm⟩⟩
        · have hlt : j < m := by omega
          have hdec2 : decide ((j : Int) < (m : Int)) = true := decide_eq_true (by omega)
          obtain ⟨vb', w2, e1, e2, e3, e4⟩ := hK.out.moreB (by omega)
          have HA := Fact.mk e1
          have HN := Fact.mk e4
          have c1 := hK.out.mm.c1
          clear e1 e4
          obtain ⟨g2, c2, rfl⟩ := ownsRow_pos (by omega) HN.out.mm.rb
          obtain ⟨g', rfl⟩ : ∃ g', gk = g' + 1 := ⟨gk - 1, by omega⟩
          go_wp2_with (at_builtin; refine wpA19 _ rfl (.tmp 33) (.tmp 34) 39 rfl 39 rfl _ _ rfl rfl HA.out ?_; clear HA)
          go_roundg g'
          case measure => omega
          case rel => exact ⟨j + 1, _, by go_num, by omega, by omega, HN⟩
    · have hlt : i < n := by omega
      have hdec : decide ((i : Int) < (n : Int)) = true := decide_eq_true (by omega)
      obtain ⟨va', w2, e1, e2, e3, e4⟩ := hJ.out.moreA (by omega)
      have HA := Fact.mk e1
      have HN := Fact.mk e4
      have c0 := hJ.out.mm.c0
      clear e1 e4
      obtain ⟨g2, c2, rfl⟩ := ownsRow_pos (by omega) HN.out.mm.ra
      obtain ⟨g', rfl⟩ : ∃ g', gk = g' + 1 := ⟨gk - 1, by omega⟩
      go_wp2_with (at_builtin; refine wpA19 _ rfl (.tmp 19) (.tmp 20) 39 rfl 39 rfl _ _ rfl rfl HA.out ?_; clear HA)
      go_roundg g'
      case measure => omega
      case rel => exact ⟨i + 1, _, by go_num, by omega, by omega, HN⟩
end Go.Proofs.Ytkojhgagkoeeiaa
end

/- The chapter's own matching: Add, whole, Pairs. -/
section
set_option linter.unusedVariables false
set_option linter.unusedSimpArgs false
namespace Go.Proofs.Ytkojhgagkoeeiaa
open Go.Deep (BT)
open Go.RowKit Go.Shelf M

abbrev slV (g n c : Nat) : Value := .slice (some ⟨g, 0, none⟩) n c
theorem MM.ne {w : World} {base p n m ga ca gb cb : Nat} {M : Mt} (h : MM w base p n m (slV ga n ca) (slV gb m cb) M) : ga ≠ gb ∧ ga ≠ p ∧ gb ≠ p ∧ base ≤ ga ∧ base ≤ gb := by
  have h1 := (h.ra.lt ga rfl).1
  have h2 := (h.rb.lt gb rfl).1
  have h3 := h.pb
  refine ⟨fun e => ?_, by omega, by omega, h1, h2⟩
  rcases h.ap with e' | e'
  · simp [Value.ownBlock] at e'
  · exact e' (by rw [e]; rfl)
theorem MM.setA {w : World} {base p n m ga ca gb cb : Nat} {M : Mt} (h : MM w base p n m (slV ga n ca) (slV gb m cb) M) (i : Nat) (y : Int) : MM (w.setCell ⟨ga, i, none⟩ (.int .i64 y)) base p n m (slV ga n ca) (slV gb m cb) ⟨M.a.set i y, M.b⟩ := by
  obtain ⟨n1, n2, n3, n4, n5⟩ := h.ne
  have e : (w.setCell ⟨ga, i, none⟩ (.int .i64 y)).heap[p]? = w.heap[p]? := Below.heap_setCell _ _ _ _ (fun e => n2 e.symm)
  have hr := rowV_set h.ra i (.int .i64 y)
  rw [cJ_set] at hr
  exact ⟨(World.cell?_of_block (a := ⟨p, 0, none⟩) e).trans h.c0, (World.cell?_of_block (a := ⟨p, 1, none⟩) e).trans h.c1, fun o => (World.frozen?_of_block (a := ⟨p, o, none⟩) e).trans (h.fz o), hr, own_otherS h.rb (fun e => n1 e.symm) _ _, h.ap, h.pb⟩
theorem MM.setB {w : World} {base p n m ga ca gb cb : Nat} {M : Mt} (h : MM w base p n m (slV ga n ca) (slV gb m cb) M) (i : Nat) (y : Int) : MM (w.setCell ⟨gb, i, none⟩ (.int .i64 y)) base p n m (slV ga n ca) (slV gb m cb) ⟨M.a, M.b.set i y⟩ := by
  obtain ⟨n1, n2, n3, n4, n5⟩ := h.ne
  have e : (w.setCell ⟨gb, i, none⟩ (.int .i64 y)).heap[p]? = w.heap[p]? := Below.heap_setCell _ _ _ _ (fun e => n3 e.symm)
  have hr := rowV_set h.rb i (.int .i64 y)
  rw [cJ_set] at hr
  exact ⟨(World.cell?_of_block (a := ⟨p, 0, none⟩) e).trans h.c0, (World.cell?_of_block (a := ⟨p, 1, none⟩) e).trans h.c1, fun o => (World.frozen?_of_block (a := ⟨p, o, none⟩) e).trans (h.fz o), own_otherS h.ra n1 _ _, hr, h.ap, h.pb⟩
set_option maxRecDepth 20000 in
set_option maxHeartbeats 2000000 in
theorem rAdd_any {base p n m ga ca gb cb : Nat} {M : Mt} (w : World) (h : MM w base p n m (slV ga n ca) (slV gb m cb) M) (i k : Nat) (hi : i < n) (hk : k < m) (hn : n ≤ 1000000) (hm : m ≤ 1000000) :
    Calls Try.prog 54 #[.pointer (some ⟨p, 0, none⟩), .int .i64 i, .int .i64 k] w fun e w' => (∃ v, e = .returned v) ∧ Kept (fun g => g < base) w w' ∧ MM w' base p n m (slV ga n ca) (slV gb m cb) ⟨M.a.set i k, M.b.set k i⟩ := by
  obtain ⟨n1, n2, n3, n4, n5⟩ := h.ne
  obtain ⟨la, lb⟩ := h.len
  obtain ⟨u, hu⟩ : ∃ u, M.a[i]? = some u := ⟨M.a[i]'(by omega), by simp⟩
  obtain ⟨u', hu'⟩ : ∃ u, M.b[k]? = some u := ⟨M.b[k]'(by omega), by simp⟩
  have h2 := h.setA i k
  obtain ⟨c1, c2, _, c4, c5, c6, c7⟩ := rowV_at h.ra (cJ_get hu)
  obtain ⟨d1, d2, _, d4, d5, d6, d7⟩ := rowV_at h2.rb (cJ_get hu')
  have HN : Fact (MM ((w.setCell ⟨ga, i, none⟩ (.int .i64 k)).setCell ⟨gb, k, none⟩ (.int .i64 i)) base p n m (slV ga n ca) (slV gb m cb) ⟨M.a.set i k, M.b.set k i⟩) := ⟨h2.setB k i⟩
  have HK : Fact (Kept (fun g => g < base) w ((w.setCell ⟨ga, i, none⟩ (.int .i64 k)).setCell ⟨gb, k, none⟩ (.int .i64 i))) := ⟨((Kept.refl _ w).setCell (p := ⟨ga, i, none⟩) (by show ¬ ga < base; omega) _).setCell (p := ⟨gb, k, none⟩) (by show ¬ gb < base; omega) _⟩
  have p0 := h.c0
  have p1 := h2.c1
  have f1 := c2 i
  have f2 := d2 k
  obtain ⟨W2, hW2⟩ : ∃ W2, w.setCell ⟨ga, i, none⟩ (.int .i64 k) = W2 := ⟨_, rfl⟩
  rw [hW2] at HN HK d1 f2 p1
  have HW2 := Fact.mk hW2
  clear h h2 hu hu' c2 d2 la lb hW2 d4
  dsimp only [slV] at *
  go_enter Try.func54, Try.ntmps54
  go_upto_region 1 with fail
  rw [HW2.out]
  go_wp2_with fail
  go_end0
  exact ⟨⟨_, rfl⟩, HK.out, HN.out⟩

set_option maxRecDepth 20000 in
set_option maxHeartbeats 2000000 in
theorem rWhole_any {base p n m ga ca gb cb : Nat} {M : Mt} (w : World) (h : MM w base p n m (slV ga n ca) (slV gb m cb) M) (i k z : Nat) (hi : i + z ≤ n) (hk : k + z ≤ m) (hn : n ≤ 1000000) (hm : m ≤ 1000000) :
    Calls Try.prog 39 #[.pointer (some ⟨p, 0, none⟩), .int .i64 i, .int .i64 k, .int .i64 z] w fun e w' => (∃ v, e = .returned v) ∧ Kept (fun g => g < base) w w' ∧ MM w' base p n m (slV ga n ca) (slV gb m cb) (joinM M i k z) := by
  have J0 : Fact (Kept (fun g => g < base) w w ∧ MM w base p n m (slV ga n ca) (slV gb m cb) (joinM M i k 0)) := ⟨Kept.refl _ _, h⟩
  clear h
  go_enter Try.func39, Try.ntmps39
  go_wp2_with fail
  go_loopg [8] z (fun gf iv wr => ∃ j : Nat, iv = .int .i64 j ∧ j ≤ z ∧ z - j ≤ gf ∧ Fact (Kept (fun g => g < base) w wr ∧ MM wr base p n m (slV ga n ca) (slV gb m cb) (joinM M i k j)))
  case atStart => exact ⟨0, rfl, Nat.zero_le _, Nat.le_refl _, J0⟩
  case round =>
    obtain ⟨j, rfl, hj, hgf, hJ⟩ := hrel
    by_cases hjz : j = z
    · subst hjz
      have hdec : decide ((j : Int) < (j : Int)) = false := decide_eq_false (by omega)
      go_wp2_with fail
      go_end0
      exact ⟨⟨_, rfl⟩, hJ.out.1, hJ.out.2⟩
    · have hlt : j < z := by omega
      have hdec : decide ((j : Int) < (z : Int)) = true := decide_eq_true (by omega)
      obtain ⟨q1, hq1⟩ : ∃ p, i + j = p := ⟨_, rfl⟩
      obtain ⟨q2, hq2⟩ : ∃ q, k + j = q := ⟨_, rfl⟩
      have hpI : (i : Int) + (j : Int) = (q1 : Int) := by omega
      have hqI : (k : Int) + (j : Int) = (q2 : Int) := by omega
      have HA : Fact (Calls Try.prog 54 #[.pointer (some ⟨p, 0, none⟩), .int .i64 q1, .int .i64 q2] wr fun e w' => (∃ v, e = .returned v) ∧ Kept (fun g => g < base) wr w' ∧ MM w' base p n m (slV ga n ca) (slV gb m cb) (joinM M i k (j + 1))) := ⟨by
        have h := rAdd_any wr hJ.out.2 q1 q2 (by omega) (by omega) hn hm
        refine h.mono ?_
        rintro e w' ⟨h1, h2, h3⟩
        refine ⟨h1, h2, ?_⟩
        rw [← hq1, ← hq2] at h3
        exact h3⟩
      obtain ⟨g', rfl⟩ : ∃ g', gk = g' + 1 := ⟨gk - 1, by omega⟩
      go_wp2_with (go_at_call 54; refine HA.out.mono ?_; rintro e w6 ⟨⟨v6, rfl⟩, hk6, h26⟩)
      have HN : Fact (Kept (fun g => g < base) w w6 ∧ MM w6 base p n m (slV ga n ca) (slV gb m cb) (joinM M i k (j + 1))) := ⟨hJ.out.1.trans hk6, h26⟩
      go_roundg g'
      case measure => omega
      case rel => exact ⟨j + 1, by go_num, by omega, by omega, HN⟩
/-- what stands while pairs are put down -/
structure PR2 (w : World) (L : List Int) (i : Nat) (v : Value) (W : World) : Prop where
  below : Below w.heap.size w W
  acc : ∃ acc, pairsF 0 L = acc ++ pairsF i (L.drop i) ∧ acc.length ≤ i ∧ W.ownsRow w.heap.size 46 2 v acc.length (cP acc)
theorem PR2.skip {w : World} {L : List Int} {i : Nat} {v : Value} {W : World} (h : PR2 w L i v W) (hx : L[i]? = some (-1)) : PR2 w L (i + 1) v W := by
  obtain ⟨acc, e, hl, ho⟩ := h.acc
  exact ⟨h.below, acc, by rw [e, pairsF_drop hx, if_pos rfl], by omega, ho⟩
theorem PR2.more {w : World} {L : List Int} {i : Nat} {v : Value} {W : World} (h : PR2 w L i v W) {x : Int} (hx : L[i]? = some x) (hne : ¬ x = -1) (hi : i ≤ 1000000) :
    ∃ v' w2, (Builtin.append_ #[31, 31] 31 #[v, .slice (some ⟨W.heap.size, 0, none⟩) 1 1]).run Try.prog (W.alloc (.cells #[.int .i64 i, .int .i64 x] 46)) = .ok v' w2 ∧ PR2 w L (i + 1) v' w2 := by
  obtain ⟨acc, e, hl, ho⟩ := h.acc
  obtain ⟨v', w2, h1, h2, h3⟩ := pair_more ho h.below.size (by omega) i x
  refine ⟨v', w2, h1, h.below.trans (h3.below h.below.size (fun g hg => hg)), acc ++ [(i, x)], ?_, by simp; omega, h2⟩
  rw [e, pairsF_drop hx, if_neg hne]
  simp

set_option maxRecDepth 20000 in
set_option maxHeartbeats 4000000 in
theorem rPairs_any {base p n m ga ca gb cb : Nat} {M : Mt} (w : World) (h : MM w base p n m (slV ga n ca) (slV gb m cb) M) (hg : ∀ v ∈ M.a, -1 ≤ v) (hn : n ≤ 1000000) :
    Calls Try.prog 19 #[.pointer (some ⟨p, 0, none⟩)] w fun e w' => ∃ v, e = .returned v ∧ Below w.heap.size w w' ∧ Fact (w'.ownsRow w.heap.size 46 2 v (pairsF 0 M.a).length (cP (pairsF 0 M.a))) := by
  have hl := h.len.1
  have HM := Fact.mk h
  have HG := Fact.mk hg
  clear h hg
  have J0 : Fact (PR2 w M.a 0 (.slice none 0 0) w) := ⟨⟨Below.refl _ w, [], rfl, Nat.le_refl _, World.ownsRow_nil _ _ _ _⟩⟩
  dsimp only [slV] at HM
  go_enter Try.func19, Try.ntmps19
  go_wp2_with fail
  go_loopg [3, 4] n (fun gf lv iv wr => ∃ i : Nat, iv = .int .i64 i ∧ i ≤ n ∧ n - i ≤ gf ∧ Fact (PR2 w M.a i lv wr))
  case atStart => exact ⟨0, rfl, Nat.zero_le _, Nat.le_refl _, J0⟩
  case round =>
    obtain ⟨i, rfl, hin, hgf, hJ⟩ := hrel
    have hm := HM.out.below hJ.out.below
    have p0 := hm.c0
    have HMR := Fact.mk hm
    clear hm
    by_cases hjz : i = n
    · subst hjz
      have hdec : decide ((i : Int) < (i : Int)) = false := decide_eq_false (by omega)
      go_wp2_with fail
      go_ret
      obtain ⟨acc, e, hl2, ho⟩ := hJ.out.acc
      rw [List.drop_eq_nil_of_le (by omega)] at e
      have e2 : pairsF 0 M.a = acc := by rw [e]; simp [pairsF]
      rw [e2]
      exact ⟨_, rfl, hJ.out.below, ⟨ho⟩⟩
    · have hlt : i < n := by omega
      have hdec : decide ((i : Int) < (n : Int)) = true := decide_eq_true (by omega)
      obtain ⟨x, hx⟩ : ∃ x, M.a[i]? = some x := ⟨M.a[i]'(by omega), by simp⟩
      have hx0 := HG.out x (List.mem_of_getElem? hx)
      obtain ⟨d1, _, _, d4, d5, d6, d7⟩ := rowV_at HMR.out.ra (cJ_get hx)
      obtain ⟨g', rfl⟩ : ∃ g', gk = g' + 1 := ⟨gk - 1, by omega⟩
      by_cases hx1 : x = -1
      · subst hx1
        have HN := Fact.mk (hJ.out.skip hx)
        clear hx hx0
        go_wp2_with fail
        go_roundg g'
        case measure => omega
        case rel => exact ⟨i + 1, by go_num, by omega, by omega, HN⟩
      · have hd0 : decide (x ≥ 0) = true := decide_eq_true (by omega)
        have hd1 : decide (0 ≤ x) = true := decide_eq_true (by omega)
        have hx2 : 0 ≤ x := by omega
        obtain ⟨v', w2, e1, e2⟩ := hJ.out.more hx hx1 (by omega)
        have HA := Fact.mk e1
        have HN := Fact.mk e2
        clear hx e1 e2
        go_wp2_with (at_builtin; refine wpA19 _ rfl (.tmp 22) (.tmp 32) 31 rfl 31 rfl _ _ rfl rfl HA.out ?_; clear HA)
        go_roundg g'
        case measure => omega
        case rel => exact ⟨i + 1, by go_num, by omega, by omega, HN⟩
end Go.Proofs.Ytkojhgagkoeeiaa
end

section
set_option linter.unusedVariables false
set_option linter.unusedSimpArgs false
namespace Go.Proofs.Ytkojhgagkoeeiaa
open Go.Deep (BT)
open Go.RowKit Go.Shelf M
open Bt (mx IsU mx_u ret_int)

theorem infoKey : (Try.prog.info? 90).map (fun i => (i.zero, i.size, i.bytes)) = some (some (.agg #[.int .u64 0, .int .u64 0]), 2, 16) := by kernel_rfl
/-- a key more -/
theorem key_more {w : World} {base : Nat} {v : Value} {acc : List (Int × Int)} (h : w.ownsRow base 90 2 v acc.length (c2K acc)) (hb : base ≤ w.heap.size) (hl : acc.length ≤ 1000000) (y : Int × Int) :
    ∃ v' w2, (Builtin.append_ #[57, 57] 57 #[v, .slice (some ⟨w.heap.size, 0, none⟩) 1 1]).run Try.prog (w.alloc (.cells #[.int .u64 y.1, .int .u64 y.2] 90)) = .ok v' w2 ∧
      w2.ownsRow base 90 2 v' (acc.length + 1) (c2K (acc ++ [y])) ∧ (w.alloc (.cells #[.int .u64 y.1, .int .u64 y.2] 90)).grownBy w2 v.ownBlock := by
  obtain ⟨i0, hii, hz0, hz1, hz2⟩ := info_parts infoKey
  have hc := two_cells w (.int .u64 y.1) (.int .u64 y.2) 90
  obtain ⟨v', w2, ha, hown, hgr, _, hloc⟩ := run_append_own_at (P := Try.prog) (w := w.alloc (.cells #[.int .u64 y.1, .int .u64 y.2] 90)) base 57 57 90 i0 _ 2 16 Try.underlying57 hii hz0 hz1 hz2 rfl (by decide) v _ _ (h.alloc _) ⟨w.heap.size, 0, none⟩ 1 1 [.int .u64 y.1, .int .u64 y.2] rfl
    (fun j u hu => by rw [add_zero, Nat.zero_add]; exact hc j u hu) (by simp [Value.oneCell']) (by unfold maxLen; omega) (by omega) (by simp; omega)
  refine ⟨v', w2, ha, ?_, hgr⟩
  rw [c2K_append]
  exact hown
/-- what stands while a side is made: the list of nodes in block gi, the box in block X, the rows from block B on -/
structure NS (w0 : World) (X B n gi ci : Nat) (its : List (Im × Value)) (ks : List (Int × Int)) (gh ch : Nat) (hs : List Int) (ik ip : Nat) (vk vp : Value) (W : World) : Prop where
  below : Below w0.heap.size w0 W
  size : B ≤ W.heap.size
  xb : w0.heap.size + 2 ≤ X ∧ X < B
  res : Box3 (w0.heap.size + 1) (.slice none 0 0) (.slice none 0 0) (.slice none 0 0) W
  box : Box3 X (.slice (some ⟨gi, 0, none⟩) n ci) vk vp W
  fz : ∀ o, W.frozen? ⟨X, o, none⟩ = false
  fr : ∀ o, W.frozen? ⟨w0.heap.size + 1, o, none⟩ = false
  it : W.ownsRow (w0.heap.size + 2) 65 10 (.slice (some ⟨gi, 0, none⟩) n ci) n (cellsIt its)
  ig : gi < B ∧ gi ≠ X ∧ w0.heap.size + 2 ≤ gi
  ats : ∀ y ∈ its, AS (fun b => w0.heap.size + 2 ≤ b ∧ b < B ∧ b ≠ X) W y.2 y.1.d.ats
  ha : W.ownsRow (w0.heap.size + 2) 88 1 (.slice (some ⟨gh, 0, none⟩) n ch) n (cU hs)
  hg : gh < B ∧ gh ≠ X
  rk : W.ownsRow B 90 2 vk ik (c2K (ks.take ik))
  rp : W.ownsRow B 3 1 vp ip (cJ (List.replicate ip (-1)))
theorem NS.step {w0 : World} {X B n gi ci : Nat} {its : List (Im × Value)} {ks : List (Int × Int)} {gh ch : Nat} {hs : List Int} {ik ip jk jp : Nat} {vk vp vk' vp' : Value} {W W' : World} (h : NS w0 X B n gi ci its ks gh ch hs ik ip vk vp W) (hsz : W.heap.size ≤ W'.heap.size) (hos : W'.os = W.os ∧ W'.tape = W.tape ∧ W'.output = W.output)
    (hk : ∀ g, g < B → g ≠ X → W'.heap[g]? = W.heap[g]?) (hb : Box3 X (.slice (some ⟨gi, 0, none⟩) n ci) vk' vp' W') (hf : ∀ o, W'.frozen? ⟨X, o, none⟩ = false) (rk : W'.ownsRow B 90 2 vk' jk (c2K (ks.take jk))) (rp : W'.ownsRow B 3 1 vp' jp (cJ (List.replicate jp (-1)))) : NS w0 X B n gi ci its ks gh ch hs jk jp vk' vp' W' := by
  obtain ⟨hx1, hx2⟩ := h.xb
  have hz := h.size
  have e1 := hk (w0.heap.size + 1) (by omega) (by omega)
  exact ⟨h.below.trans ⟨hos.1, hos.2.1, hos.2.2, hsz, fun g hg => hk g (by omega) (by omega)⟩, by omega, h.xb, h.res.same e1, hb, hf, fun o => (World.frozen?_of_block (a := ⟨w0.heap.size + 1, o, none⟩) e1).trans (h.fr o),
    own_block h.it (fun g e _ => hk g (by cases e; exact h.ig.1) (by cases e; exact h.ig.2.1)), h.ig, fun y hy => (h.ats y hy).like (fun b hb _ => hk b hb.2.1 hb.2.2), own_block h.ha (fun g e _ => hk g (by cases e; exact h.hg.1) (by cases e; exact h.hg.2)), h.hg, rk, rp⟩
theorem NS.alloc {w0 : World} {X B n gi ci : Nat} {its : List (Im × Value)} {ks : List (Int × Int)} {gh ch : Nat} {hs : List Int} {ik ip : Nat} {vk vp : Value} {W : World} (h : NS w0 X B n gi ci its ks gh ch hs ik ip vk vp W) (o : Obj) : NS w0 X B n gi ci its ks gh ch hs ik ip vk vp (W.alloc o) := by
  have hz := h.size
  obtain ⟨hx1, hx2⟩ := h.xb
  have hb : ∀ g, g < W.heap.size → (W.alloc o).heap[g]? = W.heap[g]? := fun g hg => Below.heap_alloc _ _ _ hg
  exact h.step (by simp) ⟨rfl, rfl, rfl⟩ (fun g hg _ => hb g (by omega)) (h.box.same (hb X (by omega))) (fun q => (World.frozen?_of_block (a := ⟨X, q, none⟩) (hb X (by omega))).trans (h.fz q)) (h.rk.alloc o) (h.rp.alloc o)
theorem NS.key {w0 : World} {X B n gi ci : Nat} {its : List (Im × Value)} {ks : List (Int × Int)} {gh ch : Nat} {hs : List Int} {i ip : Nat} {vk vp : Value} {W : World} (h : NS w0 X B n gi ci its ks gh ch hs i ip vk vp W) {y : Int × Int} (hy : ks[i]? = some y) (hi : i ≤ 1000000) :
    ∃ vk' w2, (Builtin.append_ #[57, 57] 57 #[vk, .slice (some ⟨W.heap.size, 0, none⟩) 1 1]).run Try.prog (W.alloc (.cells #[.int .u64 y.1, .int .u64 y.2] 90)) = .ok vk' w2 ∧ w2.cell? ⟨X, 1, none⟩ = some vk ∧ w2.frozen? ⟨X, 1, none⟩ = false ∧
      NS w0 X B n gi ci its ks gh ch hs (i + 1) ip vk' vp (w2.setCell ⟨X, 1, none⟩ vk') := by
  obtain ⟨hx1, hx2⟩ := h.xb
  have hz := h.size
  have hl : (ks.take i).length = i := by have := (List.getElem?_eq_some_iff.1 hy).1; rw [List.length_take]; omega
  have hrk := h.rk
  obtain ⟨vk', w2, ha, hown, hgr⟩ := key_more (acc := ks.take i) (by rw [hl]; exact hrk) hz (by omega) y
  rw [hl] at hown
  have hsz := hgr.size
  have hblk : ∀ g, g < B → w2.heap[g]? = W.heap[g]? := fun g hg => (hgr.block g (by simp; omega) (fun e => by have := (hrk.lt g e.symm).1; omega)).trans (Below.heap_alloc _ _ _ (by omega))
  have hb2 := h.box.same (hblk X hx2)
  have hf2 : ∀ o, w2.frozen? ⟨X, o, none⟩ = false := fun o => (World.frozen?_of_block (a := ⟨X, o, none⟩) (hblk X hx2)).trans (h.fz o)
  have up : ∀ {E z l : Nat} {v : Value} {xs : List Value}, w2.ownsRow B E z v l xs → (w2.setCell ⟨X, 1, none⟩ vk').ownsRow B E z v l xs := fun ho => own_block ho (fun k e hk => Below.heap_setCell _ _ _ _ (fun e' => by have := (ho.lt k e.symm).1; have e2 : k = X := e'; omega))
  refine ⟨vk', w2, ha, hb2.c1, hf2 1, h.step (by simp at hsz ⊢; omega) ⟨hgr.os, hgr.tape, hgr.output⟩ (fun g hg hne => (Below.heap_setCell _ _ _ _ hne).trans (hblk g hg)) ⟨(setC_other (by omega)).trans hb2.c0, setC_same hb2.c1, (setC_other (by omega)).trans hb2.c2⟩ (fun o => frozen_setC hf2) (up ?_) (up ((h.rp.alloc _).kept hgr (own_apart19 (by decide) h.rp hrk)))⟩
  rw [List.take_add_one, hy]
  exact hown
theorem NS.part {w0 : World} {X B n gi ci : Nat} {its : List (Im × Value)} {ks : List (Int × Int)} {gh ch : Nat} {hs : List Int} {ik i : Nat} {vk vp : Value} {W : World} (h : NS w0 X B n gi ci its ks gh ch hs ik i vk vp W) (hi : i ≤ 1000000) :
    ∃ vp' w2, (Builtin.append_ #[39, 39] 39 #[vp, .slice (some ⟨W.heap.size, 0, none⟩) 1 1]).run Try.prog (W.alloc (.cells #[.int .i64 (-1)] 3)) = .ok vp' w2 ∧ w2.cell? ⟨X, 2, none⟩ = some vp ∧ w2.frozen? ⟨X, 2, none⟩ = false ∧
      NS w0 X B n gi ci its ks gh ch hs ik (i + 1) vk vp' (w2.setCell ⟨X, 2, none⟩ vp') := by
  obtain ⟨hx1, hx2⟩ := h.xb
  have hz := h.size
  have hrp := h.rp
  obtain ⟨vp', w2, ha, hown, hgr, _⟩ := minus_more hrp hz hi
  have hsz := hgr.size
  have hblk : ∀ g, g < B → w2.heap[g]? = W.heap[g]? := fun g hg => (hgr.block g (by simp; omega) (fun e => by have := (hrp.lt g e.symm).1; omega)).trans (Below.heap_alloc _ _ _ (by omega))
  have hb2 := h.box.same (hblk X hx2)
  have hf2 : ∀ o, w2.frozen? ⟨X, o, none⟩ = false := fun o => (World.frozen?_of_block (a := ⟨X, o, none⟩) (hblk X hx2)).trans (h.fz o)
  have up : ∀ {E z l : Nat} {v : Value} {xs : List Value}, w2.ownsRow B E z v l xs → (w2.setCell ⟨X, 2, none⟩ vp').ownsRow B E z v l xs := fun ho => own_block ho (fun k e hk => Below.heap_setCell _ _ _ _ (fun e' => by have := (ho.lt k e.symm).1; have e2 : k = X := e'; omega))
  exact ⟨vp', w2, ha, hb2.c2, hf2 2, h.step (by simp at hsz ⊢; omega) ⟨hgr.os, hgr.tape, hgr.output⟩ (fun g hg hne => (Below.heap_setCell _ _ _ _ hne).trans (hblk g hg)) ⟨(setC_other (by omega)).trans hb2.c0, (setC_other (by omega)).trans hb2.c1, setC_same hb2.c2⟩ (fun o => frozen_setC hf2) (up ((h.rk.alloc _).kept hgr (own_apart19 (by decide) h.rk hrp))) (up hown)⟩

/-- a side that is new -/
structure SdN (w w' : World) (s : Sd) : Prop where
  l : SdL (fun g => w.heap.size ≤ g ∧ g < w'.heap.size ∧ g ≠ s.gp) w' s
  pa : w'.ownsRow 0 3 1 (.slice (some ⟨s.gp, 0, none⟩) s.n s.cp) s.n (cJ (List.replicate s.n (-1)))
  ge : w.heap.size ≤ s.gp
theorem box3_all {w : World} {b : Nat} {u0 u1 u2 : Value} (h : Box3 b u0 u1 u2 w) (v0 v1 v2 : Value) : Box3 b v0 v1 v2 (((w.setCell ⟨b, 0, none⟩ v0).setCell ⟨b, 1, none⟩ v1).setCell ⟨b, 2, none⟩ v2) := by
  refine ⟨(setC_other (by omega)).trans ((setC_other (by omega)).trans (setC_same h.c0)), (setC_other (by omega)).trans (setC_same ((setC_other (by omega)).trans h.c1)), setC_same ((setC_other (by omega)).trans ((setC_other (by omega)).trans h.c2))⟩
theorem own_zero {w : World} {B E z n : Nat} {v : Value} {xs : List Value} (h : w.ownsRow B E z v n xs) : w.ownsRow 0 E z v n xs := own_lessP h (Nat.zero_le _)

set_option maxRecDepth 20000 in
set_option maxHeartbeats 4000000 in
theorem newSide_any (d : Nd) (k : M.F) (va ka : Value) (n : Nat) (w : World) (hks : k.size + 1 = n) (L : Lim d k) (hl : Lies w.heap.size w d k va ka) :
    Calls Try.prog 29 #[nodeV d va ka] w fun e w' => ∃ s : Sd, e = .returned s.v ∧ Below w.heap.size w w' ∧ Fact (SdT s d k ∧ SdN w w' s ∧ s.n = n) := by
  have hn : n ≤ 1000000 := by rw [← hks]; exact L.sz
  have hn1 : 1 ≤ n := by omega
  obtain ⟨p1, p2, p3, e1⟩ := hl.a.val
  obtain ⟨q1, q2, e2⟩ := hl.f.val
  subst e1 e2
  obtain ⟨kl, hkl⟩ : ∃ kl, k.len = kl := ⟨_, rfl⟩
  rw [hkl] at hl ⊢
  clear hkl
  obtain ⟨K, N, X, A⟩ := d
  obtain ⟨W1, hW1⟩ : ∃ W1, (w.alloc (.cells #[.int .i64 K, .string N, .string X, .slice p1 p2 p3, .slice q1 kl q2] 25)).alloc (.cells #[.slice none 0 0, .slice none 0 0, .slice none 0 0] 59) = W1 := ⟨_, rfl⟩
  have hB1 : Below w.heap.size w W1 := by rw [← hW1]; exact ((Below.refl _ w).alloc (Nat.le_refl _) _).alloc (by simp) _
  have hz1 : W1.heap.size = w.heap.size + 2 := by rw [← hW1]; simp
  have hbx : Box5 w.heap.size K N X (.slice p1 p2 p3) (.slice q1 kl q2) W1 := by
    rw [← hW1]; exact (Box5.new _ _ _ _ _ _ _).keep ((Below.refl _ _).alloc (Nat.le_refl _) _)
  have hbr : Box3 (w.heap.size + 1) (.slice none 0 0) (.slice none 0 0) (.slice none 0 0) W1 := by
    have h := Box3.new (w.alloc (.cells #[.int .i64 K, .string N, .string X, .slice p1 p2 p3, .slice q1 kl q2] 25)) (.slice none 0 0) (.slice none 0 0) (.slice none 0 0) 59
    rw [hW1, World.size_alloc] at h
    exact h
  have hfr : ∀ o, W1.frozen? ⟨w.heap.size + 1, o, none⟩ = false := fun o => by
    have h := World.frozen?_alloc_new (w.alloc (.cells #[.int .i64 K, .string N, .string X, .slice p1 p2 p3, .slice q1 kl q2] 25)) #[.slice none 0 0, .slice none 0 0, .slice none 0 0] 59 o
    rw [hW1, World.size_alloc] at h
    exact h
  have HW1 := Fact.mk hW1
  have HB1 := Fact.mk hB1
  have HBR := Fact.mk hbr
  have HFR := Fact.mk hfr
  have HL := Fact.mk hl
  have HLIM := Fact.mk L
  have HKS := Fact.mk hks
  have HZ1 := Fact.mk hz1
  have HBX := Fact.mk hbx
  have HFL := Fact.mk (flatN ⟨K, N, X, A⟩ k _ _ n W1 hks L ((hl.below hB1).here hB1.size))
  have b0 := hbx.c0
  have b1 := hbx.c1
  have b2 := hbx.c2
  have b3 := hbx.c3
  have b4 := hbx.c4
  clear hbx hB1 hW1 hl hks L hbr hfr hz1
  go_enter Try.func29, Try.ntmps29
  go_upto_region 1 with fail
  rw [HW1.out]
  go_upto_region 2 with (go_at_call 49; refine HFL.out.mono ?_; rintro e w3 ⟨g3, c3, its, rfl, hb3, hm3, hr3, ha3⟩)
  obtain ⟨W4, hW4⟩ : ∃ W4, w3.alloc (.cells #[.slice (some ⟨g3, 0, none⟩) n c3, .slice none 0 0, .slice none 0 0] 59) = W4 := ⟨_, rfl⟩
  have hb4 : Below w3.heap.size w3 W4 := by rw [← hW4]; exact (Below.refl _ w3).alloc (Nat.le_refl _) _
  have hz4 : W4.heap.size = w3.heap.size + 1 := by rw [← hW4]; simp
  have hbs : Box3 w3.heap.size (.slice (some ⟨g3, 0, none⟩) n c3) (.slice none 0 0) (.slice none 0 0) W4 := by rw [← hW4]; exact Box3.new _ _ _ _ _
  have hfs : ∀ o, W4.frozen? ⟨w3.heap.size, o, none⟩ = false := fun o => by rw [← hW4]; exact World.frozen?_alloc_new w3 _ _ o
  have hbx4 := (HBX.out.keep hb3).keep hb4
  have c0 := hbx4.c0
  have c1 := hbx4.c1
  have c2 := hbx4.c2
  have c3' := hbx4.c3
  have c4 := hbx4.c4
  have hBB4 : Below W1.heap.size W1 W4 := hb3.trans (hb4.mono hb3.size)
  have HB4 : Fact (Below w.heap.size w W4) := ⟨HB1.out.trans (hBB4.mono HB1.out.size)⟩
  have HALL := Fact.mk (hall_any ⟨K, N, X, A⟩ k _ _ n W4 HKS.out HLIM.out ((HL.out.below HB4.out).here HB4.out.size))
  have HW4 := Fact.mk hW4
  have HHB4 := Fact.mk hb4
  have HHB3 := Fact.mk hb3
  have HBB4 := Fact.mk hBB4
  have HZ4 := Fact.mk hz4
  have HBS := Fact.mk hbs
  have HFS := Fact.mk hfs
  clear b0 b1 b2 b3 b4 hbx4 hBB4 hb4 hb3 hW4 hz4 hbs hfs
  rw [HW4.out]
  go_wp2_with (go_at_call 50; refine HALL.out.mono ?_; rintro e w5 ⟨gh, rfl, hb5, hr5⟩)
  have HNS : Fact (NS w w3.heap.size w5.heap.size n g3 c3 its (keyL ⟨K, N, X, A⟩ k) gh n (finT ⟨K, N, X, A⟩ k) 0 0 (.slice none 0 0) (.slice none 0 0) w5) := ⟨by
    have z1 := HZ1.out
    have z4 := HZ4.out
    have s3 := HHB3.out.size
    have s5 := hb5.size
    have l3 := hr3.out.lt g3 rfl
    have l5 := hr5.out.lt gh rfl
    have hb35 : Below w3.heap.size w3 w5 := HHB4.out.trans (hb5.mono HHB4.out.size)
    have hb15 : Below W1.heap.size W1 w5 := HBB4.out.trans (hb5.mono HBB4.out.size)
    refine ⟨HB4.out.trans (hb5.mono HB4.out.size), Nat.le_refl _, ⟨by omega, by omega⟩, HBR.out.keep hb15, HBS.out.keep hb5, fun o => (World.frozen?_of_block (a := ⟨w3.heap.size, o, none⟩) (hb5.block w3.heap.size (by omega))).trans (HFS.out o), fun o => (World.frozen?_of_block (a := ⟨w.heap.size + 1, o, none⟩) (hb15.block (w.heap.size + 1) (by omega))).trans (HFR.out o), ?_, ⟨by omega, by omega, by omega⟩, fun y hy => ?_, ?_, ⟨l5.2, by omega⟩, World.ownsRow_nil _ _ _ _, World.ownsRow_nil _ _ _ _⟩
    · have h := own_upH hr3.out hb35
      rw [z1] at h
      exact h
    · exact (((ha3.out y hy).inn.like (fun b hb _ => hb35.block b hb.2)).mono (fun b hb => ⟨by omega, by omega, by omega⟩))
    · exact own_lessP hr5.out (by omega)⟩
  have HIT : Fact (its.map (·.1) = flatT ⟨K, N, X, A⟩ k) := hm3
  clear HALL HBS HFS HFL hr3 ha3 hm3 hr5 hb5 c0 c1 c2 c3' c4 HBX HBR HFR HL HB4 HBB4 HHB3 HHB4 HB1 HW1 HW4
  obtain ⟨X3, hX3⟩ : ∃ x, w3.heap.size = x := ⟨_, rfl⟩
  rw [hX3] at HNS ⊢
  clear hX3 HZ4
  obtain ⟨B, hB⟩ : ∃ x, w5.heap.size = x := ⟨_, rfl⟩
  rw [hB] at HNS
  go_loopg [13] n (fun gf iv wr => ∃ (i : Nat) (vk vp : Value), iv = .int .i64 i ∧ i ≤ n ∧ n - i ≤ gf ∧ Fact (NS w X3 B n g3 c3 its (keyL ⟨K, N, X, A⟩ k) gh n (finT ⟨K, N, X, A⟩ k) i i vk vp wr))
  case atStart => exact ⟨0, _, _, rfl, Nat.zero_le _, Nat.le_refl _, HNS⟩
  case round =>
    obtain ⟨i, vk, vp, rfl, hin, hgf, hJ⟩ := hrel
    by_cases hjz : i = n
    · subst hjz
      have hdec : decide ((i : Int) < (i : Int)) = false := decide_eq_false (by omega)
      obtain ⟨gK, cK, rfl⟩ := ownsRow_pos hn1 hJ.out.rk
      obtain ⟨gP, cp, rfl⟩ := ownsRow_pos hn1 hJ.out.rp
      have x0 := hJ.out.box.c0
      have x1 := hJ.out.box.c1
      have x2 := hJ.out.box.c2
      have r0 := hJ.out.res.c0
      have r1 := hJ.out.res.c1
      have r2 := hJ.out.res.c2
      have f0 := hJ.out.fr 0
      have f1 := hJ.out.fr 1
      have f2 := hJ.out.fr 2
      have H3 := box3_all hJ.out.res (.slice (some ⟨g3, 0, none⟩) i c3) (.slice (some ⟨gK, 0, none⟩) i cK) (.slice (some ⟨gP, 0, none⟩) i cp)
      obtain ⟨h30, h31, h32⟩ := H3
      have HEND : Fact (SdT ⟨i, g3, c3, gK, cK, gP, cp, its, keyL ⟨K, N, X, A⟩ k⟩ ⟨K, N, X, A⟩ k ∧ SdN w (((wr.setCell ⟨w.heap.size + 1, 0, none⟩ (.slice (some ⟨g3, 0, none⟩) i c3)).setCell ⟨w.heap.size + 1, 1, none⟩ (.slice (some ⟨gK, 0, none⟩) i cK)).setCell ⟨w.heap.size + 1, 2, none⟩ (.slice (some ⟨gP, 0, none⟩) i cp)) ⟨i, g3, c3, gK, cK, gP, cp, its, keyL ⟨K, N, X, A⟩ k⟩ ∧ Below w.heap.size w (((wr.setCell ⟨w.heap.size + 1, 0, none⟩ (.slice (some ⟨g3, 0, none⟩) i c3)).setCell ⟨w.heap.size + 1, 1, none⟩ (.slice (some ⟨gK, 0, none⟩) i cK)).setCell ⟨w.heap.size + 1, 2, none⟩ (.slice (some ⟨gP, 0, none⟩) i cp))) := ⟨by
        have hxb := hJ.out.xb
        have hsz := hJ.out.size
        have lk := hJ.out.rk.lt gK rfl
        have lp := hJ.out.rp.lt gP rfl
        have ig := hJ.out.ig
        have hkl : (keyL ⟨K, N, X, A⟩ k).length = i := by rw [keyL_len]; exact HKS.out
        have hil : its.length = i := by have h := congrArg List.length HIT.out; rw [List.length_map, flatT_len, HKS.out] at h; exact h
        have hkp : gK ≠ gP := fun e => by
          rcases own_apart19 (by decide) hJ.out.rk hJ.out.rp with h | h
          · simp [Value.ownBlock] at h
          · exact h (by rw [e]; rfl)
        obtain ⟨W9, hW9⟩ : ∃ W9, (((wr.setCell ⟨w.heap.size + 1, 0, none⟩ (.slice (some ⟨g3, 0, none⟩) i c3)).setCell ⟨w.heap.size + 1, 1, none⟩ (.slice (some ⟨gK, 0, none⟩) i cK)).setCell ⟨w.heap.size + 1, 2, none⟩ (.slice (some ⟨gP, 0, none⟩) i cp)) = W9 := ⟨_, rfl⟩
        have hk9 : Kept (fun g => g ≠ w.heap.size + 1) wr W9 := by
          rw [← hW9]
          exact (((Kept.refl _ wr).setCell (p := ⟨w.heap.size + 1, 0, none⟩) (by show ¬ (w.heap.size + 1 ≠ w.heap.size + 1); omega) _).setCell (p := ⟨w.heap.size + 1, 1, none⟩) (by show ¬ (w.heap.size + 1 ≠ w.heap.size + 1); omega) _).setCell (p := ⟨w.heap.size + 1, 2, none⟩) (by show ¬ (w.heap.size + 1 ≠ w.heap.size + 1); omega) _
        have hs9 := hk9.size
        rw [hW9]
        refine ⟨⟨HIT.out, rfl, HKS.out, HLIM.out.dp⟩, ⟨⟨own_zero (own_block hJ.out.it (fun g e hg => hk9.block g hg (by cases e; show g3 ≠ _; omega))), ?_, fun y hy => ?_, ⟨by show _ ≤ g3; omega, by show g3 < _; omega, by show g3 ≠ gP; omega⟩, ⟨by show _ ≤ gK; omega, by show gK < _; omega, hkp⟩, hil, hkl, hn⟩, own_zero (own_block hJ.out.rp (fun g e hg => hk9.block g hg (by cases e; show gP ≠ _; omega))), by show _ ≤ gP; omega⟩, hJ.out.below.trans (hk9.below hJ.out.below.size (fun g hg => by omega))⟩
        · have h := hJ.out.rk
          rw [List.take_of_length_le (by omega)] at h
          exact own_zero (own_block h (fun g e hg => hk9.block g hg (by cases e; show gK ≠ _; omega)))
        · exact (((hJ.out.ats y hy).like (fun b hb hz => hk9.block b hz (by show b ≠ _; omega)))).mono (fun b hb => ⟨by omega, by omega, by show b ≠ gP; omega⟩)⟩
      clear hJ
      go_wp2_with fail
      exact bodyPost_ret (v := sdV i g3 c3 gK cK gP cp) (by simp [results, Try.f29, go_sem, h30, h31, h32]) rfl ⟨⟨i, g3, c3, gK, cK, gP, cp, its, keyL ⟨K, N, X, A⟩ k⟩, rfl, HEND.out.2.2, ⟨HEND.out.1, HEND.out.2.1, rfl⟩⟩
    · have hlt : i < n := by omega
      have hdec : decide ((i : Int) < (n : Int)) = true := decide_eq_true (by omega)
      have hil : its.length = n := by have h := congrArg List.length HIT.out; rw [List.length_map, flatT_len, HKS.out] at h; exact h
      obtain ⟨y, hy⟩ : ∃ y, its[i]? = some y := ⟨its[i]'(by omega), by simp⟩
      have hy1 : (flatT ⟨K, N, X, A⟩ k)[i]? = some y.1 := by rw [← HIT.out, List.getElem?_map, hy]; rfl
      obtain ⟨f, hf, ez, eh⟩ := flatT_sub hy1
      have hfin := fin_of hf
      have hkey := keyL_of hy1 hf
      have hdep := subsT_depth hf
      obtain ⟨z', ez', hz1', hz2'⟩ := flat_le hy1
      have hLd := HLIM.out.dp
      have hfd : f.depth + 1 ≤ 1000000 := by have h1 : f.depth ≤ k.depth := hdep; omega
      have hyb : 0 ≤ y.1.z ∧ y.1.z ≤ 1000000 ∧ 0 ≤ y.1.h ∧ y.1.h ≤ 1000000 := by have := HKS.out; omega
      clear hfd
      obtain ⟨h0, hh0⟩ : ∃ h, hT y.1.d f = h := ⟨_, rfl⟩
      dsimp only at hfin
      rw [hh0] at hfin hkey
      obtain ⟨q0, _, _, q4, q5, q6, q7⟩ := rowV_at hJ.out.ha (cU_get hfin)
      have hrr := row10_at hJ.out.it hy
      obtain ⟨ya, yl, yc, hyv⟩ := (hJ.out.ats y (List.mem_of_getElem? hy)).val
      obtain ⟨hr, _, _, _, hc1, hc2, _⟩ := hrr
      obtain ⟨⟨yp, yz, ydp, yh, ypl, ⟨K', N', X', A'⟩⟩, yav⟩ := y
      dsimp only at hyv ez eh ez' hkey hdep hyb
      subst hyv
      have r0 : wr.cell? ⟨g3, i * 10, none⟩ = some (.int .i64 yp) := hr 0 _ rfl
      have r1 : wr.cell? ⟨g3, i * 10 + 1, none⟩ = some (.int .i64 yz) := hr 1 _ rfl
      have r2 : wr.cell? ⟨g3, i * 10 + 2, none⟩ = some (.int .i64 ydp) := hr 2 _ rfl
      have r3 : wr.cell? ⟨g3, i * 10 + 3, none⟩ = some (.int .i64 yh) := hr 3 _ rfl
      have r4 : wr.cell? ⟨g3, i * 10 + 4, none⟩ = some (.int .i64 ypl) := hr 4 _ rfl
      have r5 : wr.cell? ⟨g3, i * 10 + 5, none⟩ = some (.int .i64 K') := hr 5 _ rfl
      have r6 : wr.cell? ⟨g3, i * 10 + 6, none⟩ = some (.string N') := hr 6 _ rfl
      have r7 : wr.cell? ⟨g3, i * 10 + 7, none⟩ = some (.string X') := hr 7 _ rfl
      have r8 : wr.cell? ⟨g3, i * 10 + 8, none⟩ = some (.slice ya yl yc) := hr 8 _ rfl
      have r9 : wr.cell? ⟨g3, i * 10 + 9, none⟩ = some (.slice none 0 0) := hr 9 _ rfl
      have x0 := hJ.out.box.c0
      obtain ⟨W2, hW2⟩ : ∃ W2, wr.alloc (.cells #[.int .i64 yp, .int .i64 yz, .int .i64 ydp, .int .i64 yh, .int .i64 ypl, .int .i64 K', .string N', .string X', .slice ya yl yc, .slice none 0 0] 65) = W2 := ⟨_, rfl⟩
      have v1 : W2.cell? ⟨wr.heap.size, 1, none⟩ = some (.int .i64 yz) := by rw [← hW2]; exact World.cell?_alloc_new wr _ _ 1
      have v3 : W2.cell? ⟨wr.heap.size, 3, none⟩ = some (.int .i64 yh) := by rw [← hW2]; exact World.cell?_alloc_new wr _ _ 3
      have HJ2 : NS w X3 B n g3 c3 its (keyL ⟨K, N, X, A⟩ k) gh n (finT ⟨K, N, X, A⟩ k) i i vk vp W2 := by rw [← hW2]; exact hJ.out.alloc _
      obtain ⟨vk', w6, e1, e2, e3, e4⟩ := HJ2.key hkey (by omega)
      obtain ⟨gK, cK, rfl⟩ := ownsRow_pos (by omega) e4.rk
      have HA := Fact.mk e1
      have HK6 := Fact.mk e4
      have HW2 := Fact.mk hW2
      have V1 := Fact.mk v1
      have V3 := Fact.mk v3
      have X1 := Fact.mk HJ2.box.c1
      have wz : IntKind.u64.wrap yz = yz := by rw [IntKind.wrap_u64]; omega
      have wh : IntKind.u64.wrap yh = yh := by rw [IntKind.wrap_u64]; omega
      have ws : IntKind.u64.wrap (yz * 4294967296) = yz * 4294967296 := by rw [IntKind.wrap_u64]; omega
      have wa : IntKind.u64.wrap (yz * 4294967296 + yh) = yz * 4294967296 + yh := by rw [IntKind.wrap_u64]; omega
      obtain ⟨g', rfl⟩ : ∃ g', gk = g' + 1 := ⟨gk - 1, by omega⟩
      clear hr hy hy1 hf hfin hkey hdep e1 e4 HJ2 v1 v3 hW2 hJ hh0 ez' hz1' hz2' hLd
      clear hyb ez eh
      go_upto_region 6 with fail
      rw [HW2.out]
      have v1 := V1.out
      have v3 := V3.out
      have x1 := X1.out
      go_upto_region 7 with (at_builtin; refine wpA19 _ rfl (.tmp 24) (.tmp 35) 57 rfl 57 rfl _ _ rfl rfl HA.out ?_; clear HA)
      obtain ⟨W7, hW7⟩ : ∃ W7, w6.setCell ⟨X3, 1, none⟩ (.slice (some ⟨gK, 0, none⟩) (i + 1) cK) = W7 := ⟨_, rfl⟩
      rw [hW7] at HK6
      rw [hW7]
      obtain ⟨vp', w8, g1, g2, g3', g4⟩ := HK6.out.part (by omega)
      obtain ⟨gP, cp, rfl⟩ := ownsRow_pos (by omega) g4.rp
      have HA := Fact.mk g1
      have HN := Fact.mk g4
      have x2 := HK6.out.box.c2
      clear g1 g4 HK6
      go_wp2_with (at_builtin; refine wpA19 _ rfl (.tmp 39) (.tmp 40) 39 rfl 39 rfl _ _ rfl rfl HA.out ?_; clear HA)
      go_roundg g'
      case measure => omega
      case rel => exact ⟨i + 1, _, _, by go_num, by omega, by omega, HN⟩
end Go.Proofs.Ytkojhgagkoeeiaa
end
