/- An order of texts, attributes, nodes and trees, as plain functions: -1, 0, 1; what follows of it. -/
import Derived.Test.YtkojhgagkoeeiaaForest
set_option linter.unusedVariables false
namespace Go.Proofs.Ytkojhgagkoeeiaa.M
open Go.Deep (BT)

/-- one, and where it says nothing the other one -/
def orI (x y : Int) : Int := if x = 0 then y else x
def ci (a b : Int) : Int := if a < b then -1 else if b < a then 1 else 0
/-- bytes -/
def cl : List UInt8 → List UInt8 → Int
  | [], [] => 0
  | [], _ :: _ => -1
  | _ :: _, [] => 1
  | a :: x, b :: y => orI (ci a.toNat b.toNat) (cl x y)
def cs (a b : ByteArray) : Int := cl a.data.toList b.data.toList
def cp (p q : ByteArray × ByteArray) : Int := orI (cs p.1 q.1) (cs p.2 q.2)
def ca : List (ByteArray × ByteArray) → List (ByteArray × ByteArray) → Int
  | [], [] => 0
  | [], _ :: _ => -1
  | _ :: _, [] => 1
  | p :: l, q :: m => orI (cp p q) (ca l m)
def cn (d e : Nd) : Int := orI (ci d.k e.k) (orI (cs d.n e.n) (orI (cs d.x e.x) (ca d.ats e.ats)))
def cF : F → F → Int
  | .nil, .nil => 0
  | .nil, .node _ _ _ _ _ => -1
  | .node _ _ _ _ _, .nil => 1
  | .node _ _ d k r, .node _ _ d' k' r' => orI (cn d d') (orI (cF k k') (cF r r'))
def cT (d : Nd) (k : F) (d' : Nd) (k' : F) : Int := orI (cn d d') (cF k k')
/-- what is still to be held against one another -/
def cS : List (F × F) → Int
  | [] => 0
  | (f, g) :: l => orI (cF f g) (cS l)

/-- signs -/
structure Sg (x : Int) : Prop where
  h : x = -1 ∨ x = 0 ∨ x = 1
theorem Sg.or {x y : Int} (h : Sg x) (k : Sg y) : Sg (orI x y) := by
  unfold orI; split
  · exact k
  · exact h
theorem sg0 : Sg 0 := ⟨by omega⟩
theorem sg1 : Sg 1 := ⟨by omega⟩
theorem sgm : Sg (-1) := ⟨by omega⟩
theorem ci_sg (a b : Int) : Sg (ci a b) := by unfold ci; split; exact sgm; split; exact sg1; exact sg0
theorem cl_sg : ∀ a b, Sg (cl a b)
  | [], [] => sg0
  | [], _ :: _ => sgm
  | _ :: _, [] => sg1
  | a :: x, b :: y => (ci_sg _ _).or (cl_sg x y)
theorem cs_sg (a b : ByteArray) : Sg (cs a b) := cl_sg _ _
theorem cp_sg (p q : ByteArray × ByteArray) : Sg (cp p q) := (cs_sg _ _).or (cs_sg _ _)
theorem ca_sg : ∀ a b, Sg (ca a b)
  | [], [] => sg0
  | [], _ :: _ => sgm
  | _ :: _, [] => sg1
  | p :: l, q :: m => (cp_sg p q).or (ca_sg l m)
theorem cn_sg (d e : Nd) : Sg (cn d e) := (ci_sg _ _).or ((cs_sg _ _).or ((cs_sg _ _).or (ca_sg _ _)))
theorem cF_sg : ∀ f g, Sg (cF f g)
  | .nil, .nil => sg0
  | .nil, .node _ _ _ _ _ => sgm
  | .node _ _ _ _ _, .nil => sg1
  | .node _ _ d k r, .node _ _ d' k' r' => (cn_sg d d').or ((cF_sg k k').or (cF_sg r r'))
theorem cT_sg (d : Nd) (k : F) (d' : Nd) (k' : F) : Sg (cT d k d' k') := (cn_sg d d').or (cF_sg k k')

/-- the other way round it has the other sign -/
theorem orI_neg (x y : Int) : orI (-x) (-y) = -orI x y := by unfold orI; split <;> split <;> omega
theorem ci_neg (a b : Int) : ci b a = -ci a b := by unfold ci; split <;> split <;> (try split) <;> omega
theorem cl_neg : ∀ a b, cl b a = -cl a b
  | [], [] => rfl
  | [], _ :: _ => rfl
  | _ :: _, [] => rfl
  | a :: x, b :: y => by show orI _ _ = -orI _ _; rw [ci_neg a.toNat b.toNat, cl_neg x y, orI_neg]
theorem cs_neg (a b : ByteArray) : cs b a = -cs a b := cl_neg _ _
theorem cp_neg (p q : ByteArray × ByteArray) : cp q p = -cp p q := by unfold cp; rw [cs_neg p.1 q.1, cs_neg p.2 q.2, orI_neg]
theorem ca_neg : ∀ a b, ca b a = -ca a b
  | [], [] => rfl
  | [], _ :: _ => rfl
  | _ :: _, [] => rfl
  | p :: l, q :: m => by show orI _ _ = -orI _ _; rw [cp_neg p q, ca_neg l m, orI_neg]
theorem cn_neg (d e : Nd) : cn e d = -cn d e := by
  unfold cn; rw [ci_neg d.k e.k, cs_neg d.n e.n, cs_neg d.x e.x, ca_neg d.ats e.ats, orI_neg, orI_neg, orI_neg]
theorem cF_neg : ∀ f g, cF g f = -cF f g
  | .nil, .nil => rfl
  | .nil, .node _ _ _ _ _ => rfl
  | .node _ _ _ _ _, .nil => rfl
  | .node _ _ d k r, .node _ _ d' k' r' => by
    show orI _ (orI _ _) = -orI _ (orI _ _)
    rw [cn_neg d d', cF_neg k k', cF_neg r r', orI_neg, orI_neg]
theorem cT_neg (d : Nd) (k : F) (d' : Nd) (k' : F) : cT d' k' d k = -cT d k d' k' := by unfold cT; rw [cn_neg d d', cF_neg k k', orI_neg]

/-- three that are held against one another: one behind the other -/
structure Tri (x y z : Int) : Prop where
  a : x ≤ 0 → y ≤ 0 → z ≤ 0
  b : 0 ≤ x → 0 ≤ y → 0 ≤ z
  c : x < 0 → y ≤ 0 → z < 0
  d : x ≤ 0 → y < 0 → z < 0
  e : 0 < x → 0 ≤ y → 0 < z
  f : 0 ≤ x → 0 < y → 0 < z
theorem Tri.or {x y z x' y' z' : Int} (h : Tri x y z) (k : Tri x' y' z') : Tri (orI x x') (orI y y') (orI z z') := by
  obtain ⟨a, b, c, d, e, f⟩ := h
  obtain ⟨a', b', c', d', e', f'⟩ := k
  unfold orI
  constructor <;> (split <;> split <;> split <;> omega)
theorem ci_cases (a b : Int) : (a < b ∧ ci a b = -1) ∨ (b < a ∧ ci a b = 1) ∨ (a = b ∧ ci a b = 0) := by
  unfold ci
  by_cases h : a < b
  · exact .inl ⟨h, by rw [if_pos h]⟩
  · by_cases k : b < a
    · exact .inr (.inl ⟨k, by rw [if_neg h, if_pos k]⟩)
    · exact .inr (.inr ⟨by omega, by rw [if_neg h, if_neg k]⟩)
theorem tri_ci (a b c : Int) : Tri (ci a b) (ci b c) (ci a c) := by
  rcases ci_cases a b with ⟨h1, e1⟩ | ⟨h1, e1⟩ | ⟨h1, e1⟩ <;> rcases ci_cases b c with ⟨h2, e2⟩ | ⟨h2, e2⟩ | ⟨h2, e2⟩ <;> rcases ci_cases a c with ⟨h3, e3⟩ | ⟨h3, e3⟩ | ⟨h3, e3⟩ <;> rw [e1, e2, e3] <;> constructor <;> intros <;> omega
theorem tri0 : Tri 0 0 0 := by constructor <;> omega
theorem tri_cl : ∀ a b c, Tri (cl a b) (cl b c) (cl a c)
  | [], [], [] => tri0
  | [], [], _ :: _ => by constructor <;> simp [cl]
  | [], _ :: _, [] => by constructor <;> simp [cl]
  | _ :: _, [], [] => by constructor <;> simp [cl]
  | [], _ :: _, _ :: _ => by
    constructor <;> (simp only [cl]; intros; omega)
  | _ :: _, [], _ :: _ => by
    constructor <;> (simp only [cl]; intros; omega)
  | _ :: _, _ :: _, [] => by
    constructor <;> (simp only [cl]; intros; omega)
  | a :: x, b :: y, c :: z => (tri_ci _ _ _).or (tri_cl x y z)
theorem tri_cs (a b c : ByteArray) : Tri (cs a b) (cs b c) (cs a c) := tri_cl _ _ _
theorem tri_cp (a b c : ByteArray × ByteArray) : Tri (cp a b) (cp b c) (cp a c) := (tri_cs _ _ _).or (tri_cs _ _ _)
theorem tri_ca : ∀ a b c, Tri (ca a b) (ca b c) (ca a c)
  | [], [], [] => tri0
  | [], [], _ :: _ => by constructor <;> simp [ca]
  | [], _ :: _, [] => by constructor <;> simp [ca]
  | _ :: _, [], [] => by constructor <;> simp [ca]
  | [], _ :: _, _ :: _ => by
    constructor <;> (simp only [ca]; intros; omega)
  | _ :: _, [], _ :: _ => by
    constructor <;> (simp only [ca]; intros; omega)
  | _ :: _, _ :: _, [] => by
    constructor <;> (simp only [ca]; intros; omega)
  | a :: x, b :: y, c :: z => (tri_cp _ _ _).or (tri_ca x y z)
theorem tri_cn (a b c : Nd) : Tri (cn a b) (cn b c) (cn a c) := (tri_ci _ _ _).or ((tri_cs _ _ _).or ((tri_cs _ _ _).or (tri_ca _ _ _)))
theorem tri_cF : ∀ a b c, Tri (cF a b) (cF b c) (cF a c)
  | .nil, .nil, .nil => tri0
  | .nil, .nil, .node _ _ _ _ _ => by constructor <;> simp [cF]
  | .nil, .node _ _ _ _ _, .nil => by constructor <;> simp [cF]
  | .node _ _ _ _ _, .nil, .nil => by constructor <;> simp [cF]
  | .nil, .node _ _ _ _ _, .node _ _ _ _ _ => by
    constructor <;> (simp only [cF]; intros; omega)
  | .node _ _ _ _ _, .nil, .node _ _ _ _ _ => by
    constructor <;> (simp only [cF]; intros; omega)
  | .node _ _ _ _ _, .node _ _ _ _ _, .nil => by
    constructor <;> (simp only [cF]; intros; omega)
  | .node _ _ d k r, .node _ _ d' k' r', .node _ _ d'' k'' r'' => (tri_cn _ _ _).or ((tri_cF k k' k'').or (tri_cF r r' r''))
theorem tri_cT (d : Nd) (k : F) (d' : Nd) (k' : F) (d'' : Nd) (k'' : F) : Tri (cT d k d' k') (cT d' k' d'' k'') (cT d k d'' k'') := (tri_cn _ _ _).or (tri_cF _ _ _)

/-- 0 just for the same -/
theorem orI_zero (x y : Int) : orI x y = 0 ↔ x = 0 ∧ y = 0 := by unfold orI; split <;> omega
theorem ci_zero (a b : Int) : ci a b = 0 ↔ a = b := by unfold ci; split <;> (try split) <;> omega
theorem cl_zero : ∀ a b, cl a b = 0 ↔ a = b
  | [], [] => by simp [cl]
  | [], _ :: _ => by simp [cl]
  | _ :: _, [] => by simp [cl]
  | a :: x, b :: y => by
    show orI _ _ = 0 ↔ _
    rw [orI_zero, ci_zero, cl_zero x y, List.cons.injEq]
    have : ((a.toNat : Int) = b.toNat) ↔ a = b := by
      constructor
      · intro h; exact UInt8.toNat_inj.1 (by omega)
      · intro h; rw [h]
    rw [this]
theorem cs_zero (a b : ByteArray) : cs a b = 0 ↔ a = b := by
  unfold cs
  rw [cl_zero]
  obtain ⟨⟨a⟩⟩ := a
  obtain ⟨⟨b⟩⟩ := b
  simp
theorem cp_zero (p q : ByteArray × ByteArray) : cp p q = 0 ↔ p = q := by
  unfold cp
  rw [orI_zero, cs_zero, cs_zero]
  exact (Prod.ext_iff).symm
theorem cF_self : ∀ f : F, cF f f = 0
  | .nil => rfl
  | .node _ _ d k r => by
    have h1 := cn_neg d d
    have h2 := cF_self k
    have h3 := cF_self r
    show orI _ (orI _ _) = 0
    rw [h2, h3]
    unfold orI
    split <;> omega
end Go.Proofs.Ytkojhgagkoeeiaa.M
