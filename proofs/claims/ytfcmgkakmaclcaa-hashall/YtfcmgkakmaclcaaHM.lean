/- Numbers of texts and trees, in plain terms. -/
import Derived.Test.YtfcmgkakmaclcaaFlatM
import Derived.Test.YtfcmgkakmaclcaaPostM
import Derived.Test.YtfcmgkakmaclcaaHMath
set_option linter.unusedVariables false
set_option linter.unusedSimpArgs false
namespace Go.Proofs.Ytfcmgkakmaclcaa.M
open Go.Deep
open Bt (mx sum8 IsU mx_u)

/-- a byte of a text, nought behind its end -/
def bt (l : List UInt8) (i : Nat) : Int := match l[i]? with | some b => (b.toNat : Int) | none => 0
theorem bt_b (l : List UInt8) (i : Nat) : 0 ≤ bt l i ∧ bt l i < 256 := by
  unfold bt
  split
  · rename_i b _
    have := b.toNat_lt
    omega
  · omega
def oct (l : List UInt8) : Int := sum8 (bt l 0) (bt l 1) (bt l 2) (bt l 3) (bt l 4) (bt l 5) (bt l 6) (bt l 7)
theorem oct_u (l : List UInt8) : IsU (oct l) := by
  have h0 := bt_b l 0
  have h1 := bt_b l 1
  have h2 := bt_b l 2
  have h3 := bt_b l 3
  have h4 := bt_b l 4
  have h5 := bt_b l 5
  have h6 := bt_b l 6
  have h7 := bt_b l 7
  constructor <;> (unfold oct sum8; omega)
/-- a text's number, so far -/
def txF : Nat → Int → List UInt8 → Int
  | 0, h, _ => h
  | n + 1, h, l => if l.length = 0 then h else txF n (mx h (oct l)) (l.drop 8)
theorem txF_nil (n : Nat) (h : Int) : txF n h [] = h := by cases n <;> simp [txF]
theorem txF_more : ∀ (n m : Nat) (h : Int) (l : List UInt8), l.length ≤ n → l.length ≤ m → txF n h l = txF m h l
  | n, m, h, [], _, _ => by rw [txF_nil, txF_nil]
  | 0, _, _, _ :: _, hn, _ => by simp at hn
  | _ + 1, 0, _, _ :: _, _, hm => by simp at hm
  | n + 1, m + 1, h, b :: l, hn, hm => by
    simp only [List.length_cons] at hn hm
    rw [txF, txF, if_neg (by simp), if_neg (by simp)]
    exact txF_more n m _ _ (by simp; omega) (by simp; omega)
def txG (h : Int) (l : List UInt8) : Int := txF l.length h l
theorem txG_nil (h : Int) : txG h [] = h := txF_nil _ _
theorem txG_step (h : Int) (l : List UInt8) (hl : 0 < l.length) : txG (mx h (oct l)) (l.drop 8) = txG h l := by
  unfold txG
  cases l with
  | nil => cases hl
  | cons b l =>
    rw [show (b :: l).length = l.length + 1 from rfl, txF, if_neg (by simp)]
    exact txF_more _ _ _ _ (Nat.le_refl _) (by simp)
def tx (s : ByteArray) : Int := txG (IntKind.u64.wrap s.size) s.data.toList
theorem wrap_u (z : Int) : IsU (IntKind.u64.wrap z) := by constructor <;> (rw [IntKind.wrap_u64]; omega)
theorem txF_u : ∀ (n : Nat) (h : Int) (l : List UInt8), IsU h → IsU (txF n h l)
  | 0, h, _, hu => hu
  | n + 1, h, l, hu => by
    rw [txF]
    split
    · exact hu
    · exact txF_u n _ _ (mx_u _ _)

theorem tx_u (s : ByteArray) : IsU (tx s) := txF_u _ _ _ (wrap_u _)
/-- a node's number as far as its kids are not in it -/
def alA (h : Int) : List (ByteArray × ByteArray) → Int
  | [] => h
  | a :: r => alA (mx (mx h (tx a.1)) (tx a.2)) r
def al (d : Nd) : Int := alA (mx (mx (mx (IntKind.u64.wrap d.k) (tx d.n)) (tx d.x)) d.ats.length) d.ats
theorem alA_snoc (h : Int) (l : List (ByteArray × ByteArray)) (a : ByteArray × ByteArray) : alA h (l ++ [a]) = mx (mx (alA h l) (tx a.1)) (tx a.2) := by
  induction l generalizing h with
  | nil => rfl
  | cons x l ih => exact ih _
theorem alA_u : ∀ (l : List (ByteArray × ByteArray)) (h : Int), IsU h → IsU (alA h l)
  | [], _, hu => hu
  | _ :: r, _, _ => alA_u r _ (mx_u _ _)
theorem al_u (d : Nd) : IsU (al d) := alA_u _ _ (mx_u _ _)
/-- kids mixed in, one behind the other -/
def hK : Int → F → Int
  | h, .nil => h
  | h, .node _ _ d k r => hK (mx h (hK (mx (al d) k.len) k)) r
def hT (d : Nd) (k : F) : Int := hK (mx (al d) k.len) k
theorem hK_u : ∀ (f : F) (h : Int), IsU h → IsU (hK h f)
  | .nil, _, hu => hu
  | .node _ _ d k r, h, hu => hK_u r _ (mx_u _ _)
theorem hT_u (d : Nd) (k : F) : IsU (hT d k) := hK_u _ _ (mx_u _ _)
/-- of each node, by its number: before its kids, how many they are, and whole -/
def iniF : F → List Int
  | .nil => []
  | .node _ _ d k r => mx (al d) k.len :: (iniF k ++ iniF r)
def cntF : F → List Int
  | .nil => []
  | .node _ _ d k r => (k.len : Int) :: (cntF k ++ cntF r)
def finF : F → List Int
  | .nil => []
  | .node _ _ d k r => hT d k :: (finF k ++ finF r)
def finT (d : Nd) (k : F) : List Int := hT d k :: finF k
def cntT (k : F) : List Int := (k.len : Int) :: cntF k
def iniT (d : Nd) (k : F) : List Int := mx (al d) k.len :: iniF k
theorem cntF_len : ∀ f : F, (cntF f).length = f.size
  | .nil => rfl
  | .node _ _ d k r => by simp [cntF, BT.size, cntF_len k, cntF_len r]; omega
theorem finF_len : ∀ f : F, (finF f).length = f.size
  | .nil => rfl
  | .node _ _ d k r => by simp [finF, BT.size, finF_len k, finF_len r]; omega
theorem iniF_len : ∀ f : F, (iniF f).length = f.size
  | .nil => rfl
  | .node _ _ d k r => by simp [iniF, BT.size, iniF_len k, iniF_len r]; omega
theorem iniF_zip : ∀ (f : F) (p : Int) (dp pl id : Nat), iniF f = List.zipWith (fun (y : Im) c => mx (al y.d) c) (flatF p dp pl id f) (cntF f)
  | .nil, _, _, _, _ => rfl
  | .node _ _ d k r, p, dp, pl, id => by
    rw [iniF, flatF, cntF, List.zipWith_cons_cons, List.zipWith_append (by rw [flatF_len, cntF_len]), ← iniF_zip k, ← iniF_zip r]
theorem iniT_zip (d : Nd) (k : F) : iniT d k = List.zipWith (fun (y : Im) c => mx (al y.d) c) (flatT d k) (cntT k) := by
  rw [iniT, flatT, cntT, List.zipWith_cons_cons, ← iniF_zip]
theorem iniF_u : ∀ (f : F), ∀ a ∈ iniF f, IsU a
  | .nil, _, h => by cases h
  | .node _ _ d k r, a, h => by
    rcases List.mem_cons.1 h with rfl | h
    · exact mx_u _ _
    · rcases List.mem_append.1 h with h | h
      · exact iniF_u k a h
      · exact iniF_u r a h
theorem iniT_u (d : Nd) (k : F) : ∀ a ∈ iniT d k, IsU a := fun a h => by
  rcases List.mem_cons.1 h with rfl | h
  · exact mx_u _ _
  · exact iniF_u k a h

theorem modi_left {α : Type} {L R : List α} {i : Nat} (h : i < L.length) (f : α → α) : (L ++ R).modify i f = L.modify i f ++ R := by
  apply List.ext_getElem?
  intro j
  rw [List.getElem?_modify, List.getElem?_append, List.getElem?_append, List.length_modify, List.getElem?_modify]
  by_cases hj : j < L.length
  · simp [hj]
  · simp [hj, show ¬ i = j by omega]
theorem modi_last {α : Type} (L : List α) (y : α) (f : α → α) : (L ++ [y]).modify L.length f = L ++ [f y] := by
  apply List.ext_getElem?
  intro j
  rw [List.getElem?_modify, List.getElem?_append, List.getElem?_append]
  by_cases hj : j < L.length
  · simp [hj, show ¬ L.length = j by omega]
  · by_cases h2 : L.length = j
    · subst h2; simp
    · simp [hj, h2]; rw [List.getElem?_eq_none (by simp; omega), List.getElem?_eq_none (by simp; omega)]
theorem modi_twice {α : Type} (L : List α) (i : Nat) (f g : α → α) : (L.modify i f).modify i g = L.modify i (fun a => g (f a)) := by
  apply List.ext_getElem?
  intro j
  rw [List.getElem?_modify, List.getElem?_modify, List.getElem?_modify]
  by_cases hj : i = j
  · subst hj; cases L[i]? <;> simp
  · simp [hj]

/-- a node mixed into its parent -/
def stepP (its : List Im) (A : List Int) (id : Nat) : List Int := match its[id]? with
  | none => A
  | some y => if y.p < 0 then A else A.modify y.p.toNat (fun a => mx a (A.getD id 0))
theorem stepP_len (its : List Im) (A : List Int) (id : Nat) : (stepP its A id).length = A.length := by
  unfold stepP
  split
  · rfl
  · split <;> simp
theorem post_run (its : List Im) : ∀ (f : F) (q dp pl id : Nat) (L R : List Int), L.length = id → q < id → (∀ i, i < f.size → its[id + i]? = (flatF q dp pl id f)[i]?) →
    (postF f id).foldl (stepP its) (L ++ (iniF f ++ R)) = L.modify q (fun a => hK a f) ++ (finF f ++ R)
  | .nil, q, dp, pl, id, L, R, hL, hq, hi => by
    simp only [postF, List.foldl_nil, iniF, finF, hK, List.nil_append]
    congr 1
    apply List.ext_getElem?
    intro j
    rw [List.getElem?_modify]
    by_cases h : q = j <;> simp [h]
  | .node xb xo d k r, q, dp, pl, id, L, R, hL, hq, hi => by
    have hz : (BT.node xb xo d k r).size = 1 + k.size + r.size := rfl
    rw [hz] at hi
    have hfl : flatF q dp pl id (.node xb xo d k r) = ⟨q, k.size + 1, dp, k.depth + 1, pl, d⟩ :: (flatF id (dp + 1) 0 (id + 1) k ++ flatF q dp (pl + 1) (id + 1 + k.size) r) := rfl
    rw [hfl] at hi
    rw [postF, List.foldl_append, List.foldl_cons, iniF, finF]
    have e1 : L ++ ((mx (al d) k.len :: (iniF k ++ iniF r)) ++ R) = (L ++ [mx (al d) k.len]) ++ (iniF k ++ (iniF r ++ R)) := by simp
    have ih1 := post_run its k id (dp + 1) 0 (id + 1) (L ++ [mx (al d) k.len]) (iniF r ++ R) (by simp [hL]) (by omega) (fun i h => by
      have := hi (i + 1) (by omega)
      rw [List.getElem?_cons_succ, List.getElem?_append_left (by rw [flatF_len]; exact h)] at this
      rw [show id + 1 + i = id + (i + 1) by omega]
      exact this)
    rw [e1, ih1]
    have e2 : (L ++ [mx (al d) k.len]).modify id (fun a => hK a k) = L ++ [hT d k] := by rw [← hL]; exact modi_last _ _ _
    rw [e2]
    have hy := hi 0 (by omega)
    rw [Nat.add_zero, List.getElem?_cons_zero] at hy
    have e3 : stepP its ((L ++ [hT d k]) ++ (finF k ++ (iniF r ++ R))) id = (L.modify q (fun a => mx a (hT d k)) ++ ([hT d k] ++ finF k)) ++ (iniF r ++ R) := by
      unfold stepP
      rw [hy]
      dsimp only
      rw [if_neg (by omega), Int.toNat_natCast]
      have : ((L ++ [hT d k]) ++ (finF k ++ (iniF r ++ R))).getD id 0 = hT d k := by
        rw [List.getD, List.append_assoc, List.getElem?_append_right (by omega), hL]
        simp
      rw [this, List.append_assoc, modi_left (by omega)]
      simp
    rw [e3]
    have hr := finF_len k
    have ih2 := post_run its r q dp (pl + 1) (id + 1 + k.size) (L.modify q (fun a => mx a (hT d k)) ++ ([hT d k] ++ finF k)) R (by simp [hL, hr]; omega) (by omega) (fun i h => by
      have := hi (1 + k.size + i) (by omega)
      rw [show 1 + k.size + i = (k.size + i) + 1 by omega, List.getElem?_cons_succ, List.getElem?_append_right (by rw [flatF_len]; omega), flatF_len, show k.size + i - k.size = i by omega] at this
      rw [show id + 1 + k.size + i = id + (k.size + i + 1) by omega]
      exact this)
    rw [ih2, modi_left (by rw [List.length_modify, hL]; exact hq), modi_twice]
    simp [hK, hT]
theorem post_all (d : Nd) (k : F) : (postF k 1 ++ [0]).foldl (stepP (flatT d k)) (iniT d k) = finT d k := by
  rw [List.foldl_append, List.foldl_cons, List.foldl_nil]
  have h := post_run (flatT d k) k 0 1 0 1 [mx (al d) k.len] [] rfl (by omega) (fun i h => by rw [flatT, Nat.add_comm, List.getElem?_cons_succ]; rfl)
  simp only [List.append_nil] at h
  have e : iniT d k = [mx (al d) k.len] ++ iniF k := rfl
  rw [e, h]
  have e2 : [mx (al d) k.len].modify 0 (fun a => hK a k) = [hT d k] := rfl
  rw [e2]
  unfold stepP
  rw [flatT, List.getElem?_cons_zero]
  dsimp only
  rw [if_pos (by omega)]
  rfl

/-- a kid counted in its parent -/
def stepC (C : List Int) (y : Im) : List Int := if y.p < 0 then C else C.modify y.p.toNat (fun a => a + 1)
theorem stepC_len (C : List Int) (y : Im) : (stepC C y).length = C.length := by unfold stepC; split <;> simp
theorem cnt_run : ∀ (f : F) (q dp pl id : Nat) (L R : List Int), L.length = id → q < id →
    (flatF q dp pl id f).foldl stepC (L ++ (List.replicate f.size 0 ++ R)) = L.modify q (fun a => a + f.len) ++ (cntF f ++ R)
  | .nil, q, dp, pl, id, L, R, hL, hq => by
    simp only [flatF, List.foldl_nil, BT.size, List.replicate_zero, cntF, BT.len, List.nil_append]
    congr 1
    apply List.ext_getElem?
    intro j
    rw [List.getElem?_modify]
    by_cases h : q = j <;> simp [h]
  | .node xb xo d k r, q, dp, pl, id, L, R, hL, hq => by
    have hz : (BT.node xb xo d k r).size = 1 + k.size + r.size := rfl
    have hl : (BT.node xb xo d k r).len = r.len + 1 := rfl
    rw [hz, hl]
    have hfl : flatF q dp pl id (.node xb xo d k r) = ⟨q, k.size + 1, dp, k.depth + 1, pl, d⟩ :: (flatF id (dp + 1) 0 (id + 1) k ++ flatF q dp (pl + 1) (id + 1 + k.size) r) := rfl
    rw [hfl, List.foldl_cons, List.foldl_append, cntF]
    have e0 : stepC (L ++ (List.replicate (1 + k.size + r.size) 0 ++ R)) ⟨q, k.size + 1, dp, k.depth + 1, pl, d⟩ = (L.modify q (fun a => a + 1) ++ [0]) ++ (List.replicate k.size 0 ++ (List.replicate r.size 0 ++ R)) := by
      unfold stepC
      dsimp only
      rw [if_neg (by omega), Int.toNat_natCast, modi_left (by omega), show 1 + k.size + r.size = 1 + (k.size + r.size) by omega, ← List.replicate_append_replicate]
      simp
      rw [← List.append_assoc, List.replicate_append_replicate]
    have hm : (L.modify q (fun a => a + 1)).length = id := by simp [hL]
    rw [e0, cnt_run k id (dp + 1) 0 (id + 1) (L.modify q (fun a => a + 1) ++ [0]) (List.replicate r.size 0 ++ R) (by simp [hL]) (by omega)]
    have e2 : (L.modify q (fun a => a + 1) ++ [(0 : Int)]).modify id (fun a => a + k.len) = L.modify q (fun a => a + 1) ++ [(k.len : Int)] := by
      rw [← hm, modi_last]; simp
    rw [e2]
    have e3 : (L.modify q (fun a => a + 1) ++ [(k.len : Int)]) ++ (cntF k ++ (List.replicate r.size 0 ++ R)) = (L.modify q (fun a => a + 1) ++ ([(k.len : Int)] ++ cntF k)) ++ (List.replicate r.size 0 ++ R) := by simp
    have hc := cntF_len k
    rw [e3, cnt_run r q dp (pl + 1) (id + 1 + k.size) (L.modify q (fun a => a + 1) ++ ([(k.len : Int)] ++ cntF k)) R (by simp [hL, hc]; omega) (by omega), modi_left (by rw [hm]; exact hq), modi_twice]
    have e4 : (fun a : Int => a + 1 + (r.len : Int)) = (fun a : Int => a + ((r.len + 1 : Nat) : Int)) := by funext a; omega
    rw [e4]
    simp
theorem cnt_all (d : Nd) (k : F) : (flatT d k).foldl stepC (List.replicate (k.size + 1) 0) = cntT k := by
  rw [flatT, List.foldl_cons]
  have e : stepC (List.replicate (k.size + 1) 0) ⟨-1, k.size + 1, 0, k.depth + 1, 0, d⟩ = [(0 : Int)] ++ (List.replicate k.size 0 ++ []) := by
    unfold stepC
    dsimp only
    rw [if_pos (by omega), List.replicate_succ]
    simp
  rw [e]
  have h := cnt_run k 0 1 0 1 [(0 : Int)] [] rfl (by omega)
  rw [show ((0 : Nat) : Int) = 0 from rfl] at h
  rw [h]
  simp [cntT]
/-- a count is at most so many as were met -/
theorem stepC_le {C : List Int} {y : Im} {n : Int} (h : ∀ a ∈ C, 0 ≤ a ∧ a ≤ n) : ∀ a ∈ stepC C y, 0 ≤ a ∧ a ≤ n + 1 := by
  intro a ha
  unfold stepC at ha
  split at ha
  · have := h a ha; omega
  · rw [List.mem_iff_getElem?] at ha
    obtain ⟨i, hi⟩ := ha
    rw [List.getElem?_modify] at hi
    cases hc : C[i]? with
    | none => rw [hc] at hi; simp at hi
    | some c =>
      rw [hc] at hi
      have := h c (List.mem_of_getElem? hc)
      simp at hi
      split at hi <;> omega
end Go.Proofs.Ytfcmgkakmaclcaa.M
