/- Deep and wide trees, in plain terms. -/
import Derived.Test.YtjjkidenlgghkaaOrdM
import Derived.Test.YtjjkidenlgghkaaWide
set_option linter.unusedVariables false
namespace Go.Proofs.Ytjjkidenlgghkaa
open Go.Deep (BT)
open Go.RowKit M

abbrev txN : Nd := ⟨3, ⟨#[]⟩, ⟨#[98]⟩, []⟩
def txR : Nw := ⟨txN, .nil, .slice none 0 0, .slice none 0 0⟩
theorem chain_size : ∀ m, (chainF m).size = m
  | 0 => rfl
  | m + 1 => by show 1 + (chainF m).size + 0 = m + 1; rw [chain_size m]; omega
theorem chain_depth : ∀ m, (chainF m).depth = m
  | 0 => rfl
  | m + 1 => by show max ((chainF m).depth + 1) 0 = m + 1; rw [chain_depth m]; omega
theorem chain_slots : ∀ m, (chainF m).slots = 0
  | 0 => rfl
  | m + 1 => by show 0 + (chainF m).slots + 0 = 0; rw [chain_slots m]
/-- the last one of a chain -/
theorem chain_last : ∀ (m : Nat) (p : Int) (dp id : Nat), ∃ y, (flatF p dp 0 id (chainF (m + 1)))[m]? = some y ∧ y.dp = dp + m ∧ y.h = 1
  | 0, p, dp, id => ⟨_, rfl, rfl, rfl⟩
  | m + 1, p, dp, id => by
    obtain ⟨y, h1, h2, h3⟩ := chain_last m id (dp + 1) (id + 1)
    refine ⟨y, ?_, by omega, h3⟩
    show ((_ :: (flatF id (dp + 1) 0 (id + 1) (chainF (m + 1)) ++ flatF p dp (0 + 1) (id + 1 + _) .nil)) : List Im)[m + 1]? = some y
    rw [List.getElem?_cons_succ, List.getElem?_append_left (by rw [flatF_len, chain_size]; omega)]
    exact h1
theorem chainT_last (m : Nat) : ∃ y, (flatT elN (chainF m))[m]? = some y ∧ y.dp = m ∧ y.h = 1 := by
  cases m with
  | zero => exact ⟨_, rfl, rfl, rfl⟩
  | succ m =>
    obtain ⟨y, h1, h2, h3⟩ := chain_last m 0 1 1
    exact ⟨y, by rw [flatT, List.getElem?_cons_succ]; exact h1, by omega, h3⟩
theorem chain_post : ∀ (m id : Nat), (postF (chainF (m + 1)) id)[0]? = some (id + m)
  | 0, id => rfl
  | m + 1, id => by
    show (postF (chainF (m + 1)) (id + 1) ++ _)[0]? = _
    rw [List.getElem?_append_left (by rw [postF_len, chain_size]; omega), chain_post m (id + 1)]
    congr 1
    omega
theorem chainT_post (m : Nat) : (postF (chainF m) 1 ++ [0])[0]? = some m := by
  cases m with
  | zero => rfl
  | succ m =>
    rw [List.getElem?_append_left (by rw [postF_len, chain_size]; omega), chain_post]
    congr 1
    omega
theorem post_last (k : M.F) : (postF k 1 ++ [0])[k.size]? = some 0 := by
  rw [List.getElem?_append_right (by rw [postF_len]; omega), postF_len]
  simp
/-- in a chain a way is as long as its node's number says -/
theorem chain_way : ∀ (m : Nat) (up : List St) (id pl : Nat), up.length = id → ∀ x ∈ evF up (chainF m) id pl, x.way.length = lastId x + 1
  | 0, _, _, _, _, x, hx => by cases hx
  | m + 1, up, id, pl, hu, x, hx => by
    have e : evF up (chainF (m + 1)) id pl = ⟨up ++ [⟨elN, chainF m, id, pl⟩], false⟩ :: (evF (up ++ [⟨elN, chainF m, id, pl⟩]) (chainF m) (id + 1) 0 ++ ⟨up ++ [⟨elN, chainF m, id, pl⟩], true⟩ :: evF up .nil (id + 1 + (chainF m).size) (pl + 1)) := rfl
    rw [e] at hx
    rcases List.mem_cons.1 hx with rfl | hx
    · simp [lastId, hu]
    · rcases List.mem_append.1 hx with hx | hx
      · exact chain_way m _ _ _ (by simp [hu]) x hx
      · rcases List.mem_cons.1 hx with rfl | hx
        · simp [lastId, hu]
        · cases hx
theorem chainT_way (m : Nat) (x : Tl) (hx : x ∈ evT elN (chainF m)) : x.way.length = lastId x + 1 := chain_way (m + 1) [] 0 0 rfl x hx
/-- each number is told -/
theorem told_all (d : Nd) (k : M.F) (i : Nat) (hi : i < k.size + 1) : ∃ x ∈ evT d k, lastId x = i := by
  have h : i ∈ posts (evT d k) := by rw [posts_evT]; exact ((postT k).2 i).2 hi
  rw [posts, List.mem_map] at h
  obtain ⟨x, hx, e⟩ := h
  exact ⟨x, (List.mem_filter.1 hx).1, e⟩
def wideT (m : Nat) : M.F := forF (List.replicate m txR)
theorem wideT_succ (m : Nat) : wideT (m + 1) = .cons txN .nil (wideT m) := rfl
theorem wide_size : ∀ m, (wideT m).size = m
  | 0 => rfl
  | m + 1 => by rw [wideT_succ]; show 1 + 0 + (wideT m).size = m + 1; rw [wide_size m]; omega
theorem wide_depth : ∀ m, (wideT m).depth ≤ 1
  | 0 => by show 0 ≤ 1; omega
  | m + 1 => by rw [wideT_succ]; show max (0 + 1) (wideT m).depth ≤ 1; have := wide_depth m; omega
theorem wide_slots : ∀ m, (wideT m).slots = 0
  | 0 => rfl
  | m + 1 => by rw [wideT_succ]; show 0 + 0 + (wideT m).slots = 0; rw [wide_slots m]
theorem wide_last : ∀ (m : Nat) (p : Int) (dp pl id : Nat), (flatF p dp pl id (wideT (m + 1)))[m]? = some ⟨p, 1, dp, 1, pl + m, txN⟩
  | 0, p, dp, pl, id => rfl
  | m + 1, p, dp, pl, id => by
    rw [wideT_succ]
    show ((_ :: ([] ++ flatF p dp (pl + 1) (id + 1 + 0) (wideT (m + 1)))) : List Im)[m + 1]? = _
    rw [List.getElem?_cons_succ, List.nil_append, wide_last m]
    congr 2
    omega
theorem wide_post : ∀ (m id : Nat), (postF (wideT (m + 1)) id)[0]? = some id
  | m, id => by rw [wideT_succ]; rfl
end Go.Proofs.Ytjjkidenlgghkaa
