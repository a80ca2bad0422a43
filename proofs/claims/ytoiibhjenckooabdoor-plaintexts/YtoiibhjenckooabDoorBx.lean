/- Place: any number as one of so many; the block that lies there; strings.Index of the few texts that are met. -/
import Derived.Test.YtoiibhjenckooabDoorEvBs
import Derived.Test.YtoiibhjenckooabDoorDoorB
import Derived.WalkKit
import Derived.Below
import Derived.Handy
set_option linter.unusedVariables false
namespace Go.Proofs.YtoiibhjenckooabDoor
open Go.RowKit
structure Fact (p : Prop) : Prop where out : p
theorem ret_int {k : IntKind} {a b : Int} (h : a = b) : Ending.returned (.int k a) = .returned (.int k b) := by rw [h]
/-- Place of a number among so many -/
def pl (v : Int) (n : Nat) : Nat := if v.tmod n < 0 then (v.tmod n + n).toNat else (v.tmod n).toNat
theorem pl_lt (v : Int) (n : Nat) (hn : 0 < n) : pl v n < n := by
  have h1 : -(n : Int) < v.tmod n := by have := Int.lt_tmod_of_pos v (show (0 : Int) < n by omega); omega
  have h2 : v.tmod n < n := Int.tmod_lt_of_pos v (by omega)
  unfold pl
  split <;> omega
set_option maxRecDepth 20000 in
set_option maxHeartbeats 1000000 in
theorem place_pl (v : Int) (n : Nat) (w : World) (hn : 0 < n) (hm : n ≤ 9223372036854775807) :
    Calls Tryd.prog 10 #[.int .i64 v, .int .i64 n] w fun e w' => e = .returned (.int .i64 (pl v n)) ∧ w' = w := by
  have h1 : -(n : Int) < v.tmod n := by have := Int.lt_tmod_of_pos v (show (0 : Int) < n by omega); omega
  have h2 : v.tmod n < n := Int.tmod_lt_of_pos v (by omega)
  have hn0 : ¬ (n : Int) = 0 := by omega
  have hp : (if v.tmod n < 0 then (v.tmod n + n).toNat else (v.tmod n).toNat) = pl v n := rfl
  have HP := Fact.mk hp
  clear hp
  obtain ⟨t, ht⟩ : ∃ t, v.tmod n = t := ⟨_, rfl⟩
  rw [ht] at h1 h2 HP
  by_cases h3 : t < 0
  · go_enter Tryd.func10, Tryd.ntmps10
    go_wp2
    go_ret
    exact ⟨ret_int (by rw [← HP.out, if_pos h3]; omega), rfl⟩
  · go_enter Tryd.func10, Tryd.ntmps10
    go_wp2
    go_ret
    exact ⟨ret_int (by rw [← HP.out, if_neg (by omega)]; omega), rfl⟩
theorem mixed : Tryd.prog.follows .mixedOrders = true := Tryd.checked.mixed
/-- what is known of Place at an unknown -/
theorem place_orc [Inhabited Ev.Env] (i n k : Nat) (hn : 0 < n) (hm : n ≤ 9223372036854775807) (h : pl ((default : Ev.Env).val i) n = k) :
    Ev.OrcS Tryd.prog (Ev.orcC 10 [.chan (some i), .int .i64 n] (.int .i64 k)) :=
  Ev.orcU_ok rfl (fun _ _ h => Ev.two_args h) (fun w => (place_pl _ n w hn hm).mono (by rintro e w' ⟨h1, h2⟩; rw [h] at h1; exact ⟨h1, h2⟩))
/-- the block: one number, unknown -/
abbrev bc : List Value := [.chan (some 7)]
theorem bc_is [Inhabited Ev.Env] (s : Ev.Sg) (l : List Value) : Ev.VL s bc l ↔ l = [.int .i64 ((default : Ev.Env).val 7)] := by
  constructor
  · rintro ⟨v', r', h1, h2, e⟩
    cases h1; cases h2
    exact e
  · intro e; exact ⟨_, [], rfl, rfl, e⟩
abbrev idxA (s t : ByteArray) (k : Int) : Ev.Orc := Ev.orcB 38 [.string s, .string t] (.int .i64 k) bc 3
theorem idx_orc [Inhabited Ev.Env] (hb : (default : Ev.Env).base = some (0, 0)) (s t : ByteArray) (k : Int) (hs : s.size < 4294967281) (hk : Lib.index s.data.toList t.data.toList = k) : Ev.OrcS Tryd.prog (idxA s t k) :=
  Ev.orcG_ok hb bc_is rfl rfl (fun w hw => (idx_any s t _ w hs (Met.cell hw)).mono (by rintro e w' ⟨h1, h2⟩; subst h2; exact ⟨by rw [h1, hk], Below.refl _ _⟩))
def es0 : Array MapEntry := #[⟨(.agg #[(.string ⟨#[104, 101, 97, 100]⟩), (.string ⟨#[104, 116, 109, 108]⟩)]), (.int .i64 3), 0⟩,
  ⟨(.agg #[(.string ⟨#[98, 111, 100, 121]⟩), (.string ⟨#[104, 116, 109, 108]⟩)]), (.int .i64 4), 1⟩,
  ⟨(.agg #[(.string ⟨#[98, 97, 115, 101]⟩), (.string ⟨#[104, 101, 97, 100]⟩)]), (.int .i64 1), 2⟩,
  ⟨(.agg #[(.string ⟨#[108, 105, 110, 107]⟩), (.string ⟨#[104, 101, 97, 100]⟩)]), (.int .i64 1), 3⟩,
  ⟨(.agg #[(.string ⟨#[109, 101, 116, 97]⟩), (.string ⟨#[104, 101, 97, 100]⟩)]), (.int .i64 1), 4⟩,
  ⟨(.agg #[(.string ⟨#[116, 105, 116, 108, 101]⟩), (.string ⟨#[104, 101, 97, 100]⟩)]), (.int .i64 2), 5⟩,
  ⟨(.agg #[(.string ⟨#[115, 116, 121, 108, 101]⟩), (.string ⟨#[104, 101, 97, 100]⟩)]), (.int .i64 2), 6⟩,
  ⟨(.agg #[(.string ⟨#[115, 99, 114, 105, 112, 116]⟩), (.string ⟨#[104, 101, 97, 100]⟩)]), (.int .i64 2), 7⟩,
  ⟨(.agg #[(.string ⟨#[99, 97, 112, 116, 105, 111, 110]⟩), (.string ⟨#[116, 97, 98, 108, 101]⟩)]), (.int .i64 4), 8⟩,
  ⟨(.agg #[(.string ⟨#[99, 111, 108, 103, 114, 111, 117, 112]⟩), (.string ⟨#[116, 97, 98, 108, 101]⟩)]), (.int .i64 3), 9⟩,
  ⟨(.agg #[(.string ⟨#[116, 98, 111, 100, 121]⟩), (.string ⟨#[116, 97, 98, 108, 101]⟩)]), (.int .i64 3), 10⟩,
  ⟨(.agg #[(.string ⟨#[116, 102, 111, 111, 116]⟩), (.string ⟨#[116, 97, 98, 108, 101]⟩)]), (.int .i64 3), 11⟩,
  ⟨(.agg #[(.string ⟨#[116, 104, 101, 97, 100]⟩), (.string ⟨#[116, 97, 98, 108, 101]⟩)]), (.int .i64 3), 12⟩,
  ⟨(.agg #[(.string ⟨#[99, 111, 108]⟩), (.string ⟨#[99, 111, 108, 103, 114, 111, 117, 112]⟩)]), (.int .i64 1), 13⟩,
  ⟨(.agg #[(.string ⟨#[116, 114]⟩), (.string ⟨#[116, 98, 111, 100, 121]⟩)]), (.int .i64 3), 14⟩,
  ⟨(.agg #[(.string ⟨#[116, 114]⟩), (.string ⟨#[116, 102, 111, 111, 116]⟩)]), (.int .i64 3), 15⟩,
  ⟨(.agg #[(.string ⟨#[116, 114]⟩), (.string ⟨#[116, 104, 101, 97, 100]⟩)]), (.int .i64 3), 16⟩,
  ⟨(.agg #[(.string ⟨#[116, 100]⟩), (.string ⟨#[116, 114]⟩)]), (.int .i64 4), 17⟩,
  ⟨(.agg #[(.string ⟨#[116, 104]⟩), (.string ⟨#[116, 114]⟩)]), (.int .i64 4), 18⟩,
  ⟨(.agg #[(.string ⟨#[108, 105]⟩), (.string ⟨#[117, 108]⟩)]), (.int .i64 4), 19⟩,
  ⟨(.agg #[(.string ⟨#[108, 105]⟩), (.string ⟨#[111, 108]⟩)]), (.int .i64 4), 20⟩,
  ⟨(.agg #[(.string ⟨#[108, 105]⟩), (.string ⟨#[109, 101, 110, 117]⟩)]), (.int .i64 4), 21⟩,
  ⟨(.agg #[(.string ⟨#[100, 100]⟩), (.string ⟨#[100, 108]⟩)]), (.int .i64 4), 22⟩,
  ⟨(.agg #[(.string ⟨#[100, 116]⟩), (.string ⟨#[100, 108]⟩)]), (.int .i64 4), 23⟩,
  ⟨(.agg #[(.string ⟨#[97, 114, 101, 97]⟩), (.string ⟨#[]⟩)]), (.int .i64 1), 24⟩,
  ⟨(.agg #[(.string ⟨#[98, 114]⟩), (.string ⟨#[]⟩)]), (.int .i64 1), 25⟩,
  ⟨(.agg #[(.string ⟨#[101, 109, 98, 101, 100]⟩), (.string ⟨#[]⟩)]), (.int .i64 1), 26⟩,
  ⟨(.agg #[(.string ⟨#[105, 109, 103]⟩), (.string ⟨#[]⟩)]), (.int .i64 1), 27⟩,
  ⟨(.agg #[(.string ⟨#[105, 110, 112, 117, 116]⟩), (.string ⟨#[]⟩)]), (.int .i64 1), 28⟩,
  ⟨(.agg #[(.string ⟨#[119, 98, 114]⟩), (.string ⟨#[]⟩)]), (.int .i64 1), 29⟩,
  ⟨(.agg #[(.string ⟨#[112, 97, 114, 97, 109]⟩), (.string ⟨#[]⟩)]), (.int .i64 1), 30⟩,
  ⟨(.agg #[(.string ⟨#[115, 111, 117, 114, 99, 101]⟩), (.string ⟨#[]⟩)]), (.int .i64 1), 31⟩,
  ⟨(.agg #[(.string ⟨#[116, 114, 97, 99, 107]⟩), (.string ⟨#[]⟩)]), (.int .i64 1), 32⟩,
  ⟨(.agg #[(.string ⟨#[104, 114]⟩), (.string ⟨#[]⟩)]), (.int .i64 1), 33⟩,
  ⟨(.agg #[(.string ⟨#[115, 116, 121, 108, 101]⟩), (.string ⟨#[]⟩)]), (.int .i64 2), 34⟩,
  ⟨(.agg #[(.string ⟨#[115, 99, 114, 105, 112, 116]⟩), (.string ⟨#[]⟩)]), (.int .i64 2), 35⟩,
  ⟨(.agg #[(.string ⟨#[116, 101, 120, 116, 97, 114, 101, 97]⟩), (.string ⟨#[]⟩)]), (.int .i64 2), 36⟩,
  ⟨(.agg #[(.string ⟨#[105, 102, 114, 97, 109, 101]⟩), (.string ⟨#[]⟩)]), (.int .i64 2), 37⟩,
  ⟨(.agg #[(.string ⟨#[110, 111, 101, 109, 98, 101, 100]⟩), (.string ⟨#[]⟩)]), (.int .i64 2), 38⟩,
  ⟨(.agg #[(.string ⟨#[112]⟩), (.string ⟨#[]⟩)]), (.int .i64 4), 39⟩,
  ⟨(.agg #[(.string ⟨#[108, 105, 115, 116, 105, 110, 103]⟩), (.string ⟨#[]⟩)]), (.int .i64 4), 40⟩,
  ⟨(.agg #[(.string ⟨#[98, 117, 116, 116, 111, 110]⟩), (.string ⟨#[]⟩)]), (.int .i64 4), 41⟩,
  ⟨(.agg #[(.string ⟨#[116, 97, 98, 108, 101]⟩), (.string ⟨#[]⟩)]), (.int .i64 3), 42⟩,
  ⟨(.agg #[(.string ⟨#[104, 116, 109, 108]⟩), (.string ⟨#[]⟩)]), (.int .i64 0), 43⟩,
  ⟨(.agg #[(.string ⟨#[104, 101, 97, 100]⟩), (.string ⟨#[]⟩)]), (.int .i64 0), 44⟩,
  ⟨(.agg #[(.string ⟨#[98, 111, 100, 121]⟩), (.string ⟨#[]⟩)]), (.int .i64 0), 45⟩,
  ⟨(.agg #[(.string ⟨#[102, 114, 97, 109, 101, 115, 101, 116]⟩), (.string ⟨#[]⟩)]), (.int .i64 0), 46⟩,
  ⟨(.agg #[(.string ⟨#[102, 114, 97, 109, 101]⟩), (.string ⟨#[]⟩)]), (.int .i64 0), 47⟩,
  ⟨(.agg #[(.string ⟨#[112, 108, 97, 105, 110, 116, 101, 120, 116]⟩), (.string ⟨#[]⟩)]), (.int .i64 0), 48⟩,
  ⟨(.agg #[(.string ⟨#[105, 109, 97, 103, 101]⟩), (.string ⟨#[]⟩)]), (.int .i64 0), 49⟩,
  ⟨(.agg #[(.string ⟨#[110, 111, 98, 114]⟩), (.string ⟨#[]⟩)]), (.int .i64 0), 50⟩,
  ⟨(.agg #[(.string ⟨#[114, 112]⟩), (.string ⟨#[]⟩)]), (.int .i64 0), 51⟩,
  ⟨(.agg #[(.string ⟨#[114, 116]⟩), (.string ⟨#[]⟩)]), (.int .i64 0), 52⟩,
  ⟨(.agg #[(.string ⟨#[111, 112, 116, 105, 111, 110]⟩), (.string ⟨#[]⟩)]), (.int .i64 0), 53⟩]
end Go.Proofs.YtoiibhjenckooabDoor
