/- The law BitsBytes where the byte that is turned is number 0 or 1: it returns true and turns no memory that was there, for numbers and bytes that fit together as named. -/
import Derived.Test.YtmndedadopnfjaaRows8
namespace Go.Proofs.Ytmndedadopnfjaa
open Go.ChangeShapes Go.WideShapes Go.ChangeAt Go.RowKit M
set_option maxHeartbeats 1000000 in
theorem at0 (a at' y b0 b1 b2 b3 b4 b5 b6 b7 c V : Int) (hu : IsU a) (hk : at' % 8 = 0) (ha : Eight a b0 b1 b2 b3 b4 b5 b6 b7)
    (i1 : IsB b1) (i2 : IsB b2) (i3 : IsB b3) (i4 : IsB b4) (i5 : IsB b5) (i6 : IsB b6) (i7 : IsB b7) (ic : IsB c) (hc : bits .xor .u8 b0 y = c)
    (hV : sum8 c b1 b2 b3 b4 b5 b6 b7 = V) (uV : IsU V) (eV : Eight V c b1 b2 b3 b4 b5 b6 b7) (xV : bits .xor .u64 a (y) = V) (y0 : 0 ≤ y) (y1 : y < 256) (w : World) :
    Calls Try.prog 7 #[.int .u64 a, .int .i64 at', .int .u8 y] w fun e w' => e = .returned (.bool true) ∧ Below w.heap.size w w' := by
  go_enter Try.func7, Try.ntmps7
  go_wp2_with (first | (go_at_call 9; refine (bytes_eight _ _ _ _ _ _ _ _ _ _ hu ha).mono ?_; rintro e w1 ⟨rfl, hb1⟩) | (go_at_call 21; refine (place_any _ _ _ (by decide) (by decide)).mono ?_; rintro e w' ⟨rfl, rfl⟩) | (go_at_call 17; refine (of_any _ _ _ _ _ _ _ _ _ _ ic i1 i2 i3 i4 i5 i6 i7 hV).mono ?_; rintro e w2 ⟨rfl, hb2⟩))
  have hS0 := start2 hb1 hb2
  have q1 := eq8 c b1 b2 b3 b4 b5 b6 b7
  have q2 := eq8 b0 b1 b2 b3 b4 b5 b6 b7
  have p1 : IntKind.u64.wrap y = y := by rw [IntKind.wrap_u64]; omega
  have p2 : IntKind.i64.wrap 0 = 0 := by decide
  have p3 : IntKind.u64.wrap 0 = 0 := by decide
  have tok1 : True := trivial
  go_region_held3 (fun w' => (Below w.heap.size w w' ∧ w.heap.size ≤ w1.heap.size ∧ w1.heap.size + 1 < w'.heap.size) ∧ (∀ i, w'.cell? ⟨w1.heap.size, i, none⟩ = (#[.int .u8 b0, .int .u8 b1, .int .u8 b2, .int .u8 b3, .int .u8 b4, .int .u8 b5, .int .u8 b6, .int .u8 b7] : Array Value)[i]?) ∧ (∀ i, w'.cell? ⟨w1.heap.size + 1, i, none⟩ = (#[.int .u8 c, .int .u8 b1, .int .u8 b2, .int .u8 b3, .int .u8 b4, .int .u8 b5, .int .u8 b6, .int .u8 b7] : Array Value)[i]?))
    (first | exact hS0 | exact keep2 hb3 (by assumption) | assumption)
    (first | (go_at_call 9; have _t := tok1; refine (bytes_eight _ _ _ _ _ _ _ _ _ _ uV eV).mono ?_; rintro e w3 ⟨rfl, hb3⟩; clear tok1 _t) | (go_at_call 9; refine (bytes_eight _ _ _ _ _ _ _ _ _ _ hu ha).mono ?_; rintro e w3 ⟨rfl, hb3⟩) | (go_at_call 20; refine (awake_any _).mono ?_; rintro e w' ⟨rfl, rfl⟩))
  go_wp2
  go_ret
  rename_i hH
  exact ⟨rfl, hH.1.1⟩
set_option maxHeartbeats 1000000 in
theorem at1 (a at' y b0 b1 b2 b3 b4 b5 b6 b7 c V : Int) (hu : IsU a) (hk : at' % 8 = 1) (ha : Eight a b0 b1 b2 b3 b4 b5 b6 b7)
    (i0 : IsB b0) (i2 : IsB b2) (i3 : IsB b3) (i4 : IsB b4) (i5 : IsB b5) (i6 : IsB b6) (i7 : IsB b7) (ic : IsB c) (hc : bits .xor .u8 b1 y = c)
    (hV : sum8 b0 c b2 b3 b4 b5 b6 b7 = V) (uV : IsU V) (eV : Eight V b0 c b2 b3 b4 b5 b6 b7) (xV : bits .xor .u64 a (y * 256) = V) (y0 : 0 ≤ y) (y1 : y < 256) (w : World) :
    Calls Try.prog 7 #[.int .u64 a, .int .i64 at', .int .u8 y] w fun e w' => e = .returned (.bool true) ∧ Below w.heap.size w w' := by
  go_enter Try.func7, Try.ntmps7
  go_wp2_with (first | (go_at_call 9; refine (bytes_eight _ _ _ _ _ _ _ _ _ _ hu ha).mono ?_; rintro e w1 ⟨rfl, hb1⟩) | (go_at_call 21; refine (place_any _ _ _ (by decide) (by decide)).mono ?_; rintro e w' ⟨rfl, rfl⟩) | (go_at_call 17; refine (of_any _ _ _ _ _ _ _ _ _ _ i0 ic i2 i3 i4 i5 i6 i7 hV).mono ?_; rintro e w2 ⟨rfl, hb2⟩))
  have hS0 := start2 hb1 hb2
  have q1 := eq8 b0 c b2 b3 b4 b5 b6 b7
  have q2 := eq8 b0 b1 b2 b3 b4 b5 b6 b7
  have p1 : IntKind.u64.wrap y = y := by rw [IntKind.wrap_u64]; omega
  have p2 : IntKind.i64.wrap 8 = 8 := by decide
  have p3 : IntKind.u64.wrap 8 = 8 := by decide
  have p4 : IntKind.u64.wrap (y * 256) = y * 256 := by rw [IntKind.wrap_u64]; omega
  have tok1 : True := trivial
  go_region_held3 (fun w' => (Below w.heap.size w w' ∧ w.heap.size ≤ w1.heap.size ∧ w1.heap.size + 1 < w'.heap.size) ∧ (∀ i, w'.cell? ⟨w1.heap.size, i, none⟩ = (#[.int .u8 b0, .int .u8 b1, .int .u8 b2, .int .u8 b3, .int .u8 b4, .int .u8 b5, .int .u8 b6, .int .u8 b7] : Array Value)[i]?) ∧ (∀ i, w'.cell? ⟨w1.heap.size + 1, i, none⟩ = (#[.int .u8 b0, .int .u8 c, .int .u8 b2, .int .u8 b3, .int .u8 b4, .int .u8 b5, .int .u8 b6, .int .u8 b7] : Array Value)[i]?))
    (first | exact hS0 | exact keep2 hb3 (by assumption) | assumption)
    (first | (go_at_call 9; have _t := tok1; refine (bytes_eight _ _ _ _ _ _ _ _ _ _ uV eV).mono ?_; rintro e w3 ⟨rfl, hb3⟩; clear tok1 _t) | (go_at_call 9; refine (bytes_eight _ _ _ _ _ _ _ _ _ _ hu ha).mono ?_; rintro e w3 ⟨rfl, hb3⟩) | (go_at_call 20; refine (awake_any _).mono ?_; rintro e w' ⟨rfl, rfl⟩))
  go_wp2
  go_ret
  rename_i hH
  exact ⟨rfl, hH.1.1⟩
end Go.Proofs.Ytmndedadopnfjaa
