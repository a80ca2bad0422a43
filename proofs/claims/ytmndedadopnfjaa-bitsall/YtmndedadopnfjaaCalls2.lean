/- What Bytes and Of answer: for numbers within their kinds the calls return the eight bytes and the number, and no memory that was there is turned. -/
import Derived.Test.YtmndedadopnfjaaCalls
import Derived.Test.YtmndedadopnfjaaMore
import Derived.Handy
namespace Go.Proofs.Ytmndedadopnfjaa
open Go.ChangeShapes Go.WideShapes Go.ChangeAt Go.RowKit M
set_option maxHeartbeats 1000000 in
theorem bytes_any (v : Int) (w : World) (hu : IsU v) :
    Calls Try.prog 9 #[.int .u64 v] w fun e w' => e = .returned (.agg #[.int .u8 (v % 256), .int .u8 (v / 256 % 256), .int .u8 (v / 65536 % 256), .int .u8 (v / 16777216 % 256), .int .u8 (v / 4294967296 % 256), .int .u8 (v / 1099511627776 % 256), .int .u8 (v / 281474976710656 % 256), .int .u8 (v / 72057594037927936)]) ∧ Below w.heap.size w w' := by
  obtain ⟨h0, h1⟩ := hu
  go_enter Try.func9, Try.ntmps9
  go_wp2
  go_rounds 9
  exact bodyPost_ret (v := .agg #[.int .u8 (v % 256), .int .u8 (v / 256 % 256), .int .u8 (v / 65536 % 256), .int .u8 (v / 16777216 % 256), .int .u8 (v / 4294967296 % 256), .int .u8 (v / 1099511627776 % 256), .int .u8 (v / 281474976710656 % 256), .int .u8 (v / 72057594037927936)]) (by simp [results, Try.results9, go_sem]) rfl ⟨rfl, ((Below.refl _ _).alloc (Nat.le_refl _) _).alloc (by simp) _⟩
theorem bytes_eight (v b0 b1 b2 b3 b4 b5 b6 b7 : Int) (w : World) (hu : IsU v) (h : Eight v b0 b1 b2 b3 b4 b5 b6 b7) :
    Calls Try.prog 9 #[.int .u64 v] w fun e w' => e = .returned (.agg #[.int .u8 b0, .int .u8 b1, .int .u8 b2, .int .u8 b3, .int .u8 b4, .int .u8 b5, .int .u8 b6, .int .u8 b7]) ∧ Below w.heap.size w w' := by
  have := bytes_any v w hu
  rwa [h.e0, h.e1, h.e2, h.e3, h.e4, h.e5, h.e6, h.e7] at this
/-- a number that a byte holds -/
structure IsB (b : Int) : Prop where
  lo : 0 ≤ b
  hi : b < 256
set_option maxHeartbeats 1000000 in
theorem of_any (b0 b1 b2 b3 b4 b5 b6 b7 r : Int) (w : World) (i0 : IsB b0) (i1 : IsB b1) (i2 : IsB b2) (i3 : IsB b3) (i4 : IsB b4) (i5 : IsB b5) (i6 : IsB b6) (i7 : IsB b7) (hr : sum8 b0 b1 b2 b3 b4 b5 b6 b7 = r) :
    Calls Try.prog 17 #[.agg #[.int .u8 b0, .int .u8 b1, .int .u8 b2, .int .u8 b3, .int .u8 b4, .int .u8 b5, .int .u8 b6, .int .u8 b7]] w fun e w' => e = .returned (.int .u64 r) ∧ Below w.heap.size w w' := by
  have l0 := And.intro i0.lo i0.hi
  have l1 := And.intro i1.lo i1.hi
  have l2 := And.intro i2.lo i2.hi
  have l3 := And.intro i3.lo i3.hi
  have l4 := And.intro i4.lo i4.hi
  have l5 := And.intro i5.lo i5.hi
  have l6 := And.intro i6.lo i6.hi
  have l7 := And.intro i7.lo i7.hi
  have HR : Hid (sum8 b0 b1 b2 b3 b4 b5 b6 b7 = r) := hr
  clear hr i0 i1 i2 i3 i4 i5 i6 i7
  go_enter Try.func17, Try.ntmps17
  go_wp2
  go_rounds 9
  go_ret
  exact ⟨ret_int (by rw [← HR.out]; exact or_chain b0 b1 b2 b3 b4 b5 b6 b7 l0 l1 l2 l3 l4 l5 l6 l7), (Below.refl _ _).alloc (Nat.le_refl _) _⟩
end Go.Proofs.Ytmndedadopnfjaa
