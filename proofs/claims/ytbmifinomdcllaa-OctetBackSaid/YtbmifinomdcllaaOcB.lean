
/-
  Octet: the functions without loops: fits, order, ReverseBytes64, Pad.
-/
import Derived.Test.YtbmifinomdcllaaKit

import Derived.Test.YtbmifinomdcllaaOcA

import Derived.Lib.EndianBits

namespace Go.Proofs.Ytbmifinomdcllaa

open Go.RowKit Go.Lib

set_option maxRecDepth 100000

theorem and64 (a b : Nat) (ha : a < 18446744073709551616) (hb : b < 18446744073709551616) : bits .and .u64 (a : Int) (b : Int) = ((a &&& b : Nat) : Int) := (bits_nat .u64 64 (by decide) wraps_u64 a b ha hb).1
theorem or64 (a b : Nat) (ha : a < 18446744073709551616) (hb : b < 18446744073709551616) : bits .or .u64 (a : Int) (b : Int) = ((a ||| b : Nat) : Int) := (bits_nat .u64 64 (by decide) wraps_u64 a b ha hb).2
theorem lt_and (a m : Nat) (hm : m < 18446744073709551616) : a &&& m < 18446744073709551616 := Nat.lt_of_le_of_lt Nat.and_le_right hm
theorem wrapN (a : Nat) : IntKind.u64.wrap (a : Int) = ((a % 18446744073709551616 : Nat) : Int) := by rw [IntKind.wrap_u64]; omega
def iv1 (x : Int) : Int := bits .or .u64 (bits .and .u64 (x / 256) 71777214294589695) (IntKind.u64.wrap (bits .and .u64 x 71777214294589695 * 256))
def iv2 (x : Int) : Int := bits .or .u64 (bits .and .u64 (x / 65536) 281470681808895) (IntKind.u64.wrap (bits .and .u64 x 281470681808895 * 65536))
def iv3 (x : Int) : Int := bits .or .u64 (x / 4294967296) (IntKind.u64.wrap (x * 4294967296))
theorem iv1_eq (n : Nat) (hn : n < 18446744073709551616) : iv1 n = (rv1 n : Int) := by
  have h1 : bits .and .u64 ((n : Int) / 256) 71777214294589695 = ((n / 256 &&& 71777214294589695 : Nat) : Int) := and64 (n / 256) 71777214294589695 (by omega) (by omega)
  have h2 : bits .and .u64 (n : Int) 71777214294589695 = ((n &&& 71777214294589695 : Nat) : Int) := and64 n 71777214294589695 (by omega) (by omega)
  have h3 : IntKind.u64.wrap (((n &&& 71777214294589695 : Nat) : Int) * 256) = _ := wrapN ((n &&& 71777214294589695) * 256)
  have h4 := or64 (n / 256 &&& 71777214294589695) (((n &&& 71777214294589695) * 256) % 18446744073709551616) (lt_and _ _ (by decide)) (Nat.mod_lt _ (by decide))
  unfold iv1 rv1
  rw [h1, h2, h3, h4]
theorem iv2_eq (n : Nat) (hn : n < 18446744073709551616) : iv2 n = (rv2 n : Int) := by
  have h1 : bits .and .u64 ((n : Int) / 65536) 281470681808895 = ((n / 65536 &&& 281470681808895 : Nat) : Int) := and64 (n / 65536) 281470681808895 (by omega) (by omega)
  have h2 : bits .and .u64 (n : Int) 281470681808895 = ((n &&& 281470681808895 : Nat) : Int) := and64 n 281470681808895 (by omega) (by omega)
  have h3 : IntKind.u64.wrap (((n &&& 281470681808895 : Nat) : Int) * 65536) = _ := wrapN ((n &&& 281470681808895) * 65536)
  have h4 := or64 (n / 65536 &&& 281470681808895) (((n &&& 281470681808895) * 65536) % 18446744073709551616) (lt_and _ _ (by decide)) (Nat.mod_lt _ (by decide))
  unfold iv2 rv2
  rw [h1, h2, h3, h4]
theorem iv3_eq (n : Nat) (hn : n < 18446744073709551616) : iv3 n = (rv3 n : Int) := by
  have h3 : IntKind.u64.wrap ((n : Int) * 4294967296) = _ := wrapN (n * 4294967296)
  have h4 := or64 (n / 4294967296) ((n * 4294967296) % 18446744073709551616) (by omega) (Nat.mod_lt _ (by decide))
  unfold iv3 rv3
  rw [h3]
  exact h4
theorem rv1_lt (n : Nat) : rv1 n < 18446744073709551616 := Nat.or_lt_two_pow (n := 64) (lt_and _ _ (by decide)) (Nat.mod_lt _ (by decide))
theorem rv2_lt (n : Nat) : rv2 n < 18446744073709551616 := Nat.or_lt_two_pow (n := 64) (lt_and _ _ (by decide)) (Nat.mod_lt _ (by decide))
theorem iv_eq (n : Nat) (hn : n < 18446744073709551616) : iv3 (iv2 (iv1 n)) = (revN n : Int) := by
  rw [iv1_eq n hn, iv2_eq _ (rv1_lt n), iv3_eq _ (rv2_lt _), rev_eq n hn]
theorem ret_i {k : IntKind} {a b : Int} (h : a = b) : Ending.returned (.int k a) = .returned (.int k b) := by rw [h]

theorem fits_any (m : Int) (w : World) : Calls Try.prog 21 #[.int .i64 m] w fun e w' => e = .returned (.bool (decide (0 ≤ m ∧ m ≤ 8))) ∧ w = w' := by
  by_cases h0 : 0 ≤ m
  · go_enter Try.func21, Try.ntmps21
    go_wp2
    go_ret
    exact ⟨by simp [h0], rfl⟩
  · have hd : decide (0 ≤ m ∧ m ≤ 8) = false := by simp; omega
    rw [hd]
    go_enter Try.func21, Try.ntmps21
    go_wp2
    go_ret
    exact ⟨rfl, rfl⟩
theorem rev_any (n : Nat) (hn : n < 18446744073709551616) (w : World) : Calls Try.prog 23 #[.int .u64 n] w fun e w' => e = .returned (.int .u64 (revN n : Nat)) ∧ w = w' := by
  have hv := Lib.hid (iv_eq n hn)
  have hn1 : ((n : Nat) : Int) < 18446744073709551616 := by omega
  go_enter Try.func23, Try.ntmps23
  go_wp2
  go_ret
  exact ⟨ret_i hv.out, rfl⟩
theorem pad_any (n : Int) (w : World) : Calls Try.prog 14 #[.int .i64 n] w fun e w' => e = .returned (.int .i64 (padI n)) ∧ w = w' := by
  by_cases h : n < 0
  · have hp : padI n = 0 := by unfold padI; rw [if_pos h]
    rw [hp]
    clear hp
    go_enter Try.func14, Try.ntmps14
    go_wp2
    go_ret
    exact ⟨rfl, rfl⟩
  · have h' : 0 ≤ n := by omega
    have hp := Lib.hid (show -(n % 4) % 4 = padI n by unfold padI; rw [if_neg h]; omega)
    go_enter Try.func14, Try.ntmps14
    go_wp2
    go_ret
    exact ⟨ret_i hp.out, rfl⟩
theorem order_lit (A : Option Addr) (len cap : Nat) (n : Nat) (m : Int) (w : World) : Calls Try.prog 22 #[.agg #[.slice A len cap, .bool true], .int .u64 n, .int .i64 m] w fun e w' => e = .returned (.int .u64 n) ∧ Below w.heap.size w w' := by
  go_enter Try.func22, Try.ntmps22
  go_wp2
  go_ret
  exact ⟨rfl, (Below.refl _ w).alloc (Nat.le_refl _) _⟩
theorem pow8 (m : Nat) (hm : m ≤ 8) (r : Nat) : (r : Int) / 2 ^ (8 * (8 - m)) = ((r / 256 ^ (8 - m) : Nat) : Int) := by
  rcases (by omega : m = 0 ∨ m = 1 ∨ m = 2 ∨ m = 3 ∨ m = 4 ∨ m = 5 ∨ m = 6 ∨ m = 7 ∨ m = 8) with rfl | rfl | rfl | rfl | rfl | rfl | rfl | rfl | rfl <;> rfl
theorem order_big (A : Option Addr) (len cap : Nat) (n : Nat) (hn : n < 18446744073709551616) (m : Nat) (hm : m ≤ 8) (w : World) : Calls Try.prog 22 #[.agg #[.slice A len cap, .bool false], .int .u64 n, .int .i64 m] w fun e w' => e = .returned (.int .u64 (revN n / 256 ^ (8 - m) : Nat)) ∧ Below w.heap.size w w' := by
  go_enter Try.func22, Try.ntmps22
  go_wp2_with (go_at_call 23; refine (rev_any n hn _).mono ?_; rintro e w' ⟨rfl, rfl⟩)
  go_ret
  exact ⟨ret_i (pow8 m hm _), (Below.refl _ w).alloc (Nat.le_refl _) _⟩
end Go.Proofs.Ytbmifinomdcllaa
