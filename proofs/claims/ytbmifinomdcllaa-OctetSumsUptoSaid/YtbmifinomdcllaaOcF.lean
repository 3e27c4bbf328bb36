
/-
  Octet: the document's number of bytes, at any place; U16, U32, U64.
-/
import Derived.Test.YtbmifinomdcllaaOcE

namespace Go.Proofs.Ytbmifinomdcllaa

open Go.RowKit Go.Lib

set_option maxRecDepth 100000

theorem refGet_zero (A : Option Addr) (len cap : Nat) (little : Bool) (a : Nat) (h : a ≤ len) (hlen : len ≤ 4611686018427387904) (w : World) :
    Calls Try.prog 9 #[.slice A len cap, .bool little, .int .i64 a, .int .i64 0] w fun e w' => e = .returned (.tuple #[.int .u64 0, .bool true]) ∧ w = w' := by
  have g3 : ¬ ((a : Int) < 0) := by omega
  have g4 : ¬ ((len : Int) < (a : Int)) := by omega
  have g5 : ¬ ((len : Int) - (a : Int) < 0) := by omega
  go_enter Try.func9, Try.ntmps9
  go_wp2
  go_loop [10, 11, 12] (fun n w i => i = .int .i64 0 ∧ w = .int .u64 1 ∧ n = .int .u64 0) (fun _ _ i => 0 - (intOf i).toNat)
  case atStart => exact ⟨rfl, rfl, rfl⟩
  case round =>
    obtain ⟨rfl, rfl, rfl⟩ := hrel
    go_wp2
    go_ret2
    exact ⟨rfl, rfl⟩
theorem refGet_no (A : Option Addr) (len cap : Nat) (little : Bool) (a m : Int) (h : ¬ GetIf len a m) (ha : a ≤ 9223372036854775807) (w : World) :
    Calls Try.prog 9 #[.slice A len cap, .bool little, .int .i64 a, .int .i64 m] w fun e w' => e = .returned (.tuple #[.int .u64 0, .bool false]) ∧ w = w' := by
  unfold GetIf at h
  by_cases h1 : m < 0
  · clear h
    go_enter Try.func9, Try.ntmps9
    go_wp2
    all_goals go_ret2
    all_goals exact ⟨rfl, rfl⟩
  · by_cases h2 : 8 < m
    · clear h
      go_enter Try.func9, Try.ntmps9
      go_wp2
      all_goals go_ret2
      all_goals exact ⟨rfl, rfl⟩
    · by_cases h3 : a < 0
      · clear h
        go_enter Try.func9, Try.ntmps9
        go_wp2
        all_goals go_ret2
        all_goals exact ⟨rfl, rfl⟩
      · by_cases h4 : (len : Int) < a
        · clear h
          go_enter Try.func9, Try.ntmps9
          go_wp2
          all_goals go_ret2
          all_goals exact ⟨rfl, rfl⟩
        · have h5 : (len : Int) - a < m := by omega
          have h3' : 0 ≤ a := by omega
          clear h
          go_enter Try.func9, Try.ntmps9
          go_wp2
          all_goals go_ret2
          all_goals exact ⟨rfl, rfl⟩
theorem refGet_any (A : Option Addr) (l : List UInt8) (cap : Nat) (little : Bool) (a m : Int) (ha : a ≤ 9223372036854775807) (hlen : l.length ≤ 4611686018427387904) (w : World) (hr : Rd w A l) :
    Calls Try.prog 9 #[.slice A l.length cap, .bool little, .int .i64 a, .int .i64 m] w fun e w' => e = .returned (.tuple #[.int .u64 (getN little l a m : Nat), .bool (getB l a m)]) ∧ w = w' := by
  unfold getN getB
  by_cases h : GetIf l.length a m
  · rw [if_pos h, decide_eq_true h]
    obtain ⟨h1, h2, h3, h4, h5⟩ := h
    obtain ⟨a, rfl⟩ := Int.eq_ofNat_of_zero_le h1
    obtain ⟨m, rfl⟩ := Int.eq_ofNat_of_zero_le h2
    rcases Nat.eq_zero_or_pos m with rfl | hm0
    · have e : valF little ((l.drop (a : Int).toNat).take ((0 : Nat) : Int).toNat) = 0 := by
        rw [show ((0 : Nat) : Int).toNat = 0 from rfl, List.take_zero]; cases little <;> rfl
      rw [e]
      exact refGet_zero A l.length cap little a (by omega) hlen w
    · obtain ⟨blk, off, rfl⟩ := hr.some_ (by omega)
      exact refGet_some blk off l cap little a m (by omega) (by omega) hlen w hr
  · rw [if_neg h, decide_eq_false h]
    exact refGet_no A l.length cap little a m h ha w
theorem getN_le (little : Bool) (l : List UInt8) (a : Int) (m : Nat) : getN little l a m < 256 ^ m := by
  unfold getN
  split
  · have h : ((l.drop a.toNat).take m).length ≤ m := by rw [List.length_take]; omega
    rw [Int.toNat_natCast]
    unfold valF
    split
    · exact Nat.lt_of_lt_of_le (leNat_lt _) (Nat.pow_le_pow_right (by decide) h)
    · refine Nat.lt_of_lt_of_le (leNat_lt _) (Nat.pow_le_pow_right (by decide) (by simpa using h))
  · exact Nat.pow_pos (by decide)
theorem u16_any (A : Option Addr) (l : List UInt8) (cap : Nat) (little : Bool) (a : Int) (ha : a ≤ 9223372036854775807) (hc : l.length ≤ cap) (hlen : l.length ≤ 4611686018427387904) (w : World) (hr : Rd w A l) :
    Calls Try.prog 11 #[.agg #[.slice A l.length cap, .bool little], .int .i64 a] w fun e w' => e = .returned (.int .u16 (getN little l a 2 : Nat)) ∧ Below w.heap.size w w' := by
  have hlt : ((getN little l a 2 : Nat) : Int) < 65536 := by have h : getN little l a 2 < 65536 := getN_le little l a 2; omega
  have HG := Lib.hid (fun (w' : World) (hb : Below w.heap.size w w') => get_any A l cap little a 2 ha hc hlen w' (hr.below hb))
  generalize getN little l a 2 = n at *
  clear hr
  generalize l.length = len at *
  go_enter Try.func11, Try.ntmps11
  go_wp2_with (go_at_call 8; refine (HG.out _ ((Below.refl _ w).alloc (Nat.le_refl _) _)).mono ?_; rintro e w1 ⟨rfl, hb1⟩; have HB1 := Lib.hid hb1; clear hb1)
  go_ret
  exact ⟨rfl, keepA HB1.out (Below.refl _ _)⟩
theorem u32_any (A : Option Addr) (l : List UInt8) (cap : Nat) (little : Bool) (a : Int) (ha : a ≤ 9223372036854775807) (hc : l.length ≤ cap) (hlen : l.length ≤ 4611686018427387904) (w : World) (hr : Rd w A l) :
    Calls Try.prog 12 #[.agg #[.slice A l.length cap, .bool little], .int .i64 a] w fun e w' => e = .returned (.int .u32 (getN little l a 4 : Nat)) ∧ Below w.heap.size w w' := by
  have hlt : ((getN little l a 4 : Nat) : Int) < 4294967296 := by have h : getN little l a 4 < 4294967296 := getN_le little l a 4; omega
  have HG := Lib.hid (fun (w' : World) (hb : Below w.heap.size w w') => get_any A l cap little a 4 ha hc hlen w' (hr.below hb))
  generalize getN little l a 4 = n at *
  clear hr
  generalize l.length = len at *
  go_enter Try.func12, Try.ntmps12
  go_wp2_with (go_at_call 8; refine (HG.out _ ((Below.refl _ w).alloc (Nat.le_refl _) _)).mono ?_; rintro e w1 ⟨rfl, hb1⟩; have HB1 := Lib.hid hb1; clear hb1)
  go_ret
  exact ⟨rfl, keepA HB1.out (Below.refl _ _)⟩
theorem u64_any (A : Option Addr) (l : List UInt8) (cap : Nat) (little : Bool) (a : Int) (ha : a ≤ 9223372036854775807) (hc : l.length ≤ cap) (hlen : l.length ≤ 4611686018427387904) (w : World) (hr : Rd w A l) :
    Calls Try.prog 13 #[.agg #[.slice A l.length cap, .bool little], .int .i64 a] w fun e w' => e = .returned (.int .u64 (getN little l a 8 : Nat)) ∧ Below w.heap.size w w' := by
  have hlt : ((getN little l a 8 : Nat) : Int) < 18446744073709551616 := by have h : getN little l a 8 < 18446744073709551616 := getN_le little l a 8; omega
  have HG := Lib.hid (fun (w' : World) (hb : Below w.heap.size w w') => get_any A l cap little a 8 ha hc hlen w' (hr.below hb))
  generalize getN little l a 8 = n at *
  clear hr
  generalize l.length = len at *
  go_enter Try.func13, Try.ntmps13
  go_wp2_with (go_at_call 8; refine (HG.out _ ((Below.refl _ w).alloc (Nat.le_refl _) _)).mono ?_; rintro e w1 ⟨rfl, hb1⟩; have HB1 := Lib.hid hb1; clear hb1)
  go_ret
  exact ⟨rfl, keepA HB1.out (Below.refl _ _)⟩
end Go.Proofs.Ytbmifinomdcllaa
