
/-
  Octet: Put of any number of bytes; the document's bytes of a number.
-/
import Derived.Test.YtbmifinomdcllaaOcG0

import Derived.Test.YtbmifinomdcllaaOcG1

import Derived.Test.YtbmifinomdcllaaOcG2

import Derived.Test.YtbmifinomdcllaaOcG3

import Derived.Test.YtbmifinomdcllaaOcG4

import Derived.Test.YtbmifinomdcllaaOcG5

import Derived.Test.YtbmifinomdcllaaOcG6

import Derived.Test.YtbmifinomdcllaaOcG7

import Derived.Test.YtbmifinomdcllaaOcG8

namespace Go.Proofs.Ytbmifinomdcllaa

open Go.RowKit Go.Lib

set_option maxRecDepth 100000

/-- The bytes of a number. -/
def bytesF (little : Bool) (m n : Nat) : List UInt8 := if little then Lib.leBytes m n else (Lib.leBytes m n).reverse
theorem bytesF_len (little : Bool) (m n : Nat) : (bytesF little m n).length = m := by unfold bytesF; split <;> simp [leBytes_length]
theorem leNat_drop (l : List UInt8) (k : Nat) : leNat l / 256 ^ k = leNat (l.drop k) := by
  induction k generalizing l with
  | zero => simp
  | succ k ih =>
    cases l with
    | nil => simp [leNat]
    | cons x l =>
      rw [List.drop_succ_cons, ← ih l, Nat.pow_succ, Nat.mul_comm, ← Nat.div_div_eq_div_mul]
      congr 1
      simp only [leNat]; have := x.toNat_lt; omega
theorem take_leBytes (m k n : Nat) (h : m ≤ k) : (Lib.leBytes k n).take m = Lib.leBytes m n := by
  induction m generalizing k n with
  | zero => simp [Lib.leBytes]
  | succ m ih =>
    cases k with
    | zero => omega
    | succ k => simp only [Lib.leBytes, List.take_succ_cons]; rw [ih k _ (by omega)]
theorem bytes_ord (little : Bool) (n m : Nat) (hm : m ≤ 8) : Lib.leBytes m (ordF little n m) = bytesF little m n := by
  cases little
  · show Lib.leBytes m (leNat (Lib.leBytes 8 n).reverse / 256 ^ (8 - m)) = (Lib.leBytes m n).reverse
    have hl : ((Lib.leBytes 8 n).reverse.drop (8 - m)).length = m := by rw [List.length_drop, List.length_reverse, leBytes_length]; omega
    rw [leNat_drop, leBytes_leNat _ m (by omega), hl, Nat.sub_self, List.replicate_zero, List.append_nil, List.drop_reverse, leBytes_length, show 8 - (8 - m) = m by omega, take_leBytes m 8 n hm]
  · rfl
def putL (l : List UInt8) (little : Bool) (n : Nat) (m : Int) : List UInt8 := if 0 ≤ m ∧ m ≤ 8 then l ++ bytesF little m.toNat n else l
def PutR (w : World) (l : List UInt8) (little : Bool) (n : Nat) (m : Int) (e : Ending) (w' : World) : Prop :=
  ∃ A cap, e = .returned (.agg #[.slice A (putL l little n m).length cap, .bool little]) ∧ (putL l little n m).length ≤ cap ∧ Rd w' A (putL l little n m) ∧ Below w.heap.size w w'
theorem put_no (A : Option Addr) (len cap : Nat) (little : Bool) (n : Nat) (m : Int) (h : ¬ (0 ≤ m ∧ m ≤ 8)) (w : World) :
    Calls Try.prog 15 #[.agg #[.slice A len cap, .bool little], .int .u64 n, .int .i64 m] w fun e w' => e = .returned (.agg #[.slice A len cap, .bool little]) ∧ Below w.heap.size w w' := by
  have HF := Lib.hid (fun w => by have := fits_any m w; rwa [decide_eq_false h] at this)
  clear h
  go_enter Try.func15, Try.ntmps15
  go_wp2_with (go_at_call 21; refine (HF.out _).mono ?_; rintro e w' ⟨rfl, rfl⟩)
  have hre := Blk.put (Blk.put (Blk.new (w := w.alloc (.cells #[.slice A len cap, .bool little] 25)) (cs := #[.slice none 0 0, .bool false]) (T := 25) rfl) (i := 0) (.slice A len cap)) (i := 1) (.bool little)
  exact bodyPost_ret (v := .agg #[.slice A len cap, .bool little]) (by simp [results, Try.results15, go_sem]) rfl
    ⟨rfl, ((((Below.refl _ w).alloc (Nat.le_refl _) _).alloc (by simp) _)).trans (Below.refl _ _)⟩
theorem put_any (A : Option Addr) (l : List UInt8) (cap : Nat) (little : Bool) (n : Nat) (hn : n < 18446744073709551616) (m : Int) (hc : l.length ≤ cap) (hlen : l.length ≤ 1048576) (w : World) (hr : Rd w A l) :
    Calls Try.prog 15 #[.agg #[.slice A l.length cap, .bool little], .int .u64 n, .int .i64 m] w (PutR w l little n m) := by
  by_cases h : 0 ≤ m ∧ m ≤ 8
  · obtain ⟨h0, h8⟩ := h
    obtain ⟨m, rfl⟩ := Int.eq_ofNat_of_zero_le h0
    have hm : m ≤ 8 := by omega
    have hp : putL l little n (m : Int) = l ++ bytesF little m n := by unfold putL; rw [if_pos ⟨h0, h8⟩]; rfl
    have hpl : (putL l little n (m : Int)).length = l.length + m := by rw [hp, List.length_append, bytesF_len]
    have hfin : ∀ (e : Ending) (w' : World), (e = .returned (.agg #[.slice (some ⟨w.heap.size + 1 + 1, 0, none⟩) (l.length + m) (l.length + m), .bool little]) ∧ Rd w' (some ⟨w.heap.size + 1 + 1, 0, none⟩) (l ++ Lib.leBytes m (ordF little n m)) ∧ Below w.heap.size w w') → PutR w l little n m e w' := by
      rintro e w' ⟨rfl, h1, h2⟩
      rw [bytes_ord little n m hm, ← hp] at h1
      exact ⟨_, _, by rw [hpl], by rw [hpl]; exact Nat.le_refl _, h1, h2⟩
    have ho := fun w => order_any A l.length cap little n n rfl hn m hm w
    rcases (by omega : m = 0 ∨ m = 1 ∨ m = 2 ∨ m = 3 ∨ m = 4 ∨ m = 5 ∨ m = 6 ∨ m = 7 ∨ m = 8) with rfl | rfl | rfl | rfl | rfl | rfl | rfl | rfl | rfl
    · refine (put0 A l _ cap rfl little n hlen w hr _ ho).mono fun e w' h => hfin e w' ?_
      rw [show Lib.leBytes 0 (ordF little n 0) = [] from rfl, List.append_nil]; exact h
    · exact (put1 A l _ cap _ rfl rfl little n hlen w hr _ ho).mono hfin
    · exact (put2 A l _ cap _ rfl rfl little n hlen w hr _ ho).mono hfin
    · exact (put3 A l _ cap _ rfl rfl little n hlen w hr _ ho).mono hfin
    · exact (put4 A l _ cap _ rfl rfl little n hlen w hr _ ho).mono hfin
    · exact (put5 A l _ cap _ rfl rfl little n hlen w hr _ ho).mono hfin
    · exact (put6 A l _ cap _ rfl rfl little n hlen w hr _ ho).mono hfin
    · exact (put7 A l _ cap _ rfl rfl little n hlen w hr _ ho).mono hfin
    · exact (put8 A l _ cap _ rfl rfl little n hlen w hr _ ho).mono hfin
  · have hp : putL l little n m = l := by unfold putL; rw [if_neg h]
    refine (put_no A l.length cap little n m h w).mono fun e w' ⟨h1, h2⟩ => ⟨A, cap, by rw [hp]; exact h1, by rw [hp]; exact hc, by rw [hp]; exact hr.below h2, h2⟩
end Go.Proofs.Ytbmifinomdcllaa
