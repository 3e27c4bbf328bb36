
/-
  Octet: the sums of bytes: mathematics.
-/
import Derived.Lib.Endian

namespace Go.Proofs.Ytbmifinomdcllaa

open Go.Lib

/-- The pairs' sum: hi: the next byte is the upper one of its pair. -/
def sumP : Bool → List UInt8 → Nat
  | _, [] => 0
  | true, x :: l => x.toNat * 256 + sumP false l
  | false, x :: l => x.toNat + sumP true l
def flipN (hi : Bool) (n : Nat) : Bool := if n % 2 = 0 then hi else !hi
theorem flipN_0 (hi : Bool) : flipN hi 0 = hi := rfl
theorem flipN_succ (hi : Bool) (n : Nat) : flipN hi (n + 1) = !flipN hi n := by
  unfold flipN
  rcases Nat.mod_two_eq_zero_or_one n with h | h
  · rw [if_neg (by omega), if_pos h]
  · rw [if_pos (by omega), if_neg (by omega), Bool.not_not]
theorem flipN_not (hi : Bool) (n : Nat) : flipN (!hi) n = !flipN hi n := by unfold flipN; split <;> rfl
theorem sumP_app (hi : Bool) (a b : List UInt8) : sumP hi (a ++ b) = sumP hi a + sumP (flipN hi a.length) b := by
  induction a generalizing hi with
  | nil => simp [sumP, flipN]
  | cons x a ih =>
    cases hi
    · rw [List.cons_append, sumP, sumP, ih, List.length_cons, flipN_succ, ← flipN_not, Nat.add_assoc]; rfl
    · rw [List.cons_append, sumP, sumP, ih, List.length_cons, flipN_succ, ← flipN_not, Nat.add_assoc]; rfl
theorem sumP_le (hi : Bool) (l : List UInt8) : sumP hi l ≤ 65280 * l.length := by
  induction l generalizing hi with
  | nil => simp [sumP]
  | cons x l ih =>
    have hx := x.toNat_lt
    cases hi
    · have := ih true; rw [sumP, List.length_cons]; omega
    · have := ih false; rw [sumP, List.length_cons]; omega
theorem sumP_one (hi : Bool) (x : UInt8) : sumP hi [x] = if hi then x.toNat * 256 else x.toNat := by cases hi <;> simp [sumP]
/-- The checksum of a sum. -/
def ck (t : Nat) : Nat := if t = 0 then 65535 else if t % 65535 = 0 then 0 else 65535 - t % 65535
theorem ck_fold (t : Nat) : ck (t / 65536 + t % 65536) = ck t := by
  have h1 : (t / 65536 + t % 65536) % 65535 = t % 65535 := by omega
  have h2 : t / 65536 + t % 65536 = 0 ↔ t = 0 := by omega
  unfold ck
  rw [h1]
  by_cases h : t = 0
  · rw [if_pos h, if_pos (h2.2 h)]
  · rw [if_neg h, if_neg (fun e => h (h2.1 e))]
theorem ck_small (t : Nat) (h : t ≤ 65535) : ck t = 65535 - t := by
  unfold ck
  by_cases h0 : t = 0
  · rw [if_pos h0]; omega
  · rw [if_neg h0]
    by_cases h1 : t % 65535 = 0
    · rw [if_pos h1]; omega
    · rw [if_neg h1]; omega
theorem ck_lt (t : Nat) : ck t ≤ 65535 := by unfold ck; split <;> (try split) <;> omega
theorem ck_own (t : Nat) : ck (t + ck t) = 0 := by
  have h : t + ck t ≠ 0 ∧ (t + ck t) % 65535 = 0 := by
    unfold ck
    split
    · omega
    · split <;> omega
  unfold ck at h ⊢
  rw [if_neg h.1, if_pos h.2]
end Go.Proofs.Ytbmifinomdcllaa
