
/-
  Octet: the plain mathematics of bytes and numbers.
-/
import Derived.Lib.Endian

namespace Go.Proofs.Ytbmifinomdcllaa

open Go.Lib

/-- The bytes of a number of 64 bits the other way about. -/
def revN (n : Nat) : Nat := leNat (leBytes 8 n).reverse
def padI (n : Int) : Int := if n < 0 then 0 else (4 - n % 4) % 4

theorem and_split (k a c ma mc : Nat) (ha : a < 2 ^ k) (hm : ma < 2 ^ k) : (a + 2 ^ k * c) &&& (ma + 2 ^ k * mc) = (a &&& ma) + 2 ^ k * (c &&& mc) := by
  apply Nat.eq_of_testBit_eq
  intro i
  rw [Nat.testBit_and, Nat.add_comm a, Nat.add_comm ma, Nat.add_comm (a &&& ma), Nat.testBit_two_pow_mul_add _ ha, Nat.testBit_two_pow_mul_add _ hm, Nat.testBit_two_pow_mul_add _ (Nat.and_lt_two_pow _ hm)]
  split <;> simp
theorem or_split (k a c ma mc : Nat) (ha : a < 2 ^ k) (hm : ma < 2 ^ k) : (a + 2 ^ k * c) ||| (ma + 2 ^ k * mc) = (a ||| ma) + 2 ^ k * (c ||| mc) := by
  apply Nat.eq_of_testBit_eq
  intro i
  rw [Nat.testBit_or, Nat.add_comm a, Nat.add_comm ma, Nat.add_comm (a ||| ma), Nat.testBit_two_pow_mul_add _ ha, Nat.testBit_two_pow_mul_add _ hm, Nat.testBit_two_pow_mul_add _ (Nat.or_lt_two_pow ha hm)]
  split <;> simp
theorem or_low {i b : Nat} (a : Nat) (hb : b < 2 ^ i) : b ||| 2 ^ i * a = b + 2 ^ i * a := by
  have h := Nat.two_pow_add_eq_or_of_lt hb a
  rw [Nat.or_comm, ← h, Nat.add_comm]
theorem and8 (a : Nat) : a &&& 255 = a % 256 := Nat.and_two_pow_sub_one_eq_mod a 8
theorem and16 (a : Nat) : a &&& 65535 = a % 65536 := Nat.and_two_pow_sub_one_eq_mod a 16
/-- Four pairs of bytes, and two. -/
def n4 (a b c d : Nat) : Nat := a + 65536 * (b + 65536 * (c + 65536 * d))
theorem n4_and (a b c d : Nat) (ha : a < 65536) (hb : b < 65536) (hc : c < 65536) : n4 a b c d &&& 71777214294589695 = n4 (a % 256) (b % 256) (c % 256) (d % 256) := by
  have e : (71777214294589695 : Nat) = 255 + 2 ^ 16 * (255 + 2 ^ 16 * (255 + 2 ^ 16 * 255)) := by decide
  rw [e]
  show (a + 2 ^ 16 * (b + 2 ^ 16 * (c + 2 ^ 16 * d))) &&& _ = _
  rw [and_split 16 _ _ _ _ ha (by decide), and_split 16 _ _ _ _ hb (by decide), and_split 16 _ _ _ _ hc (by decide), and8, and8, and8, and8]
  rfl
theorem n4_or (a b c d p q r s : Nat) (ha : a < 65536) (hb : b < 65536) (hc : c < 65536) (hp : p < 65536) (hq : q < 65536) (hr : r < 65536) : n4 a b c d ||| n4 p q r s = n4 (a ||| p) (b ||| q) (c ||| r) (d ||| s) := by
  show (a + 2 ^ 16 * (b + 2 ^ 16 * (c + 2 ^ 16 * d))) ||| (p + 2 ^ 16 * (q + 2 ^ 16 * (r + 2 ^ 16 * s))) = _
  rw [or_split 16 _ _ _ _ ha hp, or_split 16 _ _ _ _ hb hq, or_split 16 _ _ _ _ hc hr]
  rfl
def n2 (a b : Nat) : Nat := a + 4294967296 * b
theorem n2_and (a b : Nat) (ha : a < 4294967296) : n2 a b &&& 281470681808895 = n2 (a % 65536) (b % 65536) := by
  have e : (281470681808895 : Nat) = 65535 + 2 ^ 32 * 65535 := by decide
  rw [e]
  show (a + 2 ^ 32 * b) &&& _ = _
  rw [and_split 32 _ _ _ _ ha (by decide), and16, and16]
  rfl
theorem n2_or (a b p q : Nat) (ha : a < 4294967296) (hp : p < 4294967296) : n2 a b ||| n2 p q = n2 (a ||| p) (b ||| q) := by
  show (a + 2 ^ 32 * b) ||| (p + 2 ^ 32 * q) = _
  rw [or_split 32 _ _ _ _ ha hp]
  rfl
/-- The three steps. -/
def rv1 (n : Nat) : Nat := (n / 256 &&& 71777214294589695) ||| ((n &&& 71777214294589695) * 256) % 18446744073709551616
def rv2 (n : Nat) : Nat := (n / 65536 &&& 281470681808895) ||| ((n &&& 281470681808895) * 65536) % 18446744073709551616
def rv3 (n : Nat) : Nat := n / 4294967296 ||| (n * 4294967296) % 18446744073709551616
theorem or8 {a b : Nat} (ha : a < 256) : a ||| b * 256 = a + b * 256 := by
  have := or_low (i := 8) b (b := a) (by omega)
  rw [Nat.mul_comm]; exact this
theorem or16 {a b : Nat} (ha : a < 65536) : a ||| b * 65536 = a + b * 65536 := by
  have := or_low (i := 16) b (b := a) (by omega)
  rw [Nat.mul_comm]; exact this
theorem or32 {a b : Nat} (ha : a < 4294967296) : a ||| b * 4294967296 = a + b * 4294967296 := by
  have := or_low (i := 32) b (b := a) (by omega)
  rw [Nat.mul_comm]; exact this
theorem rv1_eq {b0 b1 b2 b3 b4 b5 b6 b7 : Nat} (h0 : b0 < 256) (h1 : b1 < 256) (h2 : b2 < 256) (h3 : b3 < 256) (h4 : b4 < 256) (h5 : b5 < 256) (h6 : b6 < 256) (h7 : b7 < 256) :
    rv1 (n4 (b0 + 256 * b1) (b2 + 256 * b3) (b4 + 256 * b5) (b6 + 256 * b7)) = n4 (b1 + 256 * b0) (b3 + 256 * b2) (b5 + 256 * b4) (b7 + 256 * b6) := by
  unfold rv1
  have e1 : n4 (b0 + 256 * b1) (b2 + 256 * b3) (b4 + 256 * b5) (b6 + 256 * b7) / 256 = n4 (b1 + 256 * b2) (b3 + 256 * b4) (b5 + 256 * b6) b7 := by unfold n4; omega
  rw [e1, n4_and _ _ _ _ (by omega) (by omega) (by omega), n4_and _ _ _ _ (by omega) (by omega) (by omega)]
  have e2 : n4 ((b0 + 256 * b1) % 256) ((b2 + 256 * b3) % 256) ((b4 + 256 * b5) % 256) ((b6 + 256 * b7) % 256) * 256 % 18446744073709551616 = n4 (b0 * 256) (b2 * 256) (b4 * 256) (b6 * 256) := by
    rw [(by omega : (b0 + 256 * b1) % 256 = b0), (by omega : (b2 + 256 * b3) % 256 = b2), (by omega : (b4 + 256 * b5) % 256 = b4), (by omega : (b6 + 256 * b7) % 256 = b6)]
    unfold n4; omega
  rw [e2, (by omega : (b1 + 256 * b2) % 256 = b1), (by omega : (b3 + 256 * b4) % 256 = b3), (by omega : (b5 + 256 * b6) % 256 = b5), (by omega : b7 % 256 = b7), n4_or _ _ _ _ _ _ _ _ (by omega) (by omega) (by omega) (by omega) (by omega) (by omega), or8 h1, or8 h3, or8 h5, or8 h7]
  unfold n4; omega
theorem rv2_eq {a b c d : Nat} (ha : a < 65536) (hb : b < 65536) (hc : c < 65536) (hd : d < 65536) : rv2 (n4 a b c d) = n4 b a d c := by
  unfold rv2
  have e0 : n4 a b c d = n2 (a + 65536 * b) (c + 65536 * d) := by unfold n4 n2; omega
  have e1 : n2 (a + 65536 * b) (c + 65536 * d) / 65536 = n2 (b + 65536 * c) d := by unfold n2; omega
  rw [e0, e1, n2_and _ _ (by omega), n2_and _ _ (by omega), (by omega : (b + 65536 * c) % 65536 = b), (by omega : d % 65536 = d), (by omega : (a + 65536 * b) % 65536 = a), (by omega : (c + 65536 * d) % 65536 = c)]
  have e2 : n2 a c * 65536 % 18446744073709551616 = n2 (a * 65536) (c * 65536) := by unfold n2; omega
  rw [e2, n2_or _ _ _ _ (by omega) (by omega), or16 hb, or16 hd]
  unfold n4 n2; omega
theorem rv3_eq {a b c d : Nat} (ha : a < 65536) (hb : b < 65536) (hc : c < 65536) (hd : d < 65536) : rv3 (n4 a b c d) = n4 c d a b := by
  unfold rv3
  have e1 : n4 a b c d / 4294967296 = c + 65536 * d := by unfold n4; omega
  have e2 : n4 a b c d * 4294967296 % 18446744073709551616 = (a + 65536 * b) * 4294967296 := by unfold n4; omega
  rw [e1, e2, or32 (by omega)]
  unfold n4; omega
theorem lb8 (n : Nat) : leBytes 8 n = [(n % 256).toUInt8, (n / 256 % 256).toUInt8, (n / 256 / 256 % 256).toUInt8, (n / 256 / 256 / 256 % 256).toUInt8, (n / 256 / 256 / 256 / 256 % 256).toUInt8, (n / 256 / 256 / 256 / 256 / 256 % 256).toUInt8, (n / 256 / 256 / 256 / 256 / 256 / 256 % 256).toUInt8, (n / 256 / 256 / 256 / 256 / 256 / 256 / 256 % 256).toUInt8] := rfl
theorem rev_eq (n : Nat) (hn : n < 18446744073709551616) : rv3 (rv2 (rv1 n)) = revN n := by
  have h0 := Nat.mod_lt n (by decide : 256 > 0)
  have h1 := Nat.mod_lt (n / 256) (by decide : 256 > 0)
  have h2 := Nat.mod_lt (n / 256 / 256) (by decide : 256 > 0)
  have h3 := Nat.mod_lt (n / 256 / 256 / 256) (by decide : 256 > 0)
  have h4 := Nat.mod_lt (n / 256 / 256 / 256 / 256) (by decide : 256 > 0)
  have h5 := Nat.mod_lt (n / 256 / 256 / 256 / 256 / 256) (by decide : 256 > 0)
  have h6 := Nat.mod_lt (n / 256 / 256 / 256 / 256 / 256 / 256) (by decide : 256 > 0)
  have h7 := Nat.mod_lt (n / 256 / 256 / 256 / 256 / 256 / 256 / 256) (by decide : 256 > 0)
  have hr : revN n = n4 (n / 256 / 256 / 256 / 256 / 256 / 256 / 256 % 256 + 256 * (n / 256 / 256 / 256 / 256 / 256 / 256 % 256)) (n / 256 / 256 / 256 / 256 / 256 % 256 + 256 * (n / 256 / 256 / 256 / 256 % 256)) (n / 256 / 256 / 256 % 256 + 256 * (n / 256 / 256 % 256)) (n / 256 % 256 + 256 * (n % 256)) := by
    unfold revN n4
    rw [lb8]
    simp only [List.reverse_cons, List.reverse_nil, List.nil_append, List.cons_append, leNat, toUInt8_mod]
    omega
  have hn4 : n = n4 (n % 256 + 256 * (n / 256 % 256)) (n / 256 / 256 % 256 + 256 * (n / 256 / 256 / 256 % 256)) (n / 256 / 256 / 256 / 256 % 256 + 256 * (n / 256 / 256 / 256 / 256 / 256 % 256)) (n / 256 / 256 / 256 / 256 / 256 / 256 % 256 + 256 * (n / 256 / 256 / 256 / 256 / 256 / 256 / 256 % 256)) := by
    unfold n4; omega
  rw [hr]
  conv => lhs; rw [hn4]
  generalize n % 256 = b0 at *
  generalize n / 256 % 256 = b1 at *
  generalize n / 256 / 256 % 256 = b2 at *
  generalize n / 256 / 256 / 256 % 256 = b3 at *
  generalize n / 256 / 256 / 256 / 256 % 256 = b4 at *
  generalize n / 256 / 256 / 256 / 256 / 256 % 256 = b5 at *
  generalize n / 256 / 256 / 256 / 256 / 256 / 256 % 256 = b6 at *
  generalize n / 256 / 256 / 256 / 256 / 256 / 256 / 256 % 256 = b7 at *
  rw [rv1_eq h0 h1 h2 h3 h4 h5 h6 h7, rv2_eq (by omega) (by omega) (by omega) (by omega), rv3_eq (by omega) (by omega) (by omega) (by omega)]
theorem revN_lt (n : Nat) : revN n < 18446744073709551616 := by
  unfold revN
  have : ∀ l : List UInt8, leNat l < 256 ^ l.length := by
    intro l; induction l with
    | nil => decide
    | cons x l ih => have := x.toNat_lt; simp only [leNat, List.length_cons, Nat.pow_succ]; omega
  have h := this (leBytes 8 n).reverse
  rw [List.length_reverse, leBytes_length] at h
  exact h
end Go.Proofs.Ytbmifinomdcllaa
