
/-
  Plain arithmetic of numbers of 128 bits: a number of the range and its two halves. No program is named here.
-/
namespace Go.Proofs.Ytbhgibpocbmipaa

/-- 2^64 and 2^127, the numbers of the range. -/
def hi (n : Int) : Int := n / 18446744073709551616
def lo (n : Int) : Int := n % 18446744073709551616
def InR (n : Int) : Prop := -170141183460469231731687303715884105728 ≤ n ∧ n ≤ 170141183460469231731687303715884105727
/-- What saturates. -/
def clamp (n : Int) : Int := if n < -170141183460469231731687303715884105728 then -170141183460469231731687303715884105728 else if 170141183460469231731687303715884105727 < n then 170141183460469231731687303715884105727 else n

theorem hilo (n : Int) : hi n * 18446744073709551616 + lo n = n := by unfold hi lo; omega
theorem lo_bd (n : Int) : 0 ≤ lo n ∧ lo n ≤ 18446744073709551615 := by unfold lo; omega
theorem hi_bd {n : Int} (h : InR n) : -9223372036854775808 ≤ hi n ∧ hi n ≤ 9223372036854775807 := by
  unfold InR at h; unfold hi; omega
theorem hi_of {h l n : Int} (h0 : 0 ≤ l) (h1 : l ≤ 18446744073709551615) (e : h * 18446744073709551616 + l = n) : hi n = h := by
  unfold hi; omega
theorem lo_of {h l n : Int} (h0 : 0 ≤ l) (h1 : l ≤ 18446744073709551615) (e : h * 18446744073709551616 + l = n) : lo n = l := by
  unfold lo; omega
theorem inR_of {h l : Int} (h0 : 0 ≤ l) (h1 : l ≤ 18446744073709551615) (g0 : -9223372036854775808 ≤ h) (g1 : h ≤ 9223372036854775807) : InR (h * 18446744073709551616 + l) := by
  unfold InR; omega
theorem hilo_inj {a b : Int} (h : hi a = hi b) (l : lo a = lo b) : a = b := by
  have := hilo a; have := hilo b; rw [h, l] at *; omega
theorem clamp_in (n : Int) : InR (clamp n) := by unfold InR clamp; split <;> (try split) <;> omega
theorem clamp_of {n : Int} (h : InR n) : clamp n = n := by unfold InR at h; unfold clamp; rw [if_neg (by omega), if_neg (by omega)]
theorem hi_neg (n : Int) : hi n < 0 ↔ n < 0 := by unfold hi; omega
end Go.Proofs.Ytbhgibpocbmipaa
