
/-
  Plain arithmetic of a long division by two digits of 32 bits. No program is named here.
-/
namespace Go.Proofs.Ytbhgibpocbmipaa.DivM

/-- One digit's setting: Y is N1, N0; U is below Y; Q is the digit. -/
structure Dig (U V Y N1 N0 Q : Int) : Prop where
  y : Y = N1 * 4294967296 + N0
  n1 : 2147483648 ≤ N1
  n1' : N1 ≤ 4294967295
  n0 : 0 ≤ N0
  n0' : N0 ≤ 4294967295
  u0 : 0 ≤ U
  u : U < Y
  v0 : 0 ≤ V
  v : V ≤ 4294967295
  q : Q = (U * 4294967296 + V) / Y

theorem Dig.ypos {U V Y N1 N0 Q : Int} (d : Dig U V Y N1 N0 Q) : 0 < Y := by have := d.y; have := d.n1; have := d.n0; omega
theorem Dig.low {U V Y N1 N0 Q : Int} (d : Dig U V Y N1 N0 Q) : Q * Y ≤ U * 4294967296 + V := by
  rw [d.q]; exact Int.ediv_mul_le _ (by have := d.ypos; omega)
theorem Dig.high {U V Y N1 N0 Q : Int} (d : Dig U V Y N1 N0 Q) : U * 4294967296 + V < Q * Y + Y := by
  have h := Int.lt_ediv_add_one_mul_self (U * 4294967296 + V) d.ypos
  rw [← d.q] at h; rw [Int.add_mul, Int.one_mul] at h; exact h
theorem Dig.q0 {U V Y N1 N0 Q : Int} (d : Dig U V Y N1 N0 Q) : 0 ≤ Q := by
  rw [d.q]; exact Int.ediv_nonneg (by have := d.u0; have := d.v0; omega) (by have := d.ypos; omega)
theorem Dig.qlt {U V Y N1 N0 Q : Int} (d : Dig U V Y N1 N0 Q) : Q ≤ 4294967295 := by
  have h : Q < 4294967296 := by
    rw [d.q]; apply Int.ediv_lt_of_lt_mul d.ypos
    have := d.u; have := d.v; have := d.v0; rw [Int.mul_comm]; omega
  omega
theorem Dig.mulY {U V Y N1 N0 Q : Int} (d : Dig U V Y N1 N0 Q) (q : Int) : q * Y = q * N1 * 4294967296 + q * N0 := by
  rw [d.y, Int.mul_add, Int.mul_assoc]
theorem Dig.dec {U V Y N1 N0 Q q r : Int} (d : Dig U V Y N1 N0 Q) (h : q * N1 + r = U) (hq : Q ≤ q) (hc : 4294967296 ≤ q ∨ 4294967296 * r + V < q * N0) : Q ≤ q - 1 := by
  rcases hc with hc | hc
  · have := d.qlt; omega
  · have h1 := d.mulY q
    have h2 := d.low
    have h3 : Q * Y < q * Y := by omega
    have : Q < q := Int.lt_of_mul_lt_mul_right h3 (by have := d.ypos; omega)
    omega
theorem Dig.stop {U V Y N1 N0 Q q r : Int} (d : Dig U V Y N1 N0 Q) (h : q * N1 + r = U) (hq : Q ≤ q) (hc : q * N0 ≤ 4294967296 * r + V) : q = Q := by
  have h1 := d.mulY q
  have h2 := d.high
  have h3 : q * Y < (Q + 1) * Y := by rw [Int.add_mul, Int.one_mul]; omega
  have : q < Q + 1 := Int.lt_of_mul_lt_mul_right h3 (by have := d.ypos; omega)
  omega
theorem Dig.brk {U V Y N1 N0 Q q r : Int} (d : Dig U V Y N1 N0 Q) (h : q * N1 + r = U) (hq : Q ≤ q) (hb : q ≤ 4294967296) (hr : 4294967296 ≤ r) : q = Q := by
  refine d.stop h hq ?_
  have h1 : q * N0 ≤ 4294967296 * N0 := Int.mul_le_mul_of_nonneg_right hb d.n0
  have := d.n0'; have := d.v0; omega
theorem Dig.start {U V Y N1 N0 Q : Int} (d : Dig U V Y N1 N0 Q) : U / N1 * N1 + U % N1 = U ∧ Q ≤ U / N1 ∧ U / N1 ≤ 4294967297 ∧ 0 ≤ U % N1 ∧ U % N1 ≤ 4294967295 ∧ 0 ≤ U / N1 := by
  have hp : 0 < N1 := by have := d.n1; omega
  have h1 := Int.emod_add_mul_ediv U N1
  have h2 := Int.emod_nonneg U (by omega : N1 ≠ 0)
  have h3 := Int.emod_lt_of_pos U hp
  have h4 := d.n1'
  have h5 : U / N1 * N1 + U % N1 = U := by rw [Int.mul_comm]; omega
  refine ⟨h5, ?_, ?_, h2, by omega, Int.ediv_nonneg d.u0 (by omega)⟩
  · apply Int.le_ediv_of_mul_le hp
    have ha := d.low; have hb := d.mulY Q
    have hc : 0 ≤ Q * N0 := Int.mul_nonneg d.q0 d.n0
    have := d.v; omega
  · have : U / N1 < 4294967298 := by
      apply Int.ediv_lt_of_lt_mul hp
      have := d.u; have := d.y; have := d.n0'; have := d.n1; omega
    omega
/-- What is left behind the digit. -/
theorem Dig.rest {U V Y N1 N0 Q : Int} (d : Dig U V Y N1 N0 Q) : 0 ≤ U * 4294967296 + V - Q * Y ∧ U * 4294967296 + V - Q * Y < Y := by
  have := d.low; have := d.high; omega

/-- Both digits together. -/
theorem two_digits {U V1 V0 Y N1 N0 Q1 Q0 U2 : Int} (d1 : Dig U V1 Y N1 N0 Q1) (hU : U2 = U * 4294967296 + V1 - Q1 * Y) (d2 : Dig U2 V0 Y N1 N0 Q0) :
    (U * 18446744073709551616 + (V1 * 4294967296 + V0)) / Y = Q1 * 4294967296 + Q0 ∧ (U * 18446744073709551616 + (V1 * 4294967296 + V0)) % Y = U2 * 4294967296 + V0 - Q0 * Y := by
  have hr := d2.rest
  have e : U * 18446744073709551616 + (V1 * 4294967296 + V0) = (U2 * 4294967296 + V0 - Q0 * Y) + Y * (Q1 * 4294967296 + Q0) := by
    rw [Int.mul_add, ← Int.mul_assoc, Int.mul_comm Y Q1, Int.mul_comm Y Q0, hU]; omega
  rw [e]
  have hp := d1.ypos
  constructor
  · rw [Int.add_mul_ediv_left _ _ (by omega : Y ≠ 0), Int.ediv_eq_zero_of_lt hr.1 hr.2]; omega
  · rw [Int.add_mul_emod_self_left]; exact Int.emod_eq_of_lt hr.1 hr.2
end Go.Proofs.Ytbhgibpocbmipaa.DivM
