
/-
  The contract of bits.Div64: the walk, over the numbers that its own text makes.
-/
import Derived.Test.YtbhgibpocbmipaaWMul
import Derived.Test.YtbhgibpocbmipaaDivM
namespace Go.Proofs.Ytbhgibpocbmipaa
open Go.RowKit DivM

/-- At the head of either loop: the digit is not above q, and q times N1, with r, is U. -/
def DigAt (U N1 Q : Int) (A R : Value) : Prop := ∃ q r : Int, (q * N1 + r = U ∧ Q ≤ q ∧ q ≤ 4294967297 ∧ 0 ≤ r ∧ r ≤ 4294967295) ∧ A = .int .u64 q ∧ R = .int .u64 r

theorem prod_bd {q N0 : Int} (q0 : 0 ≤ q) (q1 : q ≤ 4294967295) (n0 : 0 ≤ N0) (n1 : N0 ≤ 4294967295) : 0 ≤ q * N0 ∧ q * N0 ≤ 18446744065119617025 :=
  ⟨Int.mul_nonneg q0 n0, Int.mul_le_mul q1 n1 n0 (by omega)⟩

set_option maxRecDepth 100000 in
set_option maxHeartbeats 8000000 in
theorem div64_walk (h l y s S T Y N1 N0 HS LT U V V1 V0 Q1 U2 Q0 : Int) (w : World)
    (h0 : 0 < h) (hy : h < y) (y1 : y ≤ 18446744073709551615) (s0 : 0 ≤ s) (s1 : s ≤ 63)
    (hs : 64 - (Lib.bitLen y.toNat : Int) = s) (eS : (2 : Int) ^ s.toNat = S) (eT : (2 : Int) ^ (64 - s).toNat = T)
    (eY : IntKind.u64.wrap (y * S) = Y) (eN1 : Y / 4294967296 = N1) (eN0 : bits .and .u64 Y 4294967295 = N0)
    (eH : IntKind.u64.wrap (h * S) = HS) (eL : l / T = LT) (eU : bits .or .u64 HS LT = U)
    (eV : IntKind.u64.wrap (l * S) = V) (eV1 : V / 4294967296 = V1) (eV0 : bits .and .u64 V 4294967295 = V0)
    (d1 : Dig U V1 Y N1 N0 Q1) (hU2 : U2 = U * 4294967296 + V1 - Q1 * Y) (d2 : Dig U2 V0 Y N1 N0 Q0) (yy : Y ≤ 18446744073709551615) :
    Calls Try.prog 67 #[.int .u64 h, .int .u64 l, .int .u64 y] w fun e w' =>
      e = .returned (.tuple #[.int .u64 (Q1 * 4294967296 + Q0), .int .u64 ((U2 * 4294967296 + V0 - Q0 * Y) / S)]) ∧ w' = w := by
  have e1 : (y == 0) = false := by rw [beq_eq_false_iff_ne]; omega
  have e2 : (h == 0) = false := by rw [beq_eq_false_iff_ne]; omega
  have e3 : ¬ y ≤ h := by omega
  have lz := fun w => Try.bits_LeadingZeros64 y w (by omega) y1
  rw [hs] at lz
  have LZ := Lib.hid lz; clear lz hs
  obtain ⟨st1, st2, st3, st4, st5, st6⟩ := d1.start
  have n1a := d1.n1; have n1b := d1.n1'; have n0a := d1.n0; have n0b := d1.n0'; have ua := d1.u0; have ub : U ≤ 18446744073709551615 := by have := d1.u; omega
  have u2a := d2.u0; have u2b : U2 ≤ 18446744073709551615 := by have := d2.u; omega
  have v1a := d1.v0; have v1b := d1.v; have v0a := d2.v0; have v0b := d2.v
  have qa := d1.q0; have qb := d1.qlt; have q0a := d2.q0; have q0b := d2.qlt
  have yp := d1.ypos
  have nz : (N1 == 0) = false := by rw [beq_eq_false_iff_ne]; omega
  have nz2 : ¬ N1 = 0 := by omega
  obtain ⟨tt1, tt2, tt3, tt4, tt5, tt6⟩ := d2.start
  have D1 := Lib.hid d1; have D2 := Lib.hid d2; have HU2 := Lib.hid hU2
  have ST1 := Lib.hid st1; have TT1 := Lib.hid tt1
  have er1 : U - U / N1 * N1 = U % N1 := by omega
  have er2 : U2 - U2 / N1 * N1 = U2 % N1 := by omega
  have bq1 : 0 ≤ U / N1 * N1 := Int.mul_nonneg st6 (by omega)
  have bq2 : U / N1 * N1 ≤ 18446744073709551615 := by omega
  have bq3 : 0 ≤ U2 / N1 * N1 := Int.mul_nonneg tt6 (by omega)
  have bq4 : U2 / N1 * N1 ≤ 18446744073709551615 := by omega
  clear d1 d2 hU2 st1 tt1
  generalize hr1 : U % N1 = ri at *
  generalize hr2 : U2 % N1 = rj at *
  generalize hm1 : U / N1 * N1 = QN at *
  generalize hm2 : U2 / N1 * N1 = QM at *
  obtain ⟨W1, w1e⟩ : ∃ W1, IntKind.u64.wrap (U * 4294967296) = W1 := ⟨_, rfl⟩
  obtain ⟨W2, w2e⟩ : ∃ W2, IntKind.u64.wrap (Q1 * Y) = W2 := ⟨_, rfl⟩
  obtain ⟨W3, w3e⟩ : ∃ W3, IntKind.u64.wrap (W1 + V1) = W3 := ⟨_, rfl⟩
  obtain ⟨X1, x1e⟩ : ∃ X1, IntKind.u64.wrap (U2 * 4294967296) = X1 := ⟨_, rfl⟩
  obtain ⟨X2, x2e⟩ : ∃ X2, IntKind.u64.wrap (Q0 * Y) = X2 := ⟨_, rfl⟩
  obtain ⟨X3, x3e⟩ : ∃ X3, IntKind.u64.wrap (X1 + V0) = X3 := ⟨_, rfl⟩
  obtain ⟨R, rE⟩ : ∃ R, U2 * 4294967296 + V0 - Q0 * Y = R := ⟨_, rfl⟩
  have hrest := D2.out.rest
  have w4e : IntKind.u64.wrap (W3 - W2) = U2 := by simp only [IntKind.wrap_u64] at *; have := HU2.out; omega
  have x4e : IntKind.u64.wrap (X3 - X2) = R := by simp only [IntKind.wrap_u64] at *; omega
  have rb : 0 ≤ R := by omega
  have rb2 : R ≤ 18446744073709551615 := by omega
  have RE := Lib.hid rE; clear rE hrest
  go_enter Try.func67, Try.ntmps67
  go_wp2_with (go_at_call 76; refine (LZ.out _).mono ?_; rintro e w1 ⟨rfl, hw1⟩; rw [hw1]; clear hw1)
  go_loop [15, 16] (fun A R => DigAt U N1 Q1 A R) (fun A _ => (intOf A).toNat)
  case atStart => exact ⟨U / N1, ri, ⟨by rw [hm1]; exact ST1.out, st2, st3, st4, st5⟩, rfl, rfl⟩
  case round =>
    obtain ⟨q, r, ⟨i1, i2, i3, i4, i5⟩, rfl, rfl⟩ := hrel
    have I1 := Lib.hid i1; clear i1
    by_cases hbig : 4294967296 ≤ q
    · have hdec := D1.out.dec I1.out i2 (Or.inl hbig)
      have I2 : (q - 1) * N1 + (r + N1) = U := by rw [Int.sub_mul]; have := I1.out; omega
      by_cases hr : 4294967296 ≤ r + N1
      · have hQ := D1.out.brk I2 hdec (by omega) hr
        clear I2
        go_wp2
        go_loop [18, 16] (fun A R => DigAt U2 N1 Q0 A R) (fun A _ => (intOf A).toNat)
        case atStart => exact ⟨U2 / N1, rj, ⟨by rw [hm2]; exact TT1.out, tt2, tt3, tt4, tt5⟩, rfl, rfl⟩
        case round =>
          obtain ⟨q, r, ⟨i1, i2, i3, i4, i5⟩, rfl, rfl⟩ := hrel
          have I1 := Lib.hid i1; clear i1
          by_cases hbig : 4294967296 ≤ q
          · have hdec := D2.out.dec I1.out i2 (Or.inl hbig)
            have I2 : (q - 1) * N1 + (r + N1) = U2 := by rw [Int.sub_mul]; have := I1.out; omega
            by_cases hr : 4294967296 ≤ r + N1
            · have hQ := D2.out.brk I2 hdec (by omega) hr
              clear I2
              go_wp2
              go_ret2
              exact ⟨by rw [RE.out]; rfl, rfl⟩
            · skip
              have IH := Lib.hid I2; clear I2
              go_wp2
              go_round
              case rel => exact ⟨q - 1, r + N1, ⟨IH.out, hdec, by omega, by omega, by omega⟩, rfl, rfl⟩
              case measure => simp [intOf]; omega
          · have hp := prod_bd (by omega : 0 ≤ q) (by omega) n0a n0b
            obtain ⟨P, hP⟩ : ∃ P, q * N0 = P := ⟨_, rfl⟩
            rw [hP] at hp
            by_cases hc : 4294967296 * r + V0 < P
            · have hdec := D2.out.dec I1.out i2 (Or.inr (by rw [hP]; exact hc))
              have I2 : (q - 1) * N1 + (r + N1) = U2 := by rw [Int.sub_mul]; have := I1.out; omega
              by_cases hr : 4294967296 ≤ r + N1
              · have hQ := D2.out.brk I2 hdec (by omega) hr
                clear I2
                go_wp2
                go_ret2
                exact ⟨by rw [RE.out]; rfl, rfl⟩
              · skip
                have IH := Lib.hid I2; clear I2
                go_wp2
                go_round
                case rel => exact ⟨q - 1, r + N1, ⟨IH.out, hdec, by omega, by omega, by omega⟩, rfl, rfl⟩
                case measure => simp [intOf]; omega
            · obtain rfl : Q0 = q := (D2.out.stop I1.out i2 (by omega)).symm
              go_wp2
              go_ret2
              exact ⟨by rw [RE.out]; rfl, rfl⟩
      · skip
        have IH := Lib.hid I2; clear I2
        go_wp2
        go_round
        case rel => exact ⟨q - 1, r + N1, ⟨IH.out, hdec, by omega, by omega, by omega⟩, rfl, rfl⟩
        case measure => simp [intOf]; omega
    · have hp := prod_bd (by omega : 0 ≤ q) (by omega) n0a n0b
      obtain ⟨P, hP⟩ : ∃ P, q * N0 = P := ⟨_, rfl⟩
      rw [hP] at hp
      by_cases hc : 4294967296 * r + V1 < P
      · have hdec := D1.out.dec I1.out i2 (Or.inr (by rw [hP]; exact hc))
        have I2 : (q - 1) * N1 + (r + N1) = U := by rw [Int.sub_mul]; have := I1.out; omega
        by_cases hr : 4294967296 ≤ r + N1
        · have hQ := D1.out.brk I2 hdec (by omega) hr
          clear I2
          go_wp2
          go_loop [18, 16] (fun A R => DigAt U2 N1 Q0 A R) (fun A _ => (intOf A).toNat)
          case atStart => exact ⟨U2 / N1, rj, ⟨by rw [hm2]; exact TT1.out, tt2, tt3, tt4, tt5⟩, rfl, rfl⟩
          case round =>
            obtain ⟨q, r, ⟨i1, i2, i3, i4, i5⟩, rfl, rfl⟩ := hrel
            have I1 := Lib.hid i1; clear i1
            by_cases hbig : 4294967296 ≤ q
            · have hdec := D2.out.dec I1.out i2 (Or.inl hbig)
              have I2 : (q - 1) * N1 + (r + N1) = U2 := by rw [Int.sub_mul]; have := I1.out; omega
              by_cases hr : 4294967296 ≤ r + N1
              · have hQ := D2.out.brk I2 hdec (by omega) hr
                clear I2
                go_wp2
                go_ret2
                exact ⟨by rw [RE.out]; rfl, rfl⟩
              · skip
                have IH := Lib.hid I2; clear I2
                go_wp2
                go_round
                case rel => exact ⟨q - 1, r + N1, ⟨IH.out, hdec, by omega, by omega, by omega⟩, rfl, rfl⟩
                case measure => simp [intOf]; omega
            · have hp := prod_bd (by omega : 0 ≤ q) (by omega) n0a n0b
              obtain ⟨P, hP⟩ : ∃ P, q * N0 = P := ⟨_, rfl⟩
              rw [hP] at hp
              by_cases hc : 4294967296 * r + V0 < P
              · have hdec := D2.out.dec I1.out i2 (Or.inr (by rw [hP]; exact hc))
                have I2 : (q - 1) * N1 + (r + N1) = U2 := by rw [Int.sub_mul]; have := I1.out; omega
                by_cases hr : 4294967296 ≤ r + N1
                · have hQ := D2.out.brk I2 hdec (by omega) hr
                  clear I2
                  go_wp2
                  go_ret2
                  exact ⟨by rw [RE.out]; rfl, rfl⟩
                · skip
                  have IH := Lib.hid I2; clear I2
                  go_wp2
                  go_round
                  case rel => exact ⟨q - 1, r + N1, ⟨IH.out, hdec, by omega, by omega, by omega⟩, rfl, rfl⟩
                  case measure => simp [intOf]; omega
              · obtain rfl : Q0 = q := (D2.out.stop I1.out i2 (by omega)).symm
                go_wp2
                go_ret2
                exact ⟨by rw [RE.out]; rfl, rfl⟩
        · skip
          have IH := Lib.hid I2; clear I2
          go_wp2
          go_round
          case rel => exact ⟨q - 1, r + N1, ⟨IH.out, hdec, by omega, by omega, by omega⟩, rfl, rfl⟩
          case measure => simp [intOf]; omega
      · obtain rfl : Q1 = q := (D1.out.stop I1.out i2 (by omega)).symm
        go_wp2
        go_loop [18, 16] (fun A R => DigAt U2 N1 Q0 A R) (fun A _ => (intOf A).toNat)
        case atStart => exact ⟨U2 / N1, rj, ⟨by rw [hm2]; exact TT1.out, tt2, tt3, tt4, tt5⟩, rfl, rfl⟩
        case round =>
          obtain ⟨q, r, ⟨i1, i2, i3, i4, i5⟩, rfl, rfl⟩ := hrel
          have I1 := Lib.hid i1; clear i1
          by_cases hbig : 4294967296 ≤ q
          · have hdec := D2.out.dec I1.out i2 (Or.inl hbig)
            have I2 : (q - 1) * N1 + (r + N1) = U2 := by rw [Int.sub_mul]; have := I1.out; omega
            by_cases hr : 4294967296 ≤ r + N1
            · have hQ := D2.out.brk I2 hdec (by omega) hr
              clear I2
              go_wp2
              go_ret2
              exact ⟨by rw [RE.out]; rfl, rfl⟩
            · skip
              have IH := Lib.hid I2; clear I2
              go_wp2
              go_round
              case rel => exact ⟨q - 1, r + N1, ⟨IH.out, hdec, by omega, by omega, by omega⟩, rfl, rfl⟩
              case measure => simp [intOf]; omega
          · have hp := prod_bd (by omega : 0 ≤ q) (by omega) n0a n0b
            obtain ⟨P, hP⟩ : ∃ P, q * N0 = P := ⟨_, rfl⟩
            rw [hP] at hp
            by_cases hc : 4294967296 * r + V0 < P
            · have hdec := D2.out.dec I1.out i2 (Or.inr (by rw [hP]; exact hc))
              have I2 : (q - 1) * N1 + (r + N1) = U2 := by rw [Int.sub_mul]; have := I1.out; omega
              by_cases hr : 4294967296 ≤ r + N1
              · have hQ := D2.out.brk I2 hdec (by omega) hr
                clear I2
                go_wp2
                go_ret2
                exact ⟨by rw [RE.out]; rfl, rfl⟩
              · skip
                have IH := Lib.hid I2; clear I2
                go_wp2
                go_round
                case rel => exact ⟨q - 1, r + N1, ⟨IH.out, hdec, by omega, by omega, by omega⟩, rfl, rfl⟩
                case measure => simp [intOf]; omega
            · obtain rfl : Q0 = q := (D2.out.stop I1.out i2 (by omega)).symm
              go_wp2
              go_ret2
              exact ⟨by rw [RE.out]; rfl, rfl⟩
end Go.Proofs.Ytbhgibpocbmipaa
