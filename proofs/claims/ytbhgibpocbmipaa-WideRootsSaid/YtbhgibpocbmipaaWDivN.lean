
/-
  The contract of bits.Div64 by numbers, for a high part that is below the divisor.
-/
import Derived.Test.YtbhgibpocbmipaaWDiv
namespace Go.Proofs.Ytbhgibpocbmipaa
open Go.RowKit DivM

theorem bitLen_bd : ∀ (f x : Nat), x ≠ 0 → x < 2 ^ f → f ≤ 64 → 2 ^ (Lib.bitLen x) ≤ 2 * x ∧ x < 2 ^ (Lib.bitLen x) ∧ Lib.bitLen x ≤ f ∧ 1 ≤ Lib.bitLen x := by
  intro f
  induction f with
  | zero => intro x h0 h1 _; simp at h1; omega
  | succ f ih =>
    intro x h0 h1 hf
    have h64 : x < 2 ^ 64 := Nat.lt_of_lt_of_le h1 (Nat.pow_le_pow_right (by omega) hf)
    have hh := Lib.bitLen_half x h0 h64
    by_cases hx : x / 2 = 0
    · have : x = 1 := by omega
      subst this
      have e : Lib.bitLen 1 = 1 := rfl
      rw [e]; omega
    · obtain ⟨a, b, c, d⟩ := ih (x / 2) hx (by rw [Nat.pow_succ] at h1; omega) (by omega)
      rw [hh, Nat.pow_add]
      omega

theorem and_mask {a : Int} (a0 : 0 ≤ a) (a1 : a ≤ 18446744073709551615) : bits .and .u64 a 4294967295 = a % 4294967296 := by
  obtain ⟨x, rfl⟩ := Int.eq_ofNat_of_zero_le a0
  have h := bits_and_u64_nat x 4294967295 (by omega) (by omega)
  have e : x &&& 4294967295 = x % 4294967296 := Nat.and_two_pow_sub_one_eq_mod x 32
  rw [e] at h
  exact h

/-- What the shifts come to. -/
structure Sh (h l y S T : Int) : Prop where
  s1 : 1 ≤ S
  t1 : 1 ≤ T
  st : T * S = 18446744073709551616
  y0 : 9223372036854775808 ≤ y * S
  y1 : y * S ≤ 18446744073709551615
  h0 : 0 ≤ h
  hy : h < y
  l0 : 0 ≤ l
  l1 : l ≤ 18446744073709551615
theorem Sh.hS {h l y S T : Int} (k : Sh h l y S T) : 0 ≤ h * S ∧ h * S ≤ y * S - S := by
  have h1 := Int.mul_le_mul_of_nonneg_right (show h ≤ y - 1 by have := k.hy; omega) (show 0 ≤ S by have := k.s1; omega)
  rw [Int.sub_mul, Int.one_mul] at h1
  exact ⟨Int.mul_nonneg k.h0 (by have := k.s1; omega), h1⟩
theorem Sh.lT {h l y S T : Int} (k : Sh h l y S T) : 0 ≤ l / T ∧ l / T < S := by
  refine ⟨Int.ediv_nonneg k.l0 (by have := k.t1; omega), ?_⟩
  apply Int.ediv_lt_of_lt_mul (by have := k.t1; omega)
  have := k.st; have := k.l1; rw [Int.mul_comm]; omega
theorem Sh.lS {h l y S T : Int} (k : Sh h l y S T) : l * S = l / T * 18446744073709551616 + l % T * S ∧ 0 ≤ l % T * S ∧ l % T * S ≤ 18446744073709551615 := by
  have e := Int.emod_add_mul_ediv l T
  have e2 : l * S = (l % T + T * (l / T)) * S := by rw [e]
  have hm := Int.emod_nonneg l (show T ≠ 0 by have := k.t1; omega)
  have hl := Int.emod_lt_of_pos l (show 0 < T by have := k.t1; omega)
  have hs := k.s1
  have h1 := Int.mul_le_mul_of_nonneg_right (show l % T ≤ T - 1 by omega) (show 0 ≤ S by omega)
  rw [Int.sub_mul, Int.one_mul, k.st] at h1
  refine ⟨?_, Int.mul_nonneg hm (by omega), by omega⟩
  rw [e2, Int.add_mul, Int.mul_right_comm, k.st, Int.mul_comm 18446744073709551616]; omega
/-- The dividend, shifted. -/
theorem Sh.num {h l y S T : Int} (k : Sh h l y S T) : (h * 18446744073709551616 + l) * S = (h * S + l / T) * 18446744073709551616 + l % T * S := by
  rw [Int.add_mul, Int.mul_right_comm, k.lS.1, Int.add_mul]; omega
theorem Sh.uY {h l y S T : Int} (k : Sh h l y S T) : 0 ≤ h * S + l / T ∧ h * S + l / T < y * S := by
  have := k.hS; have := k.lT; omega

theorem emod_mul_right (a b : Int) {S : Int} (h : 0 < S) : (a * S) % (b * S) = a % b * S := by
  rw [Int.mul_comm a, Int.mul_comm b, Int.mul_emod_mul_of_pos _ _ h, Int.mul_comm]

theorem div64_n {h l y : Int} (h0 : 0 ≤ h) (hy : h < y) (y1 : y ≤ 18446744073709551615) (l0 : 0 ≤ l) (l1 : l ≤ 18446744073709551615) (w : World) (hpos : 0 < h) :
    Calls Try.prog 67 #[.int .u64 h, .int .u64 l, .int .u64 y] w fun e w' =>
      e = .returned (.tuple #[.int .u64 ((h * 18446744073709551616 + l) / y), .int .u64 ((h * 18446744073709551616 + l) % y)]) ∧ w' = w := by
  obtain ⟨yn, rfl⟩ := Int.eq_ofNat_of_zero_le (show 0 ≤ y by omega)
  obtain ⟨b1, b2, b3, b4⟩ := bitLen_bd 64 yn (by omega) (by omega) (by omega)
  generalize hbl : Lib.bitLen yn = n at *
  have hS1 : 1 ≤ 2 ^ (64 - n) := Nat.one_le_two_pow
  have hT1 : 1 ≤ 2 ^ n := Nat.one_le_two_pow
  have hST : 2 ^ n * 2 ^ (64 - n) = 18446744073709551616 := by rw [← Nat.pow_add, show n + (64 - n) = 64 by omega]
  have hy0 : 2 ^ n * 2 ^ (64 - n) ≤ 2 * yn * 2 ^ (64 - n) := Nat.mul_le_mul_right _ b1
  have hy2 : (yn + 1) * 2 ^ (64 - n) ≤ 2 ^ n * 2 ^ (64 - n) := Nat.mul_le_mul_right _ b2
  rw [hST] at hy0 hy2
  rw [Nat.add_mul, Nat.one_mul] at hy2
  rw [Nat.mul_assoc] at hy0
  have k : Sh h l yn (((2 ^ (64 - n) : Nat)) : Int) (((2 ^ n : Nat)) : Int) :=
    ⟨by omega, by omega, by rw [← Int.natCast_mul, hST]; rfl, by rw [← Int.natCast_mul]; omega, by rw [← Int.natCast_mul]; omega, h0, hy, l0, l1⟩
  have es : (64 - (n : Int)).toNat = 64 - n := by omega
  have es2 : (64 - (64 - (n : Int))).toNat = n := by omega
  have eS : (2 : Int) ^ (64 - (n : Int)).toNat = ((2 ^ (64 - n) : Nat) : Int) := by rw [es, Int.natCast_pow]; rfl
  have eT : (2 : Int) ^ (64 - (64 - (n : Int))).toNat = ((2 ^ n : Nat) : Int) := by rw [es2, Int.natCast_pow]; rfl
  have hk : 64 - n ≤ 63 := by omega
  generalize hSd : (((2 ^ (64 - n) : Nat)) : Int) = S at *
  generalize hTd : (((2 ^ n : Nat)) : Int) = T at *
  have hHS := k.hS; have hLT := k.lT; have hLS := k.lS; have hu := k.uY
  have ky0 := k.y0; have ky1 := k.y1; have ks := k.s1
  have hor : bits .or .u64 (h * S) (l / T) = h * S + l / T :=
    or_u64 (64 - n) hSd.symm (Int.mul_emod_left h S) hHS.1 (by omega) hLT.1 hLT.2 (by omega)
  have hyp : 0 < (yn : Int) * S := by omega
  have d1 : Dig (h * S + l / T) (l % T * S / 4294967296) (yn * S) (yn * S / 4294967296) (yn * S % 4294967296) _ :=
    ⟨by omega, by omega, by omega, by omega, by omega, hu.1, hu.2, by omega, by omega, rfl⟩
  have d2 : Dig _ (l % T * S % 4294967296) (yn * S) (yn * S / 4294967296) (yn * S % 4294967296) _ :=
    ⟨by omega, by omega, by omega, by omega, by omega, d1.rest.1, d1.rest.2, by omega, by omega, rfl⟩
  have h2 := two_digits d1 rfl d2
  have hnum := k.num
  rw [show (h * S + l / T) * 18446744073709551616 + (l % T * S / 4294967296 * 4294967296 + l % T * S % 4294967296) = (h * 18446744073709551616 + l) * S by rw [hnum]; omega] at h2
  rw [Int.mul_ediv_mul_of_pos_left _ _ (by omega : 0 < S), emod_mul_right _ _ (by omega : 0 < S)] at h2
  have hw := div64_walk h l yn (64 - n) S T (yn * S) (yn * S / 4294967296) (yn * S % 4294967296) (h * S) (l / T) (h * S + l / T) (l % T * S) (l % T * S / 4294967296) (l % T * S % 4294967296) _ _ _ w
    hpos hy y1 (by omega) (by omega) (by rw [Int.toNat_natCast, hbl]) eS eT (by rw [IntKind.wrap_u64]; omega) rfl (and_mask (by omega) (by omega)) (by rw [IntKind.wrap_u64]; omega) rfl hor
    (by rw [IntKind.wrap_u64]; omega) rfl (and_mask (by omega) (by omega)) d1 rfl d2 (by omega)
  rw [← h2.1, ← h2.2, Int.mul_ediv_cancel _ (by omega : S ≠ 0)] at hw
  exact hw

set_option maxHeartbeats 1000000 in
theorem div64_0 {l y : Int} (hy : 0 < y) (y1 : y ≤ 18446744073709551615) (l0 : 0 ≤ l) (l1 : l ≤ 18446744073709551615) (w : World) :
    Calls Try.prog 67 #[.int .u64 0, .int .u64 l, .int .u64 y] w fun e w' =>
      e = .returned (.tuple #[.int .u64 (l / y), .int .u64 (l % y)]) ∧ w' = w.drew := by
  have e1 : (y == 0) = false := by rw [beq_eq_false_iff_ne]; omega
  have e2 : ¬ y ≤ 0 := by omega
  have e3 : ¬ y = 0 := by omega
  have q0 : 0 ≤ l / y := Int.ediv_nonneg l0 (by omega)
  have q1 : l / y ≤ 18446744073709551615 := Int.le_trans (Int.ediv_le_self _ l0) l1
  have t1 : l.tdiv y = l / y := Int.tdiv_eq_ediv_of_nonneg l0
  have t2 : l.tmod y = l % y := Int.tmod_eq_emod_of_nonneg l0
  have t3 : IntKind.u64.wrap (l / y) = l / y := by rw [IntKind.wrap_u64]; omega
  go_enter Try.func67, Try.ntmps67
  go_wp2
  refine wp_region_held_drew (S := (fun _ => True)) (by kernel_rfl) ?_ (fun hHeld => ?_)
  · trivial
  refine H.take 0 (v := ?_) rfl (by kernel_rfl) (fun _ _ _ h => h) (by rfl) ?_ (by assumption) ?_
  rotate_left
  · (intro wz hSw; (try dsimp only at hSw); go_simp <;> with_reducible rfl)
  try simp only [Act.put, List.setIfInBounds_toArray, List.set_cons_zero, List.set_cons_succ]
  refine H.take 1 (v := ?_) rfl (by kernel_rfl) (fun _ _ _ h => h) (by rfl) ?_ (by assumption) ?_
  rotate_left
  · (intro wz hSw; (try dsimp only at hSw); go_simp <;> with_reducible rfl)
  try simp only [Act.put, List.setIfInBounds_toArray, List.set_cons_zero, List.set_cons_succ]
  refine H.take 2 (v := ?_) rfl (by kernel_rfl) (fun _ _ _ h => h) (by rfl) ?_ (by assumption) ?_
  rotate_left
  · (intro wz hSw; (try dsimp only at hSw); go_simp <;> with_reducible rfl)
  try simp only [Act.put, List.setIfInBounds_toArray, List.set_cons_zero, List.set_cons_succ]
  refine H.take 3 (v := ?_) rfl (by kernel_rfl) (fun _ _ _ h => h) (by rfl) ?_ (by assumption) ?_
  rotate_left
  · (intro wz hSw; (try dsimp only at hSw); go_simp <;> with_reducible rfl)
  try simp only [Act.put, List.setIfInBounds_toArray, List.set_cons_zero, List.set_cons_succ]
  refine H.take 4 (v := ?_) rfl (by kernel_rfl) (fun _ _ _ h => h) (by rfl) ?_ (by assumption) ?_
  rotate_left
  · (intro wz hSw; (try dsimp only at hSw); go_simp <;> with_reducible rfl)
  try simp only [Act.put, List.setIfInBounds_toArray, List.set_cons_zero, List.set_cons_succ]
  refine H.take 5 (v := ?_) rfl (by kernel_rfl) (fun _ _ _ h => h) (by rfl) ?_ (by assumption) ?_
  rotate_left
  · (intro wz hSw; (try dsimp only at hSw); go_simp <;> with_reducible rfl)
  try simp only [Act.put, List.setIfInBounds_toArray, List.set_cons_zero, List.set_cons_succ]
  refine H.take 6 (v := ?_) rfl (by kernel_rfl) (fun _ _ _ h => h) (by rfl) ?_ (by assumption) ?_
  rotate_left
  · (intro wz hSw; (try dsimp only at hSw); go_simp <;> with_reducible rfl)
  try simp only [Act.put, List.setIfInBounds_toArray, List.set_cons_zero, List.set_cons_succ]
  refine H.take 7 (v := ?_) rfl (by kernel_rfl) (fun _ _ _ h => h) (by rfl) ?_ (by assumption) ?_
  rotate_left
  · (intro wz hSw; (try dsimp only at hSw); go_simp <;> with_reducible rfl)
  try simp only [Act.put, List.setIfInBounds_toArray, List.set_cons_zero, List.set_cons_succ]
  refine H.done (by kernel_rfl) ?_ _
  go_wp2
  go_ret2
  exact ⟨rfl, rfl⟩

/-- Whatever the high part is, below the divisor. -/
theorem div64_any {h l y : Int} (h0 : 0 ≤ h) (hy : h < y) (y1 : y ≤ 18446744073709551615) (l0 : 0 ≤ l) (l1 : l ≤ 18446744073709551615) (w : World) :
    Calls Try.prog 67 #[.int .u64 h, .int .u64 l, .int .u64 y] w fun e w' =>
      e = .returned (.tuple #[.int .u64 ((h * 18446744073709551616 + l) / y), .int .u64 ((h * 18446744073709551616 + l) % y)]) ∧ Below w.heap.size w w' := by
  by_cases hp : 0 < h
  · refine (div64_n h0 hy y1 l0 l1 w hp).mono ?_
    rintro e w' ⟨he, rfl⟩; exact ⟨he, Below.refl _ _⟩
  · obtain rfl : 0 = h := by omega
    refine (div64_0 (by omega) y1 l0 l1 w).mono ?_
    rintro e w' ⟨rfl, rfl⟩; exact ⟨by rw [Int.zero_mul, Int.zero_add], (Below.refl _ _).drew⟩
end Go.Proofs.Ytbhgibpocbmipaa
