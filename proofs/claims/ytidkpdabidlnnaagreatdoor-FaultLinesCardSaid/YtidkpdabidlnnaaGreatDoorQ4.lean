/-
  Own texts, merged: WMul DivM WDiv WDivN WDivW WRoot WClip PC TxB TxC TxD TxE TxF TxG HxA HxB HxC HxD HxE PmA PmB PmC FtP FtQ FtR FtS FtT FtU FtV FtW FtX
-/
import Derived.Lib.AppendIntMem
import Derived.Lib.ItoaMem
import Derived.BigCall
import Derived.BigGuard
import Derived.Laws.Concat
import Derived.Lib.OthersKept
import Derived.Laws.RangeAny
import Derived.OwnWalk
import Derived.Deep.AppendLies
import Derived.Deep.RegionLaw
import Derived.Lib.Join
import Derived.Deep.RegionWith
import Derived.Shelf.Strings.SlTrimAscii
import Derived.Test.YtidkpdabidlnnaaGreatDoorQ3


/-
  Contracts of package wide: Mul, Scale.
-/

namespace Go.Proofs.YtidkpdabidlnnaaGreatDoor

set_option maxRecDepth 100000

open Go.RowKit

theorem mul_bd {x y : Int} (x0 : 0 ≤ x) (x1 : x ≤ 9223372036854775808) (y0 : 0 ≤ y) (y1 : y ≤ 9223372036854775808) : 0 ≤ x * y ∧ x * y ≤ 85070591730234615865843651857942052864 := by
  refine ⟨Int.mul_nonneg x0 y0, ?_⟩
  have := Int.mul_le_mul x1 y1 y0 (by omega)
  exact this
theorem sgn_mul {a b : Int} (a0 : -9223372036854775808 ≤ a) (a1 : a ≤ 9223372036854775807) (b0 : -9223372036854775808 ≤ b) (b1 : b ≤ 9223372036854775807) :
    clamp (sgn (decide (a < 0) != decide (b < 0)) (sz a * sz b)) = a * b := by
  rcases (by omega : a < 0 ∨ 0 ≤ a) with ha | ha <;> rcases (by omega : b < 0 ∨ 0 ≤ b) with hb | hb
  · have h := mul_bd (x := -a) (y := -b) (by omega) (by omega) (by omega) (by omega)
    rw [sz_neg ha, sz_neg hb, decide_eq_true ha, decide_eq_true hb, Int.neg_mul_neg] at *
    simp only [bne_self_eq_false, sgn, Bool.false_eq_true, if_false]
    exact clamp_of (by unfold InR; omega)
  · have h := mul_bd (x := -a) (y := b) (by omega) (by omega) (by omega) (by omega)
    rw [sz_neg ha, sz_pos hb, decide_eq_true ha, decide_eq_false (by omega)]
    rw [Int.neg_mul] at *
    simp only [sgn, bne, Bool.true_beq, Bool.not_false, if_true, Int.neg_neg]
    exact clamp_of (by unfold InR; omega)
  · have h := mul_bd (x := a) (y := -b) (by omega) (by omega) (by omega) (by omega)
    rw [sz_pos ha, sz_neg hb, decide_eq_false (by omega), decide_eq_true hb]
    rw [Int.mul_neg] at *
    simp only [sgn, bne, Bool.false_beq, Bool.not_true, Bool.not_false, if_true, Int.neg_neg]
    exact clamp_of (by unfold InR; omega)
  · have h := mul_bd (x := a) (y := b) (by omega) (by omega) (by omega) (by omega)
    rw [sz_pos ha, sz_pos hb, decide_eq_false (by omega), decide_eq_false (by omega)]
    simp only [bne_self_eq_false, sgn, Bool.false_eq_true, if_false]
    exact clamp_of (by unfold InR; omega)

/-- A size times a number of 32 bits, in two words. -/
theorem scale_parts (H L n A B C D : Int) (hA : A = hi (L * n)) (hB : B = lo (L * n)) (hC : C = hi (H * n)) (hD : D = lo (H * n)) :
    (H * 18446744073709551616 + L) * n = (C * 18446744073709551616 + D + A) * 18446744073709551616 + B := by
  have h1 := hilo (L * n); have h2 := hilo (H * n)
  rw [← hA, ← hB] at h1; rw [← hC, ← hD] at h2
  rw [Int.add_mul, Int.mul_right_comm, ← h1, ← h2]; omega

theorem sgn_scale (n k : Int) : sgn (decide (n < 0)) (sz n * k) = n * k := by
  rcases (by omega : n < 0 ∨ 0 ≤ n) with h | h
  · rw [sz_neg h, decide_eq_true h]; simp only [sgn, if_true]; rw [Int.neg_mul, Int.neg_neg]
  · rw [sz_pos h, decide_eq_false (by omega)]; simp only [sgn, Bool.false_eq_true, if_false]

set_option maxHeartbeats 1000000 in
theorem scale_any {n : Int} {k : Int} (hn : InR n) (k0 : 0 ≤ k) (k1 : k ≤ 4294967295) (w : World) :
    Calls Tryz.prog 76 #[.agg #[.int .i64 (hi n), .int .u64 (lo n)], .int .u32 k] w fun e w' =>
      e = .returned (.agg #[.int .i64 (hi (clamp (n * k))), .int .u64 (lo (clamp (n * k)))]) ∧ Below w.heap.size w w' := by
  have hs := sz_bd hn
  have lb := lo_bd (sz n)
  have hb0 : 0 ≤ hi (sz n) := hi_nn hs.1
  have hb1 : hi (sz n) ≤ 9223372036854775808 := hi_le hs.2
  have eN : IntKind.u64.wrap k = k := by rw [IntKind.wrap_u64]; omega
  have ma := fun w => magnitude_n hn w
  have m1 := fun w => mul64_i (lo (sz n)) k lb.1 lb.2 k0 (by omega) w
  have m2 := fun w => mul64_i (hi (sz n)) k hb0 (by omega) k0 (by omega) w
  have hp := scale_parts (hi (sz n)) (lo (sz n)) k _ _ _ _ rfl rfl rfl rfl
  rw [hilo] at hp
  have a1 := lo_bd (lo (sz n) * k); have a2 := lo_bd (hi (sz n) * k)
  have a3 : 0 ≤ hi (lo (sz n) * k) := hi_nn (Int.mul_nonneg lb.1 k0)
  have a4 : hi (lo (sz n) * k) ≤ 4294967295 := by have := hi_le (Int.mul_le_mul lb.2 k1 k0 (by omega)); omega
  have a5 : 0 ≤ hi (hi (sz n) * k) := hi_nn (Int.mul_nonneg hb0 k0)
  have a6 : hi (hi (sz n) * k) ≤ 4294967295 := by have := hi_le (Int.mul_le_mul hb1 k1 k0 (by omega)); omega
  generalize hi (lo (sz n) * k) = A at *
  generalize lo (lo (sz n) * k) = B at *
  generalize hi (hi (sz n) * k) = C at *
  generalize lo (hi (sz n) * k) = D at *
  have hadd := fun w => run_add64 D A 0 a2.1 a3 (by omega) (by omega) w
  have q1 := fun (w' : World) (h : Blk w' w.heap.size #[.int .i64 (hi n), .int .u64 (lo n)] 125) => h.two
  have q2 := fun (w' : World) (h : Blk w' (w.heap.size + 1) #[.int .i64 0, .int .u64 0] 125) => h.two
  have q3 := fun (w' : World) (h : Blk w' (w.heap.size + 1) #[.int .i64 0, .int .u64 0] 125) => h.free0
  have MA := Lib.hid ma; have M1 := Lib.hid m1; have M2 := Lib.hid m2; have HP := Lib.hid hp
  clear ma m1 m2 hp
  rcases (by omega : C + (D + A) / 18446744073709551616 = 0 ∨ 0 < C + (D + A) / 18446744073709551616) with hfit | hfit
  · have hres : clamp (sgn (decide (n < 0)) ((D + A) % 18446744073709551616 * 18446744073709551616 + B)) = clamp (n * k) := by
      rw [← sgn_scale n k, HP.out]; congr 2; omega
    have hs := fun (b : Nat) (w : World) (g : Blk w b #[.bool (decide (n < 0))] 4) => signed_any (decide (n < 0)) (x := (D + A) % 18446744073709551616) (y := B) (by omega) (by omega) a1.1 a1.2 g
    rw [hres] at hs; clear hres
    have HS := Lib.hid hs; clear hs
    have e0 : C = 0 := by omega
    have e1 : (D + A) / 18446744073709551616 = 0 := by omega
    subst e0; clear hfit
    go_enter Tryz.func76, Tryz.ntmps76
    go_wp2_with (first | (go_at_call 95; refine (MA.out _).mono ?_; rintro e w1 ⟨rfl, hb1⟩; have g := Blk.keep hb1 (Blk.new (b := w.heap.size + 1) (T := 125) (by simp)); have gA := Blk.keep hb1 (Blk.old (Blk.new (b := w.heap.size) (T := 125) rfl) _); have gB := (((Below.refl w.heap.size w).alloc (Nat.le_refl _) _).alloc (by simp) _).trans (hb1.mono (by simp; omega))) | (go_at_call 96; (first | ((with_reducible refine (M1.out _).mono ?_); rintro e w1 ⟨rfl, rfl⟩) | ((with_reducible refine (M2.out _).mono ?_); rintro e w1 ⟨rfl, rfl⟩))) | (go_at_call 78; refine (negative_n _ _).mono ?_; rintro e w1 ⟨rfl, hb1⟩; replace g := Blk.keep hb1 g; replace gA := Blk.keep hb1 gA; replace gB := gB.trans (hb1.mono gB.size)) | (go_at_call 97; refine (signer_any _ _).mono ?_; rintro e w1 ⟨rfl, rfl⟩; replace g := Blk.old g (.cells #[.bool (decide (n < 0))] 4); replace gB := gB.alloc gB.size (.cells #[.bool (decide (n < 0))] 4)))
    refine (HS.out _ _ (Blk.new rfl)).mono ?_
    rintro e w1 ⟨rfl, hb1⟩; replace g := Blk.keep hb1 g; replace gB := gB.trans (hb1.mono gB.size)
    go_wp2
    have hfin := (g.put (i := 0) (.int .i64 (hi (clamp (n * k))))).put (i := 1) (.int .u64 (lo (clamp (n * k))))
    exact bodyPost_ret (v := .agg #[.int .i64 (hi (clamp (n * k))), .int .u64 (lo (clamp (n * k)))]) (by simp [results, Tryz.results76, go_sem, (show Blk _ _ #[.int .i64 (hi (clamp (n * k))), .int .u64 (lo (clamp (n * k)))] _ from hfin).two]) rfl ⟨rfl, (gB.setCell (by simp) _).setCell (by simp) _⟩
  · have hbig : 340282366920938463463374607431768211456 ≤ sz n * k := by rw [HP.out]; omega
    have e1 : ((C + (D + A) / 18446744073709551616) != 0) = true := by rw [bne_iff_ne]; omega
    have e2 : ((C + (D + A) / 18446744073709551616) == 0) = false := by rw [beq_eq_false_iff_ne]; omega
    rcases (by omega : n < 0 ∨ ¬ n < 0) with hneg | hneg
    · have hd := decide_eq_true hneg
      have hr : clamp (n * k) = -170141183460469231731687303715884105728 := by
        have := sgn_scale n k; rw [hd] at this; simp only [sgn, if_true] at this
        unfold clamp; rw [if_pos (by omega)]
      rw [hr]; clear hr
      go_enter Tryz.func76, Tryz.ntmps76
      go_wp2_with (first | (go_at_call 95; refine (MA.out _).mono ?_; rintro e w1 ⟨rfl, hb1⟩; have g := Blk.keep hb1 (Blk.new (b := w.heap.size + 1) (T := 125) (by simp)); have gA := Blk.keep hb1 (Blk.old (Blk.new (b := w.heap.size) (T := 125) rfl) _); have gB := (((Below.refl w.heap.size w).alloc (Nat.le_refl _) _).alloc (by simp) _).trans (hb1.mono (by simp; omega))) | (go_at_call 96; (first | ((with_reducible refine (M1.out _).mono ?_); rintro e w1 ⟨rfl, rfl⟩) | ((with_reducible refine (M2.out _).mono ?_); rintro e w1 ⟨rfl, rfl⟩))) | (go_at_call 78; refine (negative_n _ _).mono ?_; rintro e w1 ⟨rfl, hb1⟩; replace g := Blk.keep hb1 g; replace gA := Blk.keep hb1 gA; replace gB := gB.trans (hb1.mono gB.size)) | (go_at_call 94; refine (bound_low _).mono ?_; rintro e w1 ⟨rfl, hb1⟩; replace g := Blk.keep hb1 g; replace gB := gB.trans (hb1.mono gB.size)))
      have hfin := (g.put (i := 0) (.int .i64 (-9223372036854775808))).put (i := 1) (.int .u64 0)
      exact bodyPost_ret (v := .agg #[.int .i64 (-9223372036854775808), .int .u64 0]) (by simp [results, Tryz.results76, go_sem, (show Blk _ _ #[.int .i64 (-9223372036854775808), .int .u64 0] _ from hfin).two]) rfl ⟨(ret_w (by decide) (by decide)), (gB.setCell (by simp) _).setCell (by simp) _⟩
    · have hd := decide_eq_false hneg
      have hr : clamp (n * k) = 170141183460469231731687303715884105727 := by
        have := sgn_scale n k; rw [hd] at this; simp only [sgn, Bool.false_eq_true, if_false] at this
        unfold clamp; rw [if_neg (by omega), if_pos (by omega)]
      rw [hr]; clear hr
      go_enter Tryz.func76, Tryz.ntmps76
      go_wp2_with (first | (go_at_call 95; refine (MA.out _).mono ?_; rintro e w1 ⟨rfl, hb1⟩; have g := Blk.keep hb1 (Blk.new (b := w.heap.size + 1) (T := 125) (by simp)); have gA := Blk.keep hb1 (Blk.old (Blk.new (b := w.heap.size) (T := 125) rfl) _); have gB := (((Below.refl w.heap.size w).alloc (Nat.le_refl _) _).alloc (by simp) _).trans (hb1.mono (by simp; omega))) | (go_at_call 96; (first | ((with_reducible refine (M1.out _).mono ?_); rintro e w1 ⟨rfl, rfl⟩) | ((with_reducible refine (M2.out _).mono ?_); rintro e w1 ⟨rfl, rfl⟩))) | (go_at_call 78; refine (negative_n _ _).mono ?_; rintro e w1 ⟨rfl, hb1⟩; replace g := Blk.keep hb1 g; replace gA := Blk.keep hb1 gA; replace gB := gB.trans (hb1.mono gB.size)) | (go_at_call 94; refine (bound_high _).mono ?_; rintro e w1 ⟨rfl, hb1⟩; replace g := Blk.keep hb1 g; replace gB := gB.trans (hb1.mono gB.size)))
      have hfin := (g.put (i := 0) (.int .i64 9223372036854775807)).put (i := 1) (.int .u64 18446744073709551615)
      exact bodyPost_ret (v := .agg #[.int .i64 9223372036854775807, .int .u64 18446744073709551615]) (by simp [results, Tryz.results76, go_sem, (show Blk _ _ #[.int .i64 9223372036854775807, .int .u64 18446744073709551615] _ from hfin).two]) rfl ⟨(ret_w (by decide) (by decide)), (gB.setCell (by simp) _).setCell (by simp) _⟩
end Go.Proofs.YtidkpdabidlnnaaGreatDoor


/-
  Plain arithmetic of a long division by two digits of 32 bits. No program is named here.
-/
namespace Go.Proofs.YtidkpdabidlnnaaGreatDoor.DivM

/-- One digit's setting: Y is N1, N0; U is below Y; Q is the digit. -/
structure Dig (U V Y N1 N0 Q : Int) : Prop where
  y : Y = N1 * 4294967296 + N0
  n1 : 2147483648 ≤ N1
  n1' : N1 ≤ 4294967295
  n0 : 0 ≤ N0
  n0' : N0 ≤ 4294967295
  u0 : 0 ≤ U
  u : U < Y
  v0 : 0 ≤ V
  v : V ≤ 4294967295
  q : Q = (U * 4294967296 + V) / Y

theorem Dig.ypos {U V Y N1 N0 Q : Int} (d : Dig U V Y N1 N0 Q) : 0 < Y := by have := d.y; have := d.n1; have := d.n0; omega
theorem Dig.low {U V Y N1 N0 Q : Int} (d : Dig U V Y N1 N0 Q) : Q * Y ≤ U * 4294967296 + V := by
  rw [d.q]; exact Int.ediv_mul_le _ (by have := d.ypos; omega)
theorem Dig.high {U V Y N1 N0 Q : Int} (d : Dig U V Y N1 N0 Q) : U * 4294967296 + V < Q * Y + Y := by
  have h := Int.lt_ediv_add_one_mul_self (U * 4294967296 + V) d.ypos
  rw [← d.q] at h; rw [Int.add_mul, Int.one_mul] at h; exact h
theorem Dig.q0 {U V Y N1 N0 Q : Int} (d : Dig U V Y N1 N0 Q) : 0 ≤ Q := by
  rw [d.q]; exact Int.ediv_nonneg (by have := d.u0; have := d.v0; omega) (by have := d.ypos; omega)
theorem Dig.qlt {U V Y N1 N0 Q : Int} (d : Dig U V Y N1 N0 Q) : Q ≤ 4294967295 := by
  have h : Q < 4294967296 := by
    rw [d.q]; apply Int.ediv_lt_of_lt_mul d.ypos
    have := d.u; have := d.v; have := d.v0; rw [Int.mul_comm]; omega
  omega
theorem Dig.mulY {U V Y N1 N0 Q : Int} (d : Dig U V Y N1 N0 Q) (q : Int) : q * Y = q * N1 * 4294967296 + q * N0 := by
  rw [d.y, Int.mul_add, Int.mul_assoc]
theorem Dig.dec {U V Y N1 N0 Q q r : Int} (d : Dig U V Y N1 N0 Q) (h : q * N1 + r = U) (hq : Q ≤ q) (hc : 4294967296 ≤ q ∨ 4294967296 * r + V < q * N0) : Q ≤ q - 1 := by
  rcases hc with hc | hc
  · have := d.qlt; omega
  · have h1 := d.mulY q
    have h2 := d.low
    have h3 : Q * Y < q * Y := by omega
    have : Q < q := Int.lt_of_mul_lt_mul_right h3 (by have := d.ypos; omega)
    omega
theorem Dig.stop {U V Y N1 N0 Q q r : Int} (d : Dig U V Y N1 N0 Q) (h : q * N1 + r = U) (hq : Q ≤ q) (hc : q * N0 ≤ 4294967296 * r + V) : q = Q := by
  have h1 := d.mulY q
  have h2 := d.high
  have h3 : q * Y < (Q + 1) * Y := by rw [Int.add_mul, Int.one_mul]; omega
  have : q < Q + 1 := Int.lt_of_mul_lt_mul_right h3 (by have := d.ypos; omega)
  omega
theorem Dig.brk {U V Y N1 N0 Q q r : Int} (d : Dig U V Y N1 N0 Q) (h : q * N1 + r = U) (hq : Q ≤ q) (hb : q ≤ 4294967296) (hr : 4294967296 ≤ r) : q = Q := by
  refine d.stop h hq ?_
  have h1 : q * N0 ≤ 4294967296 * N0 := Int.mul_le_mul_of_nonneg_right hb d.n0
  have := d.n0'; have := d.v0; omega
theorem Dig.start {U V Y N1 N0 Q : Int} (d : Dig U V Y N1 N0 Q) : U / N1 * N1 + U % N1 = U ∧ Q ≤ U / N1 ∧ U / N1 ≤ 4294967297 ∧ 0 ≤ U % N1 ∧ U % N1 ≤ 4294967295 ∧ 0 ≤ U / N1 := by
  have hp : 0 < N1 := by have := d.n1; omega
  have h1 := Int.emod_add_mul_ediv U N1
  have h2 := Int.emod_nonneg U (by omega : N1 ≠ 0)
  have h3 := Int.emod_lt_of_pos U hp
  have h4 := d.n1'
  have h5 : U / N1 * N1 + U % N1 = U := by rw [Int.mul_comm]; omega
  refine ⟨h5, ?_, ?_, h2, by omega, Int.ediv_nonneg d.u0 (by omega)⟩
  · apply Int.le_ediv_of_mul_le hp
    have ha := d.low; have hb := d.mulY Q
    have hc : 0 ≤ Q * N0 := Int.mul_nonneg d.q0 d.n0
    have := d.v; omega
  · have : U / N1 < 4294967298 := by
      apply Int.ediv_lt_of_lt_mul hp
      have := d.u; have := d.y; have := d.n0'; have := d.n1; omega
    omega
/-- What is left behind the digit. -/
theorem Dig.rest {U V Y N1 N0 Q : Int} (d : Dig U V Y N1 N0 Q) : 0 ≤ U * 4294967296 + V - Q * Y ∧ U * 4294967296 + V - Q * Y < Y := by
  have := d.low; have := d.high; omega

/-- Both digits together. -/
theorem two_digits {U V1 V0 Y N1 N0 Q1 Q0 U2 : Int} (d1 : Dig U V1 Y N1 N0 Q1) (hU : U2 = U * 4294967296 + V1 - Q1 * Y) (d2 : Dig U2 V0 Y N1 N0 Q0) :
    (U * 18446744073709551616 + (V1 * 4294967296 + V0)) / Y = Q1 * 4294967296 + Q0 ∧ (U * 18446744073709551616 + (V1 * 4294967296 + V0)) % Y = U2 * 4294967296 + V0 - Q0 * Y := by
  have hr := d2.rest
  have e : U * 18446744073709551616 + (V1 * 4294967296 + V0) = (U2 * 4294967296 + V0 - Q0 * Y) + Y * (Q1 * 4294967296 + Q0) := by
    rw [Int.mul_add, ← Int.mul_assoc, Int.mul_comm Y Q1, Int.mul_comm Y Q0, hU]; omega
  rw [e]
  have hp := d1.ypos
  constructor
  · rw [Int.add_mul_ediv_left _ _ (by omega : Y ≠ 0), Int.ediv_eq_zero_of_lt hr.1 hr.2]; omega
  · rw [Int.add_mul_emod_self_left]; exact Int.emod_eq_of_lt hr.1 hr.2
end Go.Proofs.YtidkpdabidlnnaaGreatDoor.DivM


/-
  The contract of bits.Div64: the walk, over the numbers that its own text makes.
-/


namespace Go.Proofs.YtidkpdabidlnnaaGreatDoor

set_option maxRecDepth 100000

open Go.RowKit DivM

/-- At the head of either loop: the digit is not above q, and q times N1, with r, is U. -/
def DigAt (U N1 Q : Int) (A R : Value) : Prop := ∃ q r : Int, (q * N1 + r = U ∧ Q ≤ q ∧ q ≤ 4294967297 ∧ 0 ≤ r ∧ r ≤ 4294967295) ∧ A = .int .u64 q ∧ R = .int .u64 r

theorem prod_bd {q N0 : Int} (q0 : 0 ≤ q) (q1 : q ≤ 4294967295) (n0 : 0 ≤ N0) (n1 : N0 ≤ 4294967295) : 0 ≤ q * N0 ∧ q * N0 ≤ 18446744065119617025 :=
  ⟨Int.mul_nonneg q0 n0, Int.mul_le_mul q1 n1 n0 (by omega)⟩

set_option maxRecDepth 100000 in
set_option maxHeartbeats 8000000 in
theorem div64_walk (h l y s S T Y N1 N0 HS LT U V V1 V0 Q1 U2 Q0 : Int) (w : World)
    (h0 : 0 < h) (hy : h < y) (y1 : y ≤ 18446744073709551615) (s0 : 0 ≤ s) (s1 : s ≤ 63)
    (hs : 64 - (Lib.bitLen y.toNat : Int) = s) (eS : (2 : Int) ^ s.toNat = S) (eT : (2 : Int) ^ (64 - s).toNat = T)
    (eY : IntKind.u64.wrap (y * S) = Y) (eN1 : Y / 4294967296 = N1) (eN0 : bits .and .u64 Y 4294967295 = N0)
    (eH : IntKind.u64.wrap (h * S) = HS) (eL : l / T = LT) (eU : bits .or .u64 HS LT = U)
    (eV : IntKind.u64.wrap (l * S) = V) (eV1 : V / 4294967296 = V1) (eV0 : bits .and .u64 V 4294967295 = V0)
    (d1 : Dig U V1 Y N1 N0 Q1) (hU2 : U2 = U * 4294967296 + V1 - Q1 * Y) (d2 : Dig U2 V0 Y N1 N0 Q0) (yy : Y ≤ 18446744073709551615) :
    Calls Tryz.prog 111 #[.int .u64 h, .int .u64 l, .int .u64 y] w fun e w' =>
      e = .returned (.tuple #[.int .u64 (Q1 * 4294967296 + Q0), .int .u64 ((U2 * 4294967296 + V0 - Q0 * Y) / S)]) ∧ w' = w := by
  have e1 : (y == 0) = false := by rw [beq_eq_false_iff_ne]; omega
  have e2 : (h == 0) = false := by rw [beq_eq_false_iff_ne]; omega
  have e3 : ¬ y ≤ h := by omega
  have lz := fun w => Tryz.bits_LeadingZeros64 y w (by omega) y1
  rw [hs] at lz
  have LZ := Lib.hid lz; clear lz hs
  obtain ⟨st1, st2, st3, st4, st5, st6⟩ := d1.start
  have n1a := d1.n1; have n1b := d1.n1'; have n0a := d1.n0; have n0b := d1.n0'; have ua := d1.u0; have ub : U ≤ 18446744073709551615 := by have := d1.u; omega
  have u2a := d2.u0; have u2b : U2 ≤ 18446744073709551615 := by have := d2.u; omega
  have v1a := d1.v0; have v1b := d1.v; have v0a := d2.v0; have v0b := d2.v
  have qa := d1.q0; have qb := d1.qlt; have q0a := d2.q0; have q0b := d2.qlt
  have yp := d1.ypos
  have nz : (N1 == 0) = false := by rw [beq_eq_false_iff_ne]; omega
  have nz2 : ¬ N1 = 0 := by omega
  obtain ⟨tt1, tt2, tt3, tt4, tt5, tt6⟩ := d2.start
  have D1 := Lib.hid d1; have D2 := Lib.hid d2; have HU2 := Lib.hid hU2
  have ST1 := Lib.hid st1; have TT1 := Lib.hid tt1
  have er1 : U - U / N1 * N1 = U % N1 := by omega
  have er2 : U2 - U2 / N1 * N1 = U2 % N1 := by omega
  have bq1 : 0 ≤ U / N1 * N1 := Int.mul_nonneg st6 (by omega)
  have bq2 : U / N1 * N1 ≤ 18446744073709551615 := by omega
  have bq3 : 0 ≤ U2 / N1 * N1 := Int.mul_nonneg tt6 (by omega)
  have bq4 : U2 / N1 * N1 ≤ 18446744073709551615 := by omega
  clear d1 d2 hU2 st1 tt1
  generalize hr1 : U % N1 = ri at *
  generalize hr2 : U2 % N1 = rj at *
  generalize hm1 : U / N1 * N1 = QN at *
  generalize hm2 : U2 / N1 * N1 = QM at *
  obtain ⟨W1, w1e⟩ : ∃ W1, IntKind.u64.wrap (U * 4294967296) = W1 := ⟨_, rfl⟩
  obtain ⟨W2, w2e⟩ : ∃ W2, IntKind.u64.wrap (Q1 * Y) = W2 := ⟨_, rfl⟩
  obtain ⟨W3, w3e⟩ : ∃ W3, IntKind.u64.wrap (W1 + V1) = W3 := ⟨_, rfl⟩
  obtain ⟨X1, x1e⟩ : ∃ X1, IntKind.u64.wrap (U2 * 4294967296) = X1 := ⟨_, rfl⟩
  obtain ⟨X2, x2e⟩ : ∃ X2, IntKind.u64.wrap (Q0 * Y) = X2 := ⟨_, rfl⟩
  obtain ⟨X3, x3e⟩ : ∃ X3, IntKind.u64.wrap (X1 + V0) = X3 := ⟨_, rfl⟩
  obtain ⟨R, rE⟩ : ∃ R, U2 * 4294967296 + V0 - Q0 * Y = R := ⟨_, rfl⟩
  have hrest := D2.out.rest
  have w4e : IntKind.u64.wrap (W3 - W2) = U2 := by simp only [IntKind.wrap_u64] at *; have := HU2.out; omega
  have x4e : IntKind.u64.wrap (X3 - X2) = R := by simp only [IntKind.wrap_u64] at *; omega
  have rb : 0 ≤ R := by omega
  have rb2 : R ≤ 18446744073709551615 := by omega
  have RE := Lib.hid rE; clear rE hrest
  go_enter Tryz.func111, Tryz.ntmps111
  go_wp2_with (go_at_call 122; refine (LZ.out _).mono ?_; rintro e w1 ⟨rfl, hw1⟩; rw [hw1]; clear hw1)
  go_loop [15, 16] (fun A R => DigAt U N1 Q1 A R) (fun A _ => (intOf A).toNat)
  case atStart => exact ⟨U / N1, ri, ⟨by rw [hm1]; exact ST1.out, st2, st3, st4, st5⟩, rfl, rfl⟩
  case round =>
    obtain ⟨q, r, ⟨i1, i2, i3, i4, i5⟩, rfl, rfl⟩ := hrel
    have I1 := Lib.hid i1; clear i1
    by_cases hbig : 4294967296 ≤ q
    · have hdec := D1.out.dec I1.out i2 (Or.inl hbig)
      have I2 : (q - 1) * N1 + (r + N1) = U := by rw [Int.sub_mul]; have := I1.out; omega
      by_cases hr : 4294967296 ≤ r + N1
      · have hQ := D1.out.brk I2 hdec (by omega) hr
        clear I2
        go_wp2
        go_loop [18, 16] (fun A R => DigAt U2 N1 Q0 A R) (fun A _ => (intOf A).toNat)
        case atStart => exact ⟨U2 / N1, rj, ⟨by rw [hm2]; exact TT1.out, tt2, tt3, tt4, tt5⟩, rfl, rfl⟩
        case round =>
          obtain ⟨q, r, ⟨i1, i2, i3, i4, i5⟩, rfl, rfl⟩ := hrel
          have I1 := Lib.hid i1; clear i1
          by_cases hbig : 4294967296 ≤ q
          · have hdec := D2.out.dec I1.out i2 (Or.inl hbig)
            have I2 : (q - 1) * N1 + (r + N1) = U2 := by rw [Int.sub_mul]; have := I1.out; omega
            by_cases hr : 4294967296 ≤ r + N1
            · have hQ := D2.out.brk I2 hdec (by omega) hr
              clear I2
              go_wp2
              go_ret2
              exact ⟨by rw [RE.out]; rfl, rfl⟩
            · skip
              have IH := Lib.hid I2; clear I2
              go_wp2
              go_round
              case rel => exact ⟨q - 1, r + N1, ⟨IH.out, hdec, by omega, by omega, by omega⟩, rfl, rfl⟩
              case measure => simp [intOf]; omega
          · have hp := prod_bd (by omega : 0 ≤ q) (by omega) n0a n0b
            obtain ⟨P, hP⟩ : ∃ P, q * N0 = P := ⟨_, rfl⟩
            rw [hP] at hp
            by_cases hc : 4294967296 * r + V0 < P
            · have hdec := D2.out.dec I1.out i2 (Or.inr (by rw [hP]; exact hc))
              have I2 : (q - 1) * N1 + (r + N1) = U2 := by rw [Int.sub_mul]; have := I1.out; omega
              by_cases hr : 4294967296 ≤ r + N1
              · have hQ := D2.out.brk I2 hdec (by omega) hr
                clear I2
                go_wp2
                go_ret2
                exact ⟨by rw [RE.out]; rfl, rfl⟩
              · skip
                have IH := Lib.hid I2; clear I2
                go_wp2
                go_round
                case rel => exact ⟨q - 1, r + N1, ⟨IH.out, hdec, by omega, by omega, by omega⟩, rfl, rfl⟩
                case measure => simp [intOf]; omega
            · obtain rfl : Q0 = q := (D2.out.stop I1.out i2 (by omega)).symm
              go_wp2
              go_ret2
              exact ⟨by rw [RE.out]; rfl, rfl⟩
      · skip
        have IH := Lib.hid I2; clear I2
        go_wp2
        go_round
        case rel => exact ⟨q - 1, r + N1, ⟨IH.out, hdec, by omega, by omega, by omega⟩, rfl, rfl⟩
        case measure => simp [intOf]; omega
    · have hp := prod_bd (by omega : 0 ≤ q) (by omega) n0a n0b
      obtain ⟨P, hP⟩ : ∃ P, q * N0 = P := ⟨_, rfl⟩
      rw [hP] at hp
      by_cases hc : 4294967296 * r + V1 < P
      · have hdec := D1.out.dec I1.out i2 (Or.inr (by rw [hP]; exact hc))
        have I2 : (q - 1) * N1 + (r + N1) = U := by rw [Int.sub_mul]; have := I1.out; omega
        by_cases hr : 4294967296 ≤ r + N1
        · have hQ := D1.out.brk I2 hdec (by omega) hr
          clear I2
          go_wp2
          go_loop [18, 16] (fun A R => DigAt U2 N1 Q0 A R) (fun A _ => (intOf A).toNat)
          case atStart => exact ⟨U2 / N1, rj, ⟨by rw [hm2]; exact TT1.out, tt2, tt3, tt4, tt5⟩, rfl, rfl⟩
          case round =>
            obtain ⟨q, r, ⟨i1, i2, i3, i4, i5⟩, rfl, rfl⟩ := hrel
            have I1 := Lib.hid i1; clear i1
            by_cases hbig : 4294967296 ≤ q
            · have hdec := D2.out.dec I1.out i2 (Or.inl hbig)
              have I2 : (q - 1) * N1 + (r + N1) = U2 := by rw [Int.sub_mul]; have := I1.out; omega
              by_cases hr : 4294967296 ≤ r + N1
              · have hQ := D2.out.brk I2 hdec (by omega) hr
                clear I2
                go_wp2
                go_ret2
                exact ⟨by rw [RE.out]; rfl, rfl⟩
              · skip
                have IH := Lib.hid I2; clear I2
                go_wp2
                go_round
                case rel => exact ⟨q - 1, r + N1, ⟨IH.out, hdec, by omega, by omega, by omega⟩, rfl, rfl⟩
                case measure => simp [intOf]; omega
            · have hp := prod_bd (by omega : 0 ≤ q) (by omega) n0a n0b
              obtain ⟨P, hP⟩ : ∃ P, q * N0 = P := ⟨_, rfl⟩
              rw [hP] at hp
              by_cases hc : 4294967296 * r + V0 < P
              · have hdec := D2.out.dec I1.out i2 (Or.inr (by rw [hP]; exact hc))
                have I2 : (q - 1) * N1 + (r + N1) = U2 := by rw [Int.sub_mul]; have := I1.out; omega
                by_cases hr : 4294967296 ≤ r + N1
                · have hQ := D2.out.brk I2 hdec (by omega) hr
                  clear I2
                  go_wp2
                  go_ret2
                  exact ⟨by rw [RE.out]; rfl, rfl⟩
                · skip
                  have IH := Lib.hid I2; clear I2
                  go_wp2
                  go_round
                  case rel => exact ⟨q - 1, r + N1, ⟨IH.out, hdec, by omega, by omega, by omega⟩, rfl, rfl⟩
                  case measure => simp [intOf]; omega
              · obtain rfl : Q0 = q := (D2.out.stop I1.out i2 (by omega)).symm
                go_wp2
                go_ret2
                exact ⟨by rw [RE.out]; rfl, rfl⟩
        · skip
          have IH := Lib.hid I2; clear I2
          go_wp2
          go_round
          case rel => exact ⟨q - 1, r + N1, ⟨IH.out, hdec, by omega, by omega, by omega⟩, rfl, rfl⟩
          case measure => simp [intOf]; omega
      · obtain rfl : Q1 = q := (D1.out.stop I1.out i2 (by omega)).symm
        go_wp2
        go_loop [18, 16] (fun A R => DigAt U2 N1 Q0 A R) (fun A _ => (intOf A).toNat)
        case atStart => exact ⟨U2 / N1, rj, ⟨by rw [hm2]; exact TT1.out, tt2, tt3, tt4, tt5⟩, rfl, rfl⟩
        case round =>
          obtain ⟨q, r, ⟨i1, i2, i3, i4, i5⟩, rfl, rfl⟩ := hrel
          have I1 := Lib.hid i1; clear i1
          by_cases hbig : 4294967296 ≤ q
          · have hdec := D2.out.dec I1.out i2 (Or.inl hbig)
            have I2 : (q - 1) * N1 + (r + N1) = U2 := by rw [Int.sub_mul]; have := I1.out; omega
            by_cases hr : 4294967296 ≤ r + N1
            · have hQ := D2.out.brk I2 hdec (by omega) hr
              clear I2
              go_wp2
              go_ret2
              exact ⟨by rw [RE.out]; rfl, rfl⟩
            · skip
              have IH := Lib.hid I2; clear I2
              go_wp2
              go_round
              case rel => exact ⟨q - 1, r + N1, ⟨IH.out, hdec, by omega, by omega, by omega⟩, rfl, rfl⟩
              case measure => simp [intOf]; omega
          · have hp := prod_bd (by omega : 0 ≤ q) (by omega) n0a n0b
            obtain ⟨P, hP⟩ : ∃ P, q * N0 = P := ⟨_, rfl⟩
            rw [hP] at hp
            by_cases hc : 4294967296 * r + V0 < P
            · have hdec := D2.out.dec I1.out i2 (Or.inr (by rw [hP]; exact hc))
              have I2 : (q - 1) * N1 + (r + N1) = U2 := by rw [Int.sub_mul]; have := I1.out; omega
              by_cases hr : 4294967296 ≤ r + N1
              · have hQ := D2.out.brk I2 hdec (by omega) hr
                clear I2
                go_wp2
                go_ret2
                exact ⟨by rw [RE.out]; rfl, rfl⟩
              · skip
                have IH := Lib.hid I2; clear I2
                go_wp2
                go_round
                case rel => exact ⟨q - 1, r + N1, ⟨IH.out, hdec, by omega, by omega, by omega⟩, rfl, rfl⟩
                case measure => simp [intOf]; omega
            · obtain rfl : Q0 = q := (D2.out.stop I1.out i2 (by omega)).symm
              go_wp2
              go_ret2
              exact ⟨by rw [RE.out]; rfl, rfl⟩
end Go.Proofs.YtidkpdabidlnnaaGreatDoor


/-
  The contract of bits.Div64 by numbers, for a high part that is below the divisor.
-/

namespace Go.Proofs.YtidkpdabidlnnaaGreatDoor

set_option maxRecDepth 100000

open Go.RowKit DivM

theorem bitLen_bd : ∀ (f x : Nat), x ≠ 0 → x < 2 ^ f → f ≤ 64 → 2 ^ (Lib.bitLen x) ≤ 2 * x ∧ x < 2 ^ (Lib.bitLen x) ∧ Lib.bitLen x ≤ f ∧ 1 ≤ Lib.bitLen x := by
  intro f
  induction f with
  | zero => intro x h0 h1 _; simp at h1; omega
  | succ f ih =>
    intro x h0 h1 hf
    have h64 : x < 2 ^ 64 := Nat.lt_of_lt_of_le h1 (Nat.pow_le_pow_right (by omega) hf)
    have hh := Lib.bitLen_half x h0 h64
    by_cases hx : x / 2 = 0
    · have : x = 1 := by omega
      subst this
      have e : Lib.bitLen 1 = 1 := rfl
      rw [e]; omega
    · obtain ⟨a, b, c, d⟩ := ih (x / 2) hx (by rw [Nat.pow_succ] at h1; omega) (by omega)
      rw [hh, Nat.pow_add]
      omega

theorem and_mask {a : Int} (a0 : 0 ≤ a) (a1 : a ≤ 18446744073709551615) : bits .and .u64 a 4294967295 = a % 4294967296 := by
  obtain ⟨x, rfl⟩ := Int.eq_ofNat_of_zero_le a0
  have h := bits_and_u64_nat x 4294967295 (by omega) (by omega)
  have e : x &&& 4294967295 = x % 4294967296 := Nat.and_two_pow_sub_one_eq_mod x 32
  rw [e] at h
  exact h

/-- What the shifts come to. -/
structure Sh (h l y S T : Int) : Prop where
  s1 : 1 ≤ S
  t1 : 1 ≤ T
  st : T * S = 18446744073709551616
  y0 : 9223372036854775808 ≤ y * S
  y1 : y * S ≤ 18446744073709551615
  h0 : 0 ≤ h
  hy : h < y
  l0 : 0 ≤ l
  l1 : l ≤ 18446744073709551615
theorem Sh.hS {h l y S T : Int} (k : Sh h l y S T) : 0 ≤ h * S ∧ h * S ≤ y * S - S := by
  have h1 := Int.mul_le_mul_of_nonneg_right (show h ≤ y - 1 by have := k.hy; omega) (show 0 ≤ S by have := k.s1; omega)
  rw [Int.sub_mul, Int.one_mul] at h1
  exact ⟨Int.mul_nonneg k.h0 (by have := k.s1; omega), h1⟩
theorem Sh.lT {h l y S T : Int} (k : Sh h l y S T) : 0 ≤ l / T ∧ l / T < S := by
  refine ⟨Int.ediv_nonneg k.l0 (by have := k.t1; omega), ?_⟩
  apply Int.ediv_lt_of_lt_mul (by have := k.t1; omega)
  have := k.st; have := k.l1; rw [Int.mul_comm]; omega
theorem Sh.lS {h l y S T : Int} (k : Sh h l y S T) : l * S = l / T * 18446744073709551616 + l % T * S ∧ 0 ≤ l % T * S ∧ l % T * S ≤ 18446744073709551615 := by
  have e := Int.emod_add_mul_ediv l T
  have e2 : l * S = (l % T + T * (l / T)) * S := by rw [e]
  have hm := Int.emod_nonneg l (show T ≠ 0 by have := k.t1; omega)
  have hl := Int.emod_lt_of_pos l (show 0 < T by have := k.t1; omega)
  have hs := k.s1
  have h1 := Int.mul_le_mul_of_nonneg_right (show l % T ≤ T - 1 by omega) (show 0 ≤ S by omega)
  rw [Int.sub_mul, Int.one_mul, k.st] at h1
  refine ⟨?_, Int.mul_nonneg hm (by omega), by omega⟩
  rw [e2, Int.add_mul, Int.mul_right_comm, k.st, Int.mul_comm 18446744073709551616]; omega
/-- The dividend, shifted. -/
theorem Sh.num {h l y S T : Int} (k : Sh h l y S T) : (h * 18446744073709551616 + l) * S = (h * S + l / T) * 18446744073709551616 + l % T * S := by
  rw [Int.add_mul, Int.mul_right_comm, k.lS.1, Int.add_mul]; omega
theorem Sh.uY {h l y S T : Int} (k : Sh h l y S T) : 0 ≤ h * S + l / T ∧ h * S + l / T < y * S := by
  have := k.hS; have := k.lT; omega

theorem emod_mul_right (a b : Int) {S : Int} (h : 0 < S) : (a * S) % (b * S) = a % b * S := by
  rw [Int.mul_comm a, Int.mul_comm b, Int.mul_emod_mul_of_pos _ _ h, Int.mul_comm]

theorem div64_n {h l y : Int} (h0 : 0 ≤ h) (hy : h < y) (y1 : y ≤ 18446744073709551615) (l0 : 0 ≤ l) (l1 : l ≤ 18446744073709551615) (w : World) (hpos : 0 < h) :
    Calls Tryz.prog 111 #[.int .u64 h, .int .u64 l, .int .u64 y] w fun e w' =>
      e = .returned (.tuple #[.int .u64 ((h * 18446744073709551616 + l) / y), .int .u64 ((h * 18446744073709551616 + l) % y)]) ∧ w' = w := by
  obtain ⟨yn, rfl⟩ := Int.eq_ofNat_of_zero_le (show 0 ≤ y by omega)
  obtain ⟨b1, b2, b3, b4⟩ := bitLen_bd 64 yn (by omega) (by omega) (by omega)
  generalize hbl : Lib.bitLen yn = n at *
  have hS1 : 1 ≤ 2 ^ (64 - n) := Nat.one_le_two_pow
  have hT1 : 1 ≤ 2 ^ n := Nat.one_le_two_pow
  have hST : 2 ^ n * 2 ^ (64 - n) = 18446744073709551616 := by rw [← Nat.pow_add, show n + (64 - n) = 64 by omega]
  have hy0 : 2 ^ n * 2 ^ (64 - n) ≤ 2 * yn * 2 ^ (64 - n) := Nat.mul_le_mul_right _ b1
  have hy2 : (yn + 1) * 2 ^ (64 - n) ≤ 2 ^ n * 2 ^ (64 - n) := Nat.mul_le_mul_right _ b2
  rw [hST] at hy0 hy2
  rw [Nat.add_mul, Nat.one_mul] at hy2
  rw [Nat.mul_assoc] at hy0
  have k : Sh h l yn (((2 ^ (64 - n) : Nat)) : Int) (((2 ^ n : Nat)) : Int) :=
    ⟨by omega, by omega, by rw [← Int.natCast_mul, hST]; rfl, by rw [← Int.natCast_mul]; omega, by rw [← Int.natCast_mul]; omega, h0, hy, l0, l1⟩
  have es : (64 - (n : Int)).toNat = 64 - n := by omega
  have es2 : (64 - (64 - (n : Int))).toNat = n := by omega
  have eS : (2 : Int) ^ (64 - (n : Int)).toNat = ((2 ^ (64 - n) : Nat) : Int) := by rw [es, Int.natCast_pow]; rfl
  have eT : (2 : Int) ^ (64 - (64 - (n : Int))).toNat = ((2 ^ n : Nat) : Int) := by rw [es2, Int.natCast_pow]; rfl
  have hk : 64 - n ≤ 63 := by omega
  generalize hSd : (((2 ^ (64 - n) : Nat)) : Int) = S at *
  generalize hTd : (((2 ^ n : Nat)) : Int) = T at *
  have hHS := k.hS; have hLT := k.lT; have hLS := k.lS; have hu := k.uY
  have ky0 := k.y0; have ky1 := k.y1; have ks := k.s1
  have hor : bits .or .u64 (h * S) (l / T) = h * S + l / T :=
    or_u64 (64 - n) hSd.symm (Int.mul_emod_left h S) hHS.1 (by omega) hLT.1 hLT.2 (by omega)
  have hyp : 0 < (yn : Int) * S := by omega
  have d1 : Dig (h * S + l / T) (l % T * S / 4294967296) (yn * S) (yn * S / 4294967296) (yn * S % 4294967296) _ :=
    ⟨by omega, by omega, by omega, by omega, by omega, hu.1, hu.2, by omega, by omega, rfl⟩
  have d2 : Dig _ (l % T * S % 4294967296) (yn * S) (yn * S / 4294967296) (yn * S % 4294967296) _ :=
    ⟨by omega, by omega, by omega, by omega, by omega, d1.rest.1, d1.rest.2, by omega, by omega, rfl⟩
  have h2 := two_digits d1 rfl d2
  have hnum := k.num
  rw [show (h * S + l / T) * 18446744073709551616 + (l % T * S / 4294967296 * 4294967296 + l % T * S % 4294967296) = (h * 18446744073709551616 + l) * S by rw [hnum]; omega] at h2
  rw [Int.mul_ediv_mul_of_pos_left _ _ (by omega : 0 < S), emod_mul_right _ _ (by omega : 0 < S)] at h2
  have hw := div64_walk h l yn (64 - n) S T (yn * S) (yn * S / 4294967296) (yn * S % 4294967296) (h * S) (l / T) (h * S + l / T) (l % T * S) (l % T * S / 4294967296) (l % T * S % 4294967296) _ _ _ w
    hpos hy y1 (by omega) (by omega) (by rw [Int.toNat_natCast, hbl]) eS eT (by rw [IntKind.wrap_u64]; omega) rfl (and_mask (by omega) (by omega)) (by rw [IntKind.wrap_u64]; omega) rfl hor
    (by rw [IntKind.wrap_u64]; omega) rfl (and_mask (by omega) (by omega)) d1 rfl d2 (by omega)
  rw [← h2.1, ← h2.2, Int.mul_ediv_cancel _ (by omega : S ≠ 0)] at hw
  exact hw

set_option maxHeartbeats 1000000 in
theorem div64_0 {l y : Int} (hy : 0 < y) (y1 : y ≤ 18446744073709551615) (l0 : 0 ≤ l) (l1 : l ≤ 18446744073709551615) (w : World) :
    Calls Tryz.prog 111 #[.int .u64 0, .int .u64 l, .int .u64 y] w fun e w' =>
      e = .returned (.tuple #[.int .u64 (l / y), .int .u64 (l % y)]) ∧ w' = w.drew := by
  have e1 : (y == 0) = false := by rw [beq_eq_false_iff_ne]; omega
  have e2 : ¬ y ≤ 0 := by omega
  have e3 : ¬ y = 0 := by omega
  have q0 : 0 ≤ l / y := Int.ediv_nonneg l0 (by omega)
  have q1 : l / y ≤ 18446744073709551615 := Int.le_trans (Int.ediv_le_self _ l0) l1
  have t1 : l.tdiv y = l / y := Int.tdiv_eq_ediv_of_nonneg l0
  have t2 : l.tmod y = l % y := Int.tmod_eq_emod_of_nonneg l0
  have t3 : IntKind.u64.wrap (l / y) = l / y := by rw [IntKind.wrap_u64]; omega
  go_enter Tryz.func111, Tryz.ntmps111
  go_wp2
  refine wp_region_held_drew (S := (fun _ => True)) (by kernel_rfl) ?_ (fun hHeld => ?_)
  · trivial
  refine H.take 0 (v := ?_) rfl (by kernel_rfl) (fun _ _ _ h => h) (by rfl) ?_ (by assumption) ?_
  rotate_left
  · (intro wz hSw; (try dsimp only at hSw); go_simp <;> with_reducible rfl)
  try simp only [Act.put, List.setIfInBounds_toArray, List.set_cons_zero, List.set_cons_succ]
  refine H.take 1 (v := ?_) rfl (by kernel_rfl) (fun _ _ _ h => h) (by rfl) ?_ (by assumption) ?_
  rotate_left
  · (intro wz hSw; (try dsimp only at hSw); go_simp <;> with_reducible rfl)
  try simp only [Act.put, List.setIfInBounds_toArray, List.set_cons_zero, List.set_cons_succ]
  refine H.take 2 (v := ?_) rfl (by kernel_rfl) (fun _ _ _ h => h) (by rfl) ?_ (by assumption) ?_
  rotate_left
  · (intro wz hSw; (try dsimp only at hSw); go_simp <;> with_reducible rfl)
  try simp only [Act.put, List.setIfInBounds_toArray, List.set_cons_zero, List.set_cons_succ]
  refine H.take 3 (v := ?_) rfl (by kernel_rfl) (fun _ _ _ h => h) (by rfl) ?_ (by assumption) ?_
  rotate_left
  · (intro wz hSw; (try dsimp only at hSw); go_simp <;> with_reducible rfl)
  try simp only [Act.put, List.setIfInBounds_toArray, List.set_cons_zero, List.set_cons_succ]
  refine H.take 4 (v := ?_) rfl (by kernel_rfl) (fun _ _ _ h => h) (by rfl) ?_ (by assumption) ?_
  rotate_left
  · (intro wz hSw; (try dsimp only at hSw); go_simp <;> with_reducible rfl)
  try simp only [Act.put, List.setIfInBounds_toArray, List.set_cons_zero, List.set_cons_succ]
  refine H.take 5 (v := ?_) rfl (by kernel_rfl) (fun _ _ _ h => h) (by rfl) ?_ (by assumption) ?_
  rotate_left
  · (intro wz hSw; (try dsimp only at hSw); go_simp <;> with_reducible rfl)
  try simp only [Act.put, List.setIfInBounds_toArray, List.set_cons_zero, List.set_cons_succ]
  refine H.take 6 (v := ?_) rfl (by kernel_rfl) (fun _ _ _ h => h) (by rfl) ?_ (by assumption) ?_
  rotate_left
  · (intro wz hSw; (try dsimp only at hSw); go_simp <;> with_reducible rfl)
  try simp only [Act.put, List.setIfInBounds_toArray, List.set_cons_zero, List.set_cons_succ]
  refine H.take 7 (v := ?_) rfl (by kernel_rfl) (fun _ _ _ h => h) (by rfl) ?_ (by assumption) ?_
  rotate_left
  · (intro wz hSw; (try dsimp only at hSw); go_simp <;> with_reducible rfl)
  try simp only [Act.put, List.setIfInBounds_toArray, List.set_cons_zero, List.set_cons_succ]
  refine H.done (by kernel_rfl) ?_ _
  go_wp2
  go_ret2
  exact ⟨rfl, rfl⟩

/-- Whatever the high part is, below the divisor. -/
theorem div64_any {h l y : Int} (h0 : 0 ≤ h) (hy : h < y) (y1 : y ≤ 18446744073709551615) (l0 : 0 ≤ l) (l1 : l ≤ 18446744073709551615) (w : World) :
    Calls Tryz.prog 111 #[.int .u64 h, .int .u64 l, .int .u64 y] w fun e w' =>
      e = .returned (.tuple #[.int .u64 ((h * 18446744073709551616 + l) / y), .int .u64 ((h * 18446744073709551616 + l) % y)]) ∧ Below w.heap.size w w' := by
  by_cases hp : 0 < h
  · refine (div64_n h0 hy y1 l0 l1 w hp).mono ?_
    rintro e w' ⟨he, rfl⟩; exact ⟨he, Below.refl _ _⟩
  · obtain rfl : 0 = h := by omega
    refine (div64_0 (by omega) y1 l0 l1 w).mono ?_
    rintro e w' ⟨rfl, rfl⟩; exact ⟨by rw [Int.zero_mul, Int.zero_add], (Below.refl _ _).drew⟩
end Go.Proofs.YtidkpdabidlnnaaGreatDoor


/-
  The contract of wide.Div.
-/

namespace Go.Proofs.YtidkpdabidlnnaaGreatDoor

set_option maxRecDepth 100000

open Go.RowKit

set_option maxHeartbeats 1000000 in
theorem wdiv_0 (n : Int) (w : World) :
    Calls Tryz.prog 98 #[.agg #[.int .i64 (hi n), .int .u64 (lo n)], .int .u64 0] w fun e w' =>
      e = .returned (.tuple #[.agg #[.int .i64 0, .int .u64 0], .int .u64 0, .bool false]) ∧ Below w.heap.size w w' := by
  go_enter Tryz.func98, Tryz.ntmps98
  go_wp2
  exact bodyPost_ret (v := .tuple #[.agg #[.int .i64 0, .int .u64 0], .int .u64 0, .bool false]) (by simp [results, Tryz.results98, go_sem]) rfl ⟨rfl, ((Below.refl _ _).alloc (Nat.le_refl _) _).alloc (by simp) _⟩

/-- The long division of a size, word by word. -/
theorem word_div {H L y : Int} (y0 : 0 < y) (L0 : 0 ≤ L) (L1 : L ≤ 18446744073709551615) :
    (H * 18446744073709551616 + L) / y = H / y * 18446744073709551616 + (H % y * 18446744073709551616 + L) / y ∧
    (H * 18446744073709551616 + L) % y = (H % y * 18446744073709551616 + L) % y ∧
    0 ≤ (H % y * 18446744073709551616 + L) / y ∧ (H % y * 18446744073709551616 + L) / y ≤ 18446744073709551615 := by
  have e := Int.emod_add_mul_ediv H y
  have m0 := Int.emod_nonneg H (show y ≠ 0 by omega)
  have m1 := Int.emod_lt_of_pos H y0
  have e2 : H * 18446744073709551616 + L = (H % y * 18446744073709551616 + L) + y * (H / y * 18446744073709551616) := by
    rw [← Int.mul_assoc]; generalize y * (H / y) = p at *; omega
  refine ⟨?_, ?_, Int.ediv_nonneg (by omega) (by omega), ?_⟩
  · rw [e2, Int.add_mul_ediv_left _ _ (by omega : y ≠ 0)]; omega
  · rw [e2, Int.add_mul_emod_self_left]
  · have : (H % y * 18446744073709551616 + L) / y < 18446744073709551616 := by
      apply Int.ediv_lt_of_lt_mul y0; rw [Int.mul_comm]; omega
    omega
/-- The quotient of a number below 0 out of that of its size. -/
theorem neg_div {m y : Int} (y0 : 0 < y) : (m % y = 0 → (-m) / y = -(m / y) ∧ (-m) % y = 0) ∧ (m % y ≠ 0 → (-m) / y = -(m / y + 1) ∧ (-m) % y = y - m % y) := by
  have e := Int.emod_add_mul_ediv m y
  have m0 := Int.emod_nonneg m (show y ≠ 0 by omega)
  have m1 := Int.emod_lt_of_pos m y0
  constructor
  · intro h
    have h2 : -m = 0 + y * (-(m / y)) := by rw [Int.mul_neg]; omega
    rw [h2, Int.add_mul_ediv_left _ _ (by omega : y ≠ 0), Int.add_mul_emod_self_left, Int.zero_ediv, Int.zero_emod]; omega
  · intro h
    have h2 : -m = (y - m % y) + y * (-(m / y + 1)) := by rw [Int.mul_neg, Int.mul_add]; omega
    rw [h2, Int.add_mul_ediv_left _ _ (by omega : y ≠ 0), Int.add_mul_emod_self_left, Int.ediv_eq_zero_of_lt (by omega) (by omega), Int.emod_eq_of_lt (by omega) (by omega)]; omega
theorem div_in {n y : Int} (hn : InR n) (y0 : 0 < y) : InR (n / y) := by
  unfold InR at *
  constructor
  · apply Int.le_ediv_of_mul_le y0
    have : -170141183460469231731687303715884105728 * y ≤ -170141183460469231731687303715884105728 * 1 := Int.mul_le_mul_of_nonpos_left (by omega) (by omega)
    omega
  · have : n / y < 170141183460469231731687303715884105728 := by
      apply Int.ediv_lt_of_lt_mul y0
      have : 170141183460469231731687303715884105728 * 1 ≤ 170141183460469231731687303715884105728 * y := Int.mul_le_mul_of_nonneg_left (by omega) (by omega)
      omega
    omega

theorem ret_div {v : Value} {a b : Int} (h : a = b) : Ending.returned (.tuple #[v, .int .u64 a, .bool true]) = .returned (.tuple #[v, .int .u64 b, .bool true]) := by rw [h]

set_option maxHeartbeats 4000000 in
theorem wdiv_n {n y : Int} (hn : InR n) (y0 : 0 < y) (y1 : y ≤ 18446744073709551615) (w : World) :
    Calls Tryz.prog 98 #[.agg #[.int .i64 (hi n), .int .u64 (lo n)], .int .u64 y] w fun e w' =>
      e = .returned (.tuple #[.agg #[.int .i64 (hi (n / y)), .int .u64 (lo (n / y))], .int .u64 (n % y), .bool true]) ∧ Below w.heap.size w w' := by
  have hs := sz_bd hn
  have lb := lo_bd (sz n)
  have hb0 : 0 ≤ hi (sz n) := hi_nn hs.1
  have hb1 : hi (sz n) ≤ 9223372036854775808 := hi_le hs.2
  have ma := fun w => magnitude_n hn w
  have yz : (y == 0) = false := by rw [beq_eq_false_iff_ne]; omega
  have yz2 : ¬ y = 0 := by omega
  have q1 := fun (w' : World) (h : Blk w' w.heap.size #[.int .i64 (hi n), .int .u64 (lo n)] 125) => h.two
  have q2 := fun (w' : World) (h : Blk w' (w.heap.size + 1) #[.int .i64 0, .int .u64 0] 125) => h.two
  have q3 := fun (w' : World) (h : Blk w' (w.heap.size + 1) #[.int .i64 0, .int .u64 0] 125) => h.free0
  obtain ⟨w1, w2, w3, w4⟩ := word_div y0 (H := hi (sz n)) lb.1 lb.2
  rw [hilo] at w1 w2
  have m0 := Int.emod_nonneg (hi (sz n)) (show y ≠ 0 by omega)
  have m1 := Int.emod_lt_of_pos (hi (sz n)) y0
  have qd : hi (sz n) / y ≤ 9223372036854775808 := Int.le_trans (Int.ediv_le_self _ hb0) hb1
  have qd0 : 0 ≤ hi (sz n) / y := Int.ediv_nonneg hb0 (by omega)
  have dv := fun w => div64_any m0 m1 y1 lb.1 lb.2 w
  have t1 : (hi (sz n)).tdiv y = hi (sz n) / y := Int.tdiv_eq_ediv_of_nonneg hb0
  have t2 : (hi (sz n)).tmod y = hi (sz n) % y := Int.tmod_eq_emod_of_nonneg hb0
  have t3 : IntKind.u64.wrap (hi (sz n) / y) = hi (sz n) / y := by rw [IntKind.wrap_u64]; omega
  have r0 := Int.emod_nonneg (hi (sz n) % y * 18446744073709551616 + lo (sz n)) (show y ≠ 0 by omega)
  have r1 := Int.emod_lt_of_pos (hi (sz n) % y * 18446744073709551616 + lo (sz n)) y0
  have hin := div_in hn y0
  have hneg := neg_div (m := sz n) y0
  generalize (hi (sz n) % y * 18446744073709551616 + lo (sz n)) / y = LOW at *
  generalize (hi (sz n) % y * 18446744073709551616 + lo (sz n)) % y = R at *
  rw [w1, w2] at hneg
  have DV := Lib.hid dv; have MA := Lib.hid ma
  clear dv ma
  by_cases hnn : n < 0
  · rw [show -sz n = n by rw [sz_neg hnn]; omega] at hneg
    have hd := decide_eq_true hnn
    by_cases hr : R = 0
    · obtain ⟨e1, e2⟩ := hneg.1 hr
      have hsg : clamp (sgn true (hi (sz n) / y * 18446744073709551616 + LOW)) = n / y := by simp only [sgn, if_true]; rw [← e1]; exact clamp_of hin
      have hs := fun (b : Nat) (w : World) (g : Blk w b #[.bool true] 4) => signed_any true (x := hi (sz n) / y) (y := LOW) (by omega) (by omega) w3 w4 g
      rw [hsg] at hs
      subst hr
      clear hneg w1 w2 e1 hsg
      have E2 := Lib.hid e2; clear e2
      generalize hi (sz n) / y = HI at *
      have HS := Lib.hid hs; clear hs
      go_enter Tryz.func98, Tryz.ntmps98
      go_wp2_with (go_at_call 95; refine (MA.out _).mono ?_; rintro e w1 ⟨rfl, hb1⟩; have g := Blk.keep hb1 (Blk.new (b := w.heap.size + 1) (T := 125) (by simp)); have gA := Blk.keep hb1 (Blk.old (Blk.new (b := w.heap.size) (T := 125) rfl) _); have gB := (((Below.refl w.heap.size w).alloc (Nat.le_refl _) _).alloc (by simp) _).trans (hb1.mono (by simp; omega)))
      refine wp_region_held_drew (S := (fun w' => Blk w' (w.heap.size + 1) #[.int .i64 0, .int .u64 0] 125 ∧ Blk w' w.heap.size #[.int .i64 (hi n), .int .u64 (lo n)] 125 ∧ Below w.heap.size w w')) (by kernel_rfl) ?_ (fun hHeld => ?_)
      · exact ⟨g.drew, gA.drew, gB.drew⟩
      refine H.take 0 (v := ?_) rfl (by kernel_rfl) (fun _ _ _ h => h) (by rfl) ?_ (by assumption) ?_
      rotate_left
      · (intro wz hSw; (try dsimp only at hSw); go_simp <;> with_reducible rfl)
      try simp only [Act.put, List.setIfInBounds_toArray, List.set_cons_zero, List.set_cons_succ]
      refine H.take 1 (v := ?_) rfl (by kernel_rfl) (fun _ _ _ h => h) (by rfl) ?_ (by assumption) ?_
      rotate_left
      · (intro wz hSw; (try dsimp only at hSw); go_simp <;> with_reducible rfl)
      try simp only [Act.put, List.setIfInBounds_toArray, List.set_cons_zero, List.set_cons_succ]
      refine H.take 2 (v := ?_) rfl (by kernel_rfl) (fun _ _ _ h => h) (by rfl) ?_ (by assumption) ?_
      rotate_left
      · (intro wz hSw; (try dsimp only at hSw); go_simp <;> with_reducible rfl)
      try simp only [Act.put, List.setIfInBounds_toArray, List.set_cons_zero, List.set_cons_succ]
      refine H.take 3 (v := ?_) rfl (by kernel_rfl) (fun _ _ _ h => h) (by rfl) ?_ (by assumption) ?_
      rotate_left
      · (intro wz hSw; (try dsimp only at hSw); go_simp <;> with_reducible rfl)
      try simp only [Act.put, List.setIfInBounds_toArray, List.set_cons_zero, List.set_cons_succ]
      refine H.take 4 (v := ?_) rfl (by kernel_rfl) (fun _ _ _ h => h) (by rfl) ?_ (by assumption) ?_
      rotate_left
      · (intro wz hSw; (try dsimp only at hSw); go_simp <;> with_reducible rfl)
      try simp only [Act.put, List.setIfInBounds_toArray, List.set_cons_zero, List.set_cons_succ]
      refine H.take 5 (v := ?_) rfl (by kernel_rfl) (fun _ _ _ h => h) (by rfl) ?_ (by assumption) ?_
      rotate_left
      · (intro wz hSw; (try dsimp only at hSw); go_simp <;> with_reducible rfl)
      try simp only [Act.put, List.setIfInBounds_toArray, List.set_cons_zero, List.set_cons_succ]
      refine H.take 6 (v := ?_) rfl (by kernel_rfl) (fun _ _ _ h => h) (by rfl) ?_ (by assumption) ?_
      rotate_left
      · (intro wz hSw; (try dsimp only at hSw); go_simp <;> with_reducible rfl)
      try simp only [Act.put, List.setIfInBounds_toArray, List.set_cons_zero, List.set_cons_succ]
      refine H.take 7 (v := ?_) rfl (by kernel_rfl) (fun _ _ _ h => h) (by rfl) ?_ (by assumption) ?_
      rotate_left
      · (intro wz hSw; (try dsimp only at hSw); go_simp <;> with_reducible rfl)
      try simp only [Act.put, List.setIfInBounds_toArray, List.set_cons_zero, List.set_cons_succ]
      refine H.done (by kernel_rfl) ?_ _
      clear g gA gB; obtain ⟨g, gA, gB⟩ := hHeld
      go_wp2_with (first | (go_at_call 111; refine (DV.out _).mono ?_; rintro e w2 ⟨rfl, hb2⟩; replace g := Blk.keep hb2 g; replace gA := Blk.keep hb2 gA; replace gB := gB.trans (hb2.mono gB.size)) | (go_at_call 78; refine (negative_n _ _).mono ?_; rintro e w2 ⟨rfl, hb2⟩; replace g := Blk.keep hb2 g; replace gA := Blk.keep hb2 gA; replace gB := gB.trans (hb2.mono gB.size)) | (go_at_call 97; refine (signer_any _ _).mono ?_; rintro e w2 ⟨rfl, rfl⟩; replace g := Blk.old g (.cells #[.bool true] 4); replace gB := gB.alloc gB.size (.cells #[.bool true] 4)))
      refine (HS.out _ _ (Blk.new rfl)).mono ?_
      rintro e w2 ⟨rfl, hb2⟩; replace g := Blk.keep hb2 g; replace gB := gB.trans (hb2.mono gB.size)
      go_wp2
      have hfin := (g.put (i := 0) (.int .i64 (hi (n / y)))).put (i := 1) (.int .u64 (lo (n / y)))
      exact bodyPost_ret (v := .tuple #[.agg #[.int .i64 (hi (n / y)), .int .u64 (lo (n / y))], .int .u64 0, .bool true]) (by simp [results, Tryz.results98, go_sem, (show Blk _ _ #[.int .i64 (hi (n / y)), .int .u64 (lo (n / y))] _ from hfin).two]) rfl ⟨ret_div E2.out.symm, (gB.setCell (by simp) _).setCell (by simp) _⟩
    · obtain ⟨e1, e2⟩ := hneg.2 hr
      have hr2 : (R != 0) = true := by rw [bne_iff_ne]; omega
      have hr3 : (R == 0) = false := by rw [beq_eq_false_iff_ne]; omega
      have ha := fun w => run_add64 LOW 1 0 w3 (by omega) (by omega) (by omega) w
      have hsg : clamp (sgn true ((hi (sz n) / y + (LOW + 1) / 18446744073709551616) * 18446744073709551616 + (LOW + 1) % 18446744073709551616)) = n / y := by
        simp only [sgn, if_true]; rw [show (hi (sz n) / y + (LOW + 1) / 18446744073709551616) * 18446744073709551616 + (LOW + 1) % 18446744073709551616 = hi (sz n) / y * 18446744073709551616 + LOW + 1 by omega, ← e1]; exact clamp_of hin
      have hs := fun (b : Nat) (w : World) (g : Blk w b #[.bool true] 4) => signed_any true (x := hi (sz n) / y + (LOW + 1) / 18446744073709551616) (y := (LOW + 1) % 18446744073709551616) (by omega) (by omega) (by omega) (by omega) g
      rw [hsg] at hs
      clear hneg w1 w2 e1 hsg
      have E2 := Lib.hid e2; clear e2
      generalize hi (sz n) / y = HI at *
      have HS := Lib.hid hs; clear hs
      go_enter Tryz.func98, Tryz.ntmps98
      go_wp2_with (go_at_call 95; refine (MA.out _).mono ?_; rintro e w1 ⟨rfl, hb1⟩; have g := Blk.keep hb1 (Blk.new (b := w.heap.size + 1) (T := 125) (by simp)); have gA := Blk.keep hb1 (Blk.old (Blk.new (b := w.heap.size) (T := 125) rfl) _); have gB := (((Below.refl w.heap.size w).alloc (Nat.le_refl _) _).alloc (by simp) _).trans (hb1.mono (by simp; omega)))
      refine wp_region_held_drew (S := (fun w' => Blk w' (w.heap.size + 1) #[.int .i64 0, .int .u64 0] 125 ∧ Blk w' w.heap.size #[.int .i64 (hi n), .int .u64 (lo n)] 125 ∧ Below w.heap.size w w')) (by kernel_rfl) ?_ (fun hHeld => ?_)
      · exact ⟨g.drew, gA.drew, gB.drew⟩
      refine H.take 0 (v := ?_) rfl (by kernel_rfl) (fun _ _ _ h => h) (by rfl) ?_ (by assumption) ?_
      rotate_left
      · (intro wz hSw; (try dsimp only at hSw); go_simp <;> with_reducible rfl)
      try simp only [Act.put, List.setIfInBounds_toArray, List.set_cons_zero, List.set_cons_succ]
      refine H.take 1 (v := ?_) rfl (by kernel_rfl) (fun _ _ _ h => h) (by rfl) ?_ (by assumption) ?_
      rotate_left
      · (intro wz hSw; (try dsimp only at hSw); go_simp <;> with_reducible rfl)
      try simp only [Act.put, List.setIfInBounds_toArray, List.set_cons_zero, List.set_cons_succ]
      refine H.take 2 (v := ?_) rfl (by kernel_rfl) (fun _ _ _ h => h) (by rfl) ?_ (by assumption) ?_
      rotate_left
      · (intro wz hSw; (try dsimp only at hSw); go_simp <;> with_reducible rfl)
      try simp only [Act.put, List.setIfInBounds_toArray, List.set_cons_zero, List.set_cons_succ]
      refine H.take 3 (v := ?_) rfl (by kernel_rfl) (fun _ _ _ h => h) (by rfl) ?_ (by assumption) ?_
      rotate_left
      · (intro wz hSw; (try dsimp only at hSw); go_simp <;> with_reducible rfl)
      try simp only [Act.put, List.setIfInBounds_toArray, List.set_cons_zero, List.set_cons_succ]
      refine H.take 4 (v := ?_) rfl (by kernel_rfl) (fun _ _ _ h => h) (by rfl) ?_ (by assumption) ?_
      rotate_left
      · (intro wz hSw; (try dsimp only at hSw); go_simp <;> with_reducible rfl)
      try simp only [Act.put, List.setIfInBounds_toArray, List.set_cons_zero, List.set_cons_succ]
      refine H.take 5 (v := ?_) rfl (by kernel_rfl) (fun _ _ _ h => h) (by rfl) ?_ (by assumption) ?_
      rotate_left
      · (intro wz hSw; (try dsimp only at hSw); go_simp <;> with_reducible rfl)
      try simp only [Act.put, List.setIfInBounds_toArray, List.set_cons_zero, List.set_cons_succ]
      refine H.take 6 (v := ?_) rfl (by kernel_rfl) (fun _ _ _ h => h) (by rfl) ?_ (by assumption) ?_
      rotate_left
      · (intro wz hSw; (try dsimp only at hSw); go_simp <;> with_reducible rfl)
      try simp only [Act.put, List.setIfInBounds_toArray, List.set_cons_zero, List.set_cons_succ]
      refine H.take 7 (v := ?_) rfl (by kernel_rfl) (fun _ _ _ h => h) (by rfl) ?_ (by assumption) ?_
      rotate_left
      · (intro wz hSw; (try dsimp only at hSw); go_simp <;> with_reducible rfl)
      try simp only [Act.put, List.setIfInBounds_toArray, List.set_cons_zero, List.set_cons_succ]
      refine H.done (by kernel_rfl) ?_ _
      clear g gA gB; obtain ⟨g, gA, gB⟩ := hHeld
      go_wp2_with (first | (go_at_call 111; refine (DV.out _).mono ?_; rintro e w2 ⟨rfl, hb2⟩; replace g := Blk.keep hb2 g; replace gA := Blk.keep hb2 gA; replace gB := gB.trans (hb2.mono gB.size)) | (go_at_call 78; refine (negative_n _ _).mono ?_; rintro e w2 ⟨rfl, hb2⟩; replace g := Blk.keep hb2 g; replace gA := Blk.keep hb2 gA; replace gB := gB.trans (hb2.mono gB.size)) | (go_at_call 97; refine (signer_any _ _).mono ?_; rintro e w2 ⟨rfl, rfl⟩; replace g := Blk.old g (.cells #[.bool true] 4); replace gB := gB.alloc gB.size (.cells #[.bool true] 4)))
      refine (HS.out _ _ (Blk.new rfl)).mono ?_
      rintro e w2 ⟨rfl, hb2⟩; replace g := Blk.keep hb2 g; replace gB := gB.trans (hb2.mono gB.size)
      go_wp2
      have hfin := (g.put (i := 0) (.int .i64 (hi (n / y)))).put (i := 1) (.int .u64 (lo (n / y)))
      exact bodyPost_ret (v := .tuple #[.agg #[.int .i64 (hi (n / y)), .int .u64 (lo (n / y))], .int .u64 (y - R), .bool true]) (by simp [results, Tryz.results98, go_sem, (show Blk _ _ #[.int .i64 (hi (n / y)), .int .u64 (lo (n / y))] _ from hfin).two]) rfl ⟨ret_div E2.out.symm, (gB.setCell (by simp) _).setCell (by simp) _⟩
  · have e0 := sz_pos (show 0 ≤ n by omega)
    have hd := decide_eq_false hnn
    have hsg : clamp (sgn false (hi (sz n) / y * 18446744073709551616 + LOW)) = n / y := by simp only [sgn, Bool.false_eq_true, if_false]; rw [← w1, e0]; exact clamp_of hin
    have e2 : n % y = R := by rw [← w2, e0]
    have hs := fun (b : Nat) (w : World) (g : Blk w b #[.bool false] 4) => signed_any false (x := hi (sz n) / y) (y := LOW) (by omega) (by omega) w3 w4 g
    rw [hsg] at hs
    clear hneg w1 w2 hsg
    have E2 := Lib.hid e2; clear e2 e0
    generalize hi (sz n) / y = HI at *
    have HS := Lib.hid hs; clear hs
    go_enter Tryz.func98, Tryz.ntmps98
    go_wp2_with (go_at_call 95; refine (MA.out _).mono ?_; rintro e w1 ⟨rfl, hb1⟩; have g := Blk.keep hb1 (Blk.new (b := w.heap.size + 1) (T := 125) (by simp)); have gA := Blk.keep hb1 (Blk.old (Blk.new (b := w.heap.size) (T := 125) rfl) _); have gB := (((Below.refl w.heap.size w).alloc (Nat.le_refl _) _).alloc (by simp) _).trans (hb1.mono (by simp; omega)))
    refine wp_region_held_drew (S := (fun w' => Blk w' (w.heap.size + 1) #[.int .i64 0, .int .u64 0] 125 ∧ Blk w' w.heap.size #[.int .i64 (hi n), .int .u64 (lo n)] 125 ∧ Below w.heap.size w w')) (by kernel_rfl) ?_ (fun hHeld => ?_)
    · exact ⟨g.drew, gA.drew, gB.drew⟩
    refine H.take 0 (v := ?_) rfl (by kernel_rfl) (fun _ _ _ h => h) (by rfl) ?_ (by assumption) ?_
    rotate_left
    · (intro wz hSw; (try dsimp only at hSw); go_simp <;> with_reducible rfl)
    try simp only [Act.put, List.setIfInBounds_toArray, List.set_cons_zero, List.set_cons_succ]
    refine H.take 1 (v := ?_) rfl (by kernel_rfl) (fun _ _ _ h => h) (by rfl) ?_ (by assumption) ?_
    rotate_left
    · (intro wz hSw; (try dsimp only at hSw); go_simp <;> with_reducible rfl)
    try simp only [Act.put, List.setIfInBounds_toArray, List.set_cons_zero, List.set_cons_succ]
    refine H.take 2 (v := ?_) rfl (by kernel_rfl) (fun _ _ _ h => h) (by rfl) ?_ (by assumption) ?_
    rotate_left
    · (intro wz hSw; (try dsimp only at hSw); go_simp <;> with_reducible rfl)
    try simp only [Act.put, List.setIfInBounds_toArray, List.set_cons_zero, List.set_cons_succ]
    refine H.take 3 (v := ?_) rfl (by kernel_rfl) (fun _ _ _ h => h) (by rfl) ?_ (by assumption) ?_
    rotate_left
    · (intro wz hSw; (try dsimp only at hSw); go_simp <;> with_reducible rfl)
    try simp only [Act.put, List.setIfInBounds_toArray, List.set_cons_zero, List.set_cons_succ]
    refine H.take 4 (v := ?_) rfl (by kernel_rfl) (fun _ _ _ h => h) (by rfl) ?_ (by assumption) ?_
    rotate_left
    · (intro wz hSw; (try dsimp only at hSw); go_simp <;> with_reducible rfl)
    try simp only [Act.put, List.setIfInBounds_toArray, List.set_cons_zero, List.set_cons_succ]
    refine H.take 5 (v := ?_) rfl (by kernel_rfl) (fun _ _ _ h => h) (by rfl) ?_ (by assumption) ?_
    rotate_left
    · (intro wz hSw; (try dsimp only at hSw); go_simp <;> with_reducible rfl)
    try simp only [Act.put, List.setIfInBounds_toArray, List.set_cons_zero, List.set_cons_succ]
    refine H.take 6 (v := ?_) rfl (by kernel_rfl) (fun _ _ _ h => h) (by rfl) ?_ (by assumption) ?_
    rotate_left
    · (intro wz hSw; (try dsimp only at hSw); go_simp <;> with_reducible rfl)
    try simp only [Act.put, List.setIfInBounds_toArray, List.set_cons_zero, List.set_cons_succ]
    refine H.take 7 (v := ?_) rfl (by kernel_rfl) (fun _ _ _ h => h) (by rfl) ?_ (by assumption) ?_
    rotate_left
    · (intro wz hSw; (try dsimp only at hSw); go_simp <;> with_reducible rfl)
    try simp only [Act.put, List.setIfInBounds_toArray, List.set_cons_zero, List.set_cons_succ]
    refine H.done (by kernel_rfl) ?_ _
    clear g gA gB; obtain ⟨g, gA, gB⟩ := hHeld
    go_wp2_with (first | (go_at_call 111; refine (DV.out _).mono ?_; rintro e w2 ⟨rfl, hb2⟩; replace g := Blk.keep hb2 g; replace gA := Blk.keep hb2 gA; replace gB := gB.trans (hb2.mono gB.size)) | (go_at_call 78; refine (negative_n _ _).mono ?_; rintro e w2 ⟨rfl, hb2⟩; replace g := Blk.keep hb2 g; replace gA := Blk.keep hb2 gA; replace gB := gB.trans (hb2.mono gB.size)) | (go_at_call 97; refine (signer_any _ _).mono ?_; rintro e w2 ⟨rfl, rfl⟩; replace g := Blk.old g (.cells #[.bool false] 4); replace gB := gB.alloc gB.size (.cells #[.bool false] 4)))
    refine (HS.out _ _ (Blk.new rfl)).mono ?_
    rintro e w2 ⟨rfl, hb2⟩; replace g := Blk.keep hb2 g; replace gB := gB.trans (hb2.mono gB.size)
    go_wp2
    have hfin := (g.put (i := 0) (.int .i64 (hi (n / y)))).put (i := 1) (.int .u64 (lo (n / y)))
    exact bodyPost_ret (v := .tuple #[.agg #[.int .i64 (hi (n / y)), .int .u64 (lo (n / y))], .int .u64 R, .bool true]) (by simp [results, Tryz.results98, go_sem, (show Blk _ _ #[.int .i64 (hi (n / y)), .int .u64 (lo (n / y))] _ from hfin).two]) rfl ⟨ret_div E2.out.symm, (gB.setCell (by simp) _).setCell (by simp) _⟩
end Go.Proofs.YtidkpdabidlnnaaGreatDoor


/-
  The contract of wide.Root.
-/

namespace Go.Proofs.YtidkpdabidlnnaaGreatDoor

open Go.RowKit

def pw (k : Nat) : Int := ((2 ^ k : Nat) : Int)
theorem pw_pos (k : Nat) : 1 ≤ pw k := by unfold pw; have := Nat.one_le_two_pow (n := k); omega
theorem pw_succ (k : Nat) : pw (k + 1) = 2 * pw k := by unfold pw; rw [Nat.pow_succ]; omega
theorem pw_le {k : Nat} (h : k ≤ 64) : pw k ≤ 18446744073709551616 := by
  unfold pw; have := Nat.pow_le_pow_right (n := 2) (by omega) h; omega

/-- What holds at the head of Root's loop: r is a multiple of p = 2^k, and the root lies from r on, below r + p. -/
def RootInv (n r : Int) (k : Nat) : Prop := k ≤ 64 ∧ 0 ≤ r ∧ r % pw k = 0 ∧ r + pw k ≤ 18446744073709551616 ∧ r * r ≤ n ∧ n < (r + pw k) * (r + pw k)

theorem RootInv.start {n : Int} (h0 : 0 ≤ n) (h1 : n ≤ 170141183460469231731687303715884105727) : RootInv n 0 64 := by
  refine ⟨by omega, by omega, by simp, by decide, by omega, ?_⟩
  have : (0 + pw 64) * (0 + pw 64) = 340282366920938463463374607431768211456 := by decide
  rw [this]; omega
theorem mod_half {r p : Int} (h : r % (2 * p) = 0) : r % p = 0 := by
  have := Int.emod_emod_of_dvd r (Int.dvd_mul_left 2 p); rw [h] at this; simpa using this.symm
theorem RootInv.no {n r : Int} {k : Nat} (h : RootInv n r (k + 1)) (hn : ¬ (r + pw k) * (r + pw k) ≤ n) : RootInv n r k := by
  obtain ⟨a, b, c, d, e, f⟩ := h
  rw [pw_succ] at c d
  have := pw_pos k
  exact ⟨by omega, b, mod_half c, by omega, e, by omega⟩
theorem RootInv.yes {n r : Int} {k : Nat} (h : RootInv n r (k + 1)) (hn : (r + pw k) * (r + pw k) ≤ n) : RootInv n (r + pw k) k := by
  obtain ⟨a, b, c, d, e, f⟩ := h
  rw [pw_succ] at c d f
  have := pw_pos k
  refine ⟨by omega, by omega, ?_, by omega, hn, ?_⟩
  · rw [Int.add_emod_right]; exact mod_half c
  · rw [show r + pw k + pw k = r + 2 * pw k by omega]; exact f
/-- The integer root: r. -/
def IsRoot (n r : Int) : Prop := 0 ≤ r ∧ r ≤ 18446744073709551615 ∧ r * r ≤ n ∧ n < (r + 1) * (r + 1)
theorem RootInv.fin {n r : Int} (h : RootInv n r 0) : IsRoot n r := by
  obtain ⟨a, b, c, d, e, f⟩ := h
  exact ⟨b, by have : pw 0 = 1 := rfl; omega, e, f⟩
def RootPost (n : Int) (w : World) (e : Ending) (w' : World) : Prop := ∃ r, IsRoot n r ∧ e = .returned (.int .u64 r) ∧ Below w.heap.size w w'

/-- At a round's head: the bit is half of 2^k. -/
def RootAt (n : Int) (R B : Value) : Prop := ∃ (r : Int) (k : Nat), RootInv n r k ∧ R = .int .u64 r ∧ B = .int .u64 (pw k / 2)

end Go.Proofs.YtidkpdabidlnnaaGreatDoor


/-
  Contracts of package wide: Clip, Root.
-/

namespace Go.Proofs.YtidkpdabidlnnaaGreatDoor

set_option maxRecDepth 100000

open Go.RowKit

/-- A number cut to 64 bits. -/
def clip (n : Int) : Int := if n < -9223372036854775808 then -9223372036854775808 else if 9223372036854775807 < n then 9223372036854775807 else n

set_option maxHeartbeats 1000000 in
theorem clip_n {n : Int} (hn : InR n) (w : World) :
    Calls Tryz.prog 56 #[.agg #[.int .i64 (hi n), .int .u64 (lo n)]] w fun e w' =>
      e = .returned (.int .i64 (clip n)) ∧ Below w.heap.size w w' := by
  have hb := hi_bd hn; have lb := lo_bd n; have hl := hilo n
  obtain ⟨t, ht⟩ : ∃ t, IntKind.i64.wrap (lo n) = t := ⟨_, rfl⟩
  have hw := IntKind.wrap_i64 (lo n)
  have t0 : -9223372036854775808 ≤ t := by omega
  have t1 : t ≤ 9223372036854775807 := by omega
  have ho := fun w => of_any t t0 t1 w
  have hng := fun w => negative_n n w
  have HN := Lib.hid hng; clear hng
  rcases (by omega : (n < -9223372036854775808 ∨ 9223372036854775807 < n) ∨ (-9223372036854775808 ≤ n ∧ n ≤ 9223372036854775807)) with h | h
  · have e1 : ¬ (hi t = hi n ∧ lo t = lo n) := fun k => by
      have := hilo_inj k.1 k.2; omega
    have e2 : clip n = if n < 0 then -9223372036854775808 else 9223372036854775807 := by unfold clip; split <;> split <;> (try split) <;> omega
    rw [e2]; clear e2 hl hw hb
    have q1 := fun (w' : World) (h : Blk w' w.heap.size #[.int .i64 (hi n), .int .u64 (lo n)] 125) => h.two
    generalize hi n = A at *; generalize lo n = B at *; generalize hi t = C at *; generalize lo t = D at *
    have HO := Lib.hid ho; clear ho
    by_cases h1 : C = A
    · obtain rfl : A = C := h1.symm
      have e3 : (D == B) = false := by rw [beq_eq_false_iff_ne]; omega
      clear e1 h
      by_cases hneg : n < 0
      · rw [if_pos hneg]
        go_enter Tryz.func56, Tryz.ntmps56
        go_wp2
        refine wp_region_held_drew (S := (fun w' => Blk w' w.heap.size #[.int .i64 A, .int .u64 B] 125 ∧ Below w.heap.size w w')) (by kernel_rfl) ?_ (fun hHeld => ?_)
        · exact ⟨(Blk.new rfl).drew, ((Below.refl w.heap.size w).alloc (Nat.le_refl _) _).drew⟩
        refine H.take 0 (v := ?_) rfl (by kernel_rfl) (fun _ _ _ h => h) (by rfl) ?_ (by assumption) ?_
        rotate_left
        · (intro wz hSw; (try dsimp only at hSw); go_simp <;> with_reducible rfl)
        try simp only [Act.put, List.setIfInBounds_toArray, List.set_cons_zero, List.set_cons_succ]
        refine H.take 2 (v := ?_) rfl (by kernel_rfl) (fun _ _ _ h => h) (by rfl) ?_ (by assumption) ?_
        rotate_left
        · (intro wz hSw; (try dsimp only at hSw); go_simp <;> with_reducible rfl)
        try simp only [Act.put, List.setIfInBounds_toArray, List.set_cons_zero, List.set_cons_succ]
        refine H.ready [1] (by kernel_rfl) (by simp) ?_
        refine H.one rfl (by rfl) (fun K hK => ?_) AllReadyH.nil
        go_simp
        go_at_call 57
        refine (HO.out _).mono ?_
        rintro e w' ⟨rfl, hb⟩
        refine hK.out _ _ ?_ (fun hHeld2 => ?_)
        · exact ⟨Blk.keep hb hHeld.1, hHeld.2.trans (hb.mono hHeld.2.size)⟩
        clear hHeld hK K; have hHeld := hHeld2; clear hHeld2
        try simp only [Act.put, List.setIfInBounds_toArray, List.set_cons_zero, List.set_cons_succ]
        refine H.take 3 (v := ?_) rfl (by kernel_rfl) (fun _ _ _ h => h) (by rfl) ?_ (by assumption) ?_
        rotate_left
        · (intro wz hSw; (try dsimp only at hSw); go_simp <;> with_reducible rfl)
        try simp only [Act.put, List.setIfInBounds_toArray, List.set_cons_zero, List.set_cons_succ]
        refine H.done (by kernel_rfl) ?_ _
        obtain ⟨g, gB⟩ := hHeld
        go_wp2_with (go_at_call 78; refine (HN.out _).mono ?_; rintro e w1 ⟨rfl, hb1⟩; replace gB := gB.trans (hb1.mono gB.size))
        go_ret
        exact ⟨rfl, gB⟩
      · rw [if_neg hneg]
        have hd := decide_eq_false hneg
        go_enter Tryz.func56, Tryz.ntmps56
        go_wp2
        refine wp_region_held_drew (S := (fun w' => Blk w' w.heap.size #[.int .i64 A, .int .u64 B] 125 ∧ Below w.heap.size w w')) (by kernel_rfl) ?_ (fun hHeld => ?_)
        · exact ⟨(Blk.new rfl).drew, ((Below.refl w.heap.size w).alloc (Nat.le_refl _) _).drew⟩
        refine H.take 0 (v := ?_) rfl (by kernel_rfl) (fun _ _ _ h => h) (by rfl) ?_ (by assumption) ?_
        rotate_left
        · (intro wz hSw; (try dsimp only at hSw); go_simp <;> with_reducible rfl)
        try simp only [Act.put, List.setIfInBounds_toArray, List.set_cons_zero, List.set_cons_succ]
        refine H.take 2 (v := ?_) rfl (by kernel_rfl) (fun _ _ _ h => h) (by rfl) ?_ (by assumption) ?_
        rotate_left
        · (intro wz hSw; (try dsimp only at hSw); go_simp <;> with_reducible rfl)
        try simp only [Act.put, List.setIfInBounds_toArray, List.set_cons_zero, List.set_cons_succ]
        refine H.ready [1] (by kernel_rfl) (by simp) ?_
        refine H.one rfl (by rfl) (fun K hK => ?_) AllReadyH.nil
        go_simp
        go_at_call 57
        refine (HO.out _).mono ?_
        rintro e w' ⟨rfl, hb⟩
        refine hK.out _ _ ?_ (fun hHeld2 => ?_)
        · exact ⟨Blk.keep hb hHeld.1, hHeld.2.trans (hb.mono hHeld.2.size)⟩
        clear hHeld hK K; have hHeld := hHeld2; clear hHeld2
        try simp only [Act.put, List.setIfInBounds_toArray, List.set_cons_zero, List.set_cons_succ]
        refine H.take 3 (v := ?_) rfl (by kernel_rfl) (fun _ _ _ h => h) (by rfl) ?_ (by assumption) ?_
        rotate_left
        · (intro wz hSw; (try dsimp only at hSw); go_simp <;> with_reducible rfl)
        try simp only [Act.put, List.setIfInBounds_toArray, List.set_cons_zero, List.set_cons_succ]
        refine H.done (by kernel_rfl) ?_ _
        obtain ⟨g, gB⟩ := hHeld
        go_wp2_with (go_at_call 78; refine (HN.out _).mono ?_; rintro e w1 ⟨rfl, hb1⟩; replace gB := gB.trans (hb1.mono gB.size))
        go_ret
        exact ⟨rfl, gB⟩
    · have e3 : (C == A) = false := by rw [beq_eq_false_iff_ne]; omega
      clear e1 h
      by_cases hneg : n < 0
      · rw [if_pos hneg]
        go_enter Tryz.func56, Tryz.ntmps56
        go_wp2
        refine wp_region_held_drew (S := (fun w' => Blk w' w.heap.size #[.int .i64 A, .int .u64 B] 125 ∧ Below w.heap.size w w')) (by kernel_rfl) ?_ (fun hHeld => ?_)
        · exact ⟨(Blk.new rfl).drew, ((Below.refl w.heap.size w).alloc (Nat.le_refl _) _).drew⟩
        refine H.take 0 (v := ?_) rfl (by kernel_rfl) (fun _ _ _ h => h) (by rfl) ?_ (by assumption) ?_
        rotate_left
        · (intro wz hSw; (try dsimp only at hSw); go_simp <;> with_reducible rfl)
        try simp only [Act.put, List.setIfInBounds_toArray, List.set_cons_zero, List.set_cons_succ]
        refine H.take 2 (v := ?_) rfl (by kernel_rfl) (fun _ _ _ h => h) (by rfl) ?_ (by assumption) ?_
        rotate_left
        · (intro wz hSw; (try dsimp only at hSw); go_simp <;> with_reducible rfl)
        try simp only [Act.put, List.setIfInBounds_toArray, List.set_cons_zero, List.set_cons_succ]
        refine H.ready [1] (by kernel_rfl) (by simp) ?_
        refine H.one rfl (by rfl) (fun K hK => ?_) AllReadyH.nil
        go_simp
        go_at_call 57
        refine (HO.out _).mono ?_
        rintro e w' ⟨rfl, hb⟩
        refine hK.out _ _ ?_ (fun hHeld2 => ?_)
        · exact ⟨Blk.keep hb hHeld.1, hHeld.2.trans (hb.mono hHeld.2.size)⟩
        clear hHeld hK K; have hHeld := hHeld2; clear hHeld2
        try simp only [Act.put, List.setIfInBounds_toArray, List.set_cons_zero, List.set_cons_succ]
        refine H.take 3 (v := ?_) rfl (by kernel_rfl) (fun _ _ _ h => h) (by rfl) ?_ (by assumption) ?_
        rotate_left
        · (intro wz hSw; (try dsimp only at hSw); go_simp <;> with_reducible rfl)
        try simp only [Act.put, List.setIfInBounds_toArray, List.set_cons_zero, List.set_cons_succ]
        refine H.done (by kernel_rfl) ?_ _
        obtain ⟨g, gB⟩ := hHeld
        go_wp2_with (go_at_call 78; refine (HN.out _).mono ?_; rintro e w1 ⟨rfl, hb1⟩; replace gB := gB.trans (hb1.mono gB.size))
        go_ret
        exact ⟨rfl, gB⟩
      · rw [if_neg hneg]
        have hd := decide_eq_false hneg
        go_enter Tryz.func56, Tryz.ntmps56
        go_wp2
        refine wp_region_held_drew (S := (fun w' => Blk w' w.heap.size #[.int .i64 A, .int .u64 B] 125 ∧ Below w.heap.size w w')) (by kernel_rfl) ?_ (fun hHeld => ?_)
        · exact ⟨(Blk.new rfl).drew, ((Below.refl w.heap.size w).alloc (Nat.le_refl _) _).drew⟩
        refine H.take 0 (v := ?_) rfl (by kernel_rfl) (fun _ _ _ h => h) (by rfl) ?_ (by assumption) ?_
        rotate_left
        · (intro wz hSw; (try dsimp only at hSw); go_simp <;> with_reducible rfl)
        try simp only [Act.put, List.setIfInBounds_toArray, List.set_cons_zero, List.set_cons_succ]
        refine H.take 2 (v := ?_) rfl (by kernel_rfl) (fun _ _ _ h => h) (by rfl) ?_ (by assumption) ?_
        rotate_left
        · (intro wz hSw; (try dsimp only at hSw); go_simp <;> with_reducible rfl)
        try simp only [Act.put, List.setIfInBounds_toArray, List.set_cons_zero, List.set_cons_succ]
        refine H.ready [1] (by kernel_rfl) (by simp) ?_
        refine H.one rfl (by rfl) (fun K hK => ?_) AllReadyH.nil
        go_simp
        go_at_call 57
        refine (HO.out _).mono ?_
        rintro e w' ⟨rfl, hb⟩
        refine hK.out _ _ ?_ (fun hHeld2 => ?_)
        · exact ⟨Blk.keep hb hHeld.1, hHeld.2.trans (hb.mono hHeld.2.size)⟩
        clear hHeld hK K; have hHeld := hHeld2; clear hHeld2
        try simp only [Act.put, List.setIfInBounds_toArray, List.set_cons_zero, List.set_cons_succ]
        refine H.take 3 (v := ?_) rfl (by kernel_rfl) (fun _ _ _ h => h) (by rfl) ?_ (by assumption) ?_
        rotate_left
        · (intro wz hSw; (try dsimp only at hSw); go_simp <;> with_reducible rfl)
        try simp only [Act.put, List.setIfInBounds_toArray, List.set_cons_zero, List.set_cons_succ]
        refine H.done (by kernel_rfl) ?_ _
        obtain ⟨g, gB⟩ := hHeld
        go_wp2_with (go_at_call 78; refine (HN.out _).mono ?_; rintro e w1 ⟨rfl, hb1⟩; replace gB := gB.trans (hb1.mono gB.size))
        go_ret
        exact ⟨rfl, gB⟩
  · obtain rfl : n = t := by omega
    have e2 : clip n = n := by unfold clip; rw [if_neg (by omega), if_neg (by omega)]
    rw [e2]; clear e2 hl hw hb h
    have q1 := fun (w' : World) (h : Blk w' w.heap.size #[.int .i64 (hi n), .int .u64 (lo n)] 125) => h.two
    generalize hi n = A at *; generalize lo n = B at *
    have HO := Lib.hid ho; clear ho
    go_enter Tryz.func56, Tryz.ntmps56
    go_wp2
    refine wp_region_held_drew (S := (fun w' => Blk w' w.heap.size #[.int .i64 A, .int .u64 B] 125 ∧ Below w.heap.size w w')) (by kernel_rfl) ?_ (fun hHeld => ?_)
    · exact ⟨(Blk.new rfl).drew, ((Below.refl w.heap.size w).alloc (Nat.le_refl _) _).drew⟩
    refine H.take 0 (v := ?_) rfl (by kernel_rfl) (fun _ _ _ h => h) (by rfl) ?_ (by assumption) ?_
    rotate_left
    · (intro wz hSw; (try dsimp only at hSw); go_simp <;> with_reducible rfl)
    try simp only [Act.put, List.setIfInBounds_toArray, List.set_cons_zero, List.set_cons_succ]
    refine H.take 2 (v := ?_) rfl (by kernel_rfl) (fun _ _ _ h => h) (by rfl) ?_ (by assumption) ?_
    rotate_left
    · (intro wz hSw; (try dsimp only at hSw); go_simp <;> with_reducible rfl)
    try simp only [Act.put, List.setIfInBounds_toArray, List.set_cons_zero, List.set_cons_succ]
    refine H.ready [1] (by kernel_rfl) (by simp) ?_
    refine H.one rfl (by rfl) (fun K hK => ?_) AllReadyH.nil
    go_simp
    go_at_call 57
    refine (HO.out _).mono ?_
    rintro e w' ⟨rfl, hb⟩
    refine hK.out _ _ ?_ (fun hHeld2 => ?_)
    · exact ⟨Blk.keep hb hHeld.1, hHeld.2.trans (hb.mono hHeld.2.size)⟩
    clear hHeld hK K; have hHeld := hHeld2; clear hHeld2
    try simp only [Act.put, List.setIfInBounds_toArray, List.set_cons_zero, List.set_cons_succ]
    refine H.take 3 (v := ?_) rfl (by kernel_rfl) (fun _ _ _ h => h) (by rfl) ?_ (by assumption) ?_
    rotate_left
    · (intro wz hSw; (try dsimp only at hSw); go_simp <;> with_reducible rfl)
    try simp only [Act.put, List.setIfInBounds_toArray, List.set_cons_zero, List.set_cons_succ]
    refine H.done (by kernel_rfl) ?_ _
    obtain ⟨g, gB⟩ := hHeld
    go_wp2_with (go_at_call 78; refine (HN.out _).mono ?_; rintro e w1 ⟨rfl, hb1⟩; replace gB := gB.trans (hb1.mono gB.size))
    go_ret
    exact ⟨rfl, gB⟩
end Go.Proofs.YtidkpdabidlnnaaGreatDoor


/-
  The contracts of the program's wide, as oracles of a reading.
-/




namespace Go.Proofs.YtidkpdabidlnnaaGreatDoor

set_option maxRecDepth 100000

open Go.Den Go.RowKit
noncomputable section

def W2 (h l : Int) : Int := h * 18446744073709551616 + l
def wv (n : Int) : Value := .agg #[.int .i64 (hi n), .int .u64 (lo n)]
def okI (n : Int) : Bool := decide (-9223372036854775808 ≤ n) && decide (n ≤ 9223372036854775807)
def okU (n : Int) : Bool := decide (0 ≤ n) && decide (n ≤ 18446744073709551615)
def okW (h l : Int) : Bool := okI h && okU l
theorem okI_iff {n : Int} : okI n = true ↔ -9223372036854775808 ≤ n ∧ n ≤ 9223372036854775807 := by simp [okI]
theorem okU_iff {n : Int} : okU n = true ↔ 0 ≤ n ∧ n ≤ 18446744073709551615 := by simp [okU]
theorem okW_iff {h l : Int} : okW h l = true ↔ (-9223372036854775808 ≤ h ∧ h ≤ 9223372036854775807) ∧ 0 ≤ l ∧ l ≤ 18446744073709551615 := by simp [okW, okI_iff, okU_iff]
theorem W2_hilo (n : Int) : W2 (hi n) (lo n) = n := hilo n
theorem hi_W2 {h l : Int} (k : okW h l = true) : hi (W2 h l) = h ∧ lo (W2 h l) = l ∧ InR (W2 h l) := by
  rw [okW_iff] at k
  unfold hi lo InR W2; omega
theorem okW_hilo {n : Int} (h : InR n) : okW (hi n) (lo n) = true := okW_iff.2 ⟨hi_bd h, lo_bd n⟩
theorem wv_W2 {h l : Int} (k : okW h l = true) : wv (W2 h l) = .agg #[.int .i64 h, .int .u64 l] := by
  unfold wv; rw [(hi_W2 k).1, (hi_W2 k).2.1]
def ofS : Array Value → Option (Bool × Value)
  | ⟨[.int .i64 n]⟩ => some (okI n, wv n)
  | _ => none
def addS : Array Value → Option (Bool × Value)
  | ⟨[.agg ⟨[.int .i64 h1, .int .u64 l1]⟩, .agg ⟨[.int .i64 h2, .int .u64 l2]⟩]⟩ => some (okW h1 l1 && okW h2 l2, wv (clamp (W2 h1 l1 + W2 h2 l2)))
  | _ => none
def subS : Array Value → Option (Bool × Value)
  | ⟨[.agg ⟨[.int .i64 h1, .int .u64 l1]⟩, .agg ⟨[.int .i64 h2, .int .u64 l2]⟩]⟩ => some (okW h1 l1 && okW h2 l2, wv (clamp (W2 h1 l1 - W2 h2 l2)))
  | _ => none
def negS : Array Value → Option (Bool × Value)
  | ⟨[.agg ⟨[.int .i64 h, .int .u64 l]⟩]⟩ => some (okW h l, wv (clamp (-W2 h l)))
  | _ => none
def absS : Array Value → Option (Bool × Value)
  | ⟨[.agg ⟨[.int .i64 h, .int .u64 l]⟩]⟩ => some (okW h l, wv (clamp (sz (W2 h l))))
  | _ => none
def halfS : Array Value → Option (Bool × Value)
  | ⟨[.agg ⟨[.int .i64 h, .int .u64 l]⟩]⟩ => some (okU l, wv (W2 h l / 2))
  | _ => none
def cmpS : Array Value → Option (Bool × Value)
  | ⟨[.agg ⟨[.int .i64 h1, .int .u64 l1]⟩, .agg ⟨[.int .i64 h2, .int .u64 l2]⟩]⟩ => some (okW h1 l1 && okW h2 l2, .int .i64 (cmpI (W2 h1 l1) (W2 h2 l2)))
  | _ => none
def mulS : Array Value → Option (Bool × Value)
  | ⟨[.int .i64 a, .int .i64 b]⟩ => some (okI a && okI b, wv (a * b))
  | _ => none
def scaleS : Array Value → Option (Bool × Value)
  | ⟨[.agg ⟨[.int .i64 h, .int .u64 l]⟩, .int .u32 k]⟩ => some (okW h l && (decide (0 ≤ k) && decide (k ≤ 4294967295)), wv (clamp (W2 h l * k)))
  | _ => none
def clipS : Array Value → Option (Bool × Value)
  | ⟨[.agg ⟨[.int .i64 h, .int .u64 l]⟩]⟩ => some (okW h l, .int .i64 (clip (W2 h l)))
  | _ => none
def divS : Array Value → Option (Bool × Value)
  | ⟨[.agg ⟨[.int .i64 h, .int .u64 l]⟩, .int .u64 y]⟩ => some (okW h l && (decide (0 < y) && decide (y ≤ 18446744073709551615)), .tuple #[wv (W2 h l / y), .int .u64 (W2 h l % y), .bool true])
  | _ => none
theorem by_W2 {h l : Int} (k : okW h l = true) {p : Value → Value → Prop} (q : p (.agg #[.int .i64 (hi (W2 h l)), .int .u64 (lo (W2 h l))]) (wv (W2 h l))) : p (.agg #[.int .i64 h, .int .u64 l]) (wv (W2 h l)) := by
  rwa [(hi_W2 k).1, (hi_W2 k).2.1] at q
def pcOf : PC Tryz.prog where
  f := 57
  spec := ofS
  body := by kernel_rfl
  ok := fun args r hr hok => by
    unfold ofS at hr
    split at hr
    · cases hr
      rw [okI_iff] at hok
      exact ⟨all_bel rfl, rfl, fun w => of_any _ hok.1 hok.2 w⟩
    · cases hr
def pcAdd : PC Tryz.prog where
  f := 75
  spec := addS
  body := by kernel_rfl
  ok := fun args r hr hok => by
    unfold addS at hr
    split at hr
    · cases hr
      rw [Bool.and_eq_true, okW_iff, okW_iff] at hok
      obtain ⟨⟨⟨a, b⟩, c, d⟩, ⟨e, f⟩, g, h⟩ := hok
      exact ⟨all_bel rfl, rfl, fun w => add_any _ _ _ _ c d g h a b e f w⟩
    · cases hr
def pcSub : PC Tryz.prog where
  f := 121
  spec := subS
  body := by kernel_rfl
  ok := fun args r hr hok => by
    unfold subS at hr
    split at hr
    · cases hr
      rw [Bool.and_eq_true, okW_iff, okW_iff] at hok
      obtain ⟨⟨⟨a, b⟩, c, d⟩, ⟨e, f⟩, g, h⟩ := hok
      exact ⟨all_bel rfl, rfl, fun w => sub_any _ _ _ _ c d g h a b e f w⟩
    · cases hr
def pcNeg : PC Tryz.prog where
  f := 110
  spec := negS
  body := by kernel_rfl
  ok := fun args r hr hok => by
    unfold negS at hr
    split at hr
    · cases hr
      rw [okW_iff] at hok
      exact ⟨all_bel rfl, rfl, fun w => neg_any _ _ hok.2.1 hok.2.2 hok.1.1 hok.1.2 w⟩
    · cases hr
def pcScale : PC Tryz.prog where
  f := 76
  spec := scaleS
  body := by kernel_rfl
  ok := fun args r hr hok => by
    unfold scaleS at hr
    split at hr
    · cases hr
      rw [Bool.and_eq_true, Bool.and_eq_true, decide_eq_true_eq, decide_eq_true_eq] at hok
      refine ⟨all_bel rfl, rfl, fun w => ?_⟩
      have := scale_any (hi_W2 hok.1).2.2 hok.2.1 hok.2.2 w
      rw [(hi_W2 hok.1).1, (hi_W2 hok.1).2.1] at this
      exact this
    · cases hr
def pcClip : PC Tryz.prog where
  f := 56
  spec := clipS
  body := by kernel_rfl
  ok := fun args r hr hok => by
    unfold clipS at hr
    split at hr
    · cases hr
      refine ⟨all_bel rfl, rfl, fun w => ?_⟩
      have := clip_n (hi_W2 hok).2.2 w
      rw [(hi_W2 hok).1, (hi_W2 hok).2.1] at this
      exact this
    · cases hr
def pcDiv : PC Tryz.prog where
  f := 98
  spec := divS
  body := by kernel_rfl
  ok := fun args r hr hok => by
    unfold divS at hr
    split at hr
    · cases hr
      rw [Bool.and_eq_true, Bool.and_eq_true, decide_eq_true_eq, decide_eq_true_eq] at hok
      refine ⟨all_bel rfl, rfl, fun w => ?_⟩
      have := wdiv_n (hi_W2 hok.1).2.2 hok.2.1 hok.2.2 w
      rw [(hi_W2 hok.1).1, (hi_W2 hok.1).2.1] at this
      exact this
    · cases hr
/-- A function of no arguments that was read. -/
def knownS : Array Value → Option (Bool × Value)
  | ⟨[]⟩ => some (true, .bool true)
  | _ => none
def pcKnown (f : FuncId) (body : (Tryz.prog.funcs[f]?.bind (·.body)).isSome = true) (hr : (((ev envT 1000).call [] f #[] [] B0).run.map (·.v)) = some (.bool true)) : PC Tryz.prog where
  f := f
  spec := knownS
  body := body
  ok := fun args r h _ => by
    unfold knownS at h
    split at h
    · cases h
      exact ⟨all_bel rfl, rfl, fun w => calls_read envT hcokP 1000 hr (by simp) rfl w⟩
    · cases h
def pcsW : List (PC Tryz.prog) := [pcAdd, pcSub, pcOf, pcClip, pcDiv, pcNeg, pcScale]
end

end Go.Proofs.YtidkpdabidlnnaaGreatDoor


/-
  Contracts: the text of a number of 64 bits; a digit's value.
-/







namespace Go.Proofs.YtidkpdabidlnnaaGreatDoor

set_option maxRecDepth 100000

open Go.RowKit Go.Sort Go.Lib

abbrev Tab (w : World) : Prop := Lib.TabIs Tryz.prog w "internal/strconv.uint64pow10" .u64 Lib.pow10Tab

theorem holds_zero0 (w : World) (T : TypeId) (nd : Nat) (hs : nd ≤ 24) : Holds (fun (b : UInt8) => Value.int .u8 (b.toNat : Int)) (w.alloc (.cells zeros24 T)) w.heap.size 0 (Array.replicate nd (0 : UInt8)) := fun j hj => by
  have hj' : j < nd := by simpa using hj
  refine ⟨?_, World.frozen?_alloc_new _ _ _ _⟩
  rw [World.cell?_alloc_new, zeros24_at _ (by omega), getElem!_pos _ j hj]
  simp
theorem fin_pos0 (w : World) (o : Obj) (dk : Array UInt8) (k : Nat) : ∃ os, (putRow (fun (b : UInt8) => Value.int .u8 (b.toNat : Int)) (w.alloc o) w.heap.size 0 dk).drewN k = grow (w.drewN k) os := by
  rw [alloc_eq_grow]
  obtain ⟨os', _, e⟩ := putRow_grow_new (fun (b : UInt8) => Value.int .u8 (b.toNat : Int)) w #[o] w.heap.size 0 dk (Nat.le_refl _)
  exact ⟨os', by rw [e]; rfl⟩

set_option maxHeartbeats 6400000 in
theorem formatUint_in (u : Nat) (hu64 : u < 18446744073709551616) (w : World) (htab : Tab w) :
    Calls Tryz.prog 123 #[.int .u64 u, .int .i64 10] w fun e w' => e = .returned (.string ⟨(Lib.decDigits u).toArray⟩) ∧ Below w.heap.size w w' := by
  by_cases hs : u < 100
  · go_enter Tryz.func123, Tryz.ntmps123
    go_wp2_with (go_at_call 65; refine (Tryz.internal_strconv_small u hs _).mono ?_; rintro e w' ⟨rfl, rfl⟩)
    go_ret
    exact ⟨rfl, Below.refl _ _⟩
  · have hu1 : 1 ≤ u := by omega
    have hnd20 : Lib.nDigits u ≤ 20 := by have := Lib.numDigits_eq u hu1 hu64; split at this <;> omega
    have hal : Tryz.prog.arrayLen 138 = 24 := by kernel_rfl
    have hsl1 : ∀ W, (Instr.sliceAt 138 (.pointer (some ⟨w.heap.size, 0, none⟩)) none (some (.int .i64 (Lib.nDigits u : Int))) none).run Tryz.prog W = .ok (.slice (some ⟨w.heap.size, 0, none⟩) (Lib.nDigits u) 24) W := fun W => by
      rw [run_sliceAt_array_h W 138 ⟨w.heap.size, 0, none⟩ (by simp [Program.arrayLen, Program.elem, Tryz.underlying138]) .i64 (Lib.nDigits u : Int) (by omega) (by rw [hal]; omega)]
      go_simp
    have hH0 := holds_zero0 w 138 (Lib.nDigits u) (by omega)
    have hfmt := Tryz.internal_strconv_formatBase10 w.heap.size 0 24 u (Array.replicate (Lib.nDigits u) 0) (w.alloc (.cells Lib.zeros24 138)) hH0 (by rw [Array.size_replicate]; exact Lib.lt_pow_nDigits u) hu64 (by rw [Array.size_replicate]; omega)
    rw [Array.size_replicate] at hfmt
    have HH0 := Lib.hid hH0
    clear hH0 hal
    go_enter Tryz.func123, Tryz.ntmps123
    go_wp2_with (first
      | (go_at_call 66; refine (Tryz.internal_strconv_numDigits u hu1 hu64 _ (Lib.tabIs_alloc htab _)).mono ?_; rintro e w' ⟨rfl, rfl⟩))
    go_at_call 67
    refine hfmt.mono ?_
    rintro e w' ⟨rfl, k, v', dk, rfl, hF⟩
    have hcv : (convert 53 9 (.slice (some ⟨w.heap.size, 0, none⟩) (Lib.nDigits u) 24)).run Tryz.prog ((putRow (fun (b : UInt8) => Value.int .u8 (b.toNat : Int)) (w.alloc (.cells Lib.zeros24 138)) w.heap.size 0 dk).drewN k) = .ok (.string ⟨(Lib.decDigits u).toArray⟩) ((putRow (fun (b : UInt8) => Value.int .u8 (b.toNat : Int)) (w.alloc (.cells Lib.zeros24 138)) w.heap.size 0 dk).drewN k) := by
      have h := run_convert_bytes_back (P := Tryz.prog) ((putRow (fun (b : UInt8) => Value.int .u8 (b.toNat : Int)) (w.alloc (.cells Lib.zeros24 138)) w.heap.size 0 dk).drewN k) 53 9 5 ⟨w.heap.size, 0, none⟩ 24 (Lib.decDigits u) Tryz.underlying53 Tryz.underlying5 Tryz.underlying9 (fun j hj => by
        rw [Lib.row_is_numeral hF j hj, Lib.add_plain, World.cell?_drewN]
        exact cell?_putRow (fun (b : UInt8) => Value.int .u8 (b.toNat : Int)) _ w.heap.size 0 _ dk HH0.out (by rw [hF.size, Array.size_replicate]) j (by rw [hF.size]; rw [Lib.decDigits_length] at hj; exact hj))
      rw [Lib.decDigits_length] at h
      exact h
    go_wp2
    go_ret
    obtain ⟨os, eo⟩ := fin_pos0 w (.cells Lib.zeros24 138) dk k
    refine ⟨rfl, ?_⟩
    rw [eo]
    exact Lib.below_grow _ _ (Nat.le_refl _) _ _
theorem formatUint_any (u : Nat) (hu64 : u < 18446744073709551616) (w : World) (htab : Tab w) :
    Calls Tryz.prog 112 #[.int .u64 u, .int .i64 10] w fun e w' => e = .returned (.string ⟨(Lib.decDigits u).toArray⟩) ∧ Below w.heap.size w w' := by
  go_enter Tryz.func112, Tryz.ntmps112
  go_wp2_with (go_at_call 123; refine (formatUint_in u hu64 _ htab).mono ?_; rintro e w' ⟨rfl, hb⟩)
  go_ret
  exact ⟨rfl, hb⟩
theorem unsigned_any (u : Nat) (hu64 : u < 18446744073709551616) (w : World) (htab : Tab w) :
    Calls Tryz.prog 99 #[.int .u64 u] w fun e w' => e = .returned (.string ⟨(Lib.decDigits u).toArray⟩) ∧ Below w.heap.size w w' := by
  go_enter Tryz.func99, Tryz.ntmps99
  go_wp2_with (go_at_call 112; refine (formatUint_any u hu64 _ htab).mono ?_; rintro e w' ⟨rfl, hb⟩)
  go_ret
  exact ⟨rfl, hb⟩
theorem dec_any (n : Int) (h0 : -9223372036854775808 ≤ n) (h1 : n ≤ 9223372036854775807) (w : World) (htab : Tab w) :
    Calls Tryz.prog 31 #[.int .i64 n] w fun e w' => e = .returned (.string ⟨(Lib.itoa n).toArray⟩) ∧ Below w.heap.size w w' := by
  go_enter Tryz.func31, Tryz.ntmps31
  go_wp2_with (go_at_call 44; refine (Tryz.strconv_FormatInt_10 n h0 h1 _ htab).mono ?_; rintro e w' ⟨rfl, k, os, rfl⟩)
  go_ret
  exact ⟨rfl, Lib.below_grow _ _ (Nat.le_refl _) _ _⟩
/-- A digit's value. -/
def valI (c : Int) : Int := if 97 ≤ c ∧ c ≤ 102 then c - 87 else if 48 ≤ c ∧ c ≤ 57 then c - 48 else 16
set_option maxHeartbeats 1000000 in
theorem value_any (c : Int) (h0 : 0 ≤ c) (h1 : c ≤ 2147483647) (w : World) :
    Calls Tryz.prog 74 #[.int .i32 c] w fun e w' => e = .returned (.int .i64 (valI c)) ∧ w' = w := by
  rcases (by omega : c < 48 ∨ (48 ≤ c ∧ c ≤ 57) ∨ (57 < c ∧ c < 97) ∨ (97 ≤ c ∧ c ≤ 102) ∨ 102 < c) with h | h | h | h | h
  · have e : valI c = 16 := by unfold valI; rw [(if_neg (by omega)), (if_neg (by omega))]
    rw [e]
    clear e
    go_enter Tryz.func74, Tryz.ntmps74
    go_wp2
    go_ret
    refine ⟨congrArg (fun z => Ending.returned (.int .i64 z)) ?_, rfl⟩
    first | rfl | omega
  · have e : valI c = c - 48 := by unfold valI; rw [(if_neg (by omega)), (if_pos (by omega))]
    rw [e]
    clear e
    go_enter Tryz.func74, Tryz.ntmps74
    go_wp2
    go_ret
    refine ⟨congrArg (fun z => Ending.returned (.int .i64 z)) ?_, rfl⟩
    first | rfl | omega
  · have e : valI c = 16 := by unfold valI; rw [(if_neg (by omega)), (if_neg (by omega))]
    rw [e]
    clear e
    go_enter Tryz.func74, Tryz.ntmps74
    go_wp2
    go_ret
    refine ⟨congrArg (fun z => Ending.returned (.int .i64 z)) ?_, rfl⟩
    first | rfl | omega
  · have e : valI c = c - 87 := by unfold valI; rw [(if_pos (by omega))]
    rw [e]
    clear e
    go_enter Tryz.func74, Tryz.ntmps74
    go_wp2
    go_ret
    refine ⟨congrArg (fun z => Ending.returned (.int .i64 z)) ?_, rfl⟩
    first | rfl | omega
  · have e : valI c = 16 := by unfold valI; rw [(if_neg (by omega)), (if_neg (by omega))]
    rw [e]
    clear e
    go_enter Tryz.func74, Tryz.ntmps74
    go_wp2
    go_ret
    refine ⟨congrArg (fun z => Ending.returned (.int .i64 z)) ?_, rfl⟩
    first | rfl | omega
end Go.Proofs.YtidkpdabidlnnaaGreatDoor


/-
  Contracts as oracles: the text of a number; strings.Repeat, CutPrefix, Count.
-/




namespace Go.Proofs.YtidkpdabidlnnaaGreatDoor

open Go.Den Go.RowKit
noncomputable section
set_option maxRecDepth 100000

set_option linter.unusedSectionVars false

variable [Inhabited Root]

theorem Tab.held (hT : Tab rootW) {w : World} (hw : Held w) : Tab w := by
  unfold Tab Lib.TabIs World.var? at *
  cases hg : Tryz.prog.globalNamed "internal/strconv.uint64pow10" with
  | none => rw [hg] at hT; cases hT
  | some g =>
    rw [hg] at hT
    simp only [Option.bind_some] at hT ⊢
    cases hb : rootW.heap[g]? with
    | none => rw [hb] at hT; cases hT
    | some o =>
      rw [hw g (Array.getElem?_eq_some_iff.1 hb).1]
      exact hT
/-- The text of a number. -/
noncomputable def tx (n : Int) : ByteArray := ⟨(Lib.itoa n).toArray⟩
noncomputable def rp (s : ByteArray) (c : Int) : ByteArray := ⟨(Lib.repeatL s.data.toList c.toNat).toArray⟩
noncomputable def cutS (s p : ByteArray) : ByteArray := ⟨(Lib.trimPrefix s.data.toList p.data.toList).toArray⟩
noncomputable def hasS (s p : ByteArray) : Bool := Lib.hasPrefix s.data.toList p.data.toList
noncomputable def decS : Array Value → Option (Bool × Value)
  | ⟨[.int .i64 n]⟩ => some (okI n, .string (tx n))
  | _ => none
noncomputable def unsS : Array Value → Option (Bool × Value)
  | ⟨[.int .u64 n]⟩ => some (okU n, .string (tx n))
  | _ => none
noncomputable def repS : Array Value → Option (Bool × Value)
  | ⟨[.string s, .int .i64 c]⟩ => some (decide (0 ≤ c) && (decide (c ≤ 1048576) && decide (s.size ≤ 1048576)), .string (rp s c))
  | _ => none
noncomputable def cutPS : Array Value → Option (Bool × Value)
  | ⟨[.string s, .string p]⟩ => some (true, .tuple #[.string (cutS s p), .bool (hasS s p)])
  | _ => none
noncomputable def valueS : Array Value → Option (Bool × Value)
  | ⟨[.int .i32 c]⟩ => some (decide (0 ≤ c) && decide (c ≤ 2147483647), .int .i64 (valI c))
  | _ => none
noncomputable def pkDec (hT : Tab rootW) : PK Tryz.prog where
  f := 31
  spec := decS
  body := by kernel_rfl
  ok := fun args r hr hok => by
    unfold decS at hr
    split at hr
    · cases hr
      rw [okI_iff] at hok
      exact ⟨all_bel rfl, rfl, fun w hw => dec_any _ hok.1 hok.2 w (hT.held hw)⟩
    · cases hr
noncomputable def pkUns (hT : Tab rootW) : PK Tryz.prog where
  f := 99
  spec := unsS
  body := by kernel_rfl
  ok := fun args r hr hok => by
    unfold unsS at hr
    split at hr
    · rename_i n
      cases hr
      rw [okU_iff] at hok
      obtain ⟨u, rfl⟩ := Int.eq_ofNat_of_zero_le hok.1
      refine ⟨all_bel rfl, rfl, fun w hw => ?_⟩
      have := unsigned_any u (by omega) w (hT.held hw)
      unfold tx; rw [Lib.itoa_nonneg]; exact this
    · cases hr
noncomputable def pcRep : PC Tryz.prog where
  f := 100
  spec := repS
  body := by kernel_rfl
  ok := fun args r hr hok => by
    unfold repS at hr
    split at hr
    · rename_i s c
      cases hr
      simp only [Bool.and_eq_true, decide_eq_true_eq] at hok
      obtain ⟨c, rfl⟩ := Int.eq_ofNat_of_zero_le hok.1
      refine ⟨all_bel rfl, rfl, fun w => ?_⟩
      have hm : s.size * c ≤ 1048576 * 1048576 := Nat.mul_le_mul hok.2.2 (by omega)
      exact Tryz.strings_Repeat s c w (by omega) (by omega)
    · cases hr
noncomputable def pcCut : PC Tryz.prog where
  f := 73
  spec := cutPS
  body := by kernel_rfl
  ok := fun args r hr hok => by
    unfold cutPS at hr
    split at hr
    · cases hr
      refine ⟨all_bel rfl, rfl, fun w => (Tryz.strings_CutPrefix _ _ w).mono ?_⟩
      rintro e w' ⟨rfl, rfl⟩
      exact ⟨rfl, Below.refl _ _⟩
    · cases hr
noncomputable def pcValue : PC Tryz.prog where
  f := 74
  spec := valueS
  body := by kernel_rfl
  ok := fun args r hr hok => by
    unfold valueS at hr
    split at hr
    · cases hr
      simp only [Bool.and_eq_true, decide_eq_true_eq] at hok
      refine ⟨all_bel rfl, rfl, fun w => (value_any _ hok.1 hok.2 w).mono ?_⟩
      rintro e w' ⟨rfl, rfl⟩
      exact ⟨rfl, Below.refl _ _⟩
    · cases hr
/-- The text of a wide number, of those nearer to 0 than B. -/
noncomputable def dwS (B : Int) : Array Value → Option (Bool × Value)
  | ⟨[.agg ⟨[.int .i64 h, .int .u64 l]⟩]⟩ => some (okW h l && (decide (-B < W2 h l) && decide (W2 h l < B)), .string (tx (W2 h l)))
  | _ => none
def DwOk (B : Int) : Prop := ∀ h l, okW h l = true → -B < W2 h l → W2 h l < B → ∀ w, Held w → Calls Tryz.prog 77 #[.agg #[.int .i64 h, .int .u64 l]] w fun e w' => e = .returned (.string (tx (W2 h l))) ∧ Below w.heap.size w w'
noncomputable def pkDW (B : Int) (hB : DwOk B) : PK Tryz.prog where
  f := 77
  spec := dwS B
  body := by kernel_rfl
  ok := fun args r hr hok => by
    unfold dwS at hr
    split at hr
    · cases hr
      simp only [Bool.and_eq_true, decide_eq_true_eq] at hok
      exact ⟨all_bel rfl, rfl, fun w hw => hB _ _ hok.1 hok.2.1 hok.2.2 w hw⟩
    · cases hr
noncomputable def pksW [Inhabited Names] : List (PM Tryz.prog) := (pcsW.map PC.up).map PK.mem
noncomputable def envDW (hT : Tab rootW) (B : Int) (hB : DwOk B) : Env Tryz.prog :=
  envS.mem false ((pkDec hT).mem :: (pkUns hT).mem :: pcRep.up.mem :: (pkDW B hB).mem :: pksW)
end

end Go.Proofs.YtidkpdabidlnnaaGreatDoor


/-
  Read by wip/tools/vc.py, and what follows.
-/


namespace Go.Proofs.YtidkpdabidlnnaaGreatDoor

open Go.Den Go.RowKit
noncomputable section
set_option maxRecDepth 100000

set_option linter.unusedSectionVars false

variable [Inhabited Root]

theorem decW_vc (hT : Tab rootW) (B : Int) (hB : DwOk B) (h l : Int) (Q : Value → Prop) (x1 : Int) (e_x1 : x1 = W2 h l % 1000000000000000000) (x2 : Int) (e_x2 : x2 = W2 h l / 1000000000000000000) (x3 : Int) (e_x3 : x3 = hi x2) (x4 : Int) (e_x4 : x4 = lo x2) (x5 : Int) (e_x5 : x5 = IntKind.wrap IntKind.u64 (1000000000000000000 - x1)) (x6 : Int) (e_x6 : x6 = W2 x3 x4) (x7 : Int) (e_x7 : x7 = clamp (x6 + 1)) (x8 : Int) (e_x8 : x8 = hi x7) (x9 : Int) (e_x9 : x9 = lo x7) (x10 : Int) (e_x10 : x10 = W2 x8 x9) (x11 : Int) (e_x11 : x11 = IntKind.wrap IntKind.i64 (18 - (↑(ByteArray.size (tx x5)) : Int))) (x12 : Int) (e_x12 : x12 = (↑(ByteArray.size (tx x10) + ByteArray.size (rp { data := { toList := [48] } } x11)) : Int)) (x13 : Int) (e_x13 : x13 = (↑(ByteArray.size (tx x10 ++ rp { data := { toList := [48] } } x11) + ByteArray.size (tx x5)) : Int)) (x14 : Int) (e_x14 : x14 = IntKind.wrap IntKind.i64 (18 - (↑(ByteArray.size (tx x1)) : Int))) (x15 : Int) (e_x15 : x15 = (↑(ByteArray.size (tx x6) + ByteArray.size (rp { data := { toList := [48] } } x14)) : Int)) (x16 : Int) (e_x16 : x16 = (↑(ByteArray.size (tx x6 ++ rp { data := { toList := [48] } } x14) + ByteArray.size (tx x1)) : Int)) : ((ev (envDW hT B hB) 80).call [] 77 #[.agg #[.int .i64 h, .int .u64 l]] [] B0).holds (fun r => Q r.v) = (bcase (okW h l)
  (bcase (okI (clip (W2 h l)))
    (bcase (hi (clip (W2 h l)) == h && (lo (clip (W2 h l)) == l && true))
      (bcase (okI (clip (W2 h l))) (Q (Value.string (tx (clip (W2 h l))))) False)
      (bcase (okW h l && true)
        (bcase (decide (h < 0))
          (bcase (x1 != 0)
            (bcase (okW x3 x4 && true)
              (bcase (okU x5)
                (bcase (okW x8 x9 && (decide (-B < x10) && decide (x10 < B)))
                  (bcase (decide (0 ≤ x11) && (decide (x11 ≤ 1048576) && true))
                    (bcase (decide (x12 ≤ 9223372036854775807))
                      (bcase (decide (x13 ≤ 9223372036854775807))
                        (Q (Value.string (tx x10 ++ rp { data := { toList := [48] } } x11 ++ tx x5))) False)
                      False)
                    False)
                  False)
                False)
              False)
            (bcase (okU x1)
              (bcase (okW x3 x4 && (decide (-B < x6) && decide (x6 < B)))
                (bcase (decide (0 ≤ x14) && (decide (x14 ≤ 1048576) && true))
                  (bcase (decide (x15 ≤ 9223372036854775807))
                    (bcase (decide (x16 ≤ 9223372036854775807))
                      (Q (Value.string (tx x6 ++ rp { data := { toList := [48] } } x14 ++ tx x1))) False)
                    False)
                  False)
                False)
              False))
          (bcase (okU x1)
            (bcase (okW x3 x4 && (decide (-B < x6) && decide (x6 < B)))
              (bcase (decide (0 ≤ x14) && (decide (x14 ≤ 1048576) && true))
                (bcase (decide (x15 ≤ 9223372036854775807))
                  (bcase (decide (x16 ≤ 9223372036854775807))
                    (Q (Value.string (tx x6 ++ rp { data := { toList := [48] } } x14 ++ tx x1))) False)
                  False)
                False)
              False)
            False))
        False))
    False)
  False) := by
  subst e_x16 e_x15 e_x14 e_x13 e_x12 e_x11 e_x10 e_x9 e_x8 e_x7 e_x6 e_x5 e_x4 e_x3 e_x2 e_x1
  kernel_rfl
/-- A quotient, cut towards 0. -/
def tr18 (n : Int) : Int := if n < 0 ∧ n % 1000000000000000000 ≠ 0 then n / 1000000000000000000 + 1 else n / 1000000000000000000
def re18 (n : Int) : Int := if n < 0 ∧ n % 1000000000000000000 ≠ 0 then 1000000000000000000 - n % 1000000000000000000 else n % 1000000000000000000
theorem tr18_eq (n : Int) : n.natAbs = (tr18 n).natAbs * 10 ^ 18 + (re18 n).toNat ∧ 0 ≤ re18 n ∧ re18 n < 1000000000000000000 ∧ (0 < tr18 n → 0 ≤ n) ∧ (tr18 n < 0 → n < 0) := by
  unfold tr18 re18; split <;> omega
theorem tx_size (n : Int) : (tx n).size = (Lib.itoa n).length := by unfold tx; simp [ByteArray.size]
theorem itoa_u {n : Int} (h : 0 ≤ n) : Lib.itoa n = Lib.decDigits n.toNat := by unfold Lib.itoa; rw [if_neg (by omega)]
theorem rp_eq (c : Int) : rp { data := { toList := [48] } } c = ⟨(List.replicate c.toNat (48 : UInt8)).toArray⟩ := by
  unfold rp
  have : ∀ k, Lib.repeatL [48] k = List.replicate k (48 : UInt8) := fun k => by
    induction k with
    | zero => rfl
    | succ k ih => rw [Lib.repeatL, ih]; rfl
  rw [this]
theorem rp_size (c : Int) : (rp { data := { toList := [48] } } c).size = c.toNat := by rw [rp_eq]; simp [ByteArray.size]
theorem tx_small {d : Int} (h0 : 0 ≤ d) (h1 : d < 1000000000000000000) : (tx d).size ≤ 18 ∧ (tx d).size = Lib.nDigits d.toNat := by
  rw [tx_size, itoa_u h0, Lib.decDigits_length]
  exact ⟨nDigits_le 17 d.toNat (by omega), rfl⟩
/-- A numeral out of its two parts. -/
theorem tx_parts {n : Int} (h : tr18 n ≠ 0) : tx (tr18 n) ++ rp { data := { toList := [48] } } (18 - ((tx (re18 n)).size : Int)) ++ tx (re18 n) = tx n := by
  obtain ⟨e1, e2, e3, e4, e5⟩ := tr18_eq n
  obtain ⟨s1, s2⟩ := tx_small e2 e3
  rw [rp_eq]
  have hd := dec_pad 17 (tr18 n).natAbs (re18 n).toNat (by omega) (by omega)
  rw [show 17 + 1 = 18 from rfl, ← e1] at hd
  have e6 : (18 - ((tx (re18 n)).size : Int)).toNat = 18 - Lib.nDigits (re18 n).toNat := by omega
  rw [e6]
  unfold tx
  rw [ByteArray.mk_append_mk, ByteArray.mk_append_mk]
  congr 2
  rw [itoa_u e2, List.append_assoc]
  unfold Lib.itoa
  by_cases hn : n < 0
  · rw [if_pos hn, if_pos (by omega), hd]; rfl
  · rw [if_neg hn, if_neg (by omega), show (tr18 n).toNat = (tr18 n).natAbs by omega, show n.toNat = n.natAbs by omega, hd]
theorem tx_le {n : Int} (h : InR n) : (tx n).size ≤ 40 := by rw [tx_size]; exact itoa_len h
theorem app_size (a b : ByteArray) : (a ++ b).size = a.size + b.size := by simp [ByteArray.size_append]
theorem i64w {n : Int} (h0 : -9223372036854775808 ≤ n) (h1 : n ≤ 9223372036854775807) : IntKind.i64.wrap n = n := by rw [IntKind.wrap_i64]; omega
theorem clip_ok {n : Int} (_ : InR n) : okI (clip n) = true := by rw [okI_iff]; unfold clip; split <;> (try split) <;> omega
set_option maxHeartbeats 1000000 in
theorem dw_step (hT : Tab rootW) (B B' : Int) (hB : DwOk B)
    (hs : ∀ n, InR n → -B' < n → n < B' → (-9223372036854775808 ≤ n ∧ n ≤ 9223372036854775807) ∨ (-B < tr18 n ∧ tr18 n < B)) : DwOk B' := by
  intro h l k g0 g1 w hw
  have hn := (hi_W2 k).2.2
  have hsp := hs _ hn g0 g1
  refine calls_specK (envDW hT B hB) hcokP 80 (v := .string (tx (W2 h l))) ?_ (all_bel rfl) rfl w hw
  rw [decW_vc hT B hB h l (fun v => v = .string (tx (W2 h l))) _ rfl _ rfl _ rfl _ rfl _ rfl _ rfl _ rfl _ rfl _ rfl _ rfl _ rfl _ rfl _ rfl _ rfl _ rfl _ rfl]
  rw [k, bcase_t, clip_ok hn, bcase_t, bcase_t]
  have e1 : h = hi (W2 h l) := (hi_W2 k).1.symm
  have e2 : l = lo (W2 h l) := (hi_W2 k).2.1.symm
  have hneg : decide (h < 0) = decide (W2 h l < 0) := by
    rw [decide_eq_decide]; conv => lhs; rw [e1]
    exact hi_neg _
  have hcl : (hi (clip (W2 h l)) == h && (lo (clip (W2 h l)) == l && true)) = decide (-9223372036854775808 ≤ W2 h l ∧ W2 h l ≤ 9223372036854775807) := by
    rw [Bool.eq_iff_iff]
    simp only [Bool.and_eq_true, beq_iff_eq, decide_eq_true_eq, and_true]
    constructor
    · rintro ⟨a, b⟩
      have := hilo_inj (a.trans e1) (b.trans e2)
      unfold clip at this; split at this <;> (try split at this) <;> omega
    · intro a
      have : clip (W2 h l) = W2 h l := by unfold clip; rw [if_neg (by omega), if_neg (by omega)]
      rw [this]; exact ⟨e1.symm, e2.symm⟩
  rw [hcl, hneg]
  generalize W2 h l = n at *
  have hq : InR (n / 1000000000000000000) := by unfold InR at *; omega
  have hq1 : InR (n / 1000000000000000000 + 1) := by unfold InR at *; omega
  have hr : okU (n % 1000000000000000000) = true := by rw [okU_iff]; omega
  have hr2 : n % 1000000000000000000 < 1000000000000000000 := Int.emod_lt_of_pos _ (by omega)
  have hr1 : 0 ≤ n % 1000000000000000000 := Int.emod_nonneg _ (by omega)
  have W : W2 (hi (n / 1000000000000000000)) (lo (n / 1000000000000000000)) = n / 1000000000000000000 := W2_hilo _
  have W1 : W2 (hi (clamp (n / 1000000000000000000 + 1))) (lo (clamp (n / 1000000000000000000 + 1))) = n / 1000000000000000000 + 1 := by rw [W2_hilo, clamp_of hq1]
  rw [W, W1, okW_hilo hq, okW_hilo (show InR (clamp (n / 1000000000000000000 + 1)) from clamp_in _), hr]
  simp only [Bool.and_true, Bool.true_and, bcase_t]
  refine bcase_in (fun hd => ?_) fun hd => ?_
  · rw [decide_eq_true_eq] at hd
    have : clip n = n := by unfold clip; rw [if_neg (by omega), if_neg (by omega)]
    rw [this]
  · rw [decide_eq_false_iff_not] at hd
    have hsp' : -B < tr18 n ∧ tr18 n < B := by omega
    have ht : tr18 n ≠ 0 := by unfold tr18; split <;> omega
    have hfin := tx_parts ht
    obtain ⟨_, r0, r1, _, _⟩ := tr18_eq n
    obtain ⟨s1, s2⟩ := tx_small r0 r1
    have key : ∀ q d, q = tr18 n → d = re18 n → InR q → bcase (decide (0 ≤ IntKind.i64.wrap (18 - ((tx d).size : Int))) && decide (IntKind.i64.wrap (18 - ((tx d).size : Int)) ≤ 1048576))
        (bcase (decide (((tx q).size + (rp { data := { toList := [48] } } (IntKind.i64.wrap (18 - ((tx d).size : Int)))).size : Nat) ≤ (9223372036854775807 : Int)))
          (bcase (decide (((tx q ++ rp { data := { toList := [48] } } (IntKind.i64.wrap (18 - ((tx d).size : Int)))).size + (tx d).size : Nat) ≤ (9223372036854775807 : Int)))
            (Value.string (tx q ++ rp { data := { toList := [48] } } (IntKind.i64.wrap (18 - ((tx d).size : Int))) ++ tx d) = Value.string (tx n)) False) False) False := by
      rintro q d rfl rfl hin
      have hw1 := i64w (n := 18 - ((tx (re18 n)).size : Int)) (by omega) (by omega)
      have hle := tx_le hin
      rw [hw1, decide_eq_true (show 0 ≤ 18 - ((tx (re18 n)).size : Int) by omega), decide_eq_true (show 18 - ((tx (re18 n)).size : Int) ≤ 1048576 by omega)]
      have z1 := rp_size (18 - ((tx (re18 n)).size : Int))
      rw [app_size, z1, decide_eq_true (by omega), decide_eq_true (by omega), hfin]
      rfl
    refine bcase_in (fun hlt => ?_) fun hlt => ?_
    · rw [decide_eq_true_eq] at hlt
      refine bcase_in (fun hz => ?_) fun hz => ?_
      · have hz' : n % 1000000000000000000 ≠ 0 := by simpa using hz
        have t1 : tr18 n = n / 1000000000000000000 + 1 := by unfold tr18; rw [if_pos ⟨hlt, hz'⟩]
        have t2 : re18 n = 1000000000000000000 - n % 1000000000000000000 := by unfold re18; rw [if_pos ⟨hlt, hz'⟩]
        have hu : IntKind.u64.wrap (1000000000000000000 - n % 1000000000000000000) = 1000000000000000000 - n % 1000000000000000000 := by rw [IntKind.wrap_u64]; omega
        rw [hu, ← t1, ← t2, show okU (re18 n) = true by rw [okU_iff]; omega, decide_eq_true hsp'.1, decide_eq_true hsp'.2]
        simp only [Bool.and_true, bcase_t]
        exact key _ _ rfl rfl (by rw [t1]; exact hq1)
      · have hz' : n % 1000000000000000000 = 0 := by simpa using hz
        have t1 : tr18 n = n / 1000000000000000000 := by unfold tr18; rw [if_neg (by omega)]
        have t2 : re18 n = n % 1000000000000000000 := by unfold re18; rw [if_neg (by omega)]
        rw [← t1, ← t2, decide_eq_true hsp'.1, decide_eq_true hsp'.2]
        simp only [Bool.and_true, bcase_t]
        exact key _ _ rfl rfl (by rw [t1]; exact hq)
    · rw [decide_eq_false_iff_not] at hlt
      have t1 : tr18 n = n / 1000000000000000000 := by unfold tr18; rw [if_neg (by omega)]
      have t2 : re18 n = n % 1000000000000000000 := by unfold re18; rw [if_neg (by omega)]
      rw [← t1, ← t2, decide_eq_true hsp'.1, decide_eq_true hsp'.2]
      simp only [Bool.and_true, bcase_t]
      exact key _ _ rfl rfl (by rw [t1]; exact hq)
theorem dw_all (hT : Tab rootW) : DwOk 170141183460469231731687303715884105729 := by
  have h0 : DwOk 0 := fun h l _ a b => by omega
  have h1 : DwOk 9223372036854775808 := dw_step hT 0 _ h0 fun n _ a b => .inl (by omega)
  have h2 : DwOk 9223372036854775808000000000000000000 := dw_step hT _ _ h1 fun n _ a b => .inr (by unfold tr18; split <;> omega)
  exact dw_step hT _ _ h2 fun n _ a b => .inr (by unfold tr18; split <;> omega)
end

end Go.Proofs.YtidkpdabidlnnaaGreatDoor


/-
  The wide number of a text: the walk.
-/



namespace Go.Proofs.YtidkpdabidlnnaaGreatDoor

open Go.Den Go.RowKit

set_option maxRecDepth 100000

set_option linter.unusedSectionVars false

variable [Inhabited Root]

theorem scale10 {n : Int} (hn : InR n) (w : World) :
    Calls Tryz.prog 76 #[.agg #[.int .i64 (hi n), .int .u64 (lo n)], .int .u32 10] w fun e w' =>
      e = .returned (.agg #[.int .i64 (hi (clamp (n * 10))), .int .u64 (lo (clamp (n * 10)))]) ∧ Below w.heap.size w w' := scale_any hn (by omega) (by omega) w
theorem take_snocB (s : ByteArray) (k : Nat) (h : k < s.size) : s.data.toList.take (k + 1) = s.data.toList.take k ++ [s[k]] := by
  rw [List.take_succ_eq_append_getElem (by simpa using h)]; rfl
theorem dropB (s : ByteArray) (k : Nat) (h : k < s.size) : s.data.toList = s.data.toList.take k ++ s[k] :: s.data.toList.drop (k + 1) := by
  have h1 : k < s.data.toList.length := by simpa using h
  conv => lhs; rw [← List.take_append_drop k s.data.toList, List.drop_eq_getElem_cons h1]
  rfl
theorem isDig_iff (c : UInt8) : isDig c = true ↔ 48 ≤ (c.toNat : Int) ∧ (c.toNat : Int) ≤ 57 := by
  unfold isDig; simp; omega
/-- A rune that is no digit. -/
theorem val_big {r : Int} (h : ¬ (48 ≤ r ∧ r ≤ 57)) : 10 ≤ valI r := by
  unfold valI; split
  · omega
  · omega
theorem rune_dig (s : ByteArray) (pos : Nat) (h : pos < s.size) (hd : isDig s[pos] = true) : Utf8.decode s pos = (s[pos].toNat, 1) := by
  rw [isDig_iff] at hd
  exact decode_ascii s pos h (by omega)
theorem rune_not (s : ByteArray) (pos : Nat) (h : pos < s.size) (hd : isDig s[pos] = false) : ¬ (48 ≤ ((Utf8.decode s pos).1 : Int) ∧ ((Utf8.decode s pos).1 : Int) ≤ 57) := by
  intro hr
  by_cases ha : (s[pos]'h).toNat < 128
  · rw [decode_ascii s pos h ha] at hr
    have := (isDig_iff s[pos]).2 hr
    rw [this] at hd; cases hd
  · have := (decode_high s pos h (by omega)).1
    omega
theorem iterPos_of {w : World} {k p : Nat} {s : ByteArray} (h : w.heap[k]? = some (.stringIter s p)) : w.iterPos k = p := by simp [World.iterPos, h]
/-- The loop: what it keeps. -/
def UwR (neg : Bool) (d : ByteArray) (w wr : World) : Prop := ∃ (pos : Nat) (v : Int), pos ≤ d.size ∧ InR v ∧ uwGo neg (d.data.toList.take pos) 0 = some v ∧
  Blk wr w.heap.size #[.int .i64 0, .int .u64 0] 125 ∧ Blk wr (w.heap.size + 1) #[.int .i64 (hi v), .int .u64 (lo v)] 125 ∧
  wr.heap[w.heap.size + 1 + 1]? = some (.stringIter d pos) ∧ Below w.heap.size w wr

set_option maxHeartbeats 4000000 in
theorem undecW_short (hT : Tab rootW) (s : ByteArray) (neg : Bool) (d : ByteArray) (hs : s.size ≤ 40)
    (hcut : ∀ w : World, Calls Tryz.prog 73 #[.string s, .string ⟨#[45]⟩] w fun e w' => e = .returned (.tuple #[.string d, .bool neg]) ∧ w' = w) (w : World) (hw : Held w)
    (r : Option Int) (hr : r = (uwGo neg d.data.toList 0).bind fun w => if Lib.itoa w = s.data.toList then some w else none) :
    Calls Tryz.prog 55 #[.string s] w fun e w' => e = .returned (.tuple #[wv (r.getD 0), .bool r.isSome]) ∧ Below w.heap.size w w' := by
  have DW := Lib.hid (dw_all hT)
  have HR := Lib.hid hr; clear hr
  have HC := Lib.hid hcut; clear hcut
  have hs' : ((s.size : Nat) : Int) ≤ 40 := by omega
  go_enter Tryz.func55, Tryz.ntmps55
  go_wp2_with (go_at_call 73; refine (HC.out _).mono ?_; rintro e w' ⟨rfl, rfl⟩)
  go_loopw [] (fun wr => UwR neg d w wr) (fun wr => d.size - wr.iterPos (w.heap.size + 1 + 1))
  case atStart =>
    refine ⟨0, 0, Nat.zero_le _, zero_in, rfl, ((Blk.new rfl).old _).old _, (Blk.new (by simp)).old _, ?_, (((Below.refl _ w).alloc (Nat.le_refl _) _).alloc (by simp) _).alloc (by simp; omega) _⟩
    have := World.iter_heap ((w.alloc (.cells #[.int .i64 0, .int .u64 0] 125)).alloc (.cells #[.int .i64 0, .int .u64 0] 125)) d 0
    simpa using this
  case round =>
    obtain ⟨pos, v, hpos, hv, hgo, g0, g1, hit, gB⟩ := hrel
    have hsz : w.heap.size + 1 + 1 < wr.heap.size := (Array.getElem?_eq_some_iff.1 hit).1
    by_cases hp : pos < d.size
    · by_cases hdig : isDig d[pos] = true
      · obtain ⟨c, hc⟩ : ∃ c : Int, ((d[pos]'hp).toNat : Int) = c := ⟨_, rfl⟩
        have hcd := (isDig_iff _).1 hdig
        rw [hc] at hcd
        have hgo2 : uwGo neg (d.data.toList.take (pos + 1)) 0 = some (uwNext neg v (c - 48)) := by
          rw [take_snocB d pos hp, uwGo_app, hgo]; simp [uwGo, hdig, hc]
        have hval : ∀ w, Calls Tryz.prog 74 #[.int .i32 c] w fun e w' => e = .returned (.int .i64 (c - 48)) ∧ w' = w := fun w => by
          have := value_any c (by omega) (by omega) w
          rwa [show valI c = c - 48 by unfold valI; rw [if_neg (by omega), if_pos hcd]] at this
        have hnx : ∀ ty, (Instr.next (.pointer (some ⟨w.heap.size + 1 + 1, 0, none⟩)) true ty).run Tryz.prog wr = .ok (.tuple #[.bool true, .int .i64 pos, .int .i32 c]) (wr.iterAt (w.heap.size + 1 + 1) d (pos + 1)) := fun ty => by
          rw [Lib.run_next_ascii_at wr _ d pos ty hit hp (by omega), hc]
        have hit2 := Lib.iterAt_heap wr (w.heap.size + 1 + 1) d pos (pos + 1) hit
        have gB2 := Lib.below_iterAt gB (k := w.heap.size + 1 + 1) (by omega) d (pos + 1)
        have h0 : Blk (wr.iterAt (w.heap.size + 1 + 1) d (pos + 1)) w.heap.size #[.int .i64 0, .int .u64 0] 125 := by unfold Blk; rw [Lib.iterAt_other _ _ _ _ _ (by omega)]; exact g0
        have h1 : Blk (wr.iterAt (w.heap.size + 1 + 1) d (pos + 1)) (w.heap.size + 1) #[.int .i64 (hi v), .int .u64 (lo v)] 125 := by unfold Blk; rw [Lib.iterAt_other _ _ _ _ _ (by omega)]; exact g1
        have hsz2 : (wr.iterAt (w.heap.size + 1 + 1) d (pos + 1)).heap.size = wr.heap.size := Lib.iterAt_size _ _ _ _
        have G := Lib.hid (show UwR neg d w (wr.iterAt (w.heap.size + 1 + 1) d (pos + 1)) → True from fun _ => trivial)
        have c1 := h1.two
        have HW := Lib.hid hit
        have HGO := Lib.hid hgo2; have HIT := Lib.hid hit2; have HSZ := Lib.hid hsz2
        clear hgo hgo2 hit hit2 g0 g1 gB hsz2 hc G
        generalize wr.iterAt (w.heap.size + 1 + 1) d (pos + 1) = wi at *
        cases neg
        all_goals
          go_wp2_with (first
            | (go_at_call 74; refine (hval _).mono ?_; rintro e w' ⟨rfl, rfl⟩)
            | (go_at_call 76; refine (scale10 hv _).mono ?_; rintro e w1 ⟨rfl, hb1⟩; replace h0 := Blk.keep hb1 h0; replace h1 := Blk.keep hb1 h1; have HIT1 := Lib.hid ((hb1.block _ (Array.getElem?_eq_some_iff.1 HIT.out).1).trans HIT.out); replace gB2 := keepW gB2 hb1)
            | (go_at_call 57; refine (of_any _ (by omega) (by omega) _).mono ?_; rintro e w2 ⟨rfl, hb2⟩; replace h0 := Blk.keep hb2 h0; replace h1 := Blk.keep hb2 h1; have HIT2 := Lib.hid ((hb2.block _ (Array.getElem?_eq_some_iff.1 HIT1.out).1).trans HIT1.out); replace gB2 := keepW gB2 hb2)
            | (go_at_call 75; refine (add_n (clamp_in _) (by unfold InR; omega) _).mono ?_; rintro e w3 ⟨rfl, hb3⟩; replace h0 := Blk.keep hb3 h0; replace h1 := Blk.keep hb3 h1; have HIT3 := Lib.hid ((hb3.block _ (Array.getElem?_eq_some_iff.1 HIT2.out).1).trans HIT2.out); replace gB2 := keepW gB2 hb3; have c2 := h1.two; have f2 := h1.free0))
          go_roundw
          case rel =>
            exact ⟨pos + 1, _, by omega, clamp_in _, HGO.out, h0.else2 (by omega), (h1.put (i := 0) _).put (i := 1) _, (Below.heap_setCell _ _ _ _ (by simp)).trans ((Below.heap_setCell _ _ _ _ (by simp)).trans HIT3.out), Below.put2 gB2 (by omega)⟩
          case measure =>
            refine Nat.lt_of_le_of_lt (Nat.le_of_eq (congrArg (d.size - ·) (iterPos_of (s := d) (p := pos + 1) ?_))) ?_
            · exact (Below.heap_setCell _ _ _ _ (by simp)).trans ((Below.heap_setCell _ _ _ _ (by simp)).trans HIT3.out)
            · show _ < d.size - World.iterPos _ _
              rw [iterPos_of HW.out]; omega
      · have hbig := val_big (rune_not d pos hp (by simpa using hdig))
        have hrl := decode_le d pos
        have hval := fun w => value_any ((Utf8.decode d pos).1 : Int) (by omega) (by omega) w
        have hnx : ∀ ty, (Instr.next (.pointer (some ⟨w.heap.size + 1 + 1, 0, none⟩)) true ty).run Tryz.prog wr = _ := fun ty => Lib.run_next_any_at wr (w.heap.size + 1 + 1) d pos ty hit hp
        generalize pos + (Utf8.decode d pos).2 = pos2 at *
        generalize ((Utf8.decode d pos).1 : Int) = rr at *
        have gB2 := Lib.below_iterAt gB (k := w.heap.size + 1 + 1) (by omega) d pos2
        have h0 : Blk (wr.iterAt (w.heap.size + 1 + 1) d pos2) w.heap.size #[.int .i64 0, .int .u64 0] 125 := by unfold Blk; rw [Lib.iterAt_other _ _ _ _ _ (by omega)]; exact g0
        have hnone : uwGo neg d.data.toList 0 = none := by
          rw [dropB d pos hp]; exact uwGo_bad _ _ _ _ _ (by simpa using hdig)
        have hr : r = none := by rw [HR.out, hnone]; rfl
        subst hr
        have c0 := h0.two; have f0 := h0.free0
        have hdec : decide ((16 : Int) ≤ 10) = false := rfl
        clear hit g0 g1 gB hgo hrl hnone
        generalize wr.iterAt (w.heap.size + 1 + 1) d pos2 = wi at *
        generalize valI rr = vr at *
        go_wp2_with (go_at_call 74; refine (hval _).mono ?_; rintro e w' ⟨rfl, rfl⟩)
        have h3 := (h0.put (i := 0) (.int .i64 0)).put (i := 1) (.int .u64 0)
        exact bodyPost_ret (v := .tuple #[.agg #[.int .i64 0, .int .u64 0], .bool false]) (by simp [results, Tryz.results55, go_sem, (show Blk _ _ #[.int .i64 0, .int .u64 0] _ from h3).two]) rfl ⟨rfl, Below.put2 gB2 (Nat.le_refl _)⟩
    · have he : pos = d.size := by omega
      subst he
      have hall : uwGo neg d.data.toList 0 = some v := by
        rw [← hgo, List.take_of_length_le (by simp)]
      have hnx : ∀ ty, (Instr.next (.pointer (some ⟨w.heap.size + 1 + 1, 0, none⟩)) true ty).run Tryz.prog wr = _ := fun ty => Lib.run_next_end_at wr (w.heap.size + 1 + 1) d d.size ty hit hp
      have c1 := g1.two
      have hdw := DW.out (hi v) (lo v) (okW_hilo hv) (by rw [W2_hilo]; unfold InR at hv; omega) (by rw [W2_hilo]; unfold InR at hv; omega)
      rw [W2_hilo] at hdw
      have HD := Lib.hid hdw
      have hrv : r = if Lib.itoa v = s.data.toList then some v else none := by rw [HR.out, hall]; rfl
      clear hdw hall hit hgo
      by_cases heq : Lib.itoa v = s.data.toList
      · rw [if_pos heq] at hrv
        subst hrv
        have hes : ((tx v).toList == s.toList) = true := by
          rw [Lib.toList_data, Lib.toList_data, beq_iff_eq]; exact heq
        clear heq
        go_wp2_with (go_at_call 77; refine (HD.out _ (hw.below gB)).mono ?_; rintro e w1 ⟨rfl, hb1⟩; replace g0 := Blk.keep hb1 g0; replace g1 := Blk.keep hb1 g1; replace gB := keepW gB hb1; have c2 := g1.two; have c3 := g0.two; have f2 := g0.free0)
        have h3 := (g0.put (i := 0) (.int .i64 (hi v))).put (i := 1) (.int .u64 (lo v))
        exact bodyPost_ret (v := .tuple #[.agg #[.int .i64 (hi v), .int .u64 (lo v)], .bool true]) (by simp [results, Tryz.results55, go_sem, (show Blk _ _ #[.int .i64 (hi v), .int .u64 (lo v)] _ from h3).two]) rfl ⟨rfl, Below.put2 gB (Nat.le_refl _)⟩
      · rw [if_neg heq] at hrv
        subst hrv
        have hes : ((tx v).toList == s.toList) = false := by
          rw [Lib.toList_data, Lib.toList_data, beq_eq_false_iff_ne]; exact heq
        clear heq
        go_wp2_with (go_at_call 77; refine (HD.out _ (hw.below gB)).mono ?_; rintro e w1 ⟨rfl, hb1⟩; replace g0 := Blk.keep hb1 g0; replace g1 := Blk.keep hb1 g1; replace gB := keepW gB hb1; have c2 := g1.two; have c3 := g0.two; have f2 := g0.free0)
        have h3 := (g0.put (i := 0) (.int .i64 0)).put (i := 1) (.int .u64 0)
        exact bodyPost_ret (v := .tuple #[.agg #[.int .i64 0, .int .u64 0], .bool false]) (by simp [results, Tryz.results55, go_sem, (show Blk _ _ #[.int .i64 0, .int .u64 0] _ from h3).two]) rfl ⟨rfl, Below.put2 gB (Nat.le_refl _)⟩

theorem undecW_long (s : ByteArray) (hs : 40 < s.size) (w : World) :
    Calls Tryz.prog 55 #[.string s] w fun e w' => e = .returned (.tuple #[wv 0, .bool false]) ∧ Below w.heap.size w w' := by
  have hs' : (40 : Int) < ((s.size : Nat) : Int) := by omega
  go_enter Tryz.func55, Tryz.ntmps55
  go_wp2
  exact bodyPost_ret (v := .tuple #[.agg #[.int .i64 0, .int .u64 0], .bool false]) (by simp [results, Tryz.results55, go_sem]) rfl ⟨rfl, (Below.refl _ w).alloc (Nat.le_refl _) _⟩
/-- text.UndecWide. -/
theorem undecW_any (hT : Tab rootW) (s : ByteArray) (w : World) (hw : Held w) :
    Calls Tryz.prog 55 #[.string s] w fun e w' => e = .returned (.tuple #[wv ((uwS s.data.toList).getD 0), .bool (uwS s.data.toList).isSome]) ∧ Below w.heap.size w w' := by
  have hl : s.data.toList.length = s.size := by simp
  by_cases hs : 40 < s.size
  · have e : uwS s.data.toList = none := by unfold uwS; rw [if_pos (by omega)]
    rw [e]
    exact undecW_long s hs w
  · refine undecW_short hT s (Lib.hasPrefix s.data.toList [45]) ⟨(Lib.trimPrefix s.data.toList [45]).toArray⟩ (by omega) (fun w => Tryz.strings_CutPrefix s ⟨#[45]⟩ w) w hw _ ?_
    unfold uwS; rw [if_neg (by omega)]
end Go.Proofs.YtidkpdabidlnnaaGreatDoor


/-
  Contracts as oracles: the numbers of a text.
-/

namespace Go.Proofs.YtidkpdabidlnnaaGreatDoor

open Go.Den Go.RowKit
noncomputable section
set_option maxRecDepth 100000

set_option linter.unusedSectionVars false

variable [Inhabited Root]

noncomputable def uwV (s : ByteArray) : Int := (uwS s.data.toList).getD 0
noncomputable def uwK (s : ByteArray) : Bool := (uwS s.data.toList).isSome
theorem uwV_in (s : ByteArray) : InR (uwV s) := by
  unfold uwV
  cases h : uwS s.data.toList with
  | none => exact zero_in
  | some v => exact (uw_some h).2
noncomputable def uwdS : Array Value → Option (Bool × Value)
  | ⟨[.string s]⟩ => some (true, .tuple #[wv (uwV s), .bool (uwK s)])
  | _ => none
noncomputable def pkUW (hT : Tab rootW) : PK Tryz.prog where
  f := 55
  spec := uwdS
  body := by kernel_rfl
  ok := fun args r hr hok => by
    unfold uwdS at hr
    split at hr
    · cases hr
      exact ⟨all_bel rfl, rfl, fun w hw => undecW_any hT _ w hw⟩
    · cases hr
noncomputable def envUD (hT : Tab rootW) : Env Tryz.prog := envS.mem false ((pkUW hT).mem :: pksW)
end

end Go.Proofs.YtidkpdabidlnnaaGreatDoor


/-
  Read by wip/tools/vc.py, and what follows.
-/

namespace Go.Proofs.YtidkpdabidlnnaaGreatDoor

open Go.Den Go.RowKit
noncomputable section
set_option maxRecDepth 100000

set_option linter.unusedSectionVars false

variable [Inhabited Root]

theorem undec_vc (hT : Tab rootW) (s : ByteArray) (Q : Value → Prop) : ((ev (envUD hT) 80).call [] 47 #[.string s] [] B0).holds (fun r => Q r.v) = (bcase (uwK s)
  (bcase (okW (hi (uwV s)) (lo (uwV s)))
    (bcase (okI (clip (W2 (hi (uwV s)) (lo (uwV s)))))
      (bcase
        (!(hi (clip (W2 (hi (uwV s)) (lo (uwV s)))) == hi (uwV s) &&
            (lo (clip (W2 (hi (uwV s)) (lo (uwV s)))) == lo (uwV s) && true)))
        (Q (Value.tuple { toList := [Value.int IntKind.i64 0, Value.bool false] }))
        (Q (Value.tuple { toList := [Value.int IntKind.i64 (clip (W2 (hi (uwV s)) (lo (uwV s)))), Value.bool true] })))
      False)
    False)
  (bcase (okW (hi (uwV s)) (lo (uwV s)))
    (bcase (okI (clip (W2 (hi (uwV s)) (lo (uwV s)))))
      (bcase
        (!(hi (clip (W2 (hi (uwV s)) (lo (uwV s)))) == hi (uwV s) &&
            (lo (clip (W2 (hi (uwV s)) (lo (uwV s)))) == lo (uwV s) && true)))
        (Q (Value.tuple { toList := [Value.int IntKind.i64 0, Value.bool false] }))
        (Q (Value.tuple { toList := [Value.int IntKind.i64 (clip (W2 (hi (uwV s)) (lo (uwV s)))), Value.bool false] })))
      False)
    False)) := by kernel_rfl
noncomputable def udV (s : ByteArray) : Int := (udS s.data.toList).getD 0
noncomputable def udK (s : ByteArray) : Bool := (udS s.data.toList).isSome
noncomputable def uuV (s : ByteArray) : Int := (uuS s.data.toList).getD 0
noncomputable def uuK (s : ByteArray) : Bool := (uuS s.data.toList).isSome
theorem uw_cases (s : ByteArray) : (∃ v, uwS s.data.toList = some v ∧ uwV s = v ∧ uwK s = true ∧ InR v) ∨ (uwS s.data.toList = none ∧ uwV s = 0 ∧ uwK s = false) := by
  unfold uwV uwK
  cases h : uwS s.data.toList with
  | none => exact .inr ⟨rfl, rfl, rfl⟩
  | some v => exact .inl ⟨v, rfl, rfl, rfl, (uw_some h).2⟩
theorem clip_same {v : Int} (_h : InR v) : (hi (clip v) == hi v && (lo (clip v) == lo v && true)) = decide (-9223372036854775808 ≤ v ∧ v ≤ 9223372036854775807) := by
  rw [Bool.eq_iff_iff]
  simp only [Bool.and_eq_true, beq_iff_eq, decide_eq_true_eq, and_true]
  constructor
  · rintro ⟨a, b⟩
    have := hilo_inj a b
    unfold clip at this; split at this <;> (try split at this) <;> omega
  · intro a
    have : clip v = v := by unfold clip; rw [if_neg (by omega), if_neg (by omega)]
    rw [this]; exact ⟨rfl, rfl⟩
theorem clip_of {v : Int} (h0 : -9223372036854775808 ≤ v) (h1 : v ≤ 9223372036854775807) : clip v = v := by
  unfold clip; rw [if_neg (by omega), if_neg (by omega)]
theorem undec_any (hT : Tab rootW) (s : ByteArray) (w : World) (hw : Held w) :
    Calls Tryz.prog 47 #[.string s] w fun e w' => e = .returned (.tuple #[.int .i64 (udV s), .bool (udK s)]) ∧ Below w.heap.size w w' := by
  refine calls_specK (envUD hT) hcokP 80 (v := .tuple #[.int .i64 (udV s), .bool (udK s)]) ?_ (all_bel rfl) rfl w hw
  rw [undec_vc hT s (fun v => v = .tuple #[.int .i64 (udV s), .bool (udK s)])]
  have hin := uwV_in s
  rw [okW_hilo hin, W2_hilo, clip_ok hin, clip_same hin]
  simp only [bcase_t]
  unfold udV udK udS
  rcases uw_cases s with ⟨v, h1, h2, h3, h4⟩ | ⟨h1, h2, h3⟩
  · rw [h1, h2, h3, bcase_t, Option.bind_some]
    by_cases h : -9223372036854775808 ≤ v ∧ v ≤ 9223372036854775807
    · rw [decide_eq_true h, if_pos h, clip_of h.1 h.2]; rfl
    · rw [decide_eq_false h, if_neg h]; rfl
  · rw [h1, h2, h3]
    rw [decide_eq_true (by omega), clip_of (by omega) (by omega)]; rfl
noncomputable def undS : Array Value → Option (Bool × Value)
  | ⟨[.string s]⟩ => some (true, .tuple #[.int .i64 (udV s), .bool (udK s)])
  | _ => none
noncomputable def ununS : Array Value → Option (Bool × Value)
  | ⟨[.string s]⟩ => some (true, .tuple #[.int .u64 (uuV s), .bool (uuK s)])
  | _ => none
noncomputable def pkUnd (hT : Tab rootW) : PK Tryz.prog where
  f := 47
  spec := undS
  body := by kernel_rfl
  ok := fun args r hr hok => by
    unfold undS at hr
    split at hr
    · cases hr
      exact ⟨all_bel rfl, rfl, fun w hw => undec_any hT _ w hw⟩
    · cases hr
noncomputable def pkDecW (hT : Tab rootW) : PK Tryz.prog := pkDW _ (dw_all hT)
end

end Go.Proofs.YtidkpdabidlnnaaGreatDoor


/-
  Plain facts of hexadecimal texts. No program is named here.
-/

namespace Go.Proofs.YtidkpdabidlnnaaGreatDoor

/-- A hexadecimal digit. -/
def hexd (n : Nat) : UInt8 := UInt8.ofNat (if n < 10 then 48 + n else 87 + n)
def hexP (c : UInt8) : List UInt8 := [hexd (c.toNat / 16), hexd (c.toNat % 16)]
/-- The text of bytes. -/
def hexL : List UInt8 → List UInt8
  | [] => []
  | c :: r => hexP c ++ hexL r
theorem hexL_app : ∀ a b, hexL (a ++ b) = hexL a ++ hexL b
  | [], _ => rfl
  | c :: r, b => by simp [hexL, hexL_app r b]
theorem hexL_len : ∀ l, (hexL l).length = 2 * l.length
  | [] => rfl
  | c :: r => by simp [hexL, hexP, hexL_len r]; omega
def isHex (c : UInt8) : Bool := (decide (48 ≤ c.toNat) && decide (c.toNat ≤ 57)) || (decide (97 ≤ c.toNat) && decide (c.toNat ≤ 102))
/-- A digit's value. -/
def hexv (c : UInt8) : Nat := if 97 ≤ c.toNat then c.toNat - 87 else c.toNat - 48
def pairs : List UInt8 → List UInt8
  | x :: y :: r => UInt8.ofNat (16 * hexv x + hexv y) :: pairs r
  | _ => []
/-- The bytes of a text. -/
def unhexL (l : List UInt8) : Option (List UInt8) := if l.length % 2 = 0 ∧ l.all isHex = true then some (pairs l) else none
theorem hexv_lt {c : UInt8} (h : isHex c = true) : hexv c < 16 := by
  unfold isHex at h; unfold hexv; simp at h; split <;> omega
theorem hexd_nat {n : Nat} (h : n < 16) : (hexd n).toNat = if n < 10 then 48 + n else 87 + n := by
  unfold hexd; simp; split <;> omega
theorem hexd_isHex {n : Nat} (h : n < 16) : isHex (hexd n) = true := by
  unfold isHex; rw [hexd_nat h]; simp; split <;> omega
theorem hexv_hexd {n : Nat} (h : n < 16) : hexv (hexd n) = n := by
  unfold hexv; rw [hexd_nat h]; split <;> split <;> omega
theorem hexd_hexv {c : UInt8} (h : isHex c = true) : hexd (hexv c) = c := by
  have h1 := hexv_lt h
  apply UInt8.toNat_inj.1
  rw [hexd_nat h1]
  unfold isHex at h; simp at h
  by_cases hc : 97 ≤ c.toNat
  · have e : hexv c = c.toNat - 87 := by unfold hexv; rw [if_pos hc]
    rw [e, if_neg (by omega)]; omega
  · have e : hexv c = c.toNat - 48 := by unfold hexv; rw [if_neg hc]
    rw [e, if_pos (by omega)]; omega
theorem hexL_isHex : ∀ l, (hexL l).all isHex = true
  | [] => rfl
  | c :: r => by
    have h1 : c.toNat < 256 := c.toNat_lt
    simp only [hexL, hexP, List.cons_append, List.nil_append, List.all_cons, hexL_isHex r, hexd_isHex (show c.toNat / 16 < 16 by omega), hexd_isHex (show c.toNat % 16 < 16 by omega)]; rfl
theorem pairs_hexL : ∀ l, pairs (hexL l) = l
  | [] => rfl
  | c :: r => by
    have h1 : c.toNat < 256 := c.toNat_lt
    simp only [hexL, hexP, List.cons_append, List.nil_append, pairs, pairs_hexL r, hexv_hexd (show c.toNat / 16 < 16 by omega), hexv_hexd (show c.toNat % 16 < 16 by omega)]
    rw [show 16 * (c.toNat / 16) + c.toNat % 16 = c.toNat by omega]
    simp
theorem unhex_hex (l : List UInt8) : unhexL (hexL l) = some l := by
  unfold unhexL
  rw [if_pos ⟨by rw [hexL_len]; omega, hexL_isHex l⟩, pairs_hexL]
theorem hexL_pairs : ∀ (n : Nat) (l : List UInt8), l.length = 2 * n → l.all isHex = true → hexL (pairs l) = l
  | 0, l, h, _ => by rw [List.length_eq_zero_iff.1 (by omega : l.length = 0)]; rfl
  | n + 1, [], h, _ => by simp at h
  | n + 1, [x], h, _ => by simp at h; omega
  | n + 1, x :: y :: r, h, ha => by
    simp only [List.all_cons, Bool.and_eq_true] at ha
    have hx := hexv_lt ha.1; have hy := hexv_lt ha.2.1
    have e : (UInt8.ofNat (16 * hexv x + hexv y)).toNat = 16 * hexv x + hexv y := by simp; omega
    simp only [pairs, hexL, hexP, e, hexL_pairs n r (by simp at h; omega) ha.2.2]
    rw [show (16 * hexv x + hexv y) / 16 = hexv x by omega, show (16 * hexv x + hexv y) % 16 = hexv y by omega, hexd_hexv ha.1, hexd_hexv ha.2.1]
    rfl
theorem hex_unhex {l b : List UInt8} (h : unhexL l = some b) : hexL b = l := by
  unfold unhexL at h
  split at h
  · rename_i hc
    cases h
    exact hexL_pairs (l.length / 2) l (by omega) hc.2
  · cases h
theorem pairs_len : ∀ (l : List UInt8), (pairs l).length = l.length / 2
  | [] => rfl
  | [x] => by simp [pairs]
  | x :: y :: r => by simp only [pairs, List.length_cons, pairs_len r]; omega
end Go.Proofs.YtidkpdabidlnnaaGreatDoor


/-
  The document's text of bytes: the walk.
-/




namespace Go.Proofs.YtidkpdabidlnnaaGreatDoor

open Go.RowKit

set_option maxRecDepth 100000

/-- A byte, and bytes, as values. -/
abbrev u8 (c : UInt8) : Value := .int .u8 (c.toNat : Int)
theorem info_u8 : (Tryz.prog.info? 5).map (fun i => (i.zero, i.size, i.bytes)) = some (some (.int .u8 0), 1, 1) := by kernel_rfl
/-- Bytes that the call owns, told as a string. -/
theorem conv_own {w : World} {base n : Nat} {v : Value} {l : List UInt8} (h : w.ownsRow base 5 1 v n (l.map u8)) :
    (convert 53 9 v).run Tryz.prog w = .ok (.string ⟨l.toArray⟩) w := by
  have hl : l.length = n := by have := h.1; simpa using this
  rcases Nat.eq_zero_or_pos n with h0 | h0
  · have he : l = [] := List.length_eq_zero_iff.1 (by omega)
    subst he
    subst h0
    rcases h.2 with ⟨rfl, _⟩ | ⟨g, cap, cur, rfl, _⟩
    · rw [run_convert_bytes_string w 53 9 5 none 0 0 Tryz.underlying53 Tryz.underlying5 Tryz.underlying9]
      simp [Conv.bytesToString]; rfl
    · exact run_convert_bytes_back (P := Tryz.prog) w 53 9 5 ⟨g, 0, none⟩ cap [] Tryz.underlying53 Tryz.underlying5 Tryz.underlying9 (fun j hj => by simp at hj)
  · obtain ⟨g, cap, rfl, _, _⟩ := h.form h0
    have hc := h.cells (g := g) rfl
    subst hl
    exact run_convert_bytes_back (P := Tryz.prog) w 53 9 5 ⟨g, 0, none⟩ cap l Tryz.underlying53 Tryz.underlying5 Tryz.underlying9 (fun j hj => hc j _ (by simp [hj]))
/-- Behind an append to a row of the call's own. -/
theorem own_next {W wr w' : World} {v v' : Value} {n : Nat} {l : List UInt8} {x : Int} {c : UInt8} (hx : x = (c.toNat : Int)) (hb : Below W.heap.size W wr) (h0 : (wr.alloc (.cells #[.int .u8 x] 5)).ownsRow W.heap.size 5 1 v n (l.map u8))
    (h1 : w'.ownsRow W.heap.size 5 1 v' (n + 1) (l.map u8 ++ [.int .u8 x])) (hg : (wr.alloc (.cells #[.int .u8 x] 5)).grownBy w' v.ownBlock) :
    w'.ownsRow W.heap.size 5 1 v' (n + 1) ((l ++ [c]).map u8) ∧ Below W.heap.size W w' := by
  subst hx
  refine ⟨by rw [List.map_append]; exact h1, ?_⟩
  have hb2 := hb.alloc hb.size (.cells #[.int .u8 (c.toNat : Int)] 5)
  exact hb2.grown hg hb2.size fun k hk => (h0.lt k hk).1
/-- What the loops keep: i bytes are told, and k digits of the next one. -/
def HxL (bs : List UInt8) (i k : Nat) : List UInt8 := hexL (bs.take i) ++ (hexP (bs.getD i 0)).take k
def HxR (bs : List UInt8) (w : World) (i k : Nat) (v : Value) (wr : World) : Prop :=
  wr.ownsRow w.heap.size 5 1 v (2 * i + k) ((HxL bs i k).map u8) ∧ Below w.heap.size w wr
theorem HxL_0 (bs : List UInt8) (i : Nat) (h : i < bs.length) : HxL bs i 1 = HxL bs i 0 ++ [hexd (bs[i].toNat / 16)] := by
  unfold HxL; simp [hexP, List.getD, h]
theorem HxL_1 (bs : List UInt8) (i : Nat) (h : i < bs.length) : HxL bs i 2 = HxL bs i 1 ++ [hexd (bs[i].toNat % 16)] := by
  unfold HxL; simp [hexP, List.getD, h]
theorem HxL_2 (bs : List UInt8) (i : Nat) (h : i < bs.length) : HxL bs i 2 = HxL bs (i + 1) 0 := by
  unfold HxL
  rw [List.take_succ_eq_append_getElem h, hexL_app]; simp [hexP, hexL, List.getD, h]

end Go.Proofs.YtidkpdabidlnnaaGreatDoor


/-
  The text of bytes: the walk.
-/


namespace Go.Proofs.YtidkpdabidlnnaaGreatDoor

open Go.RowKit

set_option maxRecDepth 100000

theorem one2 (a b : Int) : ∀ u ∈ (#[Value.int .u8 a, .int .u8 b] : Array Value).toList, u.oneCell' = true := by
  intro u hu
  simp at hu
  rcases hu with rfl | rfl <;> rfl
theorem bits15_fin : ∀ x : Fin 256, bits BinOp.and IntKind.u8 (x.val : Int) 15 = ((x.val % 16 : Nat) : Int) := by decide +kernel
theorem bits15 (x : Nat) (h : x < 256) : bits BinOp.and IntKind.u8 (x : Int) 15 = ((x % 16 : Nat) : Int) := bits15_fin ⟨x, h⟩
def digs : ByteArray := { data := #[48, 49, 50, 51, 52, 53, 54, 55, 56, 57, 97, 98, 99, 100, 101, 102] }
theorem digs_fin : ∀ p : Fin 16, digs.data.toList.getD p.val 0 = hexd p.val := by decide +kernel
theorem digs_at (p : Nat) (h : p < 16) (h' : p < digs.size) : digs[p]'h' = hexd p := by
  have e : digs[p]'h' = digs.data.toList.getD p 0 := by
    show digs.data[p] = _
    rw [List.getD_eq_getElem?_getD, Array.getElem?_toList, Array.getElem?_eq_getElem (by exact h')]; rfl
  rw [e]; exact digs_fin ⟨p, h⟩
/-- Behind an append of two bytes to a row of the call's own. -/
theorem own_next2 {W wr w' : World} {v v' : Value} {n : Nat} {l : List UInt8} {c d : UInt8} (hb : Below W.heap.size W wr) (h0 : (wr.drew.alloc (.cells #[.int .u8 (c.toNat : Int), .int .u8 (d.toNat : Int)] 5)).ownsRow W.heap.size 5 1 v n (l.map u8))
    (h1 : w'.ownsRow W.heap.size 5 1 v' (n + 2) (l.map u8 ++ [.int .u8 (c.toNat : Int), .int .u8 (d.toNat : Int)])) (hg : (wr.drew.alloc (.cells #[.int .u8 (c.toNat : Int), .int .u8 (d.toNat : Int)] 5)).grownBy w' v.ownBlock) :
    w'.ownsRow W.heap.size 5 1 v' (n + 2) ((l ++ [c, d]).map u8) ∧ Below W.heap.size W w' := by
  refine ⟨by rw [List.map_append]; exact h1, ?_⟩
  have hb2 := hb.drew.alloc hb.drew.size (.cells #[.int .u8 (c.toNat : Int), .int .u8 (d.toNat : Int)] 5)
  exact hb2.grown hg hb2.size fun k hk => (h0.lt k hk).1
end Go.Proofs.YtidkpdabidlnnaaGreatDoor


/-
  The bytes of a text: the walk.
-/




namespace Go.Proofs.YtidkpdabidlnnaaGreatDoor

open Go.RowKit

set_option maxRecDepth 100000

/-- Bytes, the last of them perhaps by half. -/
def half : List UInt8 → List Nat
  | x :: y :: r => (16 * hexv x + hexv y) :: half r
  | [x] => [hexv x]
  | [] => []
theorem half_len : ∀ (l : List UInt8), (half l).length = (l.length + 1) / 2
  | [] => rfl
  | [x] => by simp [half]
  | x :: y :: r => by simp only [half, List.length_cons, half_len r]; omega
theorem half_even : ∀ (n : Nat) (a : List UInt8) (c : UInt8), a.length = 2 * n → half (a ++ [c]) = half a ++ [hexv c]
  | 0, a, c, h => by rw [List.length_eq_zero_iff.1 (by omega : a.length = 0)]; rfl
  | n + 1, [], c, h => by simp at h
  | n + 1, [x], c, h => by simp at h; omega
  | n + 1, x :: y :: r, c, h => by simp only [List.cons_append, half, half_even n r c (by simp at h; omega)]
theorem half_odd : ∀ (n : Nat) (a : List UInt8) (c : UInt8), a.length = 2 * n + 1 → a.all isHex = true →
    (half a).getD n 0 < 16 ∧ half (a ++ [c]) = (half a).set n (16 * (half a).getD n 0 + hexv c)
  | 0, [], c, h, _ => by simp at h
  | 0, [x], c, h, ha => ⟨by simp at ha; simpa [half] using hexv_lt ha, rfl⟩
  | 0, x :: y :: r, c, h, _ => by simp at h
  | n + 1, [], c, h, _ => by simp at h
  | n + 1, [x], c, h, _ => by simp at h
  | n + 1, x :: y :: r, c, h, ha => by
    simp only [List.all_cons, Bool.and_eq_true] at ha
    obtain ⟨h1, h2⟩ := half_odd n r c (by simp at h; omega) ha.2.2
    refine ⟨by simpa [half] using h1, ?_⟩
    simp only [List.cons_append, half, h2]
    simp
theorem half_pairs : ∀ (n : Nat) (l : List UInt8), l.length = 2 * n → l.all isHex = true → half l = (pairs l).map UInt8.toNat
  | 0, l, h, _ => by rw [List.length_eq_zero_iff.1 (by omega : l.length = 0)]; rfl
  | n + 1, [], h, _ => by simp at h
  | n + 1, [x], h, _ => by simp at h; omega
  | n + 1, x :: y :: r, h, ha => by
    simp only [List.all_cons, Bool.and_eq_true] at ha
    have hx := hexv_lt ha.1; have hy := hexv_lt ha.2.1
    have e : (UInt8.ofNat (16 * hexv x + hexv y)).toNat = 16 * hexv x + hexv y := by simp; omega
    simp only [half, pairs, List.map_cons, e, half_pairs n r (by simp at h; omega) ha.2.2]
/-- The row of bytes behind k digits. -/
def rowN (l : List UInt8) (n k : Nat) : List Nat := half (l.take k) ++ List.replicate (n - (half (l.take k)).length) 0
def rowV (l : List UInt8) (n k : Nat) : Array Value := ((rowN l n k).map fun y : Nat => Value.int .u8 ((y : Nat) : Int)).toArray
theorem rowN_len {l : List UInt8} {n k : Nat} (h : l.length = 2 * n) (hk : k ≤ l.length) : (rowN l n k).length = n := by
  unfold rowN; rw [List.length_append, List.length_replicate, half_len, List.length_take]; omega
theorem rowN_step {l : List UInt8} {n k : Nat} (h : l.length = 2 * n) (hk : k < l.length) (ha : (l.take k).all isHex = true) :
    (rowN l n k).getD (k / 2) 0 < 16 ∧ rowN l n (k + 1) = (rowN l n k).set (k / 2) (16 * (rowN l n k).getD (k / 2) 0 + hexv l[k]) := by
  have ht : (l.take k).length = k := by rw [List.length_take]; omega
  have hs : l.take (k + 1) = l.take k ++ [l[k]] := List.take_succ_eq_append_getElem hk
  unfold rowN
  rw [hs]
  rcases Nat.mod_two_eq_zero_or_one k with hp | hp
  · have hl : (half (l.take k)).length = k / 2 := by rw [half_len, ht]; omega
    have hz : n - k / 2 = (n - k / 2 - 1) + 1 := by omega
    rw [half_even (k / 2) _ _ (by omega), hl, List.length_append, hl, hz, List.replicate_succ]
    have hg : (half (l.take k) ++ 0 :: List.replicate (n - k / 2 - 1) 0).getD (k / 2) 0 = 0 := by
      rw [List.getD_eq_getElem?_getD, List.getElem?_append_right (by omega), hl]; simp
    rw [hg]
    refine ⟨by omega, ?_⟩
    rw [List.set_append_right _ _ (by omega), hl]
    simp only [Nat.sub_self, List.set_cons_zero, List.length_singleton, List.append_assoc, List.cons_append, List.nil_append]
    congr 3 <;> omega
  · have hl : (half (l.take k)).length = k / 2 + 1 := by rw [half_len, ht]; omega
    obtain ⟨h1, h2⟩ := half_odd (k / 2) (l.take k) l[k] (by omega) ha
    have hg : (half (l.take k) ++ List.replicate (n - (half (l.take k)).length) 0).getD (k / 2) 0 = (half (l.take k)).getD (k / 2) 0 := by
      rw [List.getD_eq_getElem?_getD, List.getElem?_append_left (by omega), ← List.getD_eq_getElem?_getD]
    rw [hg]
    refine ⟨h1, ?_⟩
    rw [h2, List.length_set, List.set_append_left _ _ (by omega)]
theorem rowN_full {l : List UInt8} {n : Nat} (h : l.length = 2 * n) (ha : l.all isHex = true) : rowN l n l.length = (pairs l).map UInt8.toNat := by
  unfold rowN
  rw [List.take_of_length_le (Nat.le_refl _), half_pairs n l h ha]
  rw [List.length_map, pairs_len, show n - l.length / 2 = 0 by omega]; simp
theorem hexv_val {c : UInt8} (h : isHex c = true) : valI (c.toNat : Int) = (hexv c : Int) := by
  unfold isHex at h; simp at h
  unfold valI hexv
  by_cases h1 : 97 ≤ c.toNat
  · rw [if_pos (by omega), if_pos h1]; omega
  · rw [if_neg (by omega), if_pos (by omega), if_neg h1]; omega
theorem not_hex {r : Int} (h : ¬ (48 ≤ r ∧ r ≤ 57)) (h2 : ¬ (97 ≤ r ∧ r ≤ 102)) : valI r = 16 := by
  unfold valI; rw [if_neg h2, if_neg h]
theorem rune_nothex (s : ByteArray) (pos : Nat) (h : pos < s.size) (hd : isHex s[pos] = false) : valI ((Utf8.decode s pos).1 : Int) = 16 := by
  by_cases ha : (s[pos]'h).toNat < 128
  · rw [decode_ascii s pos h ha]
    unfold isHex at hd; simp at hd
    exact not_hex (by omega) (by omega)
  · have := (decode_high s pos h (by omega)).1
    exact not_hex (by omega) (by omega)
theorem shl_or_fin : ∀ y d : Fin 16, bits BinOp.or IntKind.u8 ((y.val : Int) * 16) (d.val : Int) = ((16 * y.val + d.val : Nat) : Int) := by decide +kernel
theorem shl_or {y d : Nat} (hy : y < 16) (hd : d < 16) : bits BinOp.or IntKind.u8 ((y : Int) * 16) (d : Int) = ((16 * y + d : Nat) : Int) := shl_or_fin ⟨y, hy⟩ ⟨d, hd⟩

theorem iterPos_at {w : World} {k p : Nat} {s : ByteArray} (h : w.heap[k]? = some (.stringIter s p)) : w.iterPos k = p := by simp [World.iterPos, h]
theorem own_block {w : World} {base g n : Nat} {e : TypeId} {xs : List Value} (h : w.ownsRow base e 1 (.slice (some ⟨g, 0, none⟩) n n) n xs) : Blk w g xs.toArray e := by
  rcases h.2 with ⟨h1, _⟩ | ⟨g', cap, cur, h1, _, hg, _, _, hs, ht⟩
  · simp at h1
  · simp only [Value.slice.injEq, Option.some.injEq, Addr.mk.injEq, and_true, true_and] at h1
    obtain ⟨rfl, rfl⟩ := h1
    unfold Blk
    rw [hg, ← ht, List.take_of_length_le (by simp [hs])]
theorem made_zero (n : Nat) : (madeCells #[Value.int .u8 0] n).toList = List.replicate n (.int .u8 0) := by
  apply List.ext_getElem
  · simp [madeCells]
  · intro i h1 h2
    simp [madeCells, Nat.mod_one]
theorem rowV_zero (l : List UInt8) (n : Nat) : rowV l n 0 = (List.replicate n (Value.int .u8 0)).toArray := by
  unfold rowV rowN; simp [half]
theorem rowV_get {l : List UInt8} {n k : Nat} (h : l.length = 2 * n) (hk : k < l.length) : (rowV l n k)[k / 2]? = some (.int .u8 (((rowN l n k).getD (k / 2) 0 : Nat) : Int)) := by
  have hlen := rowN_len h (Nat.le_of_lt hk)
  unfold rowV
  rw [List.getElem?_toArray, List.getElem?_map, List.getD_eq_getElem?_getD, List.getElem?_eq_getElem (show k / 2 < (rowN l n k).length by omega)]
  rfl
theorem rowV_set {l : List UInt8} {n k : Nat} (h : l.length = 2 * n) (hk : k < l.length) (ha : (l.take k).all isHex = true) :
    (rowV l n k).setIfInBounds (k / 2) (.int .u8 ((16 * (rowN l n k).getD (k / 2) 0 + hexv l[k] : Nat) : Int)) = rowV l n (k + 1) := by
  unfold rowV
  rw [(rowN_step h hk ha).2]
  simp [List.map_set]
/-- Are all bytes of a text digits? -/
def hexB (s : ByteArray) : Bool := s.data.toList.all isHex
end Go.Proofs.YtidkpdabidlnnaaGreatDoor


/-
  The document's bytes of a text: the walk.
-/

namespace Go.Proofs.YtidkpdabidlnnaaGreatDoor

open Go.RowKit

set_option maxRecDepth 100000

/-- Bytes, the last of them perhaps without its lower half. -/
def halfR : List UInt8 → List Nat
  | x :: y :: r => (16 * hexv x + hexv y) :: halfR r
  | [x] => [16 * hexv x]
  | [] => []
theorem halfR_len : ∀ (l : List UInt8), (halfR l).length = (l.length + 1) / 2
  | [] => rfl
  | [x] => by simp [halfR]
  | x :: y :: r => by simp only [halfR, List.length_cons, halfR_len r]; omega
theorem halfR_even : ∀ (n : Nat) (a : List UInt8) (c : UInt8), a.length = 2 * n → halfR (a ++ [c]) = halfR a ++ [16 * hexv c]
  | 0, a, c, h => by rw [List.length_eq_zero_iff.1 (by omega : a.length = 0)]; rfl
  | n + 1, [], c, h => by simp at h
  | n + 1, [x], c, h => by simp at h; omega
  | n + 1, x :: y :: r, c, h => by simp only [List.cons_append, halfR, halfR_even n r c (by simp at h; omega)]
theorem halfR_odd : ∀ (n : Nat) (a : List UInt8) (c : UInt8), a.length = 2 * n + 1 → a.all isHex = true →
    (halfR a).getD n 0 ≤ 240 ∧ halfR (a ++ [c]) = (halfR a).set n ((halfR a).getD n 0 + hexv c)
  | 0, [], c, h, _ => by simp at h
  | 0, [x], c, h, ha => ⟨by have := hexv_lt (c := x) (by simpa using ha); simp [halfR]; omega, rfl⟩
  | 0, x :: y :: r, c, h, _ => by simp at h
  | n + 1, [], c, h, _ => by simp at h
  | n + 1, [x], c, h, _ => by simp at h
  | n + 1, x :: y :: r, c, h, ha => by
    simp only [List.all_cons, Bool.and_eq_true] at ha
    obtain ⟨h1, h2⟩ := halfR_odd n r c (by simp at h; omega) ha.2.2
    refine ⟨by simpa [halfR] using h1, ?_⟩
    simp only [List.cons_append, halfR, h2]
    simp
theorem halfR_pairs : ∀ (n : Nat) (l : List UInt8), l.length = 2 * n → l.all isHex = true → halfR l = (pairs l).map UInt8.toNat
  | 0, l, h, _ => by rw [List.length_eq_zero_iff.1 (by omega : l.length = 0)]; rfl
  | n + 1, [], h, _ => by simp at h
  | n + 1, [x], h, _ => by simp at h; omega
  | n + 1, x :: y :: r, h, ha => by
    simp only [List.all_cons, Bool.and_eq_true] at ha
    have hx := hexv_lt ha.1; have hy := hexv_lt ha.2.1
    have e : (UInt8.ofNat (16 * hexv x + hexv y)).toNat = 16 * hexv x + hexv y := by simp; omega
    simp only [halfR, pairs, List.map_cons, e, halfR_pairs n r (by simp at h; omega) ha.2.2]
theorem take_snocB' (s : ByteArray) (k : Nat) (h : k < s.size) : s.data.toList.take (k + 1) = s.data.toList.take k ++ [s[k]] := by
  rw [List.take_succ_eq_append_getElem (by simpa using h)]; rfl
abbrev n8 (y : Nat) : Value := .int .u8 (y : Int)
def UrR (l : List UInt8) (w : World) (k : Nat) (v : Value) (wr : World) : Prop :=
  wr.ownsRow w.heap.size 5 1 v ((k + 1) / 2) ((halfR (l.take k)).map n8) ∧ (l.take k).all isHex = true ∧ Below w.heap.size w wr

end Go.Proofs.YtidkpdabidlnnaaGreatDoor


/-
  Contracts over memory: bytes told and read in hexadecimal digits; fields, joined and counted.
-/



namespace Go.Proofs.YtidkpdabidlnnaaGreatDoor

open Go.Den Go.RowKit

set_option maxRecDepth 100000

set_option linter.unusedSectionVars false

theorem fields_empty (s : ByteArray) (hs : s.size = 0) (w : World) :
    Calls Tryz.prog 46 #[.string s] w fun e w' => e = .returned (.slice none 0 0) ∧ w' = w := by
  have he : s.toList.isEmpty = true := by
    rw [Lib.toList_data, List.isEmpty_iff]
    exact List.length_eq_zero_iff.1 (by simpa using hs)
  have he2 : s.toList = [] := List.isEmpty_iff.1 he
  go_enter Tryz.func46, Tryz.ntmps46
  go_wp2
  go_ret
  exact ⟨rfl, rfl⟩
theorem fields_any (s : ByteArray) (hs : 0 < s.size) (hb : s.size < 4294967281) (m : Int) (w : World) (hm : w.cell? ⟨2, 0, none⟩ = some (.int .i64 m)) :
    Calls Tryz.prog 46 #[.string s] w fun e w' => e = .returned (.slice (some ⟨w.heap.size, 0, none⟩) (Lib.countB s ⟨#[32]⟩ + 1) (Lib.countB s ⟨#[32]⟩ + 1)) ∧
      w' = w.alloc (.cells ((Lib.splitB ⟨#[32]⟩ 0 (Lib.countB s ⟨#[32]⟩) s).map Value.string).toArray 9) := by
  have hne : s.toList ≠ [] := by
    rw [Lib.toList_data]
    intro h
    have h2 : s.data.toList.length = s.size := Array.length_toList
    rw [h] at h2
    simp only [List.length_nil] at h2
    omega
  have he : s.toList.isEmpty = false := by
    cases h : s.toList with
    | nil => exact absurd h hne
    | cons a b => rfl
  have HM := Lib.hid hm
  clear hm
  go_enter Tryz.func46, Tryz.ntmps46
  go_wp2_with (go_at_call 33; refine (Tryz.strings_Split s ⟨#[32]⟩ m _ hb HM.out (by decide)).mono ?_; rintro e w' ⟨rfl, hw⟩; rw [hw])
  go_ret
  exact ⟨rfl, rfl⟩
end Go.Proofs.YtidkpdabidlnnaaGreatDoor


/-
  Contracts over memory as oracles.
-/

namespace Go.Proofs.YtidkpdabidlnnaaGreatDoor

open Go.Den Go.RowKit
noncomputable section
set_option maxRecDepth 100000

set_option linter.unusedSectionVars false

noncomputable def unhexV (s : ByteArray) : List UInt8 := (unhexL s.data.toList).getD []
noncomputable def unhexK (s : ByteArray) : Bool := (unhexL s.data.toList).isSome
noncomputable def u8L (l : List UInt8) : List Value := l.map u8
noncomputable def u8s (l : List UInt8) : Array Value := ⟨u8L l⟩
theorem size_data (s : ByteArray) : s.data.toList.length = s.size := Array.length_toList
theorem unhex_cases (s : ByteArray) : (s.size % 2 = 1 ∧ unhexK s = false) ∨ (∃ n, s.size = 2 * n ∧ hexB s = false ∧ unhexK s = false) ∨
    (∃ n, s.size = 2 * n ∧ hexB s = true ∧ unhexK s = true ∧ unhexV s = pairs s.data.toList ∧ (unhexV s).length = n) := by
  have hl := size_data s
  unfold unhexK unhexV unhexL hexB
  rcases Nat.mod_two_eq_zero_or_one s.size with hp | hp
  · refine .inr ?_
    cases hb : s.data.toList.all isHex
    · refine .inl ⟨s.size / 2, by omega, rfl, ?_⟩
      rw [if_neg (by simp)]; rfl
    · refine .inr ⟨s.size / 2, by omega, rfl, ?_⟩
      rw [if_pos ⟨by rw [hl]; exact hp, rfl⟩]
      exact ⟨rfl, rfl, by simp only [Option.getD_some]; rw [pairs_len, hl]⟩
  · refine .inl ⟨hp, ?_⟩
    rw [if_neg (by omega)]; rfl
theorem u8s_ren (ρ : Nat → Nat) (l : List UInt8) : (u8s l).map (ren ρ) = u8s l := by
  unfold u8s u8L; simp [ren]
theorem u8s_bel (n : Nat) (l : List UInt8) : ∀ v ∈ u8s l, bel n v = true := by
  unfold u8s u8L; intro v hv
  simp at hv
  obtain ⟨x, _, rfl⟩ := hv
  rfl
theorem unhexV_le (s : ByteArray) (hs : s.size ≤ 1048576) : (unhexV s).length ≤ 1048576 := by
  rcases unhex_cases s with ⟨h1, h2⟩ | ⟨n, h1, h2, h3⟩ | ⟨n, h1, h2, h3, h4, h5⟩
  · unfold unhexK at h2; unfold unhexV
    rw [Option.isSome_eq_false_iff, Option.isNone_iff_eq_none] at h2; rw [h2]; simp
  · unfold unhexK at h3; unfold unhexV
    rw [Option.isSome_eq_false_iff, Option.isNone_iff_eq_none] at h3; rw [h3]; simp
  · omega
theorem ren_one (ρ : Nat → Nat) (s : ByteArray) : (⟨[.string s]⟩ : Array Value).map (ren ρ) = #[.string s] := by simp [ren]
variable [Inhabited Root] [Inhabited Names]

end

end Go.Proofs.YtidkpdabidlnnaaGreatDoor


/-
  Contracts over memory as oracles: Hex, Fields, Join, Count.
-/


namespace Go.Proofs.YtidkpdabidlnnaaGreatDoor

open Go.Den Go.RowKit
noncomputable section
set_option maxRecDepth 100000

set_option linter.unusedSectionVars false

noncomputable def byteOf (v : Value) : UInt8 :=
  match v with
  | .int .u8 n => UInt8.ofNat n.toNat
  | _ => 0
noncomputable def isB8 (v : Value) : Bool :=
  match v with
  | .int .u8 n => decide (0 ≤ n) && decide (n ≤ 255)
  | _ => false
theorem isB8_eq {v : Value} (h : isB8 v = true) : v = u8 (byteOf v) := by
  unfold isB8 at h
  split at h
  · rename_i n
    simp only [Bool.and_eq_true, decide_eq_true_eq] at h
    have : (UInt8.ofNat n.toNat).toNat = n.toNat := by simp; omega
    show Value.int .u8 n = .int .u8 (((UInt8.ofNat n.toNat).toNat : Nat) : Int)
    rw [this]; congr 1; omega
  · cases h
noncomputable def bytesIn (l : List Value) : List UInt8 := l.map byteOf
theorem bytesIn_eq {l : List Value} (h : allV isB8 l = true) : l = (bytesIn l).map u8 := by
  rw [allV_eq, List.all_eq_true] at h
  unfold bytesIn
  rw [List.map_map]
  conv => lhs; rw [← List.map_id l]
  exact List.map_congr_left fun v hv => isB8_eq (h v hv)
noncomputable def hexS (l : List Value) : ByteArray := ⟨(hexL (bytesIn l)).toArray⟩
theorem fext_get {cs : Array Value} {o n j : Nat} {v : Value} (h : (fext cs o (o + n)).toList[j]? = some v) : j < n ∧ cs[o + j]? = some v := by
  rw [fext_eq, Array.getElem?_toList, Array.getElem?_extract] at h
  split at h
  · exact ⟨by omega, h⟩
  · cases h
theorem fext_len {cs : Array Value} {o n : Nat} (h : o + n ≤ cs.size) : (fext cs o (o + n)).toList.length = n := by
  rw [fext_eq, Array.length_toList, Array.size_extract]; omega
variable [Inhabited Root] [Inhabited Names]

/-- A function that tells bytes in digits. -/
structure HexFn where
  f : FuncId
  body : (Tryz.prog.funcs[f]?.bind (·.body)).isSome = true
  any : ∀ (blk off n c : Nat) (bs : List UInt8), bs.length = n → n ≤ 1048576 → ∀ w : World, blk < w.heap.size →
    (∀ (j : Nat) x, bs[j]? = some x → w.cell? ⟨blk, off + j, none⟩ = some (u8 x)) →
    Calls Tryz.prog f #[.slice (some ⟨blk, off, none⟩) n c] w fun e w' => e = .returned (.string ⟨(hexL bs).toArray⟩) ∧ Below w.heap.size w w'
  nil : ∀ (A : Option Addr) (c : Nat) (w : World), Calls Tryz.prog f #[.slice A 0 c] w fun e w' => e = .returned (.string ⟨#[]⟩) ∧ Below w.heap.size w w'
noncomputable def hexOrc (g : AHeap) (args : Array Value) (h : AHeap) (nx : Nat) : Option (Tree VR) :=
  match args with
  | ⟨[.slice (some a) len _]⟩ => match a.spot with
    | none => match Den.look g h a.block with
      | some B => some (.br (Nat.ble (a.off + len) B.cells.size && (decide (len ≤ 1048576) && allV isB8 (fext B.cells a.off (a.off + len)).toList)) (.leaf ⟨.string (hexS (fext B.cells a.off (a.off + len)).toList), h, nx⟩) .fail)
      | none => match argOf a.block with
        | some A => some (.br (Nat.beq a.off A.off && (Nat.beq len A.cells.length && (decide (len ≤ 1048576) && allV isB8 A.cells))) (.leaf ⟨.string (hexS A.cells), h, nx⟩) .fail)
        | none => none
    | some _ => none
  | ⟨[.slice none len _]⟩ => some (.br (Nat.beq len 0) (.leaf ⟨.string ⟨#[]⟩, h, nx⟩) .fail)
  | _ => none
theorem ren_slice1 (ρ : Nat → Nat) (b o n c : Nat) : (⟨[.slice (some ⟨b, o, none⟩) n c]⟩ : Array Value).map (ren ρ) = #[.slice (some ⟨ρ b, o, none⟩) n (ρ c)] := by simp [ren]
theorem ren_slice0 (ρ : Nat → Nat) (n c : Nat) : (⟨[.slice none n c]⟩ : Array Value).map (ren ρ) = #[.slice none n (ρ c)] := by simp [ren]
noncomputable def HexFn.pm (F : HexFn) : PM Tryz.prog where
  f := F.f
  orc := fun g args h nx => hexOrc g args h nx
  body := F.body
  ok := fun g args h nx t r ho hr => by
    unfold hexOrc at ho
    split at ho
    · rename_i a len cp
      obtain ⟨ab, ao, asp⟩ := a
      simp only at ho
      split at ho
      · split at ho
        · rename_i B hk
          cases ho
          obtain ⟨hok, hr⟩ := Tree.run_guard hr
          cases hr
          simp only [Bool.and_eq_true, Nat.ble_eq, decide_eq_true_eq] at hok
          obtain ⟨h1, h2, h3⟩ := hok
          refine satCall_val rfl fun ρ w R _ => ?_
          rw [ren_slice1]
          obtain ⟨hB, _, _⟩ := R.look hk
          have hb := bytesIn_eq h3
          refine F.any (ρ ab) ao len (ρ cp) _ (by unfold bytesIn; rw [List.length_map, fext_len h1]) h2 w hB.lt fun j x hx => ?_
          have hx2 : (fext B.cells ao (ao + len)).toList[j]? = some (u8 x) := by rw [hb, List.getElem?_map, hx]; rfl
          obtain ⟨hj, hc⟩ := fext_get hx2
          rw [hB.cell (by omega), hc]; rfl
        · split at ho
          · rename_i A hA
            cases ho
            obtain ⟨hok, hr⟩ := Tree.run_guard hr
            cases hr
            simp only [Bool.and_eq_true, Nat.beq_eq, decide_eq_true_eq] at hok
            obtain ⟨rfl, rfl, h2, h3⟩ := hok
            refine satCall_val rfl fun ρ w R _ => ?_
            rw [ren_slice1]
            obtain ⟨_, hcells⟩ := R.arg hA
            have hb := bytesIn_eq h3
            have hl : (bytesIn A.cells).length = A.cells.length := by unfold bytesIn; rw [List.length_map]
            rcases Nat.eq_zero_or_pos A.cells.length with h0 | h0
            · have he : A.cells = [] := List.length_eq_zero_iff.1 h0
              rw [h0]
              have hz : hexS A.cells = ⟨#[]⟩ := by rw [he]; rfl
              rw [hz]
              exact F.nil _ _ w
            · have hc0 := hcells 0 A.cells[0] (List.getElem?_eq_getElem h0)
              refine F.any (ρ ab) A.off A.cells.length (ρ cp) _ hl h2 w (World.block_lt_of_cell? _ _ hc0) fun j x hx => ?_
              have hx2 : A.cells[j]? = some (u8 x) := by rw [hb, List.getElem?_map, hx]; rfl
              exact hcells j _ hx2
          · cases ho
      · cases ho
    · rename_i len cp
      cases ho
      obtain ⟨hok, hr⟩ := Tree.run_guard hr
      cases hr
      rw [Nat.beq_eq] at hok
      subst hok
      refine satCall_val rfl fun ρ w R _ => ?_
      rw [ren_slice0]
      exact F.nil _ _ w
    · cases ho
/-- What the runtime's own variable holds. -/
def MaxIs (w : World) : Prop := ∃ m, w.cell? ⟨2, 0, none⟩ = some (.int .i64 m)
theorem MaxIs.held (h : MaxIs rootW) {w : World} (hw : Held w) : MaxIs w := by
  obtain ⟨m, hm⟩ := h
  exact ⟨m, (World.cell?_of_block (hw _ (World.block_lt_of_cell? _ _ hm))).trans hm⟩
noncomputable def fieldsS (s : ByteArray) : List ByteArray := Lib.splitB ⟨#[32]⟩ 0 (Lib.countB s ⟨#[32]⟩) s
noncomputable def strs (l : List ByteArray) : Array Value := ⟨l.map Value.string⟩
theorem fieldsS_len (s : ByteArray) : (fieldsS s).length = Lib.countB s ⟨#[32]⟩ + 1 := Lib.splitB_all _ (by decide) 0 _ s rfl
theorem fieldsS_le (s : ByteArray) : (fieldsS s).length ≤ s.size + 1 := by
  rw [fieldsS_len]
  have := Lib.countB_le ⟨#[32]⟩ (by decide) s.size s (Nat.le_refl _)
  omega
theorem strs_ren (ρ : Nat → Nat) (l : List ByteArray) : (strs l).map (ren ρ) = strs l := by
  unfold strs; simp [ren]
theorem strs_bel (n : Nat) (l : List ByteArray) : ∀ v ∈ strs l, bel n v = true := by
  unfold strs; intro v hv
  simp at hv
  obtain ⟨x, _, rfl⟩ := hv
  rfl
noncomputable def pmFields (hM : MaxIs rootW) : PM Tryz.prog where
  f := 46
  orc := fun _ args h nx => match args with
    | ⟨[.string s]⟩ => some (.br (decide (s.size ≤ 1048576)) (.br (decide (s.size = 0)) (.leaf ⟨.slice none 0 0, h, nx⟩)
        (.leaf ⟨.slice (some ⟨nx, 0, none⟩) (fieldsS s).length (fieldsS s).length, h.set nx ⟨strs (fieldsS s), 9, none⟩, nx + 1⟩)) .fail)
    | _ => none
  body := by kernel_rfl
  ok := fun g args h nx t r ho hr => by
    split at ho
    · rename_i s
      cases ho
      obtain ⟨hs, hr⟩ := Tree.run_guard hr
      rw [decide_eq_true_eq] at hs
      have hle := fieldsS_le s
      rcases Tree.run_br hr with ⟨h0, hr⟩ | ⟨h0, hr⟩
      · cases hr
        rw [decide_eq_true_eq] at h0
        refine satCall_val rfl fun ρ w R _ => ?_
        rw [ren_one]; refine (fields_empty s h0 w).mono ?_
        rintro e w' ⟨rfl, rfl⟩
        exact ⟨rfl, Below.refl _ _⟩
      · cases hr
        rw [decide_eq_false_iff_not] at h0
        refine satCall_fresh (by omega) (fun hb => ?_) (fun hb => ⟨strs_bel _ _, fun k hk => by cases hk⟩) fun ρ w R _ => ?_
        · simp only [bel, Bool.and_eq_true, blt_iff]
          unfold B0 at hb; omega
        · obtain ⟨m, hm⟩ := hM.held R.held
          rw [ren_one]; refine (fields_any s (by omega) (by omega) m w hm).mono ?_
          rintro e w' ⟨rfl, rfl⟩
          have hbase := R.base
          have hlow : upd ρ nx w.heap.size (fieldsS s).length = (fieldsS s).length := by
            unfold B0 at hbase
            rw [upd_other (by omega)]
            exact R.low _ (by unfold B0; omega)
          refine ⟨upd ρ nx w.heap.size, upd_agree _ _ _, ?_, (Below.refl _ w).alloc (Nat.le_refl _) _, by rw [upd_same]; exact Nat.le_refl _, ?_⟩
          · simp only [ren, upd_same, hlow]; rw [fieldsS_len]
          · rw [upd_same]
            refine ⟨#[], ?_, rfl⟩
            rw [strs_ren, Array.append_empty]
            exact heap_alloc_new w _
    · cases ho
noncomputable def strOf (v : Value) : ByteArray :=
  match v with
  | .string s => s
  | _ => ByteArray.empty
noncomputable def isStr (v : Value) : Bool :=
  match v with
  | .string _ => true
  | _ => false
noncomputable def strsIn (l : List Value) : List ByteArray := l.map strOf
theorem strsIn_eq {l : List Value} (h : allV isStr l = true) : l = (strsIn l).map Value.string := by
  rw [allV_eq, List.all_eq_true] at h
  unfold strsIn
  rw [List.map_map]
  conv => lhs; rw [← List.map_id l]
  refine List.map_congr_left fun v hv => ?_
  have := h v hv
  unfold isStr at this
  split at this
  · rfl
  · cases this
noncomputable def joinS (l : List Value) (sep : ByteArray) : ByteArray := ⟨(Lib.join ((strsIn l).map (·.data.toList)) sep.data.toList).toArray⟩
noncomputable def joinOrc (g : AHeap) (args : Array Value) (h : AHeap) (nx : Nat) : Option (Tree VR) :=
  match args with
  | ⟨[.slice (some a) len cp, .string sep]⟩ => match a.spot with
    | none => match Den.look g h a.block with
      | some B => some (.br (Nat.ble (a.off + len) B.cells.size && (decide (len ≤ 1048577) && (Nat.blt cp B0 && (Nat.ble len cp && (allV isStr (fext B.cells a.off (a.off + len)).toList && decide ((joinS (fext B.cells a.off (a.off + len)).toList sep).size ≤ 140737488355328))))))
          (.leaf ⟨.string (joinS (fext B.cells a.off (a.off + len)).toList sep), h, nx⟩) .fail)
      | none => none
    | some _ => none
  | ⟨[.slice none len _, .string _]⟩ => some (.br (Nat.beq len 0) (.leaf ⟨.string ⟨#[]⟩, h, nx⟩) .fail)
  | _ => none
noncomputable def countS : Array Value → Option (Bool × Value)
  | ⟨[.string s, .string ⟨⟨[c]⟩⟩]⟩ => some (true, .int .i64 (Lib.countByte s.data.toList c))
  | _ => none
noncomputable def pcCount : PC Tryz.prog where
  f := 53
  spec := countS
  body := by kernel_rfl
  ok := fun args r hr hok => by
    unfold countS at hr
    split at hr
    · cases hr
      refine ⟨all_bel rfl, rfl, fun w => (Tryz.strings_Count_one _ _ w).mono ?_⟩
      rintro e w' ⟨rfl, rfl⟩
      exact ⟨rfl, Below.refl _ _⟩
    · cases hr
end

end Go.Proofs.YtidkpdabidlnnaaGreatDoor


/-
  What errors say.
-/






namespace Go.Proofs.YtidkpdabidlnnaaGreatDoor

open Go.Den Go.RowKit

set_option maxRecDepth 100000

set_option linter.unusedSectionVars false

variable [Inhabited Root]

/-- What the walks of fault read of the world's tables and variables. -/
structure R6 : Prop where
  tab : Tab rootW
  max : MaxIs rootW
  ert : ErrT rootW
theorem ErrT.held (h : ErrT rootW) {w : World} (hw : Held w) : ErrT w := by
  unfold ErrT at *
  exact (World.cell?_of_block (hw _ (World.block_lt_of_cell? _ _ h))).trans h
/-- A list of bytes as a string. -/
def st (l : List UInt8) : ByteArray := ⟨l.toArray⟩
theorem st_app (a b : List UInt8) : st a ++ st b = st (a ++ b) := by
  apply ByteArray.ext
  rw [ByteArray.data_append]
  simp [st]
theorem st_data (s : ByteArray) : st s.data.toList = s := rfl
theorem data_st (l : List UInt8) : (st l).data.toList = l := rfl
theorem size_st (l : List UInt8) : (st l).size = l.length := rfl
theorem in_R {v : Int} (h : In64 v) : InR v := by unfold In64 at h; unfold InR; omega
/-- text.Dec, its string with a name. -/
theorem dec_named (hR : R6) (k : Int) (hk : In64 k) : ∃ D : ByteArray, st (Lib.itoa k) = D ∧ D.size ≤ 40 ∧ ∀ w, Held w → Calls Tryz.prog 31 #[.int .i64 k] w fun e w' => e = .returned (.string D) ∧ Below w.heap.size w w' :=
  ⟨_, rfl, itoa_len (in_R hk), fun w hw => dec_any k hk.1 hk.2 w (hR.tab.held hw)⟩
theorem sortErr_any (hR : R6) (k : Int) (hk : In64 k) (w : World) (hw : Held w) :
    Calls Tryz.prog 17 #[.int .i64 k] w fun e w' => e = .returned (.string (st (kindS ++ Lib.itoa k))) ∧ Below w.heap.size w w' := by
  obtain ⟨D, hD, hs, hc⟩ := dec_named hR k hk
  have HD := Lib.hid (hc w hw); have HE := Lib.hid hD
  clear hk hw hc hD
  go_enter Tryz.func17, Tryz.ntmps17
  go_wp2_with (go_at_call 31; refine HD.out.mono ?_; rintro ev w2 ⟨rfl, hb2⟩; have HB2 := Lib.hid hb2; clear hb2)
  go_ret
  exact ⟨by rw [← HE.out]; exact congrArg (fun s => Ending.returned (.string s)) (st_app kindS _), HB2.out⟩
set_option maxHeartbeats 4000000 in
theorem fltErr_any (hR : R6) (k o : Int) (hk : In64 k) (ho : In64 o) (w : World) (hw : Held w) :
    Calls Tryz.prog 148 #[.agg #[.int .i64 k, .int .i64 o]] w fun e w' => e = .returned (.string (st (faultS k o))) ∧ Below w.heap.size w w' := by
  obtain ⟨D, hD, hs, hc⟩ := dec_named hR o ho
  obtain ⟨S, hS, hss, hc2⟩ : ∃ S : ByteArray, st (kindS ++ Lib.itoa k) = S ∧ S.size ≤ 45 ∧ ∀ w, Held w → Calls Tryz.prog 17 #[.int .i64 k] w fun e w' => e = .returned (.string S) ∧ Below w.heap.size w w' :=
    ⟨_, rfl, by rw [size_st, List.length_append]; have := itoa_len (in_R hk); show 5 + _ ≤ _; omega, fun w hw => sortErr_any hR k hk w hw⟩
  obtain ⟨W1, hW1⟩ : ∃ W1, W1 = w.alloc (.cells #[.int .i64 k, .int .i64 o] 65) := ⟨_, rfl⟩
  have b1 : Below w.heap.size w W1 := by rw [hW1]; exact (Below.refl _ w).alloc (Nat.le_refl _) _
  have hk1 : Blk W1 w.heap.size #[.int .i64 k, .int .i64 o] 65 := by rw [hW1]; exact Blk.new rfl
  have hcells : ∀ w', Below W1.heap.size W1 w' → w'.cell? ⟨w.heap.size, 0, none⟩ = some (.int .i64 k) ∧ w'.cell? ⟨w.heap.size, 1, none⟩ = some (.int .i64 o) := fun w' h => (Blk.keep h hk1).two
  obtain ⟨c0, c1⟩ := hcells W1 (Below.refl _ _)
  have hA := hW1.symm
  have HC := Lib.hid hcells; have HB := Lib.hid b1; have HW1 := Lib.hid (hw.below b1)
  have HD := Lib.hid hc; have HE := Lib.hid hD; have HD2 := Lib.hid hc2; have HE2 := Lib.hid hS
  clear hk ho hw hc hD hc2 hS b1 hk1 hcells hW1
  go_enter Tryz.func148, Tryz.ntmps148
  go_wp2
  go_region_with (first
    | (go_at_call 17; refine (HD2.out _ ?_).mono ?_; exact HW1.out.below (Below.refl _ W1).drew; rintro ev w3 ⟨rfl, hb3⟩; have hb3' : Below W1.heap.size W1 w3 := (Below.refl _ W1).drew.trans hb3; have HB3 := Lib.hid hb3'; obtain ⟨d0, d1⟩ := HC.out _ HB3.out; clear hb3 hb3')
    | (go_at_call 31; refine (HD.out _ ?_).mono ?_; exact HW1.out.below HB3.out; rintro ev w2 ⟨rfl, hb2⟩; have HB2 := Lib.hid (keepW HB3.out hb2); clear hb2))
  all_goals (try go_wp2)
  all_goals (go_ret; exact ⟨by rw [← HE.out, ← HE2.out]; exact congrArg (fun s => Ending.returned (.string s)) (by rw [show (⟨#[32, 97, 116, 32]⟩ : ByteArray) = st atS from rfl, st_app, st_app]; unfold faultS; simp), keepW HB.out HB2.out⟩)
end Go.Proofs.YtidkpdabidlnnaaGreatDoor


/-
  What notes say; an error's line.
-/

namespace Go.Proofs.YtidkpdabidlnnaaGreatDoor

open Go.Den Go.RowKit

set_option maxRecDepth 100000

set_option linter.unusedSectionVars false

variable [Inhabited Root]

def errS : Er → List UInt8
  | .flt k o => faultS k o
  | .note _ wd e => wd.data.toList ++ [58, 32] ++ errS e
  | _ => []
def lineOk : Er → Prop
  | .flt _ _ => True
  | .note _ wd e => wd.size ≤ 32 ∧ lineOk e
  | _ => False
theorem fault_len {k o : Int} (h1 : In64 k) (h2 : In64 o) : (faultS k o).length ≤ 168 := by
  have h1 := itoa_len (in_R h1)
  have h2 := itoa_len (in_R h2)
  have e : (faultS k o).length = 5 + ((Lib.itoa k).length + (4 + (Lib.itoa o).length)) := by unfold faultS; rw [List.length_append, List.length_append, List.length_append]; rfl
  omega
theorem errS_len {w : World} (e : Er) (h : e.lies w) (kk : lineOk e) : (errS e).length ≤ 34 * e.size + 100 := by
  induction e with
  | flt k o =>
    have h1 := fault_len (k := k) (o := o) h.1 h.2
    have e1 : errS (.flt k o) = faultS k o := rfl
    have e2 : (Er.flt k o).size = 2 := rfl
    rw [e1, e2]; exact h1
  | note b wd x ih =>
    have ih := ih h.2 kk.2
    have h1 : wd.data.toList.length = wd.size := size_data wd
    have h2 := kk.1
    have e1 : errS (.note b wd x) = wd.data.toList ++ [58, 32] ++ errS x := rfl
    have e2 : (Er.note b wd x).size = x.size + 1 := rfl
    rw [e1, e2, List.length_append, List.length_append]
    have e3 : ([58, 32] : List UInt8).length = 2 := rfl
    omega
  | sort k => exact kk.elim
  | oth a => exact kk.elim
  | arnd e _ => exact kk.elim
  | join b r a e _ => exact kk.elim
def Er.erf : Er → FuncId
  | .flt _ _ => 148
  | .note _ _ _ => 151
  | _ => 0
set_option maxHeartbeats 4000000 in
theorem err_any (hR : R6) : ∀ (e : Er), lineOk e → e.size ≤ 1000000 → ∀ w, Held w → e.lies w →
    Calls Tryz.prog e.erf #[e.cont] w fun ev w' => ev = .returned (.string (st (errS e))) ∧ Below w.heap.size w w'
  | .flt k o, _, _, w, hw, hl => fltErr_any hR k o hl.1 hl.2 w hw
  | .note b wd (.flt k o), hk, hs, w, hw, hl => by
    have ih := err_any hR (.flt k o)
    show Calls Tryz.prog 151 #[.pointer (some ⟨b, 0, none⟩)] w fun ev w' => ev = .returned (.string (st (errS (.note b wd (.flt k o))))) ∧ Below w.heap.size w w'
    obtain ⟨S, hS, hss⟩ : ∃ S : ByteArray, st (errS (Er.flt k o)) = S ∧ S.size ≤ 35000000 := ⟨_, rfl, by have h1 := errS_len _ hl.2 hk.2; have h2 : (Er.flt k o).size + 1 ≤ 1000000 := hs; rw [size_st]; omega⟩
    have hc : ∀ w', Below w.heap.size w w' → Calls Tryz.prog 148 #[(Er.flt k o).cont] w' fun ev w2 => ev = .returned (.string S) ∧ Below w'.heap.size w' w2 := fun w' h => by
      rw [← hS]
      exact ih hk.2 (by have h2 : (Er.flt k o).size + 1 ≤ 1000000 := hs; omega) w' (hw.below h) (Er.lies.keep h hl.2)
    have m1 : ∀ w, (Go.method 326 (Er.flt k o).ty (Er.flt k o).cont "Error").run Tryz.prog w = .ok (148, (Er.flt k o).cont) w := fun w => mEr_F _ w
    have hwd := hk.1
    have c0 : w.cell? ⟨b, 0, none⟩ = some (.string wd) := hl.1.cell 0
    have c1 : w.cell? ⟨b, 1, none⟩ = some (.iface (Er.flt k o).ty (Er.flt k o).cont) := by rw [← Er.val_eq]; exact hl.1.cell 1
    have HC := Lib.hid hc; have HL := Lib.hid hl; have HE := Lib.hid hS
    clear hc hl hk hs hw hS ih
    go_enter Tryz.func151, Tryz.ntmps151
    go_wp2
    go_region_with (go_at_call 148; refine (HC.out _ ?_).mono ?_; exact (Below.refl _ w).drew; rintro ev w3 ⟨rfl, hb3⟩; have hb3' : Below w.heap.size w w3 := (Below.refl _ w).drew.trans hb3; have HB3 := Lib.hid hb3'; have d0 : w3.cell? ⟨b, 0, none⟩ = some (.string wd) := (Blk.keep hb3' HL.out.1).cell 0; clear hb3 hb3')
    all_goals (try go_wp2)
    all_goals (go_ret; exact ⟨by rw [← HE.out]; exact congrArg (fun s => Ending.returned (.string s)) (by rw [show (⟨#[58, 32]⟩ : ByteArray) = st [58, 32] from rfl, ← st_data wd, st_app, st_app]; rfl), HB3.out⟩)
  | .note b wd (.note c wd2 e), hk, hs, w, hw, hl => by
    have ih := err_any hR (.note c wd2 e)
    show Calls Tryz.prog 151 #[.pointer (some ⟨b, 0, none⟩)] w fun ev w' => ev = .returned (.string (st (errS (.note b wd (.note c wd2 e))))) ∧ Below w.heap.size w w'
    obtain ⟨S, hS, hss⟩ : ∃ S : ByteArray, st (errS (Er.note c wd2 e)) = S ∧ S.size ≤ 35000000 := ⟨_, rfl, by have h1 := errS_len _ hl.2 hk.2; have h2 : (Er.note c wd2 e).size + 1 ≤ 1000000 := hs; rw [size_st]; omega⟩
    have hc : ∀ w', Below w.heap.size w w' → Calls Tryz.prog 151 #[(Er.note c wd2 e).cont] w' fun ev w2 => ev = .returned (.string S) ∧ Below w'.heap.size w' w2 := fun w' h => by
      rw [← hS]
      exact ih hk.2 (by have h2 : (Er.note c wd2 e).size + 1 ≤ 1000000 := hs; omega) w' (hw.below h) (Er.lies.keep h hl.2)
    have m1 : ∀ w, (Go.method 326 (Er.note c wd2 e).ty (Er.note c wd2 e).cont "Error").run Tryz.prog w = .ok (151, (Er.note c wd2 e).cont) w := fun w => mEr_N _ w
    have hwd := hk.1
    have c0 : w.cell? ⟨b, 0, none⟩ = some (.string wd) := hl.1.cell 0
    have c1 : w.cell? ⟨b, 1, none⟩ = some (.iface (Er.note c wd2 e).ty (Er.note c wd2 e).cont) := by rw [← Er.val_eq]; exact hl.1.cell 1
    have HC := Lib.hid hc; have HL := Lib.hid hl; have HE := Lib.hid hS
    clear hc hl hk hs hw hS ih
    go_enter Tryz.func151, Tryz.ntmps151
    go_wp2
    go_region_with (go_at_call 151; refine (HC.out _ ?_).mono ?_; exact (Below.refl _ w).drew; rintro ev w3 ⟨rfl, hb3⟩; have hb3' : Below w.heap.size w w3 := (Below.refl _ w).drew.trans hb3; have HB3 := Lib.hid hb3'; have d0 : w3.cell? ⟨b, 0, none⟩ = some (.string wd) := (Blk.keep hb3' HL.out.1).cell 0; clear hb3 hb3')
    all_goals (try go_wp2)
    all_goals (go_ret; exact ⟨by rw [← HE.out]; exact congrArg (fun s => Ending.returned (.string s)) (by rw [show (⟨#[58, 32]⟩ : ByteArray) = st [58, 32] from rfl, ← st_data wd, st_app, st_app]; rfl), HB3.out⟩)
end Go.Proofs.YtidkpdabidlnnaaGreatDoor


/-
  Line, Notes, Wrap of any error.
-/


namespace Go.Proofs.YtidkpdabidlnnaaGreatDoor

open Go.Den Go.RowKit

set_option maxRecDepth 100000

set_option linter.unusedSectionVars false

variable [Inhabited Root]

def wordB (s : ByteArray) : ByteArray := st (wordF s.data.toList)
theorem wordB_size (s : ByteArray) : (wordB s).size ≤ 32 := wordF_len _
theorem info_set : (Tryz.prog.info? 131).map (fun i => (i.zero, i.size)) = some (some (.agg (Array.replicate 256 (.bool false))), 256) := by kernel_rfl
theorem trim_any (s : ByteArray) (hs : s.size ≤ 9223372036854775807) (w : World) :
    Calls Tryz.prog 48 #[.string s, .string (st letterL)] w fun e w' => e = .returned (.string ⟨(Lib.trimS s.data.toList letterL).toArray⟩) ∧ Below w.heap.size w w' :=
  Any.strings_Trim_laid Tryz.lays160 info_set s (st letterL) w hs (by decide) (ascii_of_all (by decide))
theorem may_any (s : ByteArray) (hs : s.size ≤ 1000000) (w : World) :
    Calls Tryz.prog 37 #[.string s] w fun e w' => e = .returned (.bool (wordOk s.data.toList)) ∧ Below w.heap.size w w' := by
  obtain ⟨T, hT, htc⟩ : ∃ T : ByteArray, st (Lib.trimS s.data.toList letterL) = T ∧ ∀ w, Calls Tryz.prog 48 #[.string s, .string (st letterL)] w fun e w' => e = .returned (.string T) ∧ Below w.heap.size w w' :=
    ⟨_, rfl, fun w => trim_any s (by omega) w⟩
  have hl : s.data.toList.length = s.size := size_data s
  have htl : s.toList = s.data.toList := Lib.toList_data s
  have hTl : T.toList = Lib.trimS s.data.toList letterL := by rw [Lib.toList_data, ← hT]; rfl
  have HC := Lib.hid htc
  by_cases h0 : s.size = 0
  · have he : s.toList.isEmpty = true := by rw [htl, List.isEmpty_iff]; exact List.length_eq_zero_iff.1 (by omega)
    have hr : wordOk s.data.toList = false := by unfold wordOk; rw [hl, h0]; rfl
    have HR := Lib.hid hr
    clear hT htc hl htl hTl h0 hr
    go_enter Tryz.func37, Tryz.ntmps37
    go_wp2_with (go_at_call 48; refine (HC.out _).mono ?_; rintro ev w2 ⟨rfl, hb2⟩; have HB2 := Lib.hid hb2; clear hb2)
    go_ret
    exact ⟨by rw [HR.out]; rfl, Below.refl _ _⟩
  · have he : s.toList.isEmpty = false := by
      rw [htl]
      cases h : s.data.toList with
      | nil => rw [h] at hl; simp at hl; omega
      | cons c r => rfl
    by_cases h32 : s.size ≤ 32
    · have h32' : (s.size : Int) ≤ 32 := by omega
      have hr : wordOk s.data.toList = T.toList.isEmpty := by
        rw [hTl]
        unfold wordOk
        rw [hl, decide_eq_true (by omega : 1 ≤ s.size), decide_eq_true h32, Bool.true_and, Bool.true_and, Bool.eq_iff_iff, List.isEmpty_iff]
        exact (trim_nil _).symm
      have HR := Lib.hid hr
      clear hT htc hl htl hTl h0 hr h32
      go_enter Tryz.func37, Tryz.ntmps37
      go_wp2_with (go_at_call 48; refine (HC.out _).mono ?_; rintro ev w2 ⟨rfl, hb2⟩; have HB2 := Lib.hid hb2; clear hb2)
      go_ret
      exact ⟨by rw [HR.out]; rfl, HB2.out⟩
    · have h32' : ¬ (s.size : Int) ≤ 32 := by omega
      have hr : wordOk s.data.toList = false := by unfold wordOk; rw [hl, decide_eq_false h32, Bool.and_false, Bool.false_and]
      have HR := Lib.hid hr
      clear hT htc hl htl hTl h0 hr h32
      go_enter Tryz.func37, Tryz.ntmps37
      go_wp2_with (go_at_call 48; refine (HC.out _).mono ?_; rintro ev w2 ⟨rfl, hb2⟩; have HB2 := Lib.hid hb2; clear hb2)
      go_ret
      exact ⟨by rw [HR.out]; rfl, Below.refl _ _⟩
/-- What Wrap gives. -/
def WrapR (e : Er) (s : ByteArray) (f : Er) : Prop := (8 ≤ cntE e ∧ f = e) ∨ (cntE e < 8 ∧ ∃ b, f = .note b (wordB s) e)
set_option maxHeartbeats 1000000 in
theorem wrap_any (e : Er) (s : ByteArray) (hs : s.size ≤ 1000000) (he : e.size ≤ 1000000) (w : World) (hl : e.lies w) :
    Calls Tryz.prog 22 #[.iface e.ty e.cont, .string s] w fun ev w' => ∃ f : Er, ev = .returned (.iface f.ty f.cont) ∧ f.lies w' ∧ Below w.heap.size w w' ∧ WrapR e s f := by
  have HC := Lib.hid (count_any e w hl he)
  have HM := Lib.hid fun w' : World => may_any s hs w'
  have HL := Lib.hid hl
  have hn := eq_nil e
  clear hl he hs
  by_cases h8 : 8 ≤ cntE e
  · have h8' : (8 : Int) ≤ (cntE e : Int) := by omega
    have H8 := Lib.hid h8
    clear h8
    go_enter Tryz.func22, Tryz.ntmps22
    go_wp2_with (first
      | (go_at_call 36; refine HC.out.mono ?_; rintro ev w2 ⟨rfl, hb2⟩; have HB2 := Lib.hid hb2; clear hb2)
      | (go_at_call 37; refine (HM.out _).mono ?_; rintro ev w3 ⟨rfl, hb3⟩; have HB3 := Lib.hid hb3; clear hb3))
    go_ret
    exact ⟨e, rfl, Er.lies.keep HB2.out HL.out, HB2.out, .inl ⟨H8.out, rfl⟩⟩
  · have h8' : ¬ (8 : Int) ≤ (cntE e : Int) := by omega
    have H8 := Lib.hid (Nat.lt_of_not_le h8)
    clear h8
    cases hw : wordOk s.data.toList with
    | true =>
      have hws : wordB s = s := by unfold wordB wordF; rw [hw]; rfl
      have HW := Lib.hid hw; have HWS := Lib.hid hws
      rw [hw] at HM
      clear hw hws
      go_enter Tryz.func22, Tryz.ntmps22
      go_wp2_with (first
        | (go_at_call 36; refine HC.out.mono ?_; rintro ev w2 ⟨rfl, hb2⟩; have HB2 := Lib.hid hb2; clear hb2)
        | (go_at_call 37; refine (HM.out _).mono ?_; rintro ev w3 ⟨rfl, hb3⟩; have HB3 := Lib.hid hb3; clear hb3))
      go_ret
      have hb := keepW HB2.out HB3.out
      refine ⟨.note w3.heap.size (wordB s) e, rfl, ⟨?_, Er.lies.keep (hb.alloc hb.size _) HL.out⟩, hb.alloc hb.size _, .inr ⟨H8.out, _, rfl⟩⟩
      rw [HWS.out, Er.val_eq]; exact Blk.new rfl
    | false =>
      have hws : wordB s = ⟨#[63]⟩ := by unfold wordB wordF; rw [hw]; rfl
      have HW := Lib.hid hw; have HWS := Lib.hid hws
      rw [hw] at HM
      clear hw hws
      go_enter Tryz.func22, Tryz.ntmps22
      go_wp2_with (first
        | (go_at_call 36; refine HC.out.mono ?_; rintro ev w2 ⟨rfl, hb2⟩; have HB2 := Lib.hid hb2; clear hb2)
        | (go_at_call 37; refine (HM.out _).mono ?_; rintro ev w3 ⟨rfl, hb3⟩; have HB3 := Lib.hid hb3; clear hb3))
      go_ret
      have hb := keepW HB2.out HB3.out
      refine ⟨.note w3.heap.size (wordB s) e, rfl, ⟨?_, Er.lies.keep (hb.alloc hb.size _) HL.out⟩, hb.alloc hb.size _, .inr ⟨H8.out, _, rfl⟩⟩
      rw [HWS.out, Er.val_eq]; exact Blk.new rfl
end Go.Proofs.YtidkpdabidlnnaaGreatDoor


/-
  Line and Notes of any error.
-/

namespace Go.Proofs.YtidkpdabidlnnaaGreatDoor

open Go.Den Go.RowKit

set_option maxRecDepth 100000

set_option linter.unusedSectionVars false

variable [Inhabited Root]

def Er.fltV : Er → Value
  | .flt k o => .agg #[.int .i64 k, .int .i64 o]
  | _ => .agg #[.int .i64 0, .int .i64 0]
theorem asF_any (e : Er) (xT : TypeId) (w : World) : (Instr.typeAssert (.iface e.ty e.cont) xT 65 true).run Tryz.prog w = .ok (.tuple #[e.fltV, .bool (isF e)]) w := by
  cases e
  · exact asF_S _ _ _
  · exact asF_F _ _ _
  · exact asF_E _ _ _
  · exact asF_N _ _ _
  · exact asF_A _ _ _
  · exact asF_J _ _ _
/-- Words as notes have them. -/
def smallW (e : Er) : Prop := ∀ wd ∈ wordsE e, wd.size ≤ 32
theorem lineOk_of : ∀ {e : Er}, smallW e → isF (innerE e) = true → lineOk e
  | .flt _ _, _, _ => trivial
  | .note _ wd e, h, k => ⟨h wd List.mem_cons_self, lineOk_of (e := e) (fun x hx => h x (List.mem_cons_of_mem _ hx)) k⟩
theorem fltV_agg (e : Er) : ∃ a b : Int, e.fltV = .agg #[.int .i64 a, .int .i64 b] := by cases e <;> exact ⟨_, _, rfl⟩
theorem notes_any (e : Er) (w : World) (hl : e.lies w) (hs : e.size ≤ 1000000) :
    Calls Tryz.prog 15 #[.iface e.ty e.cont] w fun ev w' => ∃ v, ev = .returned v ∧ Row w.heap.size w' v (wordsE e) ∧ Below w.heap.size w w' := by
  have HC := Lib.hid (peel_any e w hl hs)
  clear hl hs
  go_enter Tryz.func15, Tryz.ntmps15
  go_wp2_with (go_at_call 30; refine HC.out.mono ?_; rintro ev w2 ⟨v, rfl, hr, hb2⟩; have HB2 := Lib.hid hb2; have HR := Lib.hid hr; clear hb2 hr)
  go_ret
  exact ⟨_, rfl, HR.out, HB2.out⟩
def lineV (e : Er) : Value := if isF (innerE e) then .tuple #[.string (st (errS e)), .bool true] else .tuple #[.string ⟨#[]⟩, .bool false]
theorem erf_num : ∀ {e : Er}, lineOk e → (e.erf = 148 ∨ e.erf = 151) ∧ ∀ w, (Go.method 326 e.ty e.cont "Error").run Tryz.prog w = .ok (e.erf, e.cont) w
  | .flt _ _, _ => ⟨.inl rfl, fun w => mEr_F _ w⟩
  | .note _ _ _, _ => ⟨.inr rfl, fun w => mEr_N _ w⟩
set_option maxHeartbeats 1000000 in
theorem line_any (hR : R6) (e : Er) (w : World) (hl : e.lies w) (hs : e.size ≤ 1000000) (hsm : smallW e) (hw : Held w) :
    Calls Tryz.prog 12 #[.iface e.ty e.cont] w fun ev w' => ev = .returned (lineV e) ∧ Below w.heap.size w w' := by
  have HC := Lib.hid (peel_any e w hl hs)
  have ha := asF_any (innerE e)
  obtain ⟨fa, fb, hfv⟩ := fltV_agg (innerE e)
  rw [hfv] at ha
  cases hq : isF (innerE e) with
  | false =>
    have hv : lineV e = .tuple #[.string ⟨#[]⟩, .bool false] := by unfold lineV; rw [hq]; rfl
    have HV := Lib.hid hv
    rw [hq] at ha
    clear hl hs hsm hw hq hv hfv
    go_enter Tryz.func12, Tryz.ntmps12
    go_wp2_with (go_at_call 30; refine HC.out.mono ?_; rintro ev w2 ⟨v, rfl, _, hb2⟩; have HB2 := Lib.hid hb2; clear hb2)
    go_ret2
    exact ⟨by rw [HV.out]; rfl, HB2.out.alloc HB2.out.size _⟩
  | true =>
    have hok := lineOk_of hsm hq
    have hg := fun (w2 : World) (hb : Below w.heap.size w w2) => err_any hR e hok hs w2 (hw.below hb) (hl.keep hb)
    have hv : lineV e = .tuple #[.string (st (errS e)), .bool true] := by unfold lineV; rw [hq]; rfl
    have HV := Lib.hid hv
    obtain ⟨hn, hm⟩ := erf_num hok
    rw [hq] at ha
    clear hl hs hsm hw hq hv hfv hok
    rcases hn with hn | hn
    · rw [hn] at hg hm
      clear hn
      have HG := Lib.hid hg
      clear hg
      go_enter Tryz.func12, Tryz.ntmps12
      go_wp2_with (first
        | (go_at_call 30; refine HC.out.mono ?_; rintro ev w2 ⟨v, rfl, _, hb2⟩; have HB2 := Lib.hid hb2; clear hb2)
        | (go_at_call 148; refine (HG.out _ ?_).mono ?_; exact HB2.out.alloc HB2.out.size _; rintro ev w3 ⟨rfl, hb3⟩; have HB3 := Lib.hid (keepW (HB2.out.alloc HB2.out.size _) hb3); clear hb3))
      go_ret2
      exact ⟨by rw [HV.out]; rfl, HB3.out⟩
    · rw [hn] at hg hm
      clear hn
      have HG := Lib.hid hg
      clear hg
      go_enter Tryz.func12, Tryz.ntmps12
      go_wp2_with (first
        | (go_at_call 30; refine HC.out.mono ?_; rintro ev w2 ⟨v, rfl, _, hb2⟩; have HB2 := Lib.hid hb2; clear hb2)
        | (go_at_call 151; refine (HG.out _ ?_).mono ?_; exact HB2.out.alloc HB2.out.size _; rintro ev w3 ⟨rfl, hb3⟩; have HB3 := Lib.hid (keepW (HB2.out.alloc HB2.out.size _) hb3); clear hb3))
      go_ret2
      exact ⟨by rw [HV.out]; rfl, HB3.out⟩
end Go.Proofs.YtidkpdabidlnnaaGreatDoor


/-
  What a text tells as a fault: the program's reading.
-/

namespace Go.Proofs.YtidkpdabidlnnaaGreatDoor

open Go.Den Go.RowKit

set_option maxRecDepth 100000

set_option linter.unusedSectionVars false

variable [Inhabited Root]

noncomputable def nthS (l : List ByteArray) (j : Nat) : ByteArray := l.getD j ByteArray.empty
/-- The program's reading of a fault. -/
noncomputable def readC (s : ByteArray) : Option (Int × Int) :=
  if s.size = 0 then none
  else if (fieldsS s).length = 4 then (if udV (nthS (fieldsS s) 1) = 0 then none else some (udV (nthS (fieldsS s) 1), udV (nthS (fieldsS s) 3)))
  else none
theorem udV_in (s : ByteArray) : In64 (udV s) := by
  unfold udV
  cases h : udS s.data.toList with
  | none => exact ⟨by decide, by decide⟩
  | some v => exact (ud_some h).2
noncomputable def fltO : Option (Int × Int) → Value
  | none => .nilIface
  | some (k, o) => .iface (Er.flt k o).ty (Er.flt k o).cont
set_option maxHeartbeats 4000000 in
theorem read_any (hR : R6) (s : ByteArray) (hs : s.size ≤ 1000) (w : World) (hw : Held w) :
    Calls Tryz.prog 34 #[.string s] w fun ev w' => ev = .returned (fltO (readC s)) ∧ Below w.heap.size w w' := by
  by_cases h0 : s.size = 0
  · have hr : readC s = none := by unfold readC; rw [if_pos h0]
    have HR := Lib.hid hr; have H0 := Lib.hid h0
    clear hr h0 hs hw
    go_enter Tryz.func34, Tryz.ntmps34
    go_wp2_with (go_at_call 46; refine (fields_empty s H0.out _).mono ?_; rintro ev w2 ⟨rfl, rfl⟩)
    go_ret
    exact ⟨by rw [HR.out]; rfl, Below.refl _ _⟩
  · obtain ⟨m, hm⟩ := hR.max.held hw
    have hf := fields_any s (by omega) (by omega) m w hm
    have hlen := fieldsS_len s
    obtain ⟨n, hn⟩ : ∃ n, Lib.countB s ⟨#[32]⟩ + 1 = n := ⟨_, rfl⟩
    obtain ⟨W1, hW1⟩ : ∃ W1, W1 = w.alloc (.cells ((Lib.splitB ⟨#[32]⟩ 0 (Lib.countB s ⟨#[32]⟩) s).map Value.string).toArray 9) := ⟨_, rfl⟩
    have b1 : Below w.heap.size w W1 := by rw [hW1]; exact (Below.refl _ w).alloc (Nat.le_refl _) _
    have hk : Blk W1 w.heap.size ((fieldsS s).map Value.string).toArray 9 := by rw [hW1]; exact Blk.new rfl
    rw [hn] at hf hlen
    rw [← hW1] at hf
    have HF := Lib.hid hf; have HB := Lib.hid b1
    have hn1 : n ≤ 1001 := by have := fieldsS_le s; omega
    by_cases h4 : n = 4
    · subst h4
      have hc : ∀ (j : Nat), j < 4 → ∀ w', Below W1.heap.size W1 w' → w'.cell? ⟨w.heap.size, j, none⟩ = some (.string (nthS (fieldsS s) j)) := fun j hj w' h => by
        rw [(Blk.keep h hk).cell j, ← Array.getElem?_toList]
        show ((fieldsS s).map Value.string)[j]? = _
        rw [List.getElem?_map, nthS, List.getD_eq_getElem?_getD, List.getElem?_eq_getElem (by omega)]; rfl
      have hr : readC s = if udV (nthS (fieldsS s) 1) = 0 then none else some (udV (nthS (fieldsS s) 1), udV (nthS (fieldsS s) 3)) := by unfold readC; rw [if_neg h0, if_pos hlen]
      have c1 := hc 1 (by decide) W1 (Below.refl _ _)
      have HC := Lib.hid hc; have HRR := Lib.hid hr
      have HU := Lib.hid fun (x : ByteArray) (w' : World) (h : Below W1.heap.size W1 w') => undec_any hR.tab x w' ((hw.below HB.out).below h)
      obtain ⟨K, hK⟩ : ∃ K, udV (nthS (fieldsS s) 1) = K := ⟨_, rfl⟩
      obtain ⟨O, hO⟩ : ∃ O, udV (nthS (fieldsS s) 3) = O := ⟨_, rfl⟩
      have HK := Lib.hid hK; have HO := Lib.hid hO
      clear hf b1 hk hW1 hn hlen hr hc hw hm hn1 h0 hs hK hO
      by_cases hk0 : K = 0
      · subst hk0
        go_enter Tryz.func34, Tryz.ntmps34
        go_wp2_with (first
          | (go_at_call 46; refine HF.out.mono ?_; rintro ev w2 ⟨rfl, rfl⟩)
          | (go_at_call 47; refine (HU.out _ _ ?_).mono ?_; exact Below.refl _ _; rw [HK.out]; rintro ev w3 ⟨rfl, hb3⟩; have HB3 := Lib.hid hb3; have c3 := HC.out 3 (by decide) _ hb3; clear hb3)
          | (go_at_call 47; refine (HU.out _ _ ?_).mono ?_; exact HB3.out; rw [HO.out]; rintro ev w4 ⟨rfl, hb4⟩; have HB4 := Lib.hid (keepW HB3.out hb4); clear hb4)
          | (go_at_call 24; refine (new_zero _ _).mono ?_; rintro ev w5 ⟨rfl, rfl⟩))
        go_ret
        exact ⟨by rw [HRR.out, if_pos HK.out]; rfl, keepW HB.out HB4.out⟩
      · have HK0 := Lib.hid hk0
        clear hk0
        go_enter Tryz.func34, Tryz.ntmps34
        go_wp2_with (first
          | (go_at_call 46; refine HF.out.mono ?_; rintro ev w2 ⟨rfl, rfl⟩)
          | (go_at_call 47; refine (HU.out _ _ ?_).mono ?_; exact Below.refl _ _; rw [HK.out]; rintro ev w3 ⟨rfl, hb3⟩; have HB3 := Lib.hid hb3; have c3 := HC.out 3 (by decide) _ hb3; clear hb3)
          | (go_at_call 47; refine (HU.out _ _ ?_).mono ?_; exact HB3.out; rw [HO.out]; rintro ev w4 ⟨rfl, hb4⟩; have HB4 := Lib.hid (keepW HB3.out hb4); clear hb4)
          | (go_at_call 24; refine (new_any _ _ HK0.out _).mono ?_; rintro ev w5 ⟨rfl, hb5⟩; have HB5 := Lib.hid (keepW HB4.out hb5); clear hb5))
        go_ret
        exact ⟨by rw [HRR.out, if_neg (by rw [HK.out]; exact HK0.out), HK.out, HO.out]; rfl, keepW HB.out HB5.out⟩
    · have hr : readC s = none := by unfold readC; rw [if_neg h0, if_neg (by omega)]
      have h4' : ((n : Int) == 4) = false := by rw [beq_eq_false_iff_ne]; omega
      have HRR := Lib.hid hr
      clear hf b1 hk hW1 hn hlen hr hw hm hn1 h0 hs h4
      go_enter Tryz.func34, Tryz.ntmps34
      go_wp2_with (go_at_call 46; refine HF.out.mono ?_; rintro ev w2 ⟨rfl, rfl⟩)
      go_ret
      exact ⟨by rw [HRR.out]; rfl, HB.out⟩
end Go.Proofs.YtidkpdabidlnnaaGreatDoor


/-
  What a text tells as an error: the program's reading.
-/

namespace Go.Proofs.YtidkpdabidlnnaaGreatDoor

open Go.Den Go.RowKit

set_option maxRecDepth 100000

set_option linter.unusedSectionVars false

variable [Inhabited Root]

noncomputable def pcs2 (s : ByteArray) : List ByteArray := Lib.splitB ⟨#[58, 32]⟩ 0 (Lib.countB s ⟨#[58, 32]⟩) s
theorem pcs2_len (s : ByteArray) : (pcs2 s).length = Lib.countB s ⟨#[58, 32]⟩ + 1 := Lib.splitB_all _ (by decide) 0 _ s rfl
theorem pcs2_le (s : ByteArray) : (pcs2 s).length ≤ s.size + 1 := by
  rw [pcs2_len]
  have := Lib.countB_le ⟨#[58, 32]⟩ (by decide) s.size s (Nat.le_refl _)
  omega
/-- Words wrapped, the last one first: at most eight. -/
def wrapsL : List ByteArray → List ByteArray
  | [] => []
  | s :: l => if 8 ≤ (wrapsL l).length then wrapsL l else wordB s :: wrapsL l
theorem wrapsL_len : ∀ l : List ByteArray, (wrapsL l).length ≤ 8
  | [] => Nat.zero_le _
  | s :: l => by
    have := wrapsL_len l
    unfold wrapsL
    split
    · exact this
    · rw [List.length_cons]; omega
theorem cnt_words : ∀ {f : Er} {k o : Int}, innerE f = .flt k o → cntE f = (wordsE f).length ∧ f.size = (wordsE f).length + 2
  | .flt _ _, _, _, _ => ⟨rfl, rfl⟩
  | .note _ _ e, k, o, h => by
    obtain ⟨h1, h2⟩ := cnt_words (f := e) (k := k) (o := o) h
    exact ⟨by show cntE e + 1 = (wordsE e).length + 1; rw [h1], by show e.size + 1 = (wordsE e).length + 1 + 2; omega⟩
theorem wrap_words {e f : Er} {s : ByteArray} {k o : Int} {l : List ByteArray} (hi : innerE e = .flt k o) (hw : wordsE e = wrapsL l) (h : WrapR e s f) : innerE f = .flt k o ∧ wordsE f = wrapsL (s :: l) := by
  obtain ⟨h1, _⟩ := cnt_words hi
  rcases h with ⟨h8, rfl⟩ | ⟨h8, b, rfl⟩
  · refine ⟨hi, ?_⟩
    rw [wrapsL, if_pos (by rw [← hw, ← h1]; exact h8)]; exact hw
  · refine ⟨hi, ?_⟩
    rw [wrapsL, if_neg (by rw [← hw, ← h1]; omega), ← hw]; rfl
theorem wraps_small : ∀ l : List ByteArray, ∀ x ∈ wrapsL l, ∃ y, x = wordB y
  | [], x, h => by cases h
  | s :: l, x, h => by
    unfold wrapsL at h
    split at h
    · exact wraps_small l x h
    · rcases List.mem_cons.1 h with rfl | h
      · exact ⟨s, rfl⟩
      · exact wraps_small l x h
theorem small_wraps {f : Er} {l : List ByteArray} (hw : wordsE f = wrapsL l) : smallW f := fun x hx => by
  rw [hw] at hx
  obtain ⟨y, rfl⟩ := wraps_small l x hx
  exact wordB_size y
def bsl (l : List ByteArray) : List (List UInt8) := l.map (·.data.toList)
theorem errS_line : ∀ {f : Er} {k o : Int}, innerE f = .flt k o → errS f = lineF (bsl (wordsE f)) k o
  | .flt _ _, _, _, h => by cases h; rfl
  | .note _ wd e, k, o, h => by
    have ih := errS_line (f := e) (k := k) (o := o) h
    show wd.data.toList ++ [58, 32] ++ errS e = lineF (wd.data.toList :: bsl (wordsE e)) k o
    rw [ih]
    unfold lineF
    simp
/-- What the program reads. -/
noncomputable def parC (s : ByteArray) : Option (List ByteArray × Int × Int) :=
  if 400 < s.size then none
  else (readC (nthS (pcs2 s) ((pcs2 s).length - 1))).bind fun p => if st (lineF (bsl (wrapsL (pcs2 s).dropLast)) p.1 p.2) = s then some (wrapsL (pcs2 s).dropLast, p.1, p.2) else none
theorem readC_in {s : ByteArray} {k o : Int} (h : readC s = some (k, o)) : In64 k ∧ In64 o := by
  unfold readC at h
  split at h
  · cases h
  · split at h
    · split at h
      · cases h
      · cases h; exact ⟨udV_in _, udV_in _⟩
    · cases h
def ParR (r : Option (List ByteArray × Int × Int)) (ev : Ending) (w' : World) : Prop :=
  match r with
  | none => ev = .returned (.tuple #[.nilIface, .bool false])
  | some (ws, k, o) => ∃ f : Er, ev = .returned (.tuple #[.iface f.ty f.cont, .bool true]) ∧ f.lies w' ∧ wordsE f = ws ∧ innerE f = .flt k o ∧ f.size ≤ 10 ∧ smallW f
noncomputable def natOf1 (v : Value) : Nat :=
  match v with
  | .int _ n => (n + 1).toNat
  | _ => 0
def LoopE (l : List ByteArray) (rd : Option (Int × Int)) (oe : Option Er) (wr : World) : Prop :=
  match rd with
  | none => oe = none
  | some (k, o) => ∃ f, oe = some f ∧ f.lies wr ∧ innerE f = .flt k o ∧ wordsE f = wrapsL l
theorem splitB_sizes (sep : ByteArray) : ∀ (k : Nat) (s : ByteArray), ∀ x ∈ Lib.splitB sep 0 k s, x.size ≤ s.size
  | 0, s, x, h => by rw [Lib.splitB_zero, List.mem_singleton] at h; subst h; exact Nat.le_refl _
  | k + 1, s, x, h => by
    unfold Lib.splitB at h
    split at h
    · rw [List.mem_singleton] at h; subst h; exact Nat.le_refl _
    · rcases List.mem_cons.1 h with rfl | h
      · rw [ByteArray.size_extract]; omega
      · have := splitB_sizes sep k _ x h
        rw [ByteArray.size_extract] at this; omega
theorem nthS_size {s : ByteArray} (j : Nat) : (nthS (pcs2 s) j).size ≤ s.size := by
  unfold nthS
  rw [List.getD_eq_getElem?_getD]
  cases h : (pcs2 s)[j]? with
  | none => exact Nat.zero_le _
  | some x => exact splitB_sizes _ _ _ x (List.mem_of_getElem? h)
theorem nthS_drop {ps : List ByteArray} {n q : Nat} (hp : ps.length = n + 1) (hq : q < n) : (ps.take n).drop q = nthS ps q :: (ps.take n).drop (q + 1) := by
  rw [List.drop_eq_getElem_cons (by rw [List.length_take]; omega), List.getElem_take]
  congr 1
  rw [nthS, List.getD_eq_getElem?_getD, List.getElem?_eq_getElem (by omega)]; rfl
set_option maxHeartbeats 4000000 in
theorem parse_any (hR : R6) (s : ByteArray) (hs : s.size ≤ 1000) (w : World) (hw : Held w) :
    Calls Tryz.prog 19 #[.string s] w fun ev w' => ParR (parC s) ev w' ∧ Below w.heap.size w w' := by
  by_cases h4 : 400 < s.size
  · have h4' : (400 : Int) < (s.size : Int) := by omega
    have hr : parC s = none := by unfold parC; rw [if_pos h4]
    rw [hr]
    clear hr h4 hs hw
    go_enter Tryz.func19, Tryz.ntmps19
    go_wp2
    go_ret2
    exact ⟨rfl, Below.refl _ _⟩
  · have h4' : ¬ (400 : Int) < (s.size : Int) := by omega
    obtain ⟨m, hm⟩ := hR.max.held hw
    have hp := pcs2_len s
    have hple := pcs2_le s
    obtain ⟨n, hn⟩ : ∃ n, Lib.countB s ⟨#[58, 32]⟩ = n := ⟨_, rfl⟩
    obtain ⟨ps, hps⟩ : ∃ ps, pcs2 s = ps := ⟨_, rfl⟩
    obtain ⟨W1, hW1⟩ : ∃ W1, W1 = w.alloc (.cells ((pcs2 s).map Value.string).toArray 9) := ⟨_, rfl⟩
    have hsp : Calls Tryz.prog 33 #[.string s, .string ⟨#[58, 32]⟩] w fun ev w' => ev = .returned (.slice (some ⟨w.heap.size, 0, none⟩) (n + 1) (n + 1)) ∧ w' = W1 := by
      rw [hW1, ← hn]
      exact Tryz.strings_Split s ⟨#[58, 32]⟩ m w (by omega) hm (by decide)
    have b1 : Below w.heap.size w W1 := by rw [hW1]; exact (Below.refl _ w).alloc (Nat.le_refl _) _
    have hk : Blk W1 w.heap.size (ps.map Value.string).toArray 9 := by rw [hW1, hps]; exact Blk.new rfl
    rw [hps] at hp hple
    rw [hn] at hp
    have hn1 : n ≤ 400 := by omega
    have hc : ∀ (j : Nat), j < n + 1 → ∀ w', Below W1.heap.size W1 w' → w'.cell? ⟨w.heap.size, j, none⟩ = some (.string (nthS ps j)) := fun j hj w' h => by
      rw [(Blk.keep h hk).cell j, ← Array.getElem?_toList]
      show (ps.map Value.string)[j]? = _
      rw [List.getElem?_map, nthS, List.getD_eq_getElem?_getD, List.getElem?_eq_getElem (by omega)]; rfl
    have hsz : ∀ j, (nthS ps j).size ≤ 1000 := fun j => by rw [← hps]; exact Nat.le_trans (nthS_size j) hs
    have cn := hc n (by omega) W1 (Below.refl _ _)
    obtain ⟨rd, hrd⟩ : ∃ rd, readC (nthS ps n) = rd := ⟨_, rfl⟩
    have hre := fun (w' : World) (h : Below W1.heap.size W1 w') => read_any hR (nthS ps n) (hsz n) w' ((hw.below b1).below h)
    rw [hrd] at hre
    have hpar : parC s = rd.bind fun p => if st (lineF (bsl (wrapsL (ps.take n))) p.1 p.2) = s then some (wrapsL (ps.take n), p.1, p.2) else none := by
      unfold parC
      rw [if_neg h4, hps, hp, Nat.add_sub_cancel, hrd, List.dropLast_eq_take, hp, Nat.add_sub_cancel]
    have hcw : ∀ (j : Nat) (w' : World), j < n → Below w.heap.size w w' → Below W1.heap.size W1 w' → w'.cell? ⟨w.heap.size, j, none⟩ = some (.string (nthS ps j)) := fun j w' hj _ h => hc j (by omega) w' h
    have HSP := Lib.hid hsp; have HRE := Lib.hid hre; have HB1 := Lib.hid b1; have HC := Lib.hid hc; have HSZ := Lib.hid hsz; have HPAR := Lib.hid hpar; have HP := Lib.hid hp; have HW := Lib.hid hw; have HN := Lib.hid hn1; have HRD := Lib.hid hrd
    have hn2 : (n : Int) ≤ 400 := by omega
    have hlt0 : ¬ ((n : Int) < 0) := by omega
    clear hsp hre b1 hk hp hple hn hps hW1 hm hw hs h4 hc hsz hrd hpar hcw hn1
    go_enter Tryz.func19, Tryz.ntmps19
    go_wp2_with (first
      | (go_at_call 33; refine HSP.out.mono ?_; rintro ev w2 ⟨rfl, rfl⟩)
      | (go_at_call 34; refine (HRE.out _ ?_).mono ?_; exact Below.refl _ _; rintro ev w3 ⟨rfl, hb3⟩; have HB3 := Lib.hid hb3; clear hb3))
    have hin : ∀ k o, rd = some (k, o) → In64 k ∧ In64 o := fun k o h => by
      rw [← HRD.out] at h
      exact readC_in h
    have HIN := Lib.hid hin
    clear hin
    go_loopw [6, 7] (fun v i wr => ∃ (oe : Option Er) (j : Nat), v = oval oe ∧ i = .int .i64 ((j : Int) - 1) ∧ j ≤ n ∧ LoopE ((ps.take n).drop j) rd oe wr ∧ Below w2.heap.size w2 wr) (fun _ i _ => natOf1 i)
    case atStart =>
      have hd : (ps.take n).drop n = [] := List.drop_of_length_le (by rw [List.length_take]; omega)
      cases hrd : rd with
      | none => exact ⟨none, n, rfl, rfl, Nat.le_refl _, rfl, HB3.out⟩
      | some p => exact ⟨some (.flt p.1 p.2), n, rfl, rfl, Nat.le_refl _, ⟨_, rfl, HIN.out p.1 p.2 hrd, rfl, by rw [hd]; rfl⟩, HB3.out⟩
    case round =>
      obtain ⟨oe, j, rfl, rfl, hj, hl, hb⟩ := hrel
      by_cases hj0 : j = 0
      · subst hj0
        have HB := Lib.hid hb
        cases hrd : rd with
        | none =>
          rw [hrd] at hl
          obtain rfl : oe = none := hl
          have hpn : parC s = none := by rw [HPAR.out, hrd]; rfl
          have HPN := Lib.hid hpn
          have hv : oval none = .nilIface := rfl
          clear hb hj hrd hpn
          rw [hv]
          clear hv
          go_wp2_with (go_at_call 12; refine (line_nil _).mono ?_; rintro ev w5 ⟨rfl, hb5⟩; have HB5 := Lib.hid hb5; clear hb5)
          go_ret2
          exact ⟨by rw [HPN.out]; rfl, keepW HB1.out (keepW HB.out HB5.out)⟩
        | some p =>
          rw [hrd, List.drop_zero] at hl
          obtain ⟨f, rfl, hfl, hfi, hfw⟩ := hl
          obtain ⟨hcn, hfs⟩ := cnt_words hfi
          have hsm := small_wraps hfw
          have hf10 : f.size ≤ 10 := by have := wrapsL_len (ps.take n); rw [hfw] at hfs; omega
          have hlv : lineV f = .tuple #[.string (st (errS f)), .bool true] := by unfold lineV; rw [hfi]; rfl
          have hll := line_any hR f wr hfl (by omega) hsm ((HW.out.below HB1.out).below hb)
          have hel : st (errS f) = st (lineF (bsl (wrapsL (ps.take n))) p.1 p.2) := by rw [errS_line hfi, hfw]
          obtain ⟨L, hL⟩ : ∃ L, st (errS f) = L := ⟨_, rfl⟩
          rw [hL] at hel hlv
          rw [hlv] at hll
          have hpc : parC s = if L = s then some (wrapsL (ps.take n), p.1, p.2) else none := by rw [HPAR.out, hrd, hel]; rfl
          have HLL := Lib.hid hll; have HFL := Lib.hid hfl; have HFI := Lib.hid hfi; have HFW := Lib.hid hfw; have HSM := Lib.hid hsm; have HF10 := Lib.hid hf10; have HPC := Lib.hid hpc
          have hv : oval (some f) = .iface f.ty f.cont := oval_some f
          clear hb hj hrd hpc hfl hfi hfw hsm hf10 hlv hll hel hL hcn hfs
          rw [hv]
          clear hv
          by_cases hE : L = s
          · have hle : (L.toList == s.toList) = true := by rw [hE]; exact beq_self_eq_true _
            have HE := Lib.hid hE
            clear hE
            go_wp2_with (go_at_call 12; refine HLL.out.mono ?_; rintro ev w5 ⟨rfl, hb5⟩; have HB5 := Lib.hid hb5; clear hb5)
            go_ret2
            refine ⟨?_, keepW HB1.out (keepW HB.out HB5.out)⟩
            rw [HPC.out, if_pos HE.out]
            exact ⟨f, rfl, Er.lies.keep HB5.out HFL.out, HFW.out, HFI.out, HF10.out, HSM.out⟩
          · have hle : (L.toList == s.toList) = false := by
              rw [beq_eq_false_iff_ne]
              intro h
              rw [Lib.toList_data, Lib.toList_data] at h
              exact hE (by rw [← st_data L, ← st_data s, h])
            have HE := Lib.hid hE
            clear hE
            go_wp2_with (go_at_call 12; refine HLL.out.mono ?_; rintro ev w5 ⟨rfl, hb5⟩; have HB5 := Lib.hid hb5; clear hb5)
            go_ret2
            refine ⟨?_, keepW HB1.out (keepW HB.out HB5.out)⟩
            rw [HPC.out, if_neg HE.out]; rfl
      · obtain ⟨q, rfl⟩ : ∃ q, j = q + 1 := ⟨j - 1, by omega⟩
        have hqi : ((q + 1 : Nat) : Int) - 1 = (q : Int) := by omega
        rw [hqi]
        have hqn : q < n := by omega
        have hdr := nthS_drop HP.out hqn
        have cq := HC.out q (by omega) wr hb
        have hq0 : ¬ ((q : Int) < 0) := by omega
        have hq1 : (q : Int) < (n : Int) + 1 := by omega
        have hq2 : (q : Int) ≤ 400 := by omega
        have HB := Lib.hid hb; have HDR := Lib.hid hdr; have HQN := Lib.hid hqn
        cases hrd : rd with
        | none =>
          rw [hrd] at hl
          obtain rfl : oe = none := hl
          have hv : oval none = .nilIface := rfl
          have HR := Lib.hid hrd
          clear hb hj hrd hqi hj0 hdr hqn
          rw [hv]
          clear hv
          go_wp2_with (go_at_call 22; refine (wrap_nil _ _).mono ?_; rintro ev w5 ⟨rfl, rfl⟩)
          go_roundw
          case rel => exact ⟨none, q, rfl, rfl, by have := HQN.out; omega, rfl, HB.out⟩
          case measure => simp [natOf1]
        | some p =>
          rw [hrd] at hl
          obtain ⟨f, rfl, hfl, hfi, hfw⟩ := hl
          obtain ⟨hcn, hfs⟩ := cnt_words hfi
          have hf10 : f.size ≤ 1000000 := by have := wrapsL_len ((ps.take n).drop (q + 1)); rw [hfw] at hfs; omega
          have hwr := wrap_any f (nthS ps q) (Nat.le_trans (HSZ.out q) (by omega)) hf10 wr hfl
          have hv : oval (some f) = .iface f.ty f.cont := oval_some f
          have HWR := Lib.hid hwr; have HFI := Lib.hid hfi; have HFW := Lib.hid hfw
          clear hb hj hrd hfl hfi hfw hf10 hwr hcn hfs hqi hj0 hdr hqn
          rw [hv]
          clear hv
          go_wp2_with (go_at_call 22; refine HWR.out.mono ?_; rintro ev w5 ⟨g, rfl, hgl, hb5, hwg⟩; have HB5 := Lib.hid hb5; have HGL := Lib.hid hgl; have HWG := Lib.hid hwg; clear hb5 hgl hwg)
          go_roundw
          case rel =>
            obtain ⟨h1, h2⟩ := wrap_words HFI.out HFW.out HWG.out
            exact ⟨some g, q, (oval_some g).symm, rfl, by have := HQN.out; omega, ⟨g, rfl, HGL.out, h1, by rw [HDR.out]; exact h2⟩, keepW HB.out HB5.out⟩
          case measure => simp [natOf1]
end Go.Proofs.YtidkpdabidlnnaaGreatDoor


/-
  The program's reading of a text is the document's.
-/

namespace Go.Proofs.YtidkpdabidlnnaaGreatDoor

open Go.Den Go.RowKit

set_option maxRecDepth 100000

set_option linter.unusedSectionVars false

variable [Inhabited Root]

theorem bsl_st (l : List (List UInt8)) : bsl (l.map st) = l := by
  unfold bsl
  rw [List.map_map]
  conv => rhs; rw [← List.map_id l]
  rfl
theorem st_bsl (l : List ByteArray) : (bsl l).map st = l := by
  unfold bsl
  rw [List.map_map]
  conv => rhs; rw [← List.map_id l]
  rfl
theorem bsl_inj {l m : List ByteArray} (h : bsl l = bsl m) : l = m := by rw [← st_bsl l, ← st_bsl m, h]
theorem pcs2_split (s : ByteArray) : bsl (pcs2 s) = Lib.split s.data.toList sepS := Lib.splitB_data _ _ _ _
theorem fields_split (s : ByteArray) : bsl (fieldsS s) = Lib.split s.data.toList [32] := Lib.splitB_data _ _ _ _
theorem index32 {w r : List UInt8} (hw : ∀ c ∈ w, c ≠ 32) : Lib.index (w ++ 32 :: r) [32] = w.length := by
  refine Lib.index_first (by simp) ?_ fun j hj => ?_
  · unfold Lib.occAt
    rw [List.drop_left]
    simp [List.isPrefixOf]
  · unfold Lib.occAt
    have h1 : (w ++ 32 :: r).drop j = w[j] :: (w ++ 32 :: r).drop (j + 1) := by
      rw [List.drop_eq_getElem_cons (by rw [List.length_append]; omega), List.getElem_append_left hj]
    rw [h1]
    have : (32 == w[j]) = false := by rw [beq_eq_false_iff_ne]; exact fun e => hw _ (List.getElem_mem hj) e.symm
    simp [List.isPrefixOf, this]
theorem noindex32 {t : List UInt8} (ht : ∀ c ∈ t, c ≠ 32) : Lib.index t [32] = -1 := by
  refine Lib.index_none fun j hj => ?_
  unfold Lib.occAt
  cases h : t.drop j with
  | nil => rfl
  | cons c r =>
    have hc : c ∈ t := List.mem_of_mem_drop (i := j) (by rw [h]; exact List.mem_cons_self)
    have : (32 == c) = false := by rw [beq_eq_false_iff_ne]; exact fun e => ht _ hc e.symm
    simp [List.isPrefixOf, this]
theorem split32 {w r : List UInt8} (hw : ∀ c ∈ w, c ≠ 32) : Lib.split (w ++ 32 :: r) [32] = w :: Lib.split r [32] := by
  have hi := index32 (r := r) hw
  have hd : (w ++ 32 :: r).drop (w.length + ([32] : List UInt8).length) = r := by rw [← List.drop_drop, List.drop_left]; rfl
  unfold Lib.split
  rw [Lib.count_hit (by decide) hi, hd, Nat.add_comm, Lib.splitK, if_neg (by rw [hi]; simp), hi]
  show (w ++ 32 :: r).take w.length :: Lib.splitK [32] 0 _ ((w ++ 32 :: r).drop (w.length + ([32] : List UInt8).length)) = _
  rw [hd, List.take_left]
theorem nosplit32 {t : List UInt8} (ht : ∀ c ∈ t, c ≠ 32) : Lib.split t [32] = [t] := by
  unfold Lib.split
  rw [Lib.count_miss (noindex32 ht)]; rfl
theorem itoa_no32 (v : Int) : ∀ c ∈ Lib.itoa v, c ≠ 32 := by
  intro c hc
  have hd : ∀ u, ∀ c ∈ Lib.decDigits u, c ≠ 32 := fun u c h => by
    have := decDigits_dig u c h
    rintro rfl
    revert this; decide
  unfold Lib.itoa at hc
  split at hc
  · rcases List.mem_cons.1 hc with rfl | h
    · decide
    · exact hd _ _ h
  · exact hd _ _ hc
theorem fields_fault (k o : Int) : fieldsS (st (faultS k o)) = [st [107, 105, 110, 100], st (Lib.itoa k), st [97, 116], st (Lib.itoa o)] := by
  apply bsl_inj
  rw [fields_split, data_st]
  have e : faultS k o = [107, 105, 110, 100] ++ 32 :: (Lib.itoa k ++ 32 :: ([97, 116] ++ 32 :: Lib.itoa o)) := by
    show [107, 105, 110, 100, 32] ++ (Lib.itoa k ++ ([32, 97, 116, 32] ++ Lib.itoa o)) = _
    rfl
  rw [e, split32 (by decide), split32 (itoa_no32 k), split32 (by decide), nosplit32 (itoa_no32 o)]
  rfl
theorem udV_itoa {v : Int} (h : In64 v) : udV (st (Lib.itoa v)) = v := by
  unfold udV
  rw [data_st, ud_itoa h.1 h.2]; rfl
theorem read_fault {k o : Int} (hk : k ≠ 0) (ik : In64 k) (io : In64 o) : readC (st (faultS k o)) = some (k, o) := by
  have h0 : (st (faultS k o)).size ≠ 0 := by
    rw [size_st]
    show (kindS ++ _).length ≠ 0
    rw [List.length_append]
    have : kindS.length = 5 := rfl
    omega
  unfold readC
  rw [if_neg h0, fields_fault]
  show (if (4 : Nat) = 4 then _ else _) = _
  rw [if_pos rfl]
  show (if udV (st (Lib.itoa k)) = 0 then none else some (udV (st (Lib.itoa k)), udV (st (Lib.itoa o)))) = _
  rw [udV_itoa ik, udV_itoa io, if_neg hk]
theorem readC_ne {s : ByteArray} {k o : Int} (h : readC s = some (k, o)) : k ≠ 0 := by
  unfold readC at h
  split at h
  · cases h
  · split at h
    · split at h
      · cases h
      · cases h; assumption
    · cases h
theorem wraps_self : ∀ (l : List ByteArray), l.length ≤ 8 → (∀ x ∈ l, wordB x = x) → wrapsL l = l
  | [], _, _ => rfl
  | s :: l, h, hx => by
    have ih := wraps_self l (by simp at h; omega) fun x hm => hx x (List.mem_cons_of_mem _ hm)
    rw [wrapsL, ih, if_neg (by simp at h; omega), hx s List.mem_cons_self]
/-- The program's reading is the document's. -/
theorem parC_parF (s : ByteArray) : parC s = (parF s.data.toList).map fun p => (p.1.map st, p.2.1, p.2.2) := by
  have hl : s.data.toList.length = s.size := size_data s
  by_cases h4 : 400 < s.size
  · have e1 : parC s = none := by unfold parC; rw [if_pos h4]
    have e2 : parF s.data.toList = none := by unfold parF; rw [if_pos (.inl (by omega))]
    rw [e1, e2]; rfl
  · cases hF : parF s.data.toList with
    | some p =>
      obtain ⟨ws, k, o⟩ := p
      obtain ⟨e, hg, _⟩ := parF_some hF
      have hp : pcs2 s = ws.map st ++ [st (faultS k o)] := by
        apply bsl_inj
        rw [pcs2_split, e]
        unfold lineF
        rw [split_line (fun c hc => by have := fault_no58 k o c hc; unfold not58 at this; simpa using this) ws hg.words]
        show _ = bsl (ws.map st ++ [st (faultS k o)])
        unfold bsl
        rw [List.map_append]
        have := bsl_st ws
        unfold bsl at this
        rw [this]; rfl
      have hw : wrapsL (ws.map st) = ws.map st := wraps_self _ (by rw [List.length_map]; exact hg.few) fun x hx => by
        obtain ⟨y, hy, rfl⟩ := List.mem_map.1 hx
        unfold wordB
        rw [data_st, hg.words y hy]
      have hlast : nthS (pcs2 s) ((pcs2 s).length - 1) = st (faultS k o) := by
        rw [hp]
        unfold nthS
        rw [List.getD_eq_getElem?_getD, List.length_append, List.getElem?_append_right (by simp)]
        simp
      have hdl : (pcs2 s).dropLast = ws.map st := by rw [hp, List.dropLast_concat]
      unfold parC
      rw [if_neg h4, hlast, read_fault hg.kind hg.ink hg.ino, Option.bind_some, hdl, hw, bsl_st, ← e, st_data, if_pos rfl]
      rfl
    | none =>
      cases hC : parC s with
      | none => rfl
      | some q =>
        exfalso
        unfold parC at hC
        rw [if_neg h4] at hC
        cases hr : readC (nthS (pcs2 s) ((pcs2 s).length - 1)) with
        | none => rw [hr] at hC; cases hC
        | some p =>
          rw [hr, Option.bind_some] at hC
          split at hC
          · rename_i he
            have hk := readC_ne (k := p.1) (o := p.2) hr
            obtain ⟨ik, io⟩ := readC_in (k := p.1) (o := p.2) hr
            have hg : GoodF (bsl (wrapsL (pcs2 s).dropLast)) p.1 p.2 := ⟨by unfold bsl; rw [List.length_map]; exact wrapsL_len _, fun w hw => by
              unfold bsl at hw
              obtain ⟨y, hy, rfl⟩ := List.mem_map.1 hw
              obtain ⟨z, rfl⟩ := wraps_small _ y hy
              exact wordF_idem _, hk, ik, io⟩
            have hd : s.data.toList = lineF (bsl (wrapsL (pcs2 s).dropLast)) p.1 p.2 := by rw [← he, data_st, he]
            have := parF_line hg (by rw [← hd]; omega)
            rw [← hd, hF] at this
            cases this
          · cases hC
end Go.Proofs.YtidkpdabidlnnaaGreatDoor


/-
  The document's examples: known.
-/

namespace Go.Proofs.YtidkpdabidlnnaaGreatDoor

open Go.Den Go.RowKit

set_option maxRecDepth 100000

set_option linter.unusedSectionVars false

variable [Inhabited Root]

theorem wrap_note (e : Er) (s : ByteArray) (hs : s.size ≤ 1000000) (he : e.size ≤ 1000000) (h8 : cntE e < 8) (w : World) (hl : e.lies w) :
    Calls Tryz.prog 22 #[.iface e.ty e.cont, .string s] w fun ev w' => ∃ f : Er, ev = .returned (.iface f.ty f.cont) ∧ f.lies w' ∧ Below w.heap.size w w' ∧ ∃ b, f = .note b (wordB s) e :=
  (wrap_any e s hs he w hl).mono fun ev w' ⟨f, h1, h2, h3, h4⟩ => ⟨f, h1, h2, h3, by
    rcases h4 with ⟨h, _⟩ | ⟨_, h⟩
    · omega
    · exact h⟩
theorem itoa122 : Lib.itoa 122 = [49, 50, 50] := by kernel_rfl
theorem itoa24 : Lib.itoa 24 = [50, 52] := by kernel_rfl
theorem itoa7 : Lib.itoa 7 = [55] := by kernel_rfl
def fileS : ByteArray := ⟨#[102, 105, 108, 101]⟩
def blockS : ByteArray := ⟨#[98, 108, 111, 99, 107]⟩
def lineS : ByteArray := ⟨#[102, 105, 108, 101, 58, 32, 98, 108, 111, 99, 107, 58, 32, 107, 105, 110, 100, 32, 49, 50, 50, 32, 97, 116, 32, 50, 52]⟩
structure KnE (f : Er) : Prop where
  inner : innerE f = .flt 122 24
  line : st (errS f) = lineS
  size : f.size = 4
  small : smallW f
  note : f.isNote = true
theorem knE_of {f g : Er} {b : Nat} (hf : ∃ b, f = .note b (wordB fileS) g) (hg : g = .note b (wordB blockS) (.flt 122 24)) : KnE f := by
  obtain ⟨c, rfl⟩ := hf
  subst hg
  have h1 : wordB fileS = fileS := by kernel_rfl
  have h2 : wordB blockS = blockS := by kernel_rfl
  refine ⟨rfl, ?_, rfl, ?_, rfl⟩
  · rw [h1, h2]
    show st (fileS.data.toList ++ [58, 32] ++ (blockS.data.toList ++ [58, 32] ++ faultS 122 24)) = _
    unfold faultS
    rw [itoa122, itoa24]; rfl
  · intro x hx
    rcases List.mem_cons.1 hx with rfl | hx
    · exact wordB_size _
    · rcases List.mem_cons.1 hx with rfl | hx
      · exact wordB_size _
      · cases hx
theorem parC_empty : parC ⟨#[]⟩ = none := by
  rw [parC_parF]
  have : parF (⟨#[]⟩ : ByteArray).data.toList = none := by decide +kernel
  rw [this]; rfl
/-- An error as it lies in a world that a call has come to. -/
structure At (w : World) (f : Er) (wc : World) : Prop where
  below : Below w.heap.size w wc
  lies : f.lies wc
  held : Held wc
theorem At.next {w wc w' : World} {f : Er} (h : At w f wc) (hb : Below wc.heap.size wc w') : At w f w' := ⟨keepW h.below hb, h.lies.keep hb, h.held.below hb⟩
theorem KnE.lineV {f : Er} (h : KnE f) : lineV f = .tuple #[.string lineS, .bool true] := by unfold Go.Proofs.YtidkpdabidlnnaaGreatDoor.lineV; rw [h.inner, h.line]; rfl
theorem KnE.ok {f : Er} (h : KnE f) : lineOk f := lineOk_of h.small (by rw [h.inner]; rfl)
theorem fst_inner : ∀ {f : Er} {k o : Int}, innerE f = .flt k o → fstS f = some k ∧ fstF f = some (k, o) ∧ ∀ j, has (qS j) f = (k == j)
  | .flt _ _, _, _, h => by cases h; exact ⟨rfl, rfl, fun j => rfl⟩
  | .note b wd e, k, o, h => by
    obtain ⟨h1, h2, h3⟩ := fst_inner (f := e) (k := k) (o := o) h
    exact ⟨h1, h2, fun j => by show (false || has (qS j) e) = _; rw [h3]; rfl⟩
theorem line_kn (hR : R6) {w wc : World} {f : Er} (h : KnE f) (a : At w f wc) : Calls Tryz.prog 12 #[.iface f.ty f.cont] wc fun ev w' => ev = .returned (.tuple #[.string lineS, .bool true]) ∧ At w f w' :=
  (line_any hR f wc a.lies (by rw [h.size]; omega) h.small a.held).mono fun ev w' ⟨h1, h2⟩ => ⟨by rw [h1, h.lineV], a.next h2⟩
theorem kind_kn (hR : R6) {w wc : World} {f : Er} (h : KnE f) (a : At w f wc) : Calls Tryz.prog 10 #[.iface f.ty f.cont] wc fun ev w' => ev = .returned (.tuple #[.int .i64 122, .bool true]) ∧ At w f w' :=
  (kind_any f wc a.lies (by rw [h.size]; omega) (hR.ert.held a.held)).mono fun ev w' ⟨h1, h2⟩ => ⟨by rw [h1, (fst_inner h.inner).1]; rfl, a.next h2⟩
theorem off_kn (hR : R6) {w wc : World} {f : Er} (h : KnE f) (a : At w f wc) : Calls Tryz.prog 11 #[.iface f.ty f.cont] wc fun ev w' => ev = .returned (.tuple #[.int .i64 24, .bool true]) ∧ At w f w' :=
  (off_any f wc a.lies (by rw [h.size]; omega) (hR.ert.held a.held)).mono fun ev w' ⟨h1, h2⟩ => ⟨by rw [h1, (fst_inner h.inner).2.1]; rfl, a.next h2⟩
theorem is_kn {w wc : World} {f : Er} (h : KnE f) (a : At w f wc) (k : Int) : Calls Tryz.prog 16 #[.iface f.ty f.cont, .int .i64 k] wc fun ev w' => ev = .returned (.bool (122 == k)) ∧ At w f w' :=
  (fis_any f k wc a.lies (by rw [h.size]; omega)).mono fun ev w' ⟨h1, h2⟩ => ⟨by rw [h1, (fst_inner h.inner).2.2], a.next h2⟩
theorem err_kn (hR : R6) {w wc : World} {f : Er} (h : KnE f) (a : At w f wc) : Calls Tryz.prog 151 #[f.cont] wc fun ev w' => ev = .returned (.string lineS) ∧ At w f w' := by
  have hf : f.erf = 151 := by obtain ⟨b, wd, g, rfl⟩ := isNote_of h.note; rfl
  have := err_any hR f h.ok (by rw [h.size]; omega) wc a.held a.lies
  rw [hf, h.line] at this
  exact this.mono fun ev w' ⟨h1, h2⟩ => ⟨h1, a.next h2⟩
theorem meth_kn {f : Er} (h : KnE f) (w : World) : (Go.method 326 f.ty f.cont "Error").run Tryz.prog w = .ok (151, f.cont) w := by
  obtain ⟨b, wd, g, rfl⟩ := isNote_of h.note
  exact mEr_N _ _
theorem parse_kn (hR : R6) {w wc : World} {f : Er} (a : At w f wc) : Calls Tryz.prog 19 #[.string ⟨#[]⟩] wc fun ev w' => ev = .returned (.tuple #[.nilIface, .bool false]) ∧ At w f w' := by
  have := parse_any hR ⟨#[]⟩ (by decide) wc a.held
  rw [parC_empty] at this
  exact this.mono fun ev w' ⟨h1, h2⟩ => ⟨h1, a.next h2⟩
theorem sort7 (hR : R6) {w wc : World} {f : Er} (a : At w f wc) : Calls Tryz.prog 17 #[.int .i64 7] wc fun ev w' => ev = .returned (.string ⟨#[107, 105, 110, 100, 32, 55]⟩) ∧ At w f w' := by
  have := sortErr_any hR 7 ⟨by decide, by decide⟩ wc a.held
  rw [itoa7] at this
  exact this.mono fun ev w' ⟨h1, h2⟩ => ⟨h1, a.next h2⟩
set_option maxHeartbeats 8000000 in
theorem known6_any (hR : R6) (w : World) (hw : Held w) :
    Calls Tryz.prog 7 #[] w fun ev w' => ev = .returned (.bool true) ∧ Below w.heap.size w w' := by
  have HWB := Lib.hid fun (w : World) => wrap_note (.flt 122 24) ⟨#[98, 108, 111, 99, 107]⟩ (by show 5 ≤ 1000000; omega) (by show 2 ≤ 1000000; omega) (by show 0 < 8; omega) w
  have HWF := Lib.hid fun (e : Er) (w : World) => wrap_note e ⟨#[102, 105, 108, 101]⟩ (by show 4 ≤ 1000000; omega) (w := w)
  have hls : lineS.toList = [102, 105, 108, 101, 58, 32, 98, 108, 111, 99, 107, 58, 32, 107, 105, 110, 100, 32, 49, 50, 50, 32, 97, 116, 32, 50, 52] := by rw [Lib.toList_data]; rfl
  have HW := Lib.hid hw
  have h0 : ∀ w : World, (Er.flt 122 24).lies w := fun w => ⟨⟨by decide, by decide⟩, ⟨by decide, by decide⟩⟩
  have H0 := Lib.hid h0
  clear hw h0
  go_enter Tryz.func7, Tryz.ntmps7
  go_wp2_with (first
    | (go_at_call_of 24 (Value.int IntKind.i64 122); refine (new_any 122 24 (by decide) _).mono ?_; rintro ev w1 ⟨rfl, hb⟩; have HB1 := Lib.hid hb; clear hb)
    | (go_at_call_of 22 (Er.cont (Er.flt 122 24)); refine (HWB.out _ (H0.out _)).mono ?_; rintro ev w2 ⟨f1, rfl, hl1, hb, hf1⟩; obtain ⟨b1, hb1⟩ := hf1; have h81 : cntE f1 < 8 := (by rw [hb1]; show 0 + 1 < 8; omega); have hs1 : f1.size ≤ 1000000 := (by rw [hb1]; show 2 + 1 ≤ 1000000; omega); have HS1 := Lib.hid hs1; have H81 := Lib.hid h81; have HL1 := Lib.hid hl1; have HF1 := Lib.hid hb1; have HB2 := Lib.hid (keepW HB1.out hb); clear hb hl1 hb1 h81 hs1)
    | (go_at_call_of 22 (Er.cont f1); refine (HWF.out f1 _ HS1.out H81.out HL1.out).mono ?_; rintro ev w3 ⟨f2, rfl, hl2, hb, hf2⟩; have HK := Lib.hid (knE_of hf2 HF1.out); have m1 := meth_kn HK.out; have hb3 := keepW HB2.out hb; have A3 := Lib.hid (⟨hb3, hl2, HW.out.below hb3⟩ : At w f2 w3); clear hb hl2 hf2 hb3)
    | (go_at_call_of 22 Value.nilIface; refine (wrap_nil _ _).mono ?_; rintro ev w4 ⟨rfl, rfl⟩)
    | (go_at_call_of 24 (Value.int IntKind.i64 0); refine (new_zero _ _).mono ?_; rintro ev w5 ⟨rfl, rfl⟩)
    | (go_at_call_of 12 (Er.cont f2); refine (line_kn hR HK.out A3.out).mono ?_; rintro ev w6 ⟨rfl, ha⟩; have A4 := Lib.hid ha; clear ha)
    | (go_at_call_of 10 (Er.cont f2); refine (kind_kn hR HK.out A4.out).mono ?_; rintro ev w7 ⟨rfl, ha⟩; have A5 := Lib.hid ha; clear ha)
    | (go_at_call_of 11 (Er.cont f2); refine (off_kn hR HK.out A5.out).mono ?_; rintro ev w8 ⟨rfl, ha⟩; have A6 := Lib.hid ha; clear ha)
    | (go_at_call_of 10 Value.nilIface; refine (kind_nil _).mono ?_; rintro ev w9 ⟨rfl, hb⟩; have A7 := Lib.hid (A6.out.next hb); clear hb)
    | (go_at_call_of 11 Value.nilIface; refine (off_nil _).mono ?_; rintro ev w10 ⟨rfl, hb⟩; have A8 := Lib.hid (A7.out.next hb); clear hb)
    | (go_at_call_of 12 Value.nilIface; refine (line_nil _).mono ?_; rintro ev w11 ⟨rfl, hb⟩; have A9 := Lib.hid (A8.out.next hb); clear hb)
    | (go_at_call 19; refine (parse_kn hR A9.out).mono ?_; rintro ev w12 ⟨rfl, ha⟩; have A10 := Lib.hid ha; clear ha)
    | (go_at_call 151; refine (err_kn hR HK.out A10.out).mono ?_; rintro ev w13 ⟨rfl, ha⟩; have A11 := Lib.hid ha; clear ha)
    | (go_at_call_of 16 (Value.int IntKind.i64 122); refine (is_kn HK.out A11.out 122).mono ?_; rintro ev w14 ⟨rfl, ha⟩; have A12 := Lib.hid ha; clear ha)
    | (go_at_call_of 16 (Value.int IntKind.i64 123); refine (is_kn HK.out A12.out 123).mono ?_; rintro ev w15 ⟨rfl, ha⟩; have A13 := Lib.hid ha; clear ha)
    | (go_at_call 15; refine (notes_nil _).mono ?_; rintro ev w16 ⟨rfl, rfl⟩)
    | (go_at_call 17; refine (sort7 hR A13.out).mono ?_; rintro ev w17 ⟨rfl, ha⟩; have A14 := Lib.hid ha; clear ha))
  go_ret
  exact ⟨rfl, A14.out.below⟩
end Go.Proofs.YtidkpdabidlnnaaGreatDoor


/-
  errors.Join of two errors.
-/

namespace Go.Proofs.YtidkpdabidlnnaaGreatDoor

open Go.Den Go.RowKit

set_option maxRecDepth 100000

set_option linter.unusedSectionVars false

theorem enew_any (s : ByteArray) (w : World) : Calls Tryz.prog 21 #[.string s] w fun ev w' => ∃ a, ev = .returned (.iface (Er.oth a).ty (Er.oth a).cont) ∧ Blk w' a #[.string s] 77 ∧ Below w.heap.size w w' := by
  go_enter Tryz.func21, Tryz.ntmps21
  go_wp2
  go_ret
  exact ⟨w.heap.size, rfl, Blk.new rfl, (Below.refl _ w).alloc (Nat.le_refl _) _⟩
set_option maxHeartbeats 4000000 in
theorem join_any (g a : Nat) (e : Er) (w : World) (hg : Blk w g #[.iface (Er.oth a).ty (Er.oth a).cont, .iface e.ty e.cont] 27) (ha : (Er.oth a).lies w) (hl : e.lies w) :
    Calls Tryz.prog 26 #[.slice (some ⟨g, 0, none⟩) 2 2] w fun ev w' => ∃ b r, ev = .returned (.iface (Er.join b r a e).ty (Er.join b r a e).cont) ∧ (Er.join b r a e).lies w' ∧ Below w.heap.size w w' := by
  obtain ⟨i0, hi0, hz0, hz1, hz2⟩ := info3 info_err
  have c0 : w.cell? ⟨g, 0, none⟩ = some (.iface (Er.oth a).ty (Er.oth a).cont) := hg.cell 0
  have c1 : w.cell? ⟨g, 1, none⟩ = some (.iface e.ty e.cont) := hg.cell 1
  have n0 := ne_nil (Er.oth a)
  have n1 := ne_nil e
  have HA := Lib.hid ha; have HL := Lib.hid hl; have HG := Lib.hid hg
  have HI := Lib.hid hi0; have HZ0 := Lib.hid hz0; have HZ1 := Lib.hid hz1; have HZ2 := Lib.hid hz2
  clear ha hl hg hi0 hz0 hz1 hz2
  go_enter Tryz.func26, Tryz.ntmps26
  go_wp2
  refine wp_loop_rounds 3 ?_
  rw [rounds_succ]
  go_wp2
  rw [rounds_succ]
  go_wp2
  rw [rounds_succ]
  go_wp2_with (at_make; go_loud (refine wpList_make_own _ rfl _ _ 90 rfl w.heap.size 27 i0 .nilIface 1 Tryz.underlying90 HI.out HZ0.out HZ1.out _ _ _ 2 rfl rfl rfl (by rw [HZ2.out]; omega) (by unfold maxLen; omega) (Nat.le_refl _) ?_; intro w1 own1 grow1; have O1 := Lib.hid own1; have G1 := Lib.hid grow1; clear own1 grow1))
  -- the row, the joined error
  obtain ⟨W2, hW2⟩ : ∃ W2, W2 = w1.alloc (.cells #[.slice (some ⟨w.heap.size, 0, none⟩) 0 2] 93) := ⟨_, rfl⟩
  have hbel2 : Below w.heap.size w W2 := by rw [hW2]; exact ((Below.refl _ w).grown G1.out (Nat.le_refl _) (fun _ h => by cases h)).alloc (by have := G1.out.size; omega) _
  have hrl : w.heap.size < w1.heap.size := (O1.out.lt _ rfl).2
  have hb2 : Blk W2 w1.heap.size #[.slice (some ⟨w.heap.size, 0, none⟩) 0 2] 93 := by rw [hW2]; exact Blk.new rfl
  have hown2 : W2.ownsRow w.heap.size 27 1 (.slice (some ⟨w.heap.size, 0, none⟩) 0 2) 0 [] := by rw [hW2]; exact O1.out.alloc _
  obtain ⟨b, hbe⟩ : ∃ b, w1.heap.size = b := ⟨_, rfl⟩
  rw [← hW2]
  rw [hbe] at hb2 hrl
  rw [hbe]
  have hg2 := Blk.keep hbel2 HG.out
  have d0 : W2.cell? ⟨g, 0, none⟩ = some (.iface (Er.oth a).ty (Er.oth a).cont) := hg2.cell 0
  have e0 : W2.cell? ⟨b, 0, none⟩ = some (.slice (some ⟨w.heap.size, 0, none⟩) 0 2) := hb2.cell 0
  have HBEL2 := Lib.hid hbel2; have HB2 := Lib.hid hb2; have HO2 := Lib.hid hown2; have HG2 := Lib.hid hg2; have HRL := Lib.hid hrl
  clear hbel2 hb2 hown2 hg2 hrl hW2 hbe c0 c1
  refine wp_loop_rounds 3 ?_
  rw [rounds_succ]
  go_wp2_with (at_builtin; go_loud (refine wpList_append_fits _ rfl _ _ 90 rfl w.heap.size 27 i0 1 Tryz.underlying90 HI.out HZ1.out w.heap.size 0 2 [] rfl (HO2.out.alloc _) ⟨W2.heap.size, 0, none⟩ 1 1 [.iface (Er.oth a).ty (Er.oth a).cont] rfl rfl ?c1 ?c2 (by omega) ?_))
  case c1 => exact World.news_of_block (heap_alloc_new _ _)
  case c2 => intro u hu; rw [List.mem_singleton] at hu; subst hu; rfl
  intro w3 own3 grow3
  have hbw3 : Blk w3 b #[.slice (some ⟨w.heap.size, 0, none⟩) 0 2] 93 := by
    unfold Blk
    rw [grow3.block b (by have := HB2.out.lt; simp; omega) (by have := HRL.out; simp; omega)]
    exact (HB2.out.old _)
  have hgw3 : Blk w3 g #[.iface (Er.oth a).ty (Er.oth a).cont, .iface e.ty e.cont] 27 := by
    unfold Blk
    rw [grow3.block g (by have := HG2.out.lt; simp; omega) (by have := HG.out.lt; simp; omega)]
    exact (HG2.out.old _)
  have f0 := hbw3.cell 0
  have f1 := hbw3.free 0
  have hbel3 : Below w.heap.size w w3 := (HBEL2.out.alloc HBEL2.out.size _).grown grow3 (by have := HBEL2.out.size; simp; omega) (fun q hq => by cases hq; exact Nat.le_refl _)
  have hlt3 := hbw3.lt
  have HBW3 := Lib.hid hbw3; have HGW3 := Lib.hid hgw3; have HBEL3 := Lib.hid hbel3; have HO3 := Lib.hid own3
  clear own3 grow3 hbw3 hgw3 hbel3 hlt3
  go_wp2
  obtain ⟨W4, hW4⟩ : ∃ W4, W4 = w3.setCell ⟨b, 0, none⟩ (.slice (some ⟨w.heap.size, 0, none⟩) 1 2) := ⟨_, rfl⟩
  have hb4 : Blk W4 b #[.slice (some ⟨w.heap.size, 0, none⟩) 1 2] 93 := by rw [hW4]; exact HBW3.out.put (i := 0) _
  have hg4 : Blk W4 g #[.iface (Er.oth a).ty (Er.oth a).cont, .iface e.ty e.cont] 27 := by rw [hW4]; exact HGW3.out.else _ (by have := HG.out.lt; have := HRL.out; simp; omega)
  have hbel4 : Below w.heap.size w W4 := by rw [hW4]; exact HBEL3.out.setCell (p := ⟨b, 0, none⟩) (by have := HRL.out; simp; omega) _
  have hown4 : W4.ownsRow w.heap.size 27 1 (.slice (some ⟨w.heap.size, 0, none⟩) 1 2) 1 [.iface (Er.oth a).ty (Er.oth a).cont] := by
    rw [hW4]
    refine ⟨rfl, .inr ?_⟩
    rcases HO3.out.2 with ⟨hv, _⟩ | ⟨r', cap', cur, hv, h1, h2, h3⟩
    · cases hv
    · cases hv
      exact ⟨_, _, cur, rfl, h1, (Blk.else (T := 27) h2 _ (by have := HRL.out; simp; omega) : Blk _ _ _ _), h3⟩
  rw [← hW4]
  have d1 : W4.cell? ⟨g, 1, none⟩ = some (.iface e.ty e.cont) := hg4.cell 1
  have e1 : W4.cell? ⟨b, 0, none⟩ = some (.slice (some ⟨w.heap.size, 0, none⟩) 1 2) := hb4.cell 0
  have HBEL4 := Lib.hid hbel4; have HB4 := Lib.hid hb4; have HO4 := Lib.hid hown4; have HG4 := Lib.hid hg4
  clear hbel4 hb4 hown4 hg4 hW4 d0 e0 f0 f1 HBW3 HGW3 HBEL3 HO3 HBEL2 HB2 HO2 HG2
  rw [rounds_succ]
  go_wp2_with (at_builtin; go_loud (refine wpList_append_fits _ rfl _ _ 90 rfl w.heap.size 27 i0 1 Tryz.underlying90 HI.out HZ1.out w.heap.size 1 2 [.iface (Er.oth a).ty (Er.oth a).cont] rfl (HO4.out.alloc _) ⟨W4.heap.size, 0, none⟩ 1 1 [.iface e.ty e.cont] rfl rfl ?c1 ?c2 (by omega) ?_))
  case c1 => exact World.news_of_block (heap_alloc_new _ _)
  case c2 => intro u hu; rw [List.mem_singleton] at hu; subst hu; rfl
  intro w5 own5 grow5
  have hbw5 : Blk w5 b #[.slice (some ⟨w.heap.size, 0, none⟩) 1 2] 93 := by
    unfold Blk
    rw [grow5.block b (by have := HB4.out.lt; simp; omega) (by have := HRL.out; simp; omega)]
    exact (HB4.out.old _)
  have f0 := hbw5.cell 0
  have f1 := hbw5.free 0
  have hbel5 : Below w.heap.size w w5 := (HBEL4.out.alloc HBEL4.out.size _).grown grow5 (by have := HBEL4.out.size; simp; omega) (fun q hq => by cases hq; exact Nat.le_refl _)
  have HBW5 := Lib.hid hbw5; have HBEL5 := Lib.hid hbel5; have HO5 := Lib.hid own5
  clear own5 grow5 hbw5 hbel5
  go_wp2
  rw [rounds_succ]
  go_wp2
  go_ret
  have hbel6 : Below w.heap.size w (w5.setCell ⟨b, 0, none⟩ (.slice (some ⟨w.heap.size, 0, none⟩) 2 2)) := HBEL5.out.setCell (p := ⟨b, 0, none⟩) (by have := HRL.out; simp; omega) _
  refine ⟨b, w.heap.size, rfl, ⟨HBW5.out.put (i := 0) _, ?_, Er.lies.keep hbel6 HA.out, Er.lies.keep hbel6 HL.out⟩, hbel6⟩
  rcases HO5.out.2 with ⟨hv, _⟩ | ⟨r', cap', cur, hv, h1, h2, _, _, h5, h6⟩
  · cases hv
  · cases hv
    have hcur : cur = #[(Er.oth a).val, e.val] := by
      rw [Er.val_eq, Er.val_eq]
      apply Array.ext'
      have : cur.toList.length = 2 := by rw [Array.length_toList]; omega
      rw [List.take_of_length_le (by omega)] at h6
      rw [h6]
    rw [← hcur]
    exact Blk.else (T := 27) (a := ⟨b, 0, none⟩) h2 _ (by have := HRL.out; simp; omega)
end Go.Proofs.YtidkpdabidlnnaaGreatDoor
