
/-
  Contracts of package wide: Mul, Scale.
-/
import Derived.Test.YtbhgibpocbmipaaWCmp
namespace Go.Proofs.Ytbhgibpocbmipaa
open Go.RowKit
theorem mul_bd {x y : Int} (x0 : 0 ≤ x) (x1 : x ≤ 9223372036854775808) (y0 : 0 ≤ y) (y1 : y ≤ 9223372036854775808) : 0 ≤ x * y ∧ x * y ≤ 85070591730234615865843651857942052864 := by
  refine ⟨Int.mul_nonneg x0 y0, ?_⟩
  have := Int.mul_le_mul x1 y1 y0 (by omega)
  exact this
theorem sgn_mul {a b : Int} (a0 : -9223372036854775808 ≤ a) (a1 : a ≤ 9223372036854775807) (b0 : -9223372036854775808 ≤ b) (b1 : b ≤ 9223372036854775807) :
    clamp (sgn (decide (a < 0) != decide (b < 0)) (sz a * sz b)) = a * b := by
  rcases (by omega : a < 0 ∨ 0 ≤ a) with ha | ha <;> rcases (by omega : b < 0 ∨ 0 ≤ b) with hb | hb
  · have h := mul_bd (x := -a) (y := -b) (by omega) (by omega) (by omega) (by omega)
    rw [sz_neg ha, sz_neg hb, decide_eq_true ha, decide_eq_true hb, Int.neg_mul_neg] at *
    simp only [bne_self_eq_false, sgn, Bool.false_eq_true, if_false]
    exact clamp_of (by unfold InR; omega)
  · have h := mul_bd (x := -a) (y := b) (by omega) (by omega) (by omega) (by omega)
    rw [sz_neg ha, sz_pos hb, decide_eq_true ha, decide_eq_false (by omega)]
    rw [Int.neg_mul] at *
    simp only [sgn, bne, Bool.true_beq, Bool.not_false, if_true, Int.neg_neg]
    exact clamp_of (by unfold InR; omega)
  · have h := mul_bd (x := a) (y := -b) (by omega) (by omega) (by omega) (by omega)
    rw [sz_pos ha, sz_neg hb, decide_eq_false (by omega), decide_eq_true hb]
    rw [Int.mul_neg] at *
    simp only [sgn, bne, Bool.false_beq, Bool.not_true, Bool.not_false, if_true, Int.neg_neg]
    exact clamp_of (by unfold InR; omega)
  · have h := mul_bd (x := a) (y := b) (by omega) (by omega) (by omega) (by omega)
    rw [sz_pos ha, sz_pos hb, decide_eq_false (by omega), decide_eq_false (by omega)]
    simp only [bne_self_eq_false, sgn, Bool.false_eq_true, if_false]
    exact clamp_of (by unfold InR; omega)

set_option maxHeartbeats 1000000 in
theorem mul_any (a b : Int) (a0 : -9223372036854775808 ≤ a) (a1 : a ≤ 9223372036854775807) (b0 : -9223372036854775808 ≤ b) (b1 : b ≤ 9223372036854775807) (w : World) :
    Calls Try.prog 26 #[.int .i64 a, .int .i64 b] w fun e w' =>
      e = .returned (.agg #[.int .i64 (hi (a * b)), .int .u64 (lo (a * b))]) ∧ Below w.heap.size w w' := by
  have ha : InR a := by unfold InR; omega
  have hb : InR b := by unfold InR; omega
  have sa : 0 ≤ sz a ∧ sz a ≤ 9223372036854775808 := by unfold sz; split <;> omega
  have sb : 0 ≤ sz b ∧ sz b ≤ 9223372036854775808 := by unfold sz; split <;> omega
  have ma := fun w => magnitude_n ha w
  have mb := fun w => magnitude_n hb w
  rw [show lo (sz a) = sz a by unfold lo; omega] at ma
  rw [show lo (sz b) = sz b by unfold lo; omega] at mb
  have mm := fun w => mul64_i (sz a) (sz b) sa.1 (by omega) sb.1 (by omega) w
  have hfin := sgn_mul a0 a1 b0 b1
  have hs := fun (n : Nat) (w : World) (g : Blk w n #[.bool (decide (a < 0) != decide (b < 0))] 4) => signed_any (decide (a < 0) != decide (b < 0)) (x := hi (sz a * sz b)) (y := lo (sz a * sz b)) (by have := mul_bd sa.1 sa.2 sb.1 sb.2; unfold hi; omega) (by have := mul_bd sa.1 sa.2 sb.1 sb.2; unfold hi; omega) (lo_bd _).1 (lo_bd _).2 g
  rw [hilo, hfin] at hs
  have q1 := fun (w' : World) (h : Blk w' w.heap.size #[.int .i64 0, .int .u64 0] 24) => h.two
  have q2 := fun (w' : World) (h : Blk w' w.heap.size #[.int .i64 0, .int .u64 0] 24) => h.free0
  have MA := Lib.hid ma; have MB := Lib.hid mb; have MM := Lib.hid mm; have HS := Lib.hid hs
  clear ma mb mm hs hfin
  generalize sz a = xa at *; generalize sz b = xb at *
  go_enter Try.func26, Try.ntmps26
  go_wp2_with (first | (go_at_call 15; refine (of_any _ ?_ ?_ _).mono ?_; omega; omega; rintro e w1 ⟨rfl, hb1⟩; (first | (replace g := Blk.keep hb1 g; replace gB := gB.trans (hb1.mono gB.size)) | (have g := Blk.keep hb1 (Blk.new (b := w.heap.size) (T := 24) rfl); have gB := ((Below.refl w.heap.size w).alloc (Nat.le_refl _) _).trans (hb1.mono (by simp))))) | (go_at_call 63; (first | ((with_reducible refine (MA.out _).mono ?_); rintro e w1 ⟨rfl, hb1⟩) | ((with_reducible refine (MB.out _).mono ?_); rintro e w1 ⟨rfl, hb1⟩)); replace g := Blk.keep hb1 g; replace gB := gB.trans (hb1.mono gB.size)) | (go_at_call 64; refine (signer_any _ _).mono ?_; rintro e w1 ⟨rfl, rfl⟩; replace g := Blk.old g (.cells #[.bool (decide (a < 0) != decide (b < 0))] 4); replace gB := gB.alloc gB.size (.cells #[.bool (decide (a < 0) != decide (b < 0))] 4)) | (go_at_call 65; refine (MM.out _).mono ?_; rintro e w1 ⟨rfl, rfl⟩) | (go_at_call 75; refine (HS.out _ _ (Blk.new rfl)).mono ?_; rintro e w1 ⟨rfl, hb1⟩; replace g := Blk.keep hb1 g; replace gB := gB.trans (hb1.mono gB.size)))
  have hfin := (g.put (i := 0) (.int .i64 (hi (a * b)))).put (i := 1) (.int .u64 (lo (a * b)))
  exact bodyPost_ret (v := .agg #[.int .i64 (hi (a * b)), .int .u64 (lo (a * b))]) (by simp [results, Try.results26, go_sem, (show Blk _ _ #[.int .i64 (hi (a * b)), .int .u64 (lo (a * b))] _ from hfin).two]) rfl ⟨rfl, (gB.setCell (by simp) _).setCell (by simp) _⟩

/-- A size times a number of 32 bits, in two words. -/
theorem scale_parts (H L n A B C D : Int) (hA : A = hi (L * n)) (hB : B = lo (L * n)) (hC : C = hi (H * n)) (hD : D = lo (H * n)) :
    (H * 18446744073709551616 + L) * n = (C * 18446744073709551616 + D + A) * 18446744073709551616 + B := by
  have h1 := hilo (L * n); have h2 := hilo (H * n)
  rw [← hA, ← hB] at h1; rw [← hC, ← hD] at h2
  rw [Int.add_mul, Int.mul_right_comm, ← h1, ← h2]; omega

theorem sgn_scale (n k : Int) : sgn (decide (n < 0)) (sz n * k) = n * k := by
  rcases (by omega : n < 0 ∨ 0 ≤ n) with h | h
  · rw [sz_neg h, decide_eq_true h]; simp only [sgn, if_true]; rw [Int.neg_mul, Int.neg_neg]
  · rw [sz_pos h, decide_eq_false (by omega)]; simp only [sgn, Bool.false_eq_true, if_false]

set_option maxHeartbeats 1000000 in
theorem scale_any {n : Int} {k : Int} (hn : InR n) (k0 : 0 ≤ k) (k1 : k ≤ 4294967295) (w : World) :
    Calls Try.prog 28 #[.agg #[.int .i64 (hi n), .int .u64 (lo n)], .int .u32 k] w fun e w' =>
      e = .returned (.agg #[.int .i64 (hi (clamp (n * k))), .int .u64 (lo (clamp (n * k)))]) ∧ Below w.heap.size w w' := by
  have hs := sz_bd hn
  have lb := lo_bd (sz n)
  have hb0 : 0 ≤ hi (sz n) := hi_nn hs.1
  have hb1 : hi (sz n) ≤ 9223372036854775808 := hi_le hs.2
  have eN : IntKind.u64.wrap k = k := by rw [IntKind.wrap_u64]; omega
  have ma := fun w => magnitude_n hn w
  have m1 := fun w => mul64_i (lo (sz n)) k lb.1 lb.2 k0 (by omega) w
  have m2 := fun w => mul64_i (hi (sz n)) k hb0 (by omega) k0 (by omega) w
  have hp := scale_parts (hi (sz n)) (lo (sz n)) k _ _ _ _ rfl rfl rfl rfl
  rw [hilo] at hp
  have a1 := lo_bd (lo (sz n) * k); have a2 := lo_bd (hi (sz n) * k)
  have a3 : 0 ≤ hi (lo (sz n) * k) := hi_nn (Int.mul_nonneg lb.1 k0)
  have a4 : hi (lo (sz n) * k) ≤ 4294967295 := by have := hi_le (Int.mul_le_mul lb.2 k1 k0 (by omega)); omega
  have a5 : 0 ≤ hi (hi (sz n) * k) := hi_nn (Int.mul_nonneg hb0 k0)
  have a6 : hi (hi (sz n) * k) ≤ 4294967295 := by have := hi_le (Int.mul_le_mul hb1 k1 k0 (by omega)); omega
  generalize hi (lo (sz n) * k) = A at *
  generalize lo (lo (sz n) * k) = B at *
  generalize hi (hi (sz n) * k) = C at *
  generalize lo (hi (sz n) * k) = D at *
  have hadd := fun w => run_add64 D A 0 a2.1 a3 (by omega) (by omega) w
  have q1 := fun (w' : World) (h : Blk w' w.heap.size #[.int .i64 (hi n), .int .u64 (lo n)] 24) => h.two
  have q2 := fun (w' : World) (h : Blk w' (w.heap.size + 1) #[.int .i64 0, .int .u64 0] 24) => h.two
  have q3 := fun (w' : World) (h : Blk w' (w.heap.size + 1) #[.int .i64 0, .int .u64 0] 24) => h.free0
  have MA := Lib.hid ma; have M1 := Lib.hid m1; have M2 := Lib.hid m2; have HP := Lib.hid hp
  clear ma m1 m2 hp
  rcases (by omega : C + (D + A) / 18446744073709551616 = 0 ∨ 0 < C + (D + A) / 18446744073709551616) with hfit | hfit
  · have hres : clamp (sgn (decide (n < 0)) ((D + A) % 18446744073709551616 * 18446744073709551616 + B)) = clamp (n * k) := by
      rw [← sgn_scale n k, HP.out]; congr 2; omega
    have hs := fun (b : Nat) (w : World) (g : Blk w b #[.bool (decide (n < 0))] 4) => signed_any (decide (n < 0)) (x := (D + A) % 18446744073709551616) (y := B) (by omega) (by omega) a1.1 a1.2 g
    rw [hres] at hs; clear hres
    have HS := Lib.hid hs; clear hs
    have e0 : C = 0 := by omega
    have e1 : (D + A) / 18446744073709551616 = 0 := by omega
    subst e0; clear hfit
    go_enter Try.func28, Try.ntmps28
    go_wp2_with (first | (go_at_call 63; refine (MA.out _).mono ?_; rintro e w1 ⟨rfl, hb1⟩; have g := Blk.keep hb1 (Blk.new (b := w.heap.size + 1) (T := 24) (by simp)); have gA := Blk.keep hb1 (Blk.old (Blk.new (b := w.heap.size) (T := 24) rfl) _); have gB := (((Below.refl w.heap.size w).alloc (Nat.le_refl _) _).alloc (by simp) _).trans (hb1.mono (by simp; omega))) | (go_at_call 65; (first | ((with_reducible refine (M1.out _).mono ?_); rintro e w1 ⟨rfl, rfl⟩) | ((with_reducible refine (M2.out _).mono ?_); rintro e w1 ⟨rfl, rfl⟩))) | (go_at_call 58; refine (negative_n _ _).mono ?_; rintro e w1 ⟨rfl, hb1⟩; replace g := Blk.keep hb1 g; replace gA := Blk.keep hb1 gA; replace gB := gB.trans (hb1.mono gB.size)) | (go_at_call 64; refine (signer_any _ _).mono ?_; rintro e w1 ⟨rfl, rfl⟩; replace g := Blk.old g (.cells #[.bool (decide (n < 0))] 4); replace gB := gB.alloc gB.size (.cells #[.bool (decide (n < 0))] 4)))
    refine (HS.out _ _ (Blk.new rfl)).mono ?_
    rintro e w1 ⟨rfl, hb1⟩; replace g := Blk.keep hb1 g; replace gB := gB.trans (hb1.mono gB.size)
    go_wp2
    have hfin := (g.put (i := 0) (.int .i64 (hi (clamp (n * k))))).put (i := 1) (.int .u64 (lo (clamp (n * k))))
    exact bodyPost_ret (v := .agg #[.int .i64 (hi (clamp (n * k))), .int .u64 (lo (clamp (n * k)))]) (by simp [results, Try.results28, go_sem, (show Blk _ _ #[.int .i64 (hi (clamp (n * k))), .int .u64 (lo (clamp (n * k)))] _ from hfin).two]) rfl ⟨rfl, (gB.setCell (by simp) _).setCell (by simp) _⟩
  · have hbig : 340282366920938463463374607431768211456 ≤ sz n * k := by rw [HP.out]; omega
    have e1 : ((C + (D + A) / 18446744073709551616) != 0) = true := by rw [bne_iff_ne]; omega
    have e2 : ((C + (D + A) / 18446744073709551616) == 0) = false := by rw [beq_eq_false_iff_ne]; omega
    rcases (by omega : n < 0 ∨ ¬ n < 0) with hneg | hneg
    · have hd := decide_eq_true hneg
      have hr : clamp (n * k) = -170141183460469231731687303715884105728 := by
        have := sgn_scale n k; rw [hd] at this; simp only [sgn, if_true] at this
        unfold clamp; rw [if_pos (by omega)]
      rw [hr]; clear hr
      go_enter Try.func28, Try.ntmps28
      go_wp2_with (first | (go_at_call 63; refine (MA.out _).mono ?_; rintro e w1 ⟨rfl, hb1⟩; have g := Blk.keep hb1 (Blk.new (b := w.heap.size + 1) (T := 24) (by simp)); have gA := Blk.keep hb1 (Blk.old (Blk.new (b := w.heap.size) (T := 24) rfl) _); have gB := (((Below.refl w.heap.size w).alloc (Nat.le_refl _) _).alloc (by simp) _).trans (hb1.mono (by simp; omega))) | (go_at_call 65; (first | ((with_reducible refine (M1.out _).mono ?_); rintro e w1 ⟨rfl, rfl⟩) | ((with_reducible refine (M2.out _).mono ?_); rintro e w1 ⟨rfl, rfl⟩))) | (go_at_call 58; refine (negative_n _ _).mono ?_; rintro e w1 ⟨rfl, hb1⟩; replace g := Blk.keep hb1 g; replace gA := Blk.keep hb1 gA; replace gB := gB.trans (hb1.mono gB.size)) | (go_at_call 59; refine (bound_low _).mono ?_; rintro e w1 ⟨rfl, hb1⟩; replace g := Blk.keep hb1 g; replace gB := gB.trans (hb1.mono gB.size)))
      have hfin := (g.put (i := 0) (.int .i64 (-9223372036854775808))).put (i := 1) (.int .u64 0)
      exact bodyPost_ret (v := .agg #[.int .i64 (-9223372036854775808), .int .u64 0]) (by simp [results, Try.results28, go_sem, (show Blk _ _ #[.int .i64 (-9223372036854775808), .int .u64 0] _ from hfin).two]) rfl ⟨(ret_w (by decide) (by decide)), (gB.setCell (by simp) _).setCell (by simp) _⟩
    · have hd := decide_eq_false hneg
      have hr : clamp (n * k) = 170141183460469231731687303715884105727 := by
        have := sgn_scale n k; rw [hd] at this; simp only [sgn, Bool.false_eq_true, if_false] at this
        unfold clamp; rw [if_neg (by omega), if_pos (by omega)]
      rw [hr]; clear hr
      go_enter Try.func28, Try.ntmps28
      go_wp2_with (first | (go_at_call 63; refine (MA.out _).mono ?_; rintro e w1 ⟨rfl, hb1⟩; have g := Blk.keep hb1 (Blk.new (b := w.heap.size + 1) (T := 24) (by simp)); have gA := Blk.keep hb1 (Blk.old (Blk.new (b := w.heap.size) (T := 24) rfl) _); have gB := (((Below.refl w.heap.size w).alloc (Nat.le_refl _) _).alloc (by simp) _).trans (hb1.mono (by simp; omega))) | (go_at_call 65; (first | ((with_reducible refine (M1.out _).mono ?_); rintro e w1 ⟨rfl, rfl⟩) | ((with_reducible refine (M2.out _).mono ?_); rintro e w1 ⟨rfl, rfl⟩))) | (go_at_call 58; refine (negative_n _ _).mono ?_; rintro e w1 ⟨rfl, hb1⟩; replace g := Blk.keep hb1 g; replace gA := Blk.keep hb1 gA; replace gB := gB.trans (hb1.mono gB.size)) | (go_at_call 59; refine (bound_high _).mono ?_; rintro e w1 ⟨rfl, hb1⟩; replace g := Blk.keep hb1 g; replace gB := gB.trans (hb1.mono gB.size)))
      have hfin := (g.put (i := 0) (.int .i64 9223372036854775807)).put (i := 1) (.int .u64 18446744073709551615)
      exact bodyPost_ret (v := .agg #[.int .i64 9223372036854775807, .int .u64 18446744073709551615]) (by simp [results, Try.results28, go_sem, (show Blk _ _ #[.int .i64 9223372036854775807, .int .u64 18446744073709551615] _ from hfin).two]) rfl ⟨(ret_w (by decide) (by decide)), (gB.setCell (by simp) _).setCell (by simp) _⟩
end Go.Proofs.Ytbhgibpocbmipaa
