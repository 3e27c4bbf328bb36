
/-
  Read by wip/tools/vc.py, and what follows.
-/
import Derived.Test.YtbhgibpocbmipaaSumK
namespace Go.Proofs.Ytbhgibpocbmipaa
open Go.Den Go.RowKit
noncomputable section
set_option maxRecDepth 100000
theorem sums_vc (h1 l1 h2 l2 n : Int) (Q : Value → Prop) (x1 : Int) (e_x1 : x1 = clamp (sv (decide (n < 0)) (mag (mapU (digsN 20 (sz n)))))) (x2 : Int) (e_x2 : x2 = mag (mapU (digsN 20 (sz (W2 h2 l2))))) (x3 : Int) (e_x3 : x3 = mag (mapU (digsN 20 (sz (W2 h1 l1))))) (x4 : Int) (e_x4 : x4 = x3 + x2) (x5 : Int) (e_x5 : x5 = sv (decide (W2 h1 l1 < 0)) x3) (x6 : Int) (e_x6 : x6 = sv (decide (W2 h2 l2 < 0)) x2) (x7 : Int) (e_x7 : x7 = clamp (W2 h1 l1 + W2 h2 l2)) (x8 : Int) (e_x8 : x8 = clamp
  (sv (addSg (decide (W2 h1 l1 < 0)) x3 (decide (W2 h2 l2 < 0)) x2) (mag (mapU (digsN 20 (sz (x5 + x6))))))) (x9 : Int) (e_x9 : x9 = mag (mapU (digsN 20 x2))) (x10 : Int) (e_x10 : x10 = x3 + x9) (x11 : Int) (e_x11 : x11 = clamp (W2 h1 l1 - W2 h2 l2)) (x12 : Int) (e_x12 : x12 = clamp
  (sv (addSg (decide (W2 h1 l1 < 0)) x3 (!decide (W2 h2 l2 < 0)) x9)
    (mag (mapU (digsN 20 (sz (x5 + sv (!decide (W2 h2 l2 < 0)) x9))))))) (x13 : Int) (e_x13 : x13 = clamp (-W2 h1 l1)) (x14 : Int) (e_x14 : x14 = clamp (sv (!decide (W2 h1 l1 < 0)) (mag (mapU (digsN 20 x3))))) (x15 : Int) (e_x15 : x15 = clamp (sv false x3)) : ((ev env1 100).call [] 3 #[.agg #[.int .i64 h1, .int .u64 l1], .agg #[.int .i64 h2, .int .u64 l2], .int .i64 n] [] B0).holds (fun r => Q r.v) = (bcase (okW h1 l1)
  (bcase (okW h2 l2)
    (bcase (okI n)
      (bcase (okI n)
        (bcase (okNum (mapU (digsN 20 (sz n))))
          (bcase (hi n == hi x1 && (lo n == lo x1 && true))
            (bcase (okW h1 l1 && okW h2 l2)
              (bcase
                (okNum (mapU (digsN 20 (sz (W2 h1 l1)))) &&
                  (okNum (mapU (digsN 20 (sz (W2 h2 l2)))) &&
                    (decide
                        (x2 <
                          32592575621351777380295131014550050576823494298654980010178247189670100796213387298934358016) &&
                      decide
                        (x4 <
                          2135987035920910082395021706169552114602704522356652769947041607822219725780640550022962086936576))))
                (bcase (okNum (mapU (digsN 20 (sz (x5 + x6)))))
                  (bcase (hi x7 == hi x8 && (lo x7 == lo x8 && true))
                    (bcase (okW h1 l1 && okW h2 l2)
                      (bcase (okNum (mapU (digsN 20 (sz (W2 h2 l2)))))
                        (bcase
                          (okNum (mapU (digsN 20 (sz (W2 h1 l1)))) &&
                            (okNum (mapU (digsN 20 x2)) &&
                              (decide
                                  (x9 <
                                    32592575621351777380295131014550050576823494298654980010178247189670100796213387298934358016) &&
                                decide
                                  (x10 <
                                    2135987035920910082395021706169552114602704522356652769947041607822219725780640550022962086936576))))
                          (bcase (okNum (mapU (digsN 20 (sz (x5 + sv (!decide (W2 h2 l2 < 0)) x9)))))
                            (bcase (hi x11 == hi x12 && (lo x11 == lo x12 && true))
                              (bcase (okW h1 l1)
                                (bcase (okNum (mapU (digsN 20 (sz (W2 h1 l1)))))
                                  (bcase (okNum (mapU (digsN 20 x3)))
                                    (bcase (hi x13 == hi x14 && (lo x13 == lo x14 && true))
                                      (bcase (okW h1 l1)
                                        (bcase (okNum (mapU (digsN 20 (sz (W2 h1 l1)))))
                                          (bcase
                                            (hi (clamp (sz (W2 h1 l1))) == hi x15 &&
                                              (lo (clamp (sz (W2 h1 l1))) == lo x15 && true))
                                            (bcase (okW h1 l1 && okW h2 l2)
                                              (bcase
                                                (okNum (mapU (digsN 20 (sz (W2 h1 l1)))) &&
                                                  okNum (mapU (digsN 20 (sz (W2 h2 l2)))))
                                                (bcase (cmpI (W2 h1 l1) (W2 h2 l2) == cmpI x5 x6)
                                                  (bcase (okW h1 l1 && okW h1 l1)
                                                    (bcase (cmpI (W2 h1 l1) (W2 h1 l1) == 0) (Q (Value.bool true))
                                                      (Q (Value.bool false)))
                                                    False)
                                                  (Q (Value.bool false)))
                                                False)
                                              False)
                                            (Q (Value.bool false)))
                                          False)
                                        False)
                                      (Q (Value.bool false)))
                                    False)
                                  False)
                                False)
                              (Q (Value.bool false)))
                            False)
                          False)
                        False)
                      False)
                    (Q (Value.bool false)))
                  False)
                False)
              False)
            (Q (Value.bool false)))
          False)
        False)
      False)
    False)
  False) := by
  subst e_x15 e_x14 e_x13 e_x12 e_x11 e_x10 e_x9 e_x8 e_x7 e_x6 e_x5 e_x4 e_x3 e_x2 e_x1
  kernel_rfl
theorem roots_vc (h1 l1 h2 l2 n : Int) (Q : Value → Prop) (x1 : Int) (e_x1 : x1 = mag (mapU (digsN 20 (rootI (W2 h1 l1))))) (x2 : Int) (e_x2 : x2 = x1 + 1) (x3 : Int) (e_x3 : x3 = x1 * x1) (x4 : Int) (e_x4 : x4 = sv (decide (W2 h1 l1 < 0)) (mag (mapU (digsN 20 (sz (W2 h1 l1)))))) (x5 : Int) (e_x5 : x5 = cmpI (sv false (mag (mapU (digsN 20 x3)))) x4) (x6 : Int) (e_x6 : x6 = mag (mapU (digsN 20 (sz (sv false x1 + 1))))) (x7 : Int) (e_x7 : x7 = x6 * x6) (x8 : Int) (e_x8 : x8 = cmpI (sv false (mag (mapU (digsN 20 x7)))) x4) (x9 : Int) (e_x9 : x9 = n * n) (x10 : Int) (e_x10 : x10 = hi x9) (x11 : Int) (e_x11 : x11 = lo x9) (x12 : Int) (e_x12 : x12 = cmpI (W2 h1 l1) (W2 h2 l2)) : ((ev env1 100).call [] 6 #[.agg #[.int .i64 h1, .int .u64 l1], .agg #[.int .i64 h2, .int .u64 l2], .int .i64 n] [] B0).holds (fun r => Q r.v) = (bcase (okW h1 l1)
  (bcase (okU (rootI (W2 h1 l1)))
    (bcase
      (okNum (mapU (digsN 20 (rootI (W2 h1 l1)))) &&
        decide (x2 < 2135987035920910082395021706169552114602704522356652769947041607822219725780640550022962086936576))
      (bcase (okW h1 l1)
        (bcase (decide (h1 < 0))
          (bcase (okW h1 l1) (bcase (rootI (W2 h1 l1) == 0) (Q (Value.bool true)) (Q (Value.bool false))) False)
          (bcase
            (okNum (mapU (digsN 20 (rootI (W2 h1 l1)))) &&
              (okNum (mapU (digsN 20 (rootI (W2 h1 l1)))) &&
                decide
                  (x3 <
                    2135987035920910082395021706169552114602704522356652769947041607822219725780640550022962086936576)))
            (bcase (okNum (mapU (digsN 20 x3)) && okNum (mapU (digsN 20 (sz (W2 h1 l1)))))
              (bcase (decide (x5 > 0)) (Q (Value.bool false))
                (bcase
                  (okNum (mapU (digsN 20 (sz (sv false x1 + 1)))) &&
                    (okNum (mapU (digsN 20 (sz (sv false x1 + 1)))) &&
                      decide
                        (x7 <
                          2135987035920910082395021706169552114602704522356652769947041607822219725780640550022962086936576)))
                  (bcase (okNum (mapU (digsN 20 x7)) && okNum (mapU (digsN 20 (sz (W2 h1 l1)))))
                    (bcase (decide (x8 ≤ 0)) (Q (Value.bool false))
                      (bcase (okI n && okI n)
                        (bcase (okW x10 x11)
                          (bcase (okI n)
                            (bcase (okW (hi n) (lo n))
                              (bcase (rootI (W2 x10 x11) != lo (clamp (sz (W2 (hi n) (lo n))))) (Q (Value.bool false))
                                (bcase (okW h1 l1 && okW h2 l2)
                                  (bcase (decide (x12 > 0)) (Q (Value.bool true))
                                    (bcase (okW h1 l1)
                                      (bcase (okW h2 l2)
                                        (bcase (decide (rootI (W2 h1 l1) ≤ rootI (W2 h2 l2))) (Q (Value.bool true))
                                          (Q (Value.bool false)))
                                        False)
                                      False))
                                  False))
                              False)
                            False)
                          False)
                        False))
                    False)
                  False))
              False)
            False))
        False)
      False)
    False)
  False) := by
  subst e_x12 e_x11 e_x10 e_x9 e_x8 e_x7 e_x6 e_x5 e_x4 e_x3 e_x2 e_x1
  kernel_rfl
theorem sv_sz (A : Int) : sv (decide (A < 0)) (sz A) = A := by
  unfold sv sz
  cases h : decide (A < 0)
  · rw [decide_eq_false_iff_not] at h; simp only [cond_false]; omega
  · rw [decide_eq_true_eq] at h; simp only [cond_true]; omega
theorem sv_nsz (A : Int) : sv (!decide (A < 0)) (sz A) = -A := by
  unfold sv sz
  cases h : decide (A < 0)
  · rw [decide_eq_false_iff_not] at h; simp only [Bool.not_false, cond_true]; omega
  · rw [decide_eq_true_eq] at h; simp only [Bool.not_true, cond_false]; omega
theorem sv_f (n : Int) : sv false n = n := rfl
theorem sz_nn (n : Int) : 0 ≤ sz n := by unfold sz; omega
theorem sv_addSg {a b : Int} (ha : 0 ≤ a) (hb : 0 ≤ b) (s1 s2 : Bool) : sv (addSg s1 a s2 b) (sz (sv s1 a + sv s2 b)) = sv s1 a + sv s2 b := by
  cases s1 <;> cases s2
  · have e : addSg false a false b = false := rfl
    rw [e]; simp only [sv, cond_false, sz]; omega
  · by_cases h : a < b
    · have e : addSg false a true b = true := by unfold addSg; rw [decide_eq_true h]; rfl
      rw [e]; simp only [sv, cond_false, cond_true, sz]; omega
    · have e : addSg false a true b = false := by unfold addSg; rw [decide_eq_false h]; rfl
      rw [e]; simp only [sv, cond_false, cond_true, sz]; omega
  · by_cases h : a < b
    · have e : addSg true a false b = false := by unfold addSg; rw [decide_eq_true h]; rfl
      rw [e]; simp only [sv, cond_false, cond_true, sz]; omega
    · have e : addSg true a false b = true := by unfold addSg; rw [decide_eq_false h]; rfl
      rw [e]; simp only [sv, cond_false, cond_true, sz]; omega
  · have e : addSg true a true b = true := rfl
    rw [e]; simp only [sv, cond_true, sz]; omega
theorem cmpI_self (a : Int) : cmpI a a = 0 := by unfold cmpI; rw [if_pos rfl]
/-- The size of a number that is small beside T304. -/
theorem mag_sz {n : Int} (h0 : -680564733841876926926749214863536422912 ≤ n) (h1 : n ≤ 680564733841876926926749214863536422912) : mag (mapU (digsN 20 (sz n))) = sz n :=
  mag_nv (sz_nn n) (by unfold T320 sz; omega)
theorem sz_sv (A : Int) : sz (sz A) = sz A := by unfold sz; omega
set_option maxHeartbeats 2000000 in
theorem sums_ok (h1 l1 h2 l2 n : Int) (k1 : okW h1 l1 = true) (k2 : okW h2 l2 = true) (kn : okI n = true) :
    ((ev env1 100).call [] 3 #[.agg #[.int .i64 h1, .int .u64 l1], .agg #[.int .i64 h2, .int .u64 l2], .int .i64 n] [] B0).holds (fun r => r.v = .bool true) := by
  rw [sums_vc h1 l1 h2 l2 n (fun v => v = .bool true) _ rfl _ rfl _ rfl _ rfl _ rfl _ rfl _ rfl _ rfl _ rfl _ rfl _ rfl _ rfl _ rfl _ rfl _ rfl]
  have bn := okI_iff.1 kn
  have iA := (hi_W2 k1).2.2
  have iB := (hi_W2 k2).2.2
  generalize W2 h1 l1 = A at *
  generalize W2 h2 l2 = B at *
  unfold InR at iA iB
  have mA : mag (mapU (digsN 20 (sz A))) = sz A := mag_sz (by omega) (by omega)
  have mB : mag (mapU (digsN 20 (sz B))) = sz B := mag_sz (by omega) (by omega)
  have mN : mag (mapU (digsN 20 (sz n))) = sz n := mag_sz (by omega) (by omega)
  have mS : mag (mapU (digsN 20 (sz (A + B)))) = sz (A + B) := mag_sz (by omega) (by omega)
  have mD : mag (mapU (digsN 20 (sz (A + -B)))) = sz (A + -B) := mag_sz (by omega) (by omega)
  have aS := sv_addSg (sz_nn A) (sz_nn B) (decide (A < 0)) (decide (B < 0))
  have aD := sv_addSg (sz_nn A) (sz_nn B) (decide (A < 0)) (!decide (B < 0))
  rw [sv_sz, sv_sz] at aS
  rw [sv_sz, sv_nsz] at aD
  have c1 : clamp n = n := clamp_of (by unfold InR; omega)
  have t1 : sz B < 32592575621351777380295131014550050576823494298654980010178247189670100796213387298934358016 := by unfold sz; omega
  have t2 : sz A + sz B < 2135987035920910082395021706169552114602704522356652769947041607822219725780640550022962086936576 := by unfold sz; omega
  simp only [mA, mB, mN, sv_sz, sv_nsz, mS, mD, aS, aD, c1, k1, k2, kn, ok_nv, decide_eq_true t1, decide_eq_true t2, sv_f, Bool.and_self, bcase_t, beq_self_eq_true, cmpI_self, Int.sub_eq_add_neg]
theorem wideSums_walk (a : Int) (ha : InR a) (b : Int) (hb : InR b) (n : Int) (n0 : -9223372036854775808 ≤ n) (n1 : n ≤ 9223372036854775807) (w : World) :
    Calls Try.prog 3 #[.agg #[.int .i64 (hi a), .int .u64 (lo a)], .agg #[.int .i64 (hi b), .int .u64 (lo b)], .int .i64 n] w fun e w' =>
      e = .returned (.bool true) ∧ Below w.heap.size w w' :=
  calls_spec env1 hcokP 100 (sums_ok (hi a) (lo a) (hi b) (lo b) n (okW_hilo ha) (okW_hilo hb) (okI_iff.2 ⟨n0, n1⟩)) (all_bel rfl) rfl w
theorem root_bd {A : Int} (h : InR A) : 0 ≤ rootI A ∧ rootI A ≤ 18446744073709551615 := by
  by_cases hA : A < 0
  · rw [rootI_neg hA]; omega
  · have := root_is (by omega) h
    exact ⟨this.1, this.2.1⟩
theorem sq_root {n : Int} (h0 : -9223372036854775808 ≤ n) (h1 : n ≤ 9223372036854775807) : IsRoot (n * n) (sz n) ∧ InR (n * n) := by
  have e : n * n = sz n * sz n := by
    unfold sz; split
    · rw [Int.neg_mul_neg]
    · rfl
  have p0 := sz_nn n
  have p1 : sz n ≤ 9223372036854775808 := by unfold sz; omega
  have q0 : 0 ≤ sz n * sz n := Int.mul_nonneg p0 p0
  have q1 : sz n * sz n ≤ 9223372036854775808 * 9223372036854775808 := Int.mul_le_mul p1 p1 p0 (by omega)
  have q2 : (sz n + 1) * (sz n + 1) = sz n * sz n + 2 * sz n + 1 := by rw [Int.add_mul, Int.mul_add]; omega
  rw [e]
  refine ⟨⟨p0, by omega, by omega, by omega⟩, by unfold InR; omega⟩
set_option maxHeartbeats 2000000 in
theorem roots_ok (h1 l1 h2 l2 n : Int) (k1 : okW h1 l1 = true) (k2 : okW h2 l2 = true) (kn : okI n = true) :
    ((ev env1 100).call [] 6 #[.agg #[.int .i64 h1, .int .u64 l1], .agg #[.int .i64 h2, .int .u64 l2], .int .i64 n] [] B0).holds (fun r => r.v = .bool true) := by
  rw [roots_vc h1 l1 h2 l2 n (fun v => v = .bool true) _ rfl _ rfl _ rfl _ rfl _ rfl _ rfl _ rfl _ rfl _ rfl _ rfl _ rfl _ rfl]
  have bn := okI_iff.1 kn
  have iA := (hi_W2 k1).2.2
  have iB := (hi_W2 k2).2.2
  have hneg : h1 < 0 ↔ W2 h1 l1 < 0 := by rw [okW_iff] at k1; unfold W2; omega
  generalize W2 h1 l1 = A at *
  generalize W2 h2 l2 = B at *
  have rA := root_bd iA
  have rA' := root_is (n := A)
  have rB' := root_is (n := B)
  have rN := rootI_neg (n := A)
  have sq := sq_root bn.1 bn.2
  have eq := rootI_eq sq.1
  have iA' := iA; have iB' := iB
  unfold InR at iA iB
  have kU : okU (rootI A) = true := okU_iff.2 rA
  have kN : okW (hi n) (lo n) = true := okW_hilo (by unfold InR; omega)
  have kQ : okW (hi (n * n)) (lo (n * n)) = true := okW_hilo sq.2
  have mA : mag (mapU (digsN 20 (sz A))) = sz A := mag_sz (by omega) (by omega)
  have mR : mag (mapU (digsN 20 (rootI A))) = rootI A := mag_nv rA.1 (by unfold T320; omega)
  have eS : sz (rootI A + 1) = rootI A + 1 := by unfold sz; omega
  have mR1 : mag (mapU (digsN 20 (rootI A + 1))) = rootI A + 1 := mag_nv (by omega) (by unfold T320; omega)
  have q0 : 0 ≤ rootI A * rootI A := Int.mul_nonneg rA.1 rA.1
  have q1 : rootI A * rootI A ≤ 18446744073709551615 * 18446744073709551615 := Int.mul_le_mul rA.2 rA.2 rA.1 (by omega)
  have q2 : (rootI A + 1) * (rootI A + 1) = rootI A * rootI A + 2 * rootI A + 1 := by rw [Int.add_mul, Int.mul_add]; omega
  have mQ : mag (mapU (digsN 20 (rootI A * rootI A))) = rootI A * rootI A := mag_nv q0 (by unfold T320; omega)
  have mQ1 : mag (mapU (digsN 20 ((rootI A + 1) * (rootI A + 1)))) = (rootI A + 1) * (rootI A + 1) := mag_nv (by omega) (by unfold T320; omega)
  have eL : lo (clamp (sz n)) = sz n := by
    rw [clamp_of (by unfold InR sz; omega)]; unfold lo sz; omega
  have t1 : rootI A + 1 < 2135987035920910082395021706169552114602704522356652769947041607822219725780640550022962086936576 := by omega
  have t2 : rootI A * rootI A < 2135987035920910082395021706169552114602704522356652769947041607822219725780640550022962086936576 := by omega
  have t3 : (rootI A + 1) * (rootI A + 1) < 2135987035920910082395021706169552114602704522356652769947041607822219725780640550022962086936576 := by omega
  simp only [mA, mR, sv_sz, sv_f, eS, mR1, mQ, mQ1, W2_hilo, k1, k2, kn, kN, kQ, kU, ok_nv, decide_eq_true t1, decide_eq_true t2, decide_eq_true t3, Bool.and_self, bcase_t, eq, eL, cmp_gt, bne_self_eq_false]
  refine bcase_in (fun p => ?_) fun p => ?_
  · rw [decide_eq_true_eq] at p
    rw [rN (by omega)]; exact True.intro
  · rw [decide_eq_false_iff_not] at p
    obtain ⟨_, _, u1, u2⟩ := rA' (by omega) iA'
    refine bcase_in (fun p2 => ?_) fun _ => bcase_in (fun p3 => ?_) fun _ => ?_
    · rw [decide_eq_true_eq] at p2; omega
    · rw [decide_eq_true_eq] at p3; unfold cmpI at p3; exfalso; split at p3
      · omega
      · split at p3 <;> omega
    · refine bcase_in (fun p4 => ?_) fun _ => bcase_in (fun _ => True.intro) fun p4 => bcase_in (fun _ => True.intro) fun p5 => ?_
      · cases p4
      · rw [decide_eq_false_iff_not] at p4 p5
        exact absurd (root_le (rA' (by omega) iA') (rB' (by omega) iB') (by omega)) p5
theorem wideRoots_walk (a : Int) (ha : InR a) (b : Int) (hb : InR b) (n : Int) (n0 : -9223372036854775808 ≤ n) (n1 : n ≤ 9223372036854775807) (w : World) :
    Calls Try.prog 6 #[.agg #[.int .i64 (hi a), .int .u64 (lo a)], .agg #[.int .i64 (hi b), .int .u64 (lo b)], .int .i64 n] w fun e w' =>
      e = .returned (.bool true) ∧ Below w.heap.size w w' :=
  calls_spec env1 hcokP 100 (roots_ok (hi a) (lo a) (hi b) (lo b) n (okW_hilo ha) (okW_hilo hb) (okI_iff.2 ⟨n0, n1⟩)) (all_bel rfl) rfl w
end
end Go.Proofs.Ytbhgibpocbmipaa
