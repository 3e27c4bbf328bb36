
/-
  Read by wip/tools/vc.py, and what follows.
-/
import Derived.Test.YtbhgibpocbmipaaEraA
namespace Go.Proofs.Ytbhgibpocbmipaa
open Go.Den Go.RowKit
noncomputable section
set_option maxRecDepth 100000
theorem eraBack_vc (s h1 l1 h2 l2 : Int) (Q : Value → Prop) (x1 : Int) (e_x1 : x1 = -9223372036854775808) (x2 : Int) (e_x2 : x2 = clamp (W2 (unfH s h1 l1) s - W2 h1 l1)) (x3 : Int) (e_x3 : x3 = hi x2) (x4 : Int) (e_x4 : x4 = lo x2) (x5 : Int) (e_x5 : x5 = clamp (sz (W2 x3 x4))) (x6 : Int) (e_x6 : x6 = hi x5) (x7 : Int) (e_x7 : x7 = lo x5) (x8 : Int) (e_x8 : x8 = W2 0 9223372036854775808) (x9 : Int) (e_x9 : x9 = cmpI (W2 x6 x7) x8) (x10 : Int) (e_x10 : x10 = clamp (W2 h2 l2 - W2 h1 l1)) (x11 : Int) (e_x11 : x11 = hi x10) (x12 : Int) (e_x12 : x12 = lo x10) (x13 : Int) (e_x13 : x13 = clamp (sz (W2 x11 x12))) (x14 : Int) (e_x14 : x14 = hi x13) (x15 : Int) (e_x15 : x15 = lo x13) (x16 : Int) (e_x16 : x16 = cmpI (W2 x14 x15) x8) (x17 : Int) (e_x17 : x17 = clamp (W2 h2 l2 - W2 (unfH s h1 l1) s)) (x18 : Int) (e_x18 : x18 = hi x17) (x19 : Int) (e_x19 : x19 = lo x17) (x20 : Int) (e_x20 : x20 = clamp (sz (W2 x18 x19))) (x21 : Int) (e_x21 : x21 = hi x20) (x22 : Int) (e_x22 : x22 = lo x20) (x23 : Int) (e_x23 : x23 = cmpI (W2 x21 x22) x8) : ((ev envE 80).call [] 11 #[.int .u64 s, .agg #[.int .i64 h1, .int .u64 l1], .agg #[.int .i64 h2, .int .u64 l2]] [] B0).holds (fun r => Q r.v) = (bcase (okU s && okW h1 l1)
  (bcase (s != s) (Q (Value.bool false))
    (bcase (decide (h1 > x1))
      (bcase (decide (h1 < 9223372036854775807))
        (bcase (okW (unfH s h1 l1) s && okW h1 l1)
          (bcase (okW x3 x4)
            (bcase (okW x6 x7 && true)
              (bcase (decide (x9 > 0)) (Q (Value.bool false))
                (bcase (okW h2 l2 && okW h1 l1)
                  (bcase (okW x11 x12)
                    (bcase (okW x14 x15 && true)
                      (bcase (decide (x16 < 0))
                        (bcase (okU l2 && okW h1 l1)
                          (bcase (!(unfH l2 h1 l1 == h2 && (l2 == l2 && true))) (Q (Value.bool false))
                            (bcase (okW h2 l2 && okW (unfH s h1 l1) s)
                              (bcase (okW x18 x19)
                                (bcase (okW x21 x22 && true)
                                  (bcase (decide (x23 < 0))
                                    (bcase (okU l2 && okW (unfH s h1 l1) s)
                                      (bcase (!(unfH l2 (unfH s h1 l1) s == h2 && (l2 == l2 && true)))
                                        (Q (Value.bool false))
                                        (bcase (okU l2 && okW h2 l2)
                                          (bcase (unfH l2 h2 l2 == h2 && (l2 == l2 && true)) (Q (Value.bool true))
                                            (Q (Value.bool false)))
                                          False))
                                      False)
                                    (bcase (okU l2 && okW h2 l2)
                                      (bcase (unfH l2 h2 l2 == h2 && (l2 == l2 && true)) (Q (Value.bool true))
                                        (Q (Value.bool false)))
                                      False))
                                  False)
                                False)
                              False))
                          False)
                        (bcase (okW h2 l2 && okW (unfH s h1 l1) s)
                          (bcase (okW x18 x19)
                            (bcase (okW x21 x22 && true)
                              (bcase (decide (x23 < 0))
                                (bcase (okU l2 && okW (unfH s h1 l1) s)
                                  (bcase (!(unfH l2 (unfH s h1 l1) s == h2 && (l2 == l2 && true)))
                                    (Q (Value.bool false))
                                    (bcase (okU l2 && okW h2 l2)
                                      (bcase (unfH l2 h2 l2 == h2 && (l2 == l2 && true)) (Q (Value.bool true))
                                        (Q (Value.bool false)))
                                      False))
                                  False)
                                (bcase (okU l2 && okW h2 l2)
                                  (bcase (unfH l2 h2 l2 == h2 && (l2 == l2 && true)) (Q (Value.bool true))
                                    (Q (Value.bool false)))
                                  False))
                              False)
                            False)
                          False))
                      False)
                    False)
                  False))
              False)
            False)
          False)
        (bcase (okW h2 l2 && okW h1 l1)
          (bcase (okW x11 x12)
            (bcase (okW x14 x15 && true)
              (bcase (decide (x16 < 0))
                (bcase (okU l2 && okW h1 l1)
                  (bcase (!(unfH l2 h1 l1 == h2 && (l2 == l2 && true))) (Q (Value.bool false))
                    (bcase (okW h2 l2 && okW (unfH s h1 l1) s)
                      (bcase (okW x18 x19)
                        (bcase (okW x21 x22 && true)
                          (bcase (decide (x23 < 0))
                            (bcase (okU l2 && okW (unfH s h1 l1) s)
                              (bcase (!(unfH l2 (unfH s h1 l1) s == h2 && (l2 == l2 && true))) (Q (Value.bool false))
                                (bcase (okU l2 && okW h2 l2)
                                  (bcase (unfH l2 h2 l2 == h2 && (l2 == l2 && true)) (Q (Value.bool true))
                                    (Q (Value.bool false)))
                                  False))
                              False)
                            (bcase (okU l2 && okW h2 l2)
                              (bcase (unfH l2 h2 l2 == h2 && (l2 == l2 && true)) (Q (Value.bool true))
                                (Q (Value.bool false)))
                              False))
                          False)
                        False)
                      False))
                  False)
                (bcase (okW h2 l2 && okW (unfH s h1 l1) s)
                  (bcase (okW x18 x19)
                    (bcase (okW x21 x22 && true)
                      (bcase (decide (x23 < 0))
                        (bcase (okU l2 && okW (unfH s h1 l1) s)
                          (bcase (!(unfH l2 (unfH s h1 l1) s == h2 && (l2 == l2 && true))) (Q (Value.bool false))
                            (bcase (okU l2 && okW h2 l2)
                              (bcase (unfH l2 h2 l2 == h2 && (l2 == l2 && true)) (Q (Value.bool true))
                                (Q (Value.bool false)))
                              False))
                          False)
                        (bcase (okU l2 && okW h2 l2)
                          (bcase (unfH l2 h2 l2 == h2 && (l2 == l2 && true)) (Q (Value.bool true))
                            (Q (Value.bool false)))
                          False))
                      False)
                    False)
                  False))
              False)
            False)
          False))
      (bcase (okW h2 l2 && okW h1 l1)
        (bcase (okW x11 x12)
          (bcase (okW x14 x15 && true)
            (bcase (decide (x16 < 0))
              (bcase (okU l2 && okW h1 l1)
                (bcase (!(unfH l2 h1 l1 == h2 && (l2 == l2 && true))) (Q (Value.bool false))
                  (bcase (okW h2 l2 && okW (unfH s h1 l1) s)
                    (bcase (okW x18 x19)
                      (bcase (okW x21 x22 && true)
                        (bcase (decide (x23 < 0))
                          (bcase (okU l2 && okW (unfH s h1 l1) s)
                            (bcase (!(unfH l2 (unfH s h1 l1) s == h2 && (l2 == l2 && true))) (Q (Value.bool false))
                              (bcase (okU l2 && okW h2 l2)
                                (bcase (unfH l2 h2 l2 == h2 && (l2 == l2 && true)) (Q (Value.bool true))
                                  (Q (Value.bool false)))
                                False))
                            False)
                          (bcase (okU l2 && okW h2 l2)
                            (bcase (unfH l2 h2 l2 == h2 && (l2 == l2 && true)) (Q (Value.bool true))
                              (Q (Value.bool false)))
                            False))
                        False)
                      False)
                    False))
                False)
              (bcase (okW h2 l2 && okW (unfH s h1 l1) s)
                (bcase (okW x18 x19)
                  (bcase (okW x21 x22 && true)
                    (bcase (decide (x23 < 0))
                      (bcase (okU l2 && okW (unfH s h1 l1) s)
                        (bcase (!(unfH l2 (unfH s h1 l1) s == h2 && (l2 == l2 && true))) (Q (Value.bool false))
                          (bcase (okU l2 && okW h2 l2)
                            (bcase (unfH l2 h2 l2 == h2 && (l2 == l2 && true)) (Q (Value.bool true))
                              (Q (Value.bool false)))
                            False))
                        False)
                      (bcase (okU l2 && okW h2 l2)
                        (bcase (unfH l2 h2 l2 == h2 && (l2 == l2 && true)) (Q (Value.bool true)) (Q (Value.bool false)))
                        False))
                    False)
                  False)
                False))
            False)
          False)
        False)))
  False) := by
  subst e_x23 e_x22 e_x21 e_x20 e_x19 e_x18 e_x17 e_x16 e_x15 e_x14 e_x13 e_x12 e_x11 e_x10 e_x9 e_x8 e_x7 e_x6 e_x5 e_x4 e_x3 e_x2 e_x1
  kernel_rfl
theorem eraOrder_vc (s h1 l1 h2 l2 sec more f g : Int) (Q : Value → Prop) (x1 : Int) (e_x1 : x1 = cmpI (W2 (unfH s h2 l2) s) (W2 (unfH s h1 l1) s)) (x2 : Int) (e_x2 : x2 = W2 (hi (unixV sec f)) (lo (unixV sec f))) (x3 : Int) (e_x3 : x3 = x2 - 9487534653230284800) (x4 : Int) (e_x4 : x4 = cmpI x2 (W2 (hi (unixV more g)) (lo (unixV more g)))) (x5 : Int) (e_x5 : x5 = cmpI (W2 (unfH s h1 l1) s) (W2 (unfH s h2 l2) s)) : ((ev envE 80).call [] 12 #[.int .u64 s, .agg #[.int .i64 h1, .int .u64 l1], .agg #[.int .i64 h2, .int .u64 l2], .int .u64 sec, .int .u64 more, .int .u32 f, .int .u32 g] [] B0).holds (fun r => Q r.v) = (bcase (okW h1 l1 && okW h2 l2)
  (bcase (decide (cmpI (W2 h1 l1) (W2 h2 l2) > 0))
    (bcase (okU s && okW h2 l2)
      (bcase (okU s && okW h1 l1)
        (bcase (okW (unfH s h2 l2) s && okW (unfH s h1 l1) s)
          (bcase (decide (x1 > 0)) (Q (Value.bool false))
            (bcase (s != s) (Q (Value.bool false))
              (bcase (!(unfH s h2 l2 == unfH s h1 l1 && (s == s && true)))
                (bcase (decide (unfH s h2 l2 ≥ unfH s h1 l1)) (Q (Value.bool false))
                  (bcase (okU sec && okU32 f)
                    (bcase (okU more && okU32 g)
                      (bcase (okW (hi (unixV sec f)) (lo (unixV sec f)))
                        (bcase (ebOk x2)
                          (bcase ((bif ebOk x2 then x3 / 4294967296 else 0) != sec) (Q (Value.bool false))
                            (bcase ((bif ebOk x2 then x3 % 4294967296 else 0) != f) (Q (Value.bool false))
                              (bcase (decide (sec < more))
                                (bcase
                                  (okW (hi (unixV sec f)) (lo (unixV sec f)) &&
                                    okW (hi (unixV more g)) (lo (unixV more g)))
                                  (bcase (decide (x4 < 0)) (Q (Value.bool true)) (Q (Value.bool false))) False)
                                (bcase (sec == more)
                                  (bcase (decide (f < g))
                                    (bcase
                                      (okW (hi (unixV sec f)) (lo (unixV sec f)) &&
                                        okW (hi (unixV more g)) (lo (unixV more g)))
                                      (bcase (decide (x4 < 0)) (Q (Value.bool true)) (Q (Value.bool false))) False)
                                    (bcase
                                      (okW (hi (unixV sec f)) (lo (unixV sec f)) &&
                                        okW (hi (unixV more g)) (lo (unixV more g)))
                                      (bcase (decide (x4 < 0)) (Q (Value.bool false)) (Q (Value.bool true))) False))
                                  (bcase
                                    (okW (hi (unixV sec f)) (lo (unixV sec f)) &&
                                      okW (hi (unixV more g)) (lo (unixV more g)))
                                    (bcase (decide (x4 < 0)) (Q (Value.bool false)) (Q (Value.bool true))) False)))))
                          (Q (Value.bool false)))
                        False)
                      False)
                    False))
                (bcase (okU sec && okU32 f)
                  (bcase (okU more && okU32 g)
                    (bcase (okW (hi (unixV sec f)) (lo (unixV sec f)))
                      (bcase (ebOk x2)
                        (bcase ((bif ebOk x2 then x3 / 4294967296 else 0) != sec) (Q (Value.bool false))
                          (bcase ((bif ebOk x2 then x3 % 4294967296 else 0) != f) (Q (Value.bool false))
                            (bcase (decide (sec < more))
                              (bcase
                                (okW (hi (unixV sec f)) (lo (unixV sec f)) &&
                                  okW (hi (unixV more g)) (lo (unixV more g)))
                                (bcase (decide (x4 < 0)) (Q (Value.bool true)) (Q (Value.bool false))) False)
                              (bcase (sec == more)
                                (bcase (decide (f < g))
                                  (bcase
                                    (okW (hi (unixV sec f)) (lo (unixV sec f)) &&
                                      okW (hi (unixV more g)) (lo (unixV more g)))
                                    (bcase (decide (x4 < 0)) (Q (Value.bool true)) (Q (Value.bool false))) False)
                                  (bcase
                                    (okW (hi (unixV sec f)) (lo (unixV sec f)) &&
                                      okW (hi (unixV more g)) (lo (unixV more g)))
                                    (bcase (decide (x4 < 0)) (Q (Value.bool false)) (Q (Value.bool true))) False))
                                (bcase
                                  (okW (hi (unixV sec f)) (lo (unixV sec f)) &&
                                    okW (hi (unixV more g)) (lo (unixV more g)))
                                  (bcase (decide (x4 < 0)) (Q (Value.bool false)) (Q (Value.bool true))) False)))))
                        (Q (Value.bool false)))
                      False)
                    False)
                  False))))
          False)
        False)
      False)
    (bcase (okU s && okW h1 l1)
      (bcase (okU s && okW h2 l2)
        (bcase (okW (unfH s h1 l1) s && okW (unfH s h2 l2) s)
          (bcase (decide (x5 > 0)) (Q (Value.bool false))
            (bcase (s != s) (Q (Value.bool false))
              (bcase (!(unfH s h1 l1 == unfH s h2 l2 && (s == s && true)))
                (bcase (decide (unfH s h1 l1 ≥ unfH s h2 l2)) (Q (Value.bool false))
                  (bcase (okU sec && okU32 f)
                    (bcase (okU more && okU32 g)
                      (bcase (okW (hi (unixV sec f)) (lo (unixV sec f)))
                        (bcase (ebOk x2)
                          (bcase ((bif ebOk x2 then x3 / 4294967296 else 0) != sec) (Q (Value.bool false))
                            (bcase ((bif ebOk x2 then x3 % 4294967296 else 0) != f) (Q (Value.bool false))
                              (bcase (decide (sec < more))
                                (bcase
                                  (okW (hi (unixV sec f)) (lo (unixV sec f)) &&
                                    okW (hi (unixV more g)) (lo (unixV more g)))
                                  (bcase (decide (x4 < 0)) (Q (Value.bool true)) (Q (Value.bool false))) False)
                                (bcase (sec == more)
                                  (bcase (decide (f < g))
                                    (bcase
                                      (okW (hi (unixV sec f)) (lo (unixV sec f)) &&
                                        okW (hi (unixV more g)) (lo (unixV more g)))
                                      (bcase (decide (x4 < 0)) (Q (Value.bool true)) (Q (Value.bool false))) False)
                                    (bcase
                                      (okW (hi (unixV sec f)) (lo (unixV sec f)) &&
                                        okW (hi (unixV more g)) (lo (unixV more g)))
                                      (bcase (decide (x4 < 0)) (Q (Value.bool false)) (Q (Value.bool true))) False))
                                  (bcase
                                    (okW (hi (unixV sec f)) (lo (unixV sec f)) &&
                                      okW (hi (unixV more g)) (lo (unixV more g)))
                                    (bcase (decide (x4 < 0)) (Q (Value.bool false)) (Q (Value.bool true))) False)))))
                          (Q (Value.bool false)))
                        False)
                      False)
                    False))
                (bcase (okU sec && okU32 f)
                  (bcase (okU more && okU32 g)
                    (bcase (okW (hi (unixV sec f)) (lo (unixV sec f)))
                      (bcase (ebOk x2)
                        (bcase ((bif ebOk x2 then x3 / 4294967296 else 0) != sec) (Q (Value.bool false))
                          (bcase ((bif ebOk x2 then x3 % 4294967296 else 0) != f) (Q (Value.bool false))
                            (bcase (decide (sec < more))
                              (bcase
                                (okW (hi (unixV sec f)) (lo (unixV sec f)) &&
                                  okW (hi (unixV more g)) (lo (unixV more g)))
                                (bcase (decide (x4 < 0)) (Q (Value.bool true)) (Q (Value.bool false))) False)
                              (bcase (sec == more)
                                (bcase (decide (f < g))
                                  (bcase
                                    (okW (hi (unixV sec f)) (lo (unixV sec f)) &&
                                      okW (hi (unixV more g)) (lo (unixV more g)))
                                    (bcase (decide (x4 < 0)) (Q (Value.bool true)) (Q (Value.bool false))) False)
                                  (bcase
                                    (okW (hi (unixV sec f)) (lo (unixV sec f)) &&
                                      okW (hi (unixV more g)) (lo (unixV more g)))
                                    (bcase (decide (x4 < 0)) (Q (Value.bool false)) (Q (Value.bool true))) False))
                                (bcase
                                  (okW (hi (unixV sec f)) (lo (unixV sec f)) &&
                                    okW (hi (unixV more g)) (lo (unixV more g)))
                                  (bcase (decide (x4 < 0)) (Q (Value.bool false)) (Q (Value.bool true))) False)))))
                        (Q (Value.bool false)))
                      False)
                    False)
                  False))))
          False)
        False)
      False))
  False) := by
  subst e_x5 e_x4 e_x3 e_x2 e_x1
  kernel_rfl
theorem cmp_gt (a b : Int) : decide (cmpI a b > 0) = decide (b < a) := by
  unfold cmpI; split
  · rename_i h; rw [decide_eq_decide]; omega
  · split
    · rename_i h; rw [decide_eq_decide]; omega
    · rw [decide_eq_decide]; omega
theorem near_ok {h l h' l' : Int} (k : okW h l = true) (k' : okW h' l' = true) (q : decide (clamp (sz (clamp (W2 h' l' - W2 h l))) < W2 0 9223372036854775808) = true) : unfH l' h l = h' := by
  rw [decide_eq_true_eq] at q
  rw [okW_iff] at k k'
  unfold W2 clamp sz at q; unfold unfH; omega
theorem far_ok {s h l : Int} (k : okW h l = true) (ks : okU s = true) (h0 : h > -9223372036854775808) (h1 : h < 9223372036854775807) :
    decide (W2 0 9223372036854775808 < clamp (sz (clamp (W2 (unfH s h l) s - W2 h l)))) = false := by
  rw [decide_eq_false_iff_not]
  rw [okW_iff] at k; rw [okU_iff] at ks
  obtain ⟨u, hu⟩ : ∃ u, u = unfH s h l := ⟨_, rfl⟩
  rw [← hu]
  unfold unfH at hu
  have e : -9223372036854775808 ≤ W2 u s - W2 h l ∧ W2 u s - W2 h l ≤ 9223372036854775808 := by unfold W2; omega
  unfold W2 at *
  unfold clamp sz; omega
set_option maxHeartbeats 4000000 in
theorem eraBack_ok (s h1 l1 h2 l2 : Int) (ks : okU s = true) (k1 : okW h1 l1 = true) (k2 : okW h2 l2 = true) :
    ((ev envE 80).call [] 11 #[.int .u64 s, .agg #[.int .i64 h1, .int .u64 l1], .agg #[.int .i64 h2, .int .u64 l2]] [] B0).holds (fun r => r.v = .bool true) := by
  rw [eraBack_vc s h1 l1 h2 l2 (fun v => v = .bool true) _ rfl _ rfl _ rfl _ rfl _ rfl _ rfl _ rfl _ rfl _ rfl _ rfl _ rfl _ rfl _ rfl _ rfl _ rfl _ rfl _ rfl _ rfl _ rfl _ rfl _ rfl _ rfl _ rfl]
  have i1 := okW_l k1; have i2 := okW_l k2
  have ku : okW (unfH s h1 l1) s = true := okW_mk (unfH_bd i1.1) ks
  have F1 := far_ok (s := s) k1 ks
  have F2 := near_ok k1 k2
  have F3 := near_ok ku k2
  have F4 : unfH l2 h2 l2 = h2 := by unfold unfH; omega
  simp only [W2_hilo, ks, k1, k2, ku, i2.2, okW_clamp, Bool.and_self, Bool.and_true, bcase_t, cmp_lt, cmp_gt, beq_self_eq_true, bne_self_eq_false, bcase_f, F4]
  generalize decide (W2 0 9223372036854775808 < clamp (sz (clamp (W2 (unfH s h1 l1) s - W2 h1 l1)))) = c0 at *
  generalize decide (clamp (sz (clamp (W2 h2 l2 - W2 h1 l1))) < W2 0 9223372036854775808) = c1 at *
  generalize decide (clamp (sz (clamp (W2 h2 l2 - W2 (unfH s h1 l1) s))) < W2 0 9223372036854775808) = c2 at *
  have G2 : c1 = true → (unfH l2 h1 l1 == h2) = true := fun q => by rw [beq_iff_eq]; exact F2 q
  have G3 : c2 = true → (unfH l2 (unfH s h1 l1) s == h2) = true := fun q => by rw [beq_iff_eq]; exact F3 q
  have G1 : decide (h1 > -9223372036854775808) = true → decide (h1 < 9223372036854775807) = true → c0 = false := fun a b => F1 (of_decide_eq_true a) (of_decide_eq_true b)
  clear F1 F2 F3 F4
  generalize (unfH l2 h1 l1 == h2) = d1 at *
  generalize (unfH l2 (unfH s h1 l1) s == h2) = d2 at *
  generalize decide (h1 > -9223372036854775808) = g1 at *
  generalize decide (h1 < 9223372036854775807) = g2 at *
  clear i1 i2 ku ks k1 k2
  cases c1 <;> cases c2 <;> cases d1 <;> cases d2 <;> cases g1 <;> cases g2 <;> cases c0 <;>
    first
    | exact True.intro
    | (exfalso; revert G1 G2 G3; simp; done)
theorem eraBack_walk (s : Int) (s0 : 0 ≤ s) (s1 : s ≤ 18446744073709551615) (a : Int) (ha : InR a) (b : Int) (hb : InR b) (w : World) :
    Calls Try.prog 11 #[.int .u64 s, .agg #[.int .i64 (hi a), .int .u64 (lo a)], .agg #[.int .i64 (hi b), .int .u64 (lo b)]] w fun e w' =>
      e = .returned (.bool true) ∧ Below w.heap.size w w' :=
  calls_spec envE hcokP 80 (eraBack_ok s (hi a) (lo a) (hi b) (lo b) (okU_iff.2 ⟨s0, s1⟩) (okW_hilo ha) (okW_hilo hb)) (all_bel rfl) rfl w
theorem unf_up {s h1 l1 h2 l2 : Int} (ks : okU s = true) (k1 : okW h1 l1 = true) (k2 : okW h2 l2 = true) (h : W2 h1 l1 ≤ W2 h2 l2) : unfH s h1 l1 ≤ unfH s h2 l2 := by
  rw [okU_iff] at ks; rw [okW_iff] at k1 k2
  have h' : h1 < h2 ∨ h1 = h2 ∧ l1 ≤ l2 := by unfold W2 at h; omega
  unfold unfH; omega
theorem W2_lt (u v s : Int) : (W2 u s < W2 v s) ↔ u < v := by unfold W2; omega
set_option maxHeartbeats 4000000 in
theorem eraOrder_ok (s h1 l1 h2 l2 sec more f g : Int) (ks : okU s = true) (k1 : okW h1 l1 = true) (k2 : okW h2 l2 = true) (kc : okU sec = true) (km : okU more = true) (kf : okU32 f = true) (kg : okU32 g = true) :
    ((ev envE 80).call [] 12 #[.int .u64 s, .agg #[.int .i64 h1, .int .u64 l1], .agg #[.int .i64 h2, .int .u64 l2], .int .u64 sec, .int .u64 more, .int .u32 f, .int .u32 g] [] B0).holds (fun r => r.v = .bool true) := by
  rw [eraOrder_vc s h1 l1 h2 l2 sec more f g (fun v => v = .bool true) _ rfl _ rfl _ rfl _ rfl _ rfl]
  have i1 := okW_l k1; have i2 := okW_l k2
  have ku1 : okW (unfH s h1 l1) s = true := okW_mk (unfH_bd i1.1) ks
  have ku2 : okW (unfH s h2 l2) s = true := okW_mk (unfH_bd i2.1) ks
  have M1 := unf_up ks k1 k2
  have M2 := unf_up ks k2 k1
  have bc := okU_iff.1 kc; have bm := okU_iff.1 km; have bf := okU32_iff.1 kf; have bg := okU32_iff.1 kg
  have r1 : okW (hi (unixV sec f)) (lo (unixV sec f)) = true := okW_hilo (by unfold InR unixV; omega)
  have r2 : okW (hi (unixV more g)) (lo (unixV more g)) = true := okW_hilo (by unfold InR unixV; omega)
  have r3 : ebOk (unixV sec f) = true := by simp only [ebOk, Bool.and_eq_true, decide_eq_true_eq]; unfold unixV; omega
  have r4 : (unixV sec f - 9487534653230284800) / 4294967296 = sec := by unfold unixV; omega
  have r5 : (unixV sec f - 9487534653230284800) % 4294967296 = f := by unfold unixV; omega
  have r6 : decide (unixV sec f < unixV more g) = decide (sec < more ∨ sec = more ∧ f < g) := by rw [decide_eq_decide]; unfold unixV; omega
  simp only [W2_hilo, ks, k1, k2, ku1, ku2, kc, km, kf, kg, r1, r2, r3, r4, r5, r6, Bool.and_self, Bool.and_true, bcase_t, cmp_lt, cmp_gt, W2_lt, beq_self_eq_true, bne_self_eq_false, bcase_f, cond_true]
  clear i1 i2 ku1 ku2 ks k1 k2 r1 r2 r3 r4 r5 r6 kc km kf kg bc bm bf bg
  generalize W2 h1 l1 = A at *; generalize W2 h2 l2 = B at *
  generalize unfH s h1 l1 = u at *; generalize unfH s h2 l2 = v at *
  repeat' (first | exact True.intro | refine bcase_in (fun q => ?_) (fun q => ?_))
  all_goals (exfalso; simp only [decide_eq_true_eq, decide_eq_false_iff_not, beq_iff_eq, beq_eq_false_iff_ne, Bool.not_eq_true', Bool.not_eq_false', ne_eq] at *; omega)
theorem eraOrder_walk (s : Int) (s0 : 0 ≤ s) (s1 : s ≤ 18446744073709551615) (a : Int) (ha : InR a) (b : Int) (hb : InR b) (c : Int) (c0 : 0 ≤ c) (c1 : c ≤ 18446744073709551615) (m : Int) (m0 : 0 ≤ m) (m1 : m ≤ 18446744073709551615)
    (f : Int) (f0 : 0 ≤ f) (f1 : f ≤ 4294967295) (g : Int) (g0 : 0 ≤ g) (g1 : g ≤ 4294967295) (w : World) :
    Calls Try.prog 12 #[.int .u64 s, .agg #[.int .i64 (hi a), .int .u64 (lo a)], .agg #[.int .i64 (hi b), .int .u64 (lo b)], .int .u64 c, .int .u64 m, .int .u32 f, .int .u32 g] w fun e w' =>
      e = .returned (.bool true) ∧ Below w.heap.size w w' :=
  calls_spec envE hcokP 80 (eraOrder_ok s (hi a) (lo a) (hi b) (lo b) c m f g (okU_iff.2 ⟨s0, s1⟩) (okW_hilo ha) (okW_hilo hb) (okU_iff.2 ⟨c0, c1⟩) (okU_iff.2 ⟨m0, m1⟩) (okU32_iff.2 ⟨f0, f1⟩) (okU32_iff.2 ⟨g0, g1⟩)) (all_bel rfl) rfl w
end
end Go.Proofs.Ytbhgibpocbmipaa
