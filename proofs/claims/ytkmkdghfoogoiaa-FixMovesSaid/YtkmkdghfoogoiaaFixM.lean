
/-
  Read by wip/tools/vc.py, and what follows.
-/
import Derived.Test.YtkmkdghfoogoiaaFixO
namespace Go.Proofs.Ytkmkdghfoogoiaa
open Go.Den Go.RowKit
noncomputable section
set_option maxRecDepth 100000
theorem moves_vc (h1 l1 h2 l2 h3 l3 h4 l4 h5 l5 b : Int) (Q : Value → Prop) : ((ev envO 60).call [] 12 #[.agg #[.int .i64 h1, .int .u64 l1], .agg #[.int .i64 h2, .int .u64 l2], .agg #[.int .i64 h3, .int .u64 l3], .agg #[.int .i64 h4, .int .u64 l4], .agg #[.int .i64 h5, .int .u64 l5], .int .i64 b] [] B0).holds (fun r => Q r.v) = (bcase (decide (h1 ≥ 268435456)) (Q (Value.bool true))
  (bcase (decide (h1 < -268435456)) (Q (Value.bool true))
    (bcase (decide (h2 ≥ 268435456)) (Q (Value.bool true))
      (bcase (decide (h2 < -268435456)) (Q (Value.bool true))
        (bcase (decide (h3 ≥ 268435456)) (Q (Value.bool true))
          (bcase (decide (h3 < -268435456)) (Q (Value.bool true))
            (bcase (decide (h4 ≥ 268435456)) (Q (Value.bool true))
              (bcase (decide (h4 < -268435456)) (Q (Value.bool true))
                (bcase (decide (h5 ≥ 268435456)) (Q (Value.bool true))
                  (bcase (decide (h5 < -268435456)) (Q (Value.bool true))
                    (bcase (decide (b > 1152921504606846976)) (Q (Value.bool true))
                      (bcase (decide (b < -1152921504606846976)) (Q (Value.bool true))
                        (bcase (ok4 h1 l1 h2 l2 h3 l3 h4 l4)
                          (bcase (ok4 h1 l1 h2 l2 h3 l3 h4 l4)
                            (bcase (okW h1 l1 && okW h5 l5)
                              (bcase (okW h2 l2 && okW h5 l5)
                                (bcase (okW h3 l3 && okW h5 l5)
                                  (bcase (okW h4 l4 && okW h5 l5)
                                    (bcase
                                      (ok4 (hi (clamp (W2 h1 l1 + W2 h5 l5))) (lo (clamp (W2 h1 l1 + W2 h5 l5)))
                                        (hi (clamp (W2 h2 l2 + W2 h5 l5))) (lo (clamp (W2 h2 l2 + W2 h5 l5)))
                                        (hi (clamp (W2 h3 l3 + W2 h5 l5))) (lo (clamp (W2 h3 l3 + W2 h5 l5)))
                                        (hi (clamp (W2 h4 l4 + W2 h5 l5))) (lo (clamp (W2 h4 l4 + W2 h5 l5))))
                                      (bcase
                                        (off (W2 (hi (clamp (W2 h1 l1 + W2 h5 l5))) (lo (clamp (W2 h1 l1 + W2 h5 l5))))
                                            (W2 (hi (clamp (W2 h2 l2 + W2 h5 l5))) (lo (clamp (W2 h2 l2 + W2 h5 l5))))
                                            (W2 (hi (clamp (W2 h3 l3 + W2 h5 l5))) (lo (clamp (W2 h3 l3 + W2 h5 l5))))
                                            (W2 (hi (clamp (W2 h4 l4 + W2 h5 l5)))
                                              (lo (clamp (W2 h4 l4 + W2 h5 l5)))) !=
                                          off (W2 h1 l1) (W2 h2 l2) (W2 h3 l3) (W2 h4 l4))
                                        (Q (Value.bool false))
                                        (bcase (okW h1 l1 && okW h5 l5)
                                          (bcase (okW h2 l2 && okW h5 l5)
                                            (bcase (okW h3 l3 && okW h5 l5)
                                              (bcase (okW h4 l4 && okW h5 l5)
                                                (bcase
                                                  (ok4 (hi (clamp (W2 h1 l1 + W2 h5 l5)))
                                                    (lo (clamp (W2 h1 l1 + W2 h5 l5)))
                                                    (hi (clamp (W2 h2 l2 + W2 h5 l5)))
                                                    (lo (clamp (W2 h2 l2 + W2 h5 l5)))
                                                    (hi (clamp (W2 h3 l3 + W2 h5 l5)))
                                                    (lo (clamp (W2 h3 l3 + W2 h5 l5)))
                                                    (hi (clamp (W2 h4 l4 + W2 h5 l5)))
                                                    (lo (clamp (W2 h4 l4 + W2 h5 l5))))
                                                  (bcase
                                                    (del
                                                        (W2 (hi (clamp (W2 h1 l1 + W2 h5 l5)))
                                                          (lo (clamp (W2 h1 l1 + W2 h5 l5))))
                                                        (W2 (hi (clamp (W2 h2 l2 + W2 h5 l5)))
                                                          (lo (clamp (W2 h2 l2 + W2 h5 l5))))
                                                        (W2 (hi (clamp (W2 h3 l3 + W2 h5 l5)))
                                                          (lo (clamp (W2 h3 l3 + W2 h5 l5))))
                                                        (W2 (hi (clamp (W2 h4 l4 + W2 h5 l5)))
                                                          (lo (clamp (W2 h4 l4 + W2 h5 l5)))) !=
                                                      del (W2 h1 l1) (W2 h2 l2) (W2 h3 l3) (W2 h4 l4))
                                                    (Q (Value.bool false))
                                                    (bcase
                                                      (decide
                                                        (off (W2 h1 l1) (W2 h2 l2) (W2 h3 l3) (W2 h4 l4) <
                                                          2305843009213693952))
                                                      (bcase
                                                        (decide
                                                          (off (W2 h1 l1) (W2 h2 l2) (W2 h3 l3) (W2 h4 l4) >
                                                            -2305843009213693952))
                                                        (bcase (okI b)
                                                          (bcase (okW h2 l2 && okW (hi b) (lo b))
                                                            (bcase (okI b)
                                                              (bcase (okW h3 l3 && okW (hi b) (lo b))
                                                                (bcase
                                                                  (ok4 h1 l1 (hi (clamp (W2 h2 l2 + W2 (hi b) (lo b))))
                                                                    (lo (clamp (W2 h2 l2 + W2 (hi b) (lo b))))
                                                                    (hi (clamp (W2 h3 l3 + W2 (hi b) (lo b))))
                                                                    (lo (clamp (W2 h3 l3 + W2 (hi b) (lo b)))) h4 l4)
                                                                  (bcase
                                                                    (off (W2 h1 l1)
                                                                        (W2 (hi (clamp (W2 h2 l2 + W2 (hi b) (lo b))))
                                                                          (lo (clamp (W2 h2 l2 + W2 (hi b) (lo b)))))
                                                                        (W2 (hi (clamp (W2 h3 l3 + W2 (hi b) (lo b))))
                                                                          (lo (clamp (W2 h3 l3 + W2 (hi b) (lo b)))))
                                                                        (W2 h4 l4) !=
                                                                      IntKind.wrap IntKind.i64
                                                                        (off (W2 h1 l1) (W2 h2 l2) (W2 h3 l3)
                                                                            (W2 h4 l4) +
                                                                          b))
                                                                    (Q (Value.bool false))
                                                                    (bcase (okI b)
                                                                      (bcase (okW h2 l2 && okW (hi b) (lo b))
                                                                        (bcase (okI b)
                                                                          (bcase (okW h3 l3 && okW (hi b) (lo b))
                                                                            (bcase
                                                                              (ok4 h1 l1
                                                                                (hi
                                                                                  (clamp (W2 h2 l2 + W2 (hi b) (lo b))))
                                                                                (lo
                                                                                  (clamp (W2 h2 l2 + W2 (hi b) (lo b))))
                                                                                (hi
                                                                                  (clamp (W2 h3 l3 + W2 (hi b) (lo b))))
                                                                                (lo
                                                                                  (clamp (W2 h3 l3 + W2 (hi b) (lo b))))
                                                                                h4 l4)
                                                                              (bcase
                                                                                (del (W2 h1 l1)
                                                                                    (W2
                                                                                      (hi
                                                                                        (clamp
                                                                                          (W2 h2 l2 +
                                                                                            W2 (hi b) (lo b))))
                                                                                      (lo
                                                                                        (clamp
                                                                                          (W2 h2 l2 +
                                                                                            W2 (hi b) (lo b)))))
                                                                                    (W2
                                                                                      (hi
                                                                                        (clamp
                                                                                          (W2 h3 l3 +
                                                                                            W2 (hi b) (lo b))))
                                                                                      (lo
                                                                                        (clamp
                                                                                          (W2 h3 l3 +
                                                                                            W2 (hi b) (lo b)))))
                                                                                    (W2 h4 l4) !=
                                                                                  del (W2 h1 l1) (W2 h2 l2) (W2 h3 l3)
                                                                                    (W2 h4 l4))
                                                                                (Q (Value.bool false))
                                                                                (bcase
                                                                                  (decide
                                                                                    (off (W2 h1 l1) (W2 h2 l2)
                                                                                        (W2 h3 l3) (W2 h4 l4) ≥
                                                                                      2305843009213693952))
                                                                                  (Q (Value.bool true))
                                                                                  (bcase
                                                                                    (decide
                                                                                      (off (W2 h1 l1) (W2 h2 l2)
                                                                                          (W2 h3 l3) (W2 h4 l4) ≤
                                                                                        -2305843009213693952))
                                                                                    (Q (Value.bool true))
                                                                                    (bcase
                                                                                      (decide
                                                                                        (del (W2 h1 l1) (W2 h2 l2)
                                                                                            (W2 h3 l3) (W2 h4 l4) ≥
                                                                                          2305843009213693952))
                                                                                      (Q (Value.bool true))
                                                                                      (bcase
                                                                                        (decide
                                                                                          (del (W2 h1 l1) (W2 h2 l2)
                                                                                              (W2 h3 l3) (W2 h4 l4) ≤
                                                                                            -2305843009213693952))
                                                                                        (Q (Value.bool true))
                                                                                        (bcase (okW h2 l2 && okW h1 l1)
                                                                                          (bcase
                                                                                            (okW
                                                                                              (hi
                                                                                                (clamp
                                                                                                  (W2 h2 l2 -
                                                                                                    W2 h1 l1)))
                                                                                              (lo
                                                                                                (clamp
                                                                                                  (W2 h2 l2 -
                                                                                                    W2 h1 l1))))
                                                                                            (bcase
                                                                                              (okW h3 l3 && okW h4 l4)
                                                                                              (bcase
                                                                                                (okW
                                                                                                  (hi
                                                                                                    (clamp
                                                                                                      (W2 h3 l3 -
                                                                                                        W2 h4 l4)))
                                                                                                  (lo
                                                                                                    (clamp
                                                                                                      (W2 h3 l3 -
                                                                                                        W2 h4 l4))))
                                                                                                (bcase
                                                                                                  (IntKind.wrap
                                                                                                      IntKind.i64
                                                                                                      (clip
                                                                                                          (W2
                                                                                                            (hi
                                                                                                              (clamp
                                                                                                                (W2 h2
                                                                                                                    l2 -
                                                                                                                  W2 h1
                                                                                                                    l1)))
                                                                                                            (lo
                                                                                                              (clamp
                                                                                                                (W2 h2
                                                                                                                    l2 -
                                                                                                                  W2 h1
                                                                                                                    l1)))) -
                                                                                                        clip
                                                                                                          (W2
                                                                                                            (hi
                                                                                                              (clamp
                                                                                                                (W2 h3
                                                                                                                    l3 -
                                                                                                                  W2 h4
                                                                                                                    l4)))
                                                                                                            (lo
                                                                                                              (clamp
                                                                                                                (W2 h3
                                                                                                                    l3 -
                                                                                                                  W2 h4
                                                                                                                    l4))))) ==
                                                                                                    del (W2 h1 l1)
                                                                                                      (W2 h2 l2)
                                                                                                      (W2 h3 l3)
                                                                                                      (W2 h4 l4))
                                                                                                  (bcase
                                                                                                    (IntKind.wrap
                                                                                                        IntKind.i64
                                                                                                        (clip
                                                                                                            (W2
                                                                                                              (hi
                                                                                                                (clamp
                                                                                                                  (W2 h2
                                                                                                                      l2 -
                                                                                                                    W2
                                                                                                                      h1
                                                                                                                      l1)))
                                                                                                              (lo
                                                                                                                (clamp
                                                                                                                  (W2 h2
                                                                                                                      l2 -
                                                                                                                    W2
                                                                                                                      h1
                                                                                                                      l1)))) +
                                                                                                          clip
                                                                                                            (W2
                                                                                                              (hi
                                                                                                                (clamp
                                                                                                                  (W2 h3
                                                                                                                      l3 -
                                                                                                                    W2
                                                                                                                      h4
                                                                                                                      l4)))
                                                                                                              (lo
                                                                                                                (clamp
                                                                                                                  (W2 h3
                                                                                                                      l3 -
                                                                                                                    W2
                                                                                                                      h4
                                                                                                                      l4))))) ==
                                                                                                      IntKind.wrap
                                                                                                        IntKind.i64
                                                                                                        (2 *
                                                                                                          off (W2 h1 l1)
                                                                                                            (W2 h2 l2)
                                                                                                            (W2 h3 l3)
                                                                                                            (W2 h4 l4)))
                                                                                                    (Q
                                                                                                      (Value.bool true))
                                                                                                    (bcase
                                                                                                      (IntKind.wrap
                                                                                                          IntKind.i64
                                                                                                          (clip
                                                                                                              (W2
                                                                                                                (hi
                                                                                                                  (clamp
                                                                                                                    (W2
                                                                                                                        h2
                                                                                                                        l2 -
                                                                                                                      W2
                                                                                                                        h1
                                                                                                                        l1)))
                                                                                                                (lo
                                                                                                                  (clamp
                                                                                                                    (W2
                                                                                                                        h2
                                                                                                                        l2 -
                                                                                                                      W2
                                                                                                                        h1
                                                                                                                        l1)))) +
                                                                                                            clip
                                                                                                              (W2
                                                                                                                (hi
                                                                                                                  (clamp
                                                                                                                    (W2
                                                                                                                        h3
                                                                                                                        l3 -
                                                                                                                      W2
                                                                                                                        h4
                                                                                                                        l4)))
                                                                                                                (lo
                                                                                                                  (clamp
                                                                                                                    (W2
                                                                                                                        h3
                                                                                                                        l3 -
                                                                                                                      W2
                                                                                                                        h4
                                                                                                                        l4))))) ==
                                                                                                        IntKind.wrap
                                                                                                          IntKind.i64
                                                                                                          (IntKind.wrap
                                                                                                              IntKind.i64
                                                                                                              (2 *
                                                                                                                off
                                                                                                                  (W2 h1
                                                                                                                    l1)
                                                                                                                  (W2 h2
                                                                                                                    l2)
                                                                                                                  (W2 h3
                                                                                                                    l3)
                                                                                                                  (W2 h4
                                                                                                                    l4)) +
                                                                                                            1))
                                                                                                      (Q
                                                                                                        (Value.bool
                                                                                                          true))
                                                                                                      (Q
                                                                                                        (Value.bool
                                                                                                          false))))
                                                                                                  (Q
                                                                                                    (Value.bool false)))
                                                                                                False)
                                                                                              False)
                                                                                            False)
                                                                                          False))))))
                                                                              False)
                                                                            False)
                                                                          False)
                                                                        False)
                                                                      False))
                                                                  False)
                                                                False)
                                                              False)
                                                            False)
                                                          False)
                                                        (bcase (okI b)
                                                          (bcase (okW h2 l2 && okW (hi b) (lo b))
                                                            (bcase (okI b)
                                                              (bcase (okW h3 l3 && okW (hi b) (lo b))
                                                                (bcase
                                                                  (ok4 h1 l1 (hi (clamp (W2 h2 l2 + W2 (hi b) (lo b))))
                                                                    (lo (clamp (W2 h2 l2 + W2 (hi b) (lo b))))
                                                                    (hi (clamp (W2 h3 l3 + W2 (hi b) (lo b))))
                                                                    (lo (clamp (W2 h3 l3 + W2 (hi b) (lo b)))) h4 l4)
                                                                  (bcase
                                                                    (del (W2 h1 l1)
                                                                        (W2 (hi (clamp (W2 h2 l2 + W2 (hi b) (lo b))))
                                                                          (lo (clamp (W2 h2 l2 + W2 (hi b) (lo b)))))
                                                                        (W2 (hi (clamp (W2 h3 l3 + W2 (hi b) (lo b))))
                                                                          (lo (clamp (W2 h3 l3 + W2 (hi b) (lo b)))))
                                                                        (W2 h4 l4) !=
                                                                      del (W2 h1 l1) (W2 h2 l2) (W2 h3 l3) (W2 h4 l4))
                                                                    (Q (Value.bool false))
                                                                    (bcase
                                                                      (decide
                                                                        (off (W2 h1 l1) (W2 h2 l2) (W2 h3 l3)
                                                                            (W2 h4 l4) ≥
                                                                          2305843009213693952))
                                                                      (Q (Value.bool true))
                                                                      (bcase
                                                                        (decide
                                                                          (off (W2 h1 l1) (W2 h2 l2) (W2 h3 l3)
                                                                              (W2 h4 l4) ≤
                                                                            -2305843009213693952))
                                                                        (Q (Value.bool true))
                                                                        (bcase
                                                                          (decide
                                                                            (del (W2 h1 l1) (W2 h2 l2) (W2 h3 l3)
                                                                                (W2 h4 l4) ≥
                                                                              2305843009213693952))
                                                                          (Q (Value.bool true))
                                                                          (bcase
                                                                            (decide
                                                                              (del (W2 h1 l1) (W2 h2 l2) (W2 h3 l3)
                                                                                  (W2 h4 l4) ≤
                                                                                -2305843009213693952))
                                                                            (Q (Value.bool true))
                                                                            (bcase (okW h2 l2 && okW h1 l1)
                                                                              (bcase
                                                                                (okW (hi (clamp (W2 h2 l2 - W2 h1 l1)))
                                                                                  (lo (clamp (W2 h2 l2 - W2 h1 l1))))
                                                                                (bcase (okW h3 l3 && okW h4 l4)
                                                                                  (bcase
                                                                                    (okW
                                                                                      (hi (clamp (W2 h3 l3 - W2 h4 l4)))
                                                                                      (lo
                                                                                        (clamp (W2 h3 l3 - W2 h4 l4))))
                                                                                    (bcase
                                                                                      (IntKind.wrap IntKind.i64
                                                                                          (clip
                                                                                              (W2
                                                                                                (hi
                                                                                                  (clamp
                                                                                                    (W2 h2 l2 -
                                                                                                      W2 h1 l1)))
                                                                                                (lo
                                                                                                  (clamp
                                                                                                    (W2 h2 l2 -
                                                                                                      W2 h1 l1)))) -
                                                                                            clip
                                                                                              (W2
                                                                                                (hi
                                                                                                  (clamp
                                                                                                    (W2 h3 l3 -
                                                                                                      W2 h4 l4)))
                                                                                                (lo
                                                                                                  (clamp
                                                                                                    (W2 h3 l3 -
                                                                                                      W2 h4 l4))))) ==
                                                                                        del (W2 h1 l1) (W2 h2 l2)
                                                                                          (W2 h3 l3) (W2 h4 l4))
                                                                                      (bcase
                                                                                        (IntKind.wrap IntKind.i64
                                                                                            (clip
                                                                                                (W2
                                                                                                  (hi
                                                                                                    (clamp
                                                                                                      (W2 h2 l2 -
                                                                                                        W2 h1 l1)))
                                                                                                  (lo
                                                                                                    (clamp
                                                                                                      (W2 h2 l2 -
                                                                                                        W2 h1 l1)))) +
                                                                                              clip
                                                                                                (W2
                                                                                                  (hi
                                                                                                    (clamp
                                                                                                      (W2 h3 l3 -
                                                                                                        W2 h4 l4)))
                                                                                                  (lo
                                                                                                    (clamp
                                                                                                      (W2 h3 l3 -
                                                                                                        W2 h4 l4))))) ==
                                                                                          IntKind.wrap IntKind.i64
                                                                                            (2 *
                                                                                              off (W2 h1 l1) (W2 h2 l2)
                                                                                                (W2 h3 l3) (W2 h4 l4)))
                                                                                        (Q (Value.bool true))
                                                                                        (bcase
                                                                                          (IntKind.wrap IntKind.i64
                                                                                              (clip
                                                                                                  (W2
                                                                                                    (hi
                                                                                                      (clamp
                                                                                                        (W2 h2 l2 -
                                                                                                          W2 h1 l1)))
                                                                                                    (lo
                                                                                                      (clamp
                                                                                                        (W2 h2 l2 -
                                                                                                          W2 h1 l1)))) +
                                                                                                clip
                                                                                                  (W2
                                                                                                    (hi
                                                                                                      (clamp
                                                                                                        (W2 h3 l3 -
                                                                                                          W2 h4 l4)))
                                                                                                    (lo
                                                                                                      (clamp
                                                                                                        (W2 h3 l3 -
                                                                                                          W2 h4
                                                                                                            l4))))) ==
                                                                                            IntKind.wrap IntKind.i64
                                                                                              (IntKind.wrap IntKind.i64
                                                                                                  (2 *
                                                                                                    off (W2 h1 l1)
                                                                                                      (W2 h2 l2)
                                                                                                      (W2 h3 l3)
                                                                                                      (W2 h4 l4)) +
                                                                                                1))
                                                                                          (Q (Value.bool true))
                                                                                          (Q (Value.bool false))))
                                                                                      (Q (Value.bool false)))
                                                                                    False)
                                                                                  False)
                                                                                False)
                                                                              False))))))
                                                                  False)
                                                                False)
                                                              False)
                                                            False)
                                                          False))
                                                      (bcase (okI b)
                                                        (bcase (okW h2 l2 && okW (hi b) (lo b))
                                                          (bcase (okI b)
                                                            (bcase (okW h3 l3 && okW (hi b) (lo b))
                                                              (bcase
                                                                (ok4 h1 l1 (hi (clamp (W2 h2 l2 + W2 (hi b) (lo b))))
                                                                  (lo (clamp (W2 h2 l2 + W2 (hi b) (lo b))))
                                                                  (hi (clamp (W2 h3 l3 + W2 (hi b) (lo b))))
                                                                  (lo (clamp (W2 h3 l3 + W2 (hi b) (lo b)))) h4 l4)
                                                                (bcase
                                                                  (del (W2 h1 l1)
                                                                      (W2 (hi (clamp (W2 h2 l2 + W2 (hi b) (lo b))))
                                                                        (lo (clamp (W2 h2 l2 + W2 (hi b) (lo b)))))
                                                                      (W2 (hi (clamp (W2 h3 l3 + W2 (hi b) (lo b))))
                                                                        (lo (clamp (W2 h3 l3 + W2 (hi b) (lo b)))))
                                                                      (W2 h4 l4) !=
                                                                    del (W2 h1 l1) (W2 h2 l2) (W2 h3 l3) (W2 h4 l4))
                                                                  (Q (Value.bool false))
                                                                  (bcase
                                                                    (decide
                                                                      (off (W2 h1 l1) (W2 h2 l2) (W2 h3 l3) (W2 h4 l4) ≥
                                                                        2305843009213693952))
                                                                    (Q (Value.bool true))
                                                                    (bcase
                                                                      (decide
                                                                        (off (W2 h1 l1) (W2 h2 l2) (W2 h3 l3)
                                                                            (W2 h4 l4) ≤
                                                                          -2305843009213693952))
                                                                      (Q (Value.bool true))
                                                                      (bcase
                                                                        (decide
                                                                          (del (W2 h1 l1) (W2 h2 l2) (W2 h3 l3)
                                                                              (W2 h4 l4) ≥
                                                                            2305843009213693952))
                                                                        (Q (Value.bool true))
                                                                        (bcase
                                                                          (decide
                                                                            (del (W2 h1 l1) (W2 h2 l2) (W2 h3 l3)
                                                                                (W2 h4 l4) ≤
                                                                              -2305843009213693952))
                                                                          (Q (Value.bool true))
                                                                          (bcase (okW h2 l2 && okW h1 l1)
                                                                            (bcase
                                                                              (okW (hi (clamp (W2 h2 l2 - W2 h1 l1)))
                                                                                (lo (clamp (W2 h2 l2 - W2 h1 l1))))
                                                                              (bcase (okW h3 l3 && okW h4 l4)
                                                                                (bcase
                                                                                  (okW
                                                                                    (hi (clamp (W2 h3 l3 - W2 h4 l4)))
                                                                                    (lo (clamp (W2 h3 l3 - W2 h4 l4))))
                                                                                  (bcase
                                                                                    (IntKind.wrap IntKind.i64
                                                                                        (clip
                                                                                            (W2
                                                                                              (hi
                                                                                                (clamp
                                                                                                  (W2 h2 l2 -
                                                                                                    W2 h1 l1)))
                                                                                              (lo
                                                                                                (clamp
                                                                                                  (W2 h2 l2 -
                                                                                                    W2 h1 l1)))) -
                                                                                          clip
                                                                                            (W2
                                                                                              (hi
                                                                                                (clamp
                                                                                                  (W2 h3 l3 -
                                                                                                    W2 h4 l4)))
                                                                                              (lo
                                                                                                (clamp
                                                                                                  (W2 h3 l3 -
                                                                                                    W2 h4 l4))))) ==
                                                                                      del (W2 h1 l1) (W2 h2 l2)
                                                                                        (W2 h3 l3) (W2 h4 l4))
                                                                                    (bcase
                                                                                      (IntKind.wrap IntKind.i64
                                                                                          (clip
                                                                                              (W2
                                                                                                (hi
                                                                                                  (clamp
                                                                                                    (W2 h2 l2 -
                                                                                                      W2 h1 l1)))
                                                                                                (lo
                                                                                                  (clamp
                                                                                                    (W2 h2 l2 -
                                                                                                      W2 h1 l1)))) +
                                                                                            clip
                                                                                              (W2
                                                                                                (hi
                                                                                                  (clamp
                                                                                                    (W2 h3 l3 -
                                                                                                      W2 h4 l4)))
                                                                                                (lo
                                                                                                  (clamp
                                                                                                    (W2 h3 l3 -
                                                                                                      W2 h4 l4))))) ==
                                                                                        IntKind.wrap IntKind.i64
                                                                                          (2 *
                                                                                            off (W2 h1 l1) (W2 h2 l2)
                                                                                              (W2 h3 l3) (W2 h4 l4)))
                                                                                      (Q (Value.bool true))
                                                                                      (bcase
                                                                                        (IntKind.wrap IntKind.i64
                                                                                            (clip
                                                                                                (W2
                                                                                                  (hi
                                                                                                    (clamp
                                                                                                      (W2 h2 l2 -
                                                                                                        W2 h1 l1)))
                                                                                                  (lo
                                                                                                    (clamp
                                                                                                      (W2 h2 l2 -
                                                                                                        W2 h1 l1)))) +
                                                                                              clip
                                                                                                (W2
                                                                                                  (hi
                                                                                                    (clamp
                                                                                                      (W2 h3 l3 -
                                                                                                        W2 h4 l4)))
                                                                                                  (lo
                                                                                                    (clamp
                                                                                                      (W2 h3 l3 -
                                                                                                        W2 h4 l4))))) ==
                                                                                          IntKind.wrap IntKind.i64
                                                                                            (IntKind.wrap IntKind.i64
                                                                                                (2 *
                                                                                                  off (W2 h1 l1)
                                                                                                    (W2 h2 l2)
                                                                                                    (W2 h3 l3)
                                                                                                    (W2 h4 l4)) +
                                                                                              1))
                                                                                        (Q (Value.bool true))
                                                                                        (Q (Value.bool false))))
                                                                                    (Q (Value.bool false)))
                                                                                  False)
                                                                                False)
                                                                              False)
                                                                            False))))))
                                                                False)
                                                              False)
                                                            False)
                                                          False)
                                                        False)))
                                                  False)
                                                False)
                                              False)
                                            False)
                                          False))
                                      False)
                                    False)
                                  False)
                                False)
                              False)
                            False)
                          False))))))))))))) := by kernel_rfl
theorem ok4_iff {h1 l1 h2 l2 h3 l3 h4 l4 : Int} (k1 : okW h1 l1 = true) (k2 : okW h2 l2 = true) (k3 : okW h3 l3 = true) (k4 : okW h4 l4 = true) : ok4 h1 l1 h2 l2 h3 l3 h4 l4 = true := by
  simp only [ok4, k1, k2, k3, k4, Bool.and_self]
theorem W2_bd {h l : Int} (k : okW h l = true) (g0 : -268435456 ≤ h) (g1 : h < 268435456) : -4951760157141521099596496896 ≤ W2 h l ∧ W2 h l < 4951760157141521099596496896 := by
  rw [okW_iff] at k; unfold W2; omega
theorem clamp_small {n : Int} (h0 : -99035203142830421991929937920 ≤ n) (h1 : n ≤ 99035203142830421991929937920) : clamp n = n := clamp_of (by unfold InR; omega)
theorem clip_or (n : Int) : (n < -9223372036854775808 ∧ clip n = -9223372036854775808) ∨ (9223372036854775807 < n ∧ clip n = 9223372036854775807) ∨ (-9223372036854775808 ≤ n ∧ n ≤ 9223372036854775807 ∧ clip n = n) := by unfold clip; omega
set_option maxHeartbeats 4000000 in
theorem moves_ok (h1 l1 h2 l2 h3 l3 h4 l4 h5 l5 b : Int) (k1 : okW h1 l1 = true) (k2 : okW h2 l2 = true) (k3 : okW h3 l3 = true) (k4 : okW h4 l4 = true) (k5 : okW h5 l5 = true) (kb : okI b = true) :
    ((ev envO 60).call [] 12 #[.agg #[.int .i64 h1, .int .u64 l1], .agg #[.int .i64 h2, .int .u64 l2], .agg #[.int .i64 h3, .int .u64 l3], .agg #[.int .i64 h4, .int .u64 l4], .agg #[.int .i64 h5, .int .u64 l5], .int .i64 b] [] B0).holds (fun r => r.v = .bool true) := by
  rw [moves_vc h1 l1 h2 l2 h3 l3 h4 l4 h5 l5 b (fun v => v = .bool true)]
  have kb' : okW (hi b) (lo b) = true := okW_hilo (by rw [okI_iff] at kb; unfold InR; omega)
  simp only [W2_hilo, k1, k2, k3, k4, k5, kb, kb', okW_clamp, ok4_iff, Bool.and_self, bcase_t]
  refine bcase_in (fun _ => trivial) fun a1 => bcase_in (fun _ => trivial) fun b1 => bcase_in (fun _ => trivial) fun a2 => bcase_in (fun _ => trivial) fun b2 => bcase_in (fun _ => trivial) fun a3 => bcase_in (fun _ => trivial) fun b3 =>
    bcase_in (fun _ => trivial) fun a4 => bcase_in (fun _ => trivial) fun b4 => bcase_in (fun _ => trivial) fun a5 => bcase_in (fun _ => trivial) fun b5 => bcase_in (fun _ => trivial) fun a6 => bcase_in (fun _ => trivial) fun b6 => ?_
  simp only [decide_eq_false_iff_not, ge_iff_le, gt_iff_lt, Int.not_le, Int.not_lt] at a1 b1 a2 b2 a3 b3 a4 b4 a5 b5 a6 b6
  have q1 := W2_bd k1 b1 a1; have q2 := W2_bd k2 b2 a2; have q3 := W2_bd k3 b3 a3; have q4 := W2_bd k4 b4 a4; have q5 := W2_bd k5 b5 a5
  generalize W2 h1 l1 = A at *; generalize W2 h2 l2 = B at *; generalize W2 h3 l3 = C at *; generalize W2 h4 l4 = D at *; generalize W2 h5 l5 = F at *
  clear a1 b1 a2 b2 a3 b3 a4 b4 a5 b5 k1 k2 k3 k4 k5 kb kb'
  have e1 : clamp (A + F) = A + F := clamp_small (by omega) (by omega)
  have e2 : clamp (B + F) = B + F := clamp_small (by omega) (by omega)
  have e3 : clamp (C + F) = C + F := clamp_small (by omega) (by omega)
  have e4 : clamp (D + F) = D + F := clamp_small (by omega) (by omega)
  have e5 : clamp (B + b) = B + b := clamp_small (by omega) (by omega)
  have e6 : clamp (C + b) = C + b := clamp_small (by omega) (by omega)
  have d1 : clamp (B - A) = B - A := clamp_small (by omega) (by omega)
  have d2 : clamp (C - D) = C - D := clamp_small (by omega) (by omega)
  have o1 : off A B C D = clip ((B - A + (C - D)) / 2) := by unfold off; rw [d1, d2, clamp_small (by omega) (by omega)]
  have o2 : off (A + F) (B + F) (C + F) (D + F) = off A B C D := by unfold off; rw [show B + F - (A + F) = B - A by omega, show C + F - (D + F) = C - D by omega]
  have o3 : off A (B + b) (C + b) D = clip ((B - A + (C - D)) / 2 + b) := by
    unfold off
    rw [clamp_small (n := B + b - A) (by omega) (by omega), clamp_small (n := C + b - D) (by omega) (by omega), clamp_small (by omega) (by omega)]
    congr 1; omega
  have p1 : del A B C D = clip ((D - A) - (C - B)) := by
    unfold del
    rw [clamp_small (n := D - A) (by omega) (by omega), clamp_small (n := C - B) (by omega) (by omega), clamp_small (by omega) (by omega)]
  have p2 : del (A + F) (B + F) (C + F) (D + F) = del A B C D := by unfold del; rw [show D + F - (A + F) = D - A by omega, show C + F - (B + F) = C - B by omega]
  have p3 : del A (B + b) (C + b) D = del A B C D := by unfold del; rw [show C + b - (B + b) = C - B by omega]
  simp only [e1, e2, e3, e4, e5, e6, d1, d2, o2, p2, p3, o3, bne_self_eq_false]
  rw [o1, p1]
  have c1 := clip_or ((B - A + (C - D)) / 2); have c2 := clip_or ((B - A + (C - D)) / 2 + b); have c3 := clip_or (D - A - (C - B)); have c4 := clip_or (B - A); have c5 := clip_or (C - D)
  generalize clip ((B - A + (C - D)) / 2) = x1 at *; generalize clip ((B - A + (C - D)) / 2 + b) = x2 at *; generalize clip (D - A - (C - B)) = x3 at *; generalize clip (B - A) = x4 at *; generalize clip (C - D) = x5 at *
  clear q1 q2 q3 q4 q5 e1 e2 e3 e4 e5 e6 d1 d2 o1 o2 o3 p1 p2 p3
  simp only [IntKind.wrap_i64]
  repeat' first | trivial | refine bcase_in (fun h => ?_) (fun h => ?_)
  all_goals (exfalso; simp only [decide_eq_true_eq, beq_iff_eq, bne_iff_ne, decide_eq_false_iff_not, beq_eq_false_iff_ne, ne_eq] at *)
  all_goals omega
theorem fixMoves_walk (a : Int) (ia : InR a) (b : Int) (ib : InR b) (c : Int) (ic : InR c) (d : Int) (id : InR d) (f : Int) (jf : InR f) (n : Int) (n0 : -9223372036854775808 ≤ n) (n1 : n ≤ 9223372036854775807) (w : World) :
    Calls Try.prog 12 #[.agg #[.int .i64 (hi a), .int .u64 (lo a)], .agg #[.int .i64 (hi b), .int .u64 (lo b)], .agg #[.int .i64 (hi c), .int .u64 (lo c)], .agg #[.int .i64 (hi d), .int .u64 (lo d)], .agg #[.int .i64 (hi f), .int .u64 (lo f)], .int .i64 n] w
      fun e w' => e = .returned (.bool true) ∧ Below w.heap.size w w' :=
  calls_spec envO hcokP 60 (moves_ok _ _ _ _ _ _ _ _ _ _ _ (okW_hilo ia) (okW_hilo ib) (okW_hilo ic) (okW_hilo id) (okW_hilo jf) (okI_iff.2 ⟨n0, n1⟩)) (all_bel rfl) rfl w
end
end Go.Proofs.Ytkmkdghfoogoiaa
