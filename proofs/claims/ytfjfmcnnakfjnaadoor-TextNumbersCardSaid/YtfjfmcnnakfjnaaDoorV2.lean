/-
  Own texts, merged: NumMA NumMB NumMC NumMD NumP NumQ NumW SumM TxA TxB TxC TxD TxE TxF NmA NmB UnA UnB UnC
-/
import Derived.Lib.ItoaNum
import Derived.Lib.ItoaMem
import Derived.Lib.Strings
import Derived.Lib.AppendIntMem
import Derived.BigCall
import Derived.BigGuard
import Derived.Laws.Concat
import Derived.Lib.OthersKept
import Derived.Laws.RangeAny
import Derived.Deep.MidRow
import Derived.Deep.WholeRow
import Derived.OwnWalk
import Derived.Test.YtfjfmcnnakfjnaaDoorV1


/-
  The rounds of the document's product, read one by one (0 to 4).
-/

namespace Go.Proofs.YtfjfmcnnakfjnaaDoor

open Go.Den Go.RowKit
noncomputable section
set_option maxRecDepth 100000

theorem mul_r0 (zs : List Value) (sa sb so : Bool) (a0 a1 a2 a3 a4 a5 a6 a7 a8 a9 a10 a11 a12 a13 a14 a15 a16 a17 a18 a19 b0 b1 b2 b3 b4 b5 b6 b7 b8 b9 b10 b11 b12 b13 b14 b15 b16 b17 b18 b19 o0 o1 o2 o3 o4 o5 o6 o7 o8 o9 o10 o11 o12 o13 o14 o15 o16 o17 o18 o19 : Int) : ((ev envS 100).code [] mulB (mulT 0 zs sa sb so [a0, a1, a2, a3, a4, a5, a6, a7, a8, a9, a10, a11, a12, a13, a14, a15, a16, a17, a18, a19] [b0, b1, b2, b3, b4, b5, b6, b7, b8, b9, b10, b11, b12, b13, b14, b15, b16, b17, b18, b19] [o0, o1, o2, o3, o4, o5, o6, o7, o8, o9, o10, o11, o12, o13, o14, o15, o16, o17, o18, o19])).run =
    some (.normal, mulT 1 (tlOf (outOf ((ev envS 100).code [] mulB (mulT 0 zs sa sb so [a0, a1, a2, a3, a4, a5, a6, a7, a8, a9, a10, a11, a12, a13, a14, a15, a16, a17, a18, a19] [b0, b1, b2, b3, b4, b5, b6, b7, b8, b9, b10, b11, b12, b13, b14, b15, b16, b17, b18, b19] [o0, o1, o2, o3, o4, o5, o6, o7, o8, o9, o10, o11, o12, o13, o14, o15, o16, o17, o18, o19]))).2) sa sb so [a0, a1, a2, a3, a4, a5, a6, a7, a8, a9, a10, a11, a12, a13, a14, a15, a16, a17, a18, a19] [b0, b1, b2, b3, b4, b5, b6, b7, b8, b9, b10, b11, b12, b13, b14, b15, b16, b17, b18, b19] (carry (mrow a0 0 [o0, o1, o2, o3, o4, o5, o6, o7, o8, o9, o10, o11, o12, o13, o14, o15, o16, o17, o18, o19] [b0, b1, b2, b3, b4, b5, b6, b7, b8, b9, b10, b11, b12, b13, b14, b15, b16, b17, b18, b19]))) := by kernel_rfl
theorem mul_r1 (zs : List Value) (sa sb so : Bool) (a0 a1 a2 a3 a4 a5 a6 a7 a8 a9 a10 a11 a12 a13 a14 a15 a16 a17 a18 a19 b0 b1 b2 b3 b4 b5 b6 b7 b8 b9 b10 b11 b12 b13 b14 b15 b16 b17 b18 b19 o0 o1 o2 o3 o4 o5 o6 o7 o8 o9 o10 o11 o12 o13 o14 o15 o16 o17 o18 o19 : Int) : ((ev envS 100).code [] mulB (mulT 1 zs sa sb so [a0, a1, a2, a3, a4, a5, a6, a7, a8, a9, a10, a11, a12, a13, a14, a15, a16, a17, a18, a19] [b0, b1, b2, b3, b4, b5, b6, b7, b8, b9, b10, b11, b12, b13, b14, b15, b16, b17, b18, b19] [o0, o1, o2, o3, o4, o5, o6, o7, o8, o9, o10, o11, o12, o13, o14, o15, o16, o17, o18, o19])).run =
    some (.normal, mulT 2 (tlOf (outOf ((ev envS 100).code [] mulB (mulT 1 zs sa sb so [a0, a1, a2, a3, a4, a5, a6, a7, a8, a9, a10, a11, a12, a13, a14, a15, a16, a17, a18, a19] [b0, b1, b2, b3, b4, b5, b6, b7, b8, b9, b10, b11, b12, b13, b14, b15, b16, b17, b18, b19] [o0, o1, o2, o3, o4, o5, o6, o7, o8, o9, o10, o11, o12, o13, o14, o15, o16, o17, o18, o19]))).2) sa sb so [a0, a1, a2, a3, a4, a5, a6, a7, a8, a9, a10, a11, a12, a13, a14, a15, a16, a17, a18, a19] [b0, b1, b2, b3, b4, b5, b6, b7, b8, b9, b10, b11, b12, b13, b14, b15, b16, b17, b18, b19] (carry (mrow a1 1 [o0, o1, o2, o3, o4, o5, o6, o7, o8, o9, o10, o11, o12, o13, o14, o15, o16, o17, o18, o19] [b0, b1, b2, b3, b4, b5, b6, b7, b8, b9, b10, b11, b12, b13, b14, b15, b16, b17, b18, b19]))) := by kernel_rfl
theorem mul_r2 (zs : List Value) (sa sb so : Bool) (a0 a1 a2 a3 a4 a5 a6 a7 a8 a9 a10 a11 a12 a13 a14 a15 a16 a17 a18 a19 b0 b1 b2 b3 b4 b5 b6 b7 b8 b9 b10 b11 b12 b13 b14 b15 b16 b17 b18 b19 o0 o1 o2 o3 o4 o5 o6 o7 o8 o9 o10 o11 o12 o13 o14 o15 o16 o17 o18 o19 : Int) : ((ev envS 100).code [] mulB (mulT 2 zs sa sb so [a0, a1, a2, a3, a4, a5, a6, a7, a8, a9, a10, a11, a12, a13, a14, a15, a16, a17, a18, a19] [b0, b1, b2, b3, b4, b5, b6, b7, b8, b9, b10, b11, b12, b13, b14, b15, b16, b17, b18, b19] [o0, o1, o2, o3, o4, o5, o6, o7, o8, o9, o10, o11, o12, o13, o14, o15, o16, o17, o18, o19])).run =
    some (.normal, mulT 3 (tlOf (outOf ((ev envS 100).code [] mulB (mulT 2 zs sa sb so [a0, a1, a2, a3, a4, a5, a6, a7, a8, a9, a10, a11, a12, a13, a14, a15, a16, a17, a18, a19] [b0, b1, b2, b3, b4, b5, b6, b7, b8, b9, b10, b11, b12, b13, b14, b15, b16, b17, b18, b19] [o0, o1, o2, o3, o4, o5, o6, o7, o8, o9, o10, o11, o12, o13, o14, o15, o16, o17, o18, o19]))).2) sa sb so [a0, a1, a2, a3, a4, a5, a6, a7, a8, a9, a10, a11, a12, a13, a14, a15, a16, a17, a18, a19] [b0, b1, b2, b3, b4, b5, b6, b7, b8, b9, b10, b11, b12, b13, b14, b15, b16, b17, b18, b19] (carry (mrow a2 2 [o0, o1, o2, o3, o4, o5, o6, o7, o8, o9, o10, o11, o12, o13, o14, o15, o16, o17, o18, o19] [b0, b1, b2, b3, b4, b5, b6, b7, b8, b9, b10, b11, b12, b13, b14, b15, b16, b17, b18, b19]))) := by kernel_rfl
theorem mul_r3 (zs : List Value) (sa sb so : Bool) (a0 a1 a2 a3 a4 a5 a6 a7 a8 a9 a10 a11 a12 a13 a14 a15 a16 a17 a18 a19 b0 b1 b2 b3 b4 b5 b6 b7 b8 b9 b10 b11 b12 b13 b14 b15 b16 b17 b18 b19 o0 o1 o2 o3 o4 o5 o6 o7 o8 o9 o10 o11 o12 o13 o14 o15 o16 o17 o18 o19 : Int) : ((ev envS 100).code [] mulB (mulT 3 zs sa sb so [a0, a1, a2, a3, a4, a5, a6, a7, a8, a9, a10, a11, a12, a13, a14, a15, a16, a17, a18, a19] [b0, b1, b2, b3, b4, b5, b6, b7, b8, b9, b10, b11, b12, b13, b14, b15, b16, b17, b18, b19] [o0, o1, o2, o3, o4, o5, o6, o7, o8, o9, o10, o11, o12, o13, o14, o15, o16, o17, o18, o19])).run =
    some (.normal, mulT 4 (tlOf (outOf ((ev envS 100).code [] mulB (mulT 3 zs sa sb so [a0, a1, a2, a3, a4, a5, a6, a7, a8, a9, a10, a11, a12, a13, a14, a15, a16, a17, a18, a19] [b0, b1, b2, b3, b4, b5, b6, b7, b8, b9, b10, b11, b12, b13, b14, b15, b16, b17, b18, b19] [o0, o1, o2, o3, o4, o5, o6, o7, o8, o9, o10, o11, o12, o13, o14, o15, o16, o17, o18, o19]))).2) sa sb so [a0, a1, a2, a3, a4, a5, a6, a7, a8, a9, a10, a11, a12, a13, a14, a15, a16, a17, a18, a19] [b0, b1, b2, b3, b4, b5, b6, b7, b8, b9, b10, b11, b12, b13, b14, b15, b16, b17, b18, b19] (carry (mrow a3 3 [o0, o1, o2, o3, o4, o5, o6, o7, o8, o9, o10, o11, o12, o13, o14, o15, o16, o17, o18, o19] [b0, b1, b2, b3, b4, b5, b6, b7, b8, b9, b10, b11, b12, b13, b14, b15, b16, b17, b18, b19]))) := by kernel_rfl
theorem mul_r4 (zs : List Value) (sa sb so : Bool) (a0 a1 a2 a3 a4 a5 a6 a7 a8 a9 a10 a11 a12 a13 a14 a15 a16 a17 a18 a19 b0 b1 b2 b3 b4 b5 b6 b7 b8 b9 b10 b11 b12 b13 b14 b15 b16 b17 b18 b19 o0 o1 o2 o3 o4 o5 o6 o7 o8 o9 o10 o11 o12 o13 o14 o15 o16 o17 o18 o19 : Int) : ((ev envS 100).code [] mulB (mulT 4 zs sa sb so [a0, a1, a2, a3, a4, a5, a6, a7, a8, a9, a10, a11, a12, a13, a14, a15, a16, a17, a18, a19] [b0, b1, b2, b3, b4, b5, b6, b7, b8, b9, b10, b11, b12, b13, b14, b15, b16, b17, b18, b19] [o0, o1, o2, o3, o4, o5, o6, o7, o8, o9, o10, o11, o12, o13, o14, o15, o16, o17, o18, o19])).run =
    some (.normal, mulT 5 (tlOf (outOf ((ev envS 100).code [] mulB (mulT 4 zs sa sb so [a0, a1, a2, a3, a4, a5, a6, a7, a8, a9, a10, a11, a12, a13, a14, a15, a16, a17, a18, a19] [b0, b1, b2, b3, b4, b5, b6, b7, b8, b9, b10, b11, b12, b13, b14, b15, b16, b17, b18, b19] [o0, o1, o2, o3, o4, o5, o6, o7, o8, o9, o10, o11, o12, o13, o14, o15, o16, o17, o18, o19]))).2) sa sb so [a0, a1, a2, a3, a4, a5, a6, a7, a8, a9, a10, a11, a12, a13, a14, a15, a16, a17, a18, a19] [b0, b1, b2, b3, b4, b5, b6, b7, b8, b9, b10, b11, b12, b13, b14, b15, b16, b17, b18, b19] (carry (mrow a4 4 [o0, o1, o2, o3, o4, o5, o6, o7, o8, o9, o10, o11, o12, o13, o14, o15, o16, o17, o18, o19] [b0, b1, b2, b3, b4, b5, b6, b7, b8, b9, b10, b11, b12, b13, b14, b15, b16, b17, b18, b19]))) := by kernel_rfl
end

end Go.Proofs.YtfjfmcnnakfjnaaDoor


/-
  The rounds of the document's product, read one by one (5 to 9).
-/

namespace Go.Proofs.YtfjfmcnnakfjnaaDoor

open Go.Den Go.RowKit
noncomputable section
set_option maxRecDepth 100000

theorem mul_r5 (zs : List Value) (sa sb so : Bool) (a0 a1 a2 a3 a4 a5 a6 a7 a8 a9 a10 a11 a12 a13 a14 a15 a16 a17 a18 a19 b0 b1 b2 b3 b4 b5 b6 b7 b8 b9 b10 b11 b12 b13 b14 b15 b16 b17 b18 b19 o0 o1 o2 o3 o4 o5 o6 o7 o8 o9 o10 o11 o12 o13 o14 o15 o16 o17 o18 o19 : Int) : ((ev envS 100).code [] mulB (mulT 5 zs sa sb so [a0, a1, a2, a3, a4, a5, a6, a7, a8, a9, a10, a11, a12, a13, a14, a15, a16, a17, a18, a19] [b0, b1, b2, b3, b4, b5, b6, b7, b8, b9, b10, b11, b12, b13, b14, b15, b16, b17, b18, b19] [o0, o1, o2, o3, o4, o5, o6, o7, o8, o9, o10, o11, o12, o13, o14, o15, o16, o17, o18, o19])).run =
    some (.normal, mulT 6 (tlOf (outOf ((ev envS 100).code [] mulB (mulT 5 zs sa sb so [a0, a1, a2, a3, a4, a5, a6, a7, a8, a9, a10, a11, a12, a13, a14, a15, a16, a17, a18, a19] [b0, b1, b2, b3, b4, b5, b6, b7, b8, b9, b10, b11, b12, b13, b14, b15, b16, b17, b18, b19] [o0, o1, o2, o3, o4, o5, o6, o7, o8, o9, o10, o11, o12, o13, o14, o15, o16, o17, o18, o19]))).2) sa sb so [a0, a1, a2, a3, a4, a5, a6, a7, a8, a9, a10, a11, a12, a13, a14, a15, a16, a17, a18, a19] [b0, b1, b2, b3, b4, b5, b6, b7, b8, b9, b10, b11, b12, b13, b14, b15, b16, b17, b18, b19] (carry (mrow a5 5 [o0, o1, o2, o3, o4, o5, o6, o7, o8, o9, o10, o11, o12, o13, o14, o15, o16, o17, o18, o19] [b0, b1, b2, b3, b4, b5, b6, b7, b8, b9, b10, b11, b12, b13, b14, b15, b16, b17, b18, b19]))) := by kernel_rfl
theorem mul_r6 (zs : List Value) (sa sb so : Bool) (a0 a1 a2 a3 a4 a5 a6 a7 a8 a9 a10 a11 a12 a13 a14 a15 a16 a17 a18 a19 b0 b1 b2 b3 b4 b5 b6 b7 b8 b9 b10 b11 b12 b13 b14 b15 b16 b17 b18 b19 o0 o1 o2 o3 o4 o5 o6 o7 o8 o9 o10 o11 o12 o13 o14 o15 o16 o17 o18 o19 : Int) : ((ev envS 100).code [] mulB (mulT 6 zs sa sb so [a0, a1, a2, a3, a4, a5, a6, a7, a8, a9, a10, a11, a12, a13, a14, a15, a16, a17, a18, a19] [b0, b1, b2, b3, b4, b5, b6, b7, b8, b9, b10, b11, b12, b13, b14, b15, b16, b17, b18, b19] [o0, o1, o2, o3, o4, o5, o6, o7, o8, o9, o10, o11, o12, o13, o14, o15, o16, o17, o18, o19])).run =
    some (.normal, mulT 7 (tlOf (outOf ((ev envS 100).code [] mulB (mulT 6 zs sa sb so [a0, a1, a2, a3, a4, a5, a6, a7, a8, a9, a10, a11, a12, a13, a14, a15, a16, a17, a18, a19] [b0, b1, b2, b3, b4, b5, b6, b7, b8, b9, b10, b11, b12, b13, b14, b15, b16, b17, b18, b19] [o0, o1, o2, o3, o4, o5, o6, o7, o8, o9, o10, o11, o12, o13, o14, o15, o16, o17, o18, o19]))).2) sa sb so [a0, a1, a2, a3, a4, a5, a6, a7, a8, a9, a10, a11, a12, a13, a14, a15, a16, a17, a18, a19] [b0, b1, b2, b3, b4, b5, b6, b7, b8, b9, b10, b11, b12, b13, b14, b15, b16, b17, b18, b19] (carry (mrow a6 6 [o0, o1, o2, o3, o4, o5, o6, o7, o8, o9, o10, o11, o12, o13, o14, o15, o16, o17, o18, o19] [b0, b1, b2, b3, b4, b5, b6, b7, b8, b9, b10, b11, b12, b13, b14, b15, b16, b17, b18, b19]))) := by kernel_rfl
theorem mul_r7 (zs : List Value) (sa sb so : Bool) (a0 a1 a2 a3 a4 a5 a6 a7 a8 a9 a10 a11 a12 a13 a14 a15 a16 a17 a18 a19 b0 b1 b2 b3 b4 b5 b6 b7 b8 b9 b10 b11 b12 b13 b14 b15 b16 b17 b18 b19 o0 o1 o2 o3 o4 o5 o6 o7 o8 o9 o10 o11 o12 o13 o14 o15 o16 o17 o18 o19 : Int) : ((ev envS 100).code [] mulB (mulT 7 zs sa sb so [a0, a1, a2, a3, a4, a5, a6, a7, a8, a9, a10, a11, a12, a13, a14, a15, a16, a17, a18, a19] [b0, b1, b2, b3, b4, b5, b6, b7, b8, b9, b10, b11, b12, b13, b14, b15, b16, b17, b18, b19] [o0, o1, o2, o3, o4, o5, o6, o7, o8, o9, o10, o11, o12, o13, o14, o15, o16, o17, o18, o19])).run =
    some (.normal, mulT 8 (tlOf (outOf ((ev envS 100).code [] mulB (mulT 7 zs sa sb so [a0, a1, a2, a3, a4, a5, a6, a7, a8, a9, a10, a11, a12, a13, a14, a15, a16, a17, a18, a19] [b0, b1, b2, b3, b4, b5, b6, b7, b8, b9, b10, b11, b12, b13, b14, b15, b16, b17, b18, b19] [o0, o1, o2, o3, o4, o5, o6, o7, o8, o9, o10, o11, o12, o13, o14, o15, o16, o17, o18, o19]))).2) sa sb so [a0, a1, a2, a3, a4, a5, a6, a7, a8, a9, a10, a11, a12, a13, a14, a15, a16, a17, a18, a19] [b0, b1, b2, b3, b4, b5, b6, b7, b8, b9, b10, b11, b12, b13, b14, b15, b16, b17, b18, b19] (carry (mrow a7 7 [o0, o1, o2, o3, o4, o5, o6, o7, o8, o9, o10, o11, o12, o13, o14, o15, o16, o17, o18, o19] [b0, b1, b2, b3, b4, b5, b6, b7, b8, b9, b10, b11, b12, b13, b14, b15, b16, b17, b18, b19]))) := by kernel_rfl
theorem mul_r8 (zs : List Value) (sa sb so : Bool) (a0 a1 a2 a3 a4 a5 a6 a7 a8 a9 a10 a11 a12 a13 a14 a15 a16 a17 a18 a19 b0 b1 b2 b3 b4 b5 b6 b7 b8 b9 b10 b11 b12 b13 b14 b15 b16 b17 b18 b19 o0 o1 o2 o3 o4 o5 o6 o7 o8 o9 o10 o11 o12 o13 o14 o15 o16 o17 o18 o19 : Int) : ((ev envS 100).code [] mulB (mulT 8 zs sa sb so [a0, a1, a2, a3, a4, a5, a6, a7, a8, a9, a10, a11, a12, a13, a14, a15, a16, a17, a18, a19] [b0, b1, b2, b3, b4, b5, b6, b7, b8, b9, b10, b11, b12, b13, b14, b15, b16, b17, b18, b19] [o0, o1, o2, o3, o4, o5, o6, o7, o8, o9, o10, o11, o12, o13, o14, o15, o16, o17, o18, o19])).run =
    some (.normal, mulT 9 (tlOf (outOf ((ev envS 100).code [] mulB (mulT 8 zs sa sb so [a0, a1, a2, a3, a4, a5, a6, a7, a8, a9, a10, a11, a12, a13, a14, a15, a16, a17, a18, a19] [b0, b1, b2, b3, b4, b5, b6, b7, b8, b9, b10, b11, b12, b13, b14, b15, b16, b17, b18, b19] [o0, o1, o2, o3, o4, o5, o6, o7, o8, o9, o10, o11, o12, o13, o14, o15, o16, o17, o18, o19]))).2) sa sb so [a0, a1, a2, a3, a4, a5, a6, a7, a8, a9, a10, a11, a12, a13, a14, a15, a16, a17, a18, a19] [b0, b1, b2, b3, b4, b5, b6, b7, b8, b9, b10, b11, b12, b13, b14, b15, b16, b17, b18, b19] (carry (mrow a8 8 [o0, o1, o2, o3, o4, o5, o6, o7, o8, o9, o10, o11, o12, o13, o14, o15, o16, o17, o18, o19] [b0, b1, b2, b3, b4, b5, b6, b7, b8, b9, b10, b11, b12, b13, b14, b15, b16, b17, b18, b19]))) := by kernel_rfl
theorem mul_r9 (zs : List Value) (sa sb so : Bool) (a0 a1 a2 a3 a4 a5 a6 a7 a8 a9 a10 a11 a12 a13 a14 a15 a16 a17 a18 a19 b0 b1 b2 b3 b4 b5 b6 b7 b8 b9 b10 b11 b12 b13 b14 b15 b16 b17 b18 b19 o0 o1 o2 o3 o4 o5 o6 o7 o8 o9 o10 o11 o12 o13 o14 o15 o16 o17 o18 o19 : Int) : ((ev envS 100).code [] mulB (mulT 9 zs sa sb so [a0, a1, a2, a3, a4, a5, a6, a7, a8, a9, a10, a11, a12, a13, a14, a15, a16, a17, a18, a19] [b0, b1, b2, b3, b4, b5, b6, b7, b8, b9, b10, b11, b12, b13, b14, b15, b16, b17, b18, b19] [o0, o1, o2, o3, o4, o5, o6, o7, o8, o9, o10, o11, o12, o13, o14, o15, o16, o17, o18, o19])).run =
    some (.normal, mulT 10 (tlOf (outOf ((ev envS 100).code [] mulB (mulT 9 zs sa sb so [a0, a1, a2, a3, a4, a5, a6, a7, a8, a9, a10, a11, a12, a13, a14, a15, a16, a17, a18, a19] [b0, b1, b2, b3, b4, b5, b6, b7, b8, b9, b10, b11, b12, b13, b14, b15, b16, b17, b18, b19] [o0, o1, o2, o3, o4, o5, o6, o7, o8, o9, o10, o11, o12, o13, o14, o15, o16, o17, o18, o19]))).2) sa sb so [a0, a1, a2, a3, a4, a5, a6, a7, a8, a9, a10, a11, a12, a13, a14, a15, a16, a17, a18, a19] [b0, b1, b2, b3, b4, b5, b6, b7, b8, b9, b10, b11, b12, b13, b14, b15, b16, b17, b18, b19] (carry (mrow a9 9 [o0, o1, o2, o3, o4, o5, o6, o7, o8, o9, o10, o11, o12, o13, o14, o15, o16, o17, o18, o19] [b0, b1, b2, b3, b4, b5, b6, b7, b8, b9, b10, b11, b12, b13, b14, b15, b16, b17, b18, b19]))) := by kernel_rfl
end

end Go.Proofs.YtfjfmcnnakfjnaaDoor


/-
  The rounds of the document's product, read one by one (10 to 14).
-/

namespace Go.Proofs.YtfjfmcnnakfjnaaDoor

open Go.Den Go.RowKit
noncomputable section
set_option maxRecDepth 100000

theorem mul_r10 (zs : List Value) (sa sb so : Bool) (a0 a1 a2 a3 a4 a5 a6 a7 a8 a9 a10 a11 a12 a13 a14 a15 a16 a17 a18 a19 b0 b1 b2 b3 b4 b5 b6 b7 b8 b9 b10 b11 b12 b13 b14 b15 b16 b17 b18 b19 o0 o1 o2 o3 o4 o5 o6 o7 o8 o9 o10 o11 o12 o13 o14 o15 o16 o17 o18 o19 : Int) : ((ev envS 100).code [] mulB (mulT 10 zs sa sb so [a0, a1, a2, a3, a4, a5, a6, a7, a8, a9, a10, a11, a12, a13, a14, a15, a16, a17, a18, a19] [b0, b1, b2, b3, b4, b5, b6, b7, b8, b9, b10, b11, b12, b13, b14, b15, b16, b17, b18, b19] [o0, o1, o2, o3, o4, o5, o6, o7, o8, o9, o10, o11, o12, o13, o14, o15, o16, o17, o18, o19])).run =
    some (.normal, mulT 11 (tlOf (outOf ((ev envS 100).code [] mulB (mulT 10 zs sa sb so [a0, a1, a2, a3, a4, a5, a6, a7, a8, a9, a10, a11, a12, a13, a14, a15, a16, a17, a18, a19] [b0, b1, b2, b3, b4, b5, b6, b7, b8, b9, b10, b11, b12, b13, b14, b15, b16, b17, b18, b19] [o0, o1, o2, o3, o4, o5, o6, o7, o8, o9, o10, o11, o12, o13, o14, o15, o16, o17, o18, o19]))).2) sa sb so [a0, a1, a2, a3, a4, a5, a6, a7, a8, a9, a10, a11, a12, a13, a14, a15, a16, a17, a18, a19] [b0, b1, b2, b3, b4, b5, b6, b7, b8, b9, b10, b11, b12, b13, b14, b15, b16, b17, b18, b19] (carry (mrow a10 10 [o0, o1, o2, o3, o4, o5, o6, o7, o8, o9, o10, o11, o12, o13, o14, o15, o16, o17, o18, o19] [b0, b1, b2, b3, b4, b5, b6, b7, b8, b9, b10, b11, b12, b13, b14, b15, b16, b17, b18, b19]))) := by kernel_rfl
theorem mul_r11 (zs : List Value) (sa sb so : Bool) (a0 a1 a2 a3 a4 a5 a6 a7 a8 a9 a10 a11 a12 a13 a14 a15 a16 a17 a18 a19 b0 b1 b2 b3 b4 b5 b6 b7 b8 b9 b10 b11 b12 b13 b14 b15 b16 b17 b18 b19 o0 o1 o2 o3 o4 o5 o6 o7 o8 o9 o10 o11 o12 o13 o14 o15 o16 o17 o18 o19 : Int) : ((ev envS 100).code [] mulB (mulT 11 zs sa sb so [a0, a1, a2, a3, a4, a5, a6, a7, a8, a9, a10, a11, a12, a13, a14, a15, a16, a17, a18, a19] [b0, b1, b2, b3, b4, b5, b6, b7, b8, b9, b10, b11, b12, b13, b14, b15, b16, b17, b18, b19] [o0, o1, o2, o3, o4, o5, o6, o7, o8, o9, o10, o11, o12, o13, o14, o15, o16, o17, o18, o19])).run =
    some (.normal, mulT 12 (tlOf (outOf ((ev envS 100).code [] mulB (mulT 11 zs sa sb so [a0, a1, a2, a3, a4, a5, a6, a7, a8, a9, a10, a11, a12, a13, a14, a15, a16, a17, a18, a19] [b0, b1, b2, b3, b4, b5, b6, b7, b8, b9, b10, b11, b12, b13, b14, b15, b16, b17, b18, b19] [o0, o1, o2, o3, o4, o5, o6, o7, o8, o9, o10, o11, o12, o13, o14, o15, o16, o17, o18, o19]))).2) sa sb so [a0, a1, a2, a3, a4, a5, a6, a7, a8, a9, a10, a11, a12, a13, a14, a15, a16, a17, a18, a19] [b0, b1, b2, b3, b4, b5, b6, b7, b8, b9, b10, b11, b12, b13, b14, b15, b16, b17, b18, b19] (carry (mrow a11 11 [o0, o1, o2, o3, o4, o5, o6, o7, o8, o9, o10, o11, o12, o13, o14, o15, o16, o17, o18, o19] [b0, b1, b2, b3, b4, b5, b6, b7, b8, b9, b10, b11, b12, b13, b14, b15, b16, b17, b18, b19]))) := by kernel_rfl
theorem mul_r12 (zs : List Value) (sa sb so : Bool) (a0 a1 a2 a3 a4 a5 a6 a7 a8 a9 a10 a11 a12 a13 a14 a15 a16 a17 a18 a19 b0 b1 b2 b3 b4 b5 b6 b7 b8 b9 b10 b11 b12 b13 b14 b15 b16 b17 b18 b19 o0 o1 o2 o3 o4 o5 o6 o7 o8 o9 o10 o11 o12 o13 o14 o15 o16 o17 o18 o19 : Int) : ((ev envS 100).code [] mulB (mulT 12 zs sa sb so [a0, a1, a2, a3, a4, a5, a6, a7, a8, a9, a10, a11, a12, a13, a14, a15, a16, a17, a18, a19] [b0, b1, b2, b3, b4, b5, b6, b7, b8, b9, b10, b11, b12, b13, b14, b15, b16, b17, b18, b19] [o0, o1, o2, o3, o4, o5, o6, o7, o8, o9, o10, o11, o12, o13, o14, o15, o16, o17, o18, o19])).run =
    some (.normal, mulT 13 (tlOf (outOf ((ev envS 100).code [] mulB (mulT 12 zs sa sb so [a0, a1, a2, a3, a4, a5, a6, a7, a8, a9, a10, a11, a12, a13, a14, a15, a16, a17, a18, a19] [b0, b1, b2, b3, b4, b5, b6, b7, b8, b9, b10, b11, b12, b13, b14, b15, b16, b17, b18, b19] [o0, o1, o2, o3, o4, o5, o6, o7, o8, o9, o10, o11, o12, o13, o14, o15, o16, o17, o18, o19]))).2) sa sb so [a0, a1, a2, a3, a4, a5, a6, a7, a8, a9, a10, a11, a12, a13, a14, a15, a16, a17, a18, a19] [b0, b1, b2, b3, b4, b5, b6, b7, b8, b9, b10, b11, b12, b13, b14, b15, b16, b17, b18, b19] (carry (mrow a12 12 [o0, o1, o2, o3, o4, o5, o6, o7, o8, o9, o10, o11, o12, o13, o14, o15, o16, o17, o18, o19] [b0, b1, b2, b3, b4, b5, b6, b7, b8, b9, b10, b11, b12, b13, b14, b15, b16, b17, b18, b19]))) := by kernel_rfl
theorem mul_r13 (zs : List Value) (sa sb so : Bool) (a0 a1 a2 a3 a4 a5 a6 a7 a8 a9 a10 a11 a12 a13 a14 a15 a16 a17 a18 a19 b0 b1 b2 b3 b4 b5 b6 b7 b8 b9 b10 b11 b12 b13 b14 b15 b16 b17 b18 b19 o0 o1 o2 o3 o4 o5 o6 o7 o8 o9 o10 o11 o12 o13 o14 o15 o16 o17 o18 o19 : Int) : ((ev envS 100).code [] mulB (mulT 13 zs sa sb so [a0, a1, a2, a3, a4, a5, a6, a7, a8, a9, a10, a11, a12, a13, a14, a15, a16, a17, a18, a19] [b0, b1, b2, b3, b4, b5, b6, b7, b8, b9, b10, b11, b12, b13, b14, b15, b16, b17, b18, b19] [o0, o1, o2, o3, o4, o5, o6, o7, o8, o9, o10, o11, o12, o13, o14, o15, o16, o17, o18, o19])).run =
    some (.normal, mulT 14 (tlOf (outOf ((ev envS 100).code [] mulB (mulT 13 zs sa sb so [a0, a1, a2, a3, a4, a5, a6, a7, a8, a9, a10, a11, a12, a13, a14, a15, a16, a17, a18, a19] [b0, b1, b2, b3, b4, b5, b6, b7, b8, b9, b10, b11, b12, b13, b14, b15, b16, b17, b18, b19] [o0, o1, o2, o3, o4, o5, o6, o7, o8, o9, o10, o11, o12, o13, o14, o15, o16, o17, o18, o19]))).2) sa sb so [a0, a1, a2, a3, a4, a5, a6, a7, a8, a9, a10, a11, a12, a13, a14, a15, a16, a17, a18, a19] [b0, b1, b2, b3, b4, b5, b6, b7, b8, b9, b10, b11, b12, b13, b14, b15, b16, b17, b18, b19] (carry (mrow a13 13 [o0, o1, o2, o3, o4, o5, o6, o7, o8, o9, o10, o11, o12, o13, o14, o15, o16, o17, o18, o19] [b0, b1, b2, b3, b4, b5, b6, b7, b8, b9, b10, b11, b12, b13, b14, b15, b16, b17, b18, b19]))) := by kernel_rfl
theorem mul_r14 (zs : List Value) (sa sb so : Bool) (a0 a1 a2 a3 a4 a5 a6 a7 a8 a9 a10 a11 a12 a13 a14 a15 a16 a17 a18 a19 b0 b1 b2 b3 b4 b5 b6 b7 b8 b9 b10 b11 b12 b13 b14 b15 b16 b17 b18 b19 o0 o1 o2 o3 o4 o5 o6 o7 o8 o9 o10 o11 o12 o13 o14 o15 o16 o17 o18 o19 : Int) : ((ev envS 100).code [] mulB (mulT 14 zs sa sb so [a0, a1, a2, a3, a4, a5, a6, a7, a8, a9, a10, a11, a12, a13, a14, a15, a16, a17, a18, a19] [b0, b1, b2, b3, b4, b5, b6, b7, b8, b9, b10, b11, b12, b13, b14, b15, b16, b17, b18, b19] [o0, o1, o2, o3, o4, o5, o6, o7, o8, o9, o10, o11, o12, o13, o14, o15, o16, o17, o18, o19])).run =
    some (.normal, mulT 15 (tlOf (outOf ((ev envS 100).code [] mulB (mulT 14 zs sa sb so [a0, a1, a2, a3, a4, a5, a6, a7, a8, a9, a10, a11, a12, a13, a14, a15, a16, a17, a18, a19] [b0, b1, b2, b3, b4, b5, b6, b7, b8, b9, b10, b11, b12, b13, b14, b15, b16, b17, b18, b19] [o0, o1, o2, o3, o4, o5, o6, o7, o8, o9, o10, o11, o12, o13, o14, o15, o16, o17, o18, o19]))).2) sa sb so [a0, a1, a2, a3, a4, a5, a6, a7, a8, a9, a10, a11, a12, a13, a14, a15, a16, a17, a18, a19] [b0, b1, b2, b3, b4, b5, b6, b7, b8, b9, b10, b11, b12, b13, b14, b15, b16, b17, b18, b19] (carry (mrow a14 14 [o0, o1, o2, o3, o4, o5, o6, o7, o8, o9, o10, o11, o12, o13, o14, o15, o16, o17, o18, o19] [b0, b1, b2, b3, b4, b5, b6, b7, b8, b9, b10, b11, b12, b13, b14, b15, b16, b17, b18, b19]))) := by kernel_rfl
end

end Go.Proofs.YtfjfmcnnakfjnaaDoor


/-
  The rounds of the document's product, read one by one (15 to 19).
-/

namespace Go.Proofs.YtfjfmcnnakfjnaaDoor

open Go.Den Go.RowKit
noncomputable section
set_option maxRecDepth 100000

theorem mul_r15 (zs : List Value) (sa sb so : Bool) (a0 a1 a2 a3 a4 a5 a6 a7 a8 a9 a10 a11 a12 a13 a14 a15 a16 a17 a18 a19 b0 b1 b2 b3 b4 b5 b6 b7 b8 b9 b10 b11 b12 b13 b14 b15 b16 b17 b18 b19 o0 o1 o2 o3 o4 o5 o6 o7 o8 o9 o10 o11 o12 o13 o14 o15 o16 o17 o18 o19 : Int) : ((ev envS 100).code [] mulB (mulT 15 zs sa sb so [a0, a1, a2, a3, a4, a5, a6, a7, a8, a9, a10, a11, a12, a13, a14, a15, a16, a17, a18, a19] [b0, b1, b2, b3, b4, b5, b6, b7, b8, b9, b10, b11, b12, b13, b14, b15, b16, b17, b18, b19] [o0, o1, o2, o3, o4, o5, o6, o7, o8, o9, o10, o11, o12, o13, o14, o15, o16, o17, o18, o19])).run =
    some (.normal, mulT 16 (tlOf (outOf ((ev envS 100).code [] mulB (mulT 15 zs sa sb so [a0, a1, a2, a3, a4, a5, a6, a7, a8, a9, a10, a11, a12, a13, a14, a15, a16, a17, a18, a19] [b0, b1, b2, b3, b4, b5, b6, b7, b8, b9, b10, b11, b12, b13, b14, b15, b16, b17, b18, b19] [o0, o1, o2, o3, o4, o5, o6, o7, o8, o9, o10, o11, o12, o13, o14, o15, o16, o17, o18, o19]))).2) sa sb so [a0, a1, a2, a3, a4, a5, a6, a7, a8, a9, a10, a11, a12, a13, a14, a15, a16, a17, a18, a19] [b0, b1, b2, b3, b4, b5, b6, b7, b8, b9, b10, b11, b12, b13, b14, b15, b16, b17, b18, b19] (carry (mrow a15 15 [o0, o1, o2, o3, o4, o5, o6, o7, o8, o9, o10, o11, o12, o13, o14, o15, o16, o17, o18, o19] [b0, b1, b2, b3, b4, b5, b6, b7, b8, b9, b10, b11, b12, b13, b14, b15, b16, b17, b18, b19]))) := by kernel_rfl
theorem mul_r16 (zs : List Value) (sa sb so : Bool) (a0 a1 a2 a3 a4 a5 a6 a7 a8 a9 a10 a11 a12 a13 a14 a15 a16 a17 a18 a19 b0 b1 b2 b3 b4 b5 b6 b7 b8 b9 b10 b11 b12 b13 b14 b15 b16 b17 b18 b19 o0 o1 o2 o3 o4 o5 o6 o7 o8 o9 o10 o11 o12 o13 o14 o15 o16 o17 o18 o19 : Int) : ((ev envS 100).code [] mulB (mulT 16 zs sa sb so [a0, a1, a2, a3, a4, a5, a6, a7, a8, a9, a10, a11, a12, a13, a14, a15, a16, a17, a18, a19] [b0, b1, b2, b3, b4, b5, b6, b7, b8, b9, b10, b11, b12, b13, b14, b15, b16, b17, b18, b19] [o0, o1, o2, o3, o4, o5, o6, o7, o8, o9, o10, o11, o12, o13, o14, o15, o16, o17, o18, o19])).run =
    some (.normal, mulT 17 (tlOf (outOf ((ev envS 100).code [] mulB (mulT 16 zs sa sb so [a0, a1, a2, a3, a4, a5, a6, a7, a8, a9, a10, a11, a12, a13, a14, a15, a16, a17, a18, a19] [b0, b1, b2, b3, b4, b5, b6, b7, b8, b9, b10, b11, b12, b13, b14, b15, b16, b17, b18, b19] [o0, o1, o2, o3, o4, o5, o6, o7, o8, o9, o10, o11, o12, o13, o14, o15, o16, o17, o18, o19]))).2) sa sb so [a0, a1, a2, a3, a4, a5, a6, a7, a8, a9, a10, a11, a12, a13, a14, a15, a16, a17, a18, a19] [b0, b1, b2, b3, b4, b5, b6, b7, b8, b9, b10, b11, b12, b13, b14, b15, b16, b17, b18, b19] (carry (mrow a16 16 [o0, o1, o2, o3, o4, o5, o6, o7, o8, o9, o10, o11, o12, o13, o14, o15, o16, o17, o18, o19] [b0, b1, b2, b3, b4, b5, b6, b7, b8, b9, b10, b11, b12, b13, b14, b15, b16, b17, b18, b19]))) := by kernel_rfl
theorem mul_r17 (zs : List Value) (sa sb so : Bool) (a0 a1 a2 a3 a4 a5 a6 a7 a8 a9 a10 a11 a12 a13 a14 a15 a16 a17 a18 a19 b0 b1 b2 b3 b4 b5 b6 b7 b8 b9 b10 b11 b12 b13 b14 b15 b16 b17 b18 b19 o0 o1 o2 o3 o4 o5 o6 o7 o8 o9 o10 o11 o12 o13 o14 o15 o16 o17 o18 o19 : Int) : ((ev envS 100).code [] mulB (mulT 17 zs sa sb so [a0, a1, a2, a3, a4, a5, a6, a7, a8, a9, a10, a11, a12, a13, a14, a15, a16, a17, a18, a19] [b0, b1, b2, b3, b4, b5, b6, b7, b8, b9, b10, b11, b12, b13, b14, b15, b16, b17, b18, b19] [o0, o1, o2, o3, o4, o5, o6, o7, o8, o9, o10, o11, o12, o13, o14, o15, o16, o17, o18, o19])).run =
    some (.normal, mulT 18 (tlOf (outOf ((ev envS 100).code [] mulB (mulT 17 zs sa sb so [a0, a1, a2, a3, a4, a5, a6, a7, a8, a9, a10, a11, a12, a13, a14, a15, a16, a17, a18, a19] [b0, b1, b2, b3, b4, b5, b6, b7, b8, b9, b10, b11, b12, b13, b14, b15, b16, b17, b18, b19] [o0, o1, o2, o3, o4, o5, o6, o7, o8, o9, o10, o11, o12, o13, o14, o15, o16, o17, o18, o19]))).2) sa sb so [a0, a1, a2, a3, a4, a5, a6, a7, a8, a9, a10, a11, a12, a13, a14, a15, a16, a17, a18, a19] [b0, b1, b2, b3, b4, b5, b6, b7, b8, b9, b10, b11, b12, b13, b14, b15, b16, b17, b18, b19] (carry (mrow a17 17 [o0, o1, o2, o3, o4, o5, o6, o7, o8, o9, o10, o11, o12, o13, o14, o15, o16, o17, o18, o19] [b0, b1, b2, b3, b4, b5, b6, b7, b8, b9, b10, b11, b12, b13, b14, b15, b16, b17, b18, b19]))) := by kernel_rfl
theorem mul_r18 (zs : List Value) (sa sb so : Bool) (a0 a1 a2 a3 a4 a5 a6 a7 a8 a9 a10 a11 a12 a13 a14 a15 a16 a17 a18 a19 b0 b1 b2 b3 b4 b5 b6 b7 b8 b9 b10 b11 b12 b13 b14 b15 b16 b17 b18 b19 o0 o1 o2 o3 o4 o5 o6 o7 o8 o9 o10 o11 o12 o13 o14 o15 o16 o17 o18 o19 : Int) : ((ev envS 100).code [] mulB (mulT 18 zs sa sb so [a0, a1, a2, a3, a4, a5, a6, a7, a8, a9, a10, a11, a12, a13, a14, a15, a16, a17, a18, a19] [b0, b1, b2, b3, b4, b5, b6, b7, b8, b9, b10, b11, b12, b13, b14, b15, b16, b17, b18, b19] [o0, o1, o2, o3, o4, o5, o6, o7, o8, o9, o10, o11, o12, o13, o14, o15, o16, o17, o18, o19])).run =
    some (.normal, mulT 19 (tlOf (outOf ((ev envS 100).code [] mulB (mulT 18 zs sa sb so [a0, a1, a2, a3, a4, a5, a6, a7, a8, a9, a10, a11, a12, a13, a14, a15, a16, a17, a18, a19] [b0, b1, b2, b3, b4, b5, b6, b7, b8, b9, b10, b11, b12, b13, b14, b15, b16, b17, b18, b19] [o0, o1, o2, o3, o4, o5, o6, o7, o8, o9, o10, o11, o12, o13, o14, o15, o16, o17, o18, o19]))).2) sa sb so [a0, a1, a2, a3, a4, a5, a6, a7, a8, a9, a10, a11, a12, a13, a14, a15, a16, a17, a18, a19] [b0, b1, b2, b3, b4, b5, b6, b7, b8, b9, b10, b11, b12, b13, b14, b15, b16, b17, b18, b19] (carry (mrow a18 18 [o0, o1, o2, o3, o4, o5, o6, o7, o8, o9, o10, o11, o12, o13, o14, o15, o16, o17, o18, o19] [b0, b1, b2, b3, b4, b5, b6, b7, b8, b9, b10, b11, b12, b13, b14, b15, b16, b17, b18, b19]))) := by kernel_rfl
theorem mul_r19 (zs : List Value) (sa sb so : Bool) (a0 a1 a2 a3 a4 a5 a6 a7 a8 a9 a10 a11 a12 a13 a14 a15 a16 a17 a18 a19 b0 b1 b2 b3 b4 b5 b6 b7 b8 b9 b10 b11 b12 b13 b14 b15 b16 b17 b18 b19 o0 o1 o2 o3 o4 o5 o6 o7 o8 o9 o10 o11 o12 o13 o14 o15 o16 o17 o18 o19 : Int) : ((ev envS 100).code [] mulB (mulT 19 zs sa sb so [a0, a1, a2, a3, a4, a5, a6, a7, a8, a9, a10, a11, a12, a13, a14, a15, a16, a17, a18, a19] [b0, b1, b2, b3, b4, b5, b6, b7, b8, b9, b10, b11, b12, b13, b14, b15, b16, b17, b18, b19] [o0, o1, o2, o3, o4, o5, o6, o7, o8, o9, o10, o11, o12, o13, o14, o15, o16, o17, o18, o19])).run =
    some (.normal, mulT 20 (tlOf (outOf ((ev envS 100).code [] mulB (mulT 19 zs sa sb so [a0, a1, a2, a3, a4, a5, a6, a7, a8, a9, a10, a11, a12, a13, a14, a15, a16, a17, a18, a19] [b0, b1, b2, b3, b4, b5, b6, b7, b8, b9, b10, b11, b12, b13, b14, b15, b16, b17, b18, b19] [o0, o1, o2, o3, o4, o5, o6, o7, o8, o9, o10, o11, o12, o13, o14, o15, o16, o17, o18, o19]))).2) sa sb so [a0, a1, a2, a3, a4, a5, a6, a7, a8, a9, a10, a11, a12, a13, a14, a15, a16, a17, a18, a19] [b0, b1, b2, b3, b4, b5, b6, b7, b8, b9, b10, b11, b12, b13, b14, b15, b16, b17, b18, b19] (carry (mrow a19 19 [o0, o1, o2, o3, o4, o5, o6, o7, o8, o9, o10, o11, o12, o13, o14, o15, o16, o17, o18, o19] [b0, b1, b2, b3, b4, b5, b6, b7, b8, b9, b10, b11, b12, b13, b14, b15, b16, b17, b18, b19]))) := by kernel_rfl
end

end Go.Proofs.YtfjfmcnnakfjnaaDoor


/-
  The document's product, put together of its rounds.
-/




namespace Go.Proofs.YtfjfmcnnakfjnaaDoor

open Go.Den Go.RowKit
noncomputable section
set_option maxRecDepth 100000

theorem mulB_ok : cok mulB = true := by kernel_rfl
theorem mulL_eq : mulL = .loop mulB := by kernel_rfl
theorem addRow_len (x : Int) : ∀ os ys : List Int, (addRow x os ys).length = os.length
  | [], _ => rfl
  | o :: os, [] => rfl
  | o :: os, y :: ys => by show (addRow x os ys).length + 1 = _; rw [addRow_len x os ys, List.length_cons]
theorem mrow_len (x : Int) : ∀ (i : Nat) (os ys : List Int), (mrow x i os ys).length = os.length
  | 0, os, ys => addRow_len x os ys
  | i + 1, [], ys => rfl
  | i + 1, o :: os, ys => by show (mrow x i os ys).length + 1 = _; rw [mrow_len x i os ys, List.length_cons]
theorem carryGo_len : ∀ (r : List Int) (o : Int), (carryGo r o).length = r.length + 1
  | [], _ => rfl
  | p :: r, o => by show (carryGo r _).length + 1 = _; rw [carryGo_len r, List.length_cons]
theorem carry_len (os : List Int) : (carry os).length = os.length := by
  cases os with
  | nil => rfl
  | cons o r => exact carryGo_len r o
theorem mul_end (zs : List Value) (sa sb so : Bool) (a b o : List Int) : ((ev envS 100).code [] mulB (mulT 20 zs sa sb so a b o)).run =
    some (.exit 0, mulT 20 (tlOf (outOf ((ev envS 100).code [] mulB (mulT 20 zs sa sb so a b o))).2) sa sb so a b o) := by kernel_rfl
section

variable (sa sb so : Bool) (a0 a1 a2 a3 a4 a5 a6 a7 a8 a9 a10 a11 a12 a13 a14 a15 a16 a17 a18 a19 b0 b1 b2 b3 b4 b5 b6 b7 b8 b9 b10 b11 b12 b13 b14 b15 b16 b17 b18 b19 : Int)

theorem mul_f20 (zs : List Value) (o : List Int) (_ : o.length = 20) : ∃ zs', SatCode Tryd.prog [] mulL (mulT 20 zs sa sb so [a0, a1, a2, a3, a4, a5, a6, a7, a8, a9, a10, a11, a12, a13, a14, a15, a16, a17, a18, a19] [b0, b1, b2, b3, b4, b5, b6, b7, b8, b9, b10, b11, b12, b13, b14, b15, b16, b17, b18, b19] o) (.exit 0) (mulT 20 zs' sa sb so [a0, a1, a2, a3, a4, a5, a6, a7, a8, a9, a10, a11, a12, a13, a14, a15, a16, a17, a18, a19] [b0, b1, b2, b3, b4, b5, b6, b7, b8, b9, b10, b11, b12, b13, b14, b15, b16, b17, b18, b19] (mulGo [b0, b1, b2, b3, b4, b5, b6, b7, b8, b9, b10, b11, b12, b13, b14, b15, b16, b17, b18, b19] [] 20 o)) :=
  ⟨_, sat_loop_exit mulL_eq (sat_read envS hcokP 100 mulB_ok (mul_end zs sa sb so [a0, a1, a2, a3, a4, a5, a6, a7, a8, a9, a10, a11, a12, a13, a14, a15, a16, a17, a18, a19] [b0, b1, b2, b3, b4, b5, b6, b7, b8, b9, b10, b11, b12, b13, b14, b15, b16, b17, b18, b19] o))⟩
theorem mul_f19 (zs : List Value) (o : List Int) (ho : o.length = 20) : ∃ zs', SatCode Tryd.prog [] mulL (mulT 19 zs sa sb so [a0, a1, a2, a3, a4, a5, a6, a7, a8, a9, a10, a11, a12, a13, a14, a15, a16, a17, a18, a19] [b0, b1, b2, b3, b4, b5, b6, b7, b8, b9, b10, b11, b12, b13, b14, b15, b16, b17, b18, b19] o) (.exit 0) (mulT 20 zs' sa sb so [a0, a1, a2, a3, a4, a5, a6, a7, a8, a9, a10, a11, a12, a13, a14, a15, a16, a17, a18, a19] [b0, b1, b2, b3, b4, b5, b6, b7, b8, b9, b10, b11, b12, b13, b14, b15, b16, b17, b18, b19] (mulGo [b0, b1, b2, b3, b4, b5, b6, b7, b8, b9, b10, b11, b12, b13, b14, b15, b16, b17, b18, b19] [a19] 19 o)) := by
  obtain ⟨z, h⟩ := mul_f20 sa sb so a0 a1 a2 a3 a4 a5 a6 a7 a8 a9 a10 a11 a12 a13 a14 a15 a16 a17 a18 a19 b0 b1 b2 b3 b4 b5 b6 b7 b8 b9 b10 b11 b12 b13 b14 b15 b16 b17 b18 b19 (tlOf (outOf ((ev envS 100).code [] mulB (mulT 19 zs sa sb so [a0, a1, a2, a3, a4, a5, a6, a7, a8, a9, a10, a11, a12, a13, a14, a15, a16, a17, a18, a19] [b0, b1, b2, b3, b4, b5, b6, b7, b8, b9, b10, b11, b12, b13, b14, b15, b16, b17, b18, b19] o))).2) (carry (mrow a19 19 o [b0, b1, b2, b3, b4, b5, b6, b7, b8, b9, b10, b11, b12, b13, b14, b15, b16, b17, b18, b19])) (by rw [carry_len, mrow_len, ho])
  refine ⟨z, sat_loop mulL_eq ?_ h⟩
  obtain ⟨o0, o1, o2, o3, o4, o5, o6, o7, o8, o9, o10, o11, o12, o13, o14, o15, o16, o17, o18, o19, rfl⟩ := list20 ho
  exact sat_read envS hcokP 100 mulB_ok (mul_r19 zs sa sb so a0 a1 a2 a3 a4 a5 a6 a7 a8 a9 a10 a11 a12 a13 a14 a15 a16 a17 a18 a19 b0 b1 b2 b3 b4 b5 b6 b7 b8 b9 b10 b11 b12 b13 b14 b15 b16 b17 b18 b19 o0 o1 o2 o3 o4 o5 o6 o7 o8 o9 o10 o11 o12 o13 o14 o15 o16 o17 o18 o19)
theorem mul_f18 (zs : List Value) (o : List Int) (ho : o.length = 20) : ∃ zs', SatCode Tryd.prog [] mulL (mulT 18 zs sa sb so [a0, a1, a2, a3, a4, a5, a6, a7, a8, a9, a10, a11, a12, a13, a14, a15, a16, a17, a18, a19] [b0, b1, b2, b3, b4, b5, b6, b7, b8, b9, b10, b11, b12, b13, b14, b15, b16, b17, b18, b19] o) (.exit 0) (mulT 20 zs' sa sb so [a0, a1, a2, a3, a4, a5, a6, a7, a8, a9, a10, a11, a12, a13, a14, a15, a16, a17, a18, a19] [b0, b1, b2, b3, b4, b5, b6, b7, b8, b9, b10, b11, b12, b13, b14, b15, b16, b17, b18, b19] (mulGo [b0, b1, b2, b3, b4, b5, b6, b7, b8, b9, b10, b11, b12, b13, b14, b15, b16, b17, b18, b19] [a18, a19] 18 o)) := by
  obtain ⟨z, h⟩ := mul_f19 sa sb so a0 a1 a2 a3 a4 a5 a6 a7 a8 a9 a10 a11 a12 a13 a14 a15 a16 a17 a18 a19 b0 b1 b2 b3 b4 b5 b6 b7 b8 b9 b10 b11 b12 b13 b14 b15 b16 b17 b18 b19 (tlOf (outOf ((ev envS 100).code [] mulB (mulT 18 zs sa sb so [a0, a1, a2, a3, a4, a5, a6, a7, a8, a9, a10, a11, a12, a13, a14, a15, a16, a17, a18, a19] [b0, b1, b2, b3, b4, b5, b6, b7, b8, b9, b10, b11, b12, b13, b14, b15, b16, b17, b18, b19] o))).2) (carry (mrow a18 18 o [b0, b1, b2, b3, b4, b5, b6, b7, b8, b9, b10, b11, b12, b13, b14, b15, b16, b17, b18, b19])) (by rw [carry_len, mrow_len, ho])
  refine ⟨z, sat_loop mulL_eq ?_ h⟩
  obtain ⟨o0, o1, o2, o3, o4, o5, o6, o7, o8, o9, o10, o11, o12, o13, o14, o15, o16, o17, o18, o19, rfl⟩ := list20 ho
  exact sat_read envS hcokP 100 mulB_ok (mul_r18 zs sa sb so a0 a1 a2 a3 a4 a5 a6 a7 a8 a9 a10 a11 a12 a13 a14 a15 a16 a17 a18 a19 b0 b1 b2 b3 b4 b5 b6 b7 b8 b9 b10 b11 b12 b13 b14 b15 b16 b17 b18 b19 o0 o1 o2 o3 o4 o5 o6 o7 o8 o9 o10 o11 o12 o13 o14 o15 o16 o17 o18 o19)
theorem mul_f17 (zs : List Value) (o : List Int) (ho : o.length = 20) : ∃ zs', SatCode Tryd.prog [] mulL (mulT 17 zs sa sb so [a0, a1, a2, a3, a4, a5, a6, a7, a8, a9, a10, a11, a12, a13, a14, a15, a16, a17, a18, a19] [b0, b1, b2, b3, b4, b5, b6, b7, b8, b9, b10, b11, b12, b13, b14, b15, b16, b17, b18, b19] o) (.exit 0) (mulT 20 zs' sa sb so [a0, a1, a2, a3, a4, a5, a6, a7, a8, a9, a10, a11, a12, a13, a14, a15, a16, a17, a18, a19] [b0, b1, b2, b3, b4, b5, b6, b7, b8, b9, b10, b11, b12, b13, b14, b15, b16, b17, b18, b19] (mulGo [b0, b1, b2, b3, b4, b5, b6, b7, b8, b9, b10, b11, b12, b13, b14, b15, b16, b17, b18, b19] [a17, a18, a19] 17 o)) := by
  obtain ⟨z, h⟩ := mul_f18 sa sb so a0 a1 a2 a3 a4 a5 a6 a7 a8 a9 a10 a11 a12 a13 a14 a15 a16 a17 a18 a19 b0 b1 b2 b3 b4 b5 b6 b7 b8 b9 b10 b11 b12 b13 b14 b15 b16 b17 b18 b19 (tlOf (outOf ((ev envS 100).code [] mulB (mulT 17 zs sa sb so [a0, a1, a2, a3, a4, a5, a6, a7, a8, a9, a10, a11, a12, a13, a14, a15, a16, a17, a18, a19] [b0, b1, b2, b3, b4, b5, b6, b7, b8, b9, b10, b11, b12, b13, b14, b15, b16, b17, b18, b19] o))).2) (carry (mrow a17 17 o [b0, b1, b2, b3, b4, b5, b6, b7, b8, b9, b10, b11, b12, b13, b14, b15, b16, b17, b18, b19])) (by rw [carry_len, mrow_len, ho])
  refine ⟨z, sat_loop mulL_eq ?_ h⟩
  obtain ⟨o0, o1, o2, o3, o4, o5, o6, o7, o8, o9, o10, o11, o12, o13, o14, o15, o16, o17, o18, o19, rfl⟩ := list20 ho
  exact sat_read envS hcokP 100 mulB_ok (mul_r17 zs sa sb so a0 a1 a2 a3 a4 a5 a6 a7 a8 a9 a10 a11 a12 a13 a14 a15 a16 a17 a18 a19 b0 b1 b2 b3 b4 b5 b6 b7 b8 b9 b10 b11 b12 b13 b14 b15 b16 b17 b18 b19 o0 o1 o2 o3 o4 o5 o6 o7 o8 o9 o10 o11 o12 o13 o14 o15 o16 o17 o18 o19)
theorem mul_f16 (zs : List Value) (o : List Int) (ho : o.length = 20) : ∃ zs', SatCode Tryd.prog [] mulL (mulT 16 zs sa sb so [a0, a1, a2, a3, a4, a5, a6, a7, a8, a9, a10, a11, a12, a13, a14, a15, a16, a17, a18, a19] [b0, b1, b2, b3, b4, b5, b6, b7, b8, b9, b10, b11, b12, b13, b14, b15, b16, b17, b18, b19] o) (.exit 0) (mulT 20 zs' sa sb so [a0, a1, a2, a3, a4, a5, a6, a7, a8, a9, a10, a11, a12, a13, a14, a15, a16, a17, a18, a19] [b0, b1, b2, b3, b4, b5, b6, b7, b8, b9, b10, b11, b12, b13, b14, b15, b16, b17, b18, b19] (mulGo [b0, b1, b2, b3, b4, b5, b6, b7, b8, b9, b10, b11, b12, b13, b14, b15, b16, b17, b18, b19] [a16, a17, a18, a19] 16 o)) := by
  obtain ⟨z, h⟩ := mul_f17 sa sb so a0 a1 a2 a3 a4 a5 a6 a7 a8 a9 a10 a11 a12 a13 a14 a15 a16 a17 a18 a19 b0 b1 b2 b3 b4 b5 b6 b7 b8 b9 b10 b11 b12 b13 b14 b15 b16 b17 b18 b19 (tlOf (outOf ((ev envS 100).code [] mulB (mulT 16 zs sa sb so [a0, a1, a2, a3, a4, a5, a6, a7, a8, a9, a10, a11, a12, a13, a14, a15, a16, a17, a18, a19] [b0, b1, b2, b3, b4, b5, b6, b7, b8, b9, b10, b11, b12, b13, b14, b15, b16, b17, b18, b19] o))).2) (carry (mrow a16 16 o [b0, b1, b2, b3, b4, b5, b6, b7, b8, b9, b10, b11, b12, b13, b14, b15, b16, b17, b18, b19])) (by rw [carry_len, mrow_len, ho])
  refine ⟨z, sat_loop mulL_eq ?_ h⟩
  obtain ⟨o0, o1, o2, o3, o4, o5, o6, o7, o8, o9, o10, o11, o12, o13, o14, o15, o16, o17, o18, o19, rfl⟩ := list20 ho
  exact sat_read envS hcokP 100 mulB_ok (mul_r16 zs sa sb so a0 a1 a2 a3 a4 a5 a6 a7 a8 a9 a10 a11 a12 a13 a14 a15 a16 a17 a18 a19 b0 b1 b2 b3 b4 b5 b6 b7 b8 b9 b10 b11 b12 b13 b14 b15 b16 b17 b18 b19 o0 o1 o2 o3 o4 o5 o6 o7 o8 o9 o10 o11 o12 o13 o14 o15 o16 o17 o18 o19)
theorem mul_f15 (zs : List Value) (o : List Int) (ho : o.length = 20) : ∃ zs', SatCode Tryd.prog [] mulL (mulT 15 zs sa sb so [a0, a1, a2, a3, a4, a5, a6, a7, a8, a9, a10, a11, a12, a13, a14, a15, a16, a17, a18, a19] [b0, b1, b2, b3, b4, b5, b6, b7, b8, b9, b10, b11, b12, b13, b14, b15, b16, b17, b18, b19] o) (.exit 0) (mulT 20 zs' sa sb so [a0, a1, a2, a3, a4, a5, a6, a7, a8, a9, a10, a11, a12, a13, a14, a15, a16, a17, a18, a19] [b0, b1, b2, b3, b4, b5, b6, b7, b8, b9, b10, b11, b12, b13, b14, b15, b16, b17, b18, b19] (mulGo [b0, b1, b2, b3, b4, b5, b6, b7, b8, b9, b10, b11, b12, b13, b14, b15, b16, b17, b18, b19] [a15, a16, a17, a18, a19] 15 o)) := by
  obtain ⟨z, h⟩ := mul_f16 sa sb so a0 a1 a2 a3 a4 a5 a6 a7 a8 a9 a10 a11 a12 a13 a14 a15 a16 a17 a18 a19 b0 b1 b2 b3 b4 b5 b6 b7 b8 b9 b10 b11 b12 b13 b14 b15 b16 b17 b18 b19 (tlOf (outOf ((ev envS 100).code [] mulB (mulT 15 zs sa sb so [a0, a1, a2, a3, a4, a5, a6, a7, a8, a9, a10, a11, a12, a13, a14, a15, a16, a17, a18, a19] [b0, b1, b2, b3, b4, b5, b6, b7, b8, b9, b10, b11, b12, b13, b14, b15, b16, b17, b18, b19] o))).2) (carry (mrow a15 15 o [b0, b1, b2, b3, b4, b5, b6, b7, b8, b9, b10, b11, b12, b13, b14, b15, b16, b17, b18, b19])) (by rw [carry_len, mrow_len, ho])
  refine ⟨z, sat_loop mulL_eq ?_ h⟩
  obtain ⟨o0, o1, o2, o3, o4, o5, o6, o7, o8, o9, o10, o11, o12, o13, o14, o15, o16, o17, o18, o19, rfl⟩ := list20 ho
  exact sat_read envS hcokP 100 mulB_ok (mul_r15 zs sa sb so a0 a1 a2 a3 a4 a5 a6 a7 a8 a9 a10 a11 a12 a13 a14 a15 a16 a17 a18 a19 b0 b1 b2 b3 b4 b5 b6 b7 b8 b9 b10 b11 b12 b13 b14 b15 b16 b17 b18 b19 o0 o1 o2 o3 o4 o5 o6 o7 o8 o9 o10 o11 o12 o13 o14 o15 o16 o17 o18 o19)
theorem mul_f14 (zs : List Value) (o : List Int) (ho : o.length = 20) : ∃ zs', SatCode Tryd.prog [] mulL (mulT 14 zs sa sb so [a0, a1, a2, a3, a4, a5, a6, a7, a8, a9, a10, a11, a12, a13, a14, a15, a16, a17, a18, a19] [b0, b1, b2, b3, b4, b5, b6, b7, b8, b9, b10, b11, b12, b13, b14, b15, b16, b17, b18, b19] o) (.exit 0) (mulT 20 zs' sa sb so [a0, a1, a2, a3, a4, a5, a6, a7, a8, a9, a10, a11, a12, a13, a14, a15, a16, a17, a18, a19] [b0, b1, b2, b3, b4, b5, b6, b7, b8, b9, b10, b11, b12, b13, b14, b15, b16, b17, b18, b19] (mulGo [b0, b1, b2, b3, b4, b5, b6, b7, b8, b9, b10, b11, b12, b13, b14, b15, b16, b17, b18, b19] [a14, a15, a16, a17, a18, a19] 14 o)) := by
  obtain ⟨z, h⟩ := mul_f15 sa sb so a0 a1 a2 a3 a4 a5 a6 a7 a8 a9 a10 a11 a12 a13 a14 a15 a16 a17 a18 a19 b0 b1 b2 b3 b4 b5 b6 b7 b8 b9 b10 b11 b12 b13 b14 b15 b16 b17 b18 b19 (tlOf (outOf ((ev envS 100).code [] mulB (mulT 14 zs sa sb so [a0, a1, a2, a3, a4, a5, a6, a7, a8, a9, a10, a11, a12, a13, a14, a15, a16, a17, a18, a19] [b0, b1, b2, b3, b4, b5, b6, b7, b8, b9, b10, b11, b12, b13, b14, b15, b16, b17, b18, b19] o))).2) (carry (mrow a14 14 o [b0, b1, b2, b3, b4, b5, b6, b7, b8, b9, b10, b11, b12, b13, b14, b15, b16, b17, b18, b19])) (by rw [carry_len, mrow_len, ho])
  refine ⟨z, sat_loop mulL_eq ?_ h⟩
  obtain ⟨o0, o1, o2, o3, o4, o5, o6, o7, o8, o9, o10, o11, o12, o13, o14, o15, o16, o17, o18, o19, rfl⟩ := list20 ho
  exact sat_read envS hcokP 100 mulB_ok (mul_r14 zs sa sb so a0 a1 a2 a3 a4 a5 a6 a7 a8 a9 a10 a11 a12 a13 a14 a15 a16 a17 a18 a19 b0 b1 b2 b3 b4 b5 b6 b7 b8 b9 b10 b11 b12 b13 b14 b15 b16 b17 b18 b19 o0 o1 o2 o3 o4 o5 o6 o7 o8 o9 o10 o11 o12 o13 o14 o15 o16 o17 o18 o19)
theorem mul_f13 (zs : List Value) (o : List Int) (ho : o.length = 20) : ∃ zs', SatCode Tryd.prog [] mulL (mulT 13 zs sa sb so [a0, a1, a2, a3, a4, a5, a6, a7, a8, a9, a10, a11, a12, a13, a14, a15, a16, a17, a18, a19] [b0, b1, b2, b3, b4, b5, b6, b7, b8, b9, b10, b11, b12, b13, b14, b15, b16, b17, b18, b19] o) (.exit 0) (mulT 20 zs' sa sb so [a0, a1, a2, a3, a4, a5, a6, a7, a8, a9, a10, a11, a12, a13, a14, a15, a16, a17, a18, a19] [b0, b1, b2, b3, b4, b5, b6, b7, b8, b9, b10, b11, b12, b13, b14, b15, b16, b17, b18, b19] (mulGo [b0, b1, b2, b3, b4, b5, b6, b7, b8, b9, b10, b11, b12, b13, b14, b15, b16, b17, b18, b19] [a13, a14, a15, a16, a17, a18, a19] 13 o)) := by
  obtain ⟨z, h⟩ := mul_f14 sa sb so a0 a1 a2 a3 a4 a5 a6 a7 a8 a9 a10 a11 a12 a13 a14 a15 a16 a17 a18 a19 b0 b1 b2 b3 b4 b5 b6 b7 b8 b9 b10 b11 b12 b13 b14 b15 b16 b17 b18 b19 (tlOf (outOf ((ev envS 100).code [] mulB (mulT 13 zs sa sb so [a0, a1, a2, a3, a4, a5, a6, a7, a8, a9, a10, a11, a12, a13, a14, a15, a16, a17, a18, a19] [b0, b1, b2, b3, b4, b5, b6, b7, b8, b9, b10, b11, b12, b13, b14, b15, b16, b17, b18, b19] o))).2) (carry (mrow a13 13 o [b0, b1, b2, b3, b4, b5, b6, b7, b8, b9, b10, b11, b12, b13, b14, b15, b16, b17, b18, b19])) (by rw [carry_len, mrow_len, ho])
  refine ⟨z, sat_loop mulL_eq ?_ h⟩
  obtain ⟨o0, o1, o2, o3, o4, o5, o6, o7, o8, o9, o10, o11, o12, o13, o14, o15, o16, o17, o18, o19, rfl⟩ := list20 ho
  exact sat_read envS hcokP 100 mulB_ok (mul_r13 zs sa sb so a0 a1 a2 a3 a4 a5 a6 a7 a8 a9 a10 a11 a12 a13 a14 a15 a16 a17 a18 a19 b0 b1 b2 b3 b4 b5 b6 b7 b8 b9 b10 b11 b12 b13 b14 b15 b16 b17 b18 b19 o0 o1 o2 o3 o4 o5 o6 o7 o8 o9 o10 o11 o12 o13 o14 o15 o16 o17 o18 o19)
theorem mul_f12 (zs : List Value) (o : List Int) (ho : o.length = 20) : ∃ zs', SatCode Tryd.prog [] mulL (mulT 12 zs sa sb so [a0, a1, a2, a3, a4, a5, a6, a7, a8, a9, a10, a11, a12, a13, a14, a15, a16, a17, a18, a19] [b0, b1, b2, b3, b4, b5, b6, b7, b8, b9, b10, b11, b12, b13, b14, b15, b16, b17, b18, b19] o) (.exit 0) (mulT 20 zs' sa sb so [a0, a1, a2, a3, a4, a5, a6, a7, a8, a9, a10, a11, a12, a13, a14, a15, a16, a17, a18, a19] [b0, b1, b2, b3, b4, b5, b6, b7, b8, b9, b10, b11, b12, b13, b14, b15, b16, b17, b18, b19] (mulGo [b0, b1, b2, b3, b4, b5, b6, b7, b8, b9, b10, b11, b12, b13, b14, b15, b16, b17, b18, b19] [a12, a13, a14, a15, a16, a17, a18, a19] 12 o)) := by
  obtain ⟨z, h⟩ := mul_f13 sa sb so a0 a1 a2 a3 a4 a5 a6 a7 a8 a9 a10 a11 a12 a13 a14 a15 a16 a17 a18 a19 b0 b1 b2 b3 b4 b5 b6 b7 b8 b9 b10 b11 b12 b13 b14 b15 b16 b17 b18 b19 (tlOf (outOf ((ev envS 100).code [] mulB (mulT 12 zs sa sb so [a0, a1, a2, a3, a4, a5, a6, a7, a8, a9, a10, a11, a12, a13, a14, a15, a16, a17, a18, a19] [b0, b1, b2, b3, b4, b5, b6, b7, b8, b9, b10, b11, b12, b13, b14, b15, b16, b17, b18, b19] o))).2) (carry (mrow a12 12 o [b0, b1, b2, b3, b4, b5, b6, b7, b8, b9, b10, b11, b12, b13, b14, b15, b16, b17, b18, b19])) (by rw [carry_len, mrow_len, ho])
  refine ⟨z, sat_loop mulL_eq ?_ h⟩
  obtain ⟨o0, o1, o2, o3, o4, o5, o6, o7, o8, o9, o10, o11, o12, o13, o14, o15, o16, o17, o18, o19, rfl⟩ := list20 ho
  exact sat_read envS hcokP 100 mulB_ok (mul_r12 zs sa sb so a0 a1 a2 a3 a4 a5 a6 a7 a8 a9 a10 a11 a12 a13 a14 a15 a16 a17 a18 a19 b0 b1 b2 b3 b4 b5 b6 b7 b8 b9 b10 b11 b12 b13 b14 b15 b16 b17 b18 b19 o0 o1 o2 o3 o4 o5 o6 o7 o8 o9 o10 o11 o12 o13 o14 o15 o16 o17 o18 o19)
theorem mul_f11 (zs : List Value) (o : List Int) (ho : o.length = 20) : ∃ zs', SatCode Tryd.prog [] mulL (mulT 11 zs sa sb so [a0, a1, a2, a3, a4, a5, a6, a7, a8, a9, a10, a11, a12, a13, a14, a15, a16, a17, a18, a19] [b0, b1, b2, b3, b4, b5, b6, b7, b8, b9, b10, b11, b12, b13, b14, b15, b16, b17, b18, b19] o) (.exit 0) (mulT 20 zs' sa sb so [a0, a1, a2, a3, a4, a5, a6, a7, a8, a9, a10, a11, a12, a13, a14, a15, a16, a17, a18, a19] [b0, b1, b2, b3, b4, b5, b6, b7, b8, b9, b10, b11, b12, b13, b14, b15, b16, b17, b18, b19] (mulGo [b0, b1, b2, b3, b4, b5, b6, b7, b8, b9, b10, b11, b12, b13, b14, b15, b16, b17, b18, b19] [a11, a12, a13, a14, a15, a16, a17, a18, a19] 11 o)) := by
  obtain ⟨z, h⟩ := mul_f12 sa sb so a0 a1 a2 a3 a4 a5 a6 a7 a8 a9 a10 a11 a12 a13 a14 a15 a16 a17 a18 a19 b0 b1 b2 b3 b4 b5 b6 b7 b8 b9 b10 b11 b12 b13 b14 b15 b16 b17 b18 b19 (tlOf (outOf ((ev envS 100).code [] mulB (mulT 11 zs sa sb so [a0, a1, a2, a3, a4, a5, a6, a7, a8, a9, a10, a11, a12, a13, a14, a15, a16, a17, a18, a19] [b0, b1, b2, b3, b4, b5, b6, b7, b8, b9, b10, b11, b12, b13, b14, b15, b16, b17, b18, b19] o))).2) (carry (mrow a11 11 o [b0, b1, b2, b3, b4, b5, b6, b7, b8, b9, b10, b11, b12, b13, b14, b15, b16, b17, b18, b19])) (by rw [carry_len, mrow_len, ho])
  refine ⟨z, sat_loop mulL_eq ?_ h⟩
  obtain ⟨o0, o1, o2, o3, o4, o5, o6, o7, o8, o9, o10, o11, o12, o13, o14, o15, o16, o17, o18, o19, rfl⟩ := list20 ho
  exact sat_read envS hcokP 100 mulB_ok (mul_r11 zs sa sb so a0 a1 a2 a3 a4 a5 a6 a7 a8 a9 a10 a11 a12 a13 a14 a15 a16 a17 a18 a19 b0 b1 b2 b3 b4 b5 b6 b7 b8 b9 b10 b11 b12 b13 b14 b15 b16 b17 b18 b19 o0 o1 o2 o3 o4 o5 o6 o7 o8 o9 o10 o11 o12 o13 o14 o15 o16 o17 o18 o19)
theorem mul_f10 (zs : List Value) (o : List Int) (ho : o.length = 20) : ∃ zs', SatCode Tryd.prog [] mulL (mulT 10 zs sa sb so [a0, a1, a2, a3, a4, a5, a6, a7, a8, a9, a10, a11, a12, a13, a14, a15, a16, a17, a18, a19] [b0, b1, b2, b3, b4, b5, b6, b7, b8, b9, b10, b11, b12, b13, b14, b15, b16, b17, b18, b19] o) (.exit 0) (mulT 20 zs' sa sb so [a0, a1, a2, a3, a4, a5, a6, a7, a8, a9, a10, a11, a12, a13, a14, a15, a16, a17, a18, a19] [b0, b1, b2, b3, b4, b5, b6, b7, b8, b9, b10, b11, b12, b13, b14, b15, b16, b17, b18, b19] (mulGo [b0, b1, b2, b3, b4, b5, b6, b7, b8, b9, b10, b11, b12, b13, b14, b15, b16, b17, b18, b19] [a10, a11, a12, a13, a14, a15, a16, a17, a18, a19] 10 o)) := by
  obtain ⟨z, h⟩ := mul_f11 sa sb so a0 a1 a2 a3 a4 a5 a6 a7 a8 a9 a10 a11 a12 a13 a14 a15 a16 a17 a18 a19 b0 b1 b2 b3 b4 b5 b6 b7 b8 b9 b10 b11 b12 b13 b14 b15 b16 b17 b18 b19 (tlOf (outOf ((ev envS 100).code [] mulB (mulT 10 zs sa sb so [a0, a1, a2, a3, a4, a5, a6, a7, a8, a9, a10, a11, a12, a13, a14, a15, a16, a17, a18, a19] [b0, b1, b2, b3, b4, b5, b6, b7, b8, b9, b10, b11, b12, b13, b14, b15, b16, b17, b18, b19] o))).2) (carry (mrow a10 10 o [b0, b1, b2, b3, b4, b5, b6, b7, b8, b9, b10, b11, b12, b13, b14, b15, b16, b17, b18, b19])) (by rw [carry_len, mrow_len, ho])
  refine ⟨z, sat_loop mulL_eq ?_ h⟩
  obtain ⟨o0, o1, o2, o3, o4, o5, o6, o7, o8, o9, o10, o11, o12, o13, o14, o15, o16, o17, o18, o19, rfl⟩ := list20 ho
  exact sat_read envS hcokP 100 mulB_ok (mul_r10 zs sa sb so a0 a1 a2 a3 a4 a5 a6 a7 a8 a9 a10 a11 a12 a13 a14 a15 a16 a17 a18 a19 b0 b1 b2 b3 b4 b5 b6 b7 b8 b9 b10 b11 b12 b13 b14 b15 b16 b17 b18 b19 o0 o1 o2 o3 o4 o5 o6 o7 o8 o9 o10 o11 o12 o13 o14 o15 o16 o17 o18 o19)
theorem mul_f9 (zs : List Value) (o : List Int) (ho : o.length = 20) : ∃ zs', SatCode Tryd.prog [] mulL (mulT 9 zs sa sb so [a0, a1, a2, a3, a4, a5, a6, a7, a8, a9, a10, a11, a12, a13, a14, a15, a16, a17, a18, a19] [b0, b1, b2, b3, b4, b5, b6, b7, b8, b9, b10, b11, b12, b13, b14, b15, b16, b17, b18, b19] o) (.exit 0) (mulT 20 zs' sa sb so [a0, a1, a2, a3, a4, a5, a6, a7, a8, a9, a10, a11, a12, a13, a14, a15, a16, a17, a18, a19] [b0, b1, b2, b3, b4, b5, b6, b7, b8, b9, b10, b11, b12, b13, b14, b15, b16, b17, b18, b19] (mulGo [b0, b1, b2, b3, b4, b5, b6, b7, b8, b9, b10, b11, b12, b13, b14, b15, b16, b17, b18, b19] [a9, a10, a11, a12, a13, a14, a15, a16, a17, a18, a19] 9 o)) := by
  obtain ⟨z, h⟩ := mul_f10 sa sb so a0 a1 a2 a3 a4 a5 a6 a7 a8 a9 a10 a11 a12 a13 a14 a15 a16 a17 a18 a19 b0 b1 b2 b3 b4 b5 b6 b7 b8 b9 b10 b11 b12 b13 b14 b15 b16 b17 b18 b19 (tlOf (outOf ((ev envS 100).code [] mulB (mulT 9 zs sa sb so [a0, a1, a2, a3, a4, a5, a6, a7, a8, a9, a10, a11, a12, a13, a14, a15, a16, a17, a18, a19] [b0, b1, b2, b3, b4, b5, b6, b7, b8, b9, b10, b11, b12, b13, b14, b15, b16, b17, b18, b19] o))).2) (carry (mrow a9 9 o [b0, b1, b2, b3, b4, b5, b6, b7, b8, b9, b10, b11, b12, b13, b14, b15, b16, b17, b18, b19])) (by rw [carry_len, mrow_len, ho])
  refine ⟨z, sat_loop mulL_eq ?_ h⟩
  obtain ⟨o0, o1, o2, o3, o4, o5, o6, o7, o8, o9, o10, o11, o12, o13, o14, o15, o16, o17, o18, o19, rfl⟩ := list20 ho
  exact sat_read envS hcokP 100 mulB_ok (mul_r9 zs sa sb so a0 a1 a2 a3 a4 a5 a6 a7 a8 a9 a10 a11 a12 a13 a14 a15 a16 a17 a18 a19 b0 b1 b2 b3 b4 b5 b6 b7 b8 b9 b10 b11 b12 b13 b14 b15 b16 b17 b18 b19 o0 o1 o2 o3 o4 o5 o6 o7 o8 o9 o10 o11 o12 o13 o14 o15 o16 o17 o18 o19)
theorem mul_f8 (zs : List Value) (o : List Int) (ho : o.length = 20) : ∃ zs', SatCode Tryd.prog [] mulL (mulT 8 zs sa sb so [a0, a1, a2, a3, a4, a5, a6, a7, a8, a9, a10, a11, a12, a13, a14, a15, a16, a17, a18, a19] [b0, b1, b2, b3, b4, b5, b6, b7, b8, b9, b10, b11, b12, b13, b14, b15, b16, b17, b18, b19] o) (.exit 0) (mulT 20 zs' sa sb so [a0, a1, a2, a3, a4, a5, a6, a7, a8, a9, a10, a11, a12, a13, a14, a15, a16, a17, a18, a19] [b0, b1, b2, b3, b4, b5, b6, b7, b8, b9, b10, b11, b12, b13, b14, b15, b16, b17, b18, b19] (mulGo [b0, b1, b2, b3, b4, b5, b6, b7, b8, b9, b10, b11, b12, b13, b14, b15, b16, b17, b18, b19] [a8, a9, a10, a11, a12, a13, a14, a15, a16, a17, a18, a19] 8 o)) := by
  obtain ⟨z, h⟩ := mul_f9 sa sb so a0 a1 a2 a3 a4 a5 a6 a7 a8 a9 a10 a11 a12 a13 a14 a15 a16 a17 a18 a19 b0 b1 b2 b3 b4 b5 b6 b7 b8 b9 b10 b11 b12 b13 b14 b15 b16 b17 b18 b19 (tlOf (outOf ((ev envS 100).code [] mulB (mulT 8 zs sa sb so [a0, a1, a2, a3, a4, a5, a6, a7, a8, a9, a10, a11, a12, a13, a14, a15, a16, a17, a18, a19] [b0, b1, b2, b3, b4, b5, b6, b7, b8, b9, b10, b11, b12, b13, b14, b15, b16, b17, b18, b19] o))).2) (carry (mrow a8 8 o [b0, b1, b2, b3, b4, b5, b6, b7, b8, b9, b10, b11, b12, b13, b14, b15, b16, b17, b18, b19])) (by rw [carry_len, mrow_len, ho])
  refine ⟨z, sat_loop mulL_eq ?_ h⟩
  obtain ⟨o0, o1, o2, o3, o4, o5, o6, o7, o8, o9, o10, o11, o12, o13, o14, o15, o16, o17, o18, o19, rfl⟩ := list20 ho
  exact sat_read envS hcokP 100 mulB_ok (mul_r8 zs sa sb so a0 a1 a2 a3 a4 a5 a6 a7 a8 a9 a10 a11 a12 a13 a14 a15 a16 a17 a18 a19 b0 b1 b2 b3 b4 b5 b6 b7 b8 b9 b10 b11 b12 b13 b14 b15 b16 b17 b18 b19 o0 o1 o2 o3 o4 o5 o6 o7 o8 o9 o10 o11 o12 o13 o14 o15 o16 o17 o18 o19)
theorem mul_f7 (zs : List Value) (o : List Int) (ho : o.length = 20) : ∃ zs', SatCode Tryd.prog [] mulL (mulT 7 zs sa sb so [a0, a1, a2, a3, a4, a5, a6, a7, a8, a9, a10, a11, a12, a13, a14, a15, a16, a17, a18, a19] [b0, b1, b2, b3, b4, b5, b6, b7, b8, b9, b10, b11, b12, b13, b14, b15, b16, b17, b18, b19] o) (.exit 0) (mulT 20 zs' sa sb so [a0, a1, a2, a3, a4, a5, a6, a7, a8, a9, a10, a11, a12, a13, a14, a15, a16, a17, a18, a19] [b0, b1, b2, b3, b4, b5, b6, b7, b8, b9, b10, b11, b12, b13, b14, b15, b16, b17, b18, b19] (mulGo [b0, b1, b2, b3, b4, b5, b6, b7, b8, b9, b10, b11, b12, b13, b14, b15, b16, b17, b18, b19] [a7, a8, a9, a10, a11, a12, a13, a14, a15, a16, a17, a18, a19] 7 o)) := by
  obtain ⟨z, h⟩ := mul_f8 sa sb so a0 a1 a2 a3 a4 a5 a6 a7 a8 a9 a10 a11 a12 a13 a14 a15 a16 a17 a18 a19 b0 b1 b2 b3 b4 b5 b6 b7 b8 b9 b10 b11 b12 b13 b14 b15 b16 b17 b18 b19 (tlOf (outOf ((ev envS 100).code [] mulB (mulT 7 zs sa sb so [a0, a1, a2, a3, a4, a5, a6, a7, a8, a9, a10, a11, a12, a13, a14, a15, a16, a17, a18, a19] [b0, b1, b2, b3, b4, b5, b6, b7, b8, b9, b10, b11, b12, b13, b14, b15, b16, b17, b18, b19] o))).2) (carry (mrow a7 7 o [b0, b1, b2, b3, b4, b5, b6, b7, b8, b9, b10, b11, b12, b13, b14, b15, b16, b17, b18, b19])) (by rw [carry_len, mrow_len, ho])
  refine ⟨z, sat_loop mulL_eq ?_ h⟩
  obtain ⟨o0, o1, o2, o3, o4, o5, o6, o7, o8, o9, o10, o11, o12, o13, o14, o15, o16, o17, o18, o19, rfl⟩ := list20 ho
  exact sat_read envS hcokP 100 mulB_ok (mul_r7 zs sa sb so a0 a1 a2 a3 a4 a5 a6 a7 a8 a9 a10 a11 a12 a13 a14 a15 a16 a17 a18 a19 b0 b1 b2 b3 b4 b5 b6 b7 b8 b9 b10 b11 b12 b13 b14 b15 b16 b17 b18 b19 o0 o1 o2 o3 o4 o5 o6 o7 o8 o9 o10 o11 o12 o13 o14 o15 o16 o17 o18 o19)
theorem mul_f6 (zs : List Value) (o : List Int) (ho : o.length = 20) : ∃ zs', SatCode Tryd.prog [] mulL (mulT 6 zs sa sb so [a0, a1, a2, a3, a4, a5, a6, a7, a8, a9, a10, a11, a12, a13, a14, a15, a16, a17, a18, a19] [b0, b1, b2, b3, b4, b5, b6, b7, b8, b9, b10, b11, b12, b13, b14, b15, b16, b17, b18, b19] o) (.exit 0) (mulT 20 zs' sa sb so [a0, a1, a2, a3, a4, a5, a6, a7, a8, a9, a10, a11, a12, a13, a14, a15, a16, a17, a18, a19] [b0, b1, b2, b3, b4, b5, b6, b7, b8, b9, b10, b11, b12, b13, b14, b15, b16, b17, b18, b19] (mulGo [b0, b1, b2, b3, b4, b5, b6, b7, b8, b9, b10, b11, b12, b13, b14, b15, b16, b17, b18, b19] [a6, a7, a8, a9, a10, a11, a12, a13, a14, a15, a16, a17, a18, a19] 6 o)) := by
  obtain ⟨z, h⟩ := mul_f7 sa sb so a0 a1 a2 a3 a4 a5 a6 a7 a8 a9 a10 a11 a12 a13 a14 a15 a16 a17 a18 a19 b0 b1 b2 b3 b4 b5 b6 b7 b8 b9 b10 b11 b12 b13 b14 b15 b16 b17 b18 b19 (tlOf (outOf ((ev envS 100).code [] mulB (mulT 6 zs sa sb so [a0, a1, a2, a3, a4, a5, a6, a7, a8, a9, a10, a11, a12, a13, a14, a15, a16, a17, a18, a19] [b0, b1, b2, b3, b4, b5, b6, b7, b8, b9, b10, b11, b12, b13, b14, b15, b16, b17, b18, b19] o))).2) (carry (mrow a6 6 o [b0, b1, b2, b3, b4, b5, b6, b7, b8, b9, b10, b11, b12, b13, b14, b15, b16, b17, b18, b19])) (by rw [carry_len, mrow_len, ho])
  refine ⟨z, sat_loop mulL_eq ?_ h⟩
  obtain ⟨o0, o1, o2, o3, o4, o5, o6, o7, o8, o9, o10, o11, o12, o13, o14, o15, o16, o17, o18, o19, rfl⟩ := list20 ho
  exact sat_read envS hcokP 100 mulB_ok (mul_r6 zs sa sb so a0 a1 a2 a3 a4 a5 a6 a7 a8 a9 a10 a11 a12 a13 a14 a15 a16 a17 a18 a19 b0 b1 b2 b3 b4 b5 b6 b7 b8 b9 b10 b11 b12 b13 b14 b15 b16 b17 b18 b19 o0 o1 o2 o3 o4 o5 o6 o7 o8 o9 o10 o11 o12 o13 o14 o15 o16 o17 o18 o19)
theorem mul_f5 (zs : List Value) (o : List Int) (ho : o.length = 20) : ∃ zs', SatCode Tryd.prog [] mulL (mulT 5 zs sa sb so [a0, a1, a2, a3, a4, a5, a6, a7, a8, a9, a10, a11, a12, a13, a14, a15, a16, a17, a18, a19] [b0, b1, b2, b3, b4, b5, b6, b7, b8, b9, b10, b11, b12, b13, b14, b15, b16, b17, b18, b19] o) (.exit 0) (mulT 20 zs' sa sb so [a0, a1, a2, a3, a4, a5, a6, a7, a8, a9, a10, a11, a12, a13, a14, a15, a16, a17, a18, a19] [b0, b1, b2, b3, b4, b5, b6, b7, b8, b9, b10, b11, b12, b13, b14, b15, b16, b17, b18, b19] (mulGo [b0, b1, b2, b3, b4, b5, b6, b7, b8, b9, b10, b11, b12, b13, b14, b15, b16, b17, b18, b19] [a5, a6, a7, a8, a9, a10, a11, a12, a13, a14, a15, a16, a17, a18, a19] 5 o)) := by
  obtain ⟨z, h⟩ := mul_f6 sa sb so a0 a1 a2 a3 a4 a5 a6 a7 a8 a9 a10 a11 a12 a13 a14 a15 a16 a17 a18 a19 b0 b1 b2 b3 b4 b5 b6 b7 b8 b9 b10 b11 b12 b13 b14 b15 b16 b17 b18 b19 (tlOf (outOf ((ev envS 100).code [] mulB (mulT 5 zs sa sb so [a0, a1, a2, a3, a4, a5, a6, a7, a8, a9, a10, a11, a12, a13, a14, a15, a16, a17, a18, a19] [b0, b1, b2, b3, b4, b5, b6, b7, b8, b9, b10, b11, b12, b13, b14, b15, b16, b17, b18, b19] o))).2) (carry (mrow a5 5 o [b0, b1, b2, b3, b4, b5, b6, b7, b8, b9, b10, b11, b12, b13, b14, b15, b16, b17, b18, b19])) (by rw [carry_len, mrow_len, ho])
  refine ⟨z, sat_loop mulL_eq ?_ h⟩
  obtain ⟨o0, o1, o2, o3, o4, o5, o6, o7, o8, o9, o10, o11, o12, o13, o14, o15, o16, o17, o18, o19, rfl⟩ := list20 ho
  exact sat_read envS hcokP 100 mulB_ok (mul_r5 zs sa sb so a0 a1 a2 a3 a4 a5 a6 a7 a8 a9 a10 a11 a12 a13 a14 a15 a16 a17 a18 a19 b0 b1 b2 b3 b4 b5 b6 b7 b8 b9 b10 b11 b12 b13 b14 b15 b16 b17 b18 b19 o0 o1 o2 o3 o4 o5 o6 o7 o8 o9 o10 o11 o12 o13 o14 o15 o16 o17 o18 o19)
theorem mul_f4 (zs : List Value) (o : List Int) (ho : o.length = 20) : ∃ zs', SatCode Tryd.prog [] mulL (mulT 4 zs sa sb so [a0, a1, a2, a3, a4, a5, a6, a7, a8, a9, a10, a11, a12, a13, a14, a15, a16, a17, a18, a19] [b0, b1, b2, b3, b4, b5, b6, b7, b8, b9, b10, b11, b12, b13, b14, b15, b16, b17, b18, b19] o) (.exit 0) (mulT 20 zs' sa sb so [a0, a1, a2, a3, a4, a5, a6, a7, a8, a9, a10, a11, a12, a13, a14, a15, a16, a17, a18, a19] [b0, b1, b2, b3, b4, b5, b6, b7, b8, b9, b10, b11, b12, b13, b14, b15, b16, b17, b18, b19] (mulGo [b0, b1, b2, b3, b4, b5, b6, b7, b8, b9, b10, b11, b12, b13, b14, b15, b16, b17, b18, b19] [a4, a5, a6, a7, a8, a9, a10, a11, a12, a13, a14, a15, a16, a17, a18, a19] 4 o)) := by
  obtain ⟨z, h⟩ := mul_f5 sa sb so a0 a1 a2 a3 a4 a5 a6 a7 a8 a9 a10 a11 a12 a13 a14 a15 a16 a17 a18 a19 b0 b1 b2 b3 b4 b5 b6 b7 b8 b9 b10 b11 b12 b13 b14 b15 b16 b17 b18 b19 (tlOf (outOf ((ev envS 100).code [] mulB (mulT 4 zs sa sb so [a0, a1, a2, a3, a4, a5, a6, a7, a8, a9, a10, a11, a12, a13, a14, a15, a16, a17, a18, a19] [b0, b1, b2, b3, b4, b5, b6, b7, b8, b9, b10, b11, b12, b13, b14, b15, b16, b17, b18, b19] o))).2) (carry (mrow a4 4 o [b0, b1, b2, b3, b4, b5, b6, b7, b8, b9, b10, b11, b12, b13, b14, b15, b16, b17, b18, b19])) (by rw [carry_len, mrow_len, ho])
  refine ⟨z, sat_loop mulL_eq ?_ h⟩
  obtain ⟨o0, o1, o2, o3, o4, o5, o6, o7, o8, o9, o10, o11, o12, o13, o14, o15, o16, o17, o18, o19, rfl⟩ := list20 ho
  exact sat_read envS hcokP 100 mulB_ok (mul_r4 zs sa sb so a0 a1 a2 a3 a4 a5 a6 a7 a8 a9 a10 a11 a12 a13 a14 a15 a16 a17 a18 a19 b0 b1 b2 b3 b4 b5 b6 b7 b8 b9 b10 b11 b12 b13 b14 b15 b16 b17 b18 b19 o0 o1 o2 o3 o4 o5 o6 o7 o8 o9 o10 o11 o12 o13 o14 o15 o16 o17 o18 o19)
theorem mul_f3 (zs : List Value) (o : List Int) (ho : o.length = 20) : ∃ zs', SatCode Tryd.prog [] mulL (mulT 3 zs sa sb so [a0, a1, a2, a3, a4, a5, a6, a7, a8, a9, a10, a11, a12, a13, a14, a15, a16, a17, a18, a19] [b0, b1, b2, b3, b4, b5, b6, b7, b8, b9, b10, b11, b12, b13, b14, b15, b16, b17, b18, b19] o) (.exit 0) (mulT 20 zs' sa sb so [a0, a1, a2, a3, a4, a5, a6, a7, a8, a9, a10, a11, a12, a13, a14, a15, a16, a17, a18, a19] [b0, b1, b2, b3, b4, b5, b6, b7, b8, b9, b10, b11, b12, b13, b14, b15, b16, b17, b18, b19] (mulGo [b0, b1, b2, b3, b4, b5, b6, b7, b8, b9, b10, b11, b12, b13, b14, b15, b16, b17, b18, b19] [a3, a4, a5, a6, a7, a8, a9, a10, a11, a12, a13, a14, a15, a16, a17, a18, a19] 3 o)) := by
  obtain ⟨z, h⟩ := mul_f4 sa sb so a0 a1 a2 a3 a4 a5 a6 a7 a8 a9 a10 a11 a12 a13 a14 a15 a16 a17 a18 a19 b0 b1 b2 b3 b4 b5 b6 b7 b8 b9 b10 b11 b12 b13 b14 b15 b16 b17 b18 b19 (tlOf (outOf ((ev envS 100).code [] mulB (mulT 3 zs sa sb so [a0, a1, a2, a3, a4, a5, a6, a7, a8, a9, a10, a11, a12, a13, a14, a15, a16, a17, a18, a19] [b0, b1, b2, b3, b4, b5, b6, b7, b8, b9, b10, b11, b12, b13, b14, b15, b16, b17, b18, b19] o))).2) (carry (mrow a3 3 o [b0, b1, b2, b3, b4, b5, b6, b7, b8, b9, b10, b11, b12, b13, b14, b15, b16, b17, b18, b19])) (by rw [carry_len, mrow_len, ho])
  refine ⟨z, sat_loop mulL_eq ?_ h⟩
  obtain ⟨o0, o1, o2, o3, o4, o5, o6, o7, o8, o9, o10, o11, o12, o13, o14, o15, o16, o17, o18, o19, rfl⟩ := list20 ho
  exact sat_read envS hcokP 100 mulB_ok (mul_r3 zs sa sb so a0 a1 a2 a3 a4 a5 a6 a7 a8 a9 a10 a11 a12 a13 a14 a15 a16 a17 a18 a19 b0 b1 b2 b3 b4 b5 b6 b7 b8 b9 b10 b11 b12 b13 b14 b15 b16 b17 b18 b19 o0 o1 o2 o3 o4 o5 o6 o7 o8 o9 o10 o11 o12 o13 o14 o15 o16 o17 o18 o19)
theorem mul_f2 (zs : List Value) (o : List Int) (ho : o.length = 20) : ∃ zs', SatCode Tryd.prog [] mulL (mulT 2 zs sa sb so [a0, a1, a2, a3, a4, a5, a6, a7, a8, a9, a10, a11, a12, a13, a14, a15, a16, a17, a18, a19] [b0, b1, b2, b3, b4, b5, b6, b7, b8, b9, b10, b11, b12, b13, b14, b15, b16, b17, b18, b19] o) (.exit 0) (mulT 20 zs' sa sb so [a0, a1, a2, a3, a4, a5, a6, a7, a8, a9, a10, a11, a12, a13, a14, a15, a16, a17, a18, a19] [b0, b1, b2, b3, b4, b5, b6, b7, b8, b9, b10, b11, b12, b13, b14, b15, b16, b17, b18, b19] (mulGo [b0, b1, b2, b3, b4, b5, b6, b7, b8, b9, b10, b11, b12, b13, b14, b15, b16, b17, b18, b19] [a2, a3, a4, a5, a6, a7, a8, a9, a10, a11, a12, a13, a14, a15, a16, a17, a18, a19] 2 o)) := by
  obtain ⟨z, h⟩ := mul_f3 sa sb so a0 a1 a2 a3 a4 a5 a6 a7 a8 a9 a10 a11 a12 a13 a14 a15 a16 a17 a18 a19 b0 b1 b2 b3 b4 b5 b6 b7 b8 b9 b10 b11 b12 b13 b14 b15 b16 b17 b18 b19 (tlOf (outOf ((ev envS 100).code [] mulB (mulT 2 zs sa sb so [a0, a1, a2, a3, a4, a5, a6, a7, a8, a9, a10, a11, a12, a13, a14, a15, a16, a17, a18, a19] [b0, b1, b2, b3, b4, b5, b6, b7, b8, b9, b10, b11, b12, b13, b14, b15, b16, b17, b18, b19] o))).2) (carry (mrow a2 2 o [b0, b1, b2, b3, b4, b5, b6, b7, b8, b9, b10, b11, b12, b13, b14, b15, b16, b17, b18, b19])) (by rw [carry_len, mrow_len, ho])
  refine ⟨z, sat_loop mulL_eq ?_ h⟩
  obtain ⟨o0, o1, o2, o3, o4, o5, o6, o7, o8, o9, o10, o11, o12, o13, o14, o15, o16, o17, o18, o19, rfl⟩ := list20 ho
  exact sat_read envS hcokP 100 mulB_ok (mul_r2 zs sa sb so a0 a1 a2 a3 a4 a5 a6 a7 a8 a9 a10 a11 a12 a13 a14 a15 a16 a17 a18 a19 b0 b1 b2 b3 b4 b5 b6 b7 b8 b9 b10 b11 b12 b13 b14 b15 b16 b17 b18 b19 o0 o1 o2 o3 o4 o5 o6 o7 o8 o9 o10 o11 o12 o13 o14 o15 o16 o17 o18 o19)
theorem mul_f1 (zs : List Value) (o : List Int) (ho : o.length = 20) : ∃ zs', SatCode Tryd.prog [] mulL (mulT 1 zs sa sb so [a0, a1, a2, a3, a4, a5, a6, a7, a8, a9, a10, a11, a12, a13, a14, a15, a16, a17, a18, a19] [b0, b1, b2, b3, b4, b5, b6, b7, b8, b9, b10, b11, b12, b13, b14, b15, b16, b17, b18, b19] o) (.exit 0) (mulT 20 zs' sa sb so [a0, a1, a2, a3, a4, a5, a6, a7, a8, a9, a10, a11, a12, a13, a14, a15, a16, a17, a18, a19] [b0, b1, b2, b3, b4, b5, b6, b7, b8, b9, b10, b11, b12, b13, b14, b15, b16, b17, b18, b19] (mulGo [b0, b1, b2, b3, b4, b5, b6, b7, b8, b9, b10, b11, b12, b13, b14, b15, b16, b17, b18, b19] [a1, a2, a3, a4, a5, a6, a7, a8, a9, a10, a11, a12, a13, a14, a15, a16, a17, a18, a19] 1 o)) := by
  obtain ⟨z, h⟩ := mul_f2 sa sb so a0 a1 a2 a3 a4 a5 a6 a7 a8 a9 a10 a11 a12 a13 a14 a15 a16 a17 a18 a19 b0 b1 b2 b3 b4 b5 b6 b7 b8 b9 b10 b11 b12 b13 b14 b15 b16 b17 b18 b19 (tlOf (outOf ((ev envS 100).code [] mulB (mulT 1 zs sa sb so [a0, a1, a2, a3, a4, a5, a6, a7, a8, a9, a10, a11, a12, a13, a14, a15, a16, a17, a18, a19] [b0, b1, b2, b3, b4, b5, b6, b7, b8, b9, b10, b11, b12, b13, b14, b15, b16, b17, b18, b19] o))).2) (carry (mrow a1 1 o [b0, b1, b2, b3, b4, b5, b6, b7, b8, b9, b10, b11, b12, b13, b14, b15, b16, b17, b18, b19])) (by rw [carry_len, mrow_len, ho])
  refine ⟨z, sat_loop mulL_eq ?_ h⟩
  obtain ⟨o0, o1, o2, o3, o4, o5, o6, o7, o8, o9, o10, o11, o12, o13, o14, o15, o16, o17, o18, o19, rfl⟩ := list20 ho
  exact sat_read envS hcokP 100 mulB_ok (mul_r1 zs sa sb so a0 a1 a2 a3 a4 a5 a6 a7 a8 a9 a10 a11 a12 a13 a14 a15 a16 a17 a18 a19 b0 b1 b2 b3 b4 b5 b6 b7 b8 b9 b10 b11 b12 b13 b14 b15 b16 b17 b18 b19 o0 o1 o2 o3 o4 o5 o6 o7 o8 o9 o10 o11 o12 o13 o14 o15 o16 o17 o18 o19)
theorem mul_f0 (zs : List Value) (o : List Int) (ho : o.length = 20) : ∃ zs', SatCode Tryd.prog [] mulL (mulT 0 zs sa sb so [a0, a1, a2, a3, a4, a5, a6, a7, a8, a9, a10, a11, a12, a13, a14, a15, a16, a17, a18, a19] [b0, b1, b2, b3, b4, b5, b6, b7, b8, b9, b10, b11, b12, b13, b14, b15, b16, b17, b18, b19] o) (.exit 0) (mulT 20 zs' sa sb so [a0, a1, a2, a3, a4, a5, a6, a7, a8, a9, a10, a11, a12, a13, a14, a15, a16, a17, a18, a19] [b0, b1, b2, b3, b4, b5, b6, b7, b8, b9, b10, b11, b12, b13, b14, b15, b16, b17, b18, b19] (mulGo [b0, b1, b2, b3, b4, b5, b6, b7, b8, b9, b10, b11, b12, b13, b14, b15, b16, b17, b18, b19] [a0, a1, a2, a3, a4, a5, a6, a7, a8, a9, a10, a11, a12, a13, a14, a15, a16, a17, a18, a19] 0 o)) := by
  obtain ⟨z, h⟩ := mul_f1 sa sb so a0 a1 a2 a3 a4 a5 a6 a7 a8 a9 a10 a11 a12 a13 a14 a15 a16 a17 a18 a19 b0 b1 b2 b3 b4 b5 b6 b7 b8 b9 b10 b11 b12 b13 b14 b15 b16 b17 b18 b19 (tlOf (outOf ((ev envS 100).code [] mulB (mulT 0 zs sa sb so [a0, a1, a2, a3, a4, a5, a6, a7, a8, a9, a10, a11, a12, a13, a14, a15, a16, a17, a18, a19] [b0, b1, b2, b3, b4, b5, b6, b7, b8, b9, b10, b11, b12, b13, b14, b15, b16, b17, b18, b19] o))).2) (carry (mrow a0 0 o [b0, b1, b2, b3, b4, b5, b6, b7, b8, b9, b10, b11, b12, b13, b14, b15, b16, b17, b18, b19])) (by rw [carry_len, mrow_len, ho])
  refine ⟨z, sat_loop mulL_eq ?_ h⟩
  obtain ⟨o0, o1, o2, o3, o4, o5, o6, o7, o8, o9, o10, o11, o12, o13, o14, o15, o16, o17, o18, o19, rfl⟩ := list20 ho
  exact sat_read envS hcokP 100 mulB_ok (mul_r0 zs sa sb so a0 a1 a2 a3 a4 a5 a6 a7 a8 a9 a10 a11 a12 a13 a14 a15 a16 a17 a18 a19 b0 b1 b2 b3 b4 b5 b6 b7 b8 b9 b10 b11 b12 b13 b14 b15 b16 b17 b18 b19 o0 o1 o2 o3 o4 o5 o6 o7 o8 o9 o10 o11 o12 o13 o14 o15 o16 o17 o18 o19)
end

noncomputable def mulA (sa sb : Bool) (a b : List Int) : Array Value := #[.agg ⟨.bool sa :: mapU a⟩, .agg ⟨.bool sb :: mapU b⟩]
noncomputable def mulS0 (sa sb : Bool) (a b : List Int) : St := ⟨Go.Den.start (mulA sa sb a b).toList Tryd.f36.ntmps, [], B0⟩
noncomputable def mulS1 (sa sb : Bool) (a b : List Int) : St := (outOf ((ev envS 100).code [] (cL mulC) (mulS0 sa sb a b))).2
noncomputable def mulS2 (sa sb : Bool) (a b : List Int) : St := (outOf ((ev envS 100).code [] (cL (cR mulC)) (mulS1 sa sb a b))).2
noncomputable def mulS3 (sa sb : Bool) (a b : List Int) : St := (outOf ((ev envS 100).code [] (cL (cL (cR (cR mulC)))) (mulS2 sa sb a b))).2
theorem mul_p1 (sa sb : Bool) (a0 a1 a2 a3 a4 a5 a6 a7 a8 a9 a10 a11 a12 a13 a14 a15 a16 a17 a18 a19 b0 b1 b2 b3 b4 b5 b6 b7 b8 b9 b10 b11 b12 b13 b14 b15 b16 b17 b18 b19 : Int) : ((ev envS 100).code [] (cL mulC) (mulS0 sa sb [a0, a1, a2, a3, a4, a5, a6, a7, a8, a9, a10, a11, a12, a13, a14, a15, a16, a17, a18, a19] [b0, b1, b2, b3, b4, b5, b6, b7, b8, b9, b10, b11, b12, b13, b14, b15, b16, b17, b18, b19])).run = some (.normal, mulS1 sa sb [a0, a1, a2, a3, a4, a5, a6, a7, a8, a9, a10, a11, a12, a13, a14, a15, a16, a17, a18, a19] [b0, b1, b2, b3, b4, b5, b6, b7, b8, b9, b10, b11, b12, b13, b14, b15, b16, b17, b18, b19]) := by
  cases sa <;> cases sb <;> kernel_rfl
theorem mul_p2 (sa sb : Bool) (a0 a1 a2 a3 a4 a5 a6 a7 a8 a9 a10 a11 a12 a13 a14 a15 a16 a17 a18 a19 b0 b1 b2 b3 b4 b5 b6 b7 b8 b9 b10 b11 b12 b13 b14 b15 b16 b17 b18 b19 : Int) : ((ev envS 100).code [] (cL (cR mulC)) (mulS1 sa sb [a0, a1, a2, a3, a4, a5, a6, a7, a8, a9, a10, a11, a12, a13, a14, a15, a16, a17, a18, a19] [b0, b1, b2, b3, b4, b5, b6, b7, b8, b9, b10, b11, b12, b13, b14, b15, b16, b17, b18, b19])).run = some (.normal, mulS2 sa sb [a0, a1, a2, a3, a4, a5, a6, a7, a8, a9, a10, a11, a12, a13, a14, a15, a16, a17, a18, a19] [b0, b1, b2, b3, b4, b5, b6, b7, b8, b9, b10, b11, b12, b13, b14, b15, b16, b17, b18, b19]) := by
  cases sa <;> cases sb <;> kernel_rfl
theorem mul_p3 (sa sb : Bool) (a0 a1 a2 a3 a4 a5 a6 a7 a8 a9 a10 a11 a12 a13 a14 a15 a16 a17 a18 a19 b0 b1 b2 b3 b4 b5 b6 b7 b8 b9 b10 b11 b12 b13 b14 b15 b16 b17 b18 b19 : Int) : ((ev envS 100).code [] (cL (cL (cR (cR mulC)))) (mulS2 sa sb [a0, a1, a2, a3, a4, a5, a6, a7, a8, a9, a10, a11, a12, a13, a14, a15, a16, a17, a18, a19] [b0, b1, b2, b3, b4, b5, b6, b7, b8, b9, b10, b11, b12, b13, b14, b15, b16, b17, b18, b19])).run = some (.normal, mulS3 sa sb [a0, a1, a2, a3, a4, a5, a6, a7, a8, a9, a10, a11, a12, a13, a14, a15, a16, a17, a18, a19] [b0, b1, b2, b3, b4, b5, b6, b7, b8, b9, b10, b11, b12, b13, b14, b15, b16, b17, b18, b19]) := by
  cases sa <;> cases sb <;> kernel_rfl
theorem mul_a3 (sa sb : Bool) (a0 a1 a2 a3 a4 a5 a6 a7 a8 a9 a10 a11 a12 a13 a14 a15 a16 a17 a18 a19 b0 b1 b2 b3 b4 b5 b6 b7 b8 b9 b10 b11 b12 b13 b14 b15 b16 b17 b18 b19 : Int) : (mulT 0 (tlOf (mulS3 sa sb [a0, a1, a2, a3, a4, a5, a6, a7, a8, a9, a10, a11, a12, a13, a14, a15, a16, a17, a18, a19] [b0, b1, b2, b3, b4, b5, b6, b7, b8, b9, b10, b11, b12, b13, b14, b15, b16, b17, b18, b19])) sa sb (sa != sb) [a0, a1, a2, a3, a4, a5, a6, a7, a8, a9, a10, a11, a12, a13, a14, a15, a16, a17, a18, a19] [b0, b1, b2, b3, b4, b5, b6, b7, b8, b9, b10, b11, b12, b13, b14, b15, b16, b17, b18, b19] [0, 0, 0, 0, 0, 0, 0, 0, 0, 0, 0, 0, 0, 0, 0, 0, 0, 0, 0, 0]).tmps.arr = (mulS3 sa sb [a0, a1, a2, a3, a4, a5, a6, a7, a8, a9, a10, a11, a12, a13, a14, a15, a16, a17, a18, a19] [b0, b1, b2, b3, b4, b5, b6, b7, b8, b9, b10, b11, b12, b13, b14, b15, b16, b17, b18, b19]).tmps.arr := by
  cases sa <;> cases sb <;> kernel_rfl
theorem mul_h3 (sa sb : Bool) (a0 a1 a2 a3 a4 a5 a6 a7 a8 a9 a10 a11 a12 a13 a14 a15 a16 a17 a18 a19 b0 b1 b2 b3 b4 b5 b6 b7 b8 b9 b10 b11 b12 b13 b14 b15 b16 b17 b18 b19 : Int) : (mulT 0 (tlOf (mulS3 sa sb [a0, a1, a2, a3, a4, a5, a6, a7, a8, a9, a10, a11, a12, a13, a14, a15, a16, a17, a18, a19] [b0, b1, b2, b3, b4, b5, b6, b7, b8, b9, b10, b11, b12, b13, b14, b15, b16, b17, b18, b19])) sa sb (sa != sb) [a0, a1, a2, a3, a4, a5, a6, a7, a8, a9, a10, a11, a12, a13, a14, a15, a16, a17, a18, a19] [b0, b1, b2, b3, b4, b5, b6, b7, b8, b9, b10, b11, b12, b13, b14, b15, b16, b17, b18, b19] [0, 0, 0, 0, 0, 0, 0, 0, 0, 0, 0, 0, 0, 0, 0, 0, 0, 0, 0, 0]).h = (mulS3 sa sb [a0, a1, a2, a3, a4, a5, a6, a7, a8, a9, a10, a11, a12, a13, a14, a15, a16, a17, a18, a19] [b0, b1, b2, b3, b4, b5, b6, b7, b8, b9, b10, b11, b12, b13, b14, b15, b16, b17, b18, b19]).h := by
  cases sa <;> cases sb <;> kernel_rfl
theorem mul_n3 (sa sb : Bool) (a0 a1 a2 a3 a4 a5 a6 a7 a8 a9 a10 a11 a12 a13 a14 a15 a16 a17 a18 a19 b0 b1 b2 b3 b4 b5 b6 b7 b8 b9 b10 b11 b12 b13 b14 b15 b16 b17 b18 b19 : Int) : (mulT 0 (tlOf (mulS3 sa sb [a0, a1, a2, a3, a4, a5, a6, a7, a8, a9, a10, a11, a12, a13, a14, a15, a16, a17, a18, a19] [b0, b1, b2, b3, b4, b5, b6, b7, b8, b9, b10, b11, b12, b13, b14, b15, b16, b17, b18, b19])) sa sb (sa != sb) [a0, a1, a2, a3, a4, a5, a6, a7, a8, a9, a10, a11, a12, a13, a14, a15, a16, a17, a18, a19] [b0, b1, b2, b3, b4, b5, b6, b7, b8, b9, b10, b11, b12, b13, b14, b15, b16, b17, b18, b19] [0, 0, 0, 0, 0, 0, 0, 0, 0, 0, 0, 0, 0, 0, 0, 0, 0, 0, 0, 0]).nx = (mulS3 sa sb [a0, a1, a2, a3, a4, a5, a6, a7, a8, a9, a10, a11, a12, a13, a14, a15, a16, a17, a18, a19] [b0, b1, b2, b3, b4, b5, b6, b7, b8, b9, b10, b11, b12, b13, b14, b15, b16, b17, b18, b19]).nx := by
  cases sa <;> cases sb <;> kernel_rfl
noncomputable def mulS5 (zs : List Value) (sa sb so : Bool) (a b o : List Int) : St := (outOf ((ev envS 100).code [] (cR (cR (cR mulC))) (mulT 20 zs sa sb so a b o))).2
theorem mul_p5 (zs : List Value) (sa sb so : Bool) (a b : List Int) (o0 o1 o2 o3 o4 o5 o6 o7 o8 o9 o10 o11 o12 o13 o14 o15 o16 o17 o18 o19 : Int) : ((ev envS 100).code [] (cR (cR (cR mulC))) (mulT 20 zs sa sb so a b [o0, o1, o2, o3, o4, o5, o6, o7, o8, o9, o10, o11, o12, o13, o14, o15, o16, o17, o18, o19])).run = some (.ret, mulS5 zs sa sb so a b [o0, o1, o2, o3, o4, o5, o6, o7, o8, o9, o10, o11, o12, o13, o14, o15, o16, o17, o18, o19]) := by
  kernel_rfl
theorem mul_res (zs : List Value) (sa sb so : Bool) (a b : List Int) (o0 o1 o2 o3 o4 o5 o6 o7 o8 o9 o10 o11 o12 o13 o14 o15 o16 o17 o18 o19 : Int) : resultsA Tryd.prog [] Tryd.f36 (mulS5 zs sa sb so a b [o0, o1, o2, o3, o4, o5, o6, o7, o8, o9, o10, o11, o12, o13, o14, o15, o16, o17, o18, o19]).tmps (mulS5 zs sa sb so a b [o0, o1, o2, o3, o4, o5, o6, o7, o8, o9, o10, o11, o12, o13, o14, o15, o16, o17, o18, o19]).h = some (.agg ⟨.bool so :: mapU [o0, o1, o2, o3, o4, o5, o6, o7, o8, o9, o10, o11, o12, o13, o14, o15, o16, o17, o18, o19]⟩) := by
  kernel_rfl
theorem sat_of {c : Code} {st s : St} {x : Exit} (hok : cok c = true) (h : ((ev envS 100).code [] c st).run = some (x, s)) : SatCode Tryd.prog [] c st x s := sat_read envS hcokP 100 (r := (x, s)) hok h
theorem mul_k1 : cok (cL mulC) = true := by kernel_rfl
theorem mul_k2 : cok (cL (cR mulC)) = true := by kernel_rfl
theorem mul_k3 : cok (cL (cL (cR (cR mulC)))) = true := by kernel_rfl
theorem mul_k5 : cok (cR (cR (cR mulC))) = true := by kernel_rfl
theorem mul_q1 : mulC = .seq (cL mulC) (cR mulC) := by kernel_rfl
theorem mul_q2 : cR mulC = .seq (cL (cR mulC)) (cR (cR mulC)) := by kernel_rfl
theorem mul_q3 : cR (cR mulC) = .seq (cL (cR (cR mulC))) (cR (cR (cR mulC))) := by kernel_rfl
theorem mul_q4 : cL (cR (cR mulC)) = .seq (cL (cL (cR (cR mulC)))) (cR (cL (cR (cR mulC)))) := by kernel_rfl
theorem mul_q5 : cR (cL (cR (cR mulC))) = .block 0 mulL := by kernel_rfl
theorem mul_z1 (sa sb : Bool) (a0 a1 a2 a3 a4 a5 a6 a7 a8 a9 a10 a11 a12 a13 a14 a15 a16 a17 a18 a19 b0 b1 b2 b3 b4 b5 b6 b7 b8 b9 b10 b11 b12 b13 b14 b15 b16 b17 b18 b19 : Int) : SatCode Tryd.prog [] (cL mulC) (mulS0 sa sb [a0, a1, a2, a3, a4, a5, a6, a7, a8, a9, a10, a11, a12, a13, a14, a15, a16, a17, a18, a19] [b0, b1, b2, b3, b4, b5, b6, b7, b8, b9, b10, b11, b12, b13, b14, b15, b16, b17, b18, b19]) .normal (mulS1 sa sb [a0, a1, a2, a3, a4, a5, a6, a7, a8, a9, a10, a11, a12, a13, a14, a15, a16, a17, a18, a19] [b0, b1, b2, b3, b4, b5, b6, b7, b8, b9, b10, b11, b12, b13, b14, b15, b16, b17, b18, b19]) := sat_of mul_k1 (mul_p1 sa sb a0 a1 a2 a3 a4 a5 a6 a7 a8 a9 a10 a11 a12 a13 a14 a15 a16 a17 a18 a19 b0 b1 b2 b3 b4 b5 b6 b7 b8 b9 b10 b11 b12 b13 b14 b15 b16 b17 b18 b19)
theorem mul_z2 (sa sb : Bool) (a0 a1 a2 a3 a4 a5 a6 a7 a8 a9 a10 a11 a12 a13 a14 a15 a16 a17 a18 a19 b0 b1 b2 b3 b4 b5 b6 b7 b8 b9 b10 b11 b12 b13 b14 b15 b16 b17 b18 b19 : Int) : SatCode Tryd.prog [] (cL (cR mulC)) (mulS1 sa sb [a0, a1, a2, a3, a4, a5, a6, a7, a8, a9, a10, a11, a12, a13, a14, a15, a16, a17, a18, a19] [b0, b1, b2, b3, b4, b5, b6, b7, b8, b9, b10, b11, b12, b13, b14, b15, b16, b17, b18, b19]) .normal (mulS2 sa sb [a0, a1, a2, a3, a4, a5, a6, a7, a8, a9, a10, a11, a12, a13, a14, a15, a16, a17, a18, a19] [b0, b1, b2, b3, b4, b5, b6, b7, b8, b9, b10, b11, b12, b13, b14, b15, b16, b17, b18, b19]) := sat_of mul_k2 (mul_p2 sa sb a0 a1 a2 a3 a4 a5 a6 a7 a8 a9 a10 a11 a12 a13 a14 a15 a16 a17 a18 a19 b0 b1 b2 b3 b4 b5 b6 b7 b8 b9 b10 b11 b12 b13 b14 b15 b16 b17 b18 b19)
theorem mul_z3 (sa sb : Bool) (a0 a1 a2 a3 a4 a5 a6 a7 a8 a9 a10 a11 a12 a13 a14 a15 a16 a17 a18 a19 b0 b1 b2 b3 b4 b5 b6 b7 b8 b9 b10 b11 b12 b13 b14 b15 b16 b17 b18 b19 : Int) : SatCode Tryd.prog [] (cL (cL (cR (cR mulC)))) (mulS2 sa sb [a0, a1, a2, a3, a4, a5, a6, a7, a8, a9, a10, a11, a12, a13, a14, a15, a16, a17, a18, a19] [b0, b1, b2, b3, b4, b5, b6, b7, b8, b9, b10, b11, b12, b13, b14, b15, b16, b17, b18, b19]) .normal (mulS3 sa sb [a0, a1, a2, a3, a4, a5, a6, a7, a8, a9, a10, a11, a12, a13, a14, a15, a16, a17, a18, a19] [b0, b1, b2, b3, b4, b5, b6, b7, b8, b9, b10, b11, b12, b13, b14, b15, b16, b17, b18, b19]) := sat_of mul_k3 (mul_p3 sa sb a0 a1 a2 a3 a4 a5 a6 a7 a8 a9 a10 a11 a12 a13 a14 a15 a16 a17 a18 a19 b0 b1 b2 b3 b4 b5 b6 b7 b8 b9 b10 b11 b12 b13 b14 b15 b16 b17 b18 b19)
theorem mul_z5 (zs : List Value) (sa sb so : Bool) (a b : List Int) (o0 o1 o2 o3 o4 o5 o6 o7 o8 o9 o10 o11 o12 o13 o14 o15 o16 o17 o18 o19 : Int) : SatCode Tryd.prog [] (cR (cR (cR mulC))) (mulT 20 zs sa sb so a b [o0, o1, o2, o3, o4, o5, o6, o7, o8, o9, o10, o11, o12, o13, o14, o15, o16, o17, o18, o19]) .ret (mulS5 zs sa sb so a b [o0, o1, o2, o3, o4, o5, o6, o7, o8, o9, o10, o11, o12, o13, o14, o15, o16, o17, o18, o19]) := sat_of mul_k5 (mul_p5 zs sa sb so a b o0 o1 o2 o3 o4 o5 o6 o7 o8 o9 o10 o11 o12 o13 o14 o15 o16 o17 o18 o19)
theorem mul_sat (sa sb : Bool) (a0 a1 a2 a3 a4 a5 a6 a7 a8 a9 a10 a11 a12 a13 a14 a15 a16 a17 a18 a19 b0 b1 b2 b3 b4 b5 b6 b7 b8 b9 b10 b11 b12 b13 b14 b15 b16 b17 b18 b19 : Int) (zs : List Value) {o : List Int} (ho : o.length = 20)
    (h : SatCode Tryd.prog [] mulL (mulT 0 (tlOf (mulS3 sa sb [a0, a1, a2, a3, a4, a5, a6, a7, a8, a9, a10, a11, a12, a13, a14, a15, a16, a17, a18, a19] [b0, b1, b2, b3, b4, b5, b6, b7, b8, b9, b10, b11, b12, b13, b14, b15, b16, b17, b18, b19])) sa sb (sa != sb) [a0, a1, a2, a3, a4, a5, a6, a7, a8, a9, a10, a11, a12, a13, a14, a15, a16, a17, a18, a19] [b0, b1, b2, b3, b4, b5, b6, b7, b8, b9, b10, b11, b12, b13, b14, b15, b16, b17, b18, b19] [0, 0, 0, 0, 0, 0, 0, 0, 0, 0, 0, 0, 0, 0, 0, 0, 0, 0, 0, 0]) (.exit 0) (mulT 20 zs sa sb (sa != sb) [a0, a1, a2, a3, a4, a5, a6, a7, a8, a9, a10, a11, a12, a13, a14, a15, a16, a17, a18, a19] [b0, b1, b2, b3, b4, b5, b6, b7, b8, b9, b10, b11, b12, b13, b14, b15, b16, b17, b18, b19] o)) : SatCode Tryd.prog [] mulC (mulS0 sa sb [a0, a1, a2, a3, a4, a5, a6, a7, a8, a9, a10, a11, a12, a13, a14, a15, a16, a17, a18, a19] [b0, b1, b2, b3, b4, b5, b6, b7, b8, b9, b10, b11, b12, b13, b14, b15, b16, b17, b18, b19]) .ret (mulS5 zs sa sb (sa != sb) [a0, a1, a2, a3, a4, a5, a6, a7, a8, a9, a10, a11, a12, a13, a14, a15, a16, a17, a18, a19] [b0, b1, b2, b3, b4, b5, b6, b7, b8, b9, b10, b11, b12, b13, b14, b15, b16, b17, b18, b19] o) := by
  have h1 := sat_arr (mul_a3 sa sb a0 a1 a2 a3 a4 a5 a6 a7 a8 a9 a10 a11 a12 a13 a14 a15 a16 a17 a18 a19 b0 b1 b2 b3 b4 b5 b6 b7 b8 b9 b10 b11 b12 b13 b14 b15 b16 b17 b18 b19) (mul_h3 sa sb a0 a1 a2 a3 a4 a5 a6 a7 a8 a9 a10 a11 a12 a13 a14 a15 a16 a17 a18 a19 b0 b1 b2 b3 b4 b5 b6 b7 b8 b9 b10 b11 b12 b13 b14 b15 b16 b17 b18 b19) (mul_n3 sa sb a0 a1 a2 a3 a4 a5 a6 a7 a8 a9 a10 a11 a12 a13 a14 a15 a16 a17 a18 a19 b0 b1 b2 b3 b4 b5 b6 b7 b8 b9 b10 b11 b12 b13 b14 b15 b16 b17 b18 b19) (sat_block mul_q5 h)
  have h2 := sat_seq mul_q4 (mul_z3 sa sb a0 a1 a2 a3 a4 a5 a6 a7 a8 a9 a10 a11 a12 a13 a14 a15 a16 a17 a18 a19 b0 b1 b2 b3 b4 b5 b6 b7 b8 b9 b10 b11 b12 b13 b14 b15 b16 b17 b18 b19) h1
  obtain ⟨o0, o1, o2, o3, o4, o5, o6, o7, o8, o9, o10, o11, o12, o13, o14, o15, o16, o17, o18, o19, rfl⟩ := list20 ho
  exact sat_seq mul_q1 (mul_z1 sa sb a0 a1 a2 a3 a4 a5 a6 a7 a8 a9 a10 a11 a12 a13 a14 a15 a16 a17 a18 a19 b0 b1 b2 b3 b4 b5 b6 b7 b8 b9 b10 b11 b12 b13 b14 b15 b16 b17 b18 b19) (sat_seq mul_q2 (mul_z2 sa sb a0 a1 a2 a3 a4 a5 a6 a7 a8 a9 a10 a11 a12 a13 a14 a15 a16 a17 a18 a19 b0 b1 b2 b3 b4 b5 b6 b7 b8 b9 b10 b11 b12 b13 b14 b15 b16 b17 b18 b19) (sat_seq mul_q3 h2 (mul_z5 zs sa sb (sa != sb) [a0, a1, a2, a3, a4, a5, a6, a7, a8, a9, a10, a11, a12, a13, a14, a15, a16, a17, a18, a19] [b0, b1, b2, b3, b4, b5, b6, b7, b8, b9, b10, b11, b12, b13, b14, b15, b16, b17, b18, b19] o0 o1 o2 o3 o4 o5 o6 o7 o8 o9 o10 o11 o12 o13 o14 o15 o16 o17 o18 o19)))
theorem mul_call (sa sb : Bool) (a0 a1 a2 a3 a4 a5 a6 a7 a8 a9 a10 a11 a12 a13 a14 a15 a16 a17 a18 a19 b0 b1 b2 b3 b4 b5 b6 b7 b8 b9 b10 b11 b12 b13 b14 b15 b16 b17 b18 b19 : Int) (zs : List Value) {o : List Int} (ho : o.length = 20)
    (h : SatCode Tryd.prog [] mulC ⟨Go.Den.start (mulA sa sb [a0, a1, a2, a3, a4, a5, a6, a7, a8, a9, a10, a11, a12, a13, a14, a15, a16, a17, a18, a19] [b0, b1, b2, b3, b4, b5, b6, b7, b8, b9, b10, b11, b12, b13, b14, b15, b16, b17, b18, b19]).toList Tryd.f36.ntmps, [], B0⟩ .ret (mulS5 zs sa sb (sa != sb) [a0, a1, a2, a3, a4, a5, a6, a7, a8, a9, a10, a11, a12, a13, a14, a15, a16, a17, a18, a19] [b0, b1, b2, b3, b4, b5, b6, b7, b8, b9, b10, b11, b12, b13, b14, b15, b16, b17, b18, b19] o)) (w : World) :
    Calls Tryd.prog 36 (mulA sa sb [a0, a1, a2, a3, a4, a5, a6, a7, a8, a9, a10, a11, a12, a13, a14, a15, a16, a17, a18, a19] [b0, b1, b2, b3, b4, b5, b6, b7, b8, b9, b10, b11, b12, b13, b14, b15, b16, b17, b18, b19]) w fun e w' => e = .returned (.agg ⟨.bool (sa != sb) :: mapU o⟩) ∧ Below w.heap.size w w' := by
  obtain ⟨o0, o1, o2, o3, o4, o5, o6, o7, o8, o9, o10, o11, o12, o13, o14, o15, o16, o17, o18, o19, rfl⟩ := list20 ho
  have hb : Tryd.f36.body = some mulC := by kernel_rfl
  have c := sat_call Tryd.func36 hb (by kernel_rfl) h (.inr rfl) (mul_res zs sa sb (sa != sb) [a0, a1, a2, a3, a4, a5, a6, a7, a8, a9, a10, a11, a12, a13, a14, a15, a16, a17, a18, a19] [b0, b1, b2, b3, b4, b5, b6, b7, b8, b9, b10, b11, b12, b13, b14, b15, b16, b17, b18, b19] o0 o1 o2 o3 o4 o5 o6 o7 o8 o9 o10 o11 o12 o13 o14 o15 o16 o17 o18 o19)
  exact calls_sat c (all_bel (by rw [belL, bel_num, belL, bel_num]; rfl)) (bel_num _ _) w
theorem mul_len (a b : List Int) : ∀ (i : Nat) (o : List Int), o.length = 20 → (mulGo b a i o).length = 20 := by
  induction a with
  | nil => exact fun _ _ h => h
  | cons x a ih => exact fun i o h => ih (i + 1) _ (by rw [carry_len, mrow_len, h])
theorem mul_calls {sa sb : Bool} {a b : List Int} (ha : a.length = 20) (hb : b.length = 20) (w : World) : Calls Tryd.prog 36 (mulA sa sb a b) w fun e w' => e = .returned (.agg ⟨.bool (sa != sb) :: mapU (mulGo b a 0 [0, 0, 0, 0, 0, 0, 0, 0, 0, 0, 0, 0, 0, 0, 0, 0, 0, 0, 0, 0])⟩) ∧ Below w.heap.size w w' := by
  have hlen := mul_len a b 0 [0, 0, 0, 0, 0, 0, 0, 0, 0, 0, 0, 0, 0, 0, 0, 0, 0, 0, 0, 0] rfl
  obtain ⟨a0, a1, a2, a3, a4, a5, a6, a7, a8, a9, a10, a11, a12, a13, a14, a15, a16, a17, a18, a19, rfl⟩ := list20 ha
  obtain ⟨b0, b1, b2, b3, b4, b5, b6, b7, b8, b9, b10, b11, b12, b13, b14, b15, b16, b17, b18, b19, rfl⟩ := list20 hb
  obtain ⟨zs, h⟩ := mul_f0 sa sb (sa != sb) a0 a1 a2 a3 a4 a5 a6 a7 a8 a9 a10 a11 a12 a13 a14 a15 a16 a17 a18 a19 b0 b1 b2 b3 b4 b5 b6 b7 b8 b9 b10 b11 b12 b13 b14 b15 b16 b17 b18 b19 (tlOf (mulS3 sa sb [a0, a1, a2, a3, a4, a5, a6, a7, a8, a9, a10, a11, a12, a13, a14, a15, a16, a17, a18, a19] [b0, b1, b2, b3, b4, b5, b6, b7, b8, b9, b10, b11, b12, b13, b14, b15, b16, b17, b18, b19])) [0, 0, 0, 0, 0, 0, 0, 0, 0, 0, 0, 0, 0, 0, 0, 0, 0, 0, 0, 0] rfl
  generalize mulGo [b0, b1, b2, b3, b4, b5, b6, b7, b8, b9, b10, b11, b12, b13, b14, b15, b16, b17, b18, b19] [a0, a1, a2, a3, a4, a5, a6, a7, a8, a9, a10, a11, a12, a13, a14, a15, a16, a17, a18, a19] 0 [0, 0, 0, 0, 0, 0, 0, 0, 0, 0, 0, 0, 0, 0, 0, 0, 0, 0, 0, 0] = o at *
  exact mul_call sa sb a0 a1 a2 a3 a4 a5 a6 a7 a8 a9 a10 a11 a12 a13 a14 a15 a16 a17 a18 a19 b0 b1 b2 b3 b4 b5 b6 b7 b8 b9 b10 b11 b12 b13 b14 b15 b16 b17 b18 b19 zs hlen (mul_sat sa sb a0 a1 a2 a3 a4 a5 a6 a7 a8 a9 a10 a11 a12 a13 a14 a15 a16 a17 a18 a19 b0 b1 b2 b3 b4 b5 b6 b7 b8 b9 b10 b11 b12 b13 b14 b15 b16 b17 b18 b19 zs hlen h) w
def rmulS : Array Value → Option (Bool × Value)
  | ⟨[.agg ⟨.bool s1 :: r1⟩, .agg ⟨.bool s2 :: r2⟩]⟩ => some (okNum r1 && (okNum r2 && decide (mag r1 * mag r2 < T320)), nv (s1 != s2) (mag r1 * mag r2))
  | _ => none
def pcRMul : PC Tryd.prog where
  f := 36
  spec := rmulS
  body := by kernel_rfl
  ok := fun args r hr hok => by
    unfold rmulS at hr
    split at hr
    · rename_i s1 r1 s2 r2
      cases hr
      simp only [Bool.and_eq_true, decide_eq_true_eq] at hok
      obtain ⟨k1, k2, k3⟩ := hok
      obtain ⟨a, rfl, hl1, hp1, hm1⟩ := num_out k1
      obtain ⟨b, rfl, hl2, hp2, hm2⟩ := num_out k2
      have hb : (#[Value.agg ⟨.bool s1 :: mapU a⟩, Value.agg ⟨.bool s2 :: mapU b⟩] : Array Value).all (bel B0) = true := all_bel (by rw [belL, bel_num, belL, bel_num]; rfl)
      refine ⟨hb, bel_nv _ _, fun w => (mul_calls hl1 hl2 w).mono ?_⟩
      rintro e w' ⟨rfl, hB⟩
      refine ⟨?_, hB⟩
      rw [hm1, hm2] at k3 ⊢
      have z0 : Pcs [0, 0, 0, 0, 0, 0, 0, 0, 0, 0, 0, 0, 0, 0, 0, 0, 0, 0, 0, 0] := by intro x hx; simp only [List.mem_cons, List.not_mem_nil, or_false, or_self] at hx; omega
      have v0 : val [0, 0, 0, 0, 0, 0, 0, 0, 0, 0, 0, 0, 0, 0, 0, 0, 0, 0, 0, 0] = 0 := by simp [val]
      obtain ⟨g1, g2, g3⟩ := mulGo_ok hp2 hl2 a 0 [0, 0, 0, 0, 0, 0, 0, 0, 0, 0, 0, 0, 0, 0, 0, 0, 0, 0, 0, 0] hp1 z0 rfl (by omega) (by rw [v0, B16_0]; omega)
      rw [v0, B16_0, Int.one_mul, Int.zero_add] at g3
      exact congrArg Ending.returned (nv_of g2 g1 g3)
    · cases hr
end

end Go.Proofs.YtfjfmcnnakfjnaaDoor


/-
  The document's sums, and which of two numbers is greater.
-/

namespace Go.Proofs.YtfjfmcnnakfjnaaDoor

open Go.Den Go.RowKit
noncomputable section
set_option maxRecDepth 100000

def sv (s : Bool) (n : Int) : Int := bif s then -n else n
theorem add_ff (a0 a1 a2 a3 a4 a5 a6 a7 a8 a9 a10 a11 a12 a13 a14 a15 a16 a17 a18 a19 b0 b1 b2 b3 b4 b5 b6 b7 b8 b9 b10 b11 b12 b13 b14 b15 b16 b17 b18 b19 : Int) (Q : Value → Prop) : ((ev envR1 300).call [] 35 #[.agg ⟨.bool false :: mapU [a0, a1, a2, a3, a4, a5, a6, a7, a8, a9, a10, a11, a12, a13, a14, a15, a16, a17, a18, a19]⟩, .agg ⟨.bool false :: mapU [b0, b1, b2, b3, b4, b5, b6, b7, b8, b9, b10, b11, b12, b13, b14, b15, b16, b17, b18, b19]⟩] [] B0).holds (fun r => Q r.v) =
  Q (.agg ⟨.bool false :: mapU (addGo [a1, a2, a3, a4, a5, a6, a7, a8, a9, a10, a11, a12, a13, a14, a15, a16, a17, a18, a19] a0 [b0, b1, b2, b3, b4, b5, b6, b7, b8, b9, b10, b11, b12, b13, b14, b15, b16, b17, b18, b19])⟩) := by kernel_rfl
theorem add_tt (a0 a1 a2 a3 a4 a5 a6 a7 a8 a9 a10 a11 a12 a13 a14 a15 a16 a17 a18 a19 b0 b1 b2 b3 b4 b5 b6 b7 b8 b9 b10 b11 b12 b13 b14 b15 b16 b17 b18 b19 : Int) (Q : Value → Prop) : ((ev envR1 300).call [] 35 #[.agg ⟨.bool true :: mapU [a0, a1, a2, a3, a4, a5, a6, a7, a8, a9, a10, a11, a12, a13, a14, a15, a16, a17, a18, a19]⟩, .agg ⟨.bool true :: mapU [b0, b1, b2, b3, b4, b5, b6, b7, b8, b9, b10, b11, b12, b13, b14, b15, b16, b17, b18, b19]⟩] [] B0).holds (fun r => Q r.v) =
  Q (.agg ⟨.bool true :: mapU (addGo [a1, a2, a3, a4, a5, a6, a7, a8, a9, a10, a11, a12, a13, a14, a15, a16, a17, a18, a19] a0 [b0, b1, b2, b3, b4, b5, b6, b7, b8, b9, b10, b11, b12, b13, b14, b15, b16, b17, b18, b19])⟩) := by kernel_rfl
theorem add_ft (a0 a1 a2 a3 a4 a5 a6 a7 a8 a9 a10 a11 a12 a13 a14 a15 a16 a17 a18 a19 b0 b1 b2 b3 b4 b5 b6 b7 b8 b9 b10 b11 b12 b13 b14 b15 b16 b17 b18 b19 : Int) (Q : Value → Prop) : ((ev envR1 300).call [] 35 #[.agg ⟨.bool false :: mapU [a0, a1, a2, a3, a4, a5, a6, a7, a8, a9, a10, a11, a12, a13, a14, a15, a16, a17, a18, a19]⟩, .agg ⟨.bool true :: mapU [b0, b1, b2, b3, b4, b5, b6, b7, b8, b9, b10, b11, b12, b13, b14, b15, b16, b17, b18, b19]⟩] [] B0).holds (fun r => Q r.v) =
  bcase (okNum (mapU [a0, a1, a2, a3, a4, a5, a6, a7, a8, a9, a10, a11, a12, a13, a14, a15, a16, a17, a18, a19]) && okNum (mapU [b0, b1, b2, b3, b4, b5, b6, b7, b8, b9, b10, b11, b12, b13, b14, b15, b16, b17, b18, b19])) (bcase (decide (cmpI (mag (mapU [a0, a1, a2, a3, a4, a5, a6, a7, a8, a9, a10, a11, a12, a13, a14, a15, a16, a17, a18, a19])) (mag (mapU [b0, b1, b2, b3, b4, b5, b6, b7, b8, b9, b10, b11, b12, b13, b14, b15, b16, b17, b18, b19])) < 0)) (Q (.agg ⟨.bool true :: mapU (subGo [b0, b1, b2, b3, b4, b5, b6, b7, b8, b9, b10, b11, b12, b13, b14, b15, b16, b17, b18, b19] [a0, a1, a2, a3, a4, a5, a6, a7, a8, a9, a10, a11, a12, a13, a14, a15, a16, a17, a18, a19] 0)⟩)) (Q (.agg ⟨.bool false :: mapU (subGo [a0, a1, a2, a3, a4, a5, a6, a7, a8, a9, a10, a11, a12, a13, a14, a15, a16, a17, a18, a19] [b0, b1, b2, b3, b4, b5, b6, b7, b8, b9, b10, b11, b12, b13, b14, b15, b16, b17, b18, b19] 0)⟩))) False := by kernel_rfl
theorem add_tf (a0 a1 a2 a3 a4 a5 a6 a7 a8 a9 a10 a11 a12 a13 a14 a15 a16 a17 a18 a19 b0 b1 b2 b3 b4 b5 b6 b7 b8 b9 b10 b11 b12 b13 b14 b15 b16 b17 b18 b19 : Int) (Q : Value → Prop) : ((ev envR1 300).call [] 35 #[.agg ⟨.bool true :: mapU [a0, a1, a2, a3, a4, a5, a6, a7, a8, a9, a10, a11, a12, a13, a14, a15, a16, a17, a18, a19]⟩, .agg ⟨.bool false :: mapU [b0, b1, b2, b3, b4, b5, b6, b7, b8, b9, b10, b11, b12, b13, b14, b15, b16, b17, b18, b19]⟩] [] B0).holds (fun r => Q r.v) =
  bcase (okNum (mapU [a0, a1, a2, a3, a4, a5, a6, a7, a8, a9, a10, a11, a12, a13, a14, a15, a16, a17, a18, a19]) && okNum (mapU [b0, b1, b2, b3, b4, b5, b6, b7, b8, b9, b10, b11, b12, b13, b14, b15, b16, b17, b18, b19])) (bcase (decide (cmpI (mag (mapU [a0, a1, a2, a3, a4, a5, a6, a7, a8, a9, a10, a11, a12, a13, a14, a15, a16, a17, a18, a19])) (mag (mapU [b0, b1, b2, b3, b4, b5, b6, b7, b8, b9, b10, b11, b12, b13, b14, b15, b16, b17, b18, b19])) < 0)) (Q (.agg ⟨.bool false :: mapU (subGo [b0, b1, b2, b3, b4, b5, b6, b7, b8, b9, b10, b11, b12, b13, b14, b15, b16, b17, b18, b19] [a0, a1, a2, a3, a4, a5, a6, a7, a8, a9, a10, a11, a12, a13, a14, a15, a16, a17, a18, a19] 0)⟩)) (Q (.agg ⟨.bool true :: mapU (subGo [a0, a1, a2, a3, a4, a5, a6, a7, a8, a9, a10, a11, a12, a13, a14, a15, a16, a17, a18, a19] [b0, b1, b2, b3, b4, b5, b6, b7, b8, b9, b10, b11, b12, b13, b14, b15, b16, b17, b18, b19] 0)⟩))) False := by kernel_rfl
theorem cmp_read (s1 s2 : Bool) (a0 a1 a2 a3 a4 a5 a6 a7 a8 a9 a10 a11 a12 a13 a14 a15 a16 a17 a18 a19 b0 b1 b2 b3 b4 b5 b6 b7 b8 b9 b10 b11 b12 b13 b14 b15 b16 b17 b18 b19 : Int) (Q : Value → Prop) (oa : Bool) (e_oa : oa = okNum (mapU [a0, a1, a2, a3, a4, a5, a6, a7, a8, a9, a10, a11, a12, a13, a14, a15, a16, a17, a18, a19])) (ob : Bool) (e_ob : ob = okNum (mapU [b0, b1, b2, b3, b4, b5, b6, b7, b8, b9, b10, b11, b12, b13, b14, b15, b16, b17, b18, b19])) (x1 : Int) (e_1 : x1 = mag (mapU [a0, a1, a2, a3, a4, a5, a6, a7, a8, a9, a10, a11, a12, a13, a14, a15, a16, a17, a18, a19])) (x2 : Int) (e_2 : x2 = mag (mapU [b0, b1, b2, b3, b4, b5, b6, b7, b8, b9, b10, b11, b12, b13, b14, b15, b16, b17, b18, b19])) :
    ((ev envR1 300).call [] 15 #[.agg ⟨.bool s1 :: mapU [a0, a1, a2, a3, a4, a5, a6, a7, a8, a9, a10, a11, a12, a13, a14, a15, a16, a17, a18, a19]⟩, .agg ⟨.bool s2 :: mapU [b0, b1, b2, b3, b4, b5, b6, b7, b8, b9, b10, b11, b12, b13, b14, b15, b16, b17, b18, b19]⟩] [] B0).holds (fun r => Q r.v) =
    bcase s1 (bcase oa (bcase (!(x1 == 0)) (bcase s2 (bcase ob (bcase (!(x2 == 0)) (bcase (ob && oa) (Q (.int .i64 (cmpI x2 x1))) False) (Q (.int .i64 (-1)))) False) (Q (.int .i64 (-1)))) (bcase s2 (bcase ob (bcase (!(x2 == 0)) (Q (.int .i64 1)) (bcase (oa && ob) (Q (.int .i64 (cmpI x1 x2))) False)) False) (bcase (oa && ob) (Q (.int .i64 (cmpI x1 x2))) False))) False) (bcase s2 (bcase ob (bcase (!(x2 == 0)) (Q (.int .i64 1)) (bcase (oa && ob) (Q (.int .i64 (cmpI x1 x2))) False)) False) (bcase (oa && ob) (Q (.int .i64 (cmpI x1 x2))) False)) := by
  subst e_oa e_ob e_1 e_2
  kernel_rfl
/-- The sign of a sum, as the document's sum has it. -/
def addSg (s1 : Bool) (a : Int) (s2 : Bool) (b : Int) : Bool := bif s1 == s2 then s1 else bif decide (a < b) then s2 else s1
def T304 : Int := 32592575621351777380295131014550050576823494298654980010178247189670100796213387298934358016
theorem T304_eq : B16 19 = T304 := by unfold T304 B16; rfl
def raddS : Array Value → Option (Bool × Value)
  | ⟨[.agg ⟨.bool s1 :: r1⟩, .agg ⟨.bool s2 :: r2⟩]⟩ => some (okNum r1 && (okNum r2 && (decide (mag r2 < T304) && decide (mag r1 + mag r2 < T320))), nv (addSg s1 (mag r1) s2 (mag r2)) (sz (sv s1 (mag r1) + sv s2 (mag r2))))
  | _ => none
def rcmpS : Array Value → Option (Bool × Value)
  | ⟨[.agg ⟨.bool s1 :: r1⟩, .agg ⟨.bool s2 :: r2⟩]⟩ => some (okNum r1 && okNum r2, .int .i64 (cmpI (sv s1 (mag r1)) (sv s2 (mag r2))))
  | _ => none
theorem cmp_lt (a b : Int) : decide (cmpI a b < 0) = decide (a < b) := by
  unfold cmpI; split
  · rename_i h; rw [decide_eq_decide]; omega
  · split
    · rename_i h; rw [decide_eq_decide]; omega
    · rw [decide_eq_decide]; omega
theorem add_same (s : Bool) {a b : List Int} (ha : a.length = 20) (hb : b.length = 20) (pa : Pcs a) (pb : Pcs b) (h : val b < T304) (h2 : val a + val b < T320) :
    ∃ a0 r, a = a0 :: r ∧ Value.agg ⟨.bool s :: mapU (addGo r a0 b)⟩ = nv s (val a + val b) := by
  obtain ⟨a0, r, rfl, hr⟩ := cons_of ha
  refine ⟨a0, r, rfl, ?_⟩
  have hv := pa.head
  have ht : val (b.take r.length) = val b := val_take b r.length pb (by rw [hr, T304_eq]; exact h)
  rw [val] at h2
  obtain ⟨g1, g2, g3⟩ := addGo_ok r a0 b pa.tail pb (by omega) hv.1 (by omega) (by rw [ht, hr]; exact (by rw [T320_eq]; exact h2))
  exact nv_of (by rw [g2, hr]) g1 (by rw [g3, ht, val])
theorem sub_that (s : Bool) {a b : List Int} (ha : a.length = 20) (hb : b.length = 20) (pa : Pcs a) (pb : Pcs b) (h : val b ≤ val a) : Value.agg ⟨.bool s :: mapU (subGo a b 0)⟩ = nv s (val a - val b) := by
  obtain ⟨g1, g2, g3⟩ := subGo_ok a b 0 pa pb (by omega) (by omega) (by omega) (by omega)
  exact nv_of (by rw [g2, ha]) g1 (by rw [g3]; omega)
set_option maxHeartbeats 1000000 in
def pcRAdd : PC Tryd.prog where
  f := 35
  spec := raddS
  body := by kernel_rfl
  ok := fun args r hr hok => by
    unfold raddS at hr
    split at hr
    · rename_i s1 r1 s2 r2
      cases hr
      simp only [Bool.and_eq_true, decide_eq_true_eq] at hok
      obtain ⟨k1, k2, k3, k4⟩ := hok
      obtain ⟨a, rfl, hl1, hp1, hm1⟩ := num_out k1
      obtain ⟨b, rfl, hl2, hp2, hm2⟩ := num_out k2
      have hb : (#[Value.agg ⟨.bool s1 :: mapU a⟩, Value.agg ⟨.bool s2 :: mapU b⟩] : Array Value).all (bel B0) = true := all_bel (by rw [belL, bel_num, belL, bel_num]; rfl)
      refine ⟨hb, bel_nv _ _, fun w => calls_spec envR1 hcokP 300 ?_ hb (bel_nv _ _) w⟩
      have na := (val_bd hp1).1
      have nb := (val_bd hp2).1
      rw [hm1, hm2] at k4
      rw [hm2] at k3
      have same : ∀ s, ∃ a0 r, a = a0 :: r ∧ Value.agg ⟨.bool s :: mapU (addGo r a0 b)⟩ = nv s (val a + val b) := fun s => add_same s hl1 hl2 hp1 hp2 k3 k4
      have lt : ∀ s, val b ≤ val a → Value.agg ⟨.bool s :: mapU (subGo a b 0)⟩ = nv s (val a - val b) := fun s => sub_that s hl1 hl2 hp1 hp2
      have gt : ∀ s, val a ≤ val b → Value.agg ⟨.bool s :: mapU (subGo b a 0)⟩ = nv s (val b - val a) := fun s => sub_that s hl2 hl1 hp2 hp1
      clear hp1 hp2 hb k3 k4
      show Tree.holds (fun r : VR => r.v = nv (addSg s1 (mag (mapU a)) s2 (mag (mapU b))) (sz (sv s1 (mag (mapU a)) + sv s2 (mag (mapU b))))) _
      generalize hx : mag (mapU a) = x at *
      generalize hy : mag (mapU b) = y at *
      simp only [← hm1, ← hm2] at same lt gt na nb
      clear hm1 hm2
      obtain ⟨a0, a1, a2, a3, a4, a5, a6, a7, a8, a9, a10, a11, a12, a13, a14, a15, a16, a17, a18, a19, rfl⟩ := list20 hl1
      obtain ⟨b0, b1, b2, b3, b4, b5, b6, b7, b8, b9, b10, b11, b12, b13, b14, b15, b16, b17, b18, b19, rfl⟩ := list20 hl2
      cases s1 <;> cases s2
      · refine (add_ff a0 a1 a2 a3 a4 a5 a6 a7 a8 a9 a10 a11 a12 a13 a14 a15 a16 a17 a18 a19 b0 b1 b2 b3 b4 b5 b6 b7 b8 b9 b10 b11 b12 b13 b14 b15 b16 b17 b18 b19 (fun v => v = nv (addSg false x false y) (sz (sv false x + sv false y)))).mpr ?_
        obtain ⟨c, r, e, h⟩ := same false
        cases e
        rw [h]
        have e : sz (sv false x + sv false y) = x + y := by unfold sz sv; simp only [cond_false]; omega
        rw [e]; rfl
      · refine (add_ft a0 a1 a2 a3 a4 a5 a6 a7 a8 a9 a10 a11 a12 a13 a14 a15 a16 a17 a18 a19 b0 b1 b2 b3 b4 b5 b6 b7 b8 b9 b10 b11 b12 b13 b14 b15 b16 b17 b18 b19 (fun v => v = nv (addSg false x true y) (sz (sv false x + sv true y)))).mpr ?_
        rw [k1, k2, Bool.and_self, bcase_t, hx, hy, cmp_lt]
        refine bcase_in (fun q => ?_) fun q => ?_
        · rw [decide_eq_true_eq] at q
          rw [gt true (by omega)]
          have e : sz (sv false x + sv true y) = y - x := by unfold sz sv; simp only [cond_false, cond_true]; omega
          have e2 : addSg false x true y = true := by unfold addSg; rw [decide_eq_true q]; rfl
          rw [e, e2]
        · rw [decide_eq_false_iff_not] at q
          rw [lt false (by omega)]
          have e : sz (sv false x + sv true y) = x - y := by unfold sz sv; simp only [cond_false, cond_true]; omega
          have e2 : addSg false x true y = false := by unfold addSg; rw [decide_eq_false q]; rfl
          rw [e, e2]
      · refine (add_tf a0 a1 a2 a3 a4 a5 a6 a7 a8 a9 a10 a11 a12 a13 a14 a15 a16 a17 a18 a19 b0 b1 b2 b3 b4 b5 b6 b7 b8 b9 b10 b11 b12 b13 b14 b15 b16 b17 b18 b19 (fun v => v = nv (addSg true x false y) (sz (sv true x + sv false y)))).mpr ?_
        rw [k1, k2, Bool.and_self, bcase_t, hx, hy, cmp_lt]
        refine bcase_in (fun q => ?_) fun q => ?_
        · rw [decide_eq_true_eq] at q
          rw [gt false (by omega)]
          have e : sz (sv true x + sv false y) = y - x := by unfold sz sv; simp only [cond_false, cond_true]; omega
          have e2 : addSg true x false y = false := by unfold addSg; rw [decide_eq_true q]; rfl
          rw [e, e2]
        · rw [decide_eq_false_iff_not] at q
          rw [lt true (by omega)]
          have e : sz (sv true x + sv false y) = x - y := by unfold sz sv; simp only [cond_false, cond_true]; omega
          have e2 : addSg true x false y = true := by unfold addSg; rw [decide_eq_false q]; rfl
          rw [e, e2]
      · refine (add_tt a0 a1 a2 a3 a4 a5 a6 a7 a8 a9 a10 a11 a12 a13 a14 a15 a16 a17 a18 a19 b0 b1 b2 b3 b4 b5 b6 b7 b8 b9 b10 b11 b12 b13 b14 b15 b16 b17 b18 b19 (fun v => v = nv (addSg true x true y) (sz (sv true x + sv true y)))).mpr ?_
        obtain ⟨c, r, e, h⟩ := same true
        cases e
        rw [h]
        have e : sz (sv true x + sv true y) = x + y := by unfold sz sv; simp only [cond_true]; omega
        rw [e]; rfl
    · cases hr
theorem intE {a b : Int} (h : a = b) : Value.int .i64 a = .int .i64 b := by rw [h]
set_option maxHeartbeats 1000000 in
def pcRCmp : PC Tryd.prog where
  f := 15
  spec := rcmpS
  body := by kernel_rfl
  ok := fun args r hr hok => by
    unfold rcmpS at hr
    split at hr
    · rename_i s1 r1 s2 r2
      cases hr
      simp only [Bool.and_eq_true] at hok
      obtain ⟨k1, k2⟩ := hok
      have na := (mag_bd k1).1
      have nb := (mag_bd k2).1
      obtain ⟨a, rfl, hl1, hp1, hm1⟩ := num_out k1
      obtain ⟨b, rfl, hl2, hp2, hm2⟩ := num_out k2
      have hb : (#[Value.agg ⟨.bool s1 :: mapU a⟩, Value.agg ⟨.bool s2 :: mapU b⟩] : Array Value).all (bel B0) = true := all_bel (by rw [belL, bel_num, belL, bel_num]; rfl)
      refine ⟨hb, rfl, fun w => calls_spec envR1 hcokP 300 ?_ hb rfl w⟩
      obtain ⟨a0, a1, a2, a3, a4, a5, a6, a7, a8, a9, a10, a11, a12, a13, a14, a15, a16, a17, a18, a19, rfl⟩ := list20 hl1
      obtain ⟨b0, b1, b2, b3, b4, b5, b6, b7, b8, b9, b10, b11, b12, b13, b14, b15, b16, b17, b18, b19, rfl⟩ := list20 hl2
      refine (cmp_read s1 s2 a0 a1 a2 a3 a4 a5 a6 a7 a8 a9 a10 a11 a12 a13 a14 a15 a16 a17 a18 a19 b0 b1 b2 b3 b4 b5 b6 b7 b8 b9 b10 b11 b12 b13 b14 b15 b16 b17 b18 b19 (fun v => v = .int .i64 (cmpI (sv s1 (mag (mapU [a0, a1, a2, a3, a4, a5, a6, a7, a8, a9, a10, a11, a12, a13, a14, a15, a16, a17, a18, a19]))) (sv s2 (mag (mapU [b0, b1, b2, b3, b4, b5, b6, b7, b8, b9, b10, b11, b12, b13, b14, b15, b16, b17, b18, b19]))))) _ rfl _ rfl _ rfl _ rfl).mpr ?_
      rw [k1, k2]
      simp only [Bool.and_self, bcase_t]
      clear k1 k2 hm1 hm2 hp1 hp2 hb hl1 hl2
      generalize mag (mapU [a0, a1, a2, a3, a4, a5, a6, a7, a8, a9, a10, a11, a12, a13, a14, a15, a16, a17, a18, a19]) = x at *
      generalize mag (mapU [b0, b1, b2, b3, b4, b5, b6, b7, b8, b9, b10, b11, b12, b13, b14, b15, b16, b17, b18, b19]) = y at *
      cases s1 <;> cases s2 <;> simp only [sv, cond_true, cond_false, bcase_t, bcase_n]
      · refine bcase_in (fun q => intE ?_) fun q => intE ?_
        · have q' : y ≠ 0 := by simpa using q
          unfold cmpI; (repeat' split) <;> omega
        · have q' : y = 0 := by simpa using q
          unfold cmpI; (repeat' split) <;> omega
      · refine bcase_in (fun q => intE ?_) fun q => intE ?_
        · have q' : x ≠ 0 := by simpa using q
          unfold cmpI; (repeat' split) <;> omega
        · have q' : x = 0 := by simpa using q
          unfold cmpI; (repeat' split) <;> omega
      · refine bcase_in (fun q => ?_) fun q => ?_
        · have q' : x ≠ 0 := by simpa using q
          refine bcase_in (fun p => intE ?_) fun p => intE ?_
          · have p' : y ≠ 0 := by simpa using p
            unfold cmpI; (repeat' split) <;> omega
          · have p' : y = 0 := by simpa using p
            unfold cmpI; (repeat' split) <;> omega
        · have q' : x = 0 := by simpa using q
          refine bcase_in (fun p => intE ?_) fun p => intE ?_
          · have p' : y ≠ 0 := by simpa using p
            unfold cmpI; (repeat' split) <;> omega
          · have p' : y = 0 := by simpa using p
            unfold cmpI; (repeat' split) <;> omega
    · cases hr
def envR2 : Env Tryd.prog := envS.with false [pcROf, pcRNum, pcRZero, pcRSize, pcRMul, pcRAdd, pcRCmp]
end

end Go.Proofs.YtfjfmcnnakfjnaaDoor


/-
  The document's numbers from wide ones, and as such.
-/

namespace Go.Proofs.YtfjfmcnnakfjnaaDoor

open Go.Den Go.RowKit
noncomputable section
set_option maxRecDepth 100000

def mostL : List Int := [65535, 65535, 65535, 65535, 65535, 65535, 65535, 32767, 0, 0, 0, 0, 0, 0, 0, 0, 0, 0, 0, 0]
def leastL : List Int := [0, 0, 0, 0, 0, 0, 0, 32768, 0, 0, 0, 0, 0, 0, 0, 0, 0, 0, 0, 0]
def topL : List Int := [0, 0, 0, 0, 1, 0, 0, 0, 0, 0, 0, 0, 0, 0, 0, 0, 0, 0, 0, 0]
def stp (h p : Int) : Int := IntKind.wrap .u64 (IntKind.wrap .u64 (65536 * h) + p)
def st4 (a b c d : Int) : Int := stp (stp (stp (stp 0 d) c) b) a
theorem wide_read (s1 : Bool) (a0 a1 a2 a3 a4 a5 a6 a7 a8 a9 a10 a11 a12 a13 a14 a15 a16 a17 a18 a19 : Int) (Q : Value → Prop) (oa : Bool) (e_oa : oa = okNum (mapU [a0, a1, a2, a3, a4, a5, a6, a7, a8, a9, a10, a11, a12, a13, a14, a15, a16, a17, a18, a19])) (x : Int) (e_x : x = sv s1 (mag (mapU [a0, a1, a2, a3, a4, a5, a6, a7, a8, a9, a10, a11, a12, a13, a14, a15, a16, a17, a18, a19]))) (u : Int) (e_u : u = st4 a4 a5 a6 a7) (v : Int) (e_v : v = st4 a0 a1 a2 a3) :
    ((ev envR2 300).call [] 21 #[.agg ⟨.bool s1 :: mapU [a0, a1, a2, a3, a4, a5, a6, a7, a8, a9, a10, a11, a12, a13, a14, a15, a16, a17, a18, a19]⟩] [] B0).holds (fun r => Q r.v) =
    bcase (oa && okNum (mapU mostL)) (bcase (decide (cmpI x (sv false (mag (mapU mostL))) > 0)) (Q (.agg ⟨[.int .i64 9223372036854775807, .int .u64 18446744073709551615]⟩))
      (bcase (oa && okNum (mapU leastL)) (bcase (decide (cmpI x (sv true (mag (mapU leastL))) < 0)) (Q (.agg ⟨[.int .i64 (-9223372036854775808), .int .u64 0]⟩))
        (bcase s1 (bcase (decide (v > 0)) (Q (.agg ⟨[.int .i64 (IntKind.wrap .i64 (IntKind.wrap .u64 (IntKind.wrap .u64 (0 - u) - 1))), .int .u64 (IntKind.wrap .u64 (0 - v))]⟩)) (Q (.agg ⟨[.int .i64 (IntKind.wrap .i64 (IntKind.wrap .u64 (0 - u))), .int .u64 (IntKind.wrap .u64 (0 - v))]⟩)))
          (Q (.agg ⟨[.int .i64 (IntKind.wrap .i64 u), .int .u64 v]⟩)))) False)) False := by
  subst e_oa e_x e_u e_v
  kernel_rfl
theorem from_read (h l : Int) (Q : Value → Prop) (z : Int) (e_z : z = mag (mapU (digsN 20 (sz h)))) (m : Int) (e_m : m = mag (mapU (digsN 20 (z * mag (mapU topL))))) (y : Int) (e_y : y = mag (mapU (digsN 20 l))) :
    ((ev envR2 300).call [] 18 #[.agg #[.int .i64 h, .int .u64 l]] [] B0).holds (fun r => Q r.v) =
    bcase (okI h) (bcase (okNum (mapU (digsN 20 (sz h))) && (okNum (mapU topL) && decide (z * mag (mapU topL) < T320)))
      (bcase (okU l) (bcase (okNum (mapU (digsN 20 (z * mag (mapU topL)))) && (okNum (mapU (digsN 20 l)) && (decide (y < T304) && decide (m + y < T320))))
        (Q (nv (addSg (decide (h < 0) != false) m false y) (sz (sv (decide (h < 0) != false) m + sv false y)))) False) False) False) False := by
  subst e_m e_y e_z
  kernel_rfl
theorem ok_most : okNum (mapU mostL) = true := by kernel_rfl
theorem ok_least : okNum (mapU leastL) = true := by kernel_rfl
theorem ok_top : okNum (mapU topL) = true := by kernel_rfl
theorem mag_most : sv false (mag (mapU mostL)) = 170141183460469231731687303715884105727 := by kernel_rfl
theorem mag_least : sv true (mag (mapU leastL)) = -170141183460469231731687303715884105728 := by kernel_rfl
theorem mag_top : mag (mapU topL) = 18446744073709551616 := by kernel_rfl
theorem cmp_gt (a b : Int) : decide (cmpI a b > 0) = decide (b < a) := by
  unfold cmpI; split
  · rename_i h; rw [decide_eq_decide]; omega
  · split
    · rename_i h; rw [decide_eq_decide]; omega
    · rw [decide_eq_decide]; omega
theorem st4_eq {a b c d : Int} (ha : 0 ≤ a ∧ a ≤ 65535) (hb : 0 ≤ b ∧ b ≤ 65535) (hc : 0 ≤ c ∧ c ≤ 65535) (hd : 0 ≤ d ∧ d ≤ 65535) : st4 a b c d = a + 65536 * b + 4294967296 * c + 281474976710656 * d := by
  have s1 : ∀ h p : Int, 0 ≤ h → h ≤ 281474976710655 → 0 ≤ p → p ≤ 65535 → stp h p = 65536 * h + p := fun h p h0 h1 p0 p1 => by
    unfold stp; rw [w64 (n := 65536 * h) (by omega) (by omega)]; exact w64 (by omega) (by omega)
  unfold st4
  rw [s1 0 d (by omega) (by omega) hd.1 hd.2, s1 _ c (by omega) (by omega) hc.1 hc.2, s1 _ b (by omega) (by omega) hb.1 hb.2, s1 _ a (by omega) (by omega) ha.1 ha.2]
  omega
def rwideS : Array Value → Option (Bool × Value)
  | ⟨[.agg ⟨.bool s :: r⟩]⟩ => some (okNum r, wv (clamp (sv s (mag r))))
  | _ => none
def rfromS : Array Value → Option (Bool × Value)
  | ⟨[.agg ⟨[.int .i64 h, .int .u64 l]⟩]⟩ => some (okW h l, nv (decide (W2 h l < 0)) (sz (W2 h l)))
  | _ => none
theorem wideE {a b n : Int} (h0 : 0 ≤ b) (h1 : b ≤ 18446744073709551615) (e : a * 18446744073709551616 + b = n) : Value.agg ⟨[.int .i64 a, .int .u64 b]⟩ = wv n := by
  unfold wv; rw [hi_of h0 h1 e, lo_of h0 h1 e]
set_option maxHeartbeats 2000000 in
def pcRWide : PC Tryd.prog where
  f := 21
  spec := rwideS
  body := by kernel_rfl
  ok := fun args r hr hok => by
    unfold rwideS at hr
    split at hr
    · rename_i s r
      cases hr
      have hok' : okNum r = true := hok
      obtain ⟨l, rfl, hl, hp, hm⟩ := num_out hok'
      have hb : (#[Value.agg ⟨.bool s :: mapU l⟩] : Array Value).all (bel B0) = true := all_bel (by rw [belL, bel_num]; rfl)
      refine ⟨hb, rfl, fun w => calls_spec envR2 hcokP 300 ?_ hb rfl w⟩
      obtain ⟨a0, a1, a2, a3, a4, a5, a6, a7, a8, a9, a10, a11, a12, a13, a14, a15, a16, a17, a18, a19, rfl⟩ := list20 hl
      refine (wide_read s a0 a1 a2 a3 a4 a5 a6 a7 a8 a9 a10 a11 a12 a13 a14 a15 a16 a17 a18 a19 (fun v => v = wv (clamp (sv s (mag (mapU [a0, a1, a2, a3, a4, a5, a6, a7, a8, a9, a10, a11, a12, a13, a14, a15, a16, a17, a18, a19]))))) _ rfl _ rfl _ rfl _ rfl).mpr ?_
      have hok2 : okNum (mapU [a0, a1, a2, a3, a4, a5, a6, a7, a8, a9, a10, a11, a12, a13, a14, a15, a16, a17, a18, a19]) = true := hok
      rw [hok2, ok_most, ok_least, mag_most, mag_least, Bool.and_self, bcase_t, bcase_t, cmp_gt, cmp_lt, hm]
      have pt := hp.tail.tail.tail.tail.tail.tail.tail.tail
      have hv := (val_bd pt).1
      have b0 := hp.head; have b1 := hp.tail.head; have b2 := hp.tail.tail.head; have b3 := hp.tail.tail.tail.head
      have b4 := hp.tail.tail.tail.tail.head; have b5 := hp.tail.tail.tail.tail.tail.head; have b6 := hp.tail.tail.tail.tail.tail.tail.head; have b7 := hp.tail.tail.tail.tail.tail.tail.tail.head
      have ev8 : val [a0, a1, a2, a3, a4, a5, a6, a7, a8, a9, a10, a11, a12, a13, a14, a15, a16, a17, a18, a19] = a0 + 65536 * (a1 + 65536 * (a2 + 65536 * (a3 + 65536 * (a4 + 65536 * (a5 + 65536 * (a6 + 65536 * (a7 + 65536 * val [a8, a9, a10, a11, a12, a13, a14, a15, a16, a17, a18, a19]))))))) := rfl
      rw [st4_eq b0 b1 b2 b3, st4_eq b4 b5 b6 b7]
      generalize val [a0, a1, a2, a3, a4, a5, a6, a7, a8, a9, a10, a11, a12, a13, a14, a15, a16, a17, a18, a19] = N at *
      generalize val [a8, a9, a10, a11, a12, a13, a14, a15, a16, a17, a18, a19] = V at *
      clear hok hok2 hok' hb hp pt hl hm
      obtain ⟨lo8, hlo⟩ : ∃ x, x = a0 + 65536 * a1 + 4294967296 * a2 + 281474976710656 * a3 := ⟨_, rfl⟩
      obtain ⟨hi8, hhi⟩ : ∃ x, x = a4 + 65536 * a5 + 4294967296 * a6 + 281474976710656 * a7 := ⟨_, rfl⟩
      rw [← hlo, ← hhi]
      have l0 : 0 ≤ lo8 ∧ lo8 ≤ 18446744073709551615 := by omega
      have h0 : 0 ≤ hi8 ∧ hi8 ≤ 18446744073709551615 := by omega
      have eN : N = lo8 + 18446744073709551616 * hi8 + 340282366920938463463374607431768211456 * V := by omega
      clear ev8 hlo hhi b0 b1 b2 b3 b4 b5 b6 b7
      refine bcase_in (fun q => ?_) fun q => bcase_in (fun q2 => ?_) fun q2 => ?_
      · rw [decide_eq_true_eq] at q
        refine wideE (by omega) (by omega) ?_
        unfold clamp; omega
      · rw [decide_eq_true_eq] at q2
        refine wideE (by omega) (by omega) ?_
        unfold clamp; omega
      · rw [decide_eq_false_iff_not] at q q2
        rw [clamp_of (by unfold InR; omega)]
        cases s
        · simp only [bcase_n, sv, cond_false] at *
          refine wideE l0.1 l0.2 ?_
          rw [IntKind.wrap_i64]; omega
        · simp only [bcase_t, sv, cond_true] at *
          have wv0 : IntKind.u64.wrap (0 - lo8) = if lo8 = 0 then 0 else 18446744073709551616 - lo8 := by rw [IntKind.wrap_u64]; split <;> omega
          have wh0 : IntKind.u64.wrap (0 - hi8) = if hi8 = 0 then 0 else 18446744073709551616 - hi8 := by rw [IntKind.wrap_u64]; split <;> omega
          rw [wv0, wh0]
          refine bcase_in (fun q3 => ?_) fun q3 => ?_
          · rw [decide_eq_true_eq] at q3
            refine wideE (by split <;> omega) (by split <;> omega) ?_
            rw [IntKind.wrap_u64, IntKind.wrap_i64]
            split <;> split <;> omega
          · rw [decide_eq_false_iff_not] at q3
            refine wideE (by split <;> omega) (by split <;> omega) ?_
            rw [IntKind.wrap_i64]
            split <;> split <;> omega
    · cases hr
theorem nvE {s s' : Bool} {n n' : Int} (h : s = s') (h2 : n = n') : nv s n = nv s' n' := by rw [h, h2]
def pcRFrom : PC Tryd.prog where
  f := 18
  spec := rfromS
  body := by kernel_rfl
  ok := fun args r hr hok => by
    unfold rfromS at hr
    split at hr
    · rename_i h l
      cases hr
      have hok' : okW h l = true := hok
      have b := okW_iff.1 hok'
      have kI : okI h = true := okI_iff.2 b.1
      have kU : okU l = true := okU_iff.2 b.2
      refine ⟨all_bel rfl, bel_nv _ _, fun w => calls_spec envR2 hcokP 300 ?_ (all_bel rfl) (bel_nv _ _) w⟩
      have z0 : 0 ≤ sz h ∧ sz h ≤ 9223372036854775808 := by unfold sz; omega
      have e1 : mag (mapU (digsN 20 (sz h))) = sz h := mag_nv z0.1 (by unfold T320; omega)
      have e2 : mag (mapU (digsN 20 (sz h * 18446744073709551616))) = sz h * 18446744073709551616 := mag_nv (by omega) (by unfold T320; omega)
      have e3 : mag (mapU (digsN 20 l)) = l := mag_nv (by omega) (by unfold T320; omega)
      refine (from_read h l (fun v => v = nv (decide (W2 h l < 0)) (sz (W2 h l))) _ rfl _ rfl _ rfl).mpr ?_
      rw [mag_top, e1, e2, e3, kI, kU, ok_nv, ok_nv, ok_nv, ok_top, decide_eq_true (show sz h * 18446744073709551616 < T320 by unfold T320; omega), decide_eq_true (show l < T304 by unfold T304; omega),
        decide_eq_true (show sz h * 18446744073709551616 + l < T320 by unfold T320; omega)]
      simp only [Bool.and_self, bcase_t]
      have ew : W2 h l = h * 18446744073709551616 + l := rfl
      rw [ew]
      cases hd : decide (h < 0)
      · rw [decide_eq_false_iff_not] at hd
        refine nvE ?_ ?_
        · rw [decide_eq_false (by omega)]; rfl
        · have e : sz h = h := by unfold sz; omega
          rw [e]; rfl
      · rw [decide_eq_true_eq] at hd
        have e : sz h = -h := by unfold sz; omega
        refine nvE ?_ ?_
        · rw [decide_eq_true (by omega)]
          have : addSg true (sz h * 18446744073709551616) false l = true := by
            unfold addSg; rw [decide_eq_false (show ¬ sz h * 18446744073709551616 < l by omega)]; rfl
          exact this
        · have : sv (true != false) (sz h * 18446744073709551616) + sv false l = h * 18446744073709551616 + l := by
            rw [e]; show -(-h * 18446744073709551616) + l = _; omega
          rw [this]
    · cases hr
def pcsR : List (PC Tryd.prog) := [pcRWide, pcRFrom, pcROf, pcRNum, pcRZero, pcRSize, pcRMul, pcRAdd, pcRCmp]
def envR3 : Env Tryd.prog := envS.with false pcsR
end

end Go.Proofs.YtfjfmcnnakfjnaaDoor


/-
  Signs and sizes of the document's numbers. No program is named here.
-/

namespace Go.Proofs.YtfjfmcnnakfjnaaDoor

open Go.Den

theorem sv_sz (A : Int) : sv (decide (A < 0)) (sz A) = A := by
  unfold sv sz
  cases h : decide (A < 0)
  · rw [decide_eq_false_iff_not] at h; simp only [cond_false]; omega
  · rw [decide_eq_true_eq] at h; simp only [cond_true]; omega
theorem sv_nsz (A : Int) : sv (!decide (A < 0)) (sz A) = -A := by
  unfold sv sz
  cases h : decide (A < 0)
  · rw [decide_eq_false_iff_not] at h; simp only [Bool.not_false, cond_true]; omega
  · rw [decide_eq_true_eq] at h; simp only [Bool.not_true, cond_false]; omega
theorem sv_f (n : Int) : sv false n = n := rfl
theorem sz_nn (n : Int) : 0 ≤ sz n := by unfold sz; omega
theorem sv_addSg {a b : Int} (ha : 0 ≤ a) (hb : 0 ≤ b) (s1 s2 : Bool) : sv (addSg s1 a s2 b) (sz (sv s1 a + sv s2 b)) = sv s1 a + sv s2 b := by
  cases s1 <;> cases s2
  · have e : addSg false a false b = false := rfl
    rw [e]; simp only [sv, cond_false, sz]; omega
  · by_cases h : a < b
    · have e : addSg false a true b = true := by unfold addSg; rw [decide_eq_true h]; rfl
      rw [e]; simp only [sv, cond_false, cond_true, sz]; omega
    · have e : addSg false a true b = false := by unfold addSg; rw [decide_eq_false h]; rfl
      rw [e]; simp only [sv, cond_false, cond_true, sz]; omega
  · by_cases h : a < b
    · have e : addSg true a false b = false := by unfold addSg; rw [decide_eq_true h]; rfl
      rw [e]; simp only [sv, cond_false, cond_true, sz]; omega
    · have e : addSg true a false b = true := by unfold addSg; rw [decide_eq_false h]; rfl
      rw [e]; simp only [sv, cond_false, cond_true, sz]; omega
  · have e : addSg true a true b = true := rfl
    rw [e]; simp only [sv, cond_true, sz]; omega
theorem cmpI_self (a : Int) : cmpI a a = 0 := by unfold cmpI; rw [if_pos rfl]
/-- The size of a number that is small beside T304. -/
theorem mag_sz {n : Int} (h0 : -680564733841876926926749214863536422912 ≤ n) (h1 : n ≤ 680564733841876926926749214863536422912) : mag (mapU (digsN 20 (sz n))) = sz n :=
  mag_nv (sz_nn n) (by unfold T320 sz; omega)
theorem sz_sv (A : Int) : sz (sz A) = sz A := by unfold sz; omega
end Go.Proofs.YtfjfmcnnakfjnaaDoor


/-
  Plain facts of decimal numerals: what is told of a number, and what is read of a text. No program is named here.
-/




namespace Go.Proofs.YtfjfmcnnakfjnaaDoor

open Go.Lib

def isDig (c : UInt8) : Bool := decide (48 ≤ c.toNat) && decide (c.toNat ≤ 57)
/-- A digit more, of a number's sign; what saturates. -/
def uwNext (neg : Bool) (w : Int) (d : Int) : Int := clamp (clamp (w * 10) + (if neg then -d else d))
def uwGo (neg : Bool) : List UInt8 → Int → Option Int
  | [], w => some w
  | c :: r, w => if isDig c then uwGo neg r (uwNext neg w ((c.toNat : Int) - 48)) else none
/-- The wide number of a text. -/
def uwS (l : List UInt8) : Option Int := if 40 < l.length then none else (uwGo (hasPrefix l [45]) (trimPrefix l [45]) 0).bind fun w => if itoa w = l then some w else none
def udS (l : List UInt8) : Option Int := (uwS l).bind fun w => if -9223372036854775808 ≤ w ∧ w ≤ 9223372036854775807 then some w else none
def uuS (l : List UInt8) : Option Int := (uwS l).bind fun w => if 0 ≤ w ∧ w ≤ 18446744073709551615 then some w else none

theorem uwGo_app (neg : Bool) : ∀ (a b : List UInt8) (w : Int), uwGo neg (a ++ b) w = (uwGo neg a w).bind (uwGo neg b)
  | [], b, w => rfl
  | c :: r, b, w => by
    simp only [List.cons_append, uwGo]
    split
    · exact uwGo_app neg r b _
    · rfl
theorem uwGo_in (neg : Bool) : ∀ (a : List UInt8) (w v : Int), InR w → uwGo neg a w = some v → InR v
  | [], w, v, h, e => by simp only [uwGo, Option.some.injEq] at e; subst e; exact h
  | c :: r, w, v, h, e => by
    simp only [uwGo] at e
    split at e
    · exact uwGo_in neg r _ v (clamp_in _) e
    · cases e
theorem uwGo_bad (neg : Bool) : ∀ (a b : List UInt8) (c : UInt8) (w : Int), isDig c = false → uwGo neg (a ++ c :: b) w = none
  | [], b, c, w, h => by simp [uwGo, h]
  | x :: r, b, c, w, h => by
    simp only [List.cons_append, uwGo]
    split
    · exact uwGo_bad neg r b c _ h
    · rfl
def svN (neg : Bool) (u : Nat) : Int := if neg then -(u : Int) else u
theorem dig_nat {d : Nat} (h : d < 10) : (UInt8.ofNat (48 + d)).toNat = 48 + d := by simp; omega
theorem isDig_of {d : Nat} (h : d < 10) : isDig (UInt8.ofNat (48 + d)) = true := by
  unfold isDig; rw [dig_nat h]; simp; omega
theorem decDigits_dig : ∀ (u : Nat), ∀ c ∈ decDigits u, isDig c = true := by
  intro u
  induction u using Nat.strongRecOn with
  | _ u ih =>
    intro c hc
    rw [decDigits] at hc
    split at hc
    · rw [List.mem_singleton] at hc; subst hc; exact isDig_of (by omega)
    · rcases List.mem_append.1 hc with h | h
      · exact ih (u / 10) (by omega) c h
      · rw [List.mem_singleton] at h; subst h; exact isDig_of (by omega)
theorem svN_in {neg : Bool} {u v : Nat} (h : InR (svN neg u)) (hv : v ≤ u) : InR (svN neg v) := by
  unfold InR svN at *; cases neg <;> simp at h ⊢ <;> omega
theorem uwNext_svN {neg : Bool} {u : Nat} (h : InR (svN neg u)) : uwNext neg (svN neg (u / 10)) ((u % 10 : Nat) : Int) = svN neg u := by
  have h1 : InR (svN neg (u / 10) * 10) := by unfold InR svN at *; cases neg <;> simp at h ⊢ <;> omega
  unfold uwNext
  rw [clamp_of h1]
  have e : svN neg (u / 10) * 10 + (if neg then -((u % 10 : Nat) : Int) else ((u % 10 : Nat) : Int)) = svN neg u := by unfold svN; cases neg <;> simp <;> omega
  rw [e, clamp_of h]
theorem svN_zero (neg : Bool) : svN neg 0 = 0 := by unfold svN; split <;> rfl
theorem uwGo_dec (neg : Bool) : ∀ (u : Nat), InR (svN neg u) → uwGo neg (decDigits u) 0 = some (svN neg u) := by
  intro u
  induction u using Nat.strongRecOn with
  | _ u ih =>
    intro h
    rw [decDigits]
    split
    · rename_i hu
      have := uwNext_svN h
      rw [show u / 10 = 0 by omega, svN_zero, show u % 10 = u by omega] at this
      simp only [uwGo, isDig_of hu, if_true, dig_nat hu]
      rw [show (((48 + u : Nat) : Int) - 48) = (u : Int) by omega, this]
    · rename_i hu
      rw [uwGo_app, ih (u / 10) (by omega) (svN_in h (by omega))]
      have h2 : u % 10 < 10 := Nat.mod_lt _ (by decide)
      simp only [Option.bind_some, uwGo, isDig_of h2, if_true, dig_nat h2]
      rw [show (((48 + u % 10 : Nat) : Int) - 48) = ((u % 10 : Nat) : Int) by omega, uwNext_svN h]
theorem nDigits_le : ∀ (k u : Nat), u < 10 ^ (k + 1) → nDigits u ≤ k + 1
  | 0, u, h => by rw [nDigits_small (by simpa using h)]; exact Nat.le_refl _
  | k + 1, u, h => by
    by_cases hu : u < 10
    · rw [nDigits_small hu]; omega
    · rw [nDigits_big hu]
      have := nDigits_le k (u / 10) (by rw [Nat.pow_succ] at h; omega)
      omega
theorem nDigits_mono : ∀ (b a : Nat), a ≤ b → nDigits a ≤ nDigits b := by
  intro b
  induction b using Nat.strongRecOn with
  | _ b ih =>
    intro a h
    by_cases ha : a < 10
    · rw [nDigits_small ha]; exact nDigits_pos b
    · rw [nDigits_big ha, nDigits_big (show ¬ b < 10 by omega)]
      have := ih (b / 10) (by omega) (a / 10) (by omega)
      omega
theorem itoa_len {n : Int} (h : InR n) : (itoa n).length ≤ 40 := by
  unfold InR at h
  unfold itoa
  split
  · rw [List.length_cons, decDigits_length]
    have := nDigits_le 38 n.natAbs (by omega)
    omega
  · rw [decDigits_length]
    have := nDigits_le 38 n.toNat (by omega)
    omega
theorem decDigits_ne (u : Nat) : decDigits u ≠ [] := by
  intro h
  have h1 := decDigits_length u
  rw [h] at h1
  have := nDigits_pos u
  simp at h1; omega
theorem dec_noMinus (u : Nat) : hasPrefix (decDigits u) [45] = false := by
  cases h : decDigits u with
  | nil => rfl
  | cons c r =>
    have hc := decDigits_dig u c (by rw [h]; exact List.mem_cons_self)
    unfold hasPrefix
    simp only [List.isPrefixOf, Bool.and_true]
    rw [beq_eq_false_iff_ne]
    rintro rfl
    simp [isDig] at hc
theorem uw_itoa {n : Int} (h : InR n) : uwS (itoa n) = some n := by
  have hl := itoa_len h
  unfold uwS
  rw [if_neg (by omega)]
  have key : uwGo (hasPrefix (itoa n) [45]) (trimPrefix (itoa n) [45]) 0 = some n := by
    rcases (by omega : n < 0 ∨ 0 ≤ n) with hn | hn
    · have e : itoa n = 45 :: decDigits n.natAbs := by unfold itoa; rw [if_pos hn]
      have e2 : hasPrefix (itoa n) [45] = true := by rw [e]; simp [hasPrefix, List.isPrefixOf]
      have e3 : svN true n.natAbs = n := by unfold svN; simp; omega
      unfold trimPrefix
      rw [e2, if_pos rfl, e]
      have := uwGo_dec true n.natAbs (by rw [e3]; exact h)
      rw [e3] at this
      exact this
    · have e : itoa n = decDigits n.toNat := by unfold itoa; rw [if_neg (by omega)]
      have e2 : hasPrefix (itoa n) [45] = false := by rw [e]; exact dec_noMinus _
      have e3 : svN false n.toNat = n := by unfold svN; simp; omega
      unfold trimPrefix
      rw [e2, if_neg (by simp), e]
      have := uwGo_dec false n.toNat (by rw [e3]; exact h)
      rw [e3] at this
      exact this
  rw [key]
  simp
theorem zero_in : InR 0 := by unfold InR; omega
theorem uw_some {l : List UInt8} {w : Int} (h : uwS l = some w) : itoa w = l ∧ InR w := by
  unfold uwS at h
  split at h
  · cases h
  · rw [Option.bind_eq_some_iff] at h
    obtain ⟨v, h1, h2⟩ := h
    split at h2
    · rename_i e
      cases h2
      exact ⟨e, uwGo_in _ _ _ _ zero_in h1⟩
    · cases h2
theorem ud_some {l : List UInt8} {w : Int} (h : udS l = some w) : itoa w = l ∧ -9223372036854775808 ≤ w ∧ w ≤ 9223372036854775807 := by
  unfold udS at h
  rw [Option.bind_eq_some_iff] at h
  obtain ⟨v, h1, h2⟩ := h
  split at h2
  · rename_i e
    cases h2
    exact ⟨(uw_some h1).1, e⟩
  · cases h2
theorem uu_some {l : List UInt8} {w : Int} (h : uuS l = some w) : itoa w = l ∧ 0 ≤ w ∧ w ≤ 18446744073709551615 := by
  unfold uuS at h
  rw [Option.bind_eq_some_iff] at h
  obtain ⟨v, h1, h2⟩ := h
  split at h2
  · rename_i e
    cases h2
    exact ⟨(uw_some h1).1, e⟩
  · cases h2
theorem ud_itoa {n : Int} (h0 : -9223372036854775808 ≤ n) (h1 : n ≤ 9223372036854775807) : udS (itoa n) = some n := by
  unfold udS
  rw [uw_itoa (by unfold InR; omega), Option.bind_some, if_pos ⟨h0, h1⟩]
theorem uu_itoa {n : Int} (h0 : 0 ≤ n) (h1 : n ≤ 18446744073709551615) : uuS (itoa n) = some n := by
  unfold uuS
  rw [uw_itoa (by unfold InR; omega), Option.bind_some, if_pos ⟨h0, h1⟩]
theorem itoa_shorter {a b : Int} (ha : 0 ≤ a) (hb : 0 ≤ b) (h : (itoa a).length < (itoa b).length) : a < b := by
  rcases Int.lt_or_le a b with h1 | h1
  · exact h1
  · unfold itoa at h
    rw [if_neg (by omega), if_neg (by omega), decDigits_length, decDigits_length] at h
    have := nDigits_mono a.toNat b.toNat (by omega)
    omega
/-- A great number's numeral: that of its upper part, and its last digits. -/
theorem dec_pad : ∀ (k a b : Nat), b < 10 ^ (k + 1) → 0 < a → decDigits (a * 10 ^ (k + 1) + b) = decDigits a ++ (List.replicate (k + 1 - nDigits b) 48 ++ decDigits b) := by
  intro k
  induction k with
  | zero =>
    intro a b h ha
    have hb : b < 10 := by simpa using h
    rw [decDigits, dif_neg (by omega), nDigits_small hb, decDigits_one hb]
    rw [show (a * 10 ^ (0 + 1) + b) / 10 = a by omega, show (a * 10 ^ (0 + 1) + b) % 10 = b by omega]
    rfl
  | succ k ih =>
    intro a b h ha
    have hp : a * 10 ^ (k + 1 + 1) = a * 10 ^ (k + 1) * 10 := by rw [Nat.pow_succ (n := 10) (m := k + 1), ← Nat.mul_assoc]
    have hq : 1 ≤ a * 10 ^ (k + 1) := Nat.mul_pos ha (Nat.one_le_pow _ _ (by decide))
    have h' : b / 10 < 10 ^ (k + 1) := by rw [Nat.pow_succ] at h; omega
    have ih' := ih a (b / 10) h' ha
    rw [hp]
    generalize a * 10 ^ (k + 1) = q at *
    rw [decDigits, dif_neg (by omega), show (q * 10 + b) / 10 = q + b / 10 by omega, show (q * 10 + b) % 10 = b % 10 by omega, ih', List.append_assoc, List.append_assoc]
    congr 1
    by_cases hb : b < 10
    · rw [show b / 10 = 0 by omega, nDigits_small (show 0 < 10 by omega), nDigits_small hb, decDigits_one hb, show b % 10 = b by omega, decDigits_one (show 0 < 10 by omega)]
      simp only [Nat.add_sub_cancel]
      rw [show (UInt8.ofNat (48 + 0)) = (48 : UInt8) from rfl, ← List.append_assoc, ← List.replicate_succ' (n := k)]
    · rw [nDigits_big hb, show k + 1 + 1 - (nDigits (b / 10) + 1) = k + 1 - nDigits (b / 10) by omega]
      congr 1
      conv => rhs; rw [decDigits, dif_neg hb]
end Go.Proofs.YtfjfmcnnakfjnaaDoor


/-
  Contracts: the text of a number of 64 bits; a digit's value.
-/







namespace Go.Proofs.YtfjfmcnnakfjnaaDoor

set_option maxRecDepth 100000

open Go.RowKit Go.Sort Go.Lib

abbrev Tab (w : World) : Prop := Lib.TabIs Tryd.prog w "internal/strconv.uint64pow10" .u64 Lib.pow10Tab

theorem holds_zero0 (w : World) (T : TypeId) (nd : Nat) (hs : nd ≤ 24) : Holds (fun (b : UInt8) => Value.int .u8 (b.toNat : Int)) (w.alloc (.cells zeros24 T)) w.heap.size 0 (Array.replicate nd (0 : UInt8)) := fun j hj => by
  have hj' : j < nd := by simpa using hj
  refine ⟨?_, World.frozen?_alloc_new _ _ _ _⟩
  rw [World.cell?_alloc_new, zeros24_at _ (by omega), getElem!_pos _ j hj]
  simp
theorem fin_pos0 (w : World) (o : Obj) (dk : Array UInt8) (k : Nat) : ∃ os, (putRow (fun (b : UInt8) => Value.int .u8 (b.toNat : Int)) (w.alloc o) w.heap.size 0 dk).drewN k = grow (w.drewN k) os := by
  rw [alloc_eq_grow]
  obtain ⟨os', _, e⟩ := putRow_grow_new (fun (b : UInt8) => Value.int .u8 (b.toNat : Int)) w #[o] w.heap.size 0 dk (Nat.le_refl _)
  exact ⟨os', by rw [e]; rfl⟩

set_option maxHeartbeats 6400000 in
theorem formatUint_in (u : Nat) (hu64 : u < 18446744073709551616) (w : World) (htab : Tab w) :
    Calls Tryd.prog 52 #[.int .u64 u, .int .i64 10] w fun e w' => e = .returned (.string ⟨(Lib.decDigits u).toArray⟩) ∧ Below w.heap.size w w' := by
  by_cases hs : u < 100
  · go_enter Tryd.func52, Tryd.ntmps52
    go_wp2_with (go_at_call 68; refine (Tryd.internal_strconv_small u hs _).mono ?_; rintro e w' ⟨rfl, rfl⟩)
    go_ret
    exact ⟨rfl, Below.refl _ _⟩
  · have hu1 : 1 ≤ u := by omega
    have hnd20 : Lib.nDigits u ≤ 20 := by have := Lib.numDigits_eq u hu1 hu64; split at this <;> omega
    have hal : Tryd.prog.arrayLen 104 = 24 := by kernel_rfl
    have hsl1 : ∀ W, (Instr.sliceAt 104 (.pointer (some ⟨w.heap.size, 0, none⟩)) none (some (.int .i64 (Lib.nDigits u : Int))) none).run Tryd.prog W = .ok (.slice (some ⟨w.heap.size, 0, none⟩) (Lib.nDigits u) 24) W := fun W => by
      rw [run_sliceAt_array_h W 104 ⟨w.heap.size, 0, none⟩ (by simp [Program.arrayLen, Program.elem, Tryd.underlying104]) .i64 (Lib.nDigits u : Int) (by omega) (by rw [hal]; omega)]
      go_simp
    have hH0 := holds_zero0 w 104 (Lib.nDigits u) (by omega)
    have hfmt := Tryd.internal_strconv_formatBase10 w.heap.size 0 24 u (Array.replicate (Lib.nDigits u) 0) (w.alloc (.cells Lib.zeros24 104)) hH0 (by rw [Array.size_replicate]; exact Lib.lt_pow_nDigits u) hu64 (by rw [Array.size_replicate]; omega)
    rw [Array.size_replicate] at hfmt
    have HH0 := Lib.hid hH0
    clear hH0 hal
    go_enter Tryd.func52, Tryd.ntmps52
    go_wp2_with (first
      | (go_at_call 69; refine (Tryd.internal_strconv_numDigits u hu1 hu64 _ (Lib.tabIs_alloc htab _)).mono ?_; rintro e w' ⟨rfl, rfl⟩))
    go_at_call 70
    refine hfmt.mono ?_
    rintro e w' ⟨rfl, k, v', dk, rfl, hF⟩
    have hcv : (convert 51 9 (.slice (some ⟨w.heap.size, 0, none⟩) (Lib.nDigits u) 24)).run Tryd.prog ((putRow (fun (b : UInt8) => Value.int .u8 (b.toNat : Int)) (w.alloc (.cells Lib.zeros24 104)) w.heap.size 0 dk).drewN k) = .ok (.string ⟨(Lib.decDigits u).toArray⟩) ((putRow (fun (b : UInt8) => Value.int .u8 (b.toNat : Int)) (w.alloc (.cells Lib.zeros24 104)) w.heap.size 0 dk).drewN k) := by
      have h := run_convert_bytes_back (P := Tryd.prog) ((putRow (fun (b : UInt8) => Value.int .u8 (b.toNat : Int)) (w.alloc (.cells Lib.zeros24 104)) w.heap.size 0 dk).drewN k) 51 9 5 ⟨w.heap.size, 0, none⟩ 24 (Lib.decDigits u) Tryd.underlying51 Tryd.underlying5 Tryd.underlying9 (fun j hj => by
        rw [Lib.row_is_numeral hF j hj, Lib.add_plain, World.cell?_drewN]
        exact cell?_putRow (fun (b : UInt8) => Value.int .u8 (b.toNat : Int)) _ w.heap.size 0 _ dk HH0.out (by rw [hF.size, Array.size_replicate]) j (by rw [hF.size]; rw [Lib.decDigits_length] at hj; exact hj))
      rw [Lib.decDigits_length] at h
      exact h
    go_wp2
    go_ret
    obtain ⟨os, eo⟩ := fin_pos0 w (.cells Lib.zeros24 104) dk k
    refine ⟨rfl, ?_⟩
    rw [eo]
    exact Lib.below_grow _ _ (Nat.le_refl _) _ _
theorem formatUint_any (u : Nat) (hu64 : u < 18446744073709551616) (w : World) (htab : Tab w) :
    Calls Tryd.prog 32 #[.int .u64 u, .int .i64 10] w fun e w' => e = .returned (.string ⟨(Lib.decDigits u).toArray⟩) ∧ Below w.heap.size w w' := by
  go_enter Tryd.func32, Tryd.ntmps32
  go_wp2_with (go_at_call 52; refine (formatUint_in u hu64 _ htab).mono ?_; rintro e w' ⟨rfl, hb⟩)
  go_ret
  exact ⟨rfl, hb⟩
theorem unsigned_any (u : Nat) (hu64 : u < 18446744073709551616) (w : World) (htab : Tab w) :
    Calls Tryd.prog 11 #[.int .u64 u] w fun e w' => e = .returned (.string ⟨(Lib.decDigits u).toArray⟩) ∧ Below w.heap.size w w' := by
  go_enter Tryd.func11, Tryd.ntmps11
  go_wp2_with (go_at_call 32; refine (formatUint_any u hu64 _ htab).mono ?_; rintro e w' ⟨rfl, hb⟩)
  go_ret
  exact ⟨rfl, hb⟩
theorem dec_any (n : Int) (h0 : -9223372036854775808 ≤ n) (h1 : n ≤ 9223372036854775807) (w : World) (htab : Tab w) :
    Calls Tryd.prog 8 #[.int .i64 n] w fun e w' => e = .returned (.string ⟨(Lib.itoa n).toArray⟩) ∧ Below w.heap.size w w' := by
  go_enter Tryd.func8, Tryd.ntmps8
  go_wp2_with (go_at_call 30; refine (Tryd.strconv_FormatInt_10 n h0 h1 _ htab).mono ?_; rintro e w' ⟨rfl, k, os, rfl⟩)
  go_ret
  exact ⟨rfl, Lib.below_grow _ _ (Nat.le_refl _) _ _⟩
/-- A digit's value. -/
def valI (c : Int) : Int := if 97 ≤ c ∧ c ≤ 102 then c - 87 else if 48 ≤ c ∧ c ≤ 57 then c - 48 else 16
set_option maxHeartbeats 1000000 in
theorem value_any (c : Int) (h0 : 0 ≤ c) (h1 : c ≤ 2147483647) (w : World) :
    Calls Tryd.prog 42 #[.int .i32 c] w fun e w' => e = .returned (.int .i64 (valI c)) ∧ w' = w := by
  rcases (by omega : c < 48 ∨ (48 ≤ c ∧ c ≤ 57) ∨ (57 < c ∧ c < 97) ∨ (97 ≤ c ∧ c ≤ 102) ∨ 102 < c) with h | h | h | h | h
  · have e : valI c = 16 := by unfold valI; rw [(if_neg (by omega)), (if_neg (by omega))]
    rw [e]
    clear e
    go_enter Tryd.func42, Tryd.ntmps42
    go_wp2
    go_ret
    refine ⟨congrArg (fun z => Ending.returned (.int .i64 z)) ?_, rfl⟩
    first | rfl | omega
  · have e : valI c = c - 48 := by unfold valI; rw [(if_neg (by omega)), (if_pos (by omega))]
    rw [e]
    clear e
    go_enter Tryd.func42, Tryd.ntmps42
    go_wp2
    go_ret
    refine ⟨congrArg (fun z => Ending.returned (.int .i64 z)) ?_, rfl⟩
    first | rfl | omega
  · have e : valI c = 16 := by unfold valI; rw [(if_neg (by omega)), (if_neg (by omega))]
    rw [e]
    clear e
    go_enter Tryd.func42, Tryd.ntmps42
    go_wp2
    go_ret
    refine ⟨congrArg (fun z => Ending.returned (.int .i64 z)) ?_, rfl⟩
    first | rfl | omega
  · have e : valI c = c - 87 := by unfold valI; rw [(if_pos (by omega))]
    rw [e]
    clear e
    go_enter Tryd.func42, Tryd.ntmps42
    go_wp2
    go_ret
    refine ⟨congrArg (fun z => Ending.returned (.int .i64 z)) ?_, rfl⟩
    first | rfl | omega
  · have e : valI c = 16 := by unfold valI; rw [(if_neg (by omega)), (if_neg (by omega))]
    rw [e]
    clear e
    go_enter Tryd.func42, Tryd.ntmps42
    go_wp2
    go_ret
    refine ⟨congrArg (fun z => Ending.returned (.int .i64 z)) ?_, rfl⟩
    first | rfl | omega
end Go.Proofs.YtfjfmcnnakfjnaaDoor


/-
  Contracts as oracles: the text of a number; strings.Repeat, CutPrefix, Count.
-/




namespace Go.Proofs.YtfjfmcnnakfjnaaDoor

open Go.Den Go.RowKit
noncomputable section
set_option maxRecDepth 100000

set_option linter.unusedSectionVars false

variable [Inhabited Root]

theorem Tab.held (hT : Tab rootW) {w : World} (hw : Held w) : Tab w := by
  unfold Tab Lib.TabIs World.var? at *
  cases hg : Tryd.prog.globalNamed "internal/strconv.uint64pow10" with
  | none => rw [hg] at hT; cases hT
  | some g =>
    rw [hg] at hT
    simp only [Option.bind_some] at hT ⊢
    cases hb : rootW.heap[g]? with
    | none => rw [hb] at hT; cases hT
    | some o =>
      rw [hw g (Array.getElem?_eq_some_iff.1 hb).1]
      exact hT
/-- The text of a number. -/
noncomputable def tx (n : Int) : ByteArray := ⟨(Lib.itoa n).toArray⟩
noncomputable def rp (s : ByteArray) (c : Int) : ByteArray := ⟨(Lib.repeatL s.data.toList c.toNat).toArray⟩
noncomputable def cutS (s p : ByteArray) : ByteArray := ⟨(Lib.trimPrefix s.data.toList p.data.toList).toArray⟩
noncomputable def hasS (s p : ByteArray) : Bool := Lib.hasPrefix s.data.toList p.data.toList
noncomputable def decS : Array Value → Option (Bool × Value)
  | ⟨[.int .i64 n]⟩ => some (okI n, .string (tx n))
  | _ => none
noncomputable def unsS : Array Value → Option (Bool × Value)
  | ⟨[.int .u64 n]⟩ => some (okU n, .string (tx n))
  | _ => none
noncomputable def repS : Array Value → Option (Bool × Value)
  | ⟨[.string s, .int .i64 c]⟩ => some (decide (0 ≤ c) && (decide (c ≤ 1048576) && decide (s.size ≤ 1048576)), .string (rp s c))
  | _ => none
noncomputable def cutPS : Array Value → Option (Bool × Value)
  | ⟨[.string s, .string p]⟩ => some (true, .tuple #[.string (cutS s p), .bool (hasS s p)])
  | _ => none
noncomputable def valueS : Array Value → Option (Bool × Value)
  | ⟨[.int .i32 c]⟩ => some (decide (0 ≤ c) && decide (c ≤ 2147483647), .int .i64 (valI c))
  | _ => none
noncomputable def pkDec (hT : Tab rootW) : PK Tryd.prog where
  f := 8
  spec := decS
  body := by kernel_rfl
  ok := fun args r hr hok => by
    unfold decS at hr
    split at hr
    · cases hr
      rw [okI_iff] at hok
      exact ⟨all_bel rfl, rfl, fun w hw => dec_any _ hok.1 hok.2 w (hT.held hw)⟩
    · cases hr
noncomputable def pkUns (hT : Tab rootW) : PK Tryd.prog where
  f := 11
  spec := unsS
  body := by kernel_rfl
  ok := fun args r hr hok => by
    unfold unsS at hr
    split at hr
    · rename_i n
      cases hr
      rw [okU_iff] at hok
      obtain ⟨u, rfl⟩ := Int.eq_ofNat_of_zero_le hok.1
      refine ⟨all_bel rfl, rfl, fun w hw => ?_⟩
      have := unsigned_any u (by omega) w (hT.held hw)
      unfold tx; rw [Lib.itoa_nonneg]; exact this
    · cases hr
noncomputable def pcRep : PC Tryd.prog where
  f := 40
  spec := repS
  body := by kernel_rfl
  ok := fun args r hr hok => by
    unfold repS at hr
    split at hr
    · rename_i s c
      cases hr
      simp only [Bool.and_eq_true, decide_eq_true_eq] at hok
      obtain ⟨c, rfl⟩ := Int.eq_ofNat_of_zero_le hok.1
      refine ⟨all_bel rfl, rfl, fun w => ?_⟩
      have hm : s.size * c ≤ 1048576 * 1048576 := Nat.mul_le_mul hok.2.2 (by omega)
      exact Tryd.strings_Repeat s c w (by omega) (by omega)
    · cases hr
noncomputable def pcCut : PC Tryd.prog where
  f := 41
  spec := cutPS
  body := by kernel_rfl
  ok := fun args r hr hok => by
    unfold cutPS at hr
    split at hr
    · cases hr
      refine ⟨all_bel rfl, rfl, fun w => (Tryd.strings_CutPrefix _ _ w).mono ?_⟩
      rintro e w' ⟨rfl, rfl⟩
      exact ⟨rfl, Below.refl _ _⟩
    · cases hr
noncomputable def pcValue : PC Tryd.prog where
  f := 42
  spec := valueS
  body := by kernel_rfl
  ok := fun args r hr hok => by
    unfold valueS at hr
    split at hr
    · cases hr
      simp only [Bool.and_eq_true, decide_eq_true_eq] at hok
      refine ⟨all_bel rfl, rfl, fun w => (value_any _ hok.1 hok.2 w).mono ?_⟩
      rintro e w' ⟨rfl, rfl⟩
      exact ⟨rfl, Below.refl _ _⟩
    · cases hr
/-- The text of a wide number, of those nearer to 0 than B. -/
noncomputable def dwS (B : Int) : Array Value → Option (Bool × Value)
  | ⟨[.agg ⟨[.int .i64 h, .int .u64 l]⟩]⟩ => some (okW h l && (decide (-B < W2 h l) && decide (W2 h l < B)), .string (tx (W2 h l)))
  | _ => none
def DwOk (B : Int) : Prop := ∀ h l, okW h l = true → -B < W2 h l → W2 h l < B → ∀ w, Held w → Calls Tryd.prog 17 #[.agg #[.int .i64 h, .int .u64 l]] w fun e w' => e = .returned (.string (tx (W2 h l))) ∧ Below w.heap.size w w'
noncomputable def pkDW (B : Int) (hB : DwOk B) : PK Tryd.prog where
  f := 17
  spec := dwS B
  body := by kernel_rfl
  ok := fun args r hr hok => by
    unfold dwS at hr
    split at hr
    · cases hr
      simp only [Bool.and_eq_true, decide_eq_true_eq] at hok
      exact ⟨all_bel rfl, rfl, fun w hw => hB _ _ hok.1 hok.2.1 hok.2.2 w hw⟩
    · cases hr
noncomputable def pksW [Inhabited Names] : List (PM Tryd.prog) := (pcsW.map PC.up).map PK.mem
noncomputable def envDW (hT : Tab rootW) (B : Int) (hB : DwOk B) : Env Tryd.prog :=
  envS.mem false ((pkDec hT).mem :: (pkUns hT).mem :: pcRep.up.mem :: (pkDW B hB).mem :: pksW)
end

end Go.Proofs.YtfjfmcnnakfjnaaDoor


/-
  Read by wip/tools/vc.py, and what follows.
-/


namespace Go.Proofs.YtfjfmcnnakfjnaaDoor

open Go.Den Go.RowKit
noncomputable section
set_option maxRecDepth 100000

set_option linter.unusedSectionVars false

variable [Inhabited Root]

theorem decW_vc (hT : Tab rootW) (B : Int) (hB : DwOk B) (h l : Int) (Q : Value → Prop) (x1 : Int) (e_x1 : x1 = W2 h l % 1000000000000000000) (x2 : Int) (e_x2 : x2 = W2 h l / 1000000000000000000) (x3 : Int) (e_x3 : x3 = hi x2) (x4 : Int) (e_x4 : x4 = lo x2) (x5 : Int) (e_x5 : x5 = IntKind.wrap IntKind.u64 (1000000000000000000 - x1)) (x6 : Int) (e_x6 : x6 = W2 x3 x4) (x7 : Int) (e_x7 : x7 = clamp (x6 + 1)) (x8 : Int) (e_x8 : x8 = hi x7) (x9 : Int) (e_x9 : x9 = lo x7) (x10 : Int) (e_x10 : x10 = W2 x8 x9) (x11 : Int) (e_x11 : x11 = IntKind.wrap IntKind.i64 (18 - (↑(ByteArray.size (tx x5)) : Int))) (x12 : Int) (e_x12 : x12 = (↑(ByteArray.size (tx x10) + ByteArray.size (rp { data := { toList := [48] } } x11)) : Int)) (x13 : Int) (e_x13 : x13 = (↑(ByteArray.size (tx x10 ++ rp { data := { toList := [48] } } x11) + ByteArray.size (tx x5)) : Int)) (x14 : Int) (e_x14 : x14 = IntKind.wrap IntKind.i64 (18 - (↑(ByteArray.size (tx x1)) : Int))) (x15 : Int) (e_x15 : x15 = (↑(ByteArray.size (tx x6) + ByteArray.size (rp { data := { toList := [48] } } x14)) : Int)) (x16 : Int) (e_x16 : x16 = (↑(ByteArray.size (tx x6 ++ rp { data := { toList := [48] } } x14) + ByteArray.size (tx x1)) : Int)) : ((ev (envDW hT B hB) 80).call [] 17 #[.agg #[.int .i64 h, .int .u64 l]] [] B0).holds (fun r => Q r.v) = (bcase (okW h l)
  (bcase (okI (clip (W2 h l)))
    (bcase (hi (clip (W2 h l)) == h && (lo (clip (W2 h l)) == l && true))
      (bcase (okI (clip (W2 h l))) (Q (Value.string (tx (clip (W2 h l))))) False)
      (bcase (okW h l && true)
        (bcase (decide (h < 0))
          (bcase (x1 != 0)
            (bcase (okW x3 x4 && true)
              (bcase (okU x5)
                (bcase (okW x8 x9 && (decide (-B < x10) && decide (x10 < B)))
                  (bcase (decide (0 ≤ x11) && (decide (x11 ≤ 1048576) && true))
                    (bcase (decide (x12 ≤ 9223372036854775807))
                      (bcase (decide (x13 ≤ 9223372036854775807))
                        (Q (Value.string (tx x10 ++ rp { data := { toList := [48] } } x11 ++ tx x5))) False)
                      False)
                    False)
                  False)
                False)
              False)
            (bcase (okU x1)
              (bcase (okW x3 x4 && (decide (-B < x6) && decide (x6 < B)))
                (bcase (decide (0 ≤ x14) && (decide (x14 ≤ 1048576) && true))
                  (bcase (decide (x15 ≤ 9223372036854775807))
                    (bcase (decide (x16 ≤ 9223372036854775807))
                      (Q (Value.string (tx x6 ++ rp { data := { toList := [48] } } x14 ++ tx x1))) False)
                    False)
                  False)
                False)
              False))
          (bcase (okU x1)
            (bcase (okW x3 x4 && (decide (-B < x6) && decide (x6 < B)))
              (bcase (decide (0 ≤ x14) && (decide (x14 ≤ 1048576) && true))
                (bcase (decide (x15 ≤ 9223372036854775807))
                  (bcase (decide (x16 ≤ 9223372036854775807))
                    (Q (Value.string (tx x6 ++ rp { data := { toList := [48] } } x14 ++ tx x1))) False)
                  False)
                False)
              False)
            False))
        False))
    False)
  False) := by
  subst e_x16 e_x15 e_x14 e_x13 e_x12 e_x11 e_x10 e_x9 e_x8 e_x7 e_x6 e_x5 e_x4 e_x3 e_x2 e_x1
  kernel_rfl
/-- A quotient, cut towards 0. -/
def tr18 (n : Int) : Int := if n < 0 ∧ n % 1000000000000000000 ≠ 0 then n / 1000000000000000000 + 1 else n / 1000000000000000000
def re18 (n : Int) : Int := if n < 0 ∧ n % 1000000000000000000 ≠ 0 then 1000000000000000000 - n % 1000000000000000000 else n % 1000000000000000000
theorem tr18_eq (n : Int) : n.natAbs = (tr18 n).natAbs * 10 ^ 18 + (re18 n).toNat ∧ 0 ≤ re18 n ∧ re18 n < 1000000000000000000 ∧ (0 < tr18 n → 0 ≤ n) ∧ (tr18 n < 0 → n < 0) := by
  unfold tr18 re18; split <;> omega
theorem tx_size (n : Int) : (tx n).size = (Lib.itoa n).length := by unfold tx; simp [ByteArray.size]
theorem itoa_u {n : Int} (h : 0 ≤ n) : Lib.itoa n = Lib.decDigits n.toNat := by unfold Lib.itoa; rw [if_neg (by omega)]
theorem rp_eq (c : Int) : rp { data := { toList := [48] } } c = ⟨(List.replicate c.toNat (48 : UInt8)).toArray⟩ := by
  unfold rp
  have : ∀ k, Lib.repeatL [48] k = List.replicate k (48 : UInt8) := fun k => by
    induction k with
    | zero => rfl
    | succ k ih => rw [Lib.repeatL, ih]; rfl
  rw [this]
theorem rp_size (c : Int) : (rp { data := { toList := [48] } } c).size = c.toNat := by rw [rp_eq]; simp [ByteArray.size]
theorem tx_small {d : Int} (h0 : 0 ≤ d) (h1 : d < 1000000000000000000) : (tx d).size ≤ 18 ∧ (tx d).size = Lib.nDigits d.toNat := by
  rw [tx_size, itoa_u h0, Lib.decDigits_length]
  exact ⟨nDigits_le 17 d.toNat (by omega), rfl⟩
/-- A numeral out of its two parts. -/
theorem tx_parts {n : Int} (h : tr18 n ≠ 0) : tx (tr18 n) ++ rp { data := { toList := [48] } } (18 - ((tx (re18 n)).size : Int)) ++ tx (re18 n) = tx n := by
  obtain ⟨e1, e2, e3, e4, e5⟩ := tr18_eq n
  obtain ⟨s1, s2⟩ := tx_small e2 e3
  rw [rp_eq]
  have hd := dec_pad 17 (tr18 n).natAbs (re18 n).toNat (by omega) (by omega)
  rw [show 17 + 1 = 18 from rfl, ← e1] at hd
  have e6 : (18 - ((tx (re18 n)).size : Int)).toNat = 18 - Lib.nDigits (re18 n).toNat := by omega
  rw [e6]
  unfold tx
  rw [ByteArray.mk_append_mk, ByteArray.mk_append_mk]
  congr 2
  rw [itoa_u e2, List.append_assoc]
  unfold Lib.itoa
  by_cases hn : n < 0
  · rw [if_pos hn, if_pos (by omega), hd]; rfl
  · rw [if_neg hn, if_neg (by omega), show (tr18 n).toNat = (tr18 n).natAbs by omega, show n.toNat = n.natAbs by omega, hd]
theorem tx_le {n : Int} (h : InR n) : (tx n).size ≤ 40 := by rw [tx_size]; exact itoa_len h
theorem app_size (a b : ByteArray) : (a ++ b).size = a.size + b.size := by simp [ByteArray.size_append]
theorem i64w {n : Int} (h0 : -9223372036854775808 ≤ n) (h1 : n ≤ 9223372036854775807) : IntKind.i64.wrap n = n := by rw [IntKind.wrap_i64]; omega
theorem clip_ok {n : Int} (_ : InR n) : okI (clip n) = true := by rw [okI_iff]; unfold clip; split <;> (try split) <;> omega
set_option maxHeartbeats 1000000 in
theorem dw_step (hT : Tab rootW) (B B' : Int) (hB : DwOk B)
    (hs : ∀ n, InR n → -B' < n → n < B' → (-9223372036854775808 ≤ n ∧ n ≤ 9223372036854775807) ∨ (-B < tr18 n ∧ tr18 n < B)) : DwOk B' := by
  intro h l k g0 g1 w hw
  have hn := (hi_W2 k).2.2
  have hsp := hs _ hn g0 g1
  refine calls_specK (envDW hT B hB) hcokP 80 (v := .string (tx (W2 h l))) ?_ (all_bel rfl) rfl w hw
  rw [decW_vc hT B hB h l (fun v => v = .string (tx (W2 h l))) _ rfl _ rfl _ rfl _ rfl _ rfl _ rfl _ rfl _ rfl _ rfl _ rfl _ rfl _ rfl _ rfl _ rfl _ rfl _ rfl]
  rw [k, bcase_t, clip_ok hn, bcase_t, bcase_t]
  have e1 : h = hi (W2 h l) := (hi_W2 k).1.symm
  have e2 : l = lo (W2 h l) := (hi_W2 k).2.1.symm
  have hneg : decide (h < 0) = decide (W2 h l < 0) := by
    rw [decide_eq_decide]; conv => lhs; rw [e1]
    exact hi_neg _
  have hcl : (hi (clip (W2 h l)) == h && (lo (clip (W2 h l)) == l && true)) = decide (-9223372036854775808 ≤ W2 h l ∧ W2 h l ≤ 9223372036854775807) := by
    rw [Bool.eq_iff_iff]
    simp only [Bool.and_eq_true, beq_iff_eq, decide_eq_true_eq, and_true]
    constructor
    · rintro ⟨a, b⟩
      have := hilo_inj (a.trans e1) (b.trans e2)
      unfold clip at this; split at this <;> (try split at this) <;> omega
    · intro a
      have : clip (W2 h l) = W2 h l := by unfold clip; rw [if_neg (by omega), if_neg (by omega)]
      rw [this]; exact ⟨e1.symm, e2.symm⟩
  rw [hcl, hneg]
  generalize W2 h l = n at *
  have hq : InR (n / 1000000000000000000) := by unfold InR at *; omega
  have hq1 : InR (n / 1000000000000000000 + 1) := by unfold InR at *; omega
  have hr : okU (n % 1000000000000000000) = true := by rw [okU_iff]; omega
  have hr2 : n % 1000000000000000000 < 1000000000000000000 := Int.emod_lt_of_pos _ (by omega)
  have hr1 : 0 ≤ n % 1000000000000000000 := Int.emod_nonneg _ (by omega)
  have W : W2 (hi (n / 1000000000000000000)) (lo (n / 1000000000000000000)) = n / 1000000000000000000 := W2_hilo _
  have W1 : W2 (hi (clamp (n / 1000000000000000000 + 1))) (lo (clamp (n / 1000000000000000000 + 1))) = n / 1000000000000000000 + 1 := by rw [W2_hilo, clamp_of hq1]
  rw [W, W1, okW_hilo hq, okW_hilo (show InR (clamp (n / 1000000000000000000 + 1)) from clamp_in _), hr]
  simp only [Bool.and_true, Bool.true_and, bcase_t]
  refine bcase_in (fun hd => ?_) fun hd => ?_
  · rw [decide_eq_true_eq] at hd
    have : clip n = n := by unfold clip; rw [if_neg (by omega), if_neg (by omega)]
    rw [this]
  · rw [decide_eq_false_iff_not] at hd
    have hsp' : -B < tr18 n ∧ tr18 n < B := by omega
    have ht : tr18 n ≠ 0 := by unfold tr18; split <;> omega
    have hfin := tx_parts ht
    obtain ⟨_, r0, r1, _, _⟩ := tr18_eq n
    obtain ⟨s1, s2⟩ := tx_small r0 r1
    have key : ∀ q d, q = tr18 n → d = re18 n → InR q → bcase (decide (0 ≤ IntKind.i64.wrap (18 - ((tx d).size : Int))) && decide (IntKind.i64.wrap (18 - ((tx d).size : Int)) ≤ 1048576))
        (bcase (decide (((tx q).size + (rp { data := { toList := [48] } } (IntKind.i64.wrap (18 - ((tx d).size : Int)))).size : Nat) ≤ (9223372036854775807 : Int)))
          (bcase (decide (((tx q ++ rp { data := { toList := [48] } } (IntKind.i64.wrap (18 - ((tx d).size : Int)))).size + (tx d).size : Nat) ≤ (9223372036854775807 : Int)))
            (Value.string (tx q ++ rp { data := { toList := [48] } } (IntKind.i64.wrap (18 - ((tx d).size : Int))) ++ tx d) = Value.string (tx n)) False) False) False := by
      rintro q d rfl rfl hin
      have hw1 := i64w (n := 18 - ((tx (re18 n)).size : Int)) (by omega) (by omega)
      have hle := tx_le hin
      rw [hw1, decide_eq_true (show 0 ≤ 18 - ((tx (re18 n)).size : Int) by omega), decide_eq_true (show 18 - ((tx (re18 n)).size : Int) ≤ 1048576 by omega)]
      have z1 := rp_size (18 - ((tx (re18 n)).size : Int))
      rw [app_size, z1, decide_eq_true (by omega), decide_eq_true (by omega), hfin]
      rfl
    refine bcase_in (fun hlt => ?_) fun hlt => ?_
    · rw [decide_eq_true_eq] at hlt
      refine bcase_in (fun hz => ?_) fun hz => ?_
      · have hz' : n % 1000000000000000000 ≠ 0 := by simpa using hz
        have t1 : tr18 n = n / 1000000000000000000 + 1 := by unfold tr18; rw [if_pos ⟨hlt, hz'⟩]
        have t2 : re18 n = 1000000000000000000 - n % 1000000000000000000 := by unfold re18; rw [if_pos ⟨hlt, hz'⟩]
        have hu : IntKind.u64.wrap (1000000000000000000 - n % 1000000000000000000) = 1000000000000000000 - n % 1000000000000000000 := by rw [IntKind.wrap_u64]; omega
        rw [hu, ← t1, ← t2, show okU (re18 n) = true by rw [okU_iff]; omega, decide_eq_true hsp'.1, decide_eq_true hsp'.2]
        simp only [Bool.and_true, bcase_t]
        exact key _ _ rfl rfl (by rw [t1]; exact hq1)
      · have hz' : n % 1000000000000000000 = 0 := by simpa using hz
        have t1 : tr18 n = n / 1000000000000000000 := by unfold tr18; rw [if_neg (by omega)]
        have t2 : re18 n = n % 1000000000000000000 := by unfold re18; rw [if_neg (by omega)]
        rw [← t1, ← t2, decide_eq_true hsp'.1, decide_eq_true hsp'.2]
        simp only [Bool.and_true, bcase_t]
        exact key _ _ rfl rfl (by rw [t1]; exact hq)
    · rw [decide_eq_false_iff_not] at hlt
      have t1 : tr18 n = n / 1000000000000000000 := by unfold tr18; rw [if_neg (by omega)]
      have t2 : re18 n = n % 1000000000000000000 := by unfold re18; rw [if_neg (by omega)]
      rw [← t1, ← t2, decide_eq_true hsp'.1, decide_eq_true hsp'.2]
      simp only [Bool.and_true, bcase_t]
      exact key _ _ rfl rfl (by rw [t1]; exact hq)
theorem dw_all (hT : Tab rootW) : DwOk 170141183460469231731687303715884105729 := by
  have h0 : DwOk 0 := fun h l _ a b => by omega
  have h1 : DwOk 9223372036854775808 := dw_step hT 0 _ h0 fun n _ a b => .inl (by omega)
  have h2 : DwOk 9223372036854775808000000000000000000 := dw_step hT _ _ h1 fun n _ a b => .inr (by unfold tr18; split <;> omega)
  exact dw_step hT _ _ h2 fun n _ a b => .inr (by unfold tr18; split <;> omega)
end

end Go.Proofs.YtfjfmcnnakfjnaaDoor


/-
  The wide number of a text: the walk.
-/



namespace Go.Proofs.YtfjfmcnnakfjnaaDoor

open Go.Den Go.RowKit

set_option maxRecDepth 100000

set_option linter.unusedSectionVars false

variable [Inhabited Root]

theorem scale10 {n : Int} (hn : InR n) (w : World) :
    Calls Tryd.prog 43 #[.agg #[.int .i64 (hi n), .int .u64 (lo n)], .int .u32 10] w fun e w' =>
      e = .returned (.agg #[.int .i64 (hi (clamp (n * 10))), .int .u64 (lo (clamp (n * 10)))]) ∧ Below w.heap.size w w' := scale_any hn (by omega) (by omega) w
theorem take_snocB (s : ByteArray) (k : Nat) (h : k < s.size) : s.data.toList.take (k + 1) = s.data.toList.take k ++ [s[k]] := by
  rw [List.take_succ_eq_append_getElem (by simpa using h)]; rfl
theorem dropB (s : ByteArray) (k : Nat) (h : k < s.size) : s.data.toList = s.data.toList.take k ++ s[k] :: s.data.toList.drop (k + 1) := by
  have h1 : k < s.data.toList.length := by simpa using h
  conv => lhs; rw [← List.take_append_drop k s.data.toList, List.drop_eq_getElem_cons h1]
  rfl
theorem isDig_iff (c : UInt8) : isDig c = true ↔ 48 ≤ (c.toNat : Int) ∧ (c.toNat : Int) ≤ 57 := by
  unfold isDig; simp; omega
/-- A rune that is no digit. -/
theorem val_big {r : Int} (h : ¬ (48 ≤ r ∧ r ≤ 57)) : 10 ≤ valI r := by
  unfold valI; split
  · omega
  · omega
theorem rune_dig (s : ByteArray) (pos : Nat) (h : pos < s.size) (hd : isDig s[pos] = true) : Utf8.decode s pos = (s[pos].toNat, 1) := by
  rw [isDig_iff] at hd
  exact decode_ascii s pos h (by omega)
theorem rune_not (s : ByteArray) (pos : Nat) (h : pos < s.size) (hd : isDig s[pos] = false) : ¬ (48 ≤ ((Utf8.decode s pos).1 : Int) ∧ ((Utf8.decode s pos).1 : Int) ≤ 57) := by
  intro hr
  by_cases ha : (s[pos]'h).toNat < 128
  · rw [decode_ascii s pos h ha] at hr
    have := (isDig_iff s[pos]).2 hr
    rw [this] at hd; cases hd
  · have := (decode_high s pos h (by omega)).1
    omega
theorem iterPos_of {w : World} {k p : Nat} {s : ByteArray} (h : w.heap[k]? = some (.stringIter s p)) : w.iterPos k = p := by simp [World.iterPos, h]
/-- The loop: what it keeps. -/
def UwR (neg : Bool) (d : ByteArray) (w wr : World) : Prop := ∃ (pos : Nat) (v : Int), pos ≤ d.size ∧ InR v ∧ uwGo neg (d.data.toList.take pos) 0 = some v ∧
  Blk wr w.heap.size #[.int .i64 0, .int .u64 0] 42 ∧ Blk wr (w.heap.size + 1) #[.int .i64 (hi v), .int .u64 (lo v)] 42 ∧
  wr.heap[w.heap.size + 1 + 1]? = some (.stringIter d pos) ∧ Below w.heap.size w wr

set_option maxHeartbeats 4000000 in
theorem undecW_short (hT : Tab rootW) (s : ByteArray) (neg : Bool) (d : ByteArray) (hs : s.size ≤ 40)
    (hcut : ∀ w : World, Calls Tryd.prog 41 #[.string s, .string ⟨#[45]⟩] w fun e w' => e = .returned (.tuple #[.string d, .bool neg]) ∧ w' = w) (w : World) (hw : Held w)
    (r : Option Int) (hr : r = (uwGo neg d.data.toList 0).bind fun w => if Lib.itoa w = s.data.toList then some w else none) :
    Calls Tryd.prog 20 #[.string s] w fun e w' => e = .returned (.tuple #[wv (r.getD 0), .bool r.isSome]) ∧ Below w.heap.size w w' := by
  have DW := Lib.hid (dw_all hT)
  have HR := Lib.hid hr; clear hr
  have HC := Lib.hid hcut; clear hcut
  have hs' : ((s.size : Nat) : Int) ≤ 40 := by omega
  go_enter Tryd.func20, Tryd.ntmps20
  go_wp2_with (go_at_call 41; refine (HC.out _).mono ?_; rintro e w' ⟨rfl, rfl⟩)
  go_loopw [] (fun wr => UwR neg d w wr) (fun wr => d.size - wr.iterPos (w.heap.size + 1 + 1))
  case atStart =>
    refine ⟨0, 0, Nat.zero_le _, zero_in, rfl, ((Blk.new rfl).old _).old _, (Blk.new (by simp)).old _, ?_, (((Below.refl _ w).alloc (Nat.le_refl _) _).alloc (by simp) _).alloc (by simp; omega) _⟩
    have := World.iter_heap ((w.alloc (.cells #[.int .i64 0, .int .u64 0] 42)).alloc (.cells #[.int .i64 0, .int .u64 0] 42)) d 0
    simpa using this
  case round =>
    obtain ⟨pos, v, hpos, hv, hgo, g0, g1, hit, gB⟩ := hrel
    have hsz : w.heap.size + 1 + 1 < wr.heap.size := (Array.getElem?_eq_some_iff.1 hit).1
    by_cases hp : pos < d.size
    · by_cases hdig : isDig d[pos] = true
      · obtain ⟨c, hc⟩ : ∃ c : Int, ((d[pos]'hp).toNat : Int) = c := ⟨_, rfl⟩
        have hcd := (isDig_iff _).1 hdig
        rw [hc] at hcd
        have hgo2 : uwGo neg (d.data.toList.take (pos + 1)) 0 = some (uwNext neg v (c - 48)) := by
          rw [take_snocB d pos hp, uwGo_app, hgo]; simp [uwGo, hdig, hc]
        have hval : ∀ w, Calls Tryd.prog 42 #[.int .i32 c] w fun e w' => e = .returned (.int .i64 (c - 48)) ∧ w' = w := fun w => by
          have := value_any c (by omega) (by omega) w
          rwa [show valI c = c - 48 by unfold valI; rw [if_neg (by omega), if_pos hcd]] at this
        have hnx : ∀ ty, (Instr.next (.pointer (some ⟨w.heap.size + 1 + 1, 0, none⟩)) true ty).run Tryd.prog wr = .ok (.tuple #[.bool true, .int .i64 pos, .int .i32 c]) (wr.iterAt (w.heap.size + 1 + 1) d (pos + 1)) := fun ty => by
          rw [Lib.run_next_ascii_at wr _ d pos ty hit hp (by omega), hc]
        have hit2 := Lib.iterAt_heap wr (w.heap.size + 1 + 1) d pos (pos + 1) hit
        have gB2 := Lib.below_iterAt gB (k := w.heap.size + 1 + 1) (by omega) d (pos + 1)
        have h0 : Blk (wr.iterAt (w.heap.size + 1 + 1) d (pos + 1)) w.heap.size #[.int .i64 0, .int .u64 0] 42 := by unfold Blk; rw [Lib.iterAt_other _ _ _ _ _ (by omega)]; exact g0
        have h1 : Blk (wr.iterAt (w.heap.size + 1 + 1) d (pos + 1)) (w.heap.size + 1) #[.int .i64 (hi v), .int .u64 (lo v)] 42 := by unfold Blk; rw [Lib.iterAt_other _ _ _ _ _ (by omega)]; exact g1
        have hsz2 : (wr.iterAt (w.heap.size + 1 + 1) d (pos + 1)).heap.size = wr.heap.size := Lib.iterAt_size _ _ _ _
        have G := Lib.hid (show UwR neg d w (wr.iterAt (w.heap.size + 1 + 1) d (pos + 1)) → True from fun _ => trivial)
        have c1 := h1.two
        have HW := Lib.hid hit
        have HGO := Lib.hid hgo2; have HIT := Lib.hid hit2; have HSZ := Lib.hid hsz2
        clear hgo hgo2 hit hit2 g0 g1 gB hsz2 hc G
        generalize wr.iterAt (w.heap.size + 1 + 1) d (pos + 1) = wi at *
        cases neg
        all_goals
          go_wp2_with (first
            | (go_at_call 42; refine (hval _).mono ?_; rintro e w' ⟨rfl, rfl⟩)
            | (go_at_call 43; refine (scale10 hv _).mono ?_; rintro e w1 ⟨rfl, hb1⟩; replace h0 := Blk.keep hb1 h0; replace h1 := Blk.keep hb1 h1; have HIT1 := Lib.hid ((hb1.block _ (Array.getElem?_eq_some_iff.1 HIT.out).1).trans HIT.out); replace gB2 := keepW gB2 hb1)
            | (go_at_call 34; refine (of_any _ (by omega) (by omega) _).mono ?_; rintro e w2 ⟨rfl, hb2⟩; replace h0 := Blk.keep hb2 h0; replace h1 := Blk.keep hb2 h1; have HIT2 := Lib.hid ((hb2.block _ (Array.getElem?_eq_some_iff.1 HIT1.out).1).trans HIT1.out); replace gB2 := keepW gB2 hb2)
            | (go_at_call 39; refine (add_n (clamp_in _) (by unfold InR; omega) _).mono ?_; rintro e w3 ⟨rfl, hb3⟩; replace h0 := Blk.keep hb3 h0; replace h1 := Blk.keep hb3 h1; have HIT3 := Lib.hid ((hb3.block _ (Array.getElem?_eq_some_iff.1 HIT2.out).1).trans HIT2.out); replace gB2 := keepW gB2 hb3; have c2 := h1.two; have f2 := h1.free0))
          go_roundw
          case rel =>
            exact ⟨pos + 1, _, by omega, clamp_in _, HGO.out, h0.else2 (by omega), (h1.put (i := 0) _).put (i := 1) _, (Below.heap_setCell _ _ _ _ (by simp)).trans ((Below.heap_setCell _ _ _ _ (by simp)).trans HIT3.out), Below.put2 gB2 (by omega)⟩
          case measure =>
            refine Nat.lt_of_le_of_lt (Nat.le_of_eq (congrArg (d.size - ·) (iterPos_of (s := d) (p := pos + 1) ?_))) ?_
            · exact (Below.heap_setCell _ _ _ _ (by simp)).trans ((Below.heap_setCell _ _ _ _ (by simp)).trans HIT3.out)
            · show _ < d.size - World.iterPos _ _
              rw [iterPos_of HW.out]; omega
      · have hbig := val_big (rune_not d pos hp (by simpa using hdig))
        have hrl := decode_le d pos
        have hval := fun w => value_any ((Utf8.decode d pos).1 : Int) (by omega) (by omega) w
        have hnx : ∀ ty, (Instr.next (.pointer (some ⟨w.heap.size + 1 + 1, 0, none⟩)) true ty).run Tryd.prog wr = _ := fun ty => Lib.run_next_any_at wr (w.heap.size + 1 + 1) d pos ty hit hp
        generalize pos + (Utf8.decode d pos).2 = pos2 at *
        generalize ((Utf8.decode d pos).1 : Int) = rr at *
        have gB2 := Lib.below_iterAt gB (k := w.heap.size + 1 + 1) (by omega) d pos2
        have h0 : Blk (wr.iterAt (w.heap.size + 1 + 1) d pos2) w.heap.size #[.int .i64 0, .int .u64 0] 42 := by unfold Blk; rw [Lib.iterAt_other _ _ _ _ _ (by omega)]; exact g0
        have hnone : uwGo neg d.data.toList 0 = none := by
          rw [dropB d pos hp]; exact uwGo_bad _ _ _ _ _ (by simpa using hdig)
        have hr : r = none := by rw [HR.out, hnone]; rfl
        subst hr
        have c0 := h0.two; have f0 := h0.free0
        have hdec : decide ((16 : Int) ≤ 10) = false := rfl
        clear hit g0 g1 gB hgo hrl hnone
        generalize wr.iterAt (w.heap.size + 1 + 1) d pos2 = wi at *
        generalize valI rr = vr at *
        go_wp2_with (go_at_call 42; refine (hval _).mono ?_; rintro e w' ⟨rfl, rfl⟩)
        have h3 := (h0.put (i := 0) (.int .i64 0)).put (i := 1) (.int .u64 0)
        exact bodyPost_ret (v := .tuple #[.agg #[.int .i64 0, .int .u64 0], .bool false]) (by simp [results, Tryd.results20, go_sem, (show Blk _ _ #[.int .i64 0, .int .u64 0] _ from h3).two]) rfl ⟨rfl, Below.put2 gB2 (Nat.le_refl _)⟩
    · have he : pos = d.size := by omega
      subst he
      have hall : uwGo neg d.data.toList 0 = some v := by
        rw [← hgo, List.take_of_length_le (by simp)]
      have hnx : ∀ ty, (Instr.next (.pointer (some ⟨w.heap.size + 1 + 1, 0, none⟩)) true ty).run Tryd.prog wr = _ := fun ty => Lib.run_next_end_at wr (w.heap.size + 1 + 1) d d.size ty hit hp
      have c1 := g1.two
      have hdw := DW.out (hi v) (lo v) (okW_hilo hv) (by rw [W2_hilo]; unfold InR at hv; omega) (by rw [W2_hilo]; unfold InR at hv; omega)
      rw [W2_hilo] at hdw
      have HD := Lib.hid hdw
      have hrv : r = if Lib.itoa v = s.data.toList then some v else none := by rw [HR.out, hall]; rfl
      clear hdw hall hit hgo
      by_cases heq : Lib.itoa v = s.data.toList
      · rw [if_pos heq] at hrv
        subst hrv
        have hes : ((tx v).toList == s.toList) = true := by
          rw [Lib.toList_data, Lib.toList_data, beq_iff_eq]; exact heq
        clear heq
        go_wp2_with (go_at_call 17; refine (HD.out _ (hw.below gB)).mono ?_; rintro e w1 ⟨rfl, hb1⟩; replace g0 := Blk.keep hb1 g0; replace g1 := Blk.keep hb1 g1; replace gB := keepW gB hb1; have c2 := g1.two; have c3 := g0.two; have f2 := g0.free0)
        have h3 := (g0.put (i := 0) (.int .i64 (hi v))).put (i := 1) (.int .u64 (lo v))
        exact bodyPost_ret (v := .tuple #[.agg #[.int .i64 (hi v), .int .u64 (lo v)], .bool true]) (by simp [results, Tryd.results20, go_sem, (show Blk _ _ #[.int .i64 (hi v), .int .u64 (lo v)] _ from h3).two]) rfl ⟨rfl, Below.put2 gB (Nat.le_refl _)⟩
      · rw [if_neg heq] at hrv
        subst hrv
        have hes : ((tx v).toList == s.toList) = false := by
          rw [Lib.toList_data, Lib.toList_data, beq_eq_false_iff_ne]; exact heq
        clear heq
        go_wp2_with (go_at_call 17; refine (HD.out _ (hw.below gB)).mono ?_; rintro e w1 ⟨rfl, hb1⟩; replace g0 := Blk.keep hb1 g0; replace g1 := Blk.keep hb1 g1; replace gB := keepW gB hb1; have c2 := g1.two; have c3 := g0.two; have f2 := g0.free0)
        have h3 := (g0.put (i := 0) (.int .i64 0)).put (i := 1) (.int .u64 0)
        exact bodyPost_ret (v := .tuple #[.agg #[.int .i64 0, .int .u64 0], .bool false]) (by simp [results, Tryd.results20, go_sem, (show Blk _ _ #[.int .i64 0, .int .u64 0] _ from h3).two]) rfl ⟨rfl, Below.put2 gB (Nat.le_refl _)⟩

theorem undecW_long (s : ByteArray) (hs : 40 < s.size) (w : World) :
    Calls Tryd.prog 20 #[.string s] w fun e w' => e = .returned (.tuple #[wv 0, .bool false]) ∧ Below w.heap.size w w' := by
  have hs' : (40 : Int) < ((s.size : Nat) : Int) := by omega
  go_enter Tryd.func20, Tryd.ntmps20
  go_wp2
  exact bodyPost_ret (v := .tuple #[.agg #[.int .i64 0, .int .u64 0], .bool false]) (by simp [results, Tryd.results20, go_sem]) rfl ⟨rfl, (Below.refl _ w).alloc (Nat.le_refl _) _⟩
/-- text.UndecWide. -/
theorem undecW_any (hT : Tab rootW) (s : ByteArray) (w : World) (hw : Held w) :
    Calls Tryd.prog 20 #[.string s] w fun e w' => e = .returned (.tuple #[wv ((uwS s.data.toList).getD 0), .bool (uwS s.data.toList).isSome]) ∧ Below w.heap.size w w' := by
  have hl : s.data.toList.length = s.size := by simp
  by_cases hs : 40 < s.size
  · have e : uwS s.data.toList = none := by unfold uwS; rw [if_pos (by omega)]
    rw [e]
    exact undecW_long s hs w
  · refine undecW_short hT s (Lib.hasPrefix s.data.toList [45]) ⟨(Lib.trimPrefix s.data.toList [45]).toArray⟩ (by omega) (fun w => Tryd.strings_CutPrefix s ⟨#[45]⟩ w) w hw _ ?_
    unfold uwS; rw [if_neg (by omega)]
end Go.Proofs.YtfjfmcnnakfjnaaDoor


/-
  Contracts as oracles: the numbers of a text.
-/

namespace Go.Proofs.YtfjfmcnnakfjnaaDoor

open Go.Den Go.RowKit
noncomputable section
set_option maxRecDepth 100000

set_option linter.unusedSectionVars false

variable [Inhabited Root]

noncomputable def uwV (s : ByteArray) : Int := (uwS s.data.toList).getD 0
noncomputable def uwK (s : ByteArray) : Bool := (uwS s.data.toList).isSome
theorem uwV_in (s : ByteArray) : InR (uwV s) := by
  unfold uwV
  cases h : uwS s.data.toList with
  | none => exact zero_in
  | some v => exact (uw_some h).2
noncomputable def uwdS : Array Value → Option (Bool × Value)
  | ⟨[.string s]⟩ => some (true, .tuple #[wv (uwV s), .bool (uwK s)])
  | _ => none
noncomputable def pkUW (hT : Tab rootW) : PK Tryd.prog where
  f := 20
  spec := uwdS
  body := by kernel_rfl
  ok := fun args r hr hok => by
    unfold uwdS at hr
    split at hr
    · cases hr
      exact ⟨all_bel rfl, rfl, fun w hw => undecW_any hT _ w hw⟩
    · cases hr
noncomputable def envUD (hT : Tab rootW) : Env Tryd.prog := envS.mem false ((pkUW hT).mem :: pksW)
end

end Go.Proofs.YtfjfmcnnakfjnaaDoor


/-
  A number by 10, piece by piece; its digits. No program is named here, but the document's Zero.
-/







namespace Go.Proofs.YtfjfmcnnakfjnaaDoor

open Go.Den Go.RowKit

set_option maxRecDepth 100000

set_option linter.unusedSectionVars false

def nr (b : Bool) (l : List Int) : Array Value := ⟨.bool b :: l.map (Value.int .u64)⟩
theorem mapU_map : ∀ l : List Int, mapU l = l.map (Value.int .u64)
  | [] => rfl
  | x :: r => by
    show Value.int .u64 x :: mapU r = _
    rw [mapU_map r]; rfl
theorem nv_nr (b : Bool) (n : Int) : nv b n = .agg (nr b (digsN 20 n)) := by
  unfold nv nr; rw [mapU_map]
theorem nr_size (b : Bool) (l : List Int) : (nr b l).size = l.length + 1 := by simp [nr]
theorem nr_get (b : Bool) (l : List Int) (k : Nat) (hk : k < l.length) : (nr b l)[1 + k]? = some (.int .u64 l[k]) := by
  simp [nr, Nat.add_comm 1 k, hk]
theorem nr_zero (b : Bool) (l : List Int) : (nr b l)[0]? = some (.bool b) := by simp [nr]
theorem nr_set0 (b x : Bool) (l : List Int) : (nr b l).setIfInBounds 0 (.bool x) = nr x l := by simp [nr]
theorem nr_setk (b : Bool) (l : List Int) (k : Nat) (x : Int) : (nr b l).setIfInBounds (1 + k) (.int .u64 x) = nr b (l.set k x) := by
  simp [nr, Nat.add_comm 1 k, List.map_set]
theorem nr_range {w : World} {b : Nat} {sg : Bool} {l : List Int} {T : TypeId} (g : Blk w b (nr sg l) T) : w.rangeAt b 0 (nr sg l).toList := fun j v hv => by
  rw [g.cell]; simpa using hv
/-- By 10, from the highest piece on. -/
def d10 : List Int → List Int × Int
  | [] => ([], 0)
  | c :: r => ((65536 * (d10 r).2 + c) / 10 :: (d10 r).1, (65536 * (d10 r).2 + c) % 10)
theorem d10_len : ∀ l, (d10 l).1.length = l.length
  | [] => rfl
  | _ :: r => by simp [d10, d10_len r]
theorem d10_rest : ∀ l, 0 ≤ (d10 l).2 ∧ (d10 l).2 ≤ 9
  | [] => by simp [d10]
  | _ :: r => by simp only [d10]; omega
theorem d10_pcs : ∀ {l : List Int}, Pcs l → Pcs (d10 l).1
  | [], _ => Pcs.nil
  | c :: r, h => by
    have h1 := h.head; have h2 := d10_rest r
    exact Pcs.cons (by constructor <;> omega) (d10_pcs h.tail)
theorem d10_val : ∀ {l : List Int}, Pcs l → val (d10 l).1 = val l / 10 ∧ (d10 l).2 = val l % 10
  | [], _ => by simp [d10, val]
  | c :: r, h => by
    obtain ⟨h1, h2⟩ := d10_val h.tail
    simp only [d10, val]
    rw [h1, h2]
    have := h.head
    omega
/-- Where the pieces from q on are done. -/
def dq (l : List Int) (q : Nat) : List Int := l.take q ++ (d10 (l.drop q)).1
def rq (l : List Int) (q : Nat) : Int := (d10 (l.drop q)).2
theorem dq_len (l : List Int) (q : Nat) : (dq l q).length = l.length := by
  unfold dq; rw [List.length_append, List.length_take, d10_len, List.length_drop]; omega
theorem dq_all (l : List Int) : dq l l.length = l := by unfold dq; simp [d10]
theorem rq_all (l : List Int) : rq l l.length = 0 := by unfold rq; simp [d10]
theorem dq_zero (l : List Int) : dq l 0 = (d10 l).1 := by unfold dq; simp
theorem drop_at (l : List Int) (j : Nat) (h : j < l.length) : l.drop j = l[j] :: l.drop (j + 1) := List.drop_eq_getElem_cons h
theorem rq_step (l : List Int) (j : Nat) (h : j < l.length) : rq l j = (65536 * rq l (j + 1) + l[j]) % 10 := by
  unfold rq; rw [drop_at l j h]; rfl
theorem dq_get (l : List Int) (j : Nat) (h : j < l.length) : (dq l (j + 1))[j]'(by rw [dq_len]; exact h) = l[j] := by
  unfold dq
  rw [List.getElem_append_left (by rw [List.length_take]; omega), List.getElem_take]
theorem dq_step (l : List Int) (j : Nat) (h : j < l.length) : (dq l (j + 1)).set j ((65536 * rq l (j + 1) + l[j]) / 10) = dq l j := by
  unfold dq rq
  rw [drop_at l j h]
  have e : l.take (j + 1) = l.take j ++ [l[j]] := List.take_succ_eq_append_getElem h
  have hl : (l.take j).length = j := by rw [List.length_take]; omega
  rw [e, List.append_assoc, List.set_append_right _ _ (by omega), hl, Nat.sub_self]
  rfl
theorem rq_bd (l : List Int) (j : Nat) : 0 ≤ rq l j ∧ rq l j ≤ 9 := d10_rest _
/-- The digits of a number from 0 up. -/
theorem dec_step (m : Nat) : Lib.decDigits m = (if m / 10 = 0 then [] else Lib.decDigits (m / 10)) ++ [UInt8.ofNat (48 + m % 10)] := by
  rw [Lib.decDigits]
  by_cases h : m < 10
  · rw [dif_pos h, if_pos (by omega), Nat.mod_eq_of_lt h]; rfl
  · rw [dif_neg h, if_neg (by omega)]
end Go.Proofs.YtfjfmcnnakfjnaaDoor


/-
  The document's text of a number: the walk.
-/

namespace Go.Proofs.YtfjfmcnnakfjnaaDoor

open Go.Den Go.RowKit

set_option maxRecDepth 100000

set_option linter.unusedSectionVars false

theorem infoNum : (Tryd.prog.info? 28).map (·.size) = some 21 := by kernel_rfl
theorem infoNr (b : Bool) {l : List Int} (hl : l.length = 20) : (Tryd.prog.info? 28).map (·.size) = some (nr b l).toList.length := by
  rw [infoNum, Array.length_toList, nr_size, hl]
theorem zero_any (b : Bool) {l : List Int} (hl : l.length = 20) (hp : Pcs l) (w : World) :
    Calls Tryd.prog 31 #[.agg (nr b l)] w fun e w' => e = .returned (.bool (val l == 0)) ∧ Below w.heap.size w w' := by
  have h := (pcRZero.ok #[.agg (nr b l)] (okNum (mapU l), .bool (mag (mapU l) == 0)) (by unfold nr; rw [← mapU_map]; rfl) (okNum_in hl hp)).2.2 w
  rw [mag_mapU] at h
  exact h
theorem wpList_load_mid_w {P : Program} {ops : Array Oper} {rest : List Oper} {op : Oper} {a : Act} {w : World} {Q : Exit → Act → World → Prop} (hw : Region.wanted op (yielded ops a.tmps) = true) (ty : TypeId) (x : Operand) (ho : op.op = .load ty x)
    (b o : Nat) (hx : a.eval x = .pointer (some ⟨b, o, none⟩)) (cs : List Value) (d : TypeDesc) (hc : w.rangeAt b o cs)
    (hu : P.underlying ty = some d) (hd : d.isRow = true) (hi : (P.info? ty).map (·.size) = some cs.length)
    (h : wpList P ops Q rest (a.put op.dst (.agg cs.toArray)) w) : wpList P ops Q (op :: rest) a w :=
  wpList_step fun K hK => by rw [if_pos hw]; exact wp_load_mid ty x ho b o hx cs d hc hu hd hi (hK _ _ h)
noncomputable def strLen (v : Value) : Nat :=
  match v with
  | .string s => s.size
  | _ => 0
theorem T320_lt : T320 < 10 ^ 97 := of_decide_eq_true (by kernel_rfl)
/-- The outer loop: what it keeps. -/
def NmR (n : Nat) (w : World) (v : Value) (wr : World) : Prop := ∃ (b : Bool) (l : List Int) (out : List UInt8), v = .string ⟨out.toArray⟩ ∧ l.length = 20 ∧ Pcs l ∧
  Blk wr w.heap.size (nr b l) 28 ∧ Below w.heap.size w wr ∧ (val l).toNat * 10 ^ out.length ≤ n ∧ out.length ≤ 97 ∧
  ((out = [] ∧ (val l).toNat = n) ∨ (out ≠ [] ∧ Lib.decDigits n = (if (val l).toNat = 0 then [] else Lib.decDigits (val l).toNat) ++ out))
def NmI (b : Bool) (l : List Int) (w : World) (r i : Value) (wi : World) : Prop := ∃ q : Nat, q ≤ 20 ∧ r = .int .u64 (rq l q) ∧ i = .int .i64 ((q : Int) - 1) ∧
  Blk wi w.heap.size (nr b (dq l q)) 28 ∧ Below w.heap.size w wi
noncomputable def intOf' (v : Value) : Int :=
  match v with
  | .int _ n => n
  | _ => 0
theorem short_of {k m n : Nat} (h : m * 10 ^ k ≤ n) (hm : 1 ≤ m) (hn : n < 10 ^ 97) : k < 97 := by
  refine Nat.lt_of_not_le fun hk => ?_
  have h1 : 10 ^ 97 ≤ 10 ^ k := Nat.pow_le_pow_right (by omega) hk
  have h2 : 1 * 10 ^ k ≤ m * 10 ^ k := Nat.mul_le_mul_right _ hm
  omega
theorem next_le {k m n : Nat} (h : m * 10 ^ k ≤ n) : m / 10 * 10 ^ (k + 1) ≤ n := by
  rw [Nat.pow_succ, Nat.mul_comm (10 ^ k) 10, ← Nat.mul_assoc]
  exact Nat.le_trans (Nat.mul_le_mul_right _ (Nat.div_mul_le_self m 10)) h
theorem NmR.next {n : Nat} {w wr : World} {b : Bool} {l : List Int} {out : List UInt8} {c : UInt8} {rr : Nat} (hp : Pcs l) (hl : l.length = 20) (hb : Blk wr w.heap.size (nr b (dq l 0)) 28) (hw : Below w.heap.size w wr)
    (h1 : (val l).toNat * 10 ^ out.length ≤ n) (hlen : out.length < 97) (hrr : rq l 0 = (rr : Int)) (hc : c = UInt8.ofNat (48 + rr))
    (hr : (out = [] ∧ (val l).toNat = n) ∨ (out ≠ [] ∧ Lib.decDigits n = (if (val l).toNat = 0 then [] else Lib.decDigits (val l).toNat) ++ out)) (hz : out = [] ∨ (val l == 0) = false) :
    NmR n w (.string (⟨#[c]⟩ ++ ⟨out.toArray⟩)) wr := by
  obtain ⟨hv, hm⟩ := d10_val hp
  have hv0 := (val_bd hp).1
  have hvn : (val (d10 l).1).toNat = (val l).toNat / 10 := by rw [hv]; omega
  have hrn : rr = (val l).toNat % 10 := by
    unfold rq at hrr; rw [List.drop_zero, hm] at hrr; omega
  have hst := dec_step (val l).toNat
  rw [← hrn, ← hc] at hst
  refine ⟨b, (d10 l).1, c :: out, ?_, by rw [d10_len, hl], d10_pcs hp, by rw [← dq_zero]; exact hb, hw, ?_, by rw [List.length_cons]; omega, .inr ⟨by simp, ?_⟩⟩
  · rw [show (ByteArray.mk #[c]) = ⟨[c].toArray⟩ from rfl, ByteArray.mk_append_mk]; rfl
  · rw [hvn, List.length_cons]; exact next_le h1
  · rw [hvn]
    rcases hr with ⟨ho, hn⟩ | ⟨ho, hd⟩
    · rw [← hn, hst, ho]
    · have h0 : (val l).toNat ≠ 0 := by
        rcases hz with hz | hz
        · exact absurd hz ho
        · rw [beq_eq_false_iff_ne] at hz; omega
      rw [hd, if_neg h0, hst, List.append_assoc]; rfl
set_option maxHeartbeats 8000000 in
theorem num_loop (b : Bool) (l0 : List Int) (hl0 : l0.length = 20) (hp0 : Pcs l0) (hb0 : b = true → (val l0 == 0) = true) (w : World) :
    Calls Tryd.prog 9 #[.agg (nr b l0)] w fun e w' => e = .returned (.string ⟨(Lib.decDigits (val l0).toNat).toArray⟩) ∧ Below w.heap.size w w' := by
  have z0 := nr_zero b l0
  have HL := Lib.hid hl0; have HP := Lib.hid hp0
  have hn0 : (val l0).toNat < 10 ^ 97 := by
    have := (val_bd hp0).2
    rw [hl0, T320_eq] at this
    have h2 := T320_lt
    have h3 := (val_bd hp0).1
    omega
  have HN := Lib.hid hn0
  have hi0 := infoNr b hl0
  have HI0 := Lib.hid hi0
  have HZ0 := Lib.hid (zero_any b hl0 hp0)
  have hblk0 : Blk (w.alloc (.cells (nr b l0) 28)) w.heap.size (nr b l0) 28 := Blk.new rfl
  have hbel0 : Below w.heap.size w (w.alloc (.cells (nr b l0) 28)) := (Below.refl _ w).alloc (Nat.le_refl _) _
  have hrg0 := nr_range hblk0
  have HK := Lib.hid hblk0; have HE := Lib.hid hbel0
  clear hl0 hp0 hn0 hi0 hblk0 hbel0
  go_enter Tryd.func9, Tryd.ntmps9
  cases b
  case' false =>
    go_wp2
    have hblk0 := HK.out; have hbel0 := HE.out
    clear HK HE
  case' true =>
    have hz := hb0 rfl
    rw [hz] at HZ0
    go_wp2_with (first | (refine wpList_load_mid_w rfl _ _ rfl w.heap.size 0 rfl (nr true l0).toList _ hrg0 Tryd.underlying28 rfl HI0.out ?_) | (go_at_call 31; refine (HZ0.out _).mono ?_; rintro e w1 ⟨rfl, hb1⟩))
    have hblk0 := Blk.keep hb1 HK.out; have hbel0 := keepW HE.out hb1
    clear HK HE
  all_goals
    have HK0 := Lib.hid hblk0; have HE0 := Lib.hid hbel0
    clear hblk0 hbel0 hrg0 HI0 HZ0 hb0
    go_loopw [3] (fun v wr => NmR (val l0).toNat w v wr) (fun v _ => 200 - strLen v)
    case atStart => exact ⟨_, l0, [], rfl, HL.out, HP.out, HK0.out, HE0.out, by simp, by simp, .inl ⟨rfl, rfl⟩⟩
    case round =>
      obtain ⟨b1, l, out, rfl, hl, hp, hblk, hbel, hmul, hlen, hrel⟩ := hrel
      have hi21 := infoNr b1 hl
      have HI := Lib.hid hi21; clear hi21
      have HZ := Lib.hid (zero_any b1 hl hp)
      have HL1 := Lib.hid hl; have HP1 := Lib.hid hp
      have hrg := nr_range hblk
      have HM := Lib.hid hmul
      have HD := Lib.hid hrel
      have hc : (out = [] ∨ (out ≠ [] ∧ (val l == 0) = false)) ∨ (out ≠ [] ∧ (val l == 0) = true) := by
        by_cases ho : out = []
        · exact .inl (.inl ho)
        · cases hz : (val l == 0)
          · exact .inl (.inr ⟨ho, rfl⟩)
          · exact .inr ⟨ho, rfl⟩
      rcases hc with hc | ⟨ho, hz⟩
      · have hlt : out.length < 97 := by
          rcases hc with ho | ⟨_, hz⟩
          · rw [ho]; decide
          · rw [beq_eq_false_iff_ne] at hz
            have h3 := (val_bd hp).1
            exact short_of hmul (by omega) HN.out
        have hzz : out = [] ∨ (val l == 0) = false := hc.imp id (·.2)
        have HZZ := Lib.hid hzz; have HLT := Lib.hid hlt
        have hnl : ¬ 9223372036854775807 < 1 + out.length := by omega
        clear hl hp hrel hmul hlen hzz hlt
        have hcase : out.isEmpty = true ∨ (out.isEmpty = false ∧ (val l == 0) = false) := by
          rcases hc with ho | ⟨ho, hz⟩
          · rw [ho]; exact .inl rfl
          · refine .inr ⟨?_, hz⟩
            cases out with
            | nil => exact absurd rfl ho
            | cons _ _ => rfl
        clear hc
        rcases hcase with hne | ⟨hne, hz⟩
        case' inl =>
          go_wp2
          have hblk1 := hblk; have hbel1 := hbel
          clear hblk hbel
        case' inr =>
          rw [hz] at HZ
          go_wp2_with (first | (refine wpList_load_mid_w rfl _ _ rfl w.heap.size 0 rfl (nr b1 l).toList _ hrg Tryd.underlying28 rfl HI.out ?_) | (go_at_call 31; refine (HZ.out _).mono ?_; rintro e w1 ⟨rfl, hb1⟩))
          have hblk1 := Blk.keep hb1 hblk; have hbel1 := keepW hbel hb1
          clear hblk hbel hb1 hz
        all_goals
          have HB := Lib.hid hblk1; have HW := Lib.hid hbel1
          clear hblk1 hbel1 hrg HZ
          go_loopw [4, 5] (fun r i wi => NmI b1 l w r i wi) (fun _ i _ => (intOf' i + 1).toNat)
          case atStart => exact ⟨20, by omega, by rw [← HL1.out, rq_all], rfl, by rw [← HL1.out, dq_all]; exact HB.out, HW.out⟩
          case round =>
            obtain ⟨wi, rfl⟩ : ∃ wi : World, wi = wr := ⟨_, rfl⟩
            obtain ⟨q, hq, rfl, rfl, hbI, hBI⟩ := hrel
            rcases q with _ | j
            · obtain ⟨rr, hrr⟩ : ∃ rr : Nat, rq l 0 = (rr : Int) := ⟨(rq l 0).toNat, by have := rq_bd l 0; omega⟩
              have hr9 : rr ≤ 9 := by have := rq_bd l 0; omega
              obtain ⟨c, hc⟩ : ∃ c : UInt8, c = UInt8.ofNat (48 + rr) := ⟨_, rfl⟩
              have hcn : ((48 + (rr : Int))) = (c.toNat : Int) := by rw [hc, dig_nat (by omega)]; omega
              have w3 : IntKind.wrap .u64 (48 + (rr : Int)) = (c.toNat : Int) := by rw [IntKind.wrap_u64, ← hcn]; omega
              have w4 : ((c.toNat : Nat) : Int) % 256 = (c.toNat : Int) := by have := c.toNat_lt; omega
              have hcv := run_convert_bytes_back (P := Tryd.prog) (wi.alloc (.cells #[.int .u8 (c.toNat : Int)] 5)) 51 9 5 ⟨wi.heap.size, 0, none⟩ 1 [c] Tryd.underlying51 Tryd.underlying5 Tryd.underlying9 (fun j hj => by
                have hj0 : j = 0 := by simpa using hj
                subst hj0
                exact (Blk.new (w := wi) rfl).cell 0)
              have hc1 : ([c] : List UInt8).length = 1 := rfl
              rw [hc1] at hcv
              have HNX := Lib.hid (NmR.next (c := c) HP1.out HL1.out (hbI.old (.cells #[.int .u8 (c.toNat : Int)] 5)) (hBI.alloc hBI.size (.cells #[.int .u8 (c.toNat : Int)] 5)) HM.out HLT.out hrr hc HD.out HZZ.out)
              clear hcn hc hc1 hbI hBI
              rw [hrr]
              clear hrr
              go_wp2
              exact ⟨HNX.out, by have := HLT.out; simp only [strLen, ByteArray.size_append', ByteArray.size_mk']; simp; omega⟩
            · have e : ((j + 1 : Nat) : Int) - 1 = (j : Int) := by omega
              rw [e]
              have hjl : j < l.length := by rw [HL1.out]; omega
              have c1 := (hbI.cell (1 + j)).trans (nr_get b1 (dq l (j + 1)) j (by rw [dq_len]; exact hjl))
              rw [dq_get l j hjl] at c1
              have c2 := hbI.free (1 + j)
              have p1 := rq_bd l (j + 1)
              have p2 := HP1.out l[j] (List.getElem_mem hjl)
              have hput := hbI.put (i := 1 + j) (.int .u64 ((65536 * rq l (j + 1) + l[j]) / 10))
              rw [nr_setk, dq_step l j hjl] at hput
              have hr1 := rq_step l j hjl
              have hB1 := hBI.setCell (p := ⟨w.heap.size, 1 + j, none⟩) (Nat.le_refl _) (.int .u64 ((65536 * rq l (j + 1) + l[j]) / 10))
              have j0 : (0 : Int) ≤ (j : Int) := by omega
              have j1 : (j : Int) < 20 := by omega
              have w1 : IntKind.wrap .u64 (65536 * rq l (j + 1)) = 65536 * rq l (j + 1) := by rw [IntKind.wrap_u64]; omega
              have w2 : IntKind.wrap .u64 (65536 * rq l (j + 1) + l[j]) = 65536 * rq l (j + 1) + l[j] := by rw [IntKind.wrap_u64]; omega
              have HPut := Lib.hid hput; have HR1 := Lib.hid hr1; have HB1 := Lib.hid hB1
              clear hput hr1 hB1 hbI hBI e
              generalize l[j] = c at *
              generalize rq l (j + 1) = r at *
              go_wp2
              exact ⟨⟨j, by omega, by rw [HR1.out], rfl, HPut.out, HB1.out⟩, by simp only [intOf']; omega⟩
      · have hne : out.isEmpty = false := by cases out with
          | nil => exact absurd rfl ho
          | cons _ _ => rfl
        have hfin : Lib.decDigits (val l0).toNat = out := by
          rcases hrel with ⟨h, _⟩ | ⟨_, h⟩
          · exact absurd h ho
          · rw [h, if_pos (by rw [beq_iff_eq] at hz; rw [hz]; rfl)]; rfl
        have HF := Lib.hid hfin
        rw [hz] at HZ
        clear hl hp hrel hmul hlen hfin
        go_wp2_with (first | (refine wpList_load_mid_w rfl _ _ rfl w.heap.size 0 rfl (nr b1 l).toList _ hrg Tryd.underlying28 rfl HI.out ?_) | (go_at_call 31; refine (HZ.out _).mono ?_; rintro e w1 ⟨rfl, hb1⟩))
        go_ret
        exact ⟨by rw [HF.out]; rfl, keepW hbel hb1⟩
set_option maxHeartbeats 4000000 in
theorem num_minus (l0 : List Int) (hl0 : l0.length = 20) (hp0 : Pcs l0) (hz : (val l0 == 0) = false) (w : World) :
    Calls Tryd.prog 9 #[.agg (nr true l0)] w fun e w' => e = .returned (.string ⟨(45 :: Lib.decDigits (val l0).toNat).toArray⟩) ∧ Below w.heap.size w w' := by
  have z0 := nr_zero true l0
  have hi0 := infoNr true hl0
  have HI0 := Lib.hid hi0
  have HI1 := Lib.hid (infoNr false hl0)
  have HZ0 := Lib.hid (zero_any true hl0 hp0)
  have HN := Lib.hid (num_loop false l0 hl0 hp0 (fun h => by cases h))
  have hblk0 : Blk (w.alloc (.cells (nr true l0) 28)) w.heap.size (nr true l0) 28 := Blk.new rfl
  have hbel0 : Below w.heap.size w (w.alloc (.cells (nr true l0) 28)) := (Below.refl _ w).alloc (Nat.le_refl _) _
  have hrg0 := nr_range hblk0
  have hlen : (Lib.decDigits (val l0).toNat).length ≤ 97 := by
    rw [Lib.decDigits_length]
    have := (val_bd hp0).2
    rw [hl0, T320_eq] at this
    have h2 := T320_lt
    have h3 := (val_bd hp0).1
    exact nDigits_le 96 _ (by omega)
  have HK := Lib.hid hblk0; have HE := Lib.hid hbel0
  have hnl : ¬ 9223372036854775807 < 1 + (Lib.decDigits (val l0).toNat).length := by omega
  rw [hz] at HZ0
  clear hl0 hp0 hi0 hblk0 hbel0 hz
  go_enter Tryd.func9, Tryd.ntmps9
  go_wp2_with (first | (refine wpList_load_mid_w rfl _ _ rfl w.heap.size 0 rfl (nr true l0).toList _ hrg0 Tryd.underlying28 rfl HI0.out ?_) | (go_at_call 31; refine (HZ0.out _).mono ?_; rintro e w1 ⟨rfl, hb1⟩; have hblk1 := Blk.keep hb1 HK.out; have hbel1 := keepW HE.out hb1; have cc := hblk1.cell 0; rw [z0] at cc; have cf := hblk1.free 0; have hp1 := hblk1.put (i := 0) (.bool false); rw [nr_set0] at hp1; have hrg1 := nr_range hp1; have HW1 := Lib.hid (hbel1.setCell (p := ⟨w.heap.size, 0, none⟩) (Nat.le_refl _) (.bool false))) | (refine wpList_load_mid_w rfl _ _ rfl w.heap.size 0 rfl (nr false l0).toList _ hrg1 Tryd.underlying28 rfl HI1.out ?_) | (go_at_call 9; refine (HN.out _).mono ?_; rintro e w2 ⟨rfl, hb2⟩))
  go_ret
  exact ⟨by rw [show (ByteArray.mk #[45]) = ⟨[45].toArray⟩ from rfl, ByteArray.mk_append_mk]; rfl, keepW HW1.out hb2⟩
theorem num_any (b : Bool) {n : Int} (h0 : 0 ≤ n) (h1 : n < T320) (w : World) :
    Calls Tryd.prog 9 #[nv b n] w fun e w' => e = .returned (.string (tx (sv b n))) ∧ Below w.heap.size w w' := by
  have hl := digsN_len 20 n
  have hp := digsN_pcs 20 n
  have hv : val (digsN 20 n) = n := val_digsN 20 n h0 (by rw [T320_eq]; exact h1)
  rw [nv_nr]
  by_cases hc : b = true ∧ n ≠ 0
  · obtain ⟨rfl, hn⟩ := hc
    have h := num_minus (digsN 20 n) hl hp (by rw [hv, beq_eq_false_iff_ne]; exact hn) w
    rw [hv] at h
    refine h.mono ?_
    rintro e w' ⟨rfl, hb⟩
    refine ⟨?_, hb⟩
    unfold tx sv
    obtain ⟨k, rfl⟩ := Int.eq_ofNat_of_zero_le h0
    show Ending.returned (.string ⟨(45 :: Lib.decDigits k).toArray⟩) = .returned (.string ⟨(Lib.itoa (-(k : Int))).toArray⟩)
    rw [Lib.itoa_neg k (by omega)]
  · have hb : b = true → n = 0 := fun e => by
      by_cases hn : n = 0
      · exact hn
      · exact absurd ⟨e, hn⟩ hc
    have h := num_loop b (digsN 20 n) hl hp (fun e => by rw [hv, hb e]; rfl) w
    rw [hv] at h
    refine h.mono ?_
    rintro e w' ⟨rfl, hbw⟩
    refine ⟨?_, hbw⟩
    have e2 : sv b n = n := by
      unfold sv
      cases b
      · rfl
      · rw [hb rfl]; rfl
    unfold tx
    rw [e2]
    obtain ⟨k, rfl⟩ := Int.eq_ofNat_of_zero_le h0
    rw [Lib.itoa_nonneg]; rfl
end Go.Proofs.YtfjfmcnnakfjnaaDoor


/-
  The document's number of a text: its code in pieces.
-/

namespace Go.Proofs.YtfjfmcnnakfjnaaDoor

open Go.Den Go.RowKit
noncomputable section
set_option maxRecDepth 100000

def rtxS : Array Value → Option (Bool × Value)
  | ⟨[.agg ⟨.bool s :: r⟩]⟩ => some (okNum r, .string (tx (sv s (mag r))))
  | _ => none
noncomputable def pcRTx : PC Tryd.prog where
  f := 9
  spec := rtxS
  body := by kernel_rfl
  ok := fun args r hr hok => by
    unfold rtxS at hr
    split at hr
    · cases hr
      have hb := mag_bd hok
      obtain ⟨l, rfl, hl, hp, hm⟩ := num_out hok
      refine ⟨all_bel (by rw [belL, bel_num]; rfl), rfl, fun w => ?_⟩
      rw [nv_mag hok]
      exact num_any _ hb.1 hb.2 w
    · cases hr
def pcsU : List (PC Tryd.prog) := [pcRWide, pcRFrom, pcROf, pcRNum, pcRZero, pcRSize, pcRMul, pcRAdd, pcRCmp, pcRTx]
def envU : Env Tryd.prog := envS.with false pcsU
noncomputable def unC : Code := codeOf 14
noncomputable def un1 : Code := cR unC
noncomputable def un2 : Code := cR un1
noncomputable def un3 : Code := cR un2
noncomputable def un4 : Code := cR un3
noncomputable def un5 : Code := cR un4
noncomputable def unY : Code := cL un5
noncomputable def unZ : Code := cR un5
noncomputable def unL : Code := cL (cR unY)
noncomputable def unB : Code := cL unL
noncomputable def unS0 (s : ByteArray) (s1 : Bool) (m1 : Int) (s2 : Bool) (m2 : Int) : St := ⟨Go.Den.start [.string s, nv s1 m1, nv s2 m2] Tryd.f14.ntmps, [], B0⟩
noncomputable def unH (s1 : Bool) (m1 : Int) (s2 : Bool) (m2 : Int) (sa : Bool) (n : Int) : AHeap :=
  [(B0, ⟨⟨.bool s1 :: mapU (digsN 20 m1)⟩, 28, none⟩), (B0 + 1, ⟨⟨.bool s2 :: mapU (digsN 20 m2)⟩, 28, none⟩), (B0 + 2, ⟨⟨.bool false :: mapU (digsN 20 0)⟩, 28, none⟩), (B0 + 3, ⟨⟨.bool sa :: mapU (digsN 20 n)⟩, 28, none⟩)]
noncomputable def unT (zs : List Value) (s : ByteArray) (s1 : Bool) (m1 : Int) (s2 : Bool) (m2 : Int) (k i : Int) (sa : Bool) (n : Int) : St :=
  ⟨FT.ins [.string s, getZ zs 1, getZ zs 2, getZ zs 3, ptr B0, ptr (B0 + 1), ptr (B0 + 2), .bool false, ptr (B0 + 3), .int .i64 k, .int .i64 i, getZ zs 11, getZ zs 12, getZ zs 13, getZ zs 14, getZ zs 15, getZ zs 16, getZ zs 17, getZ zs 18, getZ zs 19, getZ zs 20, getZ zs 21, getZ zs 22, getZ zs 23, getZ zs 24, getZ zs 25, getZ zs 26, getZ zs 27, getZ zs 28, getZ zs 29, getZ zs 30, getZ zs 31, getZ zs 32, getZ zs 33, getZ zs 34, getZ zs 35, getZ zs 36, getZ zs 37, getZ zs 38, getZ zs 39, getZ zs 40, getZ zs 41, getZ zs 42, getZ zs 43, getZ zs 44, getZ zs 45, getZ zs 46, getZ zs 47, getZ zs 48, getZ zs 49, getZ zs 50, getZ zs 51, getZ zs 52, getZ zs 53, getZ zs 54, getZ zs 55, getZ zs 56, getZ zs 57, getZ zs 58, getZ zs 59, getZ zs 60, getZ zs 61, getZ zs 62, getZ zs 63, getZ zs 64, getZ zs 65, getZ zs 66, getZ zs 67, getZ zs 68, getZ zs 69, getZ zs 70, getZ zs 71, getZ zs 72, getZ zs 73, getZ zs 74, getZ zs 75, getZ zs 76, getZ zs 77] 0 ⟨78, .nil⟩, unH s1 m1 s2 m2 sa n, B0 + 4⟩
/-- Where the way with these sides ends. -/
noncomputable def goW (t : Tree (Exit × St)) : List (Nat × Bool) → Tree (Exit × St) :=
  Tree.rec (motive := fun _ => List (Nat × Bool) → Tree (Exit × St)) (fun a _ => .leaf a)
    (fun b _ _ iht ihf l => List.casesOn (motive := fun _ => Tree (Exit × St)) l
      (Bool.casesOn (motive := fun _ => Tree (Exit × St)) b (ihf []) (iht []))
      (fun p r => Nat.casesOn (motive := fun _ => Tree (Exit × St)) p.1
        (Bool.casesOn (motive := fun _ => Tree (Exit × St)) p.2 (ihf r) (iht r))
        (fun n => Bool.casesOn (motive := fun _ => Tree (Exit × St)) b (ihf ((n, p.2) :: r)) (iht ((n, p.2) :: r)))))
    (fun _ => .fail) t
/-- What is asked on it. -/
noncomputable def askW (t : Tree (Exit × St)) : List (Nat × Bool) → List Bool :=
  Tree.rec (motive := fun _ => List (Nat × Bool) → List Bool) (fun _ _ => ([] : List Bool))
    (fun b _ _ iht ihf l => List.casesOn (motive := fun _ => List Bool) l
      (Bool.casesOn (motive := fun _ => List Bool) b (ihf []) (iht []))
      (fun p r => Nat.casesOn (motive := fun _ => List Bool) p.1
        (b :: Bool.casesOn (motive := fun _ => List Bool) p.2 (ihf r) (iht r))
        (fun n => Bool.casesOn (motive := fun _ => List Bool) b (ihf ((n, p.2) :: r)) (iht ((n, p.2) :: r)))))
    (fun _ => ([] : List Bool)) t
theorem goW_run : ∀ {t : Tree (Exit × St)} {l : List (Nat × Bool)}, askW t l = l.map (·.2) → t.run = (goW t l).run := by
  intro t
  induction t with
  | leaf a => intro l _; rfl
  | fail => intro l _; rfl
  | br b x y ihx ihy =>
    intro l h
    cases l with
    | nil =>
      cases b
      · exact ihy h
      · exact ihx h
    | cons p r =>
      obtain ⟨k, c⟩ := p
      cases k with
      | succ n =>
        cases b
        · exact ihy h
        · exact ihx h
      | zero =>
        change b :: Bool.casesOn (motive := fun _ => List Bool) c (askW y r) (askW x r) = c :: r.map (·.2) at h
        obtain ⟨h1, h2⟩ := List.cons.inj h
        subst h1
        cases b
        · exact ihy h2
        · exact ihx h2
/-- A piece of code along a way. -/
theorem sat_way {c : Code} {st s : St} {x : Exit} {l : List (Nat × Bool)} (hok : cok c = true) (ha : askW ((ev envU 100).code [] c st) l = l.map (·.2)) (hg : (goW ((ev envU 100).code [] c st) l).run = some (x, s)) : SatCode Tryd.prog [] c st x s :=
  sat_read envU hcokP 100 (r := (x, s)) hok (by rw [goW_run ha]; exact hg)
noncomputable def outW (c : Code) (st : St) (l : List (Nat × Bool)) : St := (outOf (goW ((ev envU 100).code [] c st) l)).2
noncomputable def unS1 (s : ByteArray) (s1 : Bool) (m1 : Int) (s2 : Bool) (m2 : Int) : St := outW (cL unC) (unS0 s s1 m1 s2 m2) []
noncomputable def unS2 (s : ByteArray) (s1 : Bool) (m1 : Int) (s2 : Bool) (m2 : Int) : St := outW (cL un1) (unS1 s s1 m1 s2 m2) []
noncomputable def unS3 (s : ByteArray) (s1 : Bool) (m1 : Int) (s2 : Bool) (m2 : Int) : St := outW (cL un2) (unS2 s s1 m1 s2 m2) []
end

end Go.Proofs.YtfjfmcnnakfjnaaDoor


/-
  The document's number of a text: its rounds, and what is ahead of them and behind.
-/

namespace Go.Den

open Go.RowKit
noncomputable section
set_option linter.unusedSectionVars false

variable [Inhabited Root] [Inhabited Names]

section

variable {P : Program} {g : AHeap} {c b : Code} {st s1 : St} {id : Nat}

theorem sat_loop_ret (hc : c = .loop b) (h1 : SatCode P g b st .ret s1) : SatCode P g c st .ret s1 := by
  subst hc
  intro ρ w R ht
  refine cwp_loop ?_
  refine wp_mono (cwp_wp (h1 ρ w R ht)) ?_
  rintro x a' w' ⟨rfl, ρ', rfl, ht', R', S⟩
  exact ⟨rfl, ρ', rfl, ht', R', S⟩
theorem sat_block_ret (hc : c = .block id b) (h : SatCode P g b st .ret s1) : SatCode P g c st .ret s1 := by
  subst hc
  intro ρ w R ht
  refine cwp_of (by intro b h; cases h) (wp_block ?_)
  refine wp_mono (cwp_wp (h ρ w R ht)) ?_
  rintro x a' w' ⟨rfl, ρ', rfl, ht', R', S⟩
  exact ⟨rfl, ρ', rfl, ht', R', S⟩
end

end

end Go.Den

namespace Go.Proofs.YtfjfmcnnakfjnaaDoor

open Go.Den Go.RowKit
noncomputable section
set_option maxRecDepth 100000

def uD (s : ByteArray) (i : Int) : Int := IntKind.wrap .i64 (IntKind.wrap .i64 (byteAt s i.toNat) - 48)
def uA (n : Int) : Int := mag (mapU (digsN 20 (mag (mapU (digsN 20 n)) * 10)))
def uB (s : ByteArray) (i : Int) : Int := mag (mapU (digsN 20 (sz (uD s i))))
def uSg (sa : Bool) (s : ByteArray) (i n : Int) : Bool := addSg (sa != false) (uA n) (decide (uD s i < 0)) (uB s i)
def uN (sa : Bool) (s : ByteArray) (i n : Int) : Int := sz (sv (sa != false) (uA n) + sv (decide (uD s i < 0)) (uB s i))
def uIn (s : ByteArray) (i : Int) : Bool := decide (0 ≤ i) && decide (i < (s.size : Int))
def uK1 (n : Int) : Bool := okNum (mapU (digsN 20 n)) && decide (mag (mapU (digsN 20 n)) * 10 < T320)
def uK2 (s : ByteArray) (i n : Int) : Bool := okNum (mapU (digsN 20 (mag (mapU (digsN 20 n)) * 10))) && (okNum (mapU (digsN 20 (sz (uD s i)))) && (decide (uB s i < T304) && decide (uA n + uB s i < T320)))
theorem unB_ok : cok unB = true := by kernel_rfl
theorem unL_eq : unL = .loop unB := by kernel_rfl
theorem unB_n1 (zs : List Value) (s : ByteArray) (s1 : Bool) (m1 : Int) (s2 : Bool) (m2 : Int) (k i : Int) (sa : Bool) (n : Int) : askW ((ev envU 100).code [] unB (unT zs s s1 m1 s2 m2 k i sa n)) [(3, true), (3, true), (1, false), (7, true), (2, false), (7, true), (5, true), (5, true), (1, true)] = [decide (i < (s.size : Int)), uIn s i, decide (byteAt s i.toNat < 48), uIn s i, decide (byteAt s i.toNat > 57), uK1 n, uIn s i, okI (uD s i), uK2 s i n] := by kernel_rfl
theorem unB_n2 (zs : List Value) (s : ByteArray) (s1 : Bool) (m1 : Int) (s2 : Bool) (m2 : Int) (k i : Int) (sa : Bool) (n : Int) : (goW ((ev envU 100).code [] unB (unT zs s s1 m1 s2 m2 k i sa n)) [(3, true), (3, true), (1, false), (7, true), (2, false), (7, true), (5, true), (5, true), (1, true)]).run = some (.normal, unT (tlOf (outW unB (unT zs s s1 m1 s2 m2 k i sa n) [(3, true), (3, true), (1, false), (7, true), (2, false), (7, true), (5, true), (5, true), (1, true)])) s s1 m1 s2 m2 k (IntKind.wrap .i64 (i + 1)) (uSg sa s i n) (uN sa s i n)) := by kernel_rfl
theorem unB_e1 (zs : List Value) (s : ByteArray) (s1 : Bool) (m1 : Int) (s2 : Bool) (m2 : Int) (k i : Int) (sa : Bool) (n : Int) : askW ((ev envU 100).code [] unB (unT zs s s1 m1 s2 m2 k i sa n)) [(3, false)] = [decide (i < (s.size : Int))] := by kernel_rfl
theorem unB_e2 (zs : List Value) (s : ByteArray) (s1 : Bool) (m1 : Int) (s2 : Bool) (m2 : Int) (k i : Int) (sa : Bool) (n : Int) : (goW ((ev envU 100).code [] unB (unT zs s s1 m1 s2 m2 k i sa n)) [(3, false)]).run = some (.exit 0, unT (tlOf (outW unB (unT zs s s1 m1 s2 m2 k i sa n) [(3, false)])) s s1 m1 s2 m2 k i sa n) := by kernel_rfl
theorem unB_l1 (zs : List Value) (s : ByteArray) (s1 : Bool) (m1 : Int) (s2 : Bool) (m2 : Int) (k i : Int) (sa : Bool) (n : Int) : askW ((ev envU 100).code [] unB (unT zs s s1 m1 s2 m2 k i sa n)) [(3, true), (3, true), (1, true)] = [decide (i < (s.size : Int)), uIn s i, decide (byteAt s i.toNat < 48)] := by kernel_rfl
theorem unB_l2 (zs : List Value) (s : ByteArray) (s1 : Bool) (m1 : Int) (s2 : Bool) (m2 : Int) (k i : Int) (sa : Bool) (n : Int) : (goW ((ev envU 100).code [] unB (unT zs s s1 m1 s2 m2 k i sa n)) [(3, true), (3, true), (1, true)]).run = some (.ret, outW unB (unT zs s s1 m1 s2 m2 k i sa n) [(3, true), (3, true), (1, true)]) := by kernel_rfl
theorem unB_l3 (zs : List Value) (s : ByteArray) (s1 : Bool) (m1 : Int) (s2 : Bool) (m2 : Int) (k i : Int) (sa : Bool) (n : Int) : resultsA Tryd.prog [] Tryd.f14 (outW unB (unT zs s s1 m1 s2 m2 k i sa n) [(3, true), (3, true), (1, true)]).tmps (outW unB (unT zs s s1 m1 s2 m2 k i sa n) [(3, true), (3, true), (1, true)]).h = some (.tuple #[nv sa n, .bool false]) := by kernel_rfl
theorem unB_h1 (zs : List Value) (s : ByteArray) (s1 : Bool) (m1 : Int) (s2 : Bool) (m2 : Int) (k i : Int) (sa : Bool) (n : Int) : askW ((ev envU 100).code [] unB (unT zs s s1 m1 s2 m2 k i sa n)) [(3, true), (3, true), (1, false), (7, true), (2, true)] = [decide (i < (s.size : Int)), uIn s i, decide (byteAt s i.toNat < 48), uIn s i, decide (byteAt s i.toNat > 57)] := by kernel_rfl
theorem unB_h2 (zs : List Value) (s : ByteArray) (s1 : Bool) (m1 : Int) (s2 : Bool) (m2 : Int) (k i : Int) (sa : Bool) (n : Int) : (goW ((ev envU 100).code [] unB (unT zs s s1 m1 s2 m2 k i sa n)) [(3, true), (3, true), (1, false), (7, true), (2, true)]).run = some (.ret, outW unB (unT zs s s1 m1 s2 m2 k i sa n) [(3, true), (3, true), (1, false), (7, true), (2, true)]) := by kernel_rfl
theorem unB_h3 (zs : List Value) (s : ByteArray) (s1 : Bool) (m1 : Int) (s2 : Bool) (m2 : Int) (k i : Int) (sa : Bool) (n : Int) : resultsA Tryd.prog [] Tryd.f14 (outW unB (unT zs s s1 m1 s2 m2 k i sa n) [(3, true), (3, true), (1, false), (7, true), (2, true)]).tmps (outW unB (unT zs s s1 m1 s2 m2 k i sa n) [(3, true), (3, true), (1, false), (7, true), (2, true)]).h = some (.tuple #[nv sa n, .bool false]) := by kernel_rfl
theorem un_a0 (s : ByteArray) (s1 : Bool) (m1 : Int) (s2 : Bool) (m2 : Int) : askW ((ev envU 100).code [] (cL unC) (unS0 s s1 m1 s2 m2)) [] = [] := by kernel_rfl
theorem un_g0 (s : ByteArray) (s1 : Bool) (m1 : Int) (s2 : Bool) (m2 : Int) : (goW ((ev envU 100).code [] (cL unC) (unS0 s s1 m1 s2 m2)) []).run = some (.normal, (unS1 s s1 m1 s2 m2)) := by kernel_rfl
theorem un_a1 (s : ByteArray) (s1 : Bool) (m1 : Int) (s2 : Bool) (m2 : Int) : askW ((ev envU 100).code [] (cL un1) (unS1 s s1 m1 s2 m2)) [] = [] := by kernel_rfl
theorem un_g1 (s : ByteArray) (s1 : Bool) (m1 : Int) (s2 : Bool) (m2 : Int) : (goW ((ev envU 100).code [] (cL un1) (unS1 s s1 m1 s2 m2)) []).run = some (.normal, (unS2 s s1 m1 s2 m2)) := by kernel_rfl
theorem un_a2 (s : ByteArray) (s1 : Bool) (m1 : Int) (s2 : Bool) (m2 : Int) : askW ((ev envU 100).code [] (cL un2) (unS2 s s1 m1 s2 m2)) [] = [] := by kernel_rfl
theorem un_g2 (s : ByteArray) (s1 : Bool) (m1 : Int) (s2 : Bool) (m2 : Int) : (goW ((ev envU 100).code [] (cL un2) (unS2 s s1 m1 s2 m2)) []).run = some (.normal, (unS3 s s1 m1 s2 m2)) := by kernel_rfl
def unS4m (s : ByteArray) (s1 : Bool) (m1 : Int) (s2 : Bool) (m2 : Int) : St := outW (cL un3) (unS3 s s1 m1 s2 m2) [(2, true), (5, true), (2, true)]
theorem un_a3m (s : ByteArray) (s1 : Bool) (m1 : Int) (s2 : Bool) (m2 : Int) : askW ((ev envU 100).code [] (cL un3) (unS3 s s1 m1 s2 m2)) [(2, true), (5, true), (2, true)] = [decide ((s.size : Int) > 0), decide (0 < (s.size : Int)), byteAt s 0 == 45] := by kernel_rfl
theorem un_g3m (s : ByteArray) (s1 : Bool) (m1 : Int) (s2 : Bool) (m2 : Int) : (goW ((ev envU 100).code [] (cL un3) (unS3 s s1 m1 s2 m2)) [(2, true), (5, true), (2, true)]).run = some (.normal, unS4m s s1 m1 s2 m2) := by kernel_rfl
theorem un_a4mr (s : ByteArray) (s1 : Bool) (m1 : Int) (s2 : Bool) (m2 : Int) : askW ((ev envU 100).code [] (cL un4) (unS4m s s1 m1 s2 m2)) [(3, true)] = [(s.size : Int) == 1] := by kernel_rfl
theorem un_g4mr (s : ByteArray) (s1 : Bool) (m1 : Int) (s2 : Bool) (m2 : Int) : (goW ((ev envU 100).code [] (cL un4) (unS4m s s1 m1 s2 m2)) [(3, true)]).run = some (.ret, outW (cL un4) (unS4m s s1 m1 s2 m2) [(3, true)]) := by kernel_rfl
theorem un_r4mr (s : ByteArray) (s1 : Bool) (m1 : Int) (s2 : Bool) (m2 : Int) : resultsA Tryd.prog [] Tryd.f14 (outW (cL un4) (unS4m s s1 m1 s2 m2) [(3, true)]).tmps (outW (cL un4) (unS4m s s1 m1 s2 m2) [(3, true)]).h = some (.tuple #[nv false 0, .bool false]) := by kernel_rfl
theorem un_a4ms (s : ByteArray) (s1 : Bool) (m1 : Int) (s2 : Bool) (m2 : Int) : askW ((ev envU 100).code [] (cL un4) (unS4m s s1 m1 s2 m2)) [(3, false), (7, true)] = [(s.size : Int) == 1, decide ((s.size : Int) > 60)] := by kernel_rfl
theorem un_g4ms (s : ByteArray) (s1 : Bool) (m1 : Int) (s2 : Bool) (m2 : Int) : (goW ((ev envU 100).code [] (cL un4) (unS4m s s1 m1 s2 m2)) [(3, false), (7, true)]).run = some (.ret, outW (cL un4) (unS4m s s1 m1 s2 m2) [(3, false), (7, true)]) := by kernel_rfl
theorem un_r4ms (s : ByteArray) (s1 : Bool) (m1 : Int) (s2 : Bool) (m2 : Int) : resultsA Tryd.prog [] Tryd.f14 (outW (cL un4) (unS4m s s1 m1 s2 m2) [(3, false), (7, true)]).tmps (outW (cL un4) (unS4m s s1 m1 s2 m2) [(3, false), (7, true)]).h = some (.tuple #[nv false 0, .bool false]) := by kernel_rfl
def unS5m (s : ByteArray) (s1 : Bool) (m1 : Int) (s2 : Bool) (m2 : Int) : St := outW (cL un4) (unS4m s s1 m1 s2 m2) [(3, false), (7, false)]
theorem un_a4mn (s : ByteArray) (s1 : Bool) (m1 : Int) (s2 : Bool) (m2 : Int) : askW ((ev envU 100).code [] (cL un4) (unS4m s s1 m1 s2 m2)) [(3, false), (7, false)] = [(s.size : Int) == 1, decide ((s.size : Int) > 60)] := by kernel_rfl
theorem un_g4mn (s : ByteArray) (s1 : Bool) (m1 : Int) (s2 : Bool) (m2 : Int) : (goW ((ev envU 100).code [] (cL un4) (unS4m s s1 m1 s2 m2)) [(3, false), (7, false)]).run = some (.normal, unS5m s s1 m1 s2 m2) := by kernel_rfl
def unS6m (s : ByteArray) (s1 : Bool) (m1 : Int) (s2 : Bool) (m2 : Int) : St := outW (cL unY) (unS5m s s1 m1 s2 m2) []
theorem un_a5m (s : ByteArray) (s1 : Bool) (m1 : Int) (s2 : Bool) (m2 : Int) : askW ((ev envU 100).code [] (cL unY) (unS5m s s1 m1 s2 m2)) [] = [] := by kernel_rfl
theorem un_g5m (s : ByteArray) (s1 : Bool) (m1 : Int) (s2 : Bool) (m2 : Int) : (goW ((ev envU 100).code [] (cL unY) (unS5m s s1 m1 s2 m2)) []).run = some (.normal, unS6m s s1 m1 s2 m2) := by kernel_rfl
theorem un_t6m (s : ByteArray) (s1 : Bool) (m1 : Int) (s2 : Bool) (m2 : Int) : (unT (tlOf (unS6m s s1 m1 s2 m2)) s s1 m1 s2 m2 1 1 false 0).tmps.arr = (unS6m s s1 m1 s2 m2).tmps.arr := by kernel_rfl
theorem un_h6m (s : ByteArray) (s1 : Bool) (m1 : Int) (s2 : Bool) (m2 : Int) : (unT (tlOf (unS6m s s1 m1 s2 m2)) s s1 m1 s2 m2 1 1 false 0).h = (unS6m s s1 m1 s2 m2).h := by kernel_rfl
theorem un_n6m (s : ByteArray) (s1 : Bool) (m1 : Int) (s2 : Bool) (m2 : Int) : (unT (tlOf (unS6m s s1 m1 s2 m2)) s s1 m1 s2 m2 1 1 false 0).nx = (unS6m s s1 m1 s2 m2).nx := by kernel_rfl
def unS4p (s : ByteArray) (s1 : Bool) (m1 : Int) (s2 : Bool) (m2 : Int) : St := outW (cL un3) (unS3 s s1 m1 s2 m2) [(2, true), (5, true), (2, false)]
theorem un_a3p (s : ByteArray) (s1 : Bool) (m1 : Int) (s2 : Bool) (m2 : Int) : askW ((ev envU 100).code [] (cL un3) (unS3 s s1 m1 s2 m2)) [(2, true), (5, true), (2, false)] = [decide ((s.size : Int) > 0), decide (0 < (s.size : Int)), byteAt s 0 == 45] := by kernel_rfl
theorem un_g3p (s : ByteArray) (s1 : Bool) (m1 : Int) (s2 : Bool) (m2 : Int) : (goW ((ev envU 100).code [] (cL un3) (unS3 s s1 m1 s2 m2)) [(2, true), (5, true), (2, false)]).run = some (.normal, unS4p s s1 m1 s2 m2) := by kernel_rfl
theorem un_a4pr (s : ByteArray) (s1 : Bool) (m1 : Int) (s2 : Bool) (m2 : Int) : askW ((ev envU 100).code [] (cL un4) (unS4p s s1 m1 s2 m2)) [(3, true)] = [(s.size : Int) == 0] := by kernel_rfl
theorem un_g4pr (s : ByteArray) (s1 : Bool) (m1 : Int) (s2 : Bool) (m2 : Int) : (goW ((ev envU 100).code [] (cL un4) (unS4p s s1 m1 s2 m2)) [(3, true)]).run = some (.ret, outW (cL un4) (unS4p s s1 m1 s2 m2) [(3, true)]) := by kernel_rfl
theorem un_r4pr (s : ByteArray) (s1 : Bool) (m1 : Int) (s2 : Bool) (m2 : Int) : resultsA Tryd.prog [] Tryd.f14 (outW (cL un4) (unS4p s s1 m1 s2 m2) [(3, true)]).tmps (outW (cL un4) (unS4p s s1 m1 s2 m2) [(3, true)]).h = some (.tuple #[nv false 0, .bool false]) := by kernel_rfl
theorem un_a4ps (s : ByteArray) (s1 : Bool) (m1 : Int) (s2 : Bool) (m2 : Int) : askW ((ev envU 100).code [] (cL un4) (unS4p s s1 m1 s2 m2)) [(3, false), (7, true)] = [(s.size : Int) == 0, decide ((s.size : Int) > 60)] := by kernel_rfl
theorem un_g4ps (s : ByteArray) (s1 : Bool) (m1 : Int) (s2 : Bool) (m2 : Int) : (goW ((ev envU 100).code [] (cL un4) (unS4p s s1 m1 s2 m2)) [(3, false), (7, true)]).run = some (.ret, outW (cL un4) (unS4p s s1 m1 s2 m2) [(3, false), (7, true)]) := by kernel_rfl
theorem un_r4ps (s : ByteArray) (s1 : Bool) (m1 : Int) (s2 : Bool) (m2 : Int) : resultsA Tryd.prog [] Tryd.f14 (outW (cL un4) (unS4p s s1 m1 s2 m2) [(3, false), (7, true)]).tmps (outW (cL un4) (unS4p s s1 m1 s2 m2) [(3, false), (7, true)]).h = some (.tuple #[nv false 0, .bool false]) := by kernel_rfl
def unS5p (s : ByteArray) (s1 : Bool) (m1 : Int) (s2 : Bool) (m2 : Int) : St := outW (cL un4) (unS4p s s1 m1 s2 m2) [(3, false), (7, false)]
theorem un_a4pn (s : ByteArray) (s1 : Bool) (m1 : Int) (s2 : Bool) (m2 : Int) : askW ((ev envU 100).code [] (cL un4) (unS4p s s1 m1 s2 m2)) [(3, false), (7, false)] = [(s.size : Int) == 0, decide ((s.size : Int) > 60)] := by kernel_rfl
theorem un_g4pn (s : ByteArray) (s1 : Bool) (m1 : Int) (s2 : Bool) (m2 : Int) : (goW ((ev envU 100).code [] (cL un4) (unS4p s s1 m1 s2 m2)) [(3, false), (7, false)]).run = some (.normal, unS5p s s1 m1 s2 m2) := by kernel_rfl
def unS6p (s : ByteArray) (s1 : Bool) (m1 : Int) (s2 : Bool) (m2 : Int) : St := outW (cL unY) (unS5p s s1 m1 s2 m2) []
theorem un_a5p (s : ByteArray) (s1 : Bool) (m1 : Int) (s2 : Bool) (m2 : Int) : askW ((ev envU 100).code [] (cL unY) (unS5p s s1 m1 s2 m2)) [] = [] := by kernel_rfl
theorem un_g5p (s : ByteArray) (s1 : Bool) (m1 : Int) (s2 : Bool) (m2 : Int) : (goW ((ev envU 100).code [] (cL unY) (unS5p s s1 m1 s2 m2)) []).run = some (.normal, unS6p s s1 m1 s2 m2) := by kernel_rfl
theorem un_t6p (s : ByteArray) (s1 : Bool) (m1 : Int) (s2 : Bool) (m2 : Int) : (unT (tlOf (unS6p s s1 m1 s2 m2)) s s1 m1 s2 m2 0 0 false 0).tmps.arr = (unS6p s s1 m1 s2 m2).tmps.arr := by kernel_rfl
theorem un_h6p (s : ByteArray) (s1 : Bool) (m1 : Int) (s2 : Bool) (m2 : Int) : (unT (tlOf (unS6p s s1 m1 s2 m2)) s s1 m1 s2 m2 0 0 false 0).h = (unS6p s s1 m1 s2 m2).h := by kernel_rfl
theorem un_n6p (s : ByteArray) (s1 : Bool) (m1 : Int) (s2 : Bool) (m2 : Int) : (unT (tlOf (unS6p s s1 m1 s2 m2)) s s1 m1 s2 m2 0 0 false 0).nx = (unS6p s s1 m1 s2 m2).nx := by kernel_rfl
def unS4e (s : ByteArray) (s1 : Bool) (m1 : Int) (s2 : Bool) (m2 : Int) : St := outW (cL un3) (unS3 s s1 m1 s2 m2) [(2, false)]
theorem un_a3e (s : ByteArray) (s1 : Bool) (m1 : Int) (s2 : Bool) (m2 : Int) : askW ((ev envU 100).code [] (cL un3) (unS3 s s1 m1 s2 m2)) [(2, false)] = [decide ((s.size : Int) > 0)] := by kernel_rfl
theorem un_g3e (s : ByteArray) (s1 : Bool) (m1 : Int) (s2 : Bool) (m2 : Int) : (goW ((ev envU 100).code [] (cL un3) (unS3 s s1 m1 s2 m2)) [(2, false)]).run = some (.normal, unS4e s s1 m1 s2 m2) := by kernel_rfl
theorem un_a4er (s : ByteArray) (s1 : Bool) (m1 : Int) (s2 : Bool) (m2 : Int) : askW ((ev envU 100).code [] (cL un4) (unS4e s s1 m1 s2 m2)) [(3, true)] = [(s.size : Int) == 0] := by kernel_rfl
theorem un_g4er (s : ByteArray) (s1 : Bool) (m1 : Int) (s2 : Bool) (m2 : Int) : (goW ((ev envU 100).code [] (cL un4) (unS4e s s1 m1 s2 m2)) [(3, true)]).run = some (.ret, outW (cL un4) (unS4e s s1 m1 s2 m2) [(3, true)]) := by kernel_rfl
theorem un_r4er (s : ByteArray) (s1 : Bool) (m1 : Int) (s2 : Bool) (m2 : Int) : resultsA Tryd.prog [] Tryd.f14 (outW (cL un4) (unS4e s s1 m1 s2 m2) [(3, true)]).tmps (outW (cL un4) (unS4e s s1 m1 s2 m2) [(3, true)]).h = some (.tuple #[nv false 0, .bool false]) := by kernel_rfl
theorem un_a4es (s : ByteArray) (s1 : Bool) (m1 : Int) (s2 : Bool) (m2 : Int) : askW ((ev envU 100).code [] (cL un4) (unS4e s s1 m1 s2 m2)) [(3, false), (7, true)] = [(s.size : Int) == 0, decide ((s.size : Int) > 60)] := by kernel_rfl
theorem un_g4es (s : ByteArray) (s1 : Bool) (m1 : Int) (s2 : Bool) (m2 : Int) : (goW ((ev envU 100).code [] (cL un4) (unS4e s s1 m1 s2 m2)) [(3, false), (7, true)]).run = some (.ret, outW (cL un4) (unS4e s s1 m1 s2 m2) [(3, false), (7, true)]) := by kernel_rfl
theorem un_r4es (s : ByteArray) (s1 : Bool) (m1 : Int) (s2 : Bool) (m2 : Int) : resultsA Tryd.prog [] Tryd.f14 (outW (cL un4) (unS4e s s1 m1 s2 m2) [(3, false), (7, true)]).tmps (outW (cL un4) (unS4e s s1 m1 s2 m2) [(3, false), (7, true)]).h = some (.tuple #[nv false 0, .bool false]) := by kernel_rfl
def uEq (b : Bool) (s : ByteArray) (n : Int) : Bool := (tx (sv b (mag (mapU (digsN 20 n))))).toList == s.toList
def uOk2 (n m : Int) : Bool := okNum (mapU (digsN 20 n)) && okNum (mapU (digsN 20 m))
def uGe (b : Bool) (n : Int) (s1 : Bool) (m1 : Int) : Bool := decide (cmpI (sv b (mag (mapU (digsN 20 n)))) (sv s1 (mag (mapU (digsN 20 m1)))) ≥ 0)
def uLe (b : Bool) (n : Int) (s1 : Bool) (m1 : Int) : Bool := decide (cmpI (sv b (mag (mapU (digsN 20 n)))) (sv s1 (mag (mapU (digsN 20 m1)))) ≤ 0)
theorem un_zta1 (zs : List Value) (s : ByteArray) (s1 : Bool) (m1 : Int) (s2 : Bool) (m2 : Int) (k i : Int) (sa : Bool) (n : Int) : askW ((ev envU 100).code [] unZ (unT zs s s1 m1 s2 m2 k i sa n)) [(2, true), (5, true), (4, true), (11, true), (3, true), (14, true), (3, true)] = [k == 1, okNum (mapU (digsN 20 n)), uEq true s n, uOk2 n m1, uGe true n s1 m1, uOk2 n m2, uLe true n s2 m2] := by kernel_rfl
theorem un_zta2 (zs : List Value) (s : ByteArray) (s1 : Bool) (m1 : Int) (s2 : Bool) (m2 : Int) (k i : Int) (sa : Bool) (n : Int) : (goW ((ev envU 100).code [] unZ (unT zs s s1 m1 s2 m2 k i sa n)) [(2, true), (5, true), (4, true), (11, true), (3, true), (14, true), (3, true)]).run = some (.ret, outW unZ (unT zs s s1 m1 s2 m2 k i sa n) [(2, true), (5, true), (4, true), (11, true), (3, true), (14, true), (3, true)]) := by kernel_rfl
theorem un_zta3 (zs : List Value) (s : ByteArray) (s1 : Bool) (m1 : Int) (s2 : Bool) (m2 : Int) (k i : Int) (sa : Bool) (n : Int) : resultsA Tryd.prog [] Tryd.f14 (outW unZ (unT zs s s1 m1 s2 m2 k i sa n) [(2, true), (5, true), (4, true), (11, true), (3, true), (14, true), (3, true)]).tmps (outW unZ (unT zs s s1 m1 s2 m2 k i sa n) [(2, true), (5, true), (4, true), (11, true), (3, true), (14, true), (3, true)]).h = some (.tuple #[nv true n, .bool true]) := by kernel_rfl
theorem un_ztb1 (zs : List Value) (s : ByteArray) (s1 : Bool) (m1 : Int) (s2 : Bool) (m2 : Int) (k i : Int) (sa : Bool) (n : Int) : askW ((ev envU 100).code [] unZ (unT zs s s1 m1 s2 m2 k i sa n)) [(2, true), (5, true), (4, true), (11, true), (3, true), (14, true), (3, false)] = [k == 1, okNum (mapU (digsN 20 n)), uEq true s n, uOk2 n m1, uGe true n s1 m1, uOk2 n m2, uLe true n s2 m2] := by kernel_rfl
theorem un_ztb2 (zs : List Value) (s : ByteArray) (s1 : Bool) (m1 : Int) (s2 : Bool) (m2 : Int) (k i : Int) (sa : Bool) (n : Int) : (goW ((ev envU 100).code [] unZ (unT zs s s1 m1 s2 m2 k i sa n)) [(2, true), (5, true), (4, true), (11, true), (3, true), (14, true), (3, false)]).run = some (.ret, outW unZ (unT zs s s1 m1 s2 m2 k i sa n) [(2, true), (5, true), (4, true), (11, true), (3, true), (14, true), (3, false)]) := by kernel_rfl
theorem un_ztb3 (zs : List Value) (s : ByteArray) (s1 : Bool) (m1 : Int) (s2 : Bool) (m2 : Int) (k i : Int) (sa : Bool) (n : Int) : resultsA Tryd.prog [] Tryd.f14 (outW unZ (unT zs s s1 m1 s2 m2 k i sa n) [(2, true), (5, true), (4, true), (11, true), (3, true), (14, true), (3, false)]).tmps (outW unZ (unT zs s s1 m1 s2 m2 k i sa n) [(2, true), (5, true), (4, true), (11, true), (3, true), (14, true), (3, false)]).h = some (.tuple #[nv true n, .bool false]) := by kernel_rfl
theorem un_ztc1 (zs : List Value) (s : ByteArray) (s1 : Bool) (m1 : Int) (s2 : Bool) (m2 : Int) (k i : Int) (sa : Bool) (n : Int) : askW ((ev envU 100).code [] unZ (unT zs s s1 m1 s2 m2 k i sa n)) [(2, true), (5, true), (4, true), (11, true), (3, false)] = [k == 1, okNum (mapU (digsN 20 n)), uEq true s n, uOk2 n m1, uGe true n s1 m1] := by kernel_rfl
theorem un_ztc2 (zs : List Value) (s : ByteArray) (s1 : Bool) (m1 : Int) (s2 : Bool) (m2 : Int) (k i : Int) (sa : Bool) (n : Int) : (goW ((ev envU 100).code [] unZ (unT zs s s1 m1 s2 m2 k i sa n)) [(2, true), (5, true), (4, true), (11, true), (3, false)]).run = some (.ret, outW unZ (unT zs s s1 m1 s2 m2 k i sa n) [(2, true), (5, true), (4, true), (11, true), (3, false)]) := by kernel_rfl
theorem un_ztc3 (zs : List Value) (s : ByteArray) (s1 : Bool) (m1 : Int) (s2 : Bool) (m2 : Int) (k i : Int) (sa : Bool) (n : Int) : resultsA Tryd.prog [] Tryd.f14 (outW unZ (unT zs s s1 m1 s2 m2 k i sa n) [(2, true), (5, true), (4, true), (11, true), (3, false)]).tmps (outW unZ (unT zs s s1 m1 s2 m2 k i sa n) [(2, true), (5, true), (4, true), (11, true), (3, false)]).h = some (.tuple #[nv true n, .bool false]) := by kernel_rfl
theorem un_ztd1 (zs : List Value) (s : ByteArray) (s1 : Bool) (m1 : Int) (s2 : Bool) (m2 : Int) (k i : Int) (sa : Bool) (n : Int) : askW ((ev envU 100).code [] unZ (unT zs s s1 m1 s2 m2 k i sa n)) [(2, true), (5, true), (4, false)] = [k == 1, okNum (mapU (digsN 20 n)), uEq true s n] := by kernel_rfl
theorem un_ztd2 (zs : List Value) (s : ByteArray) (s1 : Bool) (m1 : Int) (s2 : Bool) (m2 : Int) (k i : Int) (sa : Bool) (n : Int) : (goW ((ev envU 100).code [] unZ (unT zs s s1 m1 s2 m2 k i sa n)) [(2, true), (5, true), (4, false)]).run = some (.ret, outW unZ (unT zs s s1 m1 s2 m2 k i sa n) [(2, true), (5, true), (4, false)]) := by kernel_rfl
theorem un_ztd3 (zs : List Value) (s : ByteArray) (s1 : Bool) (m1 : Int) (s2 : Bool) (m2 : Int) (k i : Int) (sa : Bool) (n : Int) : resultsA Tryd.prog [] Tryd.f14 (outW unZ (unT zs s s1 m1 s2 m2 k i sa n) [(2, true), (5, true), (4, false)]).tmps (outW unZ (unT zs s s1 m1 s2 m2 k i sa n) [(2, true), (5, true), (4, false)]).h = some (.tuple #[nv true n, .bool false]) := by kernel_rfl
theorem un_zfa1 (zs : List Value) (s : ByteArray) (s1 : Bool) (m1 : Int) (s2 : Bool) (m2 : Int) (k i : Int) (sa : Bool) (n : Int) : askW ((ev envU 100).code [] unZ (unT zs s s1 m1 s2 m2 k i sa n)) [(2, false), (5, true), (4, true), (11, true), (3, true), (14, true), (3, true)] = [k == 1, okNum (mapU (digsN 20 n)), uEq false s n, uOk2 n m1, uGe false n s1 m1, uOk2 n m2, uLe false n s2 m2] := by kernel_rfl
theorem un_zfa2 (zs : List Value) (s : ByteArray) (s1 : Bool) (m1 : Int) (s2 : Bool) (m2 : Int) (k i : Int) (sa : Bool) (n : Int) : (goW ((ev envU 100).code [] unZ (unT zs s s1 m1 s2 m2 k i sa n)) [(2, false), (5, true), (4, true), (11, true), (3, true), (14, true), (3, true)]).run = some (.ret, outW unZ (unT zs s s1 m1 s2 m2 k i sa n) [(2, false), (5, true), (4, true), (11, true), (3, true), (14, true), (3, true)]) := by kernel_rfl
theorem un_zfa3 (zs : List Value) (s : ByteArray) (s1 : Bool) (m1 : Int) (s2 : Bool) (m2 : Int) (k i : Int) (sa : Bool) (n : Int) : resultsA Tryd.prog [] Tryd.f14 (outW unZ (unT zs s s1 m1 s2 m2 k i sa n) [(2, false), (5, true), (4, true), (11, true), (3, true), (14, true), (3, true)]).tmps (outW unZ (unT zs s s1 m1 s2 m2 k i sa n) [(2, false), (5, true), (4, true), (11, true), (3, true), (14, true), (3, true)]).h = some (.tuple #[nv false n, .bool true]) := by kernel_rfl
theorem un_zfb1 (zs : List Value) (s : ByteArray) (s1 : Bool) (m1 : Int) (s2 : Bool) (m2 : Int) (k i : Int) (sa : Bool) (n : Int) : askW ((ev envU 100).code [] unZ (unT zs s s1 m1 s2 m2 k i sa n)) [(2, false), (5, true), (4, true), (11, true), (3, true), (14, true), (3, false)] = [k == 1, okNum (mapU (digsN 20 n)), uEq false s n, uOk2 n m1, uGe false n s1 m1, uOk2 n m2, uLe false n s2 m2] := by kernel_rfl
theorem un_zfb2 (zs : List Value) (s : ByteArray) (s1 : Bool) (m1 : Int) (s2 : Bool) (m2 : Int) (k i : Int) (sa : Bool) (n : Int) : (goW ((ev envU 100).code [] unZ (unT zs s s1 m1 s2 m2 k i sa n)) [(2, false), (5, true), (4, true), (11, true), (3, true), (14, true), (3, false)]).run = some (.ret, outW unZ (unT zs s s1 m1 s2 m2 k i sa n) [(2, false), (5, true), (4, true), (11, true), (3, true), (14, true), (3, false)]) := by kernel_rfl
theorem un_zfb3 (zs : List Value) (s : ByteArray) (s1 : Bool) (m1 : Int) (s2 : Bool) (m2 : Int) (k i : Int) (sa : Bool) (n : Int) : resultsA Tryd.prog [] Tryd.f14 (outW unZ (unT zs s s1 m1 s2 m2 k i sa n) [(2, false), (5, true), (4, true), (11, true), (3, true), (14, true), (3, false)]).tmps (outW unZ (unT zs s s1 m1 s2 m2 k i sa n) [(2, false), (5, true), (4, true), (11, true), (3, true), (14, true), (3, false)]).h = some (.tuple #[nv false n, .bool false]) := by kernel_rfl
theorem un_zfc1 (zs : List Value) (s : ByteArray) (s1 : Bool) (m1 : Int) (s2 : Bool) (m2 : Int) (k i : Int) (sa : Bool) (n : Int) : askW ((ev envU 100).code [] unZ (unT zs s s1 m1 s2 m2 k i sa n)) [(2, false), (5, true), (4, true), (11, true), (3, false)] = [k == 1, okNum (mapU (digsN 20 n)), uEq false s n, uOk2 n m1, uGe false n s1 m1] := by kernel_rfl
theorem un_zfc2 (zs : List Value) (s : ByteArray) (s1 : Bool) (m1 : Int) (s2 : Bool) (m2 : Int) (k i : Int) (sa : Bool) (n : Int) : (goW ((ev envU 100).code [] unZ (unT zs s s1 m1 s2 m2 k i sa n)) [(2, false), (5, true), (4, true), (11, true), (3, false)]).run = some (.ret, outW unZ (unT zs s s1 m1 s2 m2 k i sa n) [(2, false), (5, true), (4, true), (11, true), (3, false)]) := by kernel_rfl
theorem un_zfc3 (zs : List Value) (s : ByteArray) (s1 : Bool) (m1 : Int) (s2 : Bool) (m2 : Int) (k i : Int) (sa : Bool) (n : Int) : resultsA Tryd.prog [] Tryd.f14 (outW unZ (unT zs s s1 m1 s2 m2 k i sa n) [(2, false), (5, true), (4, true), (11, true), (3, false)]).tmps (outW unZ (unT zs s s1 m1 s2 m2 k i sa n) [(2, false), (5, true), (4, true), (11, true), (3, false)]).h = some (.tuple #[nv false n, .bool false]) := by kernel_rfl
theorem un_zfd1 (zs : List Value) (s : ByteArray) (s1 : Bool) (m1 : Int) (s2 : Bool) (m2 : Int) (k i : Int) (sa : Bool) (n : Int) : askW ((ev envU 100).code [] unZ (unT zs s s1 m1 s2 m2 k i sa n)) [(2, false), (5, true), (4, false)] = [k == 1, okNum (mapU (digsN 20 n)), uEq false s n] := by kernel_rfl
theorem un_zfd2 (zs : List Value) (s : ByteArray) (s1 : Bool) (m1 : Int) (s2 : Bool) (m2 : Int) (k i : Int) (sa : Bool) (n : Int) : (goW ((ev envU 100).code [] unZ (unT zs s s1 m1 s2 m2 k i sa n)) [(2, false), (5, true), (4, false)]).run = some (.ret, outW unZ (unT zs s s1 m1 s2 m2 k i sa n) [(2, false), (5, true), (4, false)]) := by kernel_rfl
theorem un_zfd3 (zs : List Value) (s : ByteArray) (s1 : Bool) (m1 : Int) (s2 : Bool) (m2 : Int) (k i : Int) (sa : Bool) (n : Int) : resultsA Tryd.prog [] Tryd.f14 (outW unZ (unT zs s s1 m1 s2 m2 k i sa n) [(2, false), (5, true), (4, false)]).tmps (outW unZ (unT zs s s1 m1 s2 m2 k i sa n) [(2, false), (5, true), (4, false)]).h = some (.tuple #[nv false n, .bool false]) := by kernel_rfl
theorem un_body : Tryd.f14.body = some unC := by kernel_rfl
theorem un_q0 : unC = .seq (cL unC) un1 := by kernel_rfl
theorem un_q1 : un1 = .seq (cL un1) un2 := by kernel_rfl
theorem un_q2 : un2 = .seq (cL un2) un3 := by kernel_rfl
theorem un_q3 : un3 = .seq (cL un3) un4 := by kernel_rfl
theorem un_q4 : un4 = .seq (cL un4) un5 := by kernel_rfl
theorem un_q5 : un5 = .seq unY unZ := by kernel_rfl
theorem un_q6 : unY = .seq (cL unY) (cR unY) := by kernel_rfl
theorem un_q7 : cR unY = .block 0 unL := by kernel_rfl
theorem un_k0 : cok (cL unC) = true := by kernel_rfl
theorem un_k1 : cok (cL un1) = true := by kernel_rfl
theorem un_k2 : cok (cL un2) = true := by kernel_rfl
theorem un_k3 : cok (cL un3) = true := by kernel_rfl
theorem un_k4 : cok (cL un4) = true := by kernel_rfl
theorem un_k5 : cok (cL unY) = true := by kernel_rfl
theorem un_k6 : cok unZ = true := by kernel_rfl
end

end Go.Proofs.YtfjfmcnnakfjnaaDoor


/-
  The document's number of a text: the walk.
-/

namespace Go.Proofs.YtfjfmcnnakfjnaaDoor

open Go.Den Go.RowKit
noncomputable section
set_option maxRecDepth 100000

/-- The digits from here on. -/
def uGo : List UInt8 → Int → Bool × Int
  | [], n => (true, n)
  | c :: r, n => bif isDig c then uGo r (n * 10 + ((c.toNat : Int) - 48)) else (false, n)
theorem size_dat (s : ByteArray) : s.data.toList.length = s.size := Array.length_toList
theorem byteAt_eq {s : ByteArray} {i : Nat} {c : UInt8} {r : List UInt8} (h : s.data.toList.drop i = c :: r) : i < s.size ∧ byteAt s i = (c.toNat : Int) ∧ s.data.toList.drop (i + 1) = r := by
  have hlt : i < s.data.toList.length := by
    rcases Nat.lt_or_ge i s.data.toList.length with h' | h'
    · exact h'
    · rw [List.drop_eq_nil_of_le h'] at h; cases h
  have hs : i < s.size := by rw [← size_dat]; exact hlt
  rw [List.drop_eq_getElem_cons hlt] at h
  obtain ⟨h1, h2⟩ := List.cons.inj h
  refine ⟨hs, ?_, h2⟩
  unfold byteAt
  rw [← h1]
  simp [hs]
  rfl
theorem c_dig {c : UInt8} (h : isDig c = true) : 0 ≤ (c.toNat : Int) - 48 ∧ (c.toNat : Int) - 48 ≤ 9 := by
  have := (isDig_iff c).1 h; omega
theorem uD_eq {s : ByteArray} {i : Nat} {c : UInt8} (h : byteAt s i = (c.toNat : Int)) : uD s (i : Int) = (c.toNat : Int) - 48 := by
  have hc := c.toNat_lt
  unfold uD
  rw [Int.toNat_natCast, h, IntKind.wrap_i64, IntKind.wrap_i64]; omega
theorem ten60 : (10 : Int) ^ 60 = 1000000000000000000000000000000000000000000000000000000000000 := by rfl
theorem pow_ge (k : Nat) : (1 : Int) ≤ 10 ^ k := by
  have : (0 : Int) < 10 ^ k := Int.pow_pos (by omega)
  omega
theorem small_of {n : Int} {k : Nat} (h0 : 0 ≤ n) (h : (n + 1) * 10 ^ k ≤ 10 ^ 60) : n < 10 ^ 60 := by
  have h1 : (n + 1) * 1 ≤ (n + 1) * 10 ^ k := Int.mul_le_mul_of_nonneg_left (pow_ge k) (by omega)
  omega
theorem next_of {n d : Int} {k : Nat} (hd : 0 ≤ d ∧ d ≤ 9) (h : (n + 1) * 10 ^ (k + 1) ≤ 10 ^ 60) : (n * 10 + d + 1) * 10 ^ k ≤ 10 ^ 60 := by
  have h1 : (n * 10 + d + 1) * 10 ^ k ≤ ((n + 1) * 10) * 10 ^ k := Int.mul_le_mul_of_nonneg_right (by omega) (by have := pow_ge k; omega)
  rw [Int.pow_succ, Int.mul_comm (10 ^ k) 10, ← Int.mul_assoc] at h
  omega
variable {s : ByteArray} {s1 : Bool} {m1 : Int} {s2 : Bool} {m2 : Int} {k : Int}

theorem un_step {c : UInt8} {r : List UInt8} {i : Nat} {n : Int} {zs : List Value} (hs : s.size ≤ 60) (hd : s.data.toList.drop i = c :: r) (h0 : 0 ≤ n) (hn : n < 10 ^ 60) (hc : isDig c = true) :
    ∃ z, SatCode Tryd.prog [] unB (unT zs s s1 m1 s2 m2 k i false n) .normal (unT z s s1 m1 s2 m2 k ((i + 1 : Nat) : Int) false (n * 10 + ((c.toNat : Int) - 48))) := by
  obtain ⟨hi, hb, _⟩ := byteAt_eq hd
  have hcd := (isDig_iff c).1 hc
  have hD := uD_eq hb
  rw [ten60] at hn
  have b1 : decide ((i : Int) < (s.size : Int)) = true := by rw [decide_eq_true_eq]; omega
  have b2 : uIn s (i : Int) = true := by unfold uIn; rw [b1, decide_eq_true (by omega)]; rfl
  have b3 : decide (byteAt s (i : Int).toNat < 48) = false := by rw [Int.toNat_natCast, hb, decide_eq_false_iff_not]; omega
  have b4 : decide (byteAt s (i : Int).toNat > 57) = false := by rw [Int.toNat_natCast, hb, decide_eq_false_iff_not]; omega
  have e1 : mag (mapU (digsN 20 n)) = n := mag_nv h0 (by unfold T320; omega)
  have e2 : mag (mapU (digsN 20 (n * 10))) = n * 10 := mag_nv (by omega) (by unfold T320; omega)
  have eA : uA n = n * 10 := by unfold uA; rw [e1, e2]
  have eB : uB s (i : Int) = (c.toNat : Int) - 48 := by
    unfold uB; rw [hD]
    have : sz ((c.toNat : Int) - 48) = (c.toNat : Int) - 48 := by unfold sz; omega
    rw [this]; exact mag_nv (by omega) (by unfold T320; omega)
  have b5 : uK1 n = true := by unfold uK1; rw [ok_nv, e1, Bool.true_and, decide_eq_true_eq]; unfold T320; omega
  have b6 : okI (uD s (i : Int)) = true := by rw [hD]; exact okI_iff.2 ⟨by omega, by omega⟩
  have b7 : uK2 s (i : Int) n = true := by
    unfold uK2; rw [ok_nv, ok_nv, eA, eB, Bool.true_and, Bool.true_and, Bool.and_eq_true, decide_eq_true_eq, decide_eq_true_eq]
    exact ⟨by unfold T304; omega, by unfold T320; omega⟩
  have eS : uSg false s (i : Int) n = false := by
    unfold uSg; rw [hD, decide_eq_false (by omega)]; rfl
  have eN : uN false s (i : Int) n = n * 10 + ((c.toNat : Int) - 48) := by
    unfold uN; rw [eA, eB, hD, decide_eq_false (by omega)]
    show sz (n * 10 + ((c.toNat : Int) - 48)) = _
    unfold sz; omega
  have eW : IntKind.wrap .i64 ((i : Int) + 1) = ((i + 1 : Nat) : Int) := by rw [IntKind.wrap_i64]; omega
  have hg := unB_n2 zs s s1 m1 s2 m2 k i false n
  rw [eS, eN, eW] at hg
  exact ⟨_, sat_way unB_ok ((unB_n1 zs s s1 m1 s2 m2 k i false n).trans (by rw [b1, b2, b3, b4, b5, b6, b7]; rfl)) hg⟩
theorem un_bad {c : UInt8} {r : List UInt8} {i : Nat} {n : Int} {zs : List Value} (hd : s.data.toList.drop i = c :: r) (hc : isDig c = false) :
    ∃ st, SatCode Tryd.prog [] unB (unT zs s s1 m1 s2 m2 k i false n) .ret st ∧ resultsA Tryd.prog [] Tryd.f14 st.tmps st.h = some (.tuple #[nv false n, .bool false]) := by
  obtain ⟨hi, hb, _⟩ := byteAt_eq hd
  have b1 : decide ((i : Int) < (s.size : Int)) = true := by rw [decide_eq_true_eq]; omega
  have b2 : uIn s (i : Int) = true := by unfold uIn; rw [b1, decide_eq_true (by omega)]; rfl
  have hcd : ¬ (48 ≤ (c.toNat : Int) ∧ (c.toNat : Int) ≤ 57) := fun h => by rw [(isDig_iff c).2 h] at hc; cases hc
  by_cases h48 : (c.toNat : Int) < 48
  · have b3 : decide (byteAt s (i : Int).toNat < 48) = true := by rw [Int.toNat_natCast, hb, decide_eq_true_eq]; exact h48
    exact ⟨_, sat_way unB_ok ((unB_l1 zs s s1 m1 s2 m2 k i false n).trans (by rw [b1, b2, b3]; rfl)) (unB_l2 zs s s1 m1 s2 m2 k i false n), unB_l3 zs s s1 m1 s2 m2 k i false n⟩
  · have b3 : decide (byteAt s (i : Int).toNat < 48) = false := by rw [Int.toNat_natCast, hb, decide_eq_false_iff_not]; exact h48
    have b4 : decide (byteAt s (i : Int).toNat > 57) = true := by rw [Int.toNat_natCast, hb, decide_eq_true_eq]; omega
    exact ⟨_, sat_way unB_ok ((unB_h1 zs s s1 m1 s2 m2 k i false n).trans (by rw [b1, b2, b3, b4]; rfl)) (unB_h2 zs s s1 m1 s2 m2 k i false n), unB_h3 zs s s1 m1 s2 m2 k i false n⟩
theorem un_loop (hs : s.size ≤ 60) : ∀ (l : List UInt8) (i : Nat) (n : Int) (zs : List Value), s.data.toList.drop i = l → i ≤ s.size → 0 ≤ n → (n + 1) * 10 ^ l.length ≤ 10 ^ 60 →
    ((uGo l n).1 = true → ∃ z, SatCode Tryd.prog [] unL (unT zs s s1 m1 s2 m2 k i false n) (.exit 0) (unT z s s1 m1 s2 m2 k (s.size : Int) false (uGo l n).2)) ∧
    ((uGo l n).1 = false → ∃ st, SatCode Tryd.prog [] unL (unT zs s s1 m1 s2 m2 k i false n) .ret st ∧ resultsA Tryd.prog [] Tryd.f14 st.tmps st.h = some (.tuple #[nv false (uGo l n).2, .bool false]))
  | [], i, n, zs, hd, hi, h0, _ => by
    have hsz : i = s.size := by
      have : s.data.toList.length ≤ i := List.drop_eq_nil_iff.1 hd
      rw [size_dat] at this; omega
    subst hsz
    have b1 : decide ((s.size : Int) < (s.size : Int)) = false := by rw [decide_eq_false_iff_not]; omega
    exact ⟨fun _ => ⟨_, sat_loop_exit unL_eq (sat_way unB_ok ((unB_e1 zs s s1 m1 s2 m2 k _ false n).trans (by rw [b1]; rfl)) (unB_e2 zs s s1 m1 s2 m2 k _ false n))⟩, fun h => by cases h⟩
  | c :: r, i, n, zs, hd, hi, h0, hb => by
    obtain ⟨hlt, _, hd2⟩ := byteAt_eq hd
    cases hc : isDig c
    · have e : uGo (c :: r) n = (false, n) := by unfold uGo; rw [hc]; rfl
      rw [e]
      refine ⟨(fun h => by cases h), fun _ => ?_⟩
      obtain ⟨st, h1, h2⟩ := un_bad (s1 := s1) (m1 := m1) (s2 := s2) (m2 := m2) (k := k) (n := n) (zs := zs) hd hc
      exact ⟨st, sat_loop_ret unL_eq h1, h2⟩
    · have e : uGo (c :: r) n = uGo r (n * 10 + ((c.toNat : Int) - 48)) := by
        show (bif isDig c then _ else _) = _
        rw [hc]; rfl
      rw [e]
      obtain ⟨z, hz⟩ := un_step (s1 := s1) (m1 := m1) (s2 := s2) (m2 := m2) (k := k) (zs := zs) hs hd h0 (small_of h0 hb) hc
      have hcd := c_dig hc
      rw [List.length_cons] at hb
      obtain ⟨ih1, ih2⟩ := un_loop hs r (i + 1) (n * 10 + ((c.toNat : Int) - 48)) z hd2 (by omega) (by omega) (next_of hcd hb)
      refine ⟨fun h => ?_, fun h => ?_⟩
      · obtain ⟨z2, h2⟩ := ih1 h
        exact ⟨z2, sat_loop unL_eq hz h2⟩
      · obtain ⟨st, h2, h3⟩ := ih2 h
        exact ⟨st, sat_loop unL_eq hz h2, h3⟩
end

end Go.Proofs.YtfjfmcnnakfjnaaDoor
