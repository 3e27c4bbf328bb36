/-
  Own texts, merged: NumFG NumFH NumH NumK NumJ RefK
-/
import Derived.Test.YtecmhjhjmhliiaaDoorQ4

/-
  The rounds of the document's quotient, read one by one (fln 66 to 97).
-/

namespace Go.Proofs.YtecmhjhjmhliiaaDoor

open Go.Den Go.RowKit
noncomputable section
set_option maxRecDepth 100000

theorem fln_66 : flnG 66 := by
  intro zs sa sn sq a0 a1 a2 a3 a4 a5 a6 a7 a8 a9 a10 a11 a12 a13 a14 a15 a16 a17 a18 a19 n0 n1 n2 n3 n4 n5 n6 n7 n8 n9 n10 n11 n12 n13 n14 n15 n16 n17 n18 n19 q0 q1 q2 q3 q4 q5 q6 q7 q8 q9 q10 q11 q12 q13 q14 q15 q16 q17 q18 q19
  kernel_rfl
theorem fln_67 : flnG 67 := by
  intro zs sa sn sq a0 a1 a2 a3 a4 a5 a6 a7 a8 a9 a10 a11 a12 a13 a14 a15 a16 a17 a18 a19 n0 n1 n2 n3 n4 n5 n6 n7 n8 n9 n10 n11 n12 n13 n14 n15 n16 n17 n18 n19 q0 q1 q2 q3 q4 q5 q6 q7 q8 q9 q10 q11 q12 q13 q14 q15 q16 q17 q18 q19
  kernel_rfl
theorem fln_68 : flnG 68 := by
  intro zs sa sn sq a0 a1 a2 a3 a4 a5 a6 a7 a8 a9 a10 a11 a12 a13 a14 a15 a16 a17 a18 a19 n0 n1 n2 n3 n4 n5 n6 n7 n8 n9 n10 n11 n12 n13 n14 n15 n16 n17 n18 n19 q0 q1 q2 q3 q4 q5 q6 q7 q8 q9 q10 q11 q12 q13 q14 q15 q16 q17 q18 q19
  kernel_rfl
theorem fln_69 : flnG 69 := by
  intro zs sa sn sq a0 a1 a2 a3 a4 a5 a6 a7 a8 a9 a10 a11 a12 a13 a14 a15 a16 a17 a18 a19 n0 n1 n2 n3 n4 n5 n6 n7 n8 n9 n10 n11 n12 n13 n14 n15 n16 n17 n18 n19 q0 q1 q2 q3 q4 q5 q6 q7 q8 q9 q10 q11 q12 q13 q14 q15 q16 q17 q18 q19
  kernel_rfl
theorem fln_70 : flnG 70 := by
  intro zs sa sn sq a0 a1 a2 a3 a4 a5 a6 a7 a8 a9 a10 a11 a12 a13 a14 a15 a16 a17 a18 a19 n0 n1 n2 n3 n4 n5 n6 n7 n8 n9 n10 n11 n12 n13 n14 n15 n16 n17 n18 n19 q0 q1 q2 q3 q4 q5 q6 q7 q8 q9 q10 q11 q12 q13 q14 q15 q16 q17 q18 q19
  kernel_rfl
theorem fln_71 : flnG 71 := by
  intro zs sa sn sq a0 a1 a2 a3 a4 a5 a6 a7 a8 a9 a10 a11 a12 a13 a14 a15 a16 a17 a18 a19 n0 n1 n2 n3 n4 n5 n6 n7 n8 n9 n10 n11 n12 n13 n14 n15 n16 n17 n18 n19 q0 q1 q2 q3 q4 q5 q6 q7 q8 q9 q10 q11 q12 q13 q14 q15 q16 q17 q18 q19
  kernel_rfl
theorem fln_72 : flnG 72 := by
  intro zs sa sn sq a0 a1 a2 a3 a4 a5 a6 a7 a8 a9 a10 a11 a12 a13 a14 a15 a16 a17 a18 a19 n0 n1 n2 n3 n4 n5 n6 n7 n8 n9 n10 n11 n12 n13 n14 n15 n16 n17 n18 n19 q0 q1 q2 q3 q4 q5 q6 q7 q8 q9 q10 q11 q12 q13 q14 q15 q16 q17 q18 q19
  kernel_rfl
theorem fln_73 : flnG 73 := by
  intro zs sa sn sq a0 a1 a2 a3 a4 a5 a6 a7 a8 a9 a10 a11 a12 a13 a14 a15 a16 a17 a18 a19 n0 n1 n2 n3 n4 n5 n6 n7 n8 n9 n10 n11 n12 n13 n14 n15 n16 n17 n18 n19 q0 q1 q2 q3 q4 q5 q6 q7 q8 q9 q10 q11 q12 q13 q14 q15 q16 q17 q18 q19
  kernel_rfl
theorem fln_74 : flnG 74 := by
  intro zs sa sn sq a0 a1 a2 a3 a4 a5 a6 a7 a8 a9 a10 a11 a12 a13 a14 a15 a16 a17 a18 a19 n0 n1 n2 n3 n4 n5 n6 n7 n8 n9 n10 n11 n12 n13 n14 n15 n16 n17 n18 n19 q0 q1 q2 q3 q4 q5 q6 q7 q8 q9 q10 q11 q12 q13 q14 q15 q16 q17 q18 q19
  kernel_rfl
theorem fln_75 : flnG 75 := by
  intro zs sa sn sq a0 a1 a2 a3 a4 a5 a6 a7 a8 a9 a10 a11 a12 a13 a14 a15 a16 a17 a18 a19 n0 n1 n2 n3 n4 n5 n6 n7 n8 n9 n10 n11 n12 n13 n14 n15 n16 n17 n18 n19 q0 q1 q2 q3 q4 q5 q6 q7 q8 q9 q10 q11 q12 q13 q14 q15 q16 q17 q18 q19
  kernel_rfl
theorem fln_76 : flnG 76 := by
  intro zs sa sn sq a0 a1 a2 a3 a4 a5 a6 a7 a8 a9 a10 a11 a12 a13 a14 a15 a16 a17 a18 a19 n0 n1 n2 n3 n4 n5 n6 n7 n8 n9 n10 n11 n12 n13 n14 n15 n16 n17 n18 n19 q0 q1 q2 q3 q4 q5 q6 q7 q8 q9 q10 q11 q12 q13 q14 q15 q16 q17 q18 q19
  kernel_rfl
theorem fln_77 : flnG 77 := by
  intro zs sa sn sq a0 a1 a2 a3 a4 a5 a6 a7 a8 a9 a10 a11 a12 a13 a14 a15 a16 a17 a18 a19 n0 n1 n2 n3 n4 n5 n6 n7 n8 n9 n10 n11 n12 n13 n14 n15 n16 n17 n18 n19 q0 q1 q2 q3 q4 q5 q6 q7 q8 q9 q10 q11 q12 q13 q14 q15 q16 q17 q18 q19
  kernel_rfl
theorem fln_78 : flnG 78 := by
  intro zs sa sn sq a0 a1 a2 a3 a4 a5 a6 a7 a8 a9 a10 a11 a12 a13 a14 a15 a16 a17 a18 a19 n0 n1 n2 n3 n4 n5 n6 n7 n8 n9 n10 n11 n12 n13 n14 n15 n16 n17 n18 n19 q0 q1 q2 q3 q4 q5 q6 q7 q8 q9 q10 q11 q12 q13 q14 q15 q16 q17 q18 q19
  kernel_rfl
theorem fln_79 : flnG 79 := by
  intro zs sa sn sq a0 a1 a2 a3 a4 a5 a6 a7 a8 a9 a10 a11 a12 a13 a14 a15 a16 a17 a18 a19 n0 n1 n2 n3 n4 n5 n6 n7 n8 n9 n10 n11 n12 n13 n14 n15 n16 n17 n18 n19 q0 q1 q2 q3 q4 q5 q6 q7 q8 q9 q10 q11 q12 q13 q14 q15 q16 q17 q18 q19
  kernel_rfl
theorem fln_80 : flnG 80 := by
  intro zs sa sn sq a0 a1 a2 a3 a4 a5 a6 a7 a8 a9 a10 a11 a12 a13 a14 a15 a16 a17 a18 a19 n0 n1 n2 n3 n4 n5 n6 n7 n8 n9 n10 n11 n12 n13 n14 n15 n16 n17 n18 n19 q0 q1 q2 q3 q4 q5 q6 q7 q8 q9 q10 q11 q12 q13 q14 q15 q16 q17 q18 q19
  kernel_rfl
theorem fln_81 : flnG 81 := by
  intro zs sa sn sq a0 a1 a2 a3 a4 a5 a6 a7 a8 a9 a10 a11 a12 a13 a14 a15 a16 a17 a18 a19 n0 n1 n2 n3 n4 n5 n6 n7 n8 n9 n10 n11 n12 n13 n14 n15 n16 n17 n18 n19 q0 q1 q2 q3 q4 q5 q6 q7 q8 q9 q10 q11 q12 q13 q14 q15 q16 q17 q18 q19
  kernel_rfl
theorem fln_82 : flnG 82 := by
  intro zs sa sn sq a0 a1 a2 a3 a4 a5 a6 a7 a8 a9 a10 a11 a12 a13 a14 a15 a16 a17 a18 a19 n0 n1 n2 n3 n4 n5 n6 n7 n8 n9 n10 n11 n12 n13 n14 n15 n16 n17 n18 n19 q0 q1 q2 q3 q4 q5 q6 q7 q8 q9 q10 q11 q12 q13 q14 q15 q16 q17 q18 q19
  kernel_rfl
theorem fln_83 : flnG 83 := by
  intro zs sa sn sq a0 a1 a2 a3 a4 a5 a6 a7 a8 a9 a10 a11 a12 a13 a14 a15 a16 a17 a18 a19 n0 n1 n2 n3 n4 n5 n6 n7 n8 n9 n10 n11 n12 n13 n14 n15 n16 n17 n18 n19 q0 q1 q2 q3 q4 q5 q6 q7 q8 q9 q10 q11 q12 q13 q14 q15 q16 q17 q18 q19
  kernel_rfl
theorem fln_84 : flnG 84 := by
  intro zs sa sn sq a0 a1 a2 a3 a4 a5 a6 a7 a8 a9 a10 a11 a12 a13 a14 a15 a16 a17 a18 a19 n0 n1 n2 n3 n4 n5 n6 n7 n8 n9 n10 n11 n12 n13 n14 n15 n16 n17 n18 n19 q0 q1 q2 q3 q4 q5 q6 q7 q8 q9 q10 q11 q12 q13 q14 q15 q16 q17 q18 q19
  kernel_rfl
theorem fln_85 : flnG 85 := by
  intro zs sa sn sq a0 a1 a2 a3 a4 a5 a6 a7 a8 a9 a10 a11 a12 a13 a14 a15 a16 a17 a18 a19 n0 n1 n2 n3 n4 n5 n6 n7 n8 n9 n10 n11 n12 n13 n14 n15 n16 n17 n18 n19 q0 q1 q2 q3 q4 q5 q6 q7 q8 q9 q10 q11 q12 q13 q14 q15 q16 q17 q18 q19
  kernel_rfl
theorem fln_86 : flnG 86 := by
  intro zs sa sn sq a0 a1 a2 a3 a4 a5 a6 a7 a8 a9 a10 a11 a12 a13 a14 a15 a16 a17 a18 a19 n0 n1 n2 n3 n4 n5 n6 n7 n8 n9 n10 n11 n12 n13 n14 n15 n16 n17 n18 n19 q0 q1 q2 q3 q4 q5 q6 q7 q8 q9 q10 q11 q12 q13 q14 q15 q16 q17 q18 q19
  kernel_rfl
theorem fln_87 : flnG 87 := by
  intro zs sa sn sq a0 a1 a2 a3 a4 a5 a6 a7 a8 a9 a10 a11 a12 a13 a14 a15 a16 a17 a18 a19 n0 n1 n2 n3 n4 n5 n6 n7 n8 n9 n10 n11 n12 n13 n14 n15 n16 n17 n18 n19 q0 q1 q2 q3 q4 q5 q6 q7 q8 q9 q10 q11 q12 q13 q14 q15 q16 q17 q18 q19
  kernel_rfl
theorem fln_88 : flnG 88 := by
  intro zs sa sn sq a0 a1 a2 a3 a4 a5 a6 a7 a8 a9 a10 a11 a12 a13 a14 a15 a16 a17 a18 a19 n0 n1 n2 n3 n4 n5 n6 n7 n8 n9 n10 n11 n12 n13 n14 n15 n16 n17 n18 n19 q0 q1 q2 q3 q4 q5 q6 q7 q8 q9 q10 q11 q12 q13 q14 q15 q16 q17 q18 q19
  kernel_rfl
theorem fln_89 : flnG 89 := by
  intro zs sa sn sq a0 a1 a2 a3 a4 a5 a6 a7 a8 a9 a10 a11 a12 a13 a14 a15 a16 a17 a18 a19 n0 n1 n2 n3 n4 n5 n6 n7 n8 n9 n10 n11 n12 n13 n14 n15 n16 n17 n18 n19 q0 q1 q2 q3 q4 q5 q6 q7 q8 q9 q10 q11 q12 q13 q14 q15 q16 q17 q18 q19
  kernel_rfl
theorem fln_90 : flnG 90 := by
  intro zs sa sn sq a0 a1 a2 a3 a4 a5 a6 a7 a8 a9 a10 a11 a12 a13 a14 a15 a16 a17 a18 a19 n0 n1 n2 n3 n4 n5 n6 n7 n8 n9 n10 n11 n12 n13 n14 n15 n16 n17 n18 n19 q0 q1 q2 q3 q4 q5 q6 q7 q8 q9 q10 q11 q12 q13 q14 q15 q16 q17 q18 q19
  kernel_rfl
theorem fln_91 : flnG 91 := by
  intro zs sa sn sq a0 a1 a2 a3 a4 a5 a6 a7 a8 a9 a10 a11 a12 a13 a14 a15 a16 a17 a18 a19 n0 n1 n2 n3 n4 n5 n6 n7 n8 n9 n10 n11 n12 n13 n14 n15 n16 n17 n18 n19 q0 q1 q2 q3 q4 q5 q6 q7 q8 q9 q10 q11 q12 q13 q14 q15 q16 q17 q18 q19
  kernel_rfl
theorem fln_92 : flnG 92 := by
  intro zs sa sn sq a0 a1 a2 a3 a4 a5 a6 a7 a8 a9 a10 a11 a12 a13 a14 a15 a16 a17 a18 a19 n0 n1 n2 n3 n4 n5 n6 n7 n8 n9 n10 n11 n12 n13 n14 n15 n16 n17 n18 n19 q0 q1 q2 q3 q4 q5 q6 q7 q8 q9 q10 q11 q12 q13 q14 q15 q16 q17 q18 q19
  kernel_rfl
theorem fln_93 : flnG 93 := by
  intro zs sa sn sq a0 a1 a2 a3 a4 a5 a6 a7 a8 a9 a10 a11 a12 a13 a14 a15 a16 a17 a18 a19 n0 n1 n2 n3 n4 n5 n6 n7 n8 n9 n10 n11 n12 n13 n14 n15 n16 n17 n18 n19 q0 q1 q2 q3 q4 q5 q6 q7 q8 q9 q10 q11 q12 q13 q14 q15 q16 q17 q18 q19
  kernel_rfl
theorem fln_94 : flnG 94 := by
  intro zs sa sn sq a0 a1 a2 a3 a4 a5 a6 a7 a8 a9 a10 a11 a12 a13 a14 a15 a16 a17 a18 a19 n0 n1 n2 n3 n4 n5 n6 n7 n8 n9 n10 n11 n12 n13 n14 n15 n16 n17 n18 n19 q0 q1 q2 q3 q4 q5 q6 q7 q8 q9 q10 q11 q12 q13 q14 q15 q16 q17 q18 q19
  kernel_rfl
theorem fln_95 : flnG 95 := by
  intro zs sa sn sq a0 a1 a2 a3 a4 a5 a6 a7 a8 a9 a10 a11 a12 a13 a14 a15 a16 a17 a18 a19 n0 n1 n2 n3 n4 n5 n6 n7 n8 n9 n10 n11 n12 n13 n14 n15 n16 n17 n18 n19 q0 q1 q2 q3 q4 q5 q6 q7 q8 q9 q10 q11 q12 q13 q14 q15 q16 q17 q18 q19
  kernel_rfl
theorem fln_96 : flnG 96 := by
  intro zs sa sn sq a0 a1 a2 a3 a4 a5 a6 a7 a8 a9 a10 a11 a12 a13 a14 a15 a16 a17 a18 a19 n0 n1 n2 n3 n4 n5 n6 n7 n8 n9 n10 n11 n12 n13 n14 n15 n16 n17 n18 n19 q0 q1 q2 q3 q4 q5 q6 q7 q8 q9 q10 q11 q12 q13 q14 q15 q16 q17 q18 q19
  kernel_rfl
theorem fln_97 : flnG 97 := by
  intro zs sa sn sq a0 a1 a2 a3 a4 a5 a6 a7 a8 a9 a10 a11 a12 a13 a14 a15 a16 a17 a18 a19 n0 n1 n2 n3 n4 n5 n6 n7 n8 n9 n10 n11 n12 n13 n14 n15 n16 n17 n18 n19 q0 q1 q2 q3 q4 q5 q6 q7 q8 q9 q10 q11 q12 q13 q14 q15 q16 q17 q18 q19
  kernel_rfl
end

end Go.Proofs.YtecmhjhjmhliiaaDoor


/-
  The rounds of the document's quotient, read one by one (fln 98 to 129).
-/

namespace Go.Proofs.YtecmhjhjmhliiaaDoor

open Go.Den Go.RowKit
noncomputable section
set_option maxRecDepth 100000

theorem fln_98 : flnG 98 := by
  intro zs sa sn sq a0 a1 a2 a3 a4 a5 a6 a7 a8 a9 a10 a11 a12 a13 a14 a15 a16 a17 a18 a19 n0 n1 n2 n3 n4 n5 n6 n7 n8 n9 n10 n11 n12 n13 n14 n15 n16 n17 n18 n19 q0 q1 q2 q3 q4 q5 q6 q7 q8 q9 q10 q11 q12 q13 q14 q15 q16 q17 q18 q19
  kernel_rfl
theorem fln_99 : flnG 99 := by
  intro zs sa sn sq a0 a1 a2 a3 a4 a5 a6 a7 a8 a9 a10 a11 a12 a13 a14 a15 a16 a17 a18 a19 n0 n1 n2 n3 n4 n5 n6 n7 n8 n9 n10 n11 n12 n13 n14 n15 n16 n17 n18 n19 q0 q1 q2 q3 q4 q5 q6 q7 q8 q9 q10 q11 q12 q13 q14 q15 q16 q17 q18 q19
  kernel_rfl
theorem fln_100 : flnG 100 := by
  intro zs sa sn sq a0 a1 a2 a3 a4 a5 a6 a7 a8 a9 a10 a11 a12 a13 a14 a15 a16 a17 a18 a19 n0 n1 n2 n3 n4 n5 n6 n7 n8 n9 n10 n11 n12 n13 n14 n15 n16 n17 n18 n19 q0 q1 q2 q3 q4 q5 q6 q7 q8 q9 q10 q11 q12 q13 q14 q15 q16 q17 q18 q19
  kernel_rfl
theorem fln_101 : flnG 101 := by
  intro zs sa sn sq a0 a1 a2 a3 a4 a5 a6 a7 a8 a9 a10 a11 a12 a13 a14 a15 a16 a17 a18 a19 n0 n1 n2 n3 n4 n5 n6 n7 n8 n9 n10 n11 n12 n13 n14 n15 n16 n17 n18 n19 q0 q1 q2 q3 q4 q5 q6 q7 q8 q9 q10 q11 q12 q13 q14 q15 q16 q17 q18 q19
  kernel_rfl
theorem fln_102 : flnG 102 := by
  intro zs sa sn sq a0 a1 a2 a3 a4 a5 a6 a7 a8 a9 a10 a11 a12 a13 a14 a15 a16 a17 a18 a19 n0 n1 n2 n3 n4 n5 n6 n7 n8 n9 n10 n11 n12 n13 n14 n15 n16 n17 n18 n19 q0 q1 q2 q3 q4 q5 q6 q7 q8 q9 q10 q11 q12 q13 q14 q15 q16 q17 q18 q19
  kernel_rfl
theorem fln_103 : flnG 103 := by
  intro zs sa sn sq a0 a1 a2 a3 a4 a5 a6 a7 a8 a9 a10 a11 a12 a13 a14 a15 a16 a17 a18 a19 n0 n1 n2 n3 n4 n5 n6 n7 n8 n9 n10 n11 n12 n13 n14 n15 n16 n17 n18 n19 q0 q1 q2 q3 q4 q5 q6 q7 q8 q9 q10 q11 q12 q13 q14 q15 q16 q17 q18 q19
  kernel_rfl
theorem fln_104 : flnG 104 := by
  intro zs sa sn sq a0 a1 a2 a3 a4 a5 a6 a7 a8 a9 a10 a11 a12 a13 a14 a15 a16 a17 a18 a19 n0 n1 n2 n3 n4 n5 n6 n7 n8 n9 n10 n11 n12 n13 n14 n15 n16 n17 n18 n19 q0 q1 q2 q3 q4 q5 q6 q7 q8 q9 q10 q11 q12 q13 q14 q15 q16 q17 q18 q19
  kernel_rfl
theorem fln_105 : flnG 105 := by
  intro zs sa sn sq a0 a1 a2 a3 a4 a5 a6 a7 a8 a9 a10 a11 a12 a13 a14 a15 a16 a17 a18 a19 n0 n1 n2 n3 n4 n5 n6 n7 n8 n9 n10 n11 n12 n13 n14 n15 n16 n17 n18 n19 q0 q1 q2 q3 q4 q5 q6 q7 q8 q9 q10 q11 q12 q13 q14 q15 q16 q17 q18 q19
  kernel_rfl
theorem fln_106 : flnG 106 := by
  intro zs sa sn sq a0 a1 a2 a3 a4 a5 a6 a7 a8 a9 a10 a11 a12 a13 a14 a15 a16 a17 a18 a19 n0 n1 n2 n3 n4 n5 n6 n7 n8 n9 n10 n11 n12 n13 n14 n15 n16 n17 n18 n19 q0 q1 q2 q3 q4 q5 q6 q7 q8 q9 q10 q11 q12 q13 q14 q15 q16 q17 q18 q19
  kernel_rfl
theorem fln_107 : flnG 107 := by
  intro zs sa sn sq a0 a1 a2 a3 a4 a5 a6 a7 a8 a9 a10 a11 a12 a13 a14 a15 a16 a17 a18 a19 n0 n1 n2 n3 n4 n5 n6 n7 n8 n9 n10 n11 n12 n13 n14 n15 n16 n17 n18 n19 q0 q1 q2 q3 q4 q5 q6 q7 q8 q9 q10 q11 q12 q13 q14 q15 q16 q17 q18 q19
  kernel_rfl
theorem fln_108 : flnG 108 := by
  intro zs sa sn sq a0 a1 a2 a3 a4 a5 a6 a7 a8 a9 a10 a11 a12 a13 a14 a15 a16 a17 a18 a19 n0 n1 n2 n3 n4 n5 n6 n7 n8 n9 n10 n11 n12 n13 n14 n15 n16 n17 n18 n19 q0 q1 q2 q3 q4 q5 q6 q7 q8 q9 q10 q11 q12 q13 q14 q15 q16 q17 q18 q19
  kernel_rfl
theorem fln_109 : flnG 109 := by
  intro zs sa sn sq a0 a1 a2 a3 a4 a5 a6 a7 a8 a9 a10 a11 a12 a13 a14 a15 a16 a17 a18 a19 n0 n1 n2 n3 n4 n5 n6 n7 n8 n9 n10 n11 n12 n13 n14 n15 n16 n17 n18 n19 q0 q1 q2 q3 q4 q5 q6 q7 q8 q9 q10 q11 q12 q13 q14 q15 q16 q17 q18 q19
  kernel_rfl
theorem fln_110 : flnG 110 := by
  intro zs sa sn sq a0 a1 a2 a3 a4 a5 a6 a7 a8 a9 a10 a11 a12 a13 a14 a15 a16 a17 a18 a19 n0 n1 n2 n3 n4 n5 n6 n7 n8 n9 n10 n11 n12 n13 n14 n15 n16 n17 n18 n19 q0 q1 q2 q3 q4 q5 q6 q7 q8 q9 q10 q11 q12 q13 q14 q15 q16 q17 q18 q19
  kernel_rfl
theorem fln_111 : flnG 111 := by
  intro zs sa sn sq a0 a1 a2 a3 a4 a5 a6 a7 a8 a9 a10 a11 a12 a13 a14 a15 a16 a17 a18 a19 n0 n1 n2 n3 n4 n5 n6 n7 n8 n9 n10 n11 n12 n13 n14 n15 n16 n17 n18 n19 q0 q1 q2 q3 q4 q5 q6 q7 q8 q9 q10 q11 q12 q13 q14 q15 q16 q17 q18 q19
  kernel_rfl
theorem fln_112 : flnG 112 := by
  intro zs sa sn sq a0 a1 a2 a3 a4 a5 a6 a7 a8 a9 a10 a11 a12 a13 a14 a15 a16 a17 a18 a19 n0 n1 n2 n3 n4 n5 n6 n7 n8 n9 n10 n11 n12 n13 n14 n15 n16 n17 n18 n19 q0 q1 q2 q3 q4 q5 q6 q7 q8 q9 q10 q11 q12 q13 q14 q15 q16 q17 q18 q19
  kernel_rfl
theorem fln_113 : flnG 113 := by
  intro zs sa sn sq a0 a1 a2 a3 a4 a5 a6 a7 a8 a9 a10 a11 a12 a13 a14 a15 a16 a17 a18 a19 n0 n1 n2 n3 n4 n5 n6 n7 n8 n9 n10 n11 n12 n13 n14 n15 n16 n17 n18 n19 q0 q1 q2 q3 q4 q5 q6 q7 q8 q9 q10 q11 q12 q13 q14 q15 q16 q17 q18 q19
  kernel_rfl
theorem fln_114 : flnG 114 := by
  intro zs sa sn sq a0 a1 a2 a3 a4 a5 a6 a7 a8 a9 a10 a11 a12 a13 a14 a15 a16 a17 a18 a19 n0 n1 n2 n3 n4 n5 n6 n7 n8 n9 n10 n11 n12 n13 n14 n15 n16 n17 n18 n19 q0 q1 q2 q3 q4 q5 q6 q7 q8 q9 q10 q11 q12 q13 q14 q15 q16 q17 q18 q19
  kernel_rfl
theorem fln_115 : flnG 115 := by
  intro zs sa sn sq a0 a1 a2 a3 a4 a5 a6 a7 a8 a9 a10 a11 a12 a13 a14 a15 a16 a17 a18 a19 n0 n1 n2 n3 n4 n5 n6 n7 n8 n9 n10 n11 n12 n13 n14 n15 n16 n17 n18 n19 q0 q1 q2 q3 q4 q5 q6 q7 q8 q9 q10 q11 q12 q13 q14 q15 q16 q17 q18 q19
  kernel_rfl
theorem fln_116 : flnG 116 := by
  intro zs sa sn sq a0 a1 a2 a3 a4 a5 a6 a7 a8 a9 a10 a11 a12 a13 a14 a15 a16 a17 a18 a19 n0 n1 n2 n3 n4 n5 n6 n7 n8 n9 n10 n11 n12 n13 n14 n15 n16 n17 n18 n19 q0 q1 q2 q3 q4 q5 q6 q7 q8 q9 q10 q11 q12 q13 q14 q15 q16 q17 q18 q19
  kernel_rfl
theorem fln_117 : flnG 117 := by
  intro zs sa sn sq a0 a1 a2 a3 a4 a5 a6 a7 a8 a9 a10 a11 a12 a13 a14 a15 a16 a17 a18 a19 n0 n1 n2 n3 n4 n5 n6 n7 n8 n9 n10 n11 n12 n13 n14 n15 n16 n17 n18 n19 q0 q1 q2 q3 q4 q5 q6 q7 q8 q9 q10 q11 q12 q13 q14 q15 q16 q17 q18 q19
  kernel_rfl
theorem fln_118 : flnG 118 := by
  intro zs sa sn sq a0 a1 a2 a3 a4 a5 a6 a7 a8 a9 a10 a11 a12 a13 a14 a15 a16 a17 a18 a19 n0 n1 n2 n3 n4 n5 n6 n7 n8 n9 n10 n11 n12 n13 n14 n15 n16 n17 n18 n19 q0 q1 q2 q3 q4 q5 q6 q7 q8 q9 q10 q11 q12 q13 q14 q15 q16 q17 q18 q19
  kernel_rfl
theorem fln_119 : flnG 119 := by
  intro zs sa sn sq a0 a1 a2 a3 a4 a5 a6 a7 a8 a9 a10 a11 a12 a13 a14 a15 a16 a17 a18 a19 n0 n1 n2 n3 n4 n5 n6 n7 n8 n9 n10 n11 n12 n13 n14 n15 n16 n17 n18 n19 q0 q1 q2 q3 q4 q5 q6 q7 q8 q9 q10 q11 q12 q13 q14 q15 q16 q17 q18 q19
  kernel_rfl
theorem fln_120 : flnG 120 := by
  intro zs sa sn sq a0 a1 a2 a3 a4 a5 a6 a7 a8 a9 a10 a11 a12 a13 a14 a15 a16 a17 a18 a19 n0 n1 n2 n3 n4 n5 n6 n7 n8 n9 n10 n11 n12 n13 n14 n15 n16 n17 n18 n19 q0 q1 q2 q3 q4 q5 q6 q7 q8 q9 q10 q11 q12 q13 q14 q15 q16 q17 q18 q19
  kernel_rfl
theorem fln_121 : flnG 121 := by
  intro zs sa sn sq a0 a1 a2 a3 a4 a5 a6 a7 a8 a9 a10 a11 a12 a13 a14 a15 a16 a17 a18 a19 n0 n1 n2 n3 n4 n5 n6 n7 n8 n9 n10 n11 n12 n13 n14 n15 n16 n17 n18 n19 q0 q1 q2 q3 q4 q5 q6 q7 q8 q9 q10 q11 q12 q13 q14 q15 q16 q17 q18 q19
  kernel_rfl
theorem fln_122 : flnG 122 := by
  intro zs sa sn sq a0 a1 a2 a3 a4 a5 a6 a7 a8 a9 a10 a11 a12 a13 a14 a15 a16 a17 a18 a19 n0 n1 n2 n3 n4 n5 n6 n7 n8 n9 n10 n11 n12 n13 n14 n15 n16 n17 n18 n19 q0 q1 q2 q3 q4 q5 q6 q7 q8 q9 q10 q11 q12 q13 q14 q15 q16 q17 q18 q19
  kernel_rfl
theorem fln_123 : flnG 123 := by
  intro zs sa sn sq a0 a1 a2 a3 a4 a5 a6 a7 a8 a9 a10 a11 a12 a13 a14 a15 a16 a17 a18 a19 n0 n1 n2 n3 n4 n5 n6 n7 n8 n9 n10 n11 n12 n13 n14 n15 n16 n17 n18 n19 q0 q1 q2 q3 q4 q5 q6 q7 q8 q9 q10 q11 q12 q13 q14 q15 q16 q17 q18 q19
  kernel_rfl
theorem fln_124 : flnG 124 := by
  intro zs sa sn sq a0 a1 a2 a3 a4 a5 a6 a7 a8 a9 a10 a11 a12 a13 a14 a15 a16 a17 a18 a19 n0 n1 n2 n3 n4 n5 n6 n7 n8 n9 n10 n11 n12 n13 n14 n15 n16 n17 n18 n19 q0 q1 q2 q3 q4 q5 q6 q7 q8 q9 q10 q11 q12 q13 q14 q15 q16 q17 q18 q19
  kernel_rfl
theorem fln_125 : flnG 125 := by
  intro zs sa sn sq a0 a1 a2 a3 a4 a5 a6 a7 a8 a9 a10 a11 a12 a13 a14 a15 a16 a17 a18 a19 n0 n1 n2 n3 n4 n5 n6 n7 n8 n9 n10 n11 n12 n13 n14 n15 n16 n17 n18 n19 q0 q1 q2 q3 q4 q5 q6 q7 q8 q9 q10 q11 q12 q13 q14 q15 q16 q17 q18 q19
  kernel_rfl
theorem fln_126 : flnG 126 := by
  intro zs sa sn sq a0 a1 a2 a3 a4 a5 a6 a7 a8 a9 a10 a11 a12 a13 a14 a15 a16 a17 a18 a19 n0 n1 n2 n3 n4 n5 n6 n7 n8 n9 n10 n11 n12 n13 n14 n15 n16 n17 n18 n19 q0 q1 q2 q3 q4 q5 q6 q7 q8 q9 q10 q11 q12 q13 q14 q15 q16 q17 q18 q19
  kernel_rfl
theorem fln_127 : flnG 127 := by
  intro zs sa sn sq a0 a1 a2 a3 a4 a5 a6 a7 a8 a9 a10 a11 a12 a13 a14 a15 a16 a17 a18 a19 n0 n1 n2 n3 n4 n5 n6 n7 n8 n9 n10 n11 n12 n13 n14 n15 n16 n17 n18 n19 q0 q1 q2 q3 q4 q5 q6 q7 q8 q9 q10 q11 q12 q13 q14 q15 q16 q17 q18 q19
  kernel_rfl
theorem fln_128 : flnG 128 := by
  intro zs sa sn sq a0 a1 a2 a3 a4 a5 a6 a7 a8 a9 a10 a11 a12 a13 a14 a15 a16 a17 a18 a19 n0 n1 n2 n3 n4 n5 n6 n7 n8 n9 n10 n11 n12 n13 n14 n15 n16 n17 n18 n19 q0 q1 q2 q3 q4 q5 q6 q7 q8 q9 q10 q11 q12 q13 q14 q15 q16 q17 q18 q19
  kernel_rfl
theorem fln_129 : flnG 129 := by
  intro zs sa sn sq a0 a1 a2 a3 a4 a5 a6 a7 a8 a9 a10 a11 a12 a13 a14 a15 a16 a17 a18 a19 n0 n1 n2 n3 n4 n5 n6 n7 n8 n9 n10 n11 n12 n13 n14 n15 n16 n17 n18 n19 q0 q1 q2 q3 q4 q5 q6 q7 q8 q9 q10 q11 q12 q13 q14 q15 q16 q17 q18 q19
  kernel_rfl
end

end Go.Proofs.YtecmhjhjmhliiaaDoor


/-
  All rounds of the document's quotient; its loops.
-/









namespace Go.Proofs.YtecmhjhjmhliiaaDoor

open Go.Den Go.RowKit
noncomputable section
set_option maxRecDepth 100000

theorem upto_s {P : Nat → Prop} {n : Nat} (h : ∀ k, k < n → P k) (hn : P n) : ∀ k, k < n + 1 → P k := fun k hk => by
  rcases Nat.lt_succ_iff_lt_or_eq.1 hk with h1 | rfl
  · exact h k h1
  · exact hn
theorem upto_0 {P : Nat → Prop} : ∀ k, k < 0 → P k := fun k h => absurd h (Nat.not_lt_zero k)
theorem flp_u0 : ∀ k, k < 0 → flpG k := upto_0
theorem flp_u1 : ∀ k, k < 1 → flpG k := upto_s flp_u0 flp_0
theorem flp_u2 : ∀ k, k < 2 → flpG k := upto_s flp_u1 flp_1
theorem flp_u3 : ∀ k, k < 3 → flpG k := upto_s flp_u2 flp_2
theorem flp_u4 : ∀ k, k < 4 → flpG k := upto_s flp_u3 flp_3
theorem flp_u5 : ∀ k, k < 5 → flpG k := upto_s flp_u4 flp_4
theorem flp_u6 : ∀ k, k < 6 → flpG k := upto_s flp_u5 flp_5
theorem flp_u7 : ∀ k, k < 7 → flpG k := upto_s flp_u6 flp_6
theorem flp_u8 : ∀ k, k < 8 → flpG k := upto_s flp_u7 flp_7
theorem flp_u9 : ∀ k, k < 9 → flpG k := upto_s flp_u8 flp_8
theorem flp_u10 : ∀ k, k < 10 → flpG k := upto_s flp_u9 flp_9
theorem flp_u11 : ∀ k, k < 11 → flpG k := upto_s flp_u10 flp_10
theorem flp_u12 : ∀ k, k < 12 → flpG k := upto_s flp_u11 flp_11
theorem flp_u13 : ∀ k, k < 13 → flpG k := upto_s flp_u12 flp_12
theorem flp_u14 : ∀ k, k < 14 → flpG k := upto_s flp_u13 flp_13
theorem flp_u15 : ∀ k, k < 15 → flpG k := upto_s flp_u14 flp_14
theorem flp_u16 : ∀ k, k < 16 → flpG k := upto_s flp_u15 flp_15
theorem flp_u17 : ∀ k, k < 17 → flpG k := upto_s flp_u16 flp_16
theorem flp_u18 : ∀ k, k < 18 → flpG k := upto_s flp_u17 flp_17
theorem flp_u19 : ∀ k, k < 19 → flpG k := upto_s flp_u18 flp_18
theorem flp_u20 : ∀ k, k < 20 → flpG k := upto_s flp_u19 flp_19
theorem flp_u21 : ∀ k, k < 21 → flpG k := upto_s flp_u20 flp_20
theorem flp_u22 : ∀ k, k < 22 → flpG k := upto_s flp_u21 flp_21
theorem flp_u23 : ∀ k, k < 23 → flpG k := upto_s flp_u22 flp_22
theorem flp_u24 : ∀ k, k < 24 → flpG k := upto_s flp_u23 flp_23
theorem flp_u25 : ∀ k, k < 25 → flpG k := upto_s flp_u24 flp_24
theorem flp_u26 : ∀ k, k < 26 → flpG k := upto_s flp_u25 flp_25
theorem flp_u27 : ∀ k, k < 27 → flpG k := upto_s flp_u26 flp_26
theorem flp_u28 : ∀ k, k < 28 → flpG k := upto_s flp_u27 flp_27
theorem flp_u29 : ∀ k, k < 29 → flpG k := upto_s flp_u28 flp_28
theorem flp_u30 : ∀ k, k < 30 → flpG k := upto_s flp_u29 flp_29
theorem flp_u31 : ∀ k, k < 31 → flpG k := upto_s flp_u30 flp_30
theorem flp_u32 : ∀ k, k < 32 → flpG k := upto_s flp_u31 flp_31
theorem flp_u33 : ∀ k, k < 33 → flpG k := upto_s flp_u32 flp_32
theorem flp_u34 : ∀ k, k < 34 → flpG k := upto_s flp_u33 flp_33
theorem flp_u35 : ∀ k, k < 35 → flpG k := upto_s flp_u34 flp_34
theorem flp_u36 : ∀ k, k < 36 → flpG k := upto_s flp_u35 flp_35
theorem flp_u37 : ∀ k, k < 37 → flpG k := upto_s flp_u36 flp_36
theorem flp_u38 : ∀ k, k < 38 → flpG k := upto_s flp_u37 flp_37
theorem flp_u39 : ∀ k, k < 39 → flpG k := upto_s flp_u38 flp_38
theorem flp_u40 : ∀ k, k < 40 → flpG k := upto_s flp_u39 flp_39
theorem flp_u41 : ∀ k, k < 41 → flpG k := upto_s flp_u40 flp_40
theorem flp_u42 : ∀ k, k < 42 → flpG k := upto_s flp_u41 flp_41
theorem flp_u43 : ∀ k, k < 43 → flpG k := upto_s flp_u42 flp_42
theorem flp_u44 : ∀ k, k < 44 → flpG k := upto_s flp_u43 flp_43
theorem flp_u45 : ∀ k, k < 45 → flpG k := upto_s flp_u44 flp_44
theorem flp_u46 : ∀ k, k < 46 → flpG k := upto_s flp_u45 flp_45
theorem flp_u47 : ∀ k, k < 47 → flpG k := upto_s flp_u46 flp_46
theorem flp_u48 : ∀ k, k < 48 → flpG k := upto_s flp_u47 flp_47
theorem flp_u49 : ∀ k, k < 49 → flpG k := upto_s flp_u48 flp_48
theorem flp_u50 : ∀ k, k < 50 → flpG k := upto_s flp_u49 flp_49
theorem flp_u51 : ∀ k, k < 51 → flpG k := upto_s flp_u50 flp_50
theorem flp_u52 : ∀ k, k < 52 → flpG k := upto_s flp_u51 flp_51
theorem flp_u53 : ∀ k, k < 53 → flpG k := upto_s flp_u52 flp_52
theorem flp_u54 : ∀ k, k < 54 → flpG k := upto_s flp_u53 flp_53
theorem flp_u55 : ∀ k, k < 55 → flpG k := upto_s flp_u54 flp_54
theorem flp_u56 : ∀ k, k < 56 → flpG k := upto_s flp_u55 flp_55
theorem flp_u57 : ∀ k, k < 57 → flpG k := upto_s flp_u56 flp_56
theorem flp_u58 : ∀ k, k < 58 → flpG k := upto_s flp_u57 flp_57
theorem flp_u59 : ∀ k, k < 59 → flpG k := upto_s flp_u58 flp_58
theorem flp_u60 : ∀ k, k < 60 → flpG k := upto_s flp_u59 flp_59
theorem flp_u61 : ∀ k, k < 61 → flpG k := upto_s flp_u60 flp_60
theorem flp_u62 : ∀ k, k < 62 → flpG k := upto_s flp_u61 flp_61
theorem flp_u63 : ∀ k, k < 63 → flpG k := upto_s flp_u62 flp_62
theorem flp_u64 : ∀ k, k < 64 → flpG k := upto_s flp_u63 flp_63
theorem flp_u65 : ∀ k, k < 65 → flpG k := upto_s flp_u64 flp_64
theorem flp_u66 : ∀ k, k < 66 → flpG k := upto_s flp_u65 flp_65
theorem flp_u67 : ∀ k, k < 67 → flpG k := upto_s flp_u66 flp_66
theorem flp_u68 : ∀ k, k < 68 → flpG k := upto_s flp_u67 flp_67
theorem flp_u69 : ∀ k, k < 69 → flpG k := upto_s flp_u68 flp_68
theorem flp_u70 : ∀ k, k < 70 → flpG k := upto_s flp_u69 flp_69
theorem flp_u71 : ∀ k, k < 71 → flpG k := upto_s flp_u70 flp_70
theorem flp_u72 : ∀ k, k < 72 → flpG k := upto_s flp_u71 flp_71
theorem flp_u73 : ∀ k, k < 73 → flpG k := upto_s flp_u72 flp_72
theorem flp_u74 : ∀ k, k < 74 → flpG k := upto_s flp_u73 flp_73
theorem flp_u75 : ∀ k, k < 75 → flpG k := upto_s flp_u74 flp_74
theorem flp_u76 : ∀ k, k < 76 → flpG k := upto_s flp_u75 flp_75
theorem flp_u77 : ∀ k, k < 77 → flpG k := upto_s flp_u76 flp_76
theorem flp_u78 : ∀ k, k < 78 → flpG k := upto_s flp_u77 flp_77
theorem flp_u79 : ∀ k, k < 79 → flpG k := upto_s flp_u78 flp_78
theorem flp_u80 : ∀ k, k < 80 → flpG k := upto_s flp_u79 flp_79
theorem flp_u81 : ∀ k, k < 81 → flpG k := upto_s flp_u80 flp_80
theorem flp_u82 : ∀ k, k < 82 → flpG k := upto_s flp_u81 flp_81
theorem flp_u83 : ∀ k, k < 83 → flpG k := upto_s flp_u82 flp_82
theorem flp_u84 : ∀ k, k < 84 → flpG k := upto_s flp_u83 flp_83
theorem flp_u85 : ∀ k, k < 85 → flpG k := upto_s flp_u84 flp_84
theorem flp_u86 : ∀ k, k < 86 → flpG k := upto_s flp_u85 flp_85
theorem flp_u87 : ∀ k, k < 87 → flpG k := upto_s flp_u86 flp_86
theorem flp_u88 : ∀ k, k < 88 → flpG k := upto_s flp_u87 flp_87
theorem flp_u89 : ∀ k, k < 89 → flpG k := upto_s flp_u88 flp_88
theorem flp_u90 : ∀ k, k < 90 → flpG k := upto_s flp_u89 flp_89
theorem flp_u91 : ∀ k, k < 91 → flpG k := upto_s flp_u90 flp_90
theorem flp_u92 : ∀ k, k < 92 → flpG k := upto_s flp_u91 flp_91
theorem flp_u93 : ∀ k, k < 93 → flpG k := upto_s flp_u92 flp_92
theorem flp_u94 : ∀ k, k < 94 → flpG k := upto_s flp_u93 flp_93
theorem flp_u95 : ∀ k, k < 95 → flpG k := upto_s flp_u94 flp_94
theorem flp_u96 : ∀ k, k < 96 → flpG k := upto_s flp_u95 flp_95
theorem flp_u97 : ∀ k, k < 97 → flpG k := upto_s flp_u96 flp_96
theorem flp_u98 : ∀ k, k < 98 → flpG k := upto_s flp_u97 flp_97
theorem flp_u99 : ∀ k, k < 99 → flpG k := upto_s flp_u98 flp_98
theorem flp_u100 : ∀ k, k < 100 → flpG k := upto_s flp_u99 flp_99
theorem flp_u101 : ∀ k, k < 101 → flpG k := upto_s flp_u100 flp_100
theorem flp_u102 : ∀ k, k < 102 → flpG k := upto_s flp_u101 flp_101
theorem flp_u103 : ∀ k, k < 103 → flpG k := upto_s flp_u102 flp_102
theorem flp_u104 : ∀ k, k < 104 → flpG k := upto_s flp_u103 flp_103
theorem flp_u105 : ∀ k, k < 105 → flpG k := upto_s flp_u104 flp_104
theorem flp_u106 : ∀ k, k < 106 → flpG k := upto_s flp_u105 flp_105
theorem flp_u107 : ∀ k, k < 107 → flpG k := upto_s flp_u106 flp_106
theorem flp_u108 : ∀ k, k < 108 → flpG k := upto_s flp_u107 flp_107
theorem flp_u109 : ∀ k, k < 109 → flpG k := upto_s flp_u108 flp_108
theorem flp_u110 : ∀ k, k < 110 → flpG k := upto_s flp_u109 flp_109
theorem flp_u111 : ∀ k, k < 111 → flpG k := upto_s flp_u110 flp_110
theorem flp_u112 : ∀ k, k < 112 → flpG k := upto_s flp_u111 flp_111
theorem flp_u113 : ∀ k, k < 113 → flpG k := upto_s flp_u112 flp_112
theorem flp_u114 : ∀ k, k < 114 → flpG k := upto_s flp_u113 flp_113
theorem flp_u115 : ∀ k, k < 115 → flpG k := upto_s flp_u114 flp_114
theorem flp_u116 : ∀ k, k < 116 → flpG k := upto_s flp_u115 flp_115
theorem flp_u117 : ∀ k, k < 117 → flpG k := upto_s flp_u116 flp_116
theorem flp_u118 : ∀ k, k < 118 → flpG k := upto_s flp_u117 flp_117
theorem flp_u119 : ∀ k, k < 119 → flpG k := upto_s flp_u118 flp_118
theorem flp_u120 : ∀ k, k < 120 → flpG k := upto_s flp_u119 flp_119
theorem flp_u121 : ∀ k, k < 121 → flpG k := upto_s flp_u120 flp_120
theorem flp_u122 : ∀ k, k < 122 → flpG k := upto_s flp_u121 flp_121
theorem flp_u123 : ∀ k, k < 123 → flpG k := upto_s flp_u122 flp_122
theorem flp_u124 : ∀ k, k < 124 → flpG k := upto_s flp_u123 flp_123
theorem flp_u125 : ∀ k, k < 125 → flpG k := upto_s flp_u124 flp_124
theorem flp_u126 : ∀ k, k < 126 → flpG k := upto_s flp_u125 flp_125
theorem flp_u127 : ∀ k, k < 127 → flpG k := upto_s flp_u126 flp_126
theorem flp_u128 : ∀ k, k < 128 → flpG k := upto_s flp_u127 flp_127
theorem flp_u129 : ∀ k, k < 129 → flpG k := upto_s flp_u128 flp_128
theorem flp_u130 : ∀ k, k < 130 → flpG k := upto_s flp_u129 flp_129
theorem fln_u0 : ∀ k, k < 0 → flnG k := upto_0
theorem fln_u1 : ∀ k, k < 1 → flnG k := upto_s fln_u0 fln_0
theorem fln_u2 : ∀ k, k < 2 → flnG k := upto_s fln_u1 fln_1
theorem fln_u3 : ∀ k, k < 3 → flnG k := upto_s fln_u2 fln_2
theorem fln_u4 : ∀ k, k < 4 → flnG k := upto_s fln_u3 fln_3
theorem fln_u5 : ∀ k, k < 5 → flnG k := upto_s fln_u4 fln_4
theorem fln_u6 : ∀ k, k < 6 → flnG k := upto_s fln_u5 fln_5
theorem fln_u7 : ∀ k, k < 7 → flnG k := upto_s fln_u6 fln_6
theorem fln_u8 : ∀ k, k < 8 → flnG k := upto_s fln_u7 fln_7
theorem fln_u9 : ∀ k, k < 9 → flnG k := upto_s fln_u8 fln_8
theorem fln_u10 : ∀ k, k < 10 → flnG k := upto_s fln_u9 fln_9
theorem fln_u11 : ∀ k, k < 11 → flnG k := upto_s fln_u10 fln_10
theorem fln_u12 : ∀ k, k < 12 → flnG k := upto_s fln_u11 fln_11
theorem fln_u13 : ∀ k, k < 13 → flnG k := upto_s fln_u12 fln_12
theorem fln_u14 : ∀ k, k < 14 → flnG k := upto_s fln_u13 fln_13
theorem fln_u15 : ∀ k, k < 15 → flnG k := upto_s fln_u14 fln_14
theorem fln_u16 : ∀ k, k < 16 → flnG k := upto_s fln_u15 fln_15
theorem fln_u17 : ∀ k, k < 17 → flnG k := upto_s fln_u16 fln_16
theorem fln_u18 : ∀ k, k < 18 → flnG k := upto_s fln_u17 fln_17
theorem fln_u19 : ∀ k, k < 19 → flnG k := upto_s fln_u18 fln_18
theorem fln_u20 : ∀ k, k < 20 → flnG k := upto_s fln_u19 fln_19
theorem fln_u21 : ∀ k, k < 21 → flnG k := upto_s fln_u20 fln_20
theorem fln_u22 : ∀ k, k < 22 → flnG k := upto_s fln_u21 fln_21
theorem fln_u23 : ∀ k, k < 23 → flnG k := upto_s fln_u22 fln_22
theorem fln_u24 : ∀ k, k < 24 → flnG k := upto_s fln_u23 fln_23
theorem fln_u25 : ∀ k, k < 25 → flnG k := upto_s fln_u24 fln_24
theorem fln_u26 : ∀ k, k < 26 → flnG k := upto_s fln_u25 fln_25
theorem fln_u27 : ∀ k, k < 27 → flnG k := upto_s fln_u26 fln_26
theorem fln_u28 : ∀ k, k < 28 → flnG k := upto_s fln_u27 fln_27
theorem fln_u29 : ∀ k, k < 29 → flnG k := upto_s fln_u28 fln_28
theorem fln_u30 : ∀ k, k < 30 → flnG k := upto_s fln_u29 fln_29
theorem fln_u31 : ∀ k, k < 31 → flnG k := upto_s fln_u30 fln_30
theorem fln_u32 : ∀ k, k < 32 → flnG k := upto_s fln_u31 fln_31
theorem fln_u33 : ∀ k, k < 33 → flnG k := upto_s fln_u32 fln_32
theorem fln_u34 : ∀ k, k < 34 → flnG k := upto_s fln_u33 fln_33
theorem fln_u35 : ∀ k, k < 35 → flnG k := upto_s fln_u34 fln_34
theorem fln_u36 : ∀ k, k < 36 → flnG k := upto_s fln_u35 fln_35
theorem fln_u37 : ∀ k, k < 37 → flnG k := upto_s fln_u36 fln_36
theorem fln_u38 : ∀ k, k < 38 → flnG k := upto_s fln_u37 fln_37
theorem fln_u39 : ∀ k, k < 39 → flnG k := upto_s fln_u38 fln_38
theorem fln_u40 : ∀ k, k < 40 → flnG k := upto_s fln_u39 fln_39
theorem fln_u41 : ∀ k, k < 41 → flnG k := upto_s fln_u40 fln_40
theorem fln_u42 : ∀ k, k < 42 → flnG k := upto_s fln_u41 fln_41
theorem fln_u43 : ∀ k, k < 43 → flnG k := upto_s fln_u42 fln_42
theorem fln_u44 : ∀ k, k < 44 → flnG k := upto_s fln_u43 fln_43
theorem fln_u45 : ∀ k, k < 45 → flnG k := upto_s fln_u44 fln_44
theorem fln_u46 : ∀ k, k < 46 → flnG k := upto_s fln_u45 fln_45
theorem fln_u47 : ∀ k, k < 47 → flnG k := upto_s fln_u46 fln_46
theorem fln_u48 : ∀ k, k < 48 → flnG k := upto_s fln_u47 fln_47
theorem fln_u49 : ∀ k, k < 49 → flnG k := upto_s fln_u48 fln_48
theorem fln_u50 : ∀ k, k < 50 → flnG k := upto_s fln_u49 fln_49
theorem fln_u51 : ∀ k, k < 51 → flnG k := upto_s fln_u50 fln_50
theorem fln_u52 : ∀ k, k < 52 → flnG k := upto_s fln_u51 fln_51
theorem fln_u53 : ∀ k, k < 53 → flnG k := upto_s fln_u52 fln_52
theorem fln_u54 : ∀ k, k < 54 → flnG k := upto_s fln_u53 fln_53
theorem fln_u55 : ∀ k, k < 55 → flnG k := upto_s fln_u54 fln_54
theorem fln_u56 : ∀ k, k < 56 → flnG k := upto_s fln_u55 fln_55
theorem fln_u57 : ∀ k, k < 57 → flnG k := upto_s fln_u56 fln_56
theorem fln_u58 : ∀ k, k < 58 → flnG k := upto_s fln_u57 fln_57
theorem fln_u59 : ∀ k, k < 59 → flnG k := upto_s fln_u58 fln_58
theorem fln_u60 : ∀ k, k < 60 → flnG k := upto_s fln_u59 fln_59
theorem fln_u61 : ∀ k, k < 61 → flnG k := upto_s fln_u60 fln_60
theorem fln_u62 : ∀ k, k < 62 → flnG k := upto_s fln_u61 fln_61
theorem fln_u63 : ∀ k, k < 63 → flnG k := upto_s fln_u62 fln_62
theorem fln_u64 : ∀ k, k < 64 → flnG k := upto_s fln_u63 fln_63
theorem fln_u65 : ∀ k, k < 65 → flnG k := upto_s fln_u64 fln_64
theorem fln_u66 : ∀ k, k < 66 → flnG k := upto_s fln_u65 fln_65
theorem fln_u67 : ∀ k, k < 67 → flnG k := upto_s fln_u66 fln_66
theorem fln_u68 : ∀ k, k < 68 → flnG k := upto_s fln_u67 fln_67
theorem fln_u69 : ∀ k, k < 69 → flnG k := upto_s fln_u68 fln_68
theorem fln_u70 : ∀ k, k < 70 → flnG k := upto_s fln_u69 fln_69
theorem fln_u71 : ∀ k, k < 71 → flnG k := upto_s fln_u70 fln_70
theorem fln_u72 : ∀ k, k < 72 → flnG k := upto_s fln_u71 fln_71
theorem fln_u73 : ∀ k, k < 73 → flnG k := upto_s fln_u72 fln_72
theorem fln_u74 : ∀ k, k < 74 → flnG k := upto_s fln_u73 fln_73
theorem fln_u75 : ∀ k, k < 75 → flnG k := upto_s fln_u74 fln_74
theorem fln_u76 : ∀ k, k < 76 → flnG k := upto_s fln_u75 fln_75
theorem fln_u77 : ∀ k, k < 77 → flnG k := upto_s fln_u76 fln_76
theorem fln_u78 : ∀ k, k < 78 → flnG k := upto_s fln_u77 fln_77
theorem fln_u79 : ∀ k, k < 79 → flnG k := upto_s fln_u78 fln_78
theorem fln_u80 : ∀ k, k < 80 → flnG k := upto_s fln_u79 fln_79
theorem fln_u81 : ∀ k, k < 81 → flnG k := upto_s fln_u80 fln_80
theorem fln_u82 : ∀ k, k < 82 → flnG k := upto_s fln_u81 fln_81
theorem fln_u83 : ∀ k, k < 83 → flnG k := upto_s fln_u82 fln_82
theorem fln_u84 : ∀ k, k < 84 → flnG k := upto_s fln_u83 fln_83
theorem fln_u85 : ∀ k, k < 85 → flnG k := upto_s fln_u84 fln_84
theorem fln_u86 : ∀ k, k < 86 → flnG k := upto_s fln_u85 fln_85
theorem fln_u87 : ∀ k, k < 87 → flnG k := upto_s fln_u86 fln_86
theorem fln_u88 : ∀ k, k < 88 → flnG k := upto_s fln_u87 fln_87
theorem fln_u89 : ∀ k, k < 89 → flnG k := upto_s fln_u88 fln_88
theorem fln_u90 : ∀ k, k < 90 → flnG k := upto_s fln_u89 fln_89
theorem fln_u91 : ∀ k, k < 91 → flnG k := upto_s fln_u90 fln_90
theorem fln_u92 : ∀ k, k < 92 → flnG k := upto_s fln_u91 fln_91
theorem fln_u93 : ∀ k, k < 93 → flnG k := upto_s fln_u92 fln_92
theorem fln_u94 : ∀ k, k < 94 → flnG k := upto_s fln_u93 fln_93
theorem fln_u95 : ∀ k, k < 95 → flnG k := upto_s fln_u94 fln_94
theorem fln_u96 : ∀ k, k < 96 → flnG k := upto_s fln_u95 fln_95
theorem fln_u97 : ∀ k, k < 97 → flnG k := upto_s fln_u96 fln_96
theorem fln_u98 : ∀ k, k < 98 → flnG k := upto_s fln_u97 fln_97
theorem fln_u99 : ∀ k, k < 99 → flnG k := upto_s fln_u98 fln_98
theorem fln_u100 : ∀ k, k < 100 → flnG k := upto_s fln_u99 fln_99
theorem fln_u101 : ∀ k, k < 101 → flnG k := upto_s fln_u100 fln_100
theorem fln_u102 : ∀ k, k < 102 → flnG k := upto_s fln_u101 fln_101
theorem fln_u103 : ∀ k, k < 103 → flnG k := upto_s fln_u102 fln_102
theorem fln_u104 : ∀ k, k < 104 → flnG k := upto_s fln_u103 fln_103
theorem fln_u105 : ∀ k, k < 105 → flnG k := upto_s fln_u104 fln_104
theorem fln_u106 : ∀ k, k < 106 → flnG k := upto_s fln_u105 fln_105
theorem fln_u107 : ∀ k, k < 107 → flnG k := upto_s fln_u106 fln_106
theorem fln_u108 : ∀ k, k < 108 → flnG k := upto_s fln_u107 fln_107
theorem fln_u109 : ∀ k, k < 109 → flnG k := upto_s fln_u108 fln_108
theorem fln_u110 : ∀ k, k < 110 → flnG k := upto_s fln_u109 fln_109
theorem fln_u111 : ∀ k, k < 111 → flnG k := upto_s fln_u110 fln_110
theorem fln_u112 : ∀ k, k < 112 → flnG k := upto_s fln_u111 fln_111
theorem fln_u113 : ∀ k, k < 113 → flnG k := upto_s fln_u112 fln_112
theorem fln_u114 : ∀ k, k < 114 → flnG k := upto_s fln_u113 fln_113
theorem fln_u115 : ∀ k, k < 115 → flnG k := upto_s fln_u114 fln_114
theorem fln_u116 : ∀ k, k < 116 → flnG k := upto_s fln_u115 fln_115
theorem fln_u117 : ∀ k, k < 117 → flnG k := upto_s fln_u116 fln_116
theorem fln_u118 : ∀ k, k < 118 → flnG k := upto_s fln_u117 fln_117
theorem fln_u119 : ∀ k, k < 119 → flnG k := upto_s fln_u118 fln_118
theorem fln_u120 : ∀ k, k < 120 → flnG k := upto_s fln_u119 fln_119
theorem fln_u121 : ∀ k, k < 121 → flnG k := upto_s fln_u120 fln_120
theorem fln_u122 : ∀ k, k < 122 → flnG k := upto_s fln_u121 fln_121
theorem fln_u123 : ∀ k, k < 123 → flnG k := upto_s fln_u122 fln_122
theorem fln_u124 : ∀ k, k < 124 → flnG k := upto_s fln_u123 fln_123
theorem fln_u125 : ∀ k, k < 125 → flnG k := upto_s fln_u124 fln_124
theorem fln_u126 : ∀ k, k < 126 → flnG k := upto_s fln_u125 fln_125
theorem fln_u127 : ∀ k, k < 127 → flnG k := upto_s fln_u126 fln_126
theorem fln_u128 : ∀ k, k < 128 → flnG k := upto_s fln_u127 fln_127
theorem fln_u129 : ∀ k, k < 129 → flnG k := upto_s fln_u128 fln_128
theorem fln_u130 : ∀ k, k < 130 → flnG k := upto_s fln_u129 fln_129
theorem flpB_ok : cok flpB = true := by kernel_rfl
theorem flpL_eq : flpL = .loop flpB := by kernel_rfl
theorem flp_end (nx : Nat) (zs : List Value) (sa sn sq : Bool) (a n q : List Int) : ((ev envF1 100).code [] flpB (flP 0 nx zs sa sn sq a n q)).run =
    some (.exit 4, flP 0 nx (tlOf (outOf ((ev envF1 100).code [] flpB (flP 0 nx zs sa sn sq a n q))).2) sa sn sq a n q) := by kernel_rfl
theorem flp_stop (nx : Nat) (zs : List Value) (sa sn sq : Bool) (a n q : List Int) : ∃ z, SatCode Tryd.prog [] flpB (flP 0 nx zs sa sn sq a n q) (.exit 4) (flP 0 nx z sa sn sq a n q) :=
  ⟨_, sat_read envF1 hcokP 100 (r := (.exit 4, _)) flpB_ok (flp_end nx zs sa sn sq a n q)⟩
theorem flp_of {k : Nat} {zs : List Value} {sa sn sq : Bool} {a n q : List Int} {x : Exit} {s : St} (h : (flpT k zs sa sn sq a n q).run = some (x, s)) :
    SatCode Tryd.prog [] flpB (flP (k + 1) (B0 + (133 - k)) zs sa sn sq a n q) x s := sat_read envF1 hcokP 100 (r := (x, s)) flpB_ok h
set_option maxHeartbeats 1000000 in
theorem flp_round {k : Nat} (hk : k < 130) (zs : List Value) {sa sn sq : Bool} {a n q : List Int} (ha : a.length = 20) (hn : n.length = 20) (hq : q.length = 20)
    (g1 : (okNum (mapU (addP q k)) && (okNum (mapU n) && decide (mag (mapU (addP q k)) * mag (mapU n) < T320))) = true) (g2 : (okNum (mapU (digsN 20 (mag (mapU (addP q k)) * mag (mapU n)))) && okNum (mapU a)) = true) {c : Bool}
    (hc : decide (cmpI (sv (sq != sn) (mag (mapU (digsN 20 (mag (mapU (addP q k)) * mag (mapU n)))))) (sv sa (mag (mapU a))) ≤ 0) = c) :
    ∃ z, SatCode Tryd.prog [] flpB (flP (k + 1) (B0 + (133 - k)) zs sa sn sq a n q) .normal (flpX k z sa sn sq a n (bif c then addP q k else q) (addP q k)) := by
  obtain ⟨a0, a1, a2, a3, a4, a5, a6, a7, a8, a9, a10, a11, a12, a13, a14, a15, a16, a17, a18, a19, rfl⟩ := list20 ha
  obtain ⟨n0, n1, n2, n3, n4, n5, n6, n7, n8, n9, n10, n11, n12, n13, n14, n15, n16, n17, n18, n19, rfl⟩ := list20 hn
  obtain ⟨q0, q1, q2, q3, q4, q5, q6, q7, q8, q9, q10, q11, q12, q13, q14, q15, q16, q17, q18, q19, rfl⟩ := list20 hq
  have h := flp_u130 k hk zs sa sn sq a0 a1 a2 a3 a4 a5 a6 a7 a8 a9 a10 a11 a12 a13 a14 a15 a16 a17 a18 a19 n0 n1 n2 n3 n4 n5 n6 n7 n8 n9 n10 n11 n12 n13 n14 n15 n16 n17 n18 n19 q0 q1 q2 q3 q4 q5 q6 q7 q8 q9 q10 q11 q12 q13 q14 q15 q16 q17 q18 q19
  rw [g1, g2, hc] at h
  cases c
  · simp only [cond_true, cond_false] at h ⊢
    exact ⟨_, flp_of h⟩
  · simp only [cond_true] at h ⊢
    exact ⟨_, flp_of h⟩
theorem flp_t0 (k nx : Nat) (z : List Value) (sa sn sq : Bool) (a n q2 q3 : List Int) : (flP k nx z sa sn sq a n q2).tmps = (flpX k z sa sn sq a n q2 q3).tmps := by kernel_rfl
theorem flp_t1 (k : Nat) (z : List Value) (sa sn sq : Bool) (a n q2 q3 : List Int) : (flP k (B0 + (134 - k)) z sa sn sq a n q2).nx = (flpX k z sa sn sq a n q2 q3).nx := by kernel_rfl
theorem flp_t2 (k nx : Nat) (z : List Value) (sa sn sq : Bool) (a n q2 q3 : List Int) : (flpX k z sa sn sq a n q2 q3).h = (flP k nx z sa sn sq a n q2).h ++ [(B0 + (133 - k), blkN sq q3)] := by kernel_rfl
theorem flp_tail {k : Nat} {z : List Value} {sa sn sq : Bool} {a n q2 q3 : List Int} {x : Exit} {s : St} (h : SatCode Tryd.prog [] flpL (flP k (B0 + (134 - k)) z sa sn sq a n q2) x s) : SatCode Tryd.prog [] flpL (flpX k z sa sn sq a n q2 q3) x s := by
  refine sat_drop (flp_t0 k _ z sa sn sq a n q2 q3) (flp_t1 k z sa sn sq a n q2 q3) (fun b B hb => ?_) h
  rw [flp_t2 k (B0 + (134 - k)), AHeap.get_append, hb]; rfl
theorem flp_loop {a n : List Int} (ha : a.length = 20) (pa : Pcs a) (hn : n.length = 20) (pn : Pcs n) (n1 : val n ≤ 18446744073709551616) : ∀ (m : Nat), m ≤ 130 → ∀ (zs : List Value) (q : List Int), UpTo (val a) (val n) m q →
    ∃ z q', SatCode Tryd.prog [] flpL (flP m (B0 + (134 - m)) zs false false false a n q) (.exit 4) (flP 0 (B0 + 134) z false false false a n q') ∧ UpTo (val a) (val n) 0 q'
  | 0, _, zs, q, h => by
    obtain ⟨z, hz⟩ := flp_stop (B0 + 134) zs false false false a n q
    exact ⟨z, q, sat_loop_exit flpL_eq hz, h⟩
  | k + 1, hk, zs, q, h => by
    have hk' : k < 130 := by omega
    obtain ⟨⟨s1, s2, s3⟩, s4, s5⟩ := h.step hk'
    have pp := p2_pos k
    have hv := (val_bd h.pcs).1
    have nv0 := (val_bd pn).1
    have tp := h.top
    have hs := p2_s k
    have w := way (x := val q + 2 ^ k) (n := val n) (by omega) (by omega) nv0 n1
    have e1 : mag (mapU (addP q k)) = val q + 2 ^ k := by rw [mag_mapU, s3]
    have e2 : mag (mapU n) = val n := mag_mapU n
    have e3 : mag (mapU (digsN 20 ((val q + 2 ^ k) * val n))) = (val q + 2 ^ k) * val n := mag_nv w.1 w.2
    have hc : decide (cmpI (sv (false != false) (mag (mapU (digsN 20 (mag (mapU (addP q k)) * mag (mapU n)))))) (sv false (mag (mapU a))) ≤ 0) = decide ((val q + 2 ^ k) * val n ≤ val a) := by
      rw [e1, e2, e3, mag_mapU, cmp_le]; rfl
    have hx : decide ((val q + 2 ^ k) * val n ≤ val a) = true → UpTo (val a) (val n) k (addP q k) := fun p => s4 (of_decide_eq_true p)
    have hy : decide ((val q + 2 ^ k) * val n ≤ val a) = false → UpTo (val a) (val n) k q := fun p => s5 (by have := of_decide_eq_false p; omega)
    have hprod : (okNum (mapU (addP q k)) && (okNum (mapU n) && decide (mag (mapU (addP q k)) * mag (mapU n) < T320))) = true := by
      rw [okNum_in s2 s1, okNum_in hn pn, e1, e2, decide_eq_true w.2]; rfl
    obtain ⟨z, hz⟩ := flp_round hk' zs (sa := false) (sn := false) (sq := false) ha hn h.len hprod (by rw [ok_nv, okNum_in ha pa]; rfl) hc
    have hnx : 134 - (k + 1) = 133 - k := by omega
    rw [hnx]
    have go : ∀ q2, UpTo (val a) (val n) k q2 → ∃ z2 q', SatCode Tryd.prog [] flpL (flpX k z false false false a n q2 (addP q k)) (.exit 4) (flP 0 (B0 + 134) z2 false false false a n q') ∧ UpTo (val a) (val n) 0 q' := fun q2 h2 => by
      obtain ⟨z2, q', hs2, h3⟩ := flp_loop ha pa hn pn n1 k (by omega) z q2 h2
      exact ⟨z2, q', flp_tail hs2, h3⟩
    cases hd : decide ((val q + 2 ^ k) * val n ≤ val a)
    · obtain ⟨z2, q', hs2, h3⟩ := go q (hy hd)
      rw [hd] at hz
      exact ⟨z2, q', sat_loop flpL_eq hz hs2, h3⟩
    · obtain ⟨z2, q', hs2, h3⟩ := go (addP q k) (hx hd)
      rw [hd] at hz
      exact ⟨z2, q', sat_loop flpL_eq hz hs2, h3⟩
theorem flnB_ok : cok flnB = true := by kernel_rfl
theorem flnL_eq : flnL = .loop flnB := by kernel_rfl
theorem fln_end (nx : Nat) (zs : List Value) (sa sn sq : Bool) (a n q : List Int) : ((ev envF1 100).code [] flnB (flN 0 nx zs sa sn sq a n q)).run =
    some (.exit 2, flN 0 nx (tlOf (outOf ((ev envF1 100).code [] flnB (flN 0 nx zs sa sn sq a n q))).2) sa sn sq a n q) := by kernel_rfl
theorem fln_stop (nx : Nat) (zs : List Value) (sa sn sq : Bool) (a n q : List Int) : ∃ z, SatCode Tryd.prog [] flnB (flN 0 nx zs sa sn sq a n q) (.exit 2) (flN 0 nx z sa sn sq a n q) :=
  ⟨_, sat_read envF1 hcokP 100 (r := (.exit 2, _)) flnB_ok (fln_end nx zs sa sn sq a n q)⟩
theorem fln_of {k : Nat} {zs : List Value} {sa sn sq : Bool} {a n q : List Int} {x : Exit} {s : St} (h : (flnT k zs sa sn sq a n q).run = some (x, s)) :
    SatCode Tryd.prog [] flnB (flN (k + 1) (B0 + (133 - k)) zs sa sn sq a n q) x s := sat_read envF1 hcokP 100 (r := (x, s)) flnB_ok h
set_option maxHeartbeats 1000000 in
theorem fln_round {k : Nat} (hk : k < 130) (zs : List Value) {sa sn sq : Bool} {a n q : List Int} (ha : a.length = 20) (hn : n.length = 20) (hq : q.length = 20)
    (g1 : (okNum (mapU (subP q k)) && (okNum (mapU n) && decide (mag (mapU (subP q k)) * mag (mapU n) < T320))) = true) (g2 : (okNum (mapU (digsN 20 (mag (mapU (subP q k)) * mag (mapU n)))) && okNum (mapU a)) = true) {c : Bool}
    (hc : decide (cmpI (sv (sq != sn) (mag (mapU (digsN 20 (mag (mapU (subP q k)) * mag (mapU n)))))) (sv sa (mag (mapU a))) ≤ 0) = c) :
    ∃ z, SatCode Tryd.prog [] flnB (flN (k + 1) (B0 + (133 - k)) zs sa sn sq a n q) .normal (flnX k z sa sn sq a n (bif c then subP q k else q) (subP q k)) := by
  obtain ⟨a0, a1, a2, a3, a4, a5, a6, a7, a8, a9, a10, a11, a12, a13, a14, a15, a16, a17, a18, a19, rfl⟩ := list20 ha
  obtain ⟨n0, n1, n2, n3, n4, n5, n6, n7, n8, n9, n10, n11, n12, n13, n14, n15, n16, n17, n18, n19, rfl⟩ := list20 hn
  obtain ⟨q0, q1, q2, q3, q4, q5, q6, q7, q8, q9, q10, q11, q12, q13, q14, q15, q16, q17, q18, q19, rfl⟩ := list20 hq
  have h := fln_u130 k hk zs sa sn sq a0 a1 a2 a3 a4 a5 a6 a7 a8 a9 a10 a11 a12 a13 a14 a15 a16 a17 a18 a19 n0 n1 n2 n3 n4 n5 n6 n7 n8 n9 n10 n11 n12 n13 n14 n15 n16 n17 n18 n19 q0 q1 q2 q3 q4 q5 q6 q7 q8 q9 q10 q11 q12 q13 q14 q15 q16 q17 q18 q19
  rw [g1, g2, hc] at h
  cases c
  · simp only [cond_true, cond_false] at h ⊢
    exact ⟨_, fln_of h⟩
  · simp only [cond_true] at h ⊢
    exact ⟨_, fln_of h⟩
theorem fln_t0 (k nx : Nat) (z : List Value) (sa sn sq : Bool) (a n q2 q3 : List Int) : (flN k nx z sa sn sq a n q2).tmps = (flnX k z sa sn sq a n q2 q3).tmps := by kernel_rfl
theorem fln_t1 (k : Nat) (z : List Value) (sa sn sq : Bool) (a n q2 q3 : List Int) : (flN k (B0 + (134 - k)) z sa sn sq a n q2).nx = (flnX k z sa sn sq a n q2 q3).nx := by kernel_rfl
theorem fln_t2 (k nx : Nat) (z : List Value) (sa sn sq : Bool) (a n q2 q3 : List Int) : (flnX k z sa sn sq a n q2 q3).h = (flN k nx z sa sn sq a n q2).h ++ [(B0 + (133 - k), blkN sq q3)] := by kernel_rfl
theorem fln_tail {k : Nat} {z : List Value} {sa sn sq : Bool} {a n q2 q3 : List Int} {x : Exit} {s : St} (h : SatCode Tryd.prog [] flnL (flN k (B0 + (134 - k)) z sa sn sq a n q2) x s) : SatCode Tryd.prog [] flnL (flnX k z sa sn sq a n q2 q3) x s := by
  refine sat_drop (fln_t0 k _ z sa sn sq a n q2 q3) (fln_t1 k z sa sn sq a n q2 q3) (fun b B hb => ?_) h
  rw [fln_t2 k (B0 + (134 - k)), AHeap.get_append, hb]; rfl
theorem fln_loop {a n : List Int} (ha : a.length = 20) (pa : Pcs a) (hn : n.length = 20) (pn : Pcs n) (n1 : val n ≤ 18446744073709551616) : ∀ (m : Nat), m ≤ 130 → ∀ (zs : List Value) (q : List Int), DownTo (val a) (val n) m q →
    ∃ z q', SatCode Tryd.prog [] flnL (flN m (B0 + (134 - m)) zs true false true a n q) (.exit 2) (flN 0 (B0 + 134) z true false true a n q') ∧ DownTo (val a) (val n) 0 q'
  | 0, _, zs, q, h => by
    obtain ⟨z, hz⟩ := fln_stop (B0 + 134) zs true false true a n q
    exact ⟨z, q, sat_loop_exit flnL_eq hz, h⟩
  | k + 1, hk, zs, q, h => by
    have hk' : k < 130 := by omega
    obtain ⟨⟨s1, s2, s3⟩, s4, s5⟩ := h.step hk'
    have pp := p2_pos k
    have hv := (val_bd h.pcs).1
    have nv0 := (val_bd pn).1
    have tp := h.top
    have hs := p2_s k
    have bt := h.bot
    have w := way (x := val q - 2 ^ k) (n := val n) (by omega) (by omega) nv0 n1
    have e1 : mag (mapU (subP q k)) = val q - 2 ^ k := by rw [mag_mapU, s3]
    have e2 : mag (mapU n) = val n := mag_mapU n
    have e3 : mag (mapU (digsN 20 ((val q - 2 ^ k) * val n))) = (val q - 2 ^ k) * val n := mag_nv w.1 w.2
    have hc : decide (cmpI (sv (true != false) (mag (mapU (digsN 20 (mag (mapU (subP q k)) * mag (mapU n)))))) (sv true (mag (mapU a))) ≤ 0) = decide (val a ≤ (val q - 2 ^ k) * val n) := by
      rw [e1, e2, e3, mag_mapU, cmp_le]
      show decide (-((val q - 2 ^ k) * val n) ≤ -val a) = _
      rw [decide_eq_decide]; omega
    have hx : decide (val a ≤ (val q - 2 ^ k) * val n) = true → DownTo (val a) (val n) k (subP q k) := fun p => s4 (of_decide_eq_true p)
    have hy : decide (val a ≤ (val q - 2 ^ k) * val n) = false → DownTo (val a) (val n) k q := fun p => s5 (by have := of_decide_eq_false p; omega)
    have hprod : (okNum (mapU (subP q k)) && (okNum (mapU n) && decide (mag (mapU (subP q k)) * mag (mapU n) < T320))) = true := by
      rw [okNum_in s2 s1, okNum_in hn pn, e1, e2, decide_eq_true w.2]; rfl
    obtain ⟨z, hz⟩ := fln_round hk' zs (sa := true) (sn := false) (sq := true) ha hn h.len hprod (by rw [ok_nv, okNum_in ha pa]; rfl) hc
    have hnx : 134 - (k + 1) = 133 - k := by omega
    rw [hnx]
    have go : ∀ q2, DownTo (val a) (val n) k q2 → ∃ z2 q', SatCode Tryd.prog [] flnL (flnX k z true false true a n q2 (subP q k)) (.exit 2) (flN 0 (B0 + 134) z2 true false true a n q') ∧ DownTo (val a) (val n) 0 q' := fun q2 h2 => by
      obtain ⟨z2, q', hs2, h3⟩ := fln_loop ha pa hn pn n1 k (by omega) z q2 h2
      exact ⟨z2, q', fln_tail hs2, h3⟩
    cases hd : decide (val a ≤ (val q - 2 ^ k) * val n)
    · obtain ⟨z2, q', hs2, h3⟩ := go q (hy hd)
      rw [hd] at hz
      exact ⟨z2, q', sat_loop flnL_eq hz hs2, h3⟩
    · obtain ⟨z2, q', hs2, h3⟩ := go (subP q k) (hx hd)
      rw [hd] at hz
      exact ⟨z2, q', sat_loop flnL_eq hz hs2, h3⟩
end

end Go.Proofs.YtecmhjhjmhliiaaDoor


/-
  The document's quotient, put together of its rounds.
-/

namespace Go.Proofs.YtecmhjhjmhliiaaDoor

open Go.Den Go.RowKit
noncomputable section
set_option maxRecDepth 100000

theorem sat_ofF {c : Code} {st s : St} {x : Exit} (n : Nat) (hok : cok c = true) (h : ((ev envF1 n).code [] c st).run = some (x, s)) : SatCode Tryd.prog [] c st x s := sat_read envF1 hcokP n (r := (x, s)) hok h
noncomputable def floA (sa : Bool) (a n : List Int) : Array Value := #[.agg ⟨.bool sa :: mapU a⟩, .agg ⟨.bool false :: mapU n⟩]
noncomputable def floS0 (sa : Bool) (a n : List Int) : St := ⟨Go.Den.start (floA sa a n).toList Tryd.f53.ntmps, [], B0⟩
noncomputable def floS1 (sa : Bool) (a n : List Int) : St := (outOf ((ev envF1 100).code [] (cL floC) (floS0 sa a n))).2
noncomputable def floS2 (sa : Bool) (a n : List Int) : St := (outOf ((ev envF1 100).code [] (cL (cR floC)) (floS1 sa a n))).2
noncomputable def floS3 (sa : Bool) (a n : List Int) : St := (outOf ((ev envF1 100).code [] (cL (cR (cR floC))) (floS2 sa a n))).2
theorem flo_q1 : floC = .seq (cL floC) (cR floC) := by kernel_rfl
theorem flo_q2 : cR floC = .seq (cL (cR floC)) (cR (cR floC)) := by kernel_rfl
theorem flo_q3 : cR (cR floC) = .seq (cL (cR (cR floC))) floM := by kernel_rfl
theorem flo_q4 : floM = .seq (cL floM) floPos := by kernel_rfl
theorem flo_k1 : cok (cL floC) = true := by kernel_rfl
theorem flo_k2 : cok (cL (cR floC)) = true := by kernel_rfl
theorem flo_k3 : cok (cL (cR (cR floC))) = true := by kernel_rfl
theorem flo_p1 (sa : Bool) (a0 a1 a2 a3 a4 a5 a6 a7 a8 a9 a10 a11 a12 a13 a14 a15 a16 a17 a18 a19 n0 n1 n2 n3 n4 n5 n6 n7 n8 n9 n10 n11 n12 n13 n14 n15 n16 n17 n18 n19 : Int) : ((ev envF1 100).code [] (cL floC) (floS0 sa [a0, a1, a2, a3, a4, a5, a6, a7, a8, a9, a10, a11, a12, a13, a14, a15, a16, a17, a18, a19] [n0, n1, n2, n3, n4, n5, n6, n7, n8, n9, n10, n11, n12, n13, n14, n15, n16, n17, n18, n19])).run = some (.normal, floS1 sa [a0, a1, a2, a3, a4, a5, a6, a7, a8, a9, a10, a11, a12, a13, a14, a15, a16, a17, a18, a19] [n0, n1, n2, n3, n4, n5, n6, n7, n8, n9, n10, n11, n12, n13, n14, n15, n16, n17, n18, n19]) := by cases sa <;> kernel_rfl
theorem flo_p2 (sa : Bool) (a0 a1 a2 a3 a4 a5 a6 a7 a8 a9 a10 a11 a12 a13 a14 a15 a16 a17 a18 a19 n0 n1 n2 n3 n4 n5 n6 n7 n8 n9 n10 n11 n12 n13 n14 n15 n16 n17 n18 n19 : Int) : ((ev envF1 100).code [] (cL (cR floC)) (floS1 sa [a0, a1, a2, a3, a4, a5, a6, a7, a8, a9, a10, a11, a12, a13, a14, a15, a16, a17, a18, a19] [n0, n1, n2, n3, n4, n5, n6, n7, n8, n9, n10, n11, n12, n13, n14, n15, n16, n17, n18, n19])).run = some (.normal, floS2 sa [a0, a1, a2, a3, a4, a5, a6, a7, a8, a9, a10, a11, a12, a13, a14, a15, a16, a17, a18, a19] [n0, n1, n2, n3, n4, n5, n6, n7, n8, n9, n10, n11, n12, n13, n14, n15, n16, n17, n18, n19]) := by cases sa <;> kernel_rfl
theorem flo_p3 (sa : Bool) (a0 a1 a2 a3 a4 a5 a6 a7 a8 a9 a10 a11 a12 a13 a14 a15 a16 a17 a18 a19 n0 n1 n2 n3 n4 n5 n6 n7 n8 n9 n10 n11 n12 n13 n14 n15 n16 n17 n18 n19 : Int) : ((ev envF1 100).code [] (cL (cR (cR floC))) (floS2 sa [a0, a1, a2, a3, a4, a5, a6, a7, a8, a9, a10, a11, a12, a13, a14, a15, a16, a17, a18, a19] [n0, n1, n2, n3, n4, n5, n6, n7, n8, n9, n10, n11, n12, n13, n14, n15, n16, n17, n18, n19])).run = some (.normal, floS3 sa [a0, a1, a2, a3, a4, a5, a6, a7, a8, a9, a10, a11, a12, a13, a14, a15, a16, a17, a18, a19] [n0, n1, n2, n3, n4, n5, n6, n7, n8, n9, n10, n11, n12, n13, n14, n15, n16, n17, n18, n19]) := by cases sa <;> kernel_rfl
theorem flo_pre {sa : Bool} (a0 a1 a2 a3 a4 a5 a6 a7 a8 a9 a10 a11 a12 a13 a14 a15 a16 a17 a18 a19 n0 n1 n2 n3 n4 n5 n6 n7 n8 n9 n10 n11 n12 n13 n14 n15 n16 n17 n18 n19 : Int) {x : Exit} {s : St} (h : SatCode Tryd.prog [] floM (floS3 sa [a0, a1, a2, a3, a4, a5, a6, a7, a8, a9, a10, a11, a12, a13, a14, a15, a16, a17, a18, a19] [n0, n1, n2, n3, n4, n5, n6, n7, n8, n9, n10, n11, n12, n13, n14, n15, n16, n17, n18, n19]) x s) : SatCode Tryd.prog [] floC (floS0 sa [a0, a1, a2, a3, a4, a5, a6, a7, a8, a9, a10, a11, a12, a13, a14, a15, a16, a17, a18, a19] [n0, n1, n2, n3, n4, n5, n6, n7, n8, n9, n10, n11, n12, n13, n14, n15, n16, n17, n18, n19]) x s :=
  sat_seq flo_q1 (sat_ofF 100 flo_k1 (flo_p1 sa a0 a1 a2 a3 a4 a5 a6 a7 a8 a9 a10 a11 a12 a13 a14 a15 a16 a17 a18 a19 n0 n1 n2 n3 n4 n5 n6 n7 n8 n9 n10 n11 n12 n13 n14 n15 n16 n17 n18 n19)) (sat_seq flo_q2 (sat_ofF 100 flo_k2 (flo_p2 sa a0 a1 a2 a3 a4 a5 a6 a7 a8 a9 a10 a11 a12 a13 a14 a15 a16 a17 a18 a19 n0 n1 n2 n3 n4 n5 n6 n7 n8 n9 n10 n11 n12 n13 n14 n15 n16 n17 n18 n19)) (sat_seq flo_q3 (sat_ofF 100 flo_k3 (flo_p3 sa a0 a1 a2 a3 a4 a5 a6 a7 a8 a9 a10 a11 a12 a13 a14 a15 a16 a17 a18 a19 n0 n1 n2 n3 n4 n5 n6 n7 n8 n9 n10 n11 n12 n13 n14 n15 n16 n17 n18 n19)) h))
-- from above
noncomputable def floP4 (a n : List Int) : St := (outOf ((ev envF1 100).code [] (cL floM) (floS3 false a n))).2
noncomputable def floP5 (a n : List Int) : St := (outOf ((ev envF1 100).code [] (cL (cL floPos)) (floP4 a n))).2
theorem flo_k4 : cok (cL floM) = true := by kernel_rfl
theorem flo_k5 : cok (cL (cL floPos)) = true := by kernel_rfl
theorem flo_k6 : cok (cR floPos) = true := by kernel_rfl
theorem flo_q5 : floPos = .seq (cL floPos) (cR floPos) := by kernel_rfl
theorem flo_q6 : cL floPos = .seq (cL (cL floPos)) (cR (cL floPos)) := by kernel_rfl
theorem flo_q7 : cR (cL floPos) = .block 4 flpL := by kernel_rfl
theorem flo_p4 (a0 a1 a2 a3 a4 a5 a6 a7 a8 a9 a10 a11 a12 a13 a14 a15 a16 a17 a18 a19 n0 n1 n2 n3 n4 n5 n6 n7 n8 n9 n10 n11 n12 n13 n14 n15 n16 n17 n18 n19 : Int) : ((ev envF1 100).code [] (cL floM) (floS3 false [a0, a1, a2, a3, a4, a5, a6, a7, a8, a9, a10, a11, a12, a13, a14, a15, a16, a17, a18, a19] [n0, n1, n2, n3, n4, n5, n6, n7, n8, n9, n10, n11, n12, n13, n14, n15, n16, n17, n18, n19])).run = some (.normal, floP4 [a0, a1, a2, a3, a4, a5, a6, a7, a8, a9, a10, a11, a12, a13, a14, a15, a16, a17, a18, a19] [n0, n1, n2, n3, n4, n5, n6, n7, n8, n9, n10, n11, n12, n13, n14, n15, n16, n17, n18, n19]) := by kernel_rfl
theorem flo_p5 (a0 a1 a2 a3 a4 a5 a6 a7 a8 a9 a10 a11 a12 a13 a14 a15 a16 a17 a18 a19 n0 n1 n2 n3 n4 n5 n6 n7 n8 n9 n10 n11 n12 n13 n14 n15 n16 n17 n18 n19 : Int) : ((ev envF1 100).code [] (cL (cL floPos)) (floP4 [a0, a1, a2, a3, a4, a5, a6, a7, a8, a9, a10, a11, a12, a13, a14, a15, a16, a17, a18, a19] [n0, n1, n2, n3, n4, n5, n6, n7, n8, n9, n10, n11, n12, n13, n14, n15, n16, n17, n18, n19])).run = some (.normal, floP5 [a0, a1, a2, a3, a4, a5, a6, a7, a8, a9, a10, a11, a12, a13, a14, a15, a16, a17, a18, a19] [n0, n1, n2, n3, n4, n5, n6, n7, n8, n9, n10, n11, n12, n13, n14, n15, n16, n17, n18, n19]) := by kernel_rfl
theorem flo_a5 (a0 a1 a2 a3 a4 a5 a6 a7 a8 a9 a10 a11 a12 a13 a14 a15 a16 a17 a18 a19 n0 n1 n2 n3 n4 n5 n6 n7 n8 n9 n10 n11 n12 n13 n14 n15 n16 n17 n18 n19 : Int) : (flP 130 (B0 + (134 - 130)) (tlOf (floP5 [a0, a1, a2, a3, a4, a5, a6, a7, a8, a9, a10, a11, a12, a13, a14, a15, a16, a17, a18, a19] [n0, n1, n2, n3, n4, n5, n6, n7, n8, n9, n10, n11, n12, n13, n14, n15, n16, n17, n18, n19])) false false false [a0, a1, a2, a3, a4, a5, a6, a7, a8, a9, a10, a11, a12, a13, a14, a15, a16, a17, a18, a19] [n0, n1, n2, n3, n4, n5, n6, n7, n8, n9, n10, n11, n12, n13, n14, n15, n16, n17, n18, n19] [0, 0, 0, 0, 0, 0, 0, 0, 0, 0, 0, 0, 0, 0, 0, 0, 0, 0, 0, 0]).tmps.arr = (floP5 [a0, a1, a2, a3, a4, a5, a6, a7, a8, a9, a10, a11, a12, a13, a14, a15, a16, a17, a18, a19] [n0, n1, n2, n3, n4, n5, n6, n7, n8, n9, n10, n11, n12, n13, n14, n15, n16, n17, n18, n19]).tmps.arr := by kernel_rfl
theorem flo_h5 (a0 a1 a2 a3 a4 a5 a6 a7 a8 a9 a10 a11 a12 a13 a14 a15 a16 a17 a18 a19 n0 n1 n2 n3 n4 n5 n6 n7 n8 n9 n10 n11 n12 n13 n14 n15 n16 n17 n18 n19 : Int) : (flP 130 (B0 + (134 - 130)) (tlOf (floP5 [a0, a1, a2, a3, a4, a5, a6, a7, a8, a9, a10, a11, a12, a13, a14, a15, a16, a17, a18, a19] [n0, n1, n2, n3, n4, n5, n6, n7, n8, n9, n10, n11, n12, n13, n14, n15, n16, n17, n18, n19])) false false false [a0, a1, a2, a3, a4, a5, a6, a7, a8, a9, a10, a11, a12, a13, a14, a15, a16, a17, a18, a19] [n0, n1, n2, n3, n4, n5, n6, n7, n8, n9, n10, n11, n12, n13, n14, n15, n16, n17, n18, n19] [0, 0, 0, 0, 0, 0, 0, 0, 0, 0, 0, 0, 0, 0, 0, 0, 0, 0, 0, 0]).h = (floP5 [a0, a1, a2, a3, a4, a5, a6, a7, a8, a9, a10, a11, a12, a13, a14, a15, a16, a17, a18, a19] [n0, n1, n2, n3, n4, n5, n6, n7, n8, n9, n10, n11, n12, n13, n14, n15, n16, n17, n18, n19]).h := by kernel_rfl
theorem flo_n5 (a0 a1 a2 a3 a4 a5 a6 a7 a8 a9 a10 a11 a12 a13 a14 a15 a16 a17 a18 a19 n0 n1 n2 n3 n4 n5 n6 n7 n8 n9 n10 n11 n12 n13 n14 n15 n16 n17 n18 n19 : Int) : (flP 130 (B0 + (134 - 130)) (tlOf (floP5 [a0, a1, a2, a3, a4, a5, a6, a7, a8, a9, a10, a11, a12, a13, a14, a15, a16, a17, a18, a19] [n0, n1, n2, n3, n4, n5, n6, n7, n8, n9, n10, n11, n12, n13, n14, n15, n16, n17, n18, n19])) false false false [a0, a1, a2, a3, a4, a5, a6, a7, a8, a9, a10, a11, a12, a13, a14, a15, a16, a17, a18, a19] [n0, n1, n2, n3, n4, n5, n6, n7, n8, n9, n10, n11, n12, n13, n14, n15, n16, n17, n18, n19] [0, 0, 0, 0, 0, 0, 0, 0, 0, 0, 0, 0, 0, 0, 0, 0, 0, 0, 0, 0]).nx = (floP5 [a0, a1, a2, a3, a4, a5, a6, a7, a8, a9, a10, a11, a12, a13, a14, a15, a16, a17, a18, a19] [n0, n1, n2, n3, n4, n5, n6, n7, n8, n9, n10, n11, n12, n13, n14, n15, n16, n17, n18, n19]).nx := by kernel_rfl
noncomputable def floP6 (zs : List Value) (a n q : List Int) : St := (outOf ((ev envF1 100).code [] (cR floPos) (flP 0 (B0 + 134) zs false false false a n q))).2
theorem flo_p6 (zs : List Value) (a n : List Int) (q0 q1 q2 q3 q4 q5 q6 q7 q8 q9 q10 q11 q12 q13 q14 q15 q16 q17 q18 q19 : Int) : ((ev envF1 100).code [] (cR floPos) (flP 0 (B0 + 134) zs false false false a n [q0, q1, q2, q3, q4, q5, q6, q7, q8, q9, q10, q11, q12, q13, q14, q15, q16, q17, q18, q19])).run = some (.ret, floP6 zs a n [q0, q1, q2, q3, q4, q5, q6, q7, q8, q9, q10, q11, q12, q13, q14, q15, q16, q17, q18, q19]) := by kernel_rfl
theorem flo_r6 (zs : List Value) (a n : List Int) (q0 q1 q2 q3 q4 q5 q6 q7 q8 q9 q10 q11 q12 q13 q14 q15 q16 q17 q18 q19 : Int) : resultsA Tryd.prog [] Tryd.f53 (floP6 zs a n [q0, q1, q2, q3, q4, q5, q6, q7, q8, q9, q10, q11, q12, q13, q14, q15, q16, q17, q18, q19]).tmps (floP6 zs a n [q0, q1, q2, q3, q4, q5, q6, q7, q8, q9, q10, q11, q12, q13, q14, q15, q16, q17, q18, q19]).h = some (.agg ⟨.bool false :: mapU [q0, q1, q2, q3, q4, q5, q6, q7, q8, q9, q10, q11, q12, q13, q14, q15, q16, q17, q18, q19]⟩) := by kernel_rfl
theorem flo_pos (a0 a1 a2 a3 a4 a5 a6 a7 a8 a9 a10 a11 a12 a13 a14 a15 a16 a17 a18 a19 n0 n1 n2 n3 n4 n5 n6 n7 n8 n9 n10 n11 n12 n13 n14 n15 n16 n17 n18 n19 : Int) {z : List Value} {q : List Int} (hq : q.length = 20)
    (h : SatCode Tryd.prog [] flpL (flP 130 (B0 + (134 - 130)) (tlOf (floP5 [a0, a1, a2, a3, a4, a5, a6, a7, a8, a9, a10, a11, a12, a13, a14, a15, a16, a17, a18, a19] [n0, n1, n2, n3, n4, n5, n6, n7, n8, n9, n10, n11, n12, n13, n14, n15, n16, n17, n18, n19])) false false false [a0, a1, a2, a3, a4, a5, a6, a7, a8, a9, a10, a11, a12, a13, a14, a15, a16, a17, a18, a19] [n0, n1, n2, n3, n4, n5, n6, n7, n8, n9, n10, n11, n12, n13, n14, n15, n16, n17, n18, n19] [0, 0, 0, 0, 0, 0, 0, 0, 0, 0, 0, 0, 0, 0, 0, 0, 0, 0, 0, 0]) (.exit 4) (flP 0 (B0 + 134) z false false false [a0, a1, a2, a3, a4, a5, a6, a7, a8, a9, a10, a11, a12, a13, a14, a15, a16, a17, a18, a19] [n0, n1, n2, n3, n4, n5, n6, n7, n8, n9, n10, n11, n12, n13, n14, n15, n16, n17, n18, n19] q)) :
    SatCode Tryd.prog [] floC (floS0 false [a0, a1, a2, a3, a4, a5, a6, a7, a8, a9, a10, a11, a12, a13, a14, a15, a16, a17, a18, a19] [n0, n1, n2, n3, n4, n5, n6, n7, n8, n9, n10, n11, n12, n13, n14, n15, n16, n17, n18, n19]) .ret (floP6 z [a0, a1, a2, a3, a4, a5, a6, a7, a8, a9, a10, a11, a12, a13, a14, a15, a16, a17, a18, a19] [n0, n1, n2, n3, n4, n5, n6, n7, n8, n9, n10, n11, n12, n13, n14, n15, n16, n17, n18, n19] q) := by
  have h1 := sat_arr (flo_a5 a0 a1 a2 a3 a4 a5 a6 a7 a8 a9 a10 a11 a12 a13 a14 a15 a16 a17 a18 a19 n0 n1 n2 n3 n4 n5 n6 n7 n8 n9 n10 n11 n12 n13 n14 n15 n16 n17 n18 n19) (flo_h5 a0 a1 a2 a3 a4 a5 a6 a7 a8 a9 a10 a11 a12 a13 a14 a15 a16 a17 a18 a19 n0 n1 n2 n3 n4 n5 n6 n7 n8 n9 n10 n11 n12 n13 n14 n15 n16 n17 n18 n19) (flo_n5 a0 a1 a2 a3 a4 a5 a6 a7 a8 a9 a10 a11 a12 a13 a14 a15 a16 a17 a18 a19 n0 n1 n2 n3 n4 n5 n6 n7 n8 n9 n10 n11 n12 n13 n14 n15 n16 n17 n18 n19) (sat_block flo_q7 h)
  have h2 := sat_seq flo_q6 (sat_ofF 100 flo_k5 (flo_p5 a0 a1 a2 a3 a4 a5 a6 a7 a8 a9 a10 a11 a12 a13 a14 a15 a16 a17 a18 a19 n0 n1 n2 n3 n4 n5 n6 n7 n8 n9 n10 n11 n12 n13 n14 n15 n16 n17 n18 n19)) h1
  obtain ⟨q0, q1, q2, q3, q4, q5, q6, q7, q8, q9, q10, q11, q12, q13, q14, q15, q16, q17, q18, q19, rfl⟩ := list20 hq
  exact flo_pre a0 a1 a2 a3 a4 a5 a6 a7 a8 a9 a10 a11 a12 a13 a14 a15 a16 a17 a18 a19 n0 n1 n2 n3 n4 n5 n6 n7 n8 n9 n10 n11 n12 n13 n14 n15 n16 n17 n18 n19 (sat_seq flo_q4 (sat_ofF 100 flo_k4 (flo_p4 a0 a1 a2 a3 a4 a5 a6 a7 a8 a9 a10 a11 a12 a13 a14 a15 a16 a17 a18 a19 n0 n1 n2 n3 n4 n5 n6 n7 n8 n9 n10 n11 n12 n13 n14 n15 n16 n17 n18 n19)) (sat_seq flo_q5 h2 (sat_ofF 100 flo_k6 (flo_p6 z [a0, a1, a2, a3, a4, a5, a6, a7, a8, a9, a10, a11, a12, a13, a14, a15, a16, a17, a18, a19] [n0, n1, n2, n3, n4, n5, n6, n7, n8, n9, n10, n11, n12, n13, n14, n15, n16, n17, n18, n19] q0 q1 q2 q3 q4 q5 q6 q7 q8 q9 q10 q11 q12 q13 q14 q15 q16 q17 q18 q19))))
-- from below
noncomputable def floN4 (a n : List Int) : St := (outOf ((ev envF1 100).code [] (cL (cL floM)) (floS3 true a n))).2
noncomputable def floN5 (a n : List Int) : St := (outOf ((ev envF1 2000).code [] (cL floNeg) (floN4 a n))).2
noncomputable def floN6 (a n : List Int) : St := (outOf ((ev envF1 100).code [] (cL (cL (cR floNeg))) (floN5 a n))).2
theorem flo_m4 : cok (cL (cL floM)) = true := by kernel_rfl
theorem flo_m5 : cok (cL floNeg) = true := by kernel_rfl
theorem flo_m6 : cok (cL (cL (cR floNeg))) = true := by kernel_rfl
theorem flo_m7 : cok (cR (cR floNeg)) = true := by kernel_rfl
theorem flo_w4 : cL floM = .seq (cL (cL floM)) (cR (cL floM)) := by kernel_rfl
theorem flo_w5 : cR (cL floM) = .cond (.tmp 16) floNeg (cR (cR (cL floM))) := by kernel_rfl
theorem flo_w6 : floNeg = .seq (cL floNeg) (cR floNeg) := by kernel_rfl
theorem flo_w7 : cR floNeg = .seq (cL (cR floNeg)) (cR (cR floNeg)) := by kernel_rfl
theorem flo_w8 : cL (cR floNeg) = .seq (cL (cL (cR floNeg))) (cR (cL (cR floNeg))) := by kernel_rfl
theorem flo_w9 : cR (cL (cR floNeg)) = .block 2 flnL := by kernel_rfl
theorem flo_e4 (a0 a1 a2 a3 a4 a5 a6 a7 a8 a9 a10 a11 a12 a13 a14 a15 a16 a17 a18 a19 n0 n1 n2 n3 n4 n5 n6 n7 n8 n9 n10 n11 n12 n13 n14 n15 n16 n17 n18 n19 : Int) : ((ev envF1 100).code [] (cL (cL floM)) (floS3 true [a0, a1, a2, a3, a4, a5, a6, a7, a8, a9, a10, a11, a12, a13, a14, a15, a16, a17, a18, a19] [n0, n1, n2, n3, n4, n5, n6, n7, n8, n9, n10, n11, n12, n13, n14, n15, n16, n17, n18, n19])).run = some (.normal, floN4 [a0, a1, a2, a3, a4, a5, a6, a7, a8, a9, a10, a11, a12, a13, a14, a15, a16, a17, a18, a19] [n0, n1, n2, n3, n4, n5, n6, n7, n8, n9, n10, n11, n12, n13, n14, n15, n16, n17, n18, n19]) := by kernel_rfl
theorem flo_t4 (a0 a1 a2 a3 a4 a5 a6 a7 a8 a9 a10 a11 a12 a13 a14 a15 a16 a17 a18 a19 n0 n1 n2 n3 n4 n5 n6 n7 n8 n9 n10 n11 n12 n13 n14 n15 n16 n17 n18 n19 : Int) : evF (floN4 [a0, a1, a2, a3, a4, a5, a6, a7, a8, a9, a10, a11, a12, a13, a14, a15, a16, a17, a18, a19] [n0, n1, n2, n3, n4, n5, n6, n7, n8, n9, n10, n11, n12, n13, n14, n15, n16, n17, n18, n19]).tmps (.tmp 16) = .bool true := by kernel_rfl
theorem flo_e5 (a0 a1 a2 a3 a4 a5 a6 a7 a8 a9 a10 a11 a12 a13 a14 a15 a16 a17 a18 a19 n0 n1 n2 n3 n4 n5 n6 n7 n8 n9 n10 n11 n12 n13 n14 n15 n16 n17 n18 n19 : Int) : ((ev envF1 2000).code [] (cL floNeg) (floN4 [a0, a1, a2, a3, a4, a5, a6, a7, a8, a9, a10, a11, a12, a13, a14, a15, a16, a17, a18, a19] [n0, n1, n2, n3, n4, n5, n6, n7, n8, n9, n10, n11, n12, n13, n14, n15, n16, n17, n18, n19])).run = some (.normal, floN5 [a0, a1, a2, a3, a4, a5, a6, a7, a8, a9, a10, a11, a12, a13, a14, a15, a16, a17, a18, a19] [n0, n1, n2, n3, n4, n5, n6, n7, n8, n9, n10, n11, n12, n13, n14, n15, n16, n17, n18, n19]) := by kernel_rfl
theorem flo_e6 (a0 a1 a2 a3 a4 a5 a6 a7 a8 a9 a10 a11 a12 a13 a14 a15 a16 a17 a18 a19 n0 n1 n2 n3 n4 n5 n6 n7 n8 n9 n10 n11 n12 n13 n14 n15 n16 n17 n18 n19 : Int) : ((ev envF1 100).code [] (cL (cL (cR floNeg))) (floN5 [a0, a1, a2, a3, a4, a5, a6, a7, a8, a9, a10, a11, a12, a13, a14, a15, a16, a17, a18, a19] [n0, n1, n2, n3, n4, n5, n6, n7, n8, n9, n10, n11, n12, n13, n14, n15, n16, n17, n18, n19])).run = some (.normal, floN6 [a0, a1, a2, a3, a4, a5, a6, a7, a8, a9, a10, a11, a12, a13, a14, a15, a16, a17, a18, a19] [n0, n1, n2, n3, n4, n5, n6, n7, n8, n9, n10, n11, n12, n13, n14, n15, n16, n17, n18, n19]) := by kernel_rfl
theorem flo_b5 (a0 a1 a2 a3 a4 a5 a6 a7 a8 a9 a10 a11 a12 a13 a14 a15 a16 a17 a18 a19 n0 n1 n2 n3 n4 n5 n6 n7 n8 n9 n10 n11 n12 n13 n14 n15 n16 n17 n18 n19 : Int) : (flN 130 (B0 + (134 - 130)) (tlOf (floN6 [a0, a1, a2, a3, a4, a5, a6, a7, a8, a9, a10, a11, a12, a13, a14, a15, a16, a17, a18, a19] [n0, n1, n2, n3, n4, n5, n6, n7, n8, n9, n10, n11, n12, n13, n14, n15, n16, n17, n18, n19])) true false true [a0, a1, a2, a3, a4, a5, a6, a7, a8, a9, a10, a11, a12, a13, a14, a15, a16, a17, a18, a19] [n0, n1, n2, n3, n4, n5, n6, n7, n8, n9, n10, n11, n12, n13, n14, n15, n16, n17, n18, n19] [65535, 65535, 65535, 65535, 65535, 65535, 65535, 65535, 3, 0, 0, 0, 0, 0, 0, 0, 0, 0, 0, 0]).tmps.arr = (floN6 [a0, a1, a2, a3, a4, a5, a6, a7, a8, a9, a10, a11, a12, a13, a14, a15, a16, a17, a18, a19] [n0, n1, n2, n3, n4, n5, n6, n7, n8, n9, n10, n11, n12, n13, n14, n15, n16, n17, n18, n19]).tmps.arr := by kernel_rfl
theorem flo_c5 (a0 a1 a2 a3 a4 a5 a6 a7 a8 a9 a10 a11 a12 a13 a14 a15 a16 a17 a18 a19 n0 n1 n2 n3 n4 n5 n6 n7 n8 n9 n10 n11 n12 n13 n14 n15 n16 n17 n18 n19 : Int) : (flN 130 (B0 + (134 - 130)) (tlOf (floN6 [a0, a1, a2, a3, a4, a5, a6, a7, a8, a9, a10, a11, a12, a13, a14, a15, a16, a17, a18, a19] [n0, n1, n2, n3, n4, n5, n6, n7, n8, n9, n10, n11, n12, n13, n14, n15, n16, n17, n18, n19])) true false true [a0, a1, a2, a3, a4, a5, a6, a7, a8, a9, a10, a11, a12, a13, a14, a15, a16, a17, a18, a19] [n0, n1, n2, n3, n4, n5, n6, n7, n8, n9, n10, n11, n12, n13, n14, n15, n16, n17, n18, n19] [65535, 65535, 65535, 65535, 65535, 65535, 65535, 65535, 3, 0, 0, 0, 0, 0, 0, 0, 0, 0, 0, 0]).h = (floN6 [a0, a1, a2, a3, a4, a5, a6, a7, a8, a9, a10, a11, a12, a13, a14, a15, a16, a17, a18, a19] [n0, n1, n2, n3, n4, n5, n6, n7, n8, n9, n10, n11, n12, n13, n14, n15, n16, n17, n18, n19]).h := by kernel_rfl
theorem flo_d5 (a0 a1 a2 a3 a4 a5 a6 a7 a8 a9 a10 a11 a12 a13 a14 a15 a16 a17 a18 a19 n0 n1 n2 n3 n4 n5 n6 n7 n8 n9 n10 n11 n12 n13 n14 n15 n16 n17 n18 n19 : Int) : (flN 130 (B0 + (134 - 130)) (tlOf (floN6 [a0, a1, a2, a3, a4, a5, a6, a7, a8, a9, a10, a11, a12, a13, a14, a15, a16, a17, a18, a19] [n0, n1, n2, n3, n4, n5, n6, n7, n8, n9, n10, n11, n12, n13, n14, n15, n16, n17, n18, n19])) true false true [a0, a1, a2, a3, a4, a5, a6, a7, a8, a9, a10, a11, a12, a13, a14, a15, a16, a17, a18, a19] [n0, n1, n2, n3, n4, n5, n6, n7, n8, n9, n10, n11, n12, n13, n14, n15, n16, n17, n18, n19] [65535, 65535, 65535, 65535, 65535, 65535, 65535, 65535, 3, 0, 0, 0, 0, 0, 0, 0, 0, 0, 0, 0]).nx = (floN6 [a0, a1, a2, a3, a4, a5, a6, a7, a8, a9, a10, a11, a12, a13, a14, a15, a16, a17, a18, a19] [n0, n1, n2, n3, n4, n5, n6, n7, n8, n9, n10, n11, n12, n13, n14, n15, n16, n17, n18, n19]).nx := by kernel_rfl
noncomputable def floN7 (zs : List Value) (a n q : List Int) : St := (outOf ((ev envF1 100).code [] (cR (cR floNeg)) (flN 0 (B0 + 134) zs true false true a n q))).2
theorem flo_e7 (zs : List Value) (a n : List Int) (q0 q1 q2 q3 q4 q5 q6 q7 q8 q9 q10 q11 q12 q13 q14 q15 q16 q17 q18 q19 : Int) : ((ev envF1 100).code [] (cR (cR floNeg)) (flN 0 (B0 + 134) zs true false true a n [q0, q1, q2, q3, q4, q5, q6, q7, q8, q9, q10, q11, q12, q13, q14, q15, q16, q17, q18, q19])).run = some (.ret, floN7 zs a n [q0, q1, q2, q3, q4, q5, q6, q7, q8, q9, q10, q11, q12, q13, q14, q15, q16, q17, q18, q19]) := by kernel_rfl
theorem flo_r7 (zs : List Value) (a n : List Int) (q0 q1 q2 q3 q4 q5 q6 q7 q8 q9 q10 q11 q12 q13 q14 q15 q16 q17 q18 q19 : Int) : resultsA Tryd.prog [] Tryd.f53 (floN7 zs a n [q0, q1, q2, q3, q4, q5, q6, q7, q8, q9, q10, q11, q12, q13, q14, q15, q16, q17, q18, q19]).tmps (floN7 zs a n [q0, q1, q2, q3, q4, q5, q6, q7, q8, q9, q10, q11, q12, q13, q14, q15, q16, q17, q18, q19]).h = some (.agg ⟨.bool true :: mapU [q0, q1, q2, q3, q4, q5, q6, q7, q8, q9, q10, q11, q12, q13, q14, q15, q16, q17, q18, q19]⟩) := by kernel_rfl
theorem flo_neg (a0 a1 a2 a3 a4 a5 a6 a7 a8 a9 a10 a11 a12 a13 a14 a15 a16 a17 a18 a19 n0 n1 n2 n3 n4 n5 n6 n7 n8 n9 n10 n11 n12 n13 n14 n15 n16 n17 n18 n19 : Int) {z : List Value} {q : List Int} (hq : q.length = 20)
    (h : SatCode Tryd.prog [] flnL (flN 130 (B0 + (134 - 130)) (tlOf (floN6 [a0, a1, a2, a3, a4, a5, a6, a7, a8, a9, a10, a11, a12, a13, a14, a15, a16, a17, a18, a19] [n0, n1, n2, n3, n4, n5, n6, n7, n8, n9, n10, n11, n12, n13, n14, n15, n16, n17, n18, n19])) true false true [a0, a1, a2, a3, a4, a5, a6, a7, a8, a9, a10, a11, a12, a13, a14, a15, a16, a17, a18, a19] [n0, n1, n2, n3, n4, n5, n6, n7, n8, n9, n10, n11, n12, n13, n14, n15, n16, n17, n18, n19] [65535, 65535, 65535, 65535, 65535, 65535, 65535, 65535, 3, 0, 0, 0, 0, 0, 0, 0, 0, 0, 0, 0]) (.exit 2) (flN 0 (B0 + 134) z true false true [a0, a1, a2, a3, a4, a5, a6, a7, a8, a9, a10, a11, a12, a13, a14, a15, a16, a17, a18, a19] [n0, n1, n2, n3, n4, n5, n6, n7, n8, n9, n10, n11, n12, n13, n14, n15, n16, n17, n18, n19] q)) :
    SatCode Tryd.prog [] floC (floS0 true [a0, a1, a2, a3, a4, a5, a6, a7, a8, a9, a10, a11, a12, a13, a14, a15, a16, a17, a18, a19] [n0, n1, n2, n3, n4, n5, n6, n7, n8, n9, n10, n11, n12, n13, n14, n15, n16, n17, n18, n19]) .ret (floN7 z [a0, a1, a2, a3, a4, a5, a6, a7, a8, a9, a10, a11, a12, a13, a14, a15, a16, a17, a18, a19] [n0, n1, n2, n3, n4, n5, n6, n7, n8, n9, n10, n11, n12, n13, n14, n15, n16, n17, n18, n19] q) := by
  have h1 := sat_arr (flo_b5 a0 a1 a2 a3 a4 a5 a6 a7 a8 a9 a10 a11 a12 a13 a14 a15 a16 a17 a18 a19 n0 n1 n2 n3 n4 n5 n6 n7 n8 n9 n10 n11 n12 n13 n14 n15 n16 n17 n18 n19) (flo_c5 a0 a1 a2 a3 a4 a5 a6 a7 a8 a9 a10 a11 a12 a13 a14 a15 a16 a17 a18 a19 n0 n1 n2 n3 n4 n5 n6 n7 n8 n9 n10 n11 n12 n13 n14 n15 n16 n17 n18 n19) (flo_d5 a0 a1 a2 a3 a4 a5 a6 a7 a8 a9 a10 a11 a12 a13 a14 a15 a16 a17 a18 a19 n0 n1 n2 n3 n4 n5 n6 n7 n8 n9 n10 n11 n12 n13 n14 n15 n16 n17 n18 n19) (sat_block flo_w9 h)
  have h2 := sat_seq flo_w8 (sat_ofF 100 flo_m6 (flo_e6 a0 a1 a2 a3 a4 a5 a6 a7 a8 a9 a10 a11 a12 a13 a14 a15 a16 a17 a18 a19 n0 n1 n2 n3 n4 n5 n6 n7 n8 n9 n10 n11 n12 n13 n14 n15 n16 n17 n18 n19)) h1
  obtain ⟨q0, q1, q2, q3, q4, q5, q6, q7, q8, q9, q10, q11, q12, q13, q14, q15, q16, q17, q18, q19, rfl⟩ := list20 hq
  have h3 := sat_seq flo_w7 h2 (sat_ofF 100 flo_m7 (flo_e7 z [a0, a1, a2, a3, a4, a5, a6, a7, a8, a9, a10, a11, a12, a13, a14, a15, a16, a17, a18, a19] [n0, n1, n2, n3, n4, n5, n6, n7, n8, n9, n10, n11, n12, n13, n14, n15, n16, n17, n18, n19] q0 q1 q2 q3 q4 q5 q6 q7 q8 q9 q10 q11 q12 q13 q14 q15 q16 q17 q18 q19))
  have h4 := sat_seq flo_w6 (sat_ofF 2000 flo_m5 (flo_e5 a0 a1 a2 a3 a4 a5 a6 a7 a8 a9 a10 a11 a12 a13 a14 a15 a16 a17 a18 a19 n0 n1 n2 n3 n4 n5 n6 n7 n8 n9 n10 n11 n12 n13 n14 n15 n16 n17 n18 n19)) h3
  have h5 := sat_seq flo_w4 (sat_ofF 100 flo_m4 (flo_e4 a0 a1 a2 a3 a4 a5 a6 a7 a8 a9 a10 a11 a12 a13 a14 a15 a16 a17 a18 a19 n0 n1 n2 n3 n4 n5 n6 n7 n8 n9 n10 n11 n12 n13 n14 n15 n16 n17 n18 n19)) (sat_cond_t flo_w5 rfl (flo_t4 a0 a1 a2 a3 a4 a5 a6 a7 a8 a9 a10 a11 a12 a13 a14 a15 a16 a17 a18 a19 n0 n1 n2 n3 n4 n5 n6 n7 n8 n9 n10 n11 n12 n13 n14 n15 n16 n17 n18 n19) h4)
  exact flo_pre a0 a1 a2 a3 a4 a5 a6 a7 a8 a9 a10 a11 a12 a13 a14 a15 a16 a17 a18 a19 n0 n1 n2 n3 n4 n5 n6 n7 n8 n9 n10 n11 n12 n13 n14 n15 n16 n17 n18 n19 (sat_seq_ret flo_q4 h5)
theorem flo_call {sa : Bool} (a0 a1 a2 a3 a4 a5 a6 a7 a8 a9 a10 a11 a12 a13 a14 a15 a16 a17 a18 a19 n0 n1 n2 n3 n4 n5 n6 n7 n8 n9 n10 n11 n12 n13 n14 n15 n16 n17 n18 n19 : Int) {q : List Int} {s : St} (h : SatCode Tryd.prog [] floC (floS0 sa [a0, a1, a2, a3, a4, a5, a6, a7, a8, a9, a10, a11, a12, a13, a14, a15, a16, a17, a18, a19] [n0, n1, n2, n3, n4, n5, n6, n7, n8, n9, n10, n11, n12, n13, n14, n15, n16, n17, n18, n19]) .ret s)
    (hr : resultsA Tryd.prog [] Tryd.f53 s.tmps s.h = some (.agg ⟨.bool sa :: mapU q⟩)) (w : World) :
    Calls Tryd.prog 53 (floA sa [a0, a1, a2, a3, a4, a5, a6, a7, a8, a9, a10, a11, a12, a13, a14, a15, a16, a17, a18, a19] [n0, n1, n2, n3, n4, n5, n6, n7, n8, n9, n10, n11, n12, n13, n14, n15, n16, n17, n18, n19]) w fun e w' => e = .returned (.agg ⟨.bool sa :: mapU q⟩) ∧ Below w.heap.size w w' := by
  have hb : Tryd.f53.body = some floC := by kernel_rfl
  have h' : SatCode Tryd.prog [] floC ⟨Go.Den.start (floA sa [a0, a1, a2, a3, a4, a5, a6, a7, a8, a9, a10, a11, a12, a13, a14, a15, a16, a17, a18, a19] [n0, n1, n2, n3, n4, n5, n6, n7, n8, n9, n10, n11, n12, n13, n14, n15, n16, n17, n18, n19]).toList Tryd.f53.ntmps, [], B0⟩ .ret s := h
  have c := sat_call Tryd.func53 hb (by kernel_rfl) h' (.inr rfl) hr
  exact calls_sat c (all_bel (by rw [belL, bel_num, belL, bel_num]; rfl)) (bel_num _ _) w
theorem flo_posC (a0 a1 a2 a3 a4 a5 a6 a7 a8 a9 a10 a11 a12 a13 a14 a15 a16 a17 a18 a19 n0 n1 n2 n3 n4 n5 n6 n7 n8 n9 n10 n11 n12 n13 n14 n15 n16 n17 n18 n19 : Int) {z : List Value} {q : List Int} (hq : q.length = 20)
    (h : SatCode Tryd.prog [] flpL (flP 130 (B0 + (134 - 130)) (tlOf (floP5 [a0, a1, a2, a3, a4, a5, a6, a7, a8, a9, a10, a11, a12, a13, a14, a15, a16, a17, a18, a19] [n0, n1, n2, n3, n4, n5, n6, n7, n8, n9, n10, n11, n12, n13, n14, n15, n16, n17, n18, n19])) false false false [a0, a1, a2, a3, a4, a5, a6, a7, a8, a9, a10, a11, a12, a13, a14, a15, a16, a17, a18, a19] [n0, n1, n2, n3, n4, n5, n6, n7, n8, n9, n10, n11, n12, n13, n14, n15, n16, n17, n18, n19] [0, 0, 0, 0, 0, 0, 0, 0, 0, 0, 0, 0, 0, 0, 0, 0, 0, 0, 0, 0]) (.exit 4) (flP 0 (B0 + 134) z false false false [a0, a1, a2, a3, a4, a5, a6, a7, a8, a9, a10, a11, a12, a13, a14, a15, a16, a17, a18, a19] [n0, n1, n2, n3, n4, n5, n6, n7, n8, n9, n10, n11, n12, n13, n14, n15, n16, n17, n18, n19] q)) (w : World) :
    Calls Tryd.prog 53 (floA false [a0, a1, a2, a3, a4, a5, a6, a7, a8, a9, a10, a11, a12, a13, a14, a15, a16, a17, a18, a19] [n0, n1, n2, n3, n4, n5, n6, n7, n8, n9, n10, n11, n12, n13, n14, n15, n16, n17, n18, n19]) w fun e w' => e = .returned (.agg ⟨.bool false :: mapU q⟩) ∧ Below w.heap.size w w' := by
  have hs := flo_pos a0 a1 a2 a3 a4 a5 a6 a7 a8 a9 a10 a11 a12 a13 a14 a15 a16 a17 a18 a19 n0 n1 n2 n3 n4 n5 n6 n7 n8 n9 n10 n11 n12 n13 n14 n15 n16 n17 n18 n19 hq h
  obtain ⟨q0, q1, q2, q3, q4, q5, q6, q7, q8, q9, q10, q11, q12, q13, q14, q15, q16, q17, q18, q19, rfl⟩ := list20 hq
  exact flo_call a0 a1 a2 a3 a4 a5 a6 a7 a8 a9 a10 a11 a12 a13 a14 a15 a16 a17 a18 a19 n0 n1 n2 n3 n4 n5 n6 n7 n8 n9 n10 n11 n12 n13 n14 n15 n16 n17 n18 n19 hs (flo_r6 z [a0, a1, a2, a3, a4, a5, a6, a7, a8, a9, a10, a11, a12, a13, a14, a15, a16, a17, a18, a19] [n0, n1, n2, n3, n4, n5, n6, n7, n8, n9, n10, n11, n12, n13, n14, n15, n16, n17, n18, n19] q0 q1 q2 q3 q4 q5 q6 q7 q8 q9 q10 q11 q12 q13 q14 q15 q16 q17 q18 q19) w
theorem flo_negC (a0 a1 a2 a3 a4 a5 a6 a7 a8 a9 a10 a11 a12 a13 a14 a15 a16 a17 a18 a19 n0 n1 n2 n3 n4 n5 n6 n7 n8 n9 n10 n11 n12 n13 n14 n15 n16 n17 n18 n19 : Int) {z : List Value} {q : List Int} (hq : q.length = 20)
    (h : SatCode Tryd.prog [] flnL (flN 130 (B0 + (134 - 130)) (tlOf (floN6 [a0, a1, a2, a3, a4, a5, a6, a7, a8, a9, a10, a11, a12, a13, a14, a15, a16, a17, a18, a19] [n0, n1, n2, n3, n4, n5, n6, n7, n8, n9, n10, n11, n12, n13, n14, n15, n16, n17, n18, n19])) true false true [a0, a1, a2, a3, a4, a5, a6, a7, a8, a9, a10, a11, a12, a13, a14, a15, a16, a17, a18, a19] [n0, n1, n2, n3, n4, n5, n6, n7, n8, n9, n10, n11, n12, n13, n14, n15, n16, n17, n18, n19] [65535, 65535, 65535, 65535, 65535, 65535, 65535, 65535, 3, 0, 0, 0, 0, 0, 0, 0, 0, 0, 0, 0]) (.exit 2) (flN 0 (B0 + 134) z true false true [a0, a1, a2, a3, a4, a5, a6, a7, a8, a9, a10, a11, a12, a13, a14, a15, a16, a17, a18, a19] [n0, n1, n2, n3, n4, n5, n6, n7, n8, n9, n10, n11, n12, n13, n14, n15, n16, n17, n18, n19] q)) (w : World) :
    Calls Tryd.prog 53 (floA true [a0, a1, a2, a3, a4, a5, a6, a7, a8, a9, a10, a11, a12, a13, a14, a15, a16, a17, a18, a19] [n0, n1, n2, n3, n4, n5, n6, n7, n8, n9, n10, n11, n12, n13, n14, n15, n16, n17, n18, n19]) w fun e w' => e = .returned (.agg ⟨.bool true :: mapU q⟩) ∧ Below w.heap.size w w' := by
  have hs := flo_neg a0 a1 a2 a3 a4 a5 a6 a7 a8 a9 a10 a11 a12 a13 a14 a15 a16 a17 a18 a19 n0 n1 n2 n3 n4 n5 n6 n7 n8 n9 n10 n11 n12 n13 n14 n15 n16 n17 n18 n19 hq h
  obtain ⟨q0, q1, q2, q3, q4, q5, q6, q7, q8, q9, q10, q11, q12, q13, q14, q15, q16, q17, q18, q19, rfl⟩ := list20 hq
  exact flo_call a0 a1 a2 a3 a4 a5 a6 a7 a8 a9 a10 a11 a12 a13 a14 a15 a16 a17 a18 a19 n0 n1 n2 n3 n4 n5 n6 n7 n8 n9 n10 n11 n12 n13 n14 n15 n16 n17 n18 n19 hs (flo_r7 z [a0, a1, a2, a3, a4, a5, a6, a7, a8, a9, a10, a11, a12, a13, a14, a15, a16, a17, a18, a19] [n0, n1, n2, n3, n4, n5, n6, n7, n8, n9, n10, n11, n12, n13, n14, n15, n16, n17, n18, n19] q0 q1 q2 q3 q4 q5 q6 q7 q8 q9 q10 q11 q12 q13 q14 q15 q16 q17 q18 q19) w
end

end Go.Proofs.YtecmhjhjmhliiaaDoor


/-
  The document's quotient as a contract.
-/

namespace Go.Proofs.YtecmhjhjmhliiaaDoor

open Go.Den Go.RowKit
noncomputable section
set_option maxRecDepth 100000

theorem div_is {a n q : Int} (hn : 0 < n) (h1 : q * n ≤ a) (h2 : a < (q + 1) * n) : a / n = q := by
  have h3 : q ≤ a / n := Int.le_ediv_of_mul_le hn h1
  have h4 : a / n < q + 1 := Int.ediv_lt_of_lt_mul hn h2
  omega
theorem zs_pcs : Pcs [0, 0, 0, 0, 0, 0, 0, 0, 0, 0, 0, 0, 0, 0, 0, 0, 0, 0, 0, 0] := by intro x hx; simp only [List.mem_cons, List.not_mem_nil, or_false, or_self] at hx; omega
theorem on_pcs : Pcs [65535, 65535, 65535, 65535, 65535, 65535, 65535, 65535, 3, 0, 0, 0, 0, 0, 0, 0, 0, 0, 0, 0] := by intro x hx; simp only [List.mem_cons, List.not_mem_nil, or_false, or_self] at hx; omega
theorem p130 : (2 : Int) ^ 130 = 1361129467683753853853498429727072845824 := by rfl
theorem flo_calls {sa : Bool} {a n : List Int} (ha : a.length = 20) (pa : Pcs a) (hn : n.length = 20) (pn : Pcs n) (n0 : 0 < val n) (n1 : val n ≤ 18446744073709551616) (a1 : val a < 680564733841876926926749214863536422912) (w : World) :
    Calls Tryd.prog 53 (floA sa a n) w fun e w' => e = .returned (nv sa (sz (sv sa (val a) / val n))) ∧ Below w.heap.size w w' := by
  have a0 := (val_bd pa).1
  have m0 : 1 * 1361129467683753853853498429727072845824 ≤ val n * 1361129467683753853853498429727072845824 := Int.mul_le_mul_of_nonneg_right (by omega) (by omega)
  have m1 : 1 * 1361129467683753853853498429727072845823 ≤ val n * 1361129467683753853853498429727072845823 := Int.mul_le_mul_of_nonneg_right (by omega) (by omega)
  cases sa
  · have v0 : val [0, 0, 0, 0, 0, 0, 0, 0, 0, 0, 0, 0, 0, 0, 0, 0, 0, 0, 0, 0] = 0 := by simp [val]
    have st : UpTo (val a) (val n) 130 [0, 0, 0, 0, 0, 0, 0, 0, 0, 0, 0, 0, 0, 0, 0, 0, 0, 0, 0, 0] := ⟨rfl, zs_pcs, ⟨0, by rw [v0]; rfl⟩, by rw [v0, p130]; omega, by rw [v0]; omega, by rw [v0, p130, Int.zero_add, Int.mul_comm]; omega⟩
    have loop := fun zs => flp_loop ha pa hn pn n1 130 (by omega) zs [0, 0, 0, 0, 0, 0, 0, 0, 0, 0, 0, 0, 0, 0, 0, 0, 0, 0, 0, 0] st
    have fin : ∀ q', UpTo (val a) (val n) 0 q' → Value.agg ⟨.bool false :: mapU q'⟩ = nv false (sz (sv false (val a) / val n)) := fun q' h => by
      have hl := h.le; have ht := h.lt
      have hq0 := (val_bd h.pcs).1
      rw [Int.pow_zero] at ht
      refine nv_of h.len h.pcs ?_
      have e : sv false (val a) = val a := rfl
      rw [e, div_is n0 hl ht]; unfold sz; omega
    clear a0 m0 m1 n0 n1 a1 pa pn st
    obtain ⟨a0, a1, a2, a3, a4, a5, a6, a7, a8, a9, a10, a11, a12, a13, a14, a15, a16, a17, a18, a19, rfl⟩ := list20 ha
    obtain ⟨n0, n1, n2, n3, n4, n5, n6, n7, n8, n9, n10, n11, n12, n13, n14, n15, n16, n17, n18, n19, rfl⟩ := list20 hn
    obtain ⟨z, q', h, hq⟩ := loop (tlOf (floP5 [a0, a1, a2, a3, a4, a5, a6, a7, a8, a9, a10, a11, a12, a13, a14, a15, a16, a17, a18, a19] [n0, n1, n2, n3, n4, n5, n6, n7, n8, n9, n10, n11, n12, n13, n14, n15, n16, n17, n18, n19]))
    refine (flo_posC a0 a1 a2 a3 a4 a5 a6 a7 a8 a9 a10 a11 a12 a13 a14 a15 a16 a17 a18 a19 n0 n1 n2 n3 n4 n5 n6 n7 n8 n9 n10 n11 n12 n13 n14 n15 n16 n17 n18 n19 hq.len h w).mono ?_
    rintro e w' ⟨rfl, hB⟩
    exact ⟨congrArg Ending.returned (fin q' hq), hB⟩
  · have v0 : val [65535, 65535, 65535, 65535, 65535, 65535, 65535, 65535, 3, 0, 0, 0, 0, 0, 0, 0, 0, 0, 0, 0] = 1361129467683753853853498429727072845823 := by simp [val]
    have st : DownTo (val a) (val n) 130 [65535, 65535, 65535, 65535, 65535, 65535, 65535, 65535, 3, 0, 0, 0, 0, 0, 0, 0, 0, 0, 0, 0] := ⟨rfl, on_pcs, ⟨1, by rw [v0, p130]; rfl⟩, by rw [v0]; omega, by rw [v0, p130]; omega, by rw [v0, Int.mul_comm]; omega, by rw [v0, p130]; omega⟩
    have loop := fun zs => fln_loop ha pa hn pn n1 130 (by omega) zs [65535, 65535, 65535, 65535, 65535, 65535, 65535, 65535, 3, 0, 0, 0, 0, 0, 0, 0, 0, 0, 0, 0] st
    have fin : ∀ q', DownTo (val a) (val n) 0 q' → Value.agg ⟨.bool true :: mapU q'⟩ = nv true (sz (sv true (val a) / val n)) := fun q' h => by
      have hl := h.le; have ht := h.lt
      have hq0 := (val_bd h.pcs).1
      rw [Int.pow_zero] at ht
      refine nv_of h.len h.pcs ?_
      have e : sv true (val a) = -val a := rfl
      have k1 : -val q' * val n ≤ -val a := by rw [Int.neg_mul]; omega
      have k2 : -val a < (-val q' + 1) * val n := by rw [show -val q' + 1 = -(val q' - 1) by omega, Int.neg_mul]; omega
      rw [e, div_is n0 k1 k2]; unfold sz; omega
    clear a0 m0 m1 n0 n1 a1 pa pn st
    obtain ⟨a0, a1, a2, a3, a4, a5, a6, a7, a8, a9, a10, a11, a12, a13, a14, a15, a16, a17, a18, a19, rfl⟩ := list20 ha
    obtain ⟨n0, n1, n2, n3, n4, n5, n6, n7, n8, n9, n10, n11, n12, n13, n14, n15, n16, n17, n18, n19, rfl⟩ := list20 hn
    obtain ⟨z, q', h, hq⟩ := loop (tlOf (floN6 [a0, a1, a2, a3, a4, a5, a6, a7, a8, a9, a10, a11, a12, a13, a14, a15, a16, a17, a18, a19] [n0, n1, n2, n3, n4, n5, n6, n7, n8, n9, n10, n11, n12, n13, n14, n15, n16, n17, n18, n19]))
    refine (flo_negC a0 a1 a2 a3 a4 a5 a6 a7 a8 a9 a10 a11 a12 a13 a14 a15 a16 a17 a18 a19 n0 n1 n2 n3 n4 n5 n6 n7 n8 n9 n10 n11 n12 n13 n14 n15 n16 n17 n18 n19 hq.len h w).mono ?_
    rintro e w' ⟨rfl, hB⟩
    exact ⟨congrArg Ending.returned (fin q' hq), hB⟩
def rfloorS : Array Value → Option (Bool × Value)
  | ⟨[.agg ⟨.bool sa :: ra⟩, .agg ⟨.bool sn :: rn⟩]⟩ => some (okNum ra && (okNum rn && (!sn && (decide (0 < mag rn) && (decide (mag rn ≤ 18446744073709551616) && decide (mag ra < 680564733841876926926749214863536422912))))), nv sa (sz (sv sa (mag ra) / mag rn)))
  | _ => none
def pcRFloor : PC Tryd.prog where
  f := 53
  spec := rfloorS
  body := by kernel_rfl
  ok := fun args r hr hok => by
    unfold rfloorS at hr
    split at hr
    · rename_i sa ra sn rn
      cases hr
      simp only [Bool.and_eq_true, decide_eq_true_eq, Bool.not_eq_true'] at hok
      obtain ⟨k1, k2, rfl, k3, k4, k5⟩ := hok
      obtain ⟨a, rfl, hl1, hp1, hm1⟩ := num_out k1
      obtain ⟨n, rfl, hl2, hp2, hm2⟩ := num_out k2
      have hb : (#[Value.agg ⟨.bool sa :: mapU a⟩, Value.agg ⟨.bool false :: mapU n⟩] : Array Value).all (bel B0) = true := all_bel (by rw [belL, bel_num, belL, bel_num]; rfl)
      refine ⟨hb, bel_nv _ _, fun w => ?_⟩
      rw [hm1, hm2]
      exact flo_calls hl1 hp1 hl2 hp2 (by rw [← hm2]; exact k3) (by rw [← hm2]; exact k4) (by rw [← hm1]; exact k5) w
    · cases hr
end

end Go.Proofs.YtecmhjhjmhliiaaDoor


/-
  What the document's answers of layers 2 and 3 are read by.
-/

namespace Go.Proofs.YtecmhjhjmhliiaaDoor

open Go.Den Go.RowKit
noncomputable section
def pcsF : List (PC Tryd.prog) := pcRFloor :: pcsR
def envG : Env Tryd.prog := envS.with false pcsF
end

end Go.Proofs.YtecmhjhjmhliiaaDoor
