/-
  Own texts, merged: NumFD NumFE NumFF NumFG NumFH NumH NumK NumJ RefK SumM FixO FixP EraA RefA RefB RefC SumK RefL LawA RefL0 LawB
-/
import Derived.Test.YtbhgibpocbmipaaQ3


/-
  The rounds of the document's quotient, read one by one (flp 98 to 129).
-/
namespace Go.Proofs.Ytbhgibpocbmipaa
open Go.Den Go.RowKit
noncomputable section
set_option maxRecDepth 100000
theorem flp_98 : flpG 98 := by
  intro zs sa sn sq a0 a1 a2 a3 a4 a5 a6 a7 a8 a9 a10 a11 a12 a13 a14 a15 a16 a17 a18 a19 n0 n1 n2 n3 n4 n5 n6 n7 n8 n9 n10 n11 n12 n13 n14 n15 n16 n17 n18 n19 q0 q1 q2 q3 q4 q5 q6 q7 q8 q9 q10 q11 q12 q13 q14 q15 q16 q17 q18 q19
  kernel_rfl
theorem flp_99 : flpG 99 := by
  intro zs sa sn sq a0 a1 a2 a3 a4 a5 a6 a7 a8 a9 a10 a11 a12 a13 a14 a15 a16 a17 a18 a19 n0 n1 n2 n3 n4 n5 n6 n7 n8 n9 n10 n11 n12 n13 n14 n15 n16 n17 n18 n19 q0 q1 q2 q3 q4 q5 q6 q7 q8 q9 q10 q11 q12 q13 q14 q15 q16 q17 q18 q19
  kernel_rfl
theorem flp_100 : flpG 100 := by
  intro zs sa sn sq a0 a1 a2 a3 a4 a5 a6 a7 a8 a9 a10 a11 a12 a13 a14 a15 a16 a17 a18 a19 n0 n1 n2 n3 n4 n5 n6 n7 n8 n9 n10 n11 n12 n13 n14 n15 n16 n17 n18 n19 q0 q1 q2 q3 q4 q5 q6 q7 q8 q9 q10 q11 q12 q13 q14 q15 q16 q17 q18 q19
  kernel_rfl
theorem flp_101 : flpG 101 := by
  intro zs sa sn sq a0 a1 a2 a3 a4 a5 a6 a7 a8 a9 a10 a11 a12 a13 a14 a15 a16 a17 a18 a19 n0 n1 n2 n3 n4 n5 n6 n7 n8 n9 n10 n11 n12 n13 n14 n15 n16 n17 n18 n19 q0 q1 q2 q3 q4 q5 q6 q7 q8 q9 q10 q11 q12 q13 q14 q15 q16 q17 q18 q19
  kernel_rfl
theorem flp_102 : flpG 102 := by
  intro zs sa sn sq a0 a1 a2 a3 a4 a5 a6 a7 a8 a9 a10 a11 a12 a13 a14 a15 a16 a17 a18 a19 n0 n1 n2 n3 n4 n5 n6 n7 n8 n9 n10 n11 n12 n13 n14 n15 n16 n17 n18 n19 q0 q1 q2 q3 q4 q5 q6 q7 q8 q9 q10 q11 q12 q13 q14 q15 q16 q17 q18 q19
  kernel_rfl
theorem flp_103 : flpG 103 := by
  intro zs sa sn sq a0 a1 a2 a3 a4 a5 a6 a7 a8 a9 a10 a11 a12 a13 a14 a15 a16 a17 a18 a19 n0 n1 n2 n3 n4 n5 n6 n7 n8 n9 n10 n11 n12 n13 n14 n15 n16 n17 n18 n19 q0 q1 q2 q3 q4 q5 q6 q7 q8 q9 q10 q11 q12 q13 q14 q15 q16 q17 q18 q19
  kernel_rfl
theorem flp_104 : flpG 104 := by
  intro zs sa sn sq a0 a1 a2 a3 a4 a5 a6 a7 a8 a9 a10 a11 a12 a13 a14 a15 a16 a17 a18 a19 n0 n1 n2 n3 n4 n5 n6 n7 n8 n9 n10 n11 n12 n13 n14 n15 n16 n17 n18 n19 q0 q1 q2 q3 q4 q5 q6 q7 q8 q9 q10 q11 q12 q13 q14 q15 q16 q17 q18 q19
  kernel_rfl
theorem flp_105 : flpG 105 := by
  intro zs sa sn sq a0 a1 a2 a3 a4 a5 a6 a7 a8 a9 a10 a11 a12 a13 a14 a15 a16 a17 a18 a19 n0 n1 n2 n3 n4 n5 n6 n7 n8 n9 n10 n11 n12 n13 n14 n15 n16 n17 n18 n19 q0 q1 q2 q3 q4 q5 q6 q7 q8 q9 q10 q11 q12 q13 q14 q15 q16 q17 q18 q19
  kernel_rfl
theorem flp_106 : flpG 106 := by
  intro zs sa sn sq a0 a1 a2 a3 a4 a5 a6 a7 a8 a9 a10 a11 a12 a13 a14 a15 a16 a17 a18 a19 n0 n1 n2 n3 n4 n5 n6 n7 n8 n9 n10 n11 n12 n13 n14 n15 n16 n17 n18 n19 q0 q1 q2 q3 q4 q5 q6 q7 q8 q9 q10 q11 q12 q13 q14 q15 q16 q17 q18 q19
  kernel_rfl
theorem flp_107 : flpG 107 := by
  intro zs sa sn sq a0 a1 a2 a3 a4 a5 a6 a7 a8 a9 a10 a11 a12 a13 a14 a15 a16 a17 a18 a19 n0 n1 n2 n3 n4 n5 n6 n7 n8 n9 n10 n11 n12 n13 n14 n15 n16 n17 n18 n19 q0 q1 q2 q3 q4 q5 q6 q7 q8 q9 q10 q11 q12 q13 q14 q15 q16 q17 q18 q19
  kernel_rfl
theorem flp_108 : flpG 108 := by
  intro zs sa sn sq a0 a1 a2 a3 a4 a5 a6 a7 a8 a9 a10 a11 a12 a13 a14 a15 a16 a17 a18 a19 n0 n1 n2 n3 n4 n5 n6 n7 n8 n9 n10 n11 n12 n13 n14 n15 n16 n17 n18 n19 q0 q1 q2 q3 q4 q5 q6 q7 q8 q9 q10 q11 q12 q13 q14 q15 q16 q17 q18 q19
  kernel_rfl
theorem flp_109 : flpG 109 := by
  intro zs sa sn sq a0 a1 a2 a3 a4 a5 a6 a7 a8 a9 a10 a11 a12 a13 a14 a15 a16 a17 a18 a19 n0 n1 n2 n3 n4 n5 n6 n7 n8 n9 n10 n11 n12 n13 n14 n15 n16 n17 n18 n19 q0 q1 q2 q3 q4 q5 q6 q7 q8 q9 q10 q11 q12 q13 q14 q15 q16 q17 q18 q19
  kernel_rfl
theorem flp_110 : flpG 110 := by
  intro zs sa sn sq a0 a1 a2 a3 a4 a5 a6 a7 a8 a9 a10 a11 a12 a13 a14 a15 a16 a17 a18 a19 n0 n1 n2 n3 n4 n5 n6 n7 n8 n9 n10 n11 n12 n13 n14 n15 n16 n17 n18 n19 q0 q1 q2 q3 q4 q5 q6 q7 q8 q9 q10 q11 q12 q13 q14 q15 q16 q17 q18 q19
  kernel_rfl
theorem flp_111 : flpG 111 := by
  intro zs sa sn sq a0 a1 a2 a3 a4 a5 a6 a7 a8 a9 a10 a11 a12 a13 a14 a15 a16 a17 a18 a19 n0 n1 n2 n3 n4 n5 n6 n7 n8 n9 n10 n11 n12 n13 n14 n15 n16 n17 n18 n19 q0 q1 q2 q3 q4 q5 q6 q7 q8 q9 q10 q11 q12 q13 q14 q15 q16 q17 q18 q19
  kernel_rfl
theorem flp_112 : flpG 112 := by
  intro zs sa sn sq a0 a1 a2 a3 a4 a5 a6 a7 a8 a9 a10 a11 a12 a13 a14 a15 a16 a17 a18 a19 n0 n1 n2 n3 n4 n5 n6 n7 n8 n9 n10 n11 n12 n13 n14 n15 n16 n17 n18 n19 q0 q1 q2 q3 q4 q5 q6 q7 q8 q9 q10 q11 q12 q13 q14 q15 q16 q17 q18 q19
  kernel_rfl
theorem flp_113 : flpG 113 := by
  intro zs sa sn sq a0 a1 a2 a3 a4 a5 a6 a7 a8 a9 a10 a11 a12 a13 a14 a15 a16 a17 a18 a19 n0 n1 n2 n3 n4 n5 n6 n7 n8 n9 n10 n11 n12 n13 n14 n15 n16 n17 n18 n19 q0 q1 q2 q3 q4 q5 q6 q7 q8 q9 q10 q11 q12 q13 q14 q15 q16 q17 q18 q19
  kernel_rfl
theorem flp_114 : flpG 114 := by
  intro zs sa sn sq a0 a1 a2 a3 a4 a5 a6 a7 a8 a9 a10 a11 a12 a13 a14 a15 a16 a17 a18 a19 n0 n1 n2 n3 n4 n5 n6 n7 n8 n9 n10 n11 n12 n13 n14 n15 n16 n17 n18 n19 q0 q1 q2 q3 q4 q5 q6 q7 q8 q9 q10 q11 q12 q13 q14 q15 q16 q17 q18 q19
  kernel_rfl
theorem flp_115 : flpG 115 := by
  intro zs sa sn sq a0 a1 a2 a3 a4 a5 a6 a7 a8 a9 a10 a11 a12 a13 a14 a15 a16 a17 a18 a19 n0 n1 n2 n3 n4 n5 n6 n7 n8 n9 n10 n11 n12 n13 n14 n15 n16 n17 n18 n19 q0 q1 q2 q3 q4 q5 q6 q7 q8 q9 q10 q11 q12 q13 q14 q15 q16 q17 q18 q19
  kernel_rfl
theorem flp_116 : flpG 116 := by
  intro zs sa sn sq a0 a1 a2 a3 a4 a5 a6 a7 a8 a9 a10 a11 a12 a13 a14 a15 a16 a17 a18 a19 n0 n1 n2 n3 n4 n5 n6 n7 n8 n9 n10 n11 n12 n13 n14 n15 n16 n17 n18 n19 q0 q1 q2 q3 q4 q5 q6 q7 q8 q9 q10 q11 q12 q13 q14 q15 q16 q17 q18 q19
  kernel_rfl
theorem flp_117 : flpG 117 := by
  intro zs sa sn sq a0 a1 a2 a3 a4 a5 a6 a7 a8 a9 a10 a11 a12 a13 a14 a15 a16 a17 a18 a19 n0 n1 n2 n3 n4 n5 n6 n7 n8 n9 n10 n11 n12 n13 n14 n15 n16 n17 n18 n19 q0 q1 q2 q3 q4 q5 q6 q7 q8 q9 q10 q11 q12 q13 q14 q15 q16 q17 q18 q19
  kernel_rfl
theorem flp_118 : flpG 118 := by
  intro zs sa sn sq a0 a1 a2 a3 a4 a5 a6 a7 a8 a9 a10 a11 a12 a13 a14 a15 a16 a17 a18 a19 n0 n1 n2 n3 n4 n5 n6 n7 n8 n9 n10 n11 n12 n13 n14 n15 n16 n17 n18 n19 q0 q1 q2 q3 q4 q5 q6 q7 q8 q9 q10 q11 q12 q13 q14 q15 q16 q17 q18 q19
  kernel_rfl
theorem flp_119 : flpG 119 := by
  intro zs sa sn sq a0 a1 a2 a3 a4 a5 a6 a7 a8 a9 a10 a11 a12 a13 a14 a15 a16 a17 a18 a19 n0 n1 n2 n3 n4 n5 n6 n7 n8 n9 n10 n11 n12 n13 n14 n15 n16 n17 n18 n19 q0 q1 q2 q3 q4 q5 q6 q7 q8 q9 q10 q11 q12 q13 q14 q15 q16 q17 q18 q19
  kernel_rfl
theorem flp_120 : flpG 120 := by
  intro zs sa sn sq a0 a1 a2 a3 a4 a5 a6 a7 a8 a9 a10 a11 a12 a13 a14 a15 a16 a17 a18 a19 n0 n1 n2 n3 n4 n5 n6 n7 n8 n9 n10 n11 n12 n13 n14 n15 n16 n17 n18 n19 q0 q1 q2 q3 q4 q5 q6 q7 q8 q9 q10 q11 q12 q13 q14 q15 q16 q17 q18 q19
  kernel_rfl
theorem flp_121 : flpG 121 := by
  intro zs sa sn sq a0 a1 a2 a3 a4 a5 a6 a7 a8 a9 a10 a11 a12 a13 a14 a15 a16 a17 a18 a19 n0 n1 n2 n3 n4 n5 n6 n7 n8 n9 n10 n11 n12 n13 n14 n15 n16 n17 n18 n19 q0 q1 q2 q3 q4 q5 q6 q7 q8 q9 q10 q11 q12 q13 q14 q15 q16 q17 q18 q19
  kernel_rfl
theorem flp_122 : flpG 122 := by
  intro zs sa sn sq a0 a1 a2 a3 a4 a5 a6 a7 a8 a9 a10 a11 a12 a13 a14 a15 a16 a17 a18 a19 n0 n1 n2 n3 n4 n5 n6 n7 n8 n9 n10 n11 n12 n13 n14 n15 n16 n17 n18 n19 q0 q1 q2 q3 q4 q5 q6 q7 q8 q9 q10 q11 q12 q13 q14 q15 q16 q17 q18 q19
  kernel_rfl
theorem flp_123 : flpG 123 := by
  intro zs sa sn sq a0 a1 a2 a3 a4 a5 a6 a7 a8 a9 a10 a11 a12 a13 a14 a15 a16 a17 a18 a19 n0 n1 n2 n3 n4 n5 n6 n7 n8 n9 n10 n11 n12 n13 n14 n15 n16 n17 n18 n19 q0 q1 q2 q3 q4 q5 q6 q7 q8 q9 q10 q11 q12 q13 q14 q15 q16 q17 q18 q19
  kernel_rfl
theorem flp_124 : flpG 124 := by
  intro zs sa sn sq a0 a1 a2 a3 a4 a5 a6 a7 a8 a9 a10 a11 a12 a13 a14 a15 a16 a17 a18 a19 n0 n1 n2 n3 n4 n5 n6 n7 n8 n9 n10 n11 n12 n13 n14 n15 n16 n17 n18 n19 q0 q1 q2 q3 q4 q5 q6 q7 q8 q9 q10 q11 q12 q13 q14 q15 q16 q17 q18 q19
  kernel_rfl
theorem flp_125 : flpG 125 := by
  intro zs sa sn sq a0 a1 a2 a3 a4 a5 a6 a7 a8 a9 a10 a11 a12 a13 a14 a15 a16 a17 a18 a19 n0 n1 n2 n3 n4 n5 n6 n7 n8 n9 n10 n11 n12 n13 n14 n15 n16 n17 n18 n19 q0 q1 q2 q3 q4 q5 q6 q7 q8 q9 q10 q11 q12 q13 q14 q15 q16 q17 q18 q19
  kernel_rfl
theorem flp_126 : flpG 126 := by
  intro zs sa sn sq a0 a1 a2 a3 a4 a5 a6 a7 a8 a9 a10 a11 a12 a13 a14 a15 a16 a17 a18 a19 n0 n1 n2 n3 n4 n5 n6 n7 n8 n9 n10 n11 n12 n13 n14 n15 n16 n17 n18 n19 q0 q1 q2 q3 q4 q5 q6 q7 q8 q9 q10 q11 q12 q13 q14 q15 q16 q17 q18 q19
  kernel_rfl
theorem flp_127 : flpG 127 := by
  intro zs sa sn sq a0 a1 a2 a3 a4 a5 a6 a7 a8 a9 a10 a11 a12 a13 a14 a15 a16 a17 a18 a19 n0 n1 n2 n3 n4 n5 n6 n7 n8 n9 n10 n11 n12 n13 n14 n15 n16 n17 n18 n19 q0 q1 q2 q3 q4 q5 q6 q7 q8 q9 q10 q11 q12 q13 q14 q15 q16 q17 q18 q19
  kernel_rfl
theorem flp_128 : flpG 128 := by
  intro zs sa sn sq a0 a1 a2 a3 a4 a5 a6 a7 a8 a9 a10 a11 a12 a13 a14 a15 a16 a17 a18 a19 n0 n1 n2 n3 n4 n5 n6 n7 n8 n9 n10 n11 n12 n13 n14 n15 n16 n17 n18 n19 q0 q1 q2 q3 q4 q5 q6 q7 q8 q9 q10 q11 q12 q13 q14 q15 q16 q17 q18 q19
  kernel_rfl
theorem flp_129 : flpG 129 := by
  intro zs sa sn sq a0 a1 a2 a3 a4 a5 a6 a7 a8 a9 a10 a11 a12 a13 a14 a15 a16 a17 a18 a19 n0 n1 n2 n3 n4 n5 n6 n7 n8 n9 n10 n11 n12 n13 n14 n15 n16 n17 n18 n19 q0 q1 q2 q3 q4 q5 q6 q7 q8 q9 q10 q11 q12 q13 q14 q15 q16 q17 q18 q19
  kernel_rfl
end
end Go.Proofs.Ytbhgibpocbmipaa


/-
  The rounds of the document's quotient, read one by one (fln 0 to 32).
-/
namespace Go.Proofs.Ytbhgibpocbmipaa
open Go.Den Go.RowKit
noncomputable section
set_option maxRecDepth 100000
theorem fln_0 : flnG 0 := by
  intro zs sa sn sq a0 a1 a2 a3 a4 a5 a6 a7 a8 a9 a10 a11 a12 a13 a14 a15 a16 a17 a18 a19 n0 n1 n2 n3 n4 n5 n6 n7 n8 n9 n10 n11 n12 n13 n14 n15 n16 n17 n18 n19 q0 q1 q2 q3 q4 q5 q6 q7 q8 q9 q10 q11 q12 q13 q14 q15 q16 q17 q18 q19
  kernel_rfl
theorem fln_1 : flnG 1 := by
  intro zs sa sn sq a0 a1 a2 a3 a4 a5 a6 a7 a8 a9 a10 a11 a12 a13 a14 a15 a16 a17 a18 a19 n0 n1 n2 n3 n4 n5 n6 n7 n8 n9 n10 n11 n12 n13 n14 n15 n16 n17 n18 n19 q0 q1 q2 q3 q4 q5 q6 q7 q8 q9 q10 q11 q12 q13 q14 q15 q16 q17 q18 q19
  kernel_rfl
theorem fln_2 : flnG 2 := by
  intro zs sa sn sq a0 a1 a2 a3 a4 a5 a6 a7 a8 a9 a10 a11 a12 a13 a14 a15 a16 a17 a18 a19 n0 n1 n2 n3 n4 n5 n6 n7 n8 n9 n10 n11 n12 n13 n14 n15 n16 n17 n18 n19 q0 q1 q2 q3 q4 q5 q6 q7 q8 q9 q10 q11 q12 q13 q14 q15 q16 q17 q18 q19
  kernel_rfl
theorem fln_3 : flnG 3 := by
  intro zs sa sn sq a0 a1 a2 a3 a4 a5 a6 a7 a8 a9 a10 a11 a12 a13 a14 a15 a16 a17 a18 a19 n0 n1 n2 n3 n4 n5 n6 n7 n8 n9 n10 n11 n12 n13 n14 n15 n16 n17 n18 n19 q0 q1 q2 q3 q4 q5 q6 q7 q8 q9 q10 q11 q12 q13 q14 q15 q16 q17 q18 q19
  kernel_rfl
theorem fln_4 : flnG 4 := by
  intro zs sa sn sq a0 a1 a2 a3 a4 a5 a6 a7 a8 a9 a10 a11 a12 a13 a14 a15 a16 a17 a18 a19 n0 n1 n2 n3 n4 n5 n6 n7 n8 n9 n10 n11 n12 n13 n14 n15 n16 n17 n18 n19 q0 q1 q2 q3 q4 q5 q6 q7 q8 q9 q10 q11 q12 q13 q14 q15 q16 q17 q18 q19
  kernel_rfl
theorem fln_5 : flnG 5 := by
  intro zs sa sn sq a0 a1 a2 a3 a4 a5 a6 a7 a8 a9 a10 a11 a12 a13 a14 a15 a16 a17 a18 a19 n0 n1 n2 n3 n4 n5 n6 n7 n8 n9 n10 n11 n12 n13 n14 n15 n16 n17 n18 n19 q0 q1 q2 q3 q4 q5 q6 q7 q8 q9 q10 q11 q12 q13 q14 q15 q16 q17 q18 q19
  kernel_rfl
theorem fln_6 : flnG 6 := by
  intro zs sa sn sq a0 a1 a2 a3 a4 a5 a6 a7 a8 a9 a10 a11 a12 a13 a14 a15 a16 a17 a18 a19 n0 n1 n2 n3 n4 n5 n6 n7 n8 n9 n10 n11 n12 n13 n14 n15 n16 n17 n18 n19 q0 q1 q2 q3 q4 q5 q6 q7 q8 q9 q10 q11 q12 q13 q14 q15 q16 q17 q18 q19
  kernel_rfl
theorem fln_7 : flnG 7 := by
  intro zs sa sn sq a0 a1 a2 a3 a4 a5 a6 a7 a8 a9 a10 a11 a12 a13 a14 a15 a16 a17 a18 a19 n0 n1 n2 n3 n4 n5 n6 n7 n8 n9 n10 n11 n12 n13 n14 n15 n16 n17 n18 n19 q0 q1 q2 q3 q4 q5 q6 q7 q8 q9 q10 q11 q12 q13 q14 q15 q16 q17 q18 q19
  kernel_rfl
theorem fln_8 : flnG 8 := by
  intro zs sa sn sq a0 a1 a2 a3 a4 a5 a6 a7 a8 a9 a10 a11 a12 a13 a14 a15 a16 a17 a18 a19 n0 n1 n2 n3 n4 n5 n6 n7 n8 n9 n10 n11 n12 n13 n14 n15 n16 n17 n18 n19 q0 q1 q2 q3 q4 q5 q6 q7 q8 q9 q10 q11 q12 q13 q14 q15 q16 q17 q18 q19
  kernel_rfl
theorem fln_9 : flnG 9 := by
  intro zs sa sn sq a0 a1 a2 a3 a4 a5 a6 a7 a8 a9 a10 a11 a12 a13 a14 a15 a16 a17 a18 a19 n0 n1 n2 n3 n4 n5 n6 n7 n8 n9 n10 n11 n12 n13 n14 n15 n16 n17 n18 n19 q0 q1 q2 q3 q4 q5 q6 q7 q8 q9 q10 q11 q12 q13 q14 q15 q16 q17 q18 q19
  kernel_rfl
theorem fln_10 : flnG 10 := by
  intro zs sa sn sq a0 a1 a2 a3 a4 a5 a6 a7 a8 a9 a10 a11 a12 a13 a14 a15 a16 a17 a18 a19 n0 n1 n2 n3 n4 n5 n6 n7 n8 n9 n10 n11 n12 n13 n14 n15 n16 n17 n18 n19 q0 q1 q2 q3 q4 q5 q6 q7 q8 q9 q10 q11 q12 q13 q14 q15 q16 q17 q18 q19
  kernel_rfl
theorem fln_11 : flnG 11 := by
  intro zs sa sn sq a0 a1 a2 a3 a4 a5 a6 a7 a8 a9 a10 a11 a12 a13 a14 a15 a16 a17 a18 a19 n0 n1 n2 n3 n4 n5 n6 n7 n8 n9 n10 n11 n12 n13 n14 n15 n16 n17 n18 n19 q0 q1 q2 q3 q4 q5 q6 q7 q8 q9 q10 q11 q12 q13 q14 q15 q16 q17 q18 q19
  kernel_rfl
theorem fln_12 : flnG 12 := by
  intro zs sa sn sq a0 a1 a2 a3 a4 a5 a6 a7 a8 a9 a10 a11 a12 a13 a14 a15 a16 a17 a18 a19 n0 n1 n2 n3 n4 n5 n6 n7 n8 n9 n10 n11 n12 n13 n14 n15 n16 n17 n18 n19 q0 q1 q2 q3 q4 q5 q6 q7 q8 q9 q10 q11 q12 q13 q14 q15 q16 q17 q18 q19
  kernel_rfl
theorem fln_13 : flnG 13 := by
  intro zs sa sn sq a0 a1 a2 a3 a4 a5 a6 a7 a8 a9 a10 a11 a12 a13 a14 a15 a16 a17 a18 a19 n0 n1 n2 n3 n4 n5 n6 n7 n8 n9 n10 n11 n12 n13 n14 n15 n16 n17 n18 n19 q0 q1 q2 q3 q4 q5 q6 q7 q8 q9 q10 q11 q12 q13 q14 q15 q16 q17 q18 q19
  kernel_rfl
theorem fln_14 : flnG 14 := by
  intro zs sa sn sq a0 a1 a2 a3 a4 a5 a6 a7 a8 a9 a10 a11 a12 a13 a14 a15 a16 a17 a18 a19 n0 n1 n2 n3 n4 n5 n6 n7 n8 n9 n10 n11 n12 n13 n14 n15 n16 n17 n18 n19 q0 q1 q2 q3 q4 q5 q6 q7 q8 q9 q10 q11 q12 q13 q14 q15 q16 q17 q18 q19
  kernel_rfl
theorem fln_15 : flnG 15 := by
  intro zs sa sn sq a0 a1 a2 a3 a4 a5 a6 a7 a8 a9 a10 a11 a12 a13 a14 a15 a16 a17 a18 a19 n0 n1 n2 n3 n4 n5 n6 n7 n8 n9 n10 n11 n12 n13 n14 n15 n16 n17 n18 n19 q0 q1 q2 q3 q4 q5 q6 q7 q8 q9 q10 q11 q12 q13 q14 q15 q16 q17 q18 q19
  kernel_rfl
theorem fln_16 : flnG 16 := by
  intro zs sa sn sq a0 a1 a2 a3 a4 a5 a6 a7 a8 a9 a10 a11 a12 a13 a14 a15 a16 a17 a18 a19 n0 n1 n2 n3 n4 n5 n6 n7 n8 n9 n10 n11 n12 n13 n14 n15 n16 n17 n18 n19 q0 q1 q2 q3 q4 q5 q6 q7 q8 q9 q10 q11 q12 q13 q14 q15 q16 q17 q18 q19
  kernel_rfl
theorem fln_17 : flnG 17 := by
  intro zs sa sn sq a0 a1 a2 a3 a4 a5 a6 a7 a8 a9 a10 a11 a12 a13 a14 a15 a16 a17 a18 a19 n0 n1 n2 n3 n4 n5 n6 n7 n8 n9 n10 n11 n12 n13 n14 n15 n16 n17 n18 n19 q0 q1 q2 q3 q4 q5 q6 q7 q8 q9 q10 q11 q12 q13 q14 q15 q16 q17 q18 q19
  kernel_rfl
theorem fln_18 : flnG 18 := by
  intro zs sa sn sq a0 a1 a2 a3 a4 a5 a6 a7 a8 a9 a10 a11 a12 a13 a14 a15 a16 a17 a18 a19 n0 n1 n2 n3 n4 n5 n6 n7 n8 n9 n10 n11 n12 n13 n14 n15 n16 n17 n18 n19 q0 q1 q2 q3 q4 q5 q6 q7 q8 q9 q10 q11 q12 q13 q14 q15 q16 q17 q18 q19
  kernel_rfl
theorem fln_19 : flnG 19 := by
  intro zs sa sn sq a0 a1 a2 a3 a4 a5 a6 a7 a8 a9 a10 a11 a12 a13 a14 a15 a16 a17 a18 a19 n0 n1 n2 n3 n4 n5 n6 n7 n8 n9 n10 n11 n12 n13 n14 n15 n16 n17 n18 n19 q0 q1 q2 q3 q4 q5 q6 q7 q8 q9 q10 q11 q12 q13 q14 q15 q16 q17 q18 q19
  kernel_rfl
theorem fln_20 : flnG 20 := by
  intro zs sa sn sq a0 a1 a2 a3 a4 a5 a6 a7 a8 a9 a10 a11 a12 a13 a14 a15 a16 a17 a18 a19 n0 n1 n2 n3 n4 n5 n6 n7 n8 n9 n10 n11 n12 n13 n14 n15 n16 n17 n18 n19 q0 q1 q2 q3 q4 q5 q6 q7 q8 q9 q10 q11 q12 q13 q14 q15 q16 q17 q18 q19
  kernel_rfl
theorem fln_21 : flnG 21 := by
  intro zs sa sn sq a0 a1 a2 a3 a4 a5 a6 a7 a8 a9 a10 a11 a12 a13 a14 a15 a16 a17 a18 a19 n0 n1 n2 n3 n4 n5 n6 n7 n8 n9 n10 n11 n12 n13 n14 n15 n16 n17 n18 n19 q0 q1 q2 q3 q4 q5 q6 q7 q8 q9 q10 q11 q12 q13 q14 q15 q16 q17 q18 q19
  kernel_rfl
theorem fln_22 : flnG 22 := by
  intro zs sa sn sq a0 a1 a2 a3 a4 a5 a6 a7 a8 a9 a10 a11 a12 a13 a14 a15 a16 a17 a18 a19 n0 n1 n2 n3 n4 n5 n6 n7 n8 n9 n10 n11 n12 n13 n14 n15 n16 n17 n18 n19 q0 q1 q2 q3 q4 q5 q6 q7 q8 q9 q10 q11 q12 q13 q14 q15 q16 q17 q18 q19
  kernel_rfl
theorem fln_23 : flnG 23 := by
  intro zs sa sn sq a0 a1 a2 a3 a4 a5 a6 a7 a8 a9 a10 a11 a12 a13 a14 a15 a16 a17 a18 a19 n0 n1 n2 n3 n4 n5 n6 n7 n8 n9 n10 n11 n12 n13 n14 n15 n16 n17 n18 n19 q0 q1 q2 q3 q4 q5 q6 q7 q8 q9 q10 q11 q12 q13 q14 q15 q16 q17 q18 q19
  kernel_rfl
theorem fln_24 : flnG 24 := by
  intro zs sa sn sq a0 a1 a2 a3 a4 a5 a6 a7 a8 a9 a10 a11 a12 a13 a14 a15 a16 a17 a18 a19 n0 n1 n2 n3 n4 n5 n6 n7 n8 n9 n10 n11 n12 n13 n14 n15 n16 n17 n18 n19 q0 q1 q2 q3 q4 q5 q6 q7 q8 q9 q10 q11 q12 q13 q14 q15 q16 q17 q18 q19
  kernel_rfl
theorem fln_25 : flnG 25 := by
  intro zs sa sn sq a0 a1 a2 a3 a4 a5 a6 a7 a8 a9 a10 a11 a12 a13 a14 a15 a16 a17 a18 a19 n0 n1 n2 n3 n4 n5 n6 n7 n8 n9 n10 n11 n12 n13 n14 n15 n16 n17 n18 n19 q0 q1 q2 q3 q4 q5 q6 q7 q8 q9 q10 q11 q12 q13 q14 q15 q16 q17 q18 q19
  kernel_rfl
theorem fln_26 : flnG 26 := by
  intro zs sa sn sq a0 a1 a2 a3 a4 a5 a6 a7 a8 a9 a10 a11 a12 a13 a14 a15 a16 a17 a18 a19 n0 n1 n2 n3 n4 n5 n6 n7 n8 n9 n10 n11 n12 n13 n14 n15 n16 n17 n18 n19 q0 q1 q2 q3 q4 q5 q6 q7 q8 q9 q10 q11 q12 q13 q14 q15 q16 q17 q18 q19
  kernel_rfl
theorem fln_27 : flnG 27 := by
  intro zs sa sn sq a0 a1 a2 a3 a4 a5 a6 a7 a8 a9 a10 a11 a12 a13 a14 a15 a16 a17 a18 a19 n0 n1 n2 n3 n4 n5 n6 n7 n8 n9 n10 n11 n12 n13 n14 n15 n16 n17 n18 n19 q0 q1 q2 q3 q4 q5 q6 q7 q8 q9 q10 q11 q12 q13 q14 q15 q16 q17 q18 q19
  kernel_rfl
theorem fln_28 : flnG 28 := by
  intro zs sa sn sq a0 a1 a2 a3 a4 a5 a6 a7 a8 a9 a10 a11 a12 a13 a14 a15 a16 a17 a18 a19 n0 n1 n2 n3 n4 n5 n6 n7 n8 n9 n10 n11 n12 n13 n14 n15 n16 n17 n18 n19 q0 q1 q2 q3 q4 q5 q6 q7 q8 q9 q10 q11 q12 q13 q14 q15 q16 q17 q18 q19
  kernel_rfl
theorem fln_29 : flnG 29 := by
  intro zs sa sn sq a0 a1 a2 a3 a4 a5 a6 a7 a8 a9 a10 a11 a12 a13 a14 a15 a16 a17 a18 a19 n0 n1 n2 n3 n4 n5 n6 n7 n8 n9 n10 n11 n12 n13 n14 n15 n16 n17 n18 n19 q0 q1 q2 q3 q4 q5 q6 q7 q8 q9 q10 q11 q12 q13 q14 q15 q16 q17 q18 q19
  kernel_rfl
theorem fln_30 : flnG 30 := by
  intro zs sa sn sq a0 a1 a2 a3 a4 a5 a6 a7 a8 a9 a10 a11 a12 a13 a14 a15 a16 a17 a18 a19 n0 n1 n2 n3 n4 n5 n6 n7 n8 n9 n10 n11 n12 n13 n14 n15 n16 n17 n18 n19 q0 q1 q2 q3 q4 q5 q6 q7 q8 q9 q10 q11 q12 q13 q14 q15 q16 q17 q18 q19
  kernel_rfl
theorem fln_31 : flnG 31 := by
  intro zs sa sn sq a0 a1 a2 a3 a4 a5 a6 a7 a8 a9 a10 a11 a12 a13 a14 a15 a16 a17 a18 a19 n0 n1 n2 n3 n4 n5 n6 n7 n8 n9 n10 n11 n12 n13 n14 n15 n16 n17 n18 n19 q0 q1 q2 q3 q4 q5 q6 q7 q8 q9 q10 q11 q12 q13 q14 q15 q16 q17 q18 q19
  kernel_rfl
theorem fln_32 : flnG 32 := by
  intro zs sa sn sq a0 a1 a2 a3 a4 a5 a6 a7 a8 a9 a10 a11 a12 a13 a14 a15 a16 a17 a18 a19 n0 n1 n2 n3 n4 n5 n6 n7 n8 n9 n10 n11 n12 n13 n14 n15 n16 n17 n18 n19 q0 q1 q2 q3 q4 q5 q6 q7 q8 q9 q10 q11 q12 q13 q14 q15 q16 q17 q18 q19
  kernel_rfl
end
end Go.Proofs.Ytbhgibpocbmipaa


/-
  The rounds of the document's quotient, read one by one (fln 33 to 65).
-/
namespace Go.Proofs.Ytbhgibpocbmipaa
open Go.Den Go.RowKit
noncomputable section
set_option maxRecDepth 100000
theorem fln_33 : flnG 33 := by
  intro zs sa sn sq a0 a1 a2 a3 a4 a5 a6 a7 a8 a9 a10 a11 a12 a13 a14 a15 a16 a17 a18 a19 n0 n1 n2 n3 n4 n5 n6 n7 n8 n9 n10 n11 n12 n13 n14 n15 n16 n17 n18 n19 q0 q1 q2 q3 q4 q5 q6 q7 q8 q9 q10 q11 q12 q13 q14 q15 q16 q17 q18 q19
  kernel_rfl
theorem fln_34 : flnG 34 := by
  intro zs sa sn sq a0 a1 a2 a3 a4 a5 a6 a7 a8 a9 a10 a11 a12 a13 a14 a15 a16 a17 a18 a19 n0 n1 n2 n3 n4 n5 n6 n7 n8 n9 n10 n11 n12 n13 n14 n15 n16 n17 n18 n19 q0 q1 q2 q3 q4 q5 q6 q7 q8 q9 q10 q11 q12 q13 q14 q15 q16 q17 q18 q19
  kernel_rfl
theorem fln_35 : flnG 35 := by
  intro zs sa sn sq a0 a1 a2 a3 a4 a5 a6 a7 a8 a9 a10 a11 a12 a13 a14 a15 a16 a17 a18 a19 n0 n1 n2 n3 n4 n5 n6 n7 n8 n9 n10 n11 n12 n13 n14 n15 n16 n17 n18 n19 q0 q1 q2 q3 q4 q5 q6 q7 q8 q9 q10 q11 q12 q13 q14 q15 q16 q17 q18 q19
  kernel_rfl
theorem fln_36 : flnG 36 := by
  intro zs sa sn sq a0 a1 a2 a3 a4 a5 a6 a7 a8 a9 a10 a11 a12 a13 a14 a15 a16 a17 a18 a19 n0 n1 n2 n3 n4 n5 n6 n7 n8 n9 n10 n11 n12 n13 n14 n15 n16 n17 n18 n19 q0 q1 q2 q3 q4 q5 q6 q7 q8 q9 q10 q11 q12 q13 q14 q15 q16 q17 q18 q19
  kernel_rfl
theorem fln_37 : flnG 37 := by
  intro zs sa sn sq a0 a1 a2 a3 a4 a5 a6 a7 a8 a9 a10 a11 a12 a13 a14 a15 a16 a17 a18 a19 n0 n1 n2 n3 n4 n5 n6 n7 n8 n9 n10 n11 n12 n13 n14 n15 n16 n17 n18 n19 q0 q1 q2 q3 q4 q5 q6 q7 q8 q9 q10 q11 q12 q13 q14 q15 q16 q17 q18 q19
  kernel_rfl
theorem fln_38 : flnG 38 := by
  intro zs sa sn sq a0 a1 a2 a3 a4 a5 a6 a7 a8 a9 a10 a11 a12 a13 a14 a15 a16 a17 a18 a19 n0 n1 n2 n3 n4 n5 n6 n7 n8 n9 n10 n11 n12 n13 n14 n15 n16 n17 n18 n19 q0 q1 q2 q3 q4 q5 q6 q7 q8 q9 q10 q11 q12 q13 q14 q15 q16 q17 q18 q19
  kernel_rfl
theorem fln_39 : flnG 39 := by
  intro zs sa sn sq a0 a1 a2 a3 a4 a5 a6 a7 a8 a9 a10 a11 a12 a13 a14 a15 a16 a17 a18 a19 n0 n1 n2 n3 n4 n5 n6 n7 n8 n9 n10 n11 n12 n13 n14 n15 n16 n17 n18 n19 q0 q1 q2 q3 q4 q5 q6 q7 q8 q9 q10 q11 q12 q13 q14 q15 q16 q17 q18 q19
  kernel_rfl
theorem fln_40 : flnG 40 := by
  intro zs sa sn sq a0 a1 a2 a3 a4 a5 a6 a7 a8 a9 a10 a11 a12 a13 a14 a15 a16 a17 a18 a19 n0 n1 n2 n3 n4 n5 n6 n7 n8 n9 n10 n11 n12 n13 n14 n15 n16 n17 n18 n19 q0 q1 q2 q3 q4 q5 q6 q7 q8 q9 q10 q11 q12 q13 q14 q15 q16 q17 q18 q19
  kernel_rfl
theorem fln_41 : flnG 41 := by
  intro zs sa sn sq a0 a1 a2 a3 a4 a5 a6 a7 a8 a9 a10 a11 a12 a13 a14 a15 a16 a17 a18 a19 n0 n1 n2 n3 n4 n5 n6 n7 n8 n9 n10 n11 n12 n13 n14 n15 n16 n17 n18 n19 q0 q1 q2 q3 q4 q5 q6 q7 q8 q9 q10 q11 q12 q13 q14 q15 q16 q17 q18 q19
  kernel_rfl
theorem fln_42 : flnG 42 := by
  intro zs sa sn sq a0 a1 a2 a3 a4 a5 a6 a7 a8 a9 a10 a11 a12 a13 a14 a15 a16 a17 a18 a19 n0 n1 n2 n3 n4 n5 n6 n7 n8 n9 n10 n11 n12 n13 n14 n15 n16 n17 n18 n19 q0 q1 q2 q3 q4 q5 q6 q7 q8 q9 q10 q11 q12 q13 q14 q15 q16 q17 q18 q19
  kernel_rfl
theorem fln_43 : flnG 43 := by
  intro zs sa sn sq a0 a1 a2 a3 a4 a5 a6 a7 a8 a9 a10 a11 a12 a13 a14 a15 a16 a17 a18 a19 n0 n1 n2 n3 n4 n5 n6 n7 n8 n9 n10 n11 n12 n13 n14 n15 n16 n17 n18 n19 q0 q1 q2 q3 q4 q5 q6 q7 q8 q9 q10 q11 q12 q13 q14 q15 q16 q17 q18 q19
  kernel_rfl
theorem fln_44 : flnG 44 := by
  intro zs sa sn sq a0 a1 a2 a3 a4 a5 a6 a7 a8 a9 a10 a11 a12 a13 a14 a15 a16 a17 a18 a19 n0 n1 n2 n3 n4 n5 n6 n7 n8 n9 n10 n11 n12 n13 n14 n15 n16 n17 n18 n19 q0 q1 q2 q3 q4 q5 q6 q7 q8 q9 q10 q11 q12 q13 q14 q15 q16 q17 q18 q19
  kernel_rfl
theorem fln_45 : flnG 45 := by
  intro zs sa sn sq a0 a1 a2 a3 a4 a5 a6 a7 a8 a9 a10 a11 a12 a13 a14 a15 a16 a17 a18 a19 n0 n1 n2 n3 n4 n5 n6 n7 n8 n9 n10 n11 n12 n13 n14 n15 n16 n17 n18 n19 q0 q1 q2 q3 q4 q5 q6 q7 q8 q9 q10 q11 q12 q13 q14 q15 q16 q17 q18 q19
  kernel_rfl
theorem fln_46 : flnG 46 := by
  intro zs sa sn sq a0 a1 a2 a3 a4 a5 a6 a7 a8 a9 a10 a11 a12 a13 a14 a15 a16 a17 a18 a19 n0 n1 n2 n3 n4 n5 n6 n7 n8 n9 n10 n11 n12 n13 n14 n15 n16 n17 n18 n19 q0 q1 q2 q3 q4 q5 q6 q7 q8 q9 q10 q11 q12 q13 q14 q15 q16 q17 q18 q19
  kernel_rfl
theorem fln_47 : flnG 47 := by
  intro zs sa sn sq a0 a1 a2 a3 a4 a5 a6 a7 a8 a9 a10 a11 a12 a13 a14 a15 a16 a17 a18 a19 n0 n1 n2 n3 n4 n5 n6 n7 n8 n9 n10 n11 n12 n13 n14 n15 n16 n17 n18 n19 q0 q1 q2 q3 q4 q5 q6 q7 q8 q9 q10 q11 q12 q13 q14 q15 q16 q17 q18 q19
  kernel_rfl
theorem fln_48 : flnG 48 := by
  intro zs sa sn sq a0 a1 a2 a3 a4 a5 a6 a7 a8 a9 a10 a11 a12 a13 a14 a15 a16 a17 a18 a19 n0 n1 n2 n3 n4 n5 n6 n7 n8 n9 n10 n11 n12 n13 n14 n15 n16 n17 n18 n19 q0 q1 q2 q3 q4 q5 q6 q7 q8 q9 q10 q11 q12 q13 q14 q15 q16 q17 q18 q19
  kernel_rfl
theorem fln_49 : flnG 49 := by
  intro zs sa sn sq a0 a1 a2 a3 a4 a5 a6 a7 a8 a9 a10 a11 a12 a13 a14 a15 a16 a17 a18 a19 n0 n1 n2 n3 n4 n5 n6 n7 n8 n9 n10 n11 n12 n13 n14 n15 n16 n17 n18 n19 q0 q1 q2 q3 q4 q5 q6 q7 q8 q9 q10 q11 q12 q13 q14 q15 q16 q17 q18 q19
  kernel_rfl
theorem fln_50 : flnG 50 := by
  intro zs sa sn sq a0 a1 a2 a3 a4 a5 a6 a7 a8 a9 a10 a11 a12 a13 a14 a15 a16 a17 a18 a19 n0 n1 n2 n3 n4 n5 n6 n7 n8 n9 n10 n11 n12 n13 n14 n15 n16 n17 n18 n19 q0 q1 q2 q3 q4 q5 q6 q7 q8 q9 q10 q11 q12 q13 q14 q15 q16 q17 q18 q19
  kernel_rfl
theorem fln_51 : flnG 51 := by
  intro zs sa sn sq a0 a1 a2 a3 a4 a5 a6 a7 a8 a9 a10 a11 a12 a13 a14 a15 a16 a17 a18 a19 n0 n1 n2 n3 n4 n5 n6 n7 n8 n9 n10 n11 n12 n13 n14 n15 n16 n17 n18 n19 q0 q1 q2 q3 q4 q5 q6 q7 q8 q9 q10 q11 q12 q13 q14 q15 q16 q17 q18 q19
  kernel_rfl
theorem fln_52 : flnG 52 := by
  intro zs sa sn sq a0 a1 a2 a3 a4 a5 a6 a7 a8 a9 a10 a11 a12 a13 a14 a15 a16 a17 a18 a19 n0 n1 n2 n3 n4 n5 n6 n7 n8 n9 n10 n11 n12 n13 n14 n15 n16 n17 n18 n19 q0 q1 q2 q3 q4 q5 q6 q7 q8 q9 q10 q11 q12 q13 q14 q15 q16 q17 q18 q19
  kernel_rfl
theorem fln_53 : flnG 53 := by
  intro zs sa sn sq a0 a1 a2 a3 a4 a5 a6 a7 a8 a9 a10 a11 a12 a13 a14 a15 a16 a17 a18 a19 n0 n1 n2 n3 n4 n5 n6 n7 n8 n9 n10 n11 n12 n13 n14 n15 n16 n17 n18 n19 q0 q1 q2 q3 q4 q5 q6 q7 q8 q9 q10 q11 q12 q13 q14 q15 q16 q17 q18 q19
  kernel_rfl
theorem fln_54 : flnG 54 := by
  intro zs sa sn sq a0 a1 a2 a3 a4 a5 a6 a7 a8 a9 a10 a11 a12 a13 a14 a15 a16 a17 a18 a19 n0 n1 n2 n3 n4 n5 n6 n7 n8 n9 n10 n11 n12 n13 n14 n15 n16 n17 n18 n19 q0 q1 q2 q3 q4 q5 q6 q7 q8 q9 q10 q11 q12 q13 q14 q15 q16 q17 q18 q19
  kernel_rfl
theorem fln_55 : flnG 55 := by
  intro zs sa sn sq a0 a1 a2 a3 a4 a5 a6 a7 a8 a9 a10 a11 a12 a13 a14 a15 a16 a17 a18 a19 n0 n1 n2 n3 n4 n5 n6 n7 n8 n9 n10 n11 n12 n13 n14 n15 n16 n17 n18 n19 q0 q1 q2 q3 q4 q5 q6 q7 q8 q9 q10 q11 q12 q13 q14 q15 q16 q17 q18 q19
  kernel_rfl
theorem fln_56 : flnG 56 := by
  intro zs sa sn sq a0 a1 a2 a3 a4 a5 a6 a7 a8 a9 a10 a11 a12 a13 a14 a15 a16 a17 a18 a19 n0 n1 n2 n3 n4 n5 n6 n7 n8 n9 n10 n11 n12 n13 n14 n15 n16 n17 n18 n19 q0 q1 q2 q3 q4 q5 q6 q7 q8 q9 q10 q11 q12 q13 q14 q15 q16 q17 q18 q19
  kernel_rfl
theorem fln_57 : flnG 57 := by
  intro zs sa sn sq a0 a1 a2 a3 a4 a5 a6 a7 a8 a9 a10 a11 a12 a13 a14 a15 a16 a17 a18 a19 n0 n1 n2 n3 n4 n5 n6 n7 n8 n9 n10 n11 n12 n13 n14 n15 n16 n17 n18 n19 q0 q1 q2 q3 q4 q5 q6 q7 q8 q9 q10 q11 q12 q13 q14 q15 q16 q17 q18 q19
  kernel_rfl
theorem fln_58 : flnG 58 := by
  intro zs sa sn sq a0 a1 a2 a3 a4 a5 a6 a7 a8 a9 a10 a11 a12 a13 a14 a15 a16 a17 a18 a19 n0 n1 n2 n3 n4 n5 n6 n7 n8 n9 n10 n11 n12 n13 n14 n15 n16 n17 n18 n19 q0 q1 q2 q3 q4 q5 q6 q7 q8 q9 q10 q11 q12 q13 q14 q15 q16 q17 q18 q19
  kernel_rfl
theorem fln_59 : flnG 59 := by
  intro zs sa sn sq a0 a1 a2 a3 a4 a5 a6 a7 a8 a9 a10 a11 a12 a13 a14 a15 a16 a17 a18 a19 n0 n1 n2 n3 n4 n5 n6 n7 n8 n9 n10 n11 n12 n13 n14 n15 n16 n17 n18 n19 q0 q1 q2 q3 q4 q5 q6 q7 q8 q9 q10 q11 q12 q13 q14 q15 q16 q17 q18 q19
  kernel_rfl
theorem fln_60 : flnG 60 := by
  intro zs sa sn sq a0 a1 a2 a3 a4 a5 a6 a7 a8 a9 a10 a11 a12 a13 a14 a15 a16 a17 a18 a19 n0 n1 n2 n3 n4 n5 n6 n7 n8 n9 n10 n11 n12 n13 n14 n15 n16 n17 n18 n19 q0 q1 q2 q3 q4 q5 q6 q7 q8 q9 q10 q11 q12 q13 q14 q15 q16 q17 q18 q19
  kernel_rfl
theorem fln_61 : flnG 61 := by
  intro zs sa sn sq a0 a1 a2 a3 a4 a5 a6 a7 a8 a9 a10 a11 a12 a13 a14 a15 a16 a17 a18 a19 n0 n1 n2 n3 n4 n5 n6 n7 n8 n9 n10 n11 n12 n13 n14 n15 n16 n17 n18 n19 q0 q1 q2 q3 q4 q5 q6 q7 q8 q9 q10 q11 q12 q13 q14 q15 q16 q17 q18 q19
  kernel_rfl
theorem fln_62 : flnG 62 := by
  intro zs sa sn sq a0 a1 a2 a3 a4 a5 a6 a7 a8 a9 a10 a11 a12 a13 a14 a15 a16 a17 a18 a19 n0 n1 n2 n3 n4 n5 n6 n7 n8 n9 n10 n11 n12 n13 n14 n15 n16 n17 n18 n19 q0 q1 q2 q3 q4 q5 q6 q7 q8 q9 q10 q11 q12 q13 q14 q15 q16 q17 q18 q19
  kernel_rfl
theorem fln_63 : flnG 63 := by
  intro zs sa sn sq a0 a1 a2 a3 a4 a5 a6 a7 a8 a9 a10 a11 a12 a13 a14 a15 a16 a17 a18 a19 n0 n1 n2 n3 n4 n5 n6 n7 n8 n9 n10 n11 n12 n13 n14 n15 n16 n17 n18 n19 q0 q1 q2 q3 q4 q5 q6 q7 q8 q9 q10 q11 q12 q13 q14 q15 q16 q17 q18 q19
  kernel_rfl
theorem fln_64 : flnG 64 := by
  intro zs sa sn sq a0 a1 a2 a3 a4 a5 a6 a7 a8 a9 a10 a11 a12 a13 a14 a15 a16 a17 a18 a19 n0 n1 n2 n3 n4 n5 n6 n7 n8 n9 n10 n11 n12 n13 n14 n15 n16 n17 n18 n19 q0 q1 q2 q3 q4 q5 q6 q7 q8 q9 q10 q11 q12 q13 q14 q15 q16 q17 q18 q19
  kernel_rfl
theorem fln_65 : flnG 65 := by
  intro zs sa sn sq a0 a1 a2 a3 a4 a5 a6 a7 a8 a9 a10 a11 a12 a13 a14 a15 a16 a17 a18 a19 n0 n1 n2 n3 n4 n5 n6 n7 n8 n9 n10 n11 n12 n13 n14 n15 n16 n17 n18 n19 q0 q1 q2 q3 q4 q5 q6 q7 q8 q9 q10 q11 q12 q13 q14 q15 q16 q17 q18 q19
  kernel_rfl
end
end Go.Proofs.Ytbhgibpocbmipaa


/-
  The rounds of the document's quotient, read one by one (fln 66 to 97).
-/
namespace Go.Proofs.Ytbhgibpocbmipaa
open Go.Den Go.RowKit
noncomputable section
set_option maxRecDepth 100000
theorem fln_66 : flnG 66 := by
  intro zs sa sn sq a0 a1 a2 a3 a4 a5 a6 a7 a8 a9 a10 a11 a12 a13 a14 a15 a16 a17 a18 a19 n0 n1 n2 n3 n4 n5 n6 n7 n8 n9 n10 n11 n12 n13 n14 n15 n16 n17 n18 n19 q0 q1 q2 q3 q4 q5 q6 q7 q8 q9 q10 q11 q12 q13 q14 q15 q16 q17 q18 q19
  kernel_rfl
theorem fln_67 : flnG 67 := by
  intro zs sa sn sq a0 a1 a2 a3 a4 a5 a6 a7 a8 a9 a10 a11 a12 a13 a14 a15 a16 a17 a18 a19 n0 n1 n2 n3 n4 n5 n6 n7 n8 n9 n10 n11 n12 n13 n14 n15 n16 n17 n18 n19 q0 q1 q2 q3 q4 q5 q6 q7 q8 q9 q10 q11 q12 q13 q14 q15 q16 q17 q18 q19
  kernel_rfl
theorem fln_68 : flnG 68 := by
  intro zs sa sn sq a0 a1 a2 a3 a4 a5 a6 a7 a8 a9 a10 a11 a12 a13 a14 a15 a16 a17 a18 a19 n0 n1 n2 n3 n4 n5 n6 n7 n8 n9 n10 n11 n12 n13 n14 n15 n16 n17 n18 n19 q0 q1 q2 q3 q4 q5 q6 q7 q8 q9 q10 q11 q12 q13 q14 q15 q16 q17 q18 q19
  kernel_rfl
theorem fln_69 : flnG 69 := by
  intro zs sa sn sq a0 a1 a2 a3 a4 a5 a6 a7 a8 a9 a10 a11 a12 a13 a14 a15 a16 a17 a18 a19 n0 n1 n2 n3 n4 n5 n6 n7 n8 n9 n10 n11 n12 n13 n14 n15 n16 n17 n18 n19 q0 q1 q2 q3 q4 q5 q6 q7 q8 q9 q10 q11 q12 q13 q14 q15 q16 q17 q18 q19
  kernel_rfl
theorem fln_70 : flnG 70 := by
  intro zs sa sn sq a0 a1 a2 a3 a4 a5 a6 a7 a8 a9 a10 a11 a12 a13 a14 a15 a16 a17 a18 a19 n0 n1 n2 n3 n4 n5 n6 n7 n8 n9 n10 n11 n12 n13 n14 n15 n16 n17 n18 n19 q0 q1 q2 q3 q4 q5 q6 q7 q8 q9 q10 q11 q12 q13 q14 q15 q16 q17 q18 q19
  kernel_rfl
theorem fln_71 : flnG 71 := by
  intro zs sa sn sq a0 a1 a2 a3 a4 a5 a6 a7 a8 a9 a10 a11 a12 a13 a14 a15 a16 a17 a18 a19 n0 n1 n2 n3 n4 n5 n6 n7 n8 n9 n10 n11 n12 n13 n14 n15 n16 n17 n18 n19 q0 q1 q2 q3 q4 q5 q6 q7 q8 q9 q10 q11 q12 q13 q14 q15 q16 q17 q18 q19
  kernel_rfl
theorem fln_72 : flnG 72 := by
  intro zs sa sn sq a0 a1 a2 a3 a4 a5 a6 a7 a8 a9 a10 a11 a12 a13 a14 a15 a16 a17 a18 a19 n0 n1 n2 n3 n4 n5 n6 n7 n8 n9 n10 n11 n12 n13 n14 n15 n16 n17 n18 n19 q0 q1 q2 q3 q4 q5 q6 q7 q8 q9 q10 q11 q12 q13 q14 q15 q16 q17 q18 q19
  kernel_rfl
theorem fln_73 : flnG 73 := by
  intro zs sa sn sq a0 a1 a2 a3 a4 a5 a6 a7 a8 a9 a10 a11 a12 a13 a14 a15 a16 a17 a18 a19 n0 n1 n2 n3 n4 n5 n6 n7 n8 n9 n10 n11 n12 n13 n14 n15 n16 n17 n18 n19 q0 q1 q2 q3 q4 q5 q6 q7 q8 q9 q10 q11 q12 q13 q14 q15 q16 q17 q18 q19
  kernel_rfl
theorem fln_74 : flnG 74 := by
  intro zs sa sn sq a0 a1 a2 a3 a4 a5 a6 a7 a8 a9 a10 a11 a12 a13 a14 a15 a16 a17 a18 a19 n0 n1 n2 n3 n4 n5 n6 n7 n8 n9 n10 n11 n12 n13 n14 n15 n16 n17 n18 n19 q0 q1 q2 q3 q4 q5 q6 q7 q8 q9 q10 q11 q12 q13 q14 q15 q16 q17 q18 q19
  kernel_rfl
theorem fln_75 : flnG 75 := by
  intro zs sa sn sq a0 a1 a2 a3 a4 a5 a6 a7 a8 a9 a10 a11 a12 a13 a14 a15 a16 a17 a18 a19 n0 n1 n2 n3 n4 n5 n6 n7 n8 n9 n10 n11 n12 n13 n14 n15 n16 n17 n18 n19 q0 q1 q2 q3 q4 q5 q6 q7 q8 q9 q10 q11 q12 q13 q14 q15 q16 q17 q18 q19
  kernel_rfl
theorem fln_76 : flnG 76 := by
  intro zs sa sn sq a0 a1 a2 a3 a4 a5 a6 a7 a8 a9 a10 a11 a12 a13 a14 a15 a16 a17 a18 a19 n0 n1 n2 n3 n4 n5 n6 n7 n8 n9 n10 n11 n12 n13 n14 n15 n16 n17 n18 n19 q0 q1 q2 q3 q4 q5 q6 q7 q8 q9 q10 q11 q12 q13 q14 q15 q16 q17 q18 q19
  kernel_rfl
theorem fln_77 : flnG 77 := by
  intro zs sa sn sq a0 a1 a2 a3 a4 a5 a6 a7 a8 a9 a10 a11 a12 a13 a14 a15 a16 a17 a18 a19 n0 n1 n2 n3 n4 n5 n6 n7 n8 n9 n10 n11 n12 n13 n14 n15 n16 n17 n18 n19 q0 q1 q2 q3 q4 q5 q6 q7 q8 q9 q10 q11 q12 q13 q14 q15 q16 q17 q18 q19
  kernel_rfl
theorem fln_78 : flnG 78 := by
  intro zs sa sn sq a0 a1 a2 a3 a4 a5 a6 a7 a8 a9 a10 a11 a12 a13 a14 a15 a16 a17 a18 a19 n0 n1 n2 n3 n4 n5 n6 n7 n8 n9 n10 n11 n12 n13 n14 n15 n16 n17 n18 n19 q0 q1 q2 q3 q4 q5 q6 q7 q8 q9 q10 q11 q12 q13 q14 q15 q16 q17 q18 q19
  kernel_rfl
theorem fln_79 : flnG 79 := by
  intro zs sa sn sq a0 a1 a2 a3 a4 a5 a6 a7 a8 a9 a10 a11 a12 a13 a14 a15 a16 a17 a18 a19 n0 n1 n2 n3 n4 n5 n6 n7 n8 n9 n10 n11 n12 n13 n14 n15 n16 n17 n18 n19 q0 q1 q2 q3 q4 q5 q6 q7 q8 q9 q10 q11 q12 q13 q14 q15 q16 q17 q18 q19
  kernel_rfl
theorem fln_80 : flnG 80 := by
  intro zs sa sn sq a0 a1 a2 a3 a4 a5 a6 a7 a8 a9 a10 a11 a12 a13 a14 a15 a16 a17 a18 a19 n0 n1 n2 n3 n4 n5 n6 n7 n8 n9 n10 n11 n12 n13 n14 n15 n16 n17 n18 n19 q0 q1 q2 q3 q4 q5 q6 q7 q8 q9 q10 q11 q12 q13 q14 q15 q16 q17 q18 q19
  kernel_rfl
theorem fln_81 : flnG 81 := by
  intro zs sa sn sq a0 a1 a2 a3 a4 a5 a6 a7 a8 a9 a10 a11 a12 a13 a14 a15 a16 a17 a18 a19 n0 n1 n2 n3 n4 n5 n6 n7 n8 n9 n10 n11 n12 n13 n14 n15 n16 n17 n18 n19 q0 q1 q2 q3 q4 q5 q6 q7 q8 q9 q10 q11 q12 q13 q14 q15 q16 q17 q18 q19
  kernel_rfl
theorem fln_82 : flnG 82 := by
  intro zs sa sn sq a0 a1 a2 a3 a4 a5 a6 a7 a8 a9 a10 a11 a12 a13 a14 a15 a16 a17 a18 a19 n0 n1 n2 n3 n4 n5 n6 n7 n8 n9 n10 n11 n12 n13 n14 n15 n16 n17 n18 n19 q0 q1 q2 q3 q4 q5 q6 q7 q8 q9 q10 q11 q12 q13 q14 q15 q16 q17 q18 q19
  kernel_rfl
theorem fln_83 : flnG 83 := by
  intro zs sa sn sq a0 a1 a2 a3 a4 a5 a6 a7 a8 a9 a10 a11 a12 a13 a14 a15 a16 a17 a18 a19 n0 n1 n2 n3 n4 n5 n6 n7 n8 n9 n10 n11 n12 n13 n14 n15 n16 n17 n18 n19 q0 q1 q2 q3 q4 q5 q6 q7 q8 q9 q10 q11 q12 q13 q14 q15 q16 q17 q18 q19
  kernel_rfl
theorem fln_84 : flnG 84 := by
  intro zs sa sn sq a0 a1 a2 a3 a4 a5 a6 a7 a8 a9 a10 a11 a12 a13 a14 a15 a16 a17 a18 a19 n0 n1 n2 n3 n4 n5 n6 n7 n8 n9 n10 n11 n12 n13 n14 n15 n16 n17 n18 n19 q0 q1 q2 q3 q4 q5 q6 q7 q8 q9 q10 q11 q12 q13 q14 q15 q16 q17 q18 q19
  kernel_rfl
theorem fln_85 : flnG 85 := by
  intro zs sa sn sq a0 a1 a2 a3 a4 a5 a6 a7 a8 a9 a10 a11 a12 a13 a14 a15 a16 a17 a18 a19 n0 n1 n2 n3 n4 n5 n6 n7 n8 n9 n10 n11 n12 n13 n14 n15 n16 n17 n18 n19 q0 q1 q2 q3 q4 q5 q6 q7 q8 q9 q10 q11 q12 q13 q14 q15 q16 q17 q18 q19
  kernel_rfl
theorem fln_86 : flnG 86 := by
  intro zs sa sn sq a0 a1 a2 a3 a4 a5 a6 a7 a8 a9 a10 a11 a12 a13 a14 a15 a16 a17 a18 a19 n0 n1 n2 n3 n4 n5 n6 n7 n8 n9 n10 n11 n12 n13 n14 n15 n16 n17 n18 n19 q0 q1 q2 q3 q4 q5 q6 q7 q8 q9 q10 q11 q12 q13 q14 q15 q16 q17 q18 q19
  kernel_rfl
theorem fln_87 : flnG 87 := by
  intro zs sa sn sq a0 a1 a2 a3 a4 a5 a6 a7 a8 a9 a10 a11 a12 a13 a14 a15 a16 a17 a18 a19 n0 n1 n2 n3 n4 n5 n6 n7 n8 n9 n10 n11 n12 n13 n14 n15 n16 n17 n18 n19 q0 q1 q2 q3 q4 q5 q6 q7 q8 q9 q10 q11 q12 q13 q14 q15 q16 q17 q18 q19
  kernel_rfl
theorem fln_88 : flnG 88 := by
  intro zs sa sn sq a0 a1 a2 a3 a4 a5 a6 a7 a8 a9 a10 a11 a12 a13 a14 a15 a16 a17 a18 a19 n0 n1 n2 n3 n4 n5 n6 n7 n8 n9 n10 n11 n12 n13 n14 n15 n16 n17 n18 n19 q0 q1 q2 q3 q4 q5 q6 q7 q8 q9 q10 q11 q12 q13 q14 q15 q16 q17 q18 q19
  kernel_rfl
theorem fln_89 : flnG 89 := by
  intro zs sa sn sq a0 a1 a2 a3 a4 a5 a6 a7 a8 a9 a10 a11 a12 a13 a14 a15 a16 a17 a18 a19 n0 n1 n2 n3 n4 n5 n6 n7 n8 n9 n10 n11 n12 n13 n14 n15 n16 n17 n18 n19 q0 q1 q2 q3 q4 q5 q6 q7 q8 q9 q10 q11 q12 q13 q14 q15 q16 q17 q18 q19
  kernel_rfl
theorem fln_90 : flnG 90 := by
  intro zs sa sn sq a0 a1 a2 a3 a4 a5 a6 a7 a8 a9 a10 a11 a12 a13 a14 a15 a16 a17 a18 a19 n0 n1 n2 n3 n4 n5 n6 n7 n8 n9 n10 n11 n12 n13 n14 n15 n16 n17 n18 n19 q0 q1 q2 q3 q4 q5 q6 q7 q8 q9 q10 q11 q12 q13 q14 q15 q16 q17 q18 q19
  kernel_rfl
theorem fln_91 : flnG 91 := by
  intro zs sa sn sq a0 a1 a2 a3 a4 a5 a6 a7 a8 a9 a10 a11 a12 a13 a14 a15 a16 a17 a18 a19 n0 n1 n2 n3 n4 n5 n6 n7 n8 n9 n10 n11 n12 n13 n14 n15 n16 n17 n18 n19 q0 q1 q2 q3 q4 q5 q6 q7 q8 q9 q10 q11 q12 q13 q14 q15 q16 q17 q18 q19
  kernel_rfl
theorem fln_92 : flnG 92 := by
  intro zs sa sn sq a0 a1 a2 a3 a4 a5 a6 a7 a8 a9 a10 a11 a12 a13 a14 a15 a16 a17 a18 a19 n0 n1 n2 n3 n4 n5 n6 n7 n8 n9 n10 n11 n12 n13 n14 n15 n16 n17 n18 n19 q0 q1 q2 q3 q4 q5 q6 q7 q8 q9 q10 q11 q12 q13 q14 q15 q16 q17 q18 q19
  kernel_rfl
theorem fln_93 : flnG 93 := by
  intro zs sa sn sq a0 a1 a2 a3 a4 a5 a6 a7 a8 a9 a10 a11 a12 a13 a14 a15 a16 a17 a18 a19 n0 n1 n2 n3 n4 n5 n6 n7 n8 n9 n10 n11 n12 n13 n14 n15 n16 n17 n18 n19 q0 q1 q2 q3 q4 q5 q6 q7 q8 q9 q10 q11 q12 q13 q14 q15 q16 q17 q18 q19
  kernel_rfl
theorem fln_94 : flnG 94 := by
  intro zs sa sn sq a0 a1 a2 a3 a4 a5 a6 a7 a8 a9 a10 a11 a12 a13 a14 a15 a16 a17 a18 a19 n0 n1 n2 n3 n4 n5 n6 n7 n8 n9 n10 n11 n12 n13 n14 n15 n16 n17 n18 n19 q0 q1 q2 q3 q4 q5 q6 q7 q8 q9 q10 q11 q12 q13 q14 q15 q16 q17 q18 q19
  kernel_rfl
theorem fln_95 : flnG 95 := by
  intro zs sa sn sq a0 a1 a2 a3 a4 a5 a6 a7 a8 a9 a10 a11 a12 a13 a14 a15 a16 a17 a18 a19 n0 n1 n2 n3 n4 n5 n6 n7 n8 n9 n10 n11 n12 n13 n14 n15 n16 n17 n18 n19 q0 q1 q2 q3 q4 q5 q6 q7 q8 q9 q10 q11 q12 q13 q14 q15 q16 q17 q18 q19
  kernel_rfl
theorem fln_96 : flnG 96 := by
  intro zs sa sn sq a0 a1 a2 a3 a4 a5 a6 a7 a8 a9 a10 a11 a12 a13 a14 a15 a16 a17 a18 a19 n0 n1 n2 n3 n4 n5 n6 n7 n8 n9 n10 n11 n12 n13 n14 n15 n16 n17 n18 n19 q0 q1 q2 q3 q4 q5 q6 q7 q8 q9 q10 q11 q12 q13 q14 q15 q16 q17 q18 q19
  kernel_rfl
theorem fln_97 : flnG 97 := by
  intro zs sa sn sq a0 a1 a2 a3 a4 a5 a6 a7 a8 a9 a10 a11 a12 a13 a14 a15 a16 a17 a18 a19 n0 n1 n2 n3 n4 n5 n6 n7 n8 n9 n10 n11 n12 n13 n14 n15 n16 n17 n18 n19 q0 q1 q2 q3 q4 q5 q6 q7 q8 q9 q10 q11 q12 q13 q14 q15 q16 q17 q18 q19
  kernel_rfl
end
end Go.Proofs.Ytbhgibpocbmipaa


/-
  The rounds of the document's quotient, read one by one (fln 98 to 129).
-/
namespace Go.Proofs.Ytbhgibpocbmipaa
open Go.Den Go.RowKit
noncomputable section
set_option maxRecDepth 100000
theorem fln_98 : flnG 98 := by
  intro zs sa sn sq a0 a1 a2 a3 a4 a5 a6 a7 a8 a9 a10 a11 a12 a13 a14 a15 a16 a17 a18 a19 n0 n1 n2 n3 n4 n5 n6 n7 n8 n9 n10 n11 n12 n13 n14 n15 n16 n17 n18 n19 q0 q1 q2 q3 q4 q5 q6 q7 q8 q9 q10 q11 q12 q13 q14 q15 q16 q17 q18 q19
  kernel_rfl
theorem fln_99 : flnG 99 := by
  intro zs sa sn sq a0 a1 a2 a3 a4 a5 a6 a7 a8 a9 a10 a11 a12 a13 a14 a15 a16 a17 a18 a19 n0 n1 n2 n3 n4 n5 n6 n7 n8 n9 n10 n11 n12 n13 n14 n15 n16 n17 n18 n19 q0 q1 q2 q3 q4 q5 q6 q7 q8 q9 q10 q11 q12 q13 q14 q15 q16 q17 q18 q19
  kernel_rfl
theorem fln_100 : flnG 100 := by
  intro zs sa sn sq a0 a1 a2 a3 a4 a5 a6 a7 a8 a9 a10 a11 a12 a13 a14 a15 a16 a17 a18 a19 n0 n1 n2 n3 n4 n5 n6 n7 n8 n9 n10 n11 n12 n13 n14 n15 n16 n17 n18 n19 q0 q1 q2 q3 q4 q5 q6 q7 q8 q9 q10 q11 q12 q13 q14 q15 q16 q17 q18 q19
  kernel_rfl
theorem fln_101 : flnG 101 := by
  intro zs sa sn sq a0 a1 a2 a3 a4 a5 a6 a7 a8 a9 a10 a11 a12 a13 a14 a15 a16 a17 a18 a19 n0 n1 n2 n3 n4 n5 n6 n7 n8 n9 n10 n11 n12 n13 n14 n15 n16 n17 n18 n19 q0 q1 q2 q3 q4 q5 q6 q7 q8 q9 q10 q11 q12 q13 q14 q15 q16 q17 q18 q19
  kernel_rfl
theorem fln_102 : flnG 102 := by
  intro zs sa sn sq a0 a1 a2 a3 a4 a5 a6 a7 a8 a9 a10 a11 a12 a13 a14 a15 a16 a17 a18 a19 n0 n1 n2 n3 n4 n5 n6 n7 n8 n9 n10 n11 n12 n13 n14 n15 n16 n17 n18 n19 q0 q1 q2 q3 q4 q5 q6 q7 q8 q9 q10 q11 q12 q13 q14 q15 q16 q17 q18 q19
  kernel_rfl
theorem fln_103 : flnG 103 := by
  intro zs sa sn sq a0 a1 a2 a3 a4 a5 a6 a7 a8 a9 a10 a11 a12 a13 a14 a15 a16 a17 a18 a19 n0 n1 n2 n3 n4 n5 n6 n7 n8 n9 n10 n11 n12 n13 n14 n15 n16 n17 n18 n19 q0 q1 q2 q3 q4 q5 q6 q7 q8 q9 q10 q11 q12 q13 q14 q15 q16 q17 q18 q19
  kernel_rfl
theorem fln_104 : flnG 104 := by
  intro zs sa sn sq a0 a1 a2 a3 a4 a5 a6 a7 a8 a9 a10 a11 a12 a13 a14 a15 a16 a17 a18 a19 n0 n1 n2 n3 n4 n5 n6 n7 n8 n9 n10 n11 n12 n13 n14 n15 n16 n17 n18 n19 q0 q1 q2 q3 q4 q5 q6 q7 q8 q9 q10 q11 q12 q13 q14 q15 q16 q17 q18 q19
  kernel_rfl
theorem fln_105 : flnG 105 := by
  intro zs sa sn sq a0 a1 a2 a3 a4 a5 a6 a7 a8 a9 a10 a11 a12 a13 a14 a15 a16 a17 a18 a19 n0 n1 n2 n3 n4 n5 n6 n7 n8 n9 n10 n11 n12 n13 n14 n15 n16 n17 n18 n19 q0 q1 q2 q3 q4 q5 q6 q7 q8 q9 q10 q11 q12 q13 q14 q15 q16 q17 q18 q19
  kernel_rfl
theorem fln_106 : flnG 106 := by
  intro zs sa sn sq a0 a1 a2 a3 a4 a5 a6 a7 a8 a9 a10 a11 a12 a13 a14 a15 a16 a17 a18 a19 n0 n1 n2 n3 n4 n5 n6 n7 n8 n9 n10 n11 n12 n13 n14 n15 n16 n17 n18 n19 q0 q1 q2 q3 q4 q5 q6 q7 q8 q9 q10 q11 q12 q13 q14 q15 q16 q17 q18 q19
  kernel_rfl
theorem fln_107 : flnG 107 := by
  intro zs sa sn sq a0 a1 a2 a3 a4 a5 a6 a7 a8 a9 a10 a11 a12 a13 a14 a15 a16 a17 a18 a19 n0 n1 n2 n3 n4 n5 n6 n7 n8 n9 n10 n11 n12 n13 n14 n15 n16 n17 n18 n19 q0 q1 q2 q3 q4 q5 q6 q7 q8 q9 q10 q11 q12 q13 q14 q15 q16 q17 q18 q19
  kernel_rfl
theorem fln_108 : flnG 108 := by
  intro zs sa sn sq a0 a1 a2 a3 a4 a5 a6 a7 a8 a9 a10 a11 a12 a13 a14 a15 a16 a17 a18 a19 n0 n1 n2 n3 n4 n5 n6 n7 n8 n9 n10 n11 n12 n13 n14 n15 n16 n17 n18 n19 q0 q1 q2 q3 q4 q5 q6 q7 q8 q9 q10 q11 q12 q13 q14 q15 q16 q17 q18 q19
  kernel_rfl
theorem fln_109 : flnG 109 := by
  intro zs sa sn sq a0 a1 a2 a3 a4 a5 a6 a7 a8 a9 a10 a11 a12 a13 a14 a15 a16 a17 a18 a19 n0 n1 n2 n3 n4 n5 n6 n7 n8 n9 n10 n11 n12 n13 n14 n15 n16 n17 n18 n19 q0 q1 q2 q3 q4 q5 q6 q7 q8 q9 q10 q11 q12 q13 q14 q15 q16 q17 q18 q19
  kernel_rfl
theorem fln_110 : flnG 110 := by
  intro zs sa sn sq a0 a1 a2 a3 a4 a5 a6 a7 a8 a9 a10 a11 a12 a13 a14 a15 a16 a17 a18 a19 n0 n1 n2 n3 n4 n5 n6 n7 n8 n9 n10 n11 n12 n13 n14 n15 n16 n17 n18 n19 q0 q1 q2 q3 q4 q5 q6 q7 q8 q9 q10 q11 q12 q13 q14 q15 q16 q17 q18 q19
  kernel_rfl
theorem fln_111 : flnG 111 := by
  intro zs sa sn sq a0 a1 a2 a3 a4 a5 a6 a7 a8 a9 a10 a11 a12 a13 a14 a15 a16 a17 a18 a19 n0 n1 n2 n3 n4 n5 n6 n7 n8 n9 n10 n11 n12 n13 n14 n15 n16 n17 n18 n19 q0 q1 q2 q3 q4 q5 q6 q7 q8 q9 q10 q11 q12 q13 q14 q15 q16 q17 q18 q19
  kernel_rfl
theorem fln_112 : flnG 112 := by
  intro zs sa sn sq a0 a1 a2 a3 a4 a5 a6 a7 a8 a9 a10 a11 a12 a13 a14 a15 a16 a17 a18 a19 n0 n1 n2 n3 n4 n5 n6 n7 n8 n9 n10 n11 n12 n13 n14 n15 n16 n17 n18 n19 q0 q1 q2 q3 q4 q5 q6 q7 q8 q9 q10 q11 q12 q13 q14 q15 q16 q17 q18 q19
  kernel_rfl
theorem fln_113 : flnG 113 := by
  intro zs sa sn sq a0 a1 a2 a3 a4 a5 a6 a7 a8 a9 a10 a11 a12 a13 a14 a15 a16 a17 a18 a19 n0 n1 n2 n3 n4 n5 n6 n7 n8 n9 n10 n11 n12 n13 n14 n15 n16 n17 n18 n19 q0 q1 q2 q3 q4 q5 q6 q7 q8 q9 q10 q11 q12 q13 q14 q15 q16 q17 q18 q19
  kernel_rfl
theorem fln_114 : flnG 114 := by
  intro zs sa sn sq a0 a1 a2 a3 a4 a5 a6 a7 a8 a9 a10 a11 a12 a13 a14 a15 a16 a17 a18 a19 n0 n1 n2 n3 n4 n5 n6 n7 n8 n9 n10 n11 n12 n13 n14 n15 n16 n17 n18 n19 q0 q1 q2 q3 q4 q5 q6 q7 q8 q9 q10 q11 q12 q13 q14 q15 q16 q17 q18 q19
  kernel_rfl
theorem fln_115 : flnG 115 := by
  intro zs sa sn sq a0 a1 a2 a3 a4 a5 a6 a7 a8 a9 a10 a11 a12 a13 a14 a15 a16 a17 a18 a19 n0 n1 n2 n3 n4 n5 n6 n7 n8 n9 n10 n11 n12 n13 n14 n15 n16 n17 n18 n19 q0 q1 q2 q3 q4 q5 q6 q7 q8 q9 q10 q11 q12 q13 q14 q15 q16 q17 q18 q19
  kernel_rfl
theorem fln_116 : flnG 116 := by
  intro zs sa sn sq a0 a1 a2 a3 a4 a5 a6 a7 a8 a9 a10 a11 a12 a13 a14 a15 a16 a17 a18 a19 n0 n1 n2 n3 n4 n5 n6 n7 n8 n9 n10 n11 n12 n13 n14 n15 n16 n17 n18 n19 q0 q1 q2 q3 q4 q5 q6 q7 q8 q9 q10 q11 q12 q13 q14 q15 q16 q17 q18 q19
  kernel_rfl
theorem fln_117 : flnG 117 := by
  intro zs sa sn sq a0 a1 a2 a3 a4 a5 a6 a7 a8 a9 a10 a11 a12 a13 a14 a15 a16 a17 a18 a19 n0 n1 n2 n3 n4 n5 n6 n7 n8 n9 n10 n11 n12 n13 n14 n15 n16 n17 n18 n19 q0 q1 q2 q3 q4 q5 q6 q7 q8 q9 q10 q11 q12 q13 q14 q15 q16 q17 q18 q19
  kernel_rfl
theorem fln_118 : flnG 118 := by
  intro zs sa sn sq a0 a1 a2 a3 a4 a5 a6 a7 a8 a9 a10 a11 a12 a13 a14 a15 a16 a17 a18 a19 n0 n1 n2 n3 n4 n5 n6 n7 n8 n9 n10 n11 n12 n13 n14 n15 n16 n17 n18 n19 q0 q1 q2 q3 q4 q5 q6 q7 q8 q9 q10 q11 q12 q13 q14 q15 q16 q17 q18 q19
  kernel_rfl
theorem fln_119 : flnG 119 := by
  intro zs sa sn sq a0 a1 a2 a3 a4 a5 a6 a7 a8 a9 a10 a11 a12 a13 a14 a15 a16 a17 a18 a19 n0 n1 n2 n3 n4 n5 n6 n7 n8 n9 n10 n11 n12 n13 n14 n15 n16 n17 n18 n19 q0 q1 q2 q3 q4 q5 q6 q7 q8 q9 q10 q11 q12 q13 q14 q15 q16 q17 q18 q19
  kernel_rfl
theorem fln_120 : flnG 120 := by
  intro zs sa sn sq a0 a1 a2 a3 a4 a5 a6 a7 a8 a9 a10 a11 a12 a13 a14 a15 a16 a17 a18 a19 n0 n1 n2 n3 n4 n5 n6 n7 n8 n9 n10 n11 n12 n13 n14 n15 n16 n17 n18 n19 q0 q1 q2 q3 q4 q5 q6 q7 q8 q9 q10 q11 q12 q13 q14 q15 q16 q17 q18 q19
  kernel_rfl
theorem fln_121 : flnG 121 := by
  intro zs sa sn sq a0 a1 a2 a3 a4 a5 a6 a7 a8 a9 a10 a11 a12 a13 a14 a15 a16 a17 a18 a19 n0 n1 n2 n3 n4 n5 n6 n7 n8 n9 n10 n11 n12 n13 n14 n15 n16 n17 n18 n19 q0 q1 q2 q3 q4 q5 q6 q7 q8 q9 q10 q11 q12 q13 q14 q15 q16 q17 q18 q19
  kernel_rfl
theorem fln_122 : flnG 122 := by
  intro zs sa sn sq a0 a1 a2 a3 a4 a5 a6 a7 a8 a9 a10 a11 a12 a13 a14 a15 a16 a17 a18 a19 n0 n1 n2 n3 n4 n5 n6 n7 n8 n9 n10 n11 n12 n13 n14 n15 n16 n17 n18 n19 q0 q1 q2 q3 q4 q5 q6 q7 q8 q9 q10 q11 q12 q13 q14 q15 q16 q17 q18 q19
  kernel_rfl
theorem fln_123 : flnG 123 := by
  intro zs sa sn sq a0 a1 a2 a3 a4 a5 a6 a7 a8 a9 a10 a11 a12 a13 a14 a15 a16 a17 a18 a19 n0 n1 n2 n3 n4 n5 n6 n7 n8 n9 n10 n11 n12 n13 n14 n15 n16 n17 n18 n19 q0 q1 q2 q3 q4 q5 q6 q7 q8 q9 q10 q11 q12 q13 q14 q15 q16 q17 q18 q19
  kernel_rfl
theorem fln_124 : flnG 124 := by
  intro zs sa sn sq a0 a1 a2 a3 a4 a5 a6 a7 a8 a9 a10 a11 a12 a13 a14 a15 a16 a17 a18 a19 n0 n1 n2 n3 n4 n5 n6 n7 n8 n9 n10 n11 n12 n13 n14 n15 n16 n17 n18 n19 q0 q1 q2 q3 q4 q5 q6 q7 q8 q9 q10 q11 q12 q13 q14 q15 q16 q17 q18 q19
  kernel_rfl
theorem fln_125 : flnG 125 := by
  intro zs sa sn sq a0 a1 a2 a3 a4 a5 a6 a7 a8 a9 a10 a11 a12 a13 a14 a15 a16 a17 a18 a19 n0 n1 n2 n3 n4 n5 n6 n7 n8 n9 n10 n11 n12 n13 n14 n15 n16 n17 n18 n19 q0 q1 q2 q3 q4 q5 q6 q7 q8 q9 q10 q11 q12 q13 q14 q15 q16 q17 q18 q19
  kernel_rfl
theorem fln_126 : flnG 126 := by
  intro zs sa sn sq a0 a1 a2 a3 a4 a5 a6 a7 a8 a9 a10 a11 a12 a13 a14 a15 a16 a17 a18 a19 n0 n1 n2 n3 n4 n5 n6 n7 n8 n9 n10 n11 n12 n13 n14 n15 n16 n17 n18 n19 q0 q1 q2 q3 q4 q5 q6 q7 q8 q9 q10 q11 q12 q13 q14 q15 q16 q17 q18 q19
  kernel_rfl
theorem fln_127 : flnG 127 := by
  intro zs sa sn sq a0 a1 a2 a3 a4 a5 a6 a7 a8 a9 a10 a11 a12 a13 a14 a15 a16 a17 a18 a19 n0 n1 n2 n3 n4 n5 n6 n7 n8 n9 n10 n11 n12 n13 n14 n15 n16 n17 n18 n19 q0 q1 q2 q3 q4 q5 q6 q7 q8 q9 q10 q11 q12 q13 q14 q15 q16 q17 q18 q19
  kernel_rfl
theorem fln_128 : flnG 128 := by
  intro zs sa sn sq a0 a1 a2 a3 a4 a5 a6 a7 a8 a9 a10 a11 a12 a13 a14 a15 a16 a17 a18 a19 n0 n1 n2 n3 n4 n5 n6 n7 n8 n9 n10 n11 n12 n13 n14 n15 n16 n17 n18 n19 q0 q1 q2 q3 q4 q5 q6 q7 q8 q9 q10 q11 q12 q13 q14 q15 q16 q17 q18 q19
  kernel_rfl
theorem fln_129 : flnG 129 := by
  intro zs sa sn sq a0 a1 a2 a3 a4 a5 a6 a7 a8 a9 a10 a11 a12 a13 a14 a15 a16 a17 a18 a19 n0 n1 n2 n3 n4 n5 n6 n7 n8 n9 n10 n11 n12 n13 n14 n15 n16 n17 n18 n19 q0 q1 q2 q3 q4 q5 q6 q7 q8 q9 q10 q11 q12 q13 q14 q15 q16 q17 q18 q19
  kernel_rfl
end
end Go.Proofs.Ytbhgibpocbmipaa


/-
  All rounds of the document's quotient; its loops.
-/
namespace Go.Proofs.Ytbhgibpocbmipaa
open Go.Den Go.RowKit
noncomputable section
set_option maxRecDepth 100000
theorem upto_s {P : Nat → Prop} {n : Nat} (h : ∀ k, k < n → P k) (hn : P n) : ∀ k, k < n + 1 → P k := fun k hk => by
  rcases Nat.lt_succ_iff_lt_or_eq.1 hk with h1 | rfl
  · exact h k h1
  · exact hn
theorem upto_0 {P : Nat → Prop} : ∀ k, k < 0 → P k := fun k h => absurd h (Nat.not_lt_zero k)
theorem flp_u0 : ∀ k, k < 0 → flpG k := upto_0
theorem flp_u1 : ∀ k, k < 1 → flpG k := upto_s flp_u0 flp_0
theorem flp_u2 : ∀ k, k < 2 → flpG k := upto_s flp_u1 flp_1
theorem flp_u3 : ∀ k, k < 3 → flpG k := upto_s flp_u2 flp_2
theorem flp_u4 : ∀ k, k < 4 → flpG k := upto_s flp_u3 flp_3
theorem flp_u5 : ∀ k, k < 5 → flpG k := upto_s flp_u4 flp_4
theorem flp_u6 : ∀ k, k < 6 → flpG k := upto_s flp_u5 flp_5
theorem flp_u7 : ∀ k, k < 7 → flpG k := upto_s flp_u6 flp_6
theorem flp_u8 : ∀ k, k < 8 → flpG k := upto_s flp_u7 flp_7
theorem flp_u9 : ∀ k, k < 9 → flpG k := upto_s flp_u8 flp_8
theorem flp_u10 : ∀ k, k < 10 → flpG k := upto_s flp_u9 flp_9
theorem flp_u11 : ∀ k, k < 11 → flpG k := upto_s flp_u10 flp_10
theorem flp_u12 : ∀ k, k < 12 → flpG k := upto_s flp_u11 flp_11
theorem flp_u13 : ∀ k, k < 13 → flpG k := upto_s flp_u12 flp_12
theorem flp_u14 : ∀ k, k < 14 → flpG k := upto_s flp_u13 flp_13
theorem flp_u15 : ∀ k, k < 15 → flpG k := upto_s flp_u14 flp_14
theorem flp_u16 : ∀ k, k < 16 → flpG k := upto_s flp_u15 flp_15
theorem flp_u17 : ∀ k, k < 17 → flpG k := upto_s flp_u16 flp_16
theorem flp_u18 : ∀ k, k < 18 → flpG k := upto_s flp_u17 flp_17
theorem flp_u19 : ∀ k, k < 19 → flpG k := upto_s flp_u18 flp_18
theorem flp_u20 : ∀ k, k < 20 → flpG k := upto_s flp_u19 flp_19
theorem flp_u21 : ∀ k, k < 21 → flpG k := upto_s flp_u20 flp_20
theorem flp_u22 : ∀ k, k < 22 → flpG k := upto_s flp_u21 flp_21
theorem flp_u23 : ∀ k, k < 23 → flpG k := upto_s flp_u22 flp_22
theorem flp_u24 : ∀ k, k < 24 → flpG k := upto_s flp_u23 flp_23
theorem flp_u25 : ∀ k, k < 25 → flpG k := upto_s flp_u24 flp_24
theorem flp_u26 : ∀ k, k < 26 → flpG k := upto_s flp_u25 flp_25
theorem flp_u27 : ∀ k, k < 27 → flpG k := upto_s flp_u26 flp_26
theorem flp_u28 : ∀ k, k < 28 → flpG k := upto_s flp_u27 flp_27
theorem flp_u29 : ∀ k, k < 29 → flpG k := upto_s flp_u28 flp_28
theorem flp_u30 : ∀ k, k < 30 → flpG k := upto_s flp_u29 flp_29
theorem flp_u31 : ∀ k, k < 31 → flpG k := upto_s flp_u30 flp_30
theorem flp_u32 : ∀ k, k < 32 → flpG k := upto_s flp_u31 flp_31
theorem flp_u33 : ∀ k, k < 33 → flpG k := upto_s flp_u32 flp_32
theorem flp_u34 : ∀ k, k < 34 → flpG k := upto_s flp_u33 flp_33
theorem flp_u35 : ∀ k, k < 35 → flpG k := upto_s flp_u34 flp_34
theorem flp_u36 : ∀ k, k < 36 → flpG k := upto_s flp_u35 flp_35
theorem flp_u37 : ∀ k, k < 37 → flpG k := upto_s flp_u36 flp_36
theorem flp_u38 : ∀ k, k < 38 → flpG k := upto_s flp_u37 flp_37
theorem flp_u39 : ∀ k, k < 39 → flpG k := upto_s flp_u38 flp_38
theorem flp_u40 : ∀ k, k < 40 → flpG k := upto_s flp_u39 flp_39
theorem flp_u41 : ∀ k, k < 41 → flpG k := upto_s flp_u40 flp_40
theorem flp_u42 : ∀ k, k < 42 → flpG k := upto_s flp_u41 flp_41
theorem flp_u43 : ∀ k, k < 43 → flpG k := upto_s flp_u42 flp_42
theorem flp_u44 : ∀ k, k < 44 → flpG k := upto_s flp_u43 flp_43
theorem flp_u45 : ∀ k, k < 45 → flpG k := upto_s flp_u44 flp_44
theorem flp_u46 : ∀ k, k < 46 → flpG k := upto_s flp_u45 flp_45
theorem flp_u47 : ∀ k, k < 47 → flpG k := upto_s flp_u46 flp_46
theorem flp_u48 : ∀ k, k < 48 → flpG k := upto_s flp_u47 flp_47
theorem flp_u49 : ∀ k, k < 49 → flpG k := upto_s flp_u48 flp_48
theorem flp_u50 : ∀ k, k < 50 → flpG k := upto_s flp_u49 flp_49
theorem flp_u51 : ∀ k, k < 51 → flpG k := upto_s flp_u50 flp_50
theorem flp_u52 : ∀ k, k < 52 → flpG k := upto_s flp_u51 flp_51
theorem flp_u53 : ∀ k, k < 53 → flpG k := upto_s flp_u52 flp_52
theorem flp_u54 : ∀ k, k < 54 → flpG k := upto_s flp_u53 flp_53
theorem flp_u55 : ∀ k, k < 55 → flpG k := upto_s flp_u54 flp_54
theorem flp_u56 : ∀ k, k < 56 → flpG k := upto_s flp_u55 flp_55
theorem flp_u57 : ∀ k, k < 57 → flpG k := upto_s flp_u56 flp_56
theorem flp_u58 : ∀ k, k < 58 → flpG k := upto_s flp_u57 flp_57
theorem flp_u59 : ∀ k, k < 59 → flpG k := upto_s flp_u58 flp_58
theorem flp_u60 : ∀ k, k < 60 → flpG k := upto_s flp_u59 flp_59
theorem flp_u61 : ∀ k, k < 61 → flpG k := upto_s flp_u60 flp_60
theorem flp_u62 : ∀ k, k < 62 → flpG k := upto_s flp_u61 flp_61
theorem flp_u63 : ∀ k, k < 63 → flpG k := upto_s flp_u62 flp_62
theorem flp_u64 : ∀ k, k < 64 → flpG k := upto_s flp_u63 flp_63
theorem flp_u65 : ∀ k, k < 65 → flpG k := upto_s flp_u64 flp_64
theorem flp_u66 : ∀ k, k < 66 → flpG k := upto_s flp_u65 flp_65
theorem flp_u67 : ∀ k, k < 67 → flpG k := upto_s flp_u66 flp_66
theorem flp_u68 : ∀ k, k < 68 → flpG k := upto_s flp_u67 flp_67
theorem flp_u69 : ∀ k, k < 69 → flpG k := upto_s flp_u68 flp_68
theorem flp_u70 : ∀ k, k < 70 → flpG k := upto_s flp_u69 flp_69
theorem flp_u71 : ∀ k, k < 71 → flpG k := upto_s flp_u70 flp_70
theorem flp_u72 : ∀ k, k < 72 → flpG k := upto_s flp_u71 flp_71
theorem flp_u73 : ∀ k, k < 73 → flpG k := upto_s flp_u72 flp_72
theorem flp_u74 : ∀ k, k < 74 → flpG k := upto_s flp_u73 flp_73
theorem flp_u75 : ∀ k, k < 75 → flpG k := upto_s flp_u74 flp_74
theorem flp_u76 : ∀ k, k < 76 → flpG k := upto_s flp_u75 flp_75
theorem flp_u77 : ∀ k, k < 77 → flpG k := upto_s flp_u76 flp_76
theorem flp_u78 : ∀ k, k < 78 → flpG k := upto_s flp_u77 flp_77
theorem flp_u79 : ∀ k, k < 79 → flpG k := upto_s flp_u78 flp_78
theorem flp_u80 : ∀ k, k < 80 → flpG k := upto_s flp_u79 flp_79
theorem flp_u81 : ∀ k, k < 81 → flpG k := upto_s flp_u80 flp_80
theorem flp_u82 : ∀ k, k < 82 → flpG k := upto_s flp_u81 flp_81
theorem flp_u83 : ∀ k, k < 83 → flpG k := upto_s flp_u82 flp_82
theorem flp_u84 : ∀ k, k < 84 → flpG k := upto_s flp_u83 flp_83
theorem flp_u85 : ∀ k, k < 85 → flpG k := upto_s flp_u84 flp_84
theorem flp_u86 : ∀ k, k < 86 → flpG k := upto_s flp_u85 flp_85
theorem flp_u87 : ∀ k, k < 87 → flpG k := upto_s flp_u86 flp_86
theorem flp_u88 : ∀ k, k < 88 → flpG k := upto_s flp_u87 flp_87
theorem flp_u89 : ∀ k, k < 89 → flpG k := upto_s flp_u88 flp_88
theorem flp_u90 : ∀ k, k < 90 → flpG k := upto_s flp_u89 flp_89
theorem flp_u91 : ∀ k, k < 91 → flpG k := upto_s flp_u90 flp_90
theorem flp_u92 : ∀ k, k < 92 → flpG k := upto_s flp_u91 flp_91
theorem flp_u93 : ∀ k, k < 93 → flpG k := upto_s flp_u92 flp_92
theorem flp_u94 : ∀ k, k < 94 → flpG k := upto_s flp_u93 flp_93
theorem flp_u95 : ∀ k, k < 95 → flpG k := upto_s flp_u94 flp_94
theorem flp_u96 : ∀ k, k < 96 → flpG k := upto_s flp_u95 flp_95
theorem flp_u97 : ∀ k, k < 97 → flpG k := upto_s flp_u96 flp_96
theorem flp_u98 : ∀ k, k < 98 → flpG k := upto_s flp_u97 flp_97
theorem flp_u99 : ∀ k, k < 99 → flpG k := upto_s flp_u98 flp_98
theorem flp_u100 : ∀ k, k < 100 → flpG k := upto_s flp_u99 flp_99
theorem flp_u101 : ∀ k, k < 101 → flpG k := upto_s flp_u100 flp_100
theorem flp_u102 : ∀ k, k < 102 → flpG k := upto_s flp_u101 flp_101
theorem flp_u103 : ∀ k, k < 103 → flpG k := upto_s flp_u102 flp_102
theorem flp_u104 : ∀ k, k < 104 → flpG k := upto_s flp_u103 flp_103
theorem flp_u105 : ∀ k, k < 105 → flpG k := upto_s flp_u104 flp_104
theorem flp_u106 : ∀ k, k < 106 → flpG k := upto_s flp_u105 flp_105
theorem flp_u107 : ∀ k, k < 107 → flpG k := upto_s flp_u106 flp_106
theorem flp_u108 : ∀ k, k < 108 → flpG k := upto_s flp_u107 flp_107
theorem flp_u109 : ∀ k, k < 109 → flpG k := upto_s flp_u108 flp_108
theorem flp_u110 : ∀ k, k < 110 → flpG k := upto_s flp_u109 flp_109
theorem flp_u111 : ∀ k, k < 111 → flpG k := upto_s flp_u110 flp_110
theorem flp_u112 : ∀ k, k < 112 → flpG k := upto_s flp_u111 flp_111
theorem flp_u113 : ∀ k, k < 113 → flpG k := upto_s flp_u112 flp_112
theorem flp_u114 : ∀ k, k < 114 → flpG k := upto_s flp_u113 flp_113
theorem flp_u115 : ∀ k, k < 115 → flpG k := upto_s flp_u114 flp_114
theorem flp_u116 : ∀ k, k < 116 → flpG k := upto_s flp_u115 flp_115
theorem flp_u117 : ∀ k, k < 117 → flpG k := upto_s flp_u116 flp_116
theorem flp_u118 : ∀ k, k < 118 → flpG k := upto_s flp_u117 flp_117
theorem flp_u119 : ∀ k, k < 119 → flpG k := upto_s flp_u118 flp_118
theorem flp_u120 : ∀ k, k < 120 → flpG k := upto_s flp_u119 flp_119
theorem flp_u121 : ∀ k, k < 121 → flpG k := upto_s flp_u120 flp_120
theorem flp_u122 : ∀ k, k < 122 → flpG k := upto_s flp_u121 flp_121
theorem flp_u123 : ∀ k, k < 123 → flpG k := upto_s flp_u122 flp_122
theorem flp_u124 : ∀ k, k < 124 → flpG k := upto_s flp_u123 flp_123
theorem flp_u125 : ∀ k, k < 125 → flpG k := upto_s flp_u124 flp_124
theorem flp_u126 : ∀ k, k < 126 → flpG k := upto_s flp_u125 flp_125
theorem flp_u127 : ∀ k, k < 127 → flpG k := upto_s flp_u126 flp_126
theorem flp_u128 : ∀ k, k < 128 → flpG k := upto_s flp_u127 flp_127
theorem flp_u129 : ∀ k, k < 129 → flpG k := upto_s flp_u128 flp_128
theorem flp_u130 : ∀ k, k < 130 → flpG k := upto_s flp_u129 flp_129
theorem fln_u0 : ∀ k, k < 0 → flnG k := upto_0
theorem fln_u1 : ∀ k, k < 1 → flnG k := upto_s fln_u0 fln_0
theorem fln_u2 : ∀ k, k < 2 → flnG k := upto_s fln_u1 fln_1
theorem fln_u3 : ∀ k, k < 3 → flnG k := upto_s fln_u2 fln_2
theorem fln_u4 : ∀ k, k < 4 → flnG k := upto_s fln_u3 fln_3
theorem fln_u5 : ∀ k, k < 5 → flnG k := upto_s fln_u4 fln_4
theorem fln_u6 : ∀ k, k < 6 → flnG k := upto_s fln_u5 fln_5
theorem fln_u7 : ∀ k, k < 7 → flnG k := upto_s fln_u6 fln_6
theorem fln_u8 : ∀ k, k < 8 → flnG k := upto_s fln_u7 fln_7
theorem fln_u9 : ∀ k, k < 9 → flnG k := upto_s fln_u8 fln_8
theorem fln_u10 : ∀ k, k < 10 → flnG k := upto_s fln_u9 fln_9
theorem fln_u11 : ∀ k, k < 11 → flnG k := upto_s fln_u10 fln_10
theorem fln_u12 : ∀ k, k < 12 → flnG k := upto_s fln_u11 fln_11
theorem fln_u13 : ∀ k, k < 13 → flnG k := upto_s fln_u12 fln_12
theorem fln_u14 : ∀ k, k < 14 → flnG k := upto_s fln_u13 fln_13
theorem fln_u15 : ∀ k, k < 15 → flnG k := upto_s fln_u14 fln_14
theorem fln_u16 : ∀ k, k < 16 → flnG k := upto_s fln_u15 fln_15
theorem fln_u17 : ∀ k, k < 17 → flnG k := upto_s fln_u16 fln_16
theorem fln_u18 : ∀ k, k < 18 → flnG k := upto_s fln_u17 fln_17
theorem fln_u19 : ∀ k, k < 19 → flnG k := upto_s fln_u18 fln_18
theorem fln_u20 : ∀ k, k < 20 → flnG k := upto_s fln_u19 fln_19
theorem fln_u21 : ∀ k, k < 21 → flnG k := upto_s fln_u20 fln_20
theorem fln_u22 : ∀ k, k < 22 → flnG k := upto_s fln_u21 fln_21
theorem fln_u23 : ∀ k, k < 23 → flnG k := upto_s fln_u22 fln_22
theorem fln_u24 : ∀ k, k < 24 → flnG k := upto_s fln_u23 fln_23
theorem fln_u25 : ∀ k, k < 25 → flnG k := upto_s fln_u24 fln_24
theorem fln_u26 : ∀ k, k < 26 → flnG k := upto_s fln_u25 fln_25
theorem fln_u27 : ∀ k, k < 27 → flnG k := upto_s fln_u26 fln_26
theorem fln_u28 : ∀ k, k < 28 → flnG k := upto_s fln_u27 fln_27
theorem fln_u29 : ∀ k, k < 29 → flnG k := upto_s fln_u28 fln_28
theorem fln_u30 : ∀ k, k < 30 → flnG k := upto_s fln_u29 fln_29
theorem fln_u31 : ∀ k, k < 31 → flnG k := upto_s fln_u30 fln_30
theorem fln_u32 : ∀ k, k < 32 → flnG k := upto_s fln_u31 fln_31
theorem fln_u33 : ∀ k, k < 33 → flnG k := upto_s fln_u32 fln_32
theorem fln_u34 : ∀ k, k < 34 → flnG k := upto_s fln_u33 fln_33
theorem fln_u35 : ∀ k, k < 35 → flnG k := upto_s fln_u34 fln_34
theorem fln_u36 : ∀ k, k < 36 → flnG k := upto_s fln_u35 fln_35
theorem fln_u37 : ∀ k, k < 37 → flnG k := upto_s fln_u36 fln_36
theorem fln_u38 : ∀ k, k < 38 → flnG k := upto_s fln_u37 fln_37
theorem fln_u39 : ∀ k, k < 39 → flnG k := upto_s fln_u38 fln_38
theorem fln_u40 : ∀ k, k < 40 → flnG k := upto_s fln_u39 fln_39
theorem fln_u41 : ∀ k, k < 41 → flnG k := upto_s fln_u40 fln_40
theorem fln_u42 : ∀ k, k < 42 → flnG k := upto_s fln_u41 fln_41
theorem fln_u43 : ∀ k, k < 43 → flnG k := upto_s fln_u42 fln_42
theorem fln_u44 : ∀ k, k < 44 → flnG k := upto_s fln_u43 fln_43
theorem fln_u45 : ∀ k, k < 45 → flnG k := upto_s fln_u44 fln_44
theorem fln_u46 : ∀ k, k < 46 → flnG k := upto_s fln_u45 fln_45
theorem fln_u47 : ∀ k, k < 47 → flnG k := upto_s fln_u46 fln_46
theorem fln_u48 : ∀ k, k < 48 → flnG k := upto_s fln_u47 fln_47
theorem fln_u49 : ∀ k, k < 49 → flnG k := upto_s fln_u48 fln_48
theorem fln_u50 : ∀ k, k < 50 → flnG k := upto_s fln_u49 fln_49
theorem fln_u51 : ∀ k, k < 51 → flnG k := upto_s fln_u50 fln_50
theorem fln_u52 : ∀ k, k < 52 → flnG k := upto_s fln_u51 fln_51
theorem fln_u53 : ∀ k, k < 53 → flnG k := upto_s fln_u52 fln_52
theorem fln_u54 : ∀ k, k < 54 → flnG k := upto_s fln_u53 fln_53
theorem fln_u55 : ∀ k, k < 55 → flnG k := upto_s fln_u54 fln_54
theorem fln_u56 : ∀ k, k < 56 → flnG k := upto_s fln_u55 fln_55
theorem fln_u57 : ∀ k, k < 57 → flnG k := upto_s fln_u56 fln_56
theorem fln_u58 : ∀ k, k < 58 → flnG k := upto_s fln_u57 fln_57
theorem fln_u59 : ∀ k, k < 59 → flnG k := upto_s fln_u58 fln_58
theorem fln_u60 : ∀ k, k < 60 → flnG k := upto_s fln_u59 fln_59
theorem fln_u61 : ∀ k, k < 61 → flnG k := upto_s fln_u60 fln_60
theorem fln_u62 : ∀ k, k < 62 → flnG k := upto_s fln_u61 fln_61
theorem fln_u63 : ∀ k, k < 63 → flnG k := upto_s fln_u62 fln_62
theorem fln_u64 : ∀ k, k < 64 → flnG k := upto_s fln_u63 fln_63
theorem fln_u65 : ∀ k, k < 65 → flnG k := upto_s fln_u64 fln_64
theorem fln_u66 : ∀ k, k < 66 → flnG k := upto_s fln_u65 fln_65
theorem fln_u67 : ∀ k, k < 67 → flnG k := upto_s fln_u66 fln_66
theorem fln_u68 : ∀ k, k < 68 → flnG k := upto_s fln_u67 fln_67
theorem fln_u69 : ∀ k, k < 69 → flnG k := upto_s fln_u68 fln_68
theorem fln_u70 : ∀ k, k < 70 → flnG k := upto_s fln_u69 fln_69
theorem fln_u71 : ∀ k, k < 71 → flnG k := upto_s fln_u70 fln_70
theorem fln_u72 : ∀ k, k < 72 → flnG k := upto_s fln_u71 fln_71
theorem fln_u73 : ∀ k, k < 73 → flnG k := upto_s fln_u72 fln_72
theorem fln_u74 : ∀ k, k < 74 → flnG k := upto_s fln_u73 fln_73
theorem fln_u75 : ∀ k, k < 75 → flnG k := upto_s fln_u74 fln_74
theorem fln_u76 : ∀ k, k < 76 → flnG k := upto_s fln_u75 fln_75
theorem fln_u77 : ∀ k, k < 77 → flnG k := upto_s fln_u76 fln_76
theorem fln_u78 : ∀ k, k < 78 → flnG k := upto_s fln_u77 fln_77
theorem fln_u79 : ∀ k, k < 79 → flnG k := upto_s fln_u78 fln_78
theorem fln_u80 : ∀ k, k < 80 → flnG k := upto_s fln_u79 fln_79
theorem fln_u81 : ∀ k, k < 81 → flnG k := upto_s fln_u80 fln_80
theorem fln_u82 : ∀ k, k < 82 → flnG k := upto_s fln_u81 fln_81
theorem fln_u83 : ∀ k, k < 83 → flnG k := upto_s fln_u82 fln_82
theorem fln_u84 : ∀ k, k < 84 → flnG k := upto_s fln_u83 fln_83
theorem fln_u85 : ∀ k, k < 85 → flnG k := upto_s fln_u84 fln_84
theorem fln_u86 : ∀ k, k < 86 → flnG k := upto_s fln_u85 fln_85
theorem fln_u87 : ∀ k, k < 87 → flnG k := upto_s fln_u86 fln_86
theorem fln_u88 : ∀ k, k < 88 → flnG k := upto_s fln_u87 fln_87
theorem fln_u89 : ∀ k, k < 89 → flnG k := upto_s fln_u88 fln_88
theorem fln_u90 : ∀ k, k < 90 → flnG k := upto_s fln_u89 fln_89
theorem fln_u91 : ∀ k, k < 91 → flnG k := upto_s fln_u90 fln_90
theorem fln_u92 : ∀ k, k < 92 → flnG k := upto_s fln_u91 fln_91
theorem fln_u93 : ∀ k, k < 93 → flnG k := upto_s fln_u92 fln_92
theorem fln_u94 : ∀ k, k < 94 → flnG k := upto_s fln_u93 fln_93
theorem fln_u95 : ∀ k, k < 95 → flnG k := upto_s fln_u94 fln_94
theorem fln_u96 : ∀ k, k < 96 → flnG k := upto_s fln_u95 fln_95
theorem fln_u97 : ∀ k, k < 97 → flnG k := upto_s fln_u96 fln_96
theorem fln_u98 : ∀ k, k < 98 → flnG k := upto_s fln_u97 fln_97
theorem fln_u99 : ∀ k, k < 99 → flnG k := upto_s fln_u98 fln_98
theorem fln_u100 : ∀ k, k < 100 → flnG k := upto_s fln_u99 fln_99
theorem fln_u101 : ∀ k, k < 101 → flnG k := upto_s fln_u100 fln_100
theorem fln_u102 : ∀ k, k < 102 → flnG k := upto_s fln_u101 fln_101
theorem fln_u103 : ∀ k, k < 103 → flnG k := upto_s fln_u102 fln_102
theorem fln_u104 : ∀ k, k < 104 → flnG k := upto_s fln_u103 fln_103
theorem fln_u105 : ∀ k, k < 105 → flnG k := upto_s fln_u104 fln_104
theorem fln_u106 : ∀ k, k < 106 → flnG k := upto_s fln_u105 fln_105
theorem fln_u107 : ∀ k, k < 107 → flnG k := upto_s fln_u106 fln_106
theorem fln_u108 : ∀ k, k < 108 → flnG k := upto_s fln_u107 fln_107
theorem fln_u109 : ∀ k, k < 109 → flnG k := upto_s fln_u108 fln_108
theorem fln_u110 : ∀ k, k < 110 → flnG k := upto_s fln_u109 fln_109
theorem fln_u111 : ∀ k, k < 111 → flnG k := upto_s fln_u110 fln_110
theorem fln_u112 : ∀ k, k < 112 → flnG k := upto_s fln_u111 fln_111
theorem fln_u113 : ∀ k, k < 113 → flnG k := upto_s fln_u112 fln_112
theorem fln_u114 : ∀ k, k < 114 → flnG k := upto_s fln_u113 fln_113
theorem fln_u115 : ∀ k, k < 115 → flnG k := upto_s fln_u114 fln_114
theorem fln_u116 : ∀ k, k < 116 → flnG k := upto_s fln_u115 fln_115
theorem fln_u117 : ∀ k, k < 117 → flnG k := upto_s fln_u116 fln_116
theorem fln_u118 : ∀ k, k < 118 → flnG k := upto_s fln_u117 fln_117
theorem fln_u119 : ∀ k, k < 119 → flnG k := upto_s fln_u118 fln_118
theorem fln_u120 : ∀ k, k < 120 → flnG k := upto_s fln_u119 fln_119
theorem fln_u121 : ∀ k, k < 121 → flnG k := upto_s fln_u120 fln_120
theorem fln_u122 : ∀ k, k < 122 → flnG k := upto_s fln_u121 fln_121
theorem fln_u123 : ∀ k, k < 123 → flnG k := upto_s fln_u122 fln_122
theorem fln_u124 : ∀ k, k < 124 → flnG k := upto_s fln_u123 fln_123
theorem fln_u125 : ∀ k, k < 125 → flnG k := upto_s fln_u124 fln_124
theorem fln_u126 : ∀ k, k < 126 → flnG k := upto_s fln_u125 fln_125
theorem fln_u127 : ∀ k, k < 127 → flnG k := upto_s fln_u126 fln_126
theorem fln_u128 : ∀ k, k < 128 → flnG k := upto_s fln_u127 fln_127
theorem fln_u129 : ∀ k, k < 129 → flnG k := upto_s fln_u128 fln_128
theorem fln_u130 : ∀ k, k < 130 → flnG k := upto_s fln_u129 fln_129
theorem flpB_ok : cok flpB = true := by kernel_rfl
theorem flpL_eq : flpL = .loop flpB := by kernel_rfl
theorem flp_end (nx : Nat) (zs : List Value) (sa sn sq : Bool) (a n q : List Int) : ((ev envF1 100).code [] flpB (flP 0 nx zs sa sn sq a n q)).run =
    some (.exit 4, flP 0 nx (tlOf (outOf ((ev envF1 100).code [] flpB (flP 0 nx zs sa sn sq a n q))).2) sa sn sq a n q) := by kernel_rfl
theorem flp_stop (nx : Nat) (zs : List Value) (sa sn sq : Bool) (a n q : List Int) : ∃ z, SatCode Try.prog [] flpB (flP 0 nx zs sa sn sq a n q) (.exit 4) (flP 0 nx z sa sn sq a n q) :=
  ⟨_, sat_read envF1 hcokP 100 (r := (.exit 4, _)) flpB_ok (flp_end nx zs sa sn sq a n q)⟩
theorem flp_of {k : Nat} {zs : List Value} {sa sn sq : Bool} {a n q : List Int} {x : Exit} {s : St} (h : (flpT k zs sa sn sq a n q).run = some (x, s)) :
    SatCode Try.prog [] flpB (flP (k + 1) (B0 + (133 - k)) zs sa sn sq a n q) x s := sat_read envF1 hcokP 100 (r := (x, s)) flpB_ok h
set_option maxHeartbeats 1000000 in
theorem flp_round {k : Nat} (hk : k < 130) (zs : List Value) {sa sn sq : Bool} {a n q : List Int} (ha : a.length = 20) (hn : n.length = 20) (hq : q.length = 20)
    (g1 : (okNum (mapU (addP q k)) && (okNum (mapU n) && decide (mag (mapU (addP q k)) * mag (mapU n) < T320))) = true) (g2 : (okNum (mapU (digsN 20 (mag (mapU (addP q k)) * mag (mapU n)))) && okNum (mapU a)) = true) {c : Bool}
    (hc : decide (cmpI (sv (sq != sn) (mag (mapU (digsN 20 (mag (mapU (addP q k)) * mag (mapU n)))))) (sv sa (mag (mapU a))) ≤ 0) = c) :
    ∃ z, SatCode Try.prog [] flpB (flP (k + 1) (B0 + (133 - k)) zs sa sn sq a n q) .normal (flpX k z sa sn sq a n (bif c then addP q k else q) (addP q k)) := by
  obtain ⟨a0, a1, a2, a3, a4, a5, a6, a7, a8, a9, a10, a11, a12, a13, a14, a15, a16, a17, a18, a19, rfl⟩ := list20 ha
  obtain ⟨n0, n1, n2, n3, n4, n5, n6, n7, n8, n9, n10, n11, n12, n13, n14, n15, n16, n17, n18, n19, rfl⟩ := list20 hn
  obtain ⟨q0, q1, q2, q3, q4, q5, q6, q7, q8, q9, q10, q11, q12, q13, q14, q15, q16, q17, q18, q19, rfl⟩ := list20 hq
  have h := flp_u130 k hk zs sa sn sq a0 a1 a2 a3 a4 a5 a6 a7 a8 a9 a10 a11 a12 a13 a14 a15 a16 a17 a18 a19 n0 n1 n2 n3 n4 n5 n6 n7 n8 n9 n10 n11 n12 n13 n14 n15 n16 n17 n18 n19 q0 q1 q2 q3 q4 q5 q6 q7 q8 q9 q10 q11 q12 q13 q14 q15 q16 q17 q18 q19
  rw [g1, g2, hc] at h
  cases c
  · simp only [cond_true, cond_false] at h ⊢
    exact ⟨_, flp_of h⟩
  · simp only [cond_true] at h ⊢
    exact ⟨_, flp_of h⟩
theorem flp_t0 (k nx : Nat) (z : List Value) (sa sn sq : Bool) (a n q2 q3 : List Int) : (flP k nx z sa sn sq a n q2).tmps = (flpX k z sa sn sq a n q2 q3).tmps := by kernel_rfl
theorem flp_t1 (k : Nat) (z : List Value) (sa sn sq : Bool) (a n q2 q3 : List Int) : (flP k (B0 + (134 - k)) z sa sn sq a n q2).nx = (flpX k z sa sn sq a n q2 q3).nx := by kernel_rfl
theorem flp_t2 (k nx : Nat) (z : List Value) (sa sn sq : Bool) (a n q2 q3 : List Int) : (flpX k z sa sn sq a n q2 q3).h = (flP k nx z sa sn sq a n q2).h ++ [(B0 + (133 - k), blkN sq q3)] := by kernel_rfl
theorem flp_tail {k : Nat} {z : List Value} {sa sn sq : Bool} {a n q2 q3 : List Int} {x : Exit} {s : St} (h : SatCode Try.prog [] flpL (flP k (B0 + (134 - k)) z sa sn sq a n q2) x s) : SatCode Try.prog [] flpL (flpX k z sa sn sq a n q2 q3) x s := by
  refine sat_drop (flp_t0 k _ z sa sn sq a n q2 q3) (flp_t1 k z sa sn sq a n q2 q3) (fun b B hb => ?_) h
  rw [flp_t2 k (B0 + (134 - k)), AHeap.get_append, hb]; rfl
theorem flp_loop {a n : List Int} (ha : a.length = 20) (pa : Pcs a) (hn : n.length = 20) (pn : Pcs n) (n1 : val n ≤ 18446744073709551616) : ∀ (m : Nat), m ≤ 130 → ∀ (zs : List Value) (q : List Int), UpTo (val a) (val n) m q →
    ∃ z q', SatCode Try.prog [] flpL (flP m (B0 + (134 - m)) zs false false false a n q) (.exit 4) (flP 0 (B0 + 134) z false false false a n q') ∧ UpTo (val a) (val n) 0 q'
  | 0, _, zs, q, h => by
    obtain ⟨z, hz⟩ := flp_stop (B0 + 134) zs false false false a n q
    exact ⟨z, q, sat_loop_exit flpL_eq hz, h⟩
  | k + 1, hk, zs, q, h => by
    have hk' : k < 130 := by omega
    obtain ⟨⟨s1, s2, s3⟩, s4, s5⟩ := h.step hk'
    have pp := p2_pos k
    have hv := (val_bd h.pcs).1
    have nv0 := (val_bd pn).1
    have tp := h.top
    have hs := p2_s k
    have w := way (x := val q + 2 ^ k) (n := val n) (by omega) (by omega) nv0 n1
    have e1 : mag (mapU (addP q k)) = val q + 2 ^ k := by rw [mag_mapU, s3]
    have e2 : mag (mapU n) = val n := mag_mapU n
    have e3 : mag (mapU (digsN 20 ((val q + 2 ^ k) * val n))) = (val q + 2 ^ k) * val n := mag_nv w.1 w.2
    have hc : decide (cmpI (sv (false != false) (mag (mapU (digsN 20 (mag (mapU (addP q k)) * mag (mapU n)))))) (sv false (mag (mapU a))) ≤ 0) = decide ((val q + 2 ^ k) * val n ≤ val a) := by
      rw [e1, e2, e3, mag_mapU, cmp_le]; rfl
    have hx : decide ((val q + 2 ^ k) * val n ≤ val a) = true → UpTo (val a) (val n) k (addP q k) := fun p => s4 (of_decide_eq_true p)
    have hy : decide ((val q + 2 ^ k) * val n ≤ val a) = false → UpTo (val a) (val n) k q := fun p => s5 (by have := of_decide_eq_false p; omega)
    have hprod : (okNum (mapU (addP q k)) && (okNum (mapU n) && decide (mag (mapU (addP q k)) * mag (mapU n) < T320))) = true := by
      rw [okNum_in s2 s1, okNum_in hn pn, e1, e2, decide_eq_true w.2]; rfl
    obtain ⟨z, hz⟩ := flp_round hk' zs (sa := false) (sn := false) (sq := false) ha hn h.len hprod (by rw [ok_nv, okNum_in ha pa]; rfl) hc
    have hnx : 134 - (k + 1) = 133 - k := by omega
    rw [hnx]
    have go : ∀ q2, UpTo (val a) (val n) k q2 → ∃ z2 q', SatCode Try.prog [] flpL (flpX k z false false false a n q2 (addP q k)) (.exit 4) (flP 0 (B0 + 134) z2 false false false a n q') ∧ UpTo (val a) (val n) 0 q' := fun q2 h2 => by
      obtain ⟨z2, q', hs2, h3⟩ := flp_loop ha pa hn pn n1 k (by omega) z q2 h2
      exact ⟨z2, q', flp_tail hs2, h3⟩
    cases hd : decide ((val q + 2 ^ k) * val n ≤ val a)
    · obtain ⟨z2, q', hs2, h3⟩ := go q (hy hd)
      rw [hd] at hz
      exact ⟨z2, q', sat_loop flpL_eq hz hs2, h3⟩
    · obtain ⟨z2, q', hs2, h3⟩ := go (addP q k) (hx hd)
      rw [hd] at hz
      exact ⟨z2, q', sat_loop flpL_eq hz hs2, h3⟩
theorem flnB_ok : cok flnB = true := by kernel_rfl
theorem flnL_eq : flnL = .loop flnB := by kernel_rfl
theorem fln_end (nx : Nat) (zs : List Value) (sa sn sq : Bool) (a n q : List Int) : ((ev envF1 100).code [] flnB (flN 0 nx zs sa sn sq a n q)).run =
    some (.exit 2, flN 0 nx (tlOf (outOf ((ev envF1 100).code [] flnB (flN 0 nx zs sa sn sq a n q))).2) sa sn sq a n q) := by kernel_rfl
theorem fln_stop (nx : Nat) (zs : List Value) (sa sn sq : Bool) (a n q : List Int) : ∃ z, SatCode Try.prog [] flnB (flN 0 nx zs sa sn sq a n q) (.exit 2) (flN 0 nx z sa sn sq a n q) :=
  ⟨_, sat_read envF1 hcokP 100 (r := (.exit 2, _)) flnB_ok (fln_end nx zs sa sn sq a n q)⟩
theorem fln_of {k : Nat} {zs : List Value} {sa sn sq : Bool} {a n q : List Int} {x : Exit} {s : St} (h : (flnT k zs sa sn sq a n q).run = some (x, s)) :
    SatCode Try.prog [] flnB (flN (k + 1) (B0 + (133 - k)) zs sa sn sq a n q) x s := sat_read envF1 hcokP 100 (r := (x, s)) flnB_ok h
set_option maxHeartbeats 1000000 in
theorem fln_round {k : Nat} (hk : k < 130) (zs : List Value) {sa sn sq : Bool} {a n q : List Int} (ha : a.length = 20) (hn : n.length = 20) (hq : q.length = 20)
    (g1 : (okNum (mapU (subP q k)) && (okNum (mapU n) && decide (mag (mapU (subP q k)) * mag (mapU n) < T320))) = true) (g2 : (okNum (mapU (digsN 20 (mag (mapU (subP q k)) * mag (mapU n)))) && okNum (mapU a)) = true) {c : Bool}
    (hc : decide (cmpI (sv (sq != sn) (mag (mapU (digsN 20 (mag (mapU (subP q k)) * mag (mapU n)))))) (sv sa (mag (mapU a))) ≤ 0) = c) :
    ∃ z, SatCode Try.prog [] flnB (flN (k + 1) (B0 + (133 - k)) zs sa sn sq a n q) .normal (flnX k z sa sn sq a n (bif c then subP q k else q) (subP q k)) := by
  obtain ⟨a0, a1, a2, a3, a4, a5, a6, a7, a8, a9, a10, a11, a12, a13, a14, a15, a16, a17, a18, a19, rfl⟩ := list20 ha
  obtain ⟨n0, n1, n2, n3, n4, n5, n6, n7, n8, n9, n10, n11, n12, n13, n14, n15, n16, n17, n18, n19, rfl⟩ := list20 hn
  obtain ⟨q0, q1, q2, q3, q4, q5, q6, q7, q8, q9, q10, q11, q12, q13, q14, q15, q16, q17, q18, q19, rfl⟩ := list20 hq
  have h := fln_u130 k hk zs sa sn sq a0 a1 a2 a3 a4 a5 a6 a7 a8 a9 a10 a11 a12 a13 a14 a15 a16 a17 a18 a19 n0 n1 n2 n3 n4 n5 n6 n7 n8 n9 n10 n11 n12 n13 n14 n15 n16 n17 n18 n19 q0 q1 q2 q3 q4 q5 q6 q7 q8 q9 q10 q11 q12 q13 q14 q15 q16 q17 q18 q19
  rw [g1, g2, hc] at h
  cases c
  · simp only [cond_true, cond_false] at h ⊢
    exact ⟨_, fln_of h⟩
  · simp only [cond_true] at h ⊢
    exact ⟨_, fln_of h⟩
theorem fln_t0 (k nx : Nat) (z : List Value) (sa sn sq : Bool) (a n q2 q3 : List Int) : (flN k nx z sa sn sq a n q2).tmps = (flnX k z sa sn sq a n q2 q3).tmps := by kernel_rfl
theorem fln_t1 (k : Nat) (z : List Value) (sa sn sq : Bool) (a n q2 q3 : List Int) : (flN k (B0 + (134 - k)) z sa sn sq a n q2).nx = (flnX k z sa sn sq a n q2 q3).nx := by kernel_rfl
theorem fln_t2 (k nx : Nat) (z : List Value) (sa sn sq : Bool) (a n q2 q3 : List Int) : (flnX k z sa sn sq a n q2 q3).h = (flN k nx z sa sn sq a n q2).h ++ [(B0 + (133 - k), blkN sq q3)] := by kernel_rfl
theorem fln_tail {k : Nat} {z : List Value} {sa sn sq : Bool} {a n q2 q3 : List Int} {x : Exit} {s : St} (h : SatCode Try.prog [] flnL (flN k (B0 + (134 - k)) z sa sn sq a n q2) x s) : SatCode Try.prog [] flnL (flnX k z sa sn sq a n q2 q3) x s := by
  refine sat_drop (fln_t0 k _ z sa sn sq a n q2 q3) (fln_t1 k z sa sn sq a n q2 q3) (fun b B hb => ?_) h
  rw [fln_t2 k (B0 + (134 - k)), AHeap.get_append, hb]; rfl
theorem fln_loop {a n : List Int} (ha : a.length = 20) (pa : Pcs a) (hn : n.length = 20) (pn : Pcs n) (n1 : val n ≤ 18446744073709551616) : ∀ (m : Nat), m ≤ 130 → ∀ (zs : List Value) (q : List Int), DownTo (val a) (val n) m q →
    ∃ z q', SatCode Try.prog [] flnL (flN m (B0 + (134 - m)) zs true false true a n q) (.exit 2) (flN 0 (B0 + 134) z true false true a n q') ∧ DownTo (val a) (val n) 0 q'
  | 0, _, zs, q, h => by
    obtain ⟨z, hz⟩ := fln_stop (B0 + 134) zs true false true a n q
    exact ⟨z, q, sat_loop_exit flnL_eq hz, h⟩
  | k + 1, hk, zs, q, h => by
    have hk' : k < 130 := by omega
    obtain ⟨⟨s1, s2, s3⟩, s4, s5⟩ := h.step hk'
    have pp := p2_pos k
    have hv := (val_bd h.pcs).1
    have nv0 := (val_bd pn).1
    have tp := h.top
    have hs := p2_s k
    have bt := h.bot
    have w := way (x := val q - 2 ^ k) (n := val n) (by omega) (by omega) nv0 n1
    have e1 : mag (mapU (subP q k)) = val q - 2 ^ k := by rw [mag_mapU, s3]
    have e2 : mag (mapU n) = val n := mag_mapU n
    have e3 : mag (mapU (digsN 20 ((val q - 2 ^ k) * val n))) = (val q - 2 ^ k) * val n := mag_nv w.1 w.2
    have hc : decide (cmpI (sv (true != false) (mag (mapU (digsN 20 (mag (mapU (subP q k)) * mag (mapU n)))))) (sv true (mag (mapU a))) ≤ 0) = decide (val a ≤ (val q - 2 ^ k) * val n) := by
      rw [e1, e2, e3, mag_mapU, cmp_le]
      show decide (-((val q - 2 ^ k) * val n) ≤ -val a) = _
      rw [decide_eq_decide]; omega
    have hx : decide (val a ≤ (val q - 2 ^ k) * val n) = true → DownTo (val a) (val n) k (subP q k) := fun p => s4 (of_decide_eq_true p)
    have hy : decide (val a ≤ (val q - 2 ^ k) * val n) = false → DownTo (val a) (val n) k q := fun p => s5 (by have := of_decide_eq_false p; omega)
    have hprod : (okNum (mapU (subP q k)) && (okNum (mapU n) && decide (mag (mapU (subP q k)) * mag (mapU n) < T320))) = true := by
      rw [okNum_in s2 s1, okNum_in hn pn, e1, e2, decide_eq_true w.2]; rfl
    obtain ⟨z, hz⟩ := fln_round hk' zs (sa := true) (sn := false) (sq := true) ha hn h.len hprod (by rw [ok_nv, okNum_in ha pa]; rfl) hc
    have hnx : 134 - (k + 1) = 133 - k := by omega
    rw [hnx]
    have go : ∀ q2, DownTo (val a) (val n) k q2 → ∃ z2 q', SatCode Try.prog [] flnL (flnX k z true false true a n q2 (subP q k)) (.exit 2) (flN 0 (B0 + 134) z2 true false true a n q') ∧ DownTo (val a) (val n) 0 q' := fun q2 h2 => by
      obtain ⟨z2, q', hs2, h3⟩ := fln_loop ha pa hn pn n1 k (by omega) z q2 h2
      exact ⟨z2, q', fln_tail hs2, h3⟩
    cases hd : decide (val a ≤ (val q - 2 ^ k) * val n)
    · obtain ⟨z2, q', hs2, h3⟩ := go q (hy hd)
      rw [hd] at hz
      exact ⟨z2, q', sat_loop flnL_eq hz hs2, h3⟩
    · obtain ⟨z2, q', hs2, h3⟩ := go (subP q k) (hx hd)
      rw [hd] at hz
      exact ⟨z2, q', sat_loop flnL_eq hz hs2, h3⟩
end
end Go.Proofs.Ytbhgibpocbmipaa


/-
  The document's quotient, put together of its rounds.
-/
namespace Go.Proofs.Ytbhgibpocbmipaa
open Go.Den Go.RowKit
noncomputable section
set_option maxRecDepth 100000
theorem sat_ofF {c : Code} {st s : St} {x : Exit} (n : Nat) (hok : cok c = true) (h : ((ev envF1 n).code [] c st).run = some (x, s)) : SatCode Try.prog [] c st x s := sat_read envF1 hcokP n (r := (x, s)) hok h
noncomputable def floA (sa : Bool) (a n : List Int) : Array Value := #[.agg ⟨.bool sa :: mapU a⟩, .agg ⟨.bool false :: mapU n⟩]
noncomputable def floS0 (sa : Bool) (a n : List Int) : St := ⟨Go.Den.start (floA sa a n).toList Try.f31.ntmps, [], B0⟩
noncomputable def floS1 (sa : Bool) (a n : List Int) : St := (outOf ((ev envF1 100).code [] (cL floC) (floS0 sa a n))).2
noncomputable def floS2 (sa : Bool) (a n : List Int) : St := (outOf ((ev envF1 100).code [] (cL (cR floC)) (floS1 sa a n))).2
noncomputable def floS3 (sa : Bool) (a n : List Int) : St := (outOf ((ev envF1 100).code [] (cL (cR (cR floC))) (floS2 sa a n))).2
theorem flo_q1 : floC = .seq (cL floC) (cR floC) := by kernel_rfl
theorem flo_q2 : cR floC = .seq (cL (cR floC)) (cR (cR floC)) := by kernel_rfl
theorem flo_q3 : cR (cR floC) = .seq (cL (cR (cR floC))) floM := by kernel_rfl
theorem flo_q4 : floM = .seq (cL floM) floPos := by kernel_rfl
theorem flo_k1 : cok (cL floC) = true := by kernel_rfl
theorem flo_k2 : cok (cL (cR floC)) = true := by kernel_rfl
theorem flo_k3 : cok (cL (cR (cR floC))) = true := by kernel_rfl
theorem flo_p1 (sa : Bool) (a0 a1 a2 a3 a4 a5 a6 a7 a8 a9 a10 a11 a12 a13 a14 a15 a16 a17 a18 a19 n0 n1 n2 n3 n4 n5 n6 n7 n8 n9 n10 n11 n12 n13 n14 n15 n16 n17 n18 n19 : Int) : ((ev envF1 100).code [] (cL floC) (floS0 sa [a0, a1, a2, a3, a4, a5, a6, a7, a8, a9, a10, a11, a12, a13, a14, a15, a16, a17, a18, a19] [n0, n1, n2, n3, n4, n5, n6, n7, n8, n9, n10, n11, n12, n13, n14, n15, n16, n17, n18, n19])).run = some (.normal, floS1 sa [a0, a1, a2, a3, a4, a5, a6, a7, a8, a9, a10, a11, a12, a13, a14, a15, a16, a17, a18, a19] [n0, n1, n2, n3, n4, n5, n6, n7, n8, n9, n10, n11, n12, n13, n14, n15, n16, n17, n18, n19]) := by cases sa <;> kernel_rfl
theorem flo_p2 (sa : Bool) (a0 a1 a2 a3 a4 a5 a6 a7 a8 a9 a10 a11 a12 a13 a14 a15 a16 a17 a18 a19 n0 n1 n2 n3 n4 n5 n6 n7 n8 n9 n10 n11 n12 n13 n14 n15 n16 n17 n18 n19 : Int) : ((ev envF1 100).code [] (cL (cR floC)) (floS1 sa [a0, a1, a2, a3, a4, a5, a6, a7, a8, a9, a10, a11, a12, a13, a14, a15, a16, a17, a18, a19] [n0, n1, n2, n3, n4, n5, n6, n7, n8, n9, n10, n11, n12, n13, n14, n15, n16, n17, n18, n19])).run = some (.normal, floS2 sa [a0, a1, a2, a3, a4, a5, a6, a7, a8, a9, a10, a11, a12, a13, a14, a15, a16, a17, a18, a19] [n0, n1, n2, n3, n4, n5, n6, n7, n8, n9, n10, n11, n12, n13, n14, n15, n16, n17, n18, n19]) := by cases sa <;> kernel_rfl
theorem flo_p3 (sa : Bool) (a0 a1 a2 a3 a4 a5 a6 a7 a8 a9 a10 a11 a12 a13 a14 a15 a16 a17 a18 a19 n0 n1 n2 n3 n4 n5 n6 n7 n8 n9 n10 n11 n12 n13 n14 n15 n16 n17 n18 n19 : Int) : ((ev envF1 100).code [] (cL (cR (cR floC))) (floS2 sa [a0, a1, a2, a3, a4, a5, a6, a7, a8, a9, a10, a11, a12, a13, a14, a15, a16, a17, a18, a19] [n0, n1, n2, n3, n4, n5, n6, n7, n8, n9, n10, n11, n12, n13, n14, n15, n16, n17, n18, n19])).run = some (.normal, floS3 sa [a0, a1, a2, a3, a4, a5, a6, a7, a8, a9, a10, a11, a12, a13, a14, a15, a16, a17, a18, a19] [n0, n1, n2, n3, n4, n5, n6, n7, n8, n9, n10, n11, n12, n13, n14, n15, n16, n17, n18, n19]) := by cases sa <;> kernel_rfl
theorem flo_pre {sa : Bool} (a0 a1 a2 a3 a4 a5 a6 a7 a8 a9 a10 a11 a12 a13 a14 a15 a16 a17 a18 a19 n0 n1 n2 n3 n4 n5 n6 n7 n8 n9 n10 n11 n12 n13 n14 n15 n16 n17 n18 n19 : Int) {x : Exit} {s : St} (h : SatCode Try.prog [] floM (floS3 sa [a0, a1, a2, a3, a4, a5, a6, a7, a8, a9, a10, a11, a12, a13, a14, a15, a16, a17, a18, a19] [n0, n1, n2, n3, n4, n5, n6, n7, n8, n9, n10, n11, n12, n13, n14, n15, n16, n17, n18, n19]) x s) : SatCode Try.prog [] floC (floS0 sa [a0, a1, a2, a3, a4, a5, a6, a7, a8, a9, a10, a11, a12, a13, a14, a15, a16, a17, a18, a19] [n0, n1, n2, n3, n4, n5, n6, n7, n8, n9, n10, n11, n12, n13, n14, n15, n16, n17, n18, n19]) x s :=
  sat_seq flo_q1 (sat_ofF 100 flo_k1 (flo_p1 sa a0 a1 a2 a3 a4 a5 a6 a7 a8 a9 a10 a11 a12 a13 a14 a15 a16 a17 a18 a19 n0 n1 n2 n3 n4 n5 n6 n7 n8 n9 n10 n11 n12 n13 n14 n15 n16 n17 n18 n19)) (sat_seq flo_q2 (sat_ofF 100 flo_k2 (flo_p2 sa a0 a1 a2 a3 a4 a5 a6 a7 a8 a9 a10 a11 a12 a13 a14 a15 a16 a17 a18 a19 n0 n1 n2 n3 n4 n5 n6 n7 n8 n9 n10 n11 n12 n13 n14 n15 n16 n17 n18 n19)) (sat_seq flo_q3 (sat_ofF 100 flo_k3 (flo_p3 sa a0 a1 a2 a3 a4 a5 a6 a7 a8 a9 a10 a11 a12 a13 a14 a15 a16 a17 a18 a19 n0 n1 n2 n3 n4 n5 n6 n7 n8 n9 n10 n11 n12 n13 n14 n15 n16 n17 n18 n19)) h))
-- from above
noncomputable def floP4 (a n : List Int) : St := (outOf ((ev envF1 100).code [] (cL floM) (floS3 false a n))).2
noncomputable def floP5 (a n : List Int) : St := (outOf ((ev envF1 100).code [] (cL (cL floPos)) (floP4 a n))).2
theorem flo_k4 : cok (cL floM) = true := by kernel_rfl
theorem flo_k5 : cok (cL (cL floPos)) = true := by kernel_rfl
theorem flo_k6 : cok (cR floPos) = true := by kernel_rfl
theorem flo_q5 : floPos = .seq (cL floPos) (cR floPos) := by kernel_rfl
theorem flo_q6 : cL floPos = .seq (cL (cL floPos)) (cR (cL floPos)) := by kernel_rfl
theorem flo_q7 : cR (cL floPos) = .block 4 flpL := by kernel_rfl
theorem flo_p4 (a0 a1 a2 a3 a4 a5 a6 a7 a8 a9 a10 a11 a12 a13 a14 a15 a16 a17 a18 a19 n0 n1 n2 n3 n4 n5 n6 n7 n8 n9 n10 n11 n12 n13 n14 n15 n16 n17 n18 n19 : Int) : ((ev envF1 100).code [] (cL floM) (floS3 false [a0, a1, a2, a3, a4, a5, a6, a7, a8, a9, a10, a11, a12, a13, a14, a15, a16, a17, a18, a19] [n0, n1, n2, n3, n4, n5, n6, n7, n8, n9, n10, n11, n12, n13, n14, n15, n16, n17, n18, n19])).run = some (.normal, floP4 [a0, a1, a2, a3, a4, a5, a6, a7, a8, a9, a10, a11, a12, a13, a14, a15, a16, a17, a18, a19] [n0, n1, n2, n3, n4, n5, n6, n7, n8, n9, n10, n11, n12, n13, n14, n15, n16, n17, n18, n19]) := by kernel_rfl
theorem flo_p5 (a0 a1 a2 a3 a4 a5 a6 a7 a8 a9 a10 a11 a12 a13 a14 a15 a16 a17 a18 a19 n0 n1 n2 n3 n4 n5 n6 n7 n8 n9 n10 n11 n12 n13 n14 n15 n16 n17 n18 n19 : Int) : ((ev envF1 100).code [] (cL (cL floPos)) (floP4 [a0, a1, a2, a3, a4, a5, a6, a7, a8, a9, a10, a11, a12, a13, a14, a15, a16, a17, a18, a19] [n0, n1, n2, n3, n4, n5, n6, n7, n8, n9, n10, n11, n12, n13, n14, n15, n16, n17, n18, n19])).run = some (.normal, floP5 [a0, a1, a2, a3, a4, a5, a6, a7, a8, a9, a10, a11, a12, a13, a14, a15, a16, a17, a18, a19] [n0, n1, n2, n3, n4, n5, n6, n7, n8, n9, n10, n11, n12, n13, n14, n15, n16, n17, n18, n19]) := by kernel_rfl
theorem flo_a5 (a0 a1 a2 a3 a4 a5 a6 a7 a8 a9 a10 a11 a12 a13 a14 a15 a16 a17 a18 a19 n0 n1 n2 n3 n4 n5 n6 n7 n8 n9 n10 n11 n12 n13 n14 n15 n16 n17 n18 n19 : Int) : (flP 130 (B0 + (134 - 130)) (tlOf (floP5 [a0, a1, a2, a3, a4, a5, a6, a7, a8, a9, a10, a11, a12, a13, a14, a15, a16, a17, a18, a19] [n0, n1, n2, n3, n4, n5, n6, n7, n8, n9, n10, n11, n12, n13, n14, n15, n16, n17, n18, n19])) false false false [a0, a1, a2, a3, a4, a5, a6, a7, a8, a9, a10, a11, a12, a13, a14, a15, a16, a17, a18, a19] [n0, n1, n2, n3, n4, n5, n6, n7, n8, n9, n10, n11, n12, n13, n14, n15, n16, n17, n18, n19] [0, 0, 0, 0, 0, 0, 0, 0, 0, 0, 0, 0, 0, 0, 0, 0, 0, 0, 0, 0]).tmps.arr = (floP5 [a0, a1, a2, a3, a4, a5, a6, a7, a8, a9, a10, a11, a12, a13, a14, a15, a16, a17, a18, a19] [n0, n1, n2, n3, n4, n5, n6, n7, n8, n9, n10, n11, n12, n13, n14, n15, n16, n17, n18, n19]).tmps.arr := by kernel_rfl
theorem flo_h5 (a0 a1 a2 a3 a4 a5 a6 a7 a8 a9 a10 a11 a12 a13 a14 a15 a16 a17 a18 a19 n0 n1 n2 n3 n4 n5 n6 n7 n8 n9 n10 n11 n12 n13 n14 n15 n16 n17 n18 n19 : Int) : (flP 130 (B0 + (134 - 130)) (tlOf (floP5 [a0, a1, a2, a3, a4, a5, a6, a7, a8, a9, a10, a11, a12, a13, a14, a15, a16, a17, a18, a19] [n0, n1, n2, n3, n4, n5, n6, n7, n8, n9, n10, n11, n12, n13, n14, n15, n16, n17, n18, n19])) false false false [a0, a1, a2, a3, a4, a5, a6, a7, a8, a9, a10, a11, a12, a13, a14, a15, a16, a17, a18, a19] [n0, n1, n2, n3, n4, n5, n6, n7, n8, n9, n10, n11, n12, n13, n14, n15, n16, n17, n18, n19] [0, 0, 0, 0, 0, 0, 0, 0, 0, 0, 0, 0, 0, 0, 0, 0, 0, 0, 0, 0]).h = (floP5 [a0, a1, a2, a3, a4, a5, a6, a7, a8, a9, a10, a11, a12, a13, a14, a15, a16, a17, a18, a19] [n0, n1, n2, n3, n4, n5, n6, n7, n8, n9, n10, n11, n12, n13, n14, n15, n16, n17, n18, n19]).h := by kernel_rfl
theorem flo_n5 (a0 a1 a2 a3 a4 a5 a6 a7 a8 a9 a10 a11 a12 a13 a14 a15 a16 a17 a18 a19 n0 n1 n2 n3 n4 n5 n6 n7 n8 n9 n10 n11 n12 n13 n14 n15 n16 n17 n18 n19 : Int) : (flP 130 (B0 + (134 - 130)) (tlOf (floP5 [a0, a1, a2, a3, a4, a5, a6, a7, a8, a9, a10, a11, a12, a13, a14, a15, a16, a17, a18, a19] [n0, n1, n2, n3, n4, n5, n6, n7, n8, n9, n10, n11, n12, n13, n14, n15, n16, n17, n18, n19])) false false false [a0, a1, a2, a3, a4, a5, a6, a7, a8, a9, a10, a11, a12, a13, a14, a15, a16, a17, a18, a19] [n0, n1, n2, n3, n4, n5, n6, n7, n8, n9, n10, n11, n12, n13, n14, n15, n16, n17, n18, n19] [0, 0, 0, 0, 0, 0, 0, 0, 0, 0, 0, 0, 0, 0, 0, 0, 0, 0, 0, 0]).nx = (floP5 [a0, a1, a2, a3, a4, a5, a6, a7, a8, a9, a10, a11, a12, a13, a14, a15, a16, a17, a18, a19] [n0, n1, n2, n3, n4, n5, n6, n7, n8, n9, n10, n11, n12, n13, n14, n15, n16, n17, n18, n19]).nx := by kernel_rfl
noncomputable def floP6 (zs : List Value) (a n q : List Int) : St := (outOf ((ev envF1 100).code [] (cR floPos) (flP 0 (B0 + 134) zs false false false a n q))).2
theorem flo_p6 (zs : List Value) (a n : List Int) (q0 q1 q2 q3 q4 q5 q6 q7 q8 q9 q10 q11 q12 q13 q14 q15 q16 q17 q18 q19 : Int) : ((ev envF1 100).code [] (cR floPos) (flP 0 (B0 + 134) zs false false false a n [q0, q1, q2, q3, q4, q5, q6, q7, q8, q9, q10, q11, q12, q13, q14, q15, q16, q17, q18, q19])).run = some (.ret, floP6 zs a n [q0, q1, q2, q3, q4, q5, q6, q7, q8, q9, q10, q11, q12, q13, q14, q15, q16, q17, q18, q19]) := by kernel_rfl
theorem flo_r6 (zs : List Value) (a n : List Int) (q0 q1 q2 q3 q4 q5 q6 q7 q8 q9 q10 q11 q12 q13 q14 q15 q16 q17 q18 q19 : Int) : resultsA Try.prog [] Try.f31 (floP6 zs a n [q0, q1, q2, q3, q4, q5, q6, q7, q8, q9, q10, q11, q12, q13, q14, q15, q16, q17, q18, q19]).tmps (floP6 zs a n [q0, q1, q2, q3, q4, q5, q6, q7, q8, q9, q10, q11, q12, q13, q14, q15, q16, q17, q18, q19]).h = some (.agg ⟨.bool false :: mapU [q0, q1, q2, q3, q4, q5, q6, q7, q8, q9, q10, q11, q12, q13, q14, q15, q16, q17, q18, q19]⟩) := by kernel_rfl
theorem flo_pos (a0 a1 a2 a3 a4 a5 a6 a7 a8 a9 a10 a11 a12 a13 a14 a15 a16 a17 a18 a19 n0 n1 n2 n3 n4 n5 n6 n7 n8 n9 n10 n11 n12 n13 n14 n15 n16 n17 n18 n19 : Int) {z : List Value} {q : List Int} (hq : q.length = 20)
    (h : SatCode Try.prog [] flpL (flP 130 (B0 + (134 - 130)) (tlOf (floP5 [a0, a1, a2, a3, a4, a5, a6, a7, a8, a9, a10, a11, a12, a13, a14, a15, a16, a17, a18, a19] [n0, n1, n2, n3, n4, n5, n6, n7, n8, n9, n10, n11, n12, n13, n14, n15, n16, n17, n18, n19])) false false false [a0, a1, a2, a3, a4, a5, a6, a7, a8, a9, a10, a11, a12, a13, a14, a15, a16, a17, a18, a19] [n0, n1, n2, n3, n4, n5, n6, n7, n8, n9, n10, n11, n12, n13, n14, n15, n16, n17, n18, n19] [0, 0, 0, 0, 0, 0, 0, 0, 0, 0, 0, 0, 0, 0, 0, 0, 0, 0, 0, 0]) (.exit 4) (flP 0 (B0 + 134) z false false false [a0, a1, a2, a3, a4, a5, a6, a7, a8, a9, a10, a11, a12, a13, a14, a15, a16, a17, a18, a19] [n0, n1, n2, n3, n4, n5, n6, n7, n8, n9, n10, n11, n12, n13, n14, n15, n16, n17, n18, n19] q)) :
    SatCode Try.prog [] floC (floS0 false [a0, a1, a2, a3, a4, a5, a6, a7, a8, a9, a10, a11, a12, a13, a14, a15, a16, a17, a18, a19] [n0, n1, n2, n3, n4, n5, n6, n7, n8, n9, n10, n11, n12, n13, n14, n15, n16, n17, n18, n19]) .ret (floP6 z [a0, a1, a2, a3, a4, a5, a6, a7, a8, a9, a10, a11, a12, a13, a14, a15, a16, a17, a18, a19] [n0, n1, n2, n3, n4, n5, n6, n7, n8, n9, n10, n11, n12, n13, n14, n15, n16, n17, n18, n19] q) := by
  have h1 := sat_arr (flo_a5 a0 a1 a2 a3 a4 a5 a6 a7 a8 a9 a10 a11 a12 a13 a14 a15 a16 a17 a18 a19 n0 n1 n2 n3 n4 n5 n6 n7 n8 n9 n10 n11 n12 n13 n14 n15 n16 n17 n18 n19) (flo_h5 a0 a1 a2 a3 a4 a5 a6 a7 a8 a9 a10 a11 a12 a13 a14 a15 a16 a17 a18 a19 n0 n1 n2 n3 n4 n5 n6 n7 n8 n9 n10 n11 n12 n13 n14 n15 n16 n17 n18 n19) (flo_n5 a0 a1 a2 a3 a4 a5 a6 a7 a8 a9 a10 a11 a12 a13 a14 a15 a16 a17 a18 a19 n0 n1 n2 n3 n4 n5 n6 n7 n8 n9 n10 n11 n12 n13 n14 n15 n16 n17 n18 n19) (sat_block flo_q7 h)
  have h2 := sat_seq flo_q6 (sat_ofF 100 flo_k5 (flo_p5 a0 a1 a2 a3 a4 a5 a6 a7 a8 a9 a10 a11 a12 a13 a14 a15 a16 a17 a18 a19 n0 n1 n2 n3 n4 n5 n6 n7 n8 n9 n10 n11 n12 n13 n14 n15 n16 n17 n18 n19)) h1
  obtain ⟨q0, q1, q2, q3, q4, q5, q6, q7, q8, q9, q10, q11, q12, q13, q14, q15, q16, q17, q18, q19, rfl⟩ := list20 hq
  exact flo_pre a0 a1 a2 a3 a4 a5 a6 a7 a8 a9 a10 a11 a12 a13 a14 a15 a16 a17 a18 a19 n0 n1 n2 n3 n4 n5 n6 n7 n8 n9 n10 n11 n12 n13 n14 n15 n16 n17 n18 n19 (sat_seq flo_q4 (sat_ofF 100 flo_k4 (flo_p4 a0 a1 a2 a3 a4 a5 a6 a7 a8 a9 a10 a11 a12 a13 a14 a15 a16 a17 a18 a19 n0 n1 n2 n3 n4 n5 n6 n7 n8 n9 n10 n11 n12 n13 n14 n15 n16 n17 n18 n19)) (sat_seq flo_q5 h2 (sat_ofF 100 flo_k6 (flo_p6 z [a0, a1, a2, a3, a4, a5, a6, a7, a8, a9, a10, a11, a12, a13, a14, a15, a16, a17, a18, a19] [n0, n1, n2, n3, n4, n5, n6, n7, n8, n9, n10, n11, n12, n13, n14, n15, n16, n17, n18, n19] q0 q1 q2 q3 q4 q5 q6 q7 q8 q9 q10 q11 q12 q13 q14 q15 q16 q17 q18 q19))))
-- from below
noncomputable def floN4 (a n : List Int) : St := (outOf ((ev envF1 100).code [] (cL (cL floM)) (floS3 true a n))).2
noncomputable def floN5 (a n : List Int) : St := (outOf ((ev envF1 2000).code [] (cL floNeg) (floN4 a n))).2
noncomputable def floN6 (a n : List Int) : St := (outOf ((ev envF1 100).code [] (cL (cL (cR floNeg))) (floN5 a n))).2
theorem flo_m4 : cok (cL (cL floM)) = true := by kernel_rfl
theorem flo_m5 : cok (cL floNeg) = true := by kernel_rfl
theorem flo_m6 : cok (cL (cL (cR floNeg))) = true := by kernel_rfl
theorem flo_m7 : cok (cR (cR floNeg)) = true := by kernel_rfl
theorem flo_w4 : cL floM = .seq (cL (cL floM)) (cR (cL floM)) := by kernel_rfl
theorem flo_w5 : cR (cL floM) = .cond (.tmp 16) floNeg (cR (cR (cL floM))) := by kernel_rfl
theorem flo_w6 : floNeg = .seq (cL floNeg) (cR floNeg) := by kernel_rfl
theorem flo_w7 : cR floNeg = .seq (cL (cR floNeg)) (cR (cR floNeg)) := by kernel_rfl
theorem flo_w8 : cL (cR floNeg) = .seq (cL (cL (cR floNeg))) (cR (cL (cR floNeg))) := by kernel_rfl
theorem flo_w9 : cR (cL (cR floNeg)) = .block 2 flnL := by kernel_rfl
theorem flo_e4 (a0 a1 a2 a3 a4 a5 a6 a7 a8 a9 a10 a11 a12 a13 a14 a15 a16 a17 a18 a19 n0 n1 n2 n3 n4 n5 n6 n7 n8 n9 n10 n11 n12 n13 n14 n15 n16 n17 n18 n19 : Int) : ((ev envF1 100).code [] (cL (cL floM)) (floS3 true [a0, a1, a2, a3, a4, a5, a6, a7, a8, a9, a10, a11, a12, a13, a14, a15, a16, a17, a18, a19] [n0, n1, n2, n3, n4, n5, n6, n7, n8, n9, n10, n11, n12, n13, n14, n15, n16, n17, n18, n19])).run = some (.normal, floN4 [a0, a1, a2, a3, a4, a5, a6, a7, a8, a9, a10, a11, a12, a13, a14, a15, a16, a17, a18, a19] [n0, n1, n2, n3, n4, n5, n6, n7, n8, n9, n10, n11, n12, n13, n14, n15, n16, n17, n18, n19]) := by kernel_rfl
theorem flo_t4 (a0 a1 a2 a3 a4 a5 a6 a7 a8 a9 a10 a11 a12 a13 a14 a15 a16 a17 a18 a19 n0 n1 n2 n3 n4 n5 n6 n7 n8 n9 n10 n11 n12 n13 n14 n15 n16 n17 n18 n19 : Int) : evF (floN4 [a0, a1, a2, a3, a4, a5, a6, a7, a8, a9, a10, a11, a12, a13, a14, a15, a16, a17, a18, a19] [n0, n1, n2, n3, n4, n5, n6, n7, n8, n9, n10, n11, n12, n13, n14, n15, n16, n17, n18, n19]).tmps (.tmp 16) = .bool true := by kernel_rfl
theorem flo_e5 (a0 a1 a2 a3 a4 a5 a6 a7 a8 a9 a10 a11 a12 a13 a14 a15 a16 a17 a18 a19 n0 n1 n2 n3 n4 n5 n6 n7 n8 n9 n10 n11 n12 n13 n14 n15 n16 n17 n18 n19 : Int) : ((ev envF1 2000).code [] (cL floNeg) (floN4 [a0, a1, a2, a3, a4, a5, a6, a7, a8, a9, a10, a11, a12, a13, a14, a15, a16, a17, a18, a19] [n0, n1, n2, n3, n4, n5, n6, n7, n8, n9, n10, n11, n12, n13, n14, n15, n16, n17, n18, n19])).run = some (.normal, floN5 [a0, a1, a2, a3, a4, a5, a6, a7, a8, a9, a10, a11, a12, a13, a14, a15, a16, a17, a18, a19] [n0, n1, n2, n3, n4, n5, n6, n7, n8, n9, n10, n11, n12, n13, n14, n15, n16, n17, n18, n19]) := by kernel_rfl
theorem flo_e6 (a0 a1 a2 a3 a4 a5 a6 a7 a8 a9 a10 a11 a12 a13 a14 a15 a16 a17 a18 a19 n0 n1 n2 n3 n4 n5 n6 n7 n8 n9 n10 n11 n12 n13 n14 n15 n16 n17 n18 n19 : Int) : ((ev envF1 100).code [] (cL (cL (cR floNeg))) (floN5 [a0, a1, a2, a3, a4, a5, a6, a7, a8, a9, a10, a11, a12, a13, a14, a15, a16, a17, a18, a19] [n0, n1, n2, n3, n4, n5, n6, n7, n8, n9, n10, n11, n12, n13, n14, n15, n16, n17, n18, n19])).run = some (.normal, floN6 [a0, a1, a2, a3, a4, a5, a6, a7, a8, a9, a10, a11, a12, a13, a14, a15, a16, a17, a18, a19] [n0, n1, n2, n3, n4, n5, n6, n7, n8, n9, n10, n11, n12, n13, n14, n15, n16, n17, n18, n19]) := by kernel_rfl
theorem flo_b5 (a0 a1 a2 a3 a4 a5 a6 a7 a8 a9 a10 a11 a12 a13 a14 a15 a16 a17 a18 a19 n0 n1 n2 n3 n4 n5 n6 n7 n8 n9 n10 n11 n12 n13 n14 n15 n16 n17 n18 n19 : Int) : (flN 130 (B0 + (134 - 130)) (tlOf (floN6 [a0, a1, a2, a3, a4, a5, a6, a7, a8, a9, a10, a11, a12, a13, a14, a15, a16, a17, a18, a19] [n0, n1, n2, n3, n4, n5, n6, n7, n8, n9, n10, n11, n12, n13, n14, n15, n16, n17, n18, n19])) true false true [a0, a1, a2, a3, a4, a5, a6, a7, a8, a9, a10, a11, a12, a13, a14, a15, a16, a17, a18, a19] [n0, n1, n2, n3, n4, n5, n6, n7, n8, n9, n10, n11, n12, n13, n14, n15, n16, n17, n18, n19] [65535, 65535, 65535, 65535, 65535, 65535, 65535, 65535, 3, 0, 0, 0, 0, 0, 0, 0, 0, 0, 0, 0]).tmps.arr = (floN6 [a0, a1, a2, a3, a4, a5, a6, a7, a8, a9, a10, a11, a12, a13, a14, a15, a16, a17, a18, a19] [n0, n1, n2, n3, n4, n5, n6, n7, n8, n9, n10, n11, n12, n13, n14, n15, n16, n17, n18, n19]).tmps.arr := by kernel_rfl
theorem flo_c5 (a0 a1 a2 a3 a4 a5 a6 a7 a8 a9 a10 a11 a12 a13 a14 a15 a16 a17 a18 a19 n0 n1 n2 n3 n4 n5 n6 n7 n8 n9 n10 n11 n12 n13 n14 n15 n16 n17 n18 n19 : Int) : (flN 130 (B0 + (134 - 130)) (tlOf (floN6 [a0, a1, a2, a3, a4, a5, a6, a7, a8, a9, a10, a11, a12, a13, a14, a15, a16, a17, a18, a19] [n0, n1, n2, n3, n4, n5, n6, n7, n8, n9, n10, n11, n12, n13, n14, n15, n16, n17, n18, n19])) true false true [a0, a1, a2, a3, a4, a5, a6, a7, a8, a9, a10, a11, a12, a13, a14, a15, a16, a17, a18, a19] [n0, n1, n2, n3, n4, n5, n6, n7, n8, n9, n10, n11, n12, n13, n14, n15, n16, n17, n18, n19] [65535, 65535, 65535, 65535, 65535, 65535, 65535, 65535, 3, 0, 0, 0, 0, 0, 0, 0, 0, 0, 0, 0]).h = (floN6 [a0, a1, a2, a3, a4, a5, a6, a7, a8, a9, a10, a11, a12, a13, a14, a15, a16, a17, a18, a19] [n0, n1, n2, n3, n4, n5, n6, n7, n8, n9, n10, n11, n12, n13, n14, n15, n16, n17, n18, n19]).h := by kernel_rfl
theorem flo_d5 (a0 a1 a2 a3 a4 a5 a6 a7 a8 a9 a10 a11 a12 a13 a14 a15 a16 a17 a18 a19 n0 n1 n2 n3 n4 n5 n6 n7 n8 n9 n10 n11 n12 n13 n14 n15 n16 n17 n18 n19 : Int) : (flN 130 (B0 + (134 - 130)) (tlOf (floN6 [a0, a1, a2, a3, a4, a5, a6, a7, a8, a9, a10, a11, a12, a13, a14, a15, a16, a17, a18, a19] [n0, n1, n2, n3, n4, n5, n6, n7, n8, n9, n10, n11, n12, n13, n14, n15, n16, n17, n18, n19])) true false true [a0, a1, a2, a3, a4, a5, a6, a7, a8, a9, a10, a11, a12, a13, a14, a15, a16, a17, a18, a19] [n0, n1, n2, n3, n4, n5, n6, n7, n8, n9, n10, n11, n12, n13, n14, n15, n16, n17, n18, n19] [65535, 65535, 65535, 65535, 65535, 65535, 65535, 65535, 3, 0, 0, 0, 0, 0, 0, 0, 0, 0, 0, 0]).nx = (floN6 [a0, a1, a2, a3, a4, a5, a6, a7, a8, a9, a10, a11, a12, a13, a14, a15, a16, a17, a18, a19] [n0, n1, n2, n3, n4, n5, n6, n7, n8, n9, n10, n11, n12, n13, n14, n15, n16, n17, n18, n19]).nx := by kernel_rfl
noncomputable def floN7 (zs : List Value) (a n q : List Int) : St := (outOf ((ev envF1 100).code [] (cR (cR floNeg)) (flN 0 (B0 + 134) zs true false true a n q))).2
theorem flo_e7 (zs : List Value) (a n : List Int) (q0 q1 q2 q3 q4 q5 q6 q7 q8 q9 q10 q11 q12 q13 q14 q15 q16 q17 q18 q19 : Int) : ((ev envF1 100).code [] (cR (cR floNeg)) (flN 0 (B0 + 134) zs true false true a n [q0, q1, q2, q3, q4, q5, q6, q7, q8, q9, q10, q11, q12, q13, q14, q15, q16, q17, q18, q19])).run = some (.ret, floN7 zs a n [q0, q1, q2, q3, q4, q5, q6, q7, q8, q9, q10, q11, q12, q13, q14, q15, q16, q17, q18, q19]) := by kernel_rfl
theorem flo_r7 (zs : List Value) (a n : List Int) (q0 q1 q2 q3 q4 q5 q6 q7 q8 q9 q10 q11 q12 q13 q14 q15 q16 q17 q18 q19 : Int) : resultsA Try.prog [] Try.f31 (floN7 zs a n [q0, q1, q2, q3, q4, q5, q6, q7, q8, q9, q10, q11, q12, q13, q14, q15, q16, q17, q18, q19]).tmps (floN7 zs a n [q0, q1, q2, q3, q4, q5, q6, q7, q8, q9, q10, q11, q12, q13, q14, q15, q16, q17, q18, q19]).h = some (.agg ⟨.bool true :: mapU [q0, q1, q2, q3, q4, q5, q6, q7, q8, q9, q10, q11, q12, q13, q14, q15, q16, q17, q18, q19]⟩) := by kernel_rfl
theorem flo_neg (a0 a1 a2 a3 a4 a5 a6 a7 a8 a9 a10 a11 a12 a13 a14 a15 a16 a17 a18 a19 n0 n1 n2 n3 n4 n5 n6 n7 n8 n9 n10 n11 n12 n13 n14 n15 n16 n17 n18 n19 : Int) {z : List Value} {q : List Int} (hq : q.length = 20)
    (h : SatCode Try.prog [] flnL (flN 130 (B0 + (134 - 130)) (tlOf (floN6 [a0, a1, a2, a3, a4, a5, a6, a7, a8, a9, a10, a11, a12, a13, a14, a15, a16, a17, a18, a19] [n0, n1, n2, n3, n4, n5, n6, n7, n8, n9, n10, n11, n12, n13, n14, n15, n16, n17, n18, n19])) true false true [a0, a1, a2, a3, a4, a5, a6, a7, a8, a9, a10, a11, a12, a13, a14, a15, a16, a17, a18, a19] [n0, n1, n2, n3, n4, n5, n6, n7, n8, n9, n10, n11, n12, n13, n14, n15, n16, n17, n18, n19] [65535, 65535, 65535, 65535, 65535, 65535, 65535, 65535, 3, 0, 0, 0, 0, 0, 0, 0, 0, 0, 0, 0]) (.exit 2) (flN 0 (B0 + 134) z true false true [a0, a1, a2, a3, a4, a5, a6, a7, a8, a9, a10, a11, a12, a13, a14, a15, a16, a17, a18, a19] [n0, n1, n2, n3, n4, n5, n6, n7, n8, n9, n10, n11, n12, n13, n14, n15, n16, n17, n18, n19] q)) :
    SatCode Try.prog [] floC (floS0 true [a0, a1, a2, a3, a4, a5, a6, a7, a8, a9, a10, a11, a12, a13, a14, a15, a16, a17, a18, a19] [n0, n1, n2, n3, n4, n5, n6, n7, n8, n9, n10, n11, n12, n13, n14, n15, n16, n17, n18, n19]) .ret (floN7 z [a0, a1, a2, a3, a4, a5, a6, a7, a8, a9, a10, a11, a12, a13, a14, a15, a16, a17, a18, a19] [n0, n1, n2, n3, n4, n5, n6, n7, n8, n9, n10, n11, n12, n13, n14, n15, n16, n17, n18, n19] q) := by
  have h1 := sat_arr (flo_b5 a0 a1 a2 a3 a4 a5 a6 a7 a8 a9 a10 a11 a12 a13 a14 a15 a16 a17 a18 a19 n0 n1 n2 n3 n4 n5 n6 n7 n8 n9 n10 n11 n12 n13 n14 n15 n16 n17 n18 n19) (flo_c5 a0 a1 a2 a3 a4 a5 a6 a7 a8 a9 a10 a11 a12 a13 a14 a15 a16 a17 a18 a19 n0 n1 n2 n3 n4 n5 n6 n7 n8 n9 n10 n11 n12 n13 n14 n15 n16 n17 n18 n19) (flo_d5 a0 a1 a2 a3 a4 a5 a6 a7 a8 a9 a10 a11 a12 a13 a14 a15 a16 a17 a18 a19 n0 n1 n2 n3 n4 n5 n6 n7 n8 n9 n10 n11 n12 n13 n14 n15 n16 n17 n18 n19) (sat_block flo_w9 h)
  have h2 := sat_seq flo_w8 (sat_ofF 100 flo_m6 (flo_e6 a0 a1 a2 a3 a4 a5 a6 a7 a8 a9 a10 a11 a12 a13 a14 a15 a16 a17 a18 a19 n0 n1 n2 n3 n4 n5 n6 n7 n8 n9 n10 n11 n12 n13 n14 n15 n16 n17 n18 n19)) h1
  obtain ⟨q0, q1, q2, q3, q4, q5, q6, q7, q8, q9, q10, q11, q12, q13, q14, q15, q16, q17, q18, q19, rfl⟩ := list20 hq
  have h3 := sat_seq flo_w7 h2 (sat_ofF 100 flo_m7 (flo_e7 z [a0, a1, a2, a3, a4, a5, a6, a7, a8, a9, a10, a11, a12, a13, a14, a15, a16, a17, a18, a19] [n0, n1, n2, n3, n4, n5, n6, n7, n8, n9, n10, n11, n12, n13, n14, n15, n16, n17, n18, n19] q0 q1 q2 q3 q4 q5 q6 q7 q8 q9 q10 q11 q12 q13 q14 q15 q16 q17 q18 q19))
  have h4 := sat_seq flo_w6 (sat_ofF 2000 flo_m5 (flo_e5 a0 a1 a2 a3 a4 a5 a6 a7 a8 a9 a10 a11 a12 a13 a14 a15 a16 a17 a18 a19 n0 n1 n2 n3 n4 n5 n6 n7 n8 n9 n10 n11 n12 n13 n14 n15 n16 n17 n18 n19)) h3
  have h5 := sat_seq flo_w4 (sat_ofF 100 flo_m4 (flo_e4 a0 a1 a2 a3 a4 a5 a6 a7 a8 a9 a10 a11 a12 a13 a14 a15 a16 a17 a18 a19 n0 n1 n2 n3 n4 n5 n6 n7 n8 n9 n10 n11 n12 n13 n14 n15 n16 n17 n18 n19)) (sat_cond_t flo_w5 rfl (flo_t4 a0 a1 a2 a3 a4 a5 a6 a7 a8 a9 a10 a11 a12 a13 a14 a15 a16 a17 a18 a19 n0 n1 n2 n3 n4 n5 n6 n7 n8 n9 n10 n11 n12 n13 n14 n15 n16 n17 n18 n19) h4)
  exact flo_pre a0 a1 a2 a3 a4 a5 a6 a7 a8 a9 a10 a11 a12 a13 a14 a15 a16 a17 a18 a19 n0 n1 n2 n3 n4 n5 n6 n7 n8 n9 n10 n11 n12 n13 n14 n15 n16 n17 n18 n19 (sat_seq_ret flo_q4 h5)
theorem flo_call {sa : Bool} (a0 a1 a2 a3 a4 a5 a6 a7 a8 a9 a10 a11 a12 a13 a14 a15 a16 a17 a18 a19 n0 n1 n2 n3 n4 n5 n6 n7 n8 n9 n10 n11 n12 n13 n14 n15 n16 n17 n18 n19 : Int) {q : List Int} {s : St} (h : SatCode Try.prog [] floC (floS0 sa [a0, a1, a2, a3, a4, a5, a6, a7, a8, a9, a10, a11, a12, a13, a14, a15, a16, a17, a18, a19] [n0, n1, n2, n3, n4, n5, n6, n7, n8, n9, n10, n11, n12, n13, n14, n15, n16, n17, n18, n19]) .ret s)
    (hr : resultsA Try.prog [] Try.f31 s.tmps s.h = some (.agg ⟨.bool sa :: mapU q⟩)) (w : World) :
    Calls Try.prog 31 (floA sa [a0, a1, a2, a3, a4, a5, a6, a7, a8, a9, a10, a11, a12, a13, a14, a15, a16, a17, a18, a19] [n0, n1, n2, n3, n4, n5, n6, n7, n8, n9, n10, n11, n12, n13, n14, n15, n16, n17, n18, n19]) w fun e w' => e = .returned (.agg ⟨.bool sa :: mapU q⟩) ∧ Below w.heap.size w w' := by
  have hb : Try.f31.body = some floC := by kernel_rfl
  have h' : SatCode Try.prog [] floC ⟨Go.Den.start (floA sa [a0, a1, a2, a3, a4, a5, a6, a7, a8, a9, a10, a11, a12, a13, a14, a15, a16, a17, a18, a19] [n0, n1, n2, n3, n4, n5, n6, n7, n8, n9, n10, n11, n12, n13, n14, n15, n16, n17, n18, n19]).toList Try.f31.ntmps, [], B0⟩ .ret s := h
  have c := sat_call Try.func31 hb (by kernel_rfl) h' (.inr rfl) hr
  exact calls_sat c (all_bel (by rw [belL, bel_num, belL, bel_num]; rfl)) (bel_num _ _) w
theorem flo_posC (a0 a1 a2 a3 a4 a5 a6 a7 a8 a9 a10 a11 a12 a13 a14 a15 a16 a17 a18 a19 n0 n1 n2 n3 n4 n5 n6 n7 n8 n9 n10 n11 n12 n13 n14 n15 n16 n17 n18 n19 : Int) {z : List Value} {q : List Int} (hq : q.length = 20)
    (h : SatCode Try.prog [] flpL (flP 130 (B0 + (134 - 130)) (tlOf (floP5 [a0, a1, a2, a3, a4, a5, a6, a7, a8, a9, a10, a11, a12, a13, a14, a15, a16, a17, a18, a19] [n0, n1, n2, n3, n4, n5, n6, n7, n8, n9, n10, n11, n12, n13, n14, n15, n16, n17, n18, n19])) false false false [a0, a1, a2, a3, a4, a5, a6, a7, a8, a9, a10, a11, a12, a13, a14, a15, a16, a17, a18, a19] [n0, n1, n2, n3, n4, n5, n6, n7, n8, n9, n10, n11, n12, n13, n14, n15, n16, n17, n18, n19] [0, 0, 0, 0, 0, 0, 0, 0, 0, 0, 0, 0, 0, 0, 0, 0, 0, 0, 0, 0]) (.exit 4) (flP 0 (B0 + 134) z false false false [a0, a1, a2, a3, a4, a5, a6, a7, a8, a9, a10, a11, a12, a13, a14, a15, a16, a17, a18, a19] [n0, n1, n2, n3, n4, n5, n6, n7, n8, n9, n10, n11, n12, n13, n14, n15, n16, n17, n18, n19] q)) (w : World) :
    Calls Try.prog 31 (floA false [a0, a1, a2, a3, a4, a5, a6, a7, a8, a9, a10, a11, a12, a13, a14, a15, a16, a17, a18, a19] [n0, n1, n2, n3, n4, n5, n6, n7, n8, n9, n10, n11, n12, n13, n14, n15, n16, n17, n18, n19]) w fun e w' => e = .returned (.agg ⟨.bool false :: mapU q⟩) ∧ Below w.heap.size w w' := by
  have hs := flo_pos a0 a1 a2 a3 a4 a5 a6 a7 a8 a9 a10 a11 a12 a13 a14 a15 a16 a17 a18 a19 n0 n1 n2 n3 n4 n5 n6 n7 n8 n9 n10 n11 n12 n13 n14 n15 n16 n17 n18 n19 hq h
  obtain ⟨q0, q1, q2, q3, q4, q5, q6, q7, q8, q9, q10, q11, q12, q13, q14, q15, q16, q17, q18, q19, rfl⟩ := list20 hq
  exact flo_call a0 a1 a2 a3 a4 a5 a6 a7 a8 a9 a10 a11 a12 a13 a14 a15 a16 a17 a18 a19 n0 n1 n2 n3 n4 n5 n6 n7 n8 n9 n10 n11 n12 n13 n14 n15 n16 n17 n18 n19 hs (flo_r6 z [a0, a1, a2, a3, a4, a5, a6, a7, a8, a9, a10, a11, a12, a13, a14, a15, a16, a17, a18, a19] [n0, n1, n2, n3, n4, n5, n6, n7, n8, n9, n10, n11, n12, n13, n14, n15, n16, n17, n18, n19] q0 q1 q2 q3 q4 q5 q6 q7 q8 q9 q10 q11 q12 q13 q14 q15 q16 q17 q18 q19) w
theorem flo_negC (a0 a1 a2 a3 a4 a5 a6 a7 a8 a9 a10 a11 a12 a13 a14 a15 a16 a17 a18 a19 n0 n1 n2 n3 n4 n5 n6 n7 n8 n9 n10 n11 n12 n13 n14 n15 n16 n17 n18 n19 : Int) {z : List Value} {q : List Int} (hq : q.length = 20)
    (h : SatCode Try.prog [] flnL (flN 130 (B0 + (134 - 130)) (tlOf (floN6 [a0, a1, a2, a3, a4, a5, a6, a7, a8, a9, a10, a11, a12, a13, a14, a15, a16, a17, a18, a19] [n0, n1, n2, n3, n4, n5, n6, n7, n8, n9, n10, n11, n12, n13, n14, n15, n16, n17, n18, n19])) true false true [a0, a1, a2, a3, a4, a5, a6, a7, a8, a9, a10, a11, a12, a13, a14, a15, a16, a17, a18, a19] [n0, n1, n2, n3, n4, n5, n6, n7, n8, n9, n10, n11, n12, n13, n14, n15, n16, n17, n18, n19] [65535, 65535, 65535, 65535, 65535, 65535, 65535, 65535, 3, 0, 0, 0, 0, 0, 0, 0, 0, 0, 0, 0]) (.exit 2) (flN 0 (B0 + 134) z true false true [a0, a1, a2, a3, a4, a5, a6, a7, a8, a9, a10, a11, a12, a13, a14, a15, a16, a17, a18, a19] [n0, n1, n2, n3, n4, n5, n6, n7, n8, n9, n10, n11, n12, n13, n14, n15, n16, n17, n18, n19] q)) (w : World) :
    Calls Try.prog 31 (floA true [a0, a1, a2, a3, a4, a5, a6, a7, a8, a9, a10, a11, a12, a13, a14, a15, a16, a17, a18, a19] [n0, n1, n2, n3, n4, n5, n6, n7, n8, n9, n10, n11, n12, n13, n14, n15, n16, n17, n18, n19]) w fun e w' => e = .returned (.agg ⟨.bool true :: mapU q⟩) ∧ Below w.heap.size w w' := by
  have hs := flo_neg a0 a1 a2 a3 a4 a5 a6 a7 a8 a9 a10 a11 a12 a13 a14 a15 a16 a17 a18 a19 n0 n1 n2 n3 n4 n5 n6 n7 n8 n9 n10 n11 n12 n13 n14 n15 n16 n17 n18 n19 hq h
  obtain ⟨q0, q1, q2, q3, q4, q5, q6, q7, q8, q9, q10, q11, q12, q13, q14, q15, q16, q17, q18, q19, rfl⟩ := list20 hq
  exact flo_call a0 a1 a2 a3 a4 a5 a6 a7 a8 a9 a10 a11 a12 a13 a14 a15 a16 a17 a18 a19 n0 n1 n2 n3 n4 n5 n6 n7 n8 n9 n10 n11 n12 n13 n14 n15 n16 n17 n18 n19 hs (flo_r7 z [a0, a1, a2, a3, a4, a5, a6, a7, a8, a9, a10, a11, a12, a13, a14, a15, a16, a17, a18, a19] [n0, n1, n2, n3, n4, n5, n6, n7, n8, n9, n10, n11, n12, n13, n14, n15, n16, n17, n18, n19] q0 q1 q2 q3 q4 q5 q6 q7 q8 q9 q10 q11 q12 q13 q14 q15 q16 q17 q18 q19) w
end
end Go.Proofs.Ytbhgibpocbmipaa


/-
  The document's quotient as a contract.
-/
namespace Go.Proofs.Ytbhgibpocbmipaa
open Go.Den Go.RowKit
noncomputable section
set_option maxRecDepth 100000
theorem div_is {a n q : Int} (hn : 0 < n) (h1 : q * n ≤ a) (h2 : a < (q + 1) * n) : a / n = q := by
  have h3 : q ≤ a / n := Int.le_ediv_of_mul_le hn h1
  have h4 : a / n < q + 1 := Int.ediv_lt_of_lt_mul hn h2
  omega
theorem zs_pcs : Pcs [0, 0, 0, 0, 0, 0, 0, 0, 0, 0, 0, 0, 0, 0, 0, 0, 0, 0, 0, 0] := by intro x hx; simp only [List.mem_cons, List.not_mem_nil, or_false, or_self] at hx; omega
theorem on_pcs : Pcs [65535, 65535, 65535, 65535, 65535, 65535, 65535, 65535, 3, 0, 0, 0, 0, 0, 0, 0, 0, 0, 0, 0] := by intro x hx; simp only [List.mem_cons, List.not_mem_nil, or_false, or_self] at hx; omega
theorem p130 : (2 : Int) ^ 130 = 1361129467683753853853498429727072845824 := by rfl
theorem flo_calls {sa : Bool} {a n : List Int} (ha : a.length = 20) (pa : Pcs a) (hn : n.length = 20) (pn : Pcs n) (n0 : 0 < val n) (n1 : val n ≤ 18446744073709551616) (a1 : val a < 680564733841876926926749214863536422912) (w : World) :
    Calls Try.prog 31 (floA sa a n) w fun e w' => e = .returned (nv sa (sz (sv sa (val a) / val n))) ∧ Below w.heap.size w w' := by
  have a0 := (val_bd pa).1
  have m0 : 1 * 1361129467683753853853498429727072845824 ≤ val n * 1361129467683753853853498429727072845824 := Int.mul_le_mul_of_nonneg_right (by omega) (by omega)
  have m1 : 1 * 1361129467683753853853498429727072845823 ≤ val n * 1361129467683753853853498429727072845823 := Int.mul_le_mul_of_nonneg_right (by omega) (by omega)
  cases sa
  · have v0 : val [0, 0, 0, 0, 0, 0, 0, 0, 0, 0, 0, 0, 0, 0, 0, 0, 0, 0, 0, 0] = 0 := by simp [val]
    have st : UpTo (val a) (val n) 130 [0, 0, 0, 0, 0, 0, 0, 0, 0, 0, 0, 0, 0, 0, 0, 0, 0, 0, 0, 0] := ⟨rfl, zs_pcs, ⟨0, by rw [v0]; rfl⟩, by rw [v0, p130]; omega, by rw [v0]; omega, by rw [v0, p130, Int.zero_add, Int.mul_comm]; omega⟩
    have loop := fun zs => flp_loop ha pa hn pn n1 130 (by omega) zs [0, 0, 0, 0, 0, 0, 0, 0, 0, 0, 0, 0, 0, 0, 0, 0, 0, 0, 0, 0] st
    have fin : ∀ q', UpTo (val a) (val n) 0 q' → Value.agg ⟨.bool false :: mapU q'⟩ = nv false (sz (sv false (val a) / val n)) := fun q' h => by
      have hl := h.le; have ht := h.lt
      have hq0 := (val_bd h.pcs).1
      rw [Int.pow_zero] at ht
      refine nv_of h.len h.pcs ?_
      have e : sv false (val a) = val a := rfl
      rw [e, div_is n0 hl ht]; unfold sz; omega
    clear a0 m0 m1 n0 n1 a1 pa pn st
    obtain ⟨a0, a1, a2, a3, a4, a5, a6, a7, a8, a9, a10, a11, a12, a13, a14, a15, a16, a17, a18, a19, rfl⟩ := list20 ha
    obtain ⟨n0, n1, n2, n3, n4, n5, n6, n7, n8, n9, n10, n11, n12, n13, n14, n15, n16, n17, n18, n19, rfl⟩ := list20 hn
    obtain ⟨z, q', h, hq⟩ := loop (tlOf (floP5 [a0, a1, a2, a3, a4, a5, a6, a7, a8, a9, a10, a11, a12, a13, a14, a15, a16, a17, a18, a19] [n0, n1, n2, n3, n4, n5, n6, n7, n8, n9, n10, n11, n12, n13, n14, n15, n16, n17, n18, n19]))
    refine (flo_posC a0 a1 a2 a3 a4 a5 a6 a7 a8 a9 a10 a11 a12 a13 a14 a15 a16 a17 a18 a19 n0 n1 n2 n3 n4 n5 n6 n7 n8 n9 n10 n11 n12 n13 n14 n15 n16 n17 n18 n19 hq.len h w).mono ?_
    rintro e w' ⟨rfl, hB⟩
    exact ⟨congrArg Ending.returned (fin q' hq), hB⟩
  · have v0 : val [65535, 65535, 65535, 65535, 65535, 65535, 65535, 65535, 3, 0, 0, 0, 0, 0, 0, 0, 0, 0, 0, 0] = 1361129467683753853853498429727072845823 := by simp [val]
    have st : DownTo (val a) (val n) 130 [65535, 65535, 65535, 65535, 65535, 65535, 65535, 65535, 3, 0, 0, 0, 0, 0, 0, 0, 0, 0, 0, 0] := ⟨rfl, on_pcs, ⟨1, by rw [v0, p130]; rfl⟩, by rw [v0]; omega, by rw [v0, p130]; omega, by rw [v0, Int.mul_comm]; omega, by rw [v0, p130]; omega⟩
    have loop := fun zs => fln_loop ha pa hn pn n1 130 (by omega) zs [65535, 65535, 65535, 65535, 65535, 65535, 65535, 65535, 3, 0, 0, 0, 0, 0, 0, 0, 0, 0, 0, 0] st
    have fin : ∀ q', DownTo (val a) (val n) 0 q' → Value.agg ⟨.bool true :: mapU q'⟩ = nv true (sz (sv true (val a) / val n)) := fun q' h => by
      have hl := h.le; have ht := h.lt
      have hq0 := (val_bd h.pcs).1
      rw [Int.pow_zero] at ht
      refine nv_of h.len h.pcs ?_
      have e : sv true (val a) = -val a := rfl
      have k1 : -val q' * val n ≤ -val a := by rw [Int.neg_mul]; omega
      have k2 : -val a < (-val q' + 1) * val n := by rw [show -val q' + 1 = -(val q' - 1) by omega, Int.neg_mul]; omega
      rw [e, div_is n0 k1 k2]; unfold sz; omega
    clear a0 m0 m1 n0 n1 a1 pa pn st
    obtain ⟨a0, a1, a2, a3, a4, a5, a6, a7, a8, a9, a10, a11, a12, a13, a14, a15, a16, a17, a18, a19, rfl⟩ := list20 ha
    obtain ⟨n0, n1, n2, n3, n4, n5, n6, n7, n8, n9, n10, n11, n12, n13, n14, n15, n16, n17, n18, n19, rfl⟩ := list20 hn
    obtain ⟨z, q', h, hq⟩ := loop (tlOf (floN6 [a0, a1, a2, a3, a4, a5, a6, a7, a8, a9, a10, a11, a12, a13, a14, a15, a16, a17, a18, a19] [n0, n1, n2, n3, n4, n5, n6, n7, n8, n9, n10, n11, n12, n13, n14, n15, n16, n17, n18, n19]))
    refine (flo_negC a0 a1 a2 a3 a4 a5 a6 a7 a8 a9 a10 a11 a12 a13 a14 a15 a16 a17 a18 a19 n0 n1 n2 n3 n4 n5 n6 n7 n8 n9 n10 n11 n12 n13 n14 n15 n16 n17 n18 n19 hq.len h w).mono ?_
    rintro e w' ⟨rfl, hB⟩
    exact ⟨congrArg Ending.returned (fin q' hq), hB⟩
def rfloorS : Array Value → Option (Bool × Value)
  | ⟨[.agg ⟨.bool sa :: ra⟩, .agg ⟨.bool sn :: rn⟩]⟩ => some (okNum ra && (okNum rn && (!sn && (decide (0 < mag rn) && (decide (mag rn ≤ 18446744073709551616) && decide (mag ra < 680564733841876926926749214863536422912))))), nv sa (sz (sv sa (mag ra) / mag rn)))
  | _ => none
def pcRFloor : PC Try.prog where
  f := 31
  spec := rfloorS
  body := by kernel_rfl
  ok := fun args r hr hok => by
    unfold rfloorS at hr
    split at hr
    · rename_i sa ra sn rn
      cases hr
      simp only [Bool.and_eq_true, decide_eq_true_eq, Bool.not_eq_true'] at hok
      obtain ⟨k1, k2, rfl, k3, k4, k5⟩ := hok
      obtain ⟨a, rfl, hl1, hp1, hm1⟩ := num_out k1
      obtain ⟨n, rfl, hl2, hp2, hm2⟩ := num_out k2
      have hb : (#[Value.agg ⟨.bool sa :: mapU a⟩, Value.agg ⟨.bool false :: mapU n⟩] : Array Value).all (bel B0) = true := all_bel (by rw [belL, bel_num, belL, bel_num]; rfl)
      refine ⟨hb, bel_nv _ _, fun w => ?_⟩
      rw [hm1, hm2]
      exact flo_calls hl1 hp1 hl2 hp2 (by rw [← hm2]; exact k3) (by rw [← hm2]; exact k4) (by rw [← hm1]; exact k5) w
    · cases hr
end
end Go.Proofs.Ytbhgibpocbmipaa


/-
  What the document's answers of layers 2 and 3 are read by.
-/
namespace Go.Proofs.Ytbhgibpocbmipaa
open Go.Den Go.RowKit
noncomputable section
def pcsF : List (PC Try.prog) := pcRFloor :: pcsR
def envG : Env Try.prog := envS.with false pcsF
end
end Go.Proofs.Ytbhgibpocbmipaa


/-
  Signs and sizes of the document's numbers. No program is named here.
-/
namespace Go.Proofs.Ytbhgibpocbmipaa
open Go.Den
theorem sv_sz (A : Int) : sv (decide (A < 0)) (sz A) = A := by
  unfold sv sz
  cases h : decide (A < 0)
  · rw [decide_eq_false_iff_not] at h; simp only [cond_false]; omega
  · rw [decide_eq_true_eq] at h; simp only [cond_true]; omega
theorem sv_nsz (A : Int) : sv (!decide (A < 0)) (sz A) = -A := by
  unfold sv sz
  cases h : decide (A < 0)
  · rw [decide_eq_false_iff_not] at h; simp only [Bool.not_false, cond_true]; omega
  · rw [decide_eq_true_eq] at h; simp only [Bool.not_true, cond_false]; omega
theorem sv_f (n : Int) : sv false n = n := rfl
theorem sz_nn (n : Int) : 0 ≤ sz n := by unfold sz; omega
theorem sv_addSg {a b : Int} (ha : 0 ≤ a) (hb : 0 ≤ b) (s1 s2 : Bool) : sv (addSg s1 a s2 b) (sz (sv s1 a + sv s2 b)) = sv s1 a + sv s2 b := by
  cases s1 <;> cases s2
  · have e : addSg false a false b = false := rfl
    rw [e]; simp only [sv, cond_false, sz]; omega
  · by_cases h : a < b
    · have e : addSg false a true b = true := by unfold addSg; rw [decide_eq_true h]; rfl
      rw [e]; simp only [sv, cond_false, cond_true, sz]; omega
    · have e : addSg false a true b = false := by unfold addSg; rw [decide_eq_false h]; rfl
      rw [e]; simp only [sv, cond_false, cond_true, sz]; omega
  · by_cases h : a < b
    · have e : addSg true a false b = false := by unfold addSg; rw [decide_eq_true h]; rfl
      rw [e]; simp only [sv, cond_false, cond_true, sz]; omega
    · have e : addSg true a false b = true := by unfold addSg; rw [decide_eq_false h]; rfl
      rw [e]; simp only [sv, cond_false, cond_true, sz]; omega
  · have e : addSg true a true b = true := rfl
    rw [e]; simp only [sv, cond_true, sz]; omega
theorem cmpI_self (a : Int) : cmpI a a = 0 := by unfold cmpI; rw [if_pos rfl]
/-- The size of a number that is small beside T304. -/
theorem mag_sz {n : Int} (h0 : -680564733841876926926749214863536422912 ≤ n) (h1 : n ≤ 680564733841876926926749214863536422912) : mag (mapU (digsN 20 (sz n))) = sz n :=
  mag_nv (sz_nn n) (by unfold T320 sz; omega)
theorem sz_sv (A : Int) : sz (sz A) = sz A := by unfold sz; omega
end Go.Proofs.Ytbhgibpocbmipaa


/-
  Read by wip/tools/vc.py, and what follows.
-/
namespace Go.Proofs.Ytbhgibpocbmipaa
open Go.Den Go.RowKit
noncomputable section
set_option maxRecDepth 100000
theorem offset_vc (h1 l1 h2 l2 h3 l3 h4 l4 : Int) (Q : Value → Prop) : ((ev envM 60).call [] 45 #[.agg #[.int .i64 h1, .int .u64 l1], .agg #[.int .i64 h2, .int .u64 l2], .agg #[.int .i64 h3, .int .u64 l3], .agg #[.int .i64 h4, .int .u64 l4]] [] B0).holds (fun r => Q r.v) = (bcase (okW h2 l2 && okW h1 l1)
  (bcase (okW h3 l3 && okW h4 l4)
    (bcase
      (okW (hi (clamp (W2 h2 l2 - W2 h1 l1))) (lo (clamp (W2 h2 l2 - W2 h1 l1))) &&
        okW (hi (clamp (W2 h3 l3 - W2 h4 l4))) (lo (clamp (W2 h3 l3 - W2 h4 l4))))
      (bcase
        (okU
          (lo
            (clamp
              (W2 (hi (clamp (W2 h2 l2 - W2 h1 l1))) (lo (clamp (W2 h2 l2 - W2 h1 l1))) +
                W2 (hi (clamp (W2 h3 l3 - W2 h4 l4))) (lo (clamp (W2 h3 l3 - W2 h4 l4)))))))
        (bcase
          (okW
            (hi
              (W2
                  (hi
                    (clamp
                      (W2 (hi (clamp (W2 h2 l2 - W2 h1 l1))) (lo (clamp (W2 h2 l2 - W2 h1 l1))) +
                        W2 (hi (clamp (W2 h3 l3 - W2 h4 l4))) (lo (clamp (W2 h3 l3 - W2 h4 l4))))))
                  (lo
                    (clamp
                      (W2 (hi (clamp (W2 h2 l2 - W2 h1 l1))) (lo (clamp (W2 h2 l2 - W2 h1 l1))) +
                        W2 (hi (clamp (W2 h3 l3 - W2 h4 l4))) (lo (clamp (W2 h3 l3 - W2 h4 l4)))))) /
                2))
            (lo
              (W2
                  (hi
                    (clamp
                      (W2 (hi (clamp (W2 h2 l2 - W2 h1 l1))) (lo (clamp (W2 h2 l2 - W2 h1 l1))) +
                        W2 (hi (clamp (W2 h3 l3 - W2 h4 l4))) (lo (clamp (W2 h3 l3 - W2 h4 l4))))))
                  (lo
                    (clamp
                      (W2 (hi (clamp (W2 h2 l2 - W2 h1 l1))) (lo (clamp (W2 h2 l2 - W2 h1 l1))) +
                        W2 (hi (clamp (W2 h3 l3 - W2 h4 l4))) (lo (clamp (W2 h3 l3 - W2 h4 l4)))))) /
                2)))
          (Q
            (Value.int IntKind.i64
              (clip
                (W2
                  (hi
                    (W2
                        (hi
                          (clamp
                            (W2 (hi (clamp (W2 h2 l2 - W2 h1 l1))) (lo (clamp (W2 h2 l2 - W2 h1 l1))) +
                              W2 (hi (clamp (W2 h3 l3 - W2 h4 l4))) (lo (clamp (W2 h3 l3 - W2 h4 l4))))))
                        (lo
                          (clamp
                            (W2 (hi (clamp (W2 h2 l2 - W2 h1 l1))) (lo (clamp (W2 h2 l2 - W2 h1 l1))) +
                              W2 (hi (clamp (W2 h3 l3 - W2 h4 l4))) (lo (clamp (W2 h3 l3 - W2 h4 l4)))))) /
                      2))
                  (lo
                    (W2
                        (hi
                          (clamp
                            (W2 (hi (clamp (W2 h2 l2 - W2 h1 l1))) (lo (clamp (W2 h2 l2 - W2 h1 l1))) +
                              W2 (hi (clamp (W2 h3 l3 - W2 h4 l4))) (lo (clamp (W2 h3 l3 - W2 h4 l4))))))
                        (lo
                          (clamp
                            (W2 (hi (clamp (W2 h2 l2 - W2 h1 l1))) (lo (clamp (W2 h2 l2 - W2 h1 l1))) +
                              W2 (hi (clamp (W2 h3 l3 - W2 h4 l4))) (lo (clamp (W2 h3 l3 - W2 h4 l4)))))) /
                      2))))))
          False)
        False)
      False)
    False)
  False) := by kernel_rfl
theorem delay_vc (h1 l1 h2 l2 h3 l3 h4 l4 : Int) (Q : Value → Prop) : ((ev envM 60).call [] 47 #[.agg #[.int .i64 h1, .int .u64 l1], .agg #[.int .i64 h2, .int .u64 l2], .agg #[.int .i64 h3, .int .u64 l3], .agg #[.int .i64 h4, .int .u64 l4]] [] B0).holds (fun r => Q r.v) = (bcase (okW h4 l4 && okW h1 l1)
  (bcase (okW h3 l3 && okW h2 l2)
    (bcase
      (okW (hi (clamp (W2 h4 l4 - W2 h1 l1))) (lo (clamp (W2 h4 l4 - W2 h1 l1))) &&
        okW (hi (clamp (W2 h3 l3 - W2 h2 l2))) (lo (clamp (W2 h3 l3 - W2 h2 l2))))
      (bcase
        (okW
          (hi
            (clamp
              (W2 (hi (clamp (W2 h4 l4 - W2 h1 l1))) (lo (clamp (W2 h4 l4 - W2 h1 l1))) -
                W2 (hi (clamp (W2 h3 l3 - W2 h2 l2))) (lo (clamp (W2 h3 l3 - W2 h2 l2))))))
          (lo
            (clamp
              (W2 (hi (clamp (W2 h4 l4 - W2 h1 l1))) (lo (clamp (W2 h4 l4 - W2 h1 l1))) -
                W2 (hi (clamp (W2 h3 l3 - W2 h2 l2))) (lo (clamp (W2 h3 l3 - W2 h2 l2)))))))
        (Q
          (Value.int IntKind.i64
            (clip
              (W2
                (hi
                  (clamp
                    (W2 (hi (clamp (W2 h4 l4 - W2 h1 l1))) (lo (clamp (W2 h4 l4 - W2 h1 l1))) -
                      W2 (hi (clamp (W2 h3 l3 - W2 h2 l2))) (lo (clamp (W2 h3 l3 - W2 h2 l2))))))
                (lo
                  (clamp
                    (W2 (hi (clamp (W2 h4 l4 - W2 h1 l1))) (lo (clamp (W2 h4 l4 - W2 h1 l1))) -
                      W2 (hi (clamp (W2 h3 l3 - W2 h2 l2))) (lo (clamp (W2 h3 l3 - W2 h2 l2))))))))))
        False)
      False)
    False)
  False) := by kernel_rfl
theorem okU_lo (n : Int) : okU (lo n) = true := okU_iff.2 (lo_bd n)
theorem okW_clamp (n : Int) : okW (hi (clamp n)) (lo (clamp n)) = true := okW_hilo (clamp_in n)
theorem half_in {n : Int} (h : InR n) : InR (n / 2) := by unfold InR at *; omega
theorem okW_half (n : Int) : okW (hi (clamp n / 2)) (lo (clamp n / 2)) = true := okW_hilo (half_in (clamp_in n))
def off (a b c d : Int) : Int := clip (clamp (clamp (b - a) + clamp (c - d)) / 2)
def del (a b c d : Int) : Int := clip (clamp (clamp (d - a) - clamp (c - b)))
def ok4 (h1 l1 h2 l2 h3 l3 h4 l4 : Int) : Bool := okW h1 l1 && (okW h2 l2 && (okW h3 l3 && okW h4 l4))
def offS : Array Value → Option (Bool × Value)
  | ⟨[.agg ⟨[.int .i64 h1, .int .u64 l1]⟩, .agg ⟨[.int .i64 h2, .int .u64 l2]⟩, .agg ⟨[.int .i64 h3, .int .u64 l3]⟩, .agg ⟨[.int .i64 h4, .int .u64 l4]⟩]⟩ => some (ok4 h1 l1 h2 l2 h3 l3 h4 l4, .int .i64 (off (W2 h1 l1) (W2 h2 l2) (W2 h3 l3) (W2 h4 l4)))
  | _ => none
def delS : Array Value → Option (Bool × Value)
  | ⟨[.agg ⟨[.int .i64 h1, .int .u64 l1]⟩, .agg ⟨[.int .i64 h2, .int .u64 l2]⟩, .agg ⟨[.int .i64 h3, .int .u64 l3]⟩, .agg ⟨[.int .i64 h4, .int .u64 l4]⟩]⟩ => some (ok4 h1 l1 h2 l2 h3 l3 h4 l4, .int .i64 (del (W2 h1 l1) (W2 h2 l2) (W2 h3 l3) (W2 h4 l4)))
  | _ => none
def pcOffset : PC Try.prog where
  f := 45
  spec := offS
  body := by kernel_rfl
  ok := fun args r hr hok => by
    unfold offS at hr
    split at hr
    · rename_i h1 l1 h2 l2 h3 l3 h4 l4
      cases hr
      simp only [ok4, Bool.and_eq_true] at hok
      obtain ⟨k1, k2, k3, k4⟩ := hok
      refine ⟨all_bel rfl, rfl, fun w => calls_spec envM hcokP 60 ?_ (all_bel rfl) rfl w⟩
      rw [offset_vc h1 l1 h2 l2 h3 l3 h4 l4 (fun v => v = .int .i64 (off (W2 h1 l1) (W2 h2 l2) (W2 h3 l3) (W2 h4 l4)))]
      simp only [W2_hilo, k1, k2, k3, k4, okW_clamp, okU_lo, okW_half, Bool.and_self, bcase_t, off]
    · cases hr
def pcDelay : PC Try.prog where
  f := 47
  spec := delS
  body := by kernel_rfl
  ok := fun args r hr hok => by
    unfold delS at hr
    split at hr
    · rename_i h1 l1 h2 l2 h3 l3 h4 l4
      cases hr
      simp only [ok4, Bool.and_eq_true] at hok
      obtain ⟨k1, k2, k3, k4⟩ := hok
      refine ⟨all_bel rfl, rfl, fun w => calls_spec envM hcokP 60 ?_ (all_bel rfl) rfl w⟩
      rw [delay_vc h1 l1 h2 l2 h3 l3 h4 l4 (fun v => v = .int .i64 (del (W2 h1 l1) (W2 h2 l2) (W2 h3 l3) (W2 h4 l4)))]
      simp only [W2_hilo, k1, k2, k3, k4, okW_clamp, Bool.and_self, bcase_t, del]
    · cases hr
def envO : Env Try.prog := envS.with false (pcOffset :: pcDelay :: pcK2 :: pcsW)
end
end Go.Proofs.Ytbhgibpocbmipaa


/-
  Read by wip/tools/vc.py, and what follows.
-/
namespace Go.Proofs.Ytbhgibpocbmipaa
open Go.Den Go.RowKit
noncomputable section
set_option maxRecDepth 100000
theorem moment_vc (s f : Int) (Q : Value → Prop) : ((ev envM 60).call [] 38 #[.int .i64 s, .int .u32 f] [] B0).holds (fun r => Q r.v) = (bcase (okI s && true)
  (bcase (okI (IntKind.wrap IntKind.i64 f))
    (bcase
      (okW (hi (s * 4294967296)) (lo (s * 4294967296)) &&
        okW (hi (IntKind.wrap IntKind.i64 f)) (lo (IntKind.wrap IntKind.i64 f)))
      (Q
        (Value.agg
          {
            toList :=
              [Value.int IntKind.i64
                  (hi
                    (clamp
                      (W2 (hi (s * 4294967296)) (lo (s * 4294967296)) +
                        W2 (hi (IntKind.wrap IntKind.i64 f)) (lo (IntKind.wrap IntKind.i64 f))))),
                Value.int IntKind.u64
                  (lo
                    (clamp
                      (W2 (hi (s * 4294967296)) (lo (s * 4294967296)) +
                        W2 (hi (IntKind.wrap IntKind.i64 f)) (lo (IntKind.wrap IntKind.i64 f)))))] }))
      False)
    False)
  False) := by kernel_rfl
theorem split_vc (h l : Int) (Q : Value → Prop) : ((ev envM 60).call [] 36 #[.agg #[.int .i64 h, .int .u64 l]] [] B0).holds (fun r => Q r.v) = (bcase (okW h l && true)
  (bcase (okW (hi (W2 h l / 4294967296)) (lo (W2 h l / 4294967296)))
    (Q
      (Value.tuple
        {
          toList :=
            [Value.int IntKind.i64 (clip (W2 (hi (W2 h l / 4294967296)) (lo (W2 h l / 4294967296)))),
              Value.int IntKind.u32 (IntKind.wrap IntKind.u32 (W2 h l % 4294967296))] }))
    False)
  False) := by kernel_rfl
theorem frac_vc (n d : Int) (Q : Value → Prop) : ((ev envM 60).call [] 41 #[.int .u64 n, .int .u64 d] [] B0).holds (fun r => Q r.v) = (bcase (d == 0) (Q (Value.tuple { toList := [Value.int IntKind.u32 0, Value.bool false] }))
  (bcase (decide (d > 1099511627776)) (Q (Value.tuple { toList := [Value.int IntKind.u32 0, Value.bool false] }))
    (bcase (decide (n ≥ d)) (Q (Value.tuple { toList := [Value.int IntKind.u32 0, Value.bool false] }))
      (bcase (okI (IntKind.wrap IntKind.i64 n) && true)
        (bcase
          (okW (hi (IntKind.wrap IntKind.i64 n * 4294967296)) (lo (IntKind.wrap IntKind.i64 n * 4294967296)) && true)
          (bcase
            (okW
                (hi
                  (clamp
                    (W2 (hi (IntKind.wrap IntKind.i64 n * 4294967296)) (lo (IntKind.wrap IntKind.i64 n * 4294967296)) +
                      0)))
                (lo
                  (clamp
                    (W2 (hi (IntKind.wrap IntKind.i64 n * 4294967296)) (lo (IntKind.wrap IntKind.i64 n * 4294967296)) +
                      0))) &&
              (decide (0 < d) && decide (d ≤ 18446744073709551615)))
            (bcase
              (W2
                    (hi
                      (clamp
                        (W2 (hi (IntKind.wrap IntKind.i64 n * 4294967296))
                            (lo (IntKind.wrap IntKind.i64 n * 4294967296)) +
                          0)))
                    (lo
                      (clamp
                        (W2 (hi (IntKind.wrap IntKind.i64 n * 4294967296))
                            (lo (IntKind.wrap IntKind.i64 n * 4294967296)) +
                          0))) %
                  d !=
                0)
              (Q
                (Value.tuple
                  {
                    toList :=
                      [Value.int IntKind.u32
                          (IntKind.wrap IntKind.u32
                            (if
                                4294967295 <
                                  IntKind.wrap IntKind.u64
                                    (lo
                                        (W2
                                            (hi
                                              (clamp
                                                (W2 (hi (IntKind.wrap IntKind.i64 n * 4294967296))
                                                    (lo (IntKind.wrap IntKind.i64 n * 4294967296)) +
                                                  W2 (hi (IntKind.wrap IntKind.i64 0))
                                                    (lo (IntKind.wrap IntKind.i64 0)))))
                                            (lo
                                              (clamp
                                                (W2 (hi (IntKind.wrap IntKind.i64 n * 4294967296))
                                                    (lo (IntKind.wrap IntKind.i64 n * 4294967296)) +
                                                  W2 (hi (IntKind.wrap IntKind.i64 0))
                                                    (lo (IntKind.wrap IntKind.i64 0))))) /
                                          d) +
                                      1) then
                              4294967295
                            else
                              IntKind.wrap IntKind.u64
                                (lo
                                    (W2
                                        (hi
                                          (clamp
                                            (W2 (hi (IntKind.wrap IntKind.i64 n * 4294967296))
                                                (lo (IntKind.wrap IntKind.i64 n * 4294967296)) +
                                              0)))
                                        (lo
                                          (clamp
                                            (W2 (hi (IntKind.wrap IntKind.i64 n * 4294967296))
                                                (lo (IntKind.wrap IntKind.i64 n * 4294967296)) +
                                              0))) /
                                      d) +
                                  1))),
                        Value.bool true] }))
              (Q
                (Value.tuple
                  {
                    toList :=
                      [Value.int IntKind.u32
                          (IntKind.wrap IntKind.u32
                            (if
                                4294967295 <
                                  lo
                                    (W2
                                        (hi
                                          (clamp
                                            (W2 (hi (IntKind.wrap IntKind.i64 n * 4294967296))
                                                (lo (IntKind.wrap IntKind.i64 n * 4294967296)) +
                                              W2 (hi (IntKind.wrap IntKind.i64 0)) (lo (IntKind.wrap IntKind.i64 0)))))
                                        (lo
                                          (clamp
                                            (W2 (hi (IntKind.wrap IntKind.i64 n * 4294967296))
                                                (lo (IntKind.wrap IntKind.i64 n * 4294967296)) +
                                              W2 (hi (IntKind.wrap IntKind.i64 0))
                                                (lo (IntKind.wrap IntKind.i64 0))))) /
                                      d) then
                              4294967295
                            else
                              lo
                                (W2
                                    (hi
                                      (clamp
                                        (W2 (hi (IntKind.wrap IntKind.i64 n * 4294967296))
                                            (lo (IntKind.wrap IntKind.i64 n * 4294967296)) +
                                          0)))
                                    (lo
                                      (clamp
                                        (W2 (hi (IntKind.wrap IntKind.i64 n * 4294967296))
                                            (lo (IntKind.wrap IntKind.i64 n * 4294967296)) +
                                          0))) /
                                  d))),
                        Value.bool true] })))
            False)
          False)
        False)))) := by kernel_rfl
theorem parts_vc (f d : Int) (Q : Value → Prop) : ((ev envM 60).call [] 42 #[.int .u32 f, .int .u64 d] [] B0).holds (fun r => Q r.v) = (bcase (d == 0) (Q (Value.tuple { toList := [Value.int IntKind.u64 0, Value.bool false] }))
  (bcase (decide (d > 1099511627776)) (Q (Value.tuple { toList := [Value.int IntKind.u64 0, Value.bool false] }))
    (bcase (okI (IntKind.wrap IntKind.i64 f) && okI (IntKind.wrap IntKind.i64 d))
      (bcase
        (okW (hi (IntKind.wrap IntKind.i64 f * IntKind.wrap IntKind.i64 d))
            (lo (IntKind.wrap IntKind.i64 f * IntKind.wrap IntKind.i64 d)) &&
          true)
        (bcase
          (okW
            (hi
              (W2 (hi (IntKind.wrap IntKind.i64 f * IntKind.wrap IntKind.i64 d))
                  (lo (IntKind.wrap IntKind.i64 f * IntKind.wrap IntKind.i64 d)) /
                4294967296))
            (lo
              (W2 (hi (IntKind.wrap IntKind.i64 f * IntKind.wrap IntKind.i64 d))
                  (lo (IntKind.wrap IntKind.i64 f * IntKind.wrap IntKind.i64 d)) /
                4294967296)))
          (Q
            (Value.tuple
              {
                toList :=
                  [Value.int IntKind.u64
                      (IntKind.wrap IntKind.u64
                        (clip
                          (W2
                            (hi
                              (W2 (hi (IntKind.wrap IntKind.i64 f * IntKind.wrap IntKind.i64 d))
                                  (lo (IntKind.wrap IntKind.i64 f * IntKind.wrap IntKind.i64 d)) /
                                4294967296))
                            (lo
                              (W2 (hi (IntKind.wrap IntKind.i64 f * IntKind.wrap IntKind.i64 d))
                                  (lo (IntKind.wrap IntKind.i64 f * IntKind.wrap IntKind.i64 d)) /
                                4294967296))))),
                    Value.bool true] }))
          False)
        False)
      False))) := by kernel_rfl
theorem mulI_in {s : Int} (h : okI s = true) (k : Int) (k0 : 0 ≤ k) (k1 : k ≤ 4294967296) : InR (s * k) := by
  rw [okI_iff] at h
  have h1 : s * k ≤ 9223372036854775807 * k := Int.mul_le_mul_of_nonneg_right h.2 k0
  have h2 : -9223372036854775808 * k ≤ s * k := Int.mul_le_mul_of_nonneg_right h.1 k0
  unfold InR; omega
theorem wrap_i64_of {n : Int} (h : okI n = true) : IntKind.i64.wrap n = n := by
  rw [okI_iff] at h; rw [IntKind.wrap_i64]; omega
theorem i64_small {n : Int} (h0 : 0 ≤ n) (h1 : n ≤ 9223372036854775807) : IntKind.i64.wrap n = n := by rw [IntKind.wrap_i64]; omega
def okU32 (n : Int) : Bool := decide (0 ≤ n) && decide (n ≤ 4294967295)
theorem okU32_iff {n : Int} : okU32 n = true ↔ 0 ≤ n ∧ n ≤ 4294967295 := by simp [okU32]
def momS : Array Value → Option (Bool × Value)
  | ⟨[.int .i64 s, .int .u32 f]⟩ => some (okI s && okU32 f, wv (s * 4294967296 + f))
  | _ => none
def splitS : Array Value → Option (Bool × Value)
  | ⟨[.agg ⟨[.int .i64 h, .int .u64 l]⟩]⟩ => some (okW h l, .tuple #[.int .i64 (clip (W2 h l / 4294967296)), .int .u32 (W2 h l % 4294967296)])
  | _ => none
def fracOk (n d : Int) : Bool := decide (0 < d) && (decide (d ≤ 1099511627776) && decide (n < d))
def fracC (n d : Int) : Int := n * 4294967296 / d + if n * 4294967296 % d = 0 then 0 else 1
def fracV (n d : Int) : Int := bif fracOk n d then (if 4294967295 < fracC n d then 4294967295 else fracC n d) else 0
def fracS : Array Value → Option (Bool × Value)
  | ⟨[.int .u64 n, .int .u64 d]⟩ => some (okU n && okU d, .tuple #[.int .u32 (fracV n d), .bool (fracOk n d)])
  | _ => none
def partOk (d : Int) : Bool := decide (0 < d) && decide (d ≤ 1099511627776)
def partV (f d : Int) : Int := bif partOk d then f * d / 4294967296 else 0
def partS : Array Value → Option (Bool × Value)
  | ⟨[.int .u32 f, .int .u64 d]⟩ => some (okU32 f && okU d, .tuple #[.int .u64 (partV f d), .bool (partOk d)])
  | _ => none
theorem mom_in {s f : Int} (hs : okI s = true) (hf : okU32 f = true) : InR (s * 4294967296 + f) := by
  rw [okI_iff] at hs; rw [okU32_iff] at hf; unfold InR; omega
def pcMoment : PC Try.prog where
  f := 38
  spec := momS
  body := by kernel_rfl
  ok := fun args r hr hok => by
    unfold momS at hr
    split at hr
    · rename_i s f
      cases hr
      rw [Bool.and_eq_true] at hok
      obtain ⟨ks, kf⟩ := hok
      refine ⟨all_bel rfl, rfl, fun w => calls_spec envM hcokP 60 ?_ (all_bel rfl) rfl w⟩
      have kf' := okU32_iff.1 kf
      rw [moment_vc s f (fun v => v = wv (s * 4294967296 + f))]
      have e1 : IntKind.i64.wrap f = f := i64_small kf'.1 (by omega)
      have e2 : okI f = true := okI_iff.2 (by omega)
      have e3 := okW_hilo (mulI_in ks 4294967296 (by omega) (by omega))
      have e4 : okW (hi f) (lo f) = true := okW_hilo (by unfold InR; omega)
      simp only [e1, e2, e3, e4, ks, W2_hilo, Bool.and_self, bcase_t, clamp_of (mom_in ks kf), wv]
    · cases hr
theorem clip_or' (n : Int) (h0 : -9223372036854775808 ≤ n) (h1 : n ≤ 9223372036854775807) : clip n = n := by unfold clip; rw [if_neg (by omega), if_neg (by omega)]
theorem div_in' {n : Int} (h : InR n) : InR (n / 4294967296) := by unfold InR at *; omega
def pcSplit : PC Try.prog where
  f := 36
  spec := splitS
  body := by kernel_rfl
  ok := fun args r hr hok => by
    unfold splitS at hr
    split at hr
    · rename_i h l
      cases hr
      refine ⟨all_bel rfl, rfl, fun w => calls_spec envM hcokP 60 ?_ (all_bel rfl) rfl w⟩
      have hok' : okW h l = true := hok
      have e1 := okW_hilo (div_in' (hi_W2 hok').2.2)
      have e2 : IntKind.u32.wrap (W2 h l % 4294967296) = W2 h l % 4294967296 := by rw [IntKind.wrap_u32]; omega
      rw [split_vc h l (fun v => v = .tuple #[.int .i64 (clip (W2 h l / 4294967296)), .int .u32 (W2 h l % 4294967296)])]
      simp only [e1, e2, hok', W2_hilo, Bool.and_self, bcase_t]
    · cases hr
theorem frac_lt {n d : Int} (n0 : 0 ≤ n) (h : n < d) : 0 ≤ n * 4294967296 / d ∧ n * 4294967296 / d < 4294967296 := by
  constructor
  · exact Int.ediv_nonneg (by omega) (by omega)
  · exact Int.ediv_lt_of_lt_mul (by omega) (by omega)
theorem tup_eq {k : IntKind} {a b : Int} {x : Value} (h : a = b) : Value.tuple #[.int k a, x] = .tuple #[.int k b, x] := by rw [h]
set_option maxHeartbeats 1000000 in
def pcFrac : PC Try.prog where
  f := 41
  spec := fracS
  body := by kernel_rfl
  ok := fun args r hr hok => by
    unfold fracS at hr
    split at hr
    · rename_i n d
      cases hr
      rw [Bool.and_eq_true, okU_iff, okU_iff] at hok
      obtain ⟨⟨n0, n1⟩, d0, d1⟩ := hok
      refine ⟨all_bel rfl, rfl, fun w => calls_spec envM hcokP 60 ?_ (all_bel rfl) rfl w⟩
      rw [frac_vc n d (fun v => v = .tuple #[.int .u32 (fracV n d), .bool (fracOk n d)])]
      have no : fracOk n d = false → Value.tuple #[.int .u32 0, .bool false] = .tuple #[.int .u32 (fracV n d), .bool (fracOk n d)] := fun h => by simp only [fracV, h, cond_false]
      refine bcase_in (fun h => no ?_) fun h1 => bcase_in (fun h => no ?_) fun h2 => bcase_in (fun h => no ?_) fun h3 => ?_
      · rw [beq_iff_eq] at h; subst h; simp [fracOk]
      · rw [decide_eq_true_eq] at h; simp [fracOk]; omega
      · rw [decide_eq_true_eq] at h; simp [fracOk]; omega
      simp only [decide_eq_false_iff_not, beq_eq_false_iff_ne, ne_eq] at h1 h2 h3
      have hd : 0 < d := by omega
      have hok : fracOk n d = true := by simp [fracOk]; omega
      have b := frac_lt n0 (show n < d by omega)
      have e1 : IntKind.i64.wrap n = n := i64_small n0 (by omega)
      have ki : okI n = true := okI_iff.2 (by omega)
      have e2 : IntKind.i64.wrap 0 = 0 := by rfl
      have e3 := okW_hilo (mulI_in ki 4294967296 (by omega) (by omega))
      have e4 : clamp (n * 4294967296 + 0) = n * 4294967296 := by rw [Int.add_zero]; exact clamp_of (mulI_in ki 4294967296 (by omega) (by omega))
      have e5 : lo (n * 4294967296 / d) = n * 4294967296 / d := by unfold lo; omega
      have e6 : W2 (hi 0) (lo 0) = 0 := W2_hilo 0
      have hV : fracV n d = if 4294967295 < fracC n d then 4294967295 else fracC n d := by simp only [fracV, hok, cond_true]
      simp only [e1, e2, e3, e4, e5, e6, ki, hok, W2_hilo, Bool.and_self, bcase_t, decide_eq_true (show d ≤ 18446744073709551615 by omega), decide_eq_true hd, hV]
      have e7 : IntKind.u64.wrap (n * 4294967296 / d + 1) = n * 4294967296 / d + 1 := by rw [IntKind.wrap_u64]; omega
      refine bcase_in (fun h => ?_) fun h => ?_
      · rw [bne_iff_ne] at h
        have hc : fracC n d = n * 4294967296 / d + 1 := by unfold fracC; rw [if_neg h]
        rw [e7, hc]
        refine tup_eq ?_
        rw [IntKind.wrap_u32]; split <;> omega
      · have h' : n * 4294967296 % d = 0 := by simpa using h
        have hc : fracC n d = n * 4294967296 / d := by unfold fracC; rw [if_pos h']; omega
        rw [hc]
        refine tup_eq ?_
        rw [IntKind.wrap_u32]; split <;> omega
    · cases hr
def pcParts : PC Try.prog where
  f := 42
  spec := partS
  body := by kernel_rfl
  ok := fun args r hr hok => by
    unfold partS at hr
    split at hr
    · rename_i f d
      cases hr
      rw [Bool.and_eq_true, okU32_iff, okU_iff] at hok
      obtain ⟨⟨f0, f1⟩, d0, d1⟩ := hok
      refine ⟨all_bel rfl, rfl, fun w => calls_spec envM hcokP 60 ?_ (all_bel rfl) rfl w⟩
      rw [parts_vc f d (fun v => v = .tuple #[.int .u64 (partV f d), .bool (partOk d)])]
      have no : partOk d = false → Value.tuple #[.int .u64 0, .bool false] = .tuple #[.int .u64 (partV f d), .bool (partOk d)] := fun h => by simp only [partV, h, cond_false]
      refine bcase_in (fun h => no ?_) fun h1 => bcase_in (fun h => no ?_) fun h2 => ?_
      · rw [beq_iff_eq] at h; subst h; simp [partOk]
      · rw [decide_eq_true_eq] at h; simp [partOk]; omega
      simp only [decide_eq_false_iff_not, beq_eq_false_iff_ne, ne_eq] at h1 h2
      have hok : partOk d = true := by simp [partOk]; omega
      have e1 : IntKind.i64.wrap f = f := i64_small f0 (by omega)
      have e2 : IntKind.i64.wrap d = d := i64_small d0 (by omega)
      have k1 : okI f = true := okI_iff.2 (by omega)
      have k2 : okI d = true := okI_iff.2 (by omega)
      have p0 : 0 ≤ f * d := Int.mul_nonneg f0 d0
      have p1 : f * d ≤ 4294967295 * 1099511627776 := Int.mul_le_mul f1 (by omega) d0 (by omega)
      have e3 : okW (hi (f * d)) (lo (f * d)) = true := okW_hilo (by unfold InR; omega)
      have e4 := okW_hilo (div_in' (n := f * d) (by unfold InR; omega))
      have hV : partV f d = f * d / 4294967296 := by simp only [partV, hok, cond_true]
      have e5 : IntKind.u64.wrap (clip (f * d / 4294967296)) = f * d / 4294967296 := by
        have := clip_or' (f * d / 4294967296) (by omega) (by omega)
        rw [this, IntKind.wrap_u64]; omega
      simp only [e1, e2, e3, e4, e5, k1, k2, hok, hV, W2_hilo, Bool.and_self, bcase_t]
    · cases hr
def envP : Env Try.prog := envS.with false (pcMoment :: pcSplit :: pcFrac :: pcParts :: pcOffset :: pcDelay :: pcK2 :: pcsW)
end
end Go.Proofs.Ytbhgibpocbmipaa


/-
  Read by wip/tools/vc.py, and what follows.
-/
namespace Go.Proofs.Ytbhgibpocbmipaa
open Go.Den Go.RowKit
noncomputable section
set_option maxRecDepth 100000
theorem unfold_vc (s h l : Int) (Q : Value → Prop) (x1 : Int) (e_x1 : x1 = -9223372036854775808) (x2 : Int) (e_x2 : x2 = clamp (W2 h s - W2 h l)) (x3 : Int) (e_x3 : x3 = hi x2) (x4 : Int) (e_x4 : x4 = lo x2) (x5 : Int) (e_x5 : x5 = IntKind.wrap IntKind.i64 (h - 1)) (x6 : Int) (e_x6 : x6 = clamp (W2 x5 s - W2 h l)) (x7 : Int) (e_x7 : x7 = hi x6) (x8 : Int) (e_x8 : x8 = lo x6) (x9 : Int) (e_x9 : x9 = clamp (sz (W2 x3 x4))) (x10 : Int) (e_x10 : x10 = hi x9) (x11 : Int) (e_x11 : x11 = lo x9) (x12 : Int) (e_x12 : x12 = clamp (sz (W2 x7 x8))) (x13 : Int) (e_x13 : x13 = hi x12) (x14 : Int) (e_x14 : x14 = lo x12) (x15 : Int) (e_x15 : x15 = W2 x10 x11) (x16 : Int) (e_x16 : x16 = W2 x13 x14) (x17 : Int) (e_x17 : x17 = cmpI x15 x16) (x18 : Int) (e_x18 : x18 = IntKind.wrap IntKind.i64 (h + 1)) (x19 : Int) (e_x19 : x19 = clamp (W2 x18 s - W2 h l)) (x20 : Int) (e_x20 : x20 = hi x19) (x21 : Int) (e_x21 : x21 = lo x19) (x22 : Int) (e_x22 : x22 = clamp (sz (W2 x20 x21))) (x23 : Int) (e_x23 : x23 = hi x22) (x24 : Int) (e_x24 : x24 = lo x22) (x25 : Int) (e_x25 : x25 = W2 x23 x24) (x26 : Int) (e_x26 : x26 = cmpI x25 x15) (x27 : Int) (e_x27 : x27 = cmpI x25 x16) : ((ev envP 80).call [] 54 #[.int .u64 s, .agg #[.int .i64 h, .int .u64 l]] [] B0).holds (fun r => Q r.v) = (bcase (decide (h > x1))
  (bcase (okW h s && okW h l)
    (bcase (okW x3 x4)
      (bcase (okW x5 s && okW h l)
        (bcase (okW x7 x8)
          (bcase (okW x10 x11 && okW x13 x14)
            (bcase (decide (x17 < 0))
              (bcase (decide (h < 9223372036854775807))
                (bcase (okW x18 s && okW h l)
                  (bcase (okW x20 x21)
                    (bcase (okW h s && okW h l)
                      (bcase (okW x3 x4)
                        (bcase (okW x23 x24 && okW x10 x11)
                          (bcase (decide (x26 < 0))
                            (Q (Value.agg { toList := [Value.int IntKind.i64 x18, Value.int IntKind.u64 s] }))
                            (Q (Value.agg { toList := [Value.int IntKind.i64 h, Value.int IntKind.u64 s] })))
                          False)
                        False)
                      False)
                    False)
                  False)
                (Q (Value.agg { toList := [Value.int IntKind.i64 h, Value.int IntKind.u64 s] })))
              (bcase (decide (h < 9223372036854775807))
                (bcase (okW x18 s && okW h l)
                  (bcase (okW x20 x21)
                    (bcase (okW x5 s && okW h l)
                      (bcase (okW x7 x8)
                        (bcase (okW x23 x24 && okW x13 x14)
                          (bcase (decide (x27 < 0))
                            (Q (Value.agg { toList := [Value.int IntKind.i64 x18, Value.int IntKind.u64 s] }))
                            (Q (Value.agg { toList := [Value.int IntKind.i64 x5, Value.int IntKind.u64 s] })))
                          False)
                        False)
                      False)
                    False)
                  False)
                (Q (Value.agg { toList := [Value.int IntKind.i64 x5, Value.int IntKind.u64 s] }))))
            False)
          False)
        False)
      False)
    False)
  (bcase (decide (h < 9223372036854775807))
    (bcase (okW x18 s && okW h l)
      (bcase (okW x20 x21)
        (bcase (okW h s && okW h l)
          (bcase (okW x3 x4)
            (bcase (okW x23 x24 && okW x10 x11)
              (bcase (decide (x26 < 0))
                (Q (Value.agg { toList := [Value.int IntKind.i64 x18, Value.int IntKind.u64 s] }))
                (Q (Value.agg { toList := [Value.int IntKind.i64 h, Value.int IntKind.u64 s] })))
              False)
            False)
          False)
        False)
      False)
    (Q (Value.agg { toList := [Value.int IntKind.i64 h, Value.int IntKind.u64 s] })))) := by
  subst e_x27 e_x26 e_x25 e_x24 e_x23 e_x22 e_x21 e_x20 e_x19 e_x18 e_x17 e_x16 e_x15 e_x14 e_x13 e_x12 e_x11 e_x10 e_x9 e_x8 e_x7 e_x6 e_x5 e_x4 e_x3 e_x2 e_x1
  kernel_rfl
theorem unix_vc (s f : Int) (Q : Value → Prop) (x1 : Int) (e_x1 : x1 = IntKind.wrap IntKind.i64 (Int.fdiv s 4294967296)) (x2 : Int) (e_x2 : x2 = IntKind.wrap IntKind.u64
  (↑(BitVec.toNat
        (BitVec.ofInt 64 (IntKind.wrap IntKind.u64 (s * 4294967296)) |||
          BitVec.ofInt 64 (IntKind.wrap IntKind.u64 f))) :
    Int)) (x3 : Int) (e_x3 : x3 = clamp (9487534653230284800 + W2 x1 x2)) : ((ev envP 80).call [] 52 #[.int .u64 s, .int .u32 f] [] B0).holds (fun r => Q r.v) = (bcase (okW x1 x2) (Q (Value.agg { toList := [Value.int IntKind.i64 (hi x3), Value.int IntKind.u64 (lo x3)] })) False) := by
  subst e_x3 e_x2 e_x1
  kernel_rfl
theorem eback_vc (h l : Int) (Q : Value → Prop) (x1 : Int) (e_x1 : x1 = clamp (W2 h l - 9487534653230284800)) (x2 : Int) (e_x2 : x2 = hi x1) (x3 : Int) (e_x3 : x3 = lo x1) (x4 : Int) (e_x4 : x4 = W2 x2 x3) (x5 : Int) (e_x5 : x5 = x4 / 4294967296) : ((ev envP 80).call [] 50 #[.agg #[.int .i64 h, .int .u64 l]] [] B0).holds (fun r => Q r.v) = (bcase (okW h l && true)
  (bcase (okW x2 x3 && true)
    (bcase (hi x5 != 0)
      (Q (Value.tuple { toList := [Value.int IntKind.u64 0, Value.int IntKind.u32 0, Value.bool false] }))
      (Q
        (Value.tuple
          {
            toList :=
              [Value.int IntKind.u64 (lo x5), Value.int IntKind.u32 (IntKind.wrap IntKind.u32 (x4 % 4294967296)),
                Value.bool true] })))
    False)
  False) := by
  subst e_x5 e_x4 e_x3 e_x2 e_x1
  kernel_rfl

theorem dist_of {d : Int} (h0 : -73786976294838206464 ≤ d) (h1 : d ≤ 73786976294838206464) : clamp (sz (clamp d)) = sz d := by
  rw [clamp_of (show InR d by unfold InR; omega), clamp_of]
  unfold InR sz; split <;> omega
theorem okI_wrap (n : Int) : okI (IntKind.i64.wrap n) = true := by rw [okI_iff, IntKind.wrap_i64]; omega
theorem okW_mk {h l : Int} (a : okI h = true) (b : okU l = true) : okW h l = true := by unfold okW; rw [a, b]; rfl
theorem okW_l {h l : Int} (a : okW h l = true) : okI h = true ∧ okU l = true := by unfold okW at a; simpa using a
theorem W2_in {h l : Int} (k : okW h l = true) : InR (W2 h l) := (hi_W2 k).2.2
/-- The era that a stamp has nearest to a moment. -/
def unfH (s h l : Int) : Int := if l + 9223372036854775808 ≤ s ∧ -9223372036854775808 < h then h - 1 else if s + 9223372036854775808 < l ∧ h < 9223372036854775807 then h + 1 else h
theorem unfH_bd {s h l : Int} (k : okI h = true) : okI (unfH s h l) = true := by
  rw [okI_iff] at *; unfold unfH; split
  · omega
  · split <;> omega
def unfS : Array Value → Option (Bool × Value)
  | ⟨[.int .u64 s, .agg ⟨[.int .i64 h, .int .u64 l]⟩]⟩ => some (okU s && okW h l, .agg #[.int .i64 (unfH s h l), .int .u64 s])
  | _ => none
def unixV (s f : Int) : Int := (s + 2208988800) * 4294967296 + f
def unixS : Array Value → Option (Bool × Value)
  | ⟨[.int .u64 s, .int .u32 f]⟩ => some (okU s && okU32 f, wv (unixV s f))
  | _ => none
def ebOk (n : Int) : Bool := decide (9487534653230284800 ≤ n) && decide (n < 79228162523751872246774235136)
def ebackS : Array Value → Option (Bool × Value)
  | ⟨[.agg ⟨[.int .i64 h, .int .u64 l]⟩]⟩ => some (okW h l, .tuple #[.int .u64 (bif ebOk (W2 h l) then (W2 h l - 9487534653230284800) / 4294967296 else 0), .int .u32 (bif ebOk (W2 h l) then (W2 h l - 9487534653230284800) % 4294967296 else 0), .bool (ebOk (W2 h l))])
  | _ => none
theorem aggE {a b s : Int} (h : a = b) : Value.agg ⟨[.int .i64 a, .int .u64 s]⟩ = .agg ⟨[.int .i64 b, .int .u64 s]⟩ := by rw [h]
theorem ww {h : Int} (h0 : -9223372036854775808 ≤ h) (h1 : h ≤ 9223372036854775807) : IntKind.i64.wrap h = h := by rw [IntKind.wrap_i64]; omega
set_option maxHeartbeats 1000000 in
def pcUnfold : PC Try.prog where
  f := 54
  spec := unfS
  body := by kernel_rfl
  ok := fun args r hr hok => by
    unfold unfS at hr
    split at hr
    · rename_i s h l
      cases hr
      rw [Bool.and_eq_true] at hok
      obtain ⟨ks, kw⟩ := hok
      have kI := (okW_l kw).1
      have bI := okI_iff.1 kI
      have bs := okU_iff.1 ks
      have bl := okU_iff.1 (okW_l kw).2
      refine ⟨all_bel rfl, rfl, fun w => calls_spec envP hcokP 80 ?_ (all_bel rfl) rfl w⟩
      rw [unfold_vc s h l (fun v => v = .agg #[.int .i64 (unfH s h l), .int .u64 s]) _ rfl _ rfl _ rfl _ rfl _ rfl _ rfl _ rfl _ rfl _ rfl _ rfl _ rfl _ rfl _ rfl _ rfl _ rfl _ rfl _ rfl _ rfl _ rfl _ rfl _ rfl _ rfl _ rfl _ rfl _ rfl _ rfl _ rfl]
      have k1 : okW h s = true := okW_mk kI ks
      have k2 : okW (IntKind.i64.wrap (h - 1)) s = true := okW_mk (okI_wrap _) ks
      have k3 : okW (IntKind.i64.wrap (h + 1)) s = true := okW_mk (okI_wrap _) ks
      simp only [W2_hilo, kw, k1, k2, k3, okW_clamp, Bool.and_self, bcase_t, cmp_lt]
      have d0 : clamp (sz (clamp (W2 h s - W2 h l))) = sz (s - l) := by
        rw [show W2 h s - W2 h l = s - l by unfold W2; omega]; exact dist_of (by omega) (by omega)
      have d1 : h < 9223372036854775807 → IntKind.i64.wrap (h + 1) = h + 1 := fun q => ww (by omega) (by omega)
      have d2 : h > -9223372036854775808 → IntKind.i64.wrap (h - 1) = h - 1 := fun q => ww (by omega) (by omega)
      have e1 : h < 9223372036854775807 → clamp (sz (clamp (W2 (IntKind.i64.wrap (h + 1)) s - W2 h l))) = sz (s - l + 18446744073709551616) := fun q => by
        rw [d1 q, show W2 (h + 1) s - W2 h l = s - l + 18446744073709551616 by unfold W2; omega]; exact dist_of (by omega) (by omega)
      have e2 : h > -9223372036854775808 → clamp (sz (clamp (W2 (IntKind.i64.wrap (h - 1)) s - W2 h l))) = sz (s - l - 18446744073709551616) := fun q => by
        rw [d2 q, show W2 (h - 1) s - W2 h l = s - l - 18446744073709551616 by unfold W2; omega]; exact dist_of (by omega) (by omega)
      rw [d0]
      refine bcase_in (fun q1 => ?_) fun q1 => ?_
      · rw [decide_eq_true_eq] at q1
        rw [e2 q1, d2 q1]
        refine bcase_in (fun q2 => ?_) fun q2 => ?_
        · rw [decide_eq_true_eq] at q2
          refine bcase_in (fun q3 => ?_) fun q3 => aggE ?_
          · rw [decide_eq_true_eq] at q3
            rw [e1 q3, d1 q3]
            refine bcase_in (fun q4 => aggE ?_) fun q4 => aggE ?_
            · rw [decide_eq_true_eq] at q4; unfold sz at *; unfold unfH; omega
            · rw [decide_eq_false_iff_not] at q4; unfold sz at *; unfold unfH; omega
          · rw [decide_eq_false_iff_not] at q3; unfold sz at *; unfold unfH; omega
        · rw [decide_eq_false_iff_not] at q2
          refine bcase_in (fun q3 => ?_) fun q3 => aggE ?_
          · rw [decide_eq_true_eq] at q3
            rw [e1 q3, d1 q3]
            refine bcase_in (fun q4 => aggE ?_) fun q4 => aggE ?_
            · rw [decide_eq_true_eq] at q4; unfold sz at *; unfold unfH; omega
            · rw [decide_eq_false_iff_not] at q4; unfold sz at *; unfold unfH; omega
          · rw [decide_eq_false_iff_not] at q3; unfold sz at *; unfold unfH; omega
      · rw [decide_eq_false_iff_not] at q1
        refine bcase_in (fun q3 => ?_) fun q3 => aggE ?_
        · rw [decide_eq_true_eq] at q3
          rw [e1 q3, d1 q3]
          refine bcase_in (fun q4 => aggE ?_) fun q4 => aggE ?_
          · rw [decide_eq_true_eq] at q4; unfold sz at *; unfold unfH; omega
          · rw [decide_eq_false_iff_not] at q4; unfold sz at *; unfold unfH; omega
        · rw [decide_eq_false_iff_not] at q3; unfold sz at *; unfold unfH; omega
    · cases hr
theorem or_low (a f : Int) (f0 : 0 ≤ f) (f1 : f ≤ 4294967295) : ((BitVec.ofInt 64 (IntKind.wrap .u64 (a * 4294967296)) ||| BitVec.ofInt 64 (IntKind.wrap .u64 f)).toNat : Int) = a % 4294967296 * 4294967296 + f := by
  have e1 : IntKind.wrap .u64 (a * 4294967296) = a % 4294967296 * 4294967296 := by rw [IntKind.wrap_u64]; omega
  have e2 : IntKind.wrap .u64 f = f := by rw [IntKind.wrap_u64]; omega
  rw [e1, e2]
  obtain ⟨x, hx⟩ : ∃ x : Nat, (x : Int) = a % 4294967296 := ⟨(a % 4294967296).toNat, by omega⟩
  obtain ⟨y, hy⟩ : ∃ y : Nat, (y : Int) = f := ⟨f.toNat, by omega⟩
  rw [← hx, ← hy]
  have hx1 : x < 4294967296 := by omega
  have hy1 : y < 2 ^ 32 := by omega
  rw [BitVec.toNat_or, BitVec.toNat_ofInt, BitVec.toNat_ofInt]
  have t1 : ((x : Int) * 4294967296 % (2 ^ 64 : Nat)).toNat = x <<< 32 := by rw [Nat.shiftLeft_eq]; omega
  have t2 : ((y : Int) % (2 ^ 64 : Nat)).toNat = y := by omega
  rw [t1, t2, ← Nat.shiftLeft_add_eq_or_of_lt hy1, Nat.shiftLeft_eq]
  omega
def pcUnix : PC Try.prog where
  f := 52
  spec := unixS
  body := by kernel_rfl
  ok := fun args r hr hok => by
    unfold unixS at hr
    split at hr
    · rename_i s f
      cases hr
      rw [Bool.and_eq_true] at hok
      obtain ⟨ks, kf⟩ := hok
      have bs := okU_iff.1 ks
      have bf := okU32_iff.1 kf
      refine ⟨all_bel rfl, rfl, fun w => calls_spec envP hcokP 80 ?_ (all_bel rfl) rfl w⟩
      rw [unix_vc s f (fun v => v = wv (unixV s f)) _ rfl _ rfl _ rfl, or_low s f bf.1 bf.2]
      have e1 : IntKind.i64.wrap (Int.fdiv s 4294967296) = s / 4294967296 := by
        rw [Int.fdiv_eq_ediv_of_nonneg _ (by omega)]; exact ww (by omega) (by omega)
      have e2 : IntKind.u64.wrap (s % 4294967296 * 4294967296 + f) = s % 4294967296 * 4294967296 + f := by rw [IntKind.wrap_u64]; omega
      rw [e1, e2]
      have k : okW (s / 4294967296) (s % 4294967296 * 4294967296 + f) = true := by rw [okW_iff]; omega
      have e3 : 9487534653230284800 + W2 (s / 4294967296) (s % 4294967296 * 4294967296 + f) = unixV s f := by unfold W2 unixV; omega
      rw [k, bcase_t, e3, clamp_of (by unfold InR unixV; omega)]; rfl
    · cases hr
theorem tup3 {a b c d : Int} {p q : Bool} (h1 : a = b) (h2 : c = d) (h3 : p = q) : Value.tuple ⟨[.int .u64 a, .int .u32 c, .bool p]⟩ = .tuple ⟨[.int .u64 b, .int .u32 d, .bool q]⟩ := by rw [h1, h2, h3]
def pcEBack : PC Try.prog where
  f := 50
  spec := ebackS
  body := by kernel_rfl
  ok := fun args r hr hok => by
    unfold ebackS at hr
    split at hr
    · rename_i h l
      cases hr
      have kw : okW h l = true := hok
      have kR := W2_in kw
      refine ⟨all_bel rfl, rfl, fun w => calls_spec envP hcokP 80 ?_ (all_bel rfl) rfl w⟩
      rw [eback_vc h l (fun v => v = .tuple #[.int .u64 (bif ebOk (W2 h l) then (W2 h l - 9487534653230284800) / 4294967296 else 0), .int .u32 (bif ebOk (W2 h l) then (W2 h l - 9487534653230284800) % 4294967296 else 0), .bool (ebOk (W2 h l))]) _ rfl _ rfl _ rfl _ rfl _ rfl]
      simp only [W2_hilo, kw, okW_clamp, Bool.and_self, bcase_t]
      generalize hN : W2 h l = N at *
      obtain ⟨c, hc⟩ : ∃ c, c = clamp (N - 9487534653230284800) := ⟨_, rfl⟩
      rw [← hc]
      have hcc : ebOk N = true → c = N - 9487534653230284800 := fun q => by
        simp only [ebOk, Bool.and_eq_true, decide_eq_true_eq] at q
        rw [hc]; exact clamp_of (by unfold InR; omega)
      have hnc : ebOk N = false → c < 0 ∨ 79228162514264337593543950336 ≤ c := fun q => by
        simp only [ebOk, Bool.and_eq_false_iff, decide_eq_false_iff_not] at q
        rw [hc]; unfold InR at kR; unfold clamp; split <;> (try split) <;> omega
      refine bcase_in (fun q => ?_) fun q => ?_
      · rw [bne_iff_ne] at q
        cases hk : ebOk N with
        | true =>
          exfalso; apply q
          have := hcc hk
          simp only [ebOk, Bool.and_eq_true, decide_eq_true_eq] at hk
          unfold hi; omega
        | false => rfl
      · have q' : hi (c / 4294967296) = 0 := by simpa using q
        cases hk : ebOk N with
        | true =>
          have := hcc hk
          simp only [ebOk, Bool.and_eq_true, decide_eq_true_eq] at hk
          refine tup3 ?_ ?_ rfl
          · simp only [cond_true]; unfold lo; omega
          · simp only [cond_true]; rw [IntKind.wrap_u32]; omega
        | false =>
          exfalso
          have := hnc hk
          unfold hi at q'; omega
    · cases hr
theorem k3_read : (((ev envT 1000).call [] 49 #[] [] B0).run.map (·.v)) = some (.bool true) := by kernel_rfl
def pcK3 : PC Try.prog := pcKnown 49 (by kernel_rfl) k3_read
def envE : Env Try.prog := envS.with false (pcUnfold :: pcUnix :: pcEBack :: pcK3 :: pcMoment :: pcSplit :: pcK2 :: pcsW)
end
end Go.Proofs.Ytbhgibpocbmipaa


/-
  Read by wip/tools/vc.py, and what follows.
-/
namespace Go.Proofs.Ytbhgibpocbmipaa
open Go.Den Go.RowKit
noncomputable section
set_option maxRecDepth 100000
theorem r2moment_vc (s f : Int) (Q : Value → Prop) (x1 : Int) (e_x1 : x1 = mag (mapU (digsN 20 (sz s))) * 4294967296) (x2 : Int) (e_x2 : x2 = mag (mapU (digsN 20 (IntKind.wrap IntKind.u64 f)))) (x3 : Int) (e_x3 : x3 = mag (mapU (digsN 20 x1))) (x4 : Int) (e_x4 : x4 = x3 + x2) (x5 : Int) (e_x5 : x5 = clamp
  (sv (addSg (decide (s < 0) != false) x3 false x2)
    (mag (mapU (digsN 20 (sz (sv (decide (s < 0) != false) x3 + sv false x2))))))) : ((ev envG 100).call [] 39 #[.int .i64 s, .int .u32 f] [] B0).holds (fun r => Q r.v) = (bcase (okI s)
  (bcase
    (okNum (mapU (digsN 20 (sz s))) &&
      decide (x1 < 2135987035920910082395021706169552114602704522356652769947041607822219725780640550022962086936576))
    (bcase (okU (IntKind.wrap IntKind.u64 f))
      (bcase
        (okNum (mapU (digsN 20 x1)) &&
          (okNum (mapU (digsN 20 (IntKind.wrap IntKind.u64 f))) &&
            (decide
                (x2 < 32592575621351777380295131014550050576823494298654980010178247189670100796213387298934358016) &&
              decide
                (x4 <
                  2135987035920910082395021706169552114602704522356652769947041607822219725780640550022962086936576))))
        (bcase (okNum (mapU (digsN 20 (sz (sv (decide (s < 0) != false) x3 + sv false x2)))))
          (Q (Value.agg { toList := [Value.int IntKind.i64 (hi x5), Value.int IntKind.u64 (lo x5)] })) False)
        False)
      False)
    False)
  False) := by
  subst e_x5 e_x4 e_x3 e_x2 e_x1
  kernel_rfl
theorem r2clip_vc (h l : Int) (Q : Value → Prop) (x1 : Int) (e_x1 : x1 = sv (decide (W2 h l < 0)) (mag (mapU (digsN 20 (sz (W2 h l)))))) (x2 : Int) (e_x2 : x2 = cmpI x1 9223372036854775807) (x3 : Int) (e_x3 : x3 = -9223372036854775808) (x4 : Int) (e_x4 : x4 = cmpI x1 x3) : ((ev envG 100).call [] 68 #[.agg #[.int .i64 h, .int .u64 l]] [] B0).holds (fun r => Q r.v) = (bcase (okW h l)
  (bcase (okNum (mapU (digsN 20 (sz (W2 h l)))) && true)
    (bcase (decide (x2 > 0)) (Q (Value.int IntKind.i64 9223372036854775807))
      (bcase (okNum (mapU (digsN 20 (sz (W2 h l)))) && true)
        (bcase (decide (x4 < 0)) (Q (Value.int IntKind.i64 x3))
          (Q (Value.int IntKind.i64 (IntKind.wrap IntKind.i64 l))))
        False))
    False)
  False) := by
  subst e_x4 e_x3 e_x2 e_x1
  kernel_rfl
theorem r2parts_vc (f d : Int) (Q : Value → Prop) (x1 : Int) (e_x1 : x1 = mag (mapU (digsN 20 (IntKind.wrap IntKind.u64 f))) * mag (mapU (digsN 20 d))) (x2 : Int) (e_x2 : x2 = mag (mapU (digsN 20 x1))) : ((ev envG 100).call [] 44 #[.int .u32 f, .int .u64 d] [] B0).holds (fun r => Q r.v) = (bcase (decide (d ≥ 1))
  (bcase (decide (d ≤ 1099511627776))
    (bcase (okU (IntKind.wrap IntKind.u64 f))
      (bcase (okU d)
        (bcase
          (okNum (mapU (digsN 20 (IntKind.wrap IntKind.u64 f))) &&
            (okNum (mapU (digsN 20 d)) &&
              decide
                (x1 <
                  2135987035920910082395021706169552114602704522356652769947041607822219725780640550022962086936576)))
          (bcase (okNum (mapU (digsN 20 x1)) && decide (x2 < 680564733841876926926749214863536422912))
            (bcase (okNum (mapU (digsN 20 (sz (sv false x2 / 4294967296)))))
              (Q
                (Value.tuple
                  {
                    toList :=
                      [Value.int IntKind.u64
                          (lo (clamp (sv false (mag (mapU (digsN 20 (sz (sv false x2 / 4294967296)))))))),
                        Value.bool true] }))
              False)
            False)
          False)
        False)
      False)
    (Q (Value.tuple { toList := [Value.int IntKind.u64 0, Value.bool false] })))
  (Q (Value.tuple { toList := [Value.int IntKind.u64 0, Value.bool false] }))) := by
  subst e_x2 e_x1
  kernel_rfl
theorem r2less_vc (h1 l1 h2 l2 : Int) (Q : Value → Prop) (x1 : Int) (e_x1 : x1 = mag (mapU (digsN 20 (mag (mapU (digsN 20 (sz (W2 h2 l2)))))))) (x2 : Int) (e_x2 : x2 = mag (mapU (digsN 20 (sz (W2 h1 l1))))) (x3 : Int) (e_x3 : x3 = x2 + x1) (x4 : Int) (e_x4 : x4 = clamp
  (sv (addSg (decide (W2 h1 l1 < 0)) x2 (!decide (W2 h2 l2 < 0)) x1)
    (mag (mapU (digsN 20 (sz (sv (decide (W2 h1 l1 < 0)) x2 + sv (!decide (W2 h2 l2 < 0)) x1))))))) : ((ev envG 100).call [] 72 #[.agg #[.int .i64 h1, .int .u64 l1], .agg #[.int .i64 h2, .int .u64 l2]] [] B0).holds (fun r => Q r.v) = (bcase (okW h1 l1)
  (bcase (okW h2 l2)
    (bcase (okNum (mapU (digsN 20 (sz (W2 h2 l2)))))
      (bcase
        (okNum (mapU (digsN 20 (sz (W2 h1 l1)))) &&
          (okNum (mapU (digsN 20 (mag (mapU (digsN 20 (sz (W2 h2 l2))))))) &&
            (decide
                (x1 < 32592575621351777380295131014550050576823494298654980010178247189670100796213387298934358016) &&
              decide
                (x3 <
                  2135987035920910082395021706169552114602704522356652769947041607822219725780640550022962086936576))))
        (bcase (okNum (mapU (digsN 20 (sz (sv (decide (W2 h1 l1 < 0)) x2 + sv (!decide (W2 h2 l2 < 0)) x1)))))
          (Q (Value.agg { toList := [Value.int IntKind.i64 (hi x4), Value.int IntKind.u64 (lo x4)] })) False)
        False)
      False)
    False)
  False) := by
  subst e_x4 e_x3 e_x2 e_x1
  kernel_rfl
theorem r3unix_vc (s f : Int) (Q : Value → Prop) (x1 : Int) (e_x1 : x1 = mag (mapU (digsN 20 s))) (x2 : Int) (e_x2 : x2 = x1 + 2208988800) (x3 : Int) (e_x3 : x3 = mag (mapU (digsN 20 (sz (sv false x1 + 2208988800)))) * 4294967296) (x4 : Int) (e_x4 : x4 = mag (mapU (digsN 20 (IntKind.wrap IntKind.u64 f)))) (x5 : Int) (e_x5 : x5 = mag (mapU (digsN 20 x3))) (x6 : Int) (e_x6 : x6 = x5 + x4) (x7 : Int) (e_x7 : x7 = clamp (sv false (mag (mapU (digsN 20 (sz (sv false x5 + sv false x4))))))) : ((ev envG 100).call [] 53 #[.int .u64 s, .int .u32 f] [] B0).holds (fun r => Q r.v) = (bcase (okU s)
  (bcase
    (okNum (mapU (digsN 20 s)) &&
      decide (x2 < 2135987035920910082395021706169552114602704522356652769947041607822219725780640550022962086936576))
    (bcase
      (okNum (mapU (digsN 20 (sz (sv false x1 + 2208988800)))) &&
        decide (x3 < 2135987035920910082395021706169552114602704522356652769947041607822219725780640550022962086936576))
      (bcase (okU (IntKind.wrap IntKind.u64 f))
        (bcase
          (okNum (mapU (digsN 20 x3)) &&
            (okNum (mapU (digsN 20 (IntKind.wrap IntKind.u64 f))) &&
              (decide
                  (x4 < 32592575621351777380295131014550050576823494298654980010178247189670100796213387298934358016) &&
                decide
                  (x6 <
                    2135987035920910082395021706169552114602704522356652769947041607822219725780640550022962086936576))))
          (bcase (okNum (mapU (digsN 20 (sz (sv false x5 + sv false x4)))))
            (Q (Value.agg { toList := [Value.int IntKind.i64 (hi x7), Value.int IntKind.u64 (lo x7)] })) False)
          False)
        False)
      False)
    False)
  False) := by
  subst e_x7 e_x6 e_x5 e_x4 e_x3 e_x2 e_x1
  kernel_rfl
theorem bne_f (b : Bool) : (b != false) = b := by cases b <;> rfl
theorem not_dec (A : Int) (B : Int) : sv (!decide (A < 0)) B = -sv (decide (A < 0)) B := by
  cases decide (A < 0) <;> simp only [sv, Bool.not_true, Bool.not_false, cond_true, cond_false] <;> omega
theorem sv_mul (s c : Int) : sv (decide (s < 0)) (sz s * c) = s * c := by
  unfold sv sz
  cases h : decide (s < 0)
  · rw [decide_eq_false_iff_not] at h; rw [if_neg h, cond_false]
  · rw [decide_eq_true_eq] at h; rw [if_pos h, cond_true, Int.neg_mul, Int.neg_neg]
theorem sv_sum {a b : Int} (ha : 0 ≤ a) (hb : 0 ≤ b) (s1 s2 : Bool) {S : Int} (hS : sv s1 a + sv s2 b = S) (h0 : -680564733841876926926749214863536422912 ≤ S) (h1 : S ≤ 680564733841876926926749214863536422912) :
    sv (addSg s1 a s2 b) (mag (mapU (digsN 20 (sz (sv s1 a + sv s2 b))))) = S := by
  rw [hS, mag_sz h0 h1, ← hS]; exact sv_addSg ha hb s1 s2
theorem wu32 {f : Int} (k : okU32 f = true) : IntKind.wrap .u64 f = f := by rw [okU32_iff] at k; exact w64 (by omega) (by omega)
def r2lessS : Array Value → Option (Bool × Value)
  | ⟨[.agg ⟨[.int .i64 h1, .int .u64 l1]⟩, .agg ⟨[.int .i64 h2, .int .u64 l2]⟩]⟩ => some (okW h1 l1 && okW h2 l2, wv (clamp (W2 h1 l1 - W2 h2 l2)))
  | _ => none
theorem wvE {a b : Int} (h : a = b) : wv a = wv b := by rw [h]
def pcR2Moment : PC Try.prog where
  f := 39
  spec := momS
  body := by kernel_rfl
  ok := fun args r hr hok => by
    unfold momS at hr
    split at hr
    · rename_i s f
      cases hr
      rw [Bool.and_eq_true] at hok
      obtain ⟨ks, kf⟩ := hok
      refine ⟨all_bel rfl, rfl, fun w => calls_spec envG hcokP 100 ?_ (all_bel rfl) rfl w⟩
      have bs := okI_iff.1 ks
      have bf := okU32_iff.1 kf
      have kU : okU f = true := okU_iff.2 (by omega)
      rw [r2moment_vc s f (fun v => v = wv (s * 4294967296 + f)) _ rfl _ rfl _ rfl _ rfl _ rfl]
      have z0 : 0 ≤ sz s ∧ sz s ≤ 9223372036854775808 := by unfold sz; omega
      have m1 : mag (mapU (digsN 20 (sz s))) = sz s := mag_sz (by omega) (by omega)
      have m2 : mag (mapU (digsN 20 (sz s * 4294967296))) = sz s * 4294967296 := mag_nv (by omega) (by unfold T320; omega)
      have m3 : mag (mapU (digsN 20 f)) = f := mag_nv (by omega) (by unfold T320; omega)
      have s1 := sv_sum (a := sz s * 4294967296) (b := f) (by omega) (by omega) (decide (s < 0)) false (S := s * 4294967296 + f) (by rw [sv_mul]; rfl) (by omega) (by omega)
      simp only [wu32 kf, m1, m2, m3, bne_f, ok_nv, ks, kU, s1, Bool.and_self, bcase_t, decide_eq_true (show sz s * 4294967296 < 2135987035920910082395021706169552114602704522356652769947041607822219725780640550022962086936576 by omega), decide_eq_true (show f < 32592575621351777380295131014550050576823494298654980010178247189670100796213387298934358016 by omega),
        decide_eq_true (show sz s * 4294967296 + f < 2135987035920910082395021706169552114602704522356652769947041607822219725780640550022962086936576 by omega)]
      exact wvE (clamp_of (mom_in ks kf))
    · cases hr
def pcR2Clip : PC Try.prog where
  f := 68
  spec := clipS
  body := by kernel_rfl
  ok := fun args r hr hok => by
    unfold clipS at hr
    split at hr
    · rename_i h l
      cases hr
      have kw : okW h l = true := hok
      refine ⟨all_bel rfl, rfl, fun w => calls_spec envG hcokP 100 ?_ (all_bel rfl) rfl w⟩
      rw [r2clip_vc h l (fun v => v = .int .i64 (clip (W2 h l))) _ rfl _ rfl _ rfl _ rfl]
      have iA := (hi_W2 kw).2.2
      have b := okW_iff.1 kw
      have iA' := iA
      unfold InR at iA'
      have m1 : mag (mapU (digsN 20 (sz (W2 h l)))) = sz (W2 h l) := mag_sz (by omega) (by omega)
      simp only [m1, kw, ok_nv, sv_sz, Bool.and_self, bcase_t, cmp_gt, cmp_lt]
      refine bcase_in (fun q => intE ?_) fun q => bcase_in (fun q2 => intE ?_) fun q2 => intE ?_
      · rw [decide_eq_true_eq] at q; unfold clip; omega
      · rw [decide_eq_true_eq] at q2; unfold clip; omega
      · rw [decide_eq_false_iff_not] at q q2
        rw [IntKind.wrap_i64]
        unfold clip W2 at *; omega
    · cases hr
def pcR2Parts : PC Try.prog where
  f := 44
  spec := partS
  body := by kernel_rfl
  ok := fun args r hr hok => by
    unfold partS at hr
    split at hr
    · rename_i f d
      cases hr
      rw [Bool.and_eq_true] at hok
      obtain ⟨kf, kd⟩ := hok
      have bf := okU32_iff.1 kf
      have bd := okU_iff.1 kd
      have kU : okU f = true := okU_iff.2 (by omega)
      refine ⟨all_bel rfl, rfl, fun w => calls_spec envG hcokP 100 ?_ (all_bel rfl) rfl w⟩
      rw [r2parts_vc f d (fun v => v = .tuple #[.int .u64 (partV f d), .bool (partOk d)]) _ rfl _ rfl]
      have no : partOk d = false → Value.tuple #[.int .u64 0, .bool false] = .tuple #[.int .u64 (partV f d), .bool (partOk d)] := fun h => by simp only [partV, h, cond_false]
      refine bcase_in (fun h1 => bcase_in (fun h2 => ?_) fun h2 => no ?_) fun h1 => no ?_
      · rw [decide_eq_true_eq] at h1 h2
        have hok : partOk d = true := by simp [partOk]; omega
        have p0 : 0 ≤ f * d := Int.mul_nonneg bf.1 bd.1
        have p1 : f * d ≤ 4294967295 * 1099511627776 := Int.mul_le_mul bf.2 (by omega) bd.1 (by omega)
        have m1 : mag (mapU (digsN 20 f)) = f := mag_nv (by omega) (by unfold T320; omega)
        have m2 : mag (mapU (digsN 20 d)) = d := mag_nv (by omega) (by unfold T320; omega)
        have m3 : mag (mapU (digsN 20 (f * d))) = f * d := mag_nv p0 (by unfold T320; omega)
        have e : sz (f * d / 4294967296) = f * d / 4294967296 := by unfold sz; omega
        have m4 : mag (mapU (digsN 20 (f * d / 4294967296))) = f * d / 4294967296 := mag_nv (by omega) (by unfold T320; omega)
        have hV : partV f d = f * d / 4294967296 := by simp only [partV, hok, cond_true]
        have e2 : lo (clamp (f * d / 4294967296)) = f * d / 4294967296 := by
          rw [clamp_of (by unfold InR; omega)]; unfold lo; omega
        simp only [wu32 kf, m1, m2, m3, m4, e, e2, hV, hok, sv_f, ok_nv, kU, kd, Bool.and_self, bcase_t, decide_eq_true (show f * d < 2135987035920910082395021706169552114602704522356652769947041607822219725780640550022962086936576 by omega), decide_eq_true (show f * d < 680564733841876926926749214863536422912 by omega)]
      · rw [decide_eq_false_iff_not] at h2; simp [partOk]; omega
      · rw [decide_eq_false_iff_not] at h1; simp [partOk]; omega
    · cases hr
def pcR2Less : PC Try.prog where
  f := 72
  spec := r2lessS
  body := by kernel_rfl
  ok := fun args r hr hok => by
    unfold r2lessS at hr
    split at hr
    · rename_i h1 l1 h2 l2
      cases hr
      rw [Bool.and_eq_true] at hok
      obtain ⟨k1, k2⟩ := hok
      refine ⟨all_bel rfl, rfl, fun w => calls_spec envG hcokP 100 ?_ (all_bel rfl) rfl w⟩
      rw [r2less_vc h1 l1 h2 l2 (fun v => v = wv (clamp (W2 h1 l1 - W2 h2 l2))) _ rfl _ rfl _ rfl _ rfl]
      have iA := (hi_W2 k1).2.2
      have iB := (hi_W2 k2).2.2
      generalize W2 h1 l1 = A at *
      generalize W2 h2 l2 = B at *
      unfold InR at iA iB
      have zA : 0 ≤ sz A ∧ sz A ≤ 170141183460469231731687303715884105728 := by unfold sz; omega
      have zB : 0 ≤ sz B ∧ sz B ≤ 170141183460469231731687303715884105728 := by unfold sz; omega
      have m1 : mag (mapU (digsN 20 (sz A))) = sz A := mag_sz (by omega) (by omega)
      have m2 : mag (mapU (digsN 20 (sz B))) = sz B := mag_sz (by omega) (by omega)
      have s1 := sv_sum zA.1 zB.1 (decide (A < 0)) (!decide (B < 0)) (S := A - B) (by rw [sv_sz, sv_nsz]; omega) (by omega) (by omega)
      simp only [m1, m2, ok_nv, k1, k2, s1, Bool.and_self, bcase_t, decide_eq_true (show sz B < 32592575621351777380295131014550050576823494298654980010178247189670100796213387298934358016 by omega),
        decide_eq_true (show sz A + sz B < 2135987035920910082395021706169552114602704522356652769947041607822219725780640550022962086936576 by omega)]
      exact (rfl : wv (clamp (A - B)) = wv (clamp (A - B)))
    · cases hr
def pcR3Unix : PC Try.prog where
  f := 53
  spec := unixS
  body := by kernel_rfl
  ok := fun args r hr hok => by
    unfold unixS at hr
    split at hr
    · rename_i s f
      cases hr
      rw [Bool.and_eq_true] at hok
      obtain ⟨ks, kf⟩ := hok
      have bs := okU_iff.1 ks
      have bf := okU32_iff.1 kf
      have kU : okU f = true := okU_iff.2 (by omega)
      refine ⟨all_bel rfl, rfl, fun w => calls_spec envG hcokP 100 ?_ (all_bel rfl) rfl w⟩
      rw [r3unix_vc s f (fun v => v = wv (unixV s f)) _ rfl _ rfl _ rfl _ rfl _ rfl _ rfl _ rfl]
      have m1 : mag (mapU (digsN 20 s)) = s := mag_nv (by omega) (by unfold T320; omega)
      have m2 : mag (mapU (digsN 20 f)) = f := mag_nv (by omega) (by unfold T320; omega)
      have e1 : sz (s + 2208988800) = s + 2208988800 := by unfold sz; omega
      have m3 : mag (mapU (digsN 20 (s + 2208988800))) = s + 2208988800 := mag_nv (by omega) (by unfold T320; omega)
      have m4 : mag (mapU (digsN 20 ((s + 2208988800) * 4294967296))) = (s + 2208988800) * 4294967296 := mag_nv (by omega) (by unfold T320; omega)
      have e2 : sz ((s + 2208988800) * 4294967296 + f) = (s + 2208988800) * 4294967296 + f := by unfold sz; omega
      have m5 : mag (mapU (digsN 20 ((s + 2208988800) * 4294967296 + f))) = (s + 2208988800) * 4294967296 + f := mag_nv (by omega) (by unfold T320; omega)
      have ec : clamp ((s + 2208988800) * 4294967296 + f) = unixV s f := clamp_of (by unfold InR; omega)
      simp only [wu32 kf, m1, m2, m3, m4, m5, e1, e2, ec, sv_f, ok_nv, ks, kU, Bool.and_self, bcase_t, decide_eq_true (show s + 2208988800 < 2135987035920910082395021706169552114602704522356652769947041607822219725780640550022962086936576 by omega),
        decide_eq_true (show (s + 2208988800) * 4294967296 < 2135987035920910082395021706169552114602704522356652769947041607822219725780640550022962086936576 by omega), decide_eq_true (show f < 32592575621351777380295131014550050576823494298654980010178247189670100796213387298934358016 by omega),
        decide_eq_true (show (s + 2208988800) * 4294967296 + f < 2135987035920910082395021706169552114602704522356652769947041607822219725780640550022962086936576 by omega)]
      exact (rfl : wv (unixV s f) = wv (unixV s f))
    · cases hr
def pcsG : List (PC Try.prog) := pcR2Moment :: pcR2Clip :: pcR2Parts :: pcR2Less :: pcR3Unix :: pcsF
def envH : Env Try.prog := envS.with false pcsG
end
end Go.Proofs.Ytbhgibpocbmipaa


/-
  Read by wip/tools/vc.py, and what follows.
-/
namespace Go.Proofs.Ytbhgibpocbmipaa
open Go.Den Go.RowKit
noncomputable section
set_option maxRecDepth 100000
theorem r2split_vc (h l : Int) (Q : Value → Prop) (x1 : Int) (e_x1 : x1 = mag (mapU (digsN 20 (sz (W2 h l))))) (x2 : Int) (e_x2 : x2 = clamp (sv (decide (W2 h l < 0)) (mag (mapU (digsN 20 (sz (sv (decide (W2 h l < 0)) x1 / 4294967296))))))) (x3 : Int) (e_x3 : x3 = hi x2) (x4 : Int) (e_x4 : x4 = lo x2) : ((ev envH 100).call [] 37 #[.agg #[.int .i64 h, .int .u64 l]] [] B0).holds (fun r => Q r.v) = (bcase (okW h l)
  (bcase (okNum (mapU (digsN 20 (sz (W2 h l)))) && decide (x1 < 680564733841876926926749214863536422912))
    (bcase (okNum (mapU (digsN 20 (sz (sv (decide (W2 h l < 0)) x1 / 4294967296)))))
      (bcase (okW x3 x4)
        (Q
          (Value.tuple
            {
              toList :=
                [Value.int IntKind.i64 (clip (W2 x3 x4)),
                  Value.int IntKind.u32 (IntKind.wrap IntKind.u32 (Int.tmod l 4294967296))] }))
        False)
      False)
    False)
  False) := by
  subst e_x4 e_x3 e_x2 e_x1
  kernel_rfl
theorem r2offset_vc (h1 l1 h2 l2 h3 l3 h4 l4 : Int) (Q : Value → Prop) (x1 : Int) (e_x1 : x1 = clamp (W2 h2 l2 - W2 h1 l1)) (x2 : Int) (e_x2 : x2 = hi x1) (x3 : Int) (e_x3 : x3 = lo x1) (x4 : Int) (e_x4 : x4 = clamp (W2 h3 l3 - W2 h4 l4)) (x5 : Int) (e_x5 : x5 = hi x4) (x6 : Int) (e_x6 : x6 = lo x4) (x7 : Int) (e_x7 : x7 = W2 x2 x3) (x8 : Int) (e_x8 : x8 = W2 x5 x6) (x9 : Int) (e_x9 : x9 = mag (mapU (digsN 20 (sz x8)))) (x10 : Int) (e_x10 : x10 = mag (mapU (digsN 20 (sz x7)))) (x11 : Int) (e_x11 : x11 = x10 + x9) (x12 : Int) (e_x12 : x12 = clamp
  (sv (addSg (decide (x7 < 0)) x10 (decide (x8 < 0)) x9)
    (mag (mapU (digsN 20 (sz (sv (decide (x7 < 0)) x10 + sv (decide (x8 < 0)) x9))))))) (x13 : Int) (e_x13 : x13 = hi x12) (x14 : Int) (e_x14 : x14 = lo x12) (x15 : Int) (e_x15 : x15 = W2 x13 x14) (x16 : Int) (e_x16 : x16 = mag (mapU (digsN 20 (sz x15)))) (x17 : Int) (e_x17 : x17 = clamp (sv (decide (x15 < 0)) (mag (mapU (digsN 20 (sz (sv (decide (x15 < 0)) x16 / 2))))))) (x18 : Int) (e_x18 : x18 = hi x17) (x19 : Int) (e_x19 : x19 = lo x17) : ((ev envH 100).call [] 46 #[.agg #[.int .i64 h1, .int .u64 l1], .agg #[.int .i64 h2, .int .u64 l2], .agg #[.int .i64 h3, .int .u64 l3], .agg #[.int .i64 h4, .int .u64 l4]] [] B0).holds (fun r => Q r.v) = (bcase (okW h2 l2 && okW h1 l1)
  (bcase (okW x2 x3)
    (bcase (okW h3 l3 && okW h4 l4)
      (bcase (okW x5 x6)
        (bcase
          (okNum (mapU (digsN 20 (sz x7))) &&
            (okNum (mapU (digsN 20 (sz x8))) &&
              (decide
                  (x9 < 32592575621351777380295131014550050576823494298654980010178247189670100796213387298934358016) &&
                decide
                  (x11 <
                    2135987035920910082395021706169552114602704522356652769947041607822219725780640550022962086936576))))
          (bcase (okNum (mapU (digsN 20 (sz (sv (decide (x7 < 0)) x10 + sv (decide (x8 < 0)) x9)))))
            (bcase (okW x13 x14)
              (bcase (okNum (mapU (digsN 20 (sz x15))) && decide (x16 < 680564733841876926926749214863536422912))
                (bcase (okNum (mapU (digsN 20 (sz (sv (decide (x15 < 0)) x16 / 2)))))
                  (bcase (okW x18 x19) (Q (Value.int IntKind.i64 (clip (W2 x18 x19)))) False) False)
                False)
              False)
            False)
          False)
        False)
      False)
    False)
  False) := by
  subst e_x19 e_x18 e_x17 e_x16 e_x15 e_x14 e_x13 e_x12 e_x11 e_x10 e_x9 e_x8 e_x7 e_x6 e_x5 e_x4 e_x3 e_x2 e_x1
  kernel_rfl
theorem r2delay_vc (h1 l1 h2 l2 h3 l3 h4 l4 : Int) (Q : Value → Prop) (x1 : Int) (e_x1 : x1 = clamp (W2 h4 l4 - W2 h1 l1)) (x2 : Int) (e_x2 : x2 = hi x1) (x3 : Int) (e_x3 : x3 = lo x1) (x4 : Int) (e_x4 : x4 = clamp (W2 h3 l3 - W2 h2 l2)) (x5 : Int) (e_x5 : x5 = hi x4) (x6 : Int) (e_x6 : x6 = lo x4) (x7 : Int) (e_x7 : x7 = clamp (W2 x2 x3 - W2 x5 x6)) (x8 : Int) (e_x8 : x8 = hi x7) (x9 : Int) (e_x9 : x9 = lo x7) : ((ev envH 100).call [] 48 #[.agg #[.int .i64 h1, .int .u64 l1], .agg #[.int .i64 h2, .int .u64 l2], .agg #[.int .i64 h3, .int .u64 l3], .agg #[.int .i64 h4, .int .u64 l4]] [] B0).holds (fun r => Q r.v) = (bcase (okW h4 l4 && okW h1 l1)
  (bcase (okW h3 l3 && okW h2 l2)
    (bcase (okW x2 x3 && okW x5 x6) (bcase (okW x8 x9) (Q (Value.int IntKind.i64 (clip (W2 x8 x9)))) False) False)
    False)
  False) := by
  subst e_x9 e_x8 e_x7 e_x6 e_x5 e_x4 e_x3 e_x2 e_x1
  kernel_rfl
theorem sv_div (A : Int) {c : Int} (hc : 0 < c) : sv (decide (A < 0)) (sz (A / c)) = A / c := by
  have e : decide (A < 0) = decide (A / c < 0) := by
    rw [decide_eq_decide]
    have := Int.ediv_nonneg_iff_of_pos (a := A) hc
    omega
  rw [e]; exact sv_sz _
theorem div_abs {A c : Int} (hc : 0 < c) (h0 : -680564733841876926926749214863536422912 ≤ A) (h1 : A ≤ 680564733841876926926749214863536422912) : -680564733841876926926749214863536422912 ≤ A / c ∧ A / c ≤ 680564733841876926926749214863536422912 := by
  by_cases hA : 0 ≤ A
  · have := Int.ediv_nonneg hA (Int.le_of_lt hc)
    have := Int.ediv_le_self c hA
    omega
  · have h3 : A / c < 0 := by
      have := Int.ediv_nonneg_iff_of_pos (a := A) hc
      omega
    have h4 : A ≤ A / c := by
      refine Int.le_ediv_of_mul_le hc ?_
      have : A * c ≤ A * 1 := Int.mul_le_mul_of_nonpos_left (by omega) (by omega)
      omega
    omega
theorem div_InR {A c : Int} (hc : 0 < c) (h : InR A) : InR (A / c) := by
  unfold InR at *
  by_cases hA : 0 ≤ A
  · have := Int.ediv_nonneg hA (Int.le_of_lt hc)
    have := Int.ediv_le_self c hA
    omega
  · have h3 : A / c < 0 := by
      have := Int.ediv_nonneg_iff_of_pos (a := A) hc
      omega
    have h4 : A ≤ A / c := by
      refine Int.le_ediv_of_mul_le hc ?_
      have : A * c ≤ A * 1 := Int.mul_le_mul_of_nonpos_left (by omega) (by omega)
      omega
    omega
/-- The document's quotient as a number. -/
theorem mag_div {A c : Int} (hc : 0 < c) (h : InR A) : mag (mapU (digsN 20 (sz (A / c)))) = sz (A / c) := by
  have := div_InR hc h
  unfold InR at this
  exact mag_sz (by omega) (by omega)
theorem mag_in {A : Int} (h : InR A) : mag (mapU (digsN 20 (sz A))) = sz A ∧ sz A < 680564733841876926926749214863536422912 ∧ sz A < 32592575621351777380295131014550050576823494298654980010178247189670100796213387298934358016 := by
  unfold InR at h
  exact ⟨mag_sz (by omega) (by omega), by unfold sz; omega, by unfold sz; omega⟩
theorem sum_in {A B : Int} (h : InR A) (k : InR B) : sz A + sz B < 2135987035920910082395021706169552114602704522356652769947041607822219725780640550022962086936576 ∧ sv (addSg (decide (A < 0)) (sz A) (decide (B < 0)) (sz B)) (mag (mapU (digsN 20 (sz (A + B))))) = A + B := by
  unfold InR at h k
  refine ⟨by unfold sz; omega, ?_⟩
  have := sv_sum (sz_nn A) (sz_nn B) (decide (A < 0)) (decide (B < 0)) (S := A + B) (by rw [sv_sz, sv_sz]) (by omega) (by omega)
  rwa [sv_sz, sv_sz] at this
def pcR2Split : PC Try.prog where
  f := 37
  spec := splitS
  body := by kernel_rfl
  ok := fun args r hr hok => by
    unfold splitS at hr
    split at hr
    · rename_i h l
      cases hr
      have kw : okW h l = true := hok
      refine ⟨all_bel rfl, rfl, fun w => calls_spec envH hcokP 100 ?_ (all_bel rfl) rfl w⟩
      rw [r2split_vc h l (fun v => v = .tuple #[.int .i64 (clip (W2 h l / 4294967296)), .int .u32 (W2 h l % 4294967296)]) _ rfl _ rfl _ rfl _ rfl]
      have e2 : IntKind.u32.wrap (Int.tmod l 4294967296) = W2 h l % 4294967296 := by
        have b := okW_iff.1 kw
        rw [Int.tmod_eq_emod_of_nonneg b.2.1, IntKind.wrap_u32]; unfold W2; omega
      have iA := (hi_W2 kw).2.2
      generalize W2 h l = A at *
      obtain ⟨m1, m2, m3⟩ := mag_in iA
      have m4 := mag_div (c := 4294967296) (by omega) iA
      have iD := div_InR (c := 4294967296) (by omega) iA
      have e3 := clamp_of iD
      simp only [m1, m4, sv_sz, sv_div A (show (0 : Int) < 4294967296 by omega), e2, e3, ok_nv, kw, okW_hilo iD, W2_hilo, Bool.and_self, bcase_t, decide_eq_true m2]
    · cases hr
def pcR2Offset : PC Try.prog where
  f := 46
  spec := offS
  body := by kernel_rfl
  ok := fun args r hr hok => by
    unfold offS at hr
    split at hr
    · rename_i h1 l1 h2 l2 h3 l3 h4 l4
      cases hr
      simp only [ok4, Bool.and_eq_true] at hok
      obtain ⟨k1, k2, k3, k4⟩ := hok
      refine ⟨all_bel rfl, rfl, fun w => calls_spec envH hcokP 100 ?_ (all_bel rfl) rfl w⟩
      rw [r2offset_vc h1 l1 h2 l2 h3 l3 h4 l4 (fun v => v = .int .i64 (off (W2 h1 l1) (W2 h2 l2) (W2 h3 l3) (W2 h4 l4))) _ rfl _ rfl _ rfl _ rfl _ rfl _ rfl _ rfl _ rfl _ rfl _ rfl _ rfl _ rfl _ rfl _ rfl _ rfl _ rfl _ rfl _ rfl _ rfl]
      unfold off
      have oP := okW_clamp (W2 h2 l2 - W2 h1 l1)
      have oQ := okW_clamp (W2 h3 l3 - W2 h4 l4)
      have iP := clamp_in (W2 h2 l2 - W2 h1 l1)
      have iQ := clamp_in (W2 h3 l3 - W2 h4 l4)
      simp only [W2_hilo]
      generalize clamp (W2 h2 l2 - W2 h1 l1) = P at *
      generalize clamp (W2 h3 l3 - W2 h4 l4) = Q at *
      obtain ⟨m1, _, m3⟩ := mag_in iP
      obtain ⟨n1, _, n3⟩ := mag_in iQ
      obtain ⟨s1, s2⟩ := sum_in iP iQ
      have iM := clamp_in (P + Q)
      have oM := okW_clamp (P + Q)
      simp only [m1, n1, sv_sz, s2]
      generalize clamp (P + Q) = M at *
      obtain ⟨r1, r2, _⟩ := mag_in iM
      have r4 := mag_div (c := 2) (by omega) iM
      have iD := div_InR (c := 2) (by omega) iM
      simp only [r1, r4, sv_sz, sv_div M (show (0 : Int) < 2 by omega), clamp_of iD, oP, oQ, oM, okW_hilo iD, ok_nv, k1, k2, k3, k4, Bool.and_self, bcase_t, decide_eq_true n3, decide_eq_true s1, decide_eq_true r2]
    · cases hr
def pcR2Delay : PC Try.prog where
  f := 48
  spec := delS
  body := by kernel_rfl
  ok := fun args r hr hok => by
    unfold delS at hr
    split at hr
    · rename_i h1 l1 h2 l2 h3 l3 h4 l4
      cases hr
      simp only [ok4, Bool.and_eq_true] at hok
      obtain ⟨k1, k2, k3, k4⟩ := hok
      refine ⟨all_bel rfl, rfl, fun w => calls_spec envH hcokP 100 ?_ (all_bel rfl) rfl w⟩
      rw [r2delay_vc h1 l1 h2 l2 h3 l3 h4 l4 (fun v => v = .int .i64 (del (W2 h1 l1) (W2 h2 l2) (W2 h3 l3) (W2 h4 l4))) _ rfl _ rfl _ rfl _ rfl _ rfl _ rfl _ rfl _ rfl _ rfl]
      simp only [W2_hilo, k1, k2, k3, k4, okW_clamp, Bool.and_self, bcase_t, del]
    · cases hr
end
end Go.Proofs.Ytbhgibpocbmipaa


/-
  Read by wip/tools/vc.py, and what follows.
-/
namespace Go.Proofs.Ytbhgibpocbmipaa
open Go.Den Go.RowKit
noncomputable section
set_option maxRecDepth 100000
theorem r3back_vc (h l : Int) (Q : Value → Prop) (x1 : Int) (e_x1 : x1 = mag (mapU (digsN 20 (sz (W2 h l))))) (x2 : Int) (e_x2 : x2 = x1 + 9487534653230284800) (x3 : Int) (e_x3 : x3 = mag (mapU (digsN 20 (sz (sv (decide (W2 h l < 0)) x1 + -9487534653230284800))))) (x4 : Int) (e_x4 : x4 = sz (sv (addSg (decide (W2 h l < 0)) x1 true 9487534653230284800) x3 / 4294967296)) (x5 : Int) (e_x5 : x5 = x4 / 65536 / 65536 / 65536 / 65536) (x6 : Int) (e_x6 : x6 = x5 % 65536) (x7 : Int) (e_x7 : x7 = x5 / 65536) (x8 : Int) (e_x8 : x8 = x7 % 65536) (x9 : Int) (e_x9 : x9 = x7 / 65536) (x10 : Int) (e_x10 : x10 = x9 % 65536) (x11 : Int) (e_x11 : x11 = x9 / 65536) (x12 : Int) (e_x12 : x12 = x11 % 65536) (x13 : Int) (e_x13 : x13 = x11 / 65536) (x14 : Int) (e_x14 : x14 = x13 % 65536) (x15 : Int) (e_x15 : x15 = x13 / 65536) (x16 : Int) (e_x16 : x16 = x15 % 65536) (x17 : Int) (e_x17 : x17 = x15 / 65536) (x18 : Int) (e_x18 : x18 = x17 % 65536) (x19 : Int) (e_x19 : x19 = x17 / 65536) (x20 : Int) (e_x20 : x20 = x19 % 65536) (x21 : Int) (e_x21 : x21 = x19 / 65536) (x22 : Int) (e_x22 : x22 = x21 % 65536) (x23 : Int) (e_x23 : x23 = x21 / 65536) (x24 : Int) (e_x24 : x24 = x23 % 65536) (x25 : Int) (e_x25 : x25 = x23 / 65536) (x26 : Int) (e_x26 : x26 = x25 % 65536) (x27 : Int) (e_x27 : x27 = x25 / 65536) (x28 : Int) (e_x28 : x28 = x27 % 65536) (x29 : Int) (e_x29 : x29 = x27 / 65536) (x30 : Int) (e_x30 : x30 = x29 % 65536) (x31 : Int) (e_x31 : x31 = x29 / 65536) (x32 : Int) (e_x32 : x32 = x31 % 65536) (x33 : Int) (e_x33 : x33 = x31 / 65536) (x34 : Int) (e_x34 : x34 = x33 % 65536) (x35 : Int) (e_x35 : x35 = x33 / 65536 % 65536) (x36 : Int) (e_x36 : x36 = mag (mapU (digsN 20 x4))) : ((ev envH 200).call [] 51 #[.agg #[.int .i64 h, .int .u64 l]] [] B0).holds (fun r => Q r.v) = (bcase (okW h l)
  (bcase
    (okNum (mapU (digsN 20 (sz (W2 h l)))) &&
      decide (x2 < 2135987035920910082395021706169552114602704522356652769947041607822219725780640550022962086936576))
    (bcase
      (okNum (mapU (digsN 20 (sz (sv (decide (W2 h l < 0)) x1 + -9487534653230284800)))) &&
        decide (x3 < 680564733841876926926749214863536422912))
      (bcase (decide (x6 > 0))
        (Q (Value.tuple { toList := [Value.int IntKind.u64 0, Value.int IntKind.u32 0, Value.bool false] }))
        (bcase (decide (x8 > 0))
          (Q (Value.tuple { toList := [Value.int IntKind.u64 0, Value.int IntKind.u32 0, Value.bool false] }))
          (bcase (decide (x10 > 0))
            (Q (Value.tuple { toList := [Value.int IntKind.u64 0, Value.int IntKind.u32 0, Value.bool false] }))
            (bcase (decide (x12 > 0))
              (Q (Value.tuple { toList := [Value.int IntKind.u64 0, Value.int IntKind.u32 0, Value.bool false] }))
              (bcase (decide (x14 > 0))
                (Q (Value.tuple { toList := [Value.int IntKind.u64 0, Value.int IntKind.u32 0, Value.bool false] }))
                (bcase (decide (x16 > 0))
                  (Q (Value.tuple { toList := [Value.int IntKind.u64 0, Value.int IntKind.u32 0, Value.bool false] }))
                  (bcase (decide (x18 > 0))
                    (Q (Value.tuple { toList := [Value.int IntKind.u64 0, Value.int IntKind.u32 0, Value.bool false] }))
                    (bcase (decide (x20 > 0))
                      (Q
                        (Value.tuple
                          { toList := [Value.int IntKind.u64 0, Value.int IntKind.u32 0, Value.bool false] }))
                      (bcase (decide (x22 > 0))
                        (Q
                          (Value.tuple
                            { toList := [Value.int IntKind.u64 0, Value.int IntKind.u32 0, Value.bool false] }))
                        (bcase (decide (x24 > 0))
                          (Q
                            (Value.tuple
                              { toList := [Value.int IntKind.u64 0, Value.int IntKind.u32 0, Value.bool false] }))
                          (bcase (decide (x26 > 0))
                            (Q
                              (Value.tuple
                                { toList := [Value.int IntKind.u64 0, Value.int IntKind.u32 0, Value.bool false] }))
                            (bcase (decide (x28 > 0))
                              (Q
                                (Value.tuple
                                  { toList := [Value.int IntKind.u64 0, Value.int IntKind.u32 0, Value.bool false] }))
                              (bcase (decide (x30 > 0))
                                (Q
                                  (Value.tuple
                                    { toList := [Value.int IntKind.u64 0, Value.int IntKind.u32 0, Value.bool false] }))
                                (bcase (decide (x32 > 0))
                                  (Q
                                    (Value.tuple
                                      {
                                        toList :=
                                          [Value.int IntKind.u64 0, Value.int IntKind.u32 0, Value.bool false] }))
                                  (bcase (decide (x34 > 0))
                                    (Q
                                      (Value.tuple
                                        {
                                          toList :=
                                            [Value.int IntKind.u64 0, Value.int IntKind.u32 0, Value.bool false] }))
                                    (bcase (decide (x35 > 0))
                                      (Q
                                        (Value.tuple
                                          {
                                            toList :=
                                              [Value.int IntKind.u64 0, Value.int IntKind.u32 0, Value.bool false] }))
                                      (bcase (addSg (decide (W2 h l < 0)) x1 true 9487534653230284800)
                                        (bcase (okNum (mapU (digsN 20 x4)))
                                          (bcase (!x36 == 0)
                                            (Q
                                              (Value.tuple
                                                {
                                                  toList :=
                                                    [Value.int IntKind.u64 0, Value.int IntKind.u32 0,
                                                      Value.bool false] }))
                                            (bcase (okNum (mapU (digsN 20 x4)))
                                              (Q
                                                (Value.tuple
                                                  {
                                                    toList :=
                                                      [Value.int IntKind.u64
                                                          (lo
                                                            (clamp
                                                              (sv
                                                                (addSg (decide (W2 h l < 0)) x1 true
                                                                  9487534653230284800)
                                                                x36))),
                                                        Value.int IntKind.u32
                                                          (IntKind.wrap IntKind.u32 (Int.tmod l 4294967296)),
                                                        Value.bool true] }))
                                              False))
                                          False)
                                        (bcase (okNum (mapU (digsN 20 x4)))
                                          (Q
                                            (Value.tuple
                                              {
                                                toList :=
                                                  [Value.int IntKind.u64
                                                      (lo
                                                        (clamp
                                                          (sv (addSg (decide (W2 h l < 0)) x1 true 9487534653230284800)
                                                            x36))),
                                                    Value.int IntKind.u32
                                                      (IntKind.wrap IntKind.u32 (Int.tmod l 4294967296)),
                                                    Value.bool true] }))
                                          False))))))))))))))))))
      False)
    False)
  False) := by
  subst e_x36 e_x35 e_x34 e_x33 e_x32 e_x31 e_x30 e_x29 e_x28 e_x27 e_x26 e_x25 e_x24 e_x23 e_x22 e_x21 e_x20 e_x19 e_x18 e_x17 e_x16 e_x15 e_x14 e_x13 e_x12 e_x11 e_x10 e_x9 e_x8 e_x7 e_x6 e_x5 e_x4 e_x3 e_x2 e_x1
  kernel_rfl
theorem tupE {a b c d : Int} {p q : Bool} (h1 : a = b) (h2 : c = d) (h3 : p = q) : Value.tuple ⟨[.int .u64 a, .int .u32 c, .bool p]⟩ = .tuple ⟨[.int .u64 b, .int .u32 d, .bool q]⟩ := by rw [h1, h2, h3]
set_option maxHeartbeats 2000000 in
def pcR3Back : PC Try.prog where
  f := 51
  spec := ebackS
  body := by kernel_rfl
  ok := fun args r hr hok => by
    unfold ebackS at hr
    split at hr
    · rename_i h l
      cases hr
      have kw : okW h l = true := hok
      refine ⟨all_bel rfl, rfl, fun w => calls_spec envH hcokP 200 ?_ (all_bel rfl) rfl w⟩
      rw [r3back_vc h l (fun v => v = .tuple #[.int .u64 (bif ebOk (W2 h l) then (W2 h l - 9487534653230284800) / 4294967296 else 0), .int .u32 (bif ebOk (W2 h l) then (W2 h l - 9487534653230284800) % 4294967296 else 0), .bool (ebOk (W2 h l))]) _ rfl _ rfl _ rfl _ rfl _ rfl _ rfl _ rfl _ rfl _ rfl _ rfl _ rfl _ rfl _ rfl _ rfl _ rfl _ rfl _ rfl _ rfl _ rfl _ rfl _ rfl _ rfl _ rfl _ rfl _ rfl _ rfl _ rfl _ rfl _ rfl _ rfl _ rfl _ rfl _ rfl _ rfl _ rfl _ rfl ]
      have e2 : IntKind.u32.wrap (Int.tmod l 4294967296) = (W2 h l - 9487534653230284800) % 4294967296 := by
        have b := okW_iff.1 kw
        rw [Int.tmod_eq_emod_of_nonneg b.2.1, IntKind.wrap_u32]; unfold W2; omega
      have iA := (hi_W2 kw).2.2
      generalize W2 h l = A at *
      obtain ⟨m1, _, _⟩ := mag_in iA
      have iA' := iA
      unfold InR at iA'
      have m2 : mag (mapU (digsN 20 (sz (A - 9487534653230284800)))) = sz (A - 9487534653230284800) := mag_sz (by omega) (by omega)
      have sg := sv_addSg (sz_nn A) (show (0 : Int) ≤ 9487534653230284800 by omega) (decide (A < 0)) true
      rw [sv_sz, show A + sv true 9487534653230284800 = A - 9487534653230284800 from rfl] at sg
      have t1 : sz A + 9487534653230284800 < 2135987035920910082395021706169552114602704522356652769947041607822219725780640550022962086936576 := by unfold sz; omega
      have t2 : sz (A - 9487534653230284800) < 680564733841876926926749214863536422912 := by unfold sz; omega
      simp only [m1, sv_sz, m2, show A + -9487534653230284800 = A - 9487534653230284800 from rfl, sg]
      obtain ⟨D, hD⟩ : ∃ D, D = A - 9487534653230284800 := ⟨_, rfl⟩
      rw [← hD] at sg t2 e2 ⊢
      have m3 : mag (mapU (digsN 20 (sz (D / 4294967296)))) = sz (D / 4294967296) := mag_sz (by omega) (by omega)
      simp only [m3, e2, ok_nv, kw, Bool.and_self, bcase_t, decide_eq_true t1, decide_eq_true t2]
      generalize addSg (decide (A < 0)) (sz A) true 9487534653230284800 = g at *
      have hq : sz (D / 4294967296) ≤ 79228162514264337593543950336 := by unfold sz; omega
      have hq0 : 0 ≤ sz (D / 4294967296) := sz_nn _
      obtain ⟨y, hy⟩ : ∃ y, y = sz (D / 4294967296) / 65536 / 65536 / 65536 / 65536 := ⟨_, rfl⟩
      rw [← hy]
      cases hk : ebOk A
      · simp only [ebOk, Bool.and_eq_false_iff, decide_eq_false_iff_not] at hk
        simp only [cond_false]
        refine bcase_in (fun _ => True.intro) fun p1 => bcase_in (fun _ => True.intro) fun p2 => bcase_in (fun _ => True.intro) fun p3 => bcase_in (fun _ => True.intro) fun p4 => bcase_in (fun _ => True.intro) fun p5 => bcase_in (fun _ => True.intro) fun p6 => bcase_in (fun _ => True.intro) fun p7 => bcase_in (fun _ => True.intro) fun p8 => bcase_in (fun _ => True.intro) fun p9 => bcase_in (fun _ => True.intro) fun p10 => bcase_in (fun _ => True.intro) fun p11 => bcase_in (fun _ => True.intro) fun p12 => bcase_in (fun _ => True.intro) fun p13 => bcase_in (fun _ => True.intro) fun p14 => bcase_in (fun _ => True.intro) fun p15 => bcase_in (fun _ => True.intro) fun p16 => ?_
        have p1' := of_decide_eq_false p1
        have p2' := of_decide_eq_false p2
        have p3' := of_decide_eq_false p3
        have hy0 : y = 0 := by omega
        have hneg : D < 0 := by unfold sz at hy hq; omega
        clear p1 p2 p3 p4 p5 p6 p7 p8 p9 p10 p11 p12 p13 p14 p15 p16
        cases g
        · exfalso
          have : sz D = D := sg
          unfold sz at this; omega
        · rw [bcase_t]
          refine bcase_in (fun _ => True.intro) fun p => ?_
          exfalso
          have p' : sz (D / 4294967296) = 0 := by simpa using p
          unfold sz at p'; omega
      · simp only [ebOk, Bool.and_eq_true, decide_eq_true_eq] at hk
        have hd : 0 ≤ D ∧ D < 79228162514264337593543950336 := by omega
        have es : sz (D / 4294967296) = D / 4294967296 := by unfold sz; omega
        have hy0 : y = 0 := by rw [hy, es]; omega
        subst hy0
        simp only [Int.zero_emod, Int.zero_ediv, show decide ((0 : Int) > 0) = false from rfl, bcase_n, cond_true, es]
        cases g
        · refine tupE ?_ rfl rfl
          rw [sv_f, clamp_of (by unfold InR; omega)]; unfold lo; omega
        · have : -sz D = D := sg
          have hz : D = 0 := by unfold sz at this; omega
          subst hz
          rfl
    · cases hr
def pcsH : List (PC Try.prog) := pcR2Split :: pcR2Offset :: pcR2Delay :: pcR3Back :: pcsG
end
end Go.Proofs.Ytbhgibpocbmipaa


/-
  The statements' own 'known' of layer 1, wide.Root as a contract, and what the statements of layer 1 are read by.
-/
namespace Go.Proofs.Ytbhgibpocbmipaa
open Go.Den Go.RowKit
noncomputable section
theorem k1_read : (((ev envT 1000).call [] 13 #[] [] B0).run.map (·.v)) = some (.bool true) := by kernel_rfl
def pcK1 : PC Try.prog := pcKnown 13 (by kernel_rfl) k1_read
open Classical in
/-- The integer root. -/
def rootI (n : Int) : Int := if h : ∃ r, IsRoot n r then h.choose else 0
theorem root_le {n m r s : Int} (h : IsRoot n r) (k : IsRoot m s) (hnm : n ≤ m) : r ≤ s := by
  obtain ⟨a, b, c, d⟩ := h
  obtain ⟨e, f, g, i⟩ := k
  by_cases hr : r ≤ s
  · exact hr
  · exfalso
    have : (s + 1) * (s + 1) ≤ r * r := Int.mul_le_mul (by omega) (by omega) (by omega) (by omega)
    omega
theorem rootI_eq {n r : Int} (h : IsRoot n r) : rootI n = r := by
  have he : ∃ r, IsRoot n r := ⟨r, h⟩
  unfold rootI
  rw [dif_pos he]
  have h2 := he.choose_spec
  have := root_le h h2 (by omega)
  have := root_le h2 h (by omega)
  omega
theorem rootI_neg {n : Int} (h : n < 0) : rootI n = 0 := by
  unfold rootI
  rw [dif_neg]
  rintro ⟨r, a, b, c, d⟩
  have : 0 ≤ r * r := Int.mul_nonneg a a
  omega
def rootS : Array Value → Option (Bool × Value)
  | ⟨[.agg ⟨[.int .i64 h, .int .u64 l]⟩]⟩ => some (okW h l, .int .u64 (rootI (W2 h l)))
  | _ => none
def pcRoot : PC Try.prog where
  f := 34
  spec := rootS
  body := by kernel_rfl
  ok := fun args r hr hok => by
    unfold rootS at hr
    split at hr
    · rename_i h l
      cases hr
      have hok' : okW h l = true := hok
      refine ⟨all_bel rfl, rfl, fun w => ?_⟩
      have hw := hi_W2 hok'
      by_cases hn : W2 h l < 0
      · have := root_neg hn w
        rw [hw.1, hw.2.1] at this
        rw [rootI_neg hn]; exact this
      · have := root_pos (show 0 ≤ W2 h l by omega) hw.2.2 w
        rw [hw.1, hw.2.1] at this
        refine this.mono ?_
        rintro e w' ⟨r, h1, rfl, hB⟩
        rw [rootI_eq h1]; exact ⟨rfl, hB⟩
    · cases hr
theorem root_is {n : Int} (h : 0 ≤ n) (h1 : InR n) : IsRoot n (rootI n) := by
  obtain ⟨r, hr⟩ : ∃ r, IsRoot n r := by
    obtain ⟨_, _, _, ⟨r, h2, _⟩, _⟩ := root_pos h h1 default []
    exact ⟨r, h2⟩
  rw [rootI_eq hr]; exact hr
def env1 : Env Try.prog := envS.with false (pcRoot :: pcK1 :: (pcsR ++ pcsW))
end
end Go.Proofs.Ytbhgibpocbmipaa


/-
  What the statements against the document's answers are read by.
-/
namespace Go.Proofs.Ytbhgibpocbmipaa
open Go.Den Go.RowKit
noncomputable section
def envL : Env Try.prog := envS.with false (pcMoment :: pcSplit :: pcFrac :: pcParts :: pcOffset :: pcDelay :: pcUnfold :: pcUnix :: pcEBack :: pcRoot :: pcK1 :: pcK2 :: pcK3 :: (pcsH ++ pcsW))
end
end Go.Proofs.Ytbhgibpocbmipaa


/-
  Read by wip/tools/vc.py, and what follows.
-/
namespace Go.Proofs.Ytbhgibpocbmipaa
open Go.Den Go.RowKit
noncomputable section
set_option maxRecDepth 100000
theorem moments_vc (s f t h l : Int) (Q : Value → Prop) (x1 : Int) (e_x1 : x1 = s * 4294967296 + f) (x2 : Int) (e_x2 : x2 = hi x1) (x3 : Int) (e_x3 : x3 = lo x1) (x4 : Int) (e_x4 : x4 = clip (W2 h l / 4294967296)) (x5 : Int) (e_x5 : x5 = W2 h l % 4294967296) (x6 : Int) (e_x6 : x6 = IntKind.wrap IntKind.i64 (IntKind.wrap IntKind.i64 t * 65536)) : ((ev envL 100).call [] 7 #[.int .i64 s, .int .u32 f, .int .u32 t, .agg #[.int .i64 h, .int .u64 l]] [] B0).holds (fun r => Q r.v) = (bcase (okW h l)
  (bcase (okW h l)
    (bcase (okI s && okU32 f)
      (bcase (okI s && okU32 f)
        (bcase (x2 == x2 && (x3 == x3 && true))
          (bcase (x4 == x4)
            (bcase (x5 == x5) (bcase (x6 == x6) (Q (Value.bool true)) (Q (Value.bool false))) (Q (Value.bool false)))
            (Q (Value.bool false)))
          (Q (Value.bool false)))
        False)
      False)
    False)
  False) := by
  subst e_x6 e_x5 e_x4 e_x3 e_x2 e_x1
  kernel_rfl
theorem exch_vc (h1 l1 h2 l2 h3 l3 h4 l4 : Int) (Q : Value → Prop) (x1 : Int) (e_x1 : x1 = off (W2 h1 l1) (W2 h2 l2) (W2 h3 l3) (W2 h4 l4)) (x2 : Int) (e_x2 : x2 = del (W2 h1 l1) (W2 h2 l2) (W2 h3 l3) (W2 h4 l4)) : ((ev envL 100).call [] 9 #[.agg #[.int .i64 h1, .int .u64 l1], .agg #[.int .i64 h2, .int .u64 l2], .agg #[.int .i64 h3, .int .u64 l3], .agg #[.int .i64 h4, .int .u64 l4]] [] B0).holds (fun r => Q r.v) = (bcase (ok4 h1 l1 h2 l2 h3 l3 h4 l4)
  (bcase (ok4 h1 l1 h2 l2 h3 l3 h4 l4)
    (bcase (x1 == x1)
      (bcase (ok4 h1 l1 h2 l2 h3 l3 h4 l4)
        (bcase (ok4 h1 l1 h2 l2 h3 l3 h4 l4) (bcase (x2 == x2) (Q (Value.bool true)) (Q (Value.bool false))) False)
        False)
      (Q (Value.bool false)))
    False)
  False) := by
  subst e_x2 e_x1
  kernel_rfl
theorem eunix_vc (s f h l : Int) (Q : Value → Prop) (x1 : Int) (e_x1 : x1 = W2 h l - 9487534653230284800) (x2 : Int) (e_x2 : x2 = bif ebOk (W2 h l) then x1 / 4294967296 else 0) (x3 : Int) (e_x3 : x3 = bif ebOk (W2 h l) then x1 % 4294967296 else 0) : ((ev envL 100).call [] 10 #[.int .u64 s, .int .u32 f, .agg #[.int .i64 h, .int .u64 l]] [] B0).holds (fun r => Q r.v) = (bcase (okW h l)
  (bcase (ebOk (W2 h l))
    (bcase (okW h l)
      (bcase (ebOk (W2 h l))
        (bcase (okU s && okU32 f)
          (bcase (okU s && okU32 f)
            (bcase (hi (unixV s f) == hi (unixV s f) && (lo (unixV s f) == lo (unixV s f) && true))
              (bcase (x2 == x2) (bcase (x3 == x3) (Q (Value.bool true)) (Q (Value.bool false))) (Q (Value.bool false)))
              (Q (Value.bool false)))
            False)
          False)
        (bcase (okU s && okU32 f)
          (bcase (okU s && okU32 f)
            (bcase (hi (unixV s f) == hi (unixV s f) && (lo (unixV s f) == lo (unixV s f) && true))
              (bcase (x2 == x2) (bcase (x3 == x3) (Q (Value.bool false)) (Q (Value.bool false))) (Q (Value.bool false)))
              (Q (Value.bool false)))
            False)
          False))
      False)
    (bcase (okW h l)
      (bcase (ebOk (W2 h l))
        (bcase (okU s && okU32 f)
          (bcase (okU s && okU32 f)
            (bcase (hi (unixV s f) == hi (unixV s f) && (lo (unixV s f) == lo (unixV s f) && true))
              (bcase (x2 == x2) (bcase (x3 == x3) (Q (Value.bool false)) (Q (Value.bool false))) (Q (Value.bool false)))
              (Q (Value.bool false)))
            False)
          False)
        (bcase (okU s && okU32 f)
          (bcase (okU s && okU32 f)
            (bcase (hi (unixV s f) == hi (unixV s f) && (lo (unixV s f) == lo (unixV s f) && true))
              (bcase (x2 == x2) (bcase (x3 == x3) (Q (Value.bool true)) (Q (Value.bool false))) (Q (Value.bool false)))
              (Q (Value.bool false)))
            False)
          False))
      False))
  False) := by
  subst e_x3 e_x2 e_x1
  kernel_rfl
theorem moments_ok (s f t h l : Int) (ks : okI s = true) (kf : okU32 f = true) (kw : okW h l = true) :
    ((ev envL 100).call [] 7 #[.int .i64 s, .int .u32 f, .int .u32 t, .agg #[.int .i64 h, .int .u64 l]] [] B0).holds (fun r => r.v = .bool true) := by
  rw [moments_vc s f t h l (fun v => v = .bool true) _ rfl _ rfl _ rfl _ rfl _ rfl _ rfl]
  simp only [ks, kf, kw, Bool.and_self, bcase_t, beq_self_eq_true]
theorem fixMoments_walk (s : Int) (s0 : -9223372036854775808 ≤ s) (s1 : s ≤ 9223372036854775807) (f : Int) (f0 : 0 ≤ f) (f1 : f ≤ 4294967295) (t : Int) (_ : 0 ≤ t) (_ : t ≤ 4294967295) (a : Int) (ha : InR a) (w : World) :
    Calls Try.prog 7 #[.int .i64 s, .int .u32 f, .int .u32 t, .agg #[.int .i64 (hi a), .int .u64 (lo a)]] w fun e w' =>
      e = .returned (.bool true) ∧ Below w.heap.size w w' :=
  calls_spec envL hcokP 100 (moments_ok s f t (hi a) (lo a) (okI_iff.2 ⟨s0, s1⟩) (okU32_iff.2 ⟨f0, f1⟩) (okW_hilo ha)) (all_bel rfl) rfl w
theorem exch_ok (h1 l1 h2 l2 h3 l3 h4 l4 : Int) (k : ok4 h1 l1 h2 l2 h3 l3 h4 l4 = true) :
    ((ev envL 100).call [] 9 #[.agg #[.int .i64 h1, .int .u64 l1], .agg #[.int .i64 h2, .int .u64 l2], .agg #[.int .i64 h3, .int .u64 l3], .agg #[.int .i64 h4, .int .u64 l4]] [] B0).holds (fun r => r.v = .bool true) := by
  rw [exch_vc h1 l1 h2 l2 h3 l3 h4 l4 (fun v => v = .bool true) _ rfl _ rfl]
  simp only [k, bcase_t, beq_self_eq_true]
theorem fixExchanges_walk (a : Int) (ha : InR a) (b : Int) (hb : InR b) (c : Int) (hc : InR c) (d : Int) (hd : InR d) (w : World) :
    Calls Try.prog 9 #[.agg #[.int .i64 (hi a), .int .u64 (lo a)], .agg #[.int .i64 (hi b), .int .u64 (lo b)], .agg #[.int .i64 (hi c), .int .u64 (lo c)], .agg #[.int .i64 (hi d), .int .u64 (lo d)]] w fun e w' =>
      e = .returned (.bool true) ∧ Below w.heap.size w w' :=
  calls_spec envL hcokP 100 (exch_ok (hi a) (lo a) (hi b) (lo b) (hi c) (lo c) (hi d) (lo d) (by unfold ok4; rw [okW_hilo ha, okW_hilo hb, okW_hilo hc, okW_hilo hd]; rfl)) (all_bel rfl) rfl w
theorem eunix_ok (s f h l : Int) (ks : okU s = true) (kf : okU32 f = true) (kw : okW h l = true) :
    ((ev envL 100).call [] 10 #[.int .u64 s, .int .u32 f, .agg #[.int .i64 h, .int .u64 l]] [] B0).holds (fun r => r.v = .bool true) := by
  rw [eunix_vc s f h l (fun v => v = .bool true) _ rfl _ rfl _ rfl]
  simp only [ks, kf, kw, Bool.and_self, bcase_t, beq_self_eq_true]
  cases ebOk (W2 h l)
  · exact True.intro
  · exact True.intro
theorem eraUnix_walk (s : Int) (s0 : 0 ≤ s) (s1 : s ≤ 18446744073709551615) (f : Int) (f0 : 0 ≤ f) (f1 : f ≤ 4294967295) (a : Int) (ha : InR a) (w : World) :
    Calls Try.prog 10 #[.int .u64 s, .int .u32 f, .agg #[.int .i64 (hi a), .int .u64 (lo a)]] w fun e w' =>
      e = .returned (.bool true) ∧ Below w.heap.size w w' :=
  calls_spec envL hcokP 100 (eunix_ok s f (hi a) (lo a) (okU_iff.2 ⟨s0, s1⟩) (okU32_iff.2 ⟨f0, f1⟩) (okW_hilo ha)) (all_bel rfl) rfl w
end
end Go.Proofs.Ytbhgibpocbmipaa


/-
  What a quotient by 0 is read by: wide.Div is read itself.
-/
namespace Go.Proofs.Ytbhgibpocbmipaa
open Go.Den Go.RowKit
noncomputable section
def envL0 : Env Try.prog := envS.with false (pcK1 :: pcClip :: pcsF)
end
end Go.Proofs.Ytbhgibpocbmipaa


/-
  Read by wip/tools/vc.py, and what follows.
-/
namespace Go.Proofs.Ytbhgibpocbmipaa
open Go.Den Go.RowKit
noncomputable section
set_option maxRecDepth 100000
theorem times_vc (h l m k n : Int) (Q : Value → Prop) (x1 : Int) (e_x1 : x1 = mag (mapU (digsN 20 (sz m))) * mag (mapU (digsN 20 (sz k)))) (x2 : Int) (e_x2 : x2 = m * k) (x3 : Int) (e_x3 : x3 = clamp (sv (decide (m < 0) != decide (k < 0)) (mag (mapU (digsN 20 x1))))) (x4 : Int) (e_x4 : x4 = mag (mapU (digsN 20 (sz (W2 h l))))) (x5 : Int) (e_x5 : x5 = x4 * mag (mapU (digsN 20 (IntKind.wrap IntKind.u64 n)))) (x6 : Int) (e_x6 : x6 = clamp (W2 h l * n)) (x7 : Int) (e_x7 : x7 = clamp (sv (decide (W2 h l < 0) != false) (mag (mapU (digsN 20 x5))))) (x8 : Int) (e_x8 : x8 = W2 h l / 2) (x9 : Int) (e_x9 : x9 = clamp (sv (decide (W2 h l < 0)) (mag (mapU (digsN 20 (sz (sv (decide (W2 h l < 0)) x4 / 2))))))) : ((ev envL 100).call [] 4 #[.agg #[.int .i64 h, .int .u64 l], .int .i64 m, .int .i64 k, .int .u32 n] [] B0).holds (fun r => Q r.v) = (bcase (okW h l)
  (bcase (okI m && okI k)
    (bcase (okI m)
      (bcase (okI k)
        (bcase
          (okNum (mapU (digsN 20 (sz m))) &&
            (okNum (mapU (digsN 20 (sz k))) &&
              decide
                (x1 <
                  2135987035920910082395021706169552114602704522356652769947041607822219725780640550022962086936576)))
          (bcase (okNum (mapU (digsN 20 x1)))
            (bcase (hi x2 == hi x3 && (lo x2 == lo x3 && true))
              (bcase (okW h l && (decide (0 ≤ n) && decide (n ≤ 4294967295)))
                (bcase (okU (IntKind.wrap IntKind.u64 n))
                  (bcase
                    (okNum (mapU (digsN 20 (sz (W2 h l)))) &&
                      (okNum (mapU (digsN 20 (IntKind.wrap IntKind.u64 n))) &&
                        decide
                          (x5 <
                            2135987035920910082395021706169552114602704522356652769947041607822219725780640550022962086936576)))
                    (bcase (okNum (mapU (digsN 20 x5)))
                      (bcase (hi x6 == hi x7 && (lo x6 == lo x7 && true))
                        (bcase (okU l)
                          (bcase
                            (okNum (mapU (digsN 20 (sz (W2 h l)))) &&
                              decide (x4 < 680564733841876926926749214863536422912))
                            (bcase (okNum (mapU (digsN 20 (sz (sv (decide (W2 h l < 0)) x4 / 2)))))
                              (bcase (hi x8 == hi x9 && (lo x8 == lo x9 && true)) (Q (Value.bool true))
                                (Q (Value.bool false)))
                              False)
                            False)
                          False)
                        (Q (Value.bool false)))
                      False)
                    False)
                  False)
                False)
              (Q (Value.bool false)))
            False)
          False)
        False)
      False)
    False)
  False) := by
  subst e_x9 e_x8 e_x7 e_x6 e_x5 e_x4 e_x3 e_x2 e_x1
  kernel_rfl
theorem wparts_vc (h l n : Int) (Q : Value → Prop) (x1 : Int) (e_x1 : x1 = mag (mapU (digsN 20 (sz (W2 h l))))) (x2 : Int) (e_x2 : x2 = sv (decide (W2 h l < 0)) x1) (x3 : Int) (e_x3 : x3 = cmpI (sv (decide (clip (W2 h l) < 0)) (mag (mapU (digsN 20 (sz (clip (W2 h l))))))) x2) (x4 : Int) (e_x4 : x4 = W2 h l / n) (x5 : Int) (e_x5 : x5 = hi x4) (x6 : Int) (e_x6 : x6 = lo x4) (x7 : Int) (e_x7 : x7 = W2 h l % n) (x8 : Int) (e_x8 : x8 = mag (mapU (digsN 20 n))) (x9 : Int) (e_x9 : x9 = mag (mapU (digsN 20 (sz (x2 / x8))))) (x10 : Int) (e_x10 : x10 = x9 * x8) (x11 : Int) (e_x11 : x11 = mag (mapU (digsN 20 (mag (mapU (digsN 20 x10)))))) (x12 : Int) (e_x12 : x12 = x1 + x11) (x13 : Int) (e_x13 : x13 = clamp (sv (decide (W2 h l < 0)) x9)) : ((ev envL 100).call [] 5 #[.agg #[.int .i64 h, .int .u64 l], .int .u64 n] [] B0).holds (fun r => Q r.v) = (bcase (okW h l)
  (bcase (okW h l && (decide (0 < n) && decide (n ≤ 18446744073709551615)))
    (bcase (okW h l)
      (bcase (okI (clip (W2 h l)))
        (bcase (okNum (mapU (digsN 20 (sz (clip (W2 h l))))) && okNum (mapU (digsN 20 (sz (W2 h l)))))
          (bcase (decide (x3 < 0))
            (bcase (okW h l)
              (bcase (clip (W2 h l) != 9223372036854775807) (Q (Value.bool false))
                (bcase (decide (x3 > 0))
                  (bcase (okW h l)
                    (bcase (clip (W2 h l) != -9223372036854775808) (Q (Value.bool false))
                      (bcase (n == 0)
                        (bcase (x5 == 0 && (x6 == 0 && true))
                          (bcase (x7 == 0) (Q (Value.bool false)) (Q (Value.bool false))) (Q (Value.bool false)))
                        (bcase (okU n)
                          (bcase
                            (okNum (mapU (digsN 20 (sz (W2 h l)))) &&
                              (okNum (mapU (digsN 20 n)) &&
                                (decide (0 < x8) &&
                                  (decide (x8 ≤ 18446744073709551616) &&
                                    decide (x1 < 680564733841876926926749214863536422912)))))
                            (bcase
                              (okNum (mapU (digsN 20 (sz (x2 / x8)))) &&
                                (okNum (mapU (digsN 20 n)) &&
                                  decide
                                    (x10 <
                                      2135987035920910082395021706169552114602704522356652769947041607822219725780640550022962086936576)))
                              (bcase (okNum (mapU (digsN 20 x10)))
                                (bcase
                                  (okNum (mapU (digsN 20 (sz (W2 h l)))) &&
                                    (okNum (mapU (digsN 20 (mag (mapU (digsN 20 x10))))) &&
                                      (decide
                                          (x11 <
                                            32592575621351777380295131014550050576823494298654980010178247189670100796213387298934358016) &&
                                        decide
                                          (x12 <
                                            2135987035920910082395021706169552114602704522356652769947041607822219725780640550022962086936576))))
                                  (bcase (okNum (mapU (digsN 20 (sz (x2 / x8)))))
                                    (bcase (x5 == hi x13 && (x6 == lo x13 && true))
                                      (bcase (okU x7)
                                        (bcase
                                          (okNum (mapU (digsN 20 x7)) &&
                                            okNum (mapU (digsN 20 (sz (x2 + sv (!decide (W2 h l < 0) != false) x11)))))
                                          (bcase
                                            (cmpI (sv false (mag (mapU (digsN 20 x7))))
                                                (sv (addSg (decide (W2 h l < 0)) x1 (!decide (W2 h l < 0) != false) x11)
                                                  (mag
                                                    (mapU
                                                      (digsN 20
                                                        (sz (x2 + sv (!decide (W2 h l < 0) != false) x11)))))) ==
                                              0)
                                            (Q (Value.bool true)) (Q (Value.bool false)))
                                          False)
                                        False)
                                      (Q (Value.bool false)))
                                    False)
                                  False)
                                False)
                              False)
                            False)
                          False)))
                    False)
                  (bcase (n == 0)
                    (bcase (x5 == 0 && (x6 == 0 && true))
                      (bcase (x7 == 0) (Q (Value.bool false)) (Q (Value.bool false))) (Q (Value.bool false)))
                    (bcase (okU n)
                      (bcase
                        (okNum (mapU (digsN 20 (sz (W2 h l)))) &&
                          (okNum (mapU (digsN 20 n)) &&
                            (decide (0 < x8) &&
                              (decide (x8 ≤ 18446744073709551616) &&
                                decide (x1 < 680564733841876926926749214863536422912)))))
                        (bcase
                          (okNum (mapU (digsN 20 (sz (x2 / x8)))) &&
                            (okNum (mapU (digsN 20 n)) &&
                              decide
                                (x10 <
                                  2135987035920910082395021706169552114602704522356652769947041607822219725780640550022962086936576)))
                          (bcase (okNum (mapU (digsN 20 x10)))
                            (bcase
                              (okNum (mapU (digsN 20 (sz (W2 h l)))) &&
                                (okNum (mapU (digsN 20 (mag (mapU (digsN 20 x10))))) &&
                                  (decide
                                      (x11 <
                                        32592575621351777380295131014550050576823494298654980010178247189670100796213387298934358016) &&
                                    decide
                                      (x12 <
                                        2135987035920910082395021706169552114602704522356652769947041607822219725780640550022962086936576))))
                              (bcase (okNum (mapU (digsN 20 (sz (x2 / x8)))))
                                (bcase (x5 == hi x13 && (x6 == lo x13 && true))
                                  (bcase (okU x7)
                                    (bcase
                                      (okNum (mapU (digsN 20 x7)) &&
                                        okNum (mapU (digsN 20 (sz (x2 + sv (!decide (W2 h l < 0) != false) x11)))))
                                      (bcase
                                        (cmpI (sv false (mag (mapU (digsN 20 x7))))
                                            (sv (addSg (decide (W2 h l < 0)) x1 (!decide (W2 h l < 0) != false) x11)
                                              (mag
                                                (mapU
                                                  (digsN 20 (sz (x2 + sv (!decide (W2 h l < 0) != false) x11)))))) ==
                                          0)
                                        (Q (Value.bool true)) (Q (Value.bool false)))
                                      False)
                                    False)
                                  (Q (Value.bool false)))
                                False)
                              False)
                            False)
                          False)
                        False)
                      False))))
              False)
            (bcase (decide (x3 > 0))
              (bcase (okW h l)
                (bcase (clip (W2 h l) != -9223372036854775808) (Q (Value.bool false))
                  (bcase (n == 0)
                    (bcase (x5 == 0 && (x6 == 0 && true))
                      (bcase (x7 == 0) (Q (Value.bool false)) (Q (Value.bool false))) (Q (Value.bool false)))
                    (bcase (okU n)
                      (bcase
                        (okNum (mapU (digsN 20 (sz (W2 h l)))) &&
                          (okNum (mapU (digsN 20 n)) &&
                            (decide (0 < x8) &&
                              (decide (x8 ≤ 18446744073709551616) &&
                                decide (x1 < 680564733841876926926749214863536422912)))))
                        (bcase
                          (okNum (mapU (digsN 20 (sz (x2 / x8)))) &&
                            (okNum (mapU (digsN 20 n)) &&
                              decide
                                (x10 <
                                  2135987035920910082395021706169552114602704522356652769947041607822219725780640550022962086936576)))
                          (bcase (okNum (mapU (digsN 20 x10)))
                            (bcase
                              (okNum (mapU (digsN 20 (sz (W2 h l)))) &&
                                (okNum (mapU (digsN 20 (mag (mapU (digsN 20 x10))))) &&
                                  (decide
                                      (x11 <
                                        32592575621351777380295131014550050576823494298654980010178247189670100796213387298934358016) &&
                                    decide
                                      (x12 <
                                        2135987035920910082395021706169552114602704522356652769947041607822219725780640550022962086936576))))
                              (bcase (okNum (mapU (digsN 20 (sz (x2 / x8)))))
                                (bcase (x5 == hi x13 && (x6 == lo x13 && true))
                                  (bcase (okU x7)
                                    (bcase
                                      (okNum (mapU (digsN 20 x7)) &&
                                        okNum (mapU (digsN 20 (sz (x2 + sv (!decide (W2 h l < 0) != false) x11)))))
                                      (bcase
                                        (cmpI (sv false (mag (mapU (digsN 20 x7))))
                                            (sv (addSg (decide (W2 h l < 0)) x1 (!decide (W2 h l < 0) != false) x11)
                                              (mag
                                                (mapU
                                                  (digsN 20 (sz (x2 + sv (!decide (W2 h l < 0) != false) x11)))))) ==
                                          0)
                                        (Q (Value.bool true)) (Q (Value.bool false)))
                                      False)
                                    False)
                                  (Q (Value.bool false)))
                                False)
                              False)
                            False)
                          False)
                        False)
                      False)))
                False)
              (bcase (n == 0)
                (bcase (x5 == 0 && (x6 == 0 && true)) (bcase (x7 == 0) (Q (Value.bool false)) (Q (Value.bool false)))
                  (Q (Value.bool false)))
                (bcase (okU n)
                  (bcase
                    (okNum (mapU (digsN 20 (sz (W2 h l)))) &&
                      (okNum (mapU (digsN 20 n)) &&
                        (decide (0 < x8) &&
                          (decide (x8 ≤ 18446744073709551616) &&
                            decide (x1 < 680564733841876926926749214863536422912)))))
                    (bcase
                      (okNum (mapU (digsN 20 (sz (x2 / x8)))) &&
                        (okNum (mapU (digsN 20 n)) &&
                          decide
                            (x10 <
                              2135987035920910082395021706169552114602704522356652769947041607822219725780640550022962086936576)))
                      (bcase (okNum (mapU (digsN 20 x10)))
                        (bcase
                          (okNum (mapU (digsN 20 (sz (W2 h l)))) &&
                            (okNum (mapU (digsN 20 (mag (mapU (digsN 20 x10))))) &&
                              (decide
                                  (x11 <
                                    32592575621351777380295131014550050576823494298654980010178247189670100796213387298934358016) &&
                                decide
                                  (x12 <
                                    2135987035920910082395021706169552114602704522356652769947041607822219725780640550022962086936576))))
                          (bcase (okNum (mapU (digsN 20 (sz (x2 / x8)))))
                            (bcase (x5 == hi x13 && (x6 == lo x13 && true))
                              (bcase (okU x7)
                                (bcase
                                  (okNum (mapU (digsN 20 x7)) &&
                                    okNum (mapU (digsN 20 (sz (x2 + sv (!decide (W2 h l < 0) != false) x11)))))
                                  (bcase
                                    (cmpI (sv false (mag (mapU (digsN 20 x7))))
                                        (sv (addSg (decide (W2 h l < 0)) x1 (!decide (W2 h l < 0) != false) x11)
                                          (mag (mapU (digsN 20 (sz (x2 + sv (!decide (W2 h l < 0) != false) x11)))))) ==
                                      0)
                                    (Q (Value.bool true)) (Q (Value.bool false)))
                                  False)
                                False)
                              (Q (Value.bool false)))
                            False)
                          False)
                        False)
                      False)
                    False)
                  False))))
          False)
        False)
      False)
    False)
  False) := by
  subst e_x13 e_x12 e_x11 e_x10 e_x9 e_x8 e_x7 e_x6 e_x5 e_x4 e_x3 e_x2 e_x1
  kernel_rfl
theorem wparts0_vc (h l : Int) (Q : Value → Prop) (x1 : Int) (e_x1 : x1 = cmpI (sv (decide (clip (W2 h l) < 0)) (mag (mapU (digsN 20 (sz (clip (W2 h l)))))))
  (sv (decide (W2 h l < 0)) (mag (mapU (digsN 20 (sz (W2 h l))))))) : ((ev envL0 100).call [] 5 #[.agg #[.int .i64 h, .int .u64 l], .int .u64 0] [] B0).holds (fun r => Q r.v) = (bcase (okW h l)
  (bcase (okW h l)
    (bcase (okI (clip (W2 h l)))
      (bcase (okNum (mapU (digsN 20 (sz (clip (W2 h l))))) && okNum (mapU (digsN 20 (sz (W2 h l)))))
        (bcase (decide (x1 < 0))
          (bcase (okW h l)
            (bcase (clip (W2 h l) != 9223372036854775807) (Q (Value.bool false))
              (bcase (decide (x1 > 0))
                (bcase (okW h l)
                  (bcase (clip (W2 h l) != -9223372036854775808) (Q (Value.bool false)) (Q (Value.bool true))) False)
                (Q (Value.bool true))))
            False)
          (bcase (decide (x1 > 0))
            (bcase (okW h l)
              (bcase (clip (W2 h l) != -9223372036854775808) (Q (Value.bool false)) (Q (Value.bool true))) False)
            (Q (Value.bool true))))
        False)
      False)
    False)
  False) := by
  subst e_x1
  kernel_rfl
theorem sv_mul2 (m k : Int) : sv (decide (m < 0) != decide (k < 0)) (sz m * sz k) = m * k := by
  unfold sz
  by_cases h1 : m < 0
  · by_cases h2 : k < 0
    · rw [if_pos h1, if_pos h2, decide_eq_true h1, decide_eq_true h2, Int.neg_mul_neg]; rfl
    · rw [if_pos h1, if_neg h2, decide_eq_true h1, decide_eq_false h2, Int.neg_mul]
      show -(-(m * k)) = m * k
      omega
  · by_cases h2 : k < 0
    · rw [if_neg h1, if_pos h2, decide_eq_false h1, decide_eq_true h2, Int.mul_neg]
      show -(-(m * k)) = m * k
      omega
    · rw [if_neg h1, if_neg h2, decide_eq_false h1, decide_eq_false h2]; rfl
theorem prodBd {a b A B : Int} (h0 : 0 ≤ a) (h1 : a ≤ A) (k0 : 0 ≤ b) (k1 : b ≤ B) : 0 ≤ a * b ∧ a * b ≤ A * B :=
  ⟨Int.mul_nonneg h0 k0, Int.mul_le_mul h1 k1 k0 (by omega)⟩
set_option maxHeartbeats 2000000 in
theorem times_ok (h l m k n : Int) (kw : okW h l = true) (km : okI m = true) (kk : okI k = true) (kn : okU32 n = true) :
    ((ev envL 100).call [] 4 #[.agg #[.int .i64 h, .int .u64 l], .int .i64 m, .int .i64 k, .int .u32 n] [] B0).holds (fun r => r.v = .bool true) := by
  rw [times_vc h l m k n (fun v => v = .bool true) _ rfl _ rfl _ rfl _ rfl _ rfl _ rfl _ rfl _ rfl _ rfl]
  have bm := okI_iff.1 km; have bk := okI_iff.1 kk; have bn := okU32_iff.1 kn
  have kl := (okW_l kw).2
  have kU : okU n = true := okU_iff.2 (by omega)
  have iA := (hi_W2 kw).2.2
  generalize W2 h l = A at *
  obtain ⟨a1, a2, a3⟩ := mag_in iA
  have zm : 0 ≤ sz m ∧ sz m ≤ 9223372036854775808 := by unfold sz; omega
  have zk : 0 ≤ sz k ∧ sz k ≤ 9223372036854775808 := by unfold sz; omega
  have zA : 0 ≤ sz A ∧ sz A ≤ 170141183460469231731687303715884105728 := by unfold InR at iA; unfold sz; omega
  have p1 := prodBd zm.1 zm.2 zk.1 zk.2
  have p2 := prodBd zA.1 zA.2 bn.1 bn.2
  have m1 : mag (mapU (digsN 20 (sz m))) = sz m := mag_nv zm.1 (by unfold T320; omega)
  have m2 : mag (mapU (digsN 20 (sz k))) = sz k := mag_nv zk.1 (by unfold T320; omega)
  have m3 : mag (mapU (digsN 20 (sz m * sz k))) = sz m * sz k := mag_nv p1.1 (by unfold T320; omega)
  have m4 : mag (mapU (digsN 20 n)) = n := mag_nv bn.1 (by unfold T320; omega)
  have m5 : mag (mapU (digsN 20 (sz A * n))) = sz A * n := mag_nv p2.1 (by unfold T320; omega)
  have c1 : clamp (m * k) = m * k := by
    refine clamp_of ?_
    have := sv_mul2 m k
    unfold InR sv at *
    cases hb : (decide (m < 0) != decide (k < 0))
    · rw [hb, cond_false] at this; omega
    · rw [hb, cond_true] at this; omega
  have r4 := mag_div (c := 2) (by omega) iA
  have iD := div_InR (c := 2) (by omega) iA
  simp only [wu32 kn, a1, m1, m2, m3, m4, m5, sv_mul2, c1, bne_f, sv_mul, sv_sz, r4, sv_div A (show (0 : Int) < 2 by omega), clamp_of iD, ok_nv, kw, km, kk, kU, kl, Bool.and_self, bcase_t, beq_self_eq_true,
    decide_eq_true (show sz m * sz k < 2135987035920910082395021706169552114602704522356652769947041607822219725780640550022962086936576 by omega), decide_eq_true (show sz A * n < 2135987035920910082395021706169552114602704522356652769947041607822219725780640550022962086936576 by omega), decide_eq_true a2,
    decide_eq_true bn.1, decide_eq_true bn.2]
theorem wideTimes_walk (a : Int) (ha : InR a) (m : Int) (m0 : -9223372036854775808 ≤ m) (m1 : m ≤ 9223372036854775807) (k : Int) (k0 : -9223372036854775808 ≤ k) (k1 : k ≤ 9223372036854775807) (n : Int) (n0 : 0 ≤ n) (n1 : n ≤ 4294967295) (w : World) :
    Calls Try.prog 4 #[.agg #[.int .i64 (hi a), .int .u64 (lo a)], .int .i64 m, .int .i64 k, .int .u32 n] w fun e w' =>
      e = .returned (.bool true) ∧ Below w.heap.size w w' :=
  calls_spec envL hcokP 100 (times_ok (hi a) (lo a) m k n (okW_hilo ha) (okI_iff.2 ⟨m0, m1⟩) (okI_iff.2 ⟨k0, k1⟩) (okU32_iff.2 ⟨n0, n1⟩)) (all_bel rfl) rfl w
theorem sv_divmul (A : Int) {c : Int} (hc : 0 < c) (d : Int) : sv (decide (A < 0)) (sz (A / c) * d) = A / c * d := by
  have e : decide (A < 0) = decide (A / c < 0) := by
    rw [decide_eq_decide]
    have := Int.ediv_nonneg_iff_of_pos (a := A) hc
    omega
  rw [e]; exact sv_mul _ _
theorem clip_bd (A : Int) : okI (clip A) = true ∧ (clip A < A → clip A = 9223372036854775807) ∧ (A < clip A → clip A = -9223372036854775808) := by
  rw [okI_iff]; unfold clip; omega
set_option maxHeartbeats 4000000 in
theorem wparts_ok (h l n : Int) (kw : okW h l = true) (kn : okU n = true) (hn : 0 < n) :
    ((ev envL 100).call [] 5 #[.agg #[.int .i64 h, .int .u64 l], .int .u64 n] [] B0).holds (fun r => r.v = .bool true) := by
  rw [wparts_vc h l n (fun v => v = .bool true) _ rfl _ rfl _ rfl _ rfl _ rfl _ rfl _ rfl _ rfl _ rfl _ rfl _ rfl _ rfl _ rfl]
  have bn := okU_iff.1 kn
  have iA := (hi_W2 kw).2.2
  generalize W2 h l = A at *
  obtain ⟨a1, a2, a3⟩ := mag_in iA
  obtain ⟨c1, c2, c3⟩ := clip_bd A
  have bc := okI_iff.1 c1
  have iD := div_InR hn iA
  have dA := div_abs hn (show -680564733841876926926749214863536422912 ≤ A by unfold InR at iA; omega) (by unfold InR at iA; omega)
  have zA : 0 ≤ sz A ∧ sz A ≤ 170141183460469231731687303715884105728 := by unfold InR at iA; unfold sz; omega
  have zD : 0 ≤ sz (A / n) ∧ sz (A / n) ≤ 170141183460469231731687303715884105728 := by unfold InR at iD; unfold sz; omega
  have p1 := prodBd zD.1 zD.2 bn.1 bn.2
  have m1 : mag (mapU (digsN 20 (sz (clip A)))) = sz (clip A) := mag_sz (by omega) (by omega)
  have m2 : mag (mapU (digsN 20 n)) = n := mag_nv bn.1 (by unfold T320; omega)
  have m3 := mag_div hn iA
  have m4 : mag (mapU (digsN 20 (sz (A / n) * n))) = sz (A / n) * n := mag_nv p1.1 (by unfold T320; omega)
  have hr0 := Int.emod_nonneg A (show n ≠ 0 by omega)
  have hr1 := Int.emod_lt_of_pos A hn
  have m5 : mag (mapU (digsN 20 (A % n))) = A % n := mag_nv hr0 (by unfold T320; omega)
  have kR : okU (A % n) = true := okU_iff.2 (by omega)
  have ed : A + -(A / n * n) = A % n := by
    have := Int.emod_add_mul_ediv A n
    rw [Int.mul_comm] at this; omega
  have e1 : sv (!decide (A < 0)) (sz (A / n) * n) = -(A / n * n) := by rw [not_dec, sv_divmul A hn]
  have s1 := sv_sum zA.1 p1.1 (decide (A < 0)) (!decide (A < 0)) (S := A % n) (by rw [sv_sz, e1, ed]) (by omega) (by omega)
  rw [sv_sz, e1, ed] at s1
  have hn0 : (n == 0) = false := by rw [beq_eq_false_iff_ne]; omega
  simp only [a1, m1, m2, m3, m4, m5, sv_sz, sv_f, bne_f, e1, ed, s1, sv_div A hn, clamp_of iD, ok_nv, kw, kn, kR, c1, hn0, Bool.and_self, bcase_t, bcase_n, beq_self_eq_true, cmp_lt, cmp_gt, cmpI_self, decide_eq_true hn, decide_eq_true bn.2, decide_eq_true (show n ≤ 18446744073709551616 by omega), decide_eq_true a2,
    decide_eq_true (show sz (A / n) * n < 2135987035920910082395021706169552114602704522356652769947041607822219725780640550022962086936576 by omega), decide_eq_true (show sz (A / n) * n < 32592575621351777380295131014550050576823494298654980010178247189670100796213387298934358016 by omega),
    decide_eq_true (show sz A + sz (A / n) * n < 2135987035920910082395021706169552114602704522356652769947041607822219725780640550022962086936576 by omega)]
  refine bcase_in (fun q => ?_) fun q => ?_
  · rw [decide_eq_true_eq] at q
    rw [c2 q]
    refine bcase_in (fun p => ?_) fun _ => bcase_in (fun p2 => ?_) fun _ => True.intro
    · exact absurd p (by decide)
    · rw [decide_eq_true_eq] at p2
      rw [← c2 q] at p2; omega
  · refine bcase_in (fun p2 => ?_) fun _ => True.intro
    rw [decide_eq_true_eq] at p2
    rw [c3 p2]
    refine bcase_in (fun p => ?_) fun _ => True.intro
    exact absurd p (by decide)
theorem wparts0_ok (h l : Int) (kw : okW h l = true) :
    ((ev envL0 100).call [] 5 #[.agg #[.int .i64 h, .int .u64 l], .int .u64 0] [] B0).holds (fun r => r.v = .bool true) := by
  rw [wparts0_vc h l (fun v => v = .bool true) _ rfl]
  have iA := (hi_W2 kw).2.2
  generalize W2 h l = A at *
  obtain ⟨a1, a2, a3⟩ := mag_in iA
  obtain ⟨c1, c2, c3⟩ := clip_bd A
  have bc := okI_iff.1 c1
  have m1 : mag (mapU (digsN 20 (sz (clip A)))) = sz (clip A) := mag_sz (by omega) (by omega)
  simp only [a1, m1, sv_sz, ok_nv, kw, c1, Bool.and_self, bcase_t, cmp_lt, cmp_gt]
  refine bcase_in (fun q => ?_) fun q => ?_
  · rw [decide_eq_true_eq] at q
    rw [c2 q]
    refine bcase_in (fun p => ?_) fun _ => bcase_in (fun p2 => ?_) fun _ => True.intro
    · exact absurd p (by decide)
    · rw [decide_eq_true_eq] at p2
      rw [← c2 q] at p2; omega
  · refine bcase_in (fun p2 => ?_) fun _ => True.intro
    rw [decide_eq_true_eq] at p2
    rw [c3 p2]
    refine bcase_in (fun p => ?_) fun _ => True.intro
    exact absurd p (by decide)
theorem wideParts_walk (a : Int) (ha : InR a) (n : Int) (n0 : 0 ≤ n) (n1 : n ≤ 18446744073709551615) (w : World) :
    Calls Try.prog 5 #[.agg #[.int .i64 (hi a), .int .u64 (lo a)], .int .u64 n] w fun e w' =>
      e = .returned (.bool true) ∧ Below w.heap.size w w' := by
  by_cases hn : n = 0
  · subst hn
    exact calls_spec envL0 hcokP 100 (wparts0_ok (hi a) (lo a) (okW_hilo ha)) (all_bel rfl) rfl w
  · exact calls_spec envL hcokP 100 (wparts_ok (hi a) (lo a) n (okW_hilo ha) (okU_iff.2 ⟨n0, n1⟩) (by omega)) (all_bel rfl) rfl w
end
end Go.Proofs.Ytbhgibpocbmipaa
