
/-
  WideLaws: the region that multiplies back.
-/
import Derived.Test.YtkmegldbmjpdmaaWMul
import Derived.Test.YtkmegldbmjpdmaaKit2
namespace Go.Proofs.Ytkmegldbmjpdmaa
open Go.RowKit

noncomputable def laws_r15z_code : Code := ((Try.f6.body.bind (findRegion 15)).getD .skip)
set_option maxRecDepth 100000 in set_option maxHeartbeats 8000000 in
theorem laws_r15z {a b c s q r : Int} {ok : Bool} {B14 : Nat} {B4 B5 B6 B9 : Nat} {W : World} {u0 u1 u2 u5 u6 u7 u8 u9 u10 u11 u12 u13 u17 u18 u19 u20 u21 u22 u23 u24 u25 u26 u27 u28 u29 u30 u31 u32 u33 u34 u35 u36 u37 u38 u39 u40 u41 u42 u43 u44 u45 u46 u47 u48 u49 u50 u51 u52 u53 u54 u55 u56 u57 u58 u59 u60 u61 u62 u63 u64 u65 u66 u67 u68 u69 u70 u71 u72 u73 u74 u75 u76 u77 u78 u79 u80 u81 u82 u83 u84 u85 u86 u87 u88 u89 u90 u91 u92 u93 u94 u95 u96 u97 u98 u99 u100 u101 u102 u103 u104 u105 u106 u107 u108 u109 u110 u111 u112 u113 u114 u115 u116 u117 u118 u119 u120 u121 u122 u123 u124 u125 u126 u127 u128 u129 u130 u131 u132 u133 u134 u135 u136 u137 u138 u139 u140 u141 u142 u143 u144 u145 u146 u147 u148 u149 u150 u151 u152 u153 u154 u155 u156 u157 u158 u159 u160 u161 u162 u163 u164 : Value} {K : Act → World → Prop} {Q' : Exit → Act → World → Prop} {w1 : World} (hHeld : (fun w' => Blk w' B14 #[.int .i64 (hi q), .int .u64 (lo q)] 24 ∧ Blk w' B4 #[.int .i64 (hi a), .int .u64 (lo a)] 24 ∧ Blk w' B5 #[.int .i64 (hi b), .int .u64 (lo b)] 24 ∧ Blk w' B6 #[.int .i64 (hi c), .int .u64 (lo c)] 24 ∧ Blk w' B9 #[.int .i64 (hi s), .int .u64 (lo s)] 24 ∧ Below W.heap.size W w') w1)
    (hP : ∀ c t t2 d w, Q' (.panic c) ⟨t, d⟩ w → Q' (.panic c) ⟨t2, d⟩ w)
    (hK : ∀ (v122 v123 v124 v125 v126 v127 v128 v129 v130 v131 v132 v133 v134 v135 v136 v137 v138 v139 v140 v141 v142 v143 v144 v145 v146 v147 v148 v149 : Value) (w2 : World), (v149 = .bool false ∧ (fun w' => Blk w' B14 #[.int .i64 (hi q), .int .u64 (lo q)] 24 ∧ Blk w' B4 #[.int .i64 (hi a), .int .u64 (lo a)] 24 ∧ Blk w' B5 #[.int .i64 (hi b), .int .u64 (lo b)] 24 ∧ Blk w' B6 #[.int .i64 (hi c), .int .u64 (lo c)] 24 ∧ Blk w' B9 #[.int .i64 (hi s), .int .u64 (lo s)] 24 ∧ Below W.heap.size W w') w2) → K ⟨List.toArray (u0 :: u1 :: u2 :: (.int .u32 0) :: (.pointer (some ⟨B4, 0, none⟩)) :: u5 :: u6 :: u7 :: u8 :: u9 :: u10 :: u11 :: u12 :: u13 :: (.pointer (some ⟨B14, 0, none⟩)) :: (.int .u64 r) :: (.bool ok) :: u17 :: u18 :: u19 :: u20 :: u21 :: u22 :: u23 :: u24 :: u25 :: u26 :: u27 :: u28 :: u29 :: u30 :: u31 :: u32 :: u33 :: u34 :: u35 :: u36 :: u37 :: u38 :: u39 :: u40 :: u41 :: u42 :: u43 :: u44 :: u45 :: u46 :: u47 :: u48 :: u49 :: u50 :: u51 :: u52 :: u53 :: u54 :: u55 :: u56 :: u57 :: u58 :: u59 :: u60 :: u61 :: u62 :: u63 :: u64 :: u65 :: u66 :: u67 :: u68 :: u69 :: u70 :: u71 :: u72 :: u73 :: u74 :: u75 :: u76 :: u77 :: u78 :: u79 :: u80 :: u81 :: u82 :: u83 :: u84 :: u85 :: u86 :: u87 :: u88 :: u89 :: u90 :: u91 :: u92 :: u93 :: u94 :: u95 :: u96 :: u97 :: u98 :: u99 :: u100 :: u101 :: u102 :: u103 :: u104 :: u105 :: u106 :: u107 :: u108 :: u109 :: u110 :: u111 :: u112 :: u113 :: u114 :: u115 :: u116 :: u117 :: u118 :: u119 :: u120 :: u121 :: v122 :: v123 :: v124 :: v125 :: v126 :: v127 :: v128 :: v129 :: v130 :: v131 :: v132 :: v133 :: v134 :: v135 :: v136 :: v137 :: v138 :: v139 :: v140 :: v141 :: v142 :: v143 :: v144 :: v145 :: v146 :: v147 :: v148 :: v149 :: u150 :: u151 :: u152 :: u153 :: u154 :: u155 :: u156 :: u157 :: u158 :: u159 :: u160 :: u161 :: u162 :: u163 :: u164 :: []), []⟩ w2) :
    Code.wp Try.prog laws_r15z_code (Exit.then K Q') ⟨List.toArray (u0 :: u1 :: u2 :: (.int .u32 0) :: (.pointer (some ⟨B4, 0, none⟩)) :: u5 :: u6 :: u7 :: u8 :: u9 :: u10 :: u11 :: u12 :: u13 :: (.pointer (some ⟨B14, 0, none⟩)) :: (.int .u64 r) :: (.bool ok) :: u17 :: u18 :: u19 :: u20 :: u21 :: u22 :: u23 :: u24 :: u25 :: u26 :: u27 :: u28 :: u29 :: u30 :: u31 :: u32 :: u33 :: u34 :: u35 :: u36 :: u37 :: u38 :: u39 :: u40 :: u41 :: u42 :: u43 :: u44 :: u45 :: u46 :: u47 :: u48 :: u49 :: u50 :: u51 :: u52 :: u53 :: u54 :: u55 :: u56 :: u57 :: u58 :: u59 :: u60 :: u61 :: u62 :: u63 :: u64 :: u65 :: u66 :: u67 :: u68 :: u69 :: u70 :: u71 :: u72 :: u73 :: u74 :: u75 :: u76 :: u77 :: u78 :: u79 :: u80 :: u81 :: u82 :: u83 :: u84 :: u85 :: u86 :: u87 :: u88 :: u89 :: u90 :: u91 :: u92 :: u93 :: u94 :: u95 :: u96 :: u97 :: u98 :: u99 :: u100 :: u101 :: u102 :: u103 :: u104 :: u105 :: u106 :: u107 :: u108 :: u109 :: u110 :: u111 :: u112 :: u113 :: u114 :: u115 :: u116 :: u117 :: u118 :: u119 :: u120 :: u121 :: u122 :: u123 :: u124 :: u125 :: u126 :: u127 :: u128 :: u129 :: u130 :: u131 :: u132 :: u133 :: u134 :: u135 :: u136 :: u137 :: u138 :: u139 :: u140 :: u141 :: u142 :: u143 :: u144 :: u145 :: u146 :: u147 :: u148 :: u149 :: u150 :: u151 :: u152 :: u153 :: u154 :: u155 :: u156 :: u157 :: u158 :: u159 :: u160 :: u161 :: u162 :: u163 :: u164 :: []), []⟩ w1 := by
  conv => arg 2; whnf
  have hQ := Lib.hid hK; clear hK
  have qB14 := fun (w' : World) (h : Blk w' B14 #[.int .i64 (hi q), .int .u64 (lo q)] 24) => h.two
  have qB4 := fun (w' : World) (h : Blk w' B4 #[.int .i64 (hi a), .int .u64 (lo a)] 24) => h.two
  have qB5 := fun (w' : World) (h : Blk w' B5 #[.int .i64 (hi b), .int .u64 (lo b)] 24) => h.two
  have qB6 := fun (w' : World) (h : Blk w' B6 #[.int .i64 (hi c), .int .u64 (lo c)] 24) => h.two
  have qB9 := fun (w' : World) (h : Blk w' B9 #[.int .i64 (hi s), .int .u64 (lo s)] 24) => h.two
  refine H.begin (fun w' => Blk w' B14 #[.int .i64 (hi q), .int .u64 (lo q)] 24 ∧ Blk w' B4 #[.int .i64 (hi a), .int .u64 (lo a)] 24 ∧ Blk w' B5 #[.int .i64 (hi b), .int .u64 (lo b)] 24 ∧ Blk w' B6 #[.int .i64 (hi c), .int .u64 (lo c)] 24 ∧ Blk w' B9 #[.int .i64 (hi s), .int .u64 (lo s)] 24 ∧ Below W.heap.size W w') (by kernel_rfl) ⟨hHeld.1.drew, hHeld.2.1.drew, hHeld.2.2.1.drew, hHeld.2.2.2.1.drew, hHeld.2.2.2.2.1.drew, hHeld.2.2.2.2.2.drew⟩ (fun w1 hHeld => ?_)
  refine H.take 0 (v := ?_) rfl (by kernel_rfl) (fun _ a _ h => hP _ _ a.tmps a.defers _ h) (by rfl) ?_ (by assumption) ?_
  rotate_left
  · (intro wz hSw; (try dsimp only at hSw); go_simp <;> with_reducible rfl)
  try simp only [Act.put, List.setIfInBounds_toArray, List.set_cons_zero, List.set_cons_succ]
  refine H.take 1 (v := ?_) rfl (by kernel_rfl) (fun _ a _ h => hP _ _ a.tmps a.defers _ h) (by rfl) ?_ (by assumption) ?_
  rotate_left
  · (intro wz hSw; (try dsimp only at hSw); go_simp <;> with_reducible rfl)
  try simp only [Act.put, List.setIfInBounds_toArray, List.set_cons_zero, List.set_cons_succ]
  refine H.take 2 (v := ?_) rfl (by kernel_rfl) (fun _ a _ h => hP _ _ a.tmps a.defers _ h) (by rfl) ?_ (by assumption) ?_
  rotate_left
  · (intro wz hSw; (try dsimp only at hSw); go_simp <;> with_reducible rfl)
  try simp only [Act.put, List.setIfInBounds_toArray, List.set_cons_zero, List.set_cons_succ]
  refine H.skip 3 rfl (by kernel_rfl) (fun _ a _ h => hP _ _ a.tmps a.defers _ h) (by rfl) (by assumption) ?_
  try simp only [Act.put, List.setIfInBounds_toArray, List.set_cons_zero, List.set_cons_succ]
  refine H.skip 4 rfl (by kernel_rfl) (fun _ a _ h => hP _ _ a.tmps a.defers _ h) (by rfl) (by assumption) ?_
  try simp only [Act.put, List.setIfInBounds_toArray, List.set_cons_zero, List.set_cons_succ]
  refine H.skip 5 rfl (by kernel_rfl) (fun _ a _ h => hP _ _ a.tmps a.defers _ h) (by rfl) (by assumption) ?_
  try simp only [Act.put, List.setIfInBounds_toArray, List.set_cons_zero, List.set_cons_succ]
  refine H.skip 6 rfl (by kernel_rfl) (fun _ a _ h => hP _ _ a.tmps a.defers _ h) (by rfl) (by assumption) ?_
  try simp only [Act.put, List.setIfInBounds_toArray, List.set_cons_zero, List.set_cons_succ]
  refine H.skip 7 rfl (by kernel_rfl) (fun _ a _ h => hP _ _ a.tmps a.defers _ h) (by rfl) (by assumption) ?_
  try simp only [Act.put, List.setIfInBounds_toArray, List.set_cons_zero, List.set_cons_succ]
  refine H.skip 8 rfl (by kernel_rfl) (fun _ a _ h => hP _ _ a.tmps a.defers _ h) (by rfl) (by assumption) ?_
  try simp only [Act.put, List.setIfInBounds_toArray, List.set_cons_zero, List.set_cons_succ]
  refine H.skip 9 rfl (by kernel_rfl) (fun _ a _ h => hP _ _ a.tmps a.defers _ h) (by rfl) (by assumption) ?_
  try simp only [Act.put, List.setIfInBounds_toArray, List.set_cons_zero, List.set_cons_succ]
  refine H.skip 10 rfl (by kernel_rfl) (fun _ a _ h => hP _ _ a.tmps a.defers _ h) (by rfl) (by assumption) ?_
  try simp only [Act.put, List.setIfInBounds_toArray, List.set_cons_zero, List.set_cons_succ]
  refine H.skip 11 rfl (by kernel_rfl) (fun _ a _ h => hP _ _ a.tmps a.defers _ h) (by rfl) (by assumption) ?_
  try simp only [Act.put, List.setIfInBounds_toArray, List.set_cons_zero, List.set_cons_succ]
  refine H.skip 12 rfl (by kernel_rfl) (fun _ a _ h => hP _ _ a.tmps a.defers _ h) (by rfl) (by assumption) ?_
  try simp only [Act.put, List.setIfInBounds_toArray, List.set_cons_zero, List.set_cons_succ]
  refine H.skip 13 rfl (by kernel_rfl) (fun _ a _ h => hP _ _ a.tmps a.defers _ h) (by rfl) (by assumption) ?_
  try simp only [Act.put, List.setIfInBounds_toArray, List.set_cons_zero, List.set_cons_succ]
  refine H.skip 14 rfl (by kernel_rfl) (fun _ a _ h => hP _ _ a.tmps a.defers _ h) (by rfl) (by assumption) ?_
  try simp only [Act.put, List.setIfInBounds_toArray, List.set_cons_zero, List.set_cons_succ]
  refine H.skip 15 rfl (by kernel_rfl) (fun _ a _ h => hP _ _ a.tmps a.defers _ h) (by rfl) (by assumption) ?_
  try simp only [Act.put, List.setIfInBounds_toArray, List.set_cons_zero, List.set_cons_succ]
  refine H.skip 16 rfl (by kernel_rfl) (fun _ a _ h => hP _ _ a.tmps a.defers _ h) (by rfl) (by assumption) ?_
  try simp only [Act.put, List.setIfInBounds_toArray, List.set_cons_zero, List.set_cons_succ]
  refine H.skip 17 rfl (by kernel_rfl) (fun _ a _ h => hP _ _ a.tmps a.defers _ h) (by rfl) (by assumption) ?_
  try simp only [Act.put, List.setIfInBounds_toArray, List.set_cons_zero, List.set_cons_succ]
  refine H.skip 18 rfl (by kernel_rfl) (fun _ a _ h => hP _ _ a.tmps a.defers _ h) (by rfl) (by assumption) ?_
  try simp only [Act.put, List.setIfInBounds_toArray, List.set_cons_zero, List.set_cons_succ]
  refine H.skip 19 rfl (by kernel_rfl) (fun _ a _ h => hP _ _ a.tmps a.defers _ h) (by rfl) (by assumption) ?_
  try simp only [Act.put, List.setIfInBounds_toArray, List.set_cons_zero, List.set_cons_succ]
  refine H.skip 20 rfl (by kernel_rfl) (fun _ a _ h => hP _ _ a.tmps a.defers _ h) (by rfl) (by assumption) ?_
  try simp only [Act.put, List.setIfInBounds_toArray, List.set_cons_zero, List.set_cons_succ]
  refine H.skip 21 rfl (by kernel_rfl) (fun _ a _ h => hP _ _ a.tmps a.defers _ h) (by rfl) (by assumption) ?_
  try simp only [Act.put, List.setIfInBounds_toArray, List.set_cons_zero, List.set_cons_succ]
  refine H.skip 22 rfl (by kernel_rfl) (fun _ a _ h => hP _ _ a.tmps a.defers _ h) (by rfl) (by assumption) ?_
  try simp only [Act.put, List.setIfInBounds_toArray, List.set_cons_zero, List.set_cons_succ]
  refine H.skip 23 rfl (by kernel_rfl) (fun _ a _ h => hP _ _ a.tmps a.defers _ h) (by rfl) (by assumption) ?_
  try simp only [Act.put, List.setIfInBounds_toArray, List.set_cons_zero, List.set_cons_succ]
  refine H.skip 24 rfl (by kernel_rfl) (fun _ a _ h => hP _ _ a.tmps a.defers _ h) (by rfl) (by assumption) ?_
  try simp only [Act.put, List.setIfInBounds_toArray, List.set_cons_zero, List.set_cons_succ]
  refine H.skip 25 rfl (by kernel_rfl) (fun _ a _ h => hP _ _ a.tmps a.defers _ h) (by rfl) (by assumption) ?_
  try simp only [Act.put, List.setIfInBounds_toArray, List.set_cons_zero, List.set_cons_succ]
  refine H.skip 26 rfl (by kernel_rfl) (fun _ a _ h => hP _ _ a.tmps a.defers _ h) (by rfl) (by assumption) ?_
  try simp only [Act.put, List.setIfInBounds_toArray, List.set_cons_zero, List.set_cons_succ]
  refine H.take 27 (v := ?_) rfl (by kernel_rfl) (fun _ a _ h => hP _ _ a.tmps a.defers _ h) (by rfl) ?_ (by assumption) ?_
  rotate_left
  · (intro wz hSw; (try dsimp only at hSw); go_simp <;> with_reducible rfl)
  try simp only [Act.put, List.setIfInBounds_toArray, List.set_cons_zero, List.set_cons_succ]
  refine H.done (by kernel_rfl) ?_ _
  show K _ _
  exact hQ.out _ _ _ _ _ _ _ _ _ _ _ _ _ _ _ _ _ _ _ _ _ _ _ _ _ _ _ _ _ ⟨rfl, hHeld⟩

noncomputable def laws_r15a_code : Code := ((Try.f6.body.bind (findRegion 15)).getD .skip)
set_option maxRecDepth 100000 in set_option maxHeartbeats 8000000 in
theorem laws_r15a {a b c s q r n m : Int} {B14 : Nat} {B4 B5 B6 B9 : Nat} {W : World} (n0 : 0 < n) (n1 : n ≤ 4294967295) (r0 : 0 ≤ r) (r1 : r < n) (SC : Hid (∀ w : World, Calls Try.prog 23 #[.agg #[.int .i64 (hi q), .int .u64 (lo q)], .int .u32 n] w fun e w' => e = .returned (.agg #[.int .i64 (hi m), .int .u64 (lo m)]) ∧ Below w.heap.size w w')) (OR : Hid (∀ w : World, Calls Try.prog 10 #[.int .i64 r] w fun e w' => e = .returned (.agg #[.int .i64 (hi r), .int .u64 (lo r)]) ∧ Below w.heap.size w w')) (AD : Hid (∀ w : World, Calls Try.prog 13 #[.agg #[.int .i64 (hi m), .int .u64 (lo m)], .agg #[.int .i64 (hi r), .int .u64 (lo r)]] w fun e w' => e = .returned (.agg #[.int .i64 (hi a), .int .u64 (lo a)]) ∧ Below w.heap.size w w')) {u0 u1 u2 u5 u6 u7 u8 u9 u10 u11 u12 u13 u17 u18 u19 u20 u21 u22 u23 u24 u25 u26 u27 u28 u29 u30 u31 u32 u33 u34 u35 u36 u37 u38 u39 u40 u41 u42 u43 u44 u45 u46 u47 u48 u49 u50 u51 u52 u53 u54 u55 u56 u57 u58 u59 u60 u61 u62 u63 u64 u65 u66 u67 u68 u69 u70 u71 u72 u73 u74 u75 u76 u77 u78 u79 u80 u81 u82 u83 u84 u85 u86 u87 u88 u89 u90 u91 u92 u93 u94 u95 u96 u97 u98 u99 u100 u101 u102 u103 u104 u105 u106 u107 u108 u109 u110 u111 u112 u113 u114 u115 u116 u117 u118 u119 u120 u121 u122 u123 u124 u125 u126 u127 u128 u129 u130 u131 u132 u133 u134 u135 u136 u137 u138 u139 u140 u141 u142 u143 u144 u145 u146 u147 u148 u149 u150 u151 u152 u153 u154 u155 u156 u157 u158 u159 u160 u161 u162 u163 u164 : Value} {K : Act → World → Prop} {Q' : Exit → Act → World → Prop} {w1 : World} (hHeld : (fun w' => Blk w' B14 #[.int .i64 (hi q), .int .u64 (lo q)] 24 ∧ Blk w' B4 #[.int .i64 (hi a), .int .u64 (lo a)] 24 ∧ Blk w' B5 #[.int .i64 (hi b), .int .u64 (lo b)] 24 ∧ Blk w' B6 #[.int .i64 (hi c), .int .u64 (lo c)] 24 ∧ Blk w' B9 #[.int .i64 (hi s), .int .u64 (lo s)] 24 ∧ Below W.heap.size W w') w1)
    (hP : ∀ c t t2 d w, Q' (.panic c) ⟨t, d⟩ w → Q' (.panic c) ⟨t2, d⟩ w)
    (hK : ∀ (v122 v123 v124 v125 v126 v127 v128 v129 v130 v131 v132 v133 v134 v135 v136 v137 v138 v139 v140 v141 v142 v143 v144 v145 v146 v147 v148 v149 : Value) (w2 : World), (v149 = .bool false ∧ (fun w' => Blk w' B14 #[.int .i64 (hi q), .int .u64 (lo q)] 24 ∧ Blk w' B4 #[.int .i64 (hi a), .int .u64 (lo a)] 24 ∧ Blk w' B5 #[.int .i64 (hi b), .int .u64 (lo b)] 24 ∧ Blk w' B6 #[.int .i64 (hi c), .int .u64 (lo c)] 24 ∧ Blk w' B9 #[.int .i64 (hi s), .int .u64 (lo s)] 24 ∧ Below W.heap.size W w') w2) → K ⟨List.toArray (u0 :: u1 :: u2 :: (.int .u32 n) :: (.pointer (some ⟨B4, 0, none⟩)) :: u5 :: u6 :: u7 :: u8 :: u9 :: u10 :: u11 :: u12 :: u13 :: (.pointer (some ⟨B14, 0, none⟩)) :: (.int .u64 r) :: (.bool true) :: u17 :: u18 :: u19 :: u20 :: u21 :: u22 :: u23 :: u24 :: u25 :: u26 :: u27 :: u28 :: u29 :: u30 :: u31 :: u32 :: u33 :: u34 :: u35 :: u36 :: u37 :: u38 :: u39 :: u40 :: u41 :: u42 :: u43 :: u44 :: u45 :: u46 :: u47 :: u48 :: u49 :: u50 :: u51 :: u52 :: u53 :: u54 :: u55 :: u56 :: u57 :: u58 :: u59 :: u60 :: u61 :: u62 :: u63 :: u64 :: u65 :: u66 :: u67 :: u68 :: u69 :: u70 :: u71 :: u72 :: u73 :: u74 :: u75 :: u76 :: u77 :: u78 :: u79 :: u80 :: u81 :: u82 :: u83 :: u84 :: u85 :: u86 :: u87 :: u88 :: u89 :: u90 :: u91 :: u92 :: u93 :: u94 :: u95 :: u96 :: u97 :: u98 :: u99 :: u100 :: u101 :: u102 :: u103 :: u104 :: u105 :: u106 :: u107 :: u108 :: u109 :: u110 :: u111 :: u112 :: u113 :: u114 :: u115 :: u116 :: u117 :: u118 :: u119 :: u120 :: u121 :: v122 :: v123 :: v124 :: v125 :: v126 :: v127 :: v128 :: v129 :: v130 :: v131 :: v132 :: v133 :: v134 :: v135 :: v136 :: v137 :: v138 :: v139 :: v140 :: v141 :: v142 :: v143 :: v144 :: v145 :: v146 :: v147 :: v148 :: v149 :: u150 :: u151 :: u152 :: u153 :: u154 :: u155 :: u156 :: u157 :: u158 :: u159 :: u160 :: u161 :: u162 :: u163 :: u164 :: []), []⟩ w2) :
    Code.wp Try.prog laws_r15a_code (Exit.then K Q') ⟨List.toArray (u0 :: u1 :: u2 :: (.int .u32 n) :: (.pointer (some ⟨B4, 0, none⟩)) :: u5 :: u6 :: u7 :: u8 :: u9 :: u10 :: u11 :: u12 :: u13 :: (.pointer (some ⟨B14, 0, none⟩)) :: (.int .u64 r) :: (.bool true) :: u17 :: u18 :: u19 :: u20 :: u21 :: u22 :: u23 :: u24 :: u25 :: u26 :: u27 :: u28 :: u29 :: u30 :: u31 :: u32 :: u33 :: u34 :: u35 :: u36 :: u37 :: u38 :: u39 :: u40 :: u41 :: u42 :: u43 :: u44 :: u45 :: u46 :: u47 :: u48 :: u49 :: u50 :: u51 :: u52 :: u53 :: u54 :: u55 :: u56 :: u57 :: u58 :: u59 :: u60 :: u61 :: u62 :: u63 :: u64 :: u65 :: u66 :: u67 :: u68 :: u69 :: u70 :: u71 :: u72 :: u73 :: u74 :: u75 :: u76 :: u77 :: u78 :: u79 :: u80 :: u81 :: u82 :: u83 :: u84 :: u85 :: u86 :: u87 :: u88 :: u89 :: u90 :: u91 :: u92 :: u93 :: u94 :: u95 :: u96 :: u97 :: u98 :: u99 :: u100 :: u101 :: u102 :: u103 :: u104 :: u105 :: u106 :: u107 :: u108 :: u109 :: u110 :: u111 :: u112 :: u113 :: u114 :: u115 :: u116 :: u117 :: u118 :: u119 :: u120 :: u121 :: u122 :: u123 :: u124 :: u125 :: u126 :: u127 :: u128 :: u129 :: u130 :: u131 :: u132 :: u133 :: u134 :: u135 :: u136 :: u137 :: u138 :: u139 :: u140 :: u141 :: u142 :: u143 :: u144 :: u145 :: u146 :: u147 :: u148 :: u149 :: u150 :: u151 :: u152 :: u153 :: u154 :: u155 :: u156 :: u157 :: u158 :: u159 :: u160 :: u161 :: u162 :: u163 :: u164 :: []), []⟩ w1 := by
  conv => arg 2; whnf
  have hQ := Lib.hid hK; clear hK
  have qB14 := fun (w' : World) (h : Blk w' B14 #[.int .i64 (hi q), .int .u64 (lo q)] 24) => h.two
  have qB4 := fun (w' : World) (h : Blk w' B4 #[.int .i64 (hi a), .int .u64 (lo a)] 24) => h.two
  have qB5 := fun (w' : World) (h : Blk w' B5 #[.int .i64 (hi b), .int .u64 (lo b)] 24) => h.two
  have qB6 := fun (w' : World) (h : Blk w' B6 #[.int .i64 (hi c), .int .u64 (lo c)] 24) => h.two
  have qB9 := fun (w' : World) (h : Blk w' B9 #[.int .i64 (hi s), .int .u64 (lo s)] 24) => h.two
  have e1 : decide (0 < n) = true := decide_eq_true n0
  have e2 : IntKind.u64.wrap n = n := by rw [IntKind.wrap_u64]; omega
  have e3 : IntKind.i64.wrap r = r := by rw [IntKind.wrap_i64]; omega
  have e4 : decide (n ≤ r) = false := decide_eq_false (by omega)
  refine H.begin (fun w' => Blk w' B14 #[.int .i64 (hi q), .int .u64 (lo q)] 24 ∧ Blk w' B4 #[.int .i64 (hi a), .int .u64 (lo a)] 24 ∧ Blk w' B5 #[.int .i64 (hi b), .int .u64 (lo b)] 24 ∧ Blk w' B6 #[.int .i64 (hi c), .int .u64 (lo c)] 24 ∧ Blk w' B9 #[.int .i64 (hi s), .int .u64 (lo s)] 24 ∧ Below W.heap.size W w') (by kernel_rfl) ⟨hHeld.1.drew, hHeld.2.1.drew, hHeld.2.2.1.drew, hHeld.2.2.2.1.drew, hHeld.2.2.2.2.1.drew, hHeld.2.2.2.2.2.drew⟩ (fun w1 hHeld => ?_)
  refine H.take 0 (v := ?_) rfl (by kernel_rfl) (fun _ a _ h => hP _ _ a.tmps a.defers _ h) (by rfl) ?_ (by assumption) ?_
  rotate_left
  · (intro wz hSw; (try dsimp only at hSw); go_simp <;> with_reducible rfl)
  try simp only [Act.put, List.setIfInBounds_toArray, List.set_cons_zero, List.set_cons_succ]
  refine H.take 1 (v := ?_) rfl (by kernel_rfl) (fun _ a _ h => hP _ _ a.tmps a.defers _ h) (by rfl) ?_ (by assumption) ?_
  rotate_left
  · (intro wz hSw; (try dsimp only at hSw); go_simp <;> with_reducible rfl)
  try simp only [Act.put, List.setIfInBounds_toArray, List.set_cons_zero, List.set_cons_succ]
  refine H.take 2 (v := ?_) rfl (by kernel_rfl) (fun _ a _ h => hP _ _ a.tmps a.defers _ h) (by rfl) ?_ (by assumption) ?_
  rotate_left
  · (intro wz hSw; (try dsimp only at hSw); go_simp <;> with_reducible rfl)
  try simp only [Act.put, List.setIfInBounds_toArray, List.set_cons_zero, List.set_cons_succ]
  refine H.take 3 (v := ?_) rfl (by kernel_rfl) (fun _ a _ h => hP _ _ a.tmps a.defers _ h) (by rfl) ?_ (by assumption) ?_
  rotate_left
  · (intro wz hSw; (try dsimp only at hSw); go_simp <;> with_reducible rfl)
  try simp only [Act.put, List.setIfInBounds_toArray, List.set_cons_zero, List.set_cons_succ]
  refine H.take 4 (v := ?_) rfl (by kernel_rfl) (fun _ a _ h => hP _ _ a.tmps a.defers _ h) (by rfl) ?_ (by assumption) ?_
  rotate_left
  · (intro wz hSw; (try dsimp only at hSw); go_simp <;> with_reducible rfl)
  try simp only [Act.put, List.setIfInBounds_toArray, List.set_cons_zero, List.set_cons_succ]
  refine H.take 5 (v := ?_) rfl (by kernel_rfl) (fun _ a _ h => hP _ _ a.tmps a.defers _ h) (by rfl) ?_ (by assumption) ?_
  rotate_left
  · (intro wz hSw; (try dsimp only at hSw); go_simp <;> with_reducible rfl)
  try simp only [Act.put, List.setIfInBounds_toArray, List.set_cons_zero, List.set_cons_succ]
  refine H.take 6 (v := ?_) rfl (by kernel_rfl) (fun _ a _ h => hP _ _ a.tmps a.defers _ h) (by rfl) ?_ (by assumption) ?_
  rotate_left
  · (intro wz hSw; (try dsimp only at hSw); go_simp <;> with_reducible rfl)
  try simp only [Act.put, List.setIfInBounds_toArray, List.set_cons_zero, List.set_cons_succ]
  refine H.take 7 (v := ?_) rfl (by kernel_rfl) (fun _ a _ h => hP _ _ a.tmps a.defers _ h) (by rfl) ?_ (by assumption) ?_
  rotate_left
  · (intro wz hSw; (try dsimp only at hSw); go_simp <;> with_reducible rfl)
  try simp only [Act.put, List.setIfInBounds_toArray, List.set_cons_zero, List.set_cons_succ]
  refine H.take 8 (v := ?_) rfl (by kernel_rfl) (fun _ a _ h => hP _ _ a.tmps a.defers _ h) (by rfl) ?_ (by assumption) ?_
  rotate_left
  · (intro wz hSw; (try dsimp only at hSw); go_simp <;> with_reducible rfl)
  try simp only [Act.put, List.setIfInBounds_toArray, List.set_cons_zero, List.set_cons_succ]
  refine H.take 9 (v := ?_) rfl (by kernel_rfl) (fun _ a _ h => hP _ _ a.tmps a.defers _ h) (by rfl) ?_ (by assumption) ?_
  rotate_left
  · (intro wz hSw; (try dsimp only at hSw); go_simp <;> with_reducible rfl)
  try simp only [Act.put, List.setIfInBounds_toArray, List.set_cons_zero, List.set_cons_succ]
  refine H.take 10 (v := ?_) rfl (by kernel_rfl) (fun _ a _ h => hP _ _ a.tmps a.defers _ h) (by rfl) ?_ (by assumption) ?_
  rotate_left
  · (intro wz hSw; (try dsimp only at hSw); go_simp <;> with_reducible rfl)
  try simp only [Act.put, List.setIfInBounds_toArray, List.set_cons_zero, List.set_cons_succ]
  refine H.take 11 (v := ?_) rfl (by kernel_rfl) (fun _ a _ h => hP _ _ a.tmps a.defers _ h) (by rfl) ?_ (by assumption) ?_
  rotate_left
  · (intro wz hSw; (try dsimp only at hSw); go_simp <;> with_reducible rfl)
  try simp only [Act.put, List.setIfInBounds_toArray, List.set_cons_zero, List.set_cons_succ]
  refine H.take 12 (v := ?_) rfl (by kernel_rfl) (fun _ a _ h => hP _ _ a.tmps a.defers _ h) (by rfl) ?_ (by assumption) ?_
  rotate_left
  · (intro wz hSw; (try dsimp only at hSw); go_simp <;> with_reducible rfl)
  try simp only [Act.put, List.setIfInBounds_toArray, List.set_cons_zero, List.set_cons_succ]
  refine H.take 13 (v := ?_) rfl (by kernel_rfl) (fun _ a _ h => hP _ _ a.tmps a.defers _ h) (by rfl) ?_ (by assumption) ?_
  rotate_left
  · (intro wz hSw; (try dsimp only at hSw); go_simp <;> with_reducible rfl)
  try simp only [Act.put, List.setIfInBounds_toArray, List.set_cons_zero, List.set_cons_succ]
  refine H.take 15 (v := ?_) rfl (by kernel_rfl) (fun _ a _ h => hP _ _ a.tmps a.defers _ h) (by rfl) ?_ (by assumption) ?_
  rotate_left
  · (intro wz hSw; (try dsimp only at hSw); go_simp <;> with_reducible rfl)
  try simp only [Act.put, List.setIfInBounds_toArray, List.set_cons_zero, List.set_cons_succ]
  refine H.take 16 (v := ?_) rfl (by kernel_rfl) (fun _ a _ h => hP _ _ a.tmps a.defers _ h) (by rfl) ?_ (by assumption) ?_
  rotate_left
  · (intro wz hSw; (try dsimp only at hSw); go_simp <;> with_reducible rfl)
  try simp only [Act.put, List.setIfInBounds_toArray, List.set_cons_zero, List.set_cons_succ]
  refine H.take 19 (v := ?_) rfl (by kernel_rfl) (fun _ a _ h => hP _ _ a.tmps a.defers _ h) (by rfl) ?_ (by assumption) ?_
  rotate_left
  · (intro wz hSw; (try dsimp only at hSw); go_simp <;> with_reducible rfl)
  try simp only [Act.put, List.setIfInBounds_toArray, List.set_cons_zero, List.set_cons_succ]
  refine H.ready [14] (by kernel_rfl) (by simp) ?_
  refine H.one rfl (by rfl) (fun K hK => ?_) AllReadyH.nil
  go_simp
  go_at_call 23
  refine (SC.out _).mono ?_
  rintro e w1 ⟨rfl, hb⟩
  refine hK.out _ _ ?_ (fun hHeld2 => ?_)
  · exact ⟨Blk.keep hb hHeld.1, Blk.keep hb hHeld.2.1, Blk.keep hb hHeld.2.2.1, Blk.keep hb hHeld.2.2.2.1, Blk.keep hb hHeld.2.2.2.2.1, hHeld.2.2.2.2.2.trans (hb.mono hHeld.2.2.2.2.2.size)⟩
  clear hHeld hK K; have hHeld := hHeld2; clear hHeld2
  try simp only [Act.put, List.setIfInBounds_toArray, List.set_cons_zero, List.set_cons_succ]
  refine H.ready [17] (by kernel_rfl) (by simp) ?_
  refine H.one rfl (by rfl) (fun K hK => ?_) AllReadyH.nil
  go_simp
  go_at_call 10
  refine (OR.out _).mono ?_
  rintro e w1 ⟨rfl, hb⟩
  refine hK.out _ _ ?_ (fun hHeld2 => ?_)
  · exact ⟨Blk.keep hb hHeld.1, Blk.keep hb hHeld.2.1, Blk.keep hb hHeld.2.2.1, Blk.keep hb hHeld.2.2.2.1, Blk.keep hb hHeld.2.2.2.2.1, hHeld.2.2.2.2.2.trans (hb.mono hHeld.2.2.2.2.2.size)⟩
  clear hHeld hK K; have hHeld := hHeld2; clear hHeld2
  try simp only [Act.put, List.setIfInBounds_toArray, List.set_cons_zero, List.set_cons_succ]
  refine H.ready [18] (by kernel_rfl) (by simp) ?_
  refine H.one rfl (by rfl) (fun K hK => ?_) AllReadyH.nil
  go_simp
  go_at_call 13
  refine (AD.out _).mono ?_
  rintro e w1 ⟨rfl, hb⟩
  refine hK.out _ _ ?_ (fun hHeld2 => ?_)
  · exact ⟨Blk.keep hb hHeld.1, Blk.keep hb hHeld.2.1, Blk.keep hb hHeld.2.2.1, Blk.keep hb hHeld.2.2.2.1, Blk.keep hb hHeld.2.2.2.2.1, hHeld.2.2.2.2.2.trans (hb.mono hHeld.2.2.2.2.2.size)⟩
  clear hHeld hK K; have hHeld := hHeld2; clear hHeld2
  try simp only [Act.put, List.setIfInBounds_toArray, List.set_cons_zero, List.set_cons_succ]
  refine H.take 20 (v := ?_) rfl (by kernel_rfl) (fun _ a _ h => hP _ _ a.tmps a.defers _ h) (by rfl) ?_ (by assumption) ?_
  rotate_left
  · (intro wz hSw; (try dsimp only at hSw); go_simp <;> with_reducible rfl)
  try simp only [Act.put, List.setIfInBounds_toArray, List.set_cons_zero, List.set_cons_succ]
  refine H.take 21 (v := ?_) rfl (by kernel_rfl) (fun _ a _ h => hP _ _ a.tmps a.defers _ h) (by rfl) ?_ (by assumption) ?_
  rotate_left
  · (intro wz hSw; (try dsimp only at hSw); go_simp <;> with_reducible rfl)
  try simp only [Act.put, List.setIfInBounds_toArray, List.set_cons_zero, List.set_cons_succ]
  refine H.skip 22 rfl (by kernel_rfl) (fun _ a _ h => hP _ _ a.tmps a.defers _ h) (by rfl) (by assumption) ?_
  try simp only [Act.put, List.setIfInBounds_toArray, List.set_cons_zero, List.set_cons_succ]
  refine H.skip 23 rfl (by kernel_rfl) (fun _ a _ h => hP _ _ a.tmps a.defers _ h) (by rfl) (by assumption) ?_
  try simp only [Act.put, List.setIfInBounds_toArray, List.set_cons_zero, List.set_cons_succ]
  refine H.skip 24 rfl (by kernel_rfl) (fun _ a _ h => hP _ _ a.tmps a.defers _ h) (by rfl) (by assumption) ?_
  try simp only [Act.put, List.setIfInBounds_toArray, List.set_cons_zero, List.set_cons_succ]
  refine H.take 25 (v := ?_) rfl (by kernel_rfl) (fun _ a _ h => hP _ _ a.tmps a.defers _ h) (by rfl) ?_ (by assumption) ?_
  rotate_left
  · (intro wz hSw; (try dsimp only at hSw); go_simp <;> with_reducible rfl)
  try simp only [Act.put, List.setIfInBounds_toArray, List.set_cons_zero, List.set_cons_succ]
  refine H.take 26 (v := ?_) rfl (by kernel_rfl) (fun _ a _ h => hP _ _ a.tmps a.defers _ h) (by rfl) ?_ (by assumption) ?_
  rotate_left
  · (intro wz hSw; (try dsimp only at hSw); go_simp <;> with_reducible rfl)
  try simp only [Act.put, List.setIfInBounds_toArray, List.set_cons_zero, List.set_cons_succ]
  refine H.take 27 (v := ?_) rfl (by kernel_rfl) (fun _ a _ h => hP _ _ a.tmps a.defers _ h) (by rfl) ?_ (by assumption) ?_
  rotate_left
  · (intro wz hSw; (try dsimp only at hSw); go_simp <;> with_reducible rfl)
  try simp only [Act.put, List.setIfInBounds_toArray, List.set_cons_zero, List.set_cons_succ]
  refine H.done (by kernel_rfl) ?_ _
  show K _ _
  exact hQ.out _ _ _ _ _ _ _ _ _ _ _ _ _ _ _ _ _ _ _ _ _ _ _ _ _ _ _ _ _ ⟨rfl, hHeld⟩

noncomputable def laws_r15b_code : Code := ((Try.f6.body.bind (findRegion 15)).getD .skip)
set_option maxRecDepth 100000 in set_option maxHeartbeats 8000000 in
theorem laws_r15b {a b c s q r n m z : Int} {B14 : Nat} {B4 B5 B6 B9 : Nat} {W : World} (n0 : 0 < n) (n1 : n ≤ 4294967295) (r0 : 0 ≤ r) (r1 : r < n) (SC : Hid (∀ w : World, Calls Try.prog 23 #[.agg #[.int .i64 (hi q), .int .u64 (lo q)], .int .u32 n] w fun e w' => e = .returned (.agg #[.int .i64 (hi m), .int .u64 (lo m)]) ∧ Below w.heap.size w w')) (OR : Hid (∀ w : World, Calls Try.prog 10 #[.int .i64 r] w fun e w' => e = .returned (.agg #[.int .i64 (hi r), .int .u64 (lo r)]) ∧ Below w.heap.size w w')) (AD : Hid (∀ w : World, Calls Try.prog 13 #[.agg #[.int .i64 (hi m), .int .u64 (lo m)], .agg #[.int .i64 (hi r), .int .u64 (lo r)]] w fun e w' => e = .returned (.agg #[.int .i64 (hi z), .int .u64 (lo z)]) ∧ Below w.heap.size w w')) (hne : (lo z == lo a) = false) (hmin : hi a = -9223372036854775808) {u0 u1 u2 u5 u6 u7 u8 u9 u10 u11 u12 u13 u17 u18 u19 u20 u21 u22 u23 u24 u25 u26 u27 u28 u29 u30 u31 u32 u33 u34 u35 u36 u37 u38 u39 u40 u41 u42 u43 u44 u45 u46 u47 u48 u49 u50 u51 u52 u53 u54 u55 u56 u57 u58 u59 u60 u61 u62 u63 u64 u65 u66 u67 u68 u69 u70 u71 u72 u73 u74 u75 u76 u77 u78 u79 u80 u81 u82 u83 u84 u85 u86 u87 u88 u89 u90 u91 u92 u93 u94 u95 u96 u97 u98 u99 u100 u101 u102 u103 u104 u105 u106 u107 u108 u109 u110 u111 u112 u113 u114 u115 u116 u117 u118 u119 u120 u121 u122 u123 u124 u125 u126 u127 u128 u129 u130 u131 u132 u133 u134 u135 u136 u137 u138 u139 u140 u141 u142 u143 u144 u145 u146 u147 u148 u149 u150 u151 u152 u153 u154 u155 u156 u157 u158 u159 u160 u161 u162 u163 u164 : Value} {K : Act → World → Prop} {Q' : Exit → Act → World → Prop} {w1 : World} (hHeld : (fun w' => Blk w' B14 #[.int .i64 (hi q), .int .u64 (lo q)] 24 ∧ Blk w' B4 #[.int .i64 (hi a), .int .u64 (lo a)] 24 ∧ Blk w' B5 #[.int .i64 (hi b), .int .u64 (lo b)] 24 ∧ Blk w' B6 #[.int .i64 (hi c), .int .u64 (lo c)] 24 ∧ Blk w' B9 #[.int .i64 (hi s), .int .u64 (lo s)] 24 ∧ Below W.heap.size W w') w1)
    (hP : ∀ c t t2 d w, Q' (.panic c) ⟨t, d⟩ w → Q' (.panic c) ⟨t2, d⟩ w)
    (hK : ∀ (v122 v123 v124 v125 v126 v127 v128 v129 v130 v131 v132 v133 v134 v135 v136 v137 v138 v139 v140 v141 v142 v143 v144 v145 v146 v147 v148 v149 : Value) (w2 : World), (v149 = .bool false ∧ (fun w' => Blk w' B14 #[.int .i64 (hi q), .int .u64 (lo q)] 24 ∧ Blk w' B4 #[.int .i64 (hi a), .int .u64 (lo a)] 24 ∧ Blk w' B5 #[.int .i64 (hi b), .int .u64 (lo b)] 24 ∧ Blk w' B6 #[.int .i64 (hi c), .int .u64 (lo c)] 24 ∧ Blk w' B9 #[.int .i64 (hi s), .int .u64 (lo s)] 24 ∧ Below W.heap.size W w') w2) → K ⟨List.toArray (u0 :: u1 :: u2 :: (.int .u32 n) :: (.pointer (some ⟨B4, 0, none⟩)) :: u5 :: u6 :: u7 :: u8 :: u9 :: u10 :: u11 :: u12 :: u13 :: (.pointer (some ⟨B14, 0, none⟩)) :: (.int .u64 r) :: (.bool true) :: u17 :: u18 :: u19 :: u20 :: u21 :: u22 :: u23 :: u24 :: u25 :: u26 :: u27 :: u28 :: u29 :: u30 :: u31 :: u32 :: u33 :: u34 :: u35 :: u36 :: u37 :: u38 :: u39 :: u40 :: u41 :: u42 :: u43 :: u44 :: u45 :: u46 :: u47 :: u48 :: u49 :: u50 :: u51 :: u52 :: u53 :: u54 :: u55 :: u56 :: u57 :: u58 :: u59 :: u60 :: u61 :: u62 :: u63 :: u64 :: u65 :: u66 :: u67 :: u68 :: u69 :: u70 :: u71 :: u72 :: u73 :: u74 :: u75 :: u76 :: u77 :: u78 :: u79 :: u80 :: u81 :: u82 :: u83 :: u84 :: u85 :: u86 :: u87 :: u88 :: u89 :: u90 :: u91 :: u92 :: u93 :: u94 :: u95 :: u96 :: u97 :: u98 :: u99 :: u100 :: u101 :: u102 :: u103 :: u104 :: u105 :: u106 :: u107 :: u108 :: u109 :: u110 :: u111 :: u112 :: u113 :: u114 :: u115 :: u116 :: u117 :: u118 :: u119 :: u120 :: u121 :: v122 :: v123 :: v124 :: v125 :: v126 :: v127 :: v128 :: v129 :: v130 :: v131 :: v132 :: v133 :: v134 :: v135 :: v136 :: v137 :: v138 :: v139 :: v140 :: v141 :: v142 :: v143 :: v144 :: v145 :: v146 :: v147 :: v148 :: v149 :: u150 :: u151 :: u152 :: u153 :: u154 :: u155 :: u156 :: u157 :: u158 :: u159 :: u160 :: u161 :: u162 :: u163 :: u164 :: []), []⟩ w2) :
    Code.wp Try.prog laws_r15b_code (Exit.then K Q') ⟨List.toArray (u0 :: u1 :: u2 :: (.int .u32 n) :: (.pointer (some ⟨B4, 0, none⟩)) :: u5 :: u6 :: u7 :: u8 :: u9 :: u10 :: u11 :: u12 :: u13 :: (.pointer (some ⟨B14, 0, none⟩)) :: (.int .u64 r) :: (.bool true) :: u17 :: u18 :: u19 :: u20 :: u21 :: u22 :: u23 :: u24 :: u25 :: u26 :: u27 :: u28 :: u29 :: u30 :: u31 :: u32 :: u33 :: u34 :: u35 :: u36 :: u37 :: u38 :: u39 :: u40 :: u41 :: u42 :: u43 :: u44 :: u45 :: u46 :: u47 :: u48 :: u49 :: u50 :: u51 :: u52 :: u53 :: u54 :: u55 :: u56 :: u57 :: u58 :: u59 :: u60 :: u61 :: u62 :: u63 :: u64 :: u65 :: u66 :: u67 :: u68 :: u69 :: u70 :: u71 :: u72 :: u73 :: u74 :: u75 :: u76 :: u77 :: u78 :: u79 :: u80 :: u81 :: u82 :: u83 :: u84 :: u85 :: u86 :: u87 :: u88 :: u89 :: u90 :: u91 :: u92 :: u93 :: u94 :: u95 :: u96 :: u97 :: u98 :: u99 :: u100 :: u101 :: u102 :: u103 :: u104 :: u105 :: u106 :: u107 :: u108 :: u109 :: u110 :: u111 :: u112 :: u113 :: u114 :: u115 :: u116 :: u117 :: u118 :: u119 :: u120 :: u121 :: u122 :: u123 :: u124 :: u125 :: u126 :: u127 :: u128 :: u129 :: u130 :: u131 :: u132 :: u133 :: u134 :: u135 :: u136 :: u137 :: u138 :: u139 :: u140 :: u141 :: u142 :: u143 :: u144 :: u145 :: u146 :: u147 :: u148 :: u149 :: u150 :: u151 :: u152 :: u153 :: u154 :: u155 :: u156 :: u157 :: u158 :: u159 :: u160 :: u161 :: u162 :: u163 :: u164 :: []), []⟩ w1 := by
  conv => arg 2; whnf
  have hQ := Lib.hid hK; clear hK
  have qB14 := fun (w' : World) (h : Blk w' B14 #[.int .i64 (hi q), .int .u64 (lo q)] 24) => h.two
  have qB4 := fun (w' : World) (h : Blk w' B4 #[.int .i64 (hi a), .int .u64 (lo a)] 24) => h.two
  have qB5 := fun (w' : World) (h : Blk w' B5 #[.int .i64 (hi b), .int .u64 (lo b)] 24) => h.two
  have qB6 := fun (w' : World) (h : Blk w' B6 #[.int .i64 (hi c), .int .u64 (lo c)] 24) => h.two
  have qB9 := fun (w' : World) (h : Blk w' B9 #[.int .i64 (hi s), .int .u64 (lo s)] 24) => h.two
  have e1 : decide (0 < n) = true := decide_eq_true n0
  have e2 : IntKind.u64.wrap n = n := by rw [IntKind.wrap_u64]; omega
  have e3 : IntKind.i64.wrap r = r := by rw [IntKind.wrap_i64]; omega
  have e4 : decide (n ≤ r) = false := decide_eq_false (by omega)
  have e5 : decide (-9223372036854775808 < hi a) = false := decide_eq_false (by omega)
  clear hmin
  refine H.begin (fun w' => Blk w' B14 #[.int .i64 (hi q), .int .u64 (lo q)] 24 ∧ Blk w' B4 #[.int .i64 (hi a), .int .u64 (lo a)] 24 ∧ Blk w' B5 #[.int .i64 (hi b), .int .u64 (lo b)] 24 ∧ Blk w' B6 #[.int .i64 (hi c), .int .u64 (lo c)] 24 ∧ Blk w' B9 #[.int .i64 (hi s), .int .u64 (lo s)] 24 ∧ Below W.heap.size W w') (by kernel_rfl) ⟨hHeld.1.drew, hHeld.2.1.drew, hHeld.2.2.1.drew, hHeld.2.2.2.1.drew, hHeld.2.2.2.2.1.drew, hHeld.2.2.2.2.2.drew⟩ (fun w1 hHeld => ?_)
  refine H.take 0 (v := ?_) rfl (by kernel_rfl) (fun _ a _ h => hP _ _ a.tmps a.defers _ h) (by rfl) ?_ (by assumption) ?_
  rotate_left
  · (intro wz hSw; (try dsimp only at hSw); go_simp <;> with_reducible rfl)
  try simp only [Act.put, List.setIfInBounds_toArray, List.set_cons_zero, List.set_cons_succ]
  refine H.take 1 (v := ?_) rfl (by kernel_rfl) (fun _ a _ h => hP _ _ a.tmps a.defers _ h) (by rfl) ?_ (by assumption) ?_
  rotate_left
  · (intro wz hSw; (try dsimp only at hSw); go_simp <;> with_reducible rfl)
  try simp only [Act.put, List.setIfInBounds_toArray, List.set_cons_zero, List.set_cons_succ]
  refine H.take 2 (v := ?_) rfl (by kernel_rfl) (fun _ a _ h => hP _ _ a.tmps a.defers _ h) (by rfl) ?_ (by assumption) ?_
  rotate_left
  · (intro wz hSw; (try dsimp only at hSw); go_simp <;> with_reducible rfl)
  try simp only [Act.put, List.setIfInBounds_toArray, List.set_cons_zero, List.set_cons_succ]
  refine H.take 3 (v := ?_) rfl (by kernel_rfl) (fun _ a _ h => hP _ _ a.tmps a.defers _ h) (by rfl) ?_ (by assumption) ?_
  rotate_left
  · (intro wz hSw; (try dsimp only at hSw); go_simp <;> with_reducible rfl)
  try simp only [Act.put, List.setIfInBounds_toArray, List.set_cons_zero, List.set_cons_succ]
  refine H.take 4 (v := ?_) rfl (by kernel_rfl) (fun _ a _ h => hP _ _ a.tmps a.defers _ h) (by rfl) ?_ (by assumption) ?_
  rotate_left
  · (intro wz hSw; (try dsimp only at hSw); go_simp <;> with_reducible rfl)
  try simp only [Act.put, List.setIfInBounds_toArray, List.set_cons_zero, List.set_cons_succ]
  refine H.take 5 (v := ?_) rfl (by kernel_rfl) (fun _ a _ h => hP _ _ a.tmps a.defers _ h) (by rfl) ?_ (by assumption) ?_
  rotate_left
  · (intro wz hSw; (try dsimp only at hSw); go_simp <;> with_reducible rfl)
  try simp only [Act.put, List.setIfInBounds_toArray, List.set_cons_zero, List.set_cons_succ]
  refine H.take 6 (v := ?_) rfl (by kernel_rfl) (fun _ a _ h => hP _ _ a.tmps a.defers _ h) (by rfl) ?_ (by assumption) ?_
  rotate_left
  · (intro wz hSw; (try dsimp only at hSw); go_simp <;> with_reducible rfl)
  try simp only [Act.put, List.setIfInBounds_toArray, List.set_cons_zero, List.set_cons_succ]
  refine H.take 7 (v := ?_) rfl (by kernel_rfl) (fun _ a _ h => hP _ _ a.tmps a.defers _ h) (by rfl) ?_ (by assumption) ?_
  rotate_left
  · (intro wz hSw; (try dsimp only at hSw); go_simp <;> with_reducible rfl)
  try simp only [Act.put, List.setIfInBounds_toArray, List.set_cons_zero, List.set_cons_succ]
  refine H.take 8 (v := ?_) rfl (by kernel_rfl) (fun _ a _ h => hP _ _ a.tmps a.defers _ h) (by rfl) ?_ (by assumption) ?_
  rotate_left
  · (intro wz hSw; (try dsimp only at hSw); go_simp <;> with_reducible rfl)
  try simp only [Act.put, List.setIfInBounds_toArray, List.set_cons_zero, List.set_cons_succ]
  refine H.take 9 (v := ?_) rfl (by kernel_rfl) (fun _ a _ h => hP _ _ a.tmps a.defers _ h) (by rfl) ?_ (by assumption) ?_
  rotate_left
  · (intro wz hSw; (try dsimp only at hSw); go_simp <;> with_reducible rfl)
  try simp only [Act.put, List.setIfInBounds_toArray, List.set_cons_zero, List.set_cons_succ]
  refine H.take 10 (v := ?_) rfl (by kernel_rfl) (fun _ a _ h => hP _ _ a.tmps a.defers _ h) (by rfl) ?_ (by assumption) ?_
  rotate_left
  · (intro wz hSw; (try dsimp only at hSw); go_simp <;> with_reducible rfl)
  try simp only [Act.put, List.setIfInBounds_toArray, List.set_cons_zero, List.set_cons_succ]
  refine H.take 11 (v := ?_) rfl (by kernel_rfl) (fun _ a _ h => hP _ _ a.tmps a.defers _ h) (by rfl) ?_ (by assumption) ?_
  rotate_left
  · (intro wz hSw; (try dsimp only at hSw); go_simp <;> with_reducible rfl)
  try simp only [Act.put, List.setIfInBounds_toArray, List.set_cons_zero, List.set_cons_succ]
  refine H.take 12 (v := ?_) rfl (by kernel_rfl) (fun _ a _ h => hP _ _ a.tmps a.defers _ h) (by rfl) ?_ (by assumption) ?_
  rotate_left
  · (intro wz hSw; (try dsimp only at hSw); go_simp <;> with_reducible rfl)
  try simp only [Act.put, List.setIfInBounds_toArray, List.set_cons_zero, List.set_cons_succ]
  refine H.take 13 (v := ?_) rfl (by kernel_rfl) (fun _ a _ h => hP _ _ a.tmps a.defers _ h) (by rfl) ?_ (by assumption) ?_
  rotate_left
  · (intro wz hSw; (try dsimp only at hSw); go_simp <;> with_reducible rfl)
  try simp only [Act.put, List.setIfInBounds_toArray, List.set_cons_zero, List.set_cons_succ]
  refine H.take 15 (v := ?_) rfl (by kernel_rfl) (fun _ a _ h => hP _ _ a.tmps a.defers _ h) (by rfl) ?_ (by assumption) ?_
  rotate_left
  · (intro wz hSw; (try dsimp only at hSw); go_simp <;> with_reducible rfl)
  try simp only [Act.put, List.setIfInBounds_toArray, List.set_cons_zero, List.set_cons_succ]
  refine H.take 16 (v := ?_) rfl (by kernel_rfl) (fun _ a _ h => hP _ _ a.tmps a.defers _ h) (by rfl) ?_ (by assumption) ?_
  rotate_left
  · (intro wz hSw; (try dsimp only at hSw); go_simp <;> with_reducible rfl)
  try simp only [Act.put, List.setIfInBounds_toArray, List.set_cons_zero, List.set_cons_succ]
  refine H.take 19 (v := ?_) rfl (by kernel_rfl) (fun _ a _ h => hP _ _ a.tmps a.defers _ h) (by rfl) ?_ (by assumption) ?_
  rotate_left
  · (intro wz hSw; (try dsimp only at hSw); go_simp <;> with_reducible rfl)
  try simp only [Act.put, List.setIfInBounds_toArray, List.set_cons_zero, List.set_cons_succ]
  refine H.ready [14] (by kernel_rfl) (by simp) ?_
  refine H.one rfl (by rfl) (fun K hK => ?_) AllReadyH.nil
  go_simp
  go_at_call 23
  refine (SC.out _).mono ?_
  rintro e w1 ⟨rfl, hb⟩
  refine hK.out _ _ ?_ (fun hHeld2 => ?_)
  · exact ⟨Blk.keep hb hHeld.1, Blk.keep hb hHeld.2.1, Blk.keep hb hHeld.2.2.1, Blk.keep hb hHeld.2.2.2.1, Blk.keep hb hHeld.2.2.2.2.1, hHeld.2.2.2.2.2.trans (hb.mono hHeld.2.2.2.2.2.size)⟩
  clear hHeld hK K; have hHeld := hHeld2; clear hHeld2
  try simp only [Act.put, List.setIfInBounds_toArray, List.set_cons_zero, List.set_cons_succ]
  refine H.ready [17] (by kernel_rfl) (by simp) ?_
  refine H.one rfl (by rfl) (fun K hK => ?_) AllReadyH.nil
  go_simp
  go_at_call 10
  refine (OR.out _).mono ?_
  rintro e w1 ⟨rfl, hb⟩
  refine hK.out _ _ ?_ (fun hHeld2 => ?_)
  · exact ⟨Blk.keep hb hHeld.1, Blk.keep hb hHeld.2.1, Blk.keep hb hHeld.2.2.1, Blk.keep hb hHeld.2.2.2.1, Blk.keep hb hHeld.2.2.2.2.1, hHeld.2.2.2.2.2.trans (hb.mono hHeld.2.2.2.2.2.size)⟩
  clear hHeld hK K; have hHeld := hHeld2; clear hHeld2
  try simp only [Act.put, List.setIfInBounds_toArray, List.set_cons_zero, List.set_cons_succ]
  refine H.ready [18] (by kernel_rfl) (by simp) ?_
  refine H.one rfl (by rfl) (fun K hK => ?_) AllReadyH.nil
  go_simp
  go_at_call 13
  refine (AD.out _).mono ?_
  rintro e w1 ⟨rfl, hb⟩
  refine hK.out _ _ ?_ (fun hHeld2 => ?_)
  · exact ⟨Blk.keep hb hHeld.1, Blk.keep hb hHeld.2.1, Blk.keep hb hHeld.2.2.1, Blk.keep hb hHeld.2.2.2.1, Blk.keep hb hHeld.2.2.2.2.1, hHeld.2.2.2.2.2.trans (hb.mono hHeld.2.2.2.2.2.size)⟩
  clear hHeld hK K; have hHeld := hHeld2; clear hHeld2
  try simp only [Act.put, List.setIfInBounds_toArray, List.set_cons_zero, List.set_cons_succ]
  refine H.take 20 (v := ?_) rfl (by kernel_rfl) (fun _ a _ h => hP _ _ a.tmps a.defers _ h) (by rfl) ?_ (by assumption) ?_
  rotate_left
  · (intro wz hSw; (try dsimp only at hSw); go_simp <;> with_reducible rfl)
  try simp only [Act.put, List.setIfInBounds_toArray, List.set_cons_zero, List.set_cons_succ]
  refine H.take 21 (v := ?_) rfl (by kernel_rfl) (fun _ a _ h => hP _ _ a.tmps a.defers _ h) (by rfl) ?_ (by assumption) ?_
  rotate_left
  · (intro wz hSw; (try dsimp only at hSw); go_simp <;> with_reducible rfl)
  try simp only [Act.put, List.setIfInBounds_toArray, List.set_cons_zero, List.set_cons_succ]
  refine H.take 22 (v := ?_) rfl (by kernel_rfl) (fun _ a _ h => hP _ _ a.tmps a.defers _ h) (by rfl) ?_ (by assumption) ?_
  rotate_left
  · (intro wz hSw; (try dsimp only at hSw); go_simp <;> with_reducible rfl)
  try simp only [Act.put, List.setIfInBounds_toArray, List.set_cons_zero, List.set_cons_succ]
  refine H.take 23 (v := ?_) rfl (by kernel_rfl) (fun _ a _ h => hP _ _ a.tmps a.defers _ h) (by rfl) ?_ (by assumption) ?_
  rotate_left
  · (intro wz hSw; (try dsimp only at hSw); go_simp <;> with_reducible rfl)
  try simp only [Act.put, List.setIfInBounds_toArray, List.set_cons_zero, List.set_cons_succ]
  refine H.take 24 (v := ?_) rfl (by kernel_rfl) (fun _ a _ h => hP _ _ a.tmps a.defers _ h) (by rfl) ?_ (by assumption) ?_
  rotate_left
  · (intro wz hSw; (try dsimp only at hSw); go_simp <;> with_reducible rfl)
  try simp only [Act.put, List.setIfInBounds_toArray, List.set_cons_zero, List.set_cons_succ]
  refine H.take 25 (v := ?_) rfl (by kernel_rfl) (fun _ a _ h => hP _ _ a.tmps a.defers _ h) (by rfl) ?_ (by assumption) ?_
  rotate_left
  · (intro wz hSw; (try dsimp only at hSw); go_simp <;> with_reducible rfl)
  try simp only [Act.put, List.setIfInBounds_toArray, List.set_cons_zero, List.set_cons_succ]
  refine H.take 26 (v := ?_) rfl (by kernel_rfl) (fun _ a _ h => hP _ _ a.tmps a.defers _ h) (by rfl) ?_ (by assumption) ?_
  rotate_left
  · (intro wz hSw; (try dsimp only at hSw); go_simp <;> with_reducible rfl)
  try simp only [Act.put, List.setIfInBounds_toArray, List.set_cons_zero, List.set_cons_succ]
  refine H.take 27 (v := ?_) rfl (by kernel_rfl) (fun _ a _ h => hP _ _ a.tmps a.defers _ h) (by rfl) ?_ (by assumption) ?_
  rotate_left
  · (intro wz hSw; (try dsimp only at hSw); go_simp <;> with_reducible rfl)
  try simp only [Act.put, List.setIfInBounds_toArray, List.set_cons_zero, List.set_cons_succ]
  refine H.done (by kernel_rfl) ?_ _
  show K _ _
  exact hQ.out _ _ _ _ _ _ _ _ _ _ _ _ _ _ _ _ _ _ _ _ _ _ _ _ _ _ _ _ _ ⟨rfl, hHeld⟩
end Go.Proofs.Ytkmegldbmjpdmaa
