
/-
  WideLaws: the region that compares sums.
-/
import Derived.Test.YtkmegldbmjpdmaaWMul
import Derived.Test.YtkmegldbmjpdmaaKit2
namespace Go.Proofs.Ytkmegldbmjpdmaa
open Go.RowKit

noncomputable def laws_r12ax_code : Code := ((Try.f6.body.bind (findRegion 12)).getD .skip)
set_option maxRecDepth 100000 in set_option maxHeartbeats 8000000 in
theorem laws_r12ax {a b c s x t v u : Int} {B12 B13 : Nat} {B4 B5 B6 B9 : Nat} {W : World} (CAB : Hid (∀ w : World, Calls Try.prog 19 #[.agg #[.int .i64 (hi a), .int .u64 (lo a)], .agg #[.int .i64 (hi b), .int .u64 (lo b)]] w fun e w' => e = .returned (.int .i64 v) ∧ Below w.heap.size w w')) (CXT : Hid (∀ w : World, Calls Try.prog 19 #[.agg #[.int .i64 (hi x), .int .u64 (lo x)], .agg #[.int .i64 (hi t), .int .u64 (lo t)]] w fun e w' => e = .returned (.int .i64 u) ∧ Below w.heap.size w w')) (hv : v < 0) (hu2 : decide (0 < u) = false) (hx : isEnd x = true) {u0 u1 u2 u3 u6 u7 u8 u9 u10 u11 u14 u15 u16 u17 u18 u19 u20 u21 u22 u23 u24 u25 u26 u27 u28 u29 u30 u31 u32 u33 u34 u35 u36 u37 u38 u39 u40 u41 u42 u43 u44 u45 u46 u47 u48 u49 u50 u51 u52 u53 u54 u55 u56 u57 u58 u59 u60 u61 u62 u63 u64 u65 u66 u67 u68 u69 u70 u71 u72 u73 u74 u75 u76 u77 u78 u79 u80 u81 u82 u83 u84 u85 u86 u87 u88 u89 u90 u91 u92 u93 u94 u95 u96 u97 u98 u99 u100 u101 u102 u103 u104 u105 u106 u107 u108 u109 u110 u111 u112 u113 u114 u115 u116 u117 u118 u119 u120 u121 u122 u123 u124 u125 u126 u127 u128 u129 u130 u131 u132 u133 u134 u135 u136 u137 u138 u139 u140 u141 u142 u143 u144 u145 u146 u147 u148 u149 u150 u151 u152 u153 u154 u155 u156 u157 u158 u159 u160 u161 u162 u163 u164 : Value} {K : Act → World → Prop} {Q' : Exit → Act → World → Prop} {w1 : World} (hHeld : (fun w' => Blk w' B12 #[.int .i64 (hi x), .int .u64 (lo x)] 24 ∧ Blk w' B13 #[.int .i64 (hi t), .int .u64 (lo t)] 24 ∧ Blk w' B4 #[.int .i64 (hi a), .int .u64 (lo a)] 24 ∧ Blk w' B5 #[.int .i64 (hi b), .int .u64 (lo b)] 24 ∧ Blk w' B6 #[.int .i64 (hi c), .int .u64 (lo c)] 24 ∧ Blk w' B9 #[.int .i64 (hi s), .int .u64 (lo s)] 24 ∧ Below W.heap.size W w') w1)
    (hP : ∀ c t t2 d w, Q' (.panic c) ⟨t, d⟩ w → Q' (.panic c) ⟨t2, d⟩ w)
    (hK : ∀ (v85 v86 v87 v88 v89 v90 v91 v92 v93 v94 v95 v96 v97 v98 v99 v100 v101 v102 v103 v104 v105 v106 v107 v108 v109 v110 v111 v112 v113 : Value) (w2 : World), (v113 = .bool false ∧ (fun w' => Blk w' B12 #[.int .i64 (hi x), .int .u64 (lo x)] 24 ∧ Blk w' B13 #[.int .i64 (hi t), .int .u64 (lo t)] 24 ∧ Blk w' B4 #[.int .i64 (hi a), .int .u64 (lo a)] 24 ∧ Blk w' B5 #[.int .i64 (hi b), .int .u64 (lo b)] 24 ∧ Blk w' B6 #[.int .i64 (hi c), .int .u64 (lo c)] 24 ∧ Blk w' B9 #[.int .i64 (hi s), .int .u64 (lo s)] 24 ∧ Below W.heap.size W w') w2) → K ⟨List.toArray (u0 :: u1 :: u2 :: u3 :: (.pointer (some ⟨B4, 0, none⟩)) :: (.pointer (some ⟨B5, 0, none⟩)) :: u6 :: u7 :: u8 :: u9 :: u10 :: u11 :: (.pointer (some ⟨B12, 0, none⟩)) :: (.pointer (some ⟨B13, 0, none⟩)) :: u14 :: u15 :: u16 :: u17 :: u18 :: u19 :: u20 :: u21 :: u22 :: u23 :: u24 :: u25 :: u26 :: u27 :: u28 :: u29 :: u30 :: u31 :: u32 :: u33 :: u34 :: u35 :: u36 :: u37 :: u38 :: u39 :: u40 :: u41 :: u42 :: u43 :: u44 :: u45 :: u46 :: u47 :: u48 :: u49 :: u50 :: u51 :: u52 :: u53 :: u54 :: u55 :: u56 :: u57 :: u58 :: u59 :: u60 :: u61 :: u62 :: u63 :: u64 :: u65 :: u66 :: u67 :: u68 :: u69 :: u70 :: u71 :: u72 :: u73 :: u74 :: u75 :: u76 :: u77 :: u78 :: u79 :: u80 :: u81 :: u82 :: u83 :: u84 :: v85 :: v86 :: v87 :: v88 :: v89 :: v90 :: v91 :: v92 :: v93 :: v94 :: v95 :: v96 :: v97 :: v98 :: v99 :: v100 :: v101 :: v102 :: v103 :: v104 :: v105 :: v106 :: v107 :: v108 :: v109 :: v110 :: v111 :: v112 :: v113 :: u114 :: u115 :: u116 :: u117 :: u118 :: u119 :: u120 :: u121 :: u122 :: u123 :: u124 :: u125 :: u126 :: u127 :: u128 :: u129 :: u130 :: u131 :: u132 :: u133 :: u134 :: u135 :: u136 :: u137 :: u138 :: u139 :: u140 :: u141 :: u142 :: u143 :: u144 :: u145 :: u146 :: u147 :: u148 :: u149 :: u150 :: u151 :: u152 :: u153 :: u154 :: u155 :: u156 :: u157 :: u158 :: u159 :: u160 :: u161 :: u162 :: u163 :: u164 :: []), []⟩ w2) :
    Code.wp Try.prog laws_r12ax_code (Exit.then K Q') ⟨List.toArray (u0 :: u1 :: u2 :: u3 :: (.pointer (some ⟨B4, 0, none⟩)) :: (.pointer (some ⟨B5, 0, none⟩)) :: u6 :: u7 :: u8 :: u9 :: u10 :: u11 :: (.pointer (some ⟨B12, 0, none⟩)) :: (.pointer (some ⟨B13, 0, none⟩)) :: u14 :: u15 :: u16 :: u17 :: u18 :: u19 :: u20 :: u21 :: u22 :: u23 :: u24 :: u25 :: u26 :: u27 :: u28 :: u29 :: u30 :: u31 :: u32 :: u33 :: u34 :: u35 :: u36 :: u37 :: u38 :: u39 :: u40 :: u41 :: u42 :: u43 :: u44 :: u45 :: u46 :: u47 :: u48 :: u49 :: u50 :: u51 :: u52 :: u53 :: u54 :: u55 :: u56 :: u57 :: u58 :: u59 :: u60 :: u61 :: u62 :: u63 :: u64 :: u65 :: u66 :: u67 :: u68 :: u69 :: u70 :: u71 :: u72 :: u73 :: u74 :: u75 :: u76 :: u77 :: u78 :: u79 :: u80 :: u81 :: u82 :: u83 :: u84 :: u85 :: u86 :: u87 :: u88 :: u89 :: u90 :: u91 :: u92 :: u93 :: u94 :: u95 :: u96 :: u97 :: u98 :: u99 :: u100 :: u101 :: u102 :: u103 :: u104 :: u105 :: u106 :: u107 :: u108 :: u109 :: u110 :: u111 :: u112 :: u113 :: u114 :: u115 :: u116 :: u117 :: u118 :: u119 :: u120 :: u121 :: u122 :: u123 :: u124 :: u125 :: u126 :: u127 :: u128 :: u129 :: u130 :: u131 :: u132 :: u133 :: u134 :: u135 :: u136 :: u137 :: u138 :: u139 :: u140 :: u141 :: u142 :: u143 :: u144 :: u145 :: u146 :: u147 :: u148 :: u149 :: u150 :: u151 :: u152 :: u153 :: u154 :: u155 :: u156 :: u157 :: u158 :: u159 :: u160 :: u161 :: u162 :: u163 :: u164 :: []), []⟩ w1 := by
  conv => arg 2; whnf
  have hQ := Lib.hid hK; clear hK
  have qB12 := fun (w' : World) (h : Blk w' B12 #[.int .i64 (hi x), .int .u64 (lo x)] 24) => h.two
  have qB13 := fun (w' : World) (h : Blk w' B13 #[.int .i64 (hi t), .int .u64 (lo t)] 24) => h.two
  have qB4 := fun (w' : World) (h : Blk w' B4 #[.int .i64 (hi a), .int .u64 (lo a)] 24) => h.two
  have qB5 := fun (w' : World) (h : Blk w' B5 #[.int .i64 (hi b), .int .u64 (lo b)] 24) => h.two
  have qB6 := fun (w' : World) (h : Blk w' B6 #[.int .i64 (hi c), .int .u64 (lo c)] 24) => h.two
  have qB9 := fun (w' : World) (h : Blk w' B9 #[.int .i64 (hi s), .int .u64 (lo s)] 24) => h.two
  refine H.begin (fun w' => Blk w' B12 #[.int .i64 (hi x), .int .u64 (lo x)] 24 ∧ Blk w' B13 #[.int .i64 (hi t), .int .u64 (lo t)] 24 ∧ Blk w' B4 #[.int .i64 (hi a), .int .u64 (lo a)] 24 ∧ Blk w' B5 #[.int .i64 (hi b), .int .u64 (lo b)] 24 ∧ Blk w' B6 #[.int .i64 (hi c), .int .u64 (lo c)] 24 ∧ Blk w' B9 #[.int .i64 (hi s), .int .u64 (lo s)] 24 ∧ Below W.heap.size W w') (by kernel_rfl) ⟨hHeld.1.drew, hHeld.2.1.drew, hHeld.2.2.1.drew, hHeld.2.2.2.1.drew, hHeld.2.2.2.2.1.drew, hHeld.2.2.2.2.2.1.drew, hHeld.2.2.2.2.2.2.drew⟩ (fun w1 hHeld => ?_)
  refine H.take 0 (v := ?_) rfl (by kernel_rfl) (fun _ a _ h => hP _ _ a.tmps a.defers _ h) (by rfl) ?_ (by assumption) ?_
  rotate_left
  · (intro wz hSw; (try dsimp only at hSw); go_simp <;> with_reducible rfl)
  try simp only [Act.put, List.setIfInBounds_toArray, List.set_cons_zero, List.set_cons_succ]
  refine H.take 1 (v := ?_) rfl (by kernel_rfl) (fun _ a _ h => hP _ _ a.tmps a.defers _ h) (by rfl) ?_ (by assumption) ?_
  rotate_left
  · (intro wz hSw; (try dsimp only at hSw); go_simp <;> with_reducible rfl)
  try simp only [Act.put, List.setIfInBounds_toArray, List.set_cons_zero, List.set_cons_succ]
  refine H.ready [2] (by kernel_rfl) (by simp) ?_
  refine H.one rfl (by rfl) (fun K hK => ?_) AllReadyH.nil
  go_simp
  go_at_call 19
  refine (CAB.out _).mono ?_
  rintro e w1 ⟨rfl, hb⟩
  refine hK.out _ _ ?_ (fun hHeld2 => ?_)
  · exact ⟨Blk.keep hb hHeld.1, Blk.keep hb hHeld.2.1, Blk.keep hb hHeld.2.2.1, Blk.keep hb hHeld.2.2.2.1, Blk.keep hb hHeld.2.2.2.2.1, Blk.keep hb hHeld.2.2.2.2.2.1, hHeld.2.2.2.2.2.2.trans (hb.mono hHeld.2.2.2.2.2.2.size)⟩
  clear hHeld hK K; have hHeld := hHeld2; clear hHeld2
  try simp only [Act.put, List.setIfInBounds_toArray, List.set_cons_zero, List.set_cons_succ]
  refine H.take 3 (v := ?_) rfl (by kernel_rfl) (fun _ a _ h => hP _ _ a.tmps a.defers _ h) (by rfl) ?_ (by assumption) ?_
  rotate_left
  · (intro wz hSw; (try dsimp only at hSw); go_simp <;> with_reducible rfl)
  try simp only [Act.put, List.setIfInBounds_toArray, List.set_cons_zero, List.set_cons_succ]
  refine H.take 4 (v := ?_) rfl (by kernel_rfl) (fun _ a _ h => hP _ _ a.tmps a.defers _ h) (by rfl) ?_ (by assumption) ?_
  rotate_left
  · (intro wz hSw; (try dsimp only at hSw); go_simp <;> with_reducible rfl)
  try simp only [Act.put, List.setIfInBounds_toArray, List.set_cons_zero, List.set_cons_succ]
  refine H.take 5 (v := ?_) rfl (by kernel_rfl) (fun _ a _ h => hP _ _ a.tmps a.defers _ h) (by rfl) ?_ (by assumption) ?_
  rotate_left
  · (intro wz hSw; (try dsimp only at hSw); go_simp <;> with_reducible rfl)
  try simp only [Act.put, List.setIfInBounds_toArray, List.set_cons_zero, List.set_cons_succ]
  refine H.take 6 (v := ?_) rfl (by kernel_rfl) (fun _ a _ h => hP _ _ a.tmps a.defers _ h) (by rfl) ?_ (by assumption) ?_
  rotate_left
  · (intro wz hSw; (try dsimp only at hSw); go_simp <;> with_reducible rfl)
  try simp only [Act.put, List.setIfInBounds_toArray, List.set_cons_zero, List.set_cons_succ]
  refine H.ready [7] (by kernel_rfl) (by simp) ?_
  refine H.one rfl (by rfl) (fun K hK => ?_) AllReadyH.nil
  go_simp
  go_at_call 19
  refine (CXT.out _).mono ?_
  rintro e w1 ⟨rfl, hb⟩
  refine hK.out _ _ ?_ (fun hHeld2 => ?_)
  · exact ⟨Blk.keep hb hHeld.1, Blk.keep hb hHeld.2.1, Blk.keep hb hHeld.2.2.1, Blk.keep hb hHeld.2.2.2.1, Blk.keep hb hHeld.2.2.2.2.1, Blk.keep hb hHeld.2.2.2.2.2.1, hHeld.2.2.2.2.2.2.trans (hb.mono hHeld.2.2.2.2.2.2.size)⟩
  clear hHeld hK K; have hHeld := hHeld2; clear hHeld2
  try simp only [Act.put, List.setIfInBounds_toArray, List.set_cons_zero, List.set_cons_succ]
  refine H.take 8 (v := ?_) rfl (by kernel_rfl) (fun _ a _ h => hP _ _ a.tmps a.defers _ h) (by rfl) ?_ (by assumption) ?_
  rotate_left
  · (intro wz hSw; (try dsimp only at hSw); go_simp <;> with_reducible rfl)
  try simp only [Act.put, List.setIfInBounds_toArray, List.set_cons_zero, List.set_cons_succ]
  refine H.take 9 (v := ?_) rfl (by kernel_rfl) (fun _ a _ h => hP _ _ a.tmps a.defers _ h) (by rfl) ?_ (by assumption) ?_
  rotate_left
  · (intro wz hSw; (try dsimp only at hSw); go_simp <;> with_reducible rfl)
  try simp only [Act.put, List.setIfInBounds_toArray, List.set_cons_zero, List.set_cons_succ]
  refine H.take 10 (v := ?_) rfl (by kernel_rfl) (fun _ a _ h => hP _ _ a.tmps a.defers _ h) (by rfl) ?_ (by assumption) ?_
  rotate_left
  · (intro wz hSw; (try dsimp only at hSw); go_simp <;> with_reducible rfl)
  try simp only [Act.put, List.setIfInBounds_toArray, List.set_cons_zero, List.set_cons_succ]
  refine H.take 11 (v := ?_) rfl (by kernel_rfl) (fun _ a _ h => hP _ _ a.tmps a.defers _ h) (by rfl) ?_ (by assumption) ?_
  rotate_left
  · (intro wz hSw; (try dsimp only at hSw); go_simp <;> with_reducible rfl)
  try simp only [Act.put, List.setIfInBounds_toArray, List.set_cons_zero, List.set_cons_succ]
  refine H.ready [12] (by kernel_rfl) (by simp) ?_
  refine H.one rfl (by rfl) (fun K hK => ?_) AllReadyH.nil
  go_simp
  go_at_call 29
  refine (ends_n _ _).mono ?_
  rintro e w1 ⟨rfl, hb⟩
  refine hK.out _ _ ?_ (fun hHeld2 => ?_)
  · exact ⟨Blk.keep hb hHeld.1, Blk.keep hb hHeld.2.1, Blk.keep hb hHeld.2.2.1, Blk.keep hb hHeld.2.2.2.1, Blk.keep hb hHeld.2.2.2.2.1, Blk.keep hb hHeld.2.2.2.2.2.1, hHeld.2.2.2.2.2.2.trans (hb.mono hHeld.2.2.2.2.2.2.size)⟩
  clear hHeld hK K; have hHeld := hHeld2; clear hHeld2
  try simp only [Act.put, List.setIfInBounds_toArray, List.set_cons_zero, List.set_cons_succ]
  refine H.take 13 (v := ?_) rfl (by kernel_rfl) (fun _ a _ h => hP _ _ a.tmps a.defers _ h) (by rfl) ?_ (by assumption) ?_
  rotate_left
  · (intro wz hSw; (try dsimp only at hSw); go_simp <;> with_reducible rfl)
  try simp only [Act.put, List.setIfInBounds_toArray, List.set_cons_zero, List.set_cons_succ]
  refine H.take 14 (v := ?_) rfl (by kernel_rfl) (fun _ a _ h => hP _ _ a.tmps a.defers _ h) (by rfl) ?_ (by assumption) ?_
  rotate_left
  · (intro wz hSw; (try dsimp only at hSw); go_simp <;> with_reducible rfl)
  try simp only [Act.put, List.setIfInBounds_toArray, List.set_cons_zero, List.set_cons_succ]
  refine H.skip 15 rfl (by kernel_rfl) (fun _ a _ h => hP _ _ a.tmps a.defers _ h) (by rfl) (by assumption) ?_
  try simp only [Act.put, List.setIfInBounds_toArray, List.set_cons_zero, List.set_cons_succ]
  refine H.skip 16 rfl (by kernel_rfl) (fun _ a _ h => hP _ _ a.tmps a.defers _ h) (by rfl) (by assumption) ?_
  try simp only [Act.put, List.setIfInBounds_toArray, List.set_cons_zero, List.set_cons_succ]
  refine H.skip 17 rfl (by kernel_rfl) (fun _ a _ h => hP _ _ a.tmps a.defers _ h) (by rfl) (by assumption) ?_
  try simp only [Act.put, List.setIfInBounds_toArray, List.set_cons_zero, List.set_cons_succ]
  refine H.take 18 (v := ?_) rfl (by kernel_rfl) (fun _ a _ h => hP _ _ a.tmps a.defers _ h) (by rfl) ?_ (by assumption) ?_
  rotate_left
  · (intro wz hSw; (try dsimp only at hSw); go_simp <;> with_reducible rfl)
  try simp only [Act.put, List.setIfInBounds_toArray, List.set_cons_zero, List.set_cons_succ]
  refine H.take 19 (v := ?_) rfl (by kernel_rfl) (fun _ a _ h => hP _ _ a.tmps a.defers _ h) (by rfl) ?_ (by assumption) ?_
  rotate_left
  · (intro wz hSw; (try dsimp only at hSw); go_simp <;> with_reducible rfl)
  try simp only [Act.put, List.setIfInBounds_toArray, List.set_cons_zero, List.set_cons_succ]
  refine H.skip 20 rfl (by kernel_rfl) (fun _ a _ h => hP _ _ a.tmps a.defers _ h) (by rfl) (by assumption) ?_
  try simp only [Act.put, List.setIfInBounds_toArray, List.set_cons_zero, List.set_cons_succ]
  refine H.skip 21 rfl (by kernel_rfl) (fun _ a _ h => hP _ _ a.tmps a.defers _ h) (by rfl) (by assumption) ?_
  try simp only [Act.put, List.setIfInBounds_toArray, List.set_cons_zero, List.set_cons_succ]
  refine H.skip 22 rfl (by kernel_rfl) (fun _ a _ h => hP _ _ a.tmps a.defers _ h) (by rfl) (by assumption) ?_
  try simp only [Act.put, List.setIfInBounds_toArray, List.set_cons_zero, List.set_cons_succ]
  refine H.skip 23 rfl (by kernel_rfl) (fun _ a _ h => hP _ _ a.tmps a.defers _ h) (by rfl) (by assumption) ?_
  try simp only [Act.put, List.setIfInBounds_toArray, List.set_cons_zero, List.set_cons_succ]
  refine H.skip 24 rfl (by kernel_rfl) (fun _ a _ h => hP _ _ a.tmps a.defers _ h) (by rfl) (by assumption) ?_
  try simp only [Act.put, List.setIfInBounds_toArray, List.set_cons_zero, List.set_cons_succ]
  refine H.skip 25 rfl (by kernel_rfl) (fun _ a _ h => hP _ _ a.tmps a.defers _ h) (by rfl) (by assumption) ?_
  try simp only [Act.put, List.setIfInBounds_toArray, List.set_cons_zero, List.set_cons_succ]
  refine H.skip 26 rfl (by kernel_rfl) (fun _ a _ h => hP _ _ a.tmps a.defers _ h) (by rfl) (by assumption) ?_
  try simp only [Act.put, List.setIfInBounds_toArray, List.set_cons_zero, List.set_cons_succ]
  refine H.take 27 (v := ?_) rfl (by kernel_rfl) (fun _ a _ h => hP _ _ a.tmps a.defers _ h) (by rfl) ?_ (by assumption) ?_
  rotate_left
  · (intro wz hSw; (try dsimp only at hSw); go_simp <;> with_reducible rfl)
  try simp only [Act.put, List.setIfInBounds_toArray, List.set_cons_zero, List.set_cons_succ]
  refine H.take 28 (v := ?_) rfl (by kernel_rfl) (fun _ a _ h => hP _ _ a.tmps a.defers _ h) (by rfl) ?_ (by assumption) ?_
  rotate_left
  · (intro wz hSw; (try dsimp only at hSw); go_simp <;> with_reducible rfl)
  try simp only [Act.put, List.setIfInBounds_toArray, List.set_cons_zero, List.set_cons_succ]
  refine H.done (by kernel_rfl) ?_ _
  show K _ _
  exact hQ.out _ _ _ _ _ _ _ _ _ _ _ _ _ _ _ _ _ _ _ _ _ _ _ _ _ _ _ _ _ _ ⟨rfl, hHeld⟩

noncomputable def laws_r12at_code : Code := ((Try.f6.body.bind (findRegion 12)).getD .skip)
set_option maxRecDepth 100000 in set_option maxHeartbeats 8000000 in
theorem laws_r12at {a b c s x t v u : Int} {B12 B13 : Nat} {B4 B5 B6 B9 : Nat} {W : World} (CAB : Hid (∀ w : World, Calls Try.prog 19 #[.agg #[.int .i64 (hi a), .int .u64 (lo a)], .agg #[.int .i64 (hi b), .int .u64 (lo b)]] w fun e w' => e = .returned (.int .i64 v) ∧ Below w.heap.size w w')) (CXT : Hid (∀ w : World, Calls Try.prog 19 #[.agg #[.int .i64 (hi x), .int .u64 (lo x)], .agg #[.int .i64 (hi t), .int .u64 (lo t)]] w fun e w' => e = .returned (.int .i64 u) ∧ Below w.heap.size w w')) (hv : v < 0) (hu2 : decide (0 < u) = false) (hx : isEnd x = false) (ht : isEnd t = true) {u0 u1 u2 u3 u6 u7 u8 u9 u10 u11 u14 u15 u16 u17 u18 u19 u20 u21 u22 u23 u24 u25 u26 u27 u28 u29 u30 u31 u32 u33 u34 u35 u36 u37 u38 u39 u40 u41 u42 u43 u44 u45 u46 u47 u48 u49 u50 u51 u52 u53 u54 u55 u56 u57 u58 u59 u60 u61 u62 u63 u64 u65 u66 u67 u68 u69 u70 u71 u72 u73 u74 u75 u76 u77 u78 u79 u80 u81 u82 u83 u84 u85 u86 u87 u88 u89 u90 u91 u92 u93 u94 u95 u96 u97 u98 u99 u100 u101 u102 u103 u104 u105 u106 u107 u108 u109 u110 u111 u112 u113 u114 u115 u116 u117 u118 u119 u120 u121 u122 u123 u124 u125 u126 u127 u128 u129 u130 u131 u132 u133 u134 u135 u136 u137 u138 u139 u140 u141 u142 u143 u144 u145 u146 u147 u148 u149 u150 u151 u152 u153 u154 u155 u156 u157 u158 u159 u160 u161 u162 u163 u164 : Value} {K : Act → World → Prop} {Q' : Exit → Act → World → Prop} {w1 : World} (hHeld : (fun w' => Blk w' B12 #[.int .i64 (hi x), .int .u64 (lo x)] 24 ∧ Blk w' B13 #[.int .i64 (hi t), .int .u64 (lo t)] 24 ∧ Blk w' B4 #[.int .i64 (hi a), .int .u64 (lo a)] 24 ∧ Blk w' B5 #[.int .i64 (hi b), .int .u64 (lo b)] 24 ∧ Blk w' B6 #[.int .i64 (hi c), .int .u64 (lo c)] 24 ∧ Blk w' B9 #[.int .i64 (hi s), .int .u64 (lo s)] 24 ∧ Below W.heap.size W w') w1)
    (hP : ∀ c t t2 d w, Q' (.panic c) ⟨t, d⟩ w → Q' (.panic c) ⟨t2, d⟩ w)
    (hK : ∀ (v85 v86 v87 v88 v89 v90 v91 v92 v93 v94 v95 v96 v97 v98 v99 v100 v101 v102 v103 v104 v105 v106 v107 v108 v109 v110 v111 v112 v113 : Value) (w2 : World), (v113 = .bool false ∧ (fun w' => Blk w' B12 #[.int .i64 (hi x), .int .u64 (lo x)] 24 ∧ Blk w' B13 #[.int .i64 (hi t), .int .u64 (lo t)] 24 ∧ Blk w' B4 #[.int .i64 (hi a), .int .u64 (lo a)] 24 ∧ Blk w' B5 #[.int .i64 (hi b), .int .u64 (lo b)] 24 ∧ Blk w' B6 #[.int .i64 (hi c), .int .u64 (lo c)] 24 ∧ Blk w' B9 #[.int .i64 (hi s), .int .u64 (lo s)] 24 ∧ Below W.heap.size W w') w2) → K ⟨List.toArray (u0 :: u1 :: u2 :: u3 :: (.pointer (some ⟨B4, 0, none⟩)) :: (.pointer (some ⟨B5, 0, none⟩)) :: u6 :: u7 :: u8 :: u9 :: u10 :: u11 :: (.pointer (some ⟨B12, 0, none⟩)) :: (.pointer (some ⟨B13, 0, none⟩)) :: u14 :: u15 :: u16 :: u17 :: u18 :: u19 :: u20 :: u21 :: u22 :: u23 :: u24 :: u25 :: u26 :: u27 :: u28 :: u29 :: u30 :: u31 :: u32 :: u33 :: u34 :: u35 :: u36 :: u37 :: u38 :: u39 :: u40 :: u41 :: u42 :: u43 :: u44 :: u45 :: u46 :: u47 :: u48 :: u49 :: u50 :: u51 :: u52 :: u53 :: u54 :: u55 :: u56 :: u57 :: u58 :: u59 :: u60 :: u61 :: u62 :: u63 :: u64 :: u65 :: u66 :: u67 :: u68 :: u69 :: u70 :: u71 :: u72 :: u73 :: u74 :: u75 :: u76 :: u77 :: u78 :: u79 :: u80 :: u81 :: u82 :: u83 :: u84 :: v85 :: v86 :: v87 :: v88 :: v89 :: v90 :: v91 :: v92 :: v93 :: v94 :: v95 :: v96 :: v97 :: v98 :: v99 :: v100 :: v101 :: v102 :: v103 :: v104 :: v105 :: v106 :: v107 :: v108 :: v109 :: v110 :: v111 :: v112 :: v113 :: u114 :: u115 :: u116 :: u117 :: u118 :: u119 :: u120 :: u121 :: u122 :: u123 :: u124 :: u125 :: u126 :: u127 :: u128 :: u129 :: u130 :: u131 :: u132 :: u133 :: u134 :: u135 :: u136 :: u137 :: u138 :: u139 :: u140 :: u141 :: u142 :: u143 :: u144 :: u145 :: u146 :: u147 :: u148 :: u149 :: u150 :: u151 :: u152 :: u153 :: u154 :: u155 :: u156 :: u157 :: u158 :: u159 :: u160 :: u161 :: u162 :: u163 :: u164 :: []), []⟩ w2) :
    Code.wp Try.prog laws_r12at_code (Exit.then K Q') ⟨List.toArray (u0 :: u1 :: u2 :: u3 :: (.pointer (some ⟨B4, 0, none⟩)) :: (.pointer (some ⟨B5, 0, none⟩)) :: u6 :: u7 :: u8 :: u9 :: u10 :: u11 :: (.pointer (some ⟨B12, 0, none⟩)) :: (.pointer (some ⟨B13, 0, none⟩)) :: u14 :: u15 :: u16 :: u17 :: u18 :: u19 :: u20 :: u21 :: u22 :: u23 :: u24 :: u25 :: u26 :: u27 :: u28 :: u29 :: u30 :: u31 :: u32 :: u33 :: u34 :: u35 :: u36 :: u37 :: u38 :: u39 :: u40 :: u41 :: u42 :: u43 :: u44 :: u45 :: u46 :: u47 :: u48 :: u49 :: u50 :: u51 :: u52 :: u53 :: u54 :: u55 :: u56 :: u57 :: u58 :: u59 :: u60 :: u61 :: u62 :: u63 :: u64 :: u65 :: u66 :: u67 :: u68 :: u69 :: u70 :: u71 :: u72 :: u73 :: u74 :: u75 :: u76 :: u77 :: u78 :: u79 :: u80 :: u81 :: u82 :: u83 :: u84 :: u85 :: u86 :: u87 :: u88 :: u89 :: u90 :: u91 :: u92 :: u93 :: u94 :: u95 :: u96 :: u97 :: u98 :: u99 :: u100 :: u101 :: u102 :: u103 :: u104 :: u105 :: u106 :: u107 :: u108 :: u109 :: u110 :: u111 :: u112 :: u113 :: u114 :: u115 :: u116 :: u117 :: u118 :: u119 :: u120 :: u121 :: u122 :: u123 :: u124 :: u125 :: u126 :: u127 :: u128 :: u129 :: u130 :: u131 :: u132 :: u133 :: u134 :: u135 :: u136 :: u137 :: u138 :: u139 :: u140 :: u141 :: u142 :: u143 :: u144 :: u145 :: u146 :: u147 :: u148 :: u149 :: u150 :: u151 :: u152 :: u153 :: u154 :: u155 :: u156 :: u157 :: u158 :: u159 :: u160 :: u161 :: u162 :: u163 :: u164 :: []), []⟩ w1 := by
  conv => arg 2; whnf
  have hQ := Lib.hid hK; clear hK
  have qB12 := fun (w' : World) (h : Blk w' B12 #[.int .i64 (hi x), .int .u64 (lo x)] 24) => h.two
  have qB13 := fun (w' : World) (h : Blk w' B13 #[.int .i64 (hi t), .int .u64 (lo t)] 24) => h.two
  have qB4 := fun (w' : World) (h : Blk w' B4 #[.int .i64 (hi a), .int .u64 (lo a)] 24) => h.two
  have qB5 := fun (w' : World) (h : Blk w' B5 #[.int .i64 (hi b), .int .u64 (lo b)] 24) => h.two
  have qB6 := fun (w' : World) (h : Blk w' B6 #[.int .i64 (hi c), .int .u64 (lo c)] 24) => h.two
  have qB9 := fun (w' : World) (h : Blk w' B9 #[.int .i64 (hi s), .int .u64 (lo s)] 24) => h.two
  refine H.begin (fun w' => Blk w' B12 #[.int .i64 (hi x), .int .u64 (lo x)] 24 ∧ Blk w' B13 #[.int .i64 (hi t), .int .u64 (lo t)] 24 ∧ Blk w' B4 #[.int .i64 (hi a), .int .u64 (lo a)] 24 ∧ Blk w' B5 #[.int .i64 (hi b), .int .u64 (lo b)] 24 ∧ Blk w' B6 #[.int .i64 (hi c), .int .u64 (lo c)] 24 ∧ Blk w' B9 #[.int .i64 (hi s), .int .u64 (lo s)] 24 ∧ Below W.heap.size W w') (by kernel_rfl) ⟨hHeld.1.drew, hHeld.2.1.drew, hHeld.2.2.1.drew, hHeld.2.2.2.1.drew, hHeld.2.2.2.2.1.drew, hHeld.2.2.2.2.2.1.drew, hHeld.2.2.2.2.2.2.drew⟩ (fun w1 hHeld => ?_)
  refine H.take 0 (v := ?_) rfl (by kernel_rfl) (fun _ a _ h => hP _ _ a.tmps a.defers _ h) (by rfl) ?_ (by assumption) ?_
  rotate_left
  · (intro wz hSw; (try dsimp only at hSw); go_simp <;> with_reducible rfl)
  try simp only [Act.put, List.setIfInBounds_toArray, List.set_cons_zero, List.set_cons_succ]
  refine H.take 1 (v := ?_) rfl (by kernel_rfl) (fun _ a _ h => hP _ _ a.tmps a.defers _ h) (by rfl) ?_ (by assumption) ?_
  rotate_left
  · (intro wz hSw; (try dsimp only at hSw); go_simp <;> with_reducible rfl)
  try simp only [Act.put, List.setIfInBounds_toArray, List.set_cons_zero, List.set_cons_succ]
  refine H.ready [2] (by kernel_rfl) (by simp) ?_
  refine H.one rfl (by rfl) (fun K hK => ?_) AllReadyH.nil
  go_simp
  go_at_call 19
  refine (CAB.out _).mono ?_
  rintro e w1 ⟨rfl, hb⟩
  refine hK.out _ _ ?_ (fun hHeld2 => ?_)
  · exact ⟨Blk.keep hb hHeld.1, Blk.keep hb hHeld.2.1, Blk.keep hb hHeld.2.2.1, Blk.keep hb hHeld.2.2.2.1, Blk.keep hb hHeld.2.2.2.2.1, Blk.keep hb hHeld.2.2.2.2.2.1, hHeld.2.2.2.2.2.2.trans (hb.mono hHeld.2.2.2.2.2.2.size)⟩
  clear hHeld hK K; have hHeld := hHeld2; clear hHeld2
  try simp only [Act.put, List.setIfInBounds_toArray, List.set_cons_zero, List.set_cons_succ]
  refine H.take 3 (v := ?_) rfl (by kernel_rfl) (fun _ a _ h => hP _ _ a.tmps a.defers _ h) (by rfl) ?_ (by assumption) ?_
  rotate_left
  · (intro wz hSw; (try dsimp only at hSw); go_simp <;> with_reducible rfl)
  try simp only [Act.put, List.setIfInBounds_toArray, List.set_cons_zero, List.set_cons_succ]
  refine H.take 4 (v := ?_) rfl (by kernel_rfl) (fun _ a _ h => hP _ _ a.tmps a.defers _ h) (by rfl) ?_ (by assumption) ?_
  rotate_left
  · (intro wz hSw; (try dsimp only at hSw); go_simp <;> with_reducible rfl)
  try simp only [Act.put, List.setIfInBounds_toArray, List.set_cons_zero, List.set_cons_succ]
  refine H.take 5 (v := ?_) rfl (by kernel_rfl) (fun _ a _ h => hP _ _ a.tmps a.defers _ h) (by rfl) ?_ (by assumption) ?_
  rotate_left
  · (intro wz hSw; (try dsimp only at hSw); go_simp <;> with_reducible rfl)
  try simp only [Act.put, List.setIfInBounds_toArray, List.set_cons_zero, List.set_cons_succ]
  refine H.take 6 (v := ?_) rfl (by kernel_rfl) (fun _ a _ h => hP _ _ a.tmps a.defers _ h) (by rfl) ?_ (by assumption) ?_
  rotate_left
  · (intro wz hSw; (try dsimp only at hSw); go_simp <;> with_reducible rfl)
  try simp only [Act.put, List.setIfInBounds_toArray, List.set_cons_zero, List.set_cons_succ]
  refine H.ready [7] (by kernel_rfl) (by simp) ?_
  refine H.one rfl (by rfl) (fun K hK => ?_) AllReadyH.nil
  go_simp
  go_at_call 19
  refine (CXT.out _).mono ?_
  rintro e w1 ⟨rfl, hb⟩
  refine hK.out _ _ ?_ (fun hHeld2 => ?_)
  · exact ⟨Blk.keep hb hHeld.1, Blk.keep hb hHeld.2.1, Blk.keep hb hHeld.2.2.1, Blk.keep hb hHeld.2.2.2.1, Blk.keep hb hHeld.2.2.2.2.1, Blk.keep hb hHeld.2.2.2.2.2.1, hHeld.2.2.2.2.2.2.trans (hb.mono hHeld.2.2.2.2.2.2.size)⟩
  clear hHeld hK K; have hHeld := hHeld2; clear hHeld2
  try simp only [Act.put, List.setIfInBounds_toArray, List.set_cons_zero, List.set_cons_succ]
  refine H.take 8 (v := ?_) rfl (by kernel_rfl) (fun _ a _ h => hP _ _ a.tmps a.defers _ h) (by rfl) ?_ (by assumption) ?_
  rotate_left
  · (intro wz hSw; (try dsimp only at hSw); go_simp <;> with_reducible rfl)
  try simp only [Act.put, List.setIfInBounds_toArray, List.set_cons_zero, List.set_cons_succ]
  refine H.take 9 (v := ?_) rfl (by kernel_rfl) (fun _ a _ h => hP _ _ a.tmps a.defers _ h) (by rfl) ?_ (by assumption) ?_
  rotate_left
  · (intro wz hSw; (try dsimp only at hSw); go_simp <;> with_reducible rfl)
  try simp only [Act.put, List.setIfInBounds_toArray, List.set_cons_zero, List.set_cons_succ]
  refine H.take 10 (v := ?_) rfl (by kernel_rfl) (fun _ a _ h => hP _ _ a.tmps a.defers _ h) (by rfl) ?_ (by assumption) ?_
  rotate_left
  · (intro wz hSw; (try dsimp only at hSw); go_simp <;> with_reducible rfl)
  try simp only [Act.put, List.setIfInBounds_toArray, List.set_cons_zero, List.set_cons_succ]
  refine H.take 11 (v := ?_) rfl (by kernel_rfl) (fun _ a _ h => hP _ _ a.tmps a.defers _ h) (by rfl) ?_ (by assumption) ?_
  rotate_left
  · (intro wz hSw; (try dsimp only at hSw); go_simp <;> with_reducible rfl)
  try simp only [Act.put, List.setIfInBounds_toArray, List.set_cons_zero, List.set_cons_succ]
  refine H.ready [12] (by kernel_rfl) (by simp) ?_
  refine H.one rfl (by rfl) (fun K hK => ?_) AllReadyH.nil
  go_simp
  go_at_call 29
  refine (ends_n _ _).mono ?_
  rintro e w1 ⟨rfl, hb⟩
  refine hK.out _ _ ?_ (fun hHeld2 => ?_)
  · exact ⟨Blk.keep hb hHeld.1, Blk.keep hb hHeld.2.1, Blk.keep hb hHeld.2.2.1, Blk.keep hb hHeld.2.2.2.1, Blk.keep hb hHeld.2.2.2.2.1, Blk.keep hb hHeld.2.2.2.2.2.1, hHeld.2.2.2.2.2.2.trans (hb.mono hHeld.2.2.2.2.2.2.size)⟩
  clear hHeld hK K; have hHeld := hHeld2; clear hHeld2
  try simp only [Act.put, List.setIfInBounds_toArray, List.set_cons_zero, List.set_cons_succ]
  refine H.take 13 (v := ?_) rfl (by kernel_rfl) (fun _ a _ h => hP _ _ a.tmps a.defers _ h) (by rfl) ?_ (by assumption) ?_
  rotate_left
  · (intro wz hSw; (try dsimp only at hSw); go_simp <;> with_reducible rfl)
  try simp only [Act.put, List.setIfInBounds_toArray, List.set_cons_zero, List.set_cons_succ]
  refine H.take 14 (v := ?_) rfl (by kernel_rfl) (fun _ a _ h => hP _ _ a.tmps a.defers _ h) (by rfl) ?_ (by assumption) ?_
  rotate_left
  · (intro wz hSw; (try dsimp only at hSw); go_simp <;> with_reducible rfl)
  try simp only [Act.put, List.setIfInBounds_toArray, List.set_cons_zero, List.set_cons_succ]
  refine H.take 15 (v := ?_) rfl (by kernel_rfl) (fun _ a _ h => hP _ _ a.tmps a.defers _ h) (by rfl) ?_ (by assumption) ?_
  rotate_left
  · (intro wz hSw; (try dsimp only at hSw); go_simp <;> with_reducible rfl)
  try simp only [Act.put, List.setIfInBounds_toArray, List.set_cons_zero, List.set_cons_succ]
  refine H.ready [16] (by kernel_rfl) (by simp) ?_
  refine H.one rfl (by rfl) (fun K hK => ?_) AllReadyH.nil
  go_simp
  go_at_call 29
  refine (ends_n _ _).mono ?_
  rintro e w1 ⟨rfl, hb⟩
  refine hK.out _ _ ?_ (fun hHeld2 => ?_)
  · exact ⟨Blk.keep hb hHeld.1, Blk.keep hb hHeld.2.1, Blk.keep hb hHeld.2.2.1, Blk.keep hb hHeld.2.2.2.1, Blk.keep hb hHeld.2.2.2.2.1, Blk.keep hb hHeld.2.2.2.2.2.1, hHeld.2.2.2.2.2.2.trans (hb.mono hHeld.2.2.2.2.2.2.size)⟩
  clear hHeld hK K; have hHeld := hHeld2; clear hHeld2
  try simp only [Act.put, List.setIfInBounds_toArray, List.set_cons_zero, List.set_cons_succ]
  refine H.take 17 (v := ?_) rfl (by kernel_rfl) (fun _ a _ h => hP _ _ a.tmps a.defers _ h) (by rfl) ?_ (by assumption) ?_
  rotate_left
  · (intro wz hSw; (try dsimp only at hSw); go_simp <;> with_reducible rfl)
  try simp only [Act.put, List.setIfInBounds_toArray, List.set_cons_zero, List.set_cons_succ]
  refine H.take 18 (v := ?_) rfl (by kernel_rfl) (fun _ a _ h => hP _ _ a.tmps a.defers _ h) (by rfl) ?_ (by assumption) ?_
  rotate_left
  · (intro wz hSw; (try dsimp only at hSw); go_simp <;> with_reducible rfl)
  try simp only [Act.put, List.setIfInBounds_toArray, List.set_cons_zero, List.set_cons_succ]
  refine H.take 19 (v := ?_) rfl (by kernel_rfl) (fun _ a _ h => hP _ _ a.tmps a.defers _ h) (by rfl) ?_ (by assumption) ?_
  rotate_left
  · (intro wz hSw; (try dsimp only at hSw); go_simp <;> with_reducible rfl)
  try simp only [Act.put, List.setIfInBounds_toArray, List.set_cons_zero, List.set_cons_succ]
  refine H.skip 20 rfl (by kernel_rfl) (fun _ a _ h => hP _ _ a.tmps a.defers _ h) (by rfl) (by assumption) ?_
  try simp only [Act.put, List.setIfInBounds_toArray, List.set_cons_zero, List.set_cons_succ]
  refine H.skip 21 rfl (by kernel_rfl) (fun _ a _ h => hP _ _ a.tmps a.defers _ h) (by rfl) (by assumption) ?_
  try simp only [Act.put, List.setIfInBounds_toArray, List.set_cons_zero, List.set_cons_succ]
  refine H.skip 22 rfl (by kernel_rfl) (fun _ a _ h => hP _ _ a.tmps a.defers _ h) (by rfl) (by assumption) ?_
  try simp only [Act.put, List.setIfInBounds_toArray, List.set_cons_zero, List.set_cons_succ]
  refine H.skip 23 rfl (by kernel_rfl) (fun _ a _ h => hP _ _ a.tmps a.defers _ h) (by rfl) (by assumption) ?_
  try simp only [Act.put, List.setIfInBounds_toArray, List.set_cons_zero, List.set_cons_succ]
  refine H.skip 24 rfl (by kernel_rfl) (fun _ a _ h => hP _ _ a.tmps a.defers _ h) (by rfl) (by assumption) ?_
  try simp only [Act.put, List.setIfInBounds_toArray, List.set_cons_zero, List.set_cons_succ]
  refine H.skip 25 rfl (by kernel_rfl) (fun _ a _ h => hP _ _ a.tmps a.defers _ h) (by rfl) (by assumption) ?_
  try simp only [Act.put, List.setIfInBounds_toArray, List.set_cons_zero, List.set_cons_succ]
  refine H.skip 26 rfl (by kernel_rfl) (fun _ a _ h => hP _ _ a.tmps a.defers _ h) (by rfl) (by assumption) ?_
  try simp only [Act.put, List.setIfInBounds_toArray, List.set_cons_zero, List.set_cons_succ]
  refine H.take 27 (v := ?_) rfl (by kernel_rfl) (fun _ a _ h => hP _ _ a.tmps a.defers _ h) (by rfl) ?_ (by assumption) ?_
  rotate_left
  · (intro wz hSw; (try dsimp only at hSw); go_simp <;> with_reducible rfl)
  try simp only [Act.put, List.setIfInBounds_toArray, List.set_cons_zero, List.set_cons_succ]
  refine H.take 28 (v := ?_) rfl (by kernel_rfl) (fun _ a _ h => hP _ _ a.tmps a.defers _ h) (by rfl) ?_ (by assumption) ?_
  rotate_left
  · (intro wz hSw; (try dsimp only at hSw); go_simp <;> with_reducible rfl)
  try simp only [Act.put, List.setIfInBounds_toArray, List.set_cons_zero, List.set_cons_succ]
  refine H.done (by kernel_rfl) ?_ _
  show K _ _
  exact hQ.out _ _ _ _ _ _ _ _ _ _ _ _ _ _ _ _ _ _ _ _ _ _ _ _ _ _ _ _ _ _ ⟨rfl, hHeld⟩

noncomputable def laws_r12an_code : Code := ((Try.f6.body.bind (findRegion 12)).getD .skip)
set_option maxRecDepth 100000 in set_option maxHeartbeats 8000000 in
theorem laws_r12an {a b c s x t v : Int} {B12 B13 : Nat} {B4 B5 B6 B9 : Nat} {W : World} (CAB : Hid (∀ w : World, Calls Try.prog 19 #[.agg #[.int .i64 (hi a), .int .u64 (lo a)], .agg #[.int .i64 (hi b), .int .u64 (lo b)]] w fun e w' => e = .returned (.int .i64 v) ∧ Below w.heap.size w w')) (CXT : Hid (∀ w : World, Calls Try.prog 19 #[.agg #[.int .i64 (hi x), .int .u64 (lo x)], .agg #[.int .i64 (hi t), .int .u64 (lo t)]] w fun e w' => e = .returned (.int .i64 v) ∧ Below w.heap.size w w')) (hv : v < 0) (hu2 : decide (0 < v) = false) (hx : isEnd x = false) (ht : isEnd t = false) {u0 u1 u2 u3 u6 u7 u8 u9 u10 u11 u14 u15 u16 u17 u18 u19 u20 u21 u22 u23 u24 u25 u26 u27 u28 u29 u30 u31 u32 u33 u34 u35 u36 u37 u38 u39 u40 u41 u42 u43 u44 u45 u46 u47 u48 u49 u50 u51 u52 u53 u54 u55 u56 u57 u58 u59 u60 u61 u62 u63 u64 u65 u66 u67 u68 u69 u70 u71 u72 u73 u74 u75 u76 u77 u78 u79 u80 u81 u82 u83 u84 u85 u86 u87 u88 u89 u90 u91 u92 u93 u94 u95 u96 u97 u98 u99 u100 u101 u102 u103 u104 u105 u106 u107 u108 u109 u110 u111 u112 u113 u114 u115 u116 u117 u118 u119 u120 u121 u122 u123 u124 u125 u126 u127 u128 u129 u130 u131 u132 u133 u134 u135 u136 u137 u138 u139 u140 u141 u142 u143 u144 u145 u146 u147 u148 u149 u150 u151 u152 u153 u154 u155 u156 u157 u158 u159 u160 u161 u162 u163 u164 : Value} {K : Act → World → Prop} {Q' : Exit → Act → World → Prop} {w1 : World} (hHeld : (fun w' => Blk w' B12 #[.int .i64 (hi x), .int .u64 (lo x)] 24 ∧ Blk w' B13 #[.int .i64 (hi t), .int .u64 (lo t)] 24 ∧ Blk w' B4 #[.int .i64 (hi a), .int .u64 (lo a)] 24 ∧ Blk w' B5 #[.int .i64 (hi b), .int .u64 (lo b)] 24 ∧ Blk w' B6 #[.int .i64 (hi c), .int .u64 (lo c)] 24 ∧ Blk w' B9 #[.int .i64 (hi s), .int .u64 (lo s)] 24 ∧ Below W.heap.size W w') w1)
    (hP : ∀ c t t2 d w, Q' (.panic c) ⟨t, d⟩ w → Q' (.panic c) ⟨t2, d⟩ w)
    (hK : ∀ (v85 v86 v87 v88 v89 v90 v91 v92 v93 v94 v95 v96 v97 v98 v99 v100 v101 v102 v103 v104 v105 v106 v107 v108 v109 v110 v111 v112 v113 : Value) (w2 : World), (v113 = .bool false ∧ (fun w' => Blk w' B12 #[.int .i64 (hi x), .int .u64 (lo x)] 24 ∧ Blk w' B13 #[.int .i64 (hi t), .int .u64 (lo t)] 24 ∧ Blk w' B4 #[.int .i64 (hi a), .int .u64 (lo a)] 24 ∧ Blk w' B5 #[.int .i64 (hi b), .int .u64 (lo b)] 24 ∧ Blk w' B6 #[.int .i64 (hi c), .int .u64 (lo c)] 24 ∧ Blk w' B9 #[.int .i64 (hi s), .int .u64 (lo s)] 24 ∧ Below W.heap.size W w') w2) → K ⟨List.toArray (u0 :: u1 :: u2 :: u3 :: (.pointer (some ⟨B4, 0, none⟩)) :: (.pointer (some ⟨B5, 0, none⟩)) :: u6 :: u7 :: u8 :: u9 :: u10 :: u11 :: (.pointer (some ⟨B12, 0, none⟩)) :: (.pointer (some ⟨B13, 0, none⟩)) :: u14 :: u15 :: u16 :: u17 :: u18 :: u19 :: u20 :: u21 :: u22 :: u23 :: u24 :: u25 :: u26 :: u27 :: u28 :: u29 :: u30 :: u31 :: u32 :: u33 :: u34 :: u35 :: u36 :: u37 :: u38 :: u39 :: u40 :: u41 :: u42 :: u43 :: u44 :: u45 :: u46 :: u47 :: u48 :: u49 :: u50 :: u51 :: u52 :: u53 :: u54 :: u55 :: u56 :: u57 :: u58 :: u59 :: u60 :: u61 :: u62 :: u63 :: u64 :: u65 :: u66 :: u67 :: u68 :: u69 :: u70 :: u71 :: u72 :: u73 :: u74 :: u75 :: u76 :: u77 :: u78 :: u79 :: u80 :: u81 :: u82 :: u83 :: u84 :: v85 :: v86 :: v87 :: v88 :: v89 :: v90 :: v91 :: v92 :: v93 :: v94 :: v95 :: v96 :: v97 :: v98 :: v99 :: v100 :: v101 :: v102 :: v103 :: v104 :: v105 :: v106 :: v107 :: v108 :: v109 :: v110 :: v111 :: v112 :: v113 :: u114 :: u115 :: u116 :: u117 :: u118 :: u119 :: u120 :: u121 :: u122 :: u123 :: u124 :: u125 :: u126 :: u127 :: u128 :: u129 :: u130 :: u131 :: u132 :: u133 :: u134 :: u135 :: u136 :: u137 :: u138 :: u139 :: u140 :: u141 :: u142 :: u143 :: u144 :: u145 :: u146 :: u147 :: u148 :: u149 :: u150 :: u151 :: u152 :: u153 :: u154 :: u155 :: u156 :: u157 :: u158 :: u159 :: u160 :: u161 :: u162 :: u163 :: u164 :: []), []⟩ w2) :
    Code.wp Try.prog laws_r12an_code (Exit.then K Q') ⟨List.toArray (u0 :: u1 :: u2 :: u3 :: (.pointer (some ⟨B4, 0, none⟩)) :: (.pointer (some ⟨B5, 0, none⟩)) :: u6 :: u7 :: u8 :: u9 :: u10 :: u11 :: (.pointer (some ⟨B12, 0, none⟩)) :: (.pointer (some ⟨B13, 0, none⟩)) :: u14 :: u15 :: u16 :: u17 :: u18 :: u19 :: u20 :: u21 :: u22 :: u23 :: u24 :: u25 :: u26 :: u27 :: u28 :: u29 :: u30 :: u31 :: u32 :: u33 :: u34 :: u35 :: u36 :: u37 :: u38 :: u39 :: u40 :: u41 :: u42 :: u43 :: u44 :: u45 :: u46 :: u47 :: u48 :: u49 :: u50 :: u51 :: u52 :: u53 :: u54 :: u55 :: u56 :: u57 :: u58 :: u59 :: u60 :: u61 :: u62 :: u63 :: u64 :: u65 :: u66 :: u67 :: u68 :: u69 :: u70 :: u71 :: u72 :: u73 :: u74 :: u75 :: u76 :: u77 :: u78 :: u79 :: u80 :: u81 :: u82 :: u83 :: u84 :: u85 :: u86 :: u87 :: u88 :: u89 :: u90 :: u91 :: u92 :: u93 :: u94 :: u95 :: u96 :: u97 :: u98 :: u99 :: u100 :: u101 :: u102 :: u103 :: u104 :: u105 :: u106 :: u107 :: u108 :: u109 :: u110 :: u111 :: u112 :: u113 :: u114 :: u115 :: u116 :: u117 :: u118 :: u119 :: u120 :: u121 :: u122 :: u123 :: u124 :: u125 :: u126 :: u127 :: u128 :: u129 :: u130 :: u131 :: u132 :: u133 :: u134 :: u135 :: u136 :: u137 :: u138 :: u139 :: u140 :: u141 :: u142 :: u143 :: u144 :: u145 :: u146 :: u147 :: u148 :: u149 :: u150 :: u151 :: u152 :: u153 :: u154 :: u155 :: u156 :: u157 :: u158 :: u159 :: u160 :: u161 :: u162 :: u163 :: u164 :: []), []⟩ w1 := by
  conv => arg 2; whnf
  have hQ := Lib.hid hK; clear hK
  have qB12 := fun (w' : World) (h : Blk w' B12 #[.int .i64 (hi x), .int .u64 (lo x)] 24) => h.two
  have qB13 := fun (w' : World) (h : Blk w' B13 #[.int .i64 (hi t), .int .u64 (lo t)] 24) => h.two
  have qB4 := fun (w' : World) (h : Blk w' B4 #[.int .i64 (hi a), .int .u64 (lo a)] 24) => h.two
  have qB5 := fun (w' : World) (h : Blk w' B5 #[.int .i64 (hi b), .int .u64 (lo b)] 24) => h.two
  have qB6 := fun (w' : World) (h : Blk w' B6 #[.int .i64 (hi c), .int .u64 (lo c)] 24) => h.two
  have qB9 := fun (w' : World) (h : Blk w' B9 #[.int .i64 (hi s), .int .u64 (lo s)] 24) => h.two
  refine H.begin (fun w' => Blk w' B12 #[.int .i64 (hi x), .int .u64 (lo x)] 24 ∧ Blk w' B13 #[.int .i64 (hi t), .int .u64 (lo t)] 24 ∧ Blk w' B4 #[.int .i64 (hi a), .int .u64 (lo a)] 24 ∧ Blk w' B5 #[.int .i64 (hi b), .int .u64 (lo b)] 24 ∧ Blk w' B6 #[.int .i64 (hi c), .int .u64 (lo c)] 24 ∧ Blk w' B9 #[.int .i64 (hi s), .int .u64 (lo s)] 24 ∧ Below W.heap.size W w') (by kernel_rfl) ⟨hHeld.1.drew, hHeld.2.1.drew, hHeld.2.2.1.drew, hHeld.2.2.2.1.drew, hHeld.2.2.2.2.1.drew, hHeld.2.2.2.2.2.1.drew, hHeld.2.2.2.2.2.2.drew⟩ (fun w1 hHeld => ?_)
  refine H.take 0 (v := ?_) rfl (by kernel_rfl) (fun _ a _ h => hP _ _ a.tmps a.defers _ h) (by rfl) ?_ (by assumption) ?_
  rotate_left
  · (intro wz hSw; (try dsimp only at hSw); go_simp <;> with_reducible rfl)
  try simp only [Act.put, List.setIfInBounds_toArray, List.set_cons_zero, List.set_cons_succ]
  refine H.take 1 (v := ?_) rfl (by kernel_rfl) (fun _ a _ h => hP _ _ a.tmps a.defers _ h) (by rfl) ?_ (by assumption) ?_
  rotate_left
  · (intro wz hSw; (try dsimp only at hSw); go_simp <;> with_reducible rfl)
  try simp only [Act.put, List.setIfInBounds_toArray, List.set_cons_zero, List.set_cons_succ]
  refine H.ready [2] (by kernel_rfl) (by simp) ?_
  refine H.one rfl (by rfl) (fun K hK => ?_) AllReadyH.nil
  go_simp
  go_at_call 19
  refine (CAB.out _).mono ?_
  rintro e w1 ⟨rfl, hb⟩
  refine hK.out _ _ ?_ (fun hHeld2 => ?_)
  · exact ⟨Blk.keep hb hHeld.1, Blk.keep hb hHeld.2.1, Blk.keep hb hHeld.2.2.1, Blk.keep hb hHeld.2.2.2.1, Blk.keep hb hHeld.2.2.2.2.1, Blk.keep hb hHeld.2.2.2.2.2.1, hHeld.2.2.2.2.2.2.trans (hb.mono hHeld.2.2.2.2.2.2.size)⟩
  clear hHeld hK K; have hHeld := hHeld2; clear hHeld2
  try simp only [Act.put, List.setIfInBounds_toArray, List.set_cons_zero, List.set_cons_succ]
  refine H.take 3 (v := ?_) rfl (by kernel_rfl) (fun _ a _ h => hP _ _ a.tmps a.defers _ h) (by rfl) ?_ (by assumption) ?_
  rotate_left
  · (intro wz hSw; (try dsimp only at hSw); go_simp <;> with_reducible rfl)
  try simp only [Act.put, List.setIfInBounds_toArray, List.set_cons_zero, List.set_cons_succ]
  refine H.take 4 (v := ?_) rfl (by kernel_rfl) (fun _ a _ h => hP _ _ a.tmps a.defers _ h) (by rfl) ?_ (by assumption) ?_
  rotate_left
  · (intro wz hSw; (try dsimp only at hSw); go_simp <;> with_reducible rfl)
  try simp only [Act.put, List.setIfInBounds_toArray, List.set_cons_zero, List.set_cons_succ]
  refine H.take 5 (v := ?_) rfl (by kernel_rfl) (fun _ a _ h => hP _ _ a.tmps a.defers _ h) (by rfl) ?_ (by assumption) ?_
  rotate_left
  · (intro wz hSw; (try dsimp only at hSw); go_simp <;> with_reducible rfl)
  try simp only [Act.put, List.setIfInBounds_toArray, List.set_cons_zero, List.set_cons_succ]
  refine H.take 6 (v := ?_) rfl (by kernel_rfl) (fun _ a _ h => hP _ _ a.tmps a.defers _ h) (by rfl) ?_ (by assumption) ?_
  rotate_left
  · (intro wz hSw; (try dsimp only at hSw); go_simp <;> with_reducible rfl)
  try simp only [Act.put, List.setIfInBounds_toArray, List.set_cons_zero, List.set_cons_succ]
  refine H.ready [7] (by kernel_rfl) (by simp) ?_
  refine H.one rfl (by rfl) (fun K hK => ?_) AllReadyH.nil
  go_simp
  go_at_call 19
  refine (CXT.out _).mono ?_
  rintro e w1 ⟨rfl, hb⟩
  refine hK.out _ _ ?_ (fun hHeld2 => ?_)
  · exact ⟨Blk.keep hb hHeld.1, Blk.keep hb hHeld.2.1, Blk.keep hb hHeld.2.2.1, Blk.keep hb hHeld.2.2.2.1, Blk.keep hb hHeld.2.2.2.2.1, Blk.keep hb hHeld.2.2.2.2.2.1, hHeld.2.2.2.2.2.2.trans (hb.mono hHeld.2.2.2.2.2.2.size)⟩
  clear hHeld hK K; have hHeld := hHeld2; clear hHeld2
  try simp only [Act.put, List.setIfInBounds_toArray, List.set_cons_zero, List.set_cons_succ]
  refine H.take 8 (v := ?_) rfl (by kernel_rfl) (fun _ a _ h => hP _ _ a.tmps a.defers _ h) (by rfl) ?_ (by assumption) ?_
  rotate_left
  · (intro wz hSw; (try dsimp only at hSw); go_simp <;> with_reducible rfl)
  try simp only [Act.put, List.setIfInBounds_toArray, List.set_cons_zero, List.set_cons_succ]
  refine H.take 9 (v := ?_) rfl (by kernel_rfl) (fun _ a _ h => hP _ _ a.tmps a.defers _ h) (by rfl) ?_ (by assumption) ?_
  rotate_left
  · (intro wz hSw; (try dsimp only at hSw); go_simp <;> with_reducible rfl)
  try simp only [Act.put, List.setIfInBounds_toArray, List.set_cons_zero, List.set_cons_succ]
  refine H.take 10 (v := ?_) rfl (by kernel_rfl) (fun _ a _ h => hP _ _ a.tmps a.defers _ h) (by rfl) ?_ (by assumption) ?_
  rotate_left
  · (intro wz hSw; (try dsimp only at hSw); go_simp <;> with_reducible rfl)
  try simp only [Act.put, List.setIfInBounds_toArray, List.set_cons_zero, List.set_cons_succ]
  refine H.take 11 (v := ?_) rfl (by kernel_rfl) (fun _ a _ h => hP _ _ a.tmps a.defers _ h) (by rfl) ?_ (by assumption) ?_
  rotate_left
  · (intro wz hSw; (try dsimp only at hSw); go_simp <;> with_reducible rfl)
  try simp only [Act.put, List.setIfInBounds_toArray, List.set_cons_zero, List.set_cons_succ]
  refine H.ready [12] (by kernel_rfl) (by simp) ?_
  refine H.one rfl (by rfl) (fun K hK => ?_) AllReadyH.nil
  go_simp
  go_at_call 29
  refine (ends_n _ _).mono ?_
  rintro e w1 ⟨rfl, hb⟩
  refine hK.out _ _ ?_ (fun hHeld2 => ?_)
  · exact ⟨Blk.keep hb hHeld.1, Blk.keep hb hHeld.2.1, Blk.keep hb hHeld.2.2.1, Blk.keep hb hHeld.2.2.2.1, Blk.keep hb hHeld.2.2.2.2.1, Blk.keep hb hHeld.2.2.2.2.2.1, hHeld.2.2.2.2.2.2.trans (hb.mono hHeld.2.2.2.2.2.2.size)⟩
  clear hHeld hK K; have hHeld := hHeld2; clear hHeld2
  try simp only [Act.put, List.setIfInBounds_toArray, List.set_cons_zero, List.set_cons_succ]
  refine H.take 13 (v := ?_) rfl (by kernel_rfl) (fun _ a _ h => hP _ _ a.tmps a.defers _ h) (by rfl) ?_ (by assumption) ?_
  rotate_left
  · (intro wz hSw; (try dsimp only at hSw); go_simp <;> with_reducible rfl)
  try simp only [Act.put, List.setIfInBounds_toArray, List.set_cons_zero, List.set_cons_succ]
  refine H.take 14 (v := ?_) rfl (by kernel_rfl) (fun _ a _ h => hP _ _ a.tmps a.defers _ h) (by rfl) ?_ (by assumption) ?_
  rotate_left
  · (intro wz hSw; (try dsimp only at hSw); go_simp <;> with_reducible rfl)
  try simp only [Act.put, List.setIfInBounds_toArray, List.set_cons_zero, List.set_cons_succ]
  refine H.take 15 (v := ?_) rfl (by kernel_rfl) (fun _ a _ h => hP _ _ a.tmps a.defers _ h) (by rfl) ?_ (by assumption) ?_
  rotate_left
  · (intro wz hSw; (try dsimp only at hSw); go_simp <;> with_reducible rfl)
  try simp only [Act.put, List.setIfInBounds_toArray, List.set_cons_zero, List.set_cons_succ]
  refine H.ready [16] (by kernel_rfl) (by simp) ?_
  refine H.one rfl (by rfl) (fun K hK => ?_) AllReadyH.nil
  go_simp
  go_at_call 29
  refine (ends_n _ _).mono ?_
  rintro e w1 ⟨rfl, hb⟩
  refine hK.out _ _ ?_ (fun hHeld2 => ?_)
  · exact ⟨Blk.keep hb hHeld.1, Blk.keep hb hHeld.2.1, Blk.keep hb hHeld.2.2.1, Blk.keep hb hHeld.2.2.2.1, Blk.keep hb hHeld.2.2.2.2.1, Blk.keep hb hHeld.2.2.2.2.2.1, hHeld.2.2.2.2.2.2.trans (hb.mono hHeld.2.2.2.2.2.2.size)⟩
  clear hHeld hK K; have hHeld := hHeld2; clear hHeld2
  try simp only [Act.put, List.setIfInBounds_toArray, List.set_cons_zero, List.set_cons_succ]
  refine H.take 17 (v := ?_) rfl (by kernel_rfl) (fun _ a _ h => hP _ _ a.tmps a.defers _ h) (by rfl) ?_ (by assumption) ?_
  rotate_left
  · (intro wz hSw; (try dsimp only at hSw); go_simp <;> with_reducible rfl)
  try simp only [Act.put, List.setIfInBounds_toArray, List.set_cons_zero, List.set_cons_succ]
  refine H.take 18 (v := ?_) rfl (by kernel_rfl) (fun _ a _ h => hP _ _ a.tmps a.defers _ h) (by rfl) ?_ (by assumption) ?_
  rotate_left
  · (intro wz hSw; (try dsimp only at hSw); go_simp <;> with_reducible rfl)
  try simp only [Act.put, List.setIfInBounds_toArray, List.set_cons_zero, List.set_cons_succ]
  refine H.take 19 (v := ?_) rfl (by kernel_rfl) (fun _ a _ h => hP _ _ a.tmps a.defers _ h) (by rfl) ?_ (by assumption) ?_
  rotate_left
  · (intro wz hSw; (try dsimp only at hSw); go_simp <;> with_reducible rfl)
  try simp only [Act.put, List.setIfInBounds_toArray, List.set_cons_zero, List.set_cons_succ]
  refine H.take 20 (v := ?_) rfl (by kernel_rfl) (fun _ a _ h => hP _ _ a.tmps a.defers _ h) (by rfl) ?_ (by assumption) ?_
  rotate_left
  · (intro wz hSw; (try dsimp only at hSw); go_simp <;> with_reducible rfl)
  try simp only [Act.put, List.setIfInBounds_toArray, List.set_cons_zero, List.set_cons_succ]
  refine H.take 21 (v := ?_) rfl (by kernel_rfl) (fun _ a _ h => hP _ _ a.tmps a.defers _ h) (by rfl) ?_ (by assumption) ?_
  rotate_left
  · (intro wz hSw; (try dsimp only at hSw); go_simp <;> with_reducible rfl)
  try simp only [Act.put, List.setIfInBounds_toArray, List.set_cons_zero, List.set_cons_succ]
  refine H.take 23 (v := ?_) rfl (by kernel_rfl) (fun _ a _ h => hP _ _ a.tmps a.defers _ h) (by rfl) ?_ (by assumption) ?_
  rotate_left
  · (intro wz hSw; (try dsimp only at hSw); go_simp <;> with_reducible rfl)
  try simp only [Act.put, List.setIfInBounds_toArray, List.set_cons_zero, List.set_cons_succ]
  refine H.take 24 (v := ?_) rfl (by kernel_rfl) (fun _ a _ h => hP _ _ a.tmps a.defers _ h) (by rfl) ?_ (by assumption) ?_
  rotate_left
  · (intro wz hSw; (try dsimp only at hSw); go_simp <;> with_reducible rfl)
  try simp only [Act.put, List.setIfInBounds_toArray, List.set_cons_zero, List.set_cons_succ]
  refine H.ready [22] (by kernel_rfl) (by simp) ?_
  refine H.one rfl (by rfl) (fun K hK => ?_) AllReadyH.nil
  go_simp
  go_at_call 19
  refine (CAB.out _).mono ?_
  rintro e w1 ⟨rfl, hb⟩
  refine hK.out _ _ ?_ (fun hHeld2 => ?_)
  · exact ⟨Blk.keep hb hHeld.1, Blk.keep hb hHeld.2.1, Blk.keep hb hHeld.2.2.1, Blk.keep hb hHeld.2.2.2.1, Blk.keep hb hHeld.2.2.2.2.1, Blk.keep hb hHeld.2.2.2.2.2.1, hHeld.2.2.2.2.2.2.trans (hb.mono hHeld.2.2.2.2.2.2.size)⟩
  clear hHeld hK K; have hHeld := hHeld2; clear hHeld2
  try simp only [Act.put, List.setIfInBounds_toArray, List.set_cons_zero, List.set_cons_succ]
  refine H.ready [25] (by kernel_rfl) (by simp) ?_
  refine H.one rfl (by rfl) (fun K hK => ?_) AllReadyH.nil
  go_simp
  go_at_call 19
  refine (CXT.out _).mono ?_
  rintro e w1 ⟨rfl, hb⟩
  refine hK.out _ _ ?_ (fun hHeld2 => ?_)
  · exact ⟨Blk.keep hb hHeld.1, Blk.keep hb hHeld.2.1, Blk.keep hb hHeld.2.2.1, Blk.keep hb hHeld.2.2.2.1, Blk.keep hb hHeld.2.2.2.2.1, Blk.keep hb hHeld.2.2.2.2.2.1, hHeld.2.2.2.2.2.2.trans (hb.mono hHeld.2.2.2.2.2.2.size)⟩
  clear hHeld hK K; have hHeld := hHeld2; clear hHeld2
  try simp only [Act.put, List.setIfInBounds_toArray, List.set_cons_zero, List.set_cons_succ]
  refine H.take 26 (v := ?_) rfl (by kernel_rfl) (fun _ a _ h => hP _ _ a.tmps a.defers _ h) (by rfl) ?_ (by assumption) ?_
  rotate_left
  · (intro wz hSw; (try dsimp only at hSw); go_simp <;> with_reducible rfl)
  try simp only [Act.put, List.setIfInBounds_toArray, List.set_cons_zero, List.set_cons_succ]
  refine H.take 27 (v := ?_) rfl (by kernel_rfl) (fun _ a _ h => hP _ _ a.tmps a.defers _ h) (by rfl) ?_ (by assumption) ?_
  rotate_left
  · (intro wz hSw; (try dsimp only at hSw); go_simp <;> with_reducible rfl)
  try simp only [Act.put, List.setIfInBounds_toArray, List.set_cons_zero, List.set_cons_succ]
  refine H.take 28 (v := ?_) rfl (by kernel_rfl) (fun _ a _ h => hP _ _ a.tmps a.defers _ h) (by rfl) ?_ (by assumption) ?_
  rotate_left
  · (intro wz hSw; (try dsimp only at hSw); go_simp <;> with_reducible rfl)
  try simp only [Act.put, List.setIfInBounds_toArray, List.set_cons_zero, List.set_cons_succ]
  refine H.done (by kernel_rfl) ?_ _
  show K _ _
  exact hQ.out _ _ _ _ _ _ _ _ _ _ _ _ _ _ _ _ _ _ _ _ _ _ _ _ _ _ _ _ _ _ ⟨rfl, hHeld⟩

noncomputable def laws_r12bx_code : Code := ((Try.f6.body.bind (findRegion 12)).getD .skip)
set_option maxRecDepth 100000 in set_option maxHeartbeats 8000000 in
theorem laws_r12bx {a b c s x t v : Int} {B12 B13 : Nat} {B4 B5 B6 B9 : Nat} {W : World} (CAB : Hid (∀ w : World, Calls Try.prog 19 #[.agg #[.int .i64 (hi a), .int .u64 (lo a)], .agg #[.int .i64 (hi b), .int .u64 (lo b)]] w fun e w' => e = .returned (.int .i64 v) ∧ Below w.heap.size w w')) (hv2 : decide (v < 0) = false) (hx : isEnd x = true) {u0 u1 u2 u3 u6 u7 u8 u9 u10 u11 u14 u15 u16 u17 u18 u19 u20 u21 u22 u23 u24 u25 u26 u27 u28 u29 u30 u31 u32 u33 u34 u35 u36 u37 u38 u39 u40 u41 u42 u43 u44 u45 u46 u47 u48 u49 u50 u51 u52 u53 u54 u55 u56 u57 u58 u59 u60 u61 u62 u63 u64 u65 u66 u67 u68 u69 u70 u71 u72 u73 u74 u75 u76 u77 u78 u79 u80 u81 u82 u83 u84 u85 u86 u87 u88 u89 u90 u91 u92 u93 u94 u95 u96 u97 u98 u99 u100 u101 u102 u103 u104 u105 u106 u107 u108 u109 u110 u111 u112 u113 u114 u115 u116 u117 u118 u119 u120 u121 u122 u123 u124 u125 u126 u127 u128 u129 u130 u131 u132 u133 u134 u135 u136 u137 u138 u139 u140 u141 u142 u143 u144 u145 u146 u147 u148 u149 u150 u151 u152 u153 u154 u155 u156 u157 u158 u159 u160 u161 u162 u163 u164 : Value} {K : Act → World → Prop} {Q' : Exit → Act → World → Prop} {w1 : World} (hHeld : (fun w' => Blk w' B12 #[.int .i64 (hi x), .int .u64 (lo x)] 24 ∧ Blk w' B13 #[.int .i64 (hi t), .int .u64 (lo t)] 24 ∧ Blk w' B4 #[.int .i64 (hi a), .int .u64 (lo a)] 24 ∧ Blk w' B5 #[.int .i64 (hi b), .int .u64 (lo b)] 24 ∧ Blk w' B6 #[.int .i64 (hi c), .int .u64 (lo c)] 24 ∧ Blk w' B9 #[.int .i64 (hi s), .int .u64 (lo s)] 24 ∧ Below W.heap.size W w') w1)
    (hP : ∀ c t t2 d w, Q' (.panic c) ⟨t, d⟩ w → Q' (.panic c) ⟨t2, d⟩ w)
    (hK : ∀ (v85 v86 v87 v88 v89 v90 v91 v92 v93 v94 v95 v96 v97 v98 v99 v100 v101 v102 v103 v104 v105 v106 v107 v108 v109 v110 v111 v112 v113 : Value) (w2 : World), (v113 = .bool false ∧ (fun w' => Blk w' B12 #[.int .i64 (hi x), .int .u64 (lo x)] 24 ∧ Blk w' B13 #[.int .i64 (hi t), .int .u64 (lo t)] 24 ∧ Blk w' B4 #[.int .i64 (hi a), .int .u64 (lo a)] 24 ∧ Blk w' B5 #[.int .i64 (hi b), .int .u64 (lo b)] 24 ∧ Blk w' B6 #[.int .i64 (hi c), .int .u64 (lo c)] 24 ∧ Blk w' B9 #[.int .i64 (hi s), .int .u64 (lo s)] 24 ∧ Below W.heap.size W w') w2) → K ⟨List.toArray (u0 :: u1 :: u2 :: u3 :: (.pointer (some ⟨B4, 0, none⟩)) :: (.pointer (some ⟨B5, 0, none⟩)) :: u6 :: u7 :: u8 :: u9 :: u10 :: u11 :: (.pointer (some ⟨B12, 0, none⟩)) :: (.pointer (some ⟨B13, 0, none⟩)) :: u14 :: u15 :: u16 :: u17 :: u18 :: u19 :: u20 :: u21 :: u22 :: u23 :: u24 :: u25 :: u26 :: u27 :: u28 :: u29 :: u30 :: u31 :: u32 :: u33 :: u34 :: u35 :: u36 :: u37 :: u38 :: u39 :: u40 :: u41 :: u42 :: u43 :: u44 :: u45 :: u46 :: u47 :: u48 :: u49 :: u50 :: u51 :: u52 :: u53 :: u54 :: u55 :: u56 :: u57 :: u58 :: u59 :: u60 :: u61 :: u62 :: u63 :: u64 :: u65 :: u66 :: u67 :: u68 :: u69 :: u70 :: u71 :: u72 :: u73 :: u74 :: u75 :: u76 :: u77 :: u78 :: u79 :: u80 :: u81 :: u82 :: u83 :: u84 :: v85 :: v86 :: v87 :: v88 :: v89 :: v90 :: v91 :: v92 :: v93 :: v94 :: v95 :: v96 :: v97 :: v98 :: v99 :: v100 :: v101 :: v102 :: v103 :: v104 :: v105 :: v106 :: v107 :: v108 :: v109 :: v110 :: v111 :: v112 :: v113 :: u114 :: u115 :: u116 :: u117 :: u118 :: u119 :: u120 :: u121 :: u122 :: u123 :: u124 :: u125 :: u126 :: u127 :: u128 :: u129 :: u130 :: u131 :: u132 :: u133 :: u134 :: u135 :: u136 :: u137 :: u138 :: u139 :: u140 :: u141 :: u142 :: u143 :: u144 :: u145 :: u146 :: u147 :: u148 :: u149 :: u150 :: u151 :: u152 :: u153 :: u154 :: u155 :: u156 :: u157 :: u158 :: u159 :: u160 :: u161 :: u162 :: u163 :: u164 :: []), []⟩ w2) :
    Code.wp Try.prog laws_r12bx_code (Exit.then K Q') ⟨List.toArray (u0 :: u1 :: u2 :: u3 :: (.pointer (some ⟨B4, 0, none⟩)) :: (.pointer (some ⟨B5, 0, none⟩)) :: u6 :: u7 :: u8 :: u9 :: u10 :: u11 :: (.pointer (some ⟨B12, 0, none⟩)) :: (.pointer (some ⟨B13, 0, none⟩)) :: u14 :: u15 :: u16 :: u17 :: u18 :: u19 :: u20 :: u21 :: u22 :: u23 :: u24 :: u25 :: u26 :: u27 :: u28 :: u29 :: u30 :: u31 :: u32 :: u33 :: u34 :: u35 :: u36 :: u37 :: u38 :: u39 :: u40 :: u41 :: u42 :: u43 :: u44 :: u45 :: u46 :: u47 :: u48 :: u49 :: u50 :: u51 :: u52 :: u53 :: u54 :: u55 :: u56 :: u57 :: u58 :: u59 :: u60 :: u61 :: u62 :: u63 :: u64 :: u65 :: u66 :: u67 :: u68 :: u69 :: u70 :: u71 :: u72 :: u73 :: u74 :: u75 :: u76 :: u77 :: u78 :: u79 :: u80 :: u81 :: u82 :: u83 :: u84 :: u85 :: u86 :: u87 :: u88 :: u89 :: u90 :: u91 :: u92 :: u93 :: u94 :: u95 :: u96 :: u97 :: u98 :: u99 :: u100 :: u101 :: u102 :: u103 :: u104 :: u105 :: u106 :: u107 :: u108 :: u109 :: u110 :: u111 :: u112 :: u113 :: u114 :: u115 :: u116 :: u117 :: u118 :: u119 :: u120 :: u121 :: u122 :: u123 :: u124 :: u125 :: u126 :: u127 :: u128 :: u129 :: u130 :: u131 :: u132 :: u133 :: u134 :: u135 :: u136 :: u137 :: u138 :: u139 :: u140 :: u141 :: u142 :: u143 :: u144 :: u145 :: u146 :: u147 :: u148 :: u149 :: u150 :: u151 :: u152 :: u153 :: u154 :: u155 :: u156 :: u157 :: u158 :: u159 :: u160 :: u161 :: u162 :: u163 :: u164 :: []), []⟩ w1 := by
  conv => arg 2; whnf
  have hQ := Lib.hid hK; clear hK
  have qB12 := fun (w' : World) (h : Blk w' B12 #[.int .i64 (hi x), .int .u64 (lo x)] 24) => h.two
  have qB13 := fun (w' : World) (h : Blk w' B13 #[.int .i64 (hi t), .int .u64 (lo t)] 24) => h.two
  have qB4 := fun (w' : World) (h : Blk w' B4 #[.int .i64 (hi a), .int .u64 (lo a)] 24) => h.two
  have qB5 := fun (w' : World) (h : Blk w' B5 #[.int .i64 (hi b), .int .u64 (lo b)] 24) => h.two
  have qB6 := fun (w' : World) (h : Blk w' B6 #[.int .i64 (hi c), .int .u64 (lo c)] 24) => h.two
  have qB9 := fun (w' : World) (h : Blk w' B9 #[.int .i64 (hi s), .int .u64 (lo s)] 24) => h.two
  refine H.begin (fun w' => Blk w' B12 #[.int .i64 (hi x), .int .u64 (lo x)] 24 ∧ Blk w' B13 #[.int .i64 (hi t), .int .u64 (lo t)] 24 ∧ Blk w' B4 #[.int .i64 (hi a), .int .u64 (lo a)] 24 ∧ Blk w' B5 #[.int .i64 (hi b), .int .u64 (lo b)] 24 ∧ Blk w' B6 #[.int .i64 (hi c), .int .u64 (lo c)] 24 ∧ Blk w' B9 #[.int .i64 (hi s), .int .u64 (lo s)] 24 ∧ Below W.heap.size W w') (by kernel_rfl) ⟨hHeld.1.drew, hHeld.2.1.drew, hHeld.2.2.1.drew, hHeld.2.2.2.1.drew, hHeld.2.2.2.2.1.drew, hHeld.2.2.2.2.2.1.drew, hHeld.2.2.2.2.2.2.drew⟩ (fun w1 hHeld => ?_)
  refine H.take 0 (v := ?_) rfl (by kernel_rfl) (fun _ a _ h => hP _ _ a.tmps a.defers _ h) (by rfl) ?_ (by assumption) ?_
  rotate_left
  · (intro wz hSw; (try dsimp only at hSw); go_simp <;> with_reducible rfl)
  try simp only [Act.put, List.setIfInBounds_toArray, List.set_cons_zero, List.set_cons_succ]
  refine H.take 1 (v := ?_) rfl (by kernel_rfl) (fun _ a _ h => hP _ _ a.tmps a.defers _ h) (by rfl) ?_ (by assumption) ?_
  rotate_left
  · (intro wz hSw; (try dsimp only at hSw); go_simp <;> with_reducible rfl)
  try simp only [Act.put, List.setIfInBounds_toArray, List.set_cons_zero, List.set_cons_succ]
  refine H.ready [2] (by kernel_rfl) (by simp) ?_
  refine H.one rfl (by rfl) (fun K hK => ?_) AllReadyH.nil
  go_simp
  go_at_call 19
  refine (CAB.out _).mono ?_
  rintro e w1 ⟨rfl, hb⟩
  refine hK.out _ _ ?_ (fun hHeld2 => ?_)
  · exact ⟨Blk.keep hb hHeld.1, Blk.keep hb hHeld.2.1, Blk.keep hb hHeld.2.2.1, Blk.keep hb hHeld.2.2.2.1, Blk.keep hb hHeld.2.2.2.2.1, Blk.keep hb hHeld.2.2.2.2.2.1, hHeld.2.2.2.2.2.2.trans (hb.mono hHeld.2.2.2.2.2.2.size)⟩
  clear hHeld hK K; have hHeld := hHeld2; clear hHeld2
  try simp only [Act.put, List.setIfInBounds_toArray, List.set_cons_zero, List.set_cons_succ]
  refine H.take 3 (v := ?_) rfl (by kernel_rfl) (fun _ a _ h => hP _ _ a.tmps a.defers _ h) (by rfl) ?_ (by assumption) ?_
  rotate_left
  · (intro wz hSw; (try dsimp only at hSw); go_simp <;> with_reducible rfl)
  try simp only [Act.put, List.setIfInBounds_toArray, List.set_cons_zero, List.set_cons_succ]
  refine H.take 4 (v := ?_) rfl (by kernel_rfl) (fun _ a _ h => hP _ _ a.tmps a.defers _ h) (by rfl) ?_ (by assumption) ?_
  rotate_left
  · (intro wz hSw; (try dsimp only at hSw); go_simp <;> with_reducible rfl)
  try simp only [Act.put, List.setIfInBounds_toArray, List.set_cons_zero, List.set_cons_succ]
  refine H.skip 5 rfl (by kernel_rfl) (fun _ a _ h => hP _ _ a.tmps a.defers _ h) (by rfl) (by assumption) ?_
  try simp only [Act.put, List.setIfInBounds_toArray, List.set_cons_zero, List.set_cons_succ]
  refine H.skip 6 rfl (by kernel_rfl) (fun _ a _ h => hP _ _ a.tmps a.defers _ h) (by rfl) (by assumption) ?_
  try simp only [Act.put, List.setIfInBounds_toArray, List.set_cons_zero, List.set_cons_succ]
  refine H.skip 7 rfl (by kernel_rfl) (fun _ a _ h => hP _ _ a.tmps a.defers _ h) (by rfl) (by assumption) ?_
  try simp only [Act.put, List.setIfInBounds_toArray, List.set_cons_zero, List.set_cons_succ]
  refine H.skip 8 rfl (by kernel_rfl) (fun _ a _ h => hP _ _ a.tmps a.defers _ h) (by rfl) (by assumption) ?_
  try simp only [Act.put, List.setIfInBounds_toArray, List.set_cons_zero, List.set_cons_succ]
  refine H.take 9 (v := ?_) rfl (by kernel_rfl) (fun _ a _ h => hP _ _ a.tmps a.defers _ h) (by rfl) ?_ (by assumption) ?_
  rotate_left
  · (intro wz hSw; (try dsimp only at hSw); go_simp <;> with_reducible rfl)
  try simp only [Act.put, List.setIfInBounds_toArray, List.set_cons_zero, List.set_cons_succ]
  refine H.take 10 (v := ?_) rfl (by kernel_rfl) (fun _ a _ h => hP _ _ a.tmps a.defers _ h) (by rfl) ?_ (by assumption) ?_
  rotate_left
  · (intro wz hSw; (try dsimp only at hSw); go_simp <;> with_reducible rfl)
  try simp only [Act.put, List.setIfInBounds_toArray, List.set_cons_zero, List.set_cons_succ]
  refine H.take 11 (v := ?_) rfl (by kernel_rfl) (fun _ a _ h => hP _ _ a.tmps a.defers _ h) (by rfl) ?_ (by assumption) ?_
  rotate_left
  · (intro wz hSw; (try dsimp only at hSw); go_simp <;> with_reducible rfl)
  try simp only [Act.put, List.setIfInBounds_toArray, List.set_cons_zero, List.set_cons_succ]
  refine H.ready [12] (by kernel_rfl) (by simp) ?_
  refine H.one rfl (by rfl) (fun K hK => ?_) AllReadyH.nil
  go_simp
  go_at_call 29
  refine (ends_n _ _).mono ?_
  rintro e w1 ⟨rfl, hb⟩
  refine hK.out _ _ ?_ (fun hHeld2 => ?_)
  · exact ⟨Blk.keep hb hHeld.1, Blk.keep hb hHeld.2.1, Blk.keep hb hHeld.2.2.1, Blk.keep hb hHeld.2.2.2.1, Blk.keep hb hHeld.2.2.2.2.1, Blk.keep hb hHeld.2.2.2.2.2.1, hHeld.2.2.2.2.2.2.trans (hb.mono hHeld.2.2.2.2.2.2.size)⟩
  clear hHeld hK K; have hHeld := hHeld2; clear hHeld2
  try simp only [Act.put, List.setIfInBounds_toArray, List.set_cons_zero, List.set_cons_succ]
  refine H.take 13 (v := ?_) rfl (by kernel_rfl) (fun _ a _ h => hP _ _ a.tmps a.defers _ h) (by rfl) ?_ (by assumption) ?_
  rotate_left
  · (intro wz hSw; (try dsimp only at hSw); go_simp <;> with_reducible rfl)
  try simp only [Act.put, List.setIfInBounds_toArray, List.set_cons_zero, List.set_cons_succ]
  refine H.take 14 (v := ?_) rfl (by kernel_rfl) (fun _ a _ h => hP _ _ a.tmps a.defers _ h) (by rfl) ?_ (by assumption) ?_
  rotate_left
  · (intro wz hSw; (try dsimp only at hSw); go_simp <;> with_reducible rfl)
  try simp only [Act.put, List.setIfInBounds_toArray, List.set_cons_zero, List.set_cons_succ]
  refine H.skip 15 rfl (by kernel_rfl) (fun _ a _ h => hP _ _ a.tmps a.defers _ h) (by rfl) (by assumption) ?_
  try simp only [Act.put, List.setIfInBounds_toArray, List.set_cons_zero, List.set_cons_succ]
  refine H.skip 16 rfl (by kernel_rfl) (fun _ a _ h => hP _ _ a.tmps a.defers _ h) (by rfl) (by assumption) ?_
  try simp only [Act.put, List.setIfInBounds_toArray, List.set_cons_zero, List.set_cons_succ]
  refine H.skip 17 rfl (by kernel_rfl) (fun _ a _ h => hP _ _ a.tmps a.defers _ h) (by rfl) (by assumption) ?_
  try simp only [Act.put, List.setIfInBounds_toArray, List.set_cons_zero, List.set_cons_succ]
  refine H.take 18 (v := ?_) rfl (by kernel_rfl) (fun _ a _ h => hP _ _ a.tmps a.defers _ h) (by rfl) ?_ (by assumption) ?_
  rotate_left
  · (intro wz hSw; (try dsimp only at hSw); go_simp <;> with_reducible rfl)
  try simp only [Act.put, List.setIfInBounds_toArray, List.set_cons_zero, List.set_cons_succ]
  refine H.take 19 (v := ?_) rfl (by kernel_rfl) (fun _ a _ h => hP _ _ a.tmps a.defers _ h) (by rfl) ?_ (by assumption) ?_
  rotate_left
  · (intro wz hSw; (try dsimp only at hSw); go_simp <;> with_reducible rfl)
  try simp only [Act.put, List.setIfInBounds_toArray, List.set_cons_zero, List.set_cons_succ]
  refine H.skip 20 rfl (by kernel_rfl) (fun _ a _ h => hP _ _ a.tmps a.defers _ h) (by rfl) (by assumption) ?_
  try simp only [Act.put, List.setIfInBounds_toArray, List.set_cons_zero, List.set_cons_succ]
  refine H.skip 21 rfl (by kernel_rfl) (fun _ a _ h => hP _ _ a.tmps a.defers _ h) (by rfl) (by assumption) ?_
  try simp only [Act.put, List.setIfInBounds_toArray, List.set_cons_zero, List.set_cons_succ]
  refine H.skip 22 rfl (by kernel_rfl) (fun _ a _ h => hP _ _ a.tmps a.defers _ h) (by rfl) (by assumption) ?_
  try simp only [Act.put, List.setIfInBounds_toArray, List.set_cons_zero, List.set_cons_succ]
  refine H.skip 23 rfl (by kernel_rfl) (fun _ a _ h => hP _ _ a.tmps a.defers _ h) (by rfl) (by assumption) ?_
  try simp only [Act.put, List.setIfInBounds_toArray, List.set_cons_zero, List.set_cons_succ]
  refine H.skip 24 rfl (by kernel_rfl) (fun _ a _ h => hP _ _ a.tmps a.defers _ h) (by rfl) (by assumption) ?_
  try simp only [Act.put, List.setIfInBounds_toArray, List.set_cons_zero, List.set_cons_succ]
  refine H.skip 25 rfl (by kernel_rfl) (fun _ a _ h => hP _ _ a.tmps a.defers _ h) (by rfl) (by assumption) ?_
  try simp only [Act.put, List.setIfInBounds_toArray, List.set_cons_zero, List.set_cons_succ]
  refine H.skip 26 rfl (by kernel_rfl) (fun _ a _ h => hP _ _ a.tmps a.defers _ h) (by rfl) (by assumption) ?_
  try simp only [Act.put, List.setIfInBounds_toArray, List.set_cons_zero, List.set_cons_succ]
  refine H.take 27 (v := ?_) rfl (by kernel_rfl) (fun _ a _ h => hP _ _ a.tmps a.defers _ h) (by rfl) ?_ (by assumption) ?_
  rotate_left
  · (intro wz hSw; (try dsimp only at hSw); go_simp <;> with_reducible rfl)
  try simp only [Act.put, List.setIfInBounds_toArray, List.set_cons_zero, List.set_cons_succ]
  refine H.take 28 (v := ?_) rfl (by kernel_rfl) (fun _ a _ h => hP _ _ a.tmps a.defers _ h) (by rfl) ?_ (by assumption) ?_
  rotate_left
  · (intro wz hSw; (try dsimp only at hSw); go_simp <;> with_reducible rfl)
  try simp only [Act.put, List.setIfInBounds_toArray, List.set_cons_zero, List.set_cons_succ]
  refine H.done (by kernel_rfl) ?_ _
  show K _ _
  exact hQ.out _ _ _ _ _ _ _ _ _ _ _ _ _ _ _ _ _ _ _ _ _ _ _ _ _ _ _ _ _ _ ⟨rfl, hHeld⟩

noncomputable def laws_r12bt_code : Code := ((Try.f6.body.bind (findRegion 12)).getD .skip)
set_option maxRecDepth 100000 in set_option maxHeartbeats 8000000 in
theorem laws_r12bt {a b c s x t v : Int} {B12 B13 : Nat} {B4 B5 B6 B9 : Nat} {W : World} (CAB : Hid (∀ w : World, Calls Try.prog 19 #[.agg #[.int .i64 (hi a), .int .u64 (lo a)], .agg #[.int .i64 (hi b), .int .u64 (lo b)]] w fun e w' => e = .returned (.int .i64 v) ∧ Below w.heap.size w w')) (hv2 : decide (v < 0) = false) (hx : isEnd x = false) (ht : isEnd t = true) {u0 u1 u2 u3 u6 u7 u8 u9 u10 u11 u14 u15 u16 u17 u18 u19 u20 u21 u22 u23 u24 u25 u26 u27 u28 u29 u30 u31 u32 u33 u34 u35 u36 u37 u38 u39 u40 u41 u42 u43 u44 u45 u46 u47 u48 u49 u50 u51 u52 u53 u54 u55 u56 u57 u58 u59 u60 u61 u62 u63 u64 u65 u66 u67 u68 u69 u70 u71 u72 u73 u74 u75 u76 u77 u78 u79 u80 u81 u82 u83 u84 u85 u86 u87 u88 u89 u90 u91 u92 u93 u94 u95 u96 u97 u98 u99 u100 u101 u102 u103 u104 u105 u106 u107 u108 u109 u110 u111 u112 u113 u114 u115 u116 u117 u118 u119 u120 u121 u122 u123 u124 u125 u126 u127 u128 u129 u130 u131 u132 u133 u134 u135 u136 u137 u138 u139 u140 u141 u142 u143 u144 u145 u146 u147 u148 u149 u150 u151 u152 u153 u154 u155 u156 u157 u158 u159 u160 u161 u162 u163 u164 : Value} {K : Act → World → Prop} {Q' : Exit → Act → World → Prop} {w1 : World} (hHeld : (fun w' => Blk w' B12 #[.int .i64 (hi x), .int .u64 (lo x)] 24 ∧ Blk w' B13 #[.int .i64 (hi t), .int .u64 (lo t)] 24 ∧ Blk w' B4 #[.int .i64 (hi a), .int .u64 (lo a)] 24 ∧ Blk w' B5 #[.int .i64 (hi b), .int .u64 (lo b)] 24 ∧ Blk w' B6 #[.int .i64 (hi c), .int .u64 (lo c)] 24 ∧ Blk w' B9 #[.int .i64 (hi s), .int .u64 (lo s)] 24 ∧ Below W.heap.size W w') w1)
    (hP : ∀ c t t2 d w, Q' (.panic c) ⟨t, d⟩ w → Q' (.panic c) ⟨t2, d⟩ w)
    (hK : ∀ (v85 v86 v87 v88 v89 v90 v91 v92 v93 v94 v95 v96 v97 v98 v99 v100 v101 v102 v103 v104 v105 v106 v107 v108 v109 v110 v111 v112 v113 : Value) (w2 : World), (v113 = .bool false ∧ (fun w' => Blk w' B12 #[.int .i64 (hi x), .int .u64 (lo x)] 24 ∧ Blk w' B13 #[.int .i64 (hi t), .int .u64 (lo t)] 24 ∧ Blk w' B4 #[.int .i64 (hi a), .int .u64 (lo a)] 24 ∧ Blk w' B5 #[.int .i64 (hi b), .int .u64 (lo b)] 24 ∧ Blk w' B6 #[.int .i64 (hi c), .int .u64 (lo c)] 24 ∧ Blk w' B9 #[.int .i64 (hi s), .int .u64 (lo s)] 24 ∧ Below W.heap.size W w') w2) → K ⟨List.toArray (u0 :: u1 :: u2 :: u3 :: (.pointer (some ⟨B4, 0, none⟩)) :: (.pointer (some ⟨B5, 0, none⟩)) :: u6 :: u7 :: u8 :: u9 :: u10 :: u11 :: (.pointer (some ⟨B12, 0, none⟩)) :: (.pointer (some ⟨B13, 0, none⟩)) :: u14 :: u15 :: u16 :: u17 :: u18 :: u19 :: u20 :: u21 :: u22 :: u23 :: u24 :: u25 :: u26 :: u27 :: u28 :: u29 :: u30 :: u31 :: u32 :: u33 :: u34 :: u35 :: u36 :: u37 :: u38 :: u39 :: u40 :: u41 :: u42 :: u43 :: u44 :: u45 :: u46 :: u47 :: u48 :: u49 :: u50 :: u51 :: u52 :: u53 :: u54 :: u55 :: u56 :: u57 :: u58 :: u59 :: u60 :: u61 :: u62 :: u63 :: u64 :: u65 :: u66 :: u67 :: u68 :: u69 :: u70 :: u71 :: u72 :: u73 :: u74 :: u75 :: u76 :: u77 :: u78 :: u79 :: u80 :: u81 :: u82 :: u83 :: u84 :: v85 :: v86 :: v87 :: v88 :: v89 :: v90 :: v91 :: v92 :: v93 :: v94 :: v95 :: v96 :: v97 :: v98 :: v99 :: v100 :: v101 :: v102 :: v103 :: v104 :: v105 :: v106 :: v107 :: v108 :: v109 :: v110 :: v111 :: v112 :: v113 :: u114 :: u115 :: u116 :: u117 :: u118 :: u119 :: u120 :: u121 :: u122 :: u123 :: u124 :: u125 :: u126 :: u127 :: u128 :: u129 :: u130 :: u131 :: u132 :: u133 :: u134 :: u135 :: u136 :: u137 :: u138 :: u139 :: u140 :: u141 :: u142 :: u143 :: u144 :: u145 :: u146 :: u147 :: u148 :: u149 :: u150 :: u151 :: u152 :: u153 :: u154 :: u155 :: u156 :: u157 :: u158 :: u159 :: u160 :: u161 :: u162 :: u163 :: u164 :: []), []⟩ w2) :
    Code.wp Try.prog laws_r12bt_code (Exit.then K Q') ⟨List.toArray (u0 :: u1 :: u2 :: u3 :: (.pointer (some ⟨B4, 0, none⟩)) :: (.pointer (some ⟨B5, 0, none⟩)) :: u6 :: u7 :: u8 :: u9 :: u10 :: u11 :: (.pointer (some ⟨B12, 0, none⟩)) :: (.pointer (some ⟨B13, 0, none⟩)) :: u14 :: u15 :: u16 :: u17 :: u18 :: u19 :: u20 :: u21 :: u22 :: u23 :: u24 :: u25 :: u26 :: u27 :: u28 :: u29 :: u30 :: u31 :: u32 :: u33 :: u34 :: u35 :: u36 :: u37 :: u38 :: u39 :: u40 :: u41 :: u42 :: u43 :: u44 :: u45 :: u46 :: u47 :: u48 :: u49 :: u50 :: u51 :: u52 :: u53 :: u54 :: u55 :: u56 :: u57 :: u58 :: u59 :: u60 :: u61 :: u62 :: u63 :: u64 :: u65 :: u66 :: u67 :: u68 :: u69 :: u70 :: u71 :: u72 :: u73 :: u74 :: u75 :: u76 :: u77 :: u78 :: u79 :: u80 :: u81 :: u82 :: u83 :: u84 :: u85 :: u86 :: u87 :: u88 :: u89 :: u90 :: u91 :: u92 :: u93 :: u94 :: u95 :: u96 :: u97 :: u98 :: u99 :: u100 :: u101 :: u102 :: u103 :: u104 :: u105 :: u106 :: u107 :: u108 :: u109 :: u110 :: u111 :: u112 :: u113 :: u114 :: u115 :: u116 :: u117 :: u118 :: u119 :: u120 :: u121 :: u122 :: u123 :: u124 :: u125 :: u126 :: u127 :: u128 :: u129 :: u130 :: u131 :: u132 :: u133 :: u134 :: u135 :: u136 :: u137 :: u138 :: u139 :: u140 :: u141 :: u142 :: u143 :: u144 :: u145 :: u146 :: u147 :: u148 :: u149 :: u150 :: u151 :: u152 :: u153 :: u154 :: u155 :: u156 :: u157 :: u158 :: u159 :: u160 :: u161 :: u162 :: u163 :: u164 :: []), []⟩ w1 := by
  conv => arg 2; whnf
  have hQ := Lib.hid hK; clear hK
  have qB12 := fun (w' : World) (h : Blk w' B12 #[.int .i64 (hi x), .int .u64 (lo x)] 24) => h.two
  have qB13 := fun (w' : World) (h : Blk w' B13 #[.int .i64 (hi t), .int .u64 (lo t)] 24) => h.two
  have qB4 := fun (w' : World) (h : Blk w' B4 #[.int .i64 (hi a), .int .u64 (lo a)] 24) => h.two
  have qB5 := fun (w' : World) (h : Blk w' B5 #[.int .i64 (hi b), .int .u64 (lo b)] 24) => h.two
  have qB6 := fun (w' : World) (h : Blk w' B6 #[.int .i64 (hi c), .int .u64 (lo c)] 24) => h.two
  have qB9 := fun (w' : World) (h : Blk w' B9 #[.int .i64 (hi s), .int .u64 (lo s)] 24) => h.two
  refine H.begin (fun w' => Blk w' B12 #[.int .i64 (hi x), .int .u64 (lo x)] 24 ∧ Blk w' B13 #[.int .i64 (hi t), .int .u64 (lo t)] 24 ∧ Blk w' B4 #[.int .i64 (hi a), .int .u64 (lo a)] 24 ∧ Blk w' B5 #[.int .i64 (hi b), .int .u64 (lo b)] 24 ∧ Blk w' B6 #[.int .i64 (hi c), .int .u64 (lo c)] 24 ∧ Blk w' B9 #[.int .i64 (hi s), .int .u64 (lo s)] 24 ∧ Below W.heap.size W w') (by kernel_rfl) ⟨hHeld.1.drew, hHeld.2.1.drew, hHeld.2.2.1.drew, hHeld.2.2.2.1.drew, hHeld.2.2.2.2.1.drew, hHeld.2.2.2.2.2.1.drew, hHeld.2.2.2.2.2.2.drew⟩ (fun w1 hHeld => ?_)
  refine H.take 0 (v := ?_) rfl (by kernel_rfl) (fun _ a _ h => hP _ _ a.tmps a.defers _ h) (by rfl) ?_ (by assumption) ?_
  rotate_left
  · (intro wz hSw; (try dsimp only at hSw); go_simp <;> with_reducible rfl)
  try simp only [Act.put, List.setIfInBounds_toArray, List.set_cons_zero, List.set_cons_succ]
  refine H.take 1 (v := ?_) rfl (by kernel_rfl) (fun _ a _ h => hP _ _ a.tmps a.defers _ h) (by rfl) ?_ (by assumption) ?_
  rotate_left
  · (intro wz hSw; (try dsimp only at hSw); go_simp <;> with_reducible rfl)
  try simp only [Act.put, List.setIfInBounds_toArray, List.set_cons_zero, List.set_cons_succ]
  refine H.ready [2] (by kernel_rfl) (by simp) ?_
  refine H.one rfl (by rfl) (fun K hK => ?_) AllReadyH.nil
  go_simp
  go_at_call 19
  refine (CAB.out _).mono ?_
  rintro e w1 ⟨rfl, hb⟩
  refine hK.out _ _ ?_ (fun hHeld2 => ?_)
  · exact ⟨Blk.keep hb hHeld.1, Blk.keep hb hHeld.2.1, Blk.keep hb hHeld.2.2.1, Blk.keep hb hHeld.2.2.2.1, Blk.keep hb hHeld.2.2.2.2.1, Blk.keep hb hHeld.2.2.2.2.2.1, hHeld.2.2.2.2.2.2.trans (hb.mono hHeld.2.2.2.2.2.2.size)⟩
  clear hHeld hK K; have hHeld := hHeld2; clear hHeld2
  try simp only [Act.put, List.setIfInBounds_toArray, List.set_cons_zero, List.set_cons_succ]
  refine H.take 3 (v := ?_) rfl (by kernel_rfl) (fun _ a _ h => hP _ _ a.tmps a.defers _ h) (by rfl) ?_ (by assumption) ?_
  rotate_left
  · (intro wz hSw; (try dsimp only at hSw); go_simp <;> with_reducible rfl)
  try simp only [Act.put, List.setIfInBounds_toArray, List.set_cons_zero, List.set_cons_succ]
  refine H.take 4 (v := ?_) rfl (by kernel_rfl) (fun _ a _ h => hP _ _ a.tmps a.defers _ h) (by rfl) ?_ (by assumption) ?_
  rotate_left
  · (intro wz hSw; (try dsimp only at hSw); go_simp <;> with_reducible rfl)
  try simp only [Act.put, List.setIfInBounds_toArray, List.set_cons_zero, List.set_cons_succ]
  refine H.skip 5 rfl (by kernel_rfl) (fun _ a _ h => hP _ _ a.tmps a.defers _ h) (by rfl) (by assumption) ?_
  try simp only [Act.put, List.setIfInBounds_toArray, List.set_cons_zero, List.set_cons_succ]
  refine H.skip 6 rfl (by kernel_rfl) (fun _ a _ h => hP _ _ a.tmps a.defers _ h) (by rfl) (by assumption) ?_
  try simp only [Act.put, List.setIfInBounds_toArray, List.set_cons_zero, List.set_cons_succ]
  refine H.skip 7 rfl (by kernel_rfl) (fun _ a _ h => hP _ _ a.tmps a.defers _ h) (by rfl) (by assumption) ?_
  try simp only [Act.put, List.setIfInBounds_toArray, List.set_cons_zero, List.set_cons_succ]
  refine H.skip 8 rfl (by kernel_rfl) (fun _ a _ h => hP _ _ a.tmps a.defers _ h) (by rfl) (by assumption) ?_
  try simp only [Act.put, List.setIfInBounds_toArray, List.set_cons_zero, List.set_cons_succ]
  refine H.take 9 (v := ?_) rfl (by kernel_rfl) (fun _ a _ h => hP _ _ a.tmps a.defers _ h) (by rfl) ?_ (by assumption) ?_
  rotate_left
  · (intro wz hSw; (try dsimp only at hSw); go_simp <;> with_reducible rfl)
  try simp only [Act.put, List.setIfInBounds_toArray, List.set_cons_zero, List.set_cons_succ]
  refine H.take 10 (v := ?_) rfl (by kernel_rfl) (fun _ a _ h => hP _ _ a.tmps a.defers _ h) (by rfl) ?_ (by assumption) ?_
  rotate_left
  · (intro wz hSw; (try dsimp only at hSw); go_simp <;> with_reducible rfl)
  try simp only [Act.put, List.setIfInBounds_toArray, List.set_cons_zero, List.set_cons_succ]
  refine H.take 11 (v := ?_) rfl (by kernel_rfl) (fun _ a _ h => hP _ _ a.tmps a.defers _ h) (by rfl) ?_ (by assumption) ?_
  rotate_left
  · (intro wz hSw; (try dsimp only at hSw); go_simp <;> with_reducible rfl)
  try simp only [Act.put, List.setIfInBounds_toArray, List.set_cons_zero, List.set_cons_succ]
  refine H.ready [12] (by kernel_rfl) (by simp) ?_
  refine H.one rfl (by rfl) (fun K hK => ?_) AllReadyH.nil
  go_simp
  go_at_call 29
  refine (ends_n _ _).mono ?_
  rintro e w1 ⟨rfl, hb⟩
  refine hK.out _ _ ?_ (fun hHeld2 => ?_)
  · exact ⟨Blk.keep hb hHeld.1, Blk.keep hb hHeld.2.1, Blk.keep hb hHeld.2.2.1, Blk.keep hb hHeld.2.2.2.1, Blk.keep hb hHeld.2.2.2.2.1, Blk.keep hb hHeld.2.2.2.2.2.1, hHeld.2.2.2.2.2.2.trans (hb.mono hHeld.2.2.2.2.2.2.size)⟩
  clear hHeld hK K; have hHeld := hHeld2; clear hHeld2
  try simp only [Act.put, List.setIfInBounds_toArray, List.set_cons_zero, List.set_cons_succ]
  refine H.take 13 (v := ?_) rfl (by kernel_rfl) (fun _ a _ h => hP _ _ a.tmps a.defers _ h) (by rfl) ?_ (by assumption) ?_
  rotate_left
  · (intro wz hSw; (try dsimp only at hSw); go_simp <;> with_reducible rfl)
  try simp only [Act.put, List.setIfInBounds_toArray, List.set_cons_zero, List.set_cons_succ]
  refine H.take 14 (v := ?_) rfl (by kernel_rfl) (fun _ a _ h => hP _ _ a.tmps a.defers _ h) (by rfl) ?_ (by assumption) ?_
  rotate_left
  · (intro wz hSw; (try dsimp only at hSw); go_simp <;> with_reducible rfl)
  try simp only [Act.put, List.setIfInBounds_toArray, List.set_cons_zero, List.set_cons_succ]
  refine H.take 15 (v := ?_) rfl (by kernel_rfl) (fun _ a _ h => hP _ _ a.tmps a.defers _ h) (by rfl) ?_ (by assumption) ?_
  rotate_left
  · (intro wz hSw; (try dsimp only at hSw); go_simp <;> with_reducible rfl)
  try simp only [Act.put, List.setIfInBounds_toArray, List.set_cons_zero, List.set_cons_succ]
  refine H.ready [16] (by kernel_rfl) (by simp) ?_
  refine H.one rfl (by rfl) (fun K hK => ?_) AllReadyH.nil
  go_simp
  go_at_call 29
  refine (ends_n _ _).mono ?_
  rintro e w1 ⟨rfl, hb⟩
  refine hK.out _ _ ?_ (fun hHeld2 => ?_)
  · exact ⟨Blk.keep hb hHeld.1, Blk.keep hb hHeld.2.1, Blk.keep hb hHeld.2.2.1, Blk.keep hb hHeld.2.2.2.1, Blk.keep hb hHeld.2.2.2.2.1, Blk.keep hb hHeld.2.2.2.2.2.1, hHeld.2.2.2.2.2.2.trans (hb.mono hHeld.2.2.2.2.2.2.size)⟩
  clear hHeld hK K; have hHeld := hHeld2; clear hHeld2
  try simp only [Act.put, List.setIfInBounds_toArray, List.set_cons_zero, List.set_cons_succ]
  refine H.take 17 (v := ?_) rfl (by kernel_rfl) (fun _ a _ h => hP _ _ a.tmps a.defers _ h) (by rfl) ?_ (by assumption) ?_
  rotate_left
  · (intro wz hSw; (try dsimp only at hSw); go_simp <;> with_reducible rfl)
  try simp only [Act.put, List.setIfInBounds_toArray, List.set_cons_zero, List.set_cons_succ]
  refine H.take 18 (v := ?_) rfl (by kernel_rfl) (fun _ a _ h => hP _ _ a.tmps a.defers _ h) (by rfl) ?_ (by assumption) ?_
  rotate_left
  · (intro wz hSw; (try dsimp only at hSw); go_simp <;> with_reducible rfl)
  try simp only [Act.put, List.setIfInBounds_toArray, List.set_cons_zero, List.set_cons_succ]
  refine H.take 19 (v := ?_) rfl (by kernel_rfl) (fun _ a _ h => hP _ _ a.tmps a.defers _ h) (by rfl) ?_ (by assumption) ?_
  rotate_left
  · (intro wz hSw; (try dsimp only at hSw); go_simp <;> with_reducible rfl)
  try simp only [Act.put, List.setIfInBounds_toArray, List.set_cons_zero, List.set_cons_succ]
  refine H.skip 20 rfl (by kernel_rfl) (fun _ a _ h => hP _ _ a.tmps a.defers _ h) (by rfl) (by assumption) ?_
  try simp only [Act.put, List.setIfInBounds_toArray, List.set_cons_zero, List.set_cons_succ]
  refine H.skip 21 rfl (by kernel_rfl) (fun _ a _ h => hP _ _ a.tmps a.defers _ h) (by rfl) (by assumption) ?_
  try simp only [Act.put, List.setIfInBounds_toArray, List.set_cons_zero, List.set_cons_succ]
  refine H.skip 22 rfl (by kernel_rfl) (fun _ a _ h => hP _ _ a.tmps a.defers _ h) (by rfl) (by assumption) ?_
  try simp only [Act.put, List.setIfInBounds_toArray, List.set_cons_zero, List.set_cons_succ]
  refine H.skip 23 rfl (by kernel_rfl) (fun _ a _ h => hP _ _ a.tmps a.defers _ h) (by rfl) (by assumption) ?_
  try simp only [Act.put, List.setIfInBounds_toArray, List.set_cons_zero, List.set_cons_succ]
  refine H.skip 24 rfl (by kernel_rfl) (fun _ a _ h => hP _ _ a.tmps a.defers _ h) (by rfl) (by assumption) ?_
  try simp only [Act.put, List.setIfInBounds_toArray, List.set_cons_zero, List.set_cons_succ]
  refine H.skip 25 rfl (by kernel_rfl) (fun _ a _ h => hP _ _ a.tmps a.defers _ h) (by rfl) (by assumption) ?_
  try simp only [Act.put, List.setIfInBounds_toArray, List.set_cons_zero, List.set_cons_succ]
  refine H.skip 26 rfl (by kernel_rfl) (fun _ a _ h => hP _ _ a.tmps a.defers _ h) (by rfl) (by assumption) ?_
  try simp only [Act.put, List.setIfInBounds_toArray, List.set_cons_zero, List.set_cons_succ]
  refine H.take 27 (v := ?_) rfl (by kernel_rfl) (fun _ a _ h => hP _ _ a.tmps a.defers _ h) (by rfl) ?_ (by assumption) ?_
  rotate_left
  · (intro wz hSw; (try dsimp only at hSw); go_simp <;> with_reducible rfl)
  try simp only [Act.put, List.setIfInBounds_toArray, List.set_cons_zero, List.set_cons_succ]
  refine H.take 28 (v := ?_) rfl (by kernel_rfl) (fun _ a _ h => hP _ _ a.tmps a.defers _ h) (by rfl) ?_ (by assumption) ?_
  rotate_left
  · (intro wz hSw; (try dsimp only at hSw); go_simp <;> with_reducible rfl)
  try simp only [Act.put, List.setIfInBounds_toArray, List.set_cons_zero, List.set_cons_succ]
  refine H.done (by kernel_rfl) ?_ _
  show K _ _
  exact hQ.out _ _ _ _ _ _ _ _ _ _ _ _ _ _ _ _ _ _ _ _ _ _ _ _ _ _ _ _ _ _ ⟨rfl, hHeld⟩

noncomputable def laws_r12bn_code : Code := ((Try.f6.body.bind (findRegion 12)).getD .skip)
set_option maxRecDepth 100000 in set_option maxHeartbeats 8000000 in
theorem laws_r12bn {a b c s x t v : Int} {B12 B13 : Nat} {B4 B5 B6 B9 : Nat} {W : World} (CAB : Hid (∀ w : World, Calls Try.prog 19 #[.agg #[.int .i64 (hi a), .int .u64 (lo a)], .agg #[.int .i64 (hi b), .int .u64 (lo b)]] w fun e w' => e = .returned (.int .i64 v) ∧ Below w.heap.size w w')) (CXT : Hid (∀ w : World, Calls Try.prog 19 #[.agg #[.int .i64 (hi x), .int .u64 (lo x)], .agg #[.int .i64 (hi t), .int .u64 (lo t)]] w fun e w' => e = .returned (.int .i64 v) ∧ Below w.heap.size w w')) (hv2 : decide (v < 0) = false) (hx : isEnd x = false) (ht : isEnd t = false) {u0 u1 u2 u3 u6 u7 u8 u9 u10 u11 u14 u15 u16 u17 u18 u19 u20 u21 u22 u23 u24 u25 u26 u27 u28 u29 u30 u31 u32 u33 u34 u35 u36 u37 u38 u39 u40 u41 u42 u43 u44 u45 u46 u47 u48 u49 u50 u51 u52 u53 u54 u55 u56 u57 u58 u59 u60 u61 u62 u63 u64 u65 u66 u67 u68 u69 u70 u71 u72 u73 u74 u75 u76 u77 u78 u79 u80 u81 u82 u83 u84 u85 u86 u87 u88 u89 u90 u91 u92 u93 u94 u95 u96 u97 u98 u99 u100 u101 u102 u103 u104 u105 u106 u107 u108 u109 u110 u111 u112 u113 u114 u115 u116 u117 u118 u119 u120 u121 u122 u123 u124 u125 u126 u127 u128 u129 u130 u131 u132 u133 u134 u135 u136 u137 u138 u139 u140 u141 u142 u143 u144 u145 u146 u147 u148 u149 u150 u151 u152 u153 u154 u155 u156 u157 u158 u159 u160 u161 u162 u163 u164 : Value} {K : Act → World → Prop} {Q' : Exit → Act → World → Prop} {w1 : World} (hHeld : (fun w' => Blk w' B12 #[.int .i64 (hi x), .int .u64 (lo x)] 24 ∧ Blk w' B13 #[.int .i64 (hi t), .int .u64 (lo t)] 24 ∧ Blk w' B4 #[.int .i64 (hi a), .int .u64 (lo a)] 24 ∧ Blk w' B5 #[.int .i64 (hi b), .int .u64 (lo b)] 24 ∧ Blk w' B6 #[.int .i64 (hi c), .int .u64 (lo c)] 24 ∧ Blk w' B9 #[.int .i64 (hi s), .int .u64 (lo s)] 24 ∧ Below W.heap.size W w') w1)
    (hP : ∀ c t t2 d w, Q' (.panic c) ⟨t, d⟩ w → Q' (.panic c) ⟨t2, d⟩ w)
    (hK : ∀ (v85 v86 v87 v88 v89 v90 v91 v92 v93 v94 v95 v96 v97 v98 v99 v100 v101 v102 v103 v104 v105 v106 v107 v108 v109 v110 v111 v112 v113 : Value) (w2 : World), (v113 = .bool false ∧ (fun w' => Blk w' B12 #[.int .i64 (hi x), .int .u64 (lo x)] 24 ∧ Blk w' B13 #[.int .i64 (hi t), .int .u64 (lo t)] 24 ∧ Blk w' B4 #[.int .i64 (hi a), .int .u64 (lo a)] 24 ∧ Blk w' B5 #[.int .i64 (hi b), .int .u64 (lo b)] 24 ∧ Blk w' B6 #[.int .i64 (hi c), .int .u64 (lo c)] 24 ∧ Blk w' B9 #[.int .i64 (hi s), .int .u64 (lo s)] 24 ∧ Below W.heap.size W w') w2) → K ⟨List.toArray (u0 :: u1 :: u2 :: u3 :: (.pointer (some ⟨B4, 0, none⟩)) :: (.pointer (some ⟨B5, 0, none⟩)) :: u6 :: u7 :: u8 :: u9 :: u10 :: u11 :: (.pointer (some ⟨B12, 0, none⟩)) :: (.pointer (some ⟨B13, 0, none⟩)) :: u14 :: u15 :: u16 :: u17 :: u18 :: u19 :: u20 :: u21 :: u22 :: u23 :: u24 :: u25 :: u26 :: u27 :: u28 :: u29 :: u30 :: u31 :: u32 :: u33 :: u34 :: u35 :: u36 :: u37 :: u38 :: u39 :: u40 :: u41 :: u42 :: u43 :: u44 :: u45 :: u46 :: u47 :: u48 :: u49 :: u50 :: u51 :: u52 :: u53 :: u54 :: u55 :: u56 :: u57 :: u58 :: u59 :: u60 :: u61 :: u62 :: u63 :: u64 :: u65 :: u66 :: u67 :: u68 :: u69 :: u70 :: u71 :: u72 :: u73 :: u74 :: u75 :: u76 :: u77 :: u78 :: u79 :: u80 :: u81 :: u82 :: u83 :: u84 :: v85 :: v86 :: v87 :: v88 :: v89 :: v90 :: v91 :: v92 :: v93 :: v94 :: v95 :: v96 :: v97 :: v98 :: v99 :: v100 :: v101 :: v102 :: v103 :: v104 :: v105 :: v106 :: v107 :: v108 :: v109 :: v110 :: v111 :: v112 :: v113 :: u114 :: u115 :: u116 :: u117 :: u118 :: u119 :: u120 :: u121 :: u122 :: u123 :: u124 :: u125 :: u126 :: u127 :: u128 :: u129 :: u130 :: u131 :: u132 :: u133 :: u134 :: u135 :: u136 :: u137 :: u138 :: u139 :: u140 :: u141 :: u142 :: u143 :: u144 :: u145 :: u146 :: u147 :: u148 :: u149 :: u150 :: u151 :: u152 :: u153 :: u154 :: u155 :: u156 :: u157 :: u158 :: u159 :: u160 :: u161 :: u162 :: u163 :: u164 :: []), []⟩ w2) :
    Code.wp Try.prog laws_r12bn_code (Exit.then K Q') ⟨List.toArray (u0 :: u1 :: u2 :: u3 :: (.pointer (some ⟨B4, 0, none⟩)) :: (.pointer (some ⟨B5, 0, none⟩)) :: u6 :: u7 :: u8 :: u9 :: u10 :: u11 :: (.pointer (some ⟨B12, 0, none⟩)) :: (.pointer (some ⟨B13, 0, none⟩)) :: u14 :: u15 :: u16 :: u17 :: u18 :: u19 :: u20 :: u21 :: u22 :: u23 :: u24 :: u25 :: u26 :: u27 :: u28 :: u29 :: u30 :: u31 :: u32 :: u33 :: u34 :: u35 :: u36 :: u37 :: u38 :: u39 :: u40 :: u41 :: u42 :: u43 :: u44 :: u45 :: u46 :: u47 :: u48 :: u49 :: u50 :: u51 :: u52 :: u53 :: u54 :: u55 :: u56 :: u57 :: u58 :: u59 :: u60 :: u61 :: u62 :: u63 :: u64 :: u65 :: u66 :: u67 :: u68 :: u69 :: u70 :: u71 :: u72 :: u73 :: u74 :: u75 :: u76 :: u77 :: u78 :: u79 :: u80 :: u81 :: u82 :: u83 :: u84 :: u85 :: u86 :: u87 :: u88 :: u89 :: u90 :: u91 :: u92 :: u93 :: u94 :: u95 :: u96 :: u97 :: u98 :: u99 :: u100 :: u101 :: u102 :: u103 :: u104 :: u105 :: u106 :: u107 :: u108 :: u109 :: u110 :: u111 :: u112 :: u113 :: u114 :: u115 :: u116 :: u117 :: u118 :: u119 :: u120 :: u121 :: u122 :: u123 :: u124 :: u125 :: u126 :: u127 :: u128 :: u129 :: u130 :: u131 :: u132 :: u133 :: u134 :: u135 :: u136 :: u137 :: u138 :: u139 :: u140 :: u141 :: u142 :: u143 :: u144 :: u145 :: u146 :: u147 :: u148 :: u149 :: u150 :: u151 :: u152 :: u153 :: u154 :: u155 :: u156 :: u157 :: u158 :: u159 :: u160 :: u161 :: u162 :: u163 :: u164 :: []), []⟩ w1 := by
  conv => arg 2; whnf
  have hQ := Lib.hid hK; clear hK
  have qB12 := fun (w' : World) (h : Blk w' B12 #[.int .i64 (hi x), .int .u64 (lo x)] 24) => h.two
  have qB13 := fun (w' : World) (h : Blk w' B13 #[.int .i64 (hi t), .int .u64 (lo t)] 24) => h.two
  have qB4 := fun (w' : World) (h : Blk w' B4 #[.int .i64 (hi a), .int .u64 (lo a)] 24) => h.two
  have qB5 := fun (w' : World) (h : Blk w' B5 #[.int .i64 (hi b), .int .u64 (lo b)] 24) => h.two
  have qB6 := fun (w' : World) (h : Blk w' B6 #[.int .i64 (hi c), .int .u64 (lo c)] 24) => h.two
  have qB9 := fun (w' : World) (h : Blk w' B9 #[.int .i64 (hi s), .int .u64 (lo s)] 24) => h.two
  refine H.begin (fun w' => Blk w' B12 #[.int .i64 (hi x), .int .u64 (lo x)] 24 ∧ Blk w' B13 #[.int .i64 (hi t), .int .u64 (lo t)] 24 ∧ Blk w' B4 #[.int .i64 (hi a), .int .u64 (lo a)] 24 ∧ Blk w' B5 #[.int .i64 (hi b), .int .u64 (lo b)] 24 ∧ Blk w' B6 #[.int .i64 (hi c), .int .u64 (lo c)] 24 ∧ Blk w' B9 #[.int .i64 (hi s), .int .u64 (lo s)] 24 ∧ Below W.heap.size W w') (by kernel_rfl) ⟨hHeld.1.drew, hHeld.2.1.drew, hHeld.2.2.1.drew, hHeld.2.2.2.1.drew, hHeld.2.2.2.2.1.drew, hHeld.2.2.2.2.2.1.drew, hHeld.2.2.2.2.2.2.drew⟩ (fun w1 hHeld => ?_)
  refine H.take 0 (v := ?_) rfl (by kernel_rfl) (fun _ a _ h => hP _ _ a.tmps a.defers _ h) (by rfl) ?_ (by assumption) ?_
  rotate_left
  · (intro wz hSw; (try dsimp only at hSw); go_simp <;> with_reducible rfl)
  try simp only [Act.put, List.setIfInBounds_toArray, List.set_cons_zero, List.set_cons_succ]
  refine H.take 1 (v := ?_) rfl (by kernel_rfl) (fun _ a _ h => hP _ _ a.tmps a.defers _ h) (by rfl) ?_ (by assumption) ?_
  rotate_left
  · (intro wz hSw; (try dsimp only at hSw); go_simp <;> with_reducible rfl)
  try simp only [Act.put, List.setIfInBounds_toArray, List.set_cons_zero, List.set_cons_succ]
  refine H.ready [2] (by kernel_rfl) (by simp) ?_
  refine H.one rfl (by rfl) (fun K hK => ?_) AllReadyH.nil
  go_simp
  go_at_call 19
  refine (CAB.out _).mono ?_
  rintro e w1 ⟨rfl, hb⟩
  refine hK.out _ _ ?_ (fun hHeld2 => ?_)
  · exact ⟨Blk.keep hb hHeld.1, Blk.keep hb hHeld.2.1, Blk.keep hb hHeld.2.2.1, Blk.keep hb hHeld.2.2.2.1, Blk.keep hb hHeld.2.2.2.2.1, Blk.keep hb hHeld.2.2.2.2.2.1, hHeld.2.2.2.2.2.2.trans (hb.mono hHeld.2.2.2.2.2.2.size)⟩
  clear hHeld hK K; have hHeld := hHeld2; clear hHeld2
  try simp only [Act.put, List.setIfInBounds_toArray, List.set_cons_zero, List.set_cons_succ]
  refine H.take 3 (v := ?_) rfl (by kernel_rfl) (fun _ a _ h => hP _ _ a.tmps a.defers _ h) (by rfl) ?_ (by assumption) ?_
  rotate_left
  · (intro wz hSw; (try dsimp only at hSw); go_simp <;> with_reducible rfl)
  try simp only [Act.put, List.setIfInBounds_toArray, List.set_cons_zero, List.set_cons_succ]
  refine H.take 4 (v := ?_) rfl (by kernel_rfl) (fun _ a _ h => hP _ _ a.tmps a.defers _ h) (by rfl) ?_ (by assumption) ?_
  rotate_left
  · (intro wz hSw; (try dsimp only at hSw); go_simp <;> with_reducible rfl)
  try simp only [Act.put, List.setIfInBounds_toArray, List.set_cons_zero, List.set_cons_succ]
  refine H.skip 5 rfl (by kernel_rfl) (fun _ a _ h => hP _ _ a.tmps a.defers _ h) (by rfl) (by assumption) ?_
  try simp only [Act.put, List.setIfInBounds_toArray, List.set_cons_zero, List.set_cons_succ]
  refine H.skip 6 rfl (by kernel_rfl) (fun _ a _ h => hP _ _ a.tmps a.defers _ h) (by rfl) (by assumption) ?_
  try simp only [Act.put, List.setIfInBounds_toArray, List.set_cons_zero, List.set_cons_succ]
  refine H.skip 7 rfl (by kernel_rfl) (fun _ a _ h => hP _ _ a.tmps a.defers _ h) (by rfl) (by assumption) ?_
  try simp only [Act.put, List.setIfInBounds_toArray, List.set_cons_zero, List.set_cons_succ]
  refine H.skip 8 rfl (by kernel_rfl) (fun _ a _ h => hP _ _ a.tmps a.defers _ h) (by rfl) (by assumption) ?_
  try simp only [Act.put, List.setIfInBounds_toArray, List.set_cons_zero, List.set_cons_succ]
  refine H.take 9 (v := ?_) rfl (by kernel_rfl) (fun _ a _ h => hP _ _ a.tmps a.defers _ h) (by rfl) ?_ (by assumption) ?_
  rotate_left
  · (intro wz hSw; (try dsimp only at hSw); go_simp <;> with_reducible rfl)
  try simp only [Act.put, List.setIfInBounds_toArray, List.set_cons_zero, List.set_cons_succ]
  refine H.take 10 (v := ?_) rfl (by kernel_rfl) (fun _ a _ h => hP _ _ a.tmps a.defers _ h) (by rfl) ?_ (by assumption) ?_
  rotate_left
  · (intro wz hSw; (try dsimp only at hSw); go_simp <;> with_reducible rfl)
  try simp only [Act.put, List.setIfInBounds_toArray, List.set_cons_zero, List.set_cons_succ]
  refine H.take 11 (v := ?_) rfl (by kernel_rfl) (fun _ a _ h => hP _ _ a.tmps a.defers _ h) (by rfl) ?_ (by assumption) ?_
  rotate_left
  · (intro wz hSw; (try dsimp only at hSw); go_simp <;> with_reducible rfl)
  try simp only [Act.put, List.setIfInBounds_toArray, List.set_cons_zero, List.set_cons_succ]
  refine H.ready [12] (by kernel_rfl) (by simp) ?_
  refine H.one rfl (by rfl) (fun K hK => ?_) AllReadyH.nil
  go_simp
  go_at_call 29
  refine (ends_n _ _).mono ?_
  rintro e w1 ⟨rfl, hb⟩
  refine hK.out _ _ ?_ (fun hHeld2 => ?_)
  · exact ⟨Blk.keep hb hHeld.1, Blk.keep hb hHeld.2.1, Blk.keep hb hHeld.2.2.1, Blk.keep hb hHeld.2.2.2.1, Blk.keep hb hHeld.2.2.2.2.1, Blk.keep hb hHeld.2.2.2.2.2.1, hHeld.2.2.2.2.2.2.trans (hb.mono hHeld.2.2.2.2.2.2.size)⟩
  clear hHeld hK K; have hHeld := hHeld2; clear hHeld2
  try simp only [Act.put, List.setIfInBounds_toArray, List.set_cons_zero, List.set_cons_succ]
  refine H.take 13 (v := ?_) rfl (by kernel_rfl) (fun _ a _ h => hP _ _ a.tmps a.defers _ h) (by rfl) ?_ (by assumption) ?_
  rotate_left
  · (intro wz hSw; (try dsimp only at hSw); go_simp <;> with_reducible rfl)
  try simp only [Act.put, List.setIfInBounds_toArray, List.set_cons_zero, List.set_cons_succ]
  refine H.take 14 (v := ?_) rfl (by kernel_rfl) (fun _ a _ h => hP _ _ a.tmps a.defers _ h) (by rfl) ?_ (by assumption) ?_
  rotate_left
  · (intro wz hSw; (try dsimp only at hSw); go_simp <;> with_reducible rfl)
  try simp only [Act.put, List.setIfInBounds_toArray, List.set_cons_zero, List.set_cons_succ]
  refine H.take 15 (v := ?_) rfl (by kernel_rfl) (fun _ a _ h => hP _ _ a.tmps a.defers _ h) (by rfl) ?_ (by assumption) ?_
  rotate_left
  · (intro wz hSw; (try dsimp only at hSw); go_simp <;> with_reducible rfl)
  try simp only [Act.put, List.setIfInBounds_toArray, List.set_cons_zero, List.set_cons_succ]
  refine H.ready [16] (by kernel_rfl) (by simp) ?_
  refine H.one rfl (by rfl) (fun K hK => ?_) AllReadyH.nil
  go_simp
  go_at_call 29
  refine (ends_n _ _).mono ?_
  rintro e w1 ⟨rfl, hb⟩
  refine hK.out _ _ ?_ (fun hHeld2 => ?_)
  · exact ⟨Blk.keep hb hHeld.1, Blk.keep hb hHeld.2.1, Blk.keep hb hHeld.2.2.1, Blk.keep hb hHeld.2.2.2.1, Blk.keep hb hHeld.2.2.2.2.1, Blk.keep hb hHeld.2.2.2.2.2.1, hHeld.2.2.2.2.2.2.trans (hb.mono hHeld.2.2.2.2.2.2.size)⟩
  clear hHeld hK K; have hHeld := hHeld2; clear hHeld2
  try simp only [Act.put, List.setIfInBounds_toArray, List.set_cons_zero, List.set_cons_succ]
  refine H.take 17 (v := ?_) rfl (by kernel_rfl) (fun _ a _ h => hP _ _ a.tmps a.defers _ h) (by rfl) ?_ (by assumption) ?_
  rotate_left
  · (intro wz hSw; (try dsimp only at hSw); go_simp <;> with_reducible rfl)
  try simp only [Act.put, List.setIfInBounds_toArray, List.set_cons_zero, List.set_cons_succ]
  refine H.take 18 (v := ?_) rfl (by kernel_rfl) (fun _ a _ h => hP _ _ a.tmps a.defers _ h) (by rfl) ?_ (by assumption) ?_
  rotate_left
  · (intro wz hSw; (try dsimp only at hSw); go_simp <;> with_reducible rfl)
  try simp only [Act.put, List.setIfInBounds_toArray, List.set_cons_zero, List.set_cons_succ]
  refine H.take 19 (v := ?_) rfl (by kernel_rfl) (fun _ a _ h => hP _ _ a.tmps a.defers _ h) (by rfl) ?_ (by assumption) ?_
  rotate_left
  · (intro wz hSw; (try dsimp only at hSw); go_simp <;> with_reducible rfl)
  try simp only [Act.put, List.setIfInBounds_toArray, List.set_cons_zero, List.set_cons_succ]
  refine H.take 20 (v := ?_) rfl (by kernel_rfl) (fun _ a _ h => hP _ _ a.tmps a.defers _ h) (by rfl) ?_ (by assumption) ?_
  rotate_left
  · (intro wz hSw; (try dsimp only at hSw); go_simp <;> with_reducible rfl)
  try simp only [Act.put, List.setIfInBounds_toArray, List.set_cons_zero, List.set_cons_succ]
  refine H.take 21 (v := ?_) rfl (by kernel_rfl) (fun _ a _ h => hP _ _ a.tmps a.defers _ h) (by rfl) ?_ (by assumption) ?_
  rotate_left
  · (intro wz hSw; (try dsimp only at hSw); go_simp <;> with_reducible rfl)
  try simp only [Act.put, List.setIfInBounds_toArray, List.set_cons_zero, List.set_cons_succ]
  refine H.take 23 (v := ?_) rfl (by kernel_rfl) (fun _ a _ h => hP _ _ a.tmps a.defers _ h) (by rfl) ?_ (by assumption) ?_
  rotate_left
  · (intro wz hSw; (try dsimp only at hSw); go_simp <;> with_reducible rfl)
  try simp only [Act.put, List.setIfInBounds_toArray, List.set_cons_zero, List.set_cons_succ]
  refine H.take 24 (v := ?_) rfl (by kernel_rfl) (fun _ a _ h => hP _ _ a.tmps a.defers _ h) (by rfl) ?_ (by assumption) ?_
  rotate_left
  · (intro wz hSw; (try dsimp only at hSw); go_simp <;> with_reducible rfl)
  try simp only [Act.put, List.setIfInBounds_toArray, List.set_cons_zero, List.set_cons_succ]
  refine H.ready [22] (by kernel_rfl) (by simp) ?_
  refine H.one rfl (by rfl) (fun K hK => ?_) AllReadyH.nil
  go_simp
  go_at_call 19
  refine (CAB.out _).mono ?_
  rintro e w1 ⟨rfl, hb⟩
  refine hK.out _ _ ?_ (fun hHeld2 => ?_)
  · exact ⟨Blk.keep hb hHeld.1, Blk.keep hb hHeld.2.1, Blk.keep hb hHeld.2.2.1, Blk.keep hb hHeld.2.2.2.1, Blk.keep hb hHeld.2.2.2.2.1, Blk.keep hb hHeld.2.2.2.2.2.1, hHeld.2.2.2.2.2.2.trans (hb.mono hHeld.2.2.2.2.2.2.size)⟩
  clear hHeld hK K; have hHeld := hHeld2; clear hHeld2
  try simp only [Act.put, List.setIfInBounds_toArray, List.set_cons_zero, List.set_cons_succ]
  refine H.ready [25] (by kernel_rfl) (by simp) ?_
  refine H.one rfl (by rfl) (fun K hK => ?_) AllReadyH.nil
  go_simp
  go_at_call 19
  refine (CXT.out _).mono ?_
  rintro e w1 ⟨rfl, hb⟩
  refine hK.out _ _ ?_ (fun hHeld2 => ?_)
  · exact ⟨Blk.keep hb hHeld.1, Blk.keep hb hHeld.2.1, Blk.keep hb hHeld.2.2.1, Blk.keep hb hHeld.2.2.2.1, Blk.keep hb hHeld.2.2.2.2.1, Blk.keep hb hHeld.2.2.2.2.2.1, hHeld.2.2.2.2.2.2.trans (hb.mono hHeld.2.2.2.2.2.2.size)⟩
  clear hHeld hK K; have hHeld := hHeld2; clear hHeld2
  try simp only [Act.put, List.setIfInBounds_toArray, List.set_cons_zero, List.set_cons_succ]
  refine H.take 26 (v := ?_) rfl (by kernel_rfl) (fun _ a _ h => hP _ _ a.tmps a.defers _ h) (by rfl) ?_ (by assumption) ?_
  rotate_left
  · (intro wz hSw; (try dsimp only at hSw); go_simp <;> with_reducible rfl)
  try simp only [Act.put, List.setIfInBounds_toArray, List.set_cons_zero, List.set_cons_succ]
  refine H.take 27 (v := ?_) rfl (by kernel_rfl) (fun _ a _ h => hP _ _ a.tmps a.defers _ h) (by rfl) ?_ (by assumption) ?_
  rotate_left
  · (intro wz hSw; (try dsimp only at hSw); go_simp <;> with_reducible rfl)
  try simp only [Act.put, List.setIfInBounds_toArray, List.set_cons_zero, List.set_cons_succ]
  refine H.take 28 (v := ?_) rfl (by kernel_rfl) (fun _ a _ h => hP _ _ a.tmps a.defers _ h) (by rfl) ?_ (by assumption) ?_
  rotate_left
  · (intro wz hSw; (try dsimp only at hSw); go_simp <;> with_reducible rfl)
  try simp only [Act.put, List.setIfInBounds_toArray, List.set_cons_zero, List.set_cons_succ]
  refine H.done (by kernel_rfl) ?_ _
  show K _ _
  exact hQ.out _ _ _ _ _ _ _ _ _ _ _ _ _ _ _ _ _ _ _ _ _ _ _ _ _ _ _ _ _ _ ⟨rfl, hHeld⟩
end Go.Proofs.Ytkmegldbmjpdmaa
