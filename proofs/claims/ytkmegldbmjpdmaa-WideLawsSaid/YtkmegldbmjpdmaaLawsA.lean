
/-
  WideLaws: the region that makes 'x' and 'y'.
-/
import Derived.Test.YtkmegldbmjpdmaaWCmp
import Derived.Test.YtkmegldbmjpdmaaKit2
namespace Go.Proofs.Ytkmegldbmjpdmaa
open Go.RowKit

noncomputable def laws_r11_code : Code := ((Try.f6.body.bind (findRegion 11)).getD .skip)
set_option maxRecDepth 100000 in set_option maxHeartbeats 4000000 in
theorem laws_r11 {a b c s x t : Int} {B4 B5 B6 B9 : Nat} {W : World} (AC : Hid (∀ w : World, Calls Try.prog 13 #[.agg #[.int .i64 (hi a), .int .u64 (lo a)], .agg #[.int .i64 (hi c), .int .u64 (lo c)]] w fun e w' => e = .returned (.agg #[.int .i64 (hi x), .int .u64 (lo x)]) ∧ Below w.heap.size w w')) (BC : Hid (∀ w : World, Calls Try.prog 13 #[.agg #[.int .i64 (hi b), .int .u64 (lo b)], .agg #[.int .i64 (hi c), .int .u64 (lo c)]] w fun e w' => e = .returned (.agg #[.int .i64 (hi t), .int .u64 (lo t)]) ∧ Below w.heap.size w w')) {u0 u1 u2 u3 u7 u8 u9 u10 u11 u12 u13 u14 u15 u16 u17 u18 u19 u20 u21 u22 u23 u24 u25 u26 u27 u28 u29 u30 u31 u32 u33 u34 u35 u36 u37 u38 u39 u40 u41 u42 u43 u44 u45 u46 u47 u48 u49 u50 u51 u52 u53 u54 u55 u56 u57 u58 u59 u60 u61 u62 u63 u64 u65 u66 u67 u68 u69 u70 u71 u72 u73 u74 u75 u76 u77 u78 u79 u80 u81 u82 u83 u84 u85 u86 u87 u88 u89 u90 u91 u92 u93 u94 u95 u96 u97 u98 u99 u100 u101 u102 u103 u104 u105 u106 u107 u108 u109 u110 u111 u112 u113 u114 u115 u116 u117 u118 u119 u120 u121 u122 u123 u124 u125 u126 u127 u128 u129 u130 u131 u132 u133 u134 u135 u136 u137 u138 u139 u140 u141 u142 u143 u144 u145 u146 u147 u148 u149 u150 u151 u152 u153 u154 u155 u156 u157 u158 u159 u160 u161 u162 u163 u164 : Value} {K : Act → World → Prop} {Q' : Exit → Act → World → Prop} {w1 : World} (hHeld : (fun w' => Blk w' B4 #[.int .i64 (hi a), .int .u64 (lo a)] 24 ∧ Blk w' B5 #[.int .i64 (hi b), .int .u64 (lo b)] 24 ∧ Blk w' B6 #[.int .i64 (hi c), .int .u64 (lo c)] 24 ∧ Blk w' B9 #[.int .i64 (hi s), .int .u64 (lo s)] 24 ∧ Below W.heap.size W w') w1)
    (hP : ∀ c t t2 d w, Q' (.panic c) ⟨t, d⟩ w → Q' (.panic c) ⟨t2, d⟩ w)
    (hK : ∀ (v12 v13 v79 v80 v81 v82 v83 v84 : Value) (w2 : World), (TwoNew (fun w' => Blk w' B4 #[.int .i64 (hi a), .int .u64 (lo a)] 24 ∧ Blk w' B5 #[.int .i64 (hi b), .int .u64 (lo b)] 24 ∧ Blk w' B6 #[.int .i64 (hi c), .int .u64 (lo c)] 24 ∧ Blk w' B9 #[.int .i64 (hi s), .int .u64 (lo s)] 24 ∧ Below W.heap.size W w') #[.int .i64 (hi x), .int .u64 (lo x)] #[.int .i64 (hi t), .int .u64 (lo t)] 24 v12 v13 w2) → K ⟨List.toArray (u0 :: u1 :: u2 :: u3 :: (.pointer (some ⟨B4, 0, none⟩)) :: (.pointer (some ⟨B5, 0, none⟩)) :: (.pointer (some ⟨B6, 0, none⟩)) :: u7 :: u8 :: u9 :: u10 :: u11 :: v12 :: v13 :: u14 :: u15 :: u16 :: u17 :: u18 :: u19 :: u20 :: u21 :: u22 :: u23 :: u24 :: u25 :: u26 :: u27 :: u28 :: u29 :: u30 :: u31 :: u32 :: u33 :: u34 :: u35 :: u36 :: u37 :: u38 :: u39 :: u40 :: u41 :: u42 :: u43 :: u44 :: u45 :: u46 :: u47 :: u48 :: u49 :: u50 :: u51 :: u52 :: u53 :: u54 :: u55 :: u56 :: u57 :: u58 :: u59 :: u60 :: u61 :: u62 :: u63 :: u64 :: u65 :: u66 :: u67 :: u68 :: u69 :: u70 :: u71 :: u72 :: u73 :: u74 :: u75 :: u76 :: u77 :: u78 :: v79 :: v80 :: v81 :: v82 :: v83 :: v84 :: u85 :: u86 :: u87 :: u88 :: u89 :: u90 :: u91 :: u92 :: u93 :: u94 :: u95 :: u96 :: u97 :: u98 :: u99 :: u100 :: u101 :: u102 :: u103 :: u104 :: u105 :: u106 :: u107 :: u108 :: u109 :: u110 :: u111 :: u112 :: u113 :: u114 :: u115 :: u116 :: u117 :: u118 :: u119 :: u120 :: u121 :: u122 :: u123 :: u124 :: u125 :: u126 :: u127 :: u128 :: u129 :: u130 :: u131 :: u132 :: u133 :: u134 :: u135 :: u136 :: u137 :: u138 :: u139 :: u140 :: u141 :: u142 :: u143 :: u144 :: u145 :: u146 :: u147 :: u148 :: u149 :: u150 :: u151 :: u152 :: u153 :: u154 :: u155 :: u156 :: u157 :: u158 :: u159 :: u160 :: u161 :: u162 :: u163 :: u164 :: []), []⟩ w2) :
    Code.wp Try.prog laws_r11_code (Exit.then K Q') ⟨List.toArray (u0 :: u1 :: u2 :: u3 :: (.pointer (some ⟨B4, 0, none⟩)) :: (.pointer (some ⟨B5, 0, none⟩)) :: (.pointer (some ⟨B6, 0, none⟩)) :: u7 :: u8 :: u9 :: u10 :: u11 :: u12 :: u13 :: u14 :: u15 :: u16 :: u17 :: u18 :: u19 :: u20 :: u21 :: u22 :: u23 :: u24 :: u25 :: u26 :: u27 :: u28 :: u29 :: u30 :: u31 :: u32 :: u33 :: u34 :: u35 :: u36 :: u37 :: u38 :: u39 :: u40 :: u41 :: u42 :: u43 :: u44 :: u45 :: u46 :: u47 :: u48 :: u49 :: u50 :: u51 :: u52 :: u53 :: u54 :: u55 :: u56 :: u57 :: u58 :: u59 :: u60 :: u61 :: u62 :: u63 :: u64 :: u65 :: u66 :: u67 :: u68 :: u69 :: u70 :: u71 :: u72 :: u73 :: u74 :: u75 :: u76 :: u77 :: u78 :: u79 :: u80 :: u81 :: u82 :: u83 :: u84 :: u85 :: u86 :: u87 :: u88 :: u89 :: u90 :: u91 :: u92 :: u93 :: u94 :: u95 :: u96 :: u97 :: u98 :: u99 :: u100 :: u101 :: u102 :: u103 :: u104 :: u105 :: u106 :: u107 :: u108 :: u109 :: u110 :: u111 :: u112 :: u113 :: u114 :: u115 :: u116 :: u117 :: u118 :: u119 :: u120 :: u121 :: u122 :: u123 :: u124 :: u125 :: u126 :: u127 :: u128 :: u129 :: u130 :: u131 :: u132 :: u133 :: u134 :: u135 :: u136 :: u137 :: u138 :: u139 :: u140 :: u141 :: u142 :: u143 :: u144 :: u145 :: u146 :: u147 :: u148 :: u149 :: u150 :: u151 :: u152 :: u153 :: u154 :: u155 :: u156 :: u157 :: u158 :: u159 :: u160 :: u161 :: u162 :: u163 :: u164 :: []), []⟩ w1 := by
  conv => arg 2; whnf
  have hQ := Lib.hid hK; clear hK
  have q4 := fun (w' : World) (h : Blk w' B4 #[.int .i64 (hi a), .int .u64 (lo a)] 24) => h.two
  have q5 := fun (w' : World) (h : Blk w' B5 #[.int .i64 (hi b), .int .u64 (lo b)] 24) => h.two
  have q6 := fun (w' : World) (h : Blk w' B6 #[.int .i64 (hi c), .int .u64 (lo c)] 24) => h.two
  refine H.begin (fun w' => Blk w' B4 #[.int .i64 (hi a), .int .u64 (lo a)] 24 ∧ Blk w' B5 #[.int .i64 (hi b), .int .u64 (lo b)] 24 ∧ Blk w' B6 #[.int .i64 (hi c), .int .u64 (lo c)] 24 ∧ Blk w' B9 #[.int .i64 (hi s), .int .u64 (lo s)] 24 ∧ Below W.heap.size W w') (by kernel_rfl) ⟨hHeld.1.drew, hHeld.2.1.drew, hHeld.2.2.1.drew, hHeld.2.2.2.1.drew, hHeld.2.2.2.2.drew⟩ (fun w1 hHeld => ?_)
  refine H.take 0 (v := ?_) rfl (by kernel_rfl) (fun _ a _ h => hP _ _ a.tmps a.defers _ h) (by rfl) ?_ (by assumption) ?_
  rotate_left
  · (intro wz hSw; (try dsimp only at hSw); go_simp <;> with_reducible rfl)
  try simp only [Act.put, List.setIfInBounds_toArray, List.set_cons_zero, List.set_cons_succ]
  refine H.take 1 (v := ?_) rfl (by kernel_rfl) (fun _ a _ h => hP _ _ a.tmps a.defers _ h) (by rfl) ?_ (by assumption) ?_
  rotate_left
  · (intro wz hSw; (try dsimp only at hSw); go_simp <;> with_reducible rfl)
  try simp only [Act.put, List.setIfInBounds_toArray, List.set_cons_zero, List.set_cons_succ]
  refine H.take 3 (v := ?_) rfl (by kernel_rfl) (fun _ a _ h => hP _ _ a.tmps a.defers _ h) (by rfl) ?_ (by assumption) ?_
  rotate_left
  · (intro wz hSw; (try dsimp only at hSw); go_simp <;> with_reducible rfl)
  try simp only [Act.put, List.setIfInBounds_toArray, List.set_cons_zero, List.set_cons_succ]
  refine H.take 4 (v := ?_) rfl (by kernel_rfl) (fun _ a _ h => hP _ _ a.tmps a.defers _ h) (by rfl) ?_ (by assumption) ?_
  rotate_left
  · (intro wz hSw; (try dsimp only at hSw); go_simp <;> with_reducible rfl)
  try simp only [Act.put, List.setIfInBounds_toArray, List.set_cons_zero, List.set_cons_succ]
  refine H.ready [2, 6, 7] (by kernel_rfl) (by simp) ?_
  refine H.one rfl (by rfl) (fun K hK => ?_) ?_
  · skip
    go_simp
    go_at_call 13
    refine (AC.out _).mono ?_
    rintro e w1 ⟨rfl, hb⟩
    refine hK.out _ _ ?_ (fun hHeld2 => ?_)
    · exact ⟨Blk.keep hb hHeld.1, Blk.keep hb hHeld.2.1, Blk.keep hb hHeld.2.2.1, Blk.keep hb hHeld.2.2.2.1, hHeld.2.2.2.2.trans (hb.mono hHeld.2.2.2.2.size)⟩
    clear hHeld hK K; have hHeld := hHeld2; clear hHeld2
    try simp only [Act.put, List.setIfInBounds_toArray, List.set_cons_zero, List.set_cons_succ]
    refine H.ready [5, 6, 7] (by kernel_rfl) (by simp) ?_
    refine H.one rfl (by rfl) (fun K hK => ?_) ?_
    · skip
      go_simp
      go_at_call 13
      refine (BC.out _).mono ?_
      rintro e w1 ⟨rfl, hb⟩
      refine hK.out _ _ ?_ (fun hHeld2 => ?_)
      · exact ⟨Blk.keep hb hHeld.1, Blk.keep hb hHeld.2.1, Blk.keep hb hHeld.2.2.1, Blk.keep hb hHeld.2.2.2.1, hHeld.2.2.2.2.trans (hb.mono hHeld.2.2.2.2.size)⟩
      clear hHeld hK K; have hHeld := hHeld2; clear hHeld2
      try simp only [Act.put, List.setIfInBounds_toArray, List.set_cons_zero, List.set_cons_succ]
      refine H.ready [6, 7] (by kernel_rfl) (by simp) ?_
      refine H.one rfl (by rfl) (fun K hK => ?_) ?_
      · skip
        have e12_0 := hHeld.1.lt
        have e12_1 := hHeld.2.1.lt
        have e12_2 := hHeld.2.2.1.lt
        have e12_3 := hHeld.2.2.2.1.lt
        have z12 := hHeld.2.2.2.2.size
        try simp only [World.size_alloc] at e12_0 e12_1 e12_2 e12_3 z12
        go_simp
        refine hK.out _ _ ?_ (fun hHeld2 => ?_)
        · exact ⟨hHeld.1.old _, hHeld.2.1.old _, hHeld.2.2.1.old _, hHeld.2.2.2.1.old _, hHeld.2.2.2.2.alloc hHeld.2.2.2.2.size _⟩
        clear hHeld hK K; have hHeld := hHeld2; clear hHeld2
        try simp only [Act.put, List.setIfInBounds_toArray, List.set_cons_zero, List.set_cons_succ]
        refine H.fresh (fun n12 => ?_)
        refine H.forget1 hHeld n12 (fun w1 hHeld n12 => ?_)
        refine H.ready [7] (by kernel_rfl) (by simp) ?_
        refine H.one rfl (by rfl) (fun K hK => ?_) AllReadyH.nil
        have e13_0 := hHeld.1.lt
        have e13_1 := hHeld.2.1.lt
        have e13_2 := hHeld.2.2.1.lt
        have e13_3 := hHeld.2.2.2.1.lt
        have z13 := hHeld.2.2.2.2.size
        have dn12_n13 := n12.lt
        try simp only [World.size_alloc] at e13_0 e13_1 e13_2 e13_3 z13 dn12_n13
        go_simp
        refine hK.out _ _ ?_ (fun hHeld2 => ?_)
        · exact ⟨hHeld.1.old _, hHeld.2.1.old _, hHeld.2.2.1.old _, hHeld.2.2.2.1.old _, hHeld.2.2.2.2.alloc hHeld.2.2.2.2.size _⟩
        clear hHeld hK K; have hHeld := hHeld2; clear hHeld2
        replace n12 := Blk.old n12 (.cells #[.int .i64 0, .int .u64 0] 24)
        try simp only [Act.put, List.setIfInBounds_toArray, List.set_cons_zero, List.set_cons_succ]
        refine H.fresh (fun n13 => ?_)
        refine H.forget2 hHeld n12 n13 (fun w1 hHeld n12 n13 => ?_)
        refine H.ready [8] (by kernel_rfl) (by simp) ?_
        refine H.one rfl (by rfl) (fun K hK => ?_) AllReadyH.nil
        have c12 := n12.two; have f12 := n12.free0
        go_simp
        refine hK.out _ _ ?_ (fun hHeld2 => ?_)
        · exact ⟨hHeld.1.else2 (Nat.ne_of_lt e12_0), hHeld.2.1.else2 (Nat.ne_of_lt e12_1), hHeld.2.2.1.else2 (Nat.ne_of_lt e12_2), hHeld.2.2.2.1.else2 (Nat.ne_of_lt e12_3), Below.put2 hHeld.2.2.2.2 z12⟩
        clear hHeld hK K c12 f12; have hHeld := hHeld2; clear hHeld2
        try simp only [Act.put, List.setIfInBounds_toArray, List.set_cons_zero, List.set_cons_succ]
        refine H.other2 n13 (Nat.ne_of_gt dn12_n13) (fun n13x => ?_)
        refine H.stored2 n12 (fun n12x => ?_)
        refine H.forget2 hHeld n12x n13x (fun w1 hHeld n12y n13y => ?_)
        clear n12 n12x; have n12 := n12y; clear n12y
        clear n13 n13x; have n13 := n13y; clear n13y
        refine H.ready [9] (by kernel_rfl) (by simp) ?_
        refine H.one rfl (by rfl) (fun K hK => ?_) AllReadyH.nil
        have c13 := n13.two; have f13 := n13.free0
        go_simp
        refine hK.out _ _ ?_ (fun hHeld2 => ?_)
        · exact ⟨hHeld.1.else2 (Nat.ne_of_lt e13_0), hHeld.2.1.else2 (Nat.ne_of_lt e13_1), hHeld.2.2.1.else2 (Nat.ne_of_lt e13_2), hHeld.2.2.2.1.else2 (Nat.ne_of_lt e13_3), Below.put2 hHeld.2.2.2.2 z13⟩
        clear hHeld hK K c13 f13; have hHeld := hHeld2; clear hHeld2
        try simp only [Act.put, List.setIfInBounds_toArray, List.set_cons_zero, List.set_cons_succ]
        refine H.other2 n12 (Nat.ne_of_lt dn12_n13) (fun n12x => ?_)
        refine H.stored2 n13 (fun n13x => ?_)
        refine H.forget2 hHeld n12x n13x (fun w1 hHeld n12y n13y => ?_)
        clear n12 n12x; have n12 := n12y; clear n12y
        clear n13 n13x; have n13 := n13y; clear n13y
        refine H.done (by kernel_rfl) ?_ _
        show K _ _
        exact hQ.out _ _ _ _ _ _ _ _ _ ⟨_, _, rfl, rfl, n12, n13, hHeld⟩
      refine H.one rfl (by rfl) (fun K hK => ?_) ?_
      · skip
        have e13_0 := hHeld.1.lt
        have e13_1 := hHeld.2.1.lt
        have e13_2 := hHeld.2.2.1.lt
        have e13_3 := hHeld.2.2.2.1.lt
        have z13 := hHeld.2.2.2.2.size
        try simp only [World.size_alloc] at e13_0 e13_1 e13_2 e13_3 z13
        go_simp
        refine hK.out _ _ ?_ (fun hHeld2 => ?_)
        · exact ⟨hHeld.1.old _, hHeld.2.1.old _, hHeld.2.2.1.old _, hHeld.2.2.2.1.old _, hHeld.2.2.2.2.alloc hHeld.2.2.2.2.size _⟩
        clear hHeld hK K; have hHeld := hHeld2; clear hHeld2
        try simp only [Act.put, List.setIfInBounds_toArray, List.set_cons_zero, List.set_cons_succ]
        refine H.fresh (fun n13 => ?_)
        refine H.forget1 hHeld n13 (fun w1 hHeld n13 => ?_)
        refine H.ready [6] (by kernel_rfl) (by simp) ?_
        refine H.one rfl (by rfl) (fun K hK => ?_) AllReadyH.nil
        have e12_0 := hHeld.1.lt
        have e12_1 := hHeld.2.1.lt
        have e12_2 := hHeld.2.2.1.lt
        have e12_3 := hHeld.2.2.2.1.lt
        have z12 := hHeld.2.2.2.2.size
        have dn13_n12 := n13.lt
        try simp only [World.size_alloc] at e12_0 e12_1 e12_2 e12_3 z12 dn13_n12
        go_simp
        refine hK.out _ _ ?_ (fun hHeld2 => ?_)
        · exact ⟨hHeld.1.old _, hHeld.2.1.old _, hHeld.2.2.1.old _, hHeld.2.2.2.1.old _, hHeld.2.2.2.2.alloc hHeld.2.2.2.2.size _⟩
        clear hHeld hK K; have hHeld := hHeld2; clear hHeld2
        replace n13 := Blk.old n13 (.cells #[.int .i64 0, .int .u64 0] 24)
        try simp only [Act.put, List.setIfInBounds_toArray, List.set_cons_zero, List.set_cons_succ]
        refine H.fresh (fun n12 => ?_)
        refine H.forget2 hHeld n13 n12 (fun w1 hHeld n13 n12 => ?_)
        refine H.ready [8] (by kernel_rfl) (by simp) ?_
        refine H.one rfl (by rfl) (fun K hK => ?_) AllReadyH.nil
        have c12 := n12.two; have f12 := n12.free0
        go_simp
        refine hK.out _ _ ?_ (fun hHeld2 => ?_)
        · exact ⟨hHeld.1.else2 (Nat.ne_of_lt e12_0), hHeld.2.1.else2 (Nat.ne_of_lt e12_1), hHeld.2.2.1.else2 (Nat.ne_of_lt e12_2), hHeld.2.2.2.1.else2 (Nat.ne_of_lt e12_3), Below.put2 hHeld.2.2.2.2 z12⟩
        clear hHeld hK K c12 f12; have hHeld := hHeld2; clear hHeld2
        try simp only [Act.put, List.setIfInBounds_toArray, List.set_cons_zero, List.set_cons_succ]
        refine H.other2 n13 (Nat.ne_of_lt dn13_n12) (fun n13x => ?_)
        refine H.stored2 n12 (fun n12x => ?_)
        refine H.forget2 hHeld n13x n12x (fun w1 hHeld n13y n12y => ?_)
        clear n13 n13x; have n13 := n13y; clear n13y
        clear n12 n12x; have n12 := n12y; clear n12y
        refine H.ready [9] (by kernel_rfl) (by simp) ?_
        refine H.one rfl (by rfl) (fun K hK => ?_) AllReadyH.nil
        have c13 := n13.two; have f13 := n13.free0
        go_simp
        refine hK.out _ _ ?_ (fun hHeld2 => ?_)
        · exact ⟨hHeld.1.else2 (Nat.ne_of_lt e13_0), hHeld.2.1.else2 (Nat.ne_of_lt e13_1), hHeld.2.2.1.else2 (Nat.ne_of_lt e13_2), hHeld.2.2.2.1.else2 (Nat.ne_of_lt e13_3), Below.put2 hHeld.2.2.2.2 z13⟩
        clear hHeld hK K c13 f13; have hHeld := hHeld2; clear hHeld2
        try simp only [Act.put, List.setIfInBounds_toArray, List.set_cons_zero, List.set_cons_succ]
        refine H.other2 n12 (Nat.ne_of_gt dn13_n12) (fun n12x => ?_)
        refine H.stored2 n13 (fun n13x => ?_)
        refine H.forget2 hHeld n13x n12x (fun w1 hHeld n13y n12y => ?_)
        clear n13 n13x; have n13 := n13y; clear n13y
        clear n12 n12x; have n12 := n12y; clear n12y
        refine H.done (by kernel_rfl) ?_ _
        show K _ _
        exact hQ.out _ _ _ _ _ _ _ _ _ ⟨_, _, rfl, rfl, n12, n13, hHeld⟩
      exact AllReadyH.nil
    refine H.one rfl (by rfl) (fun K hK => ?_) ?_
    · skip
      have e12_0 := hHeld.1.lt
      have e12_1 := hHeld.2.1.lt
      have e12_2 := hHeld.2.2.1.lt
      have e12_3 := hHeld.2.2.2.1.lt
      have z12 := hHeld.2.2.2.2.size
      try simp only [World.size_alloc] at e12_0 e12_1 e12_2 e12_3 z12
      go_simp
      refine hK.out _ _ ?_ (fun hHeld2 => ?_)
      · exact ⟨hHeld.1.old _, hHeld.2.1.old _, hHeld.2.2.1.old _, hHeld.2.2.2.1.old _, hHeld.2.2.2.2.alloc hHeld.2.2.2.2.size _⟩
      clear hHeld hK K; have hHeld := hHeld2; clear hHeld2
      try simp only [Act.put, List.setIfInBounds_toArray, List.set_cons_zero, List.set_cons_succ]
      refine H.fresh (fun n12 => ?_)
      refine H.forget1 hHeld n12 (fun w1 hHeld n12 => ?_)
      refine H.ready [5, 7] (by kernel_rfl) (by simp) ?_
      refine H.one rfl (by rfl) (fun K hK => ?_) ?_
      · skip
        go_simp
        go_at_call 13
        refine (BC.out _).mono ?_
        rintro e w1 ⟨rfl, hb⟩
        refine hK.out _ _ ?_ (fun hHeld2 => ?_)
        · exact ⟨Blk.keep hb hHeld.1, Blk.keep hb hHeld.2.1, Blk.keep hb hHeld.2.2.1, Blk.keep hb hHeld.2.2.2.1, hHeld.2.2.2.2.trans (hb.mono hHeld.2.2.2.2.size)⟩
        clear hHeld hK K; have hHeld := hHeld2; clear hHeld2
        replace n12 := Blk.keep hb n12
        try simp only [Act.put, List.setIfInBounds_toArray, List.set_cons_zero, List.set_cons_succ]
        refine H.ready [7] (by kernel_rfl) (by simp) ?_
        refine H.one rfl (by rfl) (fun K hK => ?_) AllReadyH.nil
        have e13_0 := hHeld.1.lt
        have e13_1 := hHeld.2.1.lt
        have e13_2 := hHeld.2.2.1.lt
        have e13_3 := hHeld.2.2.2.1.lt
        have z13 := hHeld.2.2.2.2.size
        have dn12_n13 := n12.lt
        try simp only [World.size_alloc] at e13_0 e13_1 e13_2 e13_3 z13 dn12_n13
        go_simp
        refine hK.out _ _ ?_ (fun hHeld2 => ?_)
        · exact ⟨hHeld.1.old _, hHeld.2.1.old _, hHeld.2.2.1.old _, hHeld.2.2.2.1.old _, hHeld.2.2.2.2.alloc hHeld.2.2.2.2.size _⟩
        clear hHeld hK K; have hHeld := hHeld2; clear hHeld2
        replace n12 := Blk.old n12 (.cells #[.int .i64 0, .int .u64 0] 24)
        try simp only [Act.put, List.setIfInBounds_toArray, List.set_cons_zero, List.set_cons_succ]
        refine H.fresh (fun n13 => ?_)
        refine H.forget2 hHeld n12 n13 (fun w1 hHeld n12 n13 => ?_)
        refine H.ready [8] (by kernel_rfl) (by simp) ?_
        refine H.one rfl (by rfl) (fun K hK => ?_) AllReadyH.nil
        have c12 := n12.two; have f12 := n12.free0
        go_simp
        refine hK.out _ _ ?_ (fun hHeld2 => ?_)
        · exact ⟨hHeld.1.else2 (Nat.ne_of_lt e12_0), hHeld.2.1.else2 (Nat.ne_of_lt e12_1), hHeld.2.2.1.else2 (Nat.ne_of_lt e12_2), hHeld.2.2.2.1.else2 (Nat.ne_of_lt e12_3), Below.put2 hHeld.2.2.2.2 z12⟩
        clear hHeld hK K c12 f12; have hHeld := hHeld2; clear hHeld2
        try simp only [Act.put, List.setIfInBounds_toArray, List.set_cons_zero, List.set_cons_succ]
        refine H.other2 n13 (Nat.ne_of_gt dn12_n13) (fun n13x => ?_)
        refine H.stored2 n12 (fun n12x => ?_)
        refine H.forget2 hHeld n12x n13x (fun w1 hHeld n12y n13y => ?_)
        clear n12 n12x; have n12 := n12y; clear n12y
        clear n13 n13x; have n13 := n13y; clear n13y
        refine H.ready [9] (by kernel_rfl) (by simp) ?_
        refine H.one rfl (by rfl) (fun K hK => ?_) AllReadyH.nil
        have c13 := n13.two; have f13 := n13.free0
        go_simp
        refine hK.out _ _ ?_ (fun hHeld2 => ?_)
        · exact ⟨hHeld.1.else2 (Nat.ne_of_lt e13_0), hHeld.2.1.else2 (Nat.ne_of_lt e13_1), hHeld.2.2.1.else2 (Nat.ne_of_lt e13_2), hHeld.2.2.2.1.else2 (Nat.ne_of_lt e13_3), Below.put2 hHeld.2.2.2.2 z13⟩
        clear hHeld hK K c13 f13; have hHeld := hHeld2; clear hHeld2
        try simp only [Act.put, List.setIfInBounds_toArray, List.set_cons_zero, List.set_cons_succ]
        refine H.other2 n12 (Nat.ne_of_lt dn12_n13) (fun n12x => ?_)
        refine H.stored2 n13 (fun n13x => ?_)
        refine H.forget2 hHeld n12x n13x (fun w1 hHeld n12y n13y => ?_)
        clear n12 n12x; have n12 := n12y; clear n12y
        clear n13 n13x; have n13 := n13y; clear n13y
        refine H.done (by kernel_rfl) ?_ _
        show K _ _
        exact hQ.out _ _ _ _ _ _ _ _ _ ⟨_, _, rfl, rfl, n12, n13, hHeld⟩
      refine H.one rfl (by rfl) (fun K hK => ?_) ?_
      · skip
        have e13_0 := hHeld.1.lt
        have e13_1 := hHeld.2.1.lt
        have e13_2 := hHeld.2.2.1.lt
        have e13_3 := hHeld.2.2.2.1.lt
        have z13 := hHeld.2.2.2.2.size
        have dn12_n13 := n12.lt
        try simp only [World.size_alloc] at e13_0 e13_1 e13_2 e13_3 z13 dn12_n13
        go_simp
        refine hK.out _ _ ?_ (fun hHeld2 => ?_)
        · exact ⟨hHeld.1.old _, hHeld.2.1.old _, hHeld.2.2.1.old _, hHeld.2.2.2.1.old _, hHeld.2.2.2.2.alloc hHeld.2.2.2.2.size _⟩
        clear hHeld hK K; have hHeld := hHeld2; clear hHeld2
        replace n12 := Blk.old n12 (.cells #[.int .i64 0, .int .u64 0] 24)
        try simp only [Act.put, List.setIfInBounds_toArray, List.set_cons_zero, List.set_cons_succ]
        refine H.fresh (fun n13 => ?_)
        refine H.forget2 hHeld n12 n13 (fun w1 hHeld n12 n13 => ?_)
        refine H.ready [5] (by kernel_rfl) (by simp) ?_
        refine H.one rfl (by rfl) (fun K hK => ?_) AllReadyH.nil
        go_simp
        go_at_call 13
        refine (BC.out _).mono ?_
        rintro e w1 ⟨rfl, hb⟩
        refine hK.out _ _ ?_ (fun hHeld2 => ?_)
        · exact ⟨Blk.keep hb hHeld.1, Blk.keep hb hHeld.2.1, Blk.keep hb hHeld.2.2.1, Blk.keep hb hHeld.2.2.2.1, hHeld.2.2.2.2.trans (hb.mono hHeld.2.2.2.2.size)⟩
        clear hHeld hK K; have hHeld := hHeld2; clear hHeld2
        replace n12 := Blk.keep hb n12
        replace n13 := Blk.keep hb n13
        try simp only [Act.put, List.setIfInBounds_toArray, List.set_cons_zero, List.set_cons_succ]
        refine H.ready [8] (by kernel_rfl) (by simp) ?_
        refine H.one rfl (by rfl) (fun K hK => ?_) AllReadyH.nil
        have c12 := n12.two; have f12 := n12.free0
        go_simp
        refine hK.out _ _ ?_ (fun hHeld2 => ?_)
        · exact ⟨hHeld.1.else2 (Nat.ne_of_lt e12_0), hHeld.2.1.else2 (Nat.ne_of_lt e12_1), hHeld.2.2.1.else2 (Nat.ne_of_lt e12_2), hHeld.2.2.2.1.else2 (Nat.ne_of_lt e12_3), Below.put2 hHeld.2.2.2.2 z12⟩
        clear hHeld hK K c12 f12; have hHeld := hHeld2; clear hHeld2
        try simp only [Act.put, List.setIfInBounds_toArray, List.set_cons_zero, List.set_cons_succ]
        refine H.other2 n13 (Nat.ne_of_gt dn12_n13) (fun n13x => ?_)
        refine H.stored2 n12 (fun n12x => ?_)
        refine H.forget2 hHeld n12x n13x (fun w1 hHeld n12y n13y => ?_)
        clear n12 n12x; have n12 := n12y; clear n12y
        clear n13 n13x; have n13 := n13y; clear n13y
        refine H.ready [9] (by kernel_rfl) (by simp) ?_
        refine H.one rfl (by rfl) (fun K hK => ?_) AllReadyH.nil
        have c13 := n13.two; have f13 := n13.free0
        go_simp
        refine hK.out _ _ ?_ (fun hHeld2 => ?_)
        · exact ⟨hHeld.1.else2 (Nat.ne_of_lt e13_0), hHeld.2.1.else2 (Nat.ne_of_lt e13_1), hHeld.2.2.1.else2 (Nat.ne_of_lt e13_2), hHeld.2.2.2.1.else2 (Nat.ne_of_lt e13_3), Below.put2 hHeld.2.2.2.2 z13⟩
        clear hHeld hK K c13 f13; have hHeld := hHeld2; clear hHeld2
        try simp only [Act.put, List.setIfInBounds_toArray, List.set_cons_zero, List.set_cons_succ]
        refine H.other2 n12 (Nat.ne_of_lt dn12_n13) (fun n12x => ?_)
        refine H.stored2 n13 (fun n13x => ?_)
        refine H.forget2 hHeld n12x n13x (fun w1 hHeld n12y n13y => ?_)
        clear n12 n12x; have n12 := n12y; clear n12y
        clear n13 n13x; have n13 := n13y; clear n13y
        refine H.done (by kernel_rfl) ?_ _
        show K _ _
        exact hQ.out _ _ _ _ _ _ _ _ _ ⟨_, _, rfl, rfl, n12, n13, hHeld⟩
      exact AllReadyH.nil
    refine H.one rfl (by rfl) (fun K hK => ?_) ?_
    · skip
      have e13_0 := hHeld.1.lt
      have e13_1 := hHeld.2.1.lt
      have e13_2 := hHeld.2.2.1.lt
      have e13_3 := hHeld.2.2.2.1.lt
      have z13 := hHeld.2.2.2.2.size
      try simp only [World.size_alloc] at e13_0 e13_1 e13_2 e13_3 z13
      go_simp
      refine hK.out _ _ ?_ (fun hHeld2 => ?_)
      · exact ⟨hHeld.1.old _, hHeld.2.1.old _, hHeld.2.2.1.old _, hHeld.2.2.2.1.old _, hHeld.2.2.2.2.alloc hHeld.2.2.2.2.size _⟩
      clear hHeld hK K; have hHeld := hHeld2; clear hHeld2
      try simp only [Act.put, List.setIfInBounds_toArray, List.set_cons_zero, List.set_cons_succ]
      refine H.fresh (fun n13 => ?_)
      refine H.forget1 hHeld n13 (fun w1 hHeld n13 => ?_)
      refine H.ready [5, 6] (by kernel_rfl) (by simp) ?_
      refine H.one rfl (by rfl) (fun K hK => ?_) ?_
      · skip
        go_simp
        go_at_call 13
        refine (BC.out _).mono ?_
        rintro e w1 ⟨rfl, hb⟩
        refine hK.out _ _ ?_ (fun hHeld2 => ?_)
        · exact ⟨Blk.keep hb hHeld.1, Blk.keep hb hHeld.2.1, Blk.keep hb hHeld.2.2.1, Blk.keep hb hHeld.2.2.2.1, hHeld.2.2.2.2.trans (hb.mono hHeld.2.2.2.2.size)⟩
        clear hHeld hK K; have hHeld := hHeld2; clear hHeld2
        replace n13 := Blk.keep hb n13
        try simp only [Act.put, List.setIfInBounds_toArray, List.set_cons_zero, List.set_cons_succ]
        refine H.ready [6] (by kernel_rfl) (by simp) ?_
        refine H.one rfl (by rfl) (fun K hK => ?_) AllReadyH.nil
        have e12_0 := hHeld.1.lt
        have e12_1 := hHeld.2.1.lt
        have e12_2 := hHeld.2.2.1.lt
        have e12_3 := hHeld.2.2.2.1.lt
        have z12 := hHeld.2.2.2.2.size
        have dn13_n12 := n13.lt
        try simp only [World.size_alloc] at e12_0 e12_1 e12_2 e12_3 z12 dn13_n12
        go_simp
        refine hK.out _ _ ?_ (fun hHeld2 => ?_)
        · exact ⟨hHeld.1.old _, hHeld.2.1.old _, hHeld.2.2.1.old _, hHeld.2.2.2.1.old _, hHeld.2.2.2.2.alloc hHeld.2.2.2.2.size _⟩
        clear hHeld hK K; have hHeld := hHeld2; clear hHeld2
        replace n13 := Blk.old n13 (.cells #[.int .i64 0, .int .u64 0] 24)
        try simp only [Act.put, List.setIfInBounds_toArray, List.set_cons_zero, List.set_cons_succ]
        refine H.fresh (fun n12 => ?_)
        refine H.forget2 hHeld n13 n12 (fun w1 hHeld n13 n12 => ?_)
        refine H.ready [8] (by kernel_rfl) (by simp) ?_
        refine H.one rfl (by rfl) (fun K hK => ?_) AllReadyH.nil
        have c12 := n12.two; have f12 := n12.free0
        go_simp
        refine hK.out _ _ ?_ (fun hHeld2 => ?_)
        · exact ⟨hHeld.1.else2 (Nat.ne_of_lt e12_0), hHeld.2.1.else2 (Nat.ne_of_lt e12_1), hHeld.2.2.1.else2 (Nat.ne_of_lt e12_2), hHeld.2.2.2.1.else2 (Nat.ne_of_lt e12_3), Below.put2 hHeld.2.2.2.2 z12⟩
        clear hHeld hK K c12 f12; have hHeld := hHeld2; clear hHeld2
        try simp only [Act.put, List.setIfInBounds_toArray, List.set_cons_zero, List.set_cons_succ]
        refine H.other2 n13 (Nat.ne_of_lt dn13_n12) (fun n13x => ?_)
        refine H.stored2 n12 (fun n12x => ?_)
        refine H.forget2 hHeld n13x n12x (fun w1 hHeld n13y n12y => ?_)
        clear n13 n13x; have n13 := n13y; clear n13y
        clear n12 n12x; have n12 := n12y; clear n12y
        refine H.ready [9] (by kernel_rfl) (by simp) ?_
        refine H.one rfl (by rfl) (fun K hK => ?_) AllReadyH.nil
        have c13 := n13.two; have f13 := n13.free0
        go_simp
        refine hK.out _ _ ?_ (fun hHeld2 => ?_)
        · exact ⟨hHeld.1.else2 (Nat.ne_of_lt e13_0), hHeld.2.1.else2 (Nat.ne_of_lt e13_1), hHeld.2.2.1.else2 (Nat.ne_of_lt e13_2), hHeld.2.2.2.1.else2 (Nat.ne_of_lt e13_3), Below.put2 hHeld.2.2.2.2 z13⟩
        clear hHeld hK K c13 f13; have hHeld := hHeld2; clear hHeld2
        try simp only [Act.put, List.setIfInBounds_toArray, List.set_cons_zero, List.set_cons_succ]
        refine H.other2 n12 (Nat.ne_of_gt dn13_n12) (fun n12x => ?_)
        refine H.stored2 n13 (fun n13x => ?_)
        refine H.forget2 hHeld n13x n12x (fun w1 hHeld n13y n12y => ?_)
        clear n13 n13x; have n13 := n13y; clear n13y
        clear n12 n12x; have n12 := n12y; clear n12y
        refine H.done (by kernel_rfl) ?_ _
        show K _ _
        exact hQ.out _ _ _ _ _ _ _ _ _ ⟨_, _, rfl, rfl, n12, n13, hHeld⟩
      refine H.one rfl (by rfl) (fun K hK => ?_) ?_
      · skip
        have e12_0 := hHeld.1.lt
        have e12_1 := hHeld.2.1.lt
        have e12_2 := hHeld.2.2.1.lt
        have e12_3 := hHeld.2.2.2.1.lt
        have z12 := hHeld.2.2.2.2.size
        have dn13_n12 := n13.lt
        try simp only [World.size_alloc] at e12_0 e12_1 e12_2 e12_3 z12 dn13_n12
        go_simp
        refine hK.out _ _ ?_ (fun hHeld2 => ?_)
        · exact ⟨hHeld.1.old _, hHeld.2.1.old _, hHeld.2.2.1.old _, hHeld.2.2.2.1.old _, hHeld.2.2.2.2.alloc hHeld.2.2.2.2.size _⟩
        clear hHeld hK K; have hHeld := hHeld2; clear hHeld2
        replace n13 := Blk.old n13 (.cells #[.int .i64 0, .int .u64 0] 24)
        try simp only [Act.put, List.setIfInBounds_toArray, List.set_cons_zero, List.set_cons_succ]
        refine H.fresh (fun n12 => ?_)
        refine H.forget2 hHeld n13 n12 (fun w1 hHeld n13 n12 => ?_)
        refine H.ready [5] (by kernel_rfl) (by simp) ?_
        refine H.one rfl (by rfl) (fun K hK => ?_) AllReadyH.nil
        go_simp
        go_at_call 13
        refine (BC.out _).mono ?_
        rintro e w1 ⟨rfl, hb⟩
        refine hK.out _ _ ?_ (fun hHeld2 => ?_)
        · exact ⟨Blk.keep hb hHeld.1, Blk.keep hb hHeld.2.1, Blk.keep hb hHeld.2.2.1, Blk.keep hb hHeld.2.2.2.1, hHeld.2.2.2.2.trans (hb.mono hHeld.2.2.2.2.size)⟩
        clear hHeld hK K; have hHeld := hHeld2; clear hHeld2
        replace n13 := Blk.keep hb n13
        replace n12 := Blk.keep hb n12
        try simp only [Act.put, List.setIfInBounds_toArray, List.set_cons_zero, List.set_cons_succ]
        refine H.ready [8] (by kernel_rfl) (by simp) ?_
        refine H.one rfl (by rfl) (fun K hK => ?_) AllReadyH.nil
        have c12 := n12.two; have f12 := n12.free0
        go_simp
        refine hK.out _ _ ?_ (fun hHeld2 => ?_)
        · exact ⟨hHeld.1.else2 (Nat.ne_of_lt e12_0), hHeld.2.1.else2 (Nat.ne_of_lt e12_1), hHeld.2.2.1.else2 (Nat.ne_of_lt e12_2), hHeld.2.2.2.1.else2 (Nat.ne_of_lt e12_3), Below.put2 hHeld.2.2.2.2 z12⟩
        clear hHeld hK K c12 f12; have hHeld := hHeld2; clear hHeld2
        try simp only [Act.put, List.setIfInBounds_toArray, List.set_cons_zero, List.set_cons_succ]
        refine H.other2 n13 (Nat.ne_of_lt dn13_n12) (fun n13x => ?_)
        refine H.stored2 n12 (fun n12x => ?_)
        refine H.forget2 hHeld n13x n12x (fun w1 hHeld n13y n12y => ?_)
        clear n13 n13x; have n13 := n13y; clear n13y
        clear n12 n12x; have n12 := n12y; clear n12y
        refine H.ready [9] (by kernel_rfl) (by simp) ?_
        refine H.one rfl (by rfl) (fun K hK => ?_) AllReadyH.nil
        have c13 := n13.two; have f13 := n13.free0
        go_simp
        refine hK.out _ _ ?_ (fun hHeld2 => ?_)
        · exact ⟨hHeld.1.else2 (Nat.ne_of_lt e13_0), hHeld.2.1.else2 (Nat.ne_of_lt e13_1), hHeld.2.2.1.else2 (Nat.ne_of_lt e13_2), hHeld.2.2.2.1.else2 (Nat.ne_of_lt e13_3), Below.put2 hHeld.2.2.2.2 z13⟩
        clear hHeld hK K c13 f13; have hHeld := hHeld2; clear hHeld2
        try simp only [Act.put, List.setIfInBounds_toArray, List.set_cons_zero, List.set_cons_succ]
        refine H.other2 n12 (Nat.ne_of_gt dn13_n12) (fun n12x => ?_)
        refine H.stored2 n13 (fun n13x => ?_)
        refine H.forget2 hHeld n13x n12x (fun w1 hHeld n13y n12y => ?_)
        clear n13 n13x; have n13 := n13y; clear n13y
        clear n12 n12x; have n12 := n12y; clear n12y
        refine H.done (by kernel_rfl) ?_ _
        show K _ _
        exact hQ.out _ _ _ _ _ _ _ _ _ ⟨_, _, rfl, rfl, n12, n13, hHeld⟩
      exact AllReadyH.nil
    exact AllReadyH.nil
  refine H.one rfl (by rfl) (fun K hK => ?_) ?_
  · skip
    have e12_0 := hHeld.1.lt
    have e12_1 := hHeld.2.1.lt
    have e12_2 := hHeld.2.2.1.lt
    have e12_3 := hHeld.2.2.2.1.lt
    have z12 := hHeld.2.2.2.2.size
    try simp only [World.size_alloc] at e12_0 e12_1 e12_2 e12_3 z12
    go_simp
    refine hK.out _ _ ?_ (fun hHeld2 => ?_)
    · exact ⟨hHeld.1.old _, hHeld.2.1.old _, hHeld.2.2.1.old _, hHeld.2.2.2.1.old _, hHeld.2.2.2.2.alloc hHeld.2.2.2.2.size _⟩
    clear hHeld hK K; have hHeld := hHeld2; clear hHeld2
    try simp only [Act.put, List.setIfInBounds_toArray, List.set_cons_zero, List.set_cons_succ]
    refine H.fresh (fun n12 => ?_)
    refine H.forget1 hHeld n12 (fun w1 hHeld n12 => ?_)
    refine H.ready [2, 7] (by kernel_rfl) (by simp) ?_
    refine H.one rfl (by rfl) (fun K hK => ?_) ?_
    · skip
      go_simp
      go_at_call 13
      refine (AC.out _).mono ?_
      rintro e w1 ⟨rfl, hb⟩
      refine hK.out _ _ ?_ (fun hHeld2 => ?_)
      · exact ⟨Blk.keep hb hHeld.1, Blk.keep hb hHeld.2.1, Blk.keep hb hHeld.2.2.1, Blk.keep hb hHeld.2.2.2.1, hHeld.2.2.2.2.trans (hb.mono hHeld.2.2.2.2.size)⟩
      clear hHeld hK K; have hHeld := hHeld2; clear hHeld2
      replace n12 := Blk.keep hb n12
      try simp only [Act.put, List.setIfInBounds_toArray, List.set_cons_zero, List.set_cons_succ]
      refine H.ready [5, 7] (by kernel_rfl) (by simp) ?_
      refine H.one rfl (by rfl) (fun K hK => ?_) ?_
      · skip
        go_simp
        go_at_call 13
        refine (BC.out _).mono ?_
        rintro e w1 ⟨rfl, hb⟩
        refine hK.out _ _ ?_ (fun hHeld2 => ?_)
        · exact ⟨Blk.keep hb hHeld.1, Blk.keep hb hHeld.2.1, Blk.keep hb hHeld.2.2.1, Blk.keep hb hHeld.2.2.2.1, hHeld.2.2.2.2.trans (hb.mono hHeld.2.2.2.2.size)⟩
        clear hHeld hK K; have hHeld := hHeld2; clear hHeld2
        replace n12 := Blk.keep hb n12
        try simp only [Act.put, List.setIfInBounds_toArray, List.set_cons_zero, List.set_cons_succ]
        refine H.ready [7] (by kernel_rfl) (by simp) ?_
        refine H.one rfl (by rfl) (fun K hK => ?_) AllReadyH.nil
        have e13_0 := hHeld.1.lt
        have e13_1 := hHeld.2.1.lt
        have e13_2 := hHeld.2.2.1.lt
        have e13_3 := hHeld.2.2.2.1.lt
        have z13 := hHeld.2.2.2.2.size
        have dn12_n13 := n12.lt
        try simp only [World.size_alloc] at e13_0 e13_1 e13_2 e13_3 z13 dn12_n13
        go_simp
        refine hK.out _ _ ?_ (fun hHeld2 => ?_)
        · exact ⟨hHeld.1.old _, hHeld.2.1.old _, hHeld.2.2.1.old _, hHeld.2.2.2.1.old _, hHeld.2.2.2.2.alloc hHeld.2.2.2.2.size _⟩
        clear hHeld hK K; have hHeld := hHeld2; clear hHeld2
        replace n12 := Blk.old n12 (.cells #[.int .i64 0, .int .u64 0] 24)
        try simp only [Act.put, List.setIfInBounds_toArray, List.set_cons_zero, List.set_cons_succ]
        refine H.fresh (fun n13 => ?_)
        refine H.forget2 hHeld n12 n13 (fun w1 hHeld n12 n13 => ?_)
        refine H.ready [8] (by kernel_rfl) (by simp) ?_
        refine H.one rfl (by rfl) (fun K hK => ?_) AllReadyH.nil
        have c12 := n12.two; have f12 := n12.free0
        go_simp
        refine hK.out _ _ ?_ (fun hHeld2 => ?_)
        · exact ⟨hHeld.1.else2 (Nat.ne_of_lt e12_0), hHeld.2.1.else2 (Nat.ne_of_lt e12_1), hHeld.2.2.1.else2 (Nat.ne_of_lt e12_2), hHeld.2.2.2.1.else2 (Nat.ne_of_lt e12_3), Below.put2 hHeld.2.2.2.2 z12⟩
        clear hHeld hK K c12 f12; have hHeld := hHeld2; clear hHeld2
        try simp only [Act.put, List.setIfInBounds_toArray, List.set_cons_zero, List.set_cons_succ]
        refine H.other2 n13 (Nat.ne_of_gt dn12_n13) (fun n13x => ?_)
        refine H.stored2 n12 (fun n12x => ?_)
        refine H.forget2 hHeld n12x n13x (fun w1 hHeld n12y n13y => ?_)
        clear n12 n12x; have n12 := n12y; clear n12y
        clear n13 n13x; have n13 := n13y; clear n13y
        refine H.ready [9] (by kernel_rfl) (by simp) ?_
        refine H.one rfl (by rfl) (fun K hK => ?_) AllReadyH.nil
        have c13 := n13.two; have f13 := n13.free0
        go_simp
        refine hK.out _ _ ?_ (fun hHeld2 => ?_)
        · exact ⟨hHeld.1.else2 (Nat.ne_of_lt e13_0), hHeld.2.1.else2 (Nat.ne_of_lt e13_1), hHeld.2.2.1.else2 (Nat.ne_of_lt e13_2), hHeld.2.2.2.1.else2 (Nat.ne_of_lt e13_3), Below.put2 hHeld.2.2.2.2 z13⟩
        clear hHeld hK K c13 f13; have hHeld := hHeld2; clear hHeld2
        try simp only [Act.put, List.setIfInBounds_toArray, List.set_cons_zero, List.set_cons_succ]
        refine H.other2 n12 (Nat.ne_of_lt dn12_n13) (fun n12x => ?_)
        refine H.stored2 n13 (fun n13x => ?_)
        refine H.forget2 hHeld n12x n13x (fun w1 hHeld n12y n13y => ?_)
        clear n12 n12x; have n12 := n12y; clear n12y
        clear n13 n13x; have n13 := n13y; clear n13y
        refine H.done (by kernel_rfl) ?_ _
        show K _ _
        exact hQ.out _ _ _ _ _ _ _ _ _ ⟨_, _, rfl, rfl, n12, n13, hHeld⟩
      refine H.one rfl (by rfl) (fun K hK => ?_) ?_
      · skip
        have e13_0 := hHeld.1.lt
        have e13_1 := hHeld.2.1.lt
        have e13_2 := hHeld.2.2.1.lt
        have e13_3 := hHeld.2.2.2.1.lt
        have z13 := hHeld.2.2.2.2.size
        have dn12_n13 := n12.lt
        try simp only [World.size_alloc] at e13_0 e13_1 e13_2 e13_3 z13 dn12_n13
        go_simp
        refine hK.out _ _ ?_ (fun hHeld2 => ?_)
        · exact ⟨hHeld.1.old _, hHeld.2.1.old _, hHeld.2.2.1.old _, hHeld.2.2.2.1.old _, hHeld.2.2.2.2.alloc hHeld.2.2.2.2.size _⟩
        clear hHeld hK K; have hHeld := hHeld2; clear hHeld2
        replace n12 := Blk.old n12 (.cells #[.int .i64 0, .int .u64 0] 24)
        try simp only [Act.put, List.setIfInBounds_toArray, List.set_cons_zero, List.set_cons_succ]
        refine H.fresh (fun n13 => ?_)
        refine H.forget2 hHeld n12 n13 (fun w1 hHeld n12 n13 => ?_)
        refine H.ready [5] (by kernel_rfl) (by simp) ?_
        refine H.one rfl (by rfl) (fun K hK => ?_) AllReadyH.nil
        go_simp
        go_at_call 13
        refine (BC.out _).mono ?_
        rintro e w1 ⟨rfl, hb⟩
        refine hK.out _ _ ?_ (fun hHeld2 => ?_)
        · exact ⟨Blk.keep hb hHeld.1, Blk.keep hb hHeld.2.1, Blk.keep hb hHeld.2.2.1, Blk.keep hb hHeld.2.2.2.1, hHeld.2.2.2.2.trans (hb.mono hHeld.2.2.2.2.size)⟩
        clear hHeld hK K; have hHeld := hHeld2; clear hHeld2
        replace n12 := Blk.keep hb n12
        replace n13 := Blk.keep hb n13
        try simp only [Act.put, List.setIfInBounds_toArray, List.set_cons_zero, List.set_cons_succ]
        refine H.ready [8] (by kernel_rfl) (by simp) ?_
        refine H.one rfl (by rfl) (fun K hK => ?_) AllReadyH.nil
        have c12 := n12.two; have f12 := n12.free0
        go_simp
        refine hK.out _ _ ?_ (fun hHeld2 => ?_)
        · exact ⟨hHeld.1.else2 (Nat.ne_of_lt e12_0), hHeld.2.1.else2 (Nat.ne_of_lt e12_1), hHeld.2.2.1.else2 (Nat.ne_of_lt e12_2), hHeld.2.2.2.1.else2 (Nat.ne_of_lt e12_3), Below.put2 hHeld.2.2.2.2 z12⟩
        clear hHeld hK K c12 f12; have hHeld := hHeld2; clear hHeld2
        try simp only [Act.put, List.setIfInBounds_toArray, List.set_cons_zero, List.set_cons_succ]
        refine H.other2 n13 (Nat.ne_of_gt dn12_n13) (fun n13x => ?_)
        refine H.stored2 n12 (fun n12x => ?_)
        refine H.forget2 hHeld n12x n13x (fun w1 hHeld n12y n13y => ?_)
        clear n12 n12x; have n12 := n12y; clear n12y
        clear n13 n13x; have n13 := n13y; clear n13y
        refine H.ready [9] (by kernel_rfl) (by simp) ?_
        refine H.one rfl (by rfl) (fun K hK => ?_) AllReadyH.nil
        have c13 := n13.two; have f13 := n13.free0
        go_simp
        refine hK.out _ _ ?_ (fun hHeld2 => ?_)
        · exact ⟨hHeld.1.else2 (Nat.ne_of_lt e13_0), hHeld.2.1.else2 (Nat.ne_of_lt e13_1), hHeld.2.2.1.else2 (Nat.ne_of_lt e13_2), hHeld.2.2.2.1.else2 (Nat.ne_of_lt e13_3), Below.put2 hHeld.2.2.2.2 z13⟩
        clear hHeld hK K c13 f13; have hHeld := hHeld2; clear hHeld2
        try simp only [Act.put, List.setIfInBounds_toArray, List.set_cons_zero, List.set_cons_succ]
        refine H.other2 n12 (Nat.ne_of_lt dn12_n13) (fun n12x => ?_)
        refine H.stored2 n13 (fun n13x => ?_)
        refine H.forget2 hHeld n12x n13x (fun w1 hHeld n12y n13y => ?_)
        clear n12 n12x; have n12 := n12y; clear n12y
        clear n13 n13x; have n13 := n13y; clear n13y
        refine H.done (by kernel_rfl) ?_ _
        show K _ _
        exact hQ.out _ _ _ _ _ _ _ _ _ ⟨_, _, rfl, rfl, n12, n13, hHeld⟩
      exact AllReadyH.nil
    refine H.one rfl (by rfl) (fun K hK => ?_) ?_
    · skip
      have e13_0 := hHeld.1.lt
      have e13_1 := hHeld.2.1.lt
      have e13_2 := hHeld.2.2.1.lt
      have e13_3 := hHeld.2.2.2.1.lt
      have z13 := hHeld.2.2.2.2.size
      have dn12_n13 := n12.lt
      try simp only [World.size_alloc] at e13_0 e13_1 e13_2 e13_3 z13 dn12_n13
      go_simp
      refine hK.out _ _ ?_ (fun hHeld2 => ?_)
      · exact ⟨hHeld.1.old _, hHeld.2.1.old _, hHeld.2.2.1.old _, hHeld.2.2.2.1.old _, hHeld.2.2.2.2.alloc hHeld.2.2.2.2.size _⟩
      clear hHeld hK K; have hHeld := hHeld2; clear hHeld2
      replace n12 := Blk.old n12 (.cells #[.int .i64 0, .int .u64 0] 24)
      try simp only [Act.put, List.setIfInBounds_toArray, List.set_cons_zero, List.set_cons_succ]
      refine H.fresh (fun n13 => ?_)
      refine H.forget2 hHeld n12 n13 (fun w1 hHeld n12 n13 => ?_)
      refine H.ready [2] (by kernel_rfl) (by simp) ?_
      refine H.one rfl (by rfl) (fun K hK => ?_) AllReadyH.nil
      go_simp
      go_at_call 13
      refine (AC.out _).mono ?_
      rintro e w1 ⟨rfl, hb⟩
      refine hK.out _ _ ?_ (fun hHeld2 => ?_)
      · exact ⟨Blk.keep hb hHeld.1, Blk.keep hb hHeld.2.1, Blk.keep hb hHeld.2.2.1, Blk.keep hb hHeld.2.2.2.1, hHeld.2.2.2.2.trans (hb.mono hHeld.2.2.2.2.size)⟩
      clear hHeld hK K; have hHeld := hHeld2; clear hHeld2
      replace n12 := Blk.keep hb n12
      replace n13 := Blk.keep hb n13
      try simp only [Act.put, List.setIfInBounds_toArray, List.set_cons_zero, List.set_cons_succ]
      refine H.ready [5] (by kernel_rfl) (by simp) ?_
      refine H.one rfl (by rfl) (fun K hK => ?_) AllReadyH.nil
      go_simp
      go_at_call 13
      refine (BC.out _).mono ?_
      rintro e w1 ⟨rfl, hb⟩
      refine hK.out _ _ ?_ (fun hHeld2 => ?_)
      · exact ⟨Blk.keep hb hHeld.1, Blk.keep hb hHeld.2.1, Blk.keep hb hHeld.2.2.1, Blk.keep hb hHeld.2.2.2.1, hHeld.2.2.2.2.trans (hb.mono hHeld.2.2.2.2.size)⟩
      clear hHeld hK K; have hHeld := hHeld2; clear hHeld2
      replace n12 := Blk.keep hb n12
      replace n13 := Blk.keep hb n13
      try simp only [Act.put, List.setIfInBounds_toArray, List.set_cons_zero, List.set_cons_succ]
      refine H.ready [8] (by kernel_rfl) (by simp) ?_
      refine H.one rfl (by rfl) (fun K hK => ?_) AllReadyH.nil
      have c12 := n12.two; have f12 := n12.free0
      go_simp
      refine hK.out _ _ ?_ (fun hHeld2 => ?_)
      · exact ⟨hHeld.1.else2 (Nat.ne_of_lt e12_0), hHeld.2.1.else2 (Nat.ne_of_lt e12_1), hHeld.2.2.1.else2 (Nat.ne_of_lt e12_2), hHeld.2.2.2.1.else2 (Nat.ne_of_lt e12_3), Below.put2 hHeld.2.2.2.2 z12⟩
      clear hHeld hK K c12 f12; have hHeld := hHeld2; clear hHeld2
      try simp only [Act.put, List.setIfInBounds_toArray, List.set_cons_zero, List.set_cons_succ]
      refine H.other2 n13 (Nat.ne_of_gt dn12_n13) (fun n13x => ?_)
      refine H.stored2 n12 (fun n12x => ?_)
      refine H.forget2 hHeld n12x n13x (fun w1 hHeld n12y n13y => ?_)
      clear n12 n12x; have n12 := n12y; clear n12y
      clear n13 n13x; have n13 := n13y; clear n13y
      refine H.ready [9] (by kernel_rfl) (by simp) ?_
      refine H.one rfl (by rfl) (fun K hK => ?_) AllReadyH.nil
      have c13 := n13.two; have f13 := n13.free0
      go_simp
      refine hK.out _ _ ?_ (fun hHeld2 => ?_)
      · exact ⟨hHeld.1.else2 (Nat.ne_of_lt e13_0), hHeld.2.1.else2 (Nat.ne_of_lt e13_1), hHeld.2.2.1.else2 (Nat.ne_of_lt e13_2), hHeld.2.2.2.1.else2 (Nat.ne_of_lt e13_3), Below.put2 hHeld.2.2.2.2 z13⟩
      clear hHeld hK K c13 f13; have hHeld := hHeld2; clear hHeld2
      try simp only [Act.put, List.setIfInBounds_toArray, List.set_cons_zero, List.set_cons_succ]
      refine H.other2 n12 (Nat.ne_of_lt dn12_n13) (fun n12x => ?_)
      refine H.stored2 n13 (fun n13x => ?_)
      refine H.forget2 hHeld n12x n13x (fun w1 hHeld n12y n13y => ?_)
      clear n12 n12x; have n12 := n12y; clear n12y
      clear n13 n13x; have n13 := n13y; clear n13y
      refine H.done (by kernel_rfl) ?_ _
      show K _ _
      exact hQ.out _ _ _ _ _ _ _ _ _ ⟨_, _, rfl, rfl, n12, n13, hHeld⟩
    exact AllReadyH.nil
  refine H.one rfl (by rfl) (fun K hK => ?_) ?_
  · skip
    have e13_0 := hHeld.1.lt
    have e13_1 := hHeld.2.1.lt
    have e13_2 := hHeld.2.2.1.lt
    have e13_3 := hHeld.2.2.2.1.lt
    have z13 := hHeld.2.2.2.2.size
    try simp only [World.size_alloc] at e13_0 e13_1 e13_2 e13_3 z13
    go_simp
    refine hK.out _ _ ?_ (fun hHeld2 => ?_)
    · exact ⟨hHeld.1.old _, hHeld.2.1.old _, hHeld.2.2.1.old _, hHeld.2.2.2.1.old _, hHeld.2.2.2.2.alloc hHeld.2.2.2.2.size _⟩
    clear hHeld hK K; have hHeld := hHeld2; clear hHeld2
    try simp only [Act.put, List.setIfInBounds_toArray, List.set_cons_zero, List.set_cons_succ]
    refine H.fresh (fun n13 => ?_)
    refine H.forget1 hHeld n13 (fun w1 hHeld n13 => ?_)
    refine H.ready [2, 6] (by kernel_rfl) (by simp) ?_
    refine H.one rfl (by rfl) (fun K hK => ?_) ?_
    · skip
      go_simp
      go_at_call 13
      refine (AC.out _).mono ?_
      rintro e w1 ⟨rfl, hb⟩
      refine hK.out _ _ ?_ (fun hHeld2 => ?_)
      · exact ⟨Blk.keep hb hHeld.1, Blk.keep hb hHeld.2.1, Blk.keep hb hHeld.2.2.1, Blk.keep hb hHeld.2.2.2.1, hHeld.2.2.2.2.trans (hb.mono hHeld.2.2.2.2.size)⟩
      clear hHeld hK K; have hHeld := hHeld2; clear hHeld2
      replace n13 := Blk.keep hb n13
      try simp only [Act.put, List.setIfInBounds_toArray, List.set_cons_zero, List.set_cons_succ]
      refine H.ready [5, 6] (by kernel_rfl) (by simp) ?_
      refine H.one rfl (by rfl) (fun K hK => ?_) ?_
      · skip
        go_simp
        go_at_call 13
        refine (BC.out _).mono ?_
        rintro e w1 ⟨rfl, hb⟩
        refine hK.out _ _ ?_ (fun hHeld2 => ?_)
        · exact ⟨Blk.keep hb hHeld.1, Blk.keep hb hHeld.2.1, Blk.keep hb hHeld.2.2.1, Blk.keep hb hHeld.2.2.2.1, hHeld.2.2.2.2.trans (hb.mono hHeld.2.2.2.2.size)⟩
        clear hHeld hK K; have hHeld := hHeld2; clear hHeld2
        replace n13 := Blk.keep hb n13
        try simp only [Act.put, List.setIfInBounds_toArray, List.set_cons_zero, List.set_cons_succ]
        refine H.ready [6] (by kernel_rfl) (by simp) ?_
        refine H.one rfl (by rfl) (fun K hK => ?_) AllReadyH.nil
        have e12_0 := hHeld.1.lt
        have e12_1 := hHeld.2.1.lt
        have e12_2 := hHeld.2.2.1.lt
        have e12_3 := hHeld.2.2.2.1.lt
        have z12 := hHeld.2.2.2.2.size
        have dn13_n12 := n13.lt
        try simp only [World.size_alloc] at e12_0 e12_1 e12_2 e12_3 z12 dn13_n12
        go_simp
        refine hK.out _ _ ?_ (fun hHeld2 => ?_)
        · exact ⟨hHeld.1.old _, hHeld.2.1.old _, hHeld.2.2.1.old _, hHeld.2.2.2.1.old _, hHeld.2.2.2.2.alloc hHeld.2.2.2.2.size _⟩
        clear hHeld hK K; have hHeld := hHeld2; clear hHeld2
        replace n13 := Blk.old n13 (.cells #[.int .i64 0, .int .u64 0] 24)
        try simp only [Act.put, List.setIfInBounds_toArray, List.set_cons_zero, List.set_cons_succ]
        refine H.fresh (fun n12 => ?_)
        refine H.forget2 hHeld n13 n12 (fun w1 hHeld n13 n12 => ?_)
        refine H.ready [8] (by kernel_rfl) (by simp) ?_
        refine H.one rfl (by rfl) (fun K hK => ?_) AllReadyH.nil
        have c12 := n12.two; have f12 := n12.free0
        go_simp
        refine hK.out _ _ ?_ (fun hHeld2 => ?_)
        · exact ⟨hHeld.1.else2 (Nat.ne_of_lt e12_0), hHeld.2.1.else2 (Nat.ne_of_lt e12_1), hHeld.2.2.1.else2 (Nat.ne_of_lt e12_2), hHeld.2.2.2.1.else2 (Nat.ne_of_lt e12_3), Below.put2 hHeld.2.2.2.2 z12⟩
        clear hHeld hK K c12 f12; have hHeld := hHeld2; clear hHeld2
        try simp only [Act.put, List.setIfInBounds_toArray, List.set_cons_zero, List.set_cons_succ]
        refine H.other2 n13 (Nat.ne_of_lt dn13_n12) (fun n13x => ?_)
        refine H.stored2 n12 (fun n12x => ?_)
        refine H.forget2 hHeld n13x n12x (fun w1 hHeld n13y n12y => ?_)
        clear n13 n13x; have n13 := n13y; clear n13y
        clear n12 n12x; have n12 := n12y; clear n12y
        refine H.ready [9] (by kernel_rfl) (by simp) ?_
        refine H.one rfl (by rfl) (fun K hK => ?_) AllReadyH.nil
        have c13 := n13.two; have f13 := n13.free0
        go_simp
        refine hK.out _ _ ?_ (fun hHeld2 => ?_)
        · exact ⟨hHeld.1.else2 (Nat.ne_of_lt e13_0), hHeld.2.1.else2 (Nat.ne_of_lt e13_1), hHeld.2.2.1.else2 (Nat.ne_of_lt e13_2), hHeld.2.2.2.1.else2 (Nat.ne_of_lt e13_3), Below.put2 hHeld.2.2.2.2 z13⟩
        clear hHeld hK K c13 f13; have hHeld := hHeld2; clear hHeld2
        try simp only [Act.put, List.setIfInBounds_toArray, List.set_cons_zero, List.set_cons_succ]
        refine H.other2 n12 (Nat.ne_of_gt dn13_n12) (fun n12x => ?_)
        refine H.stored2 n13 (fun n13x => ?_)
        refine H.forget2 hHeld n13x n12x (fun w1 hHeld n13y n12y => ?_)
        clear n13 n13x; have n13 := n13y; clear n13y
        clear n12 n12x; have n12 := n12y; clear n12y
        refine H.done (by kernel_rfl) ?_ _
        show K _ _
        exact hQ.out _ _ _ _ _ _ _ _ _ ⟨_, _, rfl, rfl, n12, n13, hHeld⟩
      refine H.one rfl (by rfl) (fun K hK => ?_) ?_
      · skip
        have e12_0 := hHeld.1.lt
        have e12_1 := hHeld.2.1.lt
        have e12_2 := hHeld.2.2.1.lt
        have e12_3 := hHeld.2.2.2.1.lt
        have z12 := hHeld.2.2.2.2.size
        have dn13_n12 := n13.lt
        try simp only [World.size_alloc] at e12_0 e12_1 e12_2 e12_3 z12 dn13_n12
        go_simp
        refine hK.out _ _ ?_ (fun hHeld2 => ?_)
        · exact ⟨hHeld.1.old _, hHeld.2.1.old _, hHeld.2.2.1.old _, hHeld.2.2.2.1.old _, hHeld.2.2.2.2.alloc hHeld.2.2.2.2.size _⟩
        clear hHeld hK K; have hHeld := hHeld2; clear hHeld2
        replace n13 := Blk.old n13 (.cells #[.int .i64 0, .int .u64 0] 24)
        try simp only [Act.put, List.setIfInBounds_toArray, List.set_cons_zero, List.set_cons_succ]
        refine H.fresh (fun n12 => ?_)
        refine H.forget2 hHeld n13 n12 (fun w1 hHeld n13 n12 => ?_)
        refine H.ready [5] (by kernel_rfl) (by simp) ?_
        refine H.one rfl (by rfl) (fun K hK => ?_) AllReadyH.nil
        go_simp
        go_at_call 13
        refine (BC.out _).mono ?_
        rintro e w1 ⟨rfl, hb⟩
        refine hK.out _ _ ?_ (fun hHeld2 => ?_)
        · exact ⟨Blk.keep hb hHeld.1, Blk.keep hb hHeld.2.1, Blk.keep hb hHeld.2.2.1, Blk.keep hb hHeld.2.2.2.1, hHeld.2.2.2.2.trans (hb.mono hHeld.2.2.2.2.size)⟩
        clear hHeld hK K; have hHeld := hHeld2; clear hHeld2
        replace n13 := Blk.keep hb n13
        replace n12 := Blk.keep hb n12
        try simp only [Act.put, List.setIfInBounds_toArray, List.set_cons_zero, List.set_cons_succ]
        refine H.ready [8] (by kernel_rfl) (by simp) ?_
        refine H.one rfl (by rfl) (fun K hK => ?_) AllReadyH.nil
        have c12 := n12.two; have f12 := n12.free0
        go_simp
        refine hK.out _ _ ?_ (fun hHeld2 => ?_)
        · exact ⟨hHeld.1.else2 (Nat.ne_of_lt e12_0), hHeld.2.1.else2 (Nat.ne_of_lt e12_1), hHeld.2.2.1.else2 (Nat.ne_of_lt e12_2), hHeld.2.2.2.1.else2 (Nat.ne_of_lt e12_3), Below.put2 hHeld.2.2.2.2 z12⟩
        clear hHeld hK K c12 f12; have hHeld := hHeld2; clear hHeld2
        try simp only [Act.put, List.setIfInBounds_toArray, List.set_cons_zero, List.set_cons_succ]
        refine H.other2 n13 (Nat.ne_of_lt dn13_n12) (fun n13x => ?_)
        refine H.stored2 n12 (fun n12x => ?_)
        refine H.forget2 hHeld n13x n12x (fun w1 hHeld n13y n12y => ?_)
        clear n13 n13x; have n13 := n13y; clear n13y
        clear n12 n12x; have n12 := n12y; clear n12y
        refine H.ready [9] (by kernel_rfl) (by simp) ?_
        refine H.one rfl (by rfl) (fun K hK => ?_) AllReadyH.nil
        have c13 := n13.two; have f13 := n13.free0
        go_simp
        refine hK.out _ _ ?_ (fun hHeld2 => ?_)
        · exact ⟨hHeld.1.else2 (Nat.ne_of_lt e13_0), hHeld.2.1.else2 (Nat.ne_of_lt e13_1), hHeld.2.2.1.else2 (Nat.ne_of_lt e13_2), hHeld.2.2.2.1.else2 (Nat.ne_of_lt e13_3), Below.put2 hHeld.2.2.2.2 z13⟩
        clear hHeld hK K c13 f13; have hHeld := hHeld2; clear hHeld2
        try simp only [Act.put, List.setIfInBounds_toArray, List.set_cons_zero, List.set_cons_succ]
        refine H.other2 n12 (Nat.ne_of_gt dn13_n12) (fun n12x => ?_)
        refine H.stored2 n13 (fun n13x => ?_)
        refine H.forget2 hHeld n13x n12x (fun w1 hHeld n13y n12y => ?_)
        clear n13 n13x; have n13 := n13y; clear n13y
        clear n12 n12x; have n12 := n12y; clear n12y
        refine H.done (by kernel_rfl) ?_ _
        show K _ _
        exact hQ.out _ _ _ _ _ _ _ _ _ ⟨_, _, rfl, rfl, n12, n13, hHeld⟩
      exact AllReadyH.nil
    refine H.one rfl (by rfl) (fun K hK => ?_) ?_
    · skip
      have e12_0 := hHeld.1.lt
      have e12_1 := hHeld.2.1.lt
      have e12_2 := hHeld.2.2.1.lt
      have e12_3 := hHeld.2.2.2.1.lt
      have z12 := hHeld.2.2.2.2.size
      have dn13_n12 := n13.lt
      try simp only [World.size_alloc] at e12_0 e12_1 e12_2 e12_3 z12 dn13_n12
      go_simp
      refine hK.out _ _ ?_ (fun hHeld2 => ?_)
      · exact ⟨hHeld.1.old _, hHeld.2.1.old _, hHeld.2.2.1.old _, hHeld.2.2.2.1.old _, hHeld.2.2.2.2.alloc hHeld.2.2.2.2.size _⟩
      clear hHeld hK K; have hHeld := hHeld2; clear hHeld2
      replace n13 := Blk.old n13 (.cells #[.int .i64 0, .int .u64 0] 24)
      try simp only [Act.put, List.setIfInBounds_toArray, List.set_cons_zero, List.set_cons_succ]
      refine H.fresh (fun n12 => ?_)
      refine H.forget2 hHeld n13 n12 (fun w1 hHeld n13 n12 => ?_)
      refine H.ready [2] (by kernel_rfl) (by simp) ?_
      refine H.one rfl (by rfl) (fun K hK => ?_) AllReadyH.nil
      go_simp
      go_at_call 13
      refine (AC.out _).mono ?_
      rintro e w1 ⟨rfl, hb⟩
      refine hK.out _ _ ?_ (fun hHeld2 => ?_)
      · exact ⟨Blk.keep hb hHeld.1, Blk.keep hb hHeld.2.1, Blk.keep hb hHeld.2.2.1, Blk.keep hb hHeld.2.2.2.1, hHeld.2.2.2.2.trans (hb.mono hHeld.2.2.2.2.size)⟩
      clear hHeld hK K; have hHeld := hHeld2; clear hHeld2
      replace n13 := Blk.keep hb n13
      replace n12 := Blk.keep hb n12
      try simp only [Act.put, List.setIfInBounds_toArray, List.set_cons_zero, List.set_cons_succ]
      refine H.ready [5] (by kernel_rfl) (by simp) ?_
      refine H.one rfl (by rfl) (fun K hK => ?_) AllReadyH.nil
      go_simp
      go_at_call 13
      refine (BC.out _).mono ?_
      rintro e w1 ⟨rfl, hb⟩
      refine hK.out _ _ ?_ (fun hHeld2 => ?_)
      · exact ⟨Blk.keep hb hHeld.1, Blk.keep hb hHeld.2.1, Blk.keep hb hHeld.2.2.1, Blk.keep hb hHeld.2.2.2.1, hHeld.2.2.2.2.trans (hb.mono hHeld.2.2.2.2.size)⟩
      clear hHeld hK K; have hHeld := hHeld2; clear hHeld2
      replace n13 := Blk.keep hb n13
      replace n12 := Blk.keep hb n12
      try simp only [Act.put, List.setIfInBounds_toArray, List.set_cons_zero, List.set_cons_succ]
      refine H.ready [8] (by kernel_rfl) (by simp) ?_
      refine H.one rfl (by rfl) (fun K hK => ?_) AllReadyH.nil
      have c12 := n12.two; have f12 := n12.free0
      go_simp
      refine hK.out _ _ ?_ (fun hHeld2 => ?_)
      · exact ⟨hHeld.1.else2 (Nat.ne_of_lt e12_0), hHeld.2.1.else2 (Nat.ne_of_lt e12_1), hHeld.2.2.1.else2 (Nat.ne_of_lt e12_2), hHeld.2.2.2.1.else2 (Nat.ne_of_lt e12_3), Below.put2 hHeld.2.2.2.2 z12⟩
      clear hHeld hK K c12 f12; have hHeld := hHeld2; clear hHeld2
      try simp only [Act.put, List.setIfInBounds_toArray, List.set_cons_zero, List.set_cons_succ]
      refine H.other2 n13 (Nat.ne_of_lt dn13_n12) (fun n13x => ?_)
      refine H.stored2 n12 (fun n12x => ?_)
      refine H.forget2 hHeld n13x n12x (fun w1 hHeld n13y n12y => ?_)
      clear n13 n13x; have n13 := n13y; clear n13y
      clear n12 n12x; have n12 := n12y; clear n12y
      refine H.ready [9] (by kernel_rfl) (by simp) ?_
      refine H.one rfl (by rfl) (fun K hK => ?_) AllReadyH.nil
      have c13 := n13.two; have f13 := n13.free0
      go_simp
      refine hK.out _ _ ?_ (fun hHeld2 => ?_)
      · exact ⟨hHeld.1.else2 (Nat.ne_of_lt e13_0), hHeld.2.1.else2 (Nat.ne_of_lt e13_1), hHeld.2.2.1.else2 (Nat.ne_of_lt e13_2), hHeld.2.2.2.1.else2 (Nat.ne_of_lt e13_3), Below.put2 hHeld.2.2.2.2 z13⟩
      clear hHeld hK K c13 f13; have hHeld := hHeld2; clear hHeld2
      try simp only [Act.put, List.setIfInBounds_toArray, List.set_cons_zero, List.set_cons_succ]
      refine H.other2 n12 (Nat.ne_of_gt dn13_n12) (fun n12x => ?_)
      refine H.stored2 n13 (fun n13x => ?_)
      refine H.forget2 hHeld n13x n12x (fun w1 hHeld n13y n12y => ?_)
      clear n13 n13x; have n13 := n13y; clear n13y
      clear n12 n12x; have n12 := n12y; clear n12y
      refine H.done (by kernel_rfl) ?_ _
      show K _ _
      exact hQ.out _ _ _ _ _ _ _ _ _ ⟨_, _, rfl, rfl, n12, n13, hHeld⟩
    exact AllReadyH.nil
  exact AllReadyH.nil
end Go.Proofs.Ytkmegldbmjpdmaa
