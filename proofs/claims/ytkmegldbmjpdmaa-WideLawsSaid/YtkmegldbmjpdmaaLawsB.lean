
/-
  WideLaws: the region that makes 'left' and 'right'.
-/
import Derived.Test.YtkmegldbmjpdmaaWMul
import Derived.Test.YtkmegldbmjpdmaaKit2
namespace Go.Proofs.Ytkmegldbmjpdmaa
open Go.RowKit

noncomputable def laws_r8_code : Code := ((Try.f6.body.bind (findRegion 8)).getD .skip)
set_option maxRecDepth 100000 in set_option maxHeartbeats 8000000 in
theorem laws_r8 {a b c s t L R : Int} {B4 B5 B6 B9 : Nat} {W : World} (SC : Hid (∀ w : World, Calls Try.prog 13 #[.agg #[.int .i64 (hi s), .int .u64 (lo s)], .agg #[.int .i64 (hi c), .int .u64 (lo c)]] w fun e w' => e = .returned (.agg #[.int .i64 (hi L), .int .u64 (lo L)]) ∧ Below w.heap.size w w')) (BC : Hid (∀ w : World, Calls Try.prog 13 #[.agg #[.int .i64 (hi b), .int .u64 (lo b)], .agg #[.int .i64 (hi c), .int .u64 (lo c)]] w fun e w' => e = .returned (.agg #[.int .i64 (hi t), .int .u64 (lo t)]) ∧ Below w.heap.size w w')) (AT : Hid (∀ w : World, Calls Try.prog 13 #[.agg #[.int .i64 (hi a), .int .u64 (lo a)], .agg #[.int .i64 (hi t), .int .u64 (lo t)]] w fun e w' => e = .returned (.agg #[.int .i64 (hi R), .int .u64 (lo R)]) ∧ Below w.heap.size w w')) {u0 u1 u2 u3 u7 u8 u10 u11 u12 u13 u14 u15 u16 u17 u18 u19 u20 u21 u22 u23 u24 u25 u26 u27 u28 u29 u30 u31 u32 u33 u34 u35 u36 u37 u38 u39 u40 u41 u42 u43 u44 u45 u46 u47 u48 u49 u50 u51 u52 u53 u54 u55 u56 u57 u58 u59 u60 u61 u62 u63 u64 u65 u66 u67 u68 u69 u70 u71 u72 u73 u74 u75 u76 u77 u78 u79 u80 u81 u82 u83 u84 u85 u86 u87 u88 u89 u90 u91 u92 u93 u94 u95 u96 u97 u98 u99 u100 u101 u102 u103 u104 u105 u106 u107 u108 u109 u110 u111 u112 u113 u114 u115 u116 u117 u118 u119 u120 u121 u122 u123 u124 u125 u126 u127 u128 u129 u130 u131 u132 u133 u134 u135 u136 u137 u138 u139 u140 u141 u142 u143 u144 u145 u146 u147 u148 u149 u150 u151 u152 u153 u154 u155 u156 u157 u158 u159 u160 u161 u162 u163 u164 : Value} {K : Act → World → Prop} {Q' : Exit → Act → World → Prop} {w1 : World} (hHeld : (fun w' => Blk w' B4 #[.int .i64 (hi a), .int .u64 (lo a)] 24 ∧ Blk w' B5 #[.int .i64 (hi b), .int .u64 (lo b)] 24 ∧ Blk w' B6 #[.int .i64 (hi c), .int .u64 (lo c)] 24 ∧ Blk w' B9 #[.int .i64 (hi s), .int .u64 (lo s)] 24 ∧ Below W.heap.size W w') w1)
    (hP : ∀ c t t2 d w, Q' (.panic c) ⟨t, d⟩ w → Q' (.panic c) ⟨t2, d⟩ w)
    (hK : ∀ (v10 v11 v46 v47 v48 v49 v50 v51 v52 v53 : Value) (w2 : World), (TwoNew (fun w' => Blk w' B4 #[.int .i64 (hi a), .int .u64 (lo a)] 24 ∧ Blk w' B5 #[.int .i64 (hi b), .int .u64 (lo b)] 24 ∧ Blk w' B6 #[.int .i64 (hi c), .int .u64 (lo c)] 24 ∧ Blk w' B9 #[.int .i64 (hi s), .int .u64 (lo s)] 24 ∧ Below W.heap.size W w') #[.int .i64 (hi L), .int .u64 (lo L)] #[.int .i64 (hi R), .int .u64 (lo R)] 24 v10 v11 w2) → K ⟨List.toArray (u0 :: u1 :: u2 :: u3 :: (.pointer (some ⟨B4, 0, none⟩)) :: (.pointer (some ⟨B5, 0, none⟩)) :: (.pointer (some ⟨B6, 0, none⟩)) :: u7 :: u8 :: (.pointer (some ⟨B9, 0, none⟩)) :: v10 :: v11 :: u12 :: u13 :: u14 :: u15 :: u16 :: u17 :: u18 :: u19 :: u20 :: u21 :: u22 :: u23 :: u24 :: u25 :: u26 :: u27 :: u28 :: u29 :: u30 :: u31 :: u32 :: u33 :: u34 :: u35 :: u36 :: u37 :: u38 :: u39 :: u40 :: u41 :: u42 :: u43 :: u44 :: u45 :: v46 :: v47 :: v48 :: v49 :: v50 :: v51 :: v52 :: v53 :: u54 :: u55 :: u56 :: u57 :: u58 :: u59 :: u60 :: u61 :: u62 :: u63 :: u64 :: u65 :: u66 :: u67 :: u68 :: u69 :: u70 :: u71 :: u72 :: u73 :: u74 :: u75 :: u76 :: u77 :: u78 :: u79 :: u80 :: u81 :: u82 :: u83 :: u84 :: u85 :: u86 :: u87 :: u88 :: u89 :: u90 :: u91 :: u92 :: u93 :: u94 :: u95 :: u96 :: u97 :: u98 :: u99 :: u100 :: u101 :: u102 :: u103 :: u104 :: u105 :: u106 :: u107 :: u108 :: u109 :: u110 :: u111 :: u112 :: u113 :: u114 :: u115 :: u116 :: u117 :: u118 :: u119 :: u120 :: u121 :: u122 :: u123 :: u124 :: u125 :: u126 :: u127 :: u128 :: u129 :: u130 :: u131 :: u132 :: u133 :: u134 :: u135 :: u136 :: u137 :: u138 :: u139 :: u140 :: u141 :: u142 :: u143 :: u144 :: u145 :: u146 :: u147 :: u148 :: u149 :: u150 :: u151 :: u152 :: u153 :: u154 :: u155 :: u156 :: u157 :: u158 :: u159 :: u160 :: u161 :: u162 :: u163 :: u164 :: []), []⟩ w2) :
    Code.wp Try.prog laws_r8_code (Exit.then K Q') ⟨List.toArray (u0 :: u1 :: u2 :: u3 :: (.pointer (some ⟨B4, 0, none⟩)) :: (.pointer (some ⟨B5, 0, none⟩)) :: (.pointer (some ⟨B6, 0, none⟩)) :: u7 :: u8 :: (.pointer (some ⟨B9, 0, none⟩)) :: u10 :: u11 :: u12 :: u13 :: u14 :: u15 :: u16 :: u17 :: u18 :: u19 :: u20 :: u21 :: u22 :: u23 :: u24 :: u25 :: u26 :: u27 :: u28 :: u29 :: u30 :: u31 :: u32 :: u33 :: u34 :: u35 :: u36 :: u37 :: u38 :: u39 :: u40 :: u41 :: u42 :: u43 :: u44 :: u45 :: u46 :: u47 :: u48 :: u49 :: u50 :: u51 :: u52 :: u53 :: u54 :: u55 :: u56 :: u57 :: u58 :: u59 :: u60 :: u61 :: u62 :: u63 :: u64 :: u65 :: u66 :: u67 :: u68 :: u69 :: u70 :: u71 :: u72 :: u73 :: u74 :: u75 :: u76 :: u77 :: u78 :: u79 :: u80 :: u81 :: u82 :: u83 :: u84 :: u85 :: u86 :: u87 :: u88 :: u89 :: u90 :: u91 :: u92 :: u93 :: u94 :: u95 :: u96 :: u97 :: u98 :: u99 :: u100 :: u101 :: u102 :: u103 :: u104 :: u105 :: u106 :: u107 :: u108 :: u109 :: u110 :: u111 :: u112 :: u113 :: u114 :: u115 :: u116 :: u117 :: u118 :: u119 :: u120 :: u121 :: u122 :: u123 :: u124 :: u125 :: u126 :: u127 :: u128 :: u129 :: u130 :: u131 :: u132 :: u133 :: u134 :: u135 :: u136 :: u137 :: u138 :: u139 :: u140 :: u141 :: u142 :: u143 :: u144 :: u145 :: u146 :: u147 :: u148 :: u149 :: u150 :: u151 :: u152 :: u153 :: u154 :: u155 :: u156 :: u157 :: u158 :: u159 :: u160 :: u161 :: u162 :: u163 :: u164 :: []), []⟩ w1 := by
  conv => arg 2; whnf
  have hQ := Lib.hid hK; clear hK
  have qB4 := fun (w' : World) (h : Blk w' B4 #[.int .i64 (hi a), .int .u64 (lo a)] 24) => h.two
  have qB5 := fun (w' : World) (h : Blk w' B5 #[.int .i64 (hi b), .int .u64 (lo b)] 24) => h.two
  have qB6 := fun (w' : World) (h : Blk w' B6 #[.int .i64 (hi c), .int .u64 (lo c)] 24) => h.two
  have qB9 := fun (w' : World) (h : Blk w' B9 #[.int .i64 (hi s), .int .u64 (lo s)] 24) => h.two
  refine H.begin (fun w' => Blk w' B4 #[.int .i64 (hi a), .int .u64 (lo a)] 24 ∧ Blk w' B5 #[.int .i64 (hi b), .int .u64 (lo b)] 24 ∧ Blk w' B6 #[.int .i64 (hi c), .int .u64 (lo c)] 24 ∧ Blk w' B9 #[.int .i64 (hi s), .int .u64 (lo s)] 24 ∧ Below W.heap.size W w') (by kernel_rfl) ⟨hHeld.1.drew, hHeld.2.1.drew, hHeld.2.2.1.drew, hHeld.2.2.2.1.drew, hHeld.2.2.2.2.drew⟩ (fun w1 hHeld => ?_)
  refine H.take 0 (v := ?_) rfl (by kernel_rfl) (fun _ a _ h => hP _ _ a.tmps a.defers _ h) (by rfl) ?_ (by assumption) ?_
  rotate_left
  · (intro wz hSw; (try dsimp only at hSw); go_simp <;> with_reducible rfl)
  try simp only [Act.put, List.setIfInBounds_toArray, List.set_cons_zero, List.set_cons_succ]
  refine H.take 1 (v := ?_) rfl (by kernel_rfl) (fun _ a _ h => hP _ _ a.tmps a.defers _ h) (by rfl) ?_ (by assumption) ?_
  rotate_left
  · (intro wz hSw; (try dsimp only at hSw); go_simp <;> with_reducible rfl)
  try simp only [Act.put, List.setIfInBounds_toArray, List.set_cons_zero, List.set_cons_succ]
  refine H.take 3 (v := ?_) rfl (by kernel_rfl) (fun _ a _ h => hP _ _ a.tmps a.defers _ h) (by rfl) ?_ (by assumption) ?_
  rotate_left
  · (intro wz hSw; (try dsimp only at hSw); go_simp <;> with_reducible rfl)
  try simp only [Act.put, List.setIfInBounds_toArray, List.set_cons_zero, List.set_cons_succ]
  refine H.take 4 (v := ?_) rfl (by kernel_rfl) (fun _ a _ h => hP _ _ a.tmps a.defers _ h) (by rfl) ?_ (by assumption) ?_
  rotate_left
  · (intro wz hSw; (try dsimp only at hSw); go_simp <;> with_reducible rfl)
  try simp only [Act.put, List.setIfInBounds_toArray, List.set_cons_zero, List.set_cons_succ]
  refine H.take 5 (v := ?_) rfl (by kernel_rfl) (fun _ a _ h => hP _ _ a.tmps a.defers _ h) (by rfl) ?_ (by assumption) ?_
  rotate_left
  · (intro wz hSw; (try dsimp only at hSw); go_simp <;> with_reducible rfl)
  try simp only [Act.put, List.setIfInBounds_toArray, List.set_cons_zero, List.set_cons_succ]
  refine H.ready [2, 8, 9] (by kernel_rfl) (by simp) ?_
  refine H.one rfl (by rfl) (fun K hK => ?_) ?_
  · skip
    go_simp
    go_at_call 13
    refine (SC.out _).mono ?_
    rintro e w1 ⟨rfl, hb⟩
    refine hK.out _ _ ?_ (fun hHeld2 => ?_)
    · exact ⟨Blk.keep hb hHeld.1, Blk.keep hb hHeld.2.1, Blk.keep hb hHeld.2.2.1, Blk.keep hb hHeld.2.2.2.1, hHeld.2.2.2.2.trans (hb.mono hHeld.2.2.2.2.size)⟩
    clear hHeld hK K; have hHeld := hHeld2; clear hHeld2
    try simp only [Act.put, List.setIfInBounds_toArray, List.set_cons_zero, List.set_cons_succ]
    refine H.ready [6, 8, 9] (by kernel_rfl) (by simp) ?_
    refine H.one rfl (by rfl) (fun K hK => ?_) ?_
    · skip
      go_simp
      go_at_call 13
      refine (BC.out _).mono ?_
      rintro e w1 ⟨rfl, hb⟩
      refine hK.out _ _ ?_ (fun hHeld2 => ?_)
      · exact ⟨Blk.keep hb hHeld.1, Blk.keep hb hHeld.2.1, Blk.keep hb hHeld.2.2.1, Blk.keep hb hHeld.2.2.2.1, hHeld.2.2.2.2.trans (hb.mono hHeld.2.2.2.2.size)⟩
      clear hHeld hK K; have hHeld := hHeld2; clear hHeld2
      try simp only [Act.put, List.setIfInBounds_toArray, List.set_cons_zero, List.set_cons_succ]
      refine H.ready [7, 8, 9] (by kernel_rfl) (by simp) ?_
      refine H.one rfl (by rfl) (fun K hK => ?_) ?_
      · skip
        go_simp
        go_at_call 13
        refine (AT.out _).mono ?_
        rintro e w1 ⟨rfl, hb⟩
        refine hK.out _ _ ?_ (fun hHeld2 => ?_)
        · exact ⟨Blk.keep hb hHeld.1, Blk.keep hb hHeld.2.1, Blk.keep hb hHeld.2.2.1, Blk.keep hb hHeld.2.2.2.1, hHeld.2.2.2.2.trans (hb.mono hHeld.2.2.2.2.size)⟩
        clear hHeld hK K; have hHeld := hHeld2; clear hHeld2
        try simp only [Act.put, List.setIfInBounds_toArray, List.set_cons_zero, List.set_cons_succ]
        refine H.ready [8, 9] (by kernel_rfl) (by simp) ?_
        refine H.one rfl (by rfl) (fun K hK => ?_) ?_
        · skip
          have e10_0 := hHeld.1.lt
          have e10_1 := hHeld.2.1.lt
          have e10_2 := hHeld.2.2.1.lt
          have e10_3 := hHeld.2.2.2.1.lt
          have z10 := hHeld.2.2.2.2.size
          try simp only [World.size_alloc] at e10_0 e10_1 e10_2 e10_3 z10
          go_simp
          refine hK.out _ _ ?_ (fun hHeld2 => ?_)
          · exact ⟨hHeld.1.old _, hHeld.2.1.old _, hHeld.2.2.1.old _, hHeld.2.2.2.1.old _, hHeld.2.2.2.2.alloc hHeld.2.2.2.2.size _⟩
          clear hHeld hK K; have hHeld := hHeld2; clear hHeld2
          try simp only [Act.put, List.setIfInBounds_toArray, List.set_cons_zero, List.set_cons_succ]
          refine H.fresh (fun n10 => ?_)
          refine H.forget1 hHeld n10 (fun w1 hHeld n10 => ?_)
          refine H.ready [9] (by kernel_rfl) (by simp) ?_
          refine H.one rfl (by rfl) (fun K hK => ?_) AllReadyH.nil
          have e11_0 := hHeld.1.lt
          have e11_1 := hHeld.2.1.lt
          have e11_2 := hHeld.2.2.1.lt
          have e11_3 := hHeld.2.2.2.1.lt
          have z11 := hHeld.2.2.2.2.size
          have dn10_n11 := n10.lt
          try simp only [World.size_alloc] at e11_0 e11_1 e11_2 e11_3 z11 dn10_n11
          go_simp
          refine hK.out _ _ ?_ (fun hHeld2 => ?_)
          · exact ⟨hHeld.1.old _, hHeld.2.1.old _, hHeld.2.2.1.old _, hHeld.2.2.2.1.old _, hHeld.2.2.2.2.alloc hHeld.2.2.2.2.size _⟩
          clear hHeld hK K; have hHeld := hHeld2; clear hHeld2
          replace n10 := Blk.old n10 (.cells #[.int .i64 0, .int .u64 0] 24)
          try simp only [Act.put, List.setIfInBounds_toArray, List.set_cons_zero, List.set_cons_succ]
          refine H.fresh (fun n11 => ?_)
          refine H.forget2 hHeld n10 n11 (fun w1 hHeld n10 n11 => ?_)
          refine H.ready [10] (by kernel_rfl) (by simp) ?_
          refine H.one rfl (by rfl) (fun K hK => ?_) AllReadyH.nil
          have c10 := n10.two; have f10 := n10.free0
          go_simp
          refine hK.out _ _ ?_ (fun hHeld2 => ?_)
          · exact ⟨hHeld.1.else2 (Nat.ne_of_lt e10_0), hHeld.2.1.else2 (Nat.ne_of_lt e10_1), hHeld.2.2.1.else2 (Nat.ne_of_lt e10_2), hHeld.2.2.2.1.else2 (Nat.ne_of_lt e10_3), Below.put2 hHeld.2.2.2.2 z10⟩
          clear hHeld hK K c10 f10; have hHeld := hHeld2; clear hHeld2
          try simp only [Act.put, List.setIfInBounds_toArray, List.set_cons_zero, List.set_cons_succ]
          refine H.other2 n11 (Nat.ne_of_gt dn10_n11) (fun n11x => ?_)
          refine H.stored2 n10 (fun n10x => ?_)
          refine H.forget2 hHeld n10x n11x (fun w1 hHeld n10y n11y => ?_)
          clear n10 n10x; have n10 := n10y; clear n10y
          clear n11 n11x; have n11 := n11y; clear n11y
          refine H.ready [11] (by kernel_rfl) (by simp) ?_
          refine H.one rfl (by rfl) (fun K hK => ?_) AllReadyH.nil
          have c11 := n11.two; have f11 := n11.free0
          go_simp
          refine hK.out _ _ ?_ (fun hHeld2 => ?_)
          · exact ⟨hHeld.1.else2 (Nat.ne_of_lt e11_0), hHeld.2.1.else2 (Nat.ne_of_lt e11_1), hHeld.2.2.1.else2 (Nat.ne_of_lt e11_2), hHeld.2.2.2.1.else2 (Nat.ne_of_lt e11_3), Below.put2 hHeld.2.2.2.2 z11⟩
          clear hHeld hK K c11 f11; have hHeld := hHeld2; clear hHeld2
          try simp only [Act.put, List.setIfInBounds_toArray, List.set_cons_zero, List.set_cons_succ]
          refine H.other2 n10 (Nat.ne_of_lt dn10_n11) (fun n10x => ?_)
          refine H.stored2 n11 (fun n11x => ?_)
          refine H.forget2 hHeld n10x n11x (fun w1 hHeld n10y n11y => ?_)
          clear n10 n10x; have n10 := n10y; clear n10y
          clear n11 n11x; have n11 := n11y; clear n11y
          refine H.done (by kernel_rfl) ?_ _
          show K _ _
          exact hQ.out _ _ _ _ _ _ _ _ _ _ _ ⟨_, _, rfl, rfl, n10, n11, hHeld⟩
        refine H.one rfl (by rfl) (fun K hK => ?_) ?_
        · skip
          have e11_0 := hHeld.1.lt
          have e11_1 := hHeld.2.1.lt
          have e11_2 := hHeld.2.2.1.lt
          have e11_3 := hHeld.2.2.2.1.lt
          have z11 := hHeld.2.2.2.2.size
          try simp only [World.size_alloc] at e11_0 e11_1 e11_2 e11_3 z11
          go_simp
          refine hK.out _ _ ?_ (fun hHeld2 => ?_)
          · exact ⟨hHeld.1.old _, hHeld.2.1.old _, hHeld.2.2.1.old _, hHeld.2.2.2.1.old _, hHeld.2.2.2.2.alloc hHeld.2.2.2.2.size _⟩
          clear hHeld hK K; have hHeld := hHeld2; clear hHeld2
          try simp only [Act.put, List.setIfInBounds_toArray, List.set_cons_zero, List.set_cons_succ]
          refine H.fresh (fun n11 => ?_)
          refine H.forget1 hHeld n11 (fun w1 hHeld n11 => ?_)
          refine H.ready [8] (by kernel_rfl) (by simp) ?_
          refine H.one rfl (by rfl) (fun K hK => ?_) AllReadyH.nil
          have e10_0 := hHeld.1.lt
          have e10_1 := hHeld.2.1.lt
          have e10_2 := hHeld.2.2.1.lt
          have e10_3 := hHeld.2.2.2.1.lt
          have z10 := hHeld.2.2.2.2.size
          have dn11_n10 := n11.lt
          try simp only [World.size_alloc] at e10_0 e10_1 e10_2 e10_3 z10 dn11_n10
          go_simp
          refine hK.out _ _ ?_ (fun hHeld2 => ?_)
          · exact ⟨hHeld.1.old _, hHeld.2.1.old _, hHeld.2.2.1.old _, hHeld.2.2.2.1.old _, hHeld.2.2.2.2.alloc hHeld.2.2.2.2.size _⟩
          clear hHeld hK K; have hHeld := hHeld2; clear hHeld2
          replace n11 := Blk.old n11 (.cells #[.int .i64 0, .int .u64 0] 24)
          try simp only [Act.put, List.setIfInBounds_toArray, List.set_cons_zero, List.set_cons_succ]
          refine H.fresh (fun n10 => ?_)
          refine H.forget2 hHeld n11 n10 (fun w1 hHeld n11 n10 => ?_)
          refine H.ready [10] (by kernel_rfl) (by simp) ?_
          refine H.one rfl (by rfl) (fun K hK => ?_) AllReadyH.nil
          have c10 := n10.two; have f10 := n10.free0
          go_simp
          refine hK.out _ _ ?_ (fun hHeld2 => ?_)
          · exact ⟨hHeld.1.else2 (Nat.ne_of_lt e10_0), hHeld.2.1.else2 (Nat.ne_of_lt e10_1), hHeld.2.2.1.else2 (Nat.ne_of_lt e10_2), hHeld.2.2.2.1.else2 (Nat.ne_of_lt e10_3), Below.put2 hHeld.2.2.2.2 z10⟩
          clear hHeld hK K c10 f10; have hHeld := hHeld2; clear hHeld2
          try simp only [Act.put, List.setIfInBounds_toArray, List.set_cons_zero, List.set_cons_succ]
          refine H.other2 n11 (Nat.ne_of_lt dn11_n10) (fun n11x => ?_)
          refine H.stored2 n10 (fun n10x => ?_)
          refine H.forget2 hHeld n11x n10x (fun w1 hHeld n11y n10y => ?_)
          clear n11 n11x; have n11 := n11y; clear n11y
          clear n10 n10x; have n10 := n10y; clear n10y
          refine H.ready [11] (by kernel_rfl) (by simp) ?_
          refine H.one rfl (by rfl) (fun K hK => ?_) AllReadyH.nil
          have c11 := n11.two; have f11 := n11.free0
          go_simp
          refine hK.out _ _ ?_ (fun hHeld2 => ?_)
          · exact ⟨hHeld.1.else2 (Nat.ne_of_lt e11_0), hHeld.2.1.else2 (Nat.ne_of_lt e11_1), hHeld.2.2.1.else2 (Nat.ne_of_lt e11_2), hHeld.2.2.2.1.else2 (Nat.ne_of_lt e11_3), Below.put2 hHeld.2.2.2.2 z11⟩
          clear hHeld hK K c11 f11; have hHeld := hHeld2; clear hHeld2
          try simp only [Act.put, List.setIfInBounds_toArray, List.set_cons_zero, List.set_cons_succ]
          refine H.other2 n10 (Nat.ne_of_gt dn11_n10) (fun n10x => ?_)
          refine H.stored2 n11 (fun n11x => ?_)
          refine H.forget2 hHeld n11x n10x (fun w1 hHeld n11y n10y => ?_)
          clear n11 n11x; have n11 := n11y; clear n11y
          clear n10 n10x; have n10 := n10y; clear n10y
          refine H.done (by kernel_rfl) ?_ _
          show K _ _
          exact hQ.out _ _ _ _ _ _ _ _ _ _ _ ⟨_, _, rfl, rfl, n10, n11, hHeld⟩
        exact AllReadyH.nil
      refine H.one rfl (by rfl) (fun K hK => ?_) ?_
      · skip
        have e10_0 := hHeld.1.lt
        have e10_1 := hHeld.2.1.lt
        have e10_2 := hHeld.2.2.1.lt
        have e10_3 := hHeld.2.2.2.1.lt
        have z10 := hHeld.2.2.2.2.size
        try simp only [World.size_alloc] at e10_0 e10_1 e10_2 e10_3 z10
        go_simp
        refine hK.out _ _ ?_ (fun hHeld2 => ?_)
        · exact ⟨hHeld.1.old _, hHeld.2.1.old _, hHeld.2.2.1.old _, hHeld.2.2.2.1.old _, hHeld.2.2.2.2.alloc hHeld.2.2.2.2.size _⟩
        clear hHeld hK K; have hHeld := hHeld2; clear hHeld2
        try simp only [Act.put, List.setIfInBounds_toArray, List.set_cons_zero, List.set_cons_succ]
        refine H.fresh (fun n10 => ?_)
        refine H.forget1 hHeld n10 (fun w1 hHeld n10 => ?_)
        refine H.ready [7, 9] (by kernel_rfl) (by simp) ?_
        refine H.one rfl (by rfl) (fun K hK => ?_) ?_
        · skip
          go_simp
          go_at_call 13
          refine (AT.out _).mono ?_
          rintro e w1 ⟨rfl, hb⟩
          refine hK.out _ _ ?_ (fun hHeld2 => ?_)
          · exact ⟨Blk.keep hb hHeld.1, Blk.keep hb hHeld.2.1, Blk.keep hb hHeld.2.2.1, Blk.keep hb hHeld.2.2.2.1, hHeld.2.2.2.2.trans (hb.mono hHeld.2.2.2.2.size)⟩
          clear hHeld hK K; have hHeld := hHeld2; clear hHeld2
          replace n10 := Blk.keep hb n10
          try simp only [Act.put, List.setIfInBounds_toArray, List.set_cons_zero, List.set_cons_succ]
          refine H.ready [9] (by kernel_rfl) (by simp) ?_
          refine H.one rfl (by rfl) (fun K hK => ?_) AllReadyH.nil
          have e11_0 := hHeld.1.lt
          have e11_1 := hHeld.2.1.lt
          have e11_2 := hHeld.2.2.1.lt
          have e11_3 := hHeld.2.2.2.1.lt
          have z11 := hHeld.2.2.2.2.size
          have dn10_n11 := n10.lt
          try simp only [World.size_alloc] at e11_0 e11_1 e11_2 e11_3 z11 dn10_n11
          go_simp
          refine hK.out _ _ ?_ (fun hHeld2 => ?_)
          · exact ⟨hHeld.1.old _, hHeld.2.1.old _, hHeld.2.2.1.old _, hHeld.2.2.2.1.old _, hHeld.2.2.2.2.alloc hHeld.2.2.2.2.size _⟩
          clear hHeld hK K; have hHeld := hHeld2; clear hHeld2
          replace n10 := Blk.old n10 (.cells #[.int .i64 0, .int .u64 0] 24)
          try simp only [Act.put, List.setIfInBounds_toArray, List.set_cons_zero, List.set_cons_succ]
          refine H.fresh (fun n11 => ?_)
          refine H.forget2 hHeld n10 n11 (fun w1 hHeld n10 n11 => ?_)
          refine H.ready [10] (by kernel_rfl) (by simp) ?_
          refine H.one rfl (by rfl) (fun K hK => ?_) AllReadyH.nil
          have c10 := n10.two; have f10 := n10.free0
          go_simp
          refine hK.out _ _ ?_ (fun hHeld2 => ?_)
          · exact ⟨hHeld.1.else2 (Nat.ne_of_lt e10_0), hHeld.2.1.else2 (Nat.ne_of_lt e10_1), hHeld.2.2.1.else2 (Nat.ne_of_lt e10_2), hHeld.2.2.2.1.else2 (Nat.ne_of_lt e10_3), Below.put2 hHeld.2.2.2.2 z10⟩
          clear hHeld hK K c10 f10; have hHeld := hHeld2; clear hHeld2
          try simp only [Act.put, List.setIfInBounds_toArray, List.set_cons_zero, List.set_cons_succ]
          refine H.other2 n11 (Nat.ne_of_gt dn10_n11) (fun n11x => ?_)
          refine H.stored2 n10 (fun n10x => ?_)
          refine H.forget2 hHeld n10x n11x (fun w1 hHeld n10y n11y => ?_)
          clear n10 n10x; have n10 := n10y; clear n10y
          clear n11 n11x; have n11 := n11y; clear n11y
          refine H.ready [11] (by kernel_rfl) (by simp) ?_
          refine H.one rfl (by rfl) (fun K hK => ?_) AllReadyH.nil
          have c11 := n11.two; have f11 := n11.free0
          go_simp
          refine hK.out _ _ ?_ (fun hHeld2 => ?_)
          · exact ⟨hHeld.1.else2 (Nat.ne_of_lt e11_0), hHeld.2.1.else2 (Nat.ne_of_lt e11_1), hHeld.2.2.1.else2 (Nat.ne_of_lt e11_2), hHeld.2.2.2.1.else2 (Nat.ne_of_lt e11_3), Below.put2 hHeld.2.2.2.2 z11⟩
          clear hHeld hK K c11 f11; have hHeld := hHeld2; clear hHeld2
          try simp only [Act.put, List.setIfInBounds_toArray, List.set_cons_zero, List.set_cons_succ]
          refine H.other2 n10 (Nat.ne_of_lt dn10_n11) (fun n10x => ?_)
          refine H.stored2 n11 (fun n11x => ?_)
          refine H.forget2 hHeld n10x n11x (fun w1 hHeld n10y n11y => ?_)
          clear n10 n10x; have n10 := n10y; clear n10y
          clear n11 n11x; have n11 := n11y; clear n11y
          refine H.done (by kernel_rfl) ?_ _
          show K _ _
          exact hQ.out _ _ _ _ _ _ _ _ _ _ _ ⟨_, _, rfl, rfl, n10, n11, hHeld⟩
        refine H.one rfl (by rfl) (fun K hK => ?_) ?_
        · skip
          have e11_0 := hHeld.1.lt
          have e11_1 := hHeld.2.1.lt
          have e11_2 := hHeld.2.2.1.lt
          have e11_3 := hHeld.2.2.2.1.lt
          have z11 := hHeld.2.2.2.2.size
          have dn10_n11 := n10.lt
          try simp only [World.size_alloc] at e11_0 e11_1 e11_2 e11_3 z11 dn10_n11
          go_simp
          refine hK.out _ _ ?_ (fun hHeld2 => ?_)
          · exact ⟨hHeld.1.old _, hHeld.2.1.old _, hHeld.2.2.1.old _, hHeld.2.2.2.1.old _, hHeld.2.2.2.2.alloc hHeld.2.2.2.2.size _⟩
          clear hHeld hK K; have hHeld := hHeld2; clear hHeld2
          replace n10 := Blk.old n10 (.cells #[.int .i64 0, .int .u64 0] 24)
          try simp only [Act.put, List.setIfInBounds_toArray, List.set_cons_zero, List.set_cons_succ]
          refine H.fresh (fun n11 => ?_)
          refine H.forget2 hHeld n10 n11 (fun w1 hHeld n10 n11 => ?_)
          refine H.ready [7] (by kernel_rfl) (by simp) ?_
          refine H.one rfl (by rfl) (fun K hK => ?_) AllReadyH.nil
          go_simp
          go_at_call 13
          refine (AT.out _).mono ?_
          rintro e w1 ⟨rfl, hb⟩
          refine hK.out _ _ ?_ (fun hHeld2 => ?_)
          · exact ⟨Blk.keep hb hHeld.1, Blk.keep hb hHeld.2.1, Blk.keep hb hHeld.2.2.1, Blk.keep hb hHeld.2.2.2.1, hHeld.2.2.2.2.trans (hb.mono hHeld.2.2.2.2.size)⟩
          clear hHeld hK K; have hHeld := hHeld2; clear hHeld2
          replace n10 := Blk.keep hb n10
          replace n11 := Blk.keep hb n11
          try simp only [Act.put, List.setIfInBounds_toArray, List.set_cons_zero, List.set_cons_succ]
          refine H.ready [10] (by kernel_rfl) (by simp) ?_
          refine H.one rfl (by rfl) (fun K hK => ?_) AllReadyH.nil
          have c10 := n10.two; have f10 := n10.free0
          go_simp
          refine hK.out _ _ ?_ (fun hHeld2 => ?_)
          · exact ⟨hHeld.1.else2 (Nat.ne_of_lt e10_0), hHeld.2.1.else2 (Nat.ne_of_lt e10_1), hHeld.2.2.1.else2 (Nat.ne_of_lt e10_2), hHeld.2.2.2.1.else2 (Nat.ne_of_lt e10_3), Below.put2 hHeld.2.2.2.2 z10⟩
          clear hHeld hK K c10 f10; have hHeld := hHeld2; clear hHeld2
          try simp only [Act.put, List.setIfInBounds_toArray, List.set_cons_zero, List.set_cons_succ]
          refine H.other2 n11 (Nat.ne_of_gt dn10_n11) (fun n11x => ?_)
          refine H.stored2 n10 (fun n10x => ?_)
          refine H.forget2 hHeld n10x n11x (fun w1 hHeld n10y n11y => ?_)
          clear n10 n10x; have n10 := n10y; clear n10y
          clear n11 n11x; have n11 := n11y; clear n11y
          refine H.ready [11] (by kernel_rfl) (by simp) ?_
          refine H.one rfl (by rfl) (fun K hK => ?_) AllReadyH.nil
          have c11 := n11.two; have f11 := n11.free0
          go_simp
          refine hK.out _ _ ?_ (fun hHeld2 => ?_)
          · exact ⟨hHeld.1.else2 (Nat.ne_of_lt e11_0), hHeld.2.1.else2 (Nat.ne_of_lt e11_1), hHeld.2.2.1.else2 (Nat.ne_of_lt e11_2), hHeld.2.2.2.1.else2 (Nat.ne_of_lt e11_3), Below.put2 hHeld.2.2.2.2 z11⟩
          clear hHeld hK K c11 f11; have hHeld := hHeld2; clear hHeld2
          try simp only [Act.put, List.setIfInBounds_toArray, List.set_cons_zero, List.set_cons_succ]
          refine H.other2 n10 (Nat.ne_of_lt dn10_n11) (fun n10x => ?_)
          refine H.stored2 n11 (fun n11x => ?_)
          refine H.forget2 hHeld n10x n11x (fun w1 hHeld n10y n11y => ?_)
          clear n10 n10x; have n10 := n10y; clear n10y
          clear n11 n11x; have n11 := n11y; clear n11y
          refine H.done (by kernel_rfl) ?_ _
          show K _ _
          exact hQ.out _ _ _ _ _ _ _ _ _ _ _ ⟨_, _, rfl, rfl, n10, n11, hHeld⟩
        exact AllReadyH.nil
      refine H.one rfl (by rfl) (fun K hK => ?_) ?_
      · skip
        have e11_0 := hHeld.1.lt
        have e11_1 := hHeld.2.1.lt
        have e11_2 := hHeld.2.2.1.lt
        have e11_3 := hHeld.2.2.2.1.lt
        have z11 := hHeld.2.2.2.2.size
        try simp only [World.size_alloc] at e11_0 e11_1 e11_2 e11_3 z11
        go_simp
        refine hK.out _ _ ?_ (fun hHeld2 => ?_)
        · exact ⟨hHeld.1.old _, hHeld.2.1.old _, hHeld.2.2.1.old _, hHeld.2.2.2.1.old _, hHeld.2.2.2.2.alloc hHeld.2.2.2.2.size _⟩
        clear hHeld hK K; have hHeld := hHeld2; clear hHeld2
        try simp only [Act.put, List.setIfInBounds_toArray, List.set_cons_zero, List.set_cons_succ]
        refine H.fresh (fun n11 => ?_)
        refine H.forget1 hHeld n11 (fun w1 hHeld n11 => ?_)
        refine H.ready [7, 8] (by kernel_rfl) (by simp) ?_
        refine H.one rfl (by rfl) (fun K hK => ?_) ?_
        · skip
          go_simp
          go_at_call 13
          refine (AT.out _).mono ?_
          rintro e w1 ⟨rfl, hb⟩
          refine hK.out _ _ ?_ (fun hHeld2 => ?_)
          · exact ⟨Blk.keep hb hHeld.1, Blk.keep hb hHeld.2.1, Blk.keep hb hHeld.2.2.1, Blk.keep hb hHeld.2.2.2.1, hHeld.2.2.2.2.trans (hb.mono hHeld.2.2.2.2.size)⟩
          clear hHeld hK K; have hHeld := hHeld2; clear hHeld2
          replace n11 := Blk.keep hb n11
          try simp only [Act.put, List.setIfInBounds_toArray, List.set_cons_zero, List.set_cons_succ]
          refine H.ready [8] (by kernel_rfl) (by simp) ?_
          refine H.one rfl (by rfl) (fun K hK => ?_) AllReadyH.nil
          have e10_0 := hHeld.1.lt
          have e10_1 := hHeld.2.1.lt
          have e10_2 := hHeld.2.2.1.lt
          have e10_3 := hHeld.2.2.2.1.lt
          have z10 := hHeld.2.2.2.2.size
          have dn11_n10 := n11.lt
          try simp only [World.size_alloc] at e10_0 e10_1 e10_2 e10_3 z10 dn11_n10
          go_simp
          refine hK.out _ _ ?_ (fun hHeld2 => ?_)
          · exact ⟨hHeld.1.old _, hHeld.2.1.old _, hHeld.2.2.1.old _, hHeld.2.2.2.1.old _, hHeld.2.2.2.2.alloc hHeld.2.2.2.2.size _⟩
          clear hHeld hK K; have hHeld := hHeld2; clear hHeld2
          replace n11 := Blk.old n11 (.cells #[.int .i64 0, .int .u64 0] 24)
          try simp only [Act.put, List.setIfInBounds_toArray, List.set_cons_zero, List.set_cons_succ]
          refine H.fresh (fun n10 => ?_)
          refine H.forget2 hHeld n11 n10 (fun w1 hHeld n11 n10 => ?_)
          refine H.ready [10] (by kernel_rfl) (by simp) ?_
          refine H.one rfl (by rfl) (fun K hK => ?_) AllReadyH.nil
          have c10 := n10.two; have f10 := n10.free0
          go_simp
          refine hK.out _ _ ?_ (fun hHeld2 => ?_)
          · exact ⟨hHeld.1.else2 (Nat.ne_of_lt e10_0), hHeld.2.1.else2 (Nat.ne_of_lt e10_1), hHeld.2.2.1.else2 (Nat.ne_of_lt e10_2), hHeld.2.2.2.1.else2 (Nat.ne_of_lt e10_3), Below.put2 hHeld.2.2.2.2 z10⟩
          clear hHeld hK K c10 f10; have hHeld := hHeld2; clear hHeld2
          try simp only [Act.put, List.setIfInBounds_toArray, List.set_cons_zero, List.set_cons_succ]
          refine H.other2 n11 (Nat.ne_of_lt dn11_n10) (fun n11x => ?_)
          refine H.stored2 n10 (fun n10x => ?_)
          refine H.forget2 hHeld n11x n10x (fun w1 hHeld n11y n10y => ?_)
          clear n11 n11x; have n11 := n11y; clear n11y
          clear n10 n10x; have n10 := n10y; clear n10y
          refine H.ready [11] (by kernel_rfl) (by simp) ?_
          refine H.one rfl (by rfl) (fun K hK => ?_) AllReadyH.nil
          have c11 := n11.two; have f11 := n11.free0
          go_simp
          refine hK.out _ _ ?_ (fun hHeld2 => ?_)
          · exact ⟨hHeld.1.else2 (Nat.ne_of_lt e11_0), hHeld.2.1.else2 (Nat.ne_of_lt e11_1), hHeld.2.2.1.else2 (Nat.ne_of_lt e11_2), hHeld.2.2.2.1.else2 (Nat.ne_of_lt e11_3), Below.put2 hHeld.2.2.2.2 z11⟩
          clear hHeld hK K c11 f11; have hHeld := hHeld2; clear hHeld2
          try simp only [Act.put, List.setIfInBounds_toArray, List.set_cons_zero, List.set_cons_succ]
          refine H.other2 n10 (Nat.ne_of_gt dn11_n10) (fun n10x => ?_)
          refine H.stored2 n11 (fun n11x => ?_)
          refine H.forget2 hHeld n11x n10x (fun w1 hHeld n11y n10y => ?_)
          clear n11 n11x; have n11 := n11y; clear n11y
          clear n10 n10x; have n10 := n10y; clear n10y
          refine H.done (by kernel_rfl) ?_ _
          show K _ _
          exact hQ.out _ _ _ _ _ _ _ _ _ _ _ ⟨_, _, rfl, rfl, n10, n11, hHeld⟩
        refine H.one rfl (by rfl) (fun K hK => ?_) ?_
        · skip
          have e10_0 := hHeld.1.lt
          have e10_1 := hHeld.2.1.lt
          have e10_2 := hHeld.2.2.1.lt
          have e10_3 := hHeld.2.2.2.1.lt
          have z10 := hHeld.2.2.2.2.size
          have dn11_n10 := n11.lt
          try simp only [World.size_alloc] at e10_0 e10_1 e10_2 e10_3 z10 dn11_n10
          go_simp
          refine hK.out _ _ ?_ (fun hHeld2 => ?_)
          · exact ⟨hHeld.1.old _, hHeld.2.1.old _, hHeld.2.2.1.old _, hHeld.2.2.2.1.old _, hHeld.2.2.2.2.alloc hHeld.2.2.2.2.size _⟩
          clear hHeld hK K; have hHeld := hHeld2; clear hHeld2
          replace n11 := Blk.old n11 (.cells #[.int .i64 0, .int .u64 0] 24)
          try simp only [Act.put, List.setIfInBounds_toArray, List.set_cons_zero, List.set_cons_succ]
          refine H.fresh (fun n10 => ?_)
          refine H.forget2 hHeld n11 n10 (fun w1 hHeld n11 n10 => ?_)
          refine H.ready [7] (by kernel_rfl) (by simp) ?_
          refine H.one rfl (by rfl) (fun K hK => ?_) AllReadyH.nil
          go_simp
          go_at_call 13
          refine (AT.out _).mono ?_
          rintro e w1 ⟨rfl, hb⟩
          refine hK.out _ _ ?_ (fun hHeld2 => ?_)
          · exact ⟨Blk.keep hb hHeld.1, Blk.keep hb hHeld.2.1, Blk.keep hb hHeld.2.2.1, Blk.keep hb hHeld.2.2.2.1, hHeld.2.2.2.2.trans (hb.mono hHeld.2.2.2.2.size)⟩
          clear hHeld hK K; have hHeld := hHeld2; clear hHeld2
          replace n11 := Blk.keep hb n11
          replace n10 := Blk.keep hb n10
          try simp only [Act.put, List.setIfInBounds_toArray, List.set_cons_zero, List.set_cons_succ]
          refine H.ready [10] (by kernel_rfl) (by simp) ?_
          refine H.one rfl (by rfl) (fun K hK => ?_) AllReadyH.nil
          have c10 := n10.two; have f10 := n10.free0
          go_simp
          refine hK.out _ _ ?_ (fun hHeld2 => ?_)
          · exact ⟨hHeld.1.else2 (Nat.ne_of_lt e10_0), hHeld.2.1.else2 (Nat.ne_of_lt e10_1), hHeld.2.2.1.else2 (Nat.ne_of_lt e10_2), hHeld.2.2.2.1.else2 (Nat.ne_of_lt e10_3), Below.put2 hHeld.2.2.2.2 z10⟩
          clear hHeld hK K c10 f10; have hHeld := hHeld2; clear hHeld2
          try simp only [Act.put, List.setIfInBounds_toArray, List.set_cons_zero, List.set_cons_succ]
          refine H.other2 n11 (Nat.ne_of_lt dn11_n10) (fun n11x => ?_)
          refine H.stored2 n10 (fun n10x => ?_)
          refine H.forget2 hHeld n11x n10x (fun w1 hHeld n11y n10y => ?_)
          clear n11 n11x; have n11 := n11y; clear n11y
          clear n10 n10x; have n10 := n10y; clear n10y
          refine H.ready [11] (by kernel_rfl) (by simp) ?_
          refine H.one rfl (by rfl) (fun K hK => ?_) AllReadyH.nil
          have c11 := n11.two; have f11 := n11.free0
          go_simp
          refine hK.out _ _ ?_ (fun hHeld2 => ?_)
          · exact ⟨hHeld.1.else2 (Nat.ne_of_lt e11_0), hHeld.2.1.else2 (Nat.ne_of_lt e11_1), hHeld.2.2.1.else2 (Nat.ne_of_lt e11_2), hHeld.2.2.2.1.else2 (Nat.ne_of_lt e11_3), Below.put2 hHeld.2.2.2.2 z11⟩
          clear hHeld hK K c11 f11; have hHeld := hHeld2; clear hHeld2
          try simp only [Act.put, List.setIfInBounds_toArray, List.set_cons_zero, List.set_cons_succ]
          refine H.other2 n10 (Nat.ne_of_gt dn11_n10) (fun n10x => ?_)
          refine H.stored2 n11 (fun n11x => ?_)
          refine H.forget2 hHeld n11x n10x (fun w1 hHeld n11y n10y => ?_)
          clear n11 n11x; have n11 := n11y; clear n11y
          clear n10 n10x; have n10 := n10y; clear n10y
          refine H.done (by kernel_rfl) ?_ _
          show K _ _
          exact hQ.out _ _ _ _ _ _ _ _ _ _ _ ⟨_, _, rfl, rfl, n10, n11, hHeld⟩
        exact AllReadyH.nil
      exact AllReadyH.nil
    refine H.one rfl (by rfl) (fun K hK => ?_) ?_
    · skip
      have e10_0 := hHeld.1.lt
      have e10_1 := hHeld.2.1.lt
      have e10_2 := hHeld.2.2.1.lt
      have e10_3 := hHeld.2.2.2.1.lt
      have z10 := hHeld.2.2.2.2.size
      try simp only [World.size_alloc] at e10_0 e10_1 e10_2 e10_3 z10
      go_simp
      refine hK.out _ _ ?_ (fun hHeld2 => ?_)
      · exact ⟨hHeld.1.old _, hHeld.2.1.old _, hHeld.2.2.1.old _, hHeld.2.2.2.1.old _, hHeld.2.2.2.2.alloc hHeld.2.2.2.2.size _⟩
      clear hHeld hK K; have hHeld := hHeld2; clear hHeld2
      try simp only [Act.put, List.setIfInBounds_toArray, List.set_cons_zero, List.set_cons_succ]
      refine H.fresh (fun n10 => ?_)
      refine H.forget1 hHeld n10 (fun w1 hHeld n10 => ?_)
      refine H.ready [6, 9] (by kernel_rfl) (by simp) ?_
      refine H.one rfl (by rfl) (fun K hK => ?_) ?_
      · skip
        go_simp
        go_at_call 13
        refine (BC.out _).mono ?_
        rintro e w1 ⟨rfl, hb⟩
        refine hK.out _ _ ?_ (fun hHeld2 => ?_)
        · exact ⟨Blk.keep hb hHeld.1, Blk.keep hb hHeld.2.1, Blk.keep hb hHeld.2.2.1, Blk.keep hb hHeld.2.2.2.1, hHeld.2.2.2.2.trans (hb.mono hHeld.2.2.2.2.size)⟩
        clear hHeld hK K; have hHeld := hHeld2; clear hHeld2
        replace n10 := Blk.keep hb n10
        try simp only [Act.put, List.setIfInBounds_toArray, List.set_cons_zero, List.set_cons_succ]
        refine H.ready [7, 9] (by kernel_rfl) (by simp) ?_
        refine H.one rfl (by rfl) (fun K hK => ?_) ?_
        · skip
          go_simp
          go_at_call 13
          refine (AT.out _).mono ?_
          rintro e w1 ⟨rfl, hb⟩
          refine hK.out _ _ ?_ (fun hHeld2 => ?_)
          · exact ⟨Blk.keep hb hHeld.1, Blk.keep hb hHeld.2.1, Blk.keep hb hHeld.2.2.1, Blk.keep hb hHeld.2.2.2.1, hHeld.2.2.2.2.trans (hb.mono hHeld.2.2.2.2.size)⟩
          clear hHeld hK K; have hHeld := hHeld2; clear hHeld2
          replace n10 := Blk.keep hb n10
          try simp only [Act.put, List.setIfInBounds_toArray, List.set_cons_zero, List.set_cons_succ]
          refine H.ready [9] (by kernel_rfl) (by simp) ?_
          refine H.one rfl (by rfl) (fun K hK => ?_) AllReadyH.nil
          have e11_0 := hHeld.1.lt
          have e11_1 := hHeld.2.1.lt
          have e11_2 := hHeld.2.2.1.lt
          have e11_3 := hHeld.2.2.2.1.lt
          have z11 := hHeld.2.2.2.2.size
          have dn10_n11 := n10.lt
          try simp only [World.size_alloc] at e11_0 e11_1 e11_2 e11_3 z11 dn10_n11
          go_simp
          refine hK.out _ _ ?_ (fun hHeld2 => ?_)
          · exact ⟨hHeld.1.old _, hHeld.2.1.old _, hHeld.2.2.1.old _, hHeld.2.2.2.1.old _, hHeld.2.2.2.2.alloc hHeld.2.2.2.2.size _⟩
          clear hHeld hK K; have hHeld := hHeld2; clear hHeld2
          replace n10 := Blk.old n10 (.cells #[.int .i64 0, .int .u64 0] 24)
          try simp only [Act.put, List.setIfInBounds_toArray, List.set_cons_zero, List.set_cons_succ]
          refine H.fresh (fun n11 => ?_)
          refine H.forget2 hHeld n10 n11 (fun w1 hHeld n10 n11 => ?_)
          refine H.ready [10] (by kernel_rfl) (by simp) ?_
          refine H.one rfl (by rfl) (fun K hK => ?_) AllReadyH.nil
          have c10 := n10.two; have f10 := n10.free0
          go_simp
          refine hK.out _ _ ?_ (fun hHeld2 => ?_)
          · exact ⟨hHeld.1.else2 (Nat.ne_of_lt e10_0), hHeld.2.1.else2 (Nat.ne_of_lt e10_1), hHeld.2.2.1.else2 (Nat.ne_of_lt e10_2), hHeld.2.2.2.1.else2 (Nat.ne_of_lt e10_3), Below.put2 hHeld.2.2.2.2 z10⟩
          clear hHeld hK K c10 f10; have hHeld := hHeld2; clear hHeld2
          try simp only [Act.put, List.setIfInBounds_toArray, List.set_cons_zero, List.set_cons_succ]
          refine H.other2 n11 (Nat.ne_of_gt dn10_n11) (fun n11x => ?_)
          refine H.stored2 n10 (fun n10x => ?_)
          refine H.forget2 hHeld n10x n11x (fun w1 hHeld n10y n11y => ?_)
          clear n10 n10x; have n10 := n10y; clear n10y
          clear n11 n11x; have n11 := n11y; clear n11y
          refine H.ready [11] (by kernel_rfl) (by simp) ?_
          refine H.one rfl (by rfl) (fun K hK => ?_) AllReadyH.nil
          have c11 := n11.two; have f11 := n11.free0
          go_simp
          refine hK.out _ _ ?_ (fun hHeld2 => ?_)
          · exact ⟨hHeld.1.else2 (Nat.ne_of_lt e11_0), hHeld.2.1.else2 (Nat.ne_of_lt e11_1), hHeld.2.2.1.else2 (Nat.ne_of_lt e11_2), hHeld.2.2.2.1.else2 (Nat.ne_of_lt e11_3), Below.put2 hHeld.2.2.2.2 z11⟩
          clear hHeld hK K c11 f11; have hHeld := hHeld2; clear hHeld2
          try simp only [Act.put, List.setIfInBounds_toArray, List.set_cons_zero, List.set_cons_succ]
          refine H.other2 n10 (Nat.ne_of_lt dn10_n11) (fun n10x => ?_)
          refine H.stored2 n11 (fun n11x => ?_)
          refine H.forget2 hHeld n10x n11x (fun w1 hHeld n10y n11y => ?_)
          clear n10 n10x; have n10 := n10y; clear n10y
          clear n11 n11x; have n11 := n11y; clear n11y
          refine H.done (by kernel_rfl) ?_ _
          show K _ _
          exact hQ.out _ _ _ _ _ _ _ _ _ _ _ ⟨_, _, rfl, rfl, n10, n11, hHeld⟩
        refine H.one rfl (by rfl) (fun K hK => ?_) ?_
        · skip
          have e11_0 := hHeld.1.lt
          have e11_1 := hHeld.2.1.lt
          have e11_2 := hHeld.2.2.1.lt
          have e11_3 := hHeld.2.2.2.1.lt
          have z11 := hHeld.2.2.2.2.size
          have dn10_n11 := n10.lt
          try simp only [World.size_alloc] at e11_0 e11_1 e11_2 e11_3 z11 dn10_n11
          go_simp
          refine hK.out _ _ ?_ (fun hHeld2 => ?_)
          · exact ⟨hHeld.1.old _, hHeld.2.1.old _, hHeld.2.2.1.old _, hHeld.2.2.2.1.old _, hHeld.2.2.2.2.alloc hHeld.2.2.2.2.size _⟩
          clear hHeld hK K; have hHeld := hHeld2; clear hHeld2
          replace n10 := Blk.old n10 (.cells #[.int .i64 0, .int .u64 0] 24)
          try simp only [Act.put, List.setIfInBounds_toArray, List.set_cons_zero, List.set_cons_succ]
          refine H.fresh (fun n11 => ?_)
          refine H.forget2 hHeld n10 n11 (fun w1 hHeld n10 n11 => ?_)
          refine H.ready [7] (by kernel_rfl) (by simp) ?_
          refine H.one rfl (by rfl) (fun K hK => ?_) AllReadyH.nil
          go_simp
          go_at_call 13
          refine (AT.out _).mono ?_
          rintro e w1 ⟨rfl, hb⟩
          refine hK.out _ _ ?_ (fun hHeld2 => ?_)
          · exact ⟨Blk.keep hb hHeld.1, Blk.keep hb hHeld.2.1, Blk.keep hb hHeld.2.2.1, Blk.keep hb hHeld.2.2.2.1, hHeld.2.2.2.2.trans (hb.mono hHeld.2.2.2.2.size)⟩
          clear hHeld hK K; have hHeld := hHeld2; clear hHeld2
          replace n10 := Blk.keep hb n10
          replace n11 := Blk.keep hb n11
          try simp only [Act.put, List.setIfInBounds_toArray, List.set_cons_zero, List.set_cons_succ]
          refine H.ready [10] (by kernel_rfl) (by simp) ?_
          refine H.one rfl (by rfl) (fun K hK => ?_) AllReadyH.nil
          have c10 := n10.two; have f10 := n10.free0
          go_simp
          refine hK.out _ _ ?_ (fun hHeld2 => ?_)
          · exact ⟨hHeld.1.else2 (Nat.ne_of_lt e10_0), hHeld.2.1.else2 (Nat.ne_of_lt e10_1), hHeld.2.2.1.else2 (Nat.ne_of_lt e10_2), hHeld.2.2.2.1.else2 (Nat.ne_of_lt e10_3), Below.put2 hHeld.2.2.2.2 z10⟩
          clear hHeld hK K c10 f10; have hHeld := hHeld2; clear hHeld2
          try simp only [Act.put, List.setIfInBounds_toArray, List.set_cons_zero, List.set_cons_succ]
          refine H.other2 n11 (Nat.ne_of_gt dn10_n11) (fun n11x => ?_)
          refine H.stored2 n10 (fun n10x => ?_)
          refine H.forget2 hHeld n10x n11x (fun w1 hHeld n10y n11y => ?_)
          clear n10 n10x; have n10 := n10y; clear n10y
          clear n11 n11x; have n11 := n11y; clear n11y
          refine H.ready [11] (by kernel_rfl) (by simp) ?_
          refine H.one rfl (by rfl) (fun K hK => ?_) AllReadyH.nil
          have c11 := n11.two; have f11 := n11.free0
          go_simp
          refine hK.out _ _ ?_ (fun hHeld2 => ?_)
          · exact ⟨hHeld.1.else2 (Nat.ne_of_lt e11_0), hHeld.2.1.else2 (Nat.ne_of_lt e11_1), hHeld.2.2.1.else2 (Nat.ne_of_lt e11_2), hHeld.2.2.2.1.else2 (Nat.ne_of_lt e11_3), Below.put2 hHeld.2.2.2.2 z11⟩
          clear hHeld hK K c11 f11; have hHeld := hHeld2; clear hHeld2
          try simp only [Act.put, List.setIfInBounds_toArray, List.set_cons_zero, List.set_cons_succ]
          refine H.other2 n10 (Nat.ne_of_lt dn10_n11) (fun n10x => ?_)
          refine H.stored2 n11 (fun n11x => ?_)
          refine H.forget2 hHeld n10x n11x (fun w1 hHeld n10y n11y => ?_)
          clear n10 n10x; have n10 := n10y; clear n10y
          clear n11 n11x; have n11 := n11y; clear n11y
          refine H.done (by kernel_rfl) ?_ _
          show K _ _
          exact hQ.out _ _ _ _ _ _ _ _ _ _ _ ⟨_, _, rfl, rfl, n10, n11, hHeld⟩
        exact AllReadyH.nil
      refine H.one rfl (by rfl) (fun K hK => ?_) ?_
      · skip
        have e11_0 := hHeld.1.lt
        have e11_1 := hHeld.2.1.lt
        have e11_2 := hHeld.2.2.1.lt
        have e11_3 := hHeld.2.2.2.1.lt
        have z11 := hHeld.2.2.2.2.size
        have dn10_n11 := n10.lt
        try simp only [World.size_alloc] at e11_0 e11_1 e11_2 e11_3 z11 dn10_n11
        go_simp
        refine hK.out _ _ ?_ (fun hHeld2 => ?_)
        · exact ⟨hHeld.1.old _, hHeld.2.1.old _, hHeld.2.2.1.old _, hHeld.2.2.2.1.old _, hHeld.2.2.2.2.alloc hHeld.2.2.2.2.size _⟩
        clear hHeld hK K; have hHeld := hHeld2; clear hHeld2
        replace n10 := Blk.old n10 (.cells #[.int .i64 0, .int .u64 0] 24)
        try simp only [Act.put, List.setIfInBounds_toArray, List.set_cons_zero, List.set_cons_succ]
        refine H.fresh (fun n11 => ?_)
        refine H.forget2 hHeld n10 n11 (fun w1 hHeld n10 n11 => ?_)
        refine H.ready [6] (by kernel_rfl) (by simp) ?_
        refine H.one rfl (by rfl) (fun K hK => ?_) AllReadyH.nil
        go_simp
        go_at_call 13
        refine (BC.out _).mono ?_
        rintro e w1 ⟨rfl, hb⟩
        refine hK.out _ _ ?_ (fun hHeld2 => ?_)
        · exact ⟨Blk.keep hb hHeld.1, Blk.keep hb hHeld.2.1, Blk.keep hb hHeld.2.2.1, Blk.keep hb hHeld.2.2.2.1, hHeld.2.2.2.2.trans (hb.mono hHeld.2.2.2.2.size)⟩
        clear hHeld hK K; have hHeld := hHeld2; clear hHeld2
        replace n10 := Blk.keep hb n10
        replace n11 := Blk.keep hb n11
        try simp only [Act.put, List.setIfInBounds_toArray, List.set_cons_zero, List.set_cons_succ]
        refine H.ready [7] (by kernel_rfl) (by simp) ?_
        refine H.one rfl (by rfl) (fun K hK => ?_) AllReadyH.nil
        go_simp
        go_at_call 13
        refine (AT.out _).mono ?_
        rintro e w1 ⟨rfl, hb⟩
        refine hK.out _ _ ?_ (fun hHeld2 => ?_)
        · exact ⟨Blk.keep hb hHeld.1, Blk.keep hb hHeld.2.1, Blk.keep hb hHeld.2.2.1, Blk.keep hb hHeld.2.2.2.1, hHeld.2.2.2.2.trans (hb.mono hHeld.2.2.2.2.size)⟩
        clear hHeld hK K; have hHeld := hHeld2; clear hHeld2
        replace n10 := Blk.keep hb n10
        replace n11 := Blk.keep hb n11
        try simp only [Act.put, List.setIfInBounds_toArray, List.set_cons_zero, List.set_cons_succ]
        refine H.ready [10] (by kernel_rfl) (by simp) ?_
        refine H.one rfl (by rfl) (fun K hK => ?_) AllReadyH.nil
        have c10 := n10.two; have f10 := n10.free0
        go_simp
        refine hK.out _ _ ?_ (fun hHeld2 => ?_)
        · exact ⟨hHeld.1.else2 (Nat.ne_of_lt e10_0), hHeld.2.1.else2 (Nat.ne_of_lt e10_1), hHeld.2.2.1.else2 (Nat.ne_of_lt e10_2), hHeld.2.2.2.1.else2 (Nat.ne_of_lt e10_3), Below.put2 hHeld.2.2.2.2 z10⟩
        clear hHeld hK K c10 f10; have hHeld := hHeld2; clear hHeld2
        try simp only [Act.put, List.setIfInBounds_toArray, List.set_cons_zero, List.set_cons_succ]
        refine H.other2 n11 (Nat.ne_of_gt dn10_n11) (fun n11x => ?_)
        refine H.stored2 n10 (fun n10x => ?_)
        refine H.forget2 hHeld n10x n11x (fun w1 hHeld n10y n11y => ?_)
        clear n10 n10x; have n10 := n10y; clear n10y
        clear n11 n11x; have n11 := n11y; clear n11y
        refine H.ready [11] (by kernel_rfl) (by simp) ?_
        refine H.one rfl (by rfl) (fun K hK => ?_) AllReadyH.nil
        have c11 := n11.two; have f11 := n11.free0
        go_simp
        refine hK.out _ _ ?_ (fun hHeld2 => ?_)
        · exact ⟨hHeld.1.else2 (Nat.ne_of_lt e11_0), hHeld.2.1.else2 (Nat.ne_of_lt e11_1), hHeld.2.2.1.else2 (Nat.ne_of_lt e11_2), hHeld.2.2.2.1.else2 (Nat.ne_of_lt e11_3), Below.put2 hHeld.2.2.2.2 z11⟩
        clear hHeld hK K c11 f11; have hHeld := hHeld2; clear hHeld2
        try simp only [Act.put, List.setIfInBounds_toArray, List.set_cons_zero, List.set_cons_succ]
        refine H.other2 n10 (Nat.ne_of_lt dn10_n11) (fun n10x => ?_)
        refine H.stored2 n11 (fun n11x => ?_)
        refine H.forget2 hHeld n10x n11x (fun w1 hHeld n10y n11y => ?_)
        clear n10 n10x; have n10 := n10y; clear n10y
        clear n11 n11x; have n11 := n11y; clear n11y
        refine H.done (by kernel_rfl) ?_ _
        show K _ _
        exact hQ.out _ _ _ _ _ _ _ _ _ _ _ ⟨_, _, rfl, rfl, n10, n11, hHeld⟩
      exact AllReadyH.nil
    refine H.one rfl (by rfl) (fun K hK => ?_) ?_
    · skip
      have e11_0 := hHeld.1.lt
      have e11_1 := hHeld.2.1.lt
      have e11_2 := hHeld.2.2.1.lt
      have e11_3 := hHeld.2.2.2.1.lt
      have z11 := hHeld.2.2.2.2.size
      try simp only [World.size_alloc] at e11_0 e11_1 e11_2 e11_3 z11
      go_simp
      refine hK.out _ _ ?_ (fun hHeld2 => ?_)
      · exact ⟨hHeld.1.old _, hHeld.2.1.old _, hHeld.2.2.1.old _, hHeld.2.2.2.1.old _, hHeld.2.2.2.2.alloc hHeld.2.2.2.2.size _⟩
      clear hHeld hK K; have hHeld := hHeld2; clear hHeld2
      try simp only [Act.put, List.setIfInBounds_toArray, List.set_cons_zero, List.set_cons_succ]
      refine H.fresh (fun n11 => ?_)
      refine H.forget1 hHeld n11 (fun w1 hHeld n11 => ?_)
      refine H.ready [6, 8] (by kernel_rfl) (by simp) ?_
      refine H.one rfl (by rfl) (fun K hK => ?_) ?_
      · skip
        go_simp
        go_at_call 13
        refine (BC.out _).mono ?_
        rintro e w1 ⟨rfl, hb⟩
        refine hK.out _ _ ?_ (fun hHeld2 => ?_)
        · exact ⟨Blk.keep hb hHeld.1, Blk.keep hb hHeld.2.1, Blk.keep hb hHeld.2.2.1, Blk.keep hb hHeld.2.2.2.1, hHeld.2.2.2.2.trans (hb.mono hHeld.2.2.2.2.size)⟩
        clear hHeld hK K; have hHeld := hHeld2; clear hHeld2
        replace n11 := Blk.keep hb n11
        try simp only [Act.put, List.setIfInBounds_toArray, List.set_cons_zero, List.set_cons_succ]
        refine H.ready [7, 8] (by kernel_rfl) (by simp) ?_
        refine H.one rfl (by rfl) (fun K hK => ?_) ?_
        · skip
          go_simp
          go_at_call 13
          refine (AT.out _).mono ?_
          rintro e w1 ⟨rfl, hb⟩
          refine hK.out _ _ ?_ (fun hHeld2 => ?_)
          · exact ⟨Blk.keep hb hHeld.1, Blk.keep hb hHeld.2.1, Blk.keep hb hHeld.2.2.1, Blk.keep hb hHeld.2.2.2.1, hHeld.2.2.2.2.trans (hb.mono hHeld.2.2.2.2.size)⟩
          clear hHeld hK K; have hHeld := hHeld2; clear hHeld2
          replace n11 := Blk.keep hb n11
          try simp only [Act.put, List.setIfInBounds_toArray, List.set_cons_zero, List.set_cons_succ]
          refine H.ready [8] (by kernel_rfl) (by simp) ?_
          refine H.one rfl (by rfl) (fun K hK => ?_) AllReadyH.nil
          have e10_0 := hHeld.1.lt
          have e10_1 := hHeld.2.1.lt
          have e10_2 := hHeld.2.2.1.lt
          have e10_3 := hHeld.2.2.2.1.lt
          have z10 := hHeld.2.2.2.2.size
          have dn11_n10 := n11.lt
          try simp only [World.size_alloc] at e10_0 e10_1 e10_2 e10_3 z10 dn11_n10
          go_simp
          refine hK.out _ _ ?_ (fun hHeld2 => ?_)
          · exact ⟨hHeld.1.old _, hHeld.2.1.old _, hHeld.2.2.1.old _, hHeld.2.2.2.1.old _, hHeld.2.2.2.2.alloc hHeld.2.2.2.2.size _⟩
          clear hHeld hK K; have hHeld := hHeld2; clear hHeld2
          replace n11 := Blk.old n11 (.cells #[.int .i64 0, .int .u64 0] 24)
          try simp only [Act.put, List.setIfInBounds_toArray, List.set_cons_zero, List.set_cons_succ]
          refine H.fresh (fun n10 => ?_)
          refine H.forget2 hHeld n11 n10 (fun w1 hHeld n11 n10 => ?_)
          refine H.ready [10] (by kernel_rfl) (by simp) ?_
          refine H.one rfl (by rfl) (fun K hK => ?_) AllReadyH.nil
          have c10 := n10.two; have f10 := n10.free0
          go_simp
          refine hK.out _ _ ?_ (fun hHeld2 => ?_)
          · exact ⟨hHeld.1.else2 (Nat.ne_of_lt e10_0), hHeld.2.1.else2 (Nat.ne_of_lt e10_1), hHeld.2.2.1.else2 (Nat.ne_of_lt e10_2), hHeld.2.2.2.1.else2 (Nat.ne_of_lt e10_3), Below.put2 hHeld.2.2.2.2 z10⟩
          clear hHeld hK K c10 f10; have hHeld := hHeld2; clear hHeld2
          try simp only [Act.put, List.setIfInBounds_toArray, List.set_cons_zero, List.set_cons_succ]
          refine H.other2 n11 (Nat.ne_of_lt dn11_n10) (fun n11x => ?_)
          refine H.stored2 n10 (fun n10x => ?_)
          refine H.forget2 hHeld n11x n10x (fun w1 hHeld n11y n10y => ?_)
          clear n11 n11x; have n11 := n11y; clear n11y
          clear n10 n10x; have n10 := n10y; clear n10y
          refine H.ready [11] (by kernel_rfl) (by simp) ?_
          refine H.one rfl (by rfl) (fun K hK => ?_) AllReadyH.nil
          have c11 := n11.two; have f11 := n11.free0
          go_simp
          refine hK.out _ _ ?_ (fun hHeld2 => ?_)
          · exact ⟨hHeld.1.else2 (Nat.ne_of_lt e11_0), hHeld.2.1.else2 (Nat.ne_of_lt e11_1), hHeld.2.2.1.else2 (Nat.ne_of_lt e11_2), hHeld.2.2.2.1.else2 (Nat.ne_of_lt e11_3), Below.put2 hHeld.2.2.2.2 z11⟩
          clear hHeld hK K c11 f11; have hHeld := hHeld2; clear hHeld2
          try simp only [Act.put, List.setIfInBounds_toArray, List.set_cons_zero, List.set_cons_succ]
          refine H.other2 n10 (Nat.ne_of_gt dn11_n10) (fun n10x => ?_)
          refine H.stored2 n11 (fun n11x => ?_)
          refine H.forget2 hHeld n11x n10x (fun w1 hHeld n11y n10y => ?_)
          clear n11 n11x; have n11 := n11y; clear n11y
          clear n10 n10x; have n10 := n10y; clear n10y
          refine H.done (by kernel_rfl) ?_ _
          show K _ _
          exact hQ.out _ _ _ _ _ _ _ _ _ _ _ ⟨_, _, rfl, rfl, n10, n11, hHeld⟩
        refine H.one rfl (by rfl) (fun K hK => ?_) ?_
        · skip
          have e10_0 := hHeld.1.lt
          have e10_1 := hHeld.2.1.lt
          have e10_2 := hHeld.2.2.1.lt
          have e10_3 := hHeld.2.2.2.1.lt
          have z10 := hHeld.2.2.2.2.size
          have dn11_n10 := n11.lt
          try simp only [World.size_alloc] at e10_0 e10_1 e10_2 e10_3 z10 dn11_n10
          go_simp
          refine hK.out _ _ ?_ (fun hHeld2 => ?_)
          · exact ⟨hHeld.1.old _, hHeld.2.1.old _, hHeld.2.2.1.old _, hHeld.2.2.2.1.old _, hHeld.2.2.2.2.alloc hHeld.2.2.2.2.size _⟩
          clear hHeld hK K; have hHeld := hHeld2; clear hHeld2
          replace n11 := Blk.old n11 (.cells #[.int .i64 0, .int .u64 0] 24)
          try simp only [Act.put, List.setIfInBounds_toArray, List.set_cons_zero, List.set_cons_succ]
          refine H.fresh (fun n10 => ?_)
          refine H.forget2 hHeld n11 n10 (fun w1 hHeld n11 n10 => ?_)
          refine H.ready [7] (by kernel_rfl) (by simp) ?_
          refine H.one rfl (by rfl) (fun K hK => ?_) AllReadyH.nil
          go_simp
          go_at_call 13
          refine (AT.out _).mono ?_
          rintro e w1 ⟨rfl, hb⟩
          refine hK.out _ _ ?_ (fun hHeld2 => ?_)
          · exact ⟨Blk.keep hb hHeld.1, Blk.keep hb hHeld.2.1, Blk.keep hb hHeld.2.2.1, Blk.keep hb hHeld.2.2.2.1, hHeld.2.2.2.2.trans (hb.mono hHeld.2.2.2.2.size)⟩
          clear hHeld hK K; have hHeld := hHeld2; clear hHeld2
          replace n11 := Blk.keep hb n11
          replace n10 := Blk.keep hb n10
          try simp only [Act.put, List.setIfInBounds_toArray, List.set_cons_zero, List.set_cons_succ]
          refine H.ready [10] (by kernel_rfl) (by simp) ?_
          refine H.one rfl (by rfl) (fun K hK => ?_) AllReadyH.nil
          have c10 := n10.two; have f10 := n10.free0
          go_simp
          refine hK.out _ _ ?_ (fun hHeld2 => ?_)
          · exact ⟨hHeld.1.else2 (Nat.ne_of_lt e10_0), hHeld.2.1.else2 (Nat.ne_of_lt e10_1), hHeld.2.2.1.else2 (Nat.ne_of_lt e10_2), hHeld.2.2.2.1.else2 (Nat.ne_of_lt e10_3), Below.put2 hHeld.2.2.2.2 z10⟩
          clear hHeld hK K c10 f10; have hHeld := hHeld2; clear hHeld2
          try simp only [Act.put, List.setIfInBounds_toArray, List.set_cons_zero, List.set_cons_succ]
          refine H.other2 n11 (Nat.ne_of_lt dn11_n10) (fun n11x => ?_)
          refine H.stored2 n10 (fun n10x => ?_)
          refine H.forget2 hHeld n11x n10x (fun w1 hHeld n11y n10y => ?_)
          clear n11 n11x; have n11 := n11y; clear n11y
          clear n10 n10x; have n10 := n10y; clear n10y
          refine H.ready [11] (by kernel_rfl) (by simp) ?_
          refine H.one rfl (by rfl) (fun K hK => ?_) AllReadyH.nil
          have c11 := n11.two; have f11 := n11.free0
          go_simp
          refine hK.out _ _ ?_ (fun hHeld2 => ?_)
          · exact ⟨hHeld.1.else2 (Nat.ne_of_lt e11_0), hHeld.2.1.else2 (Nat.ne_of_lt e11_1), hHeld.2.2.1.else2 (Nat.ne_of_lt e11_2), hHeld.2.2.2.1.else2 (Nat.ne_of_lt e11_3), Below.put2 hHeld.2.2.2.2 z11⟩
          clear hHeld hK K c11 f11; have hHeld := hHeld2; clear hHeld2
          try simp only [Act.put, List.setIfInBounds_toArray, List.set_cons_zero, List.set_cons_succ]
          refine H.other2 n10 (Nat.ne_of_gt dn11_n10) (fun n10x => ?_)
          refine H.stored2 n11 (fun n11x => ?_)
          refine H.forget2 hHeld n11x n10x (fun w1 hHeld n11y n10y => ?_)
          clear n11 n11x; have n11 := n11y; clear n11y
          clear n10 n10x; have n10 := n10y; clear n10y
          refine H.done (by kernel_rfl) ?_ _
          show K _ _
          exact hQ.out _ _ _ _ _ _ _ _ _ _ _ ⟨_, _, rfl, rfl, n10, n11, hHeld⟩
        exact AllReadyH.nil
      refine H.one rfl (by rfl) (fun K hK => ?_) ?_
      · skip
        have e10_0 := hHeld.1.lt
        have e10_1 := hHeld.2.1.lt
        have e10_2 := hHeld.2.2.1.lt
        have e10_3 := hHeld.2.2.2.1.lt
        have z10 := hHeld.2.2.2.2.size
        have dn11_n10 := n11.lt
        try simp only [World.size_alloc] at e10_0 e10_1 e10_2 e10_3 z10 dn11_n10
        go_simp
        refine hK.out _ _ ?_ (fun hHeld2 => ?_)
        · exact ⟨hHeld.1.old _, hHeld.2.1.old _, hHeld.2.2.1.old _, hHeld.2.2.2.1.old _, hHeld.2.2.2.2.alloc hHeld.2.2.2.2.size _⟩
        clear hHeld hK K; have hHeld := hHeld2; clear hHeld2
        replace n11 := Blk.old n11 (.cells #[.int .i64 0, .int .u64 0] 24)
        try simp only [Act.put, List.setIfInBounds_toArray, List.set_cons_zero, List.set_cons_succ]
        refine H.fresh (fun n10 => ?_)
        refine H.forget2 hHeld n11 n10 (fun w1 hHeld n11 n10 => ?_)
        refine H.ready [6] (by kernel_rfl) (by simp) ?_
        refine H.one rfl (by rfl) (fun K hK => ?_) AllReadyH.nil
        go_simp
        go_at_call 13
        refine (BC.out _).mono ?_
        rintro e w1 ⟨rfl, hb⟩
        refine hK.out _ _ ?_ (fun hHeld2 => ?_)
        · exact ⟨Blk.keep hb hHeld.1, Blk.keep hb hHeld.2.1, Blk.keep hb hHeld.2.2.1, Blk.keep hb hHeld.2.2.2.1, hHeld.2.2.2.2.trans (hb.mono hHeld.2.2.2.2.size)⟩
        clear hHeld hK K; have hHeld := hHeld2; clear hHeld2
        replace n11 := Blk.keep hb n11
        replace n10 := Blk.keep hb n10
        try simp only [Act.put, List.setIfInBounds_toArray, List.set_cons_zero, List.set_cons_succ]
        refine H.ready [7] (by kernel_rfl) (by simp) ?_
        refine H.one rfl (by rfl) (fun K hK => ?_) AllReadyH.nil
        go_simp
        go_at_call 13
        refine (AT.out _).mono ?_
        rintro e w1 ⟨rfl, hb⟩
        refine hK.out _ _ ?_ (fun hHeld2 => ?_)
        · exact ⟨Blk.keep hb hHeld.1, Blk.keep hb hHeld.2.1, Blk.keep hb hHeld.2.2.1, Blk.keep hb hHeld.2.2.2.1, hHeld.2.2.2.2.trans (hb.mono hHeld.2.2.2.2.size)⟩
        clear hHeld hK K; have hHeld := hHeld2; clear hHeld2
        replace n11 := Blk.keep hb n11
        replace n10 := Blk.keep hb n10
        try simp only [Act.put, List.setIfInBounds_toArray, List.set_cons_zero, List.set_cons_succ]
        refine H.ready [10] (by kernel_rfl) (by simp) ?_
        refine H.one rfl (by rfl) (fun K hK => ?_) AllReadyH.nil
        have c10 := n10.two; have f10 := n10.free0
        go_simp
        refine hK.out _ _ ?_ (fun hHeld2 => ?_)
        · exact ⟨hHeld.1.else2 (Nat.ne_of_lt e10_0), hHeld.2.1.else2 (Nat.ne_of_lt e10_1), hHeld.2.2.1.else2 (Nat.ne_of_lt e10_2), hHeld.2.2.2.1.else2 (Nat.ne_of_lt e10_3), Below.put2 hHeld.2.2.2.2 z10⟩
        clear hHeld hK K c10 f10; have hHeld := hHeld2; clear hHeld2
        try simp only [Act.put, List.setIfInBounds_toArray, List.set_cons_zero, List.set_cons_succ]
        refine H.other2 n11 (Nat.ne_of_lt dn11_n10) (fun n11x => ?_)
        refine H.stored2 n10 (fun n10x => ?_)
        refine H.forget2 hHeld n11x n10x (fun w1 hHeld n11y n10y => ?_)
        clear n11 n11x; have n11 := n11y; clear n11y
        clear n10 n10x; have n10 := n10y; clear n10y
        refine H.ready [11] (by kernel_rfl) (by simp) ?_
        refine H.one rfl (by rfl) (fun K hK => ?_) AllReadyH.nil
        have c11 := n11.two; have f11 := n11.free0
        go_simp
        refine hK.out _ _ ?_ (fun hHeld2 => ?_)
        · exact ⟨hHeld.1.else2 (Nat.ne_of_lt e11_0), hHeld.2.1.else2 (Nat.ne_of_lt e11_1), hHeld.2.2.1.else2 (Nat.ne_of_lt e11_2), hHeld.2.2.2.1.else2 (Nat.ne_of_lt e11_3), Below.put2 hHeld.2.2.2.2 z11⟩
        clear hHeld hK K c11 f11; have hHeld := hHeld2; clear hHeld2
        try simp only [Act.put, List.setIfInBounds_toArray, List.set_cons_zero, List.set_cons_succ]
        refine H.other2 n10 (Nat.ne_of_gt dn11_n10) (fun n10x => ?_)
        refine H.stored2 n11 (fun n11x => ?_)
        refine H.forget2 hHeld n11x n10x (fun w1 hHeld n11y n10y => ?_)
        clear n11 n11x; have n11 := n11y; clear n11y
        clear n10 n10x; have n10 := n10y; clear n10y
        refine H.done (by kernel_rfl) ?_ _
        show K _ _
        exact hQ.out _ _ _ _ _ _ _ _ _ _ _ ⟨_, _, rfl, rfl, n10, n11, hHeld⟩
      exact AllReadyH.nil
    exact AllReadyH.nil
  refine H.one rfl (by rfl) (fun K hK => ?_) ?_
  · skip
    have e10_0 := hHeld.1.lt
    have e10_1 := hHeld.2.1.lt
    have e10_2 := hHeld.2.2.1.lt
    have e10_3 := hHeld.2.2.2.1.lt
    have z10 := hHeld.2.2.2.2.size
    try simp only [World.size_alloc] at e10_0 e10_1 e10_2 e10_3 z10
    go_simp
    refine hK.out _ _ ?_ (fun hHeld2 => ?_)
    · exact ⟨hHeld.1.old _, hHeld.2.1.old _, hHeld.2.2.1.old _, hHeld.2.2.2.1.old _, hHeld.2.2.2.2.alloc hHeld.2.2.2.2.size _⟩
    clear hHeld hK K; have hHeld := hHeld2; clear hHeld2
    try simp only [Act.put, List.setIfInBounds_toArray, List.set_cons_zero, List.set_cons_succ]
    refine H.fresh (fun n10 => ?_)
    refine H.forget1 hHeld n10 (fun w1 hHeld n10 => ?_)
    refine H.ready [2, 9] (by kernel_rfl) (by simp) ?_
    refine H.one rfl (by rfl) (fun K hK => ?_) ?_
    · skip
      go_simp
      go_at_call 13
      refine (SC.out _).mono ?_
      rintro e w1 ⟨rfl, hb⟩
      refine hK.out _ _ ?_ (fun hHeld2 => ?_)
      · exact ⟨Blk.keep hb hHeld.1, Blk.keep hb hHeld.2.1, Blk.keep hb hHeld.2.2.1, Blk.keep hb hHeld.2.2.2.1, hHeld.2.2.2.2.trans (hb.mono hHeld.2.2.2.2.size)⟩
      clear hHeld hK K; have hHeld := hHeld2; clear hHeld2
      replace n10 := Blk.keep hb n10
      try simp only [Act.put, List.setIfInBounds_toArray, List.set_cons_zero, List.set_cons_succ]
      refine H.ready [6, 9] (by kernel_rfl) (by simp) ?_
      refine H.one rfl (by rfl) (fun K hK => ?_) ?_
      · skip
        go_simp
        go_at_call 13
        refine (BC.out _).mono ?_
        rintro e w1 ⟨rfl, hb⟩
        refine hK.out _ _ ?_ (fun hHeld2 => ?_)
        · exact ⟨Blk.keep hb hHeld.1, Blk.keep hb hHeld.2.1, Blk.keep hb hHeld.2.2.1, Blk.keep hb hHeld.2.2.2.1, hHeld.2.2.2.2.trans (hb.mono hHeld.2.2.2.2.size)⟩
        clear hHeld hK K; have hHeld := hHeld2; clear hHeld2
        replace n10 := Blk.keep hb n10
        try simp only [Act.put, List.setIfInBounds_toArray, List.set_cons_zero, List.set_cons_succ]
        refine H.ready [7, 9] (by kernel_rfl) (by simp) ?_
        refine H.one rfl (by rfl) (fun K hK => ?_) ?_
        · skip
          go_simp
          go_at_call 13
          refine (AT.out _).mono ?_
          rintro e w1 ⟨rfl, hb⟩
          refine hK.out _ _ ?_ (fun hHeld2 => ?_)
          · exact ⟨Blk.keep hb hHeld.1, Blk.keep hb hHeld.2.1, Blk.keep hb hHeld.2.2.1, Blk.keep hb hHeld.2.2.2.1, hHeld.2.2.2.2.trans (hb.mono hHeld.2.2.2.2.size)⟩
          clear hHeld hK K; have hHeld := hHeld2; clear hHeld2
          replace n10 := Blk.keep hb n10
          try simp only [Act.put, List.setIfInBounds_toArray, List.set_cons_zero, List.set_cons_succ]
          refine H.ready [9] (by kernel_rfl) (by simp) ?_
          refine H.one rfl (by rfl) (fun K hK => ?_) AllReadyH.nil
          have e11_0 := hHeld.1.lt
          have e11_1 := hHeld.2.1.lt
          have e11_2 := hHeld.2.2.1.lt
          have e11_3 := hHeld.2.2.2.1.lt
          have z11 := hHeld.2.2.2.2.size
          have dn10_n11 := n10.lt
          try simp only [World.size_alloc] at e11_0 e11_1 e11_2 e11_3 z11 dn10_n11
          go_simp
          refine hK.out _ _ ?_ (fun hHeld2 => ?_)
          · exact ⟨hHeld.1.old _, hHeld.2.1.old _, hHeld.2.2.1.old _, hHeld.2.2.2.1.old _, hHeld.2.2.2.2.alloc hHeld.2.2.2.2.size _⟩
          clear hHeld hK K; have hHeld := hHeld2; clear hHeld2
          replace n10 := Blk.old n10 (.cells #[.int .i64 0, .int .u64 0] 24)
          try simp only [Act.put, List.setIfInBounds_toArray, List.set_cons_zero, List.set_cons_succ]
          refine H.fresh (fun n11 => ?_)
          refine H.forget2 hHeld n10 n11 (fun w1 hHeld n10 n11 => ?_)
          refine H.ready [10] (by kernel_rfl) (by simp) ?_
          refine H.one rfl (by rfl) (fun K hK => ?_) AllReadyH.nil
          have c10 := n10.two; have f10 := n10.free0
          go_simp
          refine hK.out _ _ ?_ (fun hHeld2 => ?_)
          · exact ⟨hHeld.1.else2 (Nat.ne_of_lt e10_0), hHeld.2.1.else2 (Nat.ne_of_lt e10_1), hHeld.2.2.1.else2 (Nat.ne_of_lt e10_2), hHeld.2.2.2.1.else2 (Nat.ne_of_lt e10_3), Below.put2 hHeld.2.2.2.2 z10⟩
          clear hHeld hK K c10 f10; have hHeld := hHeld2; clear hHeld2
          try simp only [Act.put, List.setIfInBounds_toArray, List.set_cons_zero, List.set_cons_succ]
          refine H.other2 n11 (Nat.ne_of_gt dn10_n11) (fun n11x => ?_)
          refine H.stored2 n10 (fun n10x => ?_)
          refine H.forget2 hHeld n10x n11x (fun w1 hHeld n10y n11y => ?_)
          clear n10 n10x; have n10 := n10y; clear n10y
          clear n11 n11x; have n11 := n11y; clear n11y
          refine H.ready [11] (by kernel_rfl) (by simp) ?_
          refine H.one rfl (by rfl) (fun K hK => ?_) AllReadyH.nil
          have c11 := n11.two; have f11 := n11.free0
          go_simp
          refine hK.out _ _ ?_ (fun hHeld2 => ?_)
          · exact ⟨hHeld.1.else2 (Nat.ne_of_lt e11_0), hHeld.2.1.else2 (Nat.ne_of_lt e11_1), hHeld.2.2.1.else2 (Nat.ne_of_lt e11_2), hHeld.2.2.2.1.else2 (Nat.ne_of_lt e11_3), Below.put2 hHeld.2.2.2.2 z11⟩
          clear hHeld hK K c11 f11; have hHeld := hHeld2; clear hHeld2
          try simp only [Act.put, List.setIfInBounds_toArray, List.set_cons_zero, List.set_cons_succ]
          refine H.other2 n10 (Nat.ne_of_lt dn10_n11) (fun n10x => ?_)
          refine H.stored2 n11 (fun n11x => ?_)
          refine H.forget2 hHeld n10x n11x (fun w1 hHeld n10y n11y => ?_)
          clear n10 n10x; have n10 := n10y; clear n10y
          clear n11 n11x; have n11 := n11y; clear n11y
          refine H.done (by kernel_rfl) ?_ _
          show K _ _
          exact hQ.out _ _ _ _ _ _ _ _ _ _ _ ⟨_, _, rfl, rfl, n10, n11, hHeld⟩
        refine H.one rfl (by rfl) (fun K hK => ?_) ?_
        · skip
          have e11_0 := hHeld.1.lt
          have e11_1 := hHeld.2.1.lt
          have e11_2 := hHeld.2.2.1.lt
          have e11_3 := hHeld.2.2.2.1.lt
          have z11 := hHeld.2.2.2.2.size
          have dn10_n11 := n10.lt
          try simp only [World.size_alloc] at e11_0 e11_1 e11_2 e11_3 z11 dn10_n11
          go_simp
          refine hK.out _ _ ?_ (fun hHeld2 => ?_)
          · exact ⟨hHeld.1.old _, hHeld.2.1.old _, hHeld.2.2.1.old _, hHeld.2.2.2.1.old _, hHeld.2.2.2.2.alloc hHeld.2.2.2.2.size _⟩
          clear hHeld hK K; have hHeld := hHeld2; clear hHeld2
          replace n10 := Blk.old n10 (.cells #[.int .i64 0, .int .u64 0] 24)
          try simp only [Act.put, List.setIfInBounds_toArray, List.set_cons_zero, List.set_cons_succ]
          refine H.fresh (fun n11 => ?_)
          refine H.forget2 hHeld n10 n11 (fun w1 hHeld n10 n11 => ?_)
          refine H.ready [7] (by kernel_rfl) (by simp) ?_
          refine H.one rfl (by rfl) (fun K hK => ?_) AllReadyH.nil
          go_simp
          go_at_call 13
          refine (AT.out _).mono ?_
          rintro e w1 ⟨rfl, hb⟩
          refine hK.out _ _ ?_ (fun hHeld2 => ?_)
          · exact ⟨Blk.keep hb hHeld.1, Blk.keep hb hHeld.2.1, Blk.keep hb hHeld.2.2.1, Blk.keep hb hHeld.2.2.2.1, hHeld.2.2.2.2.trans (hb.mono hHeld.2.2.2.2.size)⟩
          clear hHeld hK K; have hHeld := hHeld2; clear hHeld2
          replace n10 := Blk.keep hb n10
          replace n11 := Blk.keep hb n11
          try simp only [Act.put, List.setIfInBounds_toArray, List.set_cons_zero, List.set_cons_succ]
          refine H.ready [10] (by kernel_rfl) (by simp) ?_
          refine H.one rfl (by rfl) (fun K hK => ?_) AllReadyH.nil
          have c10 := n10.two; have f10 := n10.free0
          go_simp
          refine hK.out _ _ ?_ (fun hHeld2 => ?_)
          · exact ⟨hHeld.1.else2 (Nat.ne_of_lt e10_0), hHeld.2.1.else2 (Nat.ne_of_lt e10_1), hHeld.2.2.1.else2 (Nat.ne_of_lt e10_2), hHeld.2.2.2.1.else2 (Nat.ne_of_lt e10_3), Below.put2 hHeld.2.2.2.2 z10⟩
          clear hHeld hK K c10 f10; have hHeld := hHeld2; clear hHeld2
          try simp only [Act.put, List.setIfInBounds_toArray, List.set_cons_zero, List.set_cons_succ]
          refine H.other2 n11 (Nat.ne_of_gt dn10_n11) (fun n11x => ?_)
          refine H.stored2 n10 (fun n10x => ?_)
          refine H.forget2 hHeld n10x n11x (fun w1 hHeld n10y n11y => ?_)
          clear n10 n10x; have n10 := n10y; clear n10y
          clear n11 n11x; have n11 := n11y; clear n11y
          refine H.ready [11] (by kernel_rfl) (by simp) ?_
          refine H.one rfl (by rfl) (fun K hK => ?_) AllReadyH.nil
          have c11 := n11.two; have f11 := n11.free0
          go_simp
          refine hK.out _ _ ?_ (fun hHeld2 => ?_)
          · exact ⟨hHeld.1.else2 (Nat.ne_of_lt e11_0), hHeld.2.1.else2 (Nat.ne_of_lt e11_1), hHeld.2.2.1.else2 (Nat.ne_of_lt e11_2), hHeld.2.2.2.1.else2 (Nat.ne_of_lt e11_3), Below.put2 hHeld.2.2.2.2 z11⟩
          clear hHeld hK K c11 f11; have hHeld := hHeld2; clear hHeld2
          try simp only [Act.put, List.setIfInBounds_toArray, List.set_cons_zero, List.set_cons_succ]
          refine H.other2 n10 (Nat.ne_of_lt dn10_n11) (fun n10x => ?_)
          refine H.stored2 n11 (fun n11x => ?_)
          refine H.forget2 hHeld n10x n11x (fun w1 hHeld n10y n11y => ?_)
          clear n10 n10x; have n10 := n10y; clear n10y
          clear n11 n11x; have n11 := n11y; clear n11y
          refine H.done (by kernel_rfl) ?_ _
          show K _ _
          exact hQ.out _ _ _ _ _ _ _ _ _ _ _ ⟨_, _, rfl, rfl, n10, n11, hHeld⟩
        exact AllReadyH.nil
      refine H.one rfl (by rfl) (fun K hK => ?_) ?_
      · skip
        have e11_0 := hHeld.1.lt
        have e11_1 := hHeld.2.1.lt
        have e11_2 := hHeld.2.2.1.lt
        have e11_3 := hHeld.2.2.2.1.lt
        have z11 := hHeld.2.2.2.2.size
        have dn10_n11 := n10.lt
        try simp only [World.size_alloc] at e11_0 e11_1 e11_2 e11_3 z11 dn10_n11
        go_simp
        refine hK.out _ _ ?_ (fun hHeld2 => ?_)
        · exact ⟨hHeld.1.old _, hHeld.2.1.old _, hHeld.2.2.1.old _, hHeld.2.2.2.1.old _, hHeld.2.2.2.2.alloc hHeld.2.2.2.2.size _⟩
        clear hHeld hK K; have hHeld := hHeld2; clear hHeld2
        replace n10 := Blk.old n10 (.cells #[.int .i64 0, .int .u64 0] 24)
        try simp only [Act.put, List.setIfInBounds_toArray, List.set_cons_zero, List.set_cons_succ]
        refine H.fresh (fun n11 => ?_)
        refine H.forget2 hHeld n10 n11 (fun w1 hHeld n10 n11 => ?_)
        refine H.ready [6] (by kernel_rfl) (by simp) ?_
        refine H.one rfl (by rfl) (fun K hK => ?_) AllReadyH.nil
        go_simp
        go_at_call 13
        refine (BC.out _).mono ?_
        rintro e w1 ⟨rfl, hb⟩
        refine hK.out _ _ ?_ (fun hHeld2 => ?_)
        · exact ⟨Blk.keep hb hHeld.1, Blk.keep hb hHeld.2.1, Blk.keep hb hHeld.2.2.1, Blk.keep hb hHeld.2.2.2.1, hHeld.2.2.2.2.trans (hb.mono hHeld.2.2.2.2.size)⟩
        clear hHeld hK K; have hHeld := hHeld2; clear hHeld2
        replace n10 := Blk.keep hb n10
        replace n11 := Blk.keep hb n11
        try simp only [Act.put, List.setIfInBounds_toArray, List.set_cons_zero, List.set_cons_succ]
        refine H.ready [7] (by kernel_rfl) (by simp) ?_
        refine H.one rfl (by rfl) (fun K hK => ?_) AllReadyH.nil
        go_simp
        go_at_call 13
        refine (AT.out _).mono ?_
        rintro e w1 ⟨rfl, hb⟩
        refine hK.out _ _ ?_ (fun hHeld2 => ?_)
        · exact ⟨Blk.keep hb hHeld.1, Blk.keep hb hHeld.2.1, Blk.keep hb hHeld.2.2.1, Blk.keep hb hHeld.2.2.2.1, hHeld.2.2.2.2.trans (hb.mono hHeld.2.2.2.2.size)⟩
        clear hHeld hK K; have hHeld := hHeld2; clear hHeld2
        replace n10 := Blk.keep hb n10
        replace n11 := Blk.keep hb n11
        try simp only [Act.put, List.setIfInBounds_toArray, List.set_cons_zero, List.set_cons_succ]
        refine H.ready [10] (by kernel_rfl) (by simp) ?_
        refine H.one rfl (by rfl) (fun K hK => ?_) AllReadyH.nil
        have c10 := n10.two; have f10 := n10.free0
        go_simp
        refine hK.out _ _ ?_ (fun hHeld2 => ?_)
        · exact ⟨hHeld.1.else2 (Nat.ne_of_lt e10_0), hHeld.2.1.else2 (Nat.ne_of_lt e10_1), hHeld.2.2.1.else2 (Nat.ne_of_lt e10_2), hHeld.2.2.2.1.else2 (Nat.ne_of_lt e10_3), Below.put2 hHeld.2.2.2.2 z10⟩
        clear hHeld hK K c10 f10; have hHeld := hHeld2; clear hHeld2
        try simp only [Act.put, List.setIfInBounds_toArray, List.set_cons_zero, List.set_cons_succ]
        refine H.other2 n11 (Nat.ne_of_gt dn10_n11) (fun n11x => ?_)
        refine H.stored2 n10 (fun n10x => ?_)
        refine H.forget2 hHeld n10x n11x (fun w1 hHeld n10y n11y => ?_)
        clear n10 n10x; have n10 := n10y; clear n10y
        clear n11 n11x; have n11 := n11y; clear n11y
        refine H.ready [11] (by kernel_rfl) (by simp) ?_
        refine H.one rfl (by rfl) (fun K hK => ?_) AllReadyH.nil
        have c11 := n11.two; have f11 := n11.free0
        go_simp
        refine hK.out _ _ ?_ (fun hHeld2 => ?_)
        · exact ⟨hHeld.1.else2 (Nat.ne_of_lt e11_0), hHeld.2.1.else2 (Nat.ne_of_lt e11_1), hHeld.2.2.1.else2 (Nat.ne_of_lt e11_2), hHeld.2.2.2.1.else2 (Nat.ne_of_lt e11_3), Below.put2 hHeld.2.2.2.2 z11⟩
        clear hHeld hK K c11 f11; have hHeld := hHeld2; clear hHeld2
        try simp only [Act.put, List.setIfInBounds_toArray, List.set_cons_zero, List.set_cons_succ]
        refine H.other2 n10 (Nat.ne_of_lt dn10_n11) (fun n10x => ?_)
        refine H.stored2 n11 (fun n11x => ?_)
        refine H.forget2 hHeld n10x n11x (fun w1 hHeld n10y n11y => ?_)
        clear n10 n10x; have n10 := n10y; clear n10y
        clear n11 n11x; have n11 := n11y; clear n11y
        refine H.done (by kernel_rfl) ?_ _
        show K _ _
        exact hQ.out _ _ _ _ _ _ _ _ _ _ _ ⟨_, _, rfl, rfl, n10, n11, hHeld⟩
      exact AllReadyH.nil
    refine H.one rfl (by rfl) (fun K hK => ?_) ?_
    · skip
      have e11_0 := hHeld.1.lt
      have e11_1 := hHeld.2.1.lt
      have e11_2 := hHeld.2.2.1.lt
      have e11_3 := hHeld.2.2.2.1.lt
      have z11 := hHeld.2.2.2.2.size
      have dn10_n11 := n10.lt
      try simp only [World.size_alloc] at e11_0 e11_1 e11_2 e11_3 z11 dn10_n11
      go_simp
      refine hK.out _ _ ?_ (fun hHeld2 => ?_)
      · exact ⟨hHeld.1.old _, hHeld.2.1.old _, hHeld.2.2.1.old _, hHeld.2.2.2.1.old _, hHeld.2.2.2.2.alloc hHeld.2.2.2.2.size _⟩
      clear hHeld hK K; have hHeld := hHeld2; clear hHeld2
      replace n10 := Blk.old n10 (.cells #[.int .i64 0, .int .u64 0] 24)
      try simp only [Act.put, List.setIfInBounds_toArray, List.set_cons_zero, List.set_cons_succ]
      refine H.fresh (fun n11 => ?_)
      refine H.forget2 hHeld n10 n11 (fun w1 hHeld n10 n11 => ?_)
      refine H.ready [2] (by kernel_rfl) (by simp) ?_
      refine H.one rfl (by rfl) (fun K hK => ?_) AllReadyH.nil
      go_simp
      go_at_call 13
      refine (SC.out _).mono ?_
      rintro e w1 ⟨rfl, hb⟩
      refine hK.out _ _ ?_ (fun hHeld2 => ?_)
      · exact ⟨Blk.keep hb hHeld.1, Blk.keep hb hHeld.2.1, Blk.keep hb hHeld.2.2.1, Blk.keep hb hHeld.2.2.2.1, hHeld.2.2.2.2.trans (hb.mono hHeld.2.2.2.2.size)⟩
      clear hHeld hK K; have hHeld := hHeld2; clear hHeld2
      replace n10 := Blk.keep hb n10
      replace n11 := Blk.keep hb n11
      try simp only [Act.put, List.setIfInBounds_toArray, List.set_cons_zero, List.set_cons_succ]
      refine H.ready [6] (by kernel_rfl) (by simp) ?_
      refine H.one rfl (by rfl) (fun K hK => ?_) AllReadyH.nil
      go_simp
      go_at_call 13
      refine (BC.out _).mono ?_
      rintro e w1 ⟨rfl, hb⟩
      refine hK.out _ _ ?_ (fun hHeld2 => ?_)
      · exact ⟨Blk.keep hb hHeld.1, Blk.keep hb hHeld.2.1, Blk.keep hb hHeld.2.2.1, Blk.keep hb hHeld.2.2.2.1, hHeld.2.2.2.2.trans (hb.mono hHeld.2.2.2.2.size)⟩
      clear hHeld hK K; have hHeld := hHeld2; clear hHeld2
      replace n10 := Blk.keep hb n10
      replace n11 := Blk.keep hb n11
      try simp only [Act.put, List.setIfInBounds_toArray, List.set_cons_zero, List.set_cons_succ]
      refine H.ready [7] (by kernel_rfl) (by simp) ?_
      refine H.one rfl (by rfl) (fun K hK => ?_) AllReadyH.nil
      go_simp
      go_at_call 13
      refine (AT.out _).mono ?_
      rintro e w1 ⟨rfl, hb⟩
      refine hK.out _ _ ?_ (fun hHeld2 => ?_)
      · exact ⟨Blk.keep hb hHeld.1, Blk.keep hb hHeld.2.1, Blk.keep hb hHeld.2.2.1, Blk.keep hb hHeld.2.2.2.1, hHeld.2.2.2.2.trans (hb.mono hHeld.2.2.2.2.size)⟩
      clear hHeld hK K; have hHeld := hHeld2; clear hHeld2
      replace n10 := Blk.keep hb n10
      replace n11 := Blk.keep hb n11
      try simp only [Act.put, List.setIfInBounds_toArray, List.set_cons_zero, List.set_cons_succ]
      refine H.ready [10] (by kernel_rfl) (by simp) ?_
      refine H.one rfl (by rfl) (fun K hK => ?_) AllReadyH.nil
      have c10 := n10.two; have f10 := n10.free0
      go_simp
      refine hK.out _ _ ?_ (fun hHeld2 => ?_)
      · exact ⟨hHeld.1.else2 (Nat.ne_of_lt e10_0), hHeld.2.1.else2 (Nat.ne_of_lt e10_1), hHeld.2.2.1.else2 (Nat.ne_of_lt e10_2), hHeld.2.2.2.1.else2 (Nat.ne_of_lt e10_3), Below.put2 hHeld.2.2.2.2 z10⟩
      clear hHeld hK K c10 f10; have hHeld := hHeld2; clear hHeld2
      try simp only [Act.put, List.setIfInBounds_toArray, List.set_cons_zero, List.set_cons_succ]
      refine H.other2 n11 (Nat.ne_of_gt dn10_n11) (fun n11x => ?_)
      refine H.stored2 n10 (fun n10x => ?_)
      refine H.forget2 hHeld n10x n11x (fun w1 hHeld n10y n11y => ?_)
      clear n10 n10x; have n10 := n10y; clear n10y
      clear n11 n11x; have n11 := n11y; clear n11y
      refine H.ready [11] (by kernel_rfl) (by simp) ?_
      refine H.one rfl (by rfl) (fun K hK => ?_) AllReadyH.nil
      have c11 := n11.two; have f11 := n11.free0
      go_simp
      refine hK.out _ _ ?_ (fun hHeld2 => ?_)
      · exact ⟨hHeld.1.else2 (Nat.ne_of_lt e11_0), hHeld.2.1.else2 (Nat.ne_of_lt e11_1), hHeld.2.2.1.else2 (Nat.ne_of_lt e11_2), hHeld.2.2.2.1.else2 (Nat.ne_of_lt e11_3), Below.put2 hHeld.2.2.2.2 z11⟩
      clear hHeld hK K c11 f11; have hHeld := hHeld2; clear hHeld2
      try simp only [Act.put, List.setIfInBounds_toArray, List.set_cons_zero, List.set_cons_succ]
      refine H.other2 n10 (Nat.ne_of_lt dn10_n11) (fun n10x => ?_)
      refine H.stored2 n11 (fun n11x => ?_)
      refine H.forget2 hHeld n10x n11x (fun w1 hHeld n10y n11y => ?_)
      clear n10 n10x; have n10 := n10y; clear n10y
      clear n11 n11x; have n11 := n11y; clear n11y
      refine H.done (by kernel_rfl) ?_ _
      show K _ _
      exact hQ.out _ _ _ _ _ _ _ _ _ _ _ ⟨_, _, rfl, rfl, n10, n11, hHeld⟩
    exact AllReadyH.nil
  refine H.one rfl (by rfl) (fun K hK => ?_) ?_
  · skip
    have e11_0 := hHeld.1.lt
    have e11_1 := hHeld.2.1.lt
    have e11_2 := hHeld.2.2.1.lt
    have e11_3 := hHeld.2.2.2.1.lt
    have z11 := hHeld.2.2.2.2.size
    try simp only [World.size_alloc] at e11_0 e11_1 e11_2 e11_3 z11
    go_simp
    refine hK.out _ _ ?_ (fun hHeld2 => ?_)
    · exact ⟨hHeld.1.old _, hHeld.2.1.old _, hHeld.2.2.1.old _, hHeld.2.2.2.1.old _, hHeld.2.2.2.2.alloc hHeld.2.2.2.2.size _⟩
    clear hHeld hK K; have hHeld := hHeld2; clear hHeld2
    try simp only [Act.put, List.setIfInBounds_toArray, List.set_cons_zero, List.set_cons_succ]
    refine H.fresh (fun n11 => ?_)
    refine H.forget1 hHeld n11 (fun w1 hHeld n11 => ?_)
    refine H.ready [2, 8] (by kernel_rfl) (by simp) ?_
    refine H.one rfl (by rfl) (fun K hK => ?_) ?_
    · skip
      go_simp
      go_at_call 13
      refine (SC.out _).mono ?_
      rintro e w1 ⟨rfl, hb⟩
      refine hK.out _ _ ?_ (fun hHeld2 => ?_)
      · exact ⟨Blk.keep hb hHeld.1, Blk.keep hb hHeld.2.1, Blk.keep hb hHeld.2.2.1, Blk.keep hb hHeld.2.2.2.1, hHeld.2.2.2.2.trans (hb.mono hHeld.2.2.2.2.size)⟩
      clear hHeld hK K; have hHeld := hHeld2; clear hHeld2
      replace n11 := Blk.keep hb n11
      try simp only [Act.put, List.setIfInBounds_toArray, List.set_cons_zero, List.set_cons_succ]
      refine H.ready [6, 8] (by kernel_rfl) (by simp) ?_
      refine H.one rfl (by rfl) (fun K hK => ?_) ?_
      · skip
        go_simp
        go_at_call 13
        refine (BC.out _).mono ?_
        rintro e w1 ⟨rfl, hb⟩
        refine hK.out _ _ ?_ (fun hHeld2 => ?_)
        · exact ⟨Blk.keep hb hHeld.1, Blk.keep hb hHeld.2.1, Blk.keep hb hHeld.2.2.1, Blk.keep hb hHeld.2.2.2.1, hHeld.2.2.2.2.trans (hb.mono hHeld.2.2.2.2.size)⟩
        clear hHeld hK K; have hHeld := hHeld2; clear hHeld2
        replace n11 := Blk.keep hb n11
        try simp only [Act.put, List.setIfInBounds_toArray, List.set_cons_zero, List.set_cons_succ]
        refine H.ready [7, 8] (by kernel_rfl) (by simp) ?_
        refine H.one rfl (by rfl) (fun K hK => ?_) ?_
        · skip
          go_simp
          go_at_call 13
          refine (AT.out _).mono ?_
          rintro e w1 ⟨rfl, hb⟩
          refine hK.out _ _ ?_ (fun hHeld2 => ?_)
          · exact ⟨Blk.keep hb hHeld.1, Blk.keep hb hHeld.2.1, Blk.keep hb hHeld.2.2.1, Blk.keep hb hHeld.2.2.2.1, hHeld.2.2.2.2.trans (hb.mono hHeld.2.2.2.2.size)⟩
          clear hHeld hK K; have hHeld := hHeld2; clear hHeld2
          replace n11 := Blk.keep hb n11
          try simp only [Act.put, List.setIfInBounds_toArray, List.set_cons_zero, List.set_cons_succ]
          refine H.ready [8] (by kernel_rfl) (by simp) ?_
          refine H.one rfl (by rfl) (fun K hK => ?_) AllReadyH.nil
          have e10_0 := hHeld.1.lt
          have e10_1 := hHeld.2.1.lt
          have e10_2 := hHeld.2.2.1.lt
          have e10_3 := hHeld.2.2.2.1.lt
          have z10 := hHeld.2.2.2.2.size
          have dn11_n10 := n11.lt
          try simp only [World.size_alloc] at e10_0 e10_1 e10_2 e10_3 z10 dn11_n10
          go_simp
          refine hK.out _ _ ?_ (fun hHeld2 => ?_)
          · exact ⟨hHeld.1.old _, hHeld.2.1.old _, hHeld.2.2.1.old _, hHeld.2.2.2.1.old _, hHeld.2.2.2.2.alloc hHeld.2.2.2.2.size _⟩
          clear hHeld hK K; have hHeld := hHeld2; clear hHeld2
          replace n11 := Blk.old n11 (.cells #[.int .i64 0, .int .u64 0] 24)
          try simp only [Act.put, List.setIfInBounds_toArray, List.set_cons_zero, List.set_cons_succ]
          refine H.fresh (fun n10 => ?_)
          refine H.forget2 hHeld n11 n10 (fun w1 hHeld n11 n10 => ?_)
          refine H.ready [10] (by kernel_rfl) (by simp) ?_
          refine H.one rfl (by rfl) (fun K hK => ?_) AllReadyH.nil
          have c10 := n10.two; have f10 := n10.free0
          go_simp
          refine hK.out _ _ ?_ (fun hHeld2 => ?_)
          · exact ⟨hHeld.1.else2 (Nat.ne_of_lt e10_0), hHeld.2.1.else2 (Nat.ne_of_lt e10_1), hHeld.2.2.1.else2 (Nat.ne_of_lt e10_2), hHeld.2.2.2.1.else2 (Nat.ne_of_lt e10_3), Below.put2 hHeld.2.2.2.2 z10⟩
          clear hHeld hK K c10 f10; have hHeld := hHeld2; clear hHeld2
          try simp only [Act.put, List.setIfInBounds_toArray, List.set_cons_zero, List.set_cons_succ]
          refine H.other2 n11 (Nat.ne_of_lt dn11_n10) (fun n11x => ?_)
          refine H.stored2 n10 (fun n10x => ?_)
          refine H.forget2 hHeld n11x n10x (fun w1 hHeld n11y n10y => ?_)
          clear n11 n11x; have n11 := n11y; clear n11y
          clear n10 n10x; have n10 := n10y; clear n10y
          refine H.ready [11] (by kernel_rfl) (by simp) ?_
          refine H.one rfl (by rfl) (fun K hK => ?_) AllReadyH.nil
          have c11 := n11.two; have f11 := n11.free0
          go_simp
          refine hK.out _ _ ?_ (fun hHeld2 => ?_)
          · exact ⟨hHeld.1.else2 (Nat.ne_of_lt e11_0), hHeld.2.1.else2 (Nat.ne_of_lt e11_1), hHeld.2.2.1.else2 (Nat.ne_of_lt e11_2), hHeld.2.2.2.1.else2 (Nat.ne_of_lt e11_3), Below.put2 hHeld.2.2.2.2 z11⟩
          clear hHeld hK K c11 f11; have hHeld := hHeld2; clear hHeld2
          try simp only [Act.put, List.setIfInBounds_toArray, List.set_cons_zero, List.set_cons_succ]
          refine H.other2 n10 (Nat.ne_of_gt dn11_n10) (fun n10x => ?_)
          refine H.stored2 n11 (fun n11x => ?_)
          refine H.forget2 hHeld n11x n10x (fun w1 hHeld n11y n10y => ?_)
          clear n11 n11x; have n11 := n11y; clear n11y
          clear n10 n10x; have n10 := n10y; clear n10y
          refine H.done (by kernel_rfl) ?_ _
          show K _ _
          exact hQ.out _ _ _ _ _ _ _ _ _ _ _ ⟨_, _, rfl, rfl, n10, n11, hHeld⟩
        refine H.one rfl (by rfl) (fun K hK => ?_) ?_
        · skip
          have e10_0 := hHeld.1.lt
          have e10_1 := hHeld.2.1.lt
          have e10_2 := hHeld.2.2.1.lt
          have e10_3 := hHeld.2.2.2.1.lt
          have z10 := hHeld.2.2.2.2.size
          have dn11_n10 := n11.lt
          try simp only [World.size_alloc] at e10_0 e10_1 e10_2 e10_3 z10 dn11_n10
          go_simp
          refine hK.out _ _ ?_ (fun hHeld2 => ?_)
          · exact ⟨hHeld.1.old _, hHeld.2.1.old _, hHeld.2.2.1.old _, hHeld.2.2.2.1.old _, hHeld.2.2.2.2.alloc hHeld.2.2.2.2.size _⟩
          clear hHeld hK K; have hHeld := hHeld2; clear hHeld2
          replace n11 := Blk.old n11 (.cells #[.int .i64 0, .int .u64 0] 24)
          try simp only [Act.put, List.setIfInBounds_toArray, List.set_cons_zero, List.set_cons_succ]
          refine H.fresh (fun n10 => ?_)
          refine H.forget2 hHeld n11 n10 (fun w1 hHeld n11 n10 => ?_)
          refine H.ready [7] (by kernel_rfl) (by simp) ?_
          refine H.one rfl (by rfl) (fun K hK => ?_) AllReadyH.nil
          go_simp
          go_at_call 13
          refine (AT.out _).mono ?_
          rintro e w1 ⟨rfl, hb⟩
          refine hK.out _ _ ?_ (fun hHeld2 => ?_)
          · exact ⟨Blk.keep hb hHeld.1, Blk.keep hb hHeld.2.1, Blk.keep hb hHeld.2.2.1, Blk.keep hb hHeld.2.2.2.1, hHeld.2.2.2.2.trans (hb.mono hHeld.2.2.2.2.size)⟩
          clear hHeld hK K; have hHeld := hHeld2; clear hHeld2
          replace n11 := Blk.keep hb n11
          replace n10 := Blk.keep hb n10
          try simp only [Act.put, List.setIfInBounds_toArray, List.set_cons_zero, List.set_cons_succ]
          refine H.ready [10] (by kernel_rfl) (by simp) ?_
          refine H.one rfl (by rfl) (fun K hK => ?_) AllReadyH.nil
          have c10 := n10.two; have f10 := n10.free0
          go_simp
          refine hK.out _ _ ?_ (fun hHeld2 => ?_)
          · exact ⟨hHeld.1.else2 (Nat.ne_of_lt e10_0), hHeld.2.1.else2 (Nat.ne_of_lt e10_1), hHeld.2.2.1.else2 (Nat.ne_of_lt e10_2), hHeld.2.2.2.1.else2 (Nat.ne_of_lt e10_3), Below.put2 hHeld.2.2.2.2 z10⟩
          clear hHeld hK K c10 f10; have hHeld := hHeld2; clear hHeld2
          try simp only [Act.put, List.setIfInBounds_toArray, List.set_cons_zero, List.set_cons_succ]
          refine H.other2 n11 (Nat.ne_of_lt dn11_n10) (fun n11x => ?_)
          refine H.stored2 n10 (fun n10x => ?_)
          refine H.forget2 hHeld n11x n10x (fun w1 hHeld n11y n10y => ?_)
          clear n11 n11x; have n11 := n11y; clear n11y
          clear n10 n10x; have n10 := n10y; clear n10y
          refine H.ready [11] (by kernel_rfl) (by simp) ?_
          refine H.one rfl (by rfl) (fun K hK => ?_) AllReadyH.nil
          have c11 := n11.two; have f11 := n11.free0
          go_simp
          refine hK.out _ _ ?_ (fun hHeld2 => ?_)
          · exact ⟨hHeld.1.else2 (Nat.ne_of_lt e11_0), hHeld.2.1.else2 (Nat.ne_of_lt e11_1), hHeld.2.2.1.else2 (Nat.ne_of_lt e11_2), hHeld.2.2.2.1.else2 (Nat.ne_of_lt e11_3), Below.put2 hHeld.2.2.2.2 z11⟩
          clear hHeld hK K c11 f11; have hHeld := hHeld2; clear hHeld2
          try simp only [Act.put, List.setIfInBounds_toArray, List.set_cons_zero, List.set_cons_succ]
          refine H.other2 n10 (Nat.ne_of_gt dn11_n10) (fun n10x => ?_)
          refine H.stored2 n11 (fun n11x => ?_)
          refine H.forget2 hHeld n11x n10x (fun w1 hHeld n11y n10y => ?_)
          clear n11 n11x; have n11 := n11y; clear n11y
          clear n10 n10x; have n10 := n10y; clear n10y
          refine H.done (by kernel_rfl) ?_ _
          show K _ _
          exact hQ.out _ _ _ _ _ _ _ _ _ _ _ ⟨_, _, rfl, rfl, n10, n11, hHeld⟩
        exact AllReadyH.nil
      refine H.one rfl (by rfl) (fun K hK => ?_) ?_
      · skip
        have e10_0 := hHeld.1.lt
        have e10_1 := hHeld.2.1.lt
        have e10_2 := hHeld.2.2.1.lt
        have e10_3 := hHeld.2.2.2.1.lt
        have z10 := hHeld.2.2.2.2.size
        have dn11_n10 := n11.lt
        try simp only [World.size_alloc] at e10_0 e10_1 e10_2 e10_3 z10 dn11_n10
        go_simp
        refine hK.out _ _ ?_ (fun hHeld2 => ?_)
        · exact ⟨hHeld.1.old _, hHeld.2.1.old _, hHeld.2.2.1.old _, hHeld.2.2.2.1.old _, hHeld.2.2.2.2.alloc hHeld.2.2.2.2.size _⟩
        clear hHeld hK K; have hHeld := hHeld2; clear hHeld2
        replace n11 := Blk.old n11 (.cells #[.int .i64 0, .int .u64 0] 24)
        try simp only [Act.put, List.setIfInBounds_toArray, List.set_cons_zero, List.set_cons_succ]
        refine H.fresh (fun n10 => ?_)
        refine H.forget2 hHeld n11 n10 (fun w1 hHeld n11 n10 => ?_)
        refine H.ready [6] (by kernel_rfl) (by simp) ?_
        refine H.one rfl (by rfl) (fun K hK => ?_) AllReadyH.nil
        go_simp
        go_at_call 13
        refine (BC.out _).mono ?_
        rintro e w1 ⟨rfl, hb⟩
        refine hK.out _ _ ?_ (fun hHeld2 => ?_)
        · exact ⟨Blk.keep hb hHeld.1, Blk.keep hb hHeld.2.1, Blk.keep hb hHeld.2.2.1, Blk.keep hb hHeld.2.2.2.1, hHeld.2.2.2.2.trans (hb.mono hHeld.2.2.2.2.size)⟩
        clear hHeld hK K; have hHeld := hHeld2; clear hHeld2
        replace n11 := Blk.keep hb n11
        replace n10 := Blk.keep hb n10
        try simp only [Act.put, List.setIfInBounds_toArray, List.set_cons_zero, List.set_cons_succ]
        refine H.ready [7] (by kernel_rfl) (by simp) ?_
        refine H.one rfl (by rfl) (fun K hK => ?_) AllReadyH.nil
        go_simp
        go_at_call 13
        refine (AT.out _).mono ?_
        rintro e w1 ⟨rfl, hb⟩
        refine hK.out _ _ ?_ (fun hHeld2 => ?_)
        · exact ⟨Blk.keep hb hHeld.1, Blk.keep hb hHeld.2.1, Blk.keep hb hHeld.2.2.1, Blk.keep hb hHeld.2.2.2.1, hHeld.2.2.2.2.trans (hb.mono hHeld.2.2.2.2.size)⟩
        clear hHeld hK K; have hHeld := hHeld2; clear hHeld2
        replace n11 := Blk.keep hb n11
        replace n10 := Blk.keep hb n10
        try simp only [Act.put, List.setIfInBounds_toArray, List.set_cons_zero, List.set_cons_succ]
        refine H.ready [10] (by kernel_rfl) (by simp) ?_
        refine H.one rfl (by rfl) (fun K hK => ?_) AllReadyH.nil
        have c10 := n10.two; have f10 := n10.free0
        go_simp
        refine hK.out _ _ ?_ (fun hHeld2 => ?_)
        · exact ⟨hHeld.1.else2 (Nat.ne_of_lt e10_0), hHeld.2.1.else2 (Nat.ne_of_lt e10_1), hHeld.2.2.1.else2 (Nat.ne_of_lt e10_2), hHeld.2.2.2.1.else2 (Nat.ne_of_lt e10_3), Below.put2 hHeld.2.2.2.2 z10⟩
        clear hHeld hK K c10 f10; have hHeld := hHeld2; clear hHeld2
        try simp only [Act.put, List.setIfInBounds_toArray, List.set_cons_zero, List.set_cons_succ]
        refine H.other2 n11 (Nat.ne_of_lt dn11_n10) (fun n11x => ?_)
        refine H.stored2 n10 (fun n10x => ?_)
        refine H.forget2 hHeld n11x n10x (fun w1 hHeld n11y n10y => ?_)
        clear n11 n11x; have n11 := n11y; clear n11y
        clear n10 n10x; have n10 := n10y; clear n10y
        refine H.ready [11] (by kernel_rfl) (by simp) ?_
        refine H.one rfl (by rfl) (fun K hK => ?_) AllReadyH.nil
        have c11 := n11.two; have f11 := n11.free0
        go_simp
        refine hK.out _ _ ?_ (fun hHeld2 => ?_)
        · exact ⟨hHeld.1.else2 (Nat.ne_of_lt e11_0), hHeld.2.1.else2 (Nat.ne_of_lt e11_1), hHeld.2.2.1.else2 (Nat.ne_of_lt e11_2), hHeld.2.2.2.1.else2 (Nat.ne_of_lt e11_3), Below.put2 hHeld.2.2.2.2 z11⟩
        clear hHeld hK K c11 f11; have hHeld := hHeld2; clear hHeld2
        try simp only [Act.put, List.setIfInBounds_toArray, List.set_cons_zero, List.set_cons_succ]
        refine H.other2 n10 (Nat.ne_of_gt dn11_n10) (fun n10x => ?_)
        refine H.stored2 n11 (fun n11x => ?_)
        refine H.forget2 hHeld n11x n10x (fun w1 hHeld n11y n10y => ?_)
        clear n11 n11x; have n11 := n11y; clear n11y
        clear n10 n10x; have n10 := n10y; clear n10y
        refine H.done (by kernel_rfl) ?_ _
        show K _ _
        exact hQ.out _ _ _ _ _ _ _ _ _ _ _ ⟨_, _, rfl, rfl, n10, n11, hHeld⟩
      exact AllReadyH.nil
    refine H.one rfl (by rfl) (fun K hK => ?_) ?_
    · skip
      have e10_0 := hHeld.1.lt
      have e10_1 := hHeld.2.1.lt
      have e10_2 := hHeld.2.2.1.lt
      have e10_3 := hHeld.2.2.2.1.lt
      have z10 := hHeld.2.2.2.2.size
      have dn11_n10 := n11.lt
      try simp only [World.size_alloc] at e10_0 e10_1 e10_2 e10_3 z10 dn11_n10
      go_simp
      refine hK.out _ _ ?_ (fun hHeld2 => ?_)
      · exact ⟨hHeld.1.old _, hHeld.2.1.old _, hHeld.2.2.1.old _, hHeld.2.2.2.1.old _, hHeld.2.2.2.2.alloc hHeld.2.2.2.2.size _⟩
      clear hHeld hK K; have hHeld := hHeld2; clear hHeld2
      replace n11 := Blk.old n11 (.cells #[.int .i64 0, .int .u64 0] 24)
      try simp only [Act.put, List.setIfInBounds_toArray, List.set_cons_zero, List.set_cons_succ]
      refine H.fresh (fun n10 => ?_)
      refine H.forget2 hHeld n11 n10 (fun w1 hHeld n11 n10 => ?_)
      refine H.ready [2] (by kernel_rfl) (by simp) ?_
      refine H.one rfl (by rfl) (fun K hK => ?_) AllReadyH.nil
      go_simp
      go_at_call 13
      refine (SC.out _).mono ?_
      rintro e w1 ⟨rfl, hb⟩
      refine hK.out _ _ ?_ (fun hHeld2 => ?_)
      · exact ⟨Blk.keep hb hHeld.1, Blk.keep hb hHeld.2.1, Blk.keep hb hHeld.2.2.1, Blk.keep hb hHeld.2.2.2.1, hHeld.2.2.2.2.trans (hb.mono hHeld.2.2.2.2.size)⟩
      clear hHeld hK K; have hHeld := hHeld2; clear hHeld2
      replace n11 := Blk.keep hb n11
      replace n10 := Blk.keep hb n10
      try simp only [Act.put, List.setIfInBounds_toArray, List.set_cons_zero, List.set_cons_succ]
      refine H.ready [6] (by kernel_rfl) (by simp) ?_
      refine H.one rfl (by rfl) (fun K hK => ?_) AllReadyH.nil
      go_simp
      go_at_call 13
      refine (BC.out _).mono ?_
      rintro e w1 ⟨rfl, hb⟩
      refine hK.out _ _ ?_ (fun hHeld2 => ?_)
      · exact ⟨Blk.keep hb hHeld.1, Blk.keep hb hHeld.2.1, Blk.keep hb hHeld.2.2.1, Blk.keep hb hHeld.2.2.2.1, hHeld.2.2.2.2.trans (hb.mono hHeld.2.2.2.2.size)⟩
      clear hHeld hK K; have hHeld := hHeld2; clear hHeld2
      replace n11 := Blk.keep hb n11
      replace n10 := Blk.keep hb n10
      try simp only [Act.put, List.setIfInBounds_toArray, List.set_cons_zero, List.set_cons_succ]
      refine H.ready [7] (by kernel_rfl) (by simp) ?_
      refine H.one rfl (by rfl) (fun K hK => ?_) AllReadyH.nil
      go_simp
      go_at_call 13
      refine (AT.out _).mono ?_
      rintro e w1 ⟨rfl, hb⟩
      refine hK.out _ _ ?_ (fun hHeld2 => ?_)
      · exact ⟨Blk.keep hb hHeld.1, Blk.keep hb hHeld.2.1, Blk.keep hb hHeld.2.2.1, Blk.keep hb hHeld.2.2.2.1, hHeld.2.2.2.2.trans (hb.mono hHeld.2.2.2.2.size)⟩
      clear hHeld hK K; have hHeld := hHeld2; clear hHeld2
      replace n11 := Blk.keep hb n11
      replace n10 := Blk.keep hb n10
      try simp only [Act.put, List.setIfInBounds_toArray, List.set_cons_zero, List.set_cons_succ]
      refine H.ready [10] (by kernel_rfl) (by simp) ?_
      refine H.one rfl (by rfl) (fun K hK => ?_) AllReadyH.nil
      have c10 := n10.two; have f10 := n10.free0
      go_simp
      refine hK.out _ _ ?_ (fun hHeld2 => ?_)
      · exact ⟨hHeld.1.else2 (Nat.ne_of_lt e10_0), hHeld.2.1.else2 (Nat.ne_of_lt e10_1), hHeld.2.2.1.else2 (Nat.ne_of_lt e10_2), hHeld.2.2.2.1.else2 (Nat.ne_of_lt e10_3), Below.put2 hHeld.2.2.2.2 z10⟩
      clear hHeld hK K c10 f10; have hHeld := hHeld2; clear hHeld2
      try simp only [Act.put, List.setIfInBounds_toArray, List.set_cons_zero, List.set_cons_succ]
      refine H.other2 n11 (Nat.ne_of_lt dn11_n10) (fun n11x => ?_)
      refine H.stored2 n10 (fun n10x => ?_)
      refine H.forget2 hHeld n11x n10x (fun w1 hHeld n11y n10y => ?_)
      clear n11 n11x; have n11 := n11y; clear n11y
      clear n10 n10x; have n10 := n10y; clear n10y
      refine H.ready [11] (by kernel_rfl) (by simp) ?_
      refine H.one rfl (by rfl) (fun K hK => ?_) AllReadyH.nil
      have c11 := n11.two; have f11 := n11.free0
      go_simp
      refine hK.out _ _ ?_ (fun hHeld2 => ?_)
      · exact ⟨hHeld.1.else2 (Nat.ne_of_lt e11_0), hHeld.2.1.else2 (Nat.ne_of_lt e11_1), hHeld.2.2.1.else2 (Nat.ne_of_lt e11_2), hHeld.2.2.2.1.else2 (Nat.ne_of_lt e11_3), Below.put2 hHeld.2.2.2.2 z11⟩
      clear hHeld hK K c11 f11; have hHeld := hHeld2; clear hHeld2
      try simp only [Act.put, List.setIfInBounds_toArray, List.set_cons_zero, List.set_cons_succ]
      refine H.other2 n10 (Nat.ne_of_gt dn11_n10) (fun n10x => ?_)
      refine H.stored2 n11 (fun n11x => ?_)
      refine H.forget2 hHeld n11x n10x (fun w1 hHeld n11y n10y => ?_)
      clear n11 n11x; have n11 := n11y; clear n11y
      clear n10 n10x; have n10 := n10y; clear n10y
      refine H.done (by kernel_rfl) ?_ _
      show K _ _
      exact hQ.out _ _ _ _ _ _ _ _ _ _ _ ⟨_, _, rfl, rfl, n10, n11, hHeld⟩
    exact AllReadyH.nil
  exact AllReadyH.nil
end Go.Proofs.Ytkmegldbmjpdmaa
