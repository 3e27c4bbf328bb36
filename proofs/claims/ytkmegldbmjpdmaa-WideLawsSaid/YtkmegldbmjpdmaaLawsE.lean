
/-
  WideLaws: the regions of halves.
-/
import Derived.Test.YtkmegldbmjpdmaaWMul
import Derived.Test.YtkmegldbmjpdmaaKit2
namespace Go.Proofs.Ytkmegldbmjpdmaa
open Go.RowKit

noncomputable def laws_r18_code : Code := ((Try.f6.body.bind (findRegion 18)).getD .skip)
set_option maxRecDepth 100000 in set_option maxHeartbeats 8000000 in
theorem laws_r18 {a b c s h d f : Int} {B17 : Nat} {B4 B5 B6 B9 : Nat} {W : World} (HH : Hid (∀ w : World, Calls Try.prog 13 #[.agg #[.int .i64 (hi h), .int .u64 (lo h)], .agg #[.int .i64 (hi h), .int .u64 (lo h)]] w fun e w' => e = .returned (.agg #[.int .i64 (hi d), .int .u64 (lo d)]) ∧ Below w.heap.size w w')) (AD : Hid (∀ w : World, Calls Try.prog 15 #[.agg #[.int .i64 (hi a), .int .u64 (lo a)], .agg #[.int .i64 (hi d), .int .u64 (lo d)]] w fun e w' => e = .returned (.agg #[.int .i64 (hi f), .int .u64 (lo f)]) ∧ Below w.heap.size w w')) {u0 u1 u2 u3 u5 u6 u7 u8 u9 u10 u11 u12 u13 u14 u15 u16 u18 u19 u20 u21 u22 u23 u24 u25 u26 u27 u28 u29 u30 u31 u32 u33 u34 u35 u36 u37 u38 u39 u40 u41 u42 u43 u44 u45 u46 u47 u48 u49 u50 u51 u52 u53 u54 u55 u56 u57 u58 u59 u60 u61 u62 u63 u64 u65 u66 u67 u68 u69 u70 u71 u72 u73 u74 u75 u76 u77 u78 u79 u80 u81 u82 u83 u84 u85 u86 u87 u88 u89 u90 u91 u92 u93 u94 u95 u96 u97 u98 u99 u100 u101 u102 u103 u104 u105 u106 u107 u108 u109 u110 u111 u112 u113 u114 u115 u116 u117 u118 u119 u120 u121 u122 u123 u124 u125 u126 u127 u128 u129 u130 u131 u132 u133 u134 u135 u136 u137 u138 u139 u140 u141 u142 u143 u144 u145 u146 u147 u148 u149 u150 u151 u152 u153 u154 u155 u156 u157 u158 u159 u160 u161 u162 u163 u164 : Value} {K : Act → World → Prop} {Q' : Exit → Act → World → Prop} {w1 : World} (hHeld : (fun w' => Blk w' B17 #[.int .i64 (hi h), .int .u64 (lo h)] 24 ∧ Blk w' B4 #[.int .i64 (hi a), .int .u64 (lo a)] 24 ∧ Blk w' B5 #[.int .i64 (hi b), .int .u64 (lo b)] 24 ∧ Blk w' B6 #[.int .i64 (hi c), .int .u64 (lo c)] 24 ∧ Blk w' B9 #[.int .i64 (hi s), .int .u64 (lo s)] 24 ∧ Below W.heap.size W w') w1)
    (hP : ∀ c t t2 d w, Q' (.panic c) ⟨t, d⟩ w → Q' (.panic c) ⟨t2, d⟩ w)
    (hK : ∀ (v18 v152 v153 v154 v155 v156 : Value) (w2 : World), (OneNew (fun w' => Blk w' B17 #[.int .i64 (hi h), .int .u64 (lo h)] 24 ∧ Blk w' B4 #[.int .i64 (hi a), .int .u64 (lo a)] 24 ∧ Blk w' B5 #[.int .i64 (hi b), .int .u64 (lo b)] 24 ∧ Blk w' B6 #[.int .i64 (hi c), .int .u64 (lo c)] 24 ∧ Blk w' B9 #[.int .i64 (hi s), .int .u64 (lo s)] 24 ∧ Below W.heap.size W w') #[.int .i64 (hi f), .int .u64 (lo f)] 24 v18 w2) → K ⟨List.toArray (u0 :: u1 :: u2 :: u3 :: (.pointer (some ⟨B4, 0, none⟩)) :: u5 :: u6 :: u7 :: u8 :: u9 :: u10 :: u11 :: u12 :: u13 :: u14 :: u15 :: u16 :: (.pointer (some ⟨B17, 0, none⟩)) :: v18 :: u19 :: u20 :: u21 :: u22 :: u23 :: u24 :: u25 :: u26 :: u27 :: u28 :: u29 :: u30 :: u31 :: u32 :: u33 :: u34 :: u35 :: u36 :: u37 :: u38 :: u39 :: u40 :: u41 :: u42 :: u43 :: u44 :: u45 :: u46 :: u47 :: u48 :: u49 :: u50 :: u51 :: u52 :: u53 :: u54 :: u55 :: u56 :: u57 :: u58 :: u59 :: u60 :: u61 :: u62 :: u63 :: u64 :: u65 :: u66 :: u67 :: u68 :: u69 :: u70 :: u71 :: u72 :: u73 :: u74 :: u75 :: u76 :: u77 :: u78 :: u79 :: u80 :: u81 :: u82 :: u83 :: u84 :: u85 :: u86 :: u87 :: u88 :: u89 :: u90 :: u91 :: u92 :: u93 :: u94 :: u95 :: u96 :: u97 :: u98 :: u99 :: u100 :: u101 :: u102 :: u103 :: u104 :: u105 :: u106 :: u107 :: u108 :: u109 :: u110 :: u111 :: u112 :: u113 :: u114 :: u115 :: u116 :: u117 :: u118 :: u119 :: u120 :: u121 :: u122 :: u123 :: u124 :: u125 :: u126 :: u127 :: u128 :: u129 :: u130 :: u131 :: u132 :: u133 :: u134 :: u135 :: u136 :: u137 :: u138 :: u139 :: u140 :: u141 :: u142 :: u143 :: u144 :: u145 :: u146 :: u147 :: u148 :: u149 :: u150 :: u151 :: v152 :: v153 :: v154 :: v155 :: v156 :: u157 :: u158 :: u159 :: u160 :: u161 :: u162 :: u163 :: u164 :: []), []⟩ w2) :
    Code.wp Try.prog laws_r18_code (Exit.then K Q') ⟨List.toArray (u0 :: u1 :: u2 :: u3 :: (.pointer (some ⟨B4, 0, none⟩)) :: u5 :: u6 :: u7 :: u8 :: u9 :: u10 :: u11 :: u12 :: u13 :: u14 :: u15 :: u16 :: (.pointer (some ⟨B17, 0, none⟩)) :: u18 :: u19 :: u20 :: u21 :: u22 :: u23 :: u24 :: u25 :: u26 :: u27 :: u28 :: u29 :: u30 :: u31 :: u32 :: u33 :: u34 :: u35 :: u36 :: u37 :: u38 :: u39 :: u40 :: u41 :: u42 :: u43 :: u44 :: u45 :: u46 :: u47 :: u48 :: u49 :: u50 :: u51 :: u52 :: u53 :: u54 :: u55 :: u56 :: u57 :: u58 :: u59 :: u60 :: u61 :: u62 :: u63 :: u64 :: u65 :: u66 :: u67 :: u68 :: u69 :: u70 :: u71 :: u72 :: u73 :: u74 :: u75 :: u76 :: u77 :: u78 :: u79 :: u80 :: u81 :: u82 :: u83 :: u84 :: u85 :: u86 :: u87 :: u88 :: u89 :: u90 :: u91 :: u92 :: u93 :: u94 :: u95 :: u96 :: u97 :: u98 :: u99 :: u100 :: u101 :: u102 :: u103 :: u104 :: u105 :: u106 :: u107 :: u108 :: u109 :: u110 :: u111 :: u112 :: u113 :: u114 :: u115 :: u116 :: u117 :: u118 :: u119 :: u120 :: u121 :: u122 :: u123 :: u124 :: u125 :: u126 :: u127 :: u128 :: u129 :: u130 :: u131 :: u132 :: u133 :: u134 :: u135 :: u136 :: u137 :: u138 :: u139 :: u140 :: u141 :: u142 :: u143 :: u144 :: u145 :: u146 :: u147 :: u148 :: u149 :: u150 :: u151 :: u152 :: u153 :: u154 :: u155 :: u156 :: u157 :: u158 :: u159 :: u160 :: u161 :: u162 :: u163 :: u164 :: []), []⟩ w1 := by
  conv => arg 2; whnf
  have hQ := Lib.hid hK; clear hK
  have qB17 := fun (w' : World) (h : Blk w' B17 #[.int .i64 (hi h), .int .u64 (lo h)] 24) => h.two
  have qB4 := fun (w' : World) (h : Blk w' B4 #[.int .i64 (hi a), .int .u64 (lo a)] 24) => h.two
  have qB5 := fun (w' : World) (h : Blk w' B5 #[.int .i64 (hi b), .int .u64 (lo b)] 24) => h.two
  have qB6 := fun (w' : World) (h : Blk w' B6 #[.int .i64 (hi c), .int .u64 (lo c)] 24) => h.two
  have qB9 := fun (w' : World) (h : Blk w' B9 #[.int .i64 (hi s), .int .u64 (lo s)] 24) => h.two
  refine H.begin (fun w' => Blk w' B17 #[.int .i64 (hi h), .int .u64 (lo h)] 24 ∧ Blk w' B4 #[.int .i64 (hi a), .int .u64 (lo a)] 24 ∧ Blk w' B5 #[.int .i64 (hi b), .int .u64 (lo b)] 24 ∧ Blk w' B6 #[.int .i64 (hi c), .int .u64 (lo c)] 24 ∧ Blk w' B9 #[.int .i64 (hi s), .int .u64 (lo s)] 24 ∧ Below W.heap.size W w') (by kernel_rfl) ⟨hHeld.1.drew, hHeld.2.1.drew, hHeld.2.2.1.drew, hHeld.2.2.2.1.drew, hHeld.2.2.2.2.1.drew, hHeld.2.2.2.2.2.drew⟩ (fun w1 hHeld => ?_)
  refine H.take 0 (v := ?_) rfl (by kernel_rfl) (fun _ a _ h => hP _ _ a.tmps a.defers _ h) (by rfl) ?_ (by assumption) ?_
  rotate_left
  · (intro wz hSw; (try dsimp only at hSw); go_simp <;> with_reducible rfl)
  try simp only [Act.put, List.setIfInBounds_toArray, List.set_cons_zero, List.set_cons_succ]
  refine H.take 1 (v := ?_) rfl (by kernel_rfl) (fun _ a _ h => hP _ _ a.tmps a.defers _ h) (by rfl) ?_ (by assumption) ?_
  rotate_left
  · (intro wz hSw; (try dsimp only at hSw); go_simp <;> with_reducible rfl)
  try simp only [Act.put, List.setIfInBounds_toArray, List.set_cons_zero, List.set_cons_succ]
  refine H.take 2 (v := ?_) rfl (by kernel_rfl) (fun _ a _ h => hP _ _ a.tmps a.defers _ h) (by rfl) ?_ (by assumption) ?_
  rotate_left
  · (intro wz hSw; (try dsimp only at hSw); go_simp <;> with_reducible rfl)
  try simp only [Act.put, List.setIfInBounds_toArray, List.set_cons_zero, List.set_cons_succ]
  refine H.ready [3, 5] (by kernel_rfl) (by simp) ?_
  refine H.one rfl (by rfl) (fun K hK => ?_) ?_
  · skip
    go_simp
    go_at_call 13
    refine (HH.out _).mono ?_
    rintro e w1 ⟨rfl, hb⟩
    refine hK.out _ _ ?_ (fun hHeld2 => ?_)
    · exact ⟨Blk.keep hb hHeld.1, Blk.keep hb hHeld.2.1, Blk.keep hb hHeld.2.2.1, Blk.keep hb hHeld.2.2.2.1, Blk.keep hb hHeld.2.2.2.2.1, hHeld.2.2.2.2.2.trans (hb.mono hHeld.2.2.2.2.2.size)⟩
    clear hHeld hK K; have hHeld := hHeld2; clear hHeld2
    try simp only [Act.put, List.setIfInBounds_toArray, List.set_cons_zero, List.set_cons_succ]
    refine H.ready [4, 5] (by kernel_rfl) (by simp) ?_
    refine H.one rfl (by rfl) (fun K hK => ?_) ?_
    · skip
      go_simp
      go_at_call 15
      refine (AD.out _).mono ?_
      rintro e w1 ⟨rfl, hb⟩
      refine hK.out _ _ ?_ (fun hHeld2 => ?_)
      · exact ⟨Blk.keep hb hHeld.1, Blk.keep hb hHeld.2.1, Blk.keep hb hHeld.2.2.1, Blk.keep hb hHeld.2.2.2.1, Blk.keep hb hHeld.2.2.2.2.1, hHeld.2.2.2.2.2.trans (hb.mono hHeld.2.2.2.2.2.size)⟩
      clear hHeld hK K; have hHeld := hHeld2; clear hHeld2
      try simp only [Act.put, List.setIfInBounds_toArray, List.set_cons_zero, List.set_cons_succ]
      refine H.ready [5] (by kernel_rfl) (by simp) ?_
      refine H.one rfl (by rfl) (fun K hK => ?_) AllReadyH.nil
      have e18_0 := hHeld.1.lt
      have e18_1 := hHeld.2.1.lt
      have e18_2 := hHeld.2.2.1.lt
      have e18_3 := hHeld.2.2.2.1.lt
      have e18_4 := hHeld.2.2.2.2.1.lt
      have z18 := hHeld.2.2.2.2.2.size
      try simp only [World.size_alloc] at e18_0 e18_1 e18_2 e18_3 e18_4 z18
      go_simp
      refine hK.out _ _ ?_ (fun hHeld2 => ?_)
      · exact ⟨hHeld.1.old _, hHeld.2.1.old _, hHeld.2.2.1.old _, hHeld.2.2.2.1.old _, hHeld.2.2.2.2.1.old _, hHeld.2.2.2.2.2.alloc hHeld.2.2.2.2.2.size _⟩
      clear hHeld hK K; have hHeld := hHeld2; clear hHeld2
      try simp only [Act.put, List.setIfInBounds_toArray, List.set_cons_zero, List.set_cons_succ]
      refine H.fresh (fun n18 => ?_)
      refine H.forget1 hHeld n18 (fun w1 hHeld n18 => ?_)
      refine H.ready [6] (by kernel_rfl) (by simp) ?_
      refine H.one rfl (by rfl) (fun K hK => ?_) AllReadyH.nil
      have c18 := n18.two; have f18 := n18.free0
      go_simp
      refine hK.out _ _ ?_ (fun hHeld2 => ?_)
      · exact ⟨hHeld.1.else2 (Nat.ne_of_lt e18_0), hHeld.2.1.else2 (Nat.ne_of_lt e18_1), hHeld.2.2.1.else2 (Nat.ne_of_lt e18_2), hHeld.2.2.2.1.else2 (Nat.ne_of_lt e18_3), hHeld.2.2.2.2.1.else2 (Nat.ne_of_lt e18_4), Below.put2 hHeld.2.2.2.2.2 z18⟩
      clear hHeld hK K c18 f18; have hHeld := hHeld2; clear hHeld2
      try simp only [Act.put, List.setIfInBounds_toArray, List.set_cons_zero, List.set_cons_succ]
      refine H.stored2 n18 (fun n18x => ?_)
      refine H.forget1 hHeld n18x (fun w1 hHeld n18y => ?_)
      clear n18 n18x; have n18 := n18y; clear n18y
      refine H.done (by kernel_rfl) ?_ _
      show K _ _
      exact hQ.out _ _ _ _ _ _ _ ⟨_, rfl, n18, hHeld⟩
    refine H.one rfl (by rfl) (fun K hK => ?_) ?_
    · skip
      have e18_0 := hHeld.1.lt
      have e18_1 := hHeld.2.1.lt
      have e18_2 := hHeld.2.2.1.lt
      have e18_3 := hHeld.2.2.2.1.lt
      have e18_4 := hHeld.2.2.2.2.1.lt
      have z18 := hHeld.2.2.2.2.2.size
      try simp only [World.size_alloc] at e18_0 e18_1 e18_2 e18_3 e18_4 z18
      go_simp
      refine hK.out _ _ ?_ (fun hHeld2 => ?_)
      · exact ⟨hHeld.1.old _, hHeld.2.1.old _, hHeld.2.2.1.old _, hHeld.2.2.2.1.old _, hHeld.2.2.2.2.1.old _, hHeld.2.2.2.2.2.alloc hHeld.2.2.2.2.2.size _⟩
      clear hHeld hK K; have hHeld := hHeld2; clear hHeld2
      try simp only [Act.put, List.setIfInBounds_toArray, List.set_cons_zero, List.set_cons_succ]
      refine H.fresh (fun n18 => ?_)
      refine H.forget1 hHeld n18 (fun w1 hHeld n18 => ?_)
      refine H.ready [4] (by kernel_rfl) (by simp) ?_
      refine H.one rfl (by rfl) (fun K hK => ?_) AllReadyH.nil
      go_simp
      go_at_call 15
      refine (AD.out _).mono ?_
      rintro e w1 ⟨rfl, hb⟩
      refine hK.out _ _ ?_ (fun hHeld2 => ?_)
      · exact ⟨Blk.keep hb hHeld.1, Blk.keep hb hHeld.2.1, Blk.keep hb hHeld.2.2.1, Blk.keep hb hHeld.2.2.2.1, Blk.keep hb hHeld.2.2.2.2.1, hHeld.2.2.2.2.2.trans (hb.mono hHeld.2.2.2.2.2.size)⟩
      clear hHeld hK K; have hHeld := hHeld2; clear hHeld2
      replace n18 := Blk.keep hb n18
      try simp only [Act.put, List.setIfInBounds_toArray, List.set_cons_zero, List.set_cons_succ]
      refine H.ready [6] (by kernel_rfl) (by simp) ?_
      refine H.one rfl (by rfl) (fun K hK => ?_) AllReadyH.nil
      have c18 := n18.two; have f18 := n18.free0
      go_simp
      refine hK.out _ _ ?_ (fun hHeld2 => ?_)
      · exact ⟨hHeld.1.else2 (Nat.ne_of_lt e18_0), hHeld.2.1.else2 (Nat.ne_of_lt e18_1), hHeld.2.2.1.else2 (Nat.ne_of_lt e18_2), hHeld.2.2.2.1.else2 (Nat.ne_of_lt e18_3), hHeld.2.2.2.2.1.else2 (Nat.ne_of_lt e18_4), Below.put2 hHeld.2.2.2.2.2 z18⟩
      clear hHeld hK K c18 f18; have hHeld := hHeld2; clear hHeld2
      try simp only [Act.put, List.setIfInBounds_toArray, List.set_cons_zero, List.set_cons_succ]
      refine H.stored2 n18 (fun n18x => ?_)
      refine H.forget1 hHeld n18x (fun w1 hHeld n18y => ?_)
      clear n18 n18x; have n18 := n18y; clear n18y
      refine H.done (by kernel_rfl) ?_ _
      show K _ _
      exact hQ.out _ _ _ _ _ _ _ ⟨_, rfl, n18, hHeld⟩
    exact AllReadyH.nil
  refine H.one rfl (by rfl) (fun K hK => ?_) ?_
  · skip
    have e18_0 := hHeld.1.lt
    have e18_1 := hHeld.2.1.lt
    have e18_2 := hHeld.2.2.1.lt
    have e18_3 := hHeld.2.2.2.1.lt
    have e18_4 := hHeld.2.2.2.2.1.lt
    have z18 := hHeld.2.2.2.2.2.size
    try simp only [World.size_alloc] at e18_0 e18_1 e18_2 e18_3 e18_4 z18
    go_simp
    refine hK.out _ _ ?_ (fun hHeld2 => ?_)
    · exact ⟨hHeld.1.old _, hHeld.2.1.old _, hHeld.2.2.1.old _, hHeld.2.2.2.1.old _, hHeld.2.2.2.2.1.old _, hHeld.2.2.2.2.2.alloc hHeld.2.2.2.2.2.size _⟩
    clear hHeld hK K; have hHeld := hHeld2; clear hHeld2
    try simp only [Act.put, List.setIfInBounds_toArray, List.set_cons_zero, List.set_cons_succ]
    refine H.fresh (fun n18 => ?_)
    refine H.forget1 hHeld n18 (fun w1 hHeld n18 => ?_)
    refine H.ready [3] (by kernel_rfl) (by simp) ?_
    refine H.one rfl (by rfl) (fun K hK => ?_) AllReadyH.nil
    go_simp
    go_at_call 13
    refine (HH.out _).mono ?_
    rintro e w1 ⟨rfl, hb⟩
    refine hK.out _ _ ?_ (fun hHeld2 => ?_)
    · exact ⟨Blk.keep hb hHeld.1, Blk.keep hb hHeld.2.1, Blk.keep hb hHeld.2.2.1, Blk.keep hb hHeld.2.2.2.1, Blk.keep hb hHeld.2.2.2.2.1, hHeld.2.2.2.2.2.trans (hb.mono hHeld.2.2.2.2.2.size)⟩
    clear hHeld hK K; have hHeld := hHeld2; clear hHeld2
    replace n18 := Blk.keep hb n18
    try simp only [Act.put, List.setIfInBounds_toArray, List.set_cons_zero, List.set_cons_succ]
    refine H.ready [4] (by kernel_rfl) (by simp) ?_
    refine H.one rfl (by rfl) (fun K hK => ?_) AllReadyH.nil
    go_simp
    go_at_call 15
    refine (AD.out _).mono ?_
    rintro e w1 ⟨rfl, hb⟩
    refine hK.out _ _ ?_ (fun hHeld2 => ?_)
    · exact ⟨Blk.keep hb hHeld.1, Blk.keep hb hHeld.2.1, Blk.keep hb hHeld.2.2.1, Blk.keep hb hHeld.2.2.2.1, Blk.keep hb hHeld.2.2.2.2.1, hHeld.2.2.2.2.2.trans (hb.mono hHeld.2.2.2.2.2.size)⟩
    clear hHeld hK K; have hHeld := hHeld2; clear hHeld2
    replace n18 := Blk.keep hb n18
    try simp only [Act.put, List.setIfInBounds_toArray, List.set_cons_zero, List.set_cons_succ]
    refine H.ready [6] (by kernel_rfl) (by simp) ?_
    refine H.one rfl (by rfl) (fun K hK => ?_) AllReadyH.nil
    have c18 := n18.two; have f18 := n18.free0
    go_simp
    refine hK.out _ _ ?_ (fun hHeld2 => ?_)
    · exact ⟨hHeld.1.else2 (Nat.ne_of_lt e18_0), hHeld.2.1.else2 (Nat.ne_of_lt e18_1), hHeld.2.2.1.else2 (Nat.ne_of_lt e18_2), hHeld.2.2.2.1.else2 (Nat.ne_of_lt e18_3), hHeld.2.2.2.2.1.else2 (Nat.ne_of_lt e18_4), Below.put2 hHeld.2.2.2.2.2 z18⟩
    clear hHeld hK K c18 f18; have hHeld := hHeld2; clear hHeld2
    try simp only [Act.put, List.setIfInBounds_toArray, List.set_cons_zero, List.set_cons_succ]
    refine H.stored2 n18 (fun n18x => ?_)
    refine H.forget1 hHeld n18x (fun w1 hHeld n18y => ?_)
    clear n18 n18x; have n18 := n18y; clear n18y
    refine H.done (by kernel_rfl) ?_ _
    show K _ _
    exact hQ.out _ _ _ _ _ _ _ ⟨_, rfl, n18, hHeld⟩
  exact AllReadyH.nil

noncomputable def laws_r19z_code : Code := ((Try.f6.body.bind (findRegion 19)).getD .skip)
set_option maxRecDepth 100000 in set_option maxHeartbeats 8000000 in
theorem laws_r19z {a b c s : Int} {B18 : Nat} {B4 B5 B6 B9 : Nat} {W : World} (O0 : Hid (∀ w : World, Calls Try.prog 10 #[.int .i64 0] w fun e w' => e = .returned (.agg #[.int .i64 (hi 0), .int .u64 (lo 0)]) ∧ Below w.heap.size w w')) {u0 u1 u2 u3 u4 u5 u6 u7 u8 u9 u10 u11 u12 u13 u14 u15 u16 u17 u19 u20 u21 u22 u23 u24 u25 u26 u27 u28 u29 u30 u31 u32 u33 u34 u35 u36 u37 u38 u39 u40 u41 u42 u43 u44 u45 u46 u47 u48 u49 u50 u51 u52 u53 u54 u55 u56 u57 u58 u59 u60 u61 u62 u63 u64 u65 u66 u67 u68 u69 u70 u71 u72 u73 u74 u75 u76 u77 u78 u79 u80 u81 u82 u83 u84 u85 u86 u87 u88 u89 u90 u91 u92 u93 u94 u95 u96 u97 u98 u99 u100 u101 u102 u103 u104 u105 u106 u107 u108 u109 u110 u111 u112 u113 u114 u115 u116 u117 u118 u119 u120 u121 u122 u123 u124 u125 u126 u127 u128 u129 u130 u131 u132 u133 u134 u135 u136 u137 u138 u139 u140 u141 u142 u143 u144 u145 u146 u147 u148 u149 u150 u151 u152 u153 u154 u155 u156 u157 u158 u159 u160 u161 u162 u163 u164 : Value} {K : Act → World → Prop} {Q' : Exit → Act → World → Prop} {w1 : World} (hHeld : (fun w' => Blk w' B18 #[.int .i64 (hi 0), .int .u64 (lo 0)] 24 ∧ Blk w' B4 #[.int .i64 (hi a), .int .u64 (lo a)] 24 ∧ Blk w' B5 #[.int .i64 (hi b), .int .u64 (lo b)] 24 ∧ Blk w' B6 #[.int .i64 (hi c), .int .u64 (lo c)] 24 ∧ Blk w' B9 #[.int .i64 (hi s), .int .u64 (lo s)] 24 ∧ Below W.heap.size W w') w1)
    (hP : ∀ c t t2 d w, Q' (.panic c) ⟨t, d⟩ w → Q' (.panic c) ⟨t2, d⟩ w)
    (hK : ∀ (v8 v157 v158 v159 v160 v161 v162 v163 v164 : Value) (w2 : World), (v8 = .bool true ∧ (fun w' => Blk w' B18 #[.int .i64 (hi 0), .int .u64 (lo 0)] 24 ∧ Blk w' B4 #[.int .i64 (hi a), .int .u64 (lo a)] 24 ∧ Blk w' B5 #[.int .i64 (hi b), .int .u64 (lo b)] 24 ∧ Blk w' B6 #[.int .i64 (hi c), .int .u64 (lo c)] 24 ∧ Blk w' B9 #[.int .i64 (hi s), .int .u64 (lo s)] 24 ∧ Below W.heap.size W w') w2) → K ⟨List.toArray (u0 :: u1 :: u2 :: u3 :: u4 :: u5 :: u6 :: u7 :: v8 :: u9 :: u10 :: u11 :: u12 :: u13 :: u14 :: u15 :: u16 :: u17 :: (.pointer (some ⟨B18, 0, none⟩)) :: u19 :: u20 :: u21 :: u22 :: u23 :: u24 :: u25 :: u26 :: u27 :: u28 :: u29 :: u30 :: u31 :: u32 :: u33 :: u34 :: u35 :: u36 :: u37 :: u38 :: u39 :: u40 :: u41 :: u42 :: u43 :: u44 :: u45 :: u46 :: u47 :: u48 :: u49 :: u50 :: u51 :: u52 :: u53 :: u54 :: u55 :: u56 :: u57 :: u58 :: u59 :: u60 :: u61 :: u62 :: u63 :: u64 :: u65 :: u66 :: u67 :: u68 :: u69 :: u70 :: u71 :: u72 :: u73 :: u74 :: u75 :: u76 :: u77 :: u78 :: u79 :: u80 :: u81 :: u82 :: u83 :: u84 :: u85 :: u86 :: u87 :: u88 :: u89 :: u90 :: u91 :: u92 :: u93 :: u94 :: u95 :: u96 :: u97 :: u98 :: u99 :: u100 :: u101 :: u102 :: u103 :: u104 :: u105 :: u106 :: u107 :: u108 :: u109 :: u110 :: u111 :: u112 :: u113 :: u114 :: u115 :: u116 :: u117 :: u118 :: u119 :: u120 :: u121 :: u122 :: u123 :: u124 :: u125 :: u126 :: u127 :: u128 :: u129 :: u130 :: u131 :: u132 :: u133 :: u134 :: u135 :: u136 :: u137 :: u138 :: u139 :: u140 :: u141 :: u142 :: u143 :: u144 :: u145 :: u146 :: u147 :: u148 :: u149 :: u150 :: u151 :: u152 :: u153 :: u154 :: u155 :: u156 :: v157 :: v158 :: v159 :: v160 :: v161 :: v162 :: v163 :: v164 :: []), []⟩ w2) :
    Code.wp Try.prog laws_r19z_code (Exit.then K Q') ⟨List.toArray (u0 :: u1 :: u2 :: u3 :: u4 :: u5 :: u6 :: u7 :: u8 :: u9 :: u10 :: u11 :: u12 :: u13 :: u14 :: u15 :: u16 :: u17 :: (.pointer (some ⟨B18, 0, none⟩)) :: u19 :: u20 :: u21 :: u22 :: u23 :: u24 :: u25 :: u26 :: u27 :: u28 :: u29 :: u30 :: u31 :: u32 :: u33 :: u34 :: u35 :: u36 :: u37 :: u38 :: u39 :: u40 :: u41 :: u42 :: u43 :: u44 :: u45 :: u46 :: u47 :: u48 :: u49 :: u50 :: u51 :: u52 :: u53 :: u54 :: u55 :: u56 :: u57 :: u58 :: u59 :: u60 :: u61 :: u62 :: u63 :: u64 :: u65 :: u66 :: u67 :: u68 :: u69 :: u70 :: u71 :: u72 :: u73 :: u74 :: u75 :: u76 :: u77 :: u78 :: u79 :: u80 :: u81 :: u82 :: u83 :: u84 :: u85 :: u86 :: u87 :: u88 :: u89 :: u90 :: u91 :: u92 :: u93 :: u94 :: u95 :: u96 :: u97 :: u98 :: u99 :: u100 :: u101 :: u102 :: u103 :: u104 :: u105 :: u106 :: u107 :: u108 :: u109 :: u110 :: u111 :: u112 :: u113 :: u114 :: u115 :: u116 :: u117 :: u118 :: u119 :: u120 :: u121 :: u122 :: u123 :: u124 :: u125 :: u126 :: u127 :: u128 :: u129 :: u130 :: u131 :: u132 :: u133 :: u134 :: u135 :: u136 :: u137 :: u138 :: u139 :: u140 :: u141 :: u142 :: u143 :: u144 :: u145 :: u146 :: u147 :: u148 :: u149 :: u150 :: u151 :: u152 :: u153 :: u154 :: u155 :: u156 :: u157 :: u158 :: u159 :: u160 :: u161 :: u162 :: u163 :: u164 :: []), []⟩ w1 := by
  conv => arg 2; whnf
  have hQ := Lib.hid hK; clear hK
  have qB18 := fun (w' : World) (h : Blk w' B18 #[.int .i64 (hi 0), .int .u64 (lo 0)] 24) => h.two
  have qB4 := fun (w' : World) (h : Blk w' B4 #[.int .i64 (hi a), .int .u64 (lo a)] 24) => h.two
  have qB5 := fun (w' : World) (h : Blk w' B5 #[.int .i64 (hi b), .int .u64 (lo b)] 24) => h.two
  have qB6 := fun (w' : World) (h : Blk w' B6 #[.int .i64 (hi c), .int .u64 (lo c)] 24) => h.two
  have qB9 := fun (w' : World) (h : Blk w' B9 #[.int .i64 (hi s), .int .u64 (lo s)] 24) => h.two
  refine H.begin (fun w' => Blk w' B18 #[.int .i64 (hi 0), .int .u64 (lo 0)] 24 ∧ Blk w' B4 #[.int .i64 (hi a), .int .u64 (lo a)] 24 ∧ Blk w' B5 #[.int .i64 (hi b), .int .u64 (lo b)] 24 ∧ Blk w' B6 #[.int .i64 (hi c), .int .u64 (lo c)] 24 ∧ Blk w' B9 #[.int .i64 (hi s), .int .u64 (lo s)] 24 ∧ Below W.heap.size W w') (by kernel_rfl) ⟨hHeld.1.drew, hHeld.2.1.drew, hHeld.2.2.1.drew, hHeld.2.2.2.1.drew, hHeld.2.2.2.2.1.drew, hHeld.2.2.2.2.2.drew⟩ (fun w1 hHeld => ?_)
  refine H.take 0 (v := ?_) rfl (by kernel_rfl) (fun _ a _ h => hP _ _ a.tmps a.defers _ h) (by rfl) ?_ (by assumption) ?_
  rotate_left
  · (intro wz hSw; (try dsimp only at hSw); go_simp <;> with_reducible rfl)
  try simp only [Act.put, List.setIfInBounds_toArray, List.set_cons_zero, List.set_cons_succ]
  refine H.ready [1] (by kernel_rfl) (by simp) ?_
  refine H.one rfl (by rfl) (fun K hK => ?_) AllReadyH.nil
  go_simp
  go_at_call 10
  refine (O0.out _).mono ?_
  rintro e w1 ⟨rfl, hb⟩
  refine hK.out _ _ ?_ (fun hHeld2 => ?_)
  · exact ⟨Blk.keep hb hHeld.1, Blk.keep hb hHeld.2.1, Blk.keep hb hHeld.2.2.1, Blk.keep hb hHeld.2.2.2.1, Blk.keep hb hHeld.2.2.2.2.1, hHeld.2.2.2.2.2.trans (hb.mono hHeld.2.2.2.2.2.size)⟩
  clear hHeld hK K; have hHeld := hHeld2; clear hHeld2
  try simp only [Act.put, List.setIfInBounds_toArray, List.set_cons_zero, List.set_cons_succ]
  refine H.take 2 (v := ?_) rfl (by kernel_rfl) (fun _ a _ h => hP _ _ a.tmps a.defers _ h) (by rfl) ?_ (by assumption) ?_
  rotate_left
  · (intro wz hSw; (try dsimp only at hSw); go_simp <;> with_reducible rfl)
  try simp only [Act.put, List.setIfInBounds_toArray, List.set_cons_zero, List.set_cons_succ]
  refine H.take 3 (v := ?_) rfl (by kernel_rfl) (fun _ a _ h => hP _ _ a.tmps a.defers _ h) (by rfl) ?_ (by assumption) ?_
  rotate_left
  · (intro wz hSw; (try dsimp only at hSw); go_simp <;> with_reducible rfl)
  try simp only [Act.put, List.setIfInBounds_toArray, List.set_cons_zero, List.set_cons_succ]
  refine H.skip 4 rfl (by kernel_rfl) (fun _ a _ h => hP _ _ a.tmps a.defers _ h) (by rfl) (by assumption) ?_
  try simp only [Act.put, List.setIfInBounds_toArray, List.set_cons_zero, List.set_cons_succ]
  refine H.skip 5 rfl (by kernel_rfl) (fun _ a _ h => hP _ _ a.tmps a.defers _ h) (by rfl) (by assumption) ?_
  try simp only [Act.put, List.setIfInBounds_toArray, List.set_cons_zero, List.set_cons_succ]
  refine H.skip 6 rfl (by kernel_rfl) (fun _ a _ h => hP _ _ a.tmps a.defers _ h) (by rfl) (by assumption) ?_
  try simp only [Act.put, List.setIfInBounds_toArray, List.set_cons_zero, List.set_cons_succ]
  refine H.take 7 (v := ?_) rfl (by kernel_rfl) (fun _ a _ h => hP _ _ a.tmps a.defers _ h) (by rfl) ?_ (by assumption) ?_
  rotate_left
  · (intro wz hSw; (try dsimp only at hSw); go_simp <;> with_reducible rfl)
  try simp only [Act.put, List.setIfInBounds_toArray, List.set_cons_zero, List.set_cons_succ]
  refine H.take 8 (v := ?_) rfl (by kernel_rfl) (fun _ a _ h => hP _ _ a.tmps a.defers _ h) (by rfl) ?_ (by assumption) ?_
  rotate_left
  · (intro wz hSw; (try dsimp only at hSw); go_simp <;> with_reducible rfl)
  try simp only [Act.put, List.setIfInBounds_toArray, List.set_cons_zero, List.set_cons_succ]
  refine H.done (by kernel_rfl) ?_ _
  show K _ _
  exact hQ.out _ _ _ _ _ _ _ _ _ _ ⟨rfl, hHeld⟩

noncomputable def laws_r19o_code : Code := ((Try.f6.body.bind (findRegion 19)).getD .skip)
set_option maxRecDepth 100000 in set_option maxHeartbeats 8000000 in
theorem laws_r19o {a b c s : Int} {B18 : Nat} {B4 B5 B6 B9 : Nat} {W : World} (O0 : Hid (∀ w : World, Calls Try.prog 10 #[.int .i64 0] w fun e w' => e = .returned (.agg #[.int .i64 (hi 0), .int .u64 (lo 0)]) ∧ Below w.heap.size w w')) (O1 : Hid (∀ w : World, Calls Try.prog 10 #[.int .i64 1] w fun e w' => e = .returned (.agg #[.int .i64 (hi 1), .int .u64 (lo 1)]) ∧ Below w.heap.size w w')) {u0 u1 u2 u3 u4 u5 u6 u7 u8 u9 u10 u11 u12 u13 u14 u15 u16 u17 u19 u20 u21 u22 u23 u24 u25 u26 u27 u28 u29 u30 u31 u32 u33 u34 u35 u36 u37 u38 u39 u40 u41 u42 u43 u44 u45 u46 u47 u48 u49 u50 u51 u52 u53 u54 u55 u56 u57 u58 u59 u60 u61 u62 u63 u64 u65 u66 u67 u68 u69 u70 u71 u72 u73 u74 u75 u76 u77 u78 u79 u80 u81 u82 u83 u84 u85 u86 u87 u88 u89 u90 u91 u92 u93 u94 u95 u96 u97 u98 u99 u100 u101 u102 u103 u104 u105 u106 u107 u108 u109 u110 u111 u112 u113 u114 u115 u116 u117 u118 u119 u120 u121 u122 u123 u124 u125 u126 u127 u128 u129 u130 u131 u132 u133 u134 u135 u136 u137 u138 u139 u140 u141 u142 u143 u144 u145 u146 u147 u148 u149 u150 u151 u152 u153 u154 u155 u156 u157 u158 u159 u160 u161 u162 u163 u164 : Value} {K : Act → World → Prop} {Q' : Exit → Act → World → Prop} {w1 : World} (hHeld : (fun w' => Blk w' B18 #[.int .i64 (hi 1), .int .u64 (lo 1)] 24 ∧ Blk w' B4 #[.int .i64 (hi a), .int .u64 (lo a)] 24 ∧ Blk w' B5 #[.int .i64 (hi b), .int .u64 (lo b)] 24 ∧ Blk w' B6 #[.int .i64 (hi c), .int .u64 (lo c)] 24 ∧ Blk w' B9 #[.int .i64 (hi s), .int .u64 (lo s)] 24 ∧ Below W.heap.size W w') w1)
    (hP : ∀ c t t2 d w, Q' (.panic c) ⟨t, d⟩ w → Q' (.panic c) ⟨t2, d⟩ w)
    (hK : ∀ (v8 v157 v158 v159 v160 v161 v162 v163 v164 : Value) (w2 : World), (v8 = .bool true ∧ (fun w' => Blk w' B18 #[.int .i64 (hi 1), .int .u64 (lo 1)] 24 ∧ Blk w' B4 #[.int .i64 (hi a), .int .u64 (lo a)] 24 ∧ Blk w' B5 #[.int .i64 (hi b), .int .u64 (lo b)] 24 ∧ Blk w' B6 #[.int .i64 (hi c), .int .u64 (lo c)] 24 ∧ Blk w' B9 #[.int .i64 (hi s), .int .u64 (lo s)] 24 ∧ Below W.heap.size W w') w2) → K ⟨List.toArray (u0 :: u1 :: u2 :: u3 :: u4 :: u5 :: u6 :: u7 :: v8 :: u9 :: u10 :: u11 :: u12 :: u13 :: u14 :: u15 :: u16 :: u17 :: (.pointer (some ⟨B18, 0, none⟩)) :: u19 :: u20 :: u21 :: u22 :: u23 :: u24 :: u25 :: u26 :: u27 :: u28 :: u29 :: u30 :: u31 :: u32 :: u33 :: u34 :: u35 :: u36 :: u37 :: u38 :: u39 :: u40 :: u41 :: u42 :: u43 :: u44 :: u45 :: u46 :: u47 :: u48 :: u49 :: u50 :: u51 :: u52 :: u53 :: u54 :: u55 :: u56 :: u57 :: u58 :: u59 :: u60 :: u61 :: u62 :: u63 :: u64 :: u65 :: u66 :: u67 :: u68 :: u69 :: u70 :: u71 :: u72 :: u73 :: u74 :: u75 :: u76 :: u77 :: u78 :: u79 :: u80 :: u81 :: u82 :: u83 :: u84 :: u85 :: u86 :: u87 :: u88 :: u89 :: u90 :: u91 :: u92 :: u93 :: u94 :: u95 :: u96 :: u97 :: u98 :: u99 :: u100 :: u101 :: u102 :: u103 :: u104 :: u105 :: u106 :: u107 :: u108 :: u109 :: u110 :: u111 :: u112 :: u113 :: u114 :: u115 :: u116 :: u117 :: u118 :: u119 :: u120 :: u121 :: u122 :: u123 :: u124 :: u125 :: u126 :: u127 :: u128 :: u129 :: u130 :: u131 :: u132 :: u133 :: u134 :: u135 :: u136 :: u137 :: u138 :: u139 :: u140 :: u141 :: u142 :: u143 :: u144 :: u145 :: u146 :: u147 :: u148 :: u149 :: u150 :: u151 :: u152 :: u153 :: u154 :: u155 :: u156 :: v157 :: v158 :: v159 :: v160 :: v161 :: v162 :: v163 :: v164 :: []), []⟩ w2) :
    Code.wp Try.prog laws_r19o_code (Exit.then K Q') ⟨List.toArray (u0 :: u1 :: u2 :: u3 :: u4 :: u5 :: u6 :: u7 :: u8 :: u9 :: u10 :: u11 :: u12 :: u13 :: u14 :: u15 :: u16 :: u17 :: (.pointer (some ⟨B18, 0, none⟩)) :: u19 :: u20 :: u21 :: u22 :: u23 :: u24 :: u25 :: u26 :: u27 :: u28 :: u29 :: u30 :: u31 :: u32 :: u33 :: u34 :: u35 :: u36 :: u37 :: u38 :: u39 :: u40 :: u41 :: u42 :: u43 :: u44 :: u45 :: u46 :: u47 :: u48 :: u49 :: u50 :: u51 :: u52 :: u53 :: u54 :: u55 :: u56 :: u57 :: u58 :: u59 :: u60 :: u61 :: u62 :: u63 :: u64 :: u65 :: u66 :: u67 :: u68 :: u69 :: u70 :: u71 :: u72 :: u73 :: u74 :: u75 :: u76 :: u77 :: u78 :: u79 :: u80 :: u81 :: u82 :: u83 :: u84 :: u85 :: u86 :: u87 :: u88 :: u89 :: u90 :: u91 :: u92 :: u93 :: u94 :: u95 :: u96 :: u97 :: u98 :: u99 :: u100 :: u101 :: u102 :: u103 :: u104 :: u105 :: u106 :: u107 :: u108 :: u109 :: u110 :: u111 :: u112 :: u113 :: u114 :: u115 :: u116 :: u117 :: u118 :: u119 :: u120 :: u121 :: u122 :: u123 :: u124 :: u125 :: u126 :: u127 :: u128 :: u129 :: u130 :: u131 :: u132 :: u133 :: u134 :: u135 :: u136 :: u137 :: u138 :: u139 :: u140 :: u141 :: u142 :: u143 :: u144 :: u145 :: u146 :: u147 :: u148 :: u149 :: u150 :: u151 :: u152 :: u153 :: u154 :: u155 :: u156 :: u157 :: u158 :: u159 :: u160 :: u161 :: u162 :: u163 :: u164 :: []), []⟩ w1 := by
  conv => arg 2; whnf
  have hQ := Lib.hid hK; clear hK
  have z1 : ¬ lo 1 = lo 0 := by decide
  have qB18 := fun (w' : World) (h : Blk w' B18 #[.int .i64 (hi 1), .int .u64 (lo 1)] 24) => h.two
  have qB4 := fun (w' : World) (h : Blk w' B4 #[.int .i64 (hi a), .int .u64 (lo a)] 24) => h.two
  have qB5 := fun (w' : World) (h : Blk w' B5 #[.int .i64 (hi b), .int .u64 (lo b)] 24) => h.two
  have qB6 := fun (w' : World) (h : Blk w' B6 #[.int .i64 (hi c), .int .u64 (lo c)] 24) => h.two
  have qB9 := fun (w' : World) (h : Blk w' B9 #[.int .i64 (hi s), .int .u64 (lo s)] 24) => h.two
  refine H.begin (fun w' => Blk w' B18 #[.int .i64 (hi 1), .int .u64 (lo 1)] 24 ∧ Blk w' B4 #[.int .i64 (hi a), .int .u64 (lo a)] 24 ∧ Blk w' B5 #[.int .i64 (hi b), .int .u64 (lo b)] 24 ∧ Blk w' B6 #[.int .i64 (hi c), .int .u64 (lo c)] 24 ∧ Blk w' B9 #[.int .i64 (hi s), .int .u64 (lo s)] 24 ∧ Below W.heap.size W w') (by kernel_rfl) ⟨hHeld.1.drew, hHeld.2.1.drew, hHeld.2.2.1.drew, hHeld.2.2.2.1.drew, hHeld.2.2.2.2.1.drew, hHeld.2.2.2.2.2.drew⟩ (fun w1 hHeld => ?_)
  refine H.take 0 (v := ?_) rfl (by kernel_rfl) (fun _ a _ h => hP _ _ a.tmps a.defers _ h) (by rfl) ?_ (by assumption) ?_
  rotate_left
  · (intro wz hSw; (try dsimp only at hSw); go_simp <;> with_reducible rfl)
  try simp only [Act.put, List.setIfInBounds_toArray, List.set_cons_zero, List.set_cons_succ]
  refine H.ready [1] (by kernel_rfl) (by simp) ?_
  refine H.one rfl (by rfl) (fun K hK => ?_) AllReadyH.nil
  go_simp
  go_at_call 10
  refine (O0.out _).mono ?_
  rintro e w1 ⟨rfl, hb⟩
  refine hK.out _ _ ?_ (fun hHeld2 => ?_)
  · exact ⟨Blk.keep hb hHeld.1, Blk.keep hb hHeld.2.1, Blk.keep hb hHeld.2.2.1, Blk.keep hb hHeld.2.2.2.1, Blk.keep hb hHeld.2.2.2.2.1, hHeld.2.2.2.2.2.trans (hb.mono hHeld.2.2.2.2.2.size)⟩
  clear hHeld hK K; have hHeld := hHeld2; clear hHeld2
  try simp only [Act.put, List.setIfInBounds_toArray, List.set_cons_zero, List.set_cons_succ]
  refine H.take 2 (v := ?_) rfl (by kernel_rfl) (fun _ a _ h => hP _ _ a.tmps a.defers _ h) (by rfl) ?_ (by assumption) ?_
  rotate_left
  · (intro wz hSw; (try dsimp only at hSw); go_simp <;> with_reducible rfl)
  try simp only [Act.put, List.setIfInBounds_toArray, List.set_cons_zero, List.set_cons_succ]
  refine H.take 3 (v := ?_) rfl (by kernel_rfl) (fun _ a _ h => hP _ _ a.tmps a.defers _ h) (by rfl) ?_ (by assumption) ?_
  rotate_left
  · (intro wz hSw; (try dsimp only at hSw); go_simp <;> with_reducible rfl)
  try simp only [Act.put, List.setIfInBounds_toArray, List.set_cons_zero, List.set_cons_succ]
  refine H.take 4 (v := ?_) rfl (by kernel_rfl) (fun _ a _ h => hP _ _ a.tmps a.defers _ h) (by rfl) ?_ (by assumption) ?_
  rotate_left
  · (intro wz hSw; (try dsimp only at hSw); go_simp <;> with_reducible rfl)
  try simp only [Act.put, List.setIfInBounds_toArray, List.set_cons_zero, List.set_cons_succ]
  refine H.ready [5] (by kernel_rfl) (by simp) ?_
  refine H.one rfl (by rfl) (fun K hK => ?_) AllReadyH.nil
  go_simp
  go_at_call 10
  refine (O1.out _).mono ?_
  rintro e w1 ⟨rfl, hb⟩
  refine hK.out _ _ ?_ (fun hHeld2 => ?_)
  · exact ⟨Blk.keep hb hHeld.1, Blk.keep hb hHeld.2.1, Blk.keep hb hHeld.2.2.1, Blk.keep hb hHeld.2.2.2.1, Blk.keep hb hHeld.2.2.2.2.1, hHeld.2.2.2.2.2.trans (hb.mono hHeld.2.2.2.2.2.size)⟩
  clear hHeld hK K; have hHeld := hHeld2; clear hHeld2
  try simp only [Act.put, List.setIfInBounds_toArray, List.set_cons_zero, List.set_cons_succ]
  refine H.take 6 (v := ?_) rfl (by kernel_rfl) (fun _ a _ h => hP _ _ a.tmps a.defers _ h) (by rfl) ?_ (by assumption) ?_
  rotate_left
  · (intro wz hSw; (try dsimp only at hSw); go_simp <;> with_reducible rfl)
  try simp only [Act.put, List.setIfInBounds_toArray, List.set_cons_zero, List.set_cons_succ]
  refine H.take 7 (v := ?_) rfl (by kernel_rfl) (fun _ a _ h => hP _ _ a.tmps a.defers _ h) (by rfl) ?_ (by assumption) ?_
  rotate_left
  · (intro wz hSw; (try dsimp only at hSw); go_simp <;> with_reducible rfl)
  try simp only [Act.put, List.setIfInBounds_toArray, List.set_cons_zero, List.set_cons_succ]
  refine H.take 8 (v := ?_) rfl (by kernel_rfl) (fun _ a _ h => hP _ _ a.tmps a.defers _ h) (by rfl) ?_ (by assumption) ?_
  rotate_left
  · (intro wz hSw; (try dsimp only at hSw); go_simp <;> with_reducible rfl)
  try simp only [Act.put, List.setIfInBounds_toArray, List.set_cons_zero, List.set_cons_succ]
  refine H.done (by kernel_rfl) ?_ _
  show K _ _
  exact hQ.out _ _ _ _ _ _ _ _ _ _ ⟨rfl, hHeld⟩
end Go.Proofs.Ytkmegldbmjpdmaa
