/-
  Own texts, merged: PdE PdF PdG PdH PdI
-/
import Derived.Test.YtecmhjhjmhliiaaDoorQ7

/-
  Pcap: Put: the bytes of a record's header.
-/

namespace Go.Proofs.YtecmhjhjmhliiaaDoor

open Go.RowKit Go.Lib

set_option maxRecDepth 100000

def bytesR (lit : Bool) (s p c l : Nat) : List UInt8 := ((bytesF lit 4 s ++ bytesF lit 4 p) ++ bytesF lit 4 c) ++ bytesF lit 4 l
theorem bytesR_len (lit : Bool) (s p c l : Nat) : (bytesR lit s p c l).length = 16 := by unfold bytesR; simp only [List.length_append, bytesF_len]
structure B32 (s : Nat) : Prop where
  le : s ≤ 4294967295
theorem wrap_nat {s : Nat} (h : s ≤ 4294967295) : IntKind.u64.wrap (s : Int) = (s : Int) := by rw [IntKind.wrap_u64]; omega
theorem run_fieldB (A : Option Addr) (len cap : Nat) (lit : Bool) (w : World) : (Instr.field 63 (.agg #[.slice A len cap, .bool lit]) 0).run Tryd.prog w = .ok (.slice A len cap) w := by kernel_rfl
set_option maxHeartbeats 8000000 in
theorem put_head (lit nan : Bool) (link snap s p c l : Nat) (hs : s ≤ 4294967295) (hp : p ≤ 4294967295) (hc : c ≤ 4294967295) (hl : l ≤ 4294967295) (w : World) :
    Calls Tryd.prog 17 #[fileV lit nan link snap, headV s p c l] w fun e w' => ∃ g, e = .returned (.slice (some ⟨g, 0, none⟩) 16 16) ∧ RdB w' g (bytesR lit s p c l) ∧ w.heap.size ≤ g ∧ Below w.heap.size w w' := by
  obtain ⟨b1, h1⟩ : ∃ b, bytesF lit 4 s = b := ⟨_, rfl⟩
  obtain ⟨b2, h2⟩ : ∃ b, b1 ++ bytesF lit 4 p = b := ⟨_, rfl⟩
  obtain ⟨b3, h3⟩ : ∃ b, b2 ++ bytesF lit 4 c = b := ⟨_, rfl⟩
  obtain ⟨b4, h4⟩ : ∃ b, b3 ++ bytesF lit 4 l = b := ⟨_, rfl⟩
  have l1 : b1.length = 4 := by rw [← h1, bytesF_len]
  have l2 : b2.length = 8 := by rw [← h2, List.length_append, l1, bytesF_len]
  have l3 : b3.length = 12 := by rw [← h3, List.length_append, l2, bytesF_len]
  have hb : bytesR lit s p c l = b4 := by unfold bytesR; rw [h1, h2, h3, h4]
  rw [hb]
  have P1 := Lib.hid (fun w => put_first none 0 lit s (by omega) 4 (by decide) (by decide) w b1 h1)
  have P2 := Lib.hid (fun g w (h : RdB w g b1) => put_row g b1 4 4 l1 lit p (by omega) 4 (by decide) (by decide) (by decide) w h b2 h2 8 rfl)
  have P3 := Lib.hid (fun g w (h : RdB w g b2) => put_row g b2 8 8 l2 lit c (by omega) 4 (by decide) (by decide) (by decide) w h b3 h3 12 rfl)
  have P4 := Lib.hid (fun g w (h : RdB w g b3) => put_row g b3 12 12 l3 lit l (by omega) 4 (by decide) (by decide) (by decide) w h b4 h4 16 rfl)
  have w1 := wrap_nat hs; have w2 := wrap_nat hp; have w3 := wrap_nat hc; have w4 := wrap_nat hl
  clear hs hp hc hl h1 h2 h3 h4 l1 l2 l3 hb
  go_enter Tryd.func17, Tryd.ntmps17
  go_upto_region 1 with fail
  go_cut [5] (fun s5 wx => ∃ g g2 : Nat, s5 = .pointer (some ⟨g, 0, none⟩) ∧ Blk wx g #[.slice (some ⟨g2, 0, none⟩) 8 8, .bool lit] 63 ∧ RdB wx g2 b2 ∧ Blk wx (w.heap.size + 1) #[.int .u32 (s : Int), .int .u32 (p : Int), .int .u32 (c : Int), .int .u32 (l : Int)] 43 ∧ Below w.heap.size w wx)
  case first =>
    refine wp_region_held_drew (S := (fun w' => Blk w' w.heap.size #[.bool lit, .bool nan, .int .u16 (link : Int), .int .u32 (snap : Int)] 26 ∧ Blk w' (w.heap.size + 1) #[.int .u32 (s : Int), .int .u32 (p : Int), .int .u32 (c : Int), .int .u32 (l : Int)] 43 ∧ Below w.heap.size w w')) (by kernel_rfl) ?_ (fun hHeld => ?_)
    · exact ⟨((Blk.new rfl).old _).drew, (Blk.new (by simp)).drew, drewB ((((Below.refl _ w).alloc (Nat.le_refl _) _).alloc (by simp) _))⟩
    generalize World.drew _ = wz at hHeld  ⊢
    refine H.take 0 (v := ?_) rfl (by kernel_rfl) (fun _ _ _ h => h) (by rfl) ?_ (by assumption) ?_
    rotate_left
    · (intro wz hSw; (try dsimp only at hSw); have q1 := hSw.1.four; have q2 := hSw.2.1.four;go_simp <;> with_reducible rfl)
    try simp only [Act.put, List.setIfInBounds_toArray, List.set_cons_zero, List.set_cons_succ]
    refine H.take 1 (v := ?_) rfl (by kernel_rfl) (fun _ _ _ h => h) (by rfl) ?_ (by assumption) ?_
    rotate_left
    · (intro wz hSw; (try dsimp only at hSw); have q1 := hSw.1.four; have q2 := hSw.2.1.four;go_simp <;> with_reducible rfl)
    try simp only [Act.put, List.setIfInBounds_toArray, List.set_cons_zero, List.set_cons_succ]
    refine H.take 2 (v := ?_) rfl (by kernel_rfl) (fun _ _ _ h => h) (by rfl) ?_ (by assumption) ?_
    rotate_left
    · (intro wz hSw; (try dsimp only at hSw); have q1 := hSw.1.four; have q2 := hSw.2.1.four;go_simp <;> with_reducible rfl)
    try simp only [Act.put, List.setIfInBounds_toArray, List.set_cons_zero, List.set_cons_succ]
    refine H.take 3 (v := ?_) rfl (by kernel_rfl) (fun _ _ _ h => h) (by rfl) ?_ (by assumption) ?_
    rotate_left
    · (intro wz hSw; (try dsimp only at hSw); have q1 := hSw.1.four; have q2 := hSw.2.1.four;go_simp <;> with_reducible rfl)
    try simp only [Act.put, List.setIfInBounds_toArray, List.set_cons_zero, List.set_cons_succ]
    refine H.take 4 (v := ?_) rfl (by kernel_rfl) (fun _ _ _ h => h) (by rfl) ?_ (by assumption) ?_
    rotate_left
    · (intro wz hSw; (try dsimp only at hSw); have q1 := hSw.1.four; have q2 := hSw.2.1.four;go_simp <;> with_reducible rfl)
    try simp only [Act.put, List.setIfInBounds_toArray, List.set_cons_zero, List.set_cons_succ]
    refine H.take 5 (v := ?_) rfl (by kernel_rfl) (fun _ _ _ h => h) (by rfl) ?_ (by assumption) ?_
    rotate_left
    · (intro wz hSw; (try dsimp only at hSw); have q1 := hSw.1.four; have q2 := hSw.2.1.four;go_simp <;> with_reducible rfl)
    try simp only [Act.put, List.setIfInBounds_toArray, List.set_cons_zero, List.set_cons_succ]
    refine H.take 7 (v := ?_) rfl (by kernel_rfl) (fun _ _ _ h => h) (by rfl) ?_ (by assumption) ?_
    rotate_left
    · (intro wz hSw; (try dsimp only at hSw); have q1 := hSw.1.four; have q2 := hSw.2.1.four;go_simp <;> with_reducible rfl)
    try simp only [Act.put, List.setIfInBounds_toArray, List.set_cons_zero, List.set_cons_succ]
    refine H.take 8 (v := ?_) rfl (by kernel_rfl) (fun _ _ _ h => h) (by rfl) ?_ (by assumption) ?_
    rotate_left
    · (intro wz hSw; (try dsimp only at hSw); have q1 := hSw.1.four; have q2 := hSw.2.1.four;go_simp <;> with_reducible rfl)
    try simp only [Act.put, List.setIfInBounds_toArray, List.set_cons_zero, List.set_cons_succ]
    refine H.take 9 (v := ?_) rfl (by kernel_rfl) (fun _ _ _ h => h) (by rfl) ?_ (by assumption) ?_
    rotate_left
    · (intro wz hSw; (try dsimp only at hSw); have q1 := hSw.1.four; have q2 := hSw.2.1.four;go_simp <;> with_reducible rfl)
    try simp only [Act.put, List.setIfInBounds_toArray, List.set_cons_zero, List.set_cons_succ]
    refine H.ready [6, 11] (by kernel_rfl) (by simp) ?_
    refine H.one rfl (by rfl) (fun K hK => ?_) ?_
    · skip
      go_simp
      go_at_call 29
      refine (P1.out _).mono ?_
      rintro e wk ⟨g12, rfl, r12, h12, hb⟩
      refine hK.out _ _ ?_ (fun hHeld2 => ?_)
      · exact ⟨hHeld.1.keep hb, hHeld.2.1.keep hb, hHeld.2.2.trans (hb.mono hHeld.2.2.size)⟩
      clear hHeld hK K; have hHeld := hHeld2; clear hHeld2
      clear hb
      try simp only [Act.put, List.setIfInBounds_toArray, List.set_cons_zero, List.set_cons_succ]
      refine H.ready [10, 11] (by kernel_rfl) (by simp) ?_
      refine H.one rfl (by rfl) (fun K hK => ?_) ?_
      · skip
        go_simp
        go_at_call 29
        have lr12 := r12.lt
        refine (P2.out _ _ r12).mono ?_
        rintro e wk ⟨g16, rfl, r16, h16, hb⟩
        refine hK.out _ _ ?_ (fun hHeld2 => ?_)
        · exact ⟨hHeld.1.keep hb, hHeld.2.1.keep hb, hHeld.2.2.trans (hb.mono hHeld.2.2.size)⟩
        clear hHeld hK K; have hHeld := hHeld2; clear hHeld2
        replace r12 := r12.keep hb
        have dr12_r16 := Nat.lt_of_lt_of_le lr12 h16; clear lr12
        clear hb
        try simp only [Act.put, List.setIfInBounds_toArray, List.set_cons_zero, List.set_cons_succ]
        refine H.ready [11] (by kernel_rfl) (by simp) ?_
        refine H.one rfl (by rfl) (fun K hK => ?_) AllReadyH.nil
        have e5_0 := hHeld.1.lt
        have e5_1 := hHeld.2.1.lt
        have z5 := hHeld.2.2.size
        have dr12_n5 := r12.lt
        have dr16_n5 := r16.lt
        go_simp
        refine hK.out _ _ ?_ (fun hHeld2 => ?_)
        · exact ⟨hHeld.1.old _, hHeld.2.1.old _, hHeld.2.2.alloc hHeld.2.2.size _⟩
        clear hHeld hK K; have hHeld := hHeld2; clear hHeld2
        replace r12 := r12.old (.cells #[.slice none 0 0, .bool false] 63)
        replace r16 := r16.old (.cells #[.slice none 0 0, .bool false] 63)
        try simp only [Act.put, List.setIfInBounds_toArray, List.set_cons_zero, List.set_cons_succ]
        refine H.fresh (fun n5 => ?_)
        generalize World.alloc _ _ = wz at hHeld r12 r16 n5 ⊢
        refine H.ready [12] (by kernel_rfl) (by simp) ?_
        refine H.one rfl (by rfl) (fun K hK => ?_) AllReadyH.nil
        have c5 := n5.two; have f5 := n5.free0
        go_simp
        refine hK.out _ _ ?_ (fun hHeld2 => ?_)
        · exact ⟨hHeld.1.else2 (Nat.ne_of_lt e5_0), hHeld.2.1.else2 (Nat.ne_of_lt e5_1), Below.put2 hHeld.2.2 z5⟩
        clear hHeld hK K c5 f5; have hHeld := hHeld2; clear hHeld2
        try simp only [Act.put, List.setIfInBounds_toArray, List.set_cons_zero, List.set_cons_succ]
        refine H.otherR2 r12 (Nat.ne_of_lt dr12_n5) (fun r12x => ?_); clear r12; have r12 := r12x; clear r12x
        refine H.otherR2 r16 (Nat.ne_of_lt dr16_n5) (fun r16x => ?_); clear r16; have r16 := r16x; clear r16x
        refine H.stored2 n5 (fun n5x => ?_); clear n5; have n5 := n5x; clear n5x
        refine H.done (by kernel_rfl) ?_ _
        (go_wp2_with fail; go_meet; exact ⟨_, g16, rfl, n5, r16, hHeld.2.1, hHeld.2.2⟩)
      refine H.one rfl (by rfl) (fun K hK => ?_) ?_
      · skip
        have e5_0 := hHeld.1.lt
        have e5_1 := hHeld.2.1.lt
        have z5 := hHeld.2.2.size
        have dr12_n5 := r12.lt
        go_simp
        refine hK.out _ _ ?_ (fun hHeld2 => ?_)
        · exact ⟨hHeld.1.old _, hHeld.2.1.old _, hHeld.2.2.alloc hHeld.2.2.size _⟩
        clear hHeld hK K; have hHeld := hHeld2; clear hHeld2
        replace r12 := r12.old (.cells #[.slice none 0 0, .bool false] 63)
        try simp only [Act.put, List.setIfInBounds_toArray, List.set_cons_zero, List.set_cons_succ]
        refine H.fresh (fun n5 => ?_)
        generalize World.alloc _ _ = wz at hHeld r12 n5 ⊢
        refine H.ready [10] (by kernel_rfl) (by simp) ?_
        refine H.one rfl (by rfl) (fun K hK => ?_) AllReadyH.nil
        go_simp
        go_at_call 29
        have lr12 := r12.lt
        have ln5 := n5.lt
        refine (P2.out _ _ r12).mono ?_
        rintro e wk ⟨g16, rfl, r16, h16, hb⟩
        refine hK.out _ _ ?_ (fun hHeld2 => ?_)
        · exact ⟨hHeld.1.keep hb, hHeld.2.1.keep hb, hHeld.2.2.trans (hb.mono hHeld.2.2.size)⟩
        clear hHeld hK K; have hHeld := hHeld2; clear hHeld2
        replace r12 := r12.keep hb
        replace n5 := n5.keep hb
        have dr12_r16 := Nat.lt_of_lt_of_le lr12 h16; clear lr12
        have dn5_r16 := Nat.lt_of_lt_of_le ln5 h16; clear ln5
        clear hb
        try simp only [Act.put, List.setIfInBounds_toArray, List.set_cons_zero, List.set_cons_succ]
        refine H.ready [12] (by kernel_rfl) (by simp) ?_
        refine H.one rfl (by rfl) (fun K hK => ?_) AllReadyH.nil
        have c5 := n5.two; have f5 := n5.free0
        go_simp
        refine hK.out _ _ ?_ (fun hHeld2 => ?_)
        · exact ⟨hHeld.1.else2 (Nat.ne_of_lt e5_0), hHeld.2.1.else2 (Nat.ne_of_lt e5_1), Below.put2 hHeld.2.2 z5⟩
        clear hHeld hK K c5 f5; have hHeld := hHeld2; clear hHeld2
        try simp only [Act.put, List.setIfInBounds_toArray, List.set_cons_zero, List.set_cons_succ]
        refine H.otherR2 r12 (Nat.ne_of_lt dr12_n5) (fun r12x => ?_); clear r12; have r12 := r12x; clear r12x
        refine H.otherR2 r16 (Nat.ne_of_gt dn5_r16) (fun r16x => ?_); clear r16; have r16 := r16x; clear r16x
        refine H.stored2 n5 (fun n5x => ?_); clear n5; have n5 := n5x; clear n5x
        refine H.done (by kernel_rfl) ?_ _
        (go_wp2_with fail; go_meet; exact ⟨_, g16, rfl, n5, r16, hHeld.2.1, hHeld.2.2⟩)
      exact AllReadyH.nil
    refine H.one rfl (by rfl) (fun K hK => ?_) ?_
    · skip
      have e5_0 := hHeld.1.lt
      have e5_1 := hHeld.2.1.lt
      have z5 := hHeld.2.2.size
      go_simp
      refine hK.out _ _ ?_ (fun hHeld2 => ?_)
      · exact ⟨hHeld.1.old _, hHeld.2.1.old _, hHeld.2.2.alloc hHeld.2.2.size _⟩
      clear hHeld hK K; have hHeld := hHeld2; clear hHeld2
      try simp only [Act.put, List.setIfInBounds_toArray, List.set_cons_zero, List.set_cons_succ]
      refine H.fresh (fun n5 => ?_)
      generalize World.alloc _ _ = wz at hHeld n5 ⊢
      refine H.ready [6] (by kernel_rfl) (by simp) ?_
      refine H.one rfl (by rfl) (fun K hK => ?_) AllReadyH.nil
      go_simp
      go_at_call 29
      have ln5 := n5.lt
      refine (P1.out _).mono ?_
      rintro e wk ⟨g12, rfl, r12, h12, hb⟩
      refine hK.out _ _ ?_ (fun hHeld2 => ?_)
      · exact ⟨hHeld.1.keep hb, hHeld.2.1.keep hb, hHeld.2.2.trans (hb.mono hHeld.2.2.size)⟩
      clear hHeld hK K; have hHeld := hHeld2; clear hHeld2
      replace n5 := n5.keep hb
      have dn5_r12 := Nat.lt_of_lt_of_le ln5 h12; clear ln5
      clear hb
      try simp only [Act.put, List.setIfInBounds_toArray, List.set_cons_zero, List.set_cons_succ]
      refine H.ready [10] (by kernel_rfl) (by simp) ?_
      refine H.one rfl (by rfl) (fun K hK => ?_) AllReadyH.nil
      go_simp
      go_at_call 29
      have ln5 := n5.lt
      have lr12 := r12.lt
      refine (P2.out _ _ r12).mono ?_
      rintro e wk ⟨g16, rfl, r16, h16, hb⟩
      refine hK.out _ _ ?_ (fun hHeld2 => ?_)
      · exact ⟨hHeld.1.keep hb, hHeld.2.1.keep hb, hHeld.2.2.trans (hb.mono hHeld.2.2.size)⟩
      clear hHeld hK K; have hHeld := hHeld2; clear hHeld2
      replace n5 := n5.keep hb
      replace r12 := r12.keep hb
      have dn5_r16 := Nat.lt_of_lt_of_le ln5 h16; clear ln5
      have dr12_r16 := Nat.lt_of_lt_of_le lr12 h16; clear lr12
      clear hb
      try simp only [Act.put, List.setIfInBounds_toArray, List.set_cons_zero, List.set_cons_succ]
      refine H.ready [12] (by kernel_rfl) (by simp) ?_
      refine H.one rfl (by rfl) (fun K hK => ?_) AllReadyH.nil
      have c5 := n5.two; have f5 := n5.free0
      go_simp
      refine hK.out _ _ ?_ (fun hHeld2 => ?_)
      · exact ⟨hHeld.1.else2 (Nat.ne_of_lt e5_0), hHeld.2.1.else2 (Nat.ne_of_lt e5_1), Below.put2 hHeld.2.2 z5⟩
      clear hHeld hK K c5 f5; have hHeld := hHeld2; clear hHeld2
      try simp only [Act.put, List.setIfInBounds_toArray, List.set_cons_zero, List.set_cons_succ]
      refine H.otherR2 r12 (Nat.ne_of_gt dn5_r12) (fun r12x => ?_); clear r12; have r12 := r12x; clear r12x
      refine H.otherR2 r16 (Nat.ne_of_gt dn5_r16) (fun r16x => ?_); clear r16; have r16 := r16x; clear r16x
      refine H.stored2 n5 (fun n5x => ?_); clear n5; have n5 := n5x; clear n5x
      refine H.done (by kernel_rfl) ?_ _
      (go_wp2_with fail; go_meet; exact ⟨_, g16, rfl, n5, r16, hHeld.2.1, hHeld.2.2⟩)
    exact AllReadyH.nil
  case rest =>
    obtain ⟨g, g2, rfl, hg, hr, hh, hbe⟩ := hcut
    clear P1 P2 w1 w2
    go_wp2
    have hfld := run_fieldB
    refine wp_region_held_drew (S := (fun w' => Blk w' g #[.slice (some ⟨g2, 0, none⟩) 8 8, .bool lit] 63 ∧ Blk w' (w.heap.size + 1) #[.int .u32 (s : Int), .int .u32 (p : Int), .int .u32 (c : Int), .int .u32 (l : Int)] 43 ∧ Below w.heap.size w w')) (by kernel_rfl) ?_ (fun hHeld => ?_)
    · exact ⟨hg.drew, hh.drew, drewB hbe⟩
    replace hr := hr.drew
    generalize World.drew _ = wz at hHeld hr ⊢
    refine H.take 0 (v := ?_) rfl (by kernel_rfl) (fun _ _ _ h => h) (by rfl) ?_ (by assumption) ?_
    rotate_left
    · (intro wz hSw; (try dsimp only at hSw); have q1 := hSw.1.two; have q2 := hSw.2.1.four;go_simp <;> with_reducible rfl)
    try simp only [Act.put, List.setIfInBounds_toArray, List.set_cons_zero, List.set_cons_succ]
    refine H.take 1 (v := ?_) rfl (by kernel_rfl) (fun _ _ _ h => h) (by rfl) ?_ (by assumption) ?_
    rotate_left
    · (intro wz hSw; (try dsimp only at hSw); have q1 := hSw.1.two; have q2 := hSw.2.1.four;go_simp <;> with_reducible rfl)
    try simp only [Act.put, List.setIfInBounds_toArray, List.set_cons_zero, List.set_cons_succ]
    refine H.take 2 (v := ?_) rfl (by kernel_rfl) (fun _ _ _ h => h) (by rfl) ?_ (by assumption) ?_
    rotate_left
    · (intro wz hSw; (try dsimp only at hSw); have q1 := hSw.1.two; have q2 := hSw.2.1.four;go_simp <;> with_reducible rfl)
    try simp only [Act.put, List.setIfInBounds_toArray, List.set_cons_zero, List.set_cons_succ]
    refine H.take 3 (v := ?_) rfl (by kernel_rfl) (fun _ _ _ h => h) (by rfl) ?_ (by assumption) ?_
    rotate_left
    · (intro wz hSw; (try dsimp only at hSw); have q1 := hSw.1.two; have q2 := hSw.2.1.four;go_simp <;> with_reducible rfl)
    try simp only [Act.put, List.setIfInBounds_toArray, List.set_cons_zero, List.set_cons_succ]
    refine H.take 5 (v := ?_) rfl (by kernel_rfl) (fun _ _ _ h => h) (by rfl) ?_ (by assumption) ?_
    rotate_left
    · (intro wz hSw; (try dsimp only at hSw); have q1 := hSw.1.two; have q2 := hSw.2.1.four;go_simp <;> with_reducible rfl)
    try simp only [Act.put, List.setIfInBounds_toArray, List.set_cons_zero, List.set_cons_succ]
    refine H.take 6 (v := ?_) rfl (by kernel_rfl) (fun _ _ _ h => h) (by rfl) ?_ (by assumption) ?_
    rotate_left
    · (intro wz hSw; (try dsimp only at hSw); have q1 := hSw.1.two; have q2 := hSw.2.1.four;go_simp <;> with_reducible rfl)
    try simp only [Act.put, List.setIfInBounds_toArray, List.set_cons_zero, List.set_cons_succ]
    refine H.take 7 (v := ?_) rfl (by kernel_rfl) (fun _ _ _ h => h) (by rfl) ?_ (by assumption) ?_
    rotate_left
    · (intro wz hSw; (try dsimp only at hSw); have q1 := hSw.1.two; have q2 := hSw.2.1.four;go_simp <;> with_reducible rfl)
    try simp only [Act.put, List.setIfInBounds_toArray, List.set_cons_zero, List.set_cons_succ]
    refine H.ready [4] (by kernel_rfl) (by simp) ?_
    refine H.one rfl (by rfl) (fun K hK => ?_) AllReadyH.nil
    go_simp
    go_at_call 29
    have lhr := hr.lt
    refine (P3.out _ _ hr).mono ?_
    rintro e wk ⟨g21, rfl, r21, h21, hb⟩
    have hge := hHeld.2.2.size
    refine hK.out _ _ ?_ (fun hHeld2 => ?_)
    · exact ⟨hHeld.1.keep hb, hHeld.2.1.keep hb, hHeld.2.2.trans (hb.mono hHeld.2.2.size)⟩
    clear hHeld hK K; have hHeld := hHeld2; clear hHeld2
    replace hr := hr.keep hb
    have dhr_r21 := Nat.lt_of_lt_of_le lhr h21; clear lhr
    clear hb
    try simp only [Act.put, List.setIfInBounds_toArray, List.set_cons_zero, List.set_cons_succ]
    refine H.ready [8] (by kernel_rfl) (by simp) ?_
    refine H.one rfl (by rfl) (fun K hK => ?_) AllReadyH.nil
    go_simp
    go_at_call 29
    have lhr := hr.lt
    have lr21 := r21.lt
    refine (P4.out _ _ r21).mono ?_
    rintro e wk ⟨g25, rfl, r25, h25, hb⟩
    have hge := hHeld.2.2.size
    refine hK.out _ _ ?_ (fun hHeld2 => ?_)
    · exact ⟨hHeld.1.keep hb, hHeld.2.1.keep hb, hHeld.2.2.trans (hb.mono hHeld.2.2.size)⟩
    clear hHeld hK K; have hHeld := hHeld2; clear hHeld2
    replace hr := hr.keep hb
    replace r21 := r21.keep hb
    have dhr_r25 := Nat.lt_of_lt_of_le lhr h25; clear lhr
    have dr21_r25 := Nat.lt_of_lt_of_le lr21 h25; clear lr21
    clear hb
    try simp only [Act.put, List.setIfInBounds_toArray, List.set_cons_zero, List.set_cons_succ]
    refine H.take 9 (v := ?_) rfl (by kernel_rfl) (fun _ _ _ h => h) (by rfl) ?_ (by assumption) ?_
    rotate_left
    · (intro wz hSw; (try dsimp only at hSw); have q1 := hSw.1.two; have q2 := hSw.2.1.four;go_simp <;> with_reducible rfl)
    try simp only [Act.put, List.setIfInBounds_toArray, List.set_cons_zero, List.set_cons_succ]
    refine H.take 10 (v := ?_) rfl (by kernel_rfl) (fun _ _ _ h => h) (by rfl) ?_ (by assumption) ?_
    rotate_left
    · (intro wz hSw; (try dsimp only at hSw); have q1 := hSw.1.two; have q2 := hSw.2.1.four;go_simp <;> with_reducible rfl)
    try simp only [Act.put, List.setIfInBounds_toArray, List.set_cons_zero, List.set_cons_succ]
    refine H.done (by kernel_rfl) ?_ _
    go_wp2
    go_ret
    exact ⟨g25, rfl, r25, by omega, hHeld.2.2⟩
end Go.Proofs.YtecmhjhjmhliiaaDoor


/-
  Pcap: Bytes: the bytes of a file's header.
-/

namespace Go.Proofs.YtecmhjhjmhliiaaDoor

open Go.RowKit Go.Lib

set_option maxRecDepth 100000

set_option maxHeartbeats 8000000 in
theorem bytes_any (lit nan : Bool) (link snap : Nat) (hk : link ≤ 65535) (hs : snap ≤ 4294967295) (w : World) :
    Calls Tryd.prog 10 #[fileV lit nan link snap] w fun e w' => ∃ g, e = .returned (.slice (some ⟨g, 0, none⟩) 24 24) ∧ RdB w' g (bytesH lit nan link snap) ∧ w.heap.size ≤ g ∧ Below w.heap.size w w' := by
  obtain ⟨b1, h1⟩ : ∃ b, mg lit nan = b := ⟨_, rfl⟩
  obtain ⟨b2, h2⟩ : ∃ b, b1 ++ bytesF lit 2 2 = b := ⟨_, rfl⟩
  obtain ⟨b3, h3⟩ : ∃ b, b2 ++ bytesF lit 2 4 = b := ⟨_, rfl⟩
  obtain ⟨b4, h4⟩ : ∃ b, b3 ++ bytesF lit 4 0 = b := ⟨_, rfl⟩
  obtain ⟨b5, h5⟩ : ∃ b, b4 ++ bytesF lit 4 0 = b := ⟨_, rfl⟩
  obtain ⟨b6, h6⟩ : ∃ b, b5 ++ bytesF lit 4 snap = b := ⟨_, rfl⟩
  obtain ⟨b7, h7⟩ : ∃ b, b6 ++ bytesF lit 4 link = b := ⟨_, rfl⟩
  have l1 : b1.length = 4 := by rw [← h1, mg_len]
  have l2 : b2.length = 6 := by rw [← h2, List.length_append, l1, bytesF_len]
  have l3 : b3.length = 8 := by rw [← h3, List.length_append, l2, bytesF_len]
  have l4 : b4.length = 12 := by rw [← h4, List.length_append, l3, bytesF_len]
  have l5 : b5.length = 16 := by rw [← h5, List.length_append, l4, bytesF_len]
  have l6 : b6.length = 20 := by rw [← h6, List.length_append, l5, bytesF_len]
  have hb : bytesH lit nan link snap = b7 := by unfold bytesH; rw [h1, h2, h3, h4, h5, h6, h7]
  rw [hb]
  obtain ⟨M, hM⟩ : ∃ M, mgc nan = M := ⟨_, rfl⟩
  have hM1 : bytesF lit 4 M = b1 := by rw [← hM]; exact h1
  have hM2 : M < 18446744073709551616 := by rw [← hM]; cases nan <;> decide
  have HM := Lib.hid (fun w => magic_any lit nan link snap w)
  rw [hM] at HM
  have P1 := Lib.hid (fun w => put_first none 0 lit M hM2 4 (by decide) (by decide) w b1 hM1)
  have P2 := Lib.hid (fun g w (h : RdB w g b1) => put_row g b1 4 4 l1 lit 2 (by omega) 2 (by decide) (by decide) (by decide) w h b2 h2 6 rfl)
  have P3 := Lib.hid (fun g w (h : RdB w g b2) => put_row g b2 6 6 l2 lit 4 (by omega) 2 (by decide) (by decide) (by decide) w h b3 h3 8 rfl)
  have P4 := Lib.hid (fun g w (h : RdB w g b3) => put_row g b3 8 8 l3 lit 0 (by omega) 4 (by decide) (by decide) (by decide) w h b4 h4 12 rfl)
  have P5 := Lib.hid (fun g w (h : RdB w g b4) => put_row g b4 12 12 l4 lit 0 (by omega) 4 (by decide) (by decide) (by decide) w h b5 h5 16 rfl)
  have P6 := Lib.hid (fun g w (h : RdB w g b5) => put_row g b5 16 16 l5 lit snap (by omega) 4 (by decide) (by decide) (by decide) w h b6 h6 20 rfl)
  have P7 := Lib.hid (fun g w (h : RdB w g b6) => put_row g b6 20 20 l6 lit link (by omega) 4 (by decide) (by decide) (by decide) w h b7 h7 24 rfl)
  have w1 := wrap_nat hs; have w2 := wrap_nat (s := link) (by omega)
  clear hs hk h1 h2 h3 h4 h5 h6 h7 l1 l2 l3 l4 l5 l6 hb hM hM1 hM2
  go_enter Tryd.func10, Tryd.ntmps10
  go_upto_region 1 with fail
  go_cut [3] (fun s3 wx => ∃ g g2 : Nat, s3 = .pointer (some ⟨g, 0, none⟩) ∧ Blk wx g #[.slice (some ⟨g2, 0, none⟩) 8 8, .bool lit] 63 ∧ RdB wx g2 b3 ∧ Blk wx w.heap.size #[.bool lit, .bool nan, .int .u16 (link : Int), .int .u32 (snap : Int)] 26 ∧ Below w.heap.size w wx ∧ w.heap.size < g)
  case first =>
    refine wp_region_held_drew (S := (fun w' => Blk w' w.heap.size #[.bool lit, .bool nan, .int .u16 (link : Int), .int .u32 (snap : Int)] 26 ∧ Below w.heap.size w w')) (by kernel_rfl) ?_ (fun hHeld => ?_)
    · exact ⟨(Blk.new rfl).drew, drewB ((Below.refl _ w).alloc (Nat.le_refl _) _)⟩
    generalize World.drew _ = wz at hHeld  ⊢
    refine H.take 0 (v := ?_) rfl (by kernel_rfl) (fun _ _ _ h => h) (by rfl) ?_ (by assumption) ?_
    rotate_left
    · (intro wz hSw; (try dsimp only at hSw); have q1 := hSw.1.four;go_simp <;> with_reducible rfl)
    try simp only [Act.put, List.setIfInBounds_toArray, List.set_cons_zero, List.set_cons_succ]
    refine H.take 1 (v := ?_) rfl (by kernel_rfl) (fun _ _ _ h => h) (by rfl) ?_ (by assumption) ?_
    rotate_left
    · (intro wz hSw; (try dsimp only at hSw); have q1 := hSw.1.four;go_simp <;> with_reducible rfl)
    try simp only [Act.put, List.setIfInBounds_toArray, List.set_cons_zero, List.set_cons_succ]
    refine H.take 2 (v := ?_) rfl (by kernel_rfl) (fun _ _ _ h => h) (by rfl) ?_ (by assumption) ?_
    rotate_left
    · (intro wz hSw; (try dsimp only at hSw); have q1 := hSw.1.four;go_simp <;> with_reducible rfl)
    try simp only [Act.put, List.setIfInBounds_toArray, List.set_cons_zero, List.set_cons_succ]
    refine H.take 3 (v := ?_) rfl (by kernel_rfl) (fun _ _ _ h => h) (by rfl) ?_ (by assumption) ?_
    rotate_left
    · (intro wz hSw; (try dsimp only at hSw); have q1 := hSw.1.four;go_simp <;> with_reducible rfl)
    try simp only [Act.put, List.setIfInBounds_toArray, List.set_cons_zero, List.set_cons_succ]
    refine H.ready [4, 8] (by kernel_rfl) (by simp) ?_
    refine H.one rfl (by rfl) (fun K hK => ?_) ?_
    · skip
      go_simp
      go_at_call 30
      refine (HM.out _).mono ?_
      rintro e wk ⟨rfl, hb⟩
      refine hK.out _ _ ?_ (fun hHeld2 => ?_)
      · exact ⟨hHeld.1.keep hb, hHeld.2.trans (hb.mono hHeld.2.size)⟩
      clear hHeld hK K; have hHeld := hHeld2; clear hHeld2
      clear hb
      try simp only [Act.put, List.setIfInBounds_toArray, List.set_cons_zero, List.set_cons_succ]
      refine H.ready [5, 8] (by kernel_rfl) (by simp) ?_
      refine H.one rfl (by rfl) (fun K hK => ?_) ?_
      · skip
        go_simp
        go_at_call 29
        refine (P1.out _).mono ?_
        rintro e wk ⟨g9, rfl, r9, h9, hb⟩
        refine hK.out _ _ ?_ (fun hHeld2 => ?_)
        · exact ⟨hHeld.1.keep hb, hHeld.2.trans (hb.mono hHeld.2.size)⟩
        clear hHeld hK K; have hHeld := hHeld2; clear hHeld2
        clear hb
        try simp only [Act.put, List.setIfInBounds_toArray, List.set_cons_zero, List.set_cons_succ]
        refine H.ready [6, 8] (by kernel_rfl) (by simp) ?_
        refine H.one rfl (by rfl) (fun K hK => ?_) ?_
        · skip
          go_simp
          go_at_call 29
          have lr9 := r9.lt
          refine (P2.out _ _ r9).mono ?_
          rintro e wk ⟨g10, rfl, r10, h10, hb⟩
          refine hK.out _ _ ?_ (fun hHeld2 => ?_)
          · exact ⟨hHeld.1.keep hb, hHeld.2.trans (hb.mono hHeld.2.size)⟩
          clear hHeld hK K; have hHeld := hHeld2; clear hHeld2
          replace r9 := r9.keep hb
          have dr9_r10 := Nat.lt_of_lt_of_le lr9 h10; clear lr9
          clear hb
          try simp only [Act.put, List.setIfInBounds_toArray, List.set_cons_zero, List.set_cons_succ]
          refine H.ready [7, 8] (by kernel_rfl) (by simp) ?_
          refine H.one rfl (by rfl) (fun K hK => ?_) ?_
          · skip
            go_simp
            go_at_call 29
            have lr9 := r9.lt
            have lr10 := r10.lt
            refine (P3.out _ _ r10).mono ?_
            rintro e wk ⟨g11, rfl, r11, h11, hb⟩
            refine hK.out _ _ ?_ (fun hHeld2 => ?_)
            · exact ⟨hHeld.1.keep hb, hHeld.2.trans (hb.mono hHeld.2.size)⟩
            clear hHeld hK K; have hHeld := hHeld2; clear hHeld2
            replace r9 := r9.keep hb
            replace r10 := r10.keep hb
            have dr9_r11 := Nat.lt_of_lt_of_le lr9 h11; clear lr9
            have dr10_r11 := Nat.lt_of_lt_of_le lr10 h11; clear lr10
            clear hb
            try simp only [Act.put, List.setIfInBounds_toArray, List.set_cons_zero, List.set_cons_succ]
            refine H.ready [8] (by kernel_rfl) (by simp) ?_
            refine H.one rfl (by rfl) (fun K hK => ?_) AllReadyH.nil
            have e3_0 := hHeld.1.lt
            have z3 := hHeld.2.size
            have dr9_n3 := r9.lt
            have dr10_n3 := r10.lt
            have dr11_n3 := r11.lt
            go_simp
            refine hK.out _ _ ?_ (fun hHeld2 => ?_)
            · exact ⟨hHeld.1.old _, hHeld.2.alloc hHeld.2.size _⟩
            clear hHeld hK K; have hHeld := hHeld2; clear hHeld2
            replace r9 := r9.old (.cells #[.slice none 0 0, .bool false] 63)
            replace r10 := r10.old (.cells #[.slice none 0 0, .bool false] 63)
            replace r11 := r11.old (.cells #[.slice none 0 0, .bool false] 63)
            try simp only [Act.put, List.setIfInBounds_toArray, List.set_cons_zero, List.set_cons_succ]
            refine H.fresh (fun n3 => ?_)
            generalize World.alloc _ _ = wz at hHeld r9 r10 r11 n3 ⊢
            refine H.ready [9] (by kernel_rfl) (by simp) ?_
            refine H.one rfl (by rfl) (fun K hK => ?_) AllReadyH.nil
            have c3 := n3.two; have f3 := n3.free0
            go_simp
            refine hK.out _ _ ?_ (fun hHeld2 => ?_)
            · exact ⟨hHeld.1.else2 (Nat.ne_of_lt e3_0), Below.put2 hHeld.2 z3⟩
            clear hHeld hK K c3 f3; have hHeld := hHeld2; clear hHeld2
            try simp only [Act.put, List.setIfInBounds_toArray, List.set_cons_zero, List.set_cons_succ]
            refine H.otherR2 r9 (Nat.ne_of_lt dr9_n3) (fun r9x => ?_); clear r9; have r9 := r9x; clear r9x
            refine H.otherR2 r10 (Nat.ne_of_lt dr10_n3) (fun r10x => ?_); clear r10; have r10 := r10x; clear r10x
            refine H.otherR2 r11 (Nat.ne_of_lt dr11_n3) (fun r11x => ?_); clear r11; have r11 := r11x; clear r11x
            refine H.stored2 n3 (fun n3x => ?_); clear n3; have n3 := n3x; clear n3x
            refine H.done (by kernel_rfl) ?_ _
            (go_wp2_with fail; go_meet; exact ⟨_, g11, rfl, n3, r11, hHeld.1, hHeld.2, e3_0⟩)
          refine H.one rfl (by rfl) (fun K hK => ?_) ?_
          · skip
            have e3_0 := hHeld.1.lt
            have z3 := hHeld.2.size
            have dr9_n3 := r9.lt
            have dr10_n3 := r10.lt
            go_simp
            refine hK.out _ _ ?_ (fun hHeld2 => ?_)
            · exact ⟨hHeld.1.old _, hHeld.2.alloc hHeld.2.size _⟩
            clear hHeld hK K; have hHeld := hHeld2; clear hHeld2
            replace r9 := r9.old (.cells #[.slice none 0 0, .bool false] 63)
            replace r10 := r10.old (.cells #[.slice none 0 0, .bool false] 63)
            try simp only [Act.put, List.setIfInBounds_toArray, List.set_cons_zero, List.set_cons_succ]
            refine H.fresh (fun n3 => ?_)
            generalize World.alloc _ _ = wz at hHeld r9 r10 n3 ⊢
            refine H.ready [7] (by kernel_rfl) (by simp) ?_
            refine H.one rfl (by rfl) (fun K hK => ?_) AllReadyH.nil
            go_simp
            go_at_call 29
            have lr9 := r9.lt
            have lr10 := r10.lt
            have ln3 := n3.lt
            refine (P3.out _ _ r10).mono ?_
            rintro e wk ⟨g11, rfl, r11, h11, hb⟩
            refine hK.out _ _ ?_ (fun hHeld2 => ?_)
            · exact ⟨hHeld.1.keep hb, hHeld.2.trans (hb.mono hHeld.2.size)⟩
            clear hHeld hK K; have hHeld := hHeld2; clear hHeld2
            replace r9 := r9.keep hb
            replace r10 := r10.keep hb
            replace n3 := n3.keep hb
            have dr9_r11 := Nat.lt_of_lt_of_le lr9 h11; clear lr9
            have dr10_r11 := Nat.lt_of_lt_of_le lr10 h11; clear lr10
            have dn3_r11 := Nat.lt_of_lt_of_le ln3 h11; clear ln3
            clear hb
            try simp only [Act.put, List.setIfInBounds_toArray, List.set_cons_zero, List.set_cons_succ]
            refine H.ready [9] (by kernel_rfl) (by simp) ?_
            refine H.one rfl (by rfl) (fun K hK => ?_) AllReadyH.nil
            have c3 := n3.two; have f3 := n3.free0
            go_simp
            refine hK.out _ _ ?_ (fun hHeld2 => ?_)
            · exact ⟨hHeld.1.else2 (Nat.ne_of_lt e3_0), Below.put2 hHeld.2 z3⟩
            clear hHeld hK K c3 f3; have hHeld := hHeld2; clear hHeld2
            try simp only [Act.put, List.setIfInBounds_toArray, List.set_cons_zero, List.set_cons_succ]
            refine H.otherR2 r9 (Nat.ne_of_lt dr9_n3) (fun r9x => ?_); clear r9; have r9 := r9x; clear r9x
            refine H.otherR2 r10 (Nat.ne_of_lt dr10_n3) (fun r10x => ?_); clear r10; have r10 := r10x; clear r10x
            refine H.otherR2 r11 (Nat.ne_of_gt dn3_r11) (fun r11x => ?_); clear r11; have r11 := r11x; clear r11x
            refine H.stored2 n3 (fun n3x => ?_); clear n3; have n3 := n3x; clear n3x
            refine H.done (by kernel_rfl) ?_ _
            (go_wp2_with fail; go_meet; exact ⟨_, g11, rfl, n3, r11, hHeld.1, hHeld.2, e3_0⟩)
          exact AllReadyH.nil
        refine H.one rfl (by rfl) (fun K hK => ?_) ?_
        · skip
          have e3_0 := hHeld.1.lt
          have z3 := hHeld.2.size
          have dr9_n3 := r9.lt
          go_simp
          refine hK.out _ _ ?_ (fun hHeld2 => ?_)
          · exact ⟨hHeld.1.old _, hHeld.2.alloc hHeld.2.size _⟩
          clear hHeld hK K; have hHeld := hHeld2; clear hHeld2
          replace r9 := r9.old (.cells #[.slice none 0 0, .bool false] 63)
          try simp only [Act.put, List.setIfInBounds_toArray, List.set_cons_zero, List.set_cons_succ]
          refine H.fresh (fun n3 => ?_)
          generalize World.alloc _ _ = wz at hHeld r9 n3 ⊢
          refine H.ready [6] (by kernel_rfl) (by simp) ?_
          refine H.one rfl (by rfl) (fun K hK => ?_) AllReadyH.nil
          go_simp
          go_at_call 29
          have lr9 := r9.lt
          have ln3 := n3.lt
          refine (P2.out _ _ r9).mono ?_
          rintro e wk ⟨g10, rfl, r10, h10, hb⟩
          refine hK.out _ _ ?_ (fun hHeld2 => ?_)
          · exact ⟨hHeld.1.keep hb, hHeld.2.trans (hb.mono hHeld.2.size)⟩
          clear hHeld hK K; have hHeld := hHeld2; clear hHeld2
          replace r9 := r9.keep hb
          replace n3 := n3.keep hb
          have dr9_r10 := Nat.lt_of_lt_of_le lr9 h10; clear lr9
          have dn3_r10 := Nat.lt_of_lt_of_le ln3 h10; clear ln3
          clear hb
          try simp only [Act.put, List.setIfInBounds_toArray, List.set_cons_zero, List.set_cons_succ]
          refine H.ready [7] (by kernel_rfl) (by simp) ?_
          refine H.one rfl (by rfl) (fun K hK => ?_) AllReadyH.nil
          go_simp
          go_at_call 29
          have lr9 := r9.lt
          have ln3 := n3.lt
          have lr10 := r10.lt
          refine (P3.out _ _ r10).mono ?_
          rintro e wk ⟨g11, rfl, r11, h11, hb⟩
          refine hK.out _ _ ?_ (fun hHeld2 => ?_)
          · exact ⟨hHeld.1.keep hb, hHeld.2.trans (hb.mono hHeld.2.size)⟩
          clear hHeld hK K; have hHeld := hHeld2; clear hHeld2
          replace r9 := r9.keep hb
          replace n3 := n3.keep hb
          replace r10 := r10.keep hb
          have dr9_r11 := Nat.lt_of_lt_of_le lr9 h11; clear lr9
          have dn3_r11 := Nat.lt_of_lt_of_le ln3 h11; clear ln3
          have dr10_r11 := Nat.lt_of_lt_of_le lr10 h11; clear lr10
          clear hb
          try simp only [Act.put, List.setIfInBounds_toArray, List.set_cons_zero, List.set_cons_succ]
          refine H.ready [9] (by kernel_rfl) (by simp) ?_
          refine H.one rfl (by rfl) (fun K hK => ?_) AllReadyH.nil
          have c3 := n3.two; have f3 := n3.free0
          go_simp
          refine hK.out _ _ ?_ (fun hHeld2 => ?_)
          · exact ⟨hHeld.1.else2 (Nat.ne_of_lt e3_0), Below.put2 hHeld.2 z3⟩
          clear hHeld hK K c3 f3; have hHeld := hHeld2; clear hHeld2
          try simp only [Act.put, List.setIfInBounds_toArray, List.set_cons_zero, List.set_cons_succ]
          refine H.otherR2 r9 (Nat.ne_of_lt dr9_n3) (fun r9x => ?_); clear r9; have r9 := r9x; clear r9x
          refine H.otherR2 r10 (Nat.ne_of_gt dn3_r10) (fun r10x => ?_); clear r10; have r10 := r10x; clear r10x
          refine H.otherR2 r11 (Nat.ne_of_gt dn3_r11) (fun r11x => ?_); clear r11; have r11 := r11x; clear r11x
          refine H.stored2 n3 (fun n3x => ?_); clear n3; have n3 := n3x; clear n3x
          refine H.done (by kernel_rfl) ?_ _
          (go_wp2_with fail; go_meet; exact ⟨_, g11, rfl, n3, r11, hHeld.1, hHeld.2, e3_0⟩)
        exact AllReadyH.nil
      refine H.one rfl (by rfl) (fun K hK => ?_) ?_
      · skip
        have e3_0 := hHeld.1.lt
        have z3 := hHeld.2.size
        go_simp
        refine hK.out _ _ ?_ (fun hHeld2 => ?_)
        · exact ⟨hHeld.1.old _, hHeld.2.alloc hHeld.2.size _⟩
        clear hHeld hK K; have hHeld := hHeld2; clear hHeld2
        try simp only [Act.put, List.setIfInBounds_toArray, List.set_cons_zero, List.set_cons_succ]
        refine H.fresh (fun n3 => ?_)
        generalize World.alloc _ _ = wz at hHeld n3 ⊢
        refine H.ready [5] (by kernel_rfl) (by simp) ?_
        refine H.one rfl (by rfl) (fun K hK => ?_) AllReadyH.nil
        go_simp
        go_at_call 29
        have ln3 := n3.lt
        refine (P1.out _).mono ?_
        rintro e wk ⟨g9, rfl, r9, h9, hb⟩
        refine hK.out _ _ ?_ (fun hHeld2 => ?_)
        · exact ⟨hHeld.1.keep hb, hHeld.2.trans (hb.mono hHeld.2.size)⟩
        clear hHeld hK K; have hHeld := hHeld2; clear hHeld2
        replace n3 := n3.keep hb
        have dn3_r9 := Nat.lt_of_lt_of_le ln3 h9; clear ln3
        clear hb
        try simp only [Act.put, List.setIfInBounds_toArray, List.set_cons_zero, List.set_cons_succ]
        refine H.ready [6] (by kernel_rfl) (by simp) ?_
        refine H.one rfl (by rfl) (fun K hK => ?_) AllReadyH.nil
        go_simp
        go_at_call 29
        have ln3 := n3.lt
        have lr9 := r9.lt
        refine (P2.out _ _ r9).mono ?_
        rintro e wk ⟨g10, rfl, r10, h10, hb⟩
        refine hK.out _ _ ?_ (fun hHeld2 => ?_)
        · exact ⟨hHeld.1.keep hb, hHeld.2.trans (hb.mono hHeld.2.size)⟩
        clear hHeld hK K; have hHeld := hHeld2; clear hHeld2
        replace n3 := n3.keep hb
        replace r9 := r9.keep hb
        have dn3_r10 := Nat.lt_of_lt_of_le ln3 h10; clear ln3
        have dr9_r10 := Nat.lt_of_lt_of_le lr9 h10; clear lr9
        clear hb
        try simp only [Act.put, List.setIfInBounds_toArray, List.set_cons_zero, List.set_cons_succ]
        refine H.ready [7] (by kernel_rfl) (by simp) ?_
        refine H.one rfl (by rfl) (fun K hK => ?_) AllReadyH.nil
        go_simp
        go_at_call 29
        have ln3 := n3.lt
        have lr9 := r9.lt
        have lr10 := r10.lt
        refine (P3.out _ _ r10).mono ?_
        rintro e wk ⟨g11, rfl, r11, h11, hb⟩
        refine hK.out _ _ ?_ (fun hHeld2 => ?_)
        · exact ⟨hHeld.1.keep hb, hHeld.2.trans (hb.mono hHeld.2.size)⟩
        clear hHeld hK K; have hHeld := hHeld2; clear hHeld2
        replace n3 := n3.keep hb
        replace r9 := r9.keep hb
        replace r10 := r10.keep hb
        have dn3_r11 := Nat.lt_of_lt_of_le ln3 h11; clear ln3
        have dr9_r11 := Nat.lt_of_lt_of_le lr9 h11; clear lr9
        have dr10_r11 := Nat.lt_of_lt_of_le lr10 h11; clear lr10
        clear hb
        try simp only [Act.put, List.setIfInBounds_toArray, List.set_cons_zero, List.set_cons_succ]
        refine H.ready [9] (by kernel_rfl) (by simp) ?_
        refine H.one rfl (by rfl) (fun K hK => ?_) AllReadyH.nil
        have c3 := n3.two; have f3 := n3.free0
        go_simp
        refine hK.out _ _ ?_ (fun hHeld2 => ?_)
        · exact ⟨hHeld.1.else2 (Nat.ne_of_lt e3_0), Below.put2 hHeld.2 z3⟩
        clear hHeld hK K c3 f3; have hHeld := hHeld2; clear hHeld2
        try simp only [Act.put, List.setIfInBounds_toArray, List.set_cons_zero, List.set_cons_succ]
        refine H.otherR2 r9 (Nat.ne_of_gt dn3_r9) (fun r9x => ?_); clear r9; have r9 := r9x; clear r9x
        refine H.otherR2 r10 (Nat.ne_of_gt dn3_r10) (fun r10x => ?_); clear r10; have r10 := r10x; clear r10x
        refine H.otherR2 r11 (Nat.ne_of_gt dn3_r11) (fun r11x => ?_); clear r11; have r11 := r11x; clear r11x
        refine H.stored2 n3 (fun n3x => ?_); clear n3; have n3 := n3x; clear n3x
        refine H.done (by kernel_rfl) ?_ _
        (go_wp2_with fail; go_meet; exact ⟨_, g11, rfl, n3, r11, hHeld.1, hHeld.2, e3_0⟩)
      exact AllReadyH.nil
    refine H.one rfl (by rfl) (fun K hK => ?_) ?_
    · skip
      have e3_0 := hHeld.1.lt
      have z3 := hHeld.2.size
      go_simp
      refine hK.out _ _ ?_ (fun hHeld2 => ?_)
      · exact ⟨hHeld.1.old _, hHeld.2.alloc hHeld.2.size _⟩
      clear hHeld hK K; have hHeld := hHeld2; clear hHeld2
      try simp only [Act.put, List.setIfInBounds_toArray, List.set_cons_zero, List.set_cons_succ]
      refine H.fresh (fun n3 => ?_)
      generalize World.alloc _ _ = wz at hHeld n3 ⊢
      refine H.ready [4] (by kernel_rfl) (by simp) ?_
      refine H.one rfl (by rfl) (fun K hK => ?_) AllReadyH.nil
      go_simp
      go_at_call 30
      refine (HM.out _).mono ?_
      rintro e wk ⟨rfl, hb⟩
      refine hK.out _ _ ?_ (fun hHeld2 => ?_)
      · exact ⟨hHeld.1.keep hb, hHeld.2.trans (hb.mono hHeld.2.size)⟩
      clear hHeld hK K; have hHeld := hHeld2; clear hHeld2
      replace n3 := n3.keep hb
      clear hb
      try simp only [Act.put, List.setIfInBounds_toArray, List.set_cons_zero, List.set_cons_succ]
      refine H.ready [5] (by kernel_rfl) (by simp) ?_
      refine H.one rfl (by rfl) (fun K hK => ?_) AllReadyH.nil
      go_simp
      go_at_call 29
      have ln3 := n3.lt
      refine (P1.out _).mono ?_
      rintro e wk ⟨g9, rfl, r9, h9, hb⟩
      refine hK.out _ _ ?_ (fun hHeld2 => ?_)
      · exact ⟨hHeld.1.keep hb, hHeld.2.trans (hb.mono hHeld.2.size)⟩
      clear hHeld hK K; have hHeld := hHeld2; clear hHeld2
      replace n3 := n3.keep hb
      have dn3_r9 := Nat.lt_of_lt_of_le ln3 h9; clear ln3
      clear hb
      try simp only [Act.put, List.setIfInBounds_toArray, List.set_cons_zero, List.set_cons_succ]
      refine H.ready [6] (by kernel_rfl) (by simp) ?_
      refine H.one rfl (by rfl) (fun K hK => ?_) AllReadyH.nil
      go_simp
      go_at_call 29
      have ln3 := n3.lt
      have lr9 := r9.lt
      refine (P2.out _ _ r9).mono ?_
      rintro e wk ⟨g10, rfl, r10, h10, hb⟩
      refine hK.out _ _ ?_ (fun hHeld2 => ?_)
      · exact ⟨hHeld.1.keep hb, hHeld.2.trans (hb.mono hHeld.2.size)⟩
      clear hHeld hK K; have hHeld := hHeld2; clear hHeld2
      replace n3 := n3.keep hb
      replace r9 := r9.keep hb
      have dn3_r10 := Nat.lt_of_lt_of_le ln3 h10; clear ln3
      have dr9_r10 := Nat.lt_of_lt_of_le lr9 h10; clear lr9
      clear hb
      try simp only [Act.put, List.setIfInBounds_toArray, List.set_cons_zero, List.set_cons_succ]
      refine H.ready [7] (by kernel_rfl) (by simp) ?_
      refine H.one rfl (by rfl) (fun K hK => ?_) AllReadyH.nil
      go_simp
      go_at_call 29
      have ln3 := n3.lt
      have lr9 := r9.lt
      have lr10 := r10.lt
      refine (P3.out _ _ r10).mono ?_
      rintro e wk ⟨g11, rfl, r11, h11, hb⟩
      refine hK.out _ _ ?_ (fun hHeld2 => ?_)
      · exact ⟨hHeld.1.keep hb, hHeld.2.trans (hb.mono hHeld.2.size)⟩
      clear hHeld hK K; have hHeld := hHeld2; clear hHeld2
      replace n3 := n3.keep hb
      replace r9 := r9.keep hb
      replace r10 := r10.keep hb
      have dn3_r11 := Nat.lt_of_lt_of_le ln3 h11; clear ln3
      have dr9_r11 := Nat.lt_of_lt_of_le lr9 h11; clear lr9
      have dr10_r11 := Nat.lt_of_lt_of_le lr10 h11; clear lr10
      clear hb
      try simp only [Act.put, List.setIfInBounds_toArray, List.set_cons_zero, List.set_cons_succ]
      refine H.ready [9] (by kernel_rfl) (by simp) ?_
      refine H.one rfl (by rfl) (fun K hK => ?_) AllReadyH.nil
      have c3 := n3.two; have f3 := n3.free0
      go_simp
      refine hK.out _ _ ?_ (fun hHeld2 => ?_)
      · exact ⟨hHeld.1.else2 (Nat.ne_of_lt e3_0), Below.put2 hHeld.2 z3⟩
      clear hHeld hK K c3 f3; have hHeld := hHeld2; clear hHeld2
      try simp only [Act.put, List.setIfInBounds_toArray, List.set_cons_zero, List.set_cons_succ]
      refine H.otherR2 r9 (Nat.ne_of_gt dn3_r9) (fun r9x => ?_); clear r9; have r9 := r9x; clear r9x
      refine H.otherR2 r10 (Nat.ne_of_gt dn3_r10) (fun r10x => ?_); clear r10; have r10 := r10x; clear r10x
      refine H.otherR2 r11 (Nat.ne_of_gt dn3_r11) (fun r11x => ?_); clear r11; have r11 := r11x; clear r11x
      refine H.stored2 n3 (fun n3x => ?_); clear n3; have n3 := n3x; clear n3x
      refine H.done (by kernel_rfl) ?_ _
      (go_wp2_with fail; go_meet; exact ⟨_, g11, rfl, n3, r11, hHeld.1, hHeld.2, e3_0⟩)
    exact AllReadyH.nil
  case rest =>
    obtain ⟨g, g2, rfl, hg, hr, hh, hbe, hgl⟩ := hcut
    have hgc := hg.two
    clear P1 P2 P3 HM
    go_wp2_with (first
      | (go_at_call_of 29 (Value.agg #[Value.slice (some ⟨g2, 0, none⟩) 8 8, Value.bool lit]); refine (P4.out _ _ hr).mono ?_; rintro e wk ⟨g4, rfl, hr4, _, hb4⟩; have hg4 := Blk.keep hb4 hg; have hh4 := Blk.keep hb4 hh; have hbe4 := Lib.hid (keepW hbe hb4); have hx4 : g < g4 := Nat.lt_of_lt_of_le hg.lt (by assumption); clear hb4 hgc)
      | (go_at_call 29; refine (P5.out _ _ hr4).mono ?_; rintro e wk5 ⟨g5, rfl, hr5, _, hb5⟩; have hx5 : g < g5 := Nat.lt_of_lt_of_le hg4.lt (by assumption); have hg5 := Blk.keep hb5 hg4; have hh5 := Blk.keep hb5 hh4; have hbe5 := Lib.hid (keepW hbe4.out hb5); have hgc := hg5.two; have hgf := hg5.free0; clear hb5 ))
    have hg6 : Blk ((wk5.setCell ⟨g, 0, none⟩ (.slice (some ⟨g5, 0, none⟩) 16 16)).setCell ⟨g, 1, none⟩ (.bool lit)) g #[.slice (some ⟨g5, 0, none⟩) 16 16, .bool lit] 63 := (hg5.put (i := 0) _).put (i := 1) _
    have hh6 := hh5.else2 (x := .slice (some ⟨g5, 0, none⟩) 16 16) (y := .bool lit) (Nat.ne_of_lt hgl)
    have hr6 := (hr5.else (i := 0) (.slice (some ⟨g5, 0, none⟩) 16 16) (Nat.ne_of_gt hx5)).else (i := 1) (.bool lit) (Nat.ne_of_gt hx5)
    have hbe6 := Below.put2 (x := .slice (some ⟨g5, 0, none⟩) 16 16) (y := .bool lit) hbe5.out (Nat.le_of_lt hgl)
    generalize World.setCell (World.setCell _ _ _) _ _ = w6 at hg6 hh6 hr6 hbe6 ⊢
    clear hgc hgf hg5 hh5 hr5 hbe5 P4 P5 hg hr hh hbe hr4 hg4 hh4 hbe4
    have hfld := run_fieldB
    refine wp_region_held_drew (S := (fun w' => Blk w' g #[.slice (some ⟨g5, 0, none⟩) 16 16, .bool lit] 63 ∧ Blk w' w.heap.size #[.bool lit, .bool nan, .int .u16 (link : Int), .int .u32 (snap : Int)] 26 ∧ Below w.heap.size w w')) (by kernel_rfl) ?_ (fun hHeld => ?_)
    · exact ⟨hg6.drew, hh6.drew, drewB hbe6⟩
    replace hr6 := hr6.drew
    generalize World.drew _ = wz at hHeld hr6 ⊢
    refine H.take 0 (v := ?_) rfl (by kernel_rfl) (fun _ _ _ h => h) (by rfl) ?_ (by assumption) ?_
    rotate_left
    · (intro wz hSw; (try dsimp only at hSw); have q1 := hSw.1.two; have q2 := hSw.2.1.four;go_simp <;> with_reducible rfl)
    try simp only [Act.put, List.setIfInBounds_toArray, List.set_cons_zero, List.set_cons_succ]
    refine H.take 1 (v := ?_) rfl (by kernel_rfl) (fun _ _ _ h => h) (by rfl) ?_ (by assumption) ?_
    rotate_left
    · (intro wz hSw; (try dsimp only at hSw); have q1 := hSw.1.two; have q2 := hSw.2.1.four;go_simp <;> with_reducible rfl)
    try simp only [Act.put, List.setIfInBounds_toArray, List.set_cons_zero, List.set_cons_succ]
    refine H.take 2 (v := ?_) rfl (by kernel_rfl) (fun _ _ _ h => h) (by rfl) ?_ (by assumption) ?_
    rotate_left
    · (intro wz hSw; (try dsimp only at hSw); have q1 := hSw.1.two; have q2 := hSw.2.1.four;go_simp <;> with_reducible rfl)
    try simp only [Act.put, List.setIfInBounds_toArray, List.set_cons_zero, List.set_cons_succ]
    refine H.take 3 (v := ?_) rfl (by kernel_rfl) (fun _ _ _ h => h) (by rfl) ?_ (by assumption) ?_
    rotate_left
    · (intro wz hSw; (try dsimp only at hSw); have q1 := hSw.1.two; have q2 := hSw.2.1.four;go_simp <;> with_reducible rfl)
    try simp only [Act.put, List.setIfInBounds_toArray, List.set_cons_zero, List.set_cons_succ]
    refine H.take 5 (v := ?_) rfl (by kernel_rfl) (fun _ _ _ h => h) (by rfl) ?_ (by assumption) ?_
    rotate_left
    · (intro wz hSw; (try dsimp only at hSw); have q1 := hSw.1.two; have q2 := hSw.2.1.four;go_simp <;> with_reducible rfl)
    try simp only [Act.put, List.setIfInBounds_toArray, List.set_cons_zero, List.set_cons_succ]
    refine H.take 6 (v := ?_) rfl (by kernel_rfl) (fun _ _ _ h => h) (by rfl) ?_ (by assumption) ?_
    rotate_left
    · (intro wz hSw; (try dsimp only at hSw); have q1 := hSw.1.two; have q2 := hSw.2.1.four;go_simp <;> with_reducible rfl)
    try simp only [Act.put, List.setIfInBounds_toArray, List.set_cons_zero, List.set_cons_succ]
    refine H.take 7 (v := ?_) rfl (by kernel_rfl) (fun _ _ _ h => h) (by rfl) ?_ (by assumption) ?_
    rotate_left
    · (intro wz hSw; (try dsimp only at hSw); have q1 := hSw.1.two; have q2 := hSw.2.1.four;go_simp <;> with_reducible rfl)
    try simp only [Act.put, List.setIfInBounds_toArray, List.set_cons_zero, List.set_cons_succ]
    refine H.ready [4] (by kernel_rfl) (by simp) ?_
    refine H.one rfl (by rfl) (fun K hK => ?_) AllReadyH.nil
    go_simp
    go_at_call 29
    have lhr6 := hr6.lt
    refine (P6.out _ _ hr6).mono ?_
    rintro e wk ⟨g19, rfl, r19, h19, hb⟩
    have hge := hHeld.2.2.size
    refine hK.out _ _ ?_ (fun hHeld2 => ?_)
    · exact ⟨hHeld.1.keep hb, hHeld.2.1.keep hb, hHeld.2.2.trans (hb.mono hHeld.2.2.size)⟩
    clear hHeld hK K; have hHeld := hHeld2; clear hHeld2
    replace hr6 := hr6.keep hb
    have dhr6_r19 := Nat.lt_of_lt_of_le lhr6 h19; clear lhr6
    clear hb
    try simp only [Act.put, List.setIfInBounds_toArray, List.set_cons_zero, List.set_cons_succ]
    refine H.ready [8] (by kernel_rfl) (by simp) ?_
    refine H.one rfl (by rfl) (fun K hK => ?_) AllReadyH.nil
    go_simp
    go_at_call 29
    have lhr6 := hr6.lt
    have lr19 := r19.lt
    refine (P7.out _ _ r19).mono ?_
    rintro e wk ⟨g23, rfl, r23, h23, hb⟩
    have hge := hHeld.2.2.size
    refine hK.out _ _ ?_ (fun hHeld2 => ?_)
    · exact ⟨hHeld.1.keep hb, hHeld.2.1.keep hb, hHeld.2.2.trans (hb.mono hHeld.2.2.size)⟩
    clear hHeld hK K; have hHeld := hHeld2; clear hHeld2
    replace hr6 := hr6.keep hb
    replace r19 := r19.keep hb
    have dhr6_r23 := Nat.lt_of_lt_of_le lhr6 h23; clear lhr6
    have dr19_r23 := Nat.lt_of_lt_of_le lr19 h23; clear lr19
    clear hb
    try simp only [Act.put, List.setIfInBounds_toArray, List.set_cons_zero, List.set_cons_succ]
    refine H.take 9 (v := ?_) rfl (by kernel_rfl) (fun _ _ _ h => h) (by rfl) ?_ (by assumption) ?_
    rotate_left
    · (intro wz hSw; (try dsimp only at hSw); have q1 := hSw.1.two; have q2 := hSw.2.1.four;go_simp <;> with_reducible rfl)
    try simp only [Act.put, List.setIfInBounds_toArray, List.set_cons_zero, List.set_cons_succ]
    refine H.take 10 (v := ?_) rfl (by kernel_rfl) (fun _ _ _ h => h) (by rfl) ?_ (by assumption) ?_
    rotate_left
    · (intro wz hSw; (try dsimp only at hSw); have q1 := hSw.1.two; have q2 := hSw.2.1.four;go_simp <;> with_reducible rfl)
    try simp only [Act.put, List.setIfInBounds_toArray, List.set_cons_zero, List.set_cons_succ]
    refine H.done (by kernel_rfl) ?_ _
    go_wp2
    go_ret
    exact ⟨g23, rfl, r23, by omega, hHeld.2.2⟩
end Go.Proofs.YtecmhjhjmhliiaaDoor


/-
  Pcap: the document's bytes of a file's header.
-/

namespace Go.Proofs.YtecmhjhjmhliiaaDoor

open Go.RowKit Go.Lib

set_option maxRecDepth 100000

theorem refMagic_blk (lit nan : Bool) (w : World) :
    Calls Tryd.prog 27 #[.bool lit, .bool nan] w fun e w' => e = .returned (.slice (some ⟨w.heap.size, 0, none⟩) 4 4) ∧ Blk w' w.heap.size ((mg lit nan).map u8).toArray 5 ∧ Below w.heap.size w w' := by
  cases nan
  · have HP := Lib.hid (refPut_blk lit 2712847316 (by decide) 4 (by decide) w)
    go_enter Tryd.func27, Tryd.ntmps27
    go_wp2_with (go_at_call 31; refine HP.out.mono ?_; rintro e w1 ⟨rfl, hr1, hb1⟩; have HR1 := Lib.hid hr1; have HB1 := Lib.hid hb1; clear hb1 hr1)
    go_ret
    exact ⟨rfl, HR1.out, HB1.out⟩
  · have HP := Lib.hid (refPut_blk lit 2712812621 (by decide) 4 (by decide) w)
    go_enter Tryd.func27, Tryd.ntmps27
    go_wp2_with (go_at_call 31; refine HP.out.mono ?_; rintro e w1 ⟨rfl, hr1, hb1⟩; have HR1 := Lib.hid hr1; have HB1 := Lib.hid hb1; clear hb1 hr1)
    go_ret
    exact ⟨rfl, HR1.out, HB1.out⟩
theorem app_z (lit : Bool) : List.replicate 8 (0 : UInt8) = bytesF lit 4 0 ++ bytesF lit 4 0 := by rw [bytesF_zero]; decide
set_option maxHeartbeats 8000000 in
theorem refBytes_any (lit nan : Bool) (link snap : Nat) (hk : link ≤ 65535) (hs : snap ≤ 4294967295) (w : World) :
    Calls Tryd.prog 11 #[fileV lit nan link snap] w fun e w' => ∃ A c, e = .returned (.slice A 24 c) ∧ Rd w' A (bytesH lit nan link snap) ∧ Below w.heap.size w w' := by
  have w1 := wrap_nat hs; have w2 := wrap_nat (s := link) (by omega)
  have HM := Lib.hid (fun w => refMagic_blk lit nan w)
  have P2 := Lib.hid (fun w => refPut_blk lit 2 (by decide) 2 (by decide) w)
  have P3 := Lib.hid (fun w => refPut_blk lit 4 (by decide) 2 (by decide) w)
  have P5 := Lib.hid (fun w => refPut_blk lit snap (by omega) 4 (by decide) w)
  have P6 := Lib.hid (fun w => refPut_blk lit link (by omega) 4 (by decide) w)
  have hbx : Blk (w.alloc (.cells #[.bool lit, .bool nan, .int .u16 (link : Int), .int .u32 (snap : Int)] 31)) w.heap.size #[.bool lit, .bool nan, .int .u16 (link : Int), .int .u32 (snap : Int)] 31 := Blk.new rfl
  have hWB := (Below.refl _ w).alloc (Nat.le_refl _) (.cells #[.bool lit, .bool nan, .int .u16 (link : Int), .int .u32 (snap : Int)] 31)
  have hHB := Lib.hid hWB
  clear hk hs hWB
  go_enter Tryd.func11, Tryd.ntmps11
  go_upto_region 1 with fail
  generalize World.alloc _ _ = W0 at hbx hHB ⊢
  have hc := hbx.four
  go_wp2_with (first
    | (go_at_call 27; refine (HM.out _).mono ?_; rintro e wa ⟨rfl, qa, hba⟩; have owa : Owns wa W0.heap.size _ _ := Owns.of_blk qa (Nat.le_refl _) (mg_len lit nan) (by decide); have hCa := Lib.hid hba; have hc := (Blk.keep hba hbx).four; clear hba qa)
    | (go_at_call_of 31 (Value.int IntKind.u64 2); refine (P2.out _).mono ?_; rintro e wb ⟨rfl, qb, hbb⟩; have hpb := rd_of_blk qb; have owb := owa.keep hbb; have hBb := Lib.hid (keepW hCa.out hbb); clear hbb qb owa hCa hc)
    | (at_builtin; refine at_app rfl _ _ rfl W0.heap.size _ _ rfl owb _ 2 2 _ rfl hpb (bytesF_len _ _ _) (by simp only [mg_len]; omega) W0 hBb.out (Nat.le_refl _) ?_; intro vc wc owc hbc; have hCc := Lib.hid hbc; have hc := (Blk.keep hbc hbx).four; clear hbc owb hpb hBb)
    | (go_at_call_of 31 (Value.int IntKind.u64 4); refine (P3.out _).mono ?_; rintro e wd ⟨rfl, qd, hbd⟩; have hpd := rd_of_blk qd; have owd := owc.keep hbd; have hBd := Lib.hid (keepW hCc.out hbd); clear hbd qd owc hCc hc)
    | (at_builtin; refine at_app rfl _ _ rfl W0.heap.size _ _ rfl owd _ 2 2 _ rfl hpd (bytesF_len _ _ _) (by simp only [List.length_append, bytesF_len, mg_len]; omega) W0 hBd.out (Nat.le_refl _) ?_; intro ve we owe hbe; have hCe := Lib.hid hbe; have hc := (Blk.keep hbe hbx).four; clear hbe owd hpd hBd)
    | (at_builtin; refine at_app rfl _ _ rfl W0.heap.size _ _ rfl (owe.keep ((Below.refl _ _).alloc (Nat.le_refl _) _)) _ 8 8 (List.replicate 8 0) rfl (rd_of_blk (T := 5) (l := List.replicate 8 0) (Blk.new rfl)) (List.length_replicate) (by simp only [List.length_append, bytesF_len, mg_len]; omega) W0 (keepR hCe.out) (Nat.le_refl _) ?_; intro vf wf owf hbf; have hCf := Lib.hid hbf; have hc := (Blk.keep hbf hbx).four; clear hbf owe)
    | (go_at_call_of 31 (Value.int IntKind.u64 (snap : Int)); refine (P5.out _).mono ?_; rintro e wg ⟨rfl, qg, hbg⟩; have hpg := rd_of_blk qg; have owg := owf.keep hbg; have hBg := Lib.hid (keepW hCf.out hbg); clear hbg qg owf hCf hc)
    | (at_builtin; refine at_app rfl _ _ rfl W0.heap.size _ _ rfl owg _ 4 4 _ rfl hpg (bytesF_len _ _ _) (by simp only [List.length_append, bytesF_len, mg_len, List.length_replicate]; omega) W0 hBg.out (Nat.le_refl _) ?_; intro vh wh owh hbh; have hCh := Lib.hid hbh; have hc := (Blk.keep hbh hbx).four; clear hbh owg hpg hBg)
    | (go_at_call_of 31 (Value.int IntKind.u64 (link : Int)); refine (P6.out _).mono ?_; rintro e wi ⟨rfl, qi, hbi⟩; have hpi := rd_of_blk qi; have owi := owh.keep hbi; have hBi := Lib.hid (keepW hCh.out hbi); clear hbi qi owh hCh hc)
    | (at_builtin; refine at_app rfl _ _ rfl W0.heap.size _ _ rfl owi _ 4 4 _ rfl hpi (bytesF_len _ _ _) (by simp only [List.length_append, bytesF_len, mg_len, List.length_replicate]; omega) W0 hBi.out (Nat.le_refl _) ?_; intro vj wj owj hbj; have hCj := Lib.hid hbj; have hc := (Blk.keep hbj hbx).four; clear hbj owi hpi hBi))
  obtain ⟨A, c, hv, hcl, hr⟩ := owj.rd
  have hl : (mg lit nan ++ bytesF lit 2 2 ++ bytesF lit 2 4 ++ List.replicate 8 0 ++ bytesF lit 4 snap ++ bytesF lit 4 link) = bytesH lit nan link snap := by
    rw [app_z lit]; unfold bytesH; simp only [List.append_assoc]
  rw [hl] at hv hr
  rw [bytesH_len] at hv
  subst hv
  go_ret
  exact ⟨A, c, rfl, hr, hHB.out.trans (hCj.out.mono hHB.out.size)⟩
end Go.Proofs.YtecmhjhjmhliiaaDoor


/-
  Pcap: begins, by the table of magic numbers.
-/

namespace Go.Proofs.YtecmhjhjmhliiaaDoor

open Go.RowKit Go.Lib

set_option maxRecDepth 100000

/-- The table of magic numbers. -/
def MagT (w : World) : Prop := w.cell? ⟨0, 0, none⟩ = some (.int .u32 2712847316) ∧ w.cell? ⟨0, 1, none⟩ = some (.int .u32 2712812621) ∧ w.cell? ⟨0, 2, none⟩ = some (.int .u32 3569595041) ∧ w.cell? ⟨0, 3, none⟩ = some (.int .u32 1295823521)
theorem MagT.below {w w' : World} (h : MagT w) (hb : Below w.heap.size w w') : MagT w' := by
  have hl := World.block_lt_of_cell? _ _ h.1
  exact ⟨(hb.cell (p := ⟨0, 0, none⟩) hl).trans h.1, (hb.cell (p := ⟨0, 1, none⟩) hl).trans h.2.1, (hb.cell (p := ⟨0, 2, none⟩) hl).trans h.2.2.1, (hb.cell (p := ⟨0, 3, none⟩) hl).trans h.2.2.2⟩
def BegR (w : World) (l : List UInt8) (i : Value) (wr : World) : Prop := ∃ k : Nat, k ≤ 4 ∧ i = .int .i64 k ∧ Below w.heap.size w wr ∧
  (0 < k → pre l (mg false false) = false) ∧ (1 < k → pre l (mg false true) = false) ∧ (2 < k → pre l (mg true false) = false) ∧ (3 < k → pre l (mg true true) = false)
theorem run_idx0 (a b c d : Value) (w : World) : (Instr.index 46 (.agg #[a, b, c, d]) (.int .i64 0)).run Tryd.prog w = .ok a w := by kernel_rfl
theorem run_idx1 (a b c d : Value) (w : World) : (Instr.index 46 (.agg #[a, b, c, d]) (.int .i64 1)).run Tryd.prog w = .ok b w := by kernel_rfl
theorem run_idx2 (a b c d : Value) (w : World) : (Instr.index 46 (.agg #[a, b, c, d]) (.int .i64 2)).run Tryd.prog w = .ok c w := by kernel_rfl
theorem run_idx3 (a b c d : Value) (w : World) : (Instr.index 46 (.agg #[a, b, c, d]) (.int .i64 3)).run Tryd.prog w = .ok d w := by kernel_rfl
set_option maxHeartbeats 8000000 in
theorem begins_any (A : Option Addr) (l : List UInt8) (cap : Nat) (hc : l.length ≤ cap) (hlen : l.length ≤ 4611686018427387904) (w : World) (hr : Rd w A l) (hT : MagT w) :
    Calls Tryd.prog 24 #[.slice A l.length cap] w fun e w' => e = .returned (.bool (begF l)) ∧ Below w.heap.size w w' := by
  obtain ⟨E, hE⟩ : ∃ E, (l.take 4).length = E := ⟨_, rfl⟩
  have hE2 : E = min 4 l.length := by rw [← hE, List.length_take]
  obtain ⟨A0, hrun, hrd⟩ := upto_cut A l cap E (by omega) hc
  have hle : l.take E = l.take 4 := by rw [hE2, List.take_eq_take_iff]; omega
  rw [hle] at hrd
  have HR := Lib.hid (fun w' hb => hrd w' (hr.below (w' := w') hb))
  have HP := Lib.hid (fun (g : Nat) (m : List UInt8) (hm : m.length = 4) (w' : World) (h1 : RdB w' g m) (hb : Below w.heap.size w w') => by
    have h := prefix_any (some ⟨g, 0, none⟩) A0 m (l.take 4) 4 cap (by omega) w' h1.rd (HR.out w' hb)
    rw [hm, hE] at h
    exact h)
  have hpre : ∀ m, decide (m.take E = l.take 4) = pre l m := fun m => by unfold pre; rw [hE]
  have P0 := Lib.hid (fun w => put_first none 0 false 2712847316 (by decide) 4 (by decide) (by decide) w (mg false false) (mg_turn false false))
  have P1 := Lib.hid (fun w => put_first none 0 false 2712812621 (by decide) 4 (by decide) (by decide) w (mg false true) (mg_turn false true))
  have P2 := Lib.hid (fun w => put_first none 0 false 3569595041 (by decide) 4 (by decide) (by decide) w (mg true false) (mg_turn true false))
  have P3 := Lib.hid (fun w => put_first none 0 false 1295823521 (by decide) 4 (by decide) (by decide) w (mg true true) (mg_turn true true))
  have HPRE := Lib.hid hpre
  have HBEG := Lib.hid (show begF l = (pre l (mg false false) || (pre l (mg false true) || (pre l (mg true false) || pre l (mg true true)))) from rfl)
  have hmin : min (l.length : Int) 4 = (E : Int) := by omega
  unfold MagT at hT
  generalize l.length = len at *
  clear hE hE2 hle hrd hr hpre
  go_enter Tryd.func24, Tryd.ntmps24
  go_wp2
  clear hT hmin hrun
  go_loopw [12] (fun i wr => BegR w l i wr) (fun i _ => 4 - (RowKit.intOf i).toNat)
  case atStart => exact ⟨0, by omega, rfl, Below.refl _ _, by omega, by omega, by omega, by omega⟩
  case round =>
    obtain ⟨wo, rfl⟩ : ∃ wo : World, wo = wr := ⟨_, rfl⟩
    obtain ⟨k, hk, rfl, hbe, h0, h1, h2, h3⟩ := hrel
    have HBE := Lib.hid hbe
    clear hbe
    rcases (by omega : k = 0 ∨ k = 1 ∨ k = 2 ∨ k = 3 ∨ k = 4) with rfl | rfl | rfl | rfl | rfl
    · skip
      rw [show ((0 : Nat) : Int) = 0 from rfl]
      obtain ⟨p, hp⟩ : ∃ p, pre l (mg false false) = p := ⟨_, rfl⟩
      have HPK := Lib.hid (fun (g : Nat) (w' : World) (h1 : RdB w' g (mg false false)) (hb : Below w.heap.size w w') => by have h := HP.out g (mg false false) (mg_len _ _) w' h1 hb; rw [HPRE.out, hp] at h; exact h)
      have H0 := Lib.hid h0; have H1 := Lib.hid h1; have H2 := Lib.hid h2; have H3 := Lib.hid h3
      have HPP := Lib.hid hp
      clear h0 h1 h2 h3 hp
      have hix := run_idx0 (.int .u32 2712847316) (.int .u32 2712812621) (.int .u32 3569595041) (.int .u32 1295823521)
      have hfld := run_fieldB
      cases p
      · go_wp2_with (first
          | (go_at_call 29; refine (P0.out _).mono ?_; rintro e w2 ⟨g, rfl, hr2, _, hb2⟩; have HR2 := Lib.hid hr2; have HB2 := Lib.hid (keepW HBE.out hb2); clear hb2 hr2)
          | (go_at_call 41; refine (HPK.out _ _ HR2.out HB2.out).mono ?_; rintro e w' ⟨rfl, rfl⟩))
        go_roundw
        case rel => exact ⟨0 + 1, by omega, rfl, HB2.out, fun _ => by first | exact HPP.out | exact H0.out (by omega), fun _ => by first | exact HPP.out | exact H1.out (by omega) | omega, fun _ => by first | exact HPP.out | exact H2.out (by omega) | omega, fun _ => by first | exact HPP.out | exact H3.out (by omega) | omega⟩
        case measure => decide
      · have hf : begF l = true := (begF_iff l).2 ⟨false, false, HPP.out⟩
        go_wp2_with (first
          | (go_at_call 29; refine (P0.out _).mono ?_; rintro e w2 ⟨g, rfl, hr2, _, hb2⟩; have HR2 := Lib.hid hr2; have HB2 := Lib.hid (keepW HBE.out hb2); clear hb2 hr2)
          | (go_at_call 41; refine (HPK.out _ _ HR2.out HB2.out).mono ?_; rintro e w' ⟨rfl, rfl⟩))
        go_ret
        exact ⟨by rw [hf]; rfl, HB2.out⟩
    · skip
      rw [show ((1 : Nat) : Int) = 1 from rfl]
      obtain ⟨p, hp⟩ : ∃ p, pre l (mg false true) = p := ⟨_, rfl⟩
      have HPK := Lib.hid (fun (g : Nat) (w' : World) (h1 : RdB w' g (mg false true)) (hb : Below w.heap.size w w') => by have h := HP.out g (mg false true) (mg_len _ _) w' h1 hb; rw [HPRE.out, hp] at h; exact h)
      have H0 := Lib.hid h0; have H1 := Lib.hid h1; have H2 := Lib.hid h2; have H3 := Lib.hid h3
      have HPP := Lib.hid hp
      clear h0 h1 h2 h3 hp
      have hix := run_idx1 (.int .u32 2712847316) (.int .u32 2712812621) (.int .u32 3569595041) (.int .u32 1295823521)
      have hfld := run_fieldB
      cases p
      · go_wp2_with (first
          | (go_at_call 29; refine (P1.out _).mono ?_; rintro e w2 ⟨g, rfl, hr2, _, hb2⟩; have HR2 := Lib.hid hr2; have HB2 := Lib.hid (keepW HBE.out hb2); clear hb2 hr2)
          | (go_at_call 41; refine (HPK.out _ _ HR2.out HB2.out).mono ?_; rintro e w' ⟨rfl, rfl⟩))
        go_roundw
        case rel => exact ⟨1 + 1, by omega, rfl, HB2.out, fun _ => by first | exact HPP.out | exact H0.out (by omega), fun _ => by first | exact HPP.out | exact H1.out (by omega) | omega, fun _ => by first | exact HPP.out | exact H2.out (by omega) | omega, fun _ => by first | exact HPP.out | exact H3.out (by omega) | omega⟩
        case measure => decide
      · have hf : begF l = true := (begF_iff l).2 ⟨false, true, HPP.out⟩
        go_wp2_with (first
          | (go_at_call 29; refine (P1.out _).mono ?_; rintro e w2 ⟨g, rfl, hr2, _, hb2⟩; have HR2 := Lib.hid hr2; have HB2 := Lib.hid (keepW HBE.out hb2); clear hb2 hr2)
          | (go_at_call 41; refine (HPK.out _ _ HR2.out HB2.out).mono ?_; rintro e w' ⟨rfl, rfl⟩))
        go_ret
        exact ⟨by rw [hf]; rfl, HB2.out⟩
    · skip
      rw [show ((2 : Nat) : Int) = 2 from rfl]
      obtain ⟨p, hp⟩ : ∃ p, pre l (mg true false) = p := ⟨_, rfl⟩
      have HPK := Lib.hid (fun (g : Nat) (w' : World) (h1 : RdB w' g (mg true false)) (hb : Below w.heap.size w w') => by have h := HP.out g (mg true false) (mg_len _ _) w' h1 hb; rw [HPRE.out, hp] at h; exact h)
      have H0 := Lib.hid h0; have H1 := Lib.hid h1; have H2 := Lib.hid h2; have H3 := Lib.hid h3
      have HPP := Lib.hid hp
      clear h0 h1 h2 h3 hp
      have hix := run_idx2 (.int .u32 2712847316) (.int .u32 2712812621) (.int .u32 3569595041) (.int .u32 1295823521)
      have hfld := run_fieldB
      cases p
      · go_wp2_with (first
          | (go_at_call 29; refine (P2.out _).mono ?_; rintro e w2 ⟨g, rfl, hr2, _, hb2⟩; have HR2 := Lib.hid hr2; have HB2 := Lib.hid (keepW HBE.out hb2); clear hb2 hr2)
          | (go_at_call 41; refine (HPK.out _ _ HR2.out HB2.out).mono ?_; rintro e w' ⟨rfl, rfl⟩))
        go_roundw
        case rel => exact ⟨2 + 1, by omega, rfl, HB2.out, fun _ => by first | exact HPP.out | exact H0.out (by omega), fun _ => by first | exact HPP.out | exact H1.out (by omega) | omega, fun _ => by first | exact HPP.out | exact H2.out (by omega) | omega, fun _ => by first | exact HPP.out | exact H3.out (by omega) | omega⟩
        case measure => decide
      · have hf : begF l = true := (begF_iff l).2 ⟨true, false, HPP.out⟩
        go_wp2_with (first
          | (go_at_call 29; refine (P2.out _).mono ?_; rintro e w2 ⟨g, rfl, hr2, _, hb2⟩; have HR2 := Lib.hid hr2; have HB2 := Lib.hid (keepW HBE.out hb2); clear hb2 hr2)
          | (go_at_call 41; refine (HPK.out _ _ HR2.out HB2.out).mono ?_; rintro e w' ⟨rfl, rfl⟩))
        go_ret
        exact ⟨by rw [hf]; rfl, HB2.out⟩
    · skip
      rw [show ((3 : Nat) : Int) = 3 from rfl]
      obtain ⟨p, hp⟩ : ∃ p, pre l (mg true true) = p := ⟨_, rfl⟩
      have HPK := Lib.hid (fun (g : Nat) (w' : World) (h1 : RdB w' g (mg true true)) (hb : Below w.heap.size w w') => by have h := HP.out g (mg true true) (mg_len _ _) w' h1 hb; rw [HPRE.out, hp] at h; exact h)
      have H0 := Lib.hid h0; have H1 := Lib.hid h1; have H2 := Lib.hid h2; have H3 := Lib.hid h3
      have HPP := Lib.hid hp
      clear h0 h1 h2 h3 hp
      have hix := run_idx3 (.int .u32 2712847316) (.int .u32 2712812621) (.int .u32 3569595041) (.int .u32 1295823521)
      have hfld := run_fieldB
      cases p
      · go_wp2_with (first
          | (go_at_call 29; refine (P3.out _).mono ?_; rintro e w2 ⟨g, rfl, hr2, _, hb2⟩; have HR2 := Lib.hid hr2; have HB2 := Lib.hid (keepW HBE.out hb2); clear hb2 hr2)
          | (go_at_call 41; refine (HPK.out _ _ HR2.out HB2.out).mono ?_; rintro e w' ⟨rfl, rfl⟩))
        go_roundw
        case rel => exact ⟨3 + 1, by omega, rfl, HB2.out, fun _ => by first | exact HPP.out | exact H0.out (by omega), fun _ => by first | exact HPP.out | exact H1.out (by omega) | omega, fun _ => by first | exact HPP.out | exact H2.out (by omega) | omega, fun _ => by first | exact HPP.out | exact H3.out (by omega) | omega⟩
        case measure => decide
      · have hf : begF l = true := (begF_iff l).2 ⟨true, true, HPP.out⟩
        go_wp2_with (first
          | (go_at_call 29; refine (P3.out _).mono ?_; rintro e w2 ⟨g, rfl, hr2, _, hb2⟩; have HR2 := Lib.hid hr2; have HB2 := Lib.hid (keepW HBE.out hb2); clear hb2 hr2)
          | (go_at_call 41; refine (HPK.out _ _ HR2.out HB2.out).mono ?_; rintro e w' ⟨rfl, rfl⟩))
        go_ret
        exact ⟨by rw [hf]; rfl, HB2.out⟩
    · rw [show ((4 : Nat) : Int) = 4 from rfl]
      have hf : begF l = false := by rw [HBEG.out, h0 (by omega), h1 (by omega), h2 (by omega), h3 (by omega)]; rfl
      clear h0 h1 h2 h3
      go_wp2
      go_ret
      exact ⟨by rw [hf]; rfl, HBE.out⟩
end Go.Proofs.YtecmhjhjmhliiaaDoor


/-
  Pcap: Open.
-/

namespace Go.Proofs.YtecmhjhjmhliiaaDoor

open Go.RowKit Go.Lib

set_option maxRecDepth 100000

theorem mag_any (A : Option Addr) (l : List UInt8) (cap : Nat) (hc : l.length ≤ cap) (hlen : l.length ≤ 4611686018427387904) (w : World) (hr : Rd w A l) :
    Calls Tryd.prog 14 #[.slice A l.length cap] w fun e w' => e = .returned (.tuple #[fileV (mLit (magN l)) (mNan (magN l)) 0 0, .bool (mIs (magN l))]) ∧ Below w.heap.size w w' :=
  mag_go A l.length cap (magN l) w _ _ _ rfl rfl rfl fun w' hb => u32_any A l cap false 0 (by decide) hc hlen w' (hr.below hb)
set_option maxHeartbeats 8000000 in
theorem open_any (A : Option Addr) (l : List UInt8) (cap : Nat) (hc : l.length ≤ cap) (hlen : l.length ≤ 4611686018427387904) (w : World) (hr : Rd w A l) (hT : MagT w) :
    Calls Tryd.prog 8 #[.slice A l.length cap] w fun e w' => e = .returned (openV (openF l)) ∧ Below w.heap.size w w' := by
  have HMg := Lib.hid (fun w' hb => mag_any A l cap hc hlen w' (hr.below (w' := w') hb))
  have HBg := Lib.hid (fun w' hb => begins_any A l cap hc hlen w' (hr.below (w' := w') hb) (hT.below hb))
  obtain ⟨lit, hlit⟩ : ∃ b, mLit (magN l) = b := ⟨_, rfl⟩
  obtain ⟨nan, hnan⟩ : ∃ b, mNan (magN l) = b := ⟨_, rfl⟩
  obtain ⟨is, his⟩ : ∃ b, mIs (magN l) = b := ⟨_, rfl⟩
  obtain ⟨beg, hbeg⟩ : ∃ b, begF l = b := ⟨_, rfl⟩
  have HU16 := Lib.hid (fun w' hb => u16_any A l cap lit 4 (by decide) hc hlen w' (hr.below (w' := w') hb))
  have HS16 := Lib.hid (fun w' hb => u32_any A l cap lit 16 (by decide) hc hlen w' (hr.below (w' := w') hb))
  have HS20 := Lib.hid (fun w' hb => u32_any A l cap lit 20 (by decide) hc hlen w' (hr.below (w' := w') hb))
  have hO : openF l = if beg = true then (if l.length < 24 then noF 121 else openL lit nan l) else noF 120 := by unfold openF; rw [hbeg, hlit, hnan]
  have hOL : openL lit nan l = if getN lit l 4 2 = 2 then ⟨lit, nan, getN lit l 20 4 % 65536, getN lit l 16 4, 0⟩ else noF 125 := rfl
  have h20 : getN lit l 20 4 < 4294967296 := getN_le lit l 20 4
  rw [hlit, hnan, his] at HMg
  rw [hbeg] at HBg
  rw [hO, hOL]
  generalize getN lit l 4 2 = n4 at *
  generalize getN lit l 16 4 = n16 at *
  generalize getN lit l 20 4 = n20 at *
  clear hlit hnan his hbeg hr hT hO hOL
  generalize l.length = len at *
  have hcI : (len : Int) ≤ (cap : Int) := by omega
  cases beg
  · rw [if_neg (by decide)]
    clear h20
    go_enter Tryd.func8, Tryd.ntmps8
    go_wp2_with (first | (go_at_call 14; refine (HMg.out _ ((Below.refl _ w).alloc (Nat.le_refl _) _)).mono ?_; rintro e w1 ⟨rfl, hb1⟩; have HB1 := Lib.hid (keepA hb1 (Below.refl _ _)); have HS2 := Lib.hid (Blk.keep hb1 (Blk.new rfl)); have HNE := Lib.hid (Nat.ne_of_lt HS2.out.lt); clear hb1) | (go_at_call 24; refine (HBg.out _ (keepR (keepR HB1.out))).mono ?_; rintro e w2 ⟨rfl, hb2⟩; have HB2 := Lib.hid (keepW (keepR (keepR HB1.out)) hb2); have k2 := Blk.keep hb2 ((HS2.out.old _).old _); have k4 : Blk w2 w1.heap.size _ 26 := Blk.keep hb2 ((Blk.new (b := w1.heap.size) rfl).old _); have k6 : Blk w2 (w1.heap.size + 1) _ 63 := Blk.keep hb2 (Blk.new (b := w1.heap.size + 1) (by simp)); have hc2 := k2.four; have hf2 := k2.fre4; have hc4 := k4.four; have hc6 := k6.two; clear hb2))
    apply post_row2 Tryd.results8 Tryd.underlying26 rfl w.heap.size 26 (x := .int .i64 120)
    case hg =>
      repeat (first | with_reducible exact k2 | apply Blk.put)
    case h =>
      refine And.intro (by kernel_rfl) ?_
      repeat (first | with_reducible exact HB2.out | with_reducible refine Below.at ?_ (Nat.le_refl _))
    all_goals kernel_rfl
  · rw [if_pos rfl]
    by_cases h24 : len < 24
    · rw [if_pos h24]
      have h24I : (len : Int) < 24 := by omega
      clear h20 h24
      go_enter Tryd.func8, Tryd.ntmps8
      go_wp2_with (first | (go_at_call 14; refine (HMg.out _ ((Below.refl _ w).alloc (Nat.le_refl _) _)).mono ?_; rintro e w1 ⟨rfl, hb1⟩; have HB1 := Lib.hid (keepA hb1 (Below.refl _ _)); have HS2 := Lib.hid (Blk.keep hb1 (Blk.new rfl)); have HNE := Lib.hid (Nat.ne_of_lt HS2.out.lt); clear hb1) | (go_at_call 24; refine (HBg.out _ (keepR (keepR HB1.out))).mono ?_; rintro e w2 ⟨rfl, hb2⟩; have HB2 := Lib.hid (keepW (keepR (keepR HB1.out)) hb2); have k2 := Blk.keep hb2 ((HS2.out.old _).old _); have k4 : Blk w2 w1.heap.size _ 26 := Blk.keep hb2 ((Blk.new (b := w1.heap.size) rfl).old _); have k6 : Blk w2 (w1.heap.size + 1) _ 63 := Blk.keep hb2 (Blk.new (b := w1.heap.size + 1) (by simp)); have hc2 := k2.four; have hf2 := k2.fre4; have hc4 := k4.four; have hc6 := k6.two; clear hb2))
      apply post_row2 Tryd.results8 Tryd.underlying26 rfl w.heap.size 26 (x := .int .i64 121)
      case hg =>
        repeat (first | with_reducible exact k2 | apply Blk.put)
      case h =>
        refine And.intro (by kernel_rfl) ?_
        repeat (first | with_reducible exact HB2.out | with_reducible refine Below.at ?_ (Nat.le_refl _))
      all_goals kernel_rfl
    · rw [if_neg h24]
      have h24I : ¬ (len : Int) < 24 := by omega
      clear h24
      by_cases h4 : n4 = 2
      · subst h4
        rw [if_pos rfl]
        have hw16 : IntKind.u16.wrap (n20 : Int) = ((n20 % 65536 : Nat) : Int) := by rw [IntKind.wrap_u16]; omega
        generalize n20 % 65536 = m20 at *
        clear h20
        go_enter Tryd.func8, Tryd.ntmps8
        go_wp2_with (first | (go_at_call 14; refine (HMg.out _ ((Below.refl _ w).alloc (Nat.le_refl _) _)).mono ?_; rintro e w1 ⟨rfl, hb1⟩; have HB1 := Lib.hid (keepA hb1 (Below.refl _ _)); have HS2 := Lib.hid (Blk.keep hb1 (Blk.new rfl)); have HNE := Lib.hid (Nat.ne_of_lt HS2.out.lt); clear hb1) | (go_at_call 24; refine (HBg.out _ (keepR (keepR HB1.out))).mono ?_; rintro e w2 ⟨rfl, hb2⟩; have HB2 := Lib.hid (keepW (keepR (keepR HB1.out)) hb2); have k2 := Blk.keep hb2 ((HS2.out.old _).old _); have k4 : Blk w2 w1.heap.size _ 26 := Blk.keep hb2 ((Blk.new (b := w1.heap.size) rfl).old _); have k6 : Blk w2 (w1.heap.size + 1) _ 63 := Blk.keep hb2 (Blk.new (b := w1.heap.size + 1) (by simp)); have hc2 := k2.four; have hf2 := k2.fre4; have hc4 := k4.four; have hc6 := k6.two; clear hb2) | (go_at_call 25; refine (HU16.out _ HB2.out).mono ?_; rintro e w3 ⟨rfl, hb3⟩; have HB3 := Lib.hid (keepW HB2.out hb3); have k23 := Blk.keep hb3 k2; have k43 := Blk.keep hb3 k4; have k63 := Blk.keep hb3 k6; clear hc2 hf2 hc4 hc6 k2 k4 k6 hb3; have hc2 := k23.four; have hf2 := k23.fre4; have hc4 := k43.four; have hc6 := k63.two) | (go_at_call_of 26 (Value.int IntKind.i64 16); refine (HS16.out _ HB3.out).mono ?_; rintro e w4 ⟨rfl, hb4⟩; have HB4 := Lib.hid (keepW HB3.out hb4); have k24 := Blk.keep hb4 k23; have k44 := Blk.keep hb4 k43; have k64 := Blk.keep hb4 k63; clear hc2 hf2 hc4 hc6 k23 k43 k63 hb4; have hc6 := k64.two; have hc4 := k44.four; have hf4 := k44.fre4) | (go_at_call 26; refine (HS20.out _ (Below.at HB4.out HB1.out.size)).mono ?_; rintro e w5 ⟨rfl, hb5⟩; have HB5 := Lib.hid (keepW (Below.at HB4.out HB1.out.size) hb5); have k25 := Blk.keep hb5 (Blk.else (a := ⟨w1.heap.size, 3, none⟩) k24 (.int .u32 (n16 : Int)) HNE.out); have k45 : Blk w5 w1.heap.size #[.bool lit, .bool nan, .int .u16 0, .int .u32 (n16 : Int)] 26 := Blk.keep hb5 (Blk.put k44 (i := 3) (.int .u32 (n16 : Int))); clear hc4 hf4 hc6 k24 k44 k64 hb5; have hc2 := k25.four; have hf2 := k25.fre4; have hc4 := k45.four; have hf4 := k45.fre4; have hne1 := HNE.out; have hne2 := HNE.out.symm))
        apply post_row2 Tryd.results8 Tryd.underlying26 rfl w.heap.size 26 (x := .int .i64 0)
        case hg =>
          repeat (first | with_reducible exact k25 | apply Blk.put | apply Blk.else (a := ⟨w1.heap.size, 2, none⟩) (hb := HNE.out))
        case h =>
          refine And.intro (by kernel_rfl) ?_
          repeat (first | with_reducible exact HB5.out | with_reducible refine Below.at ?_ (Nat.le_refl _) | refine Below.at ?_ HB1.out.size)
        all_goals kernel_rfl
      · rw [if_neg h4]
        have h4I : ¬ (n4 : Int) = 2 := by omega
        clear h20 h4
        go_enter Tryd.func8, Tryd.ntmps8
        go_wp2_with (first | (go_at_call 14; refine (HMg.out _ ((Below.refl _ w).alloc (Nat.le_refl _) _)).mono ?_; rintro e w1 ⟨rfl, hb1⟩; have HB1 := Lib.hid (keepA hb1 (Below.refl _ _)); have HS2 := Lib.hid (Blk.keep hb1 (Blk.new rfl)); have HNE := Lib.hid (Nat.ne_of_lt HS2.out.lt); clear hb1) | (go_at_call 24; refine (HBg.out _ (keepR (keepR HB1.out))).mono ?_; rintro e w2 ⟨rfl, hb2⟩; have HB2 := Lib.hid (keepW (keepR (keepR HB1.out)) hb2); have k2 := Blk.keep hb2 ((HS2.out.old _).old _); have k4 : Blk w2 w1.heap.size _ 26 := Blk.keep hb2 ((Blk.new (b := w1.heap.size) rfl).old _); have k6 : Blk w2 (w1.heap.size + 1) _ 63 := Blk.keep hb2 (Blk.new (b := w1.heap.size + 1) (by simp)); have hc2 := k2.four; have hf2 := k2.fre4; have hc4 := k4.four; have hc6 := k6.two; clear hb2) | (go_at_call 25; refine (HU16.out _ HB2.out).mono ?_; rintro e w3 ⟨rfl, hb3⟩; have HB3 := Lib.hid (keepW HB2.out hb3); have k23 := Blk.keep hb3 k2; have k43 := Blk.keep hb3 k4; have k63 := Blk.keep hb3 k6; clear hc2 hf2 hc4 hc6 k2 k4 k6 hb3; have hc2 := k23.four; have hf2 := k23.fre4; have hc4 := k43.four; have hc6 := k63.two))
        apply post_row2 Tryd.results8 Tryd.underlying26 rfl w.heap.size 26 (x := .int .i64 125)
        case hg =>
          repeat (first | with_reducible exact k23 | apply Blk.put)
        case h =>
          refine And.intro (by kernel_rfl) ?_
          repeat (first | with_reducible exact HB3.out | with_reducible refine Below.at ?_ (Nat.le_refl _))
        all_goals kernel_rfl
end Go.Proofs.YtecmhjhjmhliiaaDoor
