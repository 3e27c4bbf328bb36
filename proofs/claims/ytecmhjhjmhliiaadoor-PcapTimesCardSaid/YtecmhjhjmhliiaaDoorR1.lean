/-
  Own texts, merged: PdN
-/
import Derived.Test.YtecmhjhjmhliiaaDoorQ9

/-
  PcapTimes: the law's walk.
-/

namespace Go.Proofs.YtecmhjhjmhliiaaDoor

open Go.RowKit Go.Lib

set_option maxRecDepth 100000

set_option maxHeartbeats 4000000 in
theorem pcapTimes_walk (lit nan : Bool) (link snap : Nat) (_ : link ≤ 65535) (_ : snap ≤ 4294967295) (s p c l : Nat) (hs : s ≤ 4294967295) (hp : p ≤ 4294967295) (_ : c ≤ 4294967295) (_ : l ≤ 4294967295) (n : Int) (hn : InR n) (w : World) (hT : MagT w) :
    Calls Tryd.prog 5 #[fileV lit nan link snap, headV s p c l, .agg #[.int .i64 (hi n), .int .u64 (lo n)]] w fun e w' => e = .returned (.bool true) ∧ Below w.heap.size w w' := by
  have HK := Lib.hid (fun w' hb => known8_any w' (hT.below (w' := w') hb))
  have HW := Lib.hid (fun w => when_any lit nan link snap n hn w)
  have HV := Lib.hid (fun w => refWhen_any nan n hn w)
  have HA := Lib.hid (fun w => at_any lit nan link snap s p c l hs hp w)
  have HR := Lib.hid (fun w => refAt_any nan s p hs hp w)
  unfold whenV at HW HV
  unfold wv at HA HR
  generalize hi (atN nan s p) = a1 at *
  generalize lo (atN nan s p) = a2 at *
  generalize whenS n = v1 at *
  generalize whenP nan n = v2 at *
  generalize whenOk n = v3 at *
  generalize hi n = n1 at *
  generalize lo n = n2 at *
  have hHB := Lib.hid ((((Below.refl _ w).alloc (Nat.le_refl _) (.cells #[.bool lit, .bool nan, .int .u16 (link : Int), .int .u32 (snap : Int)] 26)).alloc (by simp) (.cells #[.int .u32 (s : Int), .int .u32 (p : Int), .int .u32 (c : Int), .int .u32 (l : Int)] 43)).alloc (by simp; omega) (.cells #[.int .i64 n1, .int .u64 n2] 52))
  have b1 : Blk (((w.alloc (.cells #[.bool lit, .bool nan, .int .u16 (link : Int), .int .u32 (snap : Int)] 26)).alloc (.cells #[.int .u32 (s : Int), .int .u32 (p : Int), .int .u32 (c : Int), .int .u32 (l : Int)] 43)).alloc (.cells #[.int .i64 n1, .int .u64 n2] 52)) w.heap.size #[.bool lit, .bool nan, .int .u16 (link : Int), .int .u32 (snap : Int)] 26 := ((Blk.new rfl).old _).old _
  have b2 : Blk (((w.alloc (.cells #[.bool lit, .bool nan, .int .u16 (link : Int), .int .u32 (snap : Int)] 26)).alloc (.cells #[.int .u32 (s : Int), .int .u32 (p : Int), .int .u32 (c : Int), .int .u32 (l : Int)] 43)).alloc (.cells #[.int .i64 n1, .int .u64 n2] 52)) (w.heap.size + 1) #[.int .u32 (s : Int), .int .u32 (p : Int), .int .u32 (c : Int), .int .u32 (l : Int)] 43 := (Blk.new (by simp)).old _
  have b3 : Blk (((w.alloc (.cells #[.bool lit, .bool nan, .int .u16 (link : Int), .int .u32 (snap : Int)] 26)).alloc (.cells #[.int .u32 (s : Int), .int .u32 (p : Int), .int .u32 (c : Int), .int .u32 (l : Int)] 43)).alloc (.cells #[.int .i64 n1, .int .u64 n2] 52)) (w.heap.size + 1 + 1) #[.int .i64 n1, .int .u64 n2] 52 := Blk.new (by simp)
  have hsI : (s : Int) ≤ 4294967295 := by omega
  clear hT hs hp hn
  go_enter Tryd.func5, Tryd.ntmps5
  go_upto_region 1 with fail
  generalize World.alloc (World.alloc (World.alloc _ _) _) _ = W0 at hHB b1 b2 b3 ⊢
  go_wp2_with (first
    | (go_at_call 7; refine (HK.out _ hHB.out).mono ?_; rintro e w1 ⟨rfl, hb1⟩; have HB1 := Lib.hid (keepW hHB.out hb1); have k1 := Blk.keep hb1 b1; have k2 := Blk.keep hb1 b2; have k3 := Blk.keep hb1 b3; clear hb1 b1 b2 b3; have hc1 := k1.four; have hc2 := k2.four; have hc3 := k3.two)
    | (go_at_call 18; refine (HW.out _).mono ?_; rintro e w2 ⟨rfl, hb2⟩; have HB2 := Lib.hid (keepW HB1.out hb2); have l1 := Blk.keep hb2 k1; have l2 := Blk.keep hb2 k2; have l3 := Blk.keep hb2 k3; clear hb2 hc1 hc2 hc3 k1 k2 k3; have hc1 := l1.four; have hc2 := l2.four; have hc3 := l3.two)
    | (go_at_call 19; refine (HV.out _).mono ?_; rintro e w3 ⟨rfl, hb3⟩; have HB3 := Lib.hid (keepW HB2.out hb3); have m1 := Blk.keep hb3 l1; have m2 := Blk.keep hb3 l2; clear hb3 hc1 hc2 hc3 l1 l2 l3; have hc1 := m1.four; have hc2 := m2.four))
  refine wp_region_held_drew (S := (fun w' => Blk w' w.heap.size #[.bool lit, .bool nan, .int .u16 (link : Int), .int .u32 (snap : Int)] 26 ∧ Blk w' (w.heap.size + 1) #[.int .u32 (s : Int), .int .u32 (p : Int), .int .u32 (c : Int), .int .u32 (l : Int)] 43 ∧ Below w.heap.size w w')) (by kernel_rfl) ?_ (fun hHeld => ?_)
  · exact ⟨m1.drew, m2.drew, drewB HB3.out⟩
  generalize World.drew _ = wz at hHeld  ⊢
  refine H.take 0 (v := ?_) rfl (by kernel_rfl) (fun _ _ _ h => h) (by rfl) ?_ (by assumption) ?_
  rotate_left
  · (intro wz hSw; (try dsimp only at hSw); have q1 := hSw.1.four; have q2 := hSw.2.1.four;go_simp <;> with_reducible rfl)
  try simp only [Act.put, List.setIfInBounds_toArray, List.set_cons_zero, List.set_cons_succ]
  refine H.take 1 (v := ?_) rfl (by kernel_rfl) (fun _ _ _ h => h) (by rfl) ?_ (by assumption) ?_
  rotate_left
  · (intro wz hSw; (try dsimp only at hSw); have q1 := hSw.1.four; have q2 := hSw.2.1.four;go_simp <;> with_reducible rfl)
  try simp only [Act.put, List.setIfInBounds_toArray, List.set_cons_zero, List.set_cons_succ]
  refine H.take 3 (v := ?_) rfl (by kernel_rfl) (fun _ _ _ h => h) (by rfl) ?_ (by assumption) ?_
  rotate_left
  · (intro wz hSw; (try dsimp only at hSw); have q1 := hSw.1.four; have q2 := hSw.2.1.four;go_simp <;> with_reducible rfl)
  try simp only [Act.put, List.setIfInBounds_toArray, List.set_cons_zero, List.set_cons_succ]
  refine H.take 4 (v := ?_) rfl (by kernel_rfl) (fun _ _ _ h => h) (by rfl) ?_ (by assumption) ?_
  rotate_left
  · (intro wz hSw; (try dsimp only at hSw); have q1 := hSw.1.four; have q2 := hSw.2.1.four;go_simp <;> with_reducible rfl)
  try simp only [Act.put, List.setIfInBounds_toArray, List.set_cons_zero, List.set_cons_succ]
  refine H.take 5 (v := ?_) rfl (by kernel_rfl) (fun _ _ _ h => h) (by rfl) ?_ (by assumption) ?_
  rotate_left
  · (intro wz hSw; (try dsimp only at hSw); have q1 := hSw.1.four; have q2 := hSw.2.1.four;go_simp <;> with_reducible rfl)
  try simp only [Act.put, List.setIfInBounds_toArray, List.set_cons_zero, List.set_cons_succ]
  refine H.take 6 (v := ?_) rfl (by kernel_rfl) (fun _ _ _ h => h) (by rfl) ?_ (by assumption) ?_
  rotate_left
  · (intro wz hSw; (try dsimp only at hSw); have q1 := hSw.1.four; have q2 := hSw.2.1.four;go_simp <;> with_reducible rfl)
  try simp only [Act.put, List.setIfInBounds_toArray, List.set_cons_zero, List.set_cons_succ]
  refine H.take 7 (v := ?_) rfl (by kernel_rfl) (fun _ _ _ h => h) (by rfl) ?_ (by assumption) ?_
  rotate_left
  · (intro wz hSw; (try dsimp only at hSw); have q1 := hSw.1.four; have q2 := hSw.2.1.four;go_simp <;> with_reducible rfl)
  try simp only [Act.put, List.setIfInBounds_toArray, List.set_cons_zero, List.set_cons_succ]
  refine H.take 8 (v := ?_) rfl (by kernel_rfl) (fun _ _ _ h => h) (by rfl) ?_ (by assumption) ?_
  rotate_left
  · (intro wz hSw; (try dsimp only at hSw); have q1 := hSw.1.four; have q2 := hSw.2.1.four;go_simp <;> with_reducible rfl)
  try simp only [Act.put, List.setIfInBounds_toArray, List.set_cons_zero, List.set_cons_succ]
  refine H.ready [2] (by kernel_rfl) (by simp) ?_
  refine H.one rfl (by rfl) (fun K hK => ?_) AllReadyH.nil
  go_simp
  go_at_call 20
  refine (HA.out _).mono ?_
  rintro e wk ⟨rfl, hb⟩
  refine hK.out _ _ ?_ (fun hHeld2 => ?_)
  · exact ⟨hHeld.1.keep hb, hHeld.2.1.keep hb, hHeld.2.2.trans (hb.mono hHeld.2.2.size)⟩
  clear hHeld hK K; have hHeld := hHeld2; clear hHeld2
  clear hb
  try simp only [Act.put, List.setIfInBounds_toArray, List.set_cons_zero, List.set_cons_succ]
  refine H.ready [9] (by kernel_rfl) (by simp) ?_
  refine H.one rfl (by rfl) (fun K hK => ?_) AllReadyH.nil
  go_simp
  go_at_call 21
  refine (HR.out _).mono ?_
  rintro e wk ⟨rfl, hb⟩
  refine hK.out _ _ ?_ (fun hHeld2 => ?_)
  · exact ⟨hHeld.1.keep hb, hHeld.2.1.keep hb, hHeld.2.2.trans (hb.mono hHeld.2.2.size)⟩
  clear hHeld hK K; have hHeld := hHeld2; clear hHeld2
  clear hb
  try simp only [Act.put, List.setIfInBounds_toArray, List.set_cons_zero, List.set_cons_succ]
  refine H.take 10 (v := ?_) rfl (by kernel_rfl) (fun _ _ _ h => h) (by rfl) ?_ (by assumption) ?_
  rotate_left
  · (intro wz hSw; (try dsimp only at hSw); have q1 := hSw.1.four; have q2 := hSw.2.1.four;go_simp <;> with_reducible rfl)
  try simp only [Act.put, List.setIfInBounds_toArray, List.set_cons_zero, List.set_cons_succ]
  refine H.take 11 (v := ?_) rfl (by kernel_rfl) (fun _ _ _ h => h) (by rfl) ?_ (by assumption) ?_
  rotate_left
  · (intro wz hSw; (try dsimp only at hSw); have q1 := hSw.1.four; have q2 := hSw.2.1.four;go_simp <;> with_reducible rfl)
  try simp only [Act.put, List.setIfInBounds_toArray, List.set_cons_zero, List.set_cons_succ]
  refine H.take 12 (v := ?_) rfl (by kernel_rfl) (fun _ _ _ h => h) (by rfl) ?_ (by assumption) ?_
  rotate_left
  · (intro wz hSw; (try dsimp only at hSw); have q1 := hSw.1.four; have q2 := hSw.2.1.four;go_simp <;> with_reducible rfl)
  try simp only [Act.put, List.setIfInBounds_toArray, List.set_cons_zero, List.set_cons_succ]
  refine H.take 13 (v := ?_) rfl (by kernel_rfl) (fun _ _ _ h => h) (by rfl) ?_ (by assumption) ?_
  rotate_left
  · (intro wz hSw; (try dsimp only at hSw); have q1 := hSw.1.four; have q2 := hSw.2.1.four;go_simp <;> with_reducible rfl)
  try simp only [Act.put, List.setIfInBounds_toArray, List.set_cons_zero, List.set_cons_succ]
  refine H.take 14 (v := ?_) rfl (by kernel_rfl) (fun _ _ _ h => h) (by rfl) ?_ (by assumption) ?_
  rotate_left
  · (intro wz hSw; (try dsimp only at hSw); have q1 := hSw.1.four; have q2 := hSw.2.1.four;go_simp <;> with_reducible rfl)
  try simp only [Act.put, List.setIfInBounds_toArray, List.set_cons_zero, List.set_cons_succ]
  refine H.take 15 (v := ?_) rfl (by kernel_rfl) (fun _ _ _ h => h) (by rfl) ?_ (by assumption) ?_
  rotate_left
  · (intro wz hSw; (try dsimp only at hSw); have q1 := hSw.1.four; have q2 := hSw.2.1.four;go_simp <;> with_reducible rfl)
  try simp only [Act.put, List.setIfInBounds_toArray, List.set_cons_zero, List.set_cons_succ]
  refine H.take 16 (v := ?_) rfl (by kernel_rfl) (fun _ _ _ h => h) (by rfl) ?_ (by assumption) ?_
  rotate_left
  · (intro wz hSw; (try dsimp only at hSw); have q1 := hSw.1.four; have q2 := hSw.2.1.four;go_simp <;> with_reducible rfl)
  try simp only [Act.put, List.setIfInBounds_toArray, List.set_cons_zero, List.set_cons_succ]
  refine H.take 17 (v := ?_) rfl (by kernel_rfl) (fun _ _ _ h => h) (by rfl) ?_ (by assumption) ?_
  rotate_left
  · (intro wz hSw; (try dsimp only at hSw); have q1 := hSw.1.four; have q2 := hSw.2.1.four;go_simp <;> with_reducible rfl)
  try simp only [Act.put, List.setIfInBounds_toArray, List.set_cons_zero, List.set_cons_succ]
  refine H.take 18 (v := ?_) rfl (by kernel_rfl) (fun _ _ _ h => h) (by rfl) ?_ (by assumption) ?_
  rotate_left
  · (intro wz hSw; (try dsimp only at hSw); have q1 := hSw.1.four; have q2 := hSw.2.1.four;go_simp <;> with_reducible rfl)
  try simp only [Act.put, List.setIfInBounds_toArray, List.set_cons_zero, List.set_cons_succ]
  refine H.take 19 (v := ?_) rfl (by kernel_rfl) (fun _ _ _ h => h) (by rfl) ?_ (by assumption) ?_
  rotate_left
  · (intro wz hSw; (try dsimp only at hSw); have q1 := hSw.1.four; have q2 := hSw.2.1.four;go_simp <;> with_reducible rfl)
  try simp only [Act.put, List.setIfInBounds_toArray, List.set_cons_zero, List.set_cons_succ]
  refine H.take 20 (v := ?_) rfl (by kernel_rfl) (fun _ _ _ h => h) (by rfl) ?_ (by assumption) ?_
  rotate_left
  · (intro wz hSw; (try dsimp only at hSw); have q1 := hSw.1.four; have q2 := hSw.2.1.four;go_simp <;> with_reducible rfl)
  try simp only [Act.put, List.setIfInBounds_toArray, List.set_cons_zero, List.set_cons_succ]
  refine H.take 21 (v := ?_) rfl (by kernel_rfl) (fun _ _ _ h => h) (by rfl) ?_ (by assumption) ?_
  rotate_left
  · (intro wz hSw; (try dsimp only at hSw); have q1 := hSw.1.four; have q2 := hSw.2.1.four;go_simp <;> with_reducible rfl)
  try simp only [Act.put, List.setIfInBounds_toArray, List.set_cons_zero, List.set_cons_succ]
  refine H.take 22 (v := ?_) rfl (by kernel_rfl) (fun _ _ _ h => h) (by rfl) ?_ (by assumption) ?_
  rotate_left
  · (intro wz hSw; (try dsimp only at hSw); have q1 := hSw.1.four; have q2 := hSw.2.1.four;go_simp <;> with_reducible rfl)
  try simp only [Act.put, List.setIfInBounds_toArray, List.set_cons_zero, List.set_cons_succ]
  refine H.take 23 (v := ?_) rfl (by kernel_rfl) (fun _ _ _ h => h) (by rfl) ?_ (by assumption) ?_
  rotate_left
  · (intro wz hSw; (try dsimp only at hSw); have q1 := hSw.1.four; have q2 := hSw.2.1.four;go_simp <;> with_reducible rfl)
  try simp only [Act.put, List.setIfInBounds_toArray, List.set_cons_zero, List.set_cons_succ]
  refine H.take 24 (v := ?_) rfl (by kernel_rfl) (fun _ _ _ h => h) (by rfl) ?_ (by assumption) ?_
  rotate_left
  · (intro wz hSw; (try dsimp only at hSw); have q1 := hSw.1.four; have q2 := hSw.2.1.four;go_simp <;> with_reducible rfl)
  try simp only [Act.put, List.setIfInBounds_toArray, List.set_cons_zero, List.set_cons_succ]
  refine H.take 25 (v := ?_) rfl (by kernel_rfl) (fun _ _ _ h => h) (by rfl) ?_ (by assumption) ?_
  rotate_left
  · (intro wz hSw; (try dsimp only at hSw); have q1 := hSw.1.four; have q2 := hSw.2.1.four;go_simp <;> with_reducible rfl)
  try simp only [Act.put, List.setIfInBounds_toArray, List.set_cons_zero, List.set_cons_succ]
  refine H.take 26 (v := ?_) rfl (by kernel_rfl) (fun _ _ _ h => h) (by rfl) ?_ (by assumption) ?_
  rotate_left
  · (intro wz hSw; (try dsimp only at hSw); have q1 := hSw.1.four; have q2 := hSw.2.1.four;go_simp <;> with_reducible rfl)
  try simp only [Act.put, List.setIfInBounds_toArray, List.set_cons_zero, List.set_cons_succ]
  refine H.done (by kernel_rfl) ?_ _
  go_wp2
  go_ret
  exact ⟨rfl, hHeld.2.2⟩
end Go.Proofs.YtecmhjhjmhliiaaDoor
