/-
  Own texts, merged: WLeaf WMore WCmp WMul DivM WDiv WDivN WDivW WRoot WClip PC TxC TxD TxE TxF TxG AdA
-/
import Derived.Test.YtmfdnbjmfgljlaaGreatDoorRows
import Derived.Shelf.Spec.BitsCarry
import Derived.Laws.Concat
import Derived.Lib.OthersKept
import Derived.Laws.RangeAny
import Derived.Lib.Join
import Derived.Test.YtmfdnbjmfgljlaaGreatDoorQ3


/-
  Contracts of the small functions of package wide.
-/




namespace Go.Proofs.YtmfdnbjmfgljlaaGreatDoor

set_option maxRecDepth 100000

open Go.RowKit

theorem run_add64 (x y c : Int) (hx : 0 ≤ x) (hy : 0 ≤ y) (hc0 : 0 ≤ c) (hc : c ≤ 1) (w : World) :
    (callFunc 110 #[.int .u64 x, .int .u64 y, .int .u64 c]).run Tryz.prog w =
      .ok (.value (.tuple #[.int .u64 ((x + y + c) % 18446744073709551616), .int .u64 ((x + y + c) / 18446744073709551616)])) w := by
  rw [run_callFunc_extern Tryz.func110 (by kernel_rfl) (by kernel_rfl) (by kernel_rfl) (e := add64Entry) (by kernel_rfl), Go.run_add64 x y c hx hy hc0 hc]
  rfl

set_option maxHeartbeats 400000 in
theorem negative_any (h l : Int) (w : World) :
    Calls Tryz.prog 111 #[.agg #[.int .i64 h, .int .u64 l]] w fun e w' => e = .returned (.bool (decide (h < 0))) ∧ Below w.heap.size w w' := by
  go_enter Tryz.func111, Tryz.ntmps111
  go_wp2
  go_ret
  exact ⟨rfl, (Below.refl _ _).alloc (Nat.le_refl _) _⟩

theorem negative_yes {h : Int} (l : Int) (hh : h < 0) (w : World) :
    Calls Tryz.prog 111 #[.agg #[.int .i64 h, .int .u64 l]] w fun e w' => e = .returned (.bool true) ∧ Below w.heap.size w w' := by
  have := negative_any h l w; rwa [decide_eq_true hh] at this
theorem negative_no {h : Int} (l : Int) (hh : ¬ h < 0) (w : World) :
    Calls Tryz.prog 111 #[.agg #[.int .i64 h, .int .u64 l]] w fun e w' => e = .returned (.bool false) ∧ Below w.heap.size w w' := by
  have := negative_any h l w; rwa [decide_eq_false hh] at this

theorem ret_w {h l h' l' : Int} (e1 : h = h') (e2 : l = l') : Ending.returned (.agg #[.int .i64 h, .int .u64 l]) = .returned (.agg #[.int .i64 h', .int .u64 l']) := by rw [e1, e2]

set_option maxHeartbeats 400000 in
theorem of_any (n : Int) (h0 : -9223372036854775808 ≤ n) (h1 : n ≤ 9223372036854775807) (w : World) :
    Calls Tryz.prog 84 #[.int .i64 n] w fun e w' => e = .returned (.agg #[.int .i64 (hi n), .int .u64 (lo n)]) ∧ Below w.heap.size w w' := by
  go_enter Tryz.func84, Tryz.ntmps84
  go_wp2
  refine bodyPost_ret (v := .agg #[.int .i64 (n / 9223372036854775808), .int .u64 (IntKind.u64.wrap n)]) (by simp [results, Tryz.results84, go_sem]) rfl ⟨?_, (Below.refl _ _).alloc (Nat.le_refl _) _⟩
  refine ret_w (by unfold hi; omega) (by rw [IntKind.wrap_u64]; unfold lo; omega)

set_option maxHeartbeats 400000 in
theorem bound_low (w : World) :
    Calls Tryz.prog 112 #[.bool true] w fun e w' => e = .returned (.agg #[.int .i64 (-9223372036854775808), .int .u64 0]) ∧ Below w.heap.size w w' := by
  go_enter Tryz.func112, Tryz.ntmps112
  go_wp2
  exact bodyPost_ret (v := .agg #[.int .i64 (-9223372036854775808), .int .u64 0]) (by simp [results, Tryz.results112, go_sem]) rfl ⟨rfl, (Below.refl _ _).alloc (Nat.le_refl _) _⟩
set_option maxHeartbeats 400000 in
theorem bound_high (w : World) :
    Calls Tryz.prog 112 #[.bool false] w fun e w' => e = .returned (.agg #[.int .i64 9223372036854775807, .int .u64 18446744073709551615]) ∧ Below w.heap.size w w' := by
  go_enter Tryz.func112, Tryz.ntmps112
  go_wp2
  exact bodyPost_ret (v := .agg #[.int .i64 9223372036854775807, .int .u64 18446744073709551615]) (by simp [results, Tryz.results112, go_sem]) rfl ⟨rfl, (Below.refl _ _).alloc (Nat.le_refl _) _⟩

theorem add_fits {h1 l1 h2 l2 s : Int} (a0 : 0 ≤ l1) (a1 : l1 ≤ 18446744073709551615) (b0 : 0 ≤ l2) (b1 : l2 ≤ 18446744073709551615)
    (c0 : -9223372036854775808 ≤ h1) (c1 : h1 ≤ 9223372036854775807) (d0 : -9223372036854775808 ≤ h2) (d1 : h2 ≤ 9223372036854775807)
    (hs : wrap64 (wrap64 (h1 + h2) + (l1 + l2) / 18446744073709551616) = s) (h : (h1 < 0 ∧ 0 ≤ h2) ∨ (0 ≤ h1 ∧ h2 < 0) ∨ (h1 < 0 ∧ h2 < 0 ∧ s < 0) ∨ (0 ≤ h1 ∧ 0 ≤ h2 ∧ 0 ≤ s)) :
    s = hi (clamp (h1 * 18446744073709551616 + l1 + (h2 * 18446744073709551616 + l2))) ∧ (l1 + l2) % 18446744073709551616 = lo (clamp (h1 * 18446744073709551616 + l1 + (h2 * 18446744073709551616 + l2))) := by
  simp only [wrap64] at hs
  rw [clamp_of (by unfold InR; omega)]
  unfold hi lo; omega
theorem add_low {h1 l1 h2 l2 s : Int} (a0 : 0 ≤ l1) (a1 : l1 ≤ 18446744073709551615) (b0 : 0 ≤ l2) (b1 : l2 ≤ 18446744073709551615)
    (c0 : -9223372036854775808 ≤ h1) (d0 : -9223372036854775808 ≤ h2)
    (hs : wrap64 (wrap64 (h1 + h2) + (l1 + l2) / 18446744073709551616) = s) (g1 : h1 < 0) (g2 : h2 < 0) (g3 : 0 ≤ s) :
    -9223372036854775808 = hi (clamp (h1 * 18446744073709551616 + l1 + (h2 * 18446744073709551616 + l2))) ∧ 0 = lo (clamp (h1 * 18446744073709551616 + l1 + (h2 * 18446744073709551616 + l2))) := by
  simp only [wrap64] at hs
  have : clamp (h1 * 18446744073709551616 + l1 + (h2 * 18446744073709551616 + l2)) = -170141183460469231731687303715884105728 := by
    unfold clamp; rw [if_pos (by omega)]
  rw [this]; unfold hi lo; omega
theorem add_high {h1 l1 h2 l2 s : Int} (a0 : 0 ≤ l1) (a1 : l1 ≤ 18446744073709551615) (b0 : 0 ≤ l2) (b1 : l2 ≤ 18446744073709551615)
    (c1 : h1 ≤ 9223372036854775807) (d1 : h2 ≤ 9223372036854775807)
    (hs : wrap64 (wrap64 (h1 + h2) + (l1 + l2) / 18446744073709551616) = s) (g1 : 0 ≤ h1) (g2 : 0 ≤ h2) (g3 : s < 0) :
    9223372036854775807 = hi (clamp (h1 * 18446744073709551616 + l1 + (h2 * 18446744073709551616 + l2))) ∧ 18446744073709551615 = lo (clamp (h1 * 18446744073709551616 + l1 + (h2 * 18446744073709551616 + l2))) := by
  simp only [wrap64] at hs
  have : clamp (h1 * 18446744073709551616 + l1 + (h2 * 18446744073709551616 + l2)) = 170141183460469231731687303715884105727 := by
    unfold clamp; rw [if_neg (by omega), if_pos (by omega)]
  rw [this]; unfold hi lo; omega

/-- The same for differences. -/
theorem sub_fits {h1 l1 h2 l2 bw s : Int} (a0 : 0 ≤ l1) (a1 : l1 ≤ 18446744073709551615) (b0 : 0 ≤ l2) (b1 : l2 ≤ 18446744073709551615)
    (c0 : -9223372036854775808 ≤ h1) (c1 : h1 ≤ 9223372036854775807) (d0 : -9223372036854775808 ≤ h2) (d1 : h2 ≤ 9223372036854775807)
    (hs : wrap64 (wrap64 (h1 - h2) - bw) = s) (hb : bw = if l1 < l2 then 1 else 0) (h : (h1 < 0 ∧ h2 < 0) ∨ (0 ≤ h1 ∧ 0 ≤ h2) ∨ (h1 < 0 ∧ 0 ≤ h2 ∧ s < 0) ∨ (0 ≤ h1 ∧ h2 < 0 ∧ 0 ≤ s)) :
    s = hi (clamp (h1 * 18446744073709551616 + l1 - (h2 * 18446744073709551616 + l2))) ∧ (l1 + 18446744073709551616 - l2) % 18446744073709551616 = lo (clamp (h1 * 18446744073709551616 + l1 - (h2 * 18446744073709551616 + l2))) := by
  simp only [wrap64] at hs
  rw [clamp_of (by unfold InR; split at hb <;> omega)]
  unfold hi lo; split at hb <;> omega
theorem sub_low {h1 l1 h2 l2 bw s : Int} (a0 : 0 ≤ l1) (a1 : l1 ≤ 18446744073709551615) (b0 : 0 ≤ l2) (b1 : l2 ≤ 18446744073709551615)
    (c0 : -9223372036854775808 ≤ h1) (d1 : h2 ≤ 9223372036854775807)
    (hs : wrap64 (wrap64 (h1 - h2) - bw) = s) (hb : bw = if l1 < l2 then 1 else 0) (g1 : h1 < 0) (g2 : 0 ≤ h2) (g3 : 0 ≤ s) :
    -9223372036854775808 = hi (clamp (h1 * 18446744073709551616 + l1 - (h2 * 18446744073709551616 + l2))) ∧ 0 = lo (clamp (h1 * 18446744073709551616 + l1 - (h2 * 18446744073709551616 + l2))) := by
  simp only [wrap64] at hs
  have : clamp (h1 * 18446744073709551616 + l1 - (h2 * 18446744073709551616 + l2)) = -170141183460469231731687303715884105728 := by
    unfold clamp; split at hb <;> rw [if_pos (by omega)]
  rw [this]; unfold hi lo; omega
theorem sub_high {h1 l1 h2 l2 bw s : Int} (a0 : 0 ≤ l1) (a1 : l1 ≤ 18446744073709551615) (b0 : 0 ≤ l2) (b1 : l2 ≤ 18446744073709551615)
    (c1 : h1 ≤ 9223372036854775807) (d0 : -9223372036854775808 ≤ h2)
    (hs : wrap64 (wrap64 (h1 - h2) - bw) = s) (hb : bw = if l1 < l2 then 1 else 0) (g1 : 0 ≤ h1) (g2 : h2 < 0) (g3 : s < 0) :
    9223372036854775807 = hi (clamp (h1 * 18446744073709551616 + l1 - (h2 * 18446744073709551616 + l2))) ∧ 18446744073709551615 = lo (clamp (h1 * 18446744073709551616 + l1 - (h2 * 18446744073709551616 + l2))) := by
  simp only [wrap64] at hs
  have : clamp (h1 * 18446744073709551616 + l1 - (h2 * 18446744073709551616 + l2)) = 170141183460469231731687303715884105727 := by
    unfold clamp; split at hb <;> rw [if_neg (by omega), if_pos (by omega)]
  rw [this]; unfold hi lo; omega


set_option maxHeartbeats 4000000 in
theorem add_any (h1 l1 h2 l2 : Int) (a0 : 0 ≤ l1) (a1 : l1 ≤ 18446744073709551615) (b0 : 0 ≤ l2) (b1 : l2 ≤ 18446744073709551615)
    (c0 : -9223372036854775808 ≤ h1) (c1 : h1 ≤ 9223372036854775807) (d0 : -9223372036854775808 ≤ h2) (d1 : h2 ≤ 9223372036854775807) (w : World) :
    Calls Tryz.prog 82 #[.agg #[.int .i64 h1, .int .u64 l1], .agg #[.int .i64 h2, .int .u64 l2]] w fun e w' =>
      e = .returned (.agg #[.int .i64 (hi (clamp (h1 * 18446744073709551616 + l1 + (h2 * 18446744073709551616 + l2)))), .int .u64 (lo (clamp (h1 * 18446744073709551616 + l1 + (h2 * 18446744073709551616 + l2))))]) ∧ Below w.heap.size w w' := by
  skip
  have hadd := fun w => run_add64 l1 l2 0 a0 b0 (by omega) (by omega) w
  have q1 := fun (w' : World) (h : Blk w' w.heap.size #[.int .i64 h1, .int .u64 l1] 94) => h.two
  have q2 := fun (w' : World) (h : Blk w' (w.heap.size + 1) #[.int .i64 h2, .int .u64 l2] 94) => h.two
  have q3 := fun (w' : World) (h : Blk w' (w.heap.size + 1 + 1) #[.int .i64 0, .int .u64 0] 94) => h.two
  have q4 := fun (w' : World) (h : Blk w' (w.heap.size + 1 + 1) #[.int .i64 0, .int .u64 0] 94) => h.free0
  skip
  rcases hd1 : decide (h1 < 0) with _ | _ <;> rcases hd2 : decide (h2 < 0) with _ | _
  · skip
    go_enter Tryz.func82, Tryz.ntmps82
    go_wp2
    generalize hs : wrap64 (wrap64 (h1 + h2) + (l1 + l2) / 18446744073709551616) = s
    have Hs := Lib.hid hs; clear hs
    rcases hd3 : decide (s < 0) with _ | _
    · skip
      refine wp_region_held_drew (S := (fun w' => Blk w' w.heap.size #[.int .i64 h1, .int .u64 l1] 94 ∧ Blk w' (w.heap.size + 1) #[.int .i64 h2, .int .u64 l2] 94 ∧ Blk w' (w.heap.size + 1 + 1) #[.int .i64 0, .int .u64 0] 94 ∧ Below w.heap.size w w')) (by kernel_rfl) ?_ (fun hHeld => ?_)
      · exact ⟨(((Blk.new rfl).old _).old _).drew, ((Blk.new (by simp)).old _).drew, (Blk.new (by simp)).drew, ((((Below.refl _ _).alloc (Nat.le_refl _) _).alloc (by simp) _).alloc (by simp; omega) _).drew⟩
      refine H.take 0 (v := ?_) rfl (by kernel_rfl) (fun _ _ _ h => h) (by rfl) ?_ (by assumption) ?_
      rotate_left
      · (intro wz hSw; (try dsimp only at hSw); go_simp <;> with_reducible rfl)
      try simp only [Act.put, List.setIfInBounds_toArray, List.set_cons_zero, List.set_cons_succ]
      refine H.take 2 (v := ?_) rfl (by kernel_rfl) (fun _ _ _ h => h) (by rfl) ?_ (by assumption) ?_
      rotate_left
      · (intro wz hSw; (try dsimp only at hSw); go_simp <;> with_reducible rfl)
      try simp only [Act.put, List.setIfInBounds_toArray, List.set_cons_zero, List.set_cons_succ]
      refine H.ready [1] (by kernel_rfl) (by simp) ?_
      refine H.one rfl (by rfl) (fun K hK => ?_) AllReadyH.nil
      go_simp
      go_at_call 111
      refine (negative_any _ _ _).mono ?_
      rintro e w' ⟨rfl, hb⟩
      refine hK.out _ _ ?_ (fun hHeld2 => ?_)
      · exact ⟨Blk.keep hb hHeld.1, Blk.keep hb hHeld.2.1, Blk.keep hb hHeld.2.2.1, hHeld.2.2.2.trans (hb.mono hHeld.2.2.2.size)⟩
      clear hHeld hK K; have hHeld := hHeld2; clear hHeld2
      try simp only [Act.put, List.setIfInBounds_toArray, List.set_cons_zero, List.set_cons_succ]
      refine H.ready [3] (by kernel_rfl) (by simp) ?_
      refine H.one rfl (by rfl) (fun K hK => ?_) AllReadyH.nil
      go_simp
      go_at_call 111
      refine (negative_any _ _ _).mono ?_
      rintro e w' ⟨rfl, hb⟩
      refine hK.out _ _ ?_ (fun hHeld2 => ?_)
      · exact ⟨Blk.keep hb hHeld.1, Blk.keep hb hHeld.2.1, Blk.keep hb hHeld.2.2.1, hHeld.2.2.2.trans (hb.mono hHeld.2.2.2.size)⟩
      clear hHeld hK K; have hHeld := hHeld2; clear hHeld2
      try simp only [Act.put, List.setIfInBounds_toArray, List.set_cons_zero, List.set_cons_succ]
      refine H.take 4 (v := ?_) rfl (by kernel_rfl) (fun _ _ _ h => h) (by rfl) ?_ (by assumption) ?_
      rotate_left
      · (intro wz hSw; (try dsimp only at hSw); go_simp <;> with_reducible rfl)
      try simp only [Act.put, List.setIfInBounds_toArray, List.set_cons_zero, List.set_cons_succ]
      refine H.take 5 (v := ?_) rfl (by kernel_rfl) (fun _ _ _ h => h) (by rfl) ?_ (by assumption) ?_
      rotate_left
      · (intro wz hSw; (try dsimp only at hSw); go_simp <;> with_reducible rfl)
      try simp only [Act.put, List.setIfInBounds_toArray, List.set_cons_zero, List.set_cons_succ]
      refine H.take 6 (v := ?_) rfl (by kernel_rfl) (fun _ _ _ h => h) (by rfl) ?_ (by assumption) ?_
      rotate_left
      · (intro wz hSw; (try dsimp only at hSw); go_simp <;> with_reducible rfl)
      try simp only [Act.put, List.setIfInBounds_toArray, List.set_cons_zero, List.set_cons_succ]
      refine H.take 7 (v := ?_) rfl (by kernel_rfl) (fun _ _ _ h => h) (by rfl) ?_ (by assumption) ?_
      rotate_left
      · (intro wz hSw; (try dsimp only at hSw); go_simp <;> with_reducible rfl)
      try simp only [Act.put, List.setIfInBounds_toArray, List.set_cons_zero, List.set_cons_succ]
      refine H.take 8 (v := ?_) rfl (by kernel_rfl) (fun _ _ _ h => h) (by rfl) ?_ (by assumption) ?_
      rotate_left
      · (intro wz hSw; (try dsimp only at hSw); go_simp <;> with_reducible rfl)
      try simp only [Act.put, List.setIfInBounds_toArray, List.set_cons_zero, List.set_cons_succ]
      refine H.ready [9] (by kernel_rfl) (by simp) ?_
      refine H.one rfl (by rfl) (fun K hK => ?_) AllReadyH.nil
      go_simp
      go_at_call 111
      refine (negative_any _ _ _).mono ?_
      rintro e w' ⟨rfl, hb⟩
      refine hK.out _ _ ?_ (fun hHeld2 => ?_)
      · exact ⟨Blk.keep hb hHeld.1, Blk.keep hb hHeld.2.1, Blk.keep hb hHeld.2.2.1, hHeld.2.2.2.trans (hb.mono hHeld.2.2.2.size)⟩
      clear hHeld hK K; have hHeld := hHeld2; clear hHeld2
      try simp only [Act.put, List.setIfInBounds_toArray, List.set_cons_zero, List.set_cons_succ]
      refine H.take 10 (v := ?_) rfl (by kernel_rfl) (fun _ _ _ h => h) (by rfl) ?_ (by assumption) ?_
      rotate_left
      · (intro wz hSw; (try dsimp only at hSw); go_simp <;> with_reducible rfl)
      try simp only [Act.put, List.setIfInBounds_toArray, List.set_cons_zero, List.set_cons_succ]
      refine H.take 11 (v := ?_) rfl (by kernel_rfl) (fun _ _ _ h => h) (by rfl) ?_ (by assumption) ?_
      rotate_left
      · (intro wz hSw; (try dsimp only at hSw); go_simp <;> with_reducible rfl)
      try simp only [Act.put, List.setIfInBounds_toArray, List.set_cons_zero, List.set_cons_succ]
      refine H.done (by kernel_rfl) ?_ _
      obtain ⟨g1, g2, g3, g4⟩ := hHeld
      have e1 := of_decide_eq_false hd1; have e2 := of_decide_eq_false hd2
      go_wp2_with (first | (go_at_call 111; refine (negative_any _ _ _).mono ?_; rintro e w' ⟨rfl, hb⟩; replace g3 := Blk.keep hb g3; replace g4 := g4.trans (hb.mono g4.size)) | (go_at_call 112; refine (bound_low _).mono ?_; rintro e w' ⟨rfl, hb⟩; replace g3 := Blk.keep hb g3; replace g4 := g4.trans (hb.mono g4.size)) | (go_at_call 112; refine (bound_high _).mono ?_; rintro e w' ⟨rfl, hb⟩; replace g3 := Blk.keep hb g3; replace g4 := g4.trans (hb.mono g4.size)))
      have e3 := of_decide_eq_false hd3
      have hfin := (g3.put (i := 0) (.int .i64 s)).put (i := 1) (.int .u64 ((l1 + l2) % 18446744073709551616))
      have hres := add_fits a0 a1 b0 b1 c0 c1 d0 d1 Hs.out (by omega)
      exact bodyPost_ret (v := .agg #[.int .i64 s, .int .u64 ((l1 + l2) % 18446744073709551616)]) (by simp [results, Tryz.results82, go_sem, (show Blk _ _ #[.int .i64 s, .int .u64 ((l1 + l2) % 18446744073709551616)] _ from hfin).two]) rfl ⟨ret_w hres.1 hres.2, (g4.setCell (by simp; omega) _).setCell (by simp; omega) _⟩
    · skip
      refine wp_region_held_drew (S := (fun w' => Blk w' w.heap.size #[.int .i64 h1, .int .u64 l1] 94 ∧ Blk w' (w.heap.size + 1) #[.int .i64 h2, .int .u64 l2] 94 ∧ Blk w' (w.heap.size + 1 + 1) #[.int .i64 0, .int .u64 0] 94 ∧ Below w.heap.size w w')) (by kernel_rfl) ?_ (fun hHeld => ?_)
      · exact ⟨(((Blk.new rfl).old _).old _).drew, ((Blk.new (by simp)).old _).drew, (Blk.new (by simp)).drew, ((((Below.refl _ _).alloc (Nat.le_refl _) _).alloc (by simp) _).alloc (by simp; omega) _).drew⟩
      refine H.take 0 (v := ?_) rfl (by kernel_rfl) (fun _ _ _ h => h) (by rfl) ?_ (by assumption) ?_
      rotate_left
      · (intro wz hSw; (try dsimp only at hSw); go_simp <;> with_reducible rfl)
      try simp only [Act.put, List.setIfInBounds_toArray, List.set_cons_zero, List.set_cons_succ]
      refine H.take 2 (v := ?_) rfl (by kernel_rfl) (fun _ _ _ h => h) (by rfl) ?_ (by assumption) ?_
      rotate_left
      · (intro wz hSw; (try dsimp only at hSw); go_simp <;> with_reducible rfl)
      try simp only [Act.put, List.setIfInBounds_toArray, List.set_cons_zero, List.set_cons_succ]
      refine H.ready [1] (by kernel_rfl) (by simp) ?_
      refine H.one rfl (by rfl) (fun K hK => ?_) AllReadyH.nil
      go_simp
      go_at_call 111
      refine (negative_any _ _ _).mono ?_
      rintro e w' ⟨rfl, hb⟩
      refine hK.out _ _ ?_ (fun hHeld2 => ?_)
      · exact ⟨Blk.keep hb hHeld.1, Blk.keep hb hHeld.2.1, Blk.keep hb hHeld.2.2.1, hHeld.2.2.2.trans (hb.mono hHeld.2.2.2.size)⟩
      clear hHeld hK K; have hHeld := hHeld2; clear hHeld2
      try simp only [Act.put, List.setIfInBounds_toArray, List.set_cons_zero, List.set_cons_succ]
      refine H.ready [3] (by kernel_rfl) (by simp) ?_
      refine H.one rfl (by rfl) (fun K hK => ?_) AllReadyH.nil
      go_simp
      go_at_call 111
      refine (negative_any _ _ _).mono ?_
      rintro e w' ⟨rfl, hb⟩
      refine hK.out _ _ ?_ (fun hHeld2 => ?_)
      · exact ⟨Blk.keep hb hHeld.1, Blk.keep hb hHeld.2.1, Blk.keep hb hHeld.2.2.1, hHeld.2.2.2.trans (hb.mono hHeld.2.2.2.size)⟩
      clear hHeld hK K; have hHeld := hHeld2; clear hHeld2
      try simp only [Act.put, List.setIfInBounds_toArray, List.set_cons_zero, List.set_cons_succ]
      refine H.take 4 (v := ?_) rfl (by kernel_rfl) (fun _ _ _ h => h) (by rfl) ?_ (by assumption) ?_
      rotate_left
      · (intro wz hSw; (try dsimp only at hSw); go_simp <;> with_reducible rfl)
      try simp only [Act.put, List.setIfInBounds_toArray, List.set_cons_zero, List.set_cons_succ]
      refine H.take 5 (v := ?_) rfl (by kernel_rfl) (fun _ _ _ h => h) (by rfl) ?_ (by assumption) ?_
      rotate_left
      · (intro wz hSw; (try dsimp only at hSw); go_simp <;> with_reducible rfl)
      try simp only [Act.put, List.setIfInBounds_toArray, List.set_cons_zero, List.set_cons_succ]
      refine H.take 6 (v := ?_) rfl (by kernel_rfl) (fun _ _ _ h => h) (by rfl) ?_ (by assumption) ?_
      rotate_left
      · (intro wz hSw; (try dsimp only at hSw); go_simp <;> with_reducible rfl)
      try simp only [Act.put, List.setIfInBounds_toArray, List.set_cons_zero, List.set_cons_succ]
      refine H.take 7 (v := ?_) rfl (by kernel_rfl) (fun _ _ _ h => h) (by rfl) ?_ (by assumption) ?_
      rotate_left
      · (intro wz hSw; (try dsimp only at hSw); go_simp <;> with_reducible rfl)
      try simp only [Act.put, List.setIfInBounds_toArray, List.set_cons_zero, List.set_cons_succ]
      refine H.take 8 (v := ?_) rfl (by kernel_rfl) (fun _ _ _ h => h) (by rfl) ?_ (by assumption) ?_
      rotate_left
      · (intro wz hSw; (try dsimp only at hSw); go_simp <;> with_reducible rfl)
      try simp only [Act.put, List.setIfInBounds_toArray, List.set_cons_zero, List.set_cons_succ]
      refine H.ready [9] (by kernel_rfl) (by simp) ?_
      refine H.one rfl (by rfl) (fun K hK => ?_) AllReadyH.nil
      go_simp
      go_at_call 111
      refine (negative_any _ _ _).mono ?_
      rintro e w' ⟨rfl, hb⟩
      refine hK.out _ _ ?_ (fun hHeld2 => ?_)
      · exact ⟨Blk.keep hb hHeld.1, Blk.keep hb hHeld.2.1, Blk.keep hb hHeld.2.2.1, hHeld.2.2.2.trans (hb.mono hHeld.2.2.2.size)⟩
      clear hHeld hK K; have hHeld := hHeld2; clear hHeld2
      try simp only [Act.put, List.setIfInBounds_toArray, List.set_cons_zero, List.set_cons_succ]
      refine H.take 10 (v := ?_) rfl (by kernel_rfl) (fun _ _ _ h => h) (by rfl) ?_ (by assumption) ?_
      rotate_left
      · (intro wz hSw; (try dsimp only at hSw); go_simp <;> with_reducible rfl)
      try simp only [Act.put, List.setIfInBounds_toArray, List.set_cons_zero, List.set_cons_succ]
      refine H.take 11 (v := ?_) rfl (by kernel_rfl) (fun _ _ _ h => h) (by rfl) ?_ (by assumption) ?_
      rotate_left
      · (intro wz hSw; (try dsimp only at hSw); go_simp <;> with_reducible rfl)
      try simp only [Act.put, List.setIfInBounds_toArray, List.set_cons_zero, List.set_cons_succ]
      refine H.done (by kernel_rfl) ?_ _
      obtain ⟨g1, g2, g3, g4⟩ := hHeld
      have e1 := of_decide_eq_false hd1; have e2 := of_decide_eq_false hd2
      go_wp2_with (first | (go_at_call 111; refine (negative_any _ _ _).mono ?_; rintro e w' ⟨rfl, hb⟩; replace g3 := Blk.keep hb g3; replace g4 := g4.trans (hb.mono g4.size)) | (go_at_call 112; refine (bound_low _).mono ?_; rintro e w' ⟨rfl, hb⟩; replace g3 := Blk.keep hb g3; replace g4 := g4.trans (hb.mono g4.size)) | (go_at_call 112; refine (bound_high _).mono ?_; rintro e w' ⟨rfl, hb⟩; replace g3 := Blk.keep hb g3; replace g4 := g4.trans (hb.mono g4.size)))
      have e3 := of_decide_eq_true hd3
      have hfin := (g3.put (i := 0) (.int .i64 9223372036854775807)).put (i := 1) (.int .u64 18446744073709551615)
      have hres := add_high a0 a1 b0 b1 (by omega) (by omega) Hs.out (by omega) (by omega) (by omega)
      exact bodyPost_ret (v := .agg #[.int .i64 9223372036854775807, .int .u64 18446744073709551615]) (by simp [results, Tryz.results82, go_sem, (show Blk _ _ #[.int .i64 9223372036854775807, .int .u64 18446744073709551615] _ from hfin).two]) rfl ⟨ret_w hres.1 hres.2, (g4.setCell (by simp; omega) _).setCell (by simp; omega) _⟩
  · skip
    go_enter Tryz.func82, Tryz.ntmps82
    go_wp2
    generalize hs : wrap64 (wrap64 (h1 + h2) + (l1 + l2) / 18446744073709551616) = s
    have Hs := Lib.hid hs; clear hs
    refine wp_region_held_drew (S := (fun w' => Blk w' w.heap.size #[.int .i64 h1, .int .u64 l1] 94 ∧ Blk w' (w.heap.size + 1) #[.int .i64 h2, .int .u64 l2] 94 ∧ Blk w' (w.heap.size + 1 + 1) #[.int .i64 0, .int .u64 0] 94 ∧ Below w.heap.size w w')) (by kernel_rfl) ?_ (fun hHeld => ?_)
    · exact ⟨(((Blk.new rfl).old _).old _).drew, ((Blk.new (by simp)).old _).drew, (Blk.new (by simp)).drew, ((((Below.refl _ _).alloc (Nat.le_refl _) _).alloc (by simp) _).alloc (by simp; omega) _).drew⟩
    refine H.take 0 (v := ?_) rfl (by kernel_rfl) (fun _ _ _ h => h) (by rfl) ?_ (by assumption) ?_
    rotate_left
    · (intro wz hSw; (try dsimp only at hSw); go_simp <;> with_reducible rfl)
    try simp only [Act.put, List.setIfInBounds_toArray, List.set_cons_zero, List.set_cons_succ]
    refine H.take 2 (v := ?_) rfl (by kernel_rfl) (fun _ _ _ h => h) (by rfl) ?_ (by assumption) ?_
    rotate_left
    · (intro wz hSw; (try dsimp only at hSw); go_simp <;> with_reducible rfl)
    try simp only [Act.put, List.setIfInBounds_toArray, List.set_cons_zero, List.set_cons_succ]
    refine H.ready [1] (by kernel_rfl) (by simp) ?_
    refine H.one rfl (by rfl) (fun K hK => ?_) AllReadyH.nil
    go_simp
    go_at_call 111
    refine (negative_any _ _ _).mono ?_
    rintro e w' ⟨rfl, hb⟩
    refine hK.out _ _ ?_ (fun hHeld2 => ?_)
    · exact ⟨Blk.keep hb hHeld.1, Blk.keep hb hHeld.2.1, Blk.keep hb hHeld.2.2.1, hHeld.2.2.2.trans (hb.mono hHeld.2.2.2.size)⟩
    clear hHeld hK K; have hHeld := hHeld2; clear hHeld2
    try simp only [Act.put, List.setIfInBounds_toArray, List.set_cons_zero, List.set_cons_succ]
    refine H.ready [3] (by kernel_rfl) (by simp) ?_
    refine H.one rfl (by rfl) (fun K hK => ?_) AllReadyH.nil
    go_simp
    go_at_call 111
    refine (negative_any _ _ _).mono ?_
    rintro e w' ⟨rfl, hb⟩
    refine hK.out _ _ ?_ (fun hHeld2 => ?_)
    · exact ⟨Blk.keep hb hHeld.1, Blk.keep hb hHeld.2.1, Blk.keep hb hHeld.2.2.1, hHeld.2.2.2.trans (hb.mono hHeld.2.2.2.size)⟩
    clear hHeld hK K; have hHeld := hHeld2; clear hHeld2
    try simp only [Act.put, List.setIfInBounds_toArray, List.set_cons_zero, List.set_cons_succ]
    refine H.take 4 (v := ?_) rfl (by kernel_rfl) (fun _ _ _ h => h) (by rfl) ?_ (by assumption) ?_
    rotate_left
    · (intro wz hSw; (try dsimp only at hSw); go_simp <;> with_reducible rfl)
    try simp only [Act.put, List.setIfInBounds_toArray, List.set_cons_zero, List.set_cons_succ]
    refine H.take 5 (v := ?_) rfl (by kernel_rfl) (fun _ _ _ h => h) (by rfl) ?_ (by assumption) ?_
    rotate_left
    · (intro wz hSw; (try dsimp only at hSw); go_simp <;> with_reducible rfl)
    try simp only [Act.put, List.setIfInBounds_toArray, List.set_cons_zero, List.set_cons_succ]
    refine H.skip 6 rfl (by kernel_rfl) (fun _ _ _ h => h) (by rfl) (by assumption) ?_
    try simp only [Act.put, List.setIfInBounds_toArray, List.set_cons_zero, List.set_cons_succ]
    refine H.skip 7 rfl (by kernel_rfl) (fun _ _ _ h => h) (by rfl) (by assumption) ?_
    try simp only [Act.put, List.setIfInBounds_toArray, List.set_cons_zero, List.set_cons_succ]
    refine H.skip 8 rfl (by kernel_rfl) (fun _ _ _ h => h) (by rfl) (by assumption) ?_
    try simp only [Act.put, List.setIfInBounds_toArray, List.set_cons_zero, List.set_cons_succ]
    refine H.skip 9 rfl (by kernel_rfl) (fun _ _ _ h => h) (by rfl) (by assumption) ?_
    try simp only [Act.put, List.setIfInBounds_toArray, List.set_cons_zero, List.set_cons_succ]
    refine H.skip 10 rfl (by kernel_rfl) (fun _ _ _ h => h) (by rfl) (by assumption) ?_
    try simp only [Act.put, List.setIfInBounds_toArray, List.set_cons_zero, List.set_cons_succ]
    refine H.take 11 (v := ?_) rfl (by kernel_rfl) (fun _ _ _ h => h) (by rfl) ?_ (by assumption) ?_
    rotate_left
    · (intro wz hSw; (try dsimp only at hSw); go_simp <;> with_reducible rfl)
    try simp only [Act.put, List.setIfInBounds_toArray, List.set_cons_zero, List.set_cons_succ]
    refine H.done (by kernel_rfl) ?_ _
    obtain ⟨g1, g2, g3, g4⟩ := hHeld
    have e1 := of_decide_eq_false hd1; have e2 := of_decide_eq_true hd2
    go_wp2_with (first | (go_at_call 111; refine (negative_any _ _ _).mono ?_; rintro e w' ⟨rfl, hb⟩; replace g3 := Blk.keep hb g3; replace g4 := g4.trans (hb.mono g4.size)) | (go_at_call 112; refine (bound_low _).mono ?_; rintro e w' ⟨rfl, hb⟩; replace g3 := Blk.keep hb g3; replace g4 := g4.trans (hb.mono g4.size)) | (go_at_call 112; refine (bound_high _).mono ?_; rintro e w' ⟨rfl, hb⟩; replace g3 := Blk.keep hb g3; replace g4 := g4.trans (hb.mono g4.size)))
    have hfin := (g3.put (i := 0) (.int .i64 s)).put (i := 1) (.int .u64 ((l1 + l2) % 18446744073709551616))
    have hres := add_fits a0 a1 b0 b1 c0 c1 d0 d1 Hs.out (by omega)
    exact bodyPost_ret (v := .agg #[.int .i64 s, .int .u64 ((l1 + l2) % 18446744073709551616)]) (by simp [results, Tryz.results82, go_sem, (show Blk _ _ #[.int .i64 s, .int .u64 ((l1 + l2) % 18446744073709551616)] _ from hfin).two]) rfl ⟨ret_w hres.1 hres.2, (g4.setCell (by simp; omega) _).setCell (by simp; omega) _⟩
  · skip
    go_enter Tryz.func82, Tryz.ntmps82
    go_wp2
    generalize hs : wrap64 (wrap64 (h1 + h2) + (l1 + l2) / 18446744073709551616) = s
    have Hs := Lib.hid hs; clear hs
    refine wp_region_held_drew (S := (fun w' => Blk w' w.heap.size #[.int .i64 h1, .int .u64 l1] 94 ∧ Blk w' (w.heap.size + 1) #[.int .i64 h2, .int .u64 l2] 94 ∧ Blk w' (w.heap.size + 1 + 1) #[.int .i64 0, .int .u64 0] 94 ∧ Below w.heap.size w w')) (by kernel_rfl) ?_ (fun hHeld => ?_)
    · exact ⟨(((Blk.new rfl).old _).old _).drew, ((Blk.new (by simp)).old _).drew, (Blk.new (by simp)).drew, ((((Below.refl _ _).alloc (Nat.le_refl _) _).alloc (by simp) _).alloc (by simp; omega) _).drew⟩
    refine H.take 0 (v := ?_) rfl (by kernel_rfl) (fun _ _ _ h => h) (by rfl) ?_ (by assumption) ?_
    rotate_left
    · (intro wz hSw; (try dsimp only at hSw); go_simp <;> with_reducible rfl)
    try simp only [Act.put, List.setIfInBounds_toArray, List.set_cons_zero, List.set_cons_succ]
    refine H.take 2 (v := ?_) rfl (by kernel_rfl) (fun _ _ _ h => h) (by rfl) ?_ (by assumption) ?_
    rotate_left
    · (intro wz hSw; (try dsimp only at hSw); go_simp <;> with_reducible rfl)
    try simp only [Act.put, List.setIfInBounds_toArray, List.set_cons_zero, List.set_cons_succ]
    refine H.ready [1] (by kernel_rfl) (by simp) ?_
    refine H.one rfl (by rfl) (fun K hK => ?_) AllReadyH.nil
    go_simp
    go_at_call 111
    refine (negative_any _ _ _).mono ?_
    rintro e w' ⟨rfl, hb⟩
    refine hK.out _ _ ?_ (fun hHeld2 => ?_)
    · exact ⟨Blk.keep hb hHeld.1, Blk.keep hb hHeld.2.1, Blk.keep hb hHeld.2.2.1, hHeld.2.2.2.trans (hb.mono hHeld.2.2.2.size)⟩
    clear hHeld hK K; have hHeld := hHeld2; clear hHeld2
    try simp only [Act.put, List.setIfInBounds_toArray, List.set_cons_zero, List.set_cons_succ]
    refine H.ready [3] (by kernel_rfl) (by simp) ?_
    refine H.one rfl (by rfl) (fun K hK => ?_) AllReadyH.nil
    go_simp
    go_at_call 111
    refine (negative_any _ _ _).mono ?_
    rintro e w' ⟨rfl, hb⟩
    refine hK.out _ _ ?_ (fun hHeld2 => ?_)
    · exact ⟨Blk.keep hb hHeld.1, Blk.keep hb hHeld.2.1, Blk.keep hb hHeld.2.2.1, hHeld.2.2.2.trans (hb.mono hHeld.2.2.2.size)⟩
    clear hHeld hK K; have hHeld := hHeld2; clear hHeld2
    try simp only [Act.put, List.setIfInBounds_toArray, List.set_cons_zero, List.set_cons_succ]
    refine H.take 4 (v := ?_) rfl (by kernel_rfl) (fun _ _ _ h => h) (by rfl) ?_ (by assumption) ?_
    rotate_left
    · (intro wz hSw; (try dsimp only at hSw); go_simp <;> with_reducible rfl)
    try simp only [Act.put, List.setIfInBounds_toArray, List.set_cons_zero, List.set_cons_succ]
    refine H.take 5 (v := ?_) rfl (by kernel_rfl) (fun _ _ _ h => h) (by rfl) ?_ (by assumption) ?_
    rotate_left
    · (intro wz hSw; (try dsimp only at hSw); go_simp <;> with_reducible rfl)
    try simp only [Act.put, List.setIfInBounds_toArray, List.set_cons_zero, List.set_cons_succ]
    refine H.skip 6 rfl (by kernel_rfl) (fun _ _ _ h => h) (by rfl) (by assumption) ?_
    try simp only [Act.put, List.setIfInBounds_toArray, List.set_cons_zero, List.set_cons_succ]
    refine H.skip 7 rfl (by kernel_rfl) (fun _ _ _ h => h) (by rfl) (by assumption) ?_
    try simp only [Act.put, List.setIfInBounds_toArray, List.set_cons_zero, List.set_cons_succ]
    refine H.skip 8 rfl (by kernel_rfl) (fun _ _ _ h => h) (by rfl) (by assumption) ?_
    try simp only [Act.put, List.setIfInBounds_toArray, List.set_cons_zero, List.set_cons_succ]
    refine H.skip 9 rfl (by kernel_rfl) (fun _ _ _ h => h) (by rfl) (by assumption) ?_
    try simp only [Act.put, List.setIfInBounds_toArray, List.set_cons_zero, List.set_cons_succ]
    refine H.skip 10 rfl (by kernel_rfl) (fun _ _ _ h => h) (by rfl) (by assumption) ?_
    try simp only [Act.put, List.setIfInBounds_toArray, List.set_cons_zero, List.set_cons_succ]
    refine H.take 11 (v := ?_) rfl (by kernel_rfl) (fun _ _ _ h => h) (by rfl) ?_ (by assumption) ?_
    rotate_left
    · (intro wz hSw; (try dsimp only at hSw); go_simp <;> with_reducible rfl)
    try simp only [Act.put, List.setIfInBounds_toArray, List.set_cons_zero, List.set_cons_succ]
    refine H.done (by kernel_rfl) ?_ _
    obtain ⟨g1, g2, g3, g4⟩ := hHeld
    have e1 := of_decide_eq_true hd1; have e2 := of_decide_eq_false hd2
    go_wp2_with (first | (go_at_call 111; refine (negative_any _ _ _).mono ?_; rintro e w' ⟨rfl, hb⟩; replace g3 := Blk.keep hb g3; replace g4 := g4.trans (hb.mono g4.size)) | (go_at_call 112; refine (bound_low _).mono ?_; rintro e w' ⟨rfl, hb⟩; replace g3 := Blk.keep hb g3; replace g4 := g4.trans (hb.mono g4.size)) | (go_at_call 112; refine (bound_high _).mono ?_; rintro e w' ⟨rfl, hb⟩; replace g3 := Blk.keep hb g3; replace g4 := g4.trans (hb.mono g4.size)))
    have hfin := (g3.put (i := 0) (.int .i64 s)).put (i := 1) (.int .u64 ((l1 + l2) % 18446744073709551616))
    have hres := add_fits a0 a1 b0 b1 c0 c1 d0 d1 Hs.out (by omega)
    exact bodyPost_ret (v := .agg #[.int .i64 s, .int .u64 ((l1 + l2) % 18446744073709551616)]) (by simp [results, Tryz.results82, go_sem, (show Blk _ _ #[.int .i64 s, .int .u64 ((l1 + l2) % 18446744073709551616)] _ from hfin).two]) rfl ⟨ret_w hres.1 hres.2, (g4.setCell (by simp; omega) _).setCell (by simp; omega) _⟩
  · skip
    go_enter Tryz.func82, Tryz.ntmps82
    go_wp2
    generalize hs : wrap64 (wrap64 (h1 + h2) + (l1 + l2) / 18446744073709551616) = s
    have Hs := Lib.hid hs; clear hs
    rcases hd3 : decide (s < 0) with _ | _
    · skip
      refine wp_region_held_drew (S := (fun w' => Blk w' w.heap.size #[.int .i64 h1, .int .u64 l1] 94 ∧ Blk w' (w.heap.size + 1) #[.int .i64 h2, .int .u64 l2] 94 ∧ Blk w' (w.heap.size + 1 + 1) #[.int .i64 0, .int .u64 0] 94 ∧ Below w.heap.size w w')) (by kernel_rfl) ?_ (fun hHeld => ?_)
      · exact ⟨(((Blk.new rfl).old _).old _).drew, ((Blk.new (by simp)).old _).drew, (Blk.new (by simp)).drew, ((((Below.refl _ _).alloc (Nat.le_refl _) _).alloc (by simp) _).alloc (by simp; omega) _).drew⟩
      refine H.take 0 (v := ?_) rfl (by kernel_rfl) (fun _ _ _ h => h) (by rfl) ?_ (by assumption) ?_
      rotate_left
      · (intro wz hSw; (try dsimp only at hSw); go_simp <;> with_reducible rfl)
      try simp only [Act.put, List.setIfInBounds_toArray, List.set_cons_zero, List.set_cons_succ]
      refine H.take 2 (v := ?_) rfl (by kernel_rfl) (fun _ _ _ h => h) (by rfl) ?_ (by assumption) ?_
      rotate_left
      · (intro wz hSw; (try dsimp only at hSw); go_simp <;> with_reducible rfl)
      try simp only [Act.put, List.setIfInBounds_toArray, List.set_cons_zero, List.set_cons_succ]
      refine H.ready [1] (by kernel_rfl) (by simp) ?_
      refine H.one rfl (by rfl) (fun K hK => ?_) AllReadyH.nil
      go_simp
      go_at_call 111
      refine (negative_any _ _ _).mono ?_
      rintro e w' ⟨rfl, hb⟩
      refine hK.out _ _ ?_ (fun hHeld2 => ?_)
      · exact ⟨Blk.keep hb hHeld.1, Blk.keep hb hHeld.2.1, Blk.keep hb hHeld.2.2.1, hHeld.2.2.2.trans (hb.mono hHeld.2.2.2.size)⟩
      clear hHeld hK K; have hHeld := hHeld2; clear hHeld2
      try simp only [Act.put, List.setIfInBounds_toArray, List.set_cons_zero, List.set_cons_succ]
      refine H.ready [3] (by kernel_rfl) (by simp) ?_
      refine H.one rfl (by rfl) (fun K hK => ?_) AllReadyH.nil
      go_simp
      go_at_call 111
      refine (negative_any _ _ _).mono ?_
      rintro e w' ⟨rfl, hb⟩
      refine hK.out _ _ ?_ (fun hHeld2 => ?_)
      · exact ⟨Blk.keep hb hHeld.1, Blk.keep hb hHeld.2.1, Blk.keep hb hHeld.2.2.1, hHeld.2.2.2.trans (hb.mono hHeld.2.2.2.size)⟩
      clear hHeld hK K; have hHeld := hHeld2; clear hHeld2
      try simp only [Act.put, List.setIfInBounds_toArray, List.set_cons_zero, List.set_cons_succ]
      refine H.take 4 (v := ?_) rfl (by kernel_rfl) (fun _ _ _ h => h) (by rfl) ?_ (by assumption) ?_
      rotate_left
      · (intro wz hSw; (try dsimp only at hSw); go_simp <;> with_reducible rfl)
      try simp only [Act.put, List.setIfInBounds_toArray, List.set_cons_zero, List.set_cons_succ]
      refine H.take 5 (v := ?_) rfl (by kernel_rfl) (fun _ _ _ h => h) (by rfl) ?_ (by assumption) ?_
      rotate_left
      · (intro wz hSw; (try dsimp only at hSw); go_simp <;> with_reducible rfl)
      try simp only [Act.put, List.setIfInBounds_toArray, List.set_cons_zero, List.set_cons_succ]
      refine H.take 6 (v := ?_) rfl (by kernel_rfl) (fun _ _ _ h => h) (by rfl) ?_ (by assumption) ?_
      rotate_left
      · (intro wz hSw; (try dsimp only at hSw); go_simp <;> with_reducible rfl)
      try simp only [Act.put, List.setIfInBounds_toArray, List.set_cons_zero, List.set_cons_succ]
      refine H.take 7 (v := ?_) rfl (by kernel_rfl) (fun _ _ _ h => h) (by rfl) ?_ (by assumption) ?_
      rotate_left
      · (intro wz hSw; (try dsimp only at hSw); go_simp <;> with_reducible rfl)
      try simp only [Act.put, List.setIfInBounds_toArray, List.set_cons_zero, List.set_cons_succ]
      refine H.take 8 (v := ?_) rfl (by kernel_rfl) (fun _ _ _ h => h) (by rfl) ?_ (by assumption) ?_
      rotate_left
      · (intro wz hSw; (try dsimp only at hSw); go_simp <;> with_reducible rfl)
      try simp only [Act.put, List.setIfInBounds_toArray, List.set_cons_zero, List.set_cons_succ]
      refine H.ready [9] (by kernel_rfl) (by simp) ?_
      refine H.one rfl (by rfl) (fun K hK => ?_) AllReadyH.nil
      go_simp
      go_at_call 111
      refine (negative_any _ _ _).mono ?_
      rintro e w' ⟨rfl, hb⟩
      refine hK.out _ _ ?_ (fun hHeld2 => ?_)
      · exact ⟨Blk.keep hb hHeld.1, Blk.keep hb hHeld.2.1, Blk.keep hb hHeld.2.2.1, hHeld.2.2.2.trans (hb.mono hHeld.2.2.2.size)⟩
      clear hHeld hK K; have hHeld := hHeld2; clear hHeld2
      try simp only [Act.put, List.setIfInBounds_toArray, List.set_cons_zero, List.set_cons_succ]
      refine H.take 10 (v := ?_) rfl (by kernel_rfl) (fun _ _ _ h => h) (by rfl) ?_ (by assumption) ?_
      rotate_left
      · (intro wz hSw; (try dsimp only at hSw); go_simp <;> with_reducible rfl)
      try simp only [Act.put, List.setIfInBounds_toArray, List.set_cons_zero, List.set_cons_succ]
      refine H.take 11 (v := ?_) rfl (by kernel_rfl) (fun _ _ _ h => h) (by rfl) ?_ (by assumption) ?_
      rotate_left
      · (intro wz hSw; (try dsimp only at hSw); go_simp <;> with_reducible rfl)
      try simp only [Act.put, List.setIfInBounds_toArray, List.set_cons_zero, List.set_cons_succ]
      refine H.done (by kernel_rfl) ?_ _
      obtain ⟨g1, g2, g3, g4⟩ := hHeld
      have e1 := of_decide_eq_true hd1; have e2 := of_decide_eq_true hd2
      go_wp2_with (first | (go_at_call 111; refine (negative_any _ _ _).mono ?_; rintro e w' ⟨rfl, hb⟩; replace g3 := Blk.keep hb g3; replace g4 := g4.trans (hb.mono g4.size)) | (go_at_call 112; refine (bound_low _).mono ?_; rintro e w' ⟨rfl, hb⟩; replace g3 := Blk.keep hb g3; replace g4 := g4.trans (hb.mono g4.size)) | (go_at_call 112; refine (bound_high _).mono ?_; rintro e w' ⟨rfl, hb⟩; replace g3 := Blk.keep hb g3; replace g4 := g4.trans (hb.mono g4.size)))
      have e3 := of_decide_eq_false hd3
      have hfin := (g3.put (i := 0) (.int .i64 (-9223372036854775808))).put (i := 1) (.int .u64 0)
      have hres := add_low a0 a1 b0 b1 (by omega) (by omega) Hs.out (by omega) (by omega) (by omega)
      exact bodyPost_ret (v := .agg #[.int .i64 (-9223372036854775808), .int .u64 0]) (by simp [results, Tryz.results82, go_sem, (show Blk _ _ #[.int .i64 (-9223372036854775808), .int .u64 0] _ from hfin).two]) rfl ⟨ret_w hres.1 hres.2, (g4.setCell (by simp; omega) _).setCell (by simp; omega) _⟩
    · skip
      refine wp_region_held_drew (S := (fun w' => Blk w' w.heap.size #[.int .i64 h1, .int .u64 l1] 94 ∧ Blk w' (w.heap.size + 1) #[.int .i64 h2, .int .u64 l2] 94 ∧ Blk w' (w.heap.size + 1 + 1) #[.int .i64 0, .int .u64 0] 94 ∧ Below w.heap.size w w')) (by kernel_rfl) ?_ (fun hHeld => ?_)
      · exact ⟨(((Blk.new rfl).old _).old _).drew, ((Blk.new (by simp)).old _).drew, (Blk.new (by simp)).drew, ((((Below.refl _ _).alloc (Nat.le_refl _) _).alloc (by simp) _).alloc (by simp; omega) _).drew⟩
      refine H.take 0 (v := ?_) rfl (by kernel_rfl) (fun _ _ _ h => h) (by rfl) ?_ (by assumption) ?_
      rotate_left
      · (intro wz hSw; (try dsimp only at hSw); go_simp <;> with_reducible rfl)
      try simp only [Act.put, List.setIfInBounds_toArray, List.set_cons_zero, List.set_cons_succ]
      refine H.take 2 (v := ?_) rfl (by kernel_rfl) (fun _ _ _ h => h) (by rfl) ?_ (by assumption) ?_
      rotate_left
      · (intro wz hSw; (try dsimp only at hSw); go_simp <;> with_reducible rfl)
      try simp only [Act.put, List.setIfInBounds_toArray, List.set_cons_zero, List.set_cons_succ]
      refine H.ready [1] (by kernel_rfl) (by simp) ?_
      refine H.one rfl (by rfl) (fun K hK => ?_) AllReadyH.nil
      go_simp
      go_at_call 111
      refine (negative_any _ _ _).mono ?_
      rintro e w' ⟨rfl, hb⟩
      refine hK.out _ _ ?_ (fun hHeld2 => ?_)
      · exact ⟨Blk.keep hb hHeld.1, Blk.keep hb hHeld.2.1, Blk.keep hb hHeld.2.2.1, hHeld.2.2.2.trans (hb.mono hHeld.2.2.2.size)⟩
      clear hHeld hK K; have hHeld := hHeld2; clear hHeld2
      try simp only [Act.put, List.setIfInBounds_toArray, List.set_cons_zero, List.set_cons_succ]
      refine H.ready [3] (by kernel_rfl) (by simp) ?_
      refine H.one rfl (by rfl) (fun K hK => ?_) AllReadyH.nil
      go_simp
      go_at_call 111
      refine (negative_any _ _ _).mono ?_
      rintro e w' ⟨rfl, hb⟩
      refine hK.out _ _ ?_ (fun hHeld2 => ?_)
      · exact ⟨Blk.keep hb hHeld.1, Blk.keep hb hHeld.2.1, Blk.keep hb hHeld.2.2.1, hHeld.2.2.2.trans (hb.mono hHeld.2.2.2.size)⟩
      clear hHeld hK K; have hHeld := hHeld2; clear hHeld2
      try simp only [Act.put, List.setIfInBounds_toArray, List.set_cons_zero, List.set_cons_succ]
      refine H.take 4 (v := ?_) rfl (by kernel_rfl) (fun _ _ _ h => h) (by rfl) ?_ (by assumption) ?_
      rotate_left
      · (intro wz hSw; (try dsimp only at hSw); go_simp <;> with_reducible rfl)
      try simp only [Act.put, List.setIfInBounds_toArray, List.set_cons_zero, List.set_cons_succ]
      refine H.take 5 (v := ?_) rfl (by kernel_rfl) (fun _ _ _ h => h) (by rfl) ?_ (by assumption) ?_
      rotate_left
      · (intro wz hSw; (try dsimp only at hSw); go_simp <;> with_reducible rfl)
      try simp only [Act.put, List.setIfInBounds_toArray, List.set_cons_zero, List.set_cons_succ]
      refine H.take 6 (v := ?_) rfl (by kernel_rfl) (fun _ _ _ h => h) (by rfl) ?_ (by assumption) ?_
      rotate_left
      · (intro wz hSw; (try dsimp only at hSw); go_simp <;> with_reducible rfl)
      try simp only [Act.put, List.setIfInBounds_toArray, List.set_cons_zero, List.set_cons_succ]
      refine H.take 7 (v := ?_) rfl (by kernel_rfl) (fun _ _ _ h => h) (by rfl) ?_ (by assumption) ?_
      rotate_left
      · (intro wz hSw; (try dsimp only at hSw); go_simp <;> with_reducible rfl)
      try simp only [Act.put, List.setIfInBounds_toArray, List.set_cons_zero, List.set_cons_succ]
      refine H.take 8 (v := ?_) rfl (by kernel_rfl) (fun _ _ _ h => h) (by rfl) ?_ (by assumption) ?_
      rotate_left
      · (intro wz hSw; (try dsimp only at hSw); go_simp <;> with_reducible rfl)
      try simp only [Act.put, List.setIfInBounds_toArray, List.set_cons_zero, List.set_cons_succ]
      refine H.ready [9] (by kernel_rfl) (by simp) ?_
      refine H.one rfl (by rfl) (fun K hK => ?_) AllReadyH.nil
      go_simp
      go_at_call 111
      refine (negative_any _ _ _).mono ?_
      rintro e w' ⟨rfl, hb⟩
      refine hK.out _ _ ?_ (fun hHeld2 => ?_)
      · exact ⟨Blk.keep hb hHeld.1, Blk.keep hb hHeld.2.1, Blk.keep hb hHeld.2.2.1, hHeld.2.2.2.trans (hb.mono hHeld.2.2.2.size)⟩
      clear hHeld hK K; have hHeld := hHeld2; clear hHeld2
      try simp only [Act.put, List.setIfInBounds_toArray, List.set_cons_zero, List.set_cons_succ]
      refine H.take 10 (v := ?_) rfl (by kernel_rfl) (fun _ _ _ h => h) (by rfl) ?_ (by assumption) ?_
      rotate_left
      · (intro wz hSw; (try dsimp only at hSw); go_simp <;> with_reducible rfl)
      try simp only [Act.put, List.setIfInBounds_toArray, List.set_cons_zero, List.set_cons_succ]
      refine H.take 11 (v := ?_) rfl (by kernel_rfl) (fun _ _ _ h => h) (by rfl) ?_ (by assumption) ?_
      rotate_left
      · (intro wz hSw; (try dsimp only at hSw); go_simp <;> with_reducible rfl)
      try simp only [Act.put, List.setIfInBounds_toArray, List.set_cons_zero, List.set_cons_succ]
      refine H.done (by kernel_rfl) ?_ _
      obtain ⟨g1, g2, g3, g4⟩ := hHeld
      have e1 := of_decide_eq_true hd1; have e2 := of_decide_eq_true hd2
      go_wp2_with (first | (go_at_call 111; refine (negative_any _ _ _).mono ?_; rintro e w' ⟨rfl, hb⟩; replace g3 := Blk.keep hb g3; replace g4 := g4.trans (hb.mono g4.size)) | (go_at_call 112; refine (bound_low _).mono ?_; rintro e w' ⟨rfl, hb⟩; replace g3 := Blk.keep hb g3; replace g4 := g4.trans (hb.mono g4.size)) | (go_at_call 112; refine (bound_high _).mono ?_; rintro e w' ⟨rfl, hb⟩; replace g3 := Blk.keep hb g3; replace g4 := g4.trans (hb.mono g4.size)))
      have e3 := of_decide_eq_true hd3
      have hfin := (g3.put (i := 0) (.int .i64 s)).put (i := 1) (.int .u64 ((l1 + l2) % 18446744073709551616))
      have hres := add_fits a0 a1 b0 b1 c0 c1 d0 d1 Hs.out (by omega)
      exact bodyPost_ret (v := .agg #[.int .i64 s, .int .u64 ((l1 + l2) % 18446744073709551616)]) (by simp [results, Tryz.results82, go_sem, (show Blk _ _ #[.int .i64 s, .int .u64 ((l1 + l2) % 18446744073709551616)] _ from hfin).two]) rfl ⟨ret_w hres.1 hres.2, (g4.setCell (by simp; omega) _).setCell (by simp; omega) _⟩


theorem run_sub64 (x y c : Int) (hx : 0 ≤ x) (hy : 0 ≤ y) (hx1 : x ≤ 18446744073709551615) (hy1 : y ≤ 18446744073709551615) (hc : c = if x < y then 1 else 0) (w : World) :
    (callFunc 134 #[.int .u64 x, .int .u64 y, .int .u64 0]).run Tryz.prog w =
      .ok (.value (.tuple #[.int .u64 ((x + 18446744073709551616 - y) % 18446744073709551616), .int .u64 c])) w := by
  obtain ⟨a, rfl⟩ := Int.eq_ofNat_of_zero_le hx
  obtain ⟨b, rfl⟩ := Int.eq_ofNat_of_zero_le hy
  rw [run_callFunc_extern Tryz.func134 (by kernel_rfl) (by kernel_rfl) (by kernel_rfl) (e := Go.Proofs.sub64Entry) (by kernel_rfl), show Value.int IntKind.u64 0 = Value.int IntKind.u64 ((0 : Nat) : Int) from rfl, Go.Proofs.run_sub64 a b 0 (by omega)]
  simp only [Result.andThen]
  have e1 : (((a + 18446744073709551616 - b - 0) % 18446744073709551616 : Nat) : Int) = ((a : Int) + 18446744073709551616 - b) % 18446744073709551616 := by omega
  have e2 : ((if a < b + 0 then 1 else 0 : Nat) : Int) = c := by
    rw [hc]; by_cases h : a < b
    · rw [if_pos (by omega), if_pos (by omega)]; rfl
    · rw [if_neg (by omega), if_neg (by omega)]; rfl
  rw [e1, e2]

set_option maxHeartbeats 4000000 in
theorem sub_any (h1 l1 h2 l2 : Int) (a0 : 0 ≤ l1) (a1 : l1 ≤ 18446744073709551615) (b0 : 0 ≤ l2) (b1 : l2 ≤ 18446744073709551615)
    (c0 : -9223372036854775808 ≤ h1) (c1 : h1 ≤ 9223372036854775807) (d0 : -9223372036854775808 ≤ h2) (d1 : h2 ≤ 9223372036854775807) (w : World) :
    Calls Tryz.prog 143 #[.agg #[.int .i64 h1, .int .u64 l1], .agg #[.int .i64 h2, .int .u64 l2]] w fun e w' =>
      e = .returned (.agg #[.int .i64 (hi (clamp (h1 * 18446744073709551616 + l1 - (h2 * 18446744073709551616 + l2)))), .int .u64 (lo (clamp (h1 * 18446744073709551616 + l1 - (h2 * 18446744073709551616 + l2))))]) ∧ Below w.heap.size w w' := by
  obtain ⟨bw, hbw0⟩ : ∃ bw : Int, bw = if l1 < l2 then 1 else 0 := ⟨_, rfl⟩; have bw0 : 0 ≤ bw := (by split at hbw0 <;> omega); have bw1 : bw ≤ 1 := (by split at hbw0 <;> omega); have hbw := Lib.hid hbw0
  have hadd := fun w => run_sub64 l1 l2 bw a0 b0 a1 b1 hbw0 w
  have q1 := fun (w' : World) (h : Blk w' w.heap.size #[.int .i64 h1, .int .u64 l1] 94) => h.two
  have q2 := fun (w' : World) (h : Blk w' (w.heap.size + 1) #[.int .i64 h2, .int .u64 l2] 94) => h.two
  have q3 := fun (w' : World) (h : Blk w' (w.heap.size + 1 + 1) #[.int .i64 0, .int .u64 0] 94) => h.two
  have q4 := fun (w' : World) (h : Blk w' (w.heap.size + 1 + 1) #[.int .i64 0, .int .u64 0] 94) => h.free0
  clear hbw0
  rcases hd1 : decide (h1 < 0) with _ | _ <;> rcases hd2 : decide (h2 < 0) with _ | _
  · skip
    go_enter Tryz.func143, Tryz.ntmps143
    go_wp2
    generalize hs : wrap64 (wrap64 (h1 - h2) - bw) = s
    have Hs := Lib.hid hs; clear hs
    refine wp_region_held_drew (S := (fun w' => Blk w' w.heap.size #[.int .i64 h1, .int .u64 l1] 94 ∧ Blk w' (w.heap.size + 1) #[.int .i64 h2, .int .u64 l2] 94 ∧ Blk w' (w.heap.size + 1 + 1) #[.int .i64 0, .int .u64 0] 94 ∧ Below w.heap.size w w')) (by kernel_rfl) ?_ (fun hHeld => ?_)
    · exact ⟨(((Blk.new rfl).old _).old _).drew, ((Blk.new (by simp)).old _).drew, (Blk.new (by simp)).drew, ((((Below.refl _ _).alloc (Nat.le_refl _) _).alloc (by simp) _).alloc (by simp; omega) _).drew⟩
    refine H.take 0 (v := ?_) rfl (by kernel_rfl) (fun _ _ _ h => h) (by rfl) ?_ (by assumption) ?_
    rotate_left
    · (intro wz hSw; (try dsimp only at hSw); go_simp <;> with_reducible rfl)
    try simp only [Act.put, List.setIfInBounds_toArray, List.set_cons_zero, List.set_cons_succ]
    refine H.take 2 (v := ?_) rfl (by kernel_rfl) (fun _ _ _ h => h) (by rfl) ?_ (by assumption) ?_
    rotate_left
    · (intro wz hSw; (try dsimp only at hSw); go_simp <;> with_reducible rfl)
    try simp only [Act.put, List.setIfInBounds_toArray, List.set_cons_zero, List.set_cons_succ]
    refine H.ready [1] (by kernel_rfl) (by simp) ?_
    refine H.one rfl (by rfl) (fun K hK => ?_) AllReadyH.nil
    go_simp
    go_at_call 111
    refine (negative_any _ _ _).mono ?_
    rintro e w' ⟨rfl, hb⟩
    refine hK.out _ _ ?_ (fun hHeld2 => ?_)
    · exact ⟨Blk.keep hb hHeld.1, Blk.keep hb hHeld.2.1, Blk.keep hb hHeld.2.2.1, hHeld.2.2.2.trans (hb.mono hHeld.2.2.2.size)⟩
    clear hHeld hK K; have hHeld := hHeld2; clear hHeld2
    try simp only [Act.put, List.setIfInBounds_toArray, List.set_cons_zero, List.set_cons_succ]
    refine H.ready [3] (by kernel_rfl) (by simp) ?_
    refine H.one rfl (by rfl) (fun K hK => ?_) AllReadyH.nil
    go_simp
    go_at_call 111
    refine (negative_any _ _ _).mono ?_
    rintro e w' ⟨rfl, hb⟩
    refine hK.out _ _ ?_ (fun hHeld2 => ?_)
    · exact ⟨Blk.keep hb hHeld.1, Blk.keep hb hHeld.2.1, Blk.keep hb hHeld.2.2.1, hHeld.2.2.2.trans (hb.mono hHeld.2.2.2.size)⟩
    clear hHeld hK K; have hHeld := hHeld2; clear hHeld2
    try simp only [Act.put, List.setIfInBounds_toArray, List.set_cons_zero, List.set_cons_succ]
    refine H.take 4 (v := ?_) rfl (by kernel_rfl) (fun _ _ _ h => h) (by rfl) ?_ (by assumption) ?_
    rotate_left
    · (intro wz hSw; (try dsimp only at hSw); go_simp <;> with_reducible rfl)
    try simp only [Act.put, List.setIfInBounds_toArray, List.set_cons_zero, List.set_cons_succ]
    refine H.take 5 (v := ?_) rfl (by kernel_rfl) (fun _ _ _ h => h) (by rfl) ?_ (by assumption) ?_
    rotate_left
    · (intro wz hSw; (try dsimp only at hSw); go_simp <;> with_reducible rfl)
    try simp only [Act.put, List.setIfInBounds_toArray, List.set_cons_zero, List.set_cons_succ]
    refine H.skip 6 rfl (by kernel_rfl) (fun _ _ _ h => h) (by rfl) (by assumption) ?_
    try simp only [Act.put, List.setIfInBounds_toArray, List.set_cons_zero, List.set_cons_succ]
    refine H.skip 7 rfl (by kernel_rfl) (fun _ _ _ h => h) (by rfl) (by assumption) ?_
    try simp only [Act.put, List.setIfInBounds_toArray, List.set_cons_zero, List.set_cons_succ]
    refine H.skip 8 rfl (by kernel_rfl) (fun _ _ _ h => h) (by rfl) (by assumption) ?_
    try simp only [Act.put, List.setIfInBounds_toArray, List.set_cons_zero, List.set_cons_succ]
    refine H.skip 9 rfl (by kernel_rfl) (fun _ _ _ h => h) (by rfl) (by assumption) ?_
    try simp only [Act.put, List.setIfInBounds_toArray, List.set_cons_zero, List.set_cons_succ]
    refine H.skip 10 rfl (by kernel_rfl) (fun _ _ _ h => h) (by rfl) (by assumption) ?_
    try simp only [Act.put, List.setIfInBounds_toArray, List.set_cons_zero, List.set_cons_succ]
    refine H.take 11 (v := ?_) rfl (by kernel_rfl) (fun _ _ _ h => h) (by rfl) ?_ (by assumption) ?_
    rotate_left
    · (intro wz hSw; (try dsimp only at hSw); go_simp <;> with_reducible rfl)
    try simp only [Act.put, List.setIfInBounds_toArray, List.set_cons_zero, List.set_cons_succ]
    refine H.done (by kernel_rfl) ?_ _
    obtain ⟨g1, g2, g3, g4⟩ := hHeld
    have e1 := of_decide_eq_false hd1; have e2 := of_decide_eq_false hd2
    go_wp2_with (first | (go_at_call 111; refine (negative_any _ _ _).mono ?_; rintro e w' ⟨rfl, hb⟩; replace g3 := Blk.keep hb g3; replace g4 := g4.trans (hb.mono g4.size)) | (go_at_call 112; refine (bound_low _).mono ?_; rintro e w' ⟨rfl, hb⟩; replace g3 := Blk.keep hb g3; replace g4 := g4.trans (hb.mono g4.size)) | (go_at_call 112; refine (bound_high _).mono ?_; rintro e w' ⟨rfl, hb⟩; replace g3 := Blk.keep hb g3; replace g4 := g4.trans (hb.mono g4.size)))
    have hfin := (g3.put (i := 0) (.int .i64 s)).put (i := 1) (.int .u64 ((l1 + 18446744073709551616 - l2) % 18446744073709551616))
    have hres := sub_fits a0 a1 b0 b1 c0 c1 d0 d1 Hs.out hbw.out (by omega)
    exact bodyPost_ret (v := .agg #[.int .i64 s, .int .u64 ((l1 + 18446744073709551616 - l2) % 18446744073709551616)]) (by simp [results, Tryz.results143, go_sem, (show Blk _ _ #[.int .i64 s, .int .u64 ((l1 + 18446744073709551616 - l2) % 18446744073709551616)] _ from hfin).two]) rfl ⟨ret_w hres.1 hres.2, (g4.setCell (by simp; omega) _).setCell (by simp; omega) _⟩
  · skip
    go_enter Tryz.func143, Tryz.ntmps143
    go_wp2
    generalize hs : wrap64 (wrap64 (h1 - h2) - bw) = s
    have Hs := Lib.hid hs; clear hs
    rcases hd3 : decide (s < 0) with _ | _
    · skip
      refine wp_region_held_drew (S := (fun w' => Blk w' w.heap.size #[.int .i64 h1, .int .u64 l1] 94 ∧ Blk w' (w.heap.size + 1) #[.int .i64 h2, .int .u64 l2] 94 ∧ Blk w' (w.heap.size + 1 + 1) #[.int .i64 0, .int .u64 0] 94 ∧ Below w.heap.size w w')) (by kernel_rfl) ?_ (fun hHeld => ?_)
      · exact ⟨(((Blk.new rfl).old _).old _).drew, ((Blk.new (by simp)).old _).drew, (Blk.new (by simp)).drew, ((((Below.refl _ _).alloc (Nat.le_refl _) _).alloc (by simp) _).alloc (by simp; omega) _).drew⟩
      refine H.take 0 (v := ?_) rfl (by kernel_rfl) (fun _ _ _ h => h) (by rfl) ?_ (by assumption) ?_
      rotate_left
      · (intro wz hSw; (try dsimp only at hSw); go_simp <;> with_reducible rfl)
      try simp only [Act.put, List.setIfInBounds_toArray, List.set_cons_zero, List.set_cons_succ]
      refine H.take 2 (v := ?_) rfl (by kernel_rfl) (fun _ _ _ h => h) (by rfl) ?_ (by assumption) ?_
      rotate_left
      · (intro wz hSw; (try dsimp only at hSw); go_simp <;> with_reducible rfl)
      try simp only [Act.put, List.setIfInBounds_toArray, List.set_cons_zero, List.set_cons_succ]
      refine H.ready [1] (by kernel_rfl) (by simp) ?_
      refine H.one rfl (by rfl) (fun K hK => ?_) AllReadyH.nil
      go_simp
      go_at_call 111
      refine (negative_any _ _ _).mono ?_
      rintro e w' ⟨rfl, hb⟩
      refine hK.out _ _ ?_ (fun hHeld2 => ?_)
      · exact ⟨Blk.keep hb hHeld.1, Blk.keep hb hHeld.2.1, Blk.keep hb hHeld.2.2.1, hHeld.2.2.2.trans (hb.mono hHeld.2.2.2.size)⟩
      clear hHeld hK K; have hHeld := hHeld2; clear hHeld2
      try simp only [Act.put, List.setIfInBounds_toArray, List.set_cons_zero, List.set_cons_succ]
      refine H.ready [3] (by kernel_rfl) (by simp) ?_
      refine H.one rfl (by rfl) (fun K hK => ?_) AllReadyH.nil
      go_simp
      go_at_call 111
      refine (negative_any _ _ _).mono ?_
      rintro e w' ⟨rfl, hb⟩
      refine hK.out _ _ ?_ (fun hHeld2 => ?_)
      · exact ⟨Blk.keep hb hHeld.1, Blk.keep hb hHeld.2.1, Blk.keep hb hHeld.2.2.1, hHeld.2.2.2.trans (hb.mono hHeld.2.2.2.size)⟩
      clear hHeld hK K; have hHeld := hHeld2; clear hHeld2
      try simp only [Act.put, List.setIfInBounds_toArray, List.set_cons_zero, List.set_cons_succ]
      refine H.take 4 (v := ?_) rfl (by kernel_rfl) (fun _ _ _ h => h) (by rfl) ?_ (by assumption) ?_
      rotate_left
      · (intro wz hSw; (try dsimp only at hSw); go_simp <;> with_reducible rfl)
      try simp only [Act.put, List.setIfInBounds_toArray, List.set_cons_zero, List.set_cons_succ]
      refine H.take 5 (v := ?_) rfl (by kernel_rfl) (fun _ _ _ h => h) (by rfl) ?_ (by assumption) ?_
      rotate_left
      · (intro wz hSw; (try dsimp only at hSw); go_simp <;> with_reducible rfl)
      try simp only [Act.put, List.setIfInBounds_toArray, List.set_cons_zero, List.set_cons_succ]
      refine H.take 6 (v := ?_) rfl (by kernel_rfl) (fun _ _ _ h => h) (by rfl) ?_ (by assumption) ?_
      rotate_left
      · (intro wz hSw; (try dsimp only at hSw); go_simp <;> with_reducible rfl)
      try simp only [Act.put, List.setIfInBounds_toArray, List.set_cons_zero, List.set_cons_succ]
      refine H.take 7 (v := ?_) rfl (by kernel_rfl) (fun _ _ _ h => h) (by rfl) ?_ (by assumption) ?_
      rotate_left
      · (intro wz hSw; (try dsimp only at hSw); go_simp <;> with_reducible rfl)
      try simp only [Act.put, List.setIfInBounds_toArray, List.set_cons_zero, List.set_cons_succ]
      refine H.take 8 (v := ?_) rfl (by kernel_rfl) (fun _ _ _ h => h) (by rfl) ?_ (by assumption) ?_
      rotate_left
      · (intro wz hSw; (try dsimp only at hSw); go_simp <;> with_reducible rfl)
      try simp only [Act.put, List.setIfInBounds_toArray, List.set_cons_zero, List.set_cons_succ]
      refine H.ready [9] (by kernel_rfl) (by simp) ?_
      refine H.one rfl (by rfl) (fun K hK => ?_) AllReadyH.nil
      go_simp
      go_at_call 111
      refine (negative_any _ _ _).mono ?_
      rintro e w' ⟨rfl, hb⟩
      refine hK.out _ _ ?_ (fun hHeld2 => ?_)
      · exact ⟨Blk.keep hb hHeld.1, Blk.keep hb hHeld.2.1, Blk.keep hb hHeld.2.2.1, hHeld.2.2.2.trans (hb.mono hHeld.2.2.2.size)⟩
      clear hHeld hK K; have hHeld := hHeld2; clear hHeld2
      try simp only [Act.put, List.setIfInBounds_toArray, List.set_cons_zero, List.set_cons_succ]
      refine H.take 10 (v := ?_) rfl (by kernel_rfl) (fun _ _ _ h => h) (by rfl) ?_ (by assumption) ?_
      rotate_left
      · (intro wz hSw; (try dsimp only at hSw); go_simp <;> with_reducible rfl)
      try simp only [Act.put, List.setIfInBounds_toArray, List.set_cons_zero, List.set_cons_succ]
      refine H.take 11 (v := ?_) rfl (by kernel_rfl) (fun _ _ _ h => h) (by rfl) ?_ (by assumption) ?_
      rotate_left
      · (intro wz hSw; (try dsimp only at hSw); go_simp <;> with_reducible rfl)
      try simp only [Act.put, List.setIfInBounds_toArray, List.set_cons_zero, List.set_cons_succ]
      refine H.done (by kernel_rfl) ?_ _
      obtain ⟨g1, g2, g3, g4⟩ := hHeld
      have e1 := of_decide_eq_false hd1; have e2 := of_decide_eq_true hd2
      go_wp2_with (first | (go_at_call 111; refine (negative_any _ _ _).mono ?_; rintro e w' ⟨rfl, hb⟩; replace g3 := Blk.keep hb g3; replace g4 := g4.trans (hb.mono g4.size)) | (go_at_call 112; refine (bound_low _).mono ?_; rintro e w' ⟨rfl, hb⟩; replace g3 := Blk.keep hb g3; replace g4 := g4.trans (hb.mono g4.size)) | (go_at_call 112; refine (bound_high _).mono ?_; rintro e w' ⟨rfl, hb⟩; replace g3 := Blk.keep hb g3; replace g4 := g4.trans (hb.mono g4.size)))
      have e3 := of_decide_eq_false hd3
      have hfin := (g3.put (i := 0) (.int .i64 s)).put (i := 1) (.int .u64 ((l1 + 18446744073709551616 - l2) % 18446744073709551616))
      have hres := sub_fits a0 a1 b0 b1 c0 c1 d0 d1 Hs.out hbw.out (by omega)
      exact bodyPost_ret (v := .agg #[.int .i64 s, .int .u64 ((l1 + 18446744073709551616 - l2) % 18446744073709551616)]) (by simp [results, Tryz.results143, go_sem, (show Blk _ _ #[.int .i64 s, .int .u64 ((l1 + 18446744073709551616 - l2) % 18446744073709551616)] _ from hfin).two]) rfl ⟨ret_w hres.1 hres.2, (g4.setCell (by simp; omega) _).setCell (by simp; omega) _⟩
    · skip
      refine wp_region_held_drew (S := (fun w' => Blk w' w.heap.size #[.int .i64 h1, .int .u64 l1] 94 ∧ Blk w' (w.heap.size + 1) #[.int .i64 h2, .int .u64 l2] 94 ∧ Blk w' (w.heap.size + 1 + 1) #[.int .i64 0, .int .u64 0] 94 ∧ Below w.heap.size w w')) (by kernel_rfl) ?_ (fun hHeld => ?_)
      · exact ⟨(((Blk.new rfl).old _).old _).drew, ((Blk.new (by simp)).old _).drew, (Blk.new (by simp)).drew, ((((Below.refl _ _).alloc (Nat.le_refl _) _).alloc (by simp) _).alloc (by simp; omega) _).drew⟩
      refine H.take 0 (v := ?_) rfl (by kernel_rfl) (fun _ _ _ h => h) (by rfl) ?_ (by assumption) ?_
      rotate_left
      · (intro wz hSw; (try dsimp only at hSw); go_simp <;> with_reducible rfl)
      try simp only [Act.put, List.setIfInBounds_toArray, List.set_cons_zero, List.set_cons_succ]
      refine H.take 2 (v := ?_) rfl (by kernel_rfl) (fun _ _ _ h => h) (by rfl) ?_ (by assumption) ?_
      rotate_left
      · (intro wz hSw; (try dsimp only at hSw); go_simp <;> with_reducible rfl)
      try simp only [Act.put, List.setIfInBounds_toArray, List.set_cons_zero, List.set_cons_succ]
      refine H.ready [1] (by kernel_rfl) (by simp) ?_
      refine H.one rfl (by rfl) (fun K hK => ?_) AllReadyH.nil
      go_simp
      go_at_call 111
      refine (negative_any _ _ _).mono ?_
      rintro e w' ⟨rfl, hb⟩
      refine hK.out _ _ ?_ (fun hHeld2 => ?_)
      · exact ⟨Blk.keep hb hHeld.1, Blk.keep hb hHeld.2.1, Blk.keep hb hHeld.2.2.1, hHeld.2.2.2.trans (hb.mono hHeld.2.2.2.size)⟩
      clear hHeld hK K; have hHeld := hHeld2; clear hHeld2
      try simp only [Act.put, List.setIfInBounds_toArray, List.set_cons_zero, List.set_cons_succ]
      refine H.ready [3] (by kernel_rfl) (by simp) ?_
      refine H.one rfl (by rfl) (fun K hK => ?_) AllReadyH.nil
      go_simp
      go_at_call 111
      refine (negative_any _ _ _).mono ?_
      rintro e w' ⟨rfl, hb⟩
      refine hK.out _ _ ?_ (fun hHeld2 => ?_)
      · exact ⟨Blk.keep hb hHeld.1, Blk.keep hb hHeld.2.1, Blk.keep hb hHeld.2.2.1, hHeld.2.2.2.trans (hb.mono hHeld.2.2.2.size)⟩
      clear hHeld hK K; have hHeld := hHeld2; clear hHeld2
      try simp only [Act.put, List.setIfInBounds_toArray, List.set_cons_zero, List.set_cons_succ]
      refine H.take 4 (v := ?_) rfl (by kernel_rfl) (fun _ _ _ h => h) (by rfl) ?_ (by assumption) ?_
      rotate_left
      · (intro wz hSw; (try dsimp only at hSw); go_simp <;> with_reducible rfl)
      try simp only [Act.put, List.setIfInBounds_toArray, List.set_cons_zero, List.set_cons_succ]
      refine H.take 5 (v := ?_) rfl (by kernel_rfl) (fun _ _ _ h => h) (by rfl) ?_ (by assumption) ?_
      rotate_left
      · (intro wz hSw; (try dsimp only at hSw); go_simp <;> with_reducible rfl)
      try simp only [Act.put, List.setIfInBounds_toArray, List.set_cons_zero, List.set_cons_succ]
      refine H.take 6 (v := ?_) rfl (by kernel_rfl) (fun _ _ _ h => h) (by rfl) ?_ (by assumption) ?_
      rotate_left
      · (intro wz hSw; (try dsimp only at hSw); go_simp <;> with_reducible rfl)
      try simp only [Act.put, List.setIfInBounds_toArray, List.set_cons_zero, List.set_cons_succ]
      refine H.take 7 (v := ?_) rfl (by kernel_rfl) (fun _ _ _ h => h) (by rfl) ?_ (by assumption) ?_
      rotate_left
      · (intro wz hSw; (try dsimp only at hSw); go_simp <;> with_reducible rfl)
      try simp only [Act.put, List.setIfInBounds_toArray, List.set_cons_zero, List.set_cons_succ]
      refine H.take 8 (v := ?_) rfl (by kernel_rfl) (fun _ _ _ h => h) (by rfl) ?_ (by assumption) ?_
      rotate_left
      · (intro wz hSw; (try dsimp only at hSw); go_simp <;> with_reducible rfl)
      try simp only [Act.put, List.setIfInBounds_toArray, List.set_cons_zero, List.set_cons_succ]
      refine H.ready [9] (by kernel_rfl) (by simp) ?_
      refine H.one rfl (by rfl) (fun K hK => ?_) AllReadyH.nil
      go_simp
      go_at_call 111
      refine (negative_any _ _ _).mono ?_
      rintro e w' ⟨rfl, hb⟩
      refine hK.out _ _ ?_ (fun hHeld2 => ?_)
      · exact ⟨Blk.keep hb hHeld.1, Blk.keep hb hHeld.2.1, Blk.keep hb hHeld.2.2.1, hHeld.2.2.2.trans (hb.mono hHeld.2.2.2.size)⟩
      clear hHeld hK K; have hHeld := hHeld2; clear hHeld2
      try simp only [Act.put, List.setIfInBounds_toArray, List.set_cons_zero, List.set_cons_succ]
      refine H.take 10 (v := ?_) rfl (by kernel_rfl) (fun _ _ _ h => h) (by rfl) ?_ (by assumption) ?_
      rotate_left
      · (intro wz hSw; (try dsimp only at hSw); go_simp <;> with_reducible rfl)
      try simp only [Act.put, List.setIfInBounds_toArray, List.set_cons_zero, List.set_cons_succ]
      refine H.take 11 (v := ?_) rfl (by kernel_rfl) (fun _ _ _ h => h) (by rfl) ?_ (by assumption) ?_
      rotate_left
      · (intro wz hSw; (try dsimp only at hSw); go_simp <;> with_reducible rfl)
      try simp only [Act.put, List.setIfInBounds_toArray, List.set_cons_zero, List.set_cons_succ]
      refine H.done (by kernel_rfl) ?_ _
      obtain ⟨g1, g2, g3, g4⟩ := hHeld
      have e1 := of_decide_eq_false hd1; have e2 := of_decide_eq_true hd2
      go_wp2_with (first | (go_at_call 111; refine (negative_any _ _ _).mono ?_; rintro e w' ⟨rfl, hb⟩; replace g3 := Blk.keep hb g3; replace g4 := g4.trans (hb.mono g4.size)) | (go_at_call 112; refine (bound_low _).mono ?_; rintro e w' ⟨rfl, hb⟩; replace g3 := Blk.keep hb g3; replace g4 := g4.trans (hb.mono g4.size)) | (go_at_call 112; refine (bound_high _).mono ?_; rintro e w' ⟨rfl, hb⟩; replace g3 := Blk.keep hb g3; replace g4 := g4.trans (hb.mono g4.size)))
      have e3 := of_decide_eq_true hd3
      have hfin := (g3.put (i := 0) (.int .i64 9223372036854775807)).put (i := 1) (.int .u64 18446744073709551615)
      have hres := sub_high a0 a1 b0 b1 (by omega) (by omega) Hs.out hbw.out (by omega) (by omega) (by omega)
      exact bodyPost_ret (v := .agg #[.int .i64 9223372036854775807, .int .u64 18446744073709551615]) (by simp [results, Tryz.results143, go_sem, (show Blk _ _ #[.int .i64 9223372036854775807, .int .u64 18446744073709551615] _ from hfin).two]) rfl ⟨ret_w hres.1 hres.2, (g4.setCell (by simp; omega) _).setCell (by simp; omega) _⟩
  · skip
    go_enter Tryz.func143, Tryz.ntmps143
    go_wp2
    generalize hs : wrap64 (wrap64 (h1 - h2) - bw) = s
    have Hs := Lib.hid hs; clear hs
    rcases hd3 : decide (s < 0) with _ | _
    · skip
      refine wp_region_held_drew (S := (fun w' => Blk w' w.heap.size #[.int .i64 h1, .int .u64 l1] 94 ∧ Blk w' (w.heap.size + 1) #[.int .i64 h2, .int .u64 l2] 94 ∧ Blk w' (w.heap.size + 1 + 1) #[.int .i64 0, .int .u64 0] 94 ∧ Below w.heap.size w w')) (by kernel_rfl) ?_ (fun hHeld => ?_)
      · exact ⟨(((Blk.new rfl).old _).old _).drew, ((Blk.new (by simp)).old _).drew, (Blk.new (by simp)).drew, ((((Below.refl _ _).alloc (Nat.le_refl _) _).alloc (by simp) _).alloc (by simp; omega) _).drew⟩
      refine H.take 0 (v := ?_) rfl (by kernel_rfl) (fun _ _ _ h => h) (by rfl) ?_ (by assumption) ?_
      rotate_left
      · (intro wz hSw; (try dsimp only at hSw); go_simp <;> with_reducible rfl)
      try simp only [Act.put, List.setIfInBounds_toArray, List.set_cons_zero, List.set_cons_succ]
      refine H.take 2 (v := ?_) rfl (by kernel_rfl) (fun _ _ _ h => h) (by rfl) ?_ (by assumption) ?_
      rotate_left
      · (intro wz hSw; (try dsimp only at hSw); go_simp <;> with_reducible rfl)
      try simp only [Act.put, List.setIfInBounds_toArray, List.set_cons_zero, List.set_cons_succ]
      refine H.ready [1] (by kernel_rfl) (by simp) ?_
      refine H.one rfl (by rfl) (fun K hK => ?_) AllReadyH.nil
      go_simp
      go_at_call 111
      refine (negative_any _ _ _).mono ?_
      rintro e w' ⟨rfl, hb⟩
      refine hK.out _ _ ?_ (fun hHeld2 => ?_)
      · exact ⟨Blk.keep hb hHeld.1, Blk.keep hb hHeld.2.1, Blk.keep hb hHeld.2.2.1, hHeld.2.2.2.trans (hb.mono hHeld.2.2.2.size)⟩
      clear hHeld hK K; have hHeld := hHeld2; clear hHeld2
      try simp only [Act.put, List.setIfInBounds_toArray, List.set_cons_zero, List.set_cons_succ]
      refine H.ready [3] (by kernel_rfl) (by simp) ?_
      refine H.one rfl (by rfl) (fun K hK => ?_) AllReadyH.nil
      go_simp
      go_at_call 111
      refine (negative_any _ _ _).mono ?_
      rintro e w' ⟨rfl, hb⟩
      refine hK.out _ _ ?_ (fun hHeld2 => ?_)
      · exact ⟨Blk.keep hb hHeld.1, Blk.keep hb hHeld.2.1, Blk.keep hb hHeld.2.2.1, hHeld.2.2.2.trans (hb.mono hHeld.2.2.2.size)⟩
      clear hHeld hK K; have hHeld := hHeld2; clear hHeld2
      try simp only [Act.put, List.setIfInBounds_toArray, List.set_cons_zero, List.set_cons_succ]
      refine H.take 4 (v := ?_) rfl (by kernel_rfl) (fun _ _ _ h => h) (by rfl) ?_ (by assumption) ?_
      rotate_left
      · (intro wz hSw; (try dsimp only at hSw); go_simp <;> with_reducible rfl)
      try simp only [Act.put, List.setIfInBounds_toArray, List.set_cons_zero, List.set_cons_succ]
      refine H.take 5 (v := ?_) rfl (by kernel_rfl) (fun _ _ _ h => h) (by rfl) ?_ (by assumption) ?_
      rotate_left
      · (intro wz hSw; (try dsimp only at hSw); go_simp <;> with_reducible rfl)
      try simp only [Act.put, List.setIfInBounds_toArray, List.set_cons_zero, List.set_cons_succ]
      refine H.take 6 (v := ?_) rfl (by kernel_rfl) (fun _ _ _ h => h) (by rfl) ?_ (by assumption) ?_
      rotate_left
      · (intro wz hSw; (try dsimp only at hSw); go_simp <;> with_reducible rfl)
      try simp only [Act.put, List.setIfInBounds_toArray, List.set_cons_zero, List.set_cons_succ]
      refine H.take 7 (v := ?_) rfl (by kernel_rfl) (fun _ _ _ h => h) (by rfl) ?_ (by assumption) ?_
      rotate_left
      · (intro wz hSw; (try dsimp only at hSw); go_simp <;> with_reducible rfl)
      try simp only [Act.put, List.setIfInBounds_toArray, List.set_cons_zero, List.set_cons_succ]
      refine H.take 8 (v := ?_) rfl (by kernel_rfl) (fun _ _ _ h => h) (by rfl) ?_ (by assumption) ?_
      rotate_left
      · (intro wz hSw; (try dsimp only at hSw); go_simp <;> with_reducible rfl)
      try simp only [Act.put, List.setIfInBounds_toArray, List.set_cons_zero, List.set_cons_succ]
      refine H.ready [9] (by kernel_rfl) (by simp) ?_
      refine H.one rfl (by rfl) (fun K hK => ?_) AllReadyH.nil
      go_simp
      go_at_call 111
      refine (negative_any _ _ _).mono ?_
      rintro e w' ⟨rfl, hb⟩
      refine hK.out _ _ ?_ (fun hHeld2 => ?_)
      · exact ⟨Blk.keep hb hHeld.1, Blk.keep hb hHeld.2.1, Blk.keep hb hHeld.2.2.1, hHeld.2.2.2.trans (hb.mono hHeld.2.2.2.size)⟩
      clear hHeld hK K; have hHeld := hHeld2; clear hHeld2
      try simp only [Act.put, List.setIfInBounds_toArray, List.set_cons_zero, List.set_cons_succ]
      refine H.take 10 (v := ?_) rfl (by kernel_rfl) (fun _ _ _ h => h) (by rfl) ?_ (by assumption) ?_
      rotate_left
      · (intro wz hSw; (try dsimp only at hSw); go_simp <;> with_reducible rfl)
      try simp only [Act.put, List.setIfInBounds_toArray, List.set_cons_zero, List.set_cons_succ]
      refine H.take 11 (v := ?_) rfl (by kernel_rfl) (fun _ _ _ h => h) (by rfl) ?_ (by assumption) ?_
      rotate_left
      · (intro wz hSw; (try dsimp only at hSw); go_simp <;> with_reducible rfl)
      try simp only [Act.put, List.setIfInBounds_toArray, List.set_cons_zero, List.set_cons_succ]
      refine H.done (by kernel_rfl) ?_ _
      obtain ⟨g1, g2, g3, g4⟩ := hHeld
      have e1 := of_decide_eq_true hd1; have e2 := of_decide_eq_false hd2
      go_wp2_with (first | (go_at_call 111; refine (negative_any _ _ _).mono ?_; rintro e w' ⟨rfl, hb⟩; replace g3 := Blk.keep hb g3; replace g4 := g4.trans (hb.mono g4.size)) | (go_at_call 112; refine (bound_low _).mono ?_; rintro e w' ⟨rfl, hb⟩; replace g3 := Blk.keep hb g3; replace g4 := g4.trans (hb.mono g4.size)) | (go_at_call 112; refine (bound_high _).mono ?_; rintro e w' ⟨rfl, hb⟩; replace g3 := Blk.keep hb g3; replace g4 := g4.trans (hb.mono g4.size)))
      have e3 := of_decide_eq_false hd3
      have hfin := (g3.put (i := 0) (.int .i64 (-9223372036854775808))).put (i := 1) (.int .u64 0)
      have hres := sub_low a0 a1 b0 b1 (by omega) (by omega) Hs.out hbw.out (by omega) (by omega) (by omega)
      exact bodyPost_ret (v := .agg #[.int .i64 (-9223372036854775808), .int .u64 0]) (by simp [results, Tryz.results143, go_sem, (show Blk _ _ #[.int .i64 (-9223372036854775808), .int .u64 0] _ from hfin).two]) rfl ⟨ret_w hres.1 hres.2, (g4.setCell (by simp; omega) _).setCell (by simp; omega) _⟩
    · skip
      refine wp_region_held_drew (S := (fun w' => Blk w' w.heap.size #[.int .i64 h1, .int .u64 l1] 94 ∧ Blk w' (w.heap.size + 1) #[.int .i64 h2, .int .u64 l2] 94 ∧ Blk w' (w.heap.size + 1 + 1) #[.int .i64 0, .int .u64 0] 94 ∧ Below w.heap.size w w')) (by kernel_rfl) ?_ (fun hHeld => ?_)
      · exact ⟨(((Blk.new rfl).old _).old _).drew, ((Blk.new (by simp)).old _).drew, (Blk.new (by simp)).drew, ((((Below.refl _ _).alloc (Nat.le_refl _) _).alloc (by simp) _).alloc (by simp; omega) _).drew⟩
      refine H.take 0 (v := ?_) rfl (by kernel_rfl) (fun _ _ _ h => h) (by rfl) ?_ (by assumption) ?_
      rotate_left
      · (intro wz hSw; (try dsimp only at hSw); go_simp <;> with_reducible rfl)
      try simp only [Act.put, List.setIfInBounds_toArray, List.set_cons_zero, List.set_cons_succ]
      refine H.take 2 (v := ?_) rfl (by kernel_rfl) (fun _ _ _ h => h) (by rfl) ?_ (by assumption) ?_
      rotate_left
      · (intro wz hSw; (try dsimp only at hSw); go_simp <;> with_reducible rfl)
      try simp only [Act.put, List.setIfInBounds_toArray, List.set_cons_zero, List.set_cons_succ]
      refine H.ready [1] (by kernel_rfl) (by simp) ?_
      refine H.one rfl (by rfl) (fun K hK => ?_) AllReadyH.nil
      go_simp
      go_at_call 111
      refine (negative_any _ _ _).mono ?_
      rintro e w' ⟨rfl, hb⟩
      refine hK.out _ _ ?_ (fun hHeld2 => ?_)
      · exact ⟨Blk.keep hb hHeld.1, Blk.keep hb hHeld.2.1, Blk.keep hb hHeld.2.2.1, hHeld.2.2.2.trans (hb.mono hHeld.2.2.2.size)⟩
      clear hHeld hK K; have hHeld := hHeld2; clear hHeld2
      try simp only [Act.put, List.setIfInBounds_toArray, List.set_cons_zero, List.set_cons_succ]
      refine H.ready [3] (by kernel_rfl) (by simp) ?_
      refine H.one rfl (by rfl) (fun K hK => ?_) AllReadyH.nil
      go_simp
      go_at_call 111
      refine (negative_any _ _ _).mono ?_
      rintro e w' ⟨rfl, hb⟩
      refine hK.out _ _ ?_ (fun hHeld2 => ?_)
      · exact ⟨Blk.keep hb hHeld.1, Blk.keep hb hHeld.2.1, Blk.keep hb hHeld.2.2.1, hHeld.2.2.2.trans (hb.mono hHeld.2.2.2.size)⟩
      clear hHeld hK K; have hHeld := hHeld2; clear hHeld2
      try simp only [Act.put, List.setIfInBounds_toArray, List.set_cons_zero, List.set_cons_succ]
      refine H.take 4 (v := ?_) rfl (by kernel_rfl) (fun _ _ _ h => h) (by rfl) ?_ (by assumption) ?_
      rotate_left
      · (intro wz hSw; (try dsimp only at hSw); go_simp <;> with_reducible rfl)
      try simp only [Act.put, List.setIfInBounds_toArray, List.set_cons_zero, List.set_cons_succ]
      refine H.take 5 (v := ?_) rfl (by kernel_rfl) (fun _ _ _ h => h) (by rfl) ?_ (by assumption) ?_
      rotate_left
      · (intro wz hSw; (try dsimp only at hSw); go_simp <;> with_reducible rfl)
      try simp only [Act.put, List.setIfInBounds_toArray, List.set_cons_zero, List.set_cons_succ]
      refine H.take 6 (v := ?_) rfl (by kernel_rfl) (fun _ _ _ h => h) (by rfl) ?_ (by assumption) ?_
      rotate_left
      · (intro wz hSw; (try dsimp only at hSw); go_simp <;> with_reducible rfl)
      try simp only [Act.put, List.setIfInBounds_toArray, List.set_cons_zero, List.set_cons_succ]
      refine H.take 7 (v := ?_) rfl (by kernel_rfl) (fun _ _ _ h => h) (by rfl) ?_ (by assumption) ?_
      rotate_left
      · (intro wz hSw; (try dsimp only at hSw); go_simp <;> with_reducible rfl)
      try simp only [Act.put, List.setIfInBounds_toArray, List.set_cons_zero, List.set_cons_succ]
      refine H.take 8 (v := ?_) rfl (by kernel_rfl) (fun _ _ _ h => h) (by rfl) ?_ (by assumption) ?_
      rotate_left
      · (intro wz hSw; (try dsimp only at hSw); go_simp <;> with_reducible rfl)
      try simp only [Act.put, List.setIfInBounds_toArray, List.set_cons_zero, List.set_cons_succ]
      refine H.ready [9] (by kernel_rfl) (by simp) ?_
      refine H.one rfl (by rfl) (fun K hK => ?_) AllReadyH.nil
      go_simp
      go_at_call 111
      refine (negative_any _ _ _).mono ?_
      rintro e w' ⟨rfl, hb⟩
      refine hK.out _ _ ?_ (fun hHeld2 => ?_)
      · exact ⟨Blk.keep hb hHeld.1, Blk.keep hb hHeld.2.1, Blk.keep hb hHeld.2.2.1, hHeld.2.2.2.trans (hb.mono hHeld.2.2.2.size)⟩
      clear hHeld hK K; have hHeld := hHeld2; clear hHeld2
      try simp only [Act.put, List.setIfInBounds_toArray, List.set_cons_zero, List.set_cons_succ]
      refine H.take 10 (v := ?_) rfl (by kernel_rfl) (fun _ _ _ h => h) (by rfl) ?_ (by assumption) ?_
      rotate_left
      · (intro wz hSw; (try dsimp only at hSw); go_simp <;> with_reducible rfl)
      try simp only [Act.put, List.setIfInBounds_toArray, List.set_cons_zero, List.set_cons_succ]
      refine H.take 11 (v := ?_) rfl (by kernel_rfl) (fun _ _ _ h => h) (by rfl) ?_ (by assumption) ?_
      rotate_left
      · (intro wz hSw; (try dsimp only at hSw); go_simp <;> with_reducible rfl)
      try simp only [Act.put, List.setIfInBounds_toArray, List.set_cons_zero, List.set_cons_succ]
      refine H.done (by kernel_rfl) ?_ _
      obtain ⟨g1, g2, g3, g4⟩ := hHeld
      have e1 := of_decide_eq_true hd1; have e2 := of_decide_eq_false hd2
      go_wp2_with (first | (go_at_call 111; refine (negative_any _ _ _).mono ?_; rintro e w' ⟨rfl, hb⟩; replace g3 := Blk.keep hb g3; replace g4 := g4.trans (hb.mono g4.size)) | (go_at_call 112; refine (bound_low _).mono ?_; rintro e w' ⟨rfl, hb⟩; replace g3 := Blk.keep hb g3; replace g4 := g4.trans (hb.mono g4.size)) | (go_at_call 112; refine (bound_high _).mono ?_; rintro e w' ⟨rfl, hb⟩; replace g3 := Blk.keep hb g3; replace g4 := g4.trans (hb.mono g4.size)))
      have e3 := of_decide_eq_true hd3
      have hfin := (g3.put (i := 0) (.int .i64 s)).put (i := 1) (.int .u64 ((l1 + 18446744073709551616 - l2) % 18446744073709551616))
      have hres := sub_fits a0 a1 b0 b1 c0 c1 d0 d1 Hs.out hbw.out (by omega)
      exact bodyPost_ret (v := .agg #[.int .i64 s, .int .u64 ((l1 + 18446744073709551616 - l2) % 18446744073709551616)]) (by simp [results, Tryz.results143, go_sem, (show Blk _ _ #[.int .i64 s, .int .u64 ((l1 + 18446744073709551616 - l2) % 18446744073709551616)] _ from hfin).two]) rfl ⟨ret_w hres.1 hres.2, (g4.setCell (by simp; omega) _).setCell (by simp; omega) _⟩
  · skip
    go_enter Tryz.func143, Tryz.ntmps143
    go_wp2
    generalize hs : wrap64 (wrap64 (h1 - h2) - bw) = s
    have Hs := Lib.hid hs; clear hs
    refine wp_region_held_drew (S := (fun w' => Blk w' w.heap.size #[.int .i64 h1, .int .u64 l1] 94 ∧ Blk w' (w.heap.size + 1) #[.int .i64 h2, .int .u64 l2] 94 ∧ Blk w' (w.heap.size + 1 + 1) #[.int .i64 0, .int .u64 0] 94 ∧ Below w.heap.size w w')) (by kernel_rfl) ?_ (fun hHeld => ?_)
    · exact ⟨(((Blk.new rfl).old _).old _).drew, ((Blk.new (by simp)).old _).drew, (Blk.new (by simp)).drew, ((((Below.refl _ _).alloc (Nat.le_refl _) _).alloc (by simp) _).alloc (by simp; omega) _).drew⟩
    refine H.take 0 (v := ?_) rfl (by kernel_rfl) (fun _ _ _ h => h) (by rfl) ?_ (by assumption) ?_
    rotate_left
    · (intro wz hSw; (try dsimp only at hSw); go_simp <;> with_reducible rfl)
    try simp only [Act.put, List.setIfInBounds_toArray, List.set_cons_zero, List.set_cons_succ]
    refine H.take 2 (v := ?_) rfl (by kernel_rfl) (fun _ _ _ h => h) (by rfl) ?_ (by assumption) ?_
    rotate_left
    · (intro wz hSw; (try dsimp only at hSw); go_simp <;> with_reducible rfl)
    try simp only [Act.put, List.setIfInBounds_toArray, List.set_cons_zero, List.set_cons_succ]
    refine H.ready [1] (by kernel_rfl) (by simp) ?_
    refine H.one rfl (by rfl) (fun K hK => ?_) AllReadyH.nil
    go_simp
    go_at_call 111
    refine (negative_any _ _ _).mono ?_
    rintro e w' ⟨rfl, hb⟩
    refine hK.out _ _ ?_ (fun hHeld2 => ?_)
    · exact ⟨Blk.keep hb hHeld.1, Blk.keep hb hHeld.2.1, Blk.keep hb hHeld.2.2.1, hHeld.2.2.2.trans (hb.mono hHeld.2.2.2.size)⟩
    clear hHeld hK K; have hHeld := hHeld2; clear hHeld2
    try simp only [Act.put, List.setIfInBounds_toArray, List.set_cons_zero, List.set_cons_succ]
    refine H.ready [3] (by kernel_rfl) (by simp) ?_
    refine H.one rfl (by rfl) (fun K hK => ?_) AllReadyH.nil
    go_simp
    go_at_call 111
    refine (negative_any _ _ _).mono ?_
    rintro e w' ⟨rfl, hb⟩
    refine hK.out _ _ ?_ (fun hHeld2 => ?_)
    · exact ⟨Blk.keep hb hHeld.1, Blk.keep hb hHeld.2.1, Blk.keep hb hHeld.2.2.1, hHeld.2.2.2.trans (hb.mono hHeld.2.2.2.size)⟩
    clear hHeld hK K; have hHeld := hHeld2; clear hHeld2
    try simp only [Act.put, List.setIfInBounds_toArray, List.set_cons_zero, List.set_cons_succ]
    refine H.take 4 (v := ?_) rfl (by kernel_rfl) (fun _ _ _ h => h) (by rfl) ?_ (by assumption) ?_
    rotate_left
    · (intro wz hSw; (try dsimp only at hSw); go_simp <;> with_reducible rfl)
    try simp only [Act.put, List.setIfInBounds_toArray, List.set_cons_zero, List.set_cons_succ]
    refine H.take 5 (v := ?_) rfl (by kernel_rfl) (fun _ _ _ h => h) (by rfl) ?_ (by assumption) ?_
    rotate_left
    · (intro wz hSw; (try dsimp only at hSw); go_simp <;> with_reducible rfl)
    try simp only [Act.put, List.setIfInBounds_toArray, List.set_cons_zero, List.set_cons_succ]
    refine H.skip 6 rfl (by kernel_rfl) (fun _ _ _ h => h) (by rfl) (by assumption) ?_
    try simp only [Act.put, List.setIfInBounds_toArray, List.set_cons_zero, List.set_cons_succ]
    refine H.skip 7 rfl (by kernel_rfl) (fun _ _ _ h => h) (by rfl) (by assumption) ?_
    try simp only [Act.put, List.setIfInBounds_toArray, List.set_cons_zero, List.set_cons_succ]
    refine H.skip 8 rfl (by kernel_rfl) (fun _ _ _ h => h) (by rfl) (by assumption) ?_
    try simp only [Act.put, List.setIfInBounds_toArray, List.set_cons_zero, List.set_cons_succ]
    refine H.skip 9 rfl (by kernel_rfl) (fun _ _ _ h => h) (by rfl) (by assumption) ?_
    try simp only [Act.put, List.setIfInBounds_toArray, List.set_cons_zero, List.set_cons_succ]
    refine H.skip 10 rfl (by kernel_rfl) (fun _ _ _ h => h) (by rfl) (by assumption) ?_
    try simp only [Act.put, List.setIfInBounds_toArray, List.set_cons_zero, List.set_cons_succ]
    refine H.take 11 (v := ?_) rfl (by kernel_rfl) (fun _ _ _ h => h) (by rfl) ?_ (by assumption) ?_
    rotate_left
    · (intro wz hSw; (try dsimp only at hSw); go_simp <;> with_reducible rfl)
    try simp only [Act.put, List.setIfInBounds_toArray, List.set_cons_zero, List.set_cons_succ]
    refine H.done (by kernel_rfl) ?_ _
    obtain ⟨g1, g2, g3, g4⟩ := hHeld
    have e1 := of_decide_eq_true hd1; have e2 := of_decide_eq_true hd2
    go_wp2_with (first | (go_at_call 111; refine (negative_any _ _ _).mono ?_; rintro e w' ⟨rfl, hb⟩; replace g3 := Blk.keep hb g3; replace g4 := g4.trans (hb.mono g4.size)) | (go_at_call 112; refine (bound_low _).mono ?_; rintro e w' ⟨rfl, hb⟩; replace g3 := Blk.keep hb g3; replace g4 := g4.trans (hb.mono g4.size)) | (go_at_call 112; refine (bound_high _).mono ?_; rintro e w' ⟨rfl, hb⟩; replace g3 := Blk.keep hb g3; replace g4 := g4.trans (hb.mono g4.size)))
    have hfin := (g3.put (i := 0) (.int .i64 s)).put (i := 1) (.int .u64 ((l1 + 18446744073709551616 - l2) % 18446744073709551616))
    have hres := sub_fits a0 a1 b0 b1 c0 c1 d0 d1 Hs.out hbw.out (by omega)
    exact bodyPost_ret (v := .agg #[.int .i64 s, .int .u64 ((l1 + 18446744073709551616 - l2) % 18446744073709551616)]) (by simp [results, Tryz.results143, go_sem, (show Blk _ _ #[.int .i64 s, .int .u64 ((l1 + 18446744073709551616 - l2) % 18446744073709551616)] _ from hfin).two]) rfl ⟨ret_w hres.1 hres.2, (g4.setCell (by simp; omega) _).setCell (by simp; omega) _⟩

end Go.Proofs.YtmfdnbjmfgljlaaGreatDoor


/-
  Contracts of package wide: Neg, Abs, Cmp, Half, magnitude, signer.
-/


namespace Go.Proofs.YtmfdnbjmfgljlaaGreatDoor

set_option maxRecDepth 100000

open Go.RowKit

/-- The two contracts by numbers. -/
theorem add_n {n m : Int} (hn : InR n) (hm : InR m) (w : World) :
    Calls Tryz.prog 82 #[.agg #[.int .i64 (hi n), .int .u64 (lo n)], .agg #[.int .i64 (hi m), .int .u64 (lo m)]] w fun e w' =>
      e = .returned (.agg #[.int .i64 (hi (clamp (n + m))), .int .u64 (lo (clamp (n + m)))]) ∧ Below w.heap.size w w' := by
  have := add_any (hi n) (lo n) (hi m) (lo m) (lo_bd n).1 (lo_bd n).2 (lo_bd m).1 (lo_bd m).2 (hi_bd hn).1 (hi_bd hn).2 (hi_bd hm).1 (hi_bd hm).2 w
  rwa [hilo, hilo] at this
theorem sub_n {n m : Int} (hn : InR n) (hm : InR m) (w : World) :
    Calls Tryz.prog 143 #[.agg #[.int .i64 (hi n), .int .u64 (lo n)], .agg #[.int .i64 (hi m), .int .u64 (lo m)]] w fun e w' =>
      e = .returned (.agg #[.int .i64 (hi (clamp (n - m))), .int .u64 (lo (clamp (n - m)))]) ∧ Below w.heap.size w w' := by
  have := sub_any (hi n) (lo n) (hi m) (lo m) (lo_bd n).1 (lo_bd n).2 (lo_bd m).1 (lo_bd m).2 (hi_bd hn).1 (hi_bd hn).2 (hi_bd hm).1 (hi_bd hm).2 w
  rwa [hilo, hilo] at this

set_option maxHeartbeats 1000000 in
theorem neg_any (h l : Int) (a0 : 0 ≤ l) (a1 : l ≤ 18446744073709551615) (c0 : -9223372036854775808 ≤ h) (c1 : h ≤ 9223372036854775807) (w : World) :
    Calls Tryz.prog 136 #[.agg #[.int .i64 h, .int .u64 l]] w fun e w' =>
      e = .returned (.agg #[.int .i64 (hi (clamp (-(h * 18446744073709551616 + l)))), .int .u64 (lo (clamp (-(h * 18446744073709551616 + l))))]) ∧ Below w.heap.size w w' := by
  have hsub := fun w => sub_any 0 0 h l (by omega) (by omega) a0 a1 (by omega) (by omega) c0 c1 w
  rw [show (0 : Int) * 18446744073709551616 + 0 - (h * 18446744073709551616 + l) = -(h * 18446744073709551616 + l) from by omega] at hsub
  generalize hr : clamp (-(h * 18446744073709551616 + l)) = r at *
  have q1 := fun (w' : World) (h : Blk w' (w.heap.size + 1) #[.int .i64 0, .int .u64 0] 94) => h.two
  have q2 := fun (w' : World) (h : Blk w' (w.heap.size + 1) #[.int .i64 0, .int .u64 0] 94) => h.free0
  have HS := Lib.hid hsub; clear hsub hr
  go_enter Tryz.func136, Tryz.ntmps136
  go_wp2_with (go_at_call 143; refine (HS.out _).mono ?_; rintro e w' ⟨rfl, hb⟩; have g := Blk.keep hb (Blk.new (b := w.heap.size + 1) (T := 94) (by simp)); have g4 := (((Below.refl w.heap.size w).alloc (Nat.le_refl _) _).alloc (by simp) _).trans (hb.mono (by simp; omega)))
  have hfin := (g.put (i := 0) (.int .i64 (hi r))).put (i := 1) (.int .u64 (lo r))
  exact bodyPost_ret (v := .agg #[.int .i64 (hi r), .int .u64 (lo r)]) (by simp [results, Tryz.results136, go_sem, (show Blk _ _ #[.int .i64 (hi r), .int .u64 (lo r)] _ from hfin).two]) rfl ⟨rfl, (g4.setCell (by simp) _).setCell (by simp) _⟩

theorem or_u64 {a b p : Int} (k : Nat) (hp : p = ((2 ^ k : Nat) : Int)) (ha : a % p = 0) (a0 : 0 ≤ a) (a1 : a ≤ 18446744073709551615) (b0 : 0 ≤ b) (b1 : b < p) (hb : b ≤ 18446744073709551615) :
    bits .or .u64 a b = a + b := by
  obtain ⟨x, rfl⟩ := Int.eq_ofNat_of_zero_le a0
  obtain ⟨y, rfl⟩ := Int.eq_ofNat_of_zero_le b0
  subst hp
  rw [bits_or_u64_nat x y (by omega) (by omega)]
  have hx : x % 2 ^ k = 0 := by exact_mod_cast ha
  have hy : y < 2 ^ k := by exact_mod_cast b1
  have hd : 2 ^ k * (x / 2 ^ k) = x := Nat.mul_div_cancel' (Nat.dvd_of_mod_eq_zero hx)
  have := Nat.two_pow_add_eq_or_of_lt hy (x / 2 ^ k)
  rw [hd] at this
  rw [← this]; push_cast; rfl

/-- The size of a number. -/
def sz (n : Int) : Int := if n < 0 then -n else n
theorem sz_pos {n : Int} (h : 0 ≤ n) : sz n = n := by unfold sz; rw [if_neg (by omega)]
theorem sz_neg {n : Int} (h : n < 0) : sz n = -n := by unfold sz; rw [if_pos h]
theorem sz_bd {n : Int} (h : InR n) : 0 ≤ sz n ∧ sz n ≤ 170141183460469231731687303715884105728 := by unfold InR at h; unfold sz; split <;> omega

set_option maxHeartbeats 1000000 in
theorem magnitude_pos {h : Int} (l : Int) (c1 : h ≤ 9223372036854775807) (hn : ¬ h < 0) (w : World) :
    Calls Tryz.prog 113 #[.agg #[.int .i64 h, .int .u64 l]] w fun e w' =>
      e = .returned (.tuple #[.int .u64 h, .int .u64 l]) ∧ Below w.heap.size w w' := by
  have e1 : IntKind.u64.wrap h = h := by rw [IntKind.wrap_u64]; omega
  have q1 := fun (w' : World) (h : Blk w' (w.heap.size) #[.int .i64 h, .int .u64 l] 94) => h.two
  go_enter Tryz.func113, Tryz.ntmps113
  go_wp2_with (go_at_call 111; refine (negative_no _ hn _).mono ?_; rintro e w' ⟨rfl, hb⟩; have g := Blk.keep hb (Blk.new (b := w.heap.size) (T := 94) rfl); have g4 := ((Below.refl w.heap.size w).alloc (Nat.le_refl _) _).trans (hb.mono (by simp)))
  refine wp_region_held_drew (S := (fun w' => Blk w' w.heap.size #[.int .i64 h, .int .u64 l] 94)) (by kernel_rfl) ?_ (fun hHeld => ?_)
  · exact g.drew
  refine H.take 0 (v := ?_) rfl (by kernel_rfl) (fun _ _ _ h => h) (by rfl) ?_ (by assumption) ?_
  rotate_left
  · (intro wz hSw; (try dsimp only at hSw); go_simp <;> with_reducible rfl)
  try simp only [Act.put, List.setIfInBounds_toArray, List.set_cons_zero, List.set_cons_succ]
  refine H.take 1 (v := ?_) rfl (by kernel_rfl) (fun _ _ _ h => h) (by rfl) ?_ (by assumption) ?_
  rotate_left
  · (intro wz hSw; (try dsimp only at hSw); go_simp <;> with_reducible rfl)
  try simp only [Act.put, List.setIfInBounds_toArray, List.set_cons_zero, List.set_cons_succ]
  refine H.take 2 (v := ?_) rfl (by kernel_rfl) (fun _ _ _ h => h) (by rfl) ?_ (by assumption) ?_
  rotate_left
  · (intro wz hSw; (try dsimp only at hSw); go_simp <;> with_reducible rfl)
  try simp only [Act.put, List.setIfInBounds_toArray, List.set_cons_zero, List.set_cons_succ]
  refine H.take 3 (v := ?_) rfl (by kernel_rfl) (fun _ _ _ h => h) (by rfl) ?_ (by assumption) ?_
  rotate_left
  · (intro wz hSw; (try dsimp only at hSw); go_simp <;> with_reducible rfl)
  try simp only [Act.put, List.setIfInBounds_toArray, List.set_cons_zero, List.set_cons_succ]
  refine H.take 4 (v := ?_) rfl (by kernel_rfl) (fun _ _ _ h => h) (by rfl) ?_ (by assumption) ?_
  rotate_left
  · (intro wz hSw; (try dsimp only at hSw); go_simp <;> with_reducible rfl)
  try simp only [Act.put, List.setIfInBounds_toArray, List.set_cons_zero, List.set_cons_succ]
  refine H.take 5 (v := ?_) rfl (by kernel_rfl) (fun _ _ _ h => h) (by rfl) ?_ (by assumption) ?_
  rotate_left
  · (intro wz hSw; (try dsimp only at hSw); go_simp <;> with_reducible rfl)
  try simp only [Act.put, List.setIfInBounds_toArray, List.set_cons_zero, List.set_cons_succ]
  refine H.take 6 (v := ?_) rfl (by kernel_rfl) (fun _ _ _ h => h) (by rfl) ?_ (by assumption) ?_
  rotate_left
  · (intro wz hSw; (try dsimp only at hSw); go_simp <;> with_reducible rfl)
  try simp only [Act.put, List.setIfInBounds_toArray, List.set_cons_zero, List.set_cons_succ]
  refine H.done (by kernel_rfl) ?_ _
  go_wp2
  go_ret2
  exact ⟨rfl, g4.drew⟩
/-- Sub64 with a borrow. -/
theorem run_sub64b (x y b c : Int) (hx : 0 ≤ x) (hy : 0 ≤ y) (hb0 : 0 ≤ b) (hb1 : b ≤ 1) (hx1 : x ≤ 18446744073709551615) (hy1 : y ≤ 18446744073709551615) (hc : c = if x < y + b then 1 else 0) (w : World) :
    (callFunc 134 #[.int .u64 x, .int .u64 y, .int .u64 b]).run Tryz.prog w =
      .ok (.value (.tuple #[.int .u64 ((x + 18446744073709551616 - y - b) % 18446744073709551616), .int .u64 c])) w := by
  obtain ⟨x, rfl⟩ := Int.eq_ofNat_of_zero_le hx
  obtain ⟨y, rfl⟩ := Int.eq_ofNat_of_zero_le hy
  obtain ⟨b, rfl⟩ := Int.eq_ofNat_of_zero_le hb0
  rw [run_callFunc_extern Tryz.func134 (by kernel_rfl) (by kernel_rfl) (by kernel_rfl) (e := Go.Proofs.sub64Entry) (by kernel_rfl), Go.Proofs.run_sub64 x y b (by omega)]
  simp only [Result.andThen]
  have e1 : (((x + 18446744073709551616 - y - b) % 18446744073709551616 : Nat) : Int) = ((x : Int) + 18446744073709551616 - y - b) % 18446744073709551616 := by omega
  have e2 : ((if x < y + b then 1 else 0 : Nat) : Int) = c := by
    rw [hc]; by_cases h : x < y + b
    · rw [if_pos (by omega), if_pos (by omega)]; rfl
    · rw [if_neg (by omega), if_neg (by omega)]; rfl
  rw [e1, e2]

set_option maxHeartbeats 1000000 in
theorem magnitude_neg {h l : Int} (a0 : 0 ≤ l) (a1 : l ≤ 18446744073709551615) (c0 : -9223372036854775808 ≤ h) (hn : h < 0) (w : World) :
    Calls Tryz.prog 113 #[.agg #[.int .i64 h, .int .u64 l]] w fun e w' =>
      e = .returned (.tuple #[.int .u64 (hi (-(h * 18446744073709551616 + l))), .int .u64 (lo (-(h * 18446744073709551616 + l)))]) ∧ Below w.heap.size w w' := by
  obtain ⟨b, hb0⟩ : ∃ b : Int, b = if 0 < l then 1 else 0 := ⟨_, rfl⟩
  obtain ⟨b2, hb3⟩ : ∃ b2 : Int, b2 = if 0 < h + 18446744073709551616 + b then 1 else 0 := ⟨_, rfl⟩
  have b0 : 0 ≤ b := by split at hb0 <;> omega
  have b1 : b ≤ 1 := by split at hb0 <;> omega
  have hs1 := fun w => run_sub64 0 l b (by omega) a0 (by omega) a1 hb0 w
  have hs2 := fun w => run_sub64b 0 (h + 18446744073709551616) b b2 (by omega) (by omega) b0 b1 (by omega) (by omega) hb3 w
  have e0 : IntKind.u64.wrap h = h + 18446744073709551616 := by rw [IntKind.wrap_u64]; omega
  have e1 : (0 + 18446744073709551616 - (h + 18446744073709551616) - b) % 18446744073709551616 = hi (-(h * 18446744073709551616 + l)) := by
    unfold hi; split at hb0 <;> omega
  have e2 : (0 + 18446744073709551616 - l) % 18446744073709551616 = lo (-(h * 18446744073709551616 + l)) := by
    unfold lo; omega
  rw [e2] at hs1; rw [e1] at hs2
  clear e1 e2 hb0 hb3
  generalize hi (-(h * 18446744073709551616 + l)) = X at *
  generalize lo (-(h * 18446744073709551616 + l)) = Y at *
  have q1 := fun (w' : World) (h : Blk w' (w.heap.size) #[.int .i64 h, .int .u64 l] 94) => h.two
  go_enter Tryz.func113, Tryz.ntmps113
  go_wp2_with (go_at_call 111; refine (negative_yes _ hn _).mono ?_; rintro e w' ⟨rfl, hb⟩; have g := Blk.keep hb (Blk.new (b := w.heap.size) (T := 94) rfl); have g4 := ((Below.refl w.heap.size w).alloc (Nat.le_refl _) _).trans (hb.mono (by simp)))
  go_ret2
  exact ⟨rfl, g4⟩
theorem magnitude_n {n : Int} (hn : InR n) (w : World) :
    Calls Tryz.prog 113 #[.agg #[.int .i64 (hi n), .int .u64 (lo n)]] w fun e w' =>
      e = .returned (.tuple #[.int .u64 (hi (sz n)), .int .u64 (lo (sz n))]) ∧ Below w.heap.size w w' := by
  by_cases h : n < 0
  · have := magnitude_neg (lo_bd n).1 (lo_bd n).2 (hi_bd hn).1 ((hi_neg n).2 h) w
    rwa [hilo, ← sz_neg h] at this
  · have := magnitude_pos (lo n) (hi_bd hn).2 (fun k => h ((hi_neg n).1 k)) w
    rwa [sz_pos (by omega)]

set_option maxHeartbeats 1000000 in
theorem signer_any (m : Bool) (w : World) :
    Calls Tryz.prog 115 #[.bool m] w fun e w' => e = .returned (.func (.func 135) #[] #[.pointer (some ⟨w.heap.size, 0, none⟩)]) ∧ w' = w.alloc (.cells #[.bool m] 4) := by
  go_enter Tryz.func115, Tryz.ntmps115
  have hmf : ∀ (fn : Fn) (first cap : Array Value) (w : World), (Instr.makeFunc fn first cap).run Tryz.prog w = .ok (.func fn first cap) w := fun _ _ _ _ => rfl
  go_wp2
  go_ret
  exact ⟨rfl, rfl⟩

/-- With its sign. -/
def sgn (m : Bool) (u : Int) : Int := if m then -u else u
set_option maxHeartbeats 1000000 in
theorem signed_any (m : Bool) {x y : Int} (x0 : 0 ≤ x) (x1 : x ≤ 18446744073709551615) (y0 : 0 ≤ y) (y1 : y ≤ 18446744073709551615) {b : Nat} {w : World} (g : Blk w b #[.bool m] 4) :
    Calls Tryz.prog 135 #[.int .u64 x, .int .u64 y, .pointer (some ⟨b, 0, none⟩)] w fun e w' =>
      e = .returned (.agg #[.int .i64 (hi (clamp (sgn m (x * 18446744073709551616 + y)))), .int .u64 (lo (clamp (sgn m (x * 18446744073709551616 + y))))]) ∧ Below w.heap.size w w' := by
  have g0 := g.lt
  have g1 := g.one
  rcases (by omega : 9223372036854775807 < x ∨ x ≤ 9223372036854775807) with hx | hx
  · have hcell : ∀ o, (w.alloc o).cell? ⟨b, 0, none⟩ = some (.bool m) := fun o => (g.old o).one
    have hres : hi (clamp (sgn m (x * 18446744073709551616 + y))) = (if m then -9223372036854775808 else 9223372036854775807) ∧ lo (clamp (sgn m (x * 18446744073709551616 + y))) = (if m then 0 else 18446744073709551615) := by
      unfold sgn clamp hi lo
      cases m
      · simp only [Bool.false_eq_true, if_false]; rw [if_neg (by omega), if_pos (by omega)]; omega
      · simp only [if_true]; split
        · omega
        · have : -(x * 18446744073709551616 + y) = -170141183460469231731687303715884105728 := by omega
          rw [if_neg (by omega), this]; omega
    rw [hres.1, hres.2]; clear hres
    have q1 := fun (w' : World) (h : Blk w' w.heap.size #[.int .i64 0, .int .u64 0] 94) => h.two
    have q2 := fun (w' : World) (h : Blk w' w.heap.size #[.int .i64 0, .int .u64 0] 94) => h.free0
    cases m
    · go_enter Tryz.func135, Tryz.ntmps135
      go_wp2_with (go_at_call 112; refine (bound_high _).mono ?_; rintro e w' ⟨rfl, hb⟩; have g := Blk.keep hb (Blk.new (b := w.heap.size) (T := 94) rfl); have gB := ((Below.refl w.heap.size w).alloc (Nat.le_refl _) _).trans (hb.mono (by simp)))
      have hfin := (g.put (i := 0) (.int .i64 9223372036854775807)).put (i := 1) (.int .u64 18446744073709551615)
      exact bodyPost_ret (v := .agg #[.int .i64 9223372036854775807, .int .u64 18446744073709551615]) (by simp [results, Tryz.results135, go_sem, (show Blk _ _ #[.int .i64 9223372036854775807, .int .u64 18446744073709551615] _ from hfin).two]) rfl ⟨rfl, (gB.setCell (by simp) _).setCell (by simp) _⟩
    · go_enter Tryz.func135, Tryz.ntmps135
      go_wp2_with (go_at_call 112; refine (bound_low _).mono ?_; rintro e w' ⟨rfl, hb⟩; have g := Blk.keep hb (Blk.new (b := w.heap.size) (T := 94) rfl); have gB := ((Below.refl w.heap.size w).alloc (Nat.le_refl _) _).trans (hb.mono (by simp)))
      have hfin := (g.put (i := 0) (.int .i64 (-9223372036854775808))).put (i := 1) (.int .u64 0)
      exact bodyPost_ret (v := .agg #[.int .i64 (-9223372036854775808), .int .u64 0]) (by simp [results, Tryz.results135, go_sem, (show Blk _ _ #[.int .i64 (-9223372036854775808), .int .u64 0] _ from hfin).two]) rfl ⟨rfl, (gB.setCell (by simp) _).setCell (by simp) _⟩
  · have hcell : ∀ o, (w.alloc o).cell? ⟨b, 0, none⟩ = some (.bool m) := fun o => (g.old o).one
    have hcell2 : ∀ o o2, ((w.alloc o).alloc o2).cell? ⟨b, 0, none⟩ = some (.bool m) := fun o o2 => ((g.old o).old o2).one
    have q1 := fun (w' : World) (h : Blk w' w.heap.size #[.int .i64 0, .int .u64 0] 94) => h.two
    have q2 := fun (w' : World) (h : Blk w' w.heap.size #[.int .i64 0, .int .u64 0] 94) => h.free0
    have ei : IntKind.i64.wrap x = x := by rw [IntKind.wrap_i64]; omega
    have hneg := fun w => neg_any x y y0 y1 (by omega) hx w
    cases m
    · have hres : clamp (sgn false (x * 18446744073709551616 + y)) = x * 18446744073709551616 + y := by
        unfold sgn; simp only [Bool.false_eq_true, if_false]; exact clamp_of (inR_of y0 y1 (by omega) hx)
      rw [hres, hi_of y0 y1 rfl, lo_of y0 y1 rfl]
      clear hneg hres
      go_enter Tryz.func135, Tryz.ntmps135
      go_wp2
      exact bodyPost_ret (v := .agg #[.int .i64 x, .int .u64 y]) (by simp [results, Tryz.results135, go_sem]) rfl ⟨rfl, ((Below.refl _ _).alloc (Nat.le_refl _) _).alloc (by simp) _⟩
    · unfold sgn; simp only [if_true]
      generalize clamp (-(x * 18446744073709551616 + y)) = r at *
      have HN := Lib.hid hneg; clear hneg
      go_enter Tryz.func135, Tryz.ntmps135
      go_wp2_with (go_at_call 136; refine (HN.out _).mono ?_; rintro e w' ⟨rfl, hb⟩; have g := Blk.keep hb (Blk.old (Blk.new (b := w.heap.size) (T := 94) rfl) _); have gB := (((Below.refl w.heap.size w).alloc (Nat.le_refl _) _).alloc (by simp) _).trans (hb.mono (by simp; omega)))
      have hfin := (g.put (i := 0) (.int .i64 (hi r))).put (i := 1) (.int .u64 (lo r))
      exact bodyPost_ret (v := .agg #[.int .i64 (hi r), .int .u64 (lo r)]) (by simp [results, Tryz.results135, go_sem, (show Blk _ _ #[.int .i64 (hi r), .int .u64 (lo r)] _ from hfin).two]) rfl ⟨rfl, (gB.setCell (by simp) _).setCell (by simp) _⟩

theorem mul64_i (x y : Int) (x0 : 0 ≤ x) (x1 : x ≤ 18446744073709551615) (y0 : 0 ≤ y) (y1 : y ≤ 18446744073709551615) (w : World) :
    Calls Tryz.prog 114 #[.int .u64 x, .int .u64 y] w fun e w' => e = .returned (.tuple #[.int .u64 (hi (x * y)), .int .u64 (lo (x * y))]) ∧ w = w' := by
  obtain ⟨a, rfl⟩ := Int.eq_ofNat_of_zero_le x0
  obtain ⟨b, rfl⟩ := Int.eq_ofNat_of_zero_le y0
  refine (Tryz.bits_Mul64 a b (by omega) (by omega) w).mono ?_
  rintro e w' ⟨rfl, rfl⟩
  exact ⟨rfl, rfl⟩

end Go.Proofs.YtmfdnbjmfgljlaaGreatDoor


/-
  Contracts of package wide: Abs, Cmp, Clip; and of the statements' own 'ends'.
-/

namespace Go.Proofs.YtmfdnbjmfgljlaaGreatDoor

set_option maxRecDepth 100000

open Go.RowKit

theorem hi_nn {x : Int} (h : 0 ≤ x) : 0 ≤ hi x := by unfold hi; omega
theorem hi_le {x c : Int} (h : x ≤ c) : hi x ≤ c / 18446744073709551616 := by unfold hi; omega
theorem neg_n {n : Int} (hn : InR n) (w : World) :
    Calls Tryz.prog 136 #[.agg #[.int .i64 (hi n), .int .u64 (lo n)]] w fun e w' =>
      e = .returned (.agg #[.int .i64 (hi (clamp (-n))), .int .u64 (lo (clamp (-n)))]) ∧ Below w.heap.size w w' := by
  have := neg_any (hi n) (lo n) (lo_bd n).1 (lo_bd n).2 (hi_bd hn).1 (hi_bd hn).2 w
  rwa [hilo] at this
theorem negative_n (n : Int) (w : World) :
    Calls Tryz.prog 111 #[.agg #[.int .i64 (hi n), .int .u64 (lo n)]] w fun e w' => e = .returned (.bool (decide (n < 0))) ∧ Below w.heap.size w w' := by
  have := negative_any (hi n) (lo n) w
  rwa [decide_eq_decide.2 (hi_neg n)] at this

/-- Which is greater, as -1, 0, 1. -/
def cmpI (a b : Int) : Int := if a = b then 0 else if a < b then -1 else 1
theorem hilo_lt (a b : Int) : a < b ↔ hi a < hi b ∨ hi a = hi b ∧ lo a < lo b := by unfold hi lo; omega

end Go.Proofs.YtmfdnbjmfgljlaaGreatDoor


/-
  Contracts of package wide: Mul, Scale.
-/

namespace Go.Proofs.YtmfdnbjmfgljlaaGreatDoor

set_option maxRecDepth 100000

open Go.RowKit

theorem mul_bd {x y : Int} (x0 : 0 ≤ x) (x1 : x ≤ 9223372036854775808) (y0 : 0 ≤ y) (y1 : y ≤ 9223372036854775808) : 0 ≤ x * y ∧ x * y ≤ 85070591730234615865843651857942052864 := by
  refine ⟨Int.mul_nonneg x0 y0, ?_⟩
  have := Int.mul_le_mul x1 y1 y0 (by omega)
  exact this
theorem sgn_mul {a b : Int} (a0 : -9223372036854775808 ≤ a) (a1 : a ≤ 9223372036854775807) (b0 : -9223372036854775808 ≤ b) (b1 : b ≤ 9223372036854775807) :
    clamp (sgn (decide (a < 0) != decide (b < 0)) (sz a * sz b)) = a * b := by
  rcases (by omega : a < 0 ∨ 0 ≤ a) with ha | ha <;> rcases (by omega : b < 0 ∨ 0 ≤ b) with hb | hb
  · have h := mul_bd (x := -a) (y := -b) (by omega) (by omega) (by omega) (by omega)
    rw [sz_neg ha, sz_neg hb, decide_eq_true ha, decide_eq_true hb, Int.neg_mul_neg] at *
    simp only [bne_self_eq_false, sgn, Bool.false_eq_true, if_false]
    exact clamp_of (by unfold InR; omega)
  · have h := mul_bd (x := -a) (y := b) (by omega) (by omega) (by omega) (by omega)
    rw [sz_neg ha, sz_pos hb, decide_eq_true ha, decide_eq_false (by omega)]
    rw [Int.neg_mul] at *
    simp only [sgn, bne, Bool.true_beq, Bool.not_false, if_true, Int.neg_neg]
    exact clamp_of (by unfold InR; omega)
  · have h := mul_bd (x := a) (y := -b) (by omega) (by omega) (by omega) (by omega)
    rw [sz_pos ha, sz_neg hb, decide_eq_false (by omega), decide_eq_true hb]
    rw [Int.mul_neg] at *
    simp only [sgn, bne, Bool.false_beq, Bool.not_true, Bool.not_false, if_true, Int.neg_neg]
    exact clamp_of (by unfold InR; omega)
  · have h := mul_bd (x := a) (y := b) (by omega) (by omega) (by omega) (by omega)
    rw [sz_pos ha, sz_pos hb, decide_eq_false (by omega), decide_eq_false (by omega)]
    simp only [bne_self_eq_false, sgn, Bool.false_eq_true, if_false]
    exact clamp_of (by unfold InR; omega)

/-- A size times a number of 32 bits, in two words. -/
theorem scale_parts (H L n A B C D : Int) (hA : A = hi (L * n)) (hB : B = lo (L * n)) (hC : C = hi (H * n)) (hD : D = lo (H * n)) :
    (H * 18446744073709551616 + L) * n = (C * 18446744073709551616 + D + A) * 18446744073709551616 + B := by
  have h1 := hilo (L * n); have h2 := hilo (H * n)
  rw [← hA, ← hB] at h1; rw [← hC, ← hD] at h2
  rw [Int.add_mul, Int.mul_right_comm, ← h1, ← h2]; omega

theorem sgn_scale (n k : Int) : sgn (decide (n < 0)) (sz n * k) = n * k := by
  rcases (by omega : n < 0 ∨ 0 ≤ n) with h | h
  · rw [sz_neg h, decide_eq_true h]; simp only [sgn, if_true]; rw [Int.neg_mul, Int.neg_neg]
  · rw [sz_pos h, decide_eq_false (by omega)]; simp only [sgn, Bool.false_eq_true, if_false]

set_option maxHeartbeats 1000000 in
theorem scale_any {n : Int} {k : Int} (hn : InR n) (k0 : 0 ≤ k) (k1 : k ≤ 4294967295) (w : World) :
    Calls Tryz.prog 83 #[.agg #[.int .i64 (hi n), .int .u64 (lo n)], .int .u32 k] w fun e w' =>
      e = .returned (.agg #[.int .i64 (hi (clamp (n * k))), .int .u64 (lo (clamp (n * k)))]) ∧ Below w.heap.size w w' := by
  have hs := sz_bd hn
  have lb := lo_bd (sz n)
  have hb0 : 0 ≤ hi (sz n) := hi_nn hs.1
  have hb1 : hi (sz n) ≤ 9223372036854775808 := hi_le hs.2
  have eN : IntKind.u64.wrap k = k := by rw [IntKind.wrap_u64]; omega
  have ma := fun w => magnitude_n hn w
  have m1 := fun w => mul64_i (lo (sz n)) k lb.1 lb.2 k0 (by omega) w
  have m2 := fun w => mul64_i (hi (sz n)) k hb0 (by omega) k0 (by omega) w
  have hp := scale_parts (hi (sz n)) (lo (sz n)) k _ _ _ _ rfl rfl rfl rfl
  rw [hilo] at hp
  have a1 := lo_bd (lo (sz n) * k); have a2 := lo_bd (hi (sz n) * k)
  have a3 : 0 ≤ hi (lo (sz n) * k) := hi_nn (Int.mul_nonneg lb.1 k0)
  have a4 : hi (lo (sz n) * k) ≤ 4294967295 := by have := hi_le (Int.mul_le_mul lb.2 k1 k0 (by omega)); omega
  have a5 : 0 ≤ hi (hi (sz n) * k) := hi_nn (Int.mul_nonneg hb0 k0)
  have a6 : hi (hi (sz n) * k) ≤ 4294967295 := by have := hi_le (Int.mul_le_mul hb1 k1 k0 (by omega)); omega
  generalize hi (lo (sz n) * k) = A at *
  generalize lo (lo (sz n) * k) = B at *
  generalize hi (hi (sz n) * k) = C at *
  generalize lo (hi (sz n) * k) = D at *
  have hadd := fun w => run_add64 D A 0 a2.1 a3 (by omega) (by omega) w
  have q1 := fun (w' : World) (h : Blk w' w.heap.size #[.int .i64 (hi n), .int .u64 (lo n)] 94) => h.two
  have q2 := fun (w' : World) (h : Blk w' (w.heap.size + 1) #[.int .i64 0, .int .u64 0] 94) => h.two
  have q3 := fun (w' : World) (h : Blk w' (w.heap.size + 1) #[.int .i64 0, .int .u64 0] 94) => h.free0
  have MA := Lib.hid ma; have M1 := Lib.hid m1; have M2 := Lib.hid m2; have HP := Lib.hid hp
  clear ma m1 m2 hp
  rcases (by omega : C + (D + A) / 18446744073709551616 = 0 ∨ 0 < C + (D + A) / 18446744073709551616) with hfit | hfit
  · have hres : clamp (sgn (decide (n < 0)) ((D + A) % 18446744073709551616 * 18446744073709551616 + B)) = clamp (n * k) := by
      rw [← sgn_scale n k, HP.out]; congr 2; omega
    have hs := fun (b : Nat) (w : World) (g : Blk w b #[.bool (decide (n < 0))] 4) => signed_any (decide (n < 0)) (x := (D + A) % 18446744073709551616) (y := B) (by omega) (by omega) a1.1 a1.2 g
    rw [hres] at hs; clear hres
    have HS := Lib.hid hs; clear hs
    have e0 : C = 0 := by omega
    have e1 : (D + A) / 18446744073709551616 = 0 := by omega
    subst e0; clear hfit
    go_enter Tryz.func83, Tryz.ntmps83
    go_wp2_with (first | (go_at_call 113; refine (MA.out _).mono ?_; rintro e w1 ⟨rfl, hb1⟩; have g := Blk.keep hb1 (Blk.new (b := w.heap.size + 1) (T := 94) (by simp)); have gA := Blk.keep hb1 (Blk.old (Blk.new (b := w.heap.size) (T := 94) rfl) _); have gB := (((Below.refl w.heap.size w).alloc (Nat.le_refl _) _).alloc (by simp) _).trans (hb1.mono (by simp; omega))) | (go_at_call 114; (first | ((with_reducible refine (M1.out _).mono ?_); rintro e w1 ⟨rfl, rfl⟩) | ((with_reducible refine (M2.out _).mono ?_); rintro e w1 ⟨rfl, rfl⟩))) | (go_at_call 111; refine (negative_n _ _).mono ?_; rintro e w1 ⟨rfl, hb1⟩; replace g := Blk.keep hb1 g; replace gA := Blk.keep hb1 gA; replace gB := gB.trans (hb1.mono gB.size)) | (go_at_call 115; refine (signer_any _ _).mono ?_; rintro e w1 ⟨rfl, rfl⟩; replace g := Blk.old g (.cells #[.bool (decide (n < 0))] 4); replace gB := gB.alloc gB.size (.cells #[.bool (decide (n < 0))] 4)))
    refine (HS.out _ _ (Blk.new rfl)).mono ?_
    rintro e w1 ⟨rfl, hb1⟩; replace g := Blk.keep hb1 g; replace gB := gB.trans (hb1.mono gB.size)
    go_wp2
    have hfin := (g.put (i := 0) (.int .i64 (hi (clamp (n * k))))).put (i := 1) (.int .u64 (lo (clamp (n * k))))
    exact bodyPost_ret (v := .agg #[.int .i64 (hi (clamp (n * k))), .int .u64 (lo (clamp (n * k)))]) (by simp [results, Tryz.results83, go_sem, (show Blk _ _ #[.int .i64 (hi (clamp (n * k))), .int .u64 (lo (clamp (n * k)))] _ from hfin).two]) rfl ⟨rfl, (gB.setCell (by simp) _).setCell (by simp) _⟩
  · have hbig : 340282366920938463463374607431768211456 ≤ sz n * k := by rw [HP.out]; omega
    have e1 : ((C + (D + A) / 18446744073709551616) != 0) = true := by rw [bne_iff_ne]; omega
    have e2 : ((C + (D + A) / 18446744073709551616) == 0) = false := by rw [beq_eq_false_iff_ne]; omega
    rcases (by omega : n < 0 ∨ ¬ n < 0) with hneg | hneg
    · have hd := decide_eq_true hneg
      have hr : clamp (n * k) = -170141183460469231731687303715884105728 := by
        have := sgn_scale n k; rw [hd] at this; simp only [sgn, if_true] at this
        unfold clamp; rw [if_pos (by omega)]
      rw [hr]; clear hr
      go_enter Tryz.func83, Tryz.ntmps83
      go_wp2_with (first | (go_at_call 113; refine (MA.out _).mono ?_; rintro e w1 ⟨rfl, hb1⟩; have g := Blk.keep hb1 (Blk.new (b := w.heap.size + 1) (T := 94) (by simp)); have gA := Blk.keep hb1 (Blk.old (Blk.new (b := w.heap.size) (T := 94) rfl) _); have gB := (((Below.refl w.heap.size w).alloc (Nat.le_refl _) _).alloc (by simp) _).trans (hb1.mono (by simp; omega))) | (go_at_call 114; (first | ((with_reducible refine (M1.out _).mono ?_); rintro e w1 ⟨rfl, rfl⟩) | ((with_reducible refine (M2.out _).mono ?_); rintro e w1 ⟨rfl, rfl⟩))) | (go_at_call 111; refine (negative_n _ _).mono ?_; rintro e w1 ⟨rfl, hb1⟩; replace g := Blk.keep hb1 g; replace gA := Blk.keep hb1 gA; replace gB := gB.trans (hb1.mono gB.size)) | (go_at_call 112; refine (bound_low _).mono ?_; rintro e w1 ⟨rfl, hb1⟩; replace g := Blk.keep hb1 g; replace gB := gB.trans (hb1.mono gB.size)))
      have hfin := (g.put (i := 0) (.int .i64 (-9223372036854775808))).put (i := 1) (.int .u64 0)
      exact bodyPost_ret (v := .agg #[.int .i64 (-9223372036854775808), .int .u64 0]) (by simp [results, Tryz.results83, go_sem, (show Blk _ _ #[.int .i64 (-9223372036854775808), .int .u64 0] _ from hfin).two]) rfl ⟨(ret_w (by decide) (by decide)), (gB.setCell (by simp) _).setCell (by simp) _⟩
    · have hd := decide_eq_false hneg
      have hr : clamp (n * k) = 170141183460469231731687303715884105727 := by
        have := sgn_scale n k; rw [hd] at this; simp only [sgn, Bool.false_eq_true, if_false] at this
        unfold clamp; rw [if_neg (by omega), if_pos (by omega)]
      rw [hr]; clear hr
      go_enter Tryz.func83, Tryz.ntmps83
      go_wp2_with (first | (go_at_call 113; refine (MA.out _).mono ?_; rintro e w1 ⟨rfl, hb1⟩; have g := Blk.keep hb1 (Blk.new (b := w.heap.size + 1) (T := 94) (by simp)); have gA := Blk.keep hb1 (Blk.old (Blk.new (b := w.heap.size) (T := 94) rfl) _); have gB := (((Below.refl w.heap.size w).alloc (Nat.le_refl _) _).alloc (by simp) _).trans (hb1.mono (by simp; omega))) | (go_at_call 114; (first | ((with_reducible refine (M1.out _).mono ?_); rintro e w1 ⟨rfl, rfl⟩) | ((with_reducible refine (M2.out _).mono ?_); rintro e w1 ⟨rfl, rfl⟩))) | (go_at_call 111; refine (negative_n _ _).mono ?_; rintro e w1 ⟨rfl, hb1⟩; replace g := Blk.keep hb1 g; replace gA := Blk.keep hb1 gA; replace gB := gB.trans (hb1.mono gB.size)) | (go_at_call 112; refine (bound_high _).mono ?_; rintro e w1 ⟨rfl, hb1⟩; replace g := Blk.keep hb1 g; replace gB := gB.trans (hb1.mono gB.size)))
      have hfin := (g.put (i := 0) (.int .i64 9223372036854775807)).put (i := 1) (.int .u64 18446744073709551615)
      exact bodyPost_ret (v := .agg #[.int .i64 9223372036854775807, .int .u64 18446744073709551615]) (by simp [results, Tryz.results83, go_sem, (show Blk _ _ #[.int .i64 9223372036854775807, .int .u64 18446744073709551615] _ from hfin).two]) rfl ⟨(ret_w (by decide) (by decide)), (gB.setCell (by simp) _).setCell (by simp) _⟩
end Go.Proofs.YtmfdnbjmfgljlaaGreatDoor


/-
  Plain arithmetic of a long division by two digits of 32 bits. No program is named here.
-/
namespace Go.Proofs.YtmfdnbjmfgljlaaGreatDoor.DivM

/-- One digit's setting: Y is N1, N0; U is below Y; Q is the digit. -/
structure Dig (U V Y N1 N0 Q : Int) : Prop where
  y : Y = N1 * 4294967296 + N0
  n1 : 2147483648 ≤ N1
  n1' : N1 ≤ 4294967295
  n0 : 0 ≤ N0
  n0' : N0 ≤ 4294967295
  u0 : 0 ≤ U
  u : U < Y
  v0 : 0 ≤ V
  v : V ≤ 4294967295
  q : Q = (U * 4294967296 + V) / Y

theorem Dig.ypos {U V Y N1 N0 Q : Int} (d : Dig U V Y N1 N0 Q) : 0 < Y := by have := d.y; have := d.n1; have := d.n0; omega
theorem Dig.low {U V Y N1 N0 Q : Int} (d : Dig U V Y N1 N0 Q) : Q * Y ≤ U * 4294967296 + V := by
  rw [d.q]; exact Int.ediv_mul_le _ (by have := d.ypos; omega)
theorem Dig.high {U V Y N1 N0 Q : Int} (d : Dig U V Y N1 N0 Q) : U * 4294967296 + V < Q * Y + Y := by
  have h := Int.lt_ediv_add_one_mul_self (U * 4294967296 + V) d.ypos
  rw [← d.q] at h; rw [Int.add_mul, Int.one_mul] at h; exact h
theorem Dig.q0 {U V Y N1 N0 Q : Int} (d : Dig U V Y N1 N0 Q) : 0 ≤ Q := by
  rw [d.q]; exact Int.ediv_nonneg (by have := d.u0; have := d.v0; omega) (by have := d.ypos; omega)
theorem Dig.qlt {U V Y N1 N0 Q : Int} (d : Dig U V Y N1 N0 Q) : Q ≤ 4294967295 := by
  have h : Q < 4294967296 := by
    rw [d.q]; apply Int.ediv_lt_of_lt_mul d.ypos
    have := d.u; have := d.v; have := d.v0; rw [Int.mul_comm]; omega
  omega
theorem Dig.mulY {U V Y N1 N0 Q : Int} (d : Dig U V Y N1 N0 Q) (q : Int) : q * Y = q * N1 * 4294967296 + q * N0 := by
  rw [d.y, Int.mul_add, Int.mul_assoc]
theorem Dig.dec {U V Y N1 N0 Q q r : Int} (d : Dig U V Y N1 N0 Q) (h : q * N1 + r = U) (hq : Q ≤ q) (hc : 4294967296 ≤ q ∨ 4294967296 * r + V < q * N0) : Q ≤ q - 1 := by
  rcases hc with hc | hc
  · have := d.qlt; omega
  · have h1 := d.mulY q
    have h2 := d.low
    have h3 : Q * Y < q * Y := by omega
    have : Q < q := Int.lt_of_mul_lt_mul_right h3 (by have := d.ypos; omega)
    omega
theorem Dig.stop {U V Y N1 N0 Q q r : Int} (d : Dig U V Y N1 N0 Q) (h : q * N1 + r = U) (hq : Q ≤ q) (hc : q * N0 ≤ 4294967296 * r + V) : q = Q := by
  have h1 := d.mulY q
  have h2 := d.high
  have h3 : q * Y < (Q + 1) * Y := by rw [Int.add_mul, Int.one_mul]; omega
  have : q < Q + 1 := Int.lt_of_mul_lt_mul_right h3 (by have := d.ypos; omega)
  omega
theorem Dig.brk {U V Y N1 N0 Q q r : Int} (d : Dig U V Y N1 N0 Q) (h : q * N1 + r = U) (hq : Q ≤ q) (hb : q ≤ 4294967296) (hr : 4294967296 ≤ r) : q = Q := by
  refine d.stop h hq ?_
  have h1 : q * N0 ≤ 4294967296 * N0 := Int.mul_le_mul_of_nonneg_right hb d.n0
  have := d.n0'; have := d.v0; omega
theorem Dig.start {U V Y N1 N0 Q : Int} (d : Dig U V Y N1 N0 Q) : U / N1 * N1 + U % N1 = U ∧ Q ≤ U / N1 ∧ U / N1 ≤ 4294967297 ∧ 0 ≤ U % N1 ∧ U % N1 ≤ 4294967295 ∧ 0 ≤ U / N1 := by
  have hp : 0 < N1 := by have := d.n1; omega
  have h1 := Int.emod_add_mul_ediv U N1
  have h2 := Int.emod_nonneg U (by omega : N1 ≠ 0)
  have h3 := Int.emod_lt_of_pos U hp
  have h4 := d.n1'
  have h5 : U / N1 * N1 + U % N1 = U := by rw [Int.mul_comm]; omega
  refine ⟨h5, ?_, ?_, h2, by omega, Int.ediv_nonneg d.u0 (by omega)⟩
  · apply Int.le_ediv_of_mul_le hp
    have ha := d.low; have hb := d.mulY Q
    have hc : 0 ≤ Q * N0 := Int.mul_nonneg d.q0 d.n0
    have := d.v; omega
  · have : U / N1 < 4294967298 := by
      apply Int.ediv_lt_of_lt_mul hp
      have := d.u; have := d.y; have := d.n0'; have := d.n1; omega
    omega
/-- What is left behind the digit. -/
theorem Dig.rest {U V Y N1 N0 Q : Int} (d : Dig U V Y N1 N0 Q) : 0 ≤ U * 4294967296 + V - Q * Y ∧ U * 4294967296 + V - Q * Y < Y := by
  have := d.low; have := d.high; omega

/-- Both digits together. -/
theorem two_digits {U V1 V0 Y N1 N0 Q1 Q0 U2 : Int} (d1 : Dig U V1 Y N1 N0 Q1) (hU : U2 = U * 4294967296 + V1 - Q1 * Y) (d2 : Dig U2 V0 Y N1 N0 Q0) :
    (U * 18446744073709551616 + (V1 * 4294967296 + V0)) / Y = Q1 * 4294967296 + Q0 ∧ (U * 18446744073709551616 + (V1 * 4294967296 + V0)) % Y = U2 * 4294967296 + V0 - Q0 * Y := by
  have hr := d2.rest
  have e : U * 18446744073709551616 + (V1 * 4294967296 + V0) = (U2 * 4294967296 + V0 - Q0 * Y) + Y * (Q1 * 4294967296 + Q0) := by
    rw [Int.mul_add, ← Int.mul_assoc, Int.mul_comm Y Q1, Int.mul_comm Y Q0, hU]; omega
  rw [e]
  have hp := d1.ypos
  constructor
  · rw [Int.add_mul_ediv_left _ _ (by omega : Y ≠ 0), Int.ediv_eq_zero_of_lt hr.1 hr.2]; omega
  · rw [Int.add_mul_emod_self_left]; exact Int.emod_eq_of_lt hr.1 hr.2
end Go.Proofs.YtmfdnbjmfgljlaaGreatDoor.DivM


/-
  The contract of bits.Div64: the walk, over the numbers that its own text makes.
-/


namespace Go.Proofs.YtmfdnbjmfgljlaaGreatDoor

set_option maxRecDepth 100000

open Go.RowKit DivM

/-- At the head of either loop: the digit is not above q, and q times N1, with r, is U. -/
def DigAt (U N1 Q : Int) (A R : Value) : Prop := ∃ q r : Int, (q * N1 + r = U ∧ Q ≤ q ∧ q ≤ 4294967297 ∧ 0 ≤ r ∧ r ≤ 4294967295) ∧ A = .int .u64 q ∧ R = .int .u64 r

theorem prod_bd {q N0 : Int} (q0 : 0 ≤ q) (q1 : q ≤ 4294967295) (n0 : 0 ≤ N0) (n1 : N0 ≤ 4294967295) : 0 ≤ q * N0 ∧ q * N0 ≤ 18446744065119617025 :=
  ⟨Int.mul_nonneg q0 n0, Int.mul_le_mul q1 n1 n0 (by omega)⟩

set_option maxRecDepth 100000 in
set_option maxHeartbeats 8000000 in
theorem div64_walk (h l y s S T Y N1 N0 HS LT U V V1 V0 Q1 U2 Q0 : Int) (w : World)
    (h0 : 0 < h) (hy : h < y) (y1 : y ≤ 18446744073709551615) (s0 : 0 ≤ s) (s1 : s ≤ 63)
    (hs : 64 - (Lib.bitLen y.toNat : Int) = s) (eS : (2 : Int) ^ s.toNat = S) (eT : (2 : Int) ^ (64 - s).toNat = T)
    (eY : IntKind.u64.wrap (y * S) = Y) (eN1 : Y / 4294967296 = N1) (eN0 : bits .and .u64 Y 4294967295 = N0)
    (eH : IntKind.u64.wrap (h * S) = HS) (eL : l / T = LT) (eU : bits .or .u64 HS LT = U)
    (eV : IntKind.u64.wrap (l * S) = V) (eV1 : V / 4294967296 = V1) (eV0 : bits .and .u64 V 4294967295 = V0)
    (d1 : Dig U V1 Y N1 N0 Q1) (hU2 : U2 = U * 4294967296 + V1 - Q1 * Y) (d2 : Dig U2 V0 Y N1 N0 Q0) (yy : Y ≤ 18446744073709551615) :
    Calls Tryz.prog 138 #[.int .u64 h, .int .u64 l, .int .u64 y] w fun e w' =>
      e = .returned (.tuple #[.int .u64 (Q1 * 4294967296 + Q0), .int .u64 ((U2 * 4294967296 + V0 - Q0 * Y) / S)]) ∧ w' = w := by
  have e1 : (y == 0) = false := by rw [beq_eq_false_iff_ne]; omega
  have e2 : (h == 0) = false := by rw [beq_eq_false_iff_ne]; omega
  have e3 : ¬ y ≤ h := by omega
  have lz := fun w => Tryz.bits_LeadingZeros64 y w (by omega) y1
  rw [hs] at lz
  have LZ := Lib.hid lz; clear lz hs
  obtain ⟨st1, st2, st3, st4, st5, st6⟩ := d1.start
  have n1a := d1.n1; have n1b := d1.n1'; have n0a := d1.n0; have n0b := d1.n0'; have ua := d1.u0; have ub : U ≤ 18446744073709551615 := by have := d1.u; omega
  have u2a := d2.u0; have u2b : U2 ≤ 18446744073709551615 := by have := d2.u; omega
  have v1a := d1.v0; have v1b := d1.v; have v0a := d2.v0; have v0b := d2.v
  have qa := d1.q0; have qb := d1.qlt; have q0a := d2.q0; have q0b := d2.qlt
  have yp := d1.ypos
  have nz : (N1 == 0) = false := by rw [beq_eq_false_iff_ne]; omega
  have nz2 : ¬ N1 = 0 := by omega
  obtain ⟨tt1, tt2, tt3, tt4, tt5, tt6⟩ := d2.start
  have D1 := Lib.hid d1; have D2 := Lib.hid d2; have HU2 := Lib.hid hU2
  have ST1 := Lib.hid st1; have TT1 := Lib.hid tt1
  have er1 : U - U / N1 * N1 = U % N1 := by omega
  have er2 : U2 - U2 / N1 * N1 = U2 % N1 := by omega
  have bq1 : 0 ≤ U / N1 * N1 := Int.mul_nonneg st6 (by omega)
  have bq2 : U / N1 * N1 ≤ 18446744073709551615 := by omega
  have bq3 : 0 ≤ U2 / N1 * N1 := Int.mul_nonneg tt6 (by omega)
  have bq4 : U2 / N1 * N1 ≤ 18446744073709551615 := by omega
  clear d1 d2 hU2 st1 tt1
  generalize hr1 : U % N1 = ri at *
  generalize hr2 : U2 % N1 = rj at *
  generalize hm1 : U / N1 * N1 = QN at *
  generalize hm2 : U2 / N1 * N1 = QM at *
  obtain ⟨W1, w1e⟩ : ∃ W1, IntKind.u64.wrap (U * 4294967296) = W1 := ⟨_, rfl⟩
  obtain ⟨W2, w2e⟩ : ∃ W2, IntKind.u64.wrap (Q1 * Y) = W2 := ⟨_, rfl⟩
  obtain ⟨W3, w3e⟩ : ∃ W3, IntKind.u64.wrap (W1 + V1) = W3 := ⟨_, rfl⟩
  obtain ⟨X1, x1e⟩ : ∃ X1, IntKind.u64.wrap (U2 * 4294967296) = X1 := ⟨_, rfl⟩
  obtain ⟨X2, x2e⟩ : ∃ X2, IntKind.u64.wrap (Q0 * Y) = X2 := ⟨_, rfl⟩
  obtain ⟨X3, x3e⟩ : ∃ X3, IntKind.u64.wrap (X1 + V0) = X3 := ⟨_, rfl⟩
  obtain ⟨R, rE⟩ : ∃ R, U2 * 4294967296 + V0 - Q0 * Y = R := ⟨_, rfl⟩
  have hrest := D2.out.rest
  have w4e : IntKind.u64.wrap (W3 - W2) = U2 := by simp only [IntKind.wrap_u64] at *; have := HU2.out; omega
  have x4e : IntKind.u64.wrap (X3 - X2) = R := by simp only [IntKind.wrap_u64] at *; omega
  have rb : 0 ≤ R := by omega
  have rb2 : R ≤ 18446744073709551615 := by omega
  have RE := Lib.hid rE; clear rE hrest
  go_enter Tryz.func138, Tryz.ntmps138
  go_wp2_with (go_at_call 145; refine (LZ.out _).mono ?_; rintro e w1 ⟨rfl, hw1⟩; rw [hw1]; clear hw1)
  go_loop [15, 16] (fun A R => DigAt U N1 Q1 A R) (fun A _ => (intOf A).toNat)
  case atStart => exact ⟨U / N1, ri, ⟨by rw [hm1]; exact ST1.out, st2, st3, st4, st5⟩, rfl, rfl⟩
  case round =>
    obtain ⟨q, r, ⟨i1, i2, i3, i4, i5⟩, rfl, rfl⟩ := hrel
    have I1 := Lib.hid i1; clear i1
    by_cases hbig : 4294967296 ≤ q
    · have hdec := D1.out.dec I1.out i2 (Or.inl hbig)
      have I2 : (q - 1) * N1 + (r + N1) = U := by rw [Int.sub_mul]; have := I1.out; omega
      by_cases hr : 4294967296 ≤ r + N1
      · have hQ := D1.out.brk I2 hdec (by omega) hr
        clear I2
        go_wp2
        go_loop [18, 16] (fun A R => DigAt U2 N1 Q0 A R) (fun A _ => (intOf A).toNat)
        case atStart => exact ⟨U2 / N1, rj, ⟨by rw [hm2]; exact TT1.out, tt2, tt3, tt4, tt5⟩, rfl, rfl⟩
        case round =>
          obtain ⟨q, r, ⟨i1, i2, i3, i4, i5⟩, rfl, rfl⟩ := hrel
          have I1 := Lib.hid i1; clear i1
          by_cases hbig : 4294967296 ≤ q
          · have hdec := D2.out.dec I1.out i2 (Or.inl hbig)
            have I2 : (q - 1) * N1 + (r + N1) = U2 := by rw [Int.sub_mul]; have := I1.out; omega
            by_cases hr : 4294967296 ≤ r + N1
            · have hQ := D2.out.brk I2 hdec (by omega) hr
              clear I2
              go_wp2
              go_ret2
              exact ⟨by rw [RE.out]; rfl, rfl⟩
            · skip
              have IH := Lib.hid I2; clear I2
              go_wp2
              go_round
              case rel => exact ⟨q - 1, r + N1, ⟨IH.out, hdec, by omega, by omega, by omega⟩, rfl, rfl⟩
              case measure => simp [intOf]; omega
          · have hp := prod_bd (by omega : 0 ≤ q) (by omega) n0a n0b
            obtain ⟨P, hP⟩ : ∃ P, q * N0 = P := ⟨_, rfl⟩
            rw [hP] at hp
            by_cases hc : 4294967296 * r + V0 < P
            · have hdec := D2.out.dec I1.out i2 (Or.inr (by rw [hP]; exact hc))
              have I2 : (q - 1) * N1 + (r + N1) = U2 := by rw [Int.sub_mul]; have := I1.out; omega
              by_cases hr : 4294967296 ≤ r + N1
              · have hQ := D2.out.brk I2 hdec (by omega) hr
                clear I2
                go_wp2
                go_ret2
                exact ⟨by rw [RE.out]; rfl, rfl⟩
              · skip
                have IH := Lib.hid I2; clear I2
                go_wp2
                go_round
                case rel => exact ⟨q - 1, r + N1, ⟨IH.out, hdec, by omega, by omega, by omega⟩, rfl, rfl⟩
                case measure => simp [intOf]; omega
            · obtain rfl : Q0 = q := (D2.out.stop I1.out i2 (by omega)).symm
              go_wp2
              go_ret2
              exact ⟨by rw [RE.out]; rfl, rfl⟩
      · skip
        have IH := Lib.hid I2; clear I2
        go_wp2
        go_round
        case rel => exact ⟨q - 1, r + N1, ⟨IH.out, hdec, by omega, by omega, by omega⟩, rfl, rfl⟩
        case measure => simp [intOf]; omega
    · have hp := prod_bd (by omega : 0 ≤ q) (by omega) n0a n0b
      obtain ⟨P, hP⟩ : ∃ P, q * N0 = P := ⟨_, rfl⟩
      rw [hP] at hp
      by_cases hc : 4294967296 * r + V1 < P
      · have hdec := D1.out.dec I1.out i2 (Or.inr (by rw [hP]; exact hc))
        have I2 : (q - 1) * N1 + (r + N1) = U := by rw [Int.sub_mul]; have := I1.out; omega
        by_cases hr : 4294967296 ≤ r + N1
        · have hQ := D1.out.brk I2 hdec (by omega) hr
          clear I2
          go_wp2
          go_loop [18, 16] (fun A R => DigAt U2 N1 Q0 A R) (fun A _ => (intOf A).toNat)
          case atStart => exact ⟨U2 / N1, rj, ⟨by rw [hm2]; exact TT1.out, tt2, tt3, tt4, tt5⟩, rfl, rfl⟩
          case round =>
            obtain ⟨q, r, ⟨i1, i2, i3, i4, i5⟩, rfl, rfl⟩ := hrel
            have I1 := Lib.hid i1; clear i1
            by_cases hbig : 4294967296 ≤ q
            · have hdec := D2.out.dec I1.out i2 (Or.inl hbig)
              have I2 : (q - 1) * N1 + (r + N1) = U2 := by rw [Int.sub_mul]; have := I1.out; omega
              by_cases hr : 4294967296 ≤ r + N1
              · have hQ := D2.out.brk I2 hdec (by omega) hr
                clear I2
                go_wp2
                go_ret2
                exact ⟨by rw [RE.out]; rfl, rfl⟩
              · skip
                have IH := Lib.hid I2; clear I2
                go_wp2
                go_round
                case rel => exact ⟨q - 1, r + N1, ⟨IH.out, hdec, by omega, by omega, by omega⟩, rfl, rfl⟩
                case measure => simp [intOf]; omega
            · have hp := prod_bd (by omega : 0 ≤ q) (by omega) n0a n0b
              obtain ⟨P, hP⟩ : ∃ P, q * N0 = P := ⟨_, rfl⟩
              rw [hP] at hp
              by_cases hc : 4294967296 * r + V0 < P
              · have hdec := D2.out.dec I1.out i2 (Or.inr (by rw [hP]; exact hc))
                have I2 : (q - 1) * N1 + (r + N1) = U2 := by rw [Int.sub_mul]; have := I1.out; omega
                by_cases hr : 4294967296 ≤ r + N1
                · have hQ := D2.out.brk I2 hdec (by omega) hr
                  clear I2
                  go_wp2
                  go_ret2
                  exact ⟨by rw [RE.out]; rfl, rfl⟩
                · skip
                  have IH := Lib.hid I2; clear I2
                  go_wp2
                  go_round
                  case rel => exact ⟨q - 1, r + N1, ⟨IH.out, hdec, by omega, by omega, by omega⟩, rfl, rfl⟩
                  case measure => simp [intOf]; omega
              · obtain rfl : Q0 = q := (D2.out.stop I1.out i2 (by omega)).symm
                go_wp2
                go_ret2
                exact ⟨by rw [RE.out]; rfl, rfl⟩
        · skip
          have IH := Lib.hid I2; clear I2
          go_wp2
          go_round
          case rel => exact ⟨q - 1, r + N1, ⟨IH.out, hdec, by omega, by omega, by omega⟩, rfl, rfl⟩
          case measure => simp [intOf]; omega
      · obtain rfl : Q1 = q := (D1.out.stop I1.out i2 (by omega)).symm
        go_wp2
        go_loop [18, 16] (fun A R => DigAt U2 N1 Q0 A R) (fun A _ => (intOf A).toNat)
        case atStart => exact ⟨U2 / N1, rj, ⟨by rw [hm2]; exact TT1.out, tt2, tt3, tt4, tt5⟩, rfl, rfl⟩
        case round =>
          obtain ⟨q, r, ⟨i1, i2, i3, i4, i5⟩, rfl, rfl⟩ := hrel
          have I1 := Lib.hid i1; clear i1
          by_cases hbig : 4294967296 ≤ q
          · have hdec := D2.out.dec I1.out i2 (Or.inl hbig)
            have I2 : (q - 1) * N1 + (r + N1) = U2 := by rw [Int.sub_mul]; have := I1.out; omega
            by_cases hr : 4294967296 ≤ r + N1
            · have hQ := D2.out.brk I2 hdec (by omega) hr
              clear I2
              go_wp2
              go_ret2
              exact ⟨by rw [RE.out]; rfl, rfl⟩
            · skip
              have IH := Lib.hid I2; clear I2
              go_wp2
              go_round
              case rel => exact ⟨q - 1, r + N1, ⟨IH.out, hdec, by omega, by omega, by omega⟩, rfl, rfl⟩
              case measure => simp [intOf]; omega
          · have hp := prod_bd (by omega : 0 ≤ q) (by omega) n0a n0b
            obtain ⟨P, hP⟩ : ∃ P, q * N0 = P := ⟨_, rfl⟩
            rw [hP] at hp
            by_cases hc : 4294967296 * r + V0 < P
            · have hdec := D2.out.dec I1.out i2 (Or.inr (by rw [hP]; exact hc))
              have I2 : (q - 1) * N1 + (r + N1) = U2 := by rw [Int.sub_mul]; have := I1.out; omega
              by_cases hr : 4294967296 ≤ r + N1
              · have hQ := D2.out.brk I2 hdec (by omega) hr
                clear I2
                go_wp2
                go_ret2
                exact ⟨by rw [RE.out]; rfl, rfl⟩
              · skip
                have IH := Lib.hid I2; clear I2
                go_wp2
                go_round
                case rel => exact ⟨q - 1, r + N1, ⟨IH.out, hdec, by omega, by omega, by omega⟩, rfl, rfl⟩
                case measure => simp [intOf]; omega
            · obtain rfl : Q0 = q := (D2.out.stop I1.out i2 (by omega)).symm
              go_wp2
              go_ret2
              exact ⟨by rw [RE.out]; rfl, rfl⟩
end Go.Proofs.YtmfdnbjmfgljlaaGreatDoor


/-
  The contract of bits.Div64 by numbers, for a high part that is below the divisor.
-/

namespace Go.Proofs.YtmfdnbjmfgljlaaGreatDoor

set_option maxRecDepth 100000

open Go.RowKit DivM

theorem bitLen_bd : ∀ (f x : Nat), x ≠ 0 → x < 2 ^ f → f ≤ 64 → 2 ^ (Lib.bitLen x) ≤ 2 * x ∧ x < 2 ^ (Lib.bitLen x) ∧ Lib.bitLen x ≤ f ∧ 1 ≤ Lib.bitLen x := by
  intro f
  induction f with
  | zero => intro x h0 h1 _; simp at h1; omega
  | succ f ih =>
    intro x h0 h1 hf
    have h64 : x < 2 ^ 64 := Nat.lt_of_lt_of_le h1 (Nat.pow_le_pow_right (by omega) hf)
    have hh := Lib.bitLen_half x h0 h64
    by_cases hx : x / 2 = 0
    · have : x = 1 := by omega
      subst this
      have e : Lib.bitLen 1 = 1 := rfl
      rw [e]; omega
    · obtain ⟨a, b, c, d⟩ := ih (x / 2) hx (by rw [Nat.pow_succ] at h1; omega) (by omega)
      rw [hh, Nat.pow_add]
      omega

theorem and_mask {a : Int} (a0 : 0 ≤ a) (a1 : a ≤ 18446744073709551615) : bits .and .u64 a 4294967295 = a % 4294967296 := by
  obtain ⟨x, rfl⟩ := Int.eq_ofNat_of_zero_le a0
  have h := bits_and_u64_nat x 4294967295 (by omega) (by omega)
  have e : x &&& 4294967295 = x % 4294967296 := Nat.and_two_pow_sub_one_eq_mod x 32
  rw [e] at h
  exact h

/-- What the shifts come to. -/
structure Sh (h l y S T : Int) : Prop where
  s1 : 1 ≤ S
  t1 : 1 ≤ T
  st : T * S = 18446744073709551616
  y0 : 9223372036854775808 ≤ y * S
  y1 : y * S ≤ 18446744073709551615
  h0 : 0 ≤ h
  hy : h < y
  l0 : 0 ≤ l
  l1 : l ≤ 18446744073709551615
theorem Sh.hS {h l y S T : Int} (k : Sh h l y S T) : 0 ≤ h * S ∧ h * S ≤ y * S - S := by
  have h1 := Int.mul_le_mul_of_nonneg_right (show h ≤ y - 1 by have := k.hy; omega) (show 0 ≤ S by have := k.s1; omega)
  rw [Int.sub_mul, Int.one_mul] at h1
  exact ⟨Int.mul_nonneg k.h0 (by have := k.s1; omega), h1⟩
theorem Sh.lT {h l y S T : Int} (k : Sh h l y S T) : 0 ≤ l / T ∧ l / T < S := by
  refine ⟨Int.ediv_nonneg k.l0 (by have := k.t1; omega), ?_⟩
  apply Int.ediv_lt_of_lt_mul (by have := k.t1; omega)
  have := k.st; have := k.l1; rw [Int.mul_comm]; omega
theorem Sh.lS {h l y S T : Int} (k : Sh h l y S T) : l * S = l / T * 18446744073709551616 + l % T * S ∧ 0 ≤ l % T * S ∧ l % T * S ≤ 18446744073709551615 := by
  have e := Int.emod_add_mul_ediv l T
  have e2 : l * S = (l % T + T * (l / T)) * S := by rw [e]
  have hm := Int.emod_nonneg l (show T ≠ 0 by have := k.t1; omega)
  have hl := Int.emod_lt_of_pos l (show 0 < T by have := k.t1; omega)
  have hs := k.s1
  have h1 := Int.mul_le_mul_of_nonneg_right (show l % T ≤ T - 1 by omega) (show 0 ≤ S by omega)
  rw [Int.sub_mul, Int.one_mul, k.st] at h1
  refine ⟨?_, Int.mul_nonneg hm (by omega), by omega⟩
  rw [e2, Int.add_mul, Int.mul_right_comm, k.st, Int.mul_comm 18446744073709551616]; omega
/-- The dividend, shifted. -/
theorem Sh.num {h l y S T : Int} (k : Sh h l y S T) : (h * 18446744073709551616 + l) * S = (h * S + l / T) * 18446744073709551616 + l % T * S := by
  rw [Int.add_mul, Int.mul_right_comm, k.lS.1, Int.add_mul]; omega
theorem Sh.uY {h l y S T : Int} (k : Sh h l y S T) : 0 ≤ h * S + l / T ∧ h * S + l / T < y * S := by
  have := k.hS; have := k.lT; omega

theorem emod_mul_right (a b : Int) {S : Int} (h : 0 < S) : (a * S) % (b * S) = a % b * S := by
  rw [Int.mul_comm a, Int.mul_comm b, Int.mul_emod_mul_of_pos _ _ h, Int.mul_comm]

theorem div64_n {h l y : Int} (h0 : 0 ≤ h) (hy : h < y) (y1 : y ≤ 18446744073709551615) (l0 : 0 ≤ l) (l1 : l ≤ 18446744073709551615) (w : World) (hpos : 0 < h) :
    Calls Tryz.prog 138 #[.int .u64 h, .int .u64 l, .int .u64 y] w fun e w' =>
      e = .returned (.tuple #[.int .u64 ((h * 18446744073709551616 + l) / y), .int .u64 ((h * 18446744073709551616 + l) % y)]) ∧ w' = w := by
  obtain ⟨yn, rfl⟩ := Int.eq_ofNat_of_zero_le (show 0 ≤ y by omega)
  obtain ⟨b1, b2, b3, b4⟩ := bitLen_bd 64 yn (by omega) (by omega) (by omega)
  generalize hbl : Lib.bitLen yn = n at *
  have hS1 : 1 ≤ 2 ^ (64 - n) := Nat.one_le_two_pow
  have hT1 : 1 ≤ 2 ^ n := Nat.one_le_two_pow
  have hST : 2 ^ n * 2 ^ (64 - n) = 18446744073709551616 := by rw [← Nat.pow_add, show n + (64 - n) = 64 by omega]
  have hy0 : 2 ^ n * 2 ^ (64 - n) ≤ 2 * yn * 2 ^ (64 - n) := Nat.mul_le_mul_right _ b1
  have hy2 : (yn + 1) * 2 ^ (64 - n) ≤ 2 ^ n * 2 ^ (64 - n) := Nat.mul_le_mul_right _ b2
  rw [hST] at hy0 hy2
  rw [Nat.add_mul, Nat.one_mul] at hy2
  rw [Nat.mul_assoc] at hy0
  have k : Sh h l yn (((2 ^ (64 - n) : Nat)) : Int) (((2 ^ n : Nat)) : Int) :=
    ⟨by omega, by omega, by rw [← Int.natCast_mul, hST]; rfl, by rw [← Int.natCast_mul]; omega, by rw [← Int.natCast_mul]; omega, h0, hy, l0, l1⟩
  have es : (64 - (n : Int)).toNat = 64 - n := by omega
  have es2 : (64 - (64 - (n : Int))).toNat = n := by omega
  have eS : (2 : Int) ^ (64 - (n : Int)).toNat = ((2 ^ (64 - n) : Nat) : Int) := by rw [es, Int.natCast_pow]; rfl
  have eT : (2 : Int) ^ (64 - (64 - (n : Int))).toNat = ((2 ^ n : Nat) : Int) := by rw [es2, Int.natCast_pow]; rfl
  have hk : 64 - n ≤ 63 := by omega
  generalize hSd : (((2 ^ (64 - n) : Nat)) : Int) = S at *
  generalize hTd : (((2 ^ n : Nat)) : Int) = T at *
  have hHS := k.hS; have hLT := k.lT; have hLS := k.lS; have hu := k.uY
  have ky0 := k.y0; have ky1 := k.y1; have ks := k.s1
  have hor : bits .or .u64 (h * S) (l / T) = h * S + l / T :=
    or_u64 (64 - n) hSd.symm (Int.mul_emod_left h S) hHS.1 (by omega) hLT.1 hLT.2 (by omega)
  have hyp : 0 < (yn : Int) * S := by omega
  have d1 : Dig (h * S + l / T) (l % T * S / 4294967296) (yn * S) (yn * S / 4294967296) (yn * S % 4294967296) _ :=
    ⟨by omega, by omega, by omega, by omega, by omega, hu.1, hu.2, by omega, by omega, rfl⟩
  have d2 : Dig _ (l % T * S % 4294967296) (yn * S) (yn * S / 4294967296) (yn * S % 4294967296) _ :=
    ⟨by omega, by omega, by omega, by omega, by omega, d1.rest.1, d1.rest.2, by omega, by omega, rfl⟩
  have h2 := two_digits d1 rfl d2
  have hnum := k.num
  rw [show (h * S + l / T) * 18446744073709551616 + (l % T * S / 4294967296 * 4294967296 + l % T * S % 4294967296) = (h * 18446744073709551616 + l) * S by rw [hnum]; omega] at h2
  rw [Int.mul_ediv_mul_of_pos_left _ _ (by omega : 0 < S), emod_mul_right _ _ (by omega : 0 < S)] at h2
  have hw := div64_walk h l yn (64 - n) S T (yn * S) (yn * S / 4294967296) (yn * S % 4294967296) (h * S) (l / T) (h * S + l / T) (l % T * S) (l % T * S / 4294967296) (l % T * S % 4294967296) _ _ _ w
    hpos hy y1 (by omega) (by omega) (by rw [Int.toNat_natCast, hbl]) eS eT (by rw [IntKind.wrap_u64]; omega) rfl (and_mask (by omega) (by omega)) (by rw [IntKind.wrap_u64]; omega) rfl hor
    (by rw [IntKind.wrap_u64]; omega) rfl (and_mask (by omega) (by omega)) d1 rfl d2 (by omega)
  rw [← h2.1, ← h2.2, Int.mul_ediv_cancel _ (by omega : S ≠ 0)] at hw
  exact hw

set_option maxHeartbeats 1000000 in
theorem div64_0 {l y : Int} (hy : 0 < y) (y1 : y ≤ 18446744073709551615) (l0 : 0 ≤ l) (l1 : l ≤ 18446744073709551615) (w : World) :
    Calls Tryz.prog 138 #[.int .u64 0, .int .u64 l, .int .u64 y] w fun e w' =>
      e = .returned (.tuple #[.int .u64 (l / y), .int .u64 (l % y)]) ∧ w' = w.drew := by
  have e1 : (y == 0) = false := by rw [beq_eq_false_iff_ne]; omega
  have e2 : ¬ y ≤ 0 := by omega
  have e3 : ¬ y = 0 := by omega
  have q0 : 0 ≤ l / y := Int.ediv_nonneg l0 (by omega)
  have q1 : l / y ≤ 18446744073709551615 := Int.le_trans (Int.ediv_le_self _ l0) l1
  have t1 : l.tdiv y = l / y := Int.tdiv_eq_ediv_of_nonneg l0
  have t2 : l.tmod y = l % y := Int.tmod_eq_emod_of_nonneg l0
  have t3 : IntKind.u64.wrap (l / y) = l / y := by rw [IntKind.wrap_u64]; omega
  go_enter Tryz.func138, Tryz.ntmps138
  go_wp2
  refine wp_region_held_drew (S := (fun _ => True)) (by kernel_rfl) ?_ (fun hHeld => ?_)
  · trivial
  refine H.take 0 (v := ?_) rfl (by kernel_rfl) (fun _ _ _ h => h) (by rfl) ?_ (by assumption) ?_
  rotate_left
  · (intro wz hSw; (try dsimp only at hSw); go_simp <;> with_reducible rfl)
  try simp only [Act.put, List.setIfInBounds_toArray, List.set_cons_zero, List.set_cons_succ]
  refine H.take 1 (v := ?_) rfl (by kernel_rfl) (fun _ _ _ h => h) (by rfl) ?_ (by assumption) ?_
  rotate_left
  · (intro wz hSw; (try dsimp only at hSw); go_simp <;> with_reducible rfl)
  try simp only [Act.put, List.setIfInBounds_toArray, List.set_cons_zero, List.set_cons_succ]
  refine H.take 2 (v := ?_) rfl (by kernel_rfl) (fun _ _ _ h => h) (by rfl) ?_ (by assumption) ?_
  rotate_left
  · (intro wz hSw; (try dsimp only at hSw); go_simp <;> with_reducible rfl)
  try simp only [Act.put, List.setIfInBounds_toArray, List.set_cons_zero, List.set_cons_succ]
  refine H.take 3 (v := ?_) rfl (by kernel_rfl) (fun _ _ _ h => h) (by rfl) ?_ (by assumption) ?_
  rotate_left
  · (intro wz hSw; (try dsimp only at hSw); go_simp <;> with_reducible rfl)
  try simp only [Act.put, List.setIfInBounds_toArray, List.set_cons_zero, List.set_cons_succ]
  refine H.take 4 (v := ?_) rfl (by kernel_rfl) (fun _ _ _ h => h) (by rfl) ?_ (by assumption) ?_
  rotate_left
  · (intro wz hSw; (try dsimp only at hSw); go_simp <;> with_reducible rfl)
  try simp only [Act.put, List.setIfInBounds_toArray, List.set_cons_zero, List.set_cons_succ]
  refine H.take 5 (v := ?_) rfl (by kernel_rfl) (fun _ _ _ h => h) (by rfl) ?_ (by assumption) ?_
  rotate_left
  · (intro wz hSw; (try dsimp only at hSw); go_simp <;> with_reducible rfl)
  try simp only [Act.put, List.setIfInBounds_toArray, List.set_cons_zero, List.set_cons_succ]
  refine H.take 6 (v := ?_) rfl (by kernel_rfl) (fun _ _ _ h => h) (by rfl) ?_ (by assumption) ?_
  rotate_left
  · (intro wz hSw; (try dsimp only at hSw); go_simp <;> with_reducible rfl)
  try simp only [Act.put, List.setIfInBounds_toArray, List.set_cons_zero, List.set_cons_succ]
  refine H.take 7 (v := ?_) rfl (by kernel_rfl) (fun _ _ _ h => h) (by rfl) ?_ (by assumption) ?_
  rotate_left
  · (intro wz hSw; (try dsimp only at hSw); go_simp <;> with_reducible rfl)
  try simp only [Act.put, List.setIfInBounds_toArray, List.set_cons_zero, List.set_cons_succ]
  refine H.done (by kernel_rfl) ?_ _
  go_wp2
  go_ret2
  exact ⟨rfl, rfl⟩

/-- Whatever the high part is, below the divisor. -/
theorem div64_any {h l y : Int} (h0 : 0 ≤ h) (hy : h < y) (y1 : y ≤ 18446744073709551615) (l0 : 0 ≤ l) (l1 : l ≤ 18446744073709551615) (w : World) :
    Calls Tryz.prog 138 #[.int .u64 h, .int .u64 l, .int .u64 y] w fun e w' =>
      e = .returned (.tuple #[.int .u64 ((h * 18446744073709551616 + l) / y), .int .u64 ((h * 18446744073709551616 + l) % y)]) ∧ Below w.heap.size w w' := by
  by_cases hp : 0 < h
  · refine (div64_n h0 hy y1 l0 l1 w hp).mono ?_
    rintro e w' ⟨he, rfl⟩; exact ⟨he, Below.refl _ _⟩
  · obtain rfl : 0 = h := by omega
    refine (div64_0 (by omega) y1 l0 l1 w).mono ?_
    rintro e w' ⟨rfl, rfl⟩; exact ⟨by rw [Int.zero_mul, Int.zero_add], (Below.refl _ _).drew⟩
end Go.Proofs.YtmfdnbjmfgljlaaGreatDoor


/-
  The contract of wide.Div.
-/

namespace Go.Proofs.YtmfdnbjmfgljlaaGreatDoor

set_option maxRecDepth 100000

open Go.RowKit

set_option maxHeartbeats 1000000 in
theorem wdiv_0 (n : Int) (w : World) :
    Calls Tryz.prog 118 #[.agg #[.int .i64 (hi n), .int .u64 (lo n)], .int .u64 0] w fun e w' =>
      e = .returned (.tuple #[.agg #[.int .i64 0, .int .u64 0], .int .u64 0, .bool false]) ∧ Below w.heap.size w w' := by
  go_enter Tryz.func118, Tryz.ntmps118
  go_wp2
  exact bodyPost_ret (v := .tuple #[.agg #[.int .i64 0, .int .u64 0], .int .u64 0, .bool false]) (by simp [results, Tryz.results118, go_sem]) rfl ⟨rfl, ((Below.refl _ _).alloc (Nat.le_refl _) _).alloc (by simp) _⟩

/-- The long division of a size, word by word. -/
theorem word_div {H L y : Int} (y0 : 0 < y) (L0 : 0 ≤ L) (L1 : L ≤ 18446744073709551615) :
    (H * 18446744073709551616 + L) / y = H / y * 18446744073709551616 + (H % y * 18446744073709551616 + L) / y ∧
    (H * 18446744073709551616 + L) % y = (H % y * 18446744073709551616 + L) % y ∧
    0 ≤ (H % y * 18446744073709551616 + L) / y ∧ (H % y * 18446744073709551616 + L) / y ≤ 18446744073709551615 := by
  have e := Int.emod_add_mul_ediv H y
  have m0 := Int.emod_nonneg H (show y ≠ 0 by omega)
  have m1 := Int.emod_lt_of_pos H y0
  have e2 : H * 18446744073709551616 + L = (H % y * 18446744073709551616 + L) + y * (H / y * 18446744073709551616) := by
    rw [← Int.mul_assoc]; generalize y * (H / y) = p at *; omega
  refine ⟨?_, ?_, Int.ediv_nonneg (by omega) (by omega), ?_⟩
  · rw [e2, Int.add_mul_ediv_left _ _ (by omega : y ≠ 0)]; omega
  · rw [e2, Int.add_mul_emod_self_left]
  · have : (H % y * 18446744073709551616 + L) / y < 18446744073709551616 := by
      apply Int.ediv_lt_of_lt_mul y0; rw [Int.mul_comm]; omega
    omega
/-- The quotient of a number below 0 out of that of its size. -/
theorem neg_div {m y : Int} (y0 : 0 < y) : (m % y = 0 → (-m) / y = -(m / y) ∧ (-m) % y = 0) ∧ (m % y ≠ 0 → (-m) / y = -(m / y + 1) ∧ (-m) % y = y - m % y) := by
  have e := Int.emod_add_mul_ediv m y
  have m0 := Int.emod_nonneg m (show y ≠ 0 by omega)
  have m1 := Int.emod_lt_of_pos m y0
  constructor
  · intro h
    have h2 : -m = 0 + y * (-(m / y)) := by rw [Int.mul_neg]; omega
    rw [h2, Int.add_mul_ediv_left _ _ (by omega : y ≠ 0), Int.add_mul_emod_self_left, Int.zero_ediv, Int.zero_emod]; omega
  · intro h
    have h2 : -m = (y - m % y) + y * (-(m / y + 1)) := by rw [Int.mul_neg, Int.mul_add]; omega
    rw [h2, Int.add_mul_ediv_left _ _ (by omega : y ≠ 0), Int.add_mul_emod_self_left, Int.ediv_eq_zero_of_lt (by omega) (by omega), Int.emod_eq_of_lt (by omega) (by omega)]; omega
theorem div_in {n y : Int} (hn : InR n) (y0 : 0 < y) : InR (n / y) := by
  unfold InR at *
  constructor
  · apply Int.le_ediv_of_mul_le y0
    have : -170141183460469231731687303715884105728 * y ≤ -170141183460469231731687303715884105728 * 1 := Int.mul_le_mul_of_nonpos_left (by omega) (by omega)
    omega
  · have : n / y < 170141183460469231731687303715884105728 := by
      apply Int.ediv_lt_of_lt_mul y0
      have : 170141183460469231731687303715884105728 * 1 ≤ 170141183460469231731687303715884105728 * y := Int.mul_le_mul_of_nonneg_left (by omega) (by omega)
      omega
    omega

theorem ret_div {v : Value} {a b : Int} (h : a = b) : Ending.returned (.tuple #[v, .int .u64 a, .bool true]) = .returned (.tuple #[v, .int .u64 b, .bool true]) := by rw [h]

set_option maxHeartbeats 4000000 in
theorem wdiv_n {n y : Int} (hn : InR n) (y0 : 0 < y) (y1 : y ≤ 18446744073709551615) (w : World) :
    Calls Tryz.prog 118 #[.agg #[.int .i64 (hi n), .int .u64 (lo n)], .int .u64 y] w fun e w' =>
      e = .returned (.tuple #[.agg #[.int .i64 (hi (n / y)), .int .u64 (lo (n / y))], .int .u64 (n % y), .bool true]) ∧ Below w.heap.size w w' := by
  have hs := sz_bd hn
  have lb := lo_bd (sz n)
  have hb0 : 0 ≤ hi (sz n) := hi_nn hs.1
  have hb1 : hi (sz n) ≤ 9223372036854775808 := hi_le hs.2
  have ma := fun w => magnitude_n hn w
  have yz : (y == 0) = false := by rw [beq_eq_false_iff_ne]; omega
  have yz2 : ¬ y = 0 := by omega
  have q1 := fun (w' : World) (h : Blk w' w.heap.size #[.int .i64 (hi n), .int .u64 (lo n)] 94) => h.two
  have q2 := fun (w' : World) (h : Blk w' (w.heap.size + 1) #[.int .i64 0, .int .u64 0] 94) => h.two
  have q3 := fun (w' : World) (h : Blk w' (w.heap.size + 1) #[.int .i64 0, .int .u64 0] 94) => h.free0
  obtain ⟨w1, w2, w3, w4⟩ := word_div y0 (H := hi (sz n)) lb.1 lb.2
  rw [hilo] at w1 w2
  have m0 := Int.emod_nonneg (hi (sz n)) (show y ≠ 0 by omega)
  have m1 := Int.emod_lt_of_pos (hi (sz n)) y0
  have qd : hi (sz n) / y ≤ 9223372036854775808 := Int.le_trans (Int.ediv_le_self _ hb0) hb1
  have qd0 : 0 ≤ hi (sz n) / y := Int.ediv_nonneg hb0 (by omega)
  have dv := fun w => div64_any m0 m1 y1 lb.1 lb.2 w
  have t1 : (hi (sz n)).tdiv y = hi (sz n) / y := Int.tdiv_eq_ediv_of_nonneg hb0
  have t2 : (hi (sz n)).tmod y = hi (sz n) % y := Int.tmod_eq_emod_of_nonneg hb0
  have t3 : IntKind.u64.wrap (hi (sz n) / y) = hi (sz n) / y := by rw [IntKind.wrap_u64]; omega
  have r0 := Int.emod_nonneg (hi (sz n) % y * 18446744073709551616 + lo (sz n)) (show y ≠ 0 by omega)
  have r1 := Int.emod_lt_of_pos (hi (sz n) % y * 18446744073709551616 + lo (sz n)) y0
  have hin := div_in hn y0
  have hneg := neg_div (m := sz n) y0
  generalize (hi (sz n) % y * 18446744073709551616 + lo (sz n)) / y = LOW at *
  generalize (hi (sz n) % y * 18446744073709551616 + lo (sz n)) % y = R at *
  rw [w1, w2] at hneg
  have DV := Lib.hid dv; have MA := Lib.hid ma
  clear dv ma
  by_cases hnn : n < 0
  · rw [show -sz n = n by rw [sz_neg hnn]; omega] at hneg
    have hd := decide_eq_true hnn
    by_cases hr : R = 0
    · obtain ⟨e1, e2⟩ := hneg.1 hr
      have hsg : clamp (sgn true (hi (sz n) / y * 18446744073709551616 + LOW)) = n / y := by simp only [sgn, if_true]; rw [← e1]; exact clamp_of hin
      have hs := fun (b : Nat) (w : World) (g : Blk w b #[.bool true] 4) => signed_any true (x := hi (sz n) / y) (y := LOW) (by omega) (by omega) w3 w4 g
      rw [hsg] at hs
      subst hr
      clear hneg w1 w2 e1 hsg
      have E2 := Lib.hid e2; clear e2
      generalize hi (sz n) / y = HI at *
      have HS := Lib.hid hs; clear hs
      go_enter Tryz.func118, Tryz.ntmps118
      go_wp2_with (go_at_call 113; refine (MA.out _).mono ?_; rintro e w1 ⟨rfl, hb1⟩; have g := Blk.keep hb1 (Blk.new (b := w.heap.size + 1) (T := 94) (by simp)); have gA := Blk.keep hb1 (Blk.old (Blk.new (b := w.heap.size) (T := 94) rfl) _); have gB := (((Below.refl w.heap.size w).alloc (Nat.le_refl _) _).alloc (by simp) _).trans (hb1.mono (by simp; omega)))
      refine wp_region_held_drew (S := (fun w' => Blk w' (w.heap.size + 1) #[.int .i64 0, .int .u64 0] 94 ∧ Blk w' w.heap.size #[.int .i64 (hi n), .int .u64 (lo n)] 94 ∧ Below w.heap.size w w')) (by kernel_rfl) ?_ (fun hHeld => ?_)
      · exact ⟨g.drew, gA.drew, gB.drew⟩
      refine H.take 0 (v := ?_) rfl (by kernel_rfl) (fun _ _ _ h => h) (by rfl) ?_ (by assumption) ?_
      rotate_left
      · (intro wz hSw; (try dsimp only at hSw); go_simp <;> with_reducible rfl)
      try simp only [Act.put, List.setIfInBounds_toArray, List.set_cons_zero, List.set_cons_succ]
      refine H.take 1 (v := ?_) rfl (by kernel_rfl) (fun _ _ _ h => h) (by rfl) ?_ (by assumption) ?_
      rotate_left
      · (intro wz hSw; (try dsimp only at hSw); go_simp <;> with_reducible rfl)
      try simp only [Act.put, List.setIfInBounds_toArray, List.set_cons_zero, List.set_cons_succ]
      refine H.take 2 (v := ?_) rfl (by kernel_rfl) (fun _ _ _ h => h) (by rfl) ?_ (by assumption) ?_
      rotate_left
      · (intro wz hSw; (try dsimp only at hSw); go_simp <;> with_reducible rfl)
      try simp only [Act.put, List.setIfInBounds_toArray, List.set_cons_zero, List.set_cons_succ]
      refine H.take 3 (v := ?_) rfl (by kernel_rfl) (fun _ _ _ h => h) (by rfl) ?_ (by assumption) ?_
      rotate_left
      · (intro wz hSw; (try dsimp only at hSw); go_simp <;> with_reducible rfl)
      try simp only [Act.put, List.setIfInBounds_toArray, List.set_cons_zero, List.set_cons_succ]
      refine H.take 4 (v := ?_) rfl (by kernel_rfl) (fun _ _ _ h => h) (by rfl) ?_ (by assumption) ?_
      rotate_left
      · (intro wz hSw; (try dsimp only at hSw); go_simp <;> with_reducible rfl)
      try simp only [Act.put, List.setIfInBounds_toArray, List.set_cons_zero, List.set_cons_succ]
      refine H.take 5 (v := ?_) rfl (by kernel_rfl) (fun _ _ _ h => h) (by rfl) ?_ (by assumption) ?_
      rotate_left
      · (intro wz hSw; (try dsimp only at hSw); go_simp <;> with_reducible rfl)
      try simp only [Act.put, List.setIfInBounds_toArray, List.set_cons_zero, List.set_cons_succ]
      refine H.take 6 (v := ?_) rfl (by kernel_rfl) (fun _ _ _ h => h) (by rfl) ?_ (by assumption) ?_
      rotate_left
      · (intro wz hSw; (try dsimp only at hSw); go_simp <;> with_reducible rfl)
      try simp only [Act.put, List.setIfInBounds_toArray, List.set_cons_zero, List.set_cons_succ]
      refine H.take 7 (v := ?_) rfl (by kernel_rfl) (fun _ _ _ h => h) (by rfl) ?_ (by assumption) ?_
      rotate_left
      · (intro wz hSw; (try dsimp only at hSw); go_simp <;> with_reducible rfl)
      try simp only [Act.put, List.setIfInBounds_toArray, List.set_cons_zero, List.set_cons_succ]
      refine H.done (by kernel_rfl) ?_ _
      clear g gA gB; obtain ⟨g, gA, gB⟩ := hHeld
      go_wp2_with (first | (go_at_call 138; refine (DV.out _).mono ?_; rintro e w2 ⟨rfl, hb2⟩; replace g := Blk.keep hb2 g; replace gA := Blk.keep hb2 gA; replace gB := gB.trans (hb2.mono gB.size)) | (go_at_call 111; refine (negative_n _ _).mono ?_; rintro e w2 ⟨rfl, hb2⟩; replace g := Blk.keep hb2 g; replace gA := Blk.keep hb2 gA; replace gB := gB.trans (hb2.mono gB.size)) | (go_at_call 115; refine (signer_any _ _).mono ?_; rintro e w2 ⟨rfl, rfl⟩; replace g := Blk.old g (.cells #[.bool true] 4); replace gB := gB.alloc gB.size (.cells #[.bool true] 4)))
      refine (HS.out _ _ (Blk.new rfl)).mono ?_
      rintro e w2 ⟨rfl, hb2⟩; replace g := Blk.keep hb2 g; replace gB := gB.trans (hb2.mono gB.size)
      go_wp2
      have hfin := (g.put (i := 0) (.int .i64 (hi (n / y)))).put (i := 1) (.int .u64 (lo (n / y)))
      exact bodyPost_ret (v := .tuple #[.agg #[.int .i64 (hi (n / y)), .int .u64 (lo (n / y))], .int .u64 0, .bool true]) (by simp [results, Tryz.results118, go_sem, (show Blk _ _ #[.int .i64 (hi (n / y)), .int .u64 (lo (n / y))] _ from hfin).two]) rfl ⟨ret_div E2.out.symm, (gB.setCell (by simp) _).setCell (by simp) _⟩
    · obtain ⟨e1, e2⟩ := hneg.2 hr
      have hr2 : (R != 0) = true := by rw [bne_iff_ne]; omega
      have hr3 : (R == 0) = false := by rw [beq_eq_false_iff_ne]; omega
      have ha := fun w => run_add64 LOW 1 0 w3 (by omega) (by omega) (by omega) w
      have hsg : clamp (sgn true ((hi (sz n) / y + (LOW + 1) / 18446744073709551616) * 18446744073709551616 + (LOW + 1) % 18446744073709551616)) = n / y := by
        simp only [sgn, if_true]; rw [show (hi (sz n) / y + (LOW + 1) / 18446744073709551616) * 18446744073709551616 + (LOW + 1) % 18446744073709551616 = hi (sz n) / y * 18446744073709551616 + LOW + 1 by omega, ← e1]; exact clamp_of hin
      have hs := fun (b : Nat) (w : World) (g : Blk w b #[.bool true] 4) => signed_any true (x := hi (sz n) / y + (LOW + 1) / 18446744073709551616) (y := (LOW + 1) % 18446744073709551616) (by omega) (by omega) (by omega) (by omega) g
      rw [hsg] at hs
      clear hneg w1 w2 e1 hsg
      have E2 := Lib.hid e2; clear e2
      generalize hi (sz n) / y = HI at *
      have HS := Lib.hid hs; clear hs
      go_enter Tryz.func118, Tryz.ntmps118
      go_wp2_with (go_at_call 113; refine (MA.out _).mono ?_; rintro e w1 ⟨rfl, hb1⟩; have g := Blk.keep hb1 (Blk.new (b := w.heap.size + 1) (T := 94) (by simp)); have gA := Blk.keep hb1 (Blk.old (Blk.new (b := w.heap.size) (T := 94) rfl) _); have gB := (((Below.refl w.heap.size w).alloc (Nat.le_refl _) _).alloc (by simp) _).trans (hb1.mono (by simp; omega)))
      refine wp_region_held_drew (S := (fun w' => Blk w' (w.heap.size + 1) #[.int .i64 0, .int .u64 0] 94 ∧ Blk w' w.heap.size #[.int .i64 (hi n), .int .u64 (lo n)] 94 ∧ Below w.heap.size w w')) (by kernel_rfl) ?_ (fun hHeld => ?_)
      · exact ⟨g.drew, gA.drew, gB.drew⟩
      refine H.take 0 (v := ?_) rfl (by kernel_rfl) (fun _ _ _ h => h) (by rfl) ?_ (by assumption) ?_
      rotate_left
      · (intro wz hSw; (try dsimp only at hSw); go_simp <;> with_reducible rfl)
      try simp only [Act.put, List.setIfInBounds_toArray, List.set_cons_zero, List.set_cons_succ]
      refine H.take 1 (v := ?_) rfl (by kernel_rfl) (fun _ _ _ h => h) (by rfl) ?_ (by assumption) ?_
      rotate_left
      · (intro wz hSw; (try dsimp only at hSw); go_simp <;> with_reducible rfl)
      try simp only [Act.put, List.setIfInBounds_toArray, List.set_cons_zero, List.set_cons_succ]
      refine H.take 2 (v := ?_) rfl (by kernel_rfl) (fun _ _ _ h => h) (by rfl) ?_ (by assumption) ?_
      rotate_left
      · (intro wz hSw; (try dsimp only at hSw); go_simp <;> with_reducible rfl)
      try simp only [Act.put, List.setIfInBounds_toArray, List.set_cons_zero, List.set_cons_succ]
      refine H.take 3 (v := ?_) rfl (by kernel_rfl) (fun _ _ _ h => h) (by rfl) ?_ (by assumption) ?_
      rotate_left
      · (intro wz hSw; (try dsimp only at hSw); go_simp <;> with_reducible rfl)
      try simp only [Act.put, List.setIfInBounds_toArray, List.set_cons_zero, List.set_cons_succ]
      refine H.take 4 (v := ?_) rfl (by kernel_rfl) (fun _ _ _ h => h) (by rfl) ?_ (by assumption) ?_
      rotate_left
      · (intro wz hSw; (try dsimp only at hSw); go_simp <;> with_reducible rfl)
      try simp only [Act.put, List.setIfInBounds_toArray, List.set_cons_zero, List.set_cons_succ]
      refine H.take 5 (v := ?_) rfl (by kernel_rfl) (fun _ _ _ h => h) (by rfl) ?_ (by assumption) ?_
      rotate_left
      · (intro wz hSw; (try dsimp only at hSw); go_simp <;> with_reducible rfl)
      try simp only [Act.put, List.setIfInBounds_toArray, List.set_cons_zero, List.set_cons_succ]
      refine H.take 6 (v := ?_) rfl (by kernel_rfl) (fun _ _ _ h => h) (by rfl) ?_ (by assumption) ?_
      rotate_left
      · (intro wz hSw; (try dsimp only at hSw); go_simp <;> with_reducible rfl)
      try simp only [Act.put, List.setIfInBounds_toArray, List.set_cons_zero, List.set_cons_succ]
      refine H.take 7 (v := ?_) rfl (by kernel_rfl) (fun _ _ _ h => h) (by rfl) ?_ (by assumption) ?_
      rotate_left
      · (intro wz hSw; (try dsimp only at hSw); go_simp <;> with_reducible rfl)
      try simp only [Act.put, List.setIfInBounds_toArray, List.set_cons_zero, List.set_cons_succ]
      refine H.done (by kernel_rfl) ?_ _
      clear g gA gB; obtain ⟨g, gA, gB⟩ := hHeld
      go_wp2_with (first | (go_at_call 138; refine (DV.out _).mono ?_; rintro e w2 ⟨rfl, hb2⟩; replace g := Blk.keep hb2 g; replace gA := Blk.keep hb2 gA; replace gB := gB.trans (hb2.mono gB.size)) | (go_at_call 111; refine (negative_n _ _).mono ?_; rintro e w2 ⟨rfl, hb2⟩; replace g := Blk.keep hb2 g; replace gA := Blk.keep hb2 gA; replace gB := gB.trans (hb2.mono gB.size)) | (go_at_call 115; refine (signer_any _ _).mono ?_; rintro e w2 ⟨rfl, rfl⟩; replace g := Blk.old g (.cells #[.bool true] 4); replace gB := gB.alloc gB.size (.cells #[.bool true] 4)))
      refine (HS.out _ _ (Blk.new rfl)).mono ?_
      rintro e w2 ⟨rfl, hb2⟩; replace g := Blk.keep hb2 g; replace gB := gB.trans (hb2.mono gB.size)
      go_wp2
      have hfin := (g.put (i := 0) (.int .i64 (hi (n / y)))).put (i := 1) (.int .u64 (lo (n / y)))
      exact bodyPost_ret (v := .tuple #[.agg #[.int .i64 (hi (n / y)), .int .u64 (lo (n / y))], .int .u64 (y - R), .bool true]) (by simp [results, Tryz.results118, go_sem, (show Blk _ _ #[.int .i64 (hi (n / y)), .int .u64 (lo (n / y))] _ from hfin).two]) rfl ⟨ret_div E2.out.symm, (gB.setCell (by simp) _).setCell (by simp) _⟩
  · have e0 := sz_pos (show 0 ≤ n by omega)
    have hd := decide_eq_false hnn
    have hsg : clamp (sgn false (hi (sz n) / y * 18446744073709551616 + LOW)) = n / y := by simp only [sgn, Bool.false_eq_true, if_false]; rw [← w1, e0]; exact clamp_of hin
    have e2 : n % y = R := by rw [← w2, e0]
    have hs := fun (b : Nat) (w : World) (g : Blk w b #[.bool false] 4) => signed_any false (x := hi (sz n) / y) (y := LOW) (by omega) (by omega) w3 w4 g
    rw [hsg] at hs
    clear hneg w1 w2 hsg
    have E2 := Lib.hid e2; clear e2 e0
    generalize hi (sz n) / y = HI at *
    have HS := Lib.hid hs; clear hs
    go_enter Tryz.func118, Tryz.ntmps118
    go_wp2_with (go_at_call 113; refine (MA.out _).mono ?_; rintro e w1 ⟨rfl, hb1⟩; have g := Blk.keep hb1 (Blk.new (b := w.heap.size + 1) (T := 94) (by simp)); have gA := Blk.keep hb1 (Blk.old (Blk.new (b := w.heap.size) (T := 94) rfl) _); have gB := (((Below.refl w.heap.size w).alloc (Nat.le_refl _) _).alloc (by simp) _).trans (hb1.mono (by simp; omega)))
    refine wp_region_held_drew (S := (fun w' => Blk w' (w.heap.size + 1) #[.int .i64 0, .int .u64 0] 94 ∧ Blk w' w.heap.size #[.int .i64 (hi n), .int .u64 (lo n)] 94 ∧ Below w.heap.size w w')) (by kernel_rfl) ?_ (fun hHeld => ?_)
    · exact ⟨g.drew, gA.drew, gB.drew⟩
    refine H.take 0 (v := ?_) rfl (by kernel_rfl) (fun _ _ _ h => h) (by rfl) ?_ (by assumption) ?_
    rotate_left
    · (intro wz hSw; (try dsimp only at hSw); go_simp <;> with_reducible rfl)
    try simp only [Act.put, List.setIfInBounds_toArray, List.set_cons_zero, List.set_cons_succ]
    refine H.take 1 (v := ?_) rfl (by kernel_rfl) (fun _ _ _ h => h) (by rfl) ?_ (by assumption) ?_
    rotate_left
    · (intro wz hSw; (try dsimp only at hSw); go_simp <;> with_reducible rfl)
    try simp only [Act.put, List.setIfInBounds_toArray, List.set_cons_zero, List.set_cons_succ]
    refine H.take 2 (v := ?_) rfl (by kernel_rfl) (fun _ _ _ h => h) (by rfl) ?_ (by assumption) ?_
    rotate_left
    · (intro wz hSw; (try dsimp only at hSw); go_simp <;> with_reducible rfl)
    try simp only [Act.put, List.setIfInBounds_toArray, List.set_cons_zero, List.set_cons_succ]
    refine H.take 3 (v := ?_) rfl (by kernel_rfl) (fun _ _ _ h => h) (by rfl) ?_ (by assumption) ?_
    rotate_left
    · (intro wz hSw; (try dsimp only at hSw); go_simp <;> with_reducible rfl)
    try simp only [Act.put, List.setIfInBounds_toArray, List.set_cons_zero, List.set_cons_succ]
    refine H.take 4 (v := ?_) rfl (by kernel_rfl) (fun _ _ _ h => h) (by rfl) ?_ (by assumption) ?_
    rotate_left
    · (intro wz hSw; (try dsimp only at hSw); go_simp <;> with_reducible rfl)
    try simp only [Act.put, List.setIfInBounds_toArray, List.set_cons_zero, List.set_cons_succ]
    refine H.take 5 (v := ?_) rfl (by kernel_rfl) (fun _ _ _ h => h) (by rfl) ?_ (by assumption) ?_
    rotate_left
    · (intro wz hSw; (try dsimp only at hSw); go_simp <;> with_reducible rfl)
    try simp only [Act.put, List.setIfInBounds_toArray, List.set_cons_zero, List.set_cons_succ]
    refine H.take 6 (v := ?_) rfl (by kernel_rfl) (fun _ _ _ h => h) (by rfl) ?_ (by assumption) ?_
    rotate_left
    · (intro wz hSw; (try dsimp only at hSw); go_simp <;> with_reducible rfl)
    try simp only [Act.put, List.setIfInBounds_toArray, List.set_cons_zero, List.set_cons_succ]
    refine H.take 7 (v := ?_) rfl (by kernel_rfl) (fun _ _ _ h => h) (by rfl) ?_ (by assumption) ?_
    rotate_left
    · (intro wz hSw; (try dsimp only at hSw); go_simp <;> with_reducible rfl)
    try simp only [Act.put, List.setIfInBounds_toArray, List.set_cons_zero, List.set_cons_succ]
    refine H.done (by kernel_rfl) ?_ _
    clear g gA gB; obtain ⟨g, gA, gB⟩ := hHeld
    go_wp2_with (first | (go_at_call 138; refine (DV.out _).mono ?_; rintro e w2 ⟨rfl, hb2⟩; replace g := Blk.keep hb2 g; replace gA := Blk.keep hb2 gA; replace gB := gB.trans (hb2.mono gB.size)) | (go_at_call 111; refine (negative_n _ _).mono ?_; rintro e w2 ⟨rfl, hb2⟩; replace g := Blk.keep hb2 g; replace gA := Blk.keep hb2 gA; replace gB := gB.trans (hb2.mono gB.size)) | (go_at_call 115; refine (signer_any _ _).mono ?_; rintro e w2 ⟨rfl, rfl⟩; replace g := Blk.old g (.cells #[.bool false] 4); replace gB := gB.alloc gB.size (.cells #[.bool false] 4)))
    refine (HS.out _ _ (Blk.new rfl)).mono ?_
    rintro e w2 ⟨rfl, hb2⟩; replace g := Blk.keep hb2 g; replace gB := gB.trans (hb2.mono gB.size)
    go_wp2
    have hfin := (g.put (i := 0) (.int .i64 (hi (n / y)))).put (i := 1) (.int .u64 (lo (n / y)))
    exact bodyPost_ret (v := .tuple #[.agg #[.int .i64 (hi (n / y)), .int .u64 (lo (n / y))], .int .u64 R, .bool true]) (by simp [results, Tryz.results118, go_sem, (show Blk _ _ #[.int .i64 (hi (n / y)), .int .u64 (lo (n / y))] _ from hfin).two]) rfl ⟨ret_div E2.out.symm, (gB.setCell (by simp) _).setCell (by simp) _⟩
end Go.Proofs.YtmfdnbjmfgljlaaGreatDoor


/-
  The contract of wide.Root.
-/

namespace Go.Proofs.YtmfdnbjmfgljlaaGreatDoor

open Go.RowKit

def pw (k : Nat) : Int := ((2 ^ k : Nat) : Int)
theorem pw_pos (k : Nat) : 1 ≤ pw k := by unfold pw; have := Nat.one_le_two_pow (n := k); omega
theorem pw_succ (k : Nat) : pw (k + 1) = 2 * pw k := by unfold pw; rw [Nat.pow_succ]; omega
theorem pw_le {k : Nat} (h : k ≤ 64) : pw k ≤ 18446744073709551616 := by
  unfold pw; have := Nat.pow_le_pow_right (n := 2) (by omega) h; omega

/-- What holds at the head of Root's loop: r is a multiple of p = 2^k, and the root lies from r on, below r + p. -/
def RootInv (n r : Int) (k : Nat) : Prop := k ≤ 64 ∧ 0 ≤ r ∧ r % pw k = 0 ∧ r + pw k ≤ 18446744073709551616 ∧ r * r ≤ n ∧ n < (r + pw k) * (r + pw k)

theorem RootInv.start {n : Int} (h0 : 0 ≤ n) (h1 : n ≤ 170141183460469231731687303715884105727) : RootInv n 0 64 := by
  refine ⟨by omega, by omega, by simp, by decide, by omega, ?_⟩
  have : (0 + pw 64) * (0 + pw 64) = 340282366920938463463374607431768211456 := by decide
  rw [this]; omega
theorem mod_half {r p : Int} (h : r % (2 * p) = 0) : r % p = 0 := by
  have := Int.emod_emod_of_dvd r (Int.dvd_mul_left 2 p); rw [h] at this; simpa using this.symm
theorem RootInv.no {n r : Int} {k : Nat} (h : RootInv n r (k + 1)) (hn : ¬ (r + pw k) * (r + pw k) ≤ n) : RootInv n r k := by
  obtain ⟨a, b, c, d, e, f⟩ := h
  rw [pw_succ] at c d
  have := pw_pos k
  exact ⟨by omega, b, mod_half c, by omega, e, by omega⟩
theorem RootInv.yes {n r : Int} {k : Nat} (h : RootInv n r (k + 1)) (hn : (r + pw k) * (r + pw k) ≤ n) : RootInv n (r + pw k) k := by
  obtain ⟨a, b, c, d, e, f⟩ := h
  rw [pw_succ] at c d f
  have := pw_pos k
  refine ⟨by omega, by omega, ?_, by omega, hn, ?_⟩
  · rw [Int.add_emod_right]; exact mod_half c
  · rw [show r + pw k + pw k = r + 2 * pw k by omega]; exact f
/-- The integer root: r. -/
def IsRoot (n r : Int) : Prop := 0 ≤ r ∧ r ≤ 18446744073709551615 ∧ r * r ≤ n ∧ n < (r + 1) * (r + 1)
theorem RootInv.fin {n r : Int} (h : RootInv n r 0) : IsRoot n r := by
  obtain ⟨a, b, c, d, e, f⟩ := h
  exact ⟨b, by have : pw 0 = 1 := rfl; omega, e, f⟩
def RootPost (n : Int) (w : World) (e : Ending) (w' : World) : Prop := ∃ r, IsRoot n r ∧ e = .returned (.int .u64 r) ∧ Below w.heap.size w w'

/-- At a round's head: the bit is half of 2^k. -/
def RootAt (n : Int) (R B : Value) : Prop := ∃ (r : Int) (k : Nat), RootInv n r k ∧ R = .int .u64 r ∧ B = .int .u64 (pw k / 2)

end Go.Proofs.YtmfdnbjmfgljlaaGreatDoor


/-
  Contracts of package wide: Clip, Root.
-/

namespace Go.Proofs.YtmfdnbjmfgljlaaGreatDoor

set_option maxRecDepth 100000

open Go.RowKit

/-- A number cut to 64 bits. -/
def clip (n : Int) : Int := if n < -9223372036854775808 then -9223372036854775808 else if 9223372036854775807 < n then 9223372036854775807 else n

set_option maxHeartbeats 1000000 in
theorem clip_n {n : Int} (hn : InR n) (w : World) :
    Calls Tryz.prog 116 #[.agg #[.int .i64 (hi n), .int .u64 (lo n)]] w fun e w' =>
      e = .returned (.int .i64 (clip n)) ∧ Below w.heap.size w w' := by
  have hb := hi_bd hn; have lb := lo_bd n; have hl := hilo n
  obtain ⟨t, ht⟩ : ∃ t, IntKind.i64.wrap (lo n) = t := ⟨_, rfl⟩
  have hw := IntKind.wrap_i64 (lo n)
  have t0 : -9223372036854775808 ≤ t := by omega
  have t1 : t ≤ 9223372036854775807 := by omega
  have ho := fun w => of_any t t0 t1 w
  have hng := fun w => negative_n n w
  have HN := Lib.hid hng; clear hng
  rcases (by omega : (n < -9223372036854775808 ∨ 9223372036854775807 < n) ∨ (-9223372036854775808 ≤ n ∧ n ≤ 9223372036854775807)) with h | h
  · have e1 : ¬ (hi t = hi n ∧ lo t = lo n) := fun k => by
      have := hilo_inj k.1 k.2; omega
    have e2 : clip n = if n < 0 then -9223372036854775808 else 9223372036854775807 := by unfold clip; split <;> split <;> (try split) <;> omega
    rw [e2]; clear e2 hl hw hb
    have q1 := fun (w' : World) (h : Blk w' w.heap.size #[.int .i64 (hi n), .int .u64 (lo n)] 94) => h.two
    generalize hi n = A at *; generalize lo n = B at *; generalize hi t = C at *; generalize lo t = D at *
    have HO := Lib.hid ho; clear ho
    by_cases h1 : C = A
    · obtain rfl : A = C := h1.symm
      have e3 : (D == B) = false := by rw [beq_eq_false_iff_ne]; omega
      clear e1 h
      by_cases hneg : n < 0
      · rw [if_pos hneg]
        go_enter Tryz.func116, Tryz.ntmps116
        go_wp2
        refine wp_region_held_drew (S := (fun w' => Blk w' w.heap.size #[.int .i64 A, .int .u64 B] 94 ∧ Below w.heap.size w w')) (by kernel_rfl) ?_ (fun hHeld => ?_)
        · exact ⟨(Blk.new rfl).drew, ((Below.refl w.heap.size w).alloc (Nat.le_refl _) _).drew⟩
        refine H.take 0 (v := ?_) rfl (by kernel_rfl) (fun _ _ _ h => h) (by rfl) ?_ (by assumption) ?_
        rotate_left
        · (intro wz hSw; (try dsimp only at hSw); go_simp <;> with_reducible rfl)
        try simp only [Act.put, List.setIfInBounds_toArray, List.set_cons_zero, List.set_cons_succ]
        refine H.take 2 (v := ?_) rfl (by kernel_rfl) (fun _ _ _ h => h) (by rfl) ?_ (by assumption) ?_
        rotate_left
        · (intro wz hSw; (try dsimp only at hSw); go_simp <;> with_reducible rfl)
        try simp only [Act.put, List.setIfInBounds_toArray, List.set_cons_zero, List.set_cons_succ]
        refine H.ready [1] (by kernel_rfl) (by simp) ?_
        refine H.one rfl (by rfl) (fun K hK => ?_) AllReadyH.nil
        go_simp
        go_at_call 84
        refine (HO.out _).mono ?_
        rintro e w' ⟨rfl, hb⟩
        refine hK.out _ _ ?_ (fun hHeld2 => ?_)
        · exact ⟨Blk.keep hb hHeld.1, hHeld.2.trans (hb.mono hHeld.2.size)⟩
        clear hHeld hK K; have hHeld := hHeld2; clear hHeld2
        try simp only [Act.put, List.setIfInBounds_toArray, List.set_cons_zero, List.set_cons_succ]
        refine H.take 3 (v := ?_) rfl (by kernel_rfl) (fun _ _ _ h => h) (by rfl) ?_ (by assumption) ?_
        rotate_left
        · (intro wz hSw; (try dsimp only at hSw); go_simp <;> with_reducible rfl)
        try simp only [Act.put, List.setIfInBounds_toArray, List.set_cons_zero, List.set_cons_succ]
        refine H.done (by kernel_rfl) ?_ _
        obtain ⟨g, gB⟩ := hHeld
        go_wp2_with (go_at_call 111; refine (HN.out _).mono ?_; rintro e w1 ⟨rfl, hb1⟩; replace gB := gB.trans (hb1.mono gB.size))
        go_ret
        exact ⟨rfl, gB⟩
      · rw [if_neg hneg]
        have hd := decide_eq_false hneg
        go_enter Tryz.func116, Tryz.ntmps116
        go_wp2
        refine wp_region_held_drew (S := (fun w' => Blk w' w.heap.size #[.int .i64 A, .int .u64 B] 94 ∧ Below w.heap.size w w')) (by kernel_rfl) ?_ (fun hHeld => ?_)
        · exact ⟨(Blk.new rfl).drew, ((Below.refl w.heap.size w).alloc (Nat.le_refl _) _).drew⟩
        refine H.take 0 (v := ?_) rfl (by kernel_rfl) (fun _ _ _ h => h) (by rfl) ?_ (by assumption) ?_
        rotate_left
        · (intro wz hSw; (try dsimp only at hSw); go_simp <;> with_reducible rfl)
        try simp only [Act.put, List.setIfInBounds_toArray, List.set_cons_zero, List.set_cons_succ]
        refine H.take 2 (v := ?_) rfl (by kernel_rfl) (fun _ _ _ h => h) (by rfl) ?_ (by assumption) ?_
        rotate_left
        · (intro wz hSw; (try dsimp only at hSw); go_simp <;> with_reducible rfl)
        try simp only [Act.put, List.setIfInBounds_toArray, List.set_cons_zero, List.set_cons_succ]
        refine H.ready [1] (by kernel_rfl) (by simp) ?_
        refine H.one rfl (by rfl) (fun K hK => ?_) AllReadyH.nil
        go_simp
        go_at_call 84
        refine (HO.out _).mono ?_
        rintro e w' ⟨rfl, hb⟩
        refine hK.out _ _ ?_ (fun hHeld2 => ?_)
        · exact ⟨Blk.keep hb hHeld.1, hHeld.2.trans (hb.mono hHeld.2.size)⟩
        clear hHeld hK K; have hHeld := hHeld2; clear hHeld2
        try simp only [Act.put, List.setIfInBounds_toArray, List.set_cons_zero, List.set_cons_succ]
        refine H.take 3 (v := ?_) rfl (by kernel_rfl) (fun _ _ _ h => h) (by rfl) ?_ (by assumption) ?_
        rotate_left
        · (intro wz hSw; (try dsimp only at hSw); go_simp <;> with_reducible rfl)
        try simp only [Act.put, List.setIfInBounds_toArray, List.set_cons_zero, List.set_cons_succ]
        refine H.done (by kernel_rfl) ?_ _
        obtain ⟨g, gB⟩ := hHeld
        go_wp2_with (go_at_call 111; refine (HN.out _).mono ?_; rintro e w1 ⟨rfl, hb1⟩; replace gB := gB.trans (hb1.mono gB.size))
        go_ret
        exact ⟨rfl, gB⟩
    · have e3 : (C == A) = false := by rw [beq_eq_false_iff_ne]; omega
      clear e1 h
      by_cases hneg : n < 0
      · rw [if_pos hneg]
        go_enter Tryz.func116, Tryz.ntmps116
        go_wp2
        refine wp_region_held_drew (S := (fun w' => Blk w' w.heap.size #[.int .i64 A, .int .u64 B] 94 ∧ Below w.heap.size w w')) (by kernel_rfl) ?_ (fun hHeld => ?_)
        · exact ⟨(Blk.new rfl).drew, ((Below.refl w.heap.size w).alloc (Nat.le_refl _) _).drew⟩
        refine H.take 0 (v := ?_) rfl (by kernel_rfl) (fun _ _ _ h => h) (by rfl) ?_ (by assumption) ?_
        rotate_left
        · (intro wz hSw; (try dsimp only at hSw); go_simp <;> with_reducible rfl)
        try simp only [Act.put, List.setIfInBounds_toArray, List.set_cons_zero, List.set_cons_succ]
        refine H.take 2 (v := ?_) rfl (by kernel_rfl) (fun _ _ _ h => h) (by rfl) ?_ (by assumption) ?_
        rotate_left
        · (intro wz hSw; (try dsimp only at hSw); go_simp <;> with_reducible rfl)
        try simp only [Act.put, List.setIfInBounds_toArray, List.set_cons_zero, List.set_cons_succ]
        refine H.ready [1] (by kernel_rfl) (by simp) ?_
        refine H.one rfl (by rfl) (fun K hK => ?_) AllReadyH.nil
        go_simp
        go_at_call 84
        refine (HO.out _).mono ?_
        rintro e w' ⟨rfl, hb⟩
        refine hK.out _ _ ?_ (fun hHeld2 => ?_)
        · exact ⟨Blk.keep hb hHeld.1, hHeld.2.trans (hb.mono hHeld.2.size)⟩
        clear hHeld hK K; have hHeld := hHeld2; clear hHeld2
        try simp only [Act.put, List.setIfInBounds_toArray, List.set_cons_zero, List.set_cons_succ]
        refine H.take 3 (v := ?_) rfl (by kernel_rfl) (fun _ _ _ h => h) (by rfl) ?_ (by assumption) ?_
        rotate_left
        · (intro wz hSw; (try dsimp only at hSw); go_simp <;> with_reducible rfl)
        try simp only [Act.put, List.setIfInBounds_toArray, List.set_cons_zero, List.set_cons_succ]
        refine H.done (by kernel_rfl) ?_ _
        obtain ⟨g, gB⟩ := hHeld
        go_wp2_with (go_at_call 111; refine (HN.out _).mono ?_; rintro e w1 ⟨rfl, hb1⟩; replace gB := gB.trans (hb1.mono gB.size))
        go_ret
        exact ⟨rfl, gB⟩
      · rw [if_neg hneg]
        have hd := decide_eq_false hneg
        go_enter Tryz.func116, Tryz.ntmps116
        go_wp2
        refine wp_region_held_drew (S := (fun w' => Blk w' w.heap.size #[.int .i64 A, .int .u64 B] 94 ∧ Below w.heap.size w w')) (by kernel_rfl) ?_ (fun hHeld => ?_)
        · exact ⟨(Blk.new rfl).drew, ((Below.refl w.heap.size w).alloc (Nat.le_refl _) _).drew⟩
        refine H.take 0 (v := ?_) rfl (by kernel_rfl) (fun _ _ _ h => h) (by rfl) ?_ (by assumption) ?_
        rotate_left
        · (intro wz hSw; (try dsimp only at hSw); go_simp <;> with_reducible rfl)
        try simp only [Act.put, List.setIfInBounds_toArray, List.set_cons_zero, List.set_cons_succ]
        refine H.take 2 (v := ?_) rfl (by kernel_rfl) (fun _ _ _ h => h) (by rfl) ?_ (by assumption) ?_
        rotate_left
        · (intro wz hSw; (try dsimp only at hSw); go_simp <;> with_reducible rfl)
        try simp only [Act.put, List.setIfInBounds_toArray, List.set_cons_zero, List.set_cons_succ]
        refine H.ready [1] (by kernel_rfl) (by simp) ?_
        refine H.one rfl (by rfl) (fun K hK => ?_) AllReadyH.nil
        go_simp
        go_at_call 84
        refine (HO.out _).mono ?_
        rintro e w' ⟨rfl, hb⟩
        refine hK.out _ _ ?_ (fun hHeld2 => ?_)
        · exact ⟨Blk.keep hb hHeld.1, hHeld.2.trans (hb.mono hHeld.2.size)⟩
        clear hHeld hK K; have hHeld := hHeld2; clear hHeld2
        try simp only [Act.put, List.setIfInBounds_toArray, List.set_cons_zero, List.set_cons_succ]
        refine H.take 3 (v := ?_) rfl (by kernel_rfl) (fun _ _ _ h => h) (by rfl) ?_ (by assumption) ?_
        rotate_left
        · (intro wz hSw; (try dsimp only at hSw); go_simp <;> with_reducible rfl)
        try simp only [Act.put, List.setIfInBounds_toArray, List.set_cons_zero, List.set_cons_succ]
        refine H.done (by kernel_rfl) ?_ _
        obtain ⟨g, gB⟩ := hHeld
        go_wp2_with (go_at_call 111; refine (HN.out _).mono ?_; rintro e w1 ⟨rfl, hb1⟩; replace gB := gB.trans (hb1.mono gB.size))
        go_ret
        exact ⟨rfl, gB⟩
  · obtain rfl : n = t := by omega
    have e2 : clip n = n := by unfold clip; rw [if_neg (by omega), if_neg (by omega)]
    rw [e2]; clear e2 hl hw hb h
    have q1 := fun (w' : World) (h : Blk w' w.heap.size #[.int .i64 (hi n), .int .u64 (lo n)] 94) => h.two
    generalize hi n = A at *; generalize lo n = B at *
    have HO := Lib.hid ho; clear ho
    go_enter Tryz.func116, Tryz.ntmps116
    go_wp2
    refine wp_region_held_drew (S := (fun w' => Blk w' w.heap.size #[.int .i64 A, .int .u64 B] 94 ∧ Below w.heap.size w w')) (by kernel_rfl) ?_ (fun hHeld => ?_)
    · exact ⟨(Blk.new rfl).drew, ((Below.refl w.heap.size w).alloc (Nat.le_refl _) _).drew⟩
    refine H.take 0 (v := ?_) rfl (by kernel_rfl) (fun _ _ _ h => h) (by rfl) ?_ (by assumption) ?_
    rotate_left
    · (intro wz hSw; (try dsimp only at hSw); go_simp <;> with_reducible rfl)
    try simp only [Act.put, List.setIfInBounds_toArray, List.set_cons_zero, List.set_cons_succ]
    refine H.take 2 (v := ?_) rfl (by kernel_rfl) (fun _ _ _ h => h) (by rfl) ?_ (by assumption) ?_
    rotate_left
    · (intro wz hSw; (try dsimp only at hSw); go_simp <;> with_reducible rfl)
    try simp only [Act.put, List.setIfInBounds_toArray, List.set_cons_zero, List.set_cons_succ]
    refine H.ready [1] (by kernel_rfl) (by simp) ?_
    refine H.one rfl (by rfl) (fun K hK => ?_) AllReadyH.nil
    go_simp
    go_at_call 84
    refine (HO.out _).mono ?_
    rintro e w' ⟨rfl, hb⟩
    refine hK.out _ _ ?_ (fun hHeld2 => ?_)
    · exact ⟨Blk.keep hb hHeld.1, hHeld.2.trans (hb.mono hHeld.2.size)⟩
    clear hHeld hK K; have hHeld := hHeld2; clear hHeld2
    try simp only [Act.put, List.setIfInBounds_toArray, List.set_cons_zero, List.set_cons_succ]
    refine H.take 3 (v := ?_) rfl (by kernel_rfl) (fun _ _ _ h => h) (by rfl) ?_ (by assumption) ?_
    rotate_left
    · (intro wz hSw; (try dsimp only at hSw); go_simp <;> with_reducible rfl)
    try simp only [Act.put, List.setIfInBounds_toArray, List.set_cons_zero, List.set_cons_succ]
    refine H.done (by kernel_rfl) ?_ _
    obtain ⟨g, gB⟩ := hHeld
    go_wp2_with (go_at_call 111; refine (HN.out _).mono ?_; rintro e w1 ⟨rfl, hb1⟩; replace gB := gB.trans (hb1.mono gB.size))
    go_ret
    exact ⟨rfl, gB⟩
end Go.Proofs.YtmfdnbjmfgljlaaGreatDoor


/-
  The contracts of the program's wide, as oracles of a reading.
-/




namespace Go.Proofs.YtmfdnbjmfgljlaaGreatDoor

set_option maxRecDepth 100000

open Go.Den Go.RowKit
noncomputable section

def W2 (h l : Int) : Int := h * 18446744073709551616 + l
def wv (n : Int) : Value := .agg #[.int .i64 (hi n), .int .u64 (lo n)]
def okI (n : Int) : Bool := decide (-9223372036854775808 ≤ n) && decide (n ≤ 9223372036854775807)
def okU (n : Int) : Bool := decide (0 ≤ n) && decide (n ≤ 18446744073709551615)
def okW (h l : Int) : Bool := okI h && okU l
theorem okI_iff {n : Int} : okI n = true ↔ -9223372036854775808 ≤ n ∧ n ≤ 9223372036854775807 := by simp [okI]
theorem okU_iff {n : Int} : okU n = true ↔ 0 ≤ n ∧ n ≤ 18446744073709551615 := by simp [okU]
theorem okW_iff {h l : Int} : okW h l = true ↔ (-9223372036854775808 ≤ h ∧ h ≤ 9223372036854775807) ∧ 0 ≤ l ∧ l ≤ 18446744073709551615 := by simp [okW, okI_iff, okU_iff]
theorem W2_hilo (n : Int) : W2 (hi n) (lo n) = n := hilo n
theorem hi_W2 {h l : Int} (k : okW h l = true) : hi (W2 h l) = h ∧ lo (W2 h l) = l ∧ InR (W2 h l) := by
  rw [okW_iff] at k
  unfold hi lo InR W2; omega
theorem okW_hilo {n : Int} (h : InR n) : okW (hi n) (lo n) = true := okW_iff.2 ⟨hi_bd h, lo_bd n⟩
theorem wv_W2 {h l : Int} (k : okW h l = true) : wv (W2 h l) = .agg #[.int .i64 h, .int .u64 l] := by
  unfold wv; rw [(hi_W2 k).1, (hi_W2 k).2.1]
def ofS : Array Value → Option (Bool × Value)
  | ⟨[.int .i64 n]⟩ => some (okI n, wv n)
  | _ => none
def addS : Array Value → Option (Bool × Value)
  | ⟨[.agg ⟨[.int .i64 h1, .int .u64 l1]⟩, .agg ⟨[.int .i64 h2, .int .u64 l2]⟩]⟩ => some (okW h1 l1 && okW h2 l2, wv (clamp (W2 h1 l1 + W2 h2 l2)))
  | _ => none
def subS : Array Value → Option (Bool × Value)
  | ⟨[.agg ⟨[.int .i64 h1, .int .u64 l1]⟩, .agg ⟨[.int .i64 h2, .int .u64 l2]⟩]⟩ => some (okW h1 l1 && okW h2 l2, wv (clamp (W2 h1 l1 - W2 h2 l2)))
  | _ => none
def negS : Array Value → Option (Bool × Value)
  | ⟨[.agg ⟨[.int .i64 h, .int .u64 l]⟩]⟩ => some (okW h l, wv (clamp (-W2 h l)))
  | _ => none
def absS : Array Value → Option (Bool × Value)
  | ⟨[.agg ⟨[.int .i64 h, .int .u64 l]⟩]⟩ => some (okW h l, wv (clamp (sz (W2 h l))))
  | _ => none
def halfS : Array Value → Option (Bool × Value)
  | ⟨[.agg ⟨[.int .i64 h, .int .u64 l]⟩]⟩ => some (okU l, wv (W2 h l / 2))
  | _ => none
def cmpS : Array Value → Option (Bool × Value)
  | ⟨[.agg ⟨[.int .i64 h1, .int .u64 l1]⟩, .agg ⟨[.int .i64 h2, .int .u64 l2]⟩]⟩ => some (okW h1 l1 && okW h2 l2, .int .i64 (cmpI (W2 h1 l1) (W2 h2 l2)))
  | _ => none
def mulS : Array Value → Option (Bool × Value)
  | ⟨[.int .i64 a, .int .i64 b]⟩ => some (okI a && okI b, wv (a * b))
  | _ => none
def scaleS : Array Value → Option (Bool × Value)
  | ⟨[.agg ⟨[.int .i64 h, .int .u64 l]⟩, .int .u32 k]⟩ => some (okW h l && (decide (0 ≤ k) && decide (k ≤ 4294967295)), wv (clamp (W2 h l * k)))
  | _ => none
def clipS : Array Value → Option (Bool × Value)
  | ⟨[.agg ⟨[.int .i64 h, .int .u64 l]⟩]⟩ => some (okW h l, .int .i64 (clip (W2 h l)))
  | _ => none
def divS : Array Value → Option (Bool × Value)
  | ⟨[.agg ⟨[.int .i64 h, .int .u64 l]⟩, .int .u64 y]⟩ => some (okW h l && (decide (0 < y) && decide (y ≤ 18446744073709551615)), .tuple #[wv (W2 h l / y), .int .u64 (W2 h l % y), .bool true])
  | _ => none
theorem by_W2 {h l : Int} (k : okW h l = true) {p : Value → Value → Prop} (q : p (.agg #[.int .i64 (hi (W2 h l)), .int .u64 (lo (W2 h l))]) (wv (W2 h l))) : p (.agg #[.int .i64 h, .int .u64 l]) (wv (W2 h l)) := by
  rwa [(hi_W2 k).1, (hi_W2 k).2.1] at q
def pcOf : PC Tryz.prog where
  f := 84
  spec := ofS
  body := by kernel_rfl
  ok := fun args r hr hok => by
    unfold ofS at hr
    split at hr
    · cases hr
      rw [okI_iff] at hok
      exact ⟨all_bel rfl, rfl, fun w => of_any _ hok.1 hok.2 w⟩
    · cases hr
def pcAdd : PC Tryz.prog where
  f := 82
  spec := addS
  body := by kernel_rfl
  ok := fun args r hr hok => by
    unfold addS at hr
    split at hr
    · cases hr
      rw [Bool.and_eq_true, okW_iff, okW_iff] at hok
      obtain ⟨⟨⟨a, b⟩, c, d⟩, ⟨e, f⟩, g, h⟩ := hok
      exact ⟨all_bel rfl, rfl, fun w => add_any _ _ _ _ c d g h a b e f w⟩
    · cases hr
def pcSub : PC Tryz.prog where
  f := 143
  spec := subS
  body := by kernel_rfl
  ok := fun args r hr hok => by
    unfold subS at hr
    split at hr
    · cases hr
      rw [Bool.and_eq_true, okW_iff, okW_iff] at hok
      obtain ⟨⟨⟨a, b⟩, c, d⟩, ⟨e, f⟩, g, h⟩ := hok
      exact ⟨all_bel rfl, rfl, fun w => sub_any _ _ _ _ c d g h a b e f w⟩
    · cases hr
def pcNeg : PC Tryz.prog where
  f := 136
  spec := negS
  body := by kernel_rfl
  ok := fun args r hr hok => by
    unfold negS at hr
    split at hr
    · cases hr
      rw [okW_iff] at hok
      exact ⟨all_bel rfl, rfl, fun w => neg_any _ _ hok.2.1 hok.2.2 hok.1.1 hok.1.2 w⟩
    · cases hr
def pcScale : PC Tryz.prog where
  f := 83
  spec := scaleS
  body := by kernel_rfl
  ok := fun args r hr hok => by
    unfold scaleS at hr
    split at hr
    · cases hr
      rw [Bool.and_eq_true, Bool.and_eq_true, decide_eq_true_eq, decide_eq_true_eq] at hok
      refine ⟨all_bel rfl, rfl, fun w => ?_⟩
      have := scale_any (hi_W2 hok.1).2.2 hok.2.1 hok.2.2 w
      rw [(hi_W2 hok.1).1, (hi_W2 hok.1).2.1] at this
      exact this
    · cases hr
def pcClip : PC Tryz.prog where
  f := 116
  spec := clipS
  body := by kernel_rfl
  ok := fun args r hr hok => by
    unfold clipS at hr
    split at hr
    · cases hr
      refine ⟨all_bel rfl, rfl, fun w => ?_⟩
      have := clip_n (hi_W2 hok).2.2 w
      rw [(hi_W2 hok).1, (hi_W2 hok).2.1] at this
      exact this
    · cases hr
def pcDiv : PC Tryz.prog where
  f := 118
  spec := divS
  body := by kernel_rfl
  ok := fun args r hr hok => by
    unfold divS at hr
    split at hr
    · cases hr
      rw [Bool.and_eq_true, Bool.and_eq_true, decide_eq_true_eq, decide_eq_true_eq] at hok
      refine ⟨all_bel rfl, rfl, fun w => ?_⟩
      have := wdiv_n (hi_W2 hok.1).2.2 hok.2.1 hok.2.2 w
      rw [(hi_W2 hok.1).1, (hi_W2 hok.1).2.1] at this
      exact this
    · cases hr
/-- A function of no arguments that was read. -/
def knownS : Array Value → Option (Bool × Value)
  | ⟨[]⟩ => some (true, .bool true)
  | _ => none
def pcKnown (f : FuncId) (body : (Tryz.prog.funcs[f]?.bind (·.body)).isSome = true) (hr : (((ev envT 1000).call [] f #[] [] B0).run.map (·.v)) = some (.bool true)) : PC Tryz.prog where
  f := f
  spec := knownS
  body := body
  ok := fun args r h _ => by
    unfold knownS at h
    split at h
    · cases h
      exact ⟨all_bel rfl, rfl, fun w => calls_read envT hcokP 1000 hr (by simp) rfl w⟩
    · cases h
def pcsW : List (PC Tryz.prog) := [pcAdd, pcSub, pcOf, pcClip, pcDiv, pcNeg, pcScale]
end

end Go.Proofs.YtmfdnbjmfgljlaaGreatDoor


/-
  Contracts as oracles: the text of a number; strings.Repeat, CutPrefix, Count.
-/




namespace Go.Proofs.YtmfdnbjmfgljlaaGreatDoor

open Go.Den Go.RowKit
noncomputable section
set_option maxRecDepth 100000

set_option linter.unusedSectionVars false

variable [Inhabited Root]

theorem Tab.held (hT : Tab rootW) {w : World} (hw : Held w) : Tab w := by
  unfold Tab Lib.TabIs World.var? at *
  cases hg : Tryz.prog.globalNamed "internal/strconv.uint64pow10" with
  | none => rw [hg] at hT; cases hT
  | some g =>
    rw [hg] at hT
    simp only [Option.bind_some] at hT ⊢
    cases hb : rootW.heap[g]? with
    | none => rw [hb] at hT; cases hT
    | some o =>
      rw [hw g (Array.getElem?_eq_some_iff.1 hb).1]
      exact hT
/-- The text of a number. -/
noncomputable def tx (n : Int) : ByteArray := ⟨(Lib.itoa n).toArray⟩
noncomputable def rp (s : ByteArray) (c : Int) : ByteArray := ⟨(Lib.repeatL s.data.toList c.toNat).toArray⟩
noncomputable def cutS (s p : ByteArray) : ByteArray := ⟨(Lib.trimPrefix s.data.toList p.data.toList).toArray⟩
noncomputable def hasS (s p : ByteArray) : Bool := Lib.hasPrefix s.data.toList p.data.toList
noncomputable def decS : Array Value → Option (Bool × Value)
  | ⟨[.int .i64 n]⟩ => some (okI n, .string (tx n))
  | _ => none
noncomputable def unsS : Array Value → Option (Bool × Value)
  | ⟨[.int .u64 n]⟩ => some (okU n, .string (tx n))
  | _ => none
noncomputable def repS : Array Value → Option (Bool × Value)
  | ⟨[.string s, .int .i64 c]⟩ => some (decide (0 ≤ c) && (decide (c ≤ 1048576) && decide (s.size ≤ 1048576)), .string (rp s c))
  | _ => none
noncomputable def cutPS : Array Value → Option (Bool × Value)
  | ⟨[.string s, .string p]⟩ => some (true, .tuple #[.string (cutS s p), .bool (hasS s p)])
  | _ => none
noncomputable def valueS : Array Value → Option (Bool × Value)
  | ⟨[.int .i32 c]⟩ => some (decide (0 ≤ c) && decide (c ≤ 2147483647), .int .i64 (valI c))
  | _ => none
noncomputable def pkDec (hT : Tab rootW) : PK Tryz.prog where
  f := 117
  spec := decS
  body := by kernel_rfl
  ok := fun args r hr hok => by
    unfold decS at hr
    split at hr
    · cases hr
      rw [okI_iff] at hok
      exact ⟨all_bel rfl, rfl, fun w hw => dec_any _ hok.1 hok.2 w (hT.held hw)⟩
    · cases hr
noncomputable def pkUns (hT : Tab rootW) : PK Tryz.prog where
  f := 22
  spec := unsS
  body := by kernel_rfl
  ok := fun args r hr hok => by
    unfold unsS at hr
    split at hr
    · rename_i n
      cases hr
      rw [okU_iff] at hok
      obtain ⟨u, rfl⟩ := Int.eq_ofNat_of_zero_le hok.1
      refine ⟨all_bel rfl, rfl, fun w hw => ?_⟩
      have := unsigned_any u (by omega) w (hT.held hw)
      unfold tx; rw [Lib.itoa_nonneg]; exact this
    · cases hr
noncomputable def pcRep : PC Tryz.prog where
  f := 78
  spec := repS
  body := by kernel_rfl
  ok := fun args r hr hok => by
    unfold repS at hr
    split at hr
    · rename_i s c
      cases hr
      simp only [Bool.and_eq_true, decide_eq_true_eq] at hok
      obtain ⟨c, rfl⟩ := Int.eq_ofNat_of_zero_le hok.1
      refine ⟨all_bel rfl, rfl, fun w => ?_⟩
      have hm : s.size * c ≤ 1048576 * 1048576 := Nat.mul_le_mul hok.2.2 (by omega)
      exact Tryz.strings_Repeat s c w (by omega) (by omega)
    · cases hr
noncomputable def pcCut : PC Tryz.prog where
  f := 80
  spec := cutPS
  body := by kernel_rfl
  ok := fun args r hr hok => by
    unfold cutPS at hr
    split at hr
    · cases hr
      refine ⟨all_bel rfl, rfl, fun w => (Tryz.strings_CutPrefix _ _ w).mono ?_⟩
      rintro e w' ⟨rfl, rfl⟩
      exact ⟨rfl, Below.refl _ _⟩
    · cases hr
noncomputable def pcValue : PC Tryz.prog where
  f := 81
  spec := valueS
  body := by kernel_rfl
  ok := fun args r hr hok => by
    unfold valueS at hr
    split at hr
    · cases hr
      simp only [Bool.and_eq_true, decide_eq_true_eq] at hok
      refine ⟨all_bel rfl, rfl, fun w => (value_any _ hok.1 hok.2 w).mono ?_⟩
      rintro e w' ⟨rfl, rfl⟩
      exact ⟨rfl, Below.refl _ _⟩
    · cases hr
/-- The text of a wide number, of those nearer to 0 than B. -/
noncomputable def dwS (B : Int) : Array Value → Option (Bool × Value)
  | ⟨[.agg ⟨[.int .i64 h, .int .u64 l]⟩]⟩ => some (okW h l && (decide (-B < W2 h l) && decide (W2 h l < B)), .string (tx (W2 h l)))
  | _ => none
def DwOk (B : Int) : Prop := ∀ h l, okW h l = true → -B < W2 h l → W2 h l < B → ∀ w, Held w → Calls Tryz.prog 85 #[.agg #[.int .i64 h, .int .u64 l]] w fun e w' => e = .returned (.string (tx (W2 h l))) ∧ Below w.heap.size w w'
noncomputable def pkDW (B : Int) (hB : DwOk B) : PK Tryz.prog where
  f := 85
  spec := dwS B
  body := by kernel_rfl
  ok := fun args r hr hok => by
    unfold dwS at hr
    split at hr
    · cases hr
      simp only [Bool.and_eq_true, decide_eq_true_eq] at hok
      exact ⟨all_bel rfl, rfl, fun w hw => hB _ _ hok.1 hok.2.1 hok.2.2 w hw⟩
    · cases hr
noncomputable def pksW [Inhabited Names] : List (PM Tryz.prog) := (pcsW.map PC.up).map PK.mem
noncomputable def envDW (hT : Tab rootW) (B : Int) (hB : DwOk B) : Env Tryz.prog :=
  envS.mem false ((pkDec hT).mem :: (pkUns hT).mem :: pcRep.up.mem :: (pkDW B hB).mem :: pksW)
end

end Go.Proofs.YtmfdnbjmfgljlaaGreatDoor


/-
  Read by wip/tools/vc.py, and what follows.
-/


namespace Go.Proofs.YtmfdnbjmfgljlaaGreatDoor

open Go.Den Go.RowKit
noncomputable section
set_option maxRecDepth 100000

set_option linter.unusedSectionVars false

variable [Inhabited Root]

theorem decW_vc (hT : Tab rootW) (B : Int) (hB : DwOk B) (h l : Int) (Q : Value → Prop) (x1 : Int) (e_x1 : x1 = W2 h l % 1000000000000000000) (x2 : Int) (e_x2 : x2 = W2 h l / 1000000000000000000) (x3 : Int) (e_x3 : x3 = hi x2) (x4 : Int) (e_x4 : x4 = lo x2) (x5 : Int) (e_x5 : x5 = IntKind.wrap IntKind.u64 (1000000000000000000 - x1)) (x6 : Int) (e_x6 : x6 = W2 x3 x4) (x7 : Int) (e_x7 : x7 = clamp (x6 + 1)) (x8 : Int) (e_x8 : x8 = hi x7) (x9 : Int) (e_x9 : x9 = lo x7) (x10 : Int) (e_x10 : x10 = W2 x8 x9) (x11 : Int) (e_x11 : x11 = IntKind.wrap IntKind.i64 (18 - (↑(ByteArray.size (tx x5)) : Int))) (x12 : Int) (e_x12 : x12 = (↑(ByteArray.size (tx x10) + ByteArray.size (rp { data := { toList := [48] } } x11)) : Int)) (x13 : Int) (e_x13 : x13 = (↑(ByteArray.size (tx x10 ++ rp { data := { toList := [48] } } x11) + ByteArray.size (tx x5)) : Int)) (x14 : Int) (e_x14 : x14 = IntKind.wrap IntKind.i64 (18 - (↑(ByteArray.size (tx x1)) : Int))) (x15 : Int) (e_x15 : x15 = (↑(ByteArray.size (tx x6) + ByteArray.size (rp { data := { toList := [48] } } x14)) : Int)) (x16 : Int) (e_x16 : x16 = (↑(ByteArray.size (tx x6 ++ rp { data := { toList := [48] } } x14) + ByteArray.size (tx x1)) : Int)) : ((ev (envDW hT B hB) 80).call [] 85 #[.agg #[.int .i64 h, .int .u64 l]] [] B0).holds (fun r => Q r.v) = (bcase (okW h l)
  (bcase (okI (clip (W2 h l)))
    (bcase (hi (clip (W2 h l)) == h && (lo (clip (W2 h l)) == l && true))
      (bcase (okI (clip (W2 h l))) (Q (Value.string (tx (clip (W2 h l))))) False)
      (bcase (okW h l && true)
        (bcase (decide (h < 0))
          (bcase (x1 != 0)
            (bcase (okW x3 x4 && true)
              (bcase (okU x5)
                (bcase (okW x8 x9 && (decide (-B < x10) && decide (x10 < B)))
                  (bcase (decide (0 ≤ x11) && (decide (x11 ≤ 1048576) && true))
                    (bcase (decide (x12 ≤ 9223372036854775807))
                      (bcase (decide (x13 ≤ 9223372036854775807))
                        (Q (Value.string (tx x10 ++ rp { data := { toList := [48] } } x11 ++ tx x5))) False)
                      False)
                    False)
                  False)
                False)
              False)
            (bcase (okU x1)
              (bcase (okW x3 x4 && (decide (-B < x6) && decide (x6 < B)))
                (bcase (decide (0 ≤ x14) && (decide (x14 ≤ 1048576) && true))
                  (bcase (decide (x15 ≤ 9223372036854775807))
                    (bcase (decide (x16 ≤ 9223372036854775807))
                      (Q (Value.string (tx x6 ++ rp { data := { toList := [48] } } x14 ++ tx x1))) False)
                    False)
                  False)
                False)
              False))
          (bcase (okU x1)
            (bcase (okW x3 x4 && (decide (-B < x6) && decide (x6 < B)))
              (bcase (decide (0 ≤ x14) && (decide (x14 ≤ 1048576) && true))
                (bcase (decide (x15 ≤ 9223372036854775807))
                  (bcase (decide (x16 ≤ 9223372036854775807))
                    (Q (Value.string (tx x6 ++ rp { data := { toList := [48] } } x14 ++ tx x1))) False)
                  False)
                False)
              False)
            False))
        False))
    False)
  False) := by
  subst e_x16 e_x15 e_x14 e_x13 e_x12 e_x11 e_x10 e_x9 e_x8 e_x7 e_x6 e_x5 e_x4 e_x3 e_x2 e_x1
  kernel_rfl
/-- A quotient, cut towards 0. -/
def tr18 (n : Int) : Int := if n < 0 ∧ n % 1000000000000000000 ≠ 0 then n / 1000000000000000000 + 1 else n / 1000000000000000000
def re18 (n : Int) : Int := if n < 0 ∧ n % 1000000000000000000 ≠ 0 then 1000000000000000000 - n % 1000000000000000000 else n % 1000000000000000000
theorem tr18_eq (n : Int) : n.natAbs = (tr18 n).natAbs * 10 ^ 18 + (re18 n).toNat ∧ 0 ≤ re18 n ∧ re18 n < 1000000000000000000 ∧ (0 < tr18 n → 0 ≤ n) ∧ (tr18 n < 0 → n < 0) := by
  unfold tr18 re18; split <;> omega
theorem tx_size (n : Int) : (tx n).size = (Lib.itoa n).length := by unfold tx; simp [ByteArray.size]
theorem itoa_u {n : Int} (h : 0 ≤ n) : Lib.itoa n = Lib.decDigits n.toNat := by unfold Lib.itoa; rw [if_neg (by omega)]
theorem rp_eq (c : Int) : rp { data := { toList := [48] } } c = ⟨(List.replicate c.toNat (48 : UInt8)).toArray⟩ := by
  unfold rp
  have : ∀ k, Lib.repeatL [48] k = List.replicate k (48 : UInt8) := fun k => by
    induction k with
    | zero => rfl
    | succ k ih => rw [Lib.repeatL, ih]; rfl
  rw [this]
theorem rp_size (c : Int) : (rp { data := { toList := [48] } } c).size = c.toNat := by rw [rp_eq]; simp [ByteArray.size]
theorem tx_small {d : Int} (h0 : 0 ≤ d) (h1 : d < 1000000000000000000) : (tx d).size ≤ 18 ∧ (tx d).size = Lib.nDigits d.toNat := by
  rw [tx_size, itoa_u h0, Lib.decDigits_length]
  exact ⟨nDigits_le 17 d.toNat (by omega), rfl⟩
/-- A numeral out of its two parts. -/
theorem tx_parts {n : Int} (h : tr18 n ≠ 0) : tx (tr18 n) ++ rp { data := { toList := [48] } } (18 - ((tx (re18 n)).size : Int)) ++ tx (re18 n) = tx n := by
  obtain ⟨e1, e2, e3, e4, e5⟩ := tr18_eq n
  obtain ⟨s1, s2⟩ := tx_small e2 e3
  rw [rp_eq]
  have hd := dec_pad 17 (tr18 n).natAbs (re18 n).toNat (by omega) (by omega)
  rw [show 17 + 1 = 18 from rfl, ← e1] at hd
  have e6 : (18 - ((tx (re18 n)).size : Int)).toNat = 18 - Lib.nDigits (re18 n).toNat := by omega
  rw [e6]
  unfold tx
  rw [ByteArray.mk_append_mk, ByteArray.mk_append_mk]
  congr 2
  rw [itoa_u e2, List.append_assoc]
  unfold Lib.itoa
  by_cases hn : n < 0
  · rw [if_pos hn, if_pos (by omega), hd]; rfl
  · rw [if_neg hn, if_neg (by omega), show (tr18 n).toNat = (tr18 n).natAbs by omega, show n.toNat = n.natAbs by omega, hd]
theorem tx_le {n : Int} (h : InR n) : (tx n).size ≤ 40 := by rw [tx_size]; exact itoa_len h
theorem app_size (a b : ByteArray) : (a ++ b).size = a.size + b.size := by simp [ByteArray.size_append]
theorem i64w {n : Int} (h0 : -9223372036854775808 ≤ n) (h1 : n ≤ 9223372036854775807) : IntKind.i64.wrap n = n := by rw [IntKind.wrap_i64]; omega
theorem clip_ok {n : Int} (_ : InR n) : okI (clip n) = true := by rw [okI_iff]; unfold clip; split <;> (try split) <;> omega
set_option maxHeartbeats 1000000 in
theorem dw_step (hT : Tab rootW) (B B' : Int) (hB : DwOk B)
    (hs : ∀ n, InR n → -B' < n → n < B' → (-9223372036854775808 ≤ n ∧ n ≤ 9223372036854775807) ∨ (-B < tr18 n ∧ tr18 n < B)) : DwOk B' := by
  intro h l k g0 g1 w hw
  have hn := (hi_W2 k).2.2
  have hsp := hs _ hn g0 g1
  refine calls_specK (envDW hT B hB) hcokP 80 (v := .string (tx (W2 h l))) ?_ (all_bel rfl) rfl w hw
  rw [decW_vc hT B hB h l (fun v => v = .string (tx (W2 h l))) _ rfl _ rfl _ rfl _ rfl _ rfl _ rfl _ rfl _ rfl _ rfl _ rfl _ rfl _ rfl _ rfl _ rfl _ rfl _ rfl]
  rw [k, bcase_t, clip_ok hn, bcase_t, bcase_t]
  have e1 : h = hi (W2 h l) := (hi_W2 k).1.symm
  have e2 : l = lo (W2 h l) := (hi_W2 k).2.1.symm
  have hneg : decide (h < 0) = decide (W2 h l < 0) := by
    rw [decide_eq_decide]; conv => lhs; rw [e1]
    exact hi_neg _
  have hcl : (hi (clip (W2 h l)) == h && (lo (clip (W2 h l)) == l && true)) = decide (-9223372036854775808 ≤ W2 h l ∧ W2 h l ≤ 9223372036854775807) := by
    rw [Bool.eq_iff_iff]
    simp only [Bool.and_eq_true, beq_iff_eq, decide_eq_true_eq, and_true]
    constructor
    · rintro ⟨a, b⟩
      have := hilo_inj (a.trans e1) (b.trans e2)
      unfold clip at this; split at this <;> (try split at this) <;> omega
    · intro a
      have : clip (W2 h l) = W2 h l := by unfold clip; rw [if_neg (by omega), if_neg (by omega)]
      rw [this]; exact ⟨e1.symm, e2.symm⟩
  rw [hcl, hneg]
  generalize W2 h l = n at *
  have hq : InR (n / 1000000000000000000) := by unfold InR at *; omega
  have hq1 : InR (n / 1000000000000000000 + 1) := by unfold InR at *; omega
  have hr : okU (n % 1000000000000000000) = true := by rw [okU_iff]; omega
  have hr2 : n % 1000000000000000000 < 1000000000000000000 := Int.emod_lt_of_pos _ (by omega)
  have hr1 : 0 ≤ n % 1000000000000000000 := Int.emod_nonneg _ (by omega)
  have W : W2 (hi (n / 1000000000000000000)) (lo (n / 1000000000000000000)) = n / 1000000000000000000 := W2_hilo _
  have W1 : W2 (hi (clamp (n / 1000000000000000000 + 1))) (lo (clamp (n / 1000000000000000000 + 1))) = n / 1000000000000000000 + 1 := by rw [W2_hilo, clamp_of hq1]
  rw [W, W1, okW_hilo hq, okW_hilo (show InR (clamp (n / 1000000000000000000 + 1)) from clamp_in _), hr]
  simp only [Bool.and_true, Bool.true_and, bcase_t]
  refine bcase_in (fun hd => ?_) fun hd => ?_
  · rw [decide_eq_true_eq] at hd
    have : clip n = n := by unfold clip; rw [if_neg (by omega), if_neg (by omega)]
    rw [this]
  · rw [decide_eq_false_iff_not] at hd
    have hsp' : -B < tr18 n ∧ tr18 n < B := by omega
    have ht : tr18 n ≠ 0 := by unfold tr18; split <;> omega
    have hfin := tx_parts ht
    obtain ⟨_, r0, r1, _, _⟩ := tr18_eq n
    obtain ⟨s1, s2⟩ := tx_small r0 r1
    have key : ∀ q d, q = tr18 n → d = re18 n → InR q → bcase (decide (0 ≤ IntKind.i64.wrap (18 - ((tx d).size : Int))) && decide (IntKind.i64.wrap (18 - ((tx d).size : Int)) ≤ 1048576))
        (bcase (decide (((tx q).size + (rp { data := { toList := [48] } } (IntKind.i64.wrap (18 - ((tx d).size : Int)))).size : Nat) ≤ (9223372036854775807 : Int)))
          (bcase (decide (((tx q ++ rp { data := { toList := [48] } } (IntKind.i64.wrap (18 - ((tx d).size : Int)))).size + (tx d).size : Nat) ≤ (9223372036854775807 : Int)))
            (Value.string (tx q ++ rp { data := { toList := [48] } } (IntKind.i64.wrap (18 - ((tx d).size : Int))) ++ tx d) = Value.string (tx n)) False) False) False := by
      rintro q d rfl rfl hin
      have hw1 := i64w (n := 18 - ((tx (re18 n)).size : Int)) (by omega) (by omega)
      have hle := tx_le hin
      rw [hw1, decide_eq_true (show 0 ≤ 18 - ((tx (re18 n)).size : Int) by omega), decide_eq_true (show 18 - ((tx (re18 n)).size : Int) ≤ 1048576 by omega)]
      have z1 := rp_size (18 - ((tx (re18 n)).size : Int))
      rw [app_size, z1, decide_eq_true (by omega), decide_eq_true (by omega), hfin]
      rfl
    refine bcase_in (fun hlt => ?_) fun hlt => ?_
    · rw [decide_eq_true_eq] at hlt
      refine bcase_in (fun hz => ?_) fun hz => ?_
      · have hz' : n % 1000000000000000000 ≠ 0 := by simpa using hz
        have t1 : tr18 n = n / 1000000000000000000 + 1 := by unfold tr18; rw [if_pos ⟨hlt, hz'⟩]
        have t2 : re18 n = 1000000000000000000 - n % 1000000000000000000 := by unfold re18; rw [if_pos ⟨hlt, hz'⟩]
        have hu : IntKind.u64.wrap (1000000000000000000 - n % 1000000000000000000) = 1000000000000000000 - n % 1000000000000000000 := by rw [IntKind.wrap_u64]; omega
        rw [hu, ← t1, ← t2, show okU (re18 n) = true by rw [okU_iff]; omega, decide_eq_true hsp'.1, decide_eq_true hsp'.2]
        simp only [Bool.and_true, bcase_t]
        exact key _ _ rfl rfl (by rw [t1]; exact hq1)
      · have hz' : n % 1000000000000000000 = 0 := by simpa using hz
        have t1 : tr18 n = n / 1000000000000000000 := by unfold tr18; rw [if_neg (by omega)]
        have t2 : re18 n = n % 1000000000000000000 := by unfold re18; rw [if_neg (by omega)]
        rw [← t1, ← t2, decide_eq_true hsp'.1, decide_eq_true hsp'.2]
        simp only [Bool.and_true, bcase_t]
        exact key _ _ rfl rfl (by rw [t1]; exact hq)
    · rw [decide_eq_false_iff_not] at hlt
      have t1 : tr18 n = n / 1000000000000000000 := by unfold tr18; rw [if_neg (by omega)]
      have t2 : re18 n = n % 1000000000000000000 := by unfold re18; rw [if_neg (by omega)]
      rw [← t1, ← t2, decide_eq_true hsp'.1, decide_eq_true hsp'.2]
      simp only [Bool.and_true, bcase_t]
      exact key _ _ rfl rfl (by rw [t1]; exact hq)
theorem dw_all (hT : Tab rootW) : DwOk 170141183460469231731687303715884105729 := by
  have h0 : DwOk 0 := fun h l _ a b => by omega
  have h1 : DwOk 9223372036854775808 := dw_step hT 0 _ h0 fun n _ a b => .inl (by omega)
  have h2 : DwOk 9223372036854775808000000000000000000 := dw_step hT _ _ h1 fun n _ a b => .inr (by unfold tr18; split <;> omega)
  exact dw_step hT _ _ h2 fun n _ a b => .inr (by unfold tr18; split <;> omega)
end

end Go.Proofs.YtmfdnbjmfgljlaaGreatDoor


/-
  The wide number of a text: the walk.
-/



namespace Go.Proofs.YtmfdnbjmfgljlaaGreatDoor

open Go.Den Go.RowKit

set_option maxRecDepth 100000

set_option linter.unusedSectionVars false

variable [Inhabited Root]

theorem scale10 {n : Int} (hn : InR n) (w : World) :
    Calls Tryz.prog 83 #[.agg #[.int .i64 (hi n), .int .u64 (lo n)], .int .u32 10] w fun e w' =>
      e = .returned (.agg #[.int .i64 (hi (clamp (n * 10))), .int .u64 (lo (clamp (n * 10)))]) ∧ Below w.heap.size w w' := scale_any hn (by omega) (by omega) w
theorem take_snocB (s : ByteArray) (k : Nat) (h : k < s.size) : s.data.toList.take (k + 1) = s.data.toList.take k ++ [s[k]] := by
  rw [List.take_succ_eq_append_getElem (by simpa using h)]; rfl
theorem dropB (s : ByteArray) (k : Nat) (h : k < s.size) : s.data.toList = s.data.toList.take k ++ s[k] :: s.data.toList.drop (k + 1) := by
  have h1 : k < s.data.toList.length := by simpa using h
  conv => lhs; rw [← List.take_append_drop k s.data.toList, List.drop_eq_getElem_cons h1]
  rfl
theorem isDig_iff (c : UInt8) : isDig c = true ↔ 48 ≤ (c.toNat : Int) ∧ (c.toNat : Int) ≤ 57 := by
  unfold isDig; simp; omega
/-- A rune that is no digit. -/
theorem val_big {r : Int} (h : ¬ (48 ≤ r ∧ r ≤ 57)) : 10 ≤ valI r := by
  unfold valI; split
  · omega
  · omega
theorem rune_dig (s : ByteArray) (pos : Nat) (h : pos < s.size) (hd : isDig s[pos] = true) : Utf8.decode s pos = (s[pos].toNat, 1) := by
  rw [isDig_iff] at hd
  exact decode_ascii s pos h (by omega)
theorem rune_not (s : ByteArray) (pos : Nat) (h : pos < s.size) (hd : isDig s[pos] = false) : ¬ (48 ≤ ((Utf8.decode s pos).1 : Int) ∧ ((Utf8.decode s pos).1 : Int) ≤ 57) := by
  intro hr
  by_cases ha : (s[pos]'h).toNat < 128
  · rw [decode_ascii s pos h ha] at hr
    have := (isDig_iff s[pos]).2 hr
    rw [this] at hd; cases hd
  · have := (decode_high s pos h (by omega)).1
    omega
theorem iterPos_of {w : World} {k p : Nat} {s : ByteArray} (h : w.heap[k]? = some (.stringIter s p)) : w.iterPos k = p := by simp [World.iterPos, h]
/-- The loop: what it keeps. -/
def UwR (neg : Bool) (d : ByteArray) (w wr : World) : Prop := ∃ (pos : Nat) (v : Int), pos ≤ d.size ∧ InR v ∧ uwGo neg (d.data.toList.take pos) 0 = some v ∧
  Blk wr w.heap.size #[.int .i64 0, .int .u64 0] 94 ∧ Blk wr (w.heap.size + 1) #[.int .i64 (hi v), .int .u64 (lo v)] 94 ∧
  wr.heap[w.heap.size + 1 + 1]? = some (.stringIter d pos) ∧ Below w.heap.size w wr

set_option maxHeartbeats 4000000 in
theorem undecW_short (hT : Tab rootW) (s : ByteArray) (neg : Bool) (d : ByteArray) (hs : s.size ≤ 40)
    (hcut : ∀ w : World, Calls Tryz.prog 80 #[.string s, .string ⟨#[45]⟩] w fun e w' => e = .returned (.tuple #[.string d, .bool neg]) ∧ w' = w) (w : World) (hw : Held w)
    (r : Option Int) (hr : r = (uwGo neg d.data.toList 0).bind fun w => if Lib.itoa w = s.data.toList then some w else none) :
    Calls Tryz.prog 54 #[.string s] w fun e w' => e = .returned (.tuple #[wv (r.getD 0), .bool r.isSome]) ∧ Below w.heap.size w w' := by
  have DW := Lib.hid (dw_all hT)
  have HR := Lib.hid hr; clear hr
  have HC := Lib.hid hcut; clear hcut
  have hs' : ((s.size : Nat) : Int) ≤ 40 := by omega
  go_enter Tryz.func54, Tryz.ntmps54
  go_wp2_with (go_at_call 80; refine (HC.out _).mono ?_; rintro e w' ⟨rfl, rfl⟩)
  go_loopw [] (fun wr => UwR neg d w wr) (fun wr => d.size - wr.iterPos (w.heap.size + 1 + 1))
  case atStart =>
    refine ⟨0, 0, Nat.zero_le _, zero_in, rfl, ((Blk.new rfl).old _).old _, (Blk.new (by simp)).old _, ?_, (((Below.refl _ w).alloc (Nat.le_refl _) _).alloc (by simp) _).alloc (by simp; omega) _⟩
    have := World.iter_heap ((w.alloc (.cells #[.int .i64 0, .int .u64 0] 94)).alloc (.cells #[.int .i64 0, .int .u64 0] 94)) d 0
    simpa using this
  case round =>
    obtain ⟨pos, v, hpos, hv, hgo, g0, g1, hit, gB⟩ := hrel
    have hsz : w.heap.size + 1 + 1 < wr.heap.size := (Array.getElem?_eq_some_iff.1 hit).1
    by_cases hp : pos < d.size
    · by_cases hdig : isDig d[pos] = true
      · obtain ⟨c, hc⟩ : ∃ c : Int, ((d[pos]'hp).toNat : Int) = c := ⟨_, rfl⟩
        have hcd := (isDig_iff _).1 hdig
        rw [hc] at hcd
        have hgo2 : uwGo neg (d.data.toList.take (pos + 1)) 0 = some (uwNext neg v (c - 48)) := by
          rw [take_snocB d pos hp, uwGo_app, hgo]; simp [uwGo, hdig, hc]
        have hval : ∀ w, Calls Tryz.prog 81 #[.int .i32 c] w fun e w' => e = .returned (.int .i64 (c - 48)) ∧ w' = w := fun w => by
          have := value_any c (by omega) (by omega) w
          rwa [show valI c = c - 48 by unfold valI; rw [if_neg (by omega), if_pos hcd]] at this
        have hnx : ∀ ty, (Instr.next (.pointer (some ⟨w.heap.size + 1 + 1, 0, none⟩)) true ty).run Tryz.prog wr = .ok (.tuple #[.bool true, .int .i64 pos, .int .i32 c]) (wr.iterAt (w.heap.size + 1 + 1) d (pos + 1)) := fun ty => by
          rw [Lib.run_next_ascii_at wr _ d pos ty hit hp (by omega), hc]
        have hit2 := Lib.iterAt_heap wr (w.heap.size + 1 + 1) d pos (pos + 1) hit
        have gB2 := Lib.below_iterAt gB (k := w.heap.size + 1 + 1) (by omega) d (pos + 1)
        have h0 : Blk (wr.iterAt (w.heap.size + 1 + 1) d (pos + 1)) w.heap.size #[.int .i64 0, .int .u64 0] 94 := by unfold Blk; rw [Lib.iterAt_other _ _ _ _ _ (by omega)]; exact g0
        have h1 : Blk (wr.iterAt (w.heap.size + 1 + 1) d (pos + 1)) (w.heap.size + 1) #[.int .i64 (hi v), .int .u64 (lo v)] 94 := by unfold Blk; rw [Lib.iterAt_other _ _ _ _ _ (by omega)]; exact g1
        have hsz2 : (wr.iterAt (w.heap.size + 1 + 1) d (pos + 1)).heap.size = wr.heap.size := Lib.iterAt_size _ _ _ _
        have G := Lib.hid (show UwR neg d w (wr.iterAt (w.heap.size + 1 + 1) d (pos + 1)) → True from fun _ => trivial)
        have c1 := h1.two
        have HW := Lib.hid hit
        have HGO := Lib.hid hgo2; have HIT := Lib.hid hit2; have HSZ := Lib.hid hsz2
        clear hgo hgo2 hit hit2 g0 g1 gB hsz2 hc G
        generalize wr.iterAt (w.heap.size + 1 + 1) d (pos + 1) = wi at *
        cases neg
        all_goals
          go_wp2_with (first
            | (go_at_call 81; refine (hval _).mono ?_; rintro e w' ⟨rfl, rfl⟩)
            | (go_at_call 83; refine (scale10 hv _).mono ?_; rintro e w1 ⟨rfl, hb1⟩; replace h0 := Blk.keep hb1 h0; replace h1 := Blk.keep hb1 h1; have HIT1 := Lib.hid ((hb1.block _ (Array.getElem?_eq_some_iff.1 HIT.out).1).trans HIT.out); replace gB2 := keepW gB2 hb1)
            | (go_at_call 84; refine (of_any _ (by omega) (by omega) _).mono ?_; rintro e w2 ⟨rfl, hb2⟩; replace h0 := Blk.keep hb2 h0; replace h1 := Blk.keep hb2 h1; have HIT2 := Lib.hid ((hb2.block _ (Array.getElem?_eq_some_iff.1 HIT1.out).1).trans HIT1.out); replace gB2 := keepW gB2 hb2)
            | (go_at_call 82; refine (add_n (clamp_in _) (by unfold InR; omega) _).mono ?_; rintro e w3 ⟨rfl, hb3⟩; replace h0 := Blk.keep hb3 h0; replace h1 := Blk.keep hb3 h1; have HIT3 := Lib.hid ((hb3.block _ (Array.getElem?_eq_some_iff.1 HIT2.out).1).trans HIT2.out); replace gB2 := keepW gB2 hb3; have c2 := h1.two; have f2 := h1.free0))
          go_roundw
          case rel =>
            exact ⟨pos + 1, _, by omega, clamp_in _, HGO.out, h0.else2 (by omega), (h1.put (i := 0) _).put (i := 1) _, (Below.heap_setCell _ _ _ _ (by simp)).trans ((Below.heap_setCell _ _ _ _ (by simp)).trans HIT3.out), Below.put2 gB2 (by omega)⟩
          case measure =>
            refine Nat.lt_of_le_of_lt (Nat.le_of_eq (congrArg (d.size - ·) (iterPos_of (s := d) (p := pos + 1) ?_))) ?_
            · exact (Below.heap_setCell _ _ _ _ (by simp)).trans ((Below.heap_setCell _ _ _ _ (by simp)).trans HIT3.out)
            · show _ < d.size - World.iterPos _ _
              rw [iterPos_of HW.out]; omega
      · have hbig := val_big (rune_not d pos hp (by simpa using hdig))
        have hrl := decode_le d pos
        have hval := fun w => value_any ((Utf8.decode d pos).1 : Int) (by omega) (by omega) w
        have hnx : ∀ ty, (Instr.next (.pointer (some ⟨w.heap.size + 1 + 1, 0, none⟩)) true ty).run Tryz.prog wr = _ := fun ty => Lib.run_next_any_at wr (w.heap.size + 1 + 1) d pos ty hit hp
        generalize pos + (Utf8.decode d pos).2 = pos2 at *
        generalize ((Utf8.decode d pos).1 : Int) = rr at *
        have gB2 := Lib.below_iterAt gB (k := w.heap.size + 1 + 1) (by omega) d pos2
        have h0 : Blk (wr.iterAt (w.heap.size + 1 + 1) d pos2) w.heap.size #[.int .i64 0, .int .u64 0] 94 := by unfold Blk; rw [Lib.iterAt_other _ _ _ _ _ (by omega)]; exact g0
        have hnone : uwGo neg d.data.toList 0 = none := by
          rw [dropB d pos hp]; exact uwGo_bad _ _ _ _ _ (by simpa using hdig)
        have hr : r = none := by rw [HR.out, hnone]; rfl
        subst hr
        have c0 := h0.two; have f0 := h0.free0
        have hdec : decide ((16 : Int) ≤ 10) = false := rfl
        clear hit g0 g1 gB hgo hrl hnone
        generalize wr.iterAt (w.heap.size + 1 + 1) d pos2 = wi at *
        generalize valI rr = vr at *
        go_wp2_with (go_at_call 81; refine (hval _).mono ?_; rintro e w' ⟨rfl, rfl⟩)
        have h3 := (h0.put (i := 0) (.int .i64 0)).put (i := 1) (.int .u64 0)
        exact bodyPost_ret (v := .tuple #[.agg #[.int .i64 0, .int .u64 0], .bool false]) (by simp [results, Tryz.results54, go_sem, (show Blk _ _ #[.int .i64 0, .int .u64 0] _ from h3).two]) rfl ⟨rfl, Below.put2 gB2 (Nat.le_refl _)⟩
    · have he : pos = d.size := by omega
      subst he
      have hall : uwGo neg d.data.toList 0 = some v := by
        rw [← hgo, List.take_of_length_le (by simp)]
      have hnx : ∀ ty, (Instr.next (.pointer (some ⟨w.heap.size + 1 + 1, 0, none⟩)) true ty).run Tryz.prog wr = _ := fun ty => Lib.run_next_end_at wr (w.heap.size + 1 + 1) d d.size ty hit hp
      have c1 := g1.two
      have hdw := DW.out (hi v) (lo v) (okW_hilo hv) (by rw [W2_hilo]; unfold InR at hv; omega) (by rw [W2_hilo]; unfold InR at hv; omega)
      rw [W2_hilo] at hdw
      have HD := Lib.hid hdw
      have hrv : r = if Lib.itoa v = s.data.toList then some v else none := by rw [HR.out, hall]; rfl
      clear hdw hall hit hgo
      by_cases heq : Lib.itoa v = s.data.toList
      · rw [if_pos heq] at hrv
        subst hrv
        have hes : ((tx v).toList == s.toList) = true := by
          rw [Lib.toList_data, Lib.toList_data, beq_iff_eq]; exact heq
        clear heq
        go_wp2_with (go_at_call 85; refine (HD.out _ (hw.below gB)).mono ?_; rintro e w1 ⟨rfl, hb1⟩; replace g0 := Blk.keep hb1 g0; replace g1 := Blk.keep hb1 g1; replace gB := keepW gB hb1; have c2 := g1.two; have c3 := g0.two; have f2 := g0.free0)
        have h3 := (g0.put (i := 0) (.int .i64 (hi v))).put (i := 1) (.int .u64 (lo v))
        exact bodyPost_ret (v := .tuple #[.agg #[.int .i64 (hi v), .int .u64 (lo v)], .bool true]) (by simp [results, Tryz.results54, go_sem, (show Blk _ _ #[.int .i64 (hi v), .int .u64 (lo v)] _ from h3).two]) rfl ⟨rfl, Below.put2 gB (Nat.le_refl _)⟩
      · rw [if_neg heq] at hrv
        subst hrv
        have hes : ((tx v).toList == s.toList) = false := by
          rw [Lib.toList_data, Lib.toList_data, beq_eq_false_iff_ne]; exact heq
        clear heq
        go_wp2_with (go_at_call 85; refine (HD.out _ (hw.below gB)).mono ?_; rintro e w1 ⟨rfl, hb1⟩; replace g0 := Blk.keep hb1 g0; replace g1 := Blk.keep hb1 g1; replace gB := keepW gB hb1; have c2 := g1.two; have c3 := g0.two; have f2 := g0.free0)
        have h3 := (g0.put (i := 0) (.int .i64 0)).put (i := 1) (.int .u64 0)
        exact bodyPost_ret (v := .tuple #[.agg #[.int .i64 0, .int .u64 0], .bool false]) (by simp [results, Tryz.results54, go_sem, (show Blk _ _ #[.int .i64 0, .int .u64 0] _ from h3).two]) rfl ⟨rfl, Below.put2 gB (Nat.le_refl _)⟩

theorem undecW_long (s : ByteArray) (hs : 40 < s.size) (w : World) :
    Calls Tryz.prog 54 #[.string s] w fun e w' => e = .returned (.tuple #[wv 0, .bool false]) ∧ Below w.heap.size w w' := by
  have hs' : (40 : Int) < ((s.size : Nat) : Int) := by omega
  go_enter Tryz.func54, Tryz.ntmps54
  go_wp2
  exact bodyPost_ret (v := .tuple #[.agg #[.int .i64 0, .int .u64 0], .bool false]) (by simp [results, Tryz.results54, go_sem]) rfl ⟨rfl, (Below.refl _ w).alloc (Nat.le_refl _) _⟩
/-- text.UndecWide. -/
theorem undecW_any (hT : Tab rootW) (s : ByteArray) (w : World) (hw : Held w) :
    Calls Tryz.prog 54 #[.string s] w fun e w' => e = .returned (.tuple #[wv ((uwS s.data.toList).getD 0), .bool (uwS s.data.toList).isSome]) ∧ Below w.heap.size w w' := by
  have hl : s.data.toList.length = s.size := by simp
  by_cases hs : 40 < s.size
  · have e : uwS s.data.toList = none := by unfold uwS; rw [if_pos (by omega)]
    rw [e]
    exact undecW_long s hs w
  · refine undecW_short hT s (Lib.hasPrefix s.data.toList [45]) ⟨(Lib.trimPrefix s.data.toList [45]).toArray⟩ (by omega) (fun w => Tryz.strings_CutPrefix s ⟨#[45]⟩ w) w hw _ ?_
    unfold uwS; rw [if_neg (by omega)]
end Go.Proofs.YtmfdnbjmfgljlaaGreatDoor


/-
  Contracts as oracles: the numbers of a text.
-/

namespace Go.Proofs.YtmfdnbjmfgljlaaGreatDoor

open Go.Den Go.RowKit
noncomputable section
set_option maxRecDepth 100000

set_option linter.unusedSectionVars false

variable [Inhabited Root]

noncomputable def uwV (s : ByteArray) : Int := (uwS s.data.toList).getD 0
noncomputable def uwK (s : ByteArray) : Bool := (uwS s.data.toList).isSome
theorem uwV_in (s : ByteArray) : InR (uwV s) := by
  unfold uwV
  cases h : uwS s.data.toList with
  | none => exact zero_in
  | some v => exact (uw_some h).2
noncomputable def uwdS : Array Value → Option (Bool × Value)
  | ⟨[.string s]⟩ => some (true, .tuple #[wv (uwV s), .bool (uwK s)])
  | _ => none
noncomputable def pkUW (hT : Tab rootW) : PK Tryz.prog where
  f := 54
  spec := uwdS
  body := by kernel_rfl
  ok := fun args r hr hok => by
    unfold uwdS at hr
    split at hr
    · cases hr
      exact ⟨all_bel rfl, rfl, fun w hw => undecW_any hT _ w hw⟩
    · cases hr
noncomputable def envUD (hT : Tab rootW) : Env Tryz.prog := envS.mem false ((pkUW hT).mem :: pksW)
end

end Go.Proofs.YtmfdnbjmfgljlaaGreatDoor


/-
  Read by wip/tools/vc.py, and what follows.
-/

namespace Go.Proofs.YtmfdnbjmfgljlaaGreatDoor

open Go.Den Go.RowKit
noncomputable section
set_option maxRecDepth 100000

set_option linter.unusedSectionVars false

variable [Inhabited Root]

theorem ununs_vc (hT : Tab rootW) (s : ByteArray) (Q : Value → Prop) : ((ev (envUD hT) 80).call [] 33 #[.string s] [] B0).holds (fun r => Q r.v) = (bcase (uwK s)
  (bcase (hi (uwV s) != 0) (Q (Value.tuple { toList := [Value.int IntKind.u64 0, Value.bool false] }))
    (Q (Value.tuple { toList := [Value.int IntKind.u64 (lo (uwV s)), Value.bool true] })))
  (bcase (hi (uwV s) != 0) (Q (Value.tuple { toList := [Value.int IntKind.u64 0, Value.bool false] }))
    (Q (Value.tuple { toList := [Value.int IntKind.u64 (lo (uwV s)), Value.bool false] })))) := by kernel_rfl
noncomputable def udV (s : ByteArray) : Int := (udS s.data.toList).getD 0
noncomputable def udK (s : ByteArray) : Bool := (udS s.data.toList).isSome
noncomputable def uuV (s : ByteArray) : Int := (uuS s.data.toList).getD 0
noncomputable def uuK (s : ByteArray) : Bool := (uuS s.data.toList).isSome
theorem uw_cases (s : ByteArray) : (∃ v, uwS s.data.toList = some v ∧ uwV s = v ∧ uwK s = true ∧ InR v) ∨ (uwS s.data.toList = none ∧ uwV s = 0 ∧ uwK s = false) := by
  unfold uwV uwK
  cases h : uwS s.data.toList with
  | none => exact .inr ⟨rfl, rfl, rfl⟩
  | some v => exact .inl ⟨v, rfl, rfl, rfl, (uw_some h).2⟩
theorem clip_same {v : Int} (_h : InR v) : (hi (clip v) == hi v && (lo (clip v) == lo v && true)) = decide (-9223372036854775808 ≤ v ∧ v ≤ 9223372036854775807) := by
  rw [Bool.eq_iff_iff]
  simp only [Bool.and_eq_true, beq_iff_eq, decide_eq_true_eq, and_true]
  constructor
  · rintro ⟨a, b⟩
    have := hilo_inj a b
    unfold clip at this; split at this <;> (try split at this) <;> omega
  · intro a
    have : clip v = v := by unfold clip; rw [if_neg (by omega), if_neg (by omega)]
    rw [this]; exact ⟨rfl, rfl⟩
theorem clip_of {v : Int} (h0 : -9223372036854775808 ≤ v) (h1 : v ≤ 9223372036854775807) : clip v = v := by
  unfold clip; rw [if_neg (by omega), if_neg (by omega)]
theorem ununs_any (hT : Tab rootW) (s : ByteArray) (w : World) (hw : Held w) :
    Calls Tryz.prog 33 #[.string s] w fun e w' => e = .returned (.tuple #[.int .u64 (uuV s), .bool (uuK s)]) ∧ Below w.heap.size w w' := by
  refine calls_specK (envUD hT) hcokP 80 (v := .tuple #[.int .u64 (uuV s), .bool (uuK s)]) ?_ (all_bel rfl) rfl w hw
  rw [ununs_vc hT s (fun v => v = .tuple #[.int .u64 (uuV s), .bool (uuK s)])]
  unfold uuV uuK uuS
  rcases uw_cases s with ⟨v, h1, h2, h3, h4⟩ | ⟨h1, h2, h3⟩
  · rw [h1, h2, h3, bcase_t, Option.bind_some]
    by_cases h : 0 ≤ v ∧ v ≤ 18446744073709551615
    · have e1 : hi v = 0 := by unfold hi; omega
      have e2 : lo v = v := by unfold lo; omega
      rw [e1, e2, if_pos h]; rfl
    · have e1 : (hi v != 0) = true := by rw [bne_iff_ne]; unfold hi InR at *; omega
      rw [e1, if_neg h]; rfl
  · rw [h1, h2, h3]; rfl
noncomputable def undS : Array Value → Option (Bool × Value)
  | ⟨[.string s]⟩ => some (true, .tuple #[.int .i64 (udV s), .bool (udK s)])
  | _ => none
noncomputable def ununS : Array Value → Option (Bool × Value)
  | ⟨[.string s]⟩ => some (true, .tuple #[.int .u64 (uuV s), .bool (uuK s)])
  | _ => none
noncomputable def pkUnun (hT : Tab rootW) : PK Tryz.prog where
  f := 33
  spec := ununS
  body := by kernel_rfl
  ok := fun args r hr hok => by
    unfold ununS at hr
    split at hr
    · cases hr
      exact ⟨all_bel rfl, rfl, fun w hw => ununs_any hT _ w hw⟩
    · cases hr
noncomputable def pkDecW (hT : Tab rootW) : PK Tryz.prog := pkDW _ (dw_all hT)
end

end Go.Proofs.YtmfdnbjmfgljlaaGreatDoor


/-
  Plain facts of texts of addresses: numbers, groups, pieces between bytes. No program is named here.
-/


namespace Go.Proofs.YtmfdnbjmfgljlaaGreatDoor

open Go.Lib

theorem dec_step5 (m : Nat) : Lib.decDigits m = (if m / 10 = 0 then [] else Lib.decDigits (m / 10)) ++ [UInt8.ofNat (48 + m % 10)] := by
  rw [Lib.decDigits]
  by_cases h : m < 10
  · rw [dif_pos h, if_pos (by omega), Nat.mod_eq_of_lt h]; rfl
  · rw [dif_neg h, if_neg (by omega)]
theorem isDig_nat (c : UInt8) : isDig c = true ↔ 48 ≤ c.toNat ∧ c.toNat ≤ 57 := by unfold isDig; simp
theorem u8_ofNat (c : UInt8) : UInt8.ofNat c.toNat = c := by simp
theorem u8_eq {a b : UInt8} (h : a.toNat = b.toNat) : a = b := by rw [← u8_ofNat a, h, u8_ofNat]
/-- The value of digits. -/
def decV : List UInt8 → Nat → Nat
  | [], n => n
  | c :: r, n => decV r (10 * n + (c.toNat - 48))
theorem decV_app : ∀ (a b : List UInt8) (n : Nat), decV (a ++ b) n = decV b (decV a n)
  | [], _, _ => rfl
  | c :: r, b, n => by rw [List.cons_append, decV, decV, decV_app r b]
/-- A text that may be a number: digits, at most five, no nought ahead. -/
def numOk (l : List UInt8) : Bool := decide (1 ≤ l.length) && decide (l.length ≤ 5) && !(l.head? == some 48 && decide (1 < l.length)) && l.all isDig
def numL (most : Nat) (l : List UInt8) : Option Nat := if numOk l = true ∧ decV l 0 ≤ most then some (decV l 0) else none
theorem numOk_iff (l : List UInt8) : numOk l = true ↔ 1 ≤ l.length ∧ l.length ≤ 5 ∧ (l.head? = some 48 → l.length ≤ 1) ∧ l.all isDig = true := by
  unfold numOk
  simp only [Bool.and_eq_true, Bool.not_eq_true', Bool.and_eq_false_iff, beq_eq_false_iff_ne, decide_eq_true_eq, decide_eq_false_iff_not]
  constructor
  · rintro ⟨⟨⟨a, b⟩, c⟩, d⟩
    refine ⟨a, b, fun h => ?_, d⟩
    rcases c with c | c
    · exact absurd h c
    · omega
  · rintro ⟨a, b, c, d⟩
    refine ⟨⟨⟨a, b⟩, ?_⟩, d⟩
    by_cases h : l.head? = some 48
    · exact .inr (by have := c h; omega)
    · exact .inl h
/-- Digits without a nought ahead are those of their value. -/
theorem dec_of : ∀ (k : Nat) (l : List UInt8), l.length = k → 1 ≤ l.length → (l.head? = some 48 → l.length ≤ 1) → l.all isDig = true → Lib.decDigits (decV l 0) = l ∧ (1 < l.length → 1 ≤ decV l 0)
  | k, l, hk, h1, h0, hd => by
    obtain ⟨r, c, rfl⟩ : ∃ r c, l = r ++ [c] := ⟨l.dropLast, l.getLast (by intro h; simp [h] at h1), (List.dropLast_concat_getLast _).symm⟩
    rw [List.all_append, Bool.and_eq_true] at hd
    have hc : 48 ≤ c.toNat ∧ c.toNat ≤ 57 := (isDig_nat c).1 (by simpa using hd.2)
    have hv : decV (r ++ [c]) 0 = 10 * decV r 0 + (c.toNat - 48) := by rw [decV_app]; rfl
    rw [hv, dec_step5]
    have hq : (10 * decV r 0 + (c.toNat - 48)) / 10 = decV r 0 := by omega
    have hm : UInt8.ofNat (48 + (10 * decV r 0 + (c.toNat - 48)) % 10) = c := by
      rw [show 48 + (10 * decV r 0 + (c.toNat - 48)) % 10 = c.toNat by omega]; exact u8_ofNat c
    rw [hq, hm]
    cases k with
    | zero => simp at hk
    | succ k =>
      by_cases hr : r = []
      · subst hr
        exact ⟨by simp [decV], fun h => by simp at h⟩
      · have hr1 : 1 ≤ r.length := by
          cases r with
          | nil => exact absurd rfl hr
          | cons a b => simp
        have hh : (r ++ [c]).head? = r.head? := by cases r with
          | nil => exact absurd rfl hr
          | cons a b => rfl
        have hz : r.head? ≠ some 48 := fun h => by
          have := h0 (by rw [hh]; exact h)
          rw [List.length_append] at this; simp only [List.length_singleton] at this; omega
        obtain ⟨e, g⟩ := dec_of k r (by simpa using hk) hr1 (fun h => absurd h hz) hd.1
        have hpos : 1 ≤ decV r 0 := by
          by_cases h2 : 1 < r.length
          · exact g h2
          · obtain ⟨x, rfl⟩ : ∃ x, r = [x] := by
              cases r with
              | nil => exact absurd rfl hr
              | cons a b =>
                cases b with
                | nil => exact ⟨a, rfl⟩
                | cons _ _ => simp at h2
            have hx : 48 ≤ x.toNat ∧ x.toNat ≤ 57 := (isDig_nat x).1 (by simpa using hd.1)
            have hx2 : x ≠ 48 := fun h => hz (by rw [h]; rfl)
            have : x.toNat ≠ 48 := fun h => hx2 (u8_eq h)
            show 1 ≤ 10 * 0 + (x.toNat - 48)
            omega
        rw [if_neg (by omega), e]
        exact ⟨rfl, fun _ => by omega⟩
theorem num_dec {most n : Nat} {l : List UInt8} (h : numL most l = some n) : Lib.decDigits n = l ∧ n ≤ most := by
  unfold numL at h
  split at h
  · rename_i k
    cases h
    obtain ⟨a, b, c, d⟩ := (numOk_iff l).1 k.1
    exact ⟨(dec_of _ l rfl a c d).1, k.2⟩
  · cases h
theorem decV_dec : ∀ (n : Nat), decV (Lib.decDigits n) 0 = n := by
  intro n
  induction n using Nat.strongRecOn with
  | _ n ih =>
    rw [dec_step5]
    by_cases h : n / 10 = 0
    · rw [if_pos h, List.nil_append]
      show 10 * 0 + ((UInt8.ofNat (48 + n % 10)).toNat - 48) = n
      rw [dig_nat (by omega)]; omega
    · rw [if_neg h, decV_app, ih _ (by omega)]
      show 10 * (n / 10) + ((UInt8.ofNat (48 + n % 10)).toNat - 48) = n
      rw [dig_nat (by omega)]; omega
theorem dec_head : ∀ (n : Nat), 0 < n → (Lib.decDigits n).head? ≠ some 48 := by
  intro n
  induction n using Nat.strongRecOn with
  | _ n ih =>
    intro hn
    rw [dec_step5]
    by_cases h : n / 10 = 0
    · rw [if_pos h, List.nil_append]
      intro e
      have := congrArg UInt8.toNat (Option.some.inj e)
      rw [dig_nat (by omega)] at this
      have h48 : (48 : UInt8).toNat = 48 := rfl
      omega
    · rw [if_neg h, List.head?_append]
      have := ih (n / 10) (by omega) (by omega)
      have hne := decDigits_ne (n / 10)
      cases e : Lib.decDigits (n / 10) with
      | nil => exact absurd e hne
      | cons a b => rw [e] at this; exact this
theorem dec_len5 {n : Nat} (h : n < 100000) : 1 ≤ (Lib.decDigits n).length ∧ (Lib.decDigits n).length ≤ 5 := by
  rw [Lib.decDigits_length]
  exact ⟨Lib.nDigits_pos n, nDigits_le 4 n (by omega)⟩
theorem num_of {most n : Nat} (h : n ≤ most) (hm : most < 100000) : numL most (Lib.decDigits n) = some n := by
  unfold numL
  have hl := dec_len5 (n := n) (by omega)
  have hz : (Lib.decDigits n).head? = some 48 → (Lib.decDigits n).length ≤ 1 := fun e => by
    rcases Nat.eq_zero_or_pos n with h0 | h0
    · subst h0; rw [dec_step5]; simp
    · exact absurd e (dec_head n h0)
  rw [if_pos ⟨(numOk_iff _).2 ⟨hl.1, hl.2, hz, List.all_eq_true.2 (decDigits_dig n)⟩, by rw [decV_dec]; exact h⟩, decV_dec]
/-- The program's number of a text, where it is no great one. -/
theorem uu_num (l : List UInt8) (most : Nat) (hm : most < 100000) : (uuS l).bind (fun v => if v ≤ (most : Int) then some v.toNat else none) = numL most l := by
  cases e : uuS l with
  | some v =>
    obtain ⟨hi, h0, h1⟩ := uu_some e
    obtain ⟨n, rfl⟩ := Int.eq_ofNat_of_zero_le h0
    rw [Lib.itoa_nonneg] at hi
    rw [← hi, Option.bind_some]
    by_cases h : n ≤ most
    · rw [num_of h hm, if_pos (by omega)]; rfl
    · rw [if_neg (by omega)]
      cases e2 : numL most (Lib.decDigits n) with
      | none => rfl
      | some m =>
        obtain ⟨a, b⟩ := num_dec e2
        have := congrArg (decV · 0) a
        rw [decV_dec, decV_dec] at this
        omega
  | none =>
    cases e2 : numL most l with
    | none => rfl
    | some m =>
      obtain ⟨a, b⟩ := num_dec e2
      have := uu_itoa (n := (m : Int)) (by omega) (by omega)
      rw [Lib.itoa_nonneg, a, e] at this
      cases this
/-- The pieces between bytes c. -/
def spl (c : UInt8) : List UInt8 → List (List UInt8)
  | [] => [[]]
  | b :: l => if b = c then [] :: spl c l else match spl c l with
    | [] => [[b]]
    | x :: r => (b :: x) :: r
theorem spl_ne (c : UInt8) : ∀ l, spl c l ≠ []
  | [] => by simp [spl]
  | b :: l => by
    unfold spl
    split
    · simp
    · split <;> simp
theorem spl_no (c : UInt8) : ∀ (l : List UInt8), c ∉ l → spl c l = [l]
  | [], _ => rfl
  | b :: l, h => by
    rw [List.mem_cons, not_or] at h
    unfold spl
    rw [if_neg (fun e => h.1 e.symm), spl_no c l h.2]
theorem spl_cons (c : UInt8) : ∀ (a l : List UInt8), c ∉ a → spl c (a ++ c :: l) = a :: spl c l
  | [], l, _ => by show spl c (c :: l) = _; rw [spl, if_pos rfl]
  | b :: a, l, h => by
    rw [List.mem_cons, not_or] at h
    show spl c (b :: (a ++ c :: l)) = _
    rw [spl, if_neg (fun e => h.1 e.symm), spl_cons c a l h.2]
/-- A text's first piece, and what is behind it. -/
theorem spl_first (c : UInt8) : ∀ (l : List UInt8), (c ∉ l ∧ spl c l = [l]) ∨ ∃ a r, l = a ++ c :: r ∧ c ∉ a ∧ spl c l = a :: spl c r
  | [] => .inl ⟨by simp, rfl⟩
  | b :: l => by
    by_cases hb : b = c
    · subst hb
      exact .inr ⟨[], l, rfl, by simp, by rw [spl, if_pos rfl]⟩
    · rcases spl_first c l with ⟨h, _⟩ | ⟨a, r, h1, h2, _⟩
      · have hn : c ∉ b :: l := by
          rw [List.mem_cons, not_or]; exact ⟨fun e => hb e.symm, h⟩
        exact .inl ⟨hn, spl_no c _ hn⟩
      · have hn : c ∉ b :: a := by
          rw [List.mem_cons, not_or]; exact ⟨fun e => hb e.symm, h2⟩
        refine .inr ⟨b :: a, r, by rw [h1]; rfl, hn, ?_⟩
        rw [h1]; exact spl_cons c (b :: a) r hn
theorem spl_mem (c : UInt8) : ∀ (k : Nat) (l : List UInt8), l.length ≤ k → ∀ x ∈ spl c l, c ∉ x ∧ (∀ b ∈ x, b ∈ l)
  | 0, l, hk, x, hx => by
    obtain rfl : l = [] := List.length_eq_zero_iff.1 (by omega)
    simp [spl] at hx; subst hx; simp
  | k + 1, l, hk, x, hx => by
    rcases spl_first c l with ⟨h, e⟩ | ⟨a, r, h1, h2, e⟩
    · rw [e, List.mem_singleton] at hx; subst hx; exact ⟨h, fun b hb => hb⟩
    · rw [e, List.mem_cons] at hx
      have hr : r.length ≤ k := by rw [h1, List.length_append, List.length_cons] at hk; omega
      rcases hx with rfl | hx
      · exact ⟨h2, fun b hb => by rw [h1]; simp [hb]⟩
      · obtain ⟨h3, h4⟩ := spl_mem c k r hr x hx
        exact ⟨h3, fun b hb => by rw [h1]; simp [h4 b hb]⟩
/-- Pieces joined. -/
def jn (c : UInt8) : List (List UInt8) → List UInt8
  | [] => []
  | [x] => x
  | x :: y :: r => x ++ c :: jn c (y :: r)
theorem jn_cons {c : UInt8} (x : List UInt8) {r : List (List UInt8)} (h : r ≠ []) : jn c (x :: r) = x ++ c :: jn c r := by
  cases r with
  | nil => exact absurd rfl h
  | cons y r => rfl
theorem jn_spl (c : UInt8) : ∀ (k : Nat) (l : List UInt8), l.length ≤ k → jn c (spl c l) = l
  | 0, l, hk => by
    obtain rfl : l = [] := List.length_eq_zero_iff.1 (by omega)
    rfl
  | k + 1, l, hk => by
    rcases spl_first c l with ⟨h, e⟩ | ⟨a, r, h1, h2, e⟩
    · rw [e]; rfl
    · have hr : r.length ≤ k := by rw [h1, List.length_append, List.length_cons] at hk; omega
      rw [e, jn_cons _ (spl_ne c r), jn_spl c k r hr, h1]
theorem spl_jn (c : UInt8) : ∀ (r : List (List UInt8)), r ≠ [] → (∀ x ∈ r, c ∉ x) → spl c (jn c r) = r
  | [], h, _ => absurd rfl h
  | [x], _, hx => spl_no c x (hx x (by simp))
  | x :: y :: r, _, hx => by
    rw [jn_cons _ (by simp), spl_cons c x _ (hx x (by simp)), spl_jn c (y :: r) (by simp) (fun z hz => hx z (by simp [hz]))]
theorem jn_join (c : UInt8) : ∀ (r : List (List UInt8)), Lib.join r [c] = jn c r
  | [] => rfl
  | [x] => Lib.join_one x [c]
  | x :: y :: r => by
    rw [jn_cons _ (by simp), ← jn_join c (y :: r), Lib.join_cons, Lib.join_cons]
    simp [Lib.joinTail]
/-- What lies ahead of the last byte c (with it), and behind. -/
def lastAt (c : UInt8) : List UInt8 → Option (List UInt8 × List UInt8)
  | [] => none
  | b :: l => match lastAt c l with
    | some (x, y) => some (b :: x, y)
    | none => if b = c then some ([b], l) else none
theorem lastAt_none {c : UInt8} : ∀ {l : List UInt8}, lastAt c l = none ↔ c ∉ l
  | [] => by simp [lastAt]
  | b :: l => by
    unfold lastAt
    cases e : lastAt c l with
    | some p =>
      obtain ⟨x, y⟩ := p
      have : ¬ c ∉ l := fun h => by rw [lastAt_none.2 h] at e; cases e
      simp at this ⊢; exact fun _ => this
    | none =>
      have := lastAt_none.1 e
      by_cases hb : b = c
      · simp [hb]
      · simp [hb, this]; exact fun h => hb h.symm
theorem lastAt_some {c : UInt8} : ∀ {l x y : List UInt8}, lastAt c l = some (x, y) ↔ ∃ p, x = p ++ [c] ∧ l = x ++ y ∧ c ∉ y
  | [], x, y => by
    simp only [lastAt]
    constructor
    · intro h; cases h
    · rintro ⟨p, h1, h2, _⟩; rw [h1] at h2; simp at h2
  | b :: l, x, y => by
    unfold lastAt
    constructor
    · intro h
      cases e : lastAt c l with
      | some q =>
        obtain ⟨x2, y2⟩ := q
        rw [e] at h
        cases h
        obtain ⟨p, h1, h2, h3⟩ := lastAt_some.1 e
        exact ⟨b :: p, by rw [h1]; rfl, by rw [h2]; rfl, h3⟩
      | none =>
        rw [e] at h
        by_cases hb : b = c
        · rw [if_pos hb] at h
          cases h
          exact ⟨[], by rw [hb]; rfl, rfl, lastAt_none.1 e⟩
        · rw [if_neg hb] at h; cases h
    · rintro ⟨p, h1, h2, h3⟩
      cases p with
      | nil =>
        rw [h1] at h2
        simp only [List.nil_append, List.cons_append, List.cons.injEq] at h2
        obtain ⟨rfl, rfl⟩ := h2
        rw [lastAt_none.2 h3, if_pos rfl, h1]; rfl
      | cons a p =>
        subst h1
        simp only [List.cons_append, List.cons.injEq] at h2
        obtain ⟨rfl, rfl⟩ := h2
        rw [lastAt_some.2 ⟨p, rfl, rfl, h3⟩]; rfl
end Go.Proofs.YtmfdnbjmfgljlaaGreatDoor
