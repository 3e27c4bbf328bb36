
/-
  Contracts of the small functions of package wide.
-/
import Derived.Test.YtbhgibpocbmipaaRows
import Derived.Test.YtbhgibpocbmipaaWMath
import Derived.Test.YtbhgibpocbmipaaKit
import Derived.Shelf.Spec.BitsCarry
namespace Go.Proofs.Ytbhgibpocbmipaa
open Go.RowKit

theorem run_add64 (x y c : Int) (hx : 0 ≤ x) (hy : 0 ≤ y) (hc0 : 0 ≤ c) (hc : c ≤ 1) (w : World) :
    (callFunc 57 #[.int .u64 x, .int .u64 y, .int .u64 c]).run Try.prog w =
      .ok (.value (.tuple #[.int .u64 ((x + y + c) % 18446744073709551616), .int .u64 ((x + y + c) / 18446744073709551616)])) w := by
  rw [run_callFunc_extern Try.func57 (by kernel_rfl) (by kernel_rfl) (by kernel_rfl) (e := add64Entry) (by kernel_rfl), Go.run_add64 x y c hx hy hc0 hc]
  rfl

set_option maxHeartbeats 400000 in
theorem negative_any (h l : Int) (w : World) :
    Calls Try.prog 58 #[.agg #[.int .i64 h, .int .u64 l]] w fun e w' => e = .returned (.bool (decide (h < 0))) ∧ Below w.heap.size w w' := by
  go_enter Try.func58, Try.ntmps58
  go_wp2
  go_ret
  exact ⟨rfl, (Below.refl _ _).alloc (Nat.le_refl _) _⟩

theorem negative_yes {h : Int} (l : Int) (hh : h < 0) (w : World) :
    Calls Try.prog 58 #[.agg #[.int .i64 h, .int .u64 l]] w fun e w' => e = .returned (.bool true) ∧ Below w.heap.size w w' := by
  have := negative_any h l w; rwa [decide_eq_true hh] at this
theorem negative_no {h : Int} (l : Int) (hh : ¬ h < 0) (w : World) :
    Calls Try.prog 58 #[.agg #[.int .i64 h, .int .u64 l]] w fun e w' => e = .returned (.bool false) ∧ Below w.heap.size w w' := by
  have := negative_any h l w; rwa [decide_eq_false hh] at this

theorem ret_w {h l h' l' : Int} (e1 : h = h') (e2 : l = l') : Ending.returned (.agg #[.int .i64 h, .int .u64 l]) = .returned (.agg #[.int .i64 h', .int .u64 l']) := by rw [e1, e2]

set_option maxHeartbeats 400000 in
theorem of_any (n : Int) (h0 : -9223372036854775808 ≤ n) (h1 : n ≤ 9223372036854775807) (w : World) :
    Calls Try.prog 15 #[.int .i64 n] w fun e w' => e = .returned (.agg #[.int .i64 (hi n), .int .u64 (lo n)]) ∧ Below w.heap.size w w' := by
  go_enter Try.func15, Try.ntmps15
  go_wp2
  refine bodyPost_ret (v := .agg #[.int .i64 (n / 9223372036854775808), .int .u64 (IntKind.u64.wrap n)]) (by simp [results, Try.results15, go_sem]) rfl ⟨?_, (Below.refl _ _).alloc (Nat.le_refl _) _⟩
  refine ret_w (by unfold hi; omega) (by rw [IntKind.wrap_u64]; unfold lo; omega)

set_option maxHeartbeats 400000 in
theorem bound_low (w : World) :
    Calls Try.prog 59 #[.bool true] w fun e w' => e = .returned (.agg #[.int .i64 (-9223372036854775808), .int .u64 0]) ∧ Below w.heap.size w w' := by
  go_enter Try.func59, Try.ntmps59
  go_wp2
  exact bodyPost_ret (v := .agg #[.int .i64 (-9223372036854775808), .int .u64 0]) (by simp [results, Try.results59, go_sem]) rfl ⟨rfl, (Below.refl _ _).alloc (Nat.le_refl _) _⟩
set_option maxHeartbeats 400000 in
theorem bound_high (w : World) :
    Calls Try.prog 59 #[.bool false] w fun e w' => e = .returned (.agg #[.int .i64 9223372036854775807, .int .u64 18446744073709551615]) ∧ Below w.heap.size w w' := by
  go_enter Try.func59, Try.ntmps59
  go_wp2
  exact bodyPost_ret (v := .agg #[.int .i64 9223372036854775807, .int .u64 18446744073709551615]) (by simp [results, Try.results59, go_sem]) rfl ⟨rfl, (Below.refl _ _).alloc (Nat.le_refl _) _⟩

theorem add_fits {h1 l1 h2 l2 s : Int} (a0 : 0 ≤ l1) (a1 : l1 ≤ 18446744073709551615) (b0 : 0 ≤ l2) (b1 : l2 ≤ 18446744073709551615)
    (c0 : -9223372036854775808 ≤ h1) (c1 : h1 ≤ 9223372036854775807) (d0 : -9223372036854775808 ≤ h2) (d1 : h2 ≤ 9223372036854775807)
    (hs : wrap64 (wrap64 (h1 + h2) + (l1 + l2) / 18446744073709551616) = s) (h : (h1 < 0 ∧ 0 ≤ h2) ∨ (0 ≤ h1 ∧ h2 < 0) ∨ (h1 < 0 ∧ h2 < 0 ∧ s < 0) ∨ (0 ≤ h1 ∧ 0 ≤ h2 ∧ 0 ≤ s)) :
    s = hi (clamp (h1 * 18446744073709551616 + l1 + (h2 * 18446744073709551616 + l2))) ∧ (l1 + l2) % 18446744073709551616 = lo (clamp (h1 * 18446744073709551616 + l1 + (h2 * 18446744073709551616 + l2))) := by
  simp only [wrap64] at hs
  rw [clamp_of (by unfold InR; omega)]
  unfold hi lo; omega
theorem add_low {h1 l1 h2 l2 s : Int} (a0 : 0 ≤ l1) (a1 : l1 ≤ 18446744073709551615) (b0 : 0 ≤ l2) (b1 : l2 ≤ 18446744073709551615)
    (c0 : -9223372036854775808 ≤ h1) (d0 : -9223372036854775808 ≤ h2)
    (hs : wrap64 (wrap64 (h1 + h2) + (l1 + l2) / 18446744073709551616) = s) (g1 : h1 < 0) (g2 : h2 < 0) (g3 : 0 ≤ s) :
    -9223372036854775808 = hi (clamp (h1 * 18446744073709551616 + l1 + (h2 * 18446744073709551616 + l2))) ∧ 0 = lo (clamp (h1 * 18446744073709551616 + l1 + (h2 * 18446744073709551616 + l2))) := by
  simp only [wrap64] at hs
  have : clamp (h1 * 18446744073709551616 + l1 + (h2 * 18446744073709551616 + l2)) = -170141183460469231731687303715884105728 := by
    unfold clamp; rw [if_pos (by omega)]
  rw [this]; unfold hi lo; omega
theorem add_high {h1 l1 h2 l2 s : Int} (a0 : 0 ≤ l1) (a1 : l1 ≤ 18446744073709551615) (b0 : 0 ≤ l2) (b1 : l2 ≤ 18446744073709551615)
    (c1 : h1 ≤ 9223372036854775807) (d1 : h2 ≤ 9223372036854775807)
    (hs : wrap64 (wrap64 (h1 + h2) + (l1 + l2) / 18446744073709551616) = s) (g1 : 0 ≤ h1) (g2 : 0 ≤ h2) (g3 : s < 0) :
    9223372036854775807 = hi (clamp (h1 * 18446744073709551616 + l1 + (h2 * 18446744073709551616 + l2))) ∧ 18446744073709551615 = lo (clamp (h1 * 18446744073709551616 + l1 + (h2 * 18446744073709551616 + l2))) := by
  simp only [wrap64] at hs
  have : clamp (h1 * 18446744073709551616 + l1 + (h2 * 18446744073709551616 + l2)) = 170141183460469231731687303715884105727 := by
    unfold clamp; rw [if_neg (by omega), if_pos (by omega)]
  rw [this]; unfold hi lo; omega

/-- The same for differences. -/
theorem sub_fits {h1 l1 h2 l2 bw s : Int} (a0 : 0 ≤ l1) (a1 : l1 ≤ 18446744073709551615) (b0 : 0 ≤ l2) (b1 : l2 ≤ 18446744073709551615)
    (c0 : -9223372036854775808 ≤ h1) (c1 : h1 ≤ 9223372036854775807) (d0 : -9223372036854775808 ≤ h2) (d1 : h2 ≤ 9223372036854775807)
    (hs : wrap64 (wrap64 (h1 - h2) - bw) = s) (hb : bw = if l1 < l2 then 1 else 0) (h : (h1 < 0 ∧ h2 < 0) ∨ (0 ≤ h1 ∧ 0 ≤ h2) ∨ (h1 < 0 ∧ 0 ≤ h2 ∧ s < 0) ∨ (0 ≤ h1 ∧ h2 < 0 ∧ 0 ≤ s)) :
    s = hi (clamp (h1 * 18446744073709551616 + l1 - (h2 * 18446744073709551616 + l2))) ∧ (l1 + 18446744073709551616 - l2) % 18446744073709551616 = lo (clamp (h1 * 18446744073709551616 + l1 - (h2 * 18446744073709551616 + l2))) := by
  simp only [wrap64] at hs
  rw [clamp_of (by unfold InR; split at hb <;> omega)]
  unfold hi lo; split at hb <;> omega
theorem sub_low {h1 l1 h2 l2 bw s : Int} (a0 : 0 ≤ l1) (a1 : l1 ≤ 18446744073709551615) (b0 : 0 ≤ l2) (b1 : l2 ≤ 18446744073709551615)
    (c0 : -9223372036854775808 ≤ h1) (d1 : h2 ≤ 9223372036854775807)
    (hs : wrap64 (wrap64 (h1 - h2) - bw) = s) (hb : bw = if l1 < l2 then 1 else 0) (g1 : h1 < 0) (g2 : 0 ≤ h2) (g3 : 0 ≤ s) :
    -9223372036854775808 = hi (clamp (h1 * 18446744073709551616 + l1 - (h2 * 18446744073709551616 + l2))) ∧ 0 = lo (clamp (h1 * 18446744073709551616 + l1 - (h2 * 18446744073709551616 + l2))) := by
  simp only [wrap64] at hs
  have : clamp (h1 * 18446744073709551616 + l1 - (h2 * 18446744073709551616 + l2)) = -170141183460469231731687303715884105728 := by
    unfold clamp; split at hb <;> rw [if_pos (by omega)]
  rw [this]; unfold hi lo; omega
theorem sub_high {h1 l1 h2 l2 bw s : Int} (a0 : 0 ≤ l1) (a1 : l1 ≤ 18446744073709551615) (b0 : 0 ≤ l2) (b1 : l2 ≤ 18446744073709551615)
    (c1 : h1 ≤ 9223372036854775807) (d0 : -9223372036854775808 ≤ h2)
    (hs : wrap64 (wrap64 (h1 - h2) - bw) = s) (hb : bw = if l1 < l2 then 1 else 0) (g1 : 0 ≤ h1) (g2 : h2 < 0) (g3 : s < 0) :
    9223372036854775807 = hi (clamp (h1 * 18446744073709551616 + l1 - (h2 * 18446744073709551616 + l2))) ∧ 18446744073709551615 = lo (clamp (h1 * 18446744073709551616 + l1 - (h2 * 18446744073709551616 + l2))) := by
  simp only [wrap64] at hs
  have : clamp (h1 * 18446744073709551616 + l1 - (h2 * 18446744073709551616 + l2)) = 170141183460469231731687303715884105727 := by
    unfold clamp; split at hb <;> rw [if_neg (by omega), if_pos (by omega)]
  rw [this]; unfold hi lo; omega


set_option maxHeartbeats 4000000 in
theorem add_any (h1 l1 h2 l2 : Int) (a0 : 0 ≤ l1) (a1 : l1 ≤ 18446744073709551615) (b0 : 0 ≤ l2) (b1 : l2 ≤ 18446744073709551615)
    (c0 : -9223372036854775808 ≤ h1) (c1 : h1 ≤ 9223372036854775807) (d0 : -9223372036854775808 ≤ h2) (d1 : h2 ≤ 9223372036854775807) (w : World) :
    Calls Try.prog 18 #[.agg #[.int .i64 h1, .int .u64 l1], .agg #[.int .i64 h2, .int .u64 l2]] w fun e w' =>
      e = .returned (.agg #[.int .i64 (hi (clamp (h1 * 18446744073709551616 + l1 + (h2 * 18446744073709551616 + l2)))), .int .u64 (lo (clamp (h1 * 18446744073709551616 + l1 + (h2 * 18446744073709551616 + l2))))]) ∧ Below w.heap.size w w' := by
  skip
  have hadd := fun w => run_add64 l1 l2 0 a0 b0 (by omega) (by omega) w
  have q1 := fun (w' : World) (h : Blk w' w.heap.size #[.int .i64 h1, .int .u64 l1] 24) => h.two
  have q2 := fun (w' : World) (h : Blk w' (w.heap.size + 1) #[.int .i64 h2, .int .u64 l2] 24) => h.two
  have q3 := fun (w' : World) (h : Blk w' (w.heap.size + 1 + 1) #[.int .i64 0, .int .u64 0] 24) => h.two
  have q4 := fun (w' : World) (h : Blk w' (w.heap.size + 1 + 1) #[.int .i64 0, .int .u64 0] 24) => h.free0
  skip
  rcases hd1 : decide (h1 < 0) with _ | _ <;> rcases hd2 : decide (h2 < 0) with _ | _
  · skip
    go_enter Try.func18, Try.ntmps18
    go_wp2
    generalize hs : wrap64 (wrap64 (h1 + h2) + (l1 + l2) / 18446744073709551616) = s
    have Hs := Lib.hid hs; clear hs
    rcases hd3 : decide (s < 0) with _ | _
    · skip
      refine wp_region_held_drew (S := (fun w' => Blk w' w.heap.size #[.int .i64 h1, .int .u64 l1] 24 ∧ Blk w' (w.heap.size + 1) #[.int .i64 h2, .int .u64 l2] 24 ∧ Blk w' (w.heap.size + 1 + 1) #[.int .i64 0, .int .u64 0] 24 ∧ Below w.heap.size w w')) (by kernel_rfl) ?_ (fun hHeld => ?_)
      · exact ⟨(((Blk.new rfl).old _).old _).drew, ((Blk.new (by simp)).old _).drew, (Blk.new (by simp)).drew, ((((Below.refl _ _).alloc (Nat.le_refl _) _).alloc (by simp) _).alloc (by simp; omega) _).drew⟩
      refine H.take 0 (v := ?_) rfl (by kernel_rfl) (fun _ _ _ h => h) (by rfl) ?_ (by assumption) ?_
      rotate_left
      · (intro wz hSw; (try dsimp only at hSw); go_simp <;> with_reducible rfl)
      try simp only [Act.put, List.setIfInBounds_toArray, List.set_cons_zero, List.set_cons_succ]
      refine H.take 2 (v := ?_) rfl (by kernel_rfl) (fun _ _ _ h => h) (by rfl) ?_ (by assumption) ?_
      rotate_left
      · (intro wz hSw; (try dsimp only at hSw); go_simp <;> with_reducible rfl)
      try simp only [Act.put, List.setIfInBounds_toArray, List.set_cons_zero, List.set_cons_succ]
      refine H.ready [1] (by kernel_rfl) (by simp) ?_
      refine H.one rfl (by rfl) (fun K hK => ?_) AllReadyH.nil
      go_simp
      go_at_call 58
      refine (negative_any _ _ _).mono ?_
      rintro e w' ⟨rfl, hb⟩
      refine hK.out _ _ ?_ (fun hHeld2 => ?_)
      · exact ⟨Blk.keep hb hHeld.1, Blk.keep hb hHeld.2.1, Blk.keep hb hHeld.2.2.1, hHeld.2.2.2.trans (hb.mono hHeld.2.2.2.size)⟩
      clear hHeld hK K; have hHeld := hHeld2; clear hHeld2
      try simp only [Act.put, List.setIfInBounds_toArray, List.set_cons_zero, List.set_cons_succ]
      refine H.ready [3] (by kernel_rfl) (by simp) ?_
      refine H.one rfl (by rfl) (fun K hK => ?_) AllReadyH.nil
      go_simp
      go_at_call 58
      refine (negative_any _ _ _).mono ?_
      rintro e w' ⟨rfl, hb⟩
      refine hK.out _ _ ?_ (fun hHeld2 => ?_)
      · exact ⟨Blk.keep hb hHeld.1, Blk.keep hb hHeld.2.1, Blk.keep hb hHeld.2.2.1, hHeld.2.2.2.trans (hb.mono hHeld.2.2.2.size)⟩
      clear hHeld hK K; have hHeld := hHeld2; clear hHeld2
      try simp only [Act.put, List.setIfInBounds_toArray, List.set_cons_zero, List.set_cons_succ]
      refine H.take 4 (v := ?_) rfl (by kernel_rfl) (fun _ _ _ h => h) (by rfl) ?_ (by assumption) ?_
      rotate_left
      · (intro wz hSw; (try dsimp only at hSw); go_simp <;> with_reducible rfl)
      try simp only [Act.put, List.setIfInBounds_toArray, List.set_cons_zero, List.set_cons_succ]
      refine H.take 5 (v := ?_) rfl (by kernel_rfl) (fun _ _ _ h => h) (by rfl) ?_ (by assumption) ?_
      rotate_left
      · (intro wz hSw; (try dsimp only at hSw); go_simp <;> with_reducible rfl)
      try simp only [Act.put, List.setIfInBounds_toArray, List.set_cons_zero, List.set_cons_succ]
      refine H.take 6 (v := ?_) rfl (by kernel_rfl) (fun _ _ _ h => h) (by rfl) ?_ (by assumption) ?_
      rotate_left
      · (intro wz hSw; (try dsimp only at hSw); go_simp <;> with_reducible rfl)
      try simp only [Act.put, List.setIfInBounds_toArray, List.set_cons_zero, List.set_cons_succ]
      refine H.take 7 (v := ?_) rfl (by kernel_rfl) (fun _ _ _ h => h) (by rfl) ?_ (by assumption) ?_
      rotate_left
      · (intro wz hSw; (try dsimp only at hSw); go_simp <;> with_reducible rfl)
      try simp only [Act.put, List.setIfInBounds_toArray, List.set_cons_zero, List.set_cons_succ]
      refine H.take 8 (v := ?_) rfl (by kernel_rfl) (fun _ _ _ h => h) (by rfl) ?_ (by assumption) ?_
      rotate_left
      · (intro wz hSw; (try dsimp only at hSw); go_simp <;> with_reducible rfl)
      try simp only [Act.put, List.setIfInBounds_toArray, List.set_cons_zero, List.set_cons_succ]
      refine H.ready [9] (by kernel_rfl) (by simp) ?_
      refine H.one rfl (by rfl) (fun K hK => ?_) AllReadyH.nil
      go_simp
      go_at_call 58
      refine (negative_any _ _ _).mono ?_
      rintro e w' ⟨rfl, hb⟩
      refine hK.out _ _ ?_ (fun hHeld2 => ?_)
      · exact ⟨Blk.keep hb hHeld.1, Blk.keep hb hHeld.2.1, Blk.keep hb hHeld.2.2.1, hHeld.2.2.2.trans (hb.mono hHeld.2.2.2.size)⟩
      clear hHeld hK K; have hHeld := hHeld2; clear hHeld2
      try simp only [Act.put, List.setIfInBounds_toArray, List.set_cons_zero, List.set_cons_succ]
      refine H.take 10 (v := ?_) rfl (by kernel_rfl) (fun _ _ _ h => h) (by rfl) ?_ (by assumption) ?_
      rotate_left
      · (intro wz hSw; (try dsimp only at hSw); go_simp <;> with_reducible rfl)
      try simp only [Act.put, List.setIfInBounds_toArray, List.set_cons_zero, List.set_cons_succ]
      refine H.take 11 (v := ?_) rfl (by kernel_rfl) (fun _ _ _ h => h) (by rfl) ?_ (by assumption) ?_
      rotate_left
      · (intro wz hSw; (try dsimp only at hSw); go_simp <;> with_reducible rfl)
      try simp only [Act.put, List.setIfInBounds_toArray, List.set_cons_zero, List.set_cons_succ]
      refine H.done (by kernel_rfl) ?_ _
      obtain ⟨g1, g2, g3, g4⟩ := hHeld
      have e1 := of_decide_eq_false hd1; have e2 := of_decide_eq_false hd2
      go_wp2_with (first | (go_at_call 58; refine (negative_any _ _ _).mono ?_; rintro e w' ⟨rfl, hb⟩; replace g3 := Blk.keep hb g3; replace g4 := g4.trans (hb.mono g4.size)) | (go_at_call 59; refine (bound_low _).mono ?_; rintro e w' ⟨rfl, hb⟩; replace g3 := Blk.keep hb g3; replace g4 := g4.trans (hb.mono g4.size)) | (go_at_call 59; refine (bound_high _).mono ?_; rintro e w' ⟨rfl, hb⟩; replace g3 := Blk.keep hb g3; replace g4 := g4.trans (hb.mono g4.size)))
      have e3 := of_decide_eq_false hd3
      have hfin := (g3.put (i := 0) (.int .i64 s)).put (i := 1) (.int .u64 ((l1 + l2) % 18446744073709551616))
      have hres := add_fits a0 a1 b0 b1 c0 c1 d0 d1 Hs.out (by omega)
      exact bodyPost_ret (v := .agg #[.int .i64 s, .int .u64 ((l1 + l2) % 18446744073709551616)]) (by simp [results, Try.results18, go_sem, (show Blk _ _ #[.int .i64 s, .int .u64 ((l1 + l2) % 18446744073709551616)] _ from hfin).two]) rfl ⟨ret_w hres.1 hres.2, (g4.setCell (by simp; omega) _).setCell (by simp; omega) _⟩
    · skip
      refine wp_region_held_drew (S := (fun w' => Blk w' w.heap.size #[.int .i64 h1, .int .u64 l1] 24 ∧ Blk w' (w.heap.size + 1) #[.int .i64 h2, .int .u64 l2] 24 ∧ Blk w' (w.heap.size + 1 + 1) #[.int .i64 0, .int .u64 0] 24 ∧ Below w.heap.size w w')) (by kernel_rfl) ?_ (fun hHeld => ?_)
      · exact ⟨(((Blk.new rfl).old _).old _).drew, ((Blk.new (by simp)).old _).drew, (Blk.new (by simp)).drew, ((((Below.refl _ _).alloc (Nat.le_refl _) _).alloc (by simp) _).alloc (by simp; omega) _).drew⟩
      refine H.take 0 (v := ?_) rfl (by kernel_rfl) (fun _ _ _ h => h) (by rfl) ?_ (by assumption) ?_
      rotate_left
      · (intro wz hSw; (try dsimp only at hSw); go_simp <;> with_reducible rfl)
      try simp only [Act.put, List.setIfInBounds_toArray, List.set_cons_zero, List.set_cons_succ]
      refine H.take 2 (v := ?_) rfl (by kernel_rfl) (fun _ _ _ h => h) (by rfl) ?_ (by assumption) ?_
      rotate_left
      · (intro wz hSw; (try dsimp only at hSw); go_simp <;> with_reducible rfl)
      try simp only [Act.put, List.setIfInBounds_toArray, List.set_cons_zero, List.set_cons_succ]
      refine H.ready [1] (by kernel_rfl) (by simp) ?_
      refine H.one rfl (by rfl) (fun K hK => ?_) AllReadyH.nil
      go_simp
      go_at_call 58
      refine (negative_any _ _ _).mono ?_
      rintro e w' ⟨rfl, hb⟩
      refine hK.out _ _ ?_ (fun hHeld2 => ?_)
      · exact ⟨Blk.keep hb hHeld.1, Blk.keep hb hHeld.2.1, Blk.keep hb hHeld.2.2.1, hHeld.2.2.2.trans (hb.mono hHeld.2.2.2.size)⟩
      clear hHeld hK K; have hHeld := hHeld2; clear hHeld2
      try simp only [Act.put, List.setIfInBounds_toArray, List.set_cons_zero, List.set_cons_succ]
      refine H.ready [3] (by kernel_rfl) (by simp) ?_
      refine H.one rfl (by rfl) (fun K hK => ?_) AllReadyH.nil
      go_simp
      go_at_call 58
      refine (negative_any _ _ _).mono ?_
      rintro e w' ⟨rfl, hb⟩
      refine hK.out _ _ ?_ (fun hHeld2 => ?_)
      · exact ⟨Blk.keep hb hHeld.1, Blk.keep hb hHeld.2.1, Blk.keep hb hHeld.2.2.1, hHeld.2.2.2.trans (hb.mono hHeld.2.2.2.size)⟩
      clear hHeld hK K; have hHeld := hHeld2; clear hHeld2
      try simp only [Act.put, List.setIfInBounds_toArray, List.set_cons_zero, List.set_cons_succ]
      refine H.take 4 (v := ?_) rfl (by kernel_rfl) (fun _ _ _ h => h) (by rfl) ?_ (by assumption) ?_
      rotate_left
      · (intro wz hSw; (try dsimp only at hSw); go_simp <;> with_reducible rfl)
      try simp only [Act.put, List.setIfInBounds_toArray, List.set_cons_zero, List.set_cons_succ]
      refine H.take 5 (v := ?_) rfl (by kernel_rfl) (fun _ _ _ h => h) (by rfl) ?_ (by assumption) ?_
      rotate_left
      · (intro wz hSw; (try dsimp only at hSw); go_simp <;> with_reducible rfl)
      try simp only [Act.put, List.setIfInBounds_toArray, List.set_cons_zero, List.set_cons_succ]
      refine H.take 6 (v := ?_) rfl (by kernel_rfl) (fun _ _ _ h => h) (by rfl) ?_ (by assumption) ?_
      rotate_left
      · (intro wz hSw; (try dsimp only at hSw); go_simp <;> with_reducible rfl)
      try simp only [Act.put, List.setIfInBounds_toArray, List.set_cons_zero, List.set_cons_succ]
      refine H.take 7 (v := ?_) rfl (by kernel_rfl) (fun _ _ _ h => h) (by rfl) ?_ (by assumption) ?_
      rotate_left
      · (intro wz hSw; (try dsimp only at hSw); go_simp <;> with_reducible rfl)
      try simp only [Act.put, List.setIfInBounds_toArray, List.set_cons_zero, List.set_cons_succ]
      refine H.take 8 (v := ?_) rfl (by kernel_rfl) (fun _ _ _ h => h) (by rfl) ?_ (by assumption) ?_
      rotate_left
      · (intro wz hSw; (try dsimp only at hSw); go_simp <;> with_reducible rfl)
      try simp only [Act.put, List.setIfInBounds_toArray, List.set_cons_zero, List.set_cons_succ]
      refine H.ready [9] (by kernel_rfl) (by simp) ?_
      refine H.one rfl (by rfl) (fun K hK => ?_) AllReadyH.nil
      go_simp
      go_at_call 58
      refine (negative_any _ _ _).mono ?_
      rintro e w' ⟨rfl, hb⟩
      refine hK.out _ _ ?_ (fun hHeld2 => ?_)
      · exact ⟨Blk.keep hb hHeld.1, Blk.keep hb hHeld.2.1, Blk.keep hb hHeld.2.2.1, hHeld.2.2.2.trans (hb.mono hHeld.2.2.2.size)⟩
      clear hHeld hK K; have hHeld := hHeld2; clear hHeld2
      try simp only [Act.put, List.setIfInBounds_toArray, List.set_cons_zero, List.set_cons_succ]
      refine H.take 10 (v := ?_) rfl (by kernel_rfl) (fun _ _ _ h => h) (by rfl) ?_ (by assumption) ?_
      rotate_left
      · (intro wz hSw; (try dsimp only at hSw); go_simp <;> with_reducible rfl)
      try simp only [Act.put, List.setIfInBounds_toArray, List.set_cons_zero, List.set_cons_succ]
      refine H.take 11 (v := ?_) rfl (by kernel_rfl) (fun _ _ _ h => h) (by rfl) ?_ (by assumption) ?_
      rotate_left
      · (intro wz hSw; (try dsimp only at hSw); go_simp <;> with_reducible rfl)
      try simp only [Act.put, List.setIfInBounds_toArray, List.set_cons_zero, List.set_cons_succ]
      refine H.done (by kernel_rfl) ?_ _
      obtain ⟨g1, g2, g3, g4⟩ := hHeld
      have e1 := of_decide_eq_false hd1; have e2 := of_decide_eq_false hd2
      go_wp2_with (first | (go_at_call 58; refine (negative_any _ _ _).mono ?_; rintro e w' ⟨rfl, hb⟩; replace g3 := Blk.keep hb g3; replace g4 := g4.trans (hb.mono g4.size)) | (go_at_call 59; refine (bound_low _).mono ?_; rintro e w' ⟨rfl, hb⟩; replace g3 := Blk.keep hb g3; replace g4 := g4.trans (hb.mono g4.size)) | (go_at_call 59; refine (bound_high _).mono ?_; rintro e w' ⟨rfl, hb⟩; replace g3 := Blk.keep hb g3; replace g4 := g4.trans (hb.mono g4.size)))
      have e3 := of_decide_eq_true hd3
      have hfin := (g3.put (i := 0) (.int .i64 9223372036854775807)).put (i := 1) (.int .u64 18446744073709551615)
      have hres := add_high a0 a1 b0 b1 (by omega) (by omega) Hs.out (by omega) (by omega) (by omega)
      exact bodyPost_ret (v := .agg #[.int .i64 9223372036854775807, .int .u64 18446744073709551615]) (by simp [results, Try.results18, go_sem, (show Blk _ _ #[.int .i64 9223372036854775807, .int .u64 18446744073709551615] _ from hfin).two]) rfl ⟨ret_w hres.1 hres.2, (g4.setCell (by simp; omega) _).setCell (by simp; omega) _⟩
  · skip
    go_enter Try.func18, Try.ntmps18
    go_wp2
    generalize hs : wrap64 (wrap64 (h1 + h2) + (l1 + l2) / 18446744073709551616) = s
    have Hs := Lib.hid hs; clear hs
    refine wp_region_held_drew (S := (fun w' => Blk w' w.heap.size #[.int .i64 h1, .int .u64 l1] 24 ∧ Blk w' (w.heap.size + 1) #[.int .i64 h2, .int .u64 l2] 24 ∧ Blk w' (w.heap.size + 1 + 1) #[.int .i64 0, .int .u64 0] 24 ∧ Below w.heap.size w w')) (by kernel_rfl) ?_ (fun hHeld => ?_)
    · exact ⟨(((Blk.new rfl).old _).old _).drew, ((Blk.new (by simp)).old _).drew, (Blk.new (by simp)).drew, ((((Below.refl _ _).alloc (Nat.le_refl _) _).alloc (by simp) _).alloc (by simp; omega) _).drew⟩
    refine H.take 0 (v := ?_) rfl (by kernel_rfl) (fun _ _ _ h => h) (by rfl) ?_ (by assumption) ?_
    rotate_left
    · (intro wz hSw; (try dsimp only at hSw); go_simp <;> with_reducible rfl)
    try simp only [Act.put, List.setIfInBounds_toArray, List.set_cons_zero, List.set_cons_succ]
    refine H.take 2 (v := ?_) rfl (by kernel_rfl) (fun _ _ _ h => h) (by rfl) ?_ (by assumption) ?_
    rotate_left
    · (intro wz hSw; (try dsimp only at hSw); go_simp <;> with_reducible rfl)
    try simp only [Act.put, List.setIfInBounds_toArray, List.set_cons_zero, List.set_cons_succ]
    refine H.ready [1] (by kernel_rfl) (by simp) ?_
    refine H.one rfl (by rfl) (fun K hK => ?_) AllReadyH.nil
    go_simp
    go_at_call 58
    refine (negative_any _ _ _).mono ?_
    rintro e w' ⟨rfl, hb⟩
    refine hK.out _ _ ?_ (fun hHeld2 => ?_)
    · exact ⟨Blk.keep hb hHeld.1, Blk.keep hb hHeld.2.1, Blk.keep hb hHeld.2.2.1, hHeld.2.2.2.trans (hb.mono hHeld.2.2.2.size)⟩
    clear hHeld hK K; have hHeld := hHeld2; clear hHeld2
    try simp only [Act.put, List.setIfInBounds_toArray, List.set_cons_zero, List.set_cons_succ]
    refine H.ready [3] (by kernel_rfl) (by simp) ?_
    refine H.one rfl (by rfl) (fun K hK => ?_) AllReadyH.nil
    go_simp
    go_at_call 58
    refine (negative_any _ _ _).mono ?_
    rintro e w' ⟨rfl, hb⟩
    refine hK.out _ _ ?_ (fun hHeld2 => ?_)
    · exact ⟨Blk.keep hb hHeld.1, Blk.keep hb hHeld.2.1, Blk.keep hb hHeld.2.2.1, hHeld.2.2.2.trans (hb.mono hHeld.2.2.2.size)⟩
    clear hHeld hK K; have hHeld := hHeld2; clear hHeld2
    try simp only [Act.put, List.setIfInBounds_toArray, List.set_cons_zero, List.set_cons_succ]
    refine H.take 4 (v := ?_) rfl (by kernel_rfl) (fun _ _ _ h => h) (by rfl) ?_ (by assumption) ?_
    rotate_left
    · (intro wz hSw; (try dsimp only at hSw); go_simp <;> with_reducible rfl)
    try simp only [Act.put, List.setIfInBounds_toArray, List.set_cons_zero, List.set_cons_succ]
    refine H.take 5 (v := ?_) rfl (by kernel_rfl) (fun _ _ _ h => h) (by rfl) ?_ (by assumption) ?_
    rotate_left
    · (intro wz hSw; (try dsimp only at hSw); go_simp <;> with_reducible rfl)
    try simp only [Act.put, List.setIfInBounds_toArray, List.set_cons_zero, List.set_cons_succ]
    refine H.skip 6 rfl (by kernel_rfl) (fun _ _ _ h => h) (by rfl) (by assumption) ?_
    try simp only [Act.put, List.setIfInBounds_toArray, List.set_cons_zero, List.set_cons_succ]
    refine H.skip 7 rfl (by kernel_rfl) (fun _ _ _ h => h) (by rfl) (by assumption) ?_
    try simp only [Act.put, List.setIfInBounds_toArray, List.set_cons_zero, List.set_cons_succ]
    refine H.skip 8 rfl (by kernel_rfl) (fun _ _ _ h => h) (by rfl) (by assumption) ?_
    try simp only [Act.put, List.setIfInBounds_toArray, List.set_cons_zero, List.set_cons_succ]
    refine H.skip 9 rfl (by kernel_rfl) (fun _ _ _ h => h) (by rfl) (by assumption) ?_
    try simp only [Act.put, List.setIfInBounds_toArray, List.set_cons_zero, List.set_cons_succ]
    refine H.skip 10 rfl (by kernel_rfl) (fun _ _ _ h => h) (by rfl) (by assumption) ?_
    try simp only [Act.put, List.setIfInBounds_toArray, List.set_cons_zero, List.set_cons_succ]
    refine H.take 11 (v := ?_) rfl (by kernel_rfl) (fun _ _ _ h => h) (by rfl) ?_ (by assumption) ?_
    rotate_left
    · (intro wz hSw; (try dsimp only at hSw); go_simp <;> with_reducible rfl)
    try simp only [Act.put, List.setIfInBounds_toArray, List.set_cons_zero, List.set_cons_succ]
    refine H.done (by kernel_rfl) ?_ _
    obtain ⟨g1, g2, g3, g4⟩ := hHeld
    have e1 := of_decide_eq_false hd1; have e2 := of_decide_eq_true hd2
    go_wp2_with (first | (go_at_call 58; refine (negative_any _ _ _).mono ?_; rintro e w' ⟨rfl, hb⟩; replace g3 := Blk.keep hb g3; replace g4 := g4.trans (hb.mono g4.size)) | (go_at_call 59; refine (bound_low _).mono ?_; rintro e w' ⟨rfl, hb⟩; replace g3 := Blk.keep hb g3; replace g4 := g4.trans (hb.mono g4.size)) | (go_at_call 59; refine (bound_high _).mono ?_; rintro e w' ⟨rfl, hb⟩; replace g3 := Blk.keep hb g3; replace g4 := g4.trans (hb.mono g4.size)))
    have hfin := (g3.put (i := 0) (.int .i64 s)).put (i := 1) (.int .u64 ((l1 + l2) % 18446744073709551616))
    have hres := add_fits a0 a1 b0 b1 c0 c1 d0 d1 Hs.out (by omega)
    exact bodyPost_ret (v := .agg #[.int .i64 s, .int .u64 ((l1 + l2) % 18446744073709551616)]) (by simp [results, Try.results18, go_sem, (show Blk _ _ #[.int .i64 s, .int .u64 ((l1 + l2) % 18446744073709551616)] _ from hfin).two]) rfl ⟨ret_w hres.1 hres.2, (g4.setCell (by simp; omega) _).setCell (by simp; omega) _⟩
  · skip
    go_enter Try.func18, Try.ntmps18
    go_wp2
    generalize hs : wrap64 (wrap64 (h1 + h2) + (l1 + l2) / 18446744073709551616) = s
    have Hs := Lib.hid hs; clear hs
    refine wp_region_held_drew (S := (fun w' => Blk w' w.heap.size #[.int .i64 h1, .int .u64 l1] 24 ∧ Blk w' (w.heap.size + 1) #[.int .i64 h2, .int .u64 l2] 24 ∧ Blk w' (w.heap.size + 1 + 1) #[.int .i64 0, .int .u64 0] 24 ∧ Below w.heap.size w w')) (by kernel_rfl) ?_ (fun hHeld => ?_)
    · exact ⟨(((Blk.new rfl).old _).old _).drew, ((Blk.new (by simp)).old _).drew, (Blk.new (by simp)).drew, ((((Below.refl _ _).alloc (Nat.le_refl _) _).alloc (by simp) _).alloc (by simp; omega) _).drew⟩
    refine H.take 0 (v := ?_) rfl (by kernel_rfl) (fun _ _ _ h => h) (by rfl) ?_ (by assumption) ?_
    rotate_left
    · (intro wz hSw; (try dsimp only at hSw); go_simp <;> with_reducible rfl)
    try simp only [Act.put, List.setIfInBounds_toArray, List.set_cons_zero, List.set_cons_succ]
    refine H.take 2 (v := ?_) rfl (by kernel_rfl) (fun _ _ _ h => h) (by rfl) ?_ (by assumption) ?_
    rotate_left
    · (intro wz hSw; (try dsimp only at hSw); go_simp <;> with_reducible rfl)
    try simp only [Act.put, List.setIfInBounds_toArray, List.set_cons_zero, List.set_cons_succ]
    refine H.ready [1] (by kernel_rfl) (by simp) ?_
    refine H.one rfl (by rfl) (fun K hK => ?_) AllReadyH.nil
    go_simp
    go_at_call 58
    refine (negative_any _ _ _).mono ?_
    rintro e w' ⟨rfl, hb⟩
    refine hK.out _ _ ?_ (fun hHeld2 => ?_)
    · exact ⟨Blk.keep hb hHeld.1, Blk.keep hb hHeld.2.1, Blk.keep hb hHeld.2.2.1, hHeld.2.2.2.trans (hb.mono hHeld.2.2.2.size)⟩
    clear hHeld hK K; have hHeld := hHeld2; clear hHeld2
    try simp only [Act.put, List.setIfInBounds_toArray, List.set_cons_zero, List.set_cons_succ]
    refine H.ready [3] (by kernel_rfl) (by simp) ?_
    refine H.one rfl (by rfl) (fun K hK => ?_) AllReadyH.nil
    go_simp
    go_at_call 58
    refine (negative_any _ _ _).mono ?_
    rintro e w' ⟨rfl, hb⟩
    refine hK.out _ _ ?_ (fun hHeld2 => ?_)
    · exact ⟨Blk.keep hb hHeld.1, Blk.keep hb hHeld.2.1, Blk.keep hb hHeld.2.2.1, hHeld.2.2.2.trans (hb.mono hHeld.2.2.2.size)⟩
    clear hHeld hK K; have hHeld := hHeld2; clear hHeld2
    try simp only [Act.put, List.setIfInBounds_toArray, List.set_cons_zero, List.set_cons_succ]
    refine H.take 4 (v := ?_) rfl (by kernel_rfl) (fun _ _ _ h => h) (by rfl) ?_ (by assumption) ?_
    rotate_left
    · (intro wz hSw; (try dsimp only at hSw); go_simp <;> with_reducible rfl)
    try simp only [Act.put, List.setIfInBounds_toArray, List.set_cons_zero, List.set_cons_succ]
    refine H.take 5 (v := ?_) rfl (by kernel_rfl) (fun _ _ _ h => h) (by rfl) ?_ (by assumption) ?_
    rotate_left
    · (intro wz hSw; (try dsimp only at hSw); go_simp <;> with_reducible rfl)
    try simp only [Act.put, List.setIfInBounds_toArray, List.set_cons_zero, List.set_cons_succ]
    refine H.skip 6 rfl (by kernel_rfl) (fun _ _ _ h => h) (by rfl) (by assumption) ?_
    try simp only [Act.put, List.setIfInBounds_toArray, List.set_cons_zero, List.set_cons_succ]
    refine H.skip 7 rfl (by kernel_rfl) (fun _ _ _ h => h) (by rfl) (by assumption) ?_
    try simp only [Act.put, List.setIfInBounds_toArray, List.set_cons_zero, List.set_cons_succ]
    refine H.skip 8 rfl (by kernel_rfl) (fun _ _ _ h => h) (by rfl) (by assumption) ?_
    try simp only [Act.put, List.setIfInBounds_toArray, List.set_cons_zero, List.set_cons_succ]
    refine H.skip 9 rfl (by kernel_rfl) (fun _ _ _ h => h) (by rfl) (by assumption) ?_
    try simp only [Act.put, List.setIfInBounds_toArray, List.set_cons_zero, List.set_cons_succ]
    refine H.skip 10 rfl (by kernel_rfl) (fun _ _ _ h => h) (by rfl) (by assumption) ?_
    try simp only [Act.put, List.setIfInBounds_toArray, List.set_cons_zero, List.set_cons_succ]
    refine H.take 11 (v := ?_) rfl (by kernel_rfl) (fun _ _ _ h => h) (by rfl) ?_ (by assumption) ?_
    rotate_left
    · (intro wz hSw; (try dsimp only at hSw); go_simp <;> with_reducible rfl)
    try simp only [Act.put, List.setIfInBounds_toArray, List.set_cons_zero, List.set_cons_succ]
    refine H.done (by kernel_rfl) ?_ _
    obtain ⟨g1, g2, g3, g4⟩ := hHeld
    have e1 := of_decide_eq_true hd1; have e2 := of_decide_eq_false hd2
    go_wp2_with (first | (go_at_call 58; refine (negative_any _ _ _).mono ?_; rintro e w' ⟨rfl, hb⟩; replace g3 := Blk.keep hb g3; replace g4 := g4.trans (hb.mono g4.size)) | (go_at_call 59; refine (bound_low _).mono ?_; rintro e w' ⟨rfl, hb⟩; replace g3 := Blk.keep hb g3; replace g4 := g4.trans (hb.mono g4.size)) | (go_at_call 59; refine (bound_high _).mono ?_; rintro e w' ⟨rfl, hb⟩; replace g3 := Blk.keep hb g3; replace g4 := g4.trans (hb.mono g4.size)))
    have hfin := (g3.put (i := 0) (.int .i64 s)).put (i := 1) (.int .u64 ((l1 + l2) % 18446744073709551616))
    have hres := add_fits a0 a1 b0 b1 c0 c1 d0 d1 Hs.out (by omega)
    exact bodyPost_ret (v := .agg #[.int .i64 s, .int .u64 ((l1 + l2) % 18446744073709551616)]) (by simp [results, Try.results18, go_sem, (show Blk _ _ #[.int .i64 s, .int .u64 ((l1 + l2) % 18446744073709551616)] _ from hfin).two]) rfl ⟨ret_w hres.1 hres.2, (g4.setCell (by simp; omega) _).setCell (by simp; omega) _⟩
  · skip
    go_enter Try.func18, Try.ntmps18
    go_wp2
    generalize hs : wrap64 (wrap64 (h1 + h2) + (l1 + l2) / 18446744073709551616) = s
    have Hs := Lib.hid hs; clear hs
    rcases hd3 : decide (s < 0) with _ | _
    · skip
      refine wp_region_held_drew (S := (fun w' => Blk w' w.heap.size #[.int .i64 h1, .int .u64 l1] 24 ∧ Blk w' (w.heap.size + 1) #[.int .i64 h2, .int .u64 l2] 24 ∧ Blk w' (w.heap.size + 1 + 1) #[.int .i64 0, .int .u64 0] 24 ∧ Below w.heap.size w w')) (by kernel_rfl) ?_ (fun hHeld => ?_)
      · exact ⟨(((Blk.new rfl).old _).old _).drew, ((Blk.new (by simp)).old _).drew, (Blk.new (by simp)).drew, ((((Below.refl _ _).alloc (Nat.le_refl _) _).alloc (by simp) _).alloc (by simp; omega) _).drew⟩
      refine H.take 0 (v := ?_) rfl (by kernel_rfl) (fun _ _ _ h => h) (by rfl) ?_ (by assumption) ?_
      rotate_left
      · (intro wz hSw; (try dsimp only at hSw); go_simp <;> with_reducible rfl)
      try simp only [Act.put, List.setIfInBounds_toArray, List.set_cons_zero, List.set_cons_succ]
      refine H.take 2 (v := ?_) rfl (by kernel_rfl) (fun _ _ _ h => h) (by rfl) ?_ (by assumption) ?_
      rotate_left
      · (intro wz hSw; (try dsimp only at hSw); go_simp <;> with_reducible rfl)
      try simp only [Act.put, List.setIfInBounds_toArray, List.set_cons_zero, List.set_cons_succ]
      refine H.ready [1] (by kernel_rfl) (by simp) ?_
      refine H.one rfl (by rfl) (fun K hK => ?_) AllReadyH.nil
      go_simp
      go_at_call 58
      refine (negative_any _ _ _).mono ?_
      rintro e w' ⟨rfl, hb⟩
      refine hK.out _ _ ?_ (fun hHeld2 => ?_)
      · exact ⟨Blk.keep hb hHeld.1, Blk.keep hb hHeld.2.1, Blk.keep hb hHeld.2.2.1, hHeld.2.2.2.trans (hb.mono hHeld.2.2.2.size)⟩
      clear hHeld hK K; have hHeld := hHeld2; clear hHeld2
      try simp only [Act.put, List.setIfInBounds_toArray, List.set_cons_zero, List.set_cons_succ]
      refine H.ready [3] (by kernel_rfl) (by simp) ?_
      refine H.one rfl (by rfl) (fun K hK => ?_) AllReadyH.nil
      go_simp
      go_at_call 58
      refine (negative_any _ _ _).mono ?_
      rintro e w' ⟨rfl, hb⟩
      refine hK.out _ _ ?_ (fun hHeld2 => ?_)
      · exact ⟨Blk.keep hb hHeld.1, Blk.keep hb hHeld.2.1, Blk.keep hb hHeld.2.2.1, hHeld.2.2.2.trans (hb.mono hHeld.2.2.2.size)⟩
      clear hHeld hK K; have hHeld := hHeld2; clear hHeld2
      try simp only [Act.put, List.setIfInBounds_toArray, List.set_cons_zero, List.set_cons_succ]
      refine H.take 4 (v := ?_) rfl (by kernel_rfl) (fun _ _ _ h => h) (by rfl) ?_ (by assumption) ?_
      rotate_left
      · (intro wz hSw; (try dsimp only at hSw); go_simp <;> with_reducible rfl)
      try simp only [Act.put, List.setIfInBounds_toArray, List.set_cons_zero, List.set_cons_succ]
      refine H.take 5 (v := ?_) rfl (by kernel_rfl) (fun _ _ _ h => h) (by rfl) ?_ (by assumption) ?_
      rotate_left
      · (intro wz hSw; (try dsimp only at hSw); go_simp <;> with_reducible rfl)
      try simp only [Act.put, List.setIfInBounds_toArray, List.set_cons_zero, List.set_cons_succ]
      refine H.take 6 (v := ?_) rfl (by kernel_rfl) (fun _ _ _ h => h) (by rfl) ?_ (by assumption) ?_
      rotate_left
      · (intro wz hSw; (try dsimp only at hSw); go_simp <;> with_reducible rfl)
      try simp only [Act.put, List.setIfInBounds_toArray, List.set_cons_zero, List.set_cons_succ]
      refine H.take 7 (v := ?_) rfl (by kernel_rfl) (fun _ _ _ h => h) (by rfl) ?_ (by assumption) ?_
      rotate_left
      · (intro wz hSw; (try dsimp only at hSw); go_simp <;> with_reducible rfl)
      try simp only [Act.put, List.setIfInBounds_toArray, List.set_cons_zero, List.set_cons_succ]
      refine H.take 8 (v := ?_) rfl (by kernel_rfl) (fun _ _ _ h => h) (by rfl) ?_ (by assumption) ?_
      rotate_left
      · (intro wz hSw; (try dsimp only at hSw); go_simp <;> with_reducible rfl)
      try simp only [Act.put, List.setIfInBounds_toArray, List.set_cons_zero, List.set_cons_succ]
      refine H.ready [9] (by kernel_rfl) (by simp) ?_
      refine H.one rfl (by rfl) (fun K hK => ?_) AllReadyH.nil
      go_simp
      go_at_call 58
      refine (negative_any _ _ _).mono ?_
      rintro e w' ⟨rfl, hb⟩
      refine hK.out _ _ ?_ (fun hHeld2 => ?_)
      · exact ⟨Blk.keep hb hHeld.1, Blk.keep hb hHeld.2.1, Blk.keep hb hHeld.2.2.1, hHeld.2.2.2.trans (hb.mono hHeld.2.2.2.size)⟩
      clear hHeld hK K; have hHeld := hHeld2; clear hHeld2
      try simp only [Act.put, List.setIfInBounds_toArray, List.set_cons_zero, List.set_cons_succ]
      refine H.take 10 (v := ?_) rfl (by kernel_rfl) (fun _ _ _ h => h) (by rfl) ?_ (by assumption) ?_
      rotate_left
      · (intro wz hSw; (try dsimp only at hSw); go_simp <;> with_reducible rfl)
      try simp only [Act.put, List.setIfInBounds_toArray, List.set_cons_zero, List.set_cons_succ]
      refine H.take 11 (v := ?_) rfl (by kernel_rfl) (fun _ _ _ h => h) (by rfl) ?_ (by assumption) ?_
      rotate_left
      · (intro wz hSw; (try dsimp only at hSw); go_simp <;> with_reducible rfl)
      try simp only [Act.put, List.setIfInBounds_toArray, List.set_cons_zero, List.set_cons_succ]
      refine H.done (by kernel_rfl) ?_ _
      obtain ⟨g1, g2, g3, g4⟩ := hHeld
      have e1 := of_decide_eq_true hd1; have e2 := of_decide_eq_true hd2
      go_wp2_with (first | (go_at_call 58; refine (negative_any _ _ _).mono ?_; rintro e w' ⟨rfl, hb⟩; replace g3 := Blk.keep hb g3; replace g4 := g4.trans (hb.mono g4.size)) | (go_at_call 59; refine (bound_low _).mono ?_; rintro e w' ⟨rfl, hb⟩; replace g3 := Blk.keep hb g3; replace g4 := g4.trans (hb.mono g4.size)) | (go_at_call 59; refine (bound_high _).mono ?_; rintro e w' ⟨rfl, hb⟩; replace g3 := Blk.keep hb g3; replace g4 := g4.trans (hb.mono g4.size)))
      have e3 := of_decide_eq_false hd3
      have hfin := (g3.put (i := 0) (.int .i64 (-9223372036854775808))).put (i := 1) (.int .u64 0)
      have hres := add_low a0 a1 b0 b1 (by omega) (by omega) Hs.out (by omega) (by omega) (by omega)
      exact bodyPost_ret (v := .agg #[.int .i64 (-9223372036854775808), .int .u64 0]) (by simp [results, Try.results18, go_sem, (show Blk _ _ #[.int .i64 (-9223372036854775808), .int .u64 0] _ from hfin).two]) rfl ⟨ret_w hres.1 hres.2, (g4.setCell (by simp; omega) _).setCell (by simp; omega) _⟩
    · skip
      refine wp_region_held_drew (S := (fun w' => Blk w' w.heap.size #[.int .i64 h1, .int .u64 l1] 24 ∧ Blk w' (w.heap.size + 1) #[.int .i64 h2, .int .u64 l2] 24 ∧ Blk w' (w.heap.size + 1 + 1) #[.int .i64 0, .int .u64 0] 24 ∧ Below w.heap.size w w')) (by kernel_rfl) ?_ (fun hHeld => ?_)
      · exact ⟨(((Blk.new rfl).old _).old _).drew, ((Blk.new (by simp)).old _).drew, (Blk.new (by simp)).drew, ((((Below.refl _ _).alloc (Nat.le_refl _) _).alloc (by simp) _).alloc (by simp; omega) _).drew⟩
      refine H.take 0 (v := ?_) rfl (by kernel_rfl) (fun _ _ _ h => h) (by rfl) ?_ (by assumption) ?_
      rotate_left
      · (intro wz hSw; (try dsimp only at hSw); go_simp <;> with_reducible rfl)
      try simp only [Act.put, List.setIfInBounds_toArray, List.set_cons_zero, List.set_cons_succ]
      refine H.take 2 (v := ?_) rfl (by kernel_rfl) (fun _ _ _ h => h) (by rfl) ?_ (by assumption) ?_
      rotate_left
      · (intro wz hSw; (try dsimp only at hSw); go_simp <;> with_reducible rfl)
      try simp only [Act.put, List.setIfInBounds_toArray, List.set_cons_zero, List.set_cons_succ]
      refine H.ready [1] (by kernel_rfl) (by simp) ?_
      refine H.one rfl (by rfl) (fun K hK => ?_) AllReadyH.nil
      go_simp
      go_at_call 58
      refine (negative_any _ _ _).mono ?_
      rintro e w' ⟨rfl, hb⟩
      refine hK.out _ _ ?_ (fun hHeld2 => ?_)
      · exact ⟨Blk.keep hb hHeld.1, Blk.keep hb hHeld.2.1, Blk.keep hb hHeld.2.2.1, hHeld.2.2.2.trans (hb.mono hHeld.2.2.2.size)⟩
      clear hHeld hK K; have hHeld := hHeld2; clear hHeld2
      try simp only [Act.put, List.setIfInBounds_toArray, List.set_cons_zero, List.set_cons_succ]
      refine H.ready [3] (by kernel_rfl) (by simp) ?_
      refine H.one rfl (by rfl) (fun K hK => ?_) AllReadyH.nil
      go_simp
      go_at_call 58
      refine (negative_any _ _ _).mono ?_
      rintro e w' ⟨rfl, hb⟩
      refine hK.out _ _ ?_ (fun hHeld2 => ?_)
      · exact ⟨Blk.keep hb hHeld.1, Blk.keep hb hHeld.2.1, Blk.keep hb hHeld.2.2.1, hHeld.2.2.2.trans (hb.mono hHeld.2.2.2.size)⟩
      clear hHeld hK K; have hHeld := hHeld2; clear hHeld2
      try simp only [Act.put, List.setIfInBounds_toArray, List.set_cons_zero, List.set_cons_succ]
      refine H.take 4 (v := ?_) rfl (by kernel_rfl) (fun _ _ _ h => h) (by rfl) ?_ (by assumption) ?_
      rotate_left
      · (intro wz hSw; (try dsimp only at hSw); go_simp <;> with_reducible rfl)
      try simp only [Act.put, List.setIfInBounds_toArray, List.set_cons_zero, List.set_cons_succ]
      refine H.take 5 (v := ?_) rfl (by kernel_rfl) (fun _ _ _ h => h) (by rfl) ?_ (by assumption) ?_
      rotate_left
      · (intro wz hSw; (try dsimp only at hSw); go_simp <;> with_reducible rfl)
      try simp only [Act.put, List.setIfInBounds_toArray, List.set_cons_zero, List.set_cons_succ]
      refine H.take 6 (v := ?_) rfl (by kernel_rfl) (fun _ _ _ h => h) (by rfl) ?_ (by assumption) ?_
      rotate_left
      · (intro wz hSw; (try dsimp only at hSw); go_simp <;> with_reducible rfl)
      try simp only [Act.put, List.setIfInBounds_toArray, List.set_cons_zero, List.set_cons_succ]
      refine H.take 7 (v := ?_) rfl (by kernel_rfl) (fun _ _ _ h => h) (by rfl) ?_ (by assumption) ?_
      rotate_left
      · (intro wz hSw; (try dsimp only at hSw); go_simp <;> with_reducible rfl)
      try simp only [Act.put, List.setIfInBounds_toArray, List.set_cons_zero, List.set_cons_succ]
      refine H.take 8 (v := ?_) rfl (by kernel_rfl) (fun _ _ _ h => h) (by rfl) ?_ (by assumption) ?_
      rotate_left
      · (intro wz hSw; (try dsimp only at hSw); go_simp <;> with_reducible rfl)
      try simp only [Act.put, List.setIfInBounds_toArray, List.set_cons_zero, List.set_cons_succ]
      refine H.ready [9] (by kernel_rfl) (by simp) ?_
      refine H.one rfl (by rfl) (fun K hK => ?_) AllReadyH.nil
      go_simp
      go_at_call 58
      refine (negative_any _ _ _).mono ?_
      rintro e w' ⟨rfl, hb⟩
      refine hK.out _ _ ?_ (fun hHeld2 => ?_)
      · exact ⟨Blk.keep hb hHeld.1, Blk.keep hb hHeld.2.1, Blk.keep hb hHeld.2.2.1, hHeld.2.2.2.trans (hb.mono hHeld.2.2.2.size)⟩
      clear hHeld hK K; have hHeld := hHeld2; clear hHeld2
      try simp only [Act.put, List.setIfInBounds_toArray, List.set_cons_zero, List.set_cons_succ]
      refine H.take 10 (v := ?_) rfl (by kernel_rfl) (fun _ _ _ h => h) (by rfl) ?_ (by assumption) ?_
      rotate_left
      · (intro wz hSw; (try dsimp only at hSw); go_simp <;> with_reducible rfl)
      try simp only [Act.put, List.setIfInBounds_toArray, List.set_cons_zero, List.set_cons_succ]
      refine H.take 11 (v := ?_) rfl (by kernel_rfl) (fun _ _ _ h => h) (by rfl) ?_ (by assumption) ?_
      rotate_left
      · (intro wz hSw; (try dsimp only at hSw); go_simp <;> with_reducible rfl)
      try simp only [Act.put, List.setIfInBounds_toArray, List.set_cons_zero, List.set_cons_succ]
      refine H.done (by kernel_rfl) ?_ _
      obtain ⟨g1, g2, g3, g4⟩ := hHeld
      have e1 := of_decide_eq_true hd1; have e2 := of_decide_eq_true hd2
      go_wp2_with (first | (go_at_call 58; refine (negative_any _ _ _).mono ?_; rintro e w' ⟨rfl, hb⟩; replace g3 := Blk.keep hb g3; replace g4 := g4.trans (hb.mono g4.size)) | (go_at_call 59; refine (bound_low _).mono ?_; rintro e w' ⟨rfl, hb⟩; replace g3 := Blk.keep hb g3; replace g4 := g4.trans (hb.mono g4.size)) | (go_at_call 59; refine (bound_high _).mono ?_; rintro e w' ⟨rfl, hb⟩; replace g3 := Blk.keep hb g3; replace g4 := g4.trans (hb.mono g4.size)))
      have e3 := of_decide_eq_true hd3
      have hfin := (g3.put (i := 0) (.int .i64 s)).put (i := 1) (.int .u64 ((l1 + l2) % 18446744073709551616))
      have hres := add_fits a0 a1 b0 b1 c0 c1 d0 d1 Hs.out (by omega)
      exact bodyPost_ret (v := .agg #[.int .i64 s, .int .u64 ((l1 + l2) % 18446744073709551616)]) (by simp [results, Try.results18, go_sem, (show Blk _ _ #[.int .i64 s, .int .u64 ((l1 + l2) % 18446744073709551616)] _ from hfin).two]) rfl ⟨ret_w hres.1 hres.2, (g4.setCell (by simp; omega) _).setCell (by simp; omega) _⟩


theorem run_sub64 (x y c : Int) (hx : 0 ≤ x) (hy : 0 ≤ y) (hx1 : x ≤ 18446744073709551615) (hy1 : y ≤ 18446744073709551615) (hc : c = if x < y then 1 else 0) (w : World) :
    (callFunc 61 #[.int .u64 x, .int .u64 y, .int .u64 0]).run Try.prog w =
      .ok (.value (.tuple #[.int .u64 ((x + 18446744073709551616 - y) % 18446744073709551616), .int .u64 c])) w := by
  obtain ⟨a, rfl⟩ := Int.eq_ofNat_of_zero_le hx
  obtain ⟨b, rfl⟩ := Int.eq_ofNat_of_zero_le hy
  rw [run_callFunc_extern Try.func61 (by kernel_rfl) (by kernel_rfl) (by kernel_rfl) (e := Go.Proofs.sub64Entry) (by kernel_rfl), show Value.int IntKind.u64 0 = Value.int IntKind.u64 ((0 : Nat) : Int) from rfl, Go.Proofs.run_sub64 a b 0 (by omega)]
  simp only [Result.andThen]
  have e1 : (((a + 18446744073709551616 - b - 0) % 18446744073709551616 : Nat) : Int) = ((a : Int) + 18446744073709551616 - b) % 18446744073709551616 := by omega
  have e2 : ((if a < b + 0 then 1 else 0 : Nat) : Int) = c := by
    rw [hc]; by_cases h : a < b
    · rw [if_pos (by omega), if_pos (by omega)]; rfl
    · rw [if_neg (by omega), if_neg (by omega)]; rfl
  rw [e1, e2]

set_option maxHeartbeats 4000000 in
theorem sub_any (h1 l1 h2 l2 : Int) (a0 : 0 ≤ l1) (a1 : l1 ≤ 18446744073709551615) (b0 : 0 ≤ l2) (b1 : l2 ≤ 18446744073709551615)
    (c0 : -9223372036854775808 ≤ h1) (c1 : h1 ≤ 9223372036854775807) (d0 : -9223372036854775808 ≤ h2) (d1 : h2 ≤ 9223372036854775807) (w : World) :
    Calls Try.prog 20 #[.agg #[.int .i64 h1, .int .u64 l1], .agg #[.int .i64 h2, .int .u64 l2]] w fun e w' =>
      e = .returned (.agg #[.int .i64 (hi (clamp (h1 * 18446744073709551616 + l1 - (h2 * 18446744073709551616 + l2)))), .int .u64 (lo (clamp (h1 * 18446744073709551616 + l1 - (h2 * 18446744073709551616 + l2))))]) ∧ Below w.heap.size w w' := by
  obtain ⟨bw, hbw0⟩ : ∃ bw : Int, bw = if l1 < l2 then 1 else 0 := ⟨_, rfl⟩; have bw0 : 0 ≤ bw := (by split at hbw0 <;> omega); have bw1 : bw ≤ 1 := (by split at hbw0 <;> omega); have hbw := Lib.hid hbw0
  have hadd := fun w => run_sub64 l1 l2 bw a0 b0 a1 b1 hbw0 w
  have q1 := fun (w' : World) (h : Blk w' w.heap.size #[.int .i64 h1, .int .u64 l1] 24) => h.two
  have q2 := fun (w' : World) (h : Blk w' (w.heap.size + 1) #[.int .i64 h2, .int .u64 l2] 24) => h.two
  have q3 := fun (w' : World) (h : Blk w' (w.heap.size + 1 + 1) #[.int .i64 0, .int .u64 0] 24) => h.two
  have q4 := fun (w' : World) (h : Blk w' (w.heap.size + 1 + 1) #[.int .i64 0, .int .u64 0] 24) => h.free0
  clear hbw0
  rcases hd1 : decide (h1 < 0) with _ | _ <;> rcases hd2 : decide (h2 < 0) with _ | _
  · skip
    go_enter Try.func20, Try.ntmps20
    go_wp2
    generalize hs : wrap64 (wrap64 (h1 - h2) - bw) = s
    have Hs := Lib.hid hs; clear hs
    refine wp_region_held_drew (S := (fun w' => Blk w' w.heap.size #[.int .i64 h1, .int .u64 l1] 24 ∧ Blk w' (w.heap.size + 1) #[.int .i64 h2, .int .u64 l2] 24 ∧ Blk w' (w.heap.size + 1 + 1) #[.int .i64 0, .int .u64 0] 24 ∧ Below w.heap.size w w')) (by kernel_rfl) ?_ (fun hHeld => ?_)
    · exact ⟨(((Blk.new rfl).old _).old _).drew, ((Blk.new (by simp)).old _).drew, (Blk.new (by simp)).drew, ((((Below.refl _ _).alloc (Nat.le_refl _) _).alloc (by simp) _).alloc (by simp; omega) _).drew⟩
    refine H.take 0 (v := ?_) rfl (by kernel_rfl) (fun _ _ _ h => h) (by rfl) ?_ (by assumption) ?_
    rotate_left
    · (intro wz hSw; (try dsimp only at hSw); go_simp <;> with_reducible rfl)
    try simp only [Act.put, List.setIfInBounds_toArray, List.set_cons_zero, List.set_cons_succ]
    refine H.take 2 (v := ?_) rfl (by kernel_rfl) (fun _ _ _ h => h) (by rfl) ?_ (by assumption) ?_
    rotate_left
    · (intro wz hSw; (try dsimp only at hSw); go_simp <;> with_reducible rfl)
    try simp only [Act.put, List.setIfInBounds_toArray, List.set_cons_zero, List.set_cons_succ]
    refine H.ready [1] (by kernel_rfl) (by simp) ?_
    refine H.one rfl (by rfl) (fun K hK => ?_) AllReadyH.nil
    go_simp
    go_at_call 58
    refine (negative_any _ _ _).mono ?_
    rintro e w' ⟨rfl, hb⟩
    refine hK.out _ _ ?_ (fun hHeld2 => ?_)
    · exact ⟨Blk.keep hb hHeld.1, Blk.keep hb hHeld.2.1, Blk.keep hb hHeld.2.2.1, hHeld.2.2.2.trans (hb.mono hHeld.2.2.2.size)⟩
    clear hHeld hK K; have hHeld := hHeld2; clear hHeld2
    try simp only [Act.put, List.setIfInBounds_toArray, List.set_cons_zero, List.set_cons_succ]
    refine H.ready [3] (by kernel_rfl) (by simp) ?_
    refine H.one rfl (by rfl) (fun K hK => ?_) AllReadyH.nil
    go_simp
    go_at_call 58
    refine (negative_any _ _ _).mono ?_
    rintro e w' ⟨rfl, hb⟩
    refine hK.out _ _ ?_ (fun hHeld2 => ?_)
    · exact ⟨Blk.keep hb hHeld.1, Blk.keep hb hHeld.2.1, Blk.keep hb hHeld.2.2.1, hHeld.2.2.2.trans (hb.mono hHeld.2.2.2.size)⟩
    clear hHeld hK K; have hHeld := hHeld2; clear hHeld2
    try simp only [Act.put, List.setIfInBounds_toArray, List.set_cons_zero, List.set_cons_succ]
    refine H.take 4 (v := ?_) rfl (by kernel_rfl) (fun _ _ _ h => h) (by rfl) ?_ (by assumption) ?_
    rotate_left
    · (intro wz hSw; (try dsimp only at hSw); go_simp <;> with_reducible rfl)
    try simp only [Act.put, List.setIfInBounds_toArray, List.set_cons_zero, List.set_cons_succ]
    refine H.take 5 (v := ?_) rfl (by kernel_rfl) (fun _ _ _ h => h) (by rfl) ?_ (by assumption) ?_
    rotate_left
    · (intro wz hSw; (try dsimp only at hSw); go_simp <;> with_reducible rfl)
    try simp only [Act.put, List.setIfInBounds_toArray, List.set_cons_zero, List.set_cons_succ]
    refine H.skip 6 rfl (by kernel_rfl) (fun _ _ _ h => h) (by rfl) (by assumption) ?_
    try simp only [Act.put, List.setIfInBounds_toArray, List.set_cons_zero, List.set_cons_succ]
    refine H.skip 7 rfl (by kernel_rfl) (fun _ _ _ h => h) (by rfl) (by assumption) ?_
    try simp only [Act.put, List.setIfInBounds_toArray, List.set_cons_zero, List.set_cons_succ]
    refine H.skip 8 rfl (by kernel_rfl) (fun _ _ _ h => h) (by rfl) (by assumption) ?_
    try simp only [Act.put, List.setIfInBounds_toArray, List.set_cons_zero, List.set_cons_succ]
    refine H.skip 9 rfl (by kernel_rfl) (fun _ _ _ h => h) (by rfl) (by assumption) ?_
    try simp only [Act.put, List.setIfInBounds_toArray, List.set_cons_zero, List.set_cons_succ]
    refine H.skip 10 rfl (by kernel_rfl) (fun _ _ _ h => h) (by rfl) (by assumption) ?_
    try simp only [Act.put, List.setIfInBounds_toArray, List.set_cons_zero, List.set_cons_succ]
    refine H.take 11 (v := ?_) rfl (by kernel_rfl) (fun _ _ _ h => h) (by rfl) ?_ (by assumption) ?_
    rotate_left
    · (intro wz hSw; (try dsimp only at hSw); go_simp <;> with_reducible rfl)
    try simp only [Act.put, List.setIfInBounds_toArray, List.set_cons_zero, List.set_cons_succ]
    refine H.done (by kernel_rfl) ?_ _
    obtain ⟨g1, g2, g3, g4⟩ := hHeld
    have e1 := of_decide_eq_false hd1; have e2 := of_decide_eq_false hd2
    go_wp2_with (first | (go_at_call 58; refine (negative_any _ _ _).mono ?_; rintro e w' ⟨rfl, hb⟩; replace g3 := Blk.keep hb g3; replace g4 := g4.trans (hb.mono g4.size)) | (go_at_call 59; refine (bound_low _).mono ?_; rintro e w' ⟨rfl, hb⟩; replace g3 := Blk.keep hb g3; replace g4 := g4.trans (hb.mono g4.size)) | (go_at_call 59; refine (bound_high _).mono ?_; rintro e w' ⟨rfl, hb⟩; replace g3 := Blk.keep hb g3; replace g4 := g4.trans (hb.mono g4.size)))
    have hfin := (g3.put (i := 0) (.int .i64 s)).put (i := 1) (.int .u64 ((l1 + 18446744073709551616 - l2) % 18446744073709551616))
    have hres := sub_fits a0 a1 b0 b1 c0 c1 d0 d1 Hs.out hbw.out (by omega)
    exact bodyPost_ret (v := .agg #[.int .i64 s, .int .u64 ((l1 + 18446744073709551616 - l2) % 18446744073709551616)]) (by simp [results, Try.results20, go_sem, (show Blk _ _ #[.int .i64 s, .int .u64 ((l1 + 18446744073709551616 - l2) % 18446744073709551616)] _ from hfin).two]) rfl ⟨ret_w hres.1 hres.2, (g4.setCell (by simp; omega) _).setCell (by simp; omega) _⟩
  · skip
    go_enter Try.func20, Try.ntmps20
    go_wp2
    generalize hs : wrap64 (wrap64 (h1 - h2) - bw) = s
    have Hs := Lib.hid hs; clear hs
    rcases hd3 : decide (s < 0) with _ | _
    · skip
      refine wp_region_held_drew (S := (fun w' => Blk w' w.heap.size #[.int .i64 h1, .int .u64 l1] 24 ∧ Blk w' (w.heap.size + 1) #[.int .i64 h2, .int .u64 l2] 24 ∧ Blk w' (w.heap.size + 1 + 1) #[.int .i64 0, .int .u64 0] 24 ∧ Below w.heap.size w w')) (by kernel_rfl) ?_ (fun hHeld => ?_)
      · exact ⟨(((Blk.new rfl).old _).old _).drew, ((Blk.new (by simp)).old _).drew, (Blk.new (by simp)).drew, ((((Below.refl _ _).alloc (Nat.le_refl _) _).alloc (by simp) _).alloc (by simp; omega) _).drew⟩
      refine H.take 0 (v := ?_) rfl (by kernel_rfl) (fun _ _ _ h => h) (by rfl) ?_ (by assumption) ?_
      rotate_left
      · (intro wz hSw; (try dsimp only at hSw); go_simp <;> with_reducible rfl)
      try simp only [Act.put, List.setIfInBounds_toArray, List.set_cons_zero, List.set_cons_succ]
      refine H.take 2 (v := ?_) rfl (by kernel_rfl) (fun _ _ _ h => h) (by rfl) ?_ (by assumption) ?_
      rotate_left
      · (intro wz hSw; (try dsimp only at hSw); go_simp <;> with_reducible rfl)
      try simp only [Act.put, List.setIfInBounds_toArray, List.set_cons_zero, List.set_cons_succ]
      refine H.ready [1] (by kernel_rfl) (by simp) ?_
      refine H.one rfl (by rfl) (fun K hK => ?_) AllReadyH.nil
      go_simp
      go_at_call 58
      refine (negative_any _ _ _).mono ?_
      rintro e w' ⟨rfl, hb⟩
      refine hK.out _ _ ?_ (fun hHeld2 => ?_)
      · exact ⟨Blk.keep hb hHeld.1, Blk.keep hb hHeld.2.1, Blk.keep hb hHeld.2.2.1, hHeld.2.2.2.trans (hb.mono hHeld.2.2.2.size)⟩
      clear hHeld hK K; have hHeld := hHeld2; clear hHeld2
      try simp only [Act.put, List.setIfInBounds_toArray, List.set_cons_zero, List.set_cons_succ]
      refine H.ready [3] (by kernel_rfl) (by simp) ?_
      refine H.one rfl (by rfl) (fun K hK => ?_) AllReadyH.nil
      go_simp
      go_at_call 58
      refine (negative_any _ _ _).mono ?_
      rintro e w' ⟨rfl, hb⟩
      refine hK.out _ _ ?_ (fun hHeld2 => ?_)
      · exact ⟨Blk.keep hb hHeld.1, Blk.keep hb hHeld.2.1, Blk.keep hb hHeld.2.2.1, hHeld.2.2.2.trans (hb.mono hHeld.2.2.2.size)⟩
      clear hHeld hK K; have hHeld := hHeld2; clear hHeld2
      try simp only [Act.put, List.setIfInBounds_toArray, List.set_cons_zero, List.set_cons_succ]
      refine H.take 4 (v := ?_) rfl (by kernel_rfl) (fun _ _ _ h => h) (by rfl) ?_ (by assumption) ?_
      rotate_left
      · (intro wz hSw; (try dsimp only at hSw); go_simp <;> with_reducible rfl)
      try simp only [Act.put, List.setIfInBounds_toArray, List.set_cons_zero, List.set_cons_succ]
      refine H.take 5 (v := ?_) rfl (by kernel_rfl) (fun _ _ _ h => h) (by rfl) ?_ (by assumption) ?_
      rotate_left
      · (intro wz hSw; (try dsimp only at hSw); go_simp <;> with_reducible rfl)
      try simp only [Act.put, List.setIfInBounds_toArray, List.set_cons_zero, List.set_cons_succ]
      refine H.take 6 (v := ?_) rfl (by kernel_rfl) (fun _ _ _ h => h) (by rfl) ?_ (by assumption) ?_
      rotate_left
      · (intro wz hSw; (try dsimp only at hSw); go_simp <;> with_reducible rfl)
      try simp only [Act.put, List.setIfInBounds_toArray, List.set_cons_zero, List.set_cons_succ]
      refine H.take 7 (v := ?_) rfl (by kernel_rfl) (fun _ _ _ h => h) (by rfl) ?_ (by assumption) ?_
      rotate_left
      · (intro wz hSw; (try dsimp only at hSw); go_simp <;> with_reducible rfl)
      try simp only [Act.put, List.setIfInBounds_toArray, List.set_cons_zero, List.set_cons_succ]
      refine H.take 8 (v := ?_) rfl (by kernel_rfl) (fun _ _ _ h => h) (by rfl) ?_ (by assumption) ?_
      rotate_left
      · (intro wz hSw; (try dsimp only at hSw); go_simp <;> with_reducible rfl)
      try simp only [Act.put, List.setIfInBounds_toArray, List.set_cons_zero, List.set_cons_succ]
      refine H.ready [9] (by kernel_rfl) (by simp) ?_
      refine H.one rfl (by rfl) (fun K hK => ?_) AllReadyH.nil
      go_simp
      go_at_call 58
      refine (negative_any _ _ _).mono ?_
      rintro e w' ⟨rfl, hb⟩
      refine hK.out _ _ ?_ (fun hHeld2 => ?_)
      · exact ⟨Blk.keep hb hHeld.1, Blk.keep hb hHeld.2.1, Blk.keep hb hHeld.2.2.1, hHeld.2.2.2.trans (hb.mono hHeld.2.2.2.size)⟩
      clear hHeld hK K; have hHeld := hHeld2; clear hHeld2
      try simp only [Act.put, List.setIfInBounds_toArray, List.set_cons_zero, List.set_cons_succ]
      refine H.take 10 (v := ?_) rfl (by kernel_rfl) (fun _ _ _ h => h) (by rfl) ?_ (by assumption) ?_
      rotate_left
      · (intro wz hSw; (try dsimp only at hSw); go_simp <;> with_reducible rfl)
      try simp only [Act.put, List.setIfInBounds_toArray, List.set_cons_zero, List.set_cons_succ]
      refine H.take 11 (v := ?_) rfl (by kernel_rfl) (fun _ _ _ h => h) (by rfl) ?_ (by assumption) ?_
      rotate_left
      · (intro wz hSw; (try dsimp only at hSw); go_simp <;> with_reducible rfl)
      try simp only [Act.put, List.setIfInBounds_toArray, List.set_cons_zero, List.set_cons_succ]
      refine H.done (by kernel_rfl) ?_ _
      obtain ⟨g1, g2, g3, g4⟩ := hHeld
      have e1 := of_decide_eq_false hd1; have e2 := of_decide_eq_true hd2
      go_wp2_with (first | (go_at_call 58; refine (negative_any _ _ _).mono ?_; rintro e w' ⟨rfl, hb⟩; replace g3 := Blk.keep hb g3; replace g4 := g4.trans (hb.mono g4.size)) | (go_at_call 59; refine (bound_low _).mono ?_; rintro e w' ⟨rfl, hb⟩; replace g3 := Blk.keep hb g3; replace g4 := g4.trans (hb.mono g4.size)) | (go_at_call 59; refine (bound_high _).mono ?_; rintro e w' ⟨rfl, hb⟩; replace g3 := Blk.keep hb g3; replace g4 := g4.trans (hb.mono g4.size)))
      have e3 := of_decide_eq_false hd3
      have hfin := (g3.put (i := 0) (.int .i64 s)).put (i := 1) (.int .u64 ((l1 + 18446744073709551616 - l2) % 18446744073709551616))
      have hres := sub_fits a0 a1 b0 b1 c0 c1 d0 d1 Hs.out hbw.out (by omega)
      exact bodyPost_ret (v := .agg #[.int .i64 s, .int .u64 ((l1 + 18446744073709551616 - l2) % 18446744073709551616)]) (by simp [results, Try.results20, go_sem, (show Blk _ _ #[.int .i64 s, .int .u64 ((l1 + 18446744073709551616 - l2) % 18446744073709551616)] _ from hfin).two]) rfl ⟨ret_w hres.1 hres.2, (g4.setCell (by simp; omega) _).setCell (by simp; omega) _⟩
    · skip
      refine wp_region_held_drew (S := (fun w' => Blk w' w.heap.size #[.int .i64 h1, .int .u64 l1] 24 ∧ Blk w' (w.heap.size + 1) #[.int .i64 h2, .int .u64 l2] 24 ∧ Blk w' (w.heap.size + 1 + 1) #[.int .i64 0, .int .u64 0] 24 ∧ Below w.heap.size w w')) (by kernel_rfl) ?_ (fun hHeld => ?_)
      · exact ⟨(((Blk.new rfl).old _).old _).drew, ((Blk.new (by simp)).old _).drew, (Blk.new (by simp)).drew, ((((Below.refl _ _).alloc (Nat.le_refl _) _).alloc (by simp) _).alloc (by simp; omega) _).drew⟩
      refine H.take 0 (v := ?_) rfl (by kernel_rfl) (fun _ _ _ h => h) (by rfl) ?_ (by assumption) ?_
      rotate_left
      · (intro wz hSw; (try dsimp only at hSw); go_simp <;> with_reducible rfl)
      try simp only [Act.put, List.setIfInBounds_toArray, List.set_cons_zero, List.set_cons_succ]
      refine H.take 2 (v := ?_) rfl (by kernel_rfl) (fun _ _ _ h => h) (by rfl) ?_ (by assumption) ?_
      rotate_left
      · (intro wz hSw; (try dsimp only at hSw); go_simp <;> with_reducible rfl)
      try simp only [Act.put, List.setIfInBounds_toArray, List.set_cons_zero, List.set_cons_succ]
      refine H.ready [1] (by kernel_rfl) (by simp) ?_
      refine H.one rfl (by rfl) (fun K hK => ?_) AllReadyH.nil
      go_simp
      go_at_call 58
      refine (negative_any _ _ _).mono ?_
      rintro e w' ⟨rfl, hb⟩
      refine hK.out _ _ ?_ (fun hHeld2 => ?_)
      · exact ⟨Blk.keep hb hHeld.1, Blk.keep hb hHeld.2.1, Blk.keep hb hHeld.2.2.1, hHeld.2.2.2.trans (hb.mono hHeld.2.2.2.size)⟩
      clear hHeld hK K; have hHeld := hHeld2; clear hHeld2
      try simp only [Act.put, List.setIfInBounds_toArray, List.set_cons_zero, List.set_cons_succ]
      refine H.ready [3] (by kernel_rfl) (by simp) ?_
      refine H.one rfl (by rfl) (fun K hK => ?_) AllReadyH.nil
      go_simp
      go_at_call 58
      refine (negative_any _ _ _).mono ?_
      rintro e w' ⟨rfl, hb⟩
      refine hK.out _ _ ?_ (fun hHeld2 => ?_)
      · exact ⟨Blk.keep hb hHeld.1, Blk.keep hb hHeld.2.1, Blk.keep hb hHeld.2.2.1, hHeld.2.2.2.trans (hb.mono hHeld.2.2.2.size)⟩
      clear hHeld hK K; have hHeld := hHeld2; clear hHeld2
      try simp only [Act.put, List.setIfInBounds_toArray, List.set_cons_zero, List.set_cons_succ]
      refine H.take 4 (v := ?_) rfl (by kernel_rfl) (fun _ _ _ h => h) (by rfl) ?_ (by assumption) ?_
      rotate_left
      · (intro wz hSw; (try dsimp only at hSw); go_simp <;> with_reducible rfl)
      try simp only [Act.put, List.setIfInBounds_toArray, List.set_cons_zero, List.set_cons_succ]
      refine H.take 5 (v := ?_) rfl (by kernel_rfl) (fun _ _ _ h => h) (by rfl) ?_ (by assumption) ?_
      rotate_left
      · (intro wz hSw; (try dsimp only at hSw); go_simp <;> with_reducible rfl)
      try simp only [Act.put, List.setIfInBounds_toArray, List.set_cons_zero, List.set_cons_succ]
      refine H.take 6 (v := ?_) rfl (by kernel_rfl) (fun _ _ _ h => h) (by rfl) ?_ (by assumption) ?_
      rotate_left
      · (intro wz hSw; (try dsimp only at hSw); go_simp <;> with_reducible rfl)
      try simp only [Act.put, List.setIfInBounds_toArray, List.set_cons_zero, List.set_cons_succ]
      refine H.take 7 (v := ?_) rfl (by kernel_rfl) (fun _ _ _ h => h) (by rfl) ?_ (by assumption) ?_
      rotate_left
      · (intro wz hSw; (try dsimp only at hSw); go_simp <;> with_reducible rfl)
      try simp only [Act.put, List.setIfInBounds_toArray, List.set_cons_zero, List.set_cons_succ]
      refine H.take 8 (v := ?_) rfl (by kernel_rfl) (fun _ _ _ h => h) (by rfl) ?_ (by assumption) ?_
      rotate_left
      · (intro wz hSw; (try dsimp only at hSw); go_simp <;> with_reducible rfl)
      try simp only [Act.put, List.setIfInBounds_toArray, List.set_cons_zero, List.set_cons_succ]
      refine H.ready [9] (by kernel_rfl) (by simp) ?_
      refine H.one rfl (by rfl) (fun K hK => ?_) AllReadyH.nil
      go_simp
      go_at_call 58
      refine (negative_any _ _ _).mono ?_
      rintro e w' ⟨rfl, hb⟩
      refine hK.out _ _ ?_ (fun hHeld2 => ?_)
      · exact ⟨Blk.keep hb hHeld.1, Blk.keep hb hHeld.2.1, Blk.keep hb hHeld.2.2.1, hHeld.2.2.2.trans (hb.mono hHeld.2.2.2.size)⟩
      clear hHeld hK K; have hHeld := hHeld2; clear hHeld2
      try simp only [Act.put, List.setIfInBounds_toArray, List.set_cons_zero, List.set_cons_succ]
      refine H.take 10 (v := ?_) rfl (by kernel_rfl) (fun _ _ _ h => h) (by rfl) ?_ (by assumption) ?_
      rotate_left
      · (intro wz hSw; (try dsimp only at hSw); go_simp <;> with_reducible rfl)
      try simp only [Act.put, List.setIfInBounds_toArray, List.set_cons_zero, List.set_cons_succ]
      refine H.take 11 (v := ?_) rfl (by kernel_rfl) (fun _ _ _ h => h) (by rfl) ?_ (by assumption) ?_
      rotate_left
      · (intro wz hSw; (try dsimp only at hSw); go_simp <;> with_reducible rfl)
      try simp only [Act.put, List.setIfInBounds_toArray, List.set_cons_zero, List.set_cons_succ]
      refine H.done (by kernel_rfl) ?_ _
      obtain ⟨g1, g2, g3, g4⟩ := hHeld
      have e1 := of_decide_eq_false hd1; have e2 := of_decide_eq_true hd2
      go_wp2_with (first | (go_at_call 58; refine (negative_any _ _ _).mono ?_; rintro e w' ⟨rfl, hb⟩; replace g3 := Blk.keep hb g3; replace g4 := g4.trans (hb.mono g4.size)) | (go_at_call 59; refine (bound_low _).mono ?_; rintro e w' ⟨rfl, hb⟩; replace g3 := Blk.keep hb g3; replace g4 := g4.trans (hb.mono g4.size)) | (go_at_call 59; refine (bound_high _).mono ?_; rintro e w' ⟨rfl, hb⟩; replace g3 := Blk.keep hb g3; replace g4 := g4.trans (hb.mono g4.size)))
      have e3 := of_decide_eq_true hd3
      have hfin := (g3.put (i := 0) (.int .i64 9223372036854775807)).put (i := 1) (.int .u64 18446744073709551615)
      have hres := sub_high a0 a1 b0 b1 (by omega) (by omega) Hs.out hbw.out (by omega) (by omega) (by omega)
      exact bodyPost_ret (v := .agg #[.int .i64 9223372036854775807, .int .u64 18446744073709551615]) (by simp [results, Try.results20, go_sem, (show Blk _ _ #[.int .i64 9223372036854775807, .int .u64 18446744073709551615] _ from hfin).two]) rfl ⟨ret_w hres.1 hres.2, (g4.setCell (by simp; omega) _).setCell (by simp; omega) _⟩
  · skip
    go_enter Try.func20, Try.ntmps20
    go_wp2
    generalize hs : wrap64 (wrap64 (h1 - h2) - bw) = s
    have Hs := Lib.hid hs; clear hs
    rcases hd3 : decide (s < 0) with _ | _
    · skip
      refine wp_region_held_drew (S := (fun w' => Blk w' w.heap.size #[.int .i64 h1, .int .u64 l1] 24 ∧ Blk w' (w.heap.size + 1) #[.int .i64 h2, .int .u64 l2] 24 ∧ Blk w' (w.heap.size + 1 + 1) #[.int .i64 0, .int .u64 0] 24 ∧ Below w.heap.size w w')) (by kernel_rfl) ?_ (fun hHeld => ?_)
      · exact ⟨(((Blk.new rfl).old _).old _).drew, ((Blk.new (by simp)).old _).drew, (Blk.new (by simp)).drew, ((((Below.refl _ _).alloc (Nat.le_refl _) _).alloc (by simp) _).alloc (by simp; omega) _).drew⟩
      refine H.take 0 (v := ?_) rfl (by kernel_rfl) (fun _ _ _ h => h) (by rfl) ?_ (by assumption) ?_
      rotate_left
      · (intro wz hSw; (try dsimp only at hSw); go_simp <;> with_reducible rfl)
      try simp only [Act.put, List.setIfInBounds_toArray, List.set_cons_zero, List.set_cons_succ]
      refine H.take 2 (v := ?_) rfl (by kernel_rfl) (fun _ _ _ h => h) (by rfl) ?_ (by assumption) ?_
      rotate_left
      · (intro wz hSw; (try dsimp only at hSw); go_simp <;> with_reducible rfl)
      try simp only [Act.put, List.setIfInBounds_toArray, List.set_cons_zero, List.set_cons_succ]
      refine H.ready [1] (by kernel_rfl) (by simp) ?_
      refine H.one rfl (by rfl) (fun K hK => ?_) AllReadyH.nil
      go_simp
      go_at_call 58
      refine (negative_any _ _ _).mono ?_
      rintro e w' ⟨rfl, hb⟩
      refine hK.out _ _ ?_ (fun hHeld2 => ?_)
      · exact ⟨Blk.keep hb hHeld.1, Blk.keep hb hHeld.2.1, Blk.keep hb hHeld.2.2.1, hHeld.2.2.2.trans (hb.mono hHeld.2.2.2.size)⟩
      clear hHeld hK K; have hHeld := hHeld2; clear hHeld2
      try simp only [Act.put, List.setIfInBounds_toArray, List.set_cons_zero, List.set_cons_succ]
      refine H.ready [3] (by kernel_rfl) (by simp) ?_
      refine H.one rfl (by rfl) (fun K hK => ?_) AllReadyH.nil
      go_simp
      go_at_call 58
      refine (negative_any _ _ _).mono ?_
      rintro e w' ⟨rfl, hb⟩
      refine hK.out _ _ ?_ (fun hHeld2 => ?_)
      · exact ⟨Blk.keep hb hHeld.1, Blk.keep hb hHeld.2.1, Blk.keep hb hHeld.2.2.1, hHeld.2.2.2.trans (hb.mono hHeld.2.2.2.size)⟩
      clear hHeld hK K; have hHeld := hHeld2; clear hHeld2
      try simp only [Act.put, List.setIfInBounds_toArray, List.set_cons_zero, List.set_cons_succ]
      refine H.take 4 (v := ?_) rfl (by kernel_rfl) (fun _ _ _ h => h) (by rfl) ?_ (by assumption) ?_
      rotate_left
      · (intro wz hSw; (try dsimp only at hSw); go_simp <;> with_reducible rfl)
      try simp only [Act.put, List.setIfInBounds_toArray, List.set_cons_zero, List.set_cons_succ]
      refine H.take 5 (v := ?_) rfl (by kernel_rfl) (fun _ _ _ h => h) (by rfl) ?_ (by assumption) ?_
      rotate_left
      · (intro wz hSw; (try dsimp only at hSw); go_simp <;> with_reducible rfl)
      try simp only [Act.put, List.setIfInBounds_toArray, List.set_cons_zero, List.set_cons_succ]
      refine H.take 6 (v := ?_) rfl (by kernel_rfl) (fun _ _ _ h => h) (by rfl) ?_ (by assumption) ?_
      rotate_left
      · (intro wz hSw; (try dsimp only at hSw); go_simp <;> with_reducible rfl)
      try simp only [Act.put, List.setIfInBounds_toArray, List.set_cons_zero, List.set_cons_succ]
      refine H.take 7 (v := ?_) rfl (by kernel_rfl) (fun _ _ _ h => h) (by rfl) ?_ (by assumption) ?_
      rotate_left
      · (intro wz hSw; (try dsimp only at hSw); go_simp <;> with_reducible rfl)
      try simp only [Act.put, List.setIfInBounds_toArray, List.set_cons_zero, List.set_cons_succ]
      refine H.take 8 (v := ?_) rfl (by kernel_rfl) (fun _ _ _ h => h) (by rfl) ?_ (by assumption) ?_
      rotate_left
      · (intro wz hSw; (try dsimp only at hSw); go_simp <;> with_reducible rfl)
      try simp only [Act.put, List.setIfInBounds_toArray, List.set_cons_zero, List.set_cons_succ]
      refine H.ready [9] (by kernel_rfl) (by simp) ?_
      refine H.one rfl (by rfl) (fun K hK => ?_) AllReadyH.nil
      go_simp
      go_at_call 58
      refine (negative_any _ _ _).mono ?_
      rintro e w' ⟨rfl, hb⟩
      refine hK.out _ _ ?_ (fun hHeld2 => ?_)
      · exact ⟨Blk.keep hb hHeld.1, Blk.keep hb hHeld.2.1, Blk.keep hb hHeld.2.2.1, hHeld.2.2.2.trans (hb.mono hHeld.2.2.2.size)⟩
      clear hHeld hK K; have hHeld := hHeld2; clear hHeld2
      try simp only [Act.put, List.setIfInBounds_toArray, List.set_cons_zero, List.set_cons_succ]
      refine H.take 10 (v := ?_) rfl (by kernel_rfl) (fun _ _ _ h => h) (by rfl) ?_ (by assumption) ?_
      rotate_left
      · (intro wz hSw; (try dsimp only at hSw); go_simp <;> with_reducible rfl)
      try simp only [Act.put, List.setIfInBounds_toArray, List.set_cons_zero, List.set_cons_succ]
      refine H.take 11 (v := ?_) rfl (by kernel_rfl) (fun _ _ _ h => h) (by rfl) ?_ (by assumption) ?_
      rotate_left
      · (intro wz hSw; (try dsimp only at hSw); go_simp <;> with_reducible rfl)
      try simp only [Act.put, List.setIfInBounds_toArray, List.set_cons_zero, List.set_cons_succ]
      refine H.done (by kernel_rfl) ?_ _
      obtain ⟨g1, g2, g3, g4⟩ := hHeld
      have e1 := of_decide_eq_true hd1; have e2 := of_decide_eq_false hd2
      go_wp2_with (first | (go_at_call 58; refine (negative_any _ _ _).mono ?_; rintro e w' ⟨rfl, hb⟩; replace g3 := Blk.keep hb g3; replace g4 := g4.trans (hb.mono g4.size)) | (go_at_call 59; refine (bound_low _).mono ?_; rintro e w' ⟨rfl, hb⟩; replace g3 := Blk.keep hb g3; replace g4 := g4.trans (hb.mono g4.size)) | (go_at_call 59; refine (bound_high _).mono ?_; rintro e w' ⟨rfl, hb⟩; replace g3 := Blk.keep hb g3; replace g4 := g4.trans (hb.mono g4.size)))
      have e3 := of_decide_eq_false hd3
      have hfin := (g3.put (i := 0) (.int .i64 (-9223372036854775808))).put (i := 1) (.int .u64 0)
      have hres := sub_low a0 a1 b0 b1 (by omega) (by omega) Hs.out hbw.out (by omega) (by omega) (by omega)
      exact bodyPost_ret (v := .agg #[.int .i64 (-9223372036854775808), .int .u64 0]) (by simp [results, Try.results20, go_sem, (show Blk _ _ #[.int .i64 (-9223372036854775808), .int .u64 0] _ from hfin).two]) rfl ⟨ret_w hres.1 hres.2, (g4.setCell (by simp; omega) _).setCell (by simp; omega) _⟩
    · skip
      refine wp_region_held_drew (S := (fun w' => Blk w' w.heap.size #[.int .i64 h1, .int .u64 l1] 24 ∧ Blk w' (w.heap.size + 1) #[.int .i64 h2, .int .u64 l2] 24 ∧ Blk w' (w.heap.size + 1 + 1) #[.int .i64 0, .int .u64 0] 24 ∧ Below w.heap.size w w')) (by kernel_rfl) ?_ (fun hHeld => ?_)
      · exact ⟨(((Blk.new rfl).old _).old _).drew, ((Blk.new (by simp)).old _).drew, (Blk.new (by simp)).drew, ((((Below.refl _ _).alloc (Nat.le_refl _) _).alloc (by simp) _).alloc (by simp; omega) _).drew⟩
      refine H.take 0 (v := ?_) rfl (by kernel_rfl) (fun _ _ _ h => h) (by rfl) ?_ (by assumption) ?_
      rotate_left
      · (intro wz hSw; (try dsimp only at hSw); go_simp <;> with_reducible rfl)
      try simp only [Act.put, List.setIfInBounds_toArray, List.set_cons_zero, List.set_cons_succ]
      refine H.take 2 (v := ?_) rfl (by kernel_rfl) (fun _ _ _ h => h) (by rfl) ?_ (by assumption) ?_
      rotate_left
      · (intro wz hSw; (try dsimp only at hSw); go_simp <;> with_reducible rfl)
      try simp only [Act.put, List.setIfInBounds_toArray, List.set_cons_zero, List.set_cons_succ]
      refine H.ready [1] (by kernel_rfl) (by simp) ?_
      refine H.one rfl (by rfl) (fun K hK => ?_) AllReadyH.nil
      go_simp
      go_at_call 58
      refine (negative_any _ _ _).mono ?_
      rintro e w' ⟨rfl, hb⟩
      refine hK.out _ _ ?_ (fun hHeld2 => ?_)
      · exact ⟨Blk.keep hb hHeld.1, Blk.keep hb hHeld.2.1, Blk.keep hb hHeld.2.2.1, hHeld.2.2.2.trans (hb.mono hHeld.2.2.2.size)⟩
      clear hHeld hK K; have hHeld := hHeld2; clear hHeld2
      try simp only [Act.put, List.setIfInBounds_toArray, List.set_cons_zero, List.set_cons_succ]
      refine H.ready [3] (by kernel_rfl) (by simp) ?_
      refine H.one rfl (by rfl) (fun K hK => ?_) AllReadyH.nil
      go_simp
      go_at_call 58
      refine (negative_any _ _ _).mono ?_
      rintro e w' ⟨rfl, hb⟩
      refine hK.out _ _ ?_ (fun hHeld2 => ?_)
      · exact ⟨Blk.keep hb hHeld.1, Blk.keep hb hHeld.2.1, Blk.keep hb hHeld.2.2.1, hHeld.2.2.2.trans (hb.mono hHeld.2.2.2.size)⟩
      clear hHeld hK K; have hHeld := hHeld2; clear hHeld2
      try simp only [Act.put, List.setIfInBounds_toArray, List.set_cons_zero, List.set_cons_succ]
      refine H.take 4 (v := ?_) rfl (by kernel_rfl) (fun _ _ _ h => h) (by rfl) ?_ (by assumption) ?_
      rotate_left
      · (intro wz hSw; (try dsimp only at hSw); go_simp <;> with_reducible rfl)
      try simp only [Act.put, List.setIfInBounds_toArray, List.set_cons_zero, List.set_cons_succ]
      refine H.take 5 (v := ?_) rfl (by kernel_rfl) (fun _ _ _ h => h) (by rfl) ?_ (by assumption) ?_
      rotate_left
      · (intro wz hSw; (try dsimp only at hSw); go_simp <;> with_reducible rfl)
      try simp only [Act.put, List.setIfInBounds_toArray, List.set_cons_zero, List.set_cons_succ]
      refine H.take 6 (v := ?_) rfl (by kernel_rfl) (fun _ _ _ h => h) (by rfl) ?_ (by assumption) ?_
      rotate_left
      · (intro wz hSw; (try dsimp only at hSw); go_simp <;> with_reducible rfl)
      try simp only [Act.put, List.setIfInBounds_toArray, List.set_cons_zero, List.set_cons_succ]
      refine H.take 7 (v := ?_) rfl (by kernel_rfl) (fun _ _ _ h => h) (by rfl) ?_ (by assumption) ?_
      rotate_left
      · (intro wz hSw; (try dsimp only at hSw); go_simp <;> with_reducible rfl)
      try simp only [Act.put, List.setIfInBounds_toArray, List.set_cons_zero, List.set_cons_succ]
      refine H.take 8 (v := ?_) rfl (by kernel_rfl) (fun _ _ _ h => h) (by rfl) ?_ (by assumption) ?_
      rotate_left
      · (intro wz hSw; (try dsimp only at hSw); go_simp <;> with_reducible rfl)
      try simp only [Act.put, List.setIfInBounds_toArray, List.set_cons_zero, List.set_cons_succ]
      refine H.ready [9] (by kernel_rfl) (by simp) ?_
      refine H.one rfl (by rfl) (fun K hK => ?_) AllReadyH.nil
      go_simp
      go_at_call 58
      refine (negative_any _ _ _).mono ?_
      rintro e w' ⟨rfl, hb⟩
      refine hK.out _ _ ?_ (fun hHeld2 => ?_)
      · exact ⟨Blk.keep hb hHeld.1, Blk.keep hb hHeld.2.1, Blk.keep hb hHeld.2.2.1, hHeld.2.2.2.trans (hb.mono hHeld.2.2.2.size)⟩
      clear hHeld hK K; have hHeld := hHeld2; clear hHeld2
      try simp only [Act.put, List.setIfInBounds_toArray, List.set_cons_zero, List.set_cons_succ]
      refine H.take 10 (v := ?_) rfl (by kernel_rfl) (fun _ _ _ h => h) (by rfl) ?_ (by assumption) ?_
      rotate_left
      · (intro wz hSw; (try dsimp only at hSw); go_simp <;> with_reducible rfl)
      try simp only [Act.put, List.setIfInBounds_toArray, List.set_cons_zero, List.set_cons_succ]
      refine H.take 11 (v := ?_) rfl (by kernel_rfl) (fun _ _ _ h => h) (by rfl) ?_ (by assumption) ?_
      rotate_left
      · (intro wz hSw; (try dsimp only at hSw); go_simp <;> with_reducible rfl)
      try simp only [Act.put, List.setIfInBounds_toArray, List.set_cons_zero, List.set_cons_succ]
      refine H.done (by kernel_rfl) ?_ _
      obtain ⟨g1, g2, g3, g4⟩ := hHeld
      have e1 := of_decide_eq_true hd1; have e2 := of_decide_eq_false hd2
      go_wp2_with (first | (go_at_call 58; refine (negative_any _ _ _).mono ?_; rintro e w' ⟨rfl, hb⟩; replace g3 := Blk.keep hb g3; replace g4 := g4.trans (hb.mono g4.size)) | (go_at_call 59; refine (bound_low _).mono ?_; rintro e w' ⟨rfl, hb⟩; replace g3 := Blk.keep hb g3; replace g4 := g4.trans (hb.mono g4.size)) | (go_at_call 59; refine (bound_high _).mono ?_; rintro e w' ⟨rfl, hb⟩; replace g3 := Blk.keep hb g3; replace g4 := g4.trans (hb.mono g4.size)))
      have e3 := of_decide_eq_true hd3
      have hfin := (g3.put (i := 0) (.int .i64 s)).put (i := 1) (.int .u64 ((l1 + 18446744073709551616 - l2) % 18446744073709551616))
      have hres := sub_fits a0 a1 b0 b1 c0 c1 d0 d1 Hs.out hbw.out (by omega)
      exact bodyPost_ret (v := .agg #[.int .i64 s, .int .u64 ((l1 + 18446744073709551616 - l2) % 18446744073709551616)]) (by simp [results, Try.results20, go_sem, (show Blk _ _ #[.int .i64 s, .int .u64 ((l1 + 18446744073709551616 - l2) % 18446744073709551616)] _ from hfin).two]) rfl ⟨ret_w hres.1 hres.2, (g4.setCell (by simp; omega) _).setCell (by simp; omega) _⟩
  · skip
    go_enter Try.func20, Try.ntmps20
    go_wp2
    generalize hs : wrap64 (wrap64 (h1 - h2) - bw) = s
    have Hs := Lib.hid hs; clear hs
    refine wp_region_held_drew (S := (fun w' => Blk w' w.heap.size #[.int .i64 h1, .int .u64 l1] 24 ∧ Blk w' (w.heap.size + 1) #[.int .i64 h2, .int .u64 l2] 24 ∧ Blk w' (w.heap.size + 1 + 1) #[.int .i64 0, .int .u64 0] 24 ∧ Below w.heap.size w w')) (by kernel_rfl) ?_ (fun hHeld => ?_)
    · exact ⟨(((Blk.new rfl).old _).old _).drew, ((Blk.new (by simp)).old _).drew, (Blk.new (by simp)).drew, ((((Below.refl _ _).alloc (Nat.le_refl _) _).alloc (by simp) _).alloc (by simp; omega) _).drew⟩
    refine H.take 0 (v := ?_) rfl (by kernel_rfl) (fun _ _ _ h => h) (by rfl) ?_ (by assumption) ?_
    rotate_left
    · (intro wz hSw; (try dsimp only at hSw); go_simp <;> with_reducible rfl)
    try simp only [Act.put, List.setIfInBounds_toArray, List.set_cons_zero, List.set_cons_succ]
    refine H.take 2 (v := ?_) rfl (by kernel_rfl) (fun _ _ _ h => h) (by rfl) ?_ (by assumption) ?_
    rotate_left
    · (intro wz hSw; (try dsimp only at hSw); go_simp <;> with_reducible rfl)
    try simp only [Act.put, List.setIfInBounds_toArray, List.set_cons_zero, List.set_cons_succ]
    refine H.ready [1] (by kernel_rfl) (by simp) ?_
    refine H.one rfl (by rfl) (fun K hK => ?_) AllReadyH.nil
    go_simp
    go_at_call 58
    refine (negative_any _ _ _).mono ?_
    rintro e w' ⟨rfl, hb⟩
    refine hK.out _ _ ?_ (fun hHeld2 => ?_)
    · exact ⟨Blk.keep hb hHeld.1, Blk.keep hb hHeld.2.1, Blk.keep hb hHeld.2.2.1, hHeld.2.2.2.trans (hb.mono hHeld.2.2.2.size)⟩
    clear hHeld hK K; have hHeld := hHeld2; clear hHeld2
    try simp only [Act.put, List.setIfInBounds_toArray, List.set_cons_zero, List.set_cons_succ]
    refine H.ready [3] (by kernel_rfl) (by simp) ?_
    refine H.one rfl (by rfl) (fun K hK => ?_) AllReadyH.nil
    go_simp
    go_at_call 58
    refine (negative_any _ _ _).mono ?_
    rintro e w' ⟨rfl, hb⟩
    refine hK.out _ _ ?_ (fun hHeld2 => ?_)
    · exact ⟨Blk.keep hb hHeld.1, Blk.keep hb hHeld.2.1, Blk.keep hb hHeld.2.2.1, hHeld.2.2.2.trans (hb.mono hHeld.2.2.2.size)⟩
    clear hHeld hK K; have hHeld := hHeld2; clear hHeld2
    try simp only [Act.put, List.setIfInBounds_toArray, List.set_cons_zero, List.set_cons_succ]
    refine H.take 4 (v := ?_) rfl (by kernel_rfl) (fun _ _ _ h => h) (by rfl) ?_ (by assumption) ?_
    rotate_left
    · (intro wz hSw; (try dsimp only at hSw); go_simp <;> with_reducible rfl)
    try simp only [Act.put, List.setIfInBounds_toArray, List.set_cons_zero, List.set_cons_succ]
    refine H.take 5 (v := ?_) rfl (by kernel_rfl) (fun _ _ _ h => h) (by rfl) ?_ (by assumption) ?_
    rotate_left
    · (intro wz hSw; (try dsimp only at hSw); go_simp <;> with_reducible rfl)
    try simp only [Act.put, List.setIfInBounds_toArray, List.set_cons_zero, List.set_cons_succ]
    refine H.skip 6 rfl (by kernel_rfl) (fun _ _ _ h => h) (by rfl) (by assumption) ?_
    try simp only [Act.put, List.setIfInBounds_toArray, List.set_cons_zero, List.set_cons_succ]
    refine H.skip 7 rfl (by kernel_rfl) (fun _ _ _ h => h) (by rfl) (by assumption) ?_
    try simp only [Act.put, List.setIfInBounds_toArray, List.set_cons_zero, List.set_cons_succ]
    refine H.skip 8 rfl (by kernel_rfl) (fun _ _ _ h => h) (by rfl) (by assumption) ?_
    try simp only [Act.put, List.setIfInBounds_toArray, List.set_cons_zero, List.set_cons_succ]
    refine H.skip 9 rfl (by kernel_rfl) (fun _ _ _ h => h) (by rfl) (by assumption) ?_
    try simp only [Act.put, List.setIfInBounds_toArray, List.set_cons_zero, List.set_cons_succ]
    refine H.skip 10 rfl (by kernel_rfl) (fun _ _ _ h => h) (by rfl) (by assumption) ?_
    try simp only [Act.put, List.setIfInBounds_toArray, List.set_cons_zero, List.set_cons_succ]
    refine H.take 11 (v := ?_) rfl (by kernel_rfl) (fun _ _ _ h => h) (by rfl) ?_ (by assumption) ?_
    rotate_left
    · (intro wz hSw; (try dsimp only at hSw); go_simp <;> with_reducible rfl)
    try simp only [Act.put, List.setIfInBounds_toArray, List.set_cons_zero, List.set_cons_succ]
    refine H.done (by kernel_rfl) ?_ _
    obtain ⟨g1, g2, g3, g4⟩ := hHeld
    have e1 := of_decide_eq_true hd1; have e2 := of_decide_eq_true hd2
    go_wp2_with (first | (go_at_call 58; refine (negative_any _ _ _).mono ?_; rintro e w' ⟨rfl, hb⟩; replace g3 := Blk.keep hb g3; replace g4 := g4.trans (hb.mono g4.size)) | (go_at_call 59; refine (bound_low _).mono ?_; rintro e w' ⟨rfl, hb⟩; replace g3 := Blk.keep hb g3; replace g4 := g4.trans (hb.mono g4.size)) | (go_at_call 59; refine (bound_high _).mono ?_; rintro e w' ⟨rfl, hb⟩; replace g3 := Blk.keep hb g3; replace g4 := g4.trans (hb.mono g4.size)))
    have hfin := (g3.put (i := 0) (.int .i64 s)).put (i := 1) (.int .u64 ((l1 + 18446744073709551616 - l2) % 18446744073709551616))
    have hres := sub_fits a0 a1 b0 b1 c0 c1 d0 d1 Hs.out hbw.out (by omega)
    exact bodyPost_ret (v := .agg #[.int .i64 s, .int .u64 ((l1 + 18446744073709551616 - l2) % 18446744073709551616)]) (by simp [results, Try.results20, go_sem, (show Blk _ _ #[.int .i64 s, .int .u64 ((l1 + 18446744073709551616 - l2) % 18446744073709551616)] _ from hfin).two]) rfl ⟨ret_w hres.1 hres.2, (g4.setCell (by simp; omega) _).setCell (by simp; omega) _⟩

end Go.Proofs.Ytbhgibpocbmipaa
