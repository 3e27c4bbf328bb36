/-
  Own texts, merged: WMath WLeaf Shelf WMore WCmp WMul DivM WDiv WDivN WDivW WRoot WClip PC FixK Open
-/
import Derived.Test.YtecmhjhjmhliiaaDoorRows
import Derived.Shelf.Spec.BitsCarry
import Derived.Shelf.Small.Bits
import Derived.Shelf.Strconv.Itoa0
import Derived.Shelf.Bits.Mul64
import Derived.Test.YtecmhjhjmhliiaaDoorProg
import Derived.Lib.SmallJoins
import Derived.Test.YtecmhjhjmhliiaaDoorQ1
import Derived.Test.YtecmhjhjmhliiaaDoorQ3

/-
  Plain arithmetic of numbers of 128 bits: a number of the range and its two halves. No program is named here.
-/
namespace Go.Proofs.YtecmhjhjmhliiaaDoor

/-- 2^64 and 2^127, the numbers of the range. -/
def hi (n : Int) : Int := n / 18446744073709551616
def lo (n : Int) : Int := n % 18446744073709551616
def InR (n : Int) : Prop := -170141183460469231731687303715884105728 ≤ n ∧ n ≤ 170141183460469231731687303715884105727
/-- What saturates. -/
def clamp (n : Int) : Int := if n < -170141183460469231731687303715884105728 then -170141183460469231731687303715884105728 else if 170141183460469231731687303715884105727 < n then 170141183460469231731687303715884105727 else n

theorem hilo (n : Int) : hi n * 18446744073709551616 + lo n = n := by unfold hi lo; omega
theorem lo_bd (n : Int) : 0 ≤ lo n ∧ lo n ≤ 18446744073709551615 := by unfold lo; omega
theorem hi_bd {n : Int} (h : InR n) : -9223372036854775808 ≤ hi n ∧ hi n ≤ 9223372036854775807 := by
  unfold InR at h; unfold hi; omega
theorem hi_of {h l n : Int} (h0 : 0 ≤ l) (h1 : l ≤ 18446744073709551615) (e : h * 18446744073709551616 + l = n) : hi n = h := by
  unfold hi; omega
theorem lo_of {h l n : Int} (h0 : 0 ≤ l) (h1 : l ≤ 18446744073709551615) (e : h * 18446744073709551616 + l = n) : lo n = l := by
  unfold lo; omega
theorem inR_of {h l : Int} (h0 : 0 ≤ l) (h1 : l ≤ 18446744073709551615) (g0 : -9223372036854775808 ≤ h) (g1 : h ≤ 9223372036854775807) : InR (h * 18446744073709551616 + l) := by
  unfold InR; omega
theorem hilo_inj {a b : Int} (h : hi a = hi b) (l : lo a = lo b) : a = b := by
  have := hilo a; have := hilo b; rw [h, l] at *; omega
theorem clamp_in (n : Int) : InR (clamp n) := by unfold InR clamp; split <;> (try split) <;> omega
theorem clamp_of {n : Int} (h : InR n) : clamp n = n := by unfold InR at h; unfold clamp; rw [if_neg (by omega), if_neg (by omega)]
theorem hi_neg (n : Int) : hi n < 0 ↔ n < 0 := by unfold hi; omega
end Go.Proofs.YtecmhjhjmhliiaaDoor


/-
  Contracts of the small functions of package wide.
-/




namespace Go.Proofs.YtecmhjhjmhliiaaDoor

set_option maxRecDepth 100000

open Go.RowKit

theorem run_add64 (x y c : Int) (hx : 0 ≤ x) (hy : 0 ≤ y) (hc0 : 0 ≤ c) (hc : c ≤ 1) (w : World) :
    (callFunc 61 #[.int .u64 x, .int .u64 y, .int .u64 c]).run Tryd.prog w =
      .ok (.value (.tuple #[.int .u64 ((x + y + c) % 18446744073709551616), .int .u64 ((x + y + c) / 18446744073709551616)])) w := by
  rw [run_callFunc_extern Tryd.func61 (by kernel_rfl) (by kernel_rfl) (by kernel_rfl) (e := add64Entry) (by kernel_rfl), Go.run_add64 x y c hx hy hc0 hc]
  rfl

set_option maxHeartbeats 400000 in
theorem negative_any (h l : Int) (w : World) :
    Calls Tryd.prog 62 #[.agg #[.int .i64 h, .int .u64 l]] w fun e w' => e = .returned (.bool (decide (h < 0))) ∧ Below w.heap.size w w' := by
  go_enter Tryd.func62, Tryd.ntmps62
  go_wp2
  go_ret
  exact ⟨rfl, (Below.refl _ _).alloc (Nat.le_refl _) _⟩

theorem negative_yes {h : Int} (l : Int) (hh : h < 0) (w : World) :
    Calls Tryd.prog 62 #[.agg #[.int .i64 h, .int .u64 l]] w fun e w' => e = .returned (.bool true) ∧ Below w.heap.size w w' := by
  have := negative_any h l w; rwa [decide_eq_true hh] at this
theorem negative_no {h : Int} (l : Int) (hh : ¬ h < 0) (w : World) :
    Calls Tryd.prog 62 #[.agg #[.int .i64 h, .int .u64 l]] w fun e w' => e = .returned (.bool false) ∧ Below w.heap.size w w' := by
  have := negative_any h l w; rwa [decide_eq_false hh] at this

theorem ret_w {h l h' l' : Int} (e1 : h = h') (e2 : l = l') : Ending.returned (.agg #[.int .i64 h, .int .u64 l]) = .returned (.agg #[.int .i64 h', .int .u64 l']) := by rw [e1, e2]

set_option maxHeartbeats 400000 in
theorem of_any (n : Int) (h0 : -9223372036854775808 ≤ n) (h1 : n ≤ 9223372036854775807) (w : World) :
    Calls Tryd.prog 72 #[.int .i64 n] w fun e w' => e = .returned (.agg #[.int .i64 (hi n), .int .u64 (lo n)]) ∧ Below w.heap.size w w' := by
  go_enter Tryd.func72, Tryd.ntmps72
  go_wp2
  refine bodyPost_ret (v := .agg #[.int .i64 (n / 9223372036854775808), .int .u64 (IntKind.u64.wrap n)]) (by simp [results, Tryd.results72, go_sem]) rfl ⟨?_, (Below.refl _ _).alloc (Nat.le_refl _) _⟩
  refine ret_w (by unfold hi; omega) (by rw [IntKind.wrap_u64]; unfold lo; omega)

set_option maxHeartbeats 400000 in
theorem bound_low (w : World) :
    Calls Tryd.prog 63 #[.bool true] w fun e w' => e = .returned (.agg #[.int .i64 (-9223372036854775808), .int .u64 0]) ∧ Below w.heap.size w w' := by
  go_enter Tryd.func63, Tryd.ntmps63
  go_wp2
  exact bodyPost_ret (v := .agg #[.int .i64 (-9223372036854775808), .int .u64 0]) (by simp [results, Tryd.results63, go_sem]) rfl ⟨rfl, (Below.refl _ _).alloc (Nat.le_refl _) _⟩
set_option maxHeartbeats 400000 in
theorem bound_high (w : World) :
    Calls Tryd.prog 63 #[.bool false] w fun e w' => e = .returned (.agg #[.int .i64 9223372036854775807, .int .u64 18446744073709551615]) ∧ Below w.heap.size w w' := by
  go_enter Tryd.func63, Tryd.ntmps63
  go_wp2
  exact bodyPost_ret (v := .agg #[.int .i64 9223372036854775807, .int .u64 18446744073709551615]) (by simp [results, Tryd.results63, go_sem]) rfl ⟨rfl, (Below.refl _ _).alloc (Nat.le_refl _) _⟩

theorem add_fits {h1 l1 h2 l2 s : Int} (a0 : 0 ≤ l1) (a1 : l1 ≤ 18446744073709551615) (b0 : 0 ≤ l2) (b1 : l2 ≤ 18446744073709551615)
    (c0 : -9223372036854775808 ≤ h1) (c1 : h1 ≤ 9223372036854775807) (d0 : -9223372036854775808 ≤ h2) (d1 : h2 ≤ 9223372036854775807)
    (hs : wrap64 (wrap64 (h1 + h2) + (l1 + l2) / 18446744073709551616) = s) (h : (h1 < 0 ∧ 0 ≤ h2) ∨ (0 ≤ h1 ∧ h2 < 0) ∨ (h1 < 0 ∧ h2 < 0 ∧ s < 0) ∨ (0 ≤ h1 ∧ 0 ≤ h2 ∧ 0 ≤ s)) :
    s = hi (clamp (h1 * 18446744073709551616 + l1 + (h2 * 18446744073709551616 + l2))) ∧ (l1 + l2) % 18446744073709551616 = lo (clamp (h1 * 18446744073709551616 + l1 + (h2 * 18446744073709551616 + l2))) := by
  simp only [wrap64] at hs
  rw [clamp_of (by unfold InR; omega)]
  unfold hi lo; omega
theorem add_low {h1 l1 h2 l2 s : Int} (a0 : 0 ≤ l1) (a1 : l1 ≤ 18446744073709551615) (b0 : 0 ≤ l2) (b1 : l2 ≤ 18446744073709551615)
    (c0 : -9223372036854775808 ≤ h1) (d0 : -9223372036854775808 ≤ h2)
    (hs : wrap64 (wrap64 (h1 + h2) + (l1 + l2) / 18446744073709551616) = s) (g1 : h1 < 0) (g2 : h2 < 0) (g3 : 0 ≤ s) :
    -9223372036854775808 = hi (clamp (h1 * 18446744073709551616 + l1 + (h2 * 18446744073709551616 + l2))) ∧ 0 = lo (clamp (h1 * 18446744073709551616 + l1 + (h2 * 18446744073709551616 + l2))) := by
  simp only [wrap64] at hs
  have : clamp (h1 * 18446744073709551616 + l1 + (h2 * 18446744073709551616 + l2)) = -170141183460469231731687303715884105728 := by
    unfold clamp; rw [if_pos (by omega)]
  rw [this]; unfold hi lo; omega
theorem add_high {h1 l1 h2 l2 s : Int} (a0 : 0 ≤ l1) (a1 : l1 ≤ 18446744073709551615) (b0 : 0 ≤ l2) (b1 : l2 ≤ 18446744073709551615)
    (c1 : h1 ≤ 9223372036854775807) (d1 : h2 ≤ 9223372036854775807)
    (hs : wrap64 (wrap64 (h1 + h2) + (l1 + l2) / 18446744073709551616) = s) (g1 : 0 ≤ h1) (g2 : 0 ≤ h2) (g3 : s < 0) :
    9223372036854775807 = hi (clamp (h1 * 18446744073709551616 + l1 + (h2 * 18446744073709551616 + l2))) ∧ 18446744073709551615 = lo (clamp (h1 * 18446744073709551616 + l1 + (h2 * 18446744073709551616 + l2))) := by
  simp only [wrap64] at hs
  have : clamp (h1 * 18446744073709551616 + l1 + (h2 * 18446744073709551616 + l2)) = 170141183460469231731687303715884105727 := by
    unfold clamp; rw [if_neg (by omega), if_pos (by omega)]
  rw [this]; unfold hi lo; omega

/-- The same for differences. -/
theorem sub_fits {h1 l1 h2 l2 bw s : Int} (a0 : 0 ≤ l1) (a1 : l1 ≤ 18446744073709551615) (b0 : 0 ≤ l2) (b1 : l2 ≤ 18446744073709551615)
    (c0 : -9223372036854775808 ≤ h1) (c1 : h1 ≤ 9223372036854775807) (d0 : -9223372036854775808 ≤ h2) (d1 : h2 ≤ 9223372036854775807)
    (hs : wrap64 (wrap64 (h1 - h2) - bw) = s) (hb : bw = if l1 < l2 then 1 else 0) (h : (h1 < 0 ∧ h2 < 0) ∨ (0 ≤ h1 ∧ 0 ≤ h2) ∨ (h1 < 0 ∧ 0 ≤ h2 ∧ s < 0) ∨ (0 ≤ h1 ∧ h2 < 0 ∧ 0 ≤ s)) :
    s = hi (clamp (h1 * 18446744073709551616 + l1 - (h2 * 18446744073709551616 + l2))) ∧ (l1 + 18446744073709551616 - l2) % 18446744073709551616 = lo (clamp (h1 * 18446744073709551616 + l1 - (h2 * 18446744073709551616 + l2))) := by
  simp only [wrap64] at hs
  rw [clamp_of (by unfold InR; split at hb <;> omega)]
  unfold hi lo; split at hb <;> omega
theorem sub_low {h1 l1 h2 l2 bw s : Int} (a0 : 0 ≤ l1) (a1 : l1 ≤ 18446744073709551615) (b0 : 0 ≤ l2) (b1 : l2 ≤ 18446744073709551615)
    (c0 : -9223372036854775808 ≤ h1) (d1 : h2 ≤ 9223372036854775807)
    (hs : wrap64 (wrap64 (h1 - h2) - bw) = s) (hb : bw = if l1 < l2 then 1 else 0) (g1 : h1 < 0) (g2 : 0 ≤ h2) (g3 : 0 ≤ s) :
    -9223372036854775808 = hi (clamp (h1 * 18446744073709551616 + l1 - (h2 * 18446744073709551616 + l2))) ∧ 0 = lo (clamp (h1 * 18446744073709551616 + l1 - (h2 * 18446744073709551616 + l2))) := by
  simp only [wrap64] at hs
  have : clamp (h1 * 18446744073709551616 + l1 - (h2 * 18446744073709551616 + l2)) = -170141183460469231731687303715884105728 := by
    unfold clamp; split at hb <;> rw [if_pos (by omega)]
  rw [this]; unfold hi lo; omega
theorem sub_high {h1 l1 h2 l2 bw s : Int} (a0 : 0 ≤ l1) (a1 : l1 ≤ 18446744073709551615) (b0 : 0 ≤ l2) (b1 : l2 ≤ 18446744073709551615)
    (c1 : h1 ≤ 9223372036854775807) (d0 : -9223372036854775808 ≤ h2)
    (hs : wrap64 (wrap64 (h1 - h2) - bw) = s) (hb : bw = if l1 < l2 then 1 else 0) (g1 : 0 ≤ h1) (g2 : h2 < 0) (g3 : s < 0) :
    9223372036854775807 = hi (clamp (h1 * 18446744073709551616 + l1 - (h2 * 18446744073709551616 + l2))) ∧ 18446744073709551615 = lo (clamp (h1 * 18446744073709551616 + l1 - (h2 * 18446744073709551616 + l2))) := by
  simp only [wrap64] at hs
  have : clamp (h1 * 18446744073709551616 + l1 - (h2 * 18446744073709551616 + l2)) = 170141183460469231731687303715884105727 := by
    unfold clamp; split at hb <;> rw [if_neg (by omega), if_pos (by omega)]
  rw [this]; unfold hi lo; omega


set_option maxHeartbeats 4000000 in
theorem add_any (h1 l1 h2 l2 : Int) (a0 : 0 ≤ l1) (a1 : l1 ≤ 18446744073709551615) (b0 : 0 ≤ l2) (b1 : l2 ≤ 18446744073709551615)
    (c0 : -9223372036854775808 ≤ h1) (c1 : h1 ≤ 9223372036854775807) (d0 : -9223372036854775808 ≤ h2) (d1 : h2 ≤ 9223372036854775807) (w : World) :
    Calls Tryd.prog 39 #[.agg #[.int .i64 h1, .int .u64 l1], .agg #[.int .i64 h2, .int .u64 l2]] w fun e w' =>
      e = .returned (.agg #[.int .i64 (hi (clamp (h1 * 18446744073709551616 + l1 + (h2 * 18446744073709551616 + l2)))), .int .u64 (lo (clamp (h1 * 18446744073709551616 + l1 + (h2 * 18446744073709551616 + l2))))]) ∧ Below w.heap.size w w' := by
  skip
  have hadd := fun w => run_add64 l1 l2 0 a0 b0 (by omega) (by omega) w
  have q1 := fun (w' : World) (h : Blk w' w.heap.size #[.int .i64 h1, .int .u64 l1] 52) => h.two
  have q2 := fun (w' : World) (h : Blk w' (w.heap.size + 1) #[.int .i64 h2, .int .u64 l2] 52) => h.two
  have q3 := fun (w' : World) (h : Blk w' (w.heap.size + 1 + 1) #[.int .i64 0, .int .u64 0] 52) => h.two
  have q4 := fun (w' : World) (h : Blk w' (w.heap.size + 1 + 1) #[.int .i64 0, .int .u64 0] 52) => h.free0
  skip
  rcases hd1 : decide (h1 < 0) with _ | _ <;> rcases hd2 : decide (h2 < 0) with _ | _
  · skip
    go_enter Tryd.func39, Tryd.ntmps39
    go_wp2
    generalize hs : wrap64 (wrap64 (h1 + h2) + (l1 + l2) / 18446744073709551616) = s
    have Hs := Lib.hid hs; clear hs
    rcases hd3 : decide (s < 0) with _ | _
    · skip
      refine wp_region_held_drew (S := (fun w' => Blk w' w.heap.size #[.int .i64 h1, .int .u64 l1] 52 ∧ Blk w' (w.heap.size + 1) #[.int .i64 h2, .int .u64 l2] 52 ∧ Blk w' (w.heap.size + 1 + 1) #[.int .i64 0, .int .u64 0] 52 ∧ Below w.heap.size w w')) (by kernel_rfl) ?_ (fun hHeld => ?_)
      · exact ⟨(((Blk.new rfl).old _).old _).drew, ((Blk.new (by simp)).old _).drew, (Blk.new (by simp)).drew, ((((Below.refl _ _).alloc (Nat.le_refl _) _).alloc (by simp) _).alloc (by simp; omega) _).drew⟩
      refine H.take 0 (v := ?_) rfl (by kernel_rfl) (fun _ _ _ h => h) (by rfl) ?_ (by assumption) ?_
      rotate_left
      · (intro wz hSw; (try dsimp only at hSw); go_simp <;> with_reducible rfl)
      try simp only [Act.put, List.setIfInBounds_toArray, List.set_cons_zero, List.set_cons_succ]
      refine H.take 2 (v := ?_) rfl (by kernel_rfl) (fun _ _ _ h => h) (by rfl) ?_ (by assumption) ?_
      rotate_left
      · (intro wz hSw; (try dsimp only at hSw); go_simp <;> with_reducible rfl)
      try simp only [Act.put, List.setIfInBounds_toArray, List.set_cons_zero, List.set_cons_succ]
      refine H.ready [1] (by kernel_rfl) (by simp) ?_
      refine H.one rfl (by rfl) (fun K hK => ?_) AllReadyH.nil
      go_simp
      go_at_call 62
      refine (negative_any _ _ _).mono ?_
      rintro e w' ⟨rfl, hb⟩
      refine hK.out _ _ ?_ (fun hHeld2 => ?_)
      · exact ⟨Blk.keep hb hHeld.1, Blk.keep hb hHeld.2.1, Blk.keep hb hHeld.2.2.1, hHeld.2.2.2.trans (hb.mono hHeld.2.2.2.size)⟩
      clear hHeld hK K; have hHeld := hHeld2; clear hHeld2
      try simp only [Act.put, List.setIfInBounds_toArray, List.set_cons_zero, List.set_cons_succ]
      refine H.ready [3] (by kernel_rfl) (by simp) ?_
      refine H.one rfl (by rfl) (fun K hK => ?_) AllReadyH.nil
      go_simp
      go_at_call 62
      refine (negative_any _ _ _).mono ?_
      rintro e w' ⟨rfl, hb⟩
      refine hK.out _ _ ?_ (fun hHeld2 => ?_)
      · exact ⟨Blk.keep hb hHeld.1, Blk.keep hb hHeld.2.1, Blk.keep hb hHeld.2.2.1, hHeld.2.2.2.trans (hb.mono hHeld.2.2.2.size)⟩
      clear hHeld hK K; have hHeld := hHeld2; clear hHeld2
      try simp only [Act.put, List.setIfInBounds_toArray, List.set_cons_zero, List.set_cons_succ]
      refine H.take 4 (v := ?_) rfl (by kernel_rfl) (fun _ _ _ h => h) (by rfl) ?_ (by assumption) ?_
      rotate_left
      · (intro wz hSw; (try dsimp only at hSw); go_simp <;> with_reducible rfl)
      try simp only [Act.put, List.setIfInBounds_toArray, List.set_cons_zero, List.set_cons_succ]
      refine H.take 5 (v := ?_) rfl (by kernel_rfl) (fun _ _ _ h => h) (by rfl) ?_ (by assumption) ?_
      rotate_left
      · (intro wz hSw; (try dsimp only at hSw); go_simp <;> with_reducible rfl)
      try simp only [Act.put, List.setIfInBounds_toArray, List.set_cons_zero, List.set_cons_succ]
      refine H.take 6 (v := ?_) rfl (by kernel_rfl) (fun _ _ _ h => h) (by rfl) ?_ (by assumption) ?_
      rotate_left
      · (intro wz hSw; (try dsimp only at hSw); go_simp <;> with_reducible rfl)
      try simp only [Act.put, List.setIfInBounds_toArray, List.set_cons_zero, List.set_cons_succ]
      refine H.take 7 (v := ?_) rfl (by kernel_rfl) (fun _ _ _ h => h) (by rfl) ?_ (by assumption) ?_
      rotate_left
      · (intro wz hSw; (try dsimp only at hSw); go_simp <;> with_reducible rfl)
      try simp only [Act.put, List.setIfInBounds_toArray, List.set_cons_zero, List.set_cons_succ]
      refine H.take 8 (v := ?_) rfl (by kernel_rfl) (fun _ _ _ h => h) (by rfl) ?_ (by assumption) ?_
      rotate_left
      · (intro wz hSw; (try dsimp only at hSw); go_simp <;> with_reducible rfl)
      try simp only [Act.put, List.setIfInBounds_toArray, List.set_cons_zero, List.set_cons_succ]
      refine H.ready [9] (by kernel_rfl) (by simp) ?_
      refine H.one rfl (by rfl) (fun K hK => ?_) AllReadyH.nil
      go_simp
      go_at_call 62
      refine (negative_any _ _ _).mono ?_
      rintro e w' ⟨rfl, hb⟩
      refine hK.out _ _ ?_ (fun hHeld2 => ?_)
      · exact ⟨Blk.keep hb hHeld.1, Blk.keep hb hHeld.2.1, Blk.keep hb hHeld.2.2.1, hHeld.2.2.2.trans (hb.mono hHeld.2.2.2.size)⟩
      clear hHeld hK K; have hHeld := hHeld2; clear hHeld2
      try simp only [Act.put, List.setIfInBounds_toArray, List.set_cons_zero, List.set_cons_succ]
      refine H.take 10 (v := ?_) rfl (by kernel_rfl) (fun _ _ _ h => h) (by rfl) ?_ (by assumption) ?_
      rotate_left
      · (intro wz hSw; (try dsimp only at hSw); go_simp <;> with_reducible rfl)
      try simp only [Act.put, List.setIfInBounds_toArray, List.set_cons_zero, List.set_cons_succ]
      refine H.take 11 (v := ?_) rfl (by kernel_rfl) (fun _ _ _ h => h) (by rfl) ?_ (by assumption) ?_
      rotate_left
      · (intro wz hSw; (try dsimp only at hSw); go_simp <;> with_reducible rfl)
      try simp only [Act.put, List.setIfInBounds_toArray, List.set_cons_zero, List.set_cons_succ]
      refine H.done (by kernel_rfl) ?_ _
      obtain ⟨g1, g2, g3, g4⟩ := hHeld
      have e1 := of_decide_eq_false hd1; have e2 := of_decide_eq_false hd2
      go_wp2_with (first | (go_at_call 62; refine (negative_any _ _ _).mono ?_; rintro e w' ⟨rfl, hb⟩; replace g3 := Blk.keep hb g3; replace g4 := g4.trans (hb.mono g4.size)) | (go_at_call 63; refine (bound_low _).mono ?_; rintro e w' ⟨rfl, hb⟩; replace g3 := Blk.keep hb g3; replace g4 := g4.trans (hb.mono g4.size)) | (go_at_call 63; refine (bound_high _).mono ?_; rintro e w' ⟨rfl, hb⟩; replace g3 := Blk.keep hb g3; replace g4 := g4.trans (hb.mono g4.size)))
      have e3 := of_decide_eq_false hd3
      have hfin := (g3.put (i := 0) (.int .i64 s)).put (i := 1) (.int .u64 ((l1 + l2) % 18446744073709551616))
      have hres := add_fits a0 a1 b0 b1 c0 c1 d0 d1 Hs.out (by omega)
      exact bodyPost_ret (v := .agg #[.int .i64 s, .int .u64 ((l1 + l2) % 18446744073709551616)]) (by simp [results, Tryd.results39, go_sem, (show Blk _ _ #[.int .i64 s, .int .u64 ((l1 + l2) % 18446744073709551616)] _ from hfin).two]) rfl ⟨ret_w hres.1 hres.2, (g4.setCell (by simp; omega) _).setCell (by simp; omega) _⟩
    · skip
      refine wp_region_held_drew (S := (fun w' => Blk w' w.heap.size #[.int .i64 h1, .int .u64 l1] 52 ∧ Blk w' (w.heap.size + 1) #[.int .i64 h2, .int .u64 l2] 52 ∧ Blk w' (w.heap.size + 1 + 1) #[.int .i64 0, .int .u64 0] 52 ∧ Below w.heap.size w w')) (by kernel_rfl) ?_ (fun hHeld => ?_)
      · exact ⟨(((Blk.new rfl).old _).old _).drew, ((Blk.new (by simp)).old _).drew, (Blk.new (by simp)).drew, ((((Below.refl _ _).alloc (Nat.le_refl _) _).alloc (by simp) _).alloc (by simp; omega) _).drew⟩
      refine H.take 0 (v := ?_) rfl (by kernel_rfl) (fun _ _ _ h => h) (by rfl) ?_ (by assumption) ?_
      rotate_left
      · (intro wz hSw; (try dsimp only at hSw); go_simp <;> with_reducible rfl)
      try simp only [Act.put, List.setIfInBounds_toArray, List.set_cons_zero, List.set_cons_succ]
      refine H.take 2 (v := ?_) rfl (by kernel_rfl) (fun _ _ _ h => h) (by rfl) ?_ (by assumption) ?_
      rotate_left
      · (intro wz hSw; (try dsimp only at hSw); go_simp <;> with_reducible rfl)
      try simp only [Act.put, List.setIfInBounds_toArray, List.set_cons_zero, List.set_cons_succ]
      refine H.ready [1] (by kernel_rfl) (by simp) ?_
      refine H.one rfl (by rfl) (fun K hK => ?_) AllReadyH.nil
      go_simp
      go_at_call 62
      refine (negative_any _ _ _).mono ?_
      rintro e w' ⟨rfl, hb⟩
      refine hK.out _ _ ?_ (fun hHeld2 => ?_)
      · exact ⟨Blk.keep hb hHeld.1, Blk.keep hb hHeld.2.1, Blk.keep hb hHeld.2.2.1, hHeld.2.2.2.trans (hb.mono hHeld.2.2.2.size)⟩
      clear hHeld hK K; have hHeld := hHeld2; clear hHeld2
      try simp only [Act.put, List.setIfInBounds_toArray, List.set_cons_zero, List.set_cons_succ]
      refine H.ready [3] (by kernel_rfl) (by simp) ?_
      refine H.one rfl (by rfl) (fun K hK => ?_) AllReadyH.nil
      go_simp
      go_at_call 62
      refine (negative_any _ _ _).mono ?_
      rintro e w' ⟨rfl, hb⟩
      refine hK.out _ _ ?_ (fun hHeld2 => ?_)
      · exact ⟨Blk.keep hb hHeld.1, Blk.keep hb hHeld.2.1, Blk.keep hb hHeld.2.2.1, hHeld.2.2.2.trans (hb.mono hHeld.2.2.2.size)⟩
      clear hHeld hK K; have hHeld := hHeld2; clear hHeld2
      try simp only [Act.put, List.setIfInBounds_toArray, List.set_cons_zero, List.set_cons_succ]
      refine H.take 4 (v := ?_) rfl (by kernel_rfl) (fun _ _ _ h => h) (by rfl) ?_ (by assumption) ?_
      rotate_left
      · (intro wz hSw; (try dsimp only at hSw); go_simp <;> with_reducible rfl)
      try simp only [Act.put, List.setIfInBounds_toArray, List.set_cons_zero, List.set_cons_succ]
      refine H.take 5 (v := ?_) rfl (by kernel_rfl) (fun _ _ _ h => h) (by rfl) ?_ (by assumption) ?_
      rotate_left
      · (intro wz hSw; (try dsimp only at hSw); go_simp <;> with_reducible rfl)
      try simp only [Act.put, List.setIfInBounds_toArray, List.set_cons_zero, List.set_cons_succ]
      refine H.take 6 (v := ?_) rfl (by kernel_rfl) (fun _ _ _ h => h) (by rfl) ?_ (by assumption) ?_
      rotate_left
      · (intro wz hSw; (try dsimp only at hSw); go_simp <;> with_reducible rfl)
      try simp only [Act.put, List.setIfInBounds_toArray, List.set_cons_zero, List.set_cons_succ]
      refine H.take 7 (v := ?_) rfl (by kernel_rfl) (fun _ _ _ h => h) (by rfl) ?_ (by assumption) ?_
      rotate_left
      · (intro wz hSw; (try dsimp only at hSw); go_simp <;> with_reducible rfl)
      try simp only [Act.put, List.setIfInBounds_toArray, List.set_cons_zero, List.set_cons_succ]
      refine H.take 8 (v := ?_) rfl (by kernel_rfl) (fun _ _ _ h => h) (by rfl) ?_ (by assumption) ?_
      rotate_left
      · (intro wz hSw; (try dsimp only at hSw); go_simp <;> with_reducible rfl)
      try simp only [Act.put, List.setIfInBounds_toArray, List.set_cons_zero, List.set_cons_succ]
      refine H.ready [9] (by kernel_rfl) (by simp) ?_
      refine H.one rfl (by rfl) (fun K hK => ?_) AllReadyH.nil
      go_simp
      go_at_call 62
      refine (negative_any _ _ _).mono ?_
      rintro e w' ⟨rfl, hb⟩
      refine hK.out _ _ ?_ (fun hHeld2 => ?_)
      · exact ⟨Blk.keep hb hHeld.1, Blk.keep hb hHeld.2.1, Blk.keep hb hHeld.2.2.1, hHeld.2.2.2.trans (hb.mono hHeld.2.2.2.size)⟩
      clear hHeld hK K; have hHeld := hHeld2; clear hHeld2
      try simp only [Act.put, List.setIfInBounds_toArray, List.set_cons_zero, List.set_cons_succ]
      refine H.take 10 (v := ?_) rfl (by kernel_rfl) (fun _ _ _ h => h) (by rfl) ?_ (by assumption) ?_
      rotate_left
      · (intro wz hSw; (try dsimp only at hSw); go_simp <;> with_reducible rfl)
      try simp only [Act.put, List.setIfInBounds_toArray, List.set_cons_zero, List.set_cons_succ]
      refine H.take 11 (v := ?_) rfl (by kernel_rfl) (fun _ _ _ h => h) (by rfl) ?_ (by assumption) ?_
      rotate_left
      · (intro wz hSw; (try dsimp only at hSw); go_simp <;> with_reducible rfl)
      try simp only [Act.put, List.setIfInBounds_toArray, List.set_cons_zero, List.set_cons_succ]
      refine H.done (by kernel_rfl) ?_ _
      obtain ⟨g1, g2, g3, g4⟩ := hHeld
      have e1 := of_decide_eq_false hd1; have e2 := of_decide_eq_false hd2
      go_wp2_with (first | (go_at_call 62; refine (negative_any _ _ _).mono ?_; rintro e w' ⟨rfl, hb⟩; replace g3 := Blk.keep hb g3; replace g4 := g4.trans (hb.mono g4.size)) | (go_at_call 63; refine (bound_low _).mono ?_; rintro e w' ⟨rfl, hb⟩; replace g3 := Blk.keep hb g3; replace g4 := g4.trans (hb.mono g4.size)) | (go_at_call 63; refine (bound_high _).mono ?_; rintro e w' ⟨rfl, hb⟩; replace g3 := Blk.keep hb g3; replace g4 := g4.trans (hb.mono g4.size)))
      have e3 := of_decide_eq_true hd3
      have hfin := (g3.put (i := 0) (.int .i64 9223372036854775807)).put (i := 1) (.int .u64 18446744073709551615)
      have hres := add_high a0 a1 b0 b1 (by omega) (by omega) Hs.out (by omega) (by omega) (by omega)
      exact bodyPost_ret (v := .agg #[.int .i64 9223372036854775807, .int .u64 18446744073709551615]) (by simp [results, Tryd.results39, go_sem, (show Blk _ _ #[.int .i64 9223372036854775807, .int .u64 18446744073709551615] _ from hfin).two]) rfl ⟨ret_w hres.1 hres.2, (g4.setCell (by simp; omega) _).setCell (by simp; omega) _⟩
  · skip
    go_enter Tryd.func39, Tryd.ntmps39
    go_wp2
    generalize hs : wrap64 (wrap64 (h1 + h2) + (l1 + l2) / 18446744073709551616) = s
    have Hs := Lib.hid hs; clear hs
    refine wp_region_held_drew (S := (fun w' => Blk w' w.heap.size #[.int .i64 h1, .int .u64 l1] 52 ∧ Blk w' (w.heap.size + 1) #[.int .i64 h2, .int .u64 l2] 52 ∧ Blk w' (w.heap.size + 1 + 1) #[.int .i64 0, .int .u64 0] 52 ∧ Below w.heap.size w w')) (by kernel_rfl) ?_ (fun hHeld => ?_)
    · exact ⟨(((Blk.new rfl).old _).old _).drew, ((Blk.new (by simp)).old _).drew, (Blk.new (by simp)).drew, ((((Below.refl _ _).alloc (Nat.le_refl _) _).alloc (by simp) _).alloc (by simp; omega) _).drew⟩
    refine H.take 0 (v := ?_) rfl (by kernel_rfl) (fun _ _ _ h => h) (by rfl) ?_ (by assumption) ?_
    rotate_left
    · (intro wz hSw; (try dsimp only at hSw); go_simp <;> with_reducible rfl)
    try simp only [Act.put, List.setIfInBounds_toArray, List.set_cons_zero, List.set_cons_succ]
    refine H.take 2 (v := ?_) rfl (by kernel_rfl) (fun _ _ _ h => h) (by rfl) ?_ (by assumption) ?_
    rotate_left
    · (intro wz hSw; (try dsimp only at hSw); go_simp <;> with_reducible rfl)
    try simp only [Act.put, List.setIfInBounds_toArray, List.set_cons_zero, List.set_cons_succ]
    refine H.ready [1] (by kernel_rfl) (by simp) ?_
    refine H.one rfl (by rfl) (fun K hK => ?_) AllReadyH.nil
    go_simp
    go_at_call 62
    refine (negative_any _ _ _).mono ?_
    rintro e w' ⟨rfl, hb⟩
    refine hK.out _ _ ?_ (fun hHeld2 => ?_)
    · exact ⟨Blk.keep hb hHeld.1, Blk.keep hb hHeld.2.1, Blk.keep hb hHeld.2.2.1, hHeld.2.2.2.trans (hb.mono hHeld.2.2.2.size)⟩
    clear hHeld hK K; have hHeld := hHeld2; clear hHeld2
    try simp only [Act.put, List.setIfInBounds_toArray, List.set_cons_zero, List.set_cons_succ]
    refine H.ready [3] (by kernel_rfl) (by simp) ?_
    refine H.one rfl (by rfl) (fun K hK => ?_) AllReadyH.nil
    go_simp
    go_at_call 62
    refine (negative_any _ _ _).mono ?_
    rintro e w' ⟨rfl, hb⟩
    refine hK.out _ _ ?_ (fun hHeld2 => ?_)
    · exact ⟨Blk.keep hb hHeld.1, Blk.keep hb hHeld.2.1, Blk.keep hb hHeld.2.2.1, hHeld.2.2.2.trans (hb.mono hHeld.2.2.2.size)⟩
    clear hHeld hK K; have hHeld := hHeld2; clear hHeld2
    try simp only [Act.put, List.setIfInBounds_toArray, List.set_cons_zero, List.set_cons_succ]
    refine H.take 4 (v := ?_) rfl (by kernel_rfl) (fun _ _ _ h => h) (by rfl) ?_ (by assumption) ?_
    rotate_left
    · (intro wz hSw; (try dsimp only at hSw); go_simp <;> with_reducible rfl)
    try simp only [Act.put, List.setIfInBounds_toArray, List.set_cons_zero, List.set_cons_succ]
    refine H.take 5 (v := ?_) rfl (by kernel_rfl) (fun _ _ _ h => h) (by rfl) ?_ (by assumption) ?_
    rotate_left
    · (intro wz hSw; (try dsimp only at hSw); go_simp <;> with_reducible rfl)
    try simp only [Act.put, List.setIfInBounds_toArray, List.set_cons_zero, List.set_cons_succ]
    refine H.skip 6 rfl (by kernel_rfl) (fun _ _ _ h => h) (by rfl) (by assumption) ?_
    try simp only [Act.put, List.setIfInBounds_toArray, List.set_cons_zero, List.set_cons_succ]
    refine H.skip 7 rfl (by kernel_rfl) (fun _ _ _ h => h) (by rfl) (by assumption) ?_
    try simp only [Act.put, List.setIfInBounds_toArray, List.set_cons_zero, List.set_cons_succ]
    refine H.skip 8 rfl (by kernel_rfl) (fun _ _ _ h => h) (by rfl) (by assumption) ?_
    try simp only [Act.put, List.setIfInBounds_toArray, List.set_cons_zero, List.set_cons_succ]
    refine H.skip 9 rfl (by kernel_rfl) (fun _ _ _ h => h) (by rfl) (by assumption) ?_
    try simp only [Act.put, List.setIfInBounds_toArray, List.set_cons_zero, List.set_cons_succ]
    refine H.skip 10 rfl (by kernel_rfl) (fun _ _ _ h => h) (by rfl) (by assumption) ?_
    try simp only [Act.put, List.setIfInBounds_toArray, List.set_cons_zero, List.set_cons_succ]
    refine H.take 11 (v := ?_) rfl (by kernel_rfl) (fun _ _ _ h => h) (by rfl) ?_ (by assumption) ?_
    rotate_left
    · (intro wz hSw; (try dsimp only at hSw); go_simp <;> with_reducible rfl)
    try simp only [Act.put, List.setIfInBounds_toArray, List.set_cons_zero, List.set_cons_succ]
    refine H.done (by kernel_rfl) ?_ _
    obtain ⟨g1, g2, g3, g4⟩ := hHeld
    have e1 := of_decide_eq_false hd1; have e2 := of_decide_eq_true hd2
    go_wp2_with (first | (go_at_call 62; refine (negative_any _ _ _).mono ?_; rintro e w' ⟨rfl, hb⟩; replace g3 := Blk.keep hb g3; replace g4 := g4.trans (hb.mono g4.size)) | (go_at_call 63; refine (bound_low _).mono ?_; rintro e w' ⟨rfl, hb⟩; replace g3 := Blk.keep hb g3; replace g4 := g4.trans (hb.mono g4.size)) | (go_at_call 63; refine (bound_high _).mono ?_; rintro e w' ⟨rfl, hb⟩; replace g3 := Blk.keep hb g3; replace g4 := g4.trans (hb.mono g4.size)))
    have hfin := (g3.put (i := 0) (.int .i64 s)).put (i := 1) (.int .u64 ((l1 + l2) % 18446744073709551616))
    have hres := add_fits a0 a1 b0 b1 c0 c1 d0 d1 Hs.out (by omega)
    exact bodyPost_ret (v := .agg #[.int .i64 s, .int .u64 ((l1 + l2) % 18446744073709551616)]) (by simp [results, Tryd.results39, go_sem, (show Blk _ _ #[.int .i64 s, .int .u64 ((l1 + l2) % 18446744073709551616)] _ from hfin).two]) rfl ⟨ret_w hres.1 hres.2, (g4.setCell (by simp; omega) _).setCell (by simp; omega) _⟩
  · skip
    go_enter Tryd.func39, Tryd.ntmps39
    go_wp2
    generalize hs : wrap64 (wrap64 (h1 + h2) + (l1 + l2) / 18446744073709551616) = s
    have Hs := Lib.hid hs; clear hs
    refine wp_region_held_drew (S := (fun w' => Blk w' w.heap.size #[.int .i64 h1, .int .u64 l1] 52 ∧ Blk w' (w.heap.size + 1) #[.int .i64 h2, .int .u64 l2] 52 ∧ Blk w' (w.heap.size + 1 + 1) #[.int .i64 0, .int .u64 0] 52 ∧ Below w.heap.size w w')) (by kernel_rfl) ?_ (fun hHeld => ?_)
    · exact ⟨(((Blk.new rfl).old _).old _).drew, ((Blk.new (by simp)).old _).drew, (Blk.new (by simp)).drew, ((((Below.refl _ _).alloc (Nat.le_refl _) _).alloc (by simp) _).alloc (by simp; omega) _).drew⟩
    refine H.take 0 (v := ?_) rfl (by kernel_rfl) (fun _ _ _ h => h) (by rfl) ?_ (by assumption) ?_
    rotate_left
    · (intro wz hSw; (try dsimp only at hSw); go_simp <;> with_reducible rfl)
    try simp only [Act.put, List.setIfInBounds_toArray, List.set_cons_zero, List.set_cons_succ]
    refine H.take 2 (v := ?_) rfl (by kernel_rfl) (fun _ _ _ h => h) (by rfl) ?_ (by assumption) ?_
    rotate_left
    · (intro wz hSw; (try dsimp only at hSw); go_simp <;> with_reducible rfl)
    try simp only [Act.put, List.setIfInBounds_toArray, List.set_cons_zero, List.set_cons_succ]
    refine H.ready [1] (by kernel_rfl) (by simp) ?_
    refine H.one rfl (by rfl) (fun K hK => ?_) AllReadyH.nil
    go_simp
    go_at_call 62
    refine (negative_any _ _ _).mono ?_
    rintro e w' ⟨rfl, hb⟩
    refine hK.out _ _ ?_ (fun hHeld2 => ?_)
    · exact ⟨Blk.keep hb hHeld.1, Blk.keep hb hHeld.2.1, Blk.keep hb hHeld.2.2.1, hHeld.2.2.2.trans (hb.mono hHeld.2.2.2.size)⟩
    clear hHeld hK K; have hHeld := hHeld2; clear hHeld2
    try simp only [Act.put, List.setIfInBounds_toArray, List.set_cons_zero, List.set_cons_succ]
    refine H.ready [3] (by kernel_rfl) (by simp) ?_
    refine H.one rfl (by rfl) (fun K hK => ?_) AllReadyH.nil
    go_simp
    go_at_call 62
    refine (negative_any _ _ _).mono ?_
    rintro e w' ⟨rfl, hb⟩
    refine hK.out _ _ ?_ (fun hHeld2 => ?_)
    · exact ⟨Blk.keep hb hHeld.1, Blk.keep hb hHeld.2.1, Blk.keep hb hHeld.2.2.1, hHeld.2.2.2.trans (hb.mono hHeld.2.2.2.size)⟩
    clear hHeld hK K; have hHeld := hHeld2; clear hHeld2
    try simp only [Act.put, List.setIfInBounds_toArray, List.set_cons_zero, List.set_cons_succ]
    refine H.take 4 (v := ?_) rfl (by kernel_rfl) (fun _ _ _ h => h) (by rfl) ?_ (by assumption) ?_
    rotate_left
    · (intro wz hSw; (try dsimp only at hSw); go_simp <;> with_reducible rfl)
    try simp only [Act.put, List.setIfInBounds_toArray, List.set_cons_zero, List.set_cons_succ]
    refine H.take 5 (v := ?_) rfl (by kernel_rfl) (fun _ _ _ h => h) (by rfl) ?_ (by assumption) ?_
    rotate_left
    · (intro wz hSw; (try dsimp only at hSw); go_simp <;> with_reducible rfl)
    try simp only [Act.put, List.setIfInBounds_toArray, List.set_cons_zero, List.set_cons_succ]
    refine H.skip 6 rfl (by kernel_rfl) (fun _ _ _ h => h) (by rfl) (by assumption) ?_
    try simp only [Act.put, List.setIfInBounds_toArray, List.set_cons_zero, List.set_cons_succ]
    refine H.skip 7 rfl (by kernel_rfl) (fun _ _ _ h => h) (by rfl) (by assumption) ?_
    try simp only [Act.put, List.setIfInBounds_toArray, List.set_cons_zero, List.set_cons_succ]
    refine H.skip 8 rfl (by kernel_rfl) (fun _ _ _ h => h) (by rfl) (by assumption) ?_
    try simp only [Act.put, List.setIfInBounds_toArray, List.set_cons_zero, List.set_cons_succ]
    refine H.skip 9 rfl (by kernel_rfl) (fun _ _ _ h => h) (by rfl) (by assumption) ?_
    try simp only [Act.put, List.setIfInBounds_toArray, List.set_cons_zero, List.set_cons_succ]
    refine H.skip 10 rfl (by kernel_rfl) (fun _ _ _ h => h) (by rfl) (by assumption) ?_
    try simp only [Act.put, List.setIfInBounds_toArray, List.set_cons_zero, List.set_cons_succ]
    refine H.take 11 (v := ?_) rfl (by kernel_rfl) (fun _ _ _ h => h) (by rfl) ?_ (by assumption) ?_
    rotate_left
    · (intro wz hSw; (try dsimp only at hSw); go_simp <;> with_reducible rfl)
    try simp only [Act.put, List.setIfInBounds_toArray, List.set_cons_zero, List.set_cons_succ]
    refine H.done (by kernel_rfl) ?_ _
    obtain ⟨g1, g2, g3, g4⟩ := hHeld
    have e1 := of_decide_eq_true hd1; have e2 := of_decide_eq_false hd2
    go_wp2_with (first | (go_at_call 62; refine (negative_any _ _ _).mono ?_; rintro e w' ⟨rfl, hb⟩; replace g3 := Blk.keep hb g3; replace g4 := g4.trans (hb.mono g4.size)) | (go_at_call 63; refine (bound_low _).mono ?_; rintro e w' ⟨rfl, hb⟩; replace g3 := Blk.keep hb g3; replace g4 := g4.trans (hb.mono g4.size)) | (go_at_call 63; refine (bound_high _).mono ?_; rintro e w' ⟨rfl, hb⟩; replace g3 := Blk.keep hb g3; replace g4 := g4.trans (hb.mono g4.size)))
    have hfin := (g3.put (i := 0) (.int .i64 s)).put (i := 1) (.int .u64 ((l1 + l2) % 18446744073709551616))
    have hres := add_fits a0 a1 b0 b1 c0 c1 d0 d1 Hs.out (by omega)
    exact bodyPost_ret (v := .agg #[.int .i64 s, .int .u64 ((l1 + l2) % 18446744073709551616)]) (by simp [results, Tryd.results39, go_sem, (show Blk _ _ #[.int .i64 s, .int .u64 ((l1 + l2) % 18446744073709551616)] _ from hfin).two]) rfl ⟨ret_w hres.1 hres.2, (g4.setCell (by simp; omega) _).setCell (by simp; omega) _⟩
  · skip
    go_enter Tryd.func39, Tryd.ntmps39
    go_wp2
    generalize hs : wrap64 (wrap64 (h1 + h2) + (l1 + l2) / 18446744073709551616) = s
    have Hs := Lib.hid hs; clear hs
    rcases hd3 : decide (s < 0) with _ | _
    · skip
      refine wp_region_held_drew (S := (fun w' => Blk w' w.heap.size #[.int .i64 h1, .int .u64 l1] 52 ∧ Blk w' (w.heap.size + 1) #[.int .i64 h2, .int .u64 l2] 52 ∧ Blk w' (w.heap.size + 1 + 1) #[.int .i64 0, .int .u64 0] 52 ∧ Below w.heap.size w w')) (by kernel_rfl) ?_ (fun hHeld => ?_)
      · exact ⟨(((Blk.new rfl).old _).old _).drew, ((Blk.new (by simp)).old _).drew, (Blk.new (by simp)).drew, ((((Below.refl _ _).alloc (Nat.le_refl _) _).alloc (by simp) _).alloc (by simp; omega) _).drew⟩
      refine H.take 0 (v := ?_) rfl (by kernel_rfl) (fun _ _ _ h => h) (by rfl) ?_ (by assumption) ?_
      rotate_left
      · (intro wz hSw; (try dsimp only at hSw); go_simp <;> with_reducible rfl)
      try simp only [Act.put, List.setIfInBounds_toArray, List.set_cons_zero, List.set_cons_succ]
      refine H.take 2 (v := ?_) rfl (by kernel_rfl) (fun _ _ _ h => h) (by rfl) ?_ (by assumption) ?_
      rotate_left
      · (intro wz hSw; (try dsimp only at hSw); go_simp <;> with_reducible rfl)
      try simp only [Act.put, List.setIfInBounds_toArray, List.set_cons_zero, List.set_cons_succ]
      refine H.ready [1] (by kernel_rfl) (by simp) ?_
      refine H.one rfl (by rfl) (fun K hK => ?_) AllReadyH.nil
      go_simp
      go_at_call 62
      refine (negative_any _ _ _).mono ?_
      rintro e w' ⟨rfl, hb⟩
      refine hK.out _ _ ?_ (fun hHeld2 => ?_)
      · exact ⟨Blk.keep hb hHeld.1, Blk.keep hb hHeld.2.1, Blk.keep hb hHeld.2.2.1, hHeld.2.2.2.trans (hb.mono hHeld.2.2.2.size)⟩
      clear hHeld hK K; have hHeld := hHeld2; clear hHeld2
      try simp only [Act.put, List.setIfInBounds_toArray, List.set_cons_zero, List.set_cons_succ]
      refine H.ready [3] (by kernel_rfl) (by simp) ?_
      refine H.one rfl (by rfl) (fun K hK => ?_) AllReadyH.nil
      go_simp
      go_at_call 62
      refine (negative_any _ _ _).mono ?_
      rintro e w' ⟨rfl, hb⟩
      refine hK.out _ _ ?_ (fun hHeld2 => ?_)
      · exact ⟨Blk.keep hb hHeld.1, Blk.keep hb hHeld.2.1, Blk.keep hb hHeld.2.2.1, hHeld.2.2.2.trans (hb.mono hHeld.2.2.2.size)⟩
      clear hHeld hK K; have hHeld := hHeld2; clear hHeld2
      try simp only [Act.put, List.setIfInBounds_toArray, List.set_cons_zero, List.set_cons_succ]
      refine H.take 4 (v := ?_) rfl (by kernel_rfl) (fun _ _ _ h => h) (by rfl) ?_ (by assumption) ?_
      rotate_left
      · (intro wz hSw; (try dsimp only at hSw); go_simp <;> with_reducible rfl)
      try simp only [Act.put, List.setIfInBounds_toArray, List.set_cons_zero, List.set_cons_succ]
      refine H.take 5 (v := ?_) rfl (by kernel_rfl) (fun _ _ _ h => h) (by rfl) ?_ (by assumption) ?_
      rotate_left
      · (intro wz hSw; (try dsimp only at hSw); go_simp <;> with_reducible rfl)
      try simp only [Act.put, List.setIfInBounds_toArray, List.set_cons_zero, List.set_cons_succ]
      refine H.take 6 (v := ?_) rfl (by kernel_rfl) (fun _ _ _ h => h) (by rfl) ?_ (by assumption) ?_
      rotate_left
      · (intro wz hSw; (try dsimp only at hSw); go_simp <;> with_reducible rfl)
      try simp only [Act.put, List.setIfInBounds_toArray, List.set_cons_zero, List.set_cons_succ]
      refine H.take 7 (v := ?_) rfl (by kernel_rfl) (fun _ _ _ h => h) (by rfl) ?_ (by assumption) ?_
      rotate_left
      · (intro wz hSw; (try dsimp only at hSw); go_simp <;> with_reducible rfl)
      try simp only [Act.put, List.setIfInBounds_toArray, List.set_cons_zero, List.set_cons_succ]
      refine H.take 8 (v := ?_) rfl (by kernel_rfl) (fun _ _ _ h => h) (by rfl) ?_ (by assumption) ?_
      rotate_left
      · (intro wz hSw; (try dsimp only at hSw); go_simp <;> with_reducible rfl)
      try simp only [Act.put, List.setIfInBounds_toArray, List.set_cons_zero, List.set_cons_succ]
      refine H.ready [9] (by kernel_rfl) (by simp) ?_
      refine H.one rfl (by rfl) (fun K hK => ?_) AllReadyH.nil
      go_simp
      go_at_call 62
      refine (negative_any _ _ _).mono ?_
      rintro e w' ⟨rfl, hb⟩
      refine hK.out _ _ ?_ (fun hHeld2 => ?_)
      · exact ⟨Blk.keep hb hHeld.1, Blk.keep hb hHeld.2.1, Blk.keep hb hHeld.2.2.1, hHeld.2.2.2.trans (hb.mono hHeld.2.2.2.size)⟩
      clear hHeld hK K; have hHeld := hHeld2; clear hHeld2
      try simp only [Act.put, List.setIfInBounds_toArray, List.set_cons_zero, List.set_cons_succ]
      refine H.take 10 (v := ?_) rfl (by kernel_rfl) (fun _ _ _ h => h) (by rfl) ?_ (by assumption) ?_
      rotate_left
      · (intro wz hSw; (try dsimp only at hSw); go_simp <;> with_reducible rfl)
      try simp only [Act.put, List.setIfInBounds_toArray, List.set_cons_zero, List.set_cons_succ]
      refine H.take 11 (v := ?_) rfl (by kernel_rfl) (fun _ _ _ h => h) (by rfl) ?_ (by assumption) ?_
      rotate_left
      · (intro wz hSw; (try dsimp only at hSw); go_simp <;> with_reducible rfl)
      try simp only [Act.put, List.setIfInBounds_toArray, List.set_cons_zero, List.set_cons_succ]
      refine H.done (by kernel_rfl) ?_ _
      obtain ⟨g1, g2, g3, g4⟩ := hHeld
      have e1 := of_decide_eq_true hd1; have e2 := of_decide_eq_true hd2
      go_wp2_with (first | (go_at_call 62; refine (negative_any _ _ _).mono ?_; rintro e w' ⟨rfl, hb⟩; replace g3 := Blk.keep hb g3; replace g4 := g4.trans (hb.mono g4.size)) | (go_at_call 63; refine (bound_low _).mono ?_; rintro e w' ⟨rfl, hb⟩; replace g3 := Blk.keep hb g3; replace g4 := g4.trans (hb.mono g4.size)) | (go_at_call 63; refine (bound_high _).mono ?_; rintro e w' ⟨rfl, hb⟩; replace g3 := Blk.keep hb g3; replace g4 := g4.trans (hb.mono g4.size)))
      have e3 := of_decide_eq_false hd3
      have hfin := (g3.put (i := 0) (.int .i64 (-9223372036854775808))).put (i := 1) (.int .u64 0)
      have hres := add_low a0 a1 b0 b1 (by omega) (by omega) Hs.out (by omega) (by omega) (by omega)
      exact bodyPost_ret (v := .agg #[.int .i64 (-9223372036854775808), .int .u64 0]) (by simp [results, Tryd.results39, go_sem, (show Blk _ _ #[.int .i64 (-9223372036854775808), .int .u64 0] _ from hfin).two]) rfl ⟨ret_w hres.1 hres.2, (g4.setCell (by simp; omega) _).setCell (by simp; omega) _⟩
    · skip
      refine wp_region_held_drew (S := (fun w' => Blk w' w.heap.size #[.int .i64 h1, .int .u64 l1] 52 ∧ Blk w' (w.heap.size + 1) #[.int .i64 h2, .int .u64 l2] 52 ∧ Blk w' (w.heap.size + 1 + 1) #[.int .i64 0, .int .u64 0] 52 ∧ Below w.heap.size w w')) (by kernel_rfl) ?_ (fun hHeld => ?_)
      · exact ⟨(((Blk.new rfl).old _).old _).drew, ((Blk.new (by simp)).old _).drew, (Blk.new (by simp)).drew, ((((Below.refl _ _).alloc (Nat.le_refl _) _).alloc (by simp) _).alloc (by simp; omega) _).drew⟩
      refine H.take 0 (v := ?_) rfl (by kernel_rfl) (fun _ _ _ h => h) (by rfl) ?_ (by assumption) ?_
      rotate_left
      · (intro wz hSw; (try dsimp only at hSw); go_simp <;> with_reducible rfl)
      try simp only [Act.put, List.setIfInBounds_toArray, List.set_cons_zero, List.set_cons_succ]
      refine H.take 2 (v := ?_) rfl (by kernel_rfl) (fun _ _ _ h => h) (by rfl) ?_ (by assumption) ?_
      rotate_left
      · (intro wz hSw; (try dsimp only at hSw); go_simp <;> with_reducible rfl)
      try simp only [Act.put, List.setIfInBounds_toArray, List.set_cons_zero, List.set_cons_succ]
      refine H.ready [1] (by kernel_rfl) (by simp) ?_
      refine H.one rfl (by rfl) (fun K hK => ?_) AllReadyH.nil
      go_simp
      go_at_call 62
      refine (negative_any _ _ _).mono ?_
      rintro e w' ⟨rfl, hb⟩
      refine hK.out _ _ ?_ (fun hHeld2 => ?_)
      · exact ⟨Blk.keep hb hHeld.1, Blk.keep hb hHeld.2.1, Blk.keep hb hHeld.2.2.1, hHeld.2.2.2.trans (hb.mono hHeld.2.2.2.size)⟩
      clear hHeld hK K; have hHeld := hHeld2; clear hHeld2
      try simp only [Act.put, List.setIfInBounds_toArray, List.set_cons_zero, List.set_cons_succ]
      refine H.ready [3] (by kernel_rfl) (by simp) ?_
      refine H.one rfl (by rfl) (fun K hK => ?_) AllReadyH.nil
      go_simp
      go_at_call 62
      refine (negative_any _ _ _).mono ?_
      rintro e w' ⟨rfl, hb⟩
      refine hK.out _ _ ?_ (fun hHeld2 => ?_)
      · exact ⟨Blk.keep hb hHeld.1, Blk.keep hb hHeld.2.1, Blk.keep hb hHeld.2.2.1, hHeld.2.2.2.trans (hb.mono hHeld.2.2.2.size)⟩
      clear hHeld hK K; have hHeld := hHeld2; clear hHeld2
      try simp only [Act.put, List.setIfInBounds_toArray, List.set_cons_zero, List.set_cons_succ]
      refine H.take 4 (v := ?_) rfl (by kernel_rfl) (fun _ _ _ h => h) (by rfl) ?_ (by assumption) ?_
      rotate_left
      · (intro wz hSw; (try dsimp only at hSw); go_simp <;> with_reducible rfl)
      try simp only [Act.put, List.setIfInBounds_toArray, List.set_cons_zero, List.set_cons_succ]
      refine H.take 5 (v := ?_) rfl (by kernel_rfl) (fun _ _ _ h => h) (by rfl) ?_ (by assumption) ?_
      rotate_left
      · (intro wz hSw; (try dsimp only at hSw); go_simp <;> with_reducible rfl)
      try simp only [Act.put, List.setIfInBounds_toArray, List.set_cons_zero, List.set_cons_succ]
      refine H.take 6 (v := ?_) rfl (by kernel_rfl) (fun _ _ _ h => h) (by rfl) ?_ (by assumption) ?_
      rotate_left
      · (intro wz hSw; (try dsimp only at hSw); go_simp <;> with_reducible rfl)
      try simp only [Act.put, List.setIfInBounds_toArray, List.set_cons_zero, List.set_cons_succ]
      refine H.take 7 (v := ?_) rfl (by kernel_rfl) (fun _ _ _ h => h) (by rfl) ?_ (by assumption) ?_
      rotate_left
      · (intro wz hSw; (try dsimp only at hSw); go_simp <;> with_reducible rfl)
      try simp only [Act.put, List.setIfInBounds_toArray, List.set_cons_zero, List.set_cons_succ]
      refine H.take 8 (v := ?_) rfl (by kernel_rfl) (fun _ _ _ h => h) (by rfl) ?_ (by assumption) ?_
      rotate_left
      · (intro wz hSw; (try dsimp only at hSw); go_simp <;> with_reducible rfl)
      try simp only [Act.put, List.setIfInBounds_toArray, List.set_cons_zero, List.set_cons_succ]
      refine H.ready [9] (by kernel_rfl) (by simp) ?_
      refine H.one rfl (by rfl) (fun K hK => ?_) AllReadyH.nil
      go_simp
      go_at_call 62
      refine (negative_any _ _ _).mono ?_
      rintro e w' ⟨rfl, hb⟩
      refine hK.out _ _ ?_ (fun hHeld2 => ?_)
      · exact ⟨Blk.keep hb hHeld.1, Blk.keep hb hHeld.2.1, Blk.keep hb hHeld.2.2.1, hHeld.2.2.2.trans (hb.mono hHeld.2.2.2.size)⟩
      clear hHeld hK K; have hHeld := hHeld2; clear hHeld2
      try simp only [Act.put, List.setIfInBounds_toArray, List.set_cons_zero, List.set_cons_succ]
      refine H.take 10 (v := ?_) rfl (by kernel_rfl) (fun _ _ _ h => h) (by rfl) ?_ (by assumption) ?_
      rotate_left
      · (intro wz hSw; (try dsimp only at hSw); go_simp <;> with_reducible rfl)
      try simp only [Act.put, List.setIfInBounds_toArray, List.set_cons_zero, List.set_cons_succ]
      refine H.take 11 (v := ?_) rfl (by kernel_rfl) (fun _ _ _ h => h) (by rfl) ?_ (by assumption) ?_
      rotate_left
      · (intro wz hSw; (try dsimp only at hSw); go_simp <;> with_reducible rfl)
      try simp only [Act.put, List.setIfInBounds_toArray, List.set_cons_zero, List.set_cons_succ]
      refine H.done (by kernel_rfl) ?_ _
      obtain ⟨g1, g2, g3, g4⟩ := hHeld
      have e1 := of_decide_eq_true hd1; have e2 := of_decide_eq_true hd2
      go_wp2_with (first | (go_at_call 62; refine (negative_any _ _ _).mono ?_; rintro e w' ⟨rfl, hb⟩; replace g3 := Blk.keep hb g3; replace g4 := g4.trans (hb.mono g4.size)) | (go_at_call 63; refine (bound_low _).mono ?_; rintro e w' ⟨rfl, hb⟩; replace g3 := Blk.keep hb g3; replace g4 := g4.trans (hb.mono g4.size)) | (go_at_call 63; refine (bound_high _).mono ?_; rintro e w' ⟨rfl, hb⟩; replace g3 := Blk.keep hb g3; replace g4 := g4.trans (hb.mono g4.size)))
      have e3 := of_decide_eq_true hd3
      have hfin := (g3.put (i := 0) (.int .i64 s)).put (i := 1) (.int .u64 ((l1 + l2) % 18446744073709551616))
      have hres := add_fits a0 a1 b0 b1 c0 c1 d0 d1 Hs.out (by omega)
      exact bodyPost_ret (v := .agg #[.int .i64 s, .int .u64 ((l1 + l2) % 18446744073709551616)]) (by simp [results, Tryd.results39, go_sem, (show Blk _ _ #[.int .i64 s, .int .u64 ((l1 + l2) % 18446744073709551616)] _ from hfin).two]) rfl ⟨ret_w hres.1 hres.2, (g4.setCell (by simp; omega) _).setCell (by simp; omega) _⟩


theorem run_sub64 (x y c : Int) (hx : 0 ≤ x) (hy : 0 ≤ y) (hx1 : x ≤ 18446744073709551615) (hy1 : y ≤ 18446744073709551615) (hc : c = if x < y then 1 else 0) (w : World) :
    (callFunc 70 #[.int .u64 x, .int .u64 y, .int .u64 0]).run Tryd.prog w =
      .ok (.value (.tuple #[.int .u64 ((x + 18446744073709551616 - y) % 18446744073709551616), .int .u64 c])) w := by
  obtain ⟨a, rfl⟩ := Int.eq_ofNat_of_zero_le hx
  obtain ⟨b, rfl⟩ := Int.eq_ofNat_of_zero_le hy
  rw [run_callFunc_extern Tryd.func70 (by kernel_rfl) (by kernel_rfl) (by kernel_rfl) (e := Go.Proofs.sub64Entry) (by kernel_rfl), show Value.int IntKind.u64 0 = Value.int IntKind.u64 ((0 : Nat) : Int) from rfl, Go.Proofs.run_sub64 a b 0 (by omega)]
  simp only [Result.andThen]
  have e1 : (((a + 18446744073709551616 - b - 0) % 18446744073709551616 : Nat) : Int) = ((a : Int) + 18446744073709551616 - b) % 18446744073709551616 := by omega
  have e2 : ((if a < b + 0 then 1 else 0 : Nat) : Int) = c := by
    rw [hc]; by_cases h : a < b
    · rw [if_pos (by omega), if_pos (by omega)]; rfl
    · rw [if_neg (by omega), if_neg (by omega)]; rfl
  rw [e1, e2]

set_option maxHeartbeats 4000000 in
theorem sub_any (h1 l1 h2 l2 : Int) (a0 : 0 ≤ l1) (a1 : l1 ≤ 18446744073709551615) (b0 : 0 ≤ l2) (b1 : l2 ≤ 18446744073709551615)
    (c0 : -9223372036854775808 ≤ h1) (c1 : h1 ≤ 9223372036854775807) (d0 : -9223372036854775808 ≤ h2) (d1 : h2 ≤ 9223372036854775807) (w : World) :
    Calls Tryd.prog 46 #[.agg #[.int .i64 h1, .int .u64 l1], .agg #[.int .i64 h2, .int .u64 l2]] w fun e w' =>
      e = .returned (.agg #[.int .i64 (hi (clamp (h1 * 18446744073709551616 + l1 - (h2 * 18446744073709551616 + l2)))), .int .u64 (lo (clamp (h1 * 18446744073709551616 + l1 - (h2 * 18446744073709551616 + l2))))]) ∧ Below w.heap.size w w' := by
  obtain ⟨bw, hbw0⟩ : ∃ bw : Int, bw = if l1 < l2 then 1 else 0 := ⟨_, rfl⟩; have bw0 : 0 ≤ bw := (by split at hbw0 <;> omega); have bw1 : bw ≤ 1 := (by split at hbw0 <;> omega); have hbw := Lib.hid hbw0
  have hadd := fun w => run_sub64 l1 l2 bw a0 b0 a1 b1 hbw0 w
  have q1 := fun (w' : World) (h : Blk w' w.heap.size #[.int .i64 h1, .int .u64 l1] 52) => h.two
  have q2 := fun (w' : World) (h : Blk w' (w.heap.size + 1) #[.int .i64 h2, .int .u64 l2] 52) => h.two
  have q3 := fun (w' : World) (h : Blk w' (w.heap.size + 1 + 1) #[.int .i64 0, .int .u64 0] 52) => h.two
  have q4 := fun (w' : World) (h : Blk w' (w.heap.size + 1 + 1) #[.int .i64 0, .int .u64 0] 52) => h.free0
  clear hbw0
  rcases hd1 : decide (h1 < 0) with _ | _ <;> rcases hd2 : decide (h2 < 0) with _ | _
  · skip
    go_enter Tryd.func46, Tryd.ntmps46
    go_wp2
    generalize hs : wrap64 (wrap64 (h1 - h2) - bw) = s
    have Hs := Lib.hid hs; clear hs
    refine wp_region_held_drew (S := (fun w' => Blk w' w.heap.size #[.int .i64 h1, .int .u64 l1] 52 ∧ Blk w' (w.heap.size + 1) #[.int .i64 h2, .int .u64 l2] 52 ∧ Blk w' (w.heap.size + 1 + 1) #[.int .i64 0, .int .u64 0] 52 ∧ Below w.heap.size w w')) (by kernel_rfl) ?_ (fun hHeld => ?_)
    · exact ⟨(((Blk.new rfl).old _).old _).drew, ((Blk.new (by simp)).old _).drew, (Blk.new (by simp)).drew, ((((Below.refl _ _).alloc (Nat.le_refl _) _).alloc (by simp) _).alloc (by simp; omega) _).drew⟩
    refine H.take 0 (v := ?_) rfl (by kernel_rfl) (fun _ _ _ h => h) (by rfl) ?_ (by assumption) ?_
    rotate_left
    · (intro wz hSw; (try dsimp only at hSw); go_simp <;> with_reducible rfl)
    try simp only [Act.put, List.setIfInBounds_toArray, List.set_cons_zero, List.set_cons_succ]
    refine H.take 2 (v := ?_) rfl (by kernel_rfl) (fun _ _ _ h => h) (by rfl) ?_ (by assumption) ?_
    rotate_left
    · (intro wz hSw; (try dsimp only at hSw); go_simp <;> with_reducible rfl)
    try simp only [Act.put, List.setIfInBounds_toArray, List.set_cons_zero, List.set_cons_succ]
    refine H.ready [1] (by kernel_rfl) (by simp) ?_
    refine H.one rfl (by rfl) (fun K hK => ?_) AllReadyH.nil
    go_simp
    go_at_call 62
    refine (negative_any _ _ _).mono ?_
    rintro e w' ⟨rfl, hb⟩
    refine hK.out _ _ ?_ (fun hHeld2 => ?_)
    · exact ⟨Blk.keep hb hHeld.1, Blk.keep hb hHeld.2.1, Blk.keep hb hHeld.2.2.1, hHeld.2.2.2.trans (hb.mono hHeld.2.2.2.size)⟩
    clear hHeld hK K; have hHeld := hHeld2; clear hHeld2
    try simp only [Act.put, List.setIfInBounds_toArray, List.set_cons_zero, List.set_cons_succ]
    refine H.ready [3] (by kernel_rfl) (by simp) ?_
    refine H.one rfl (by rfl) (fun K hK => ?_) AllReadyH.nil
    go_simp
    go_at_call 62
    refine (negative_any _ _ _).mono ?_
    rintro e w' ⟨rfl, hb⟩
    refine hK.out _ _ ?_ (fun hHeld2 => ?_)
    · exact ⟨Blk.keep hb hHeld.1, Blk.keep hb hHeld.2.1, Blk.keep hb hHeld.2.2.1, hHeld.2.2.2.trans (hb.mono hHeld.2.2.2.size)⟩
    clear hHeld hK K; have hHeld := hHeld2; clear hHeld2
    try simp only [Act.put, List.setIfInBounds_toArray, List.set_cons_zero, List.set_cons_succ]
    refine H.take 4 (v := ?_) rfl (by kernel_rfl) (fun _ _ _ h => h) (by rfl) ?_ (by assumption) ?_
    rotate_left
    · (intro wz hSw; (try dsimp only at hSw); go_simp <;> with_reducible rfl)
    try simp only [Act.put, List.setIfInBounds_toArray, List.set_cons_zero, List.set_cons_succ]
    refine H.take 5 (v := ?_) rfl (by kernel_rfl) (fun _ _ _ h => h) (by rfl) ?_ (by assumption) ?_
    rotate_left
    · (intro wz hSw; (try dsimp only at hSw); go_simp <;> with_reducible rfl)
    try simp only [Act.put, List.setIfInBounds_toArray, List.set_cons_zero, List.set_cons_succ]
    refine H.skip 6 rfl (by kernel_rfl) (fun _ _ _ h => h) (by rfl) (by assumption) ?_
    try simp only [Act.put, List.setIfInBounds_toArray, List.set_cons_zero, List.set_cons_succ]
    refine H.skip 7 rfl (by kernel_rfl) (fun _ _ _ h => h) (by rfl) (by assumption) ?_
    try simp only [Act.put, List.setIfInBounds_toArray, List.set_cons_zero, List.set_cons_succ]
    refine H.skip 8 rfl (by kernel_rfl) (fun _ _ _ h => h) (by rfl) (by assumption) ?_
    try simp only [Act.put, List.setIfInBounds_toArray, List.set_cons_zero, List.set_cons_succ]
    refine H.skip 9 rfl (by kernel_rfl) (fun _ _ _ h => h) (by rfl) (by assumption) ?_
    try simp only [Act.put, List.setIfInBounds_toArray, List.set_cons_zero, List.set_cons_succ]
    refine H.skip 10 rfl (by kernel_rfl) (fun _ _ _ h => h) (by rfl) (by assumption) ?_
    try simp only [Act.put, List.setIfInBounds_toArray, List.set_cons_zero, List.set_cons_succ]
    refine H.take 11 (v := ?_) rfl (by kernel_rfl) (fun _ _ _ h => h) (by rfl) ?_ (by assumption) ?_
    rotate_left
    · (intro wz hSw; (try dsimp only at hSw); go_simp <;> with_reducible rfl)
    try simp only [Act.put, List.setIfInBounds_toArray, List.set_cons_zero, List.set_cons_succ]
    refine H.done (by kernel_rfl) ?_ _
    obtain ⟨g1, g2, g3, g4⟩ := hHeld
    have e1 := of_decide_eq_false hd1; have e2 := of_decide_eq_false hd2
    go_wp2_with (first | (go_at_call 62; refine (negative_any _ _ _).mono ?_; rintro e w' ⟨rfl, hb⟩; replace g3 := Blk.keep hb g3; replace g4 := g4.trans (hb.mono g4.size)) | (go_at_call 63; refine (bound_low _).mono ?_; rintro e w' ⟨rfl, hb⟩; replace g3 := Blk.keep hb g3; replace g4 := g4.trans (hb.mono g4.size)) | (go_at_call 63; refine (bound_high _).mono ?_; rintro e w' ⟨rfl, hb⟩; replace g3 := Blk.keep hb g3; replace g4 := g4.trans (hb.mono g4.size)))
    have hfin := (g3.put (i := 0) (.int .i64 s)).put (i := 1) (.int .u64 ((l1 + 18446744073709551616 - l2) % 18446744073709551616))
    have hres := sub_fits a0 a1 b0 b1 c0 c1 d0 d1 Hs.out hbw.out (by omega)
    exact bodyPost_ret (v := .agg #[.int .i64 s, .int .u64 ((l1 + 18446744073709551616 - l2) % 18446744073709551616)]) (by simp [results, Tryd.results46, go_sem, (show Blk _ _ #[.int .i64 s, .int .u64 ((l1 + 18446744073709551616 - l2) % 18446744073709551616)] _ from hfin).two]) rfl ⟨ret_w hres.1 hres.2, (g4.setCell (by simp; omega) _).setCell (by simp; omega) _⟩
  · skip
    go_enter Tryd.func46, Tryd.ntmps46
    go_wp2
    generalize hs : wrap64 (wrap64 (h1 - h2) - bw) = s
    have Hs := Lib.hid hs; clear hs
    rcases hd3 : decide (s < 0) with _ | _
    · skip
      refine wp_region_held_drew (S := (fun w' => Blk w' w.heap.size #[.int .i64 h1, .int .u64 l1] 52 ∧ Blk w' (w.heap.size + 1) #[.int .i64 h2, .int .u64 l2] 52 ∧ Blk w' (w.heap.size + 1 + 1) #[.int .i64 0, .int .u64 0] 52 ∧ Below w.heap.size w w')) (by kernel_rfl) ?_ (fun hHeld => ?_)
      · exact ⟨(((Blk.new rfl).old _).old _).drew, ((Blk.new (by simp)).old _).drew, (Blk.new (by simp)).drew, ((((Below.refl _ _).alloc (Nat.le_refl _) _).alloc (by simp) _).alloc (by simp; omega) _).drew⟩
      refine H.take 0 (v := ?_) rfl (by kernel_rfl) (fun _ _ _ h => h) (by rfl) ?_ (by assumption) ?_
      rotate_left
      · (intro wz hSw; (try dsimp only at hSw); go_simp <;> with_reducible rfl)
      try simp only [Act.put, List.setIfInBounds_toArray, List.set_cons_zero, List.set_cons_succ]
      refine H.take 2 (v := ?_) rfl (by kernel_rfl) (fun _ _ _ h => h) (by rfl) ?_ (by assumption) ?_
      rotate_left
      · (intro wz hSw; (try dsimp only at hSw); go_simp <;> with_reducible rfl)
      try simp only [Act.put, List.setIfInBounds_toArray, List.set_cons_zero, List.set_cons_succ]
      refine H.ready [1] (by kernel_rfl) (by simp) ?_
      refine H.one rfl (by rfl) (fun K hK => ?_) AllReadyH.nil
      go_simp
      go_at_call 62
      refine (negative_any _ _ _).mono ?_
      rintro e w' ⟨rfl, hb⟩
      refine hK.out _ _ ?_ (fun hHeld2 => ?_)
      · exact ⟨Blk.keep hb hHeld.1, Blk.keep hb hHeld.2.1, Blk.keep hb hHeld.2.2.1, hHeld.2.2.2.trans (hb.mono hHeld.2.2.2.size)⟩
      clear hHeld hK K; have hHeld := hHeld2; clear hHeld2
      try simp only [Act.put, List.setIfInBounds_toArray, List.set_cons_zero, List.set_cons_succ]
      refine H.ready [3] (by kernel_rfl) (by simp) ?_
      refine H.one rfl (by rfl) (fun K hK => ?_) AllReadyH.nil
      go_simp
      go_at_call 62
      refine (negative_any _ _ _).mono ?_
      rintro e w' ⟨rfl, hb⟩
      refine hK.out _ _ ?_ (fun hHeld2 => ?_)
      · exact ⟨Blk.keep hb hHeld.1, Blk.keep hb hHeld.2.1, Blk.keep hb hHeld.2.2.1, hHeld.2.2.2.trans (hb.mono hHeld.2.2.2.size)⟩
      clear hHeld hK K; have hHeld := hHeld2; clear hHeld2
      try simp only [Act.put, List.setIfInBounds_toArray, List.set_cons_zero, List.set_cons_succ]
      refine H.take 4 (v := ?_) rfl (by kernel_rfl) (fun _ _ _ h => h) (by rfl) ?_ (by assumption) ?_
      rotate_left
      · (intro wz hSw; (try dsimp only at hSw); go_simp <;> with_reducible rfl)
      try simp only [Act.put, List.setIfInBounds_toArray, List.set_cons_zero, List.set_cons_succ]
      refine H.take 5 (v := ?_) rfl (by kernel_rfl) (fun _ _ _ h => h) (by rfl) ?_ (by assumption) ?_
      rotate_left
      · (intro wz hSw; (try dsimp only at hSw); go_simp <;> with_reducible rfl)
      try simp only [Act.put, List.setIfInBounds_toArray, List.set_cons_zero, List.set_cons_succ]
      refine H.take 6 (v := ?_) rfl (by kernel_rfl) (fun _ _ _ h => h) (by rfl) ?_ (by assumption) ?_
      rotate_left
      · (intro wz hSw; (try dsimp only at hSw); go_simp <;> with_reducible rfl)
      try simp only [Act.put, List.setIfInBounds_toArray, List.set_cons_zero, List.set_cons_succ]
      refine H.take 7 (v := ?_) rfl (by kernel_rfl) (fun _ _ _ h => h) (by rfl) ?_ (by assumption) ?_
      rotate_left
      · (intro wz hSw; (try dsimp only at hSw); go_simp <;> with_reducible rfl)
      try simp only [Act.put, List.setIfInBounds_toArray, List.set_cons_zero, List.set_cons_succ]
      refine H.take 8 (v := ?_) rfl (by kernel_rfl) (fun _ _ _ h => h) (by rfl) ?_ (by assumption) ?_
      rotate_left
      · (intro wz hSw; (try dsimp only at hSw); go_simp <;> with_reducible rfl)
      try simp only [Act.put, List.setIfInBounds_toArray, List.set_cons_zero, List.set_cons_succ]
      refine H.ready [9] (by kernel_rfl) (by simp) ?_
      refine H.one rfl (by rfl) (fun K hK => ?_) AllReadyH.nil
      go_simp
      go_at_call 62
      refine (negative_any _ _ _).mono ?_
      rintro e w' ⟨rfl, hb⟩
      refine hK.out _ _ ?_ (fun hHeld2 => ?_)
      · exact ⟨Blk.keep hb hHeld.1, Blk.keep hb hHeld.2.1, Blk.keep hb hHeld.2.2.1, hHeld.2.2.2.trans (hb.mono hHeld.2.2.2.size)⟩
      clear hHeld hK K; have hHeld := hHeld2; clear hHeld2
      try simp only [Act.put, List.setIfInBounds_toArray, List.set_cons_zero, List.set_cons_succ]
      refine H.take 10 (v := ?_) rfl (by kernel_rfl) (fun _ _ _ h => h) (by rfl) ?_ (by assumption) ?_
      rotate_left
      · (intro wz hSw; (try dsimp only at hSw); go_simp <;> with_reducible rfl)
      try simp only [Act.put, List.setIfInBounds_toArray, List.set_cons_zero, List.set_cons_succ]
      refine H.take 11 (v := ?_) rfl (by kernel_rfl) (fun _ _ _ h => h) (by rfl) ?_ (by assumption) ?_
      rotate_left
      · (intro wz hSw; (try dsimp only at hSw); go_simp <;> with_reducible rfl)
      try simp only [Act.put, List.setIfInBounds_toArray, List.set_cons_zero, List.set_cons_succ]
      refine H.done (by kernel_rfl) ?_ _
      obtain ⟨g1, g2, g3, g4⟩ := hHeld
      have e1 := of_decide_eq_false hd1; have e2 := of_decide_eq_true hd2
      go_wp2_with (first | (go_at_call 62; refine (negative_any _ _ _).mono ?_; rintro e w' ⟨rfl, hb⟩; replace g3 := Blk.keep hb g3; replace g4 := g4.trans (hb.mono g4.size)) | (go_at_call 63; refine (bound_low _).mono ?_; rintro e w' ⟨rfl, hb⟩; replace g3 := Blk.keep hb g3; replace g4 := g4.trans (hb.mono g4.size)) | (go_at_call 63; refine (bound_high _).mono ?_; rintro e w' ⟨rfl, hb⟩; replace g3 := Blk.keep hb g3; replace g4 := g4.trans (hb.mono g4.size)))
      have e3 := of_decide_eq_false hd3
      have hfin := (g3.put (i := 0) (.int .i64 s)).put (i := 1) (.int .u64 ((l1 + 18446744073709551616 - l2) % 18446744073709551616))
      have hres := sub_fits a0 a1 b0 b1 c0 c1 d0 d1 Hs.out hbw.out (by omega)
      exact bodyPost_ret (v := .agg #[.int .i64 s, .int .u64 ((l1 + 18446744073709551616 - l2) % 18446744073709551616)]) (by simp [results, Tryd.results46, go_sem, (show Blk _ _ #[.int .i64 s, .int .u64 ((l1 + 18446744073709551616 - l2) % 18446744073709551616)] _ from hfin).two]) rfl ⟨ret_w hres.1 hres.2, (g4.setCell (by simp; omega) _).setCell (by simp; omega) _⟩
    · skip
      refine wp_region_held_drew (S := (fun w' => Blk w' w.heap.size #[.int .i64 h1, .int .u64 l1] 52 ∧ Blk w' (w.heap.size + 1) #[.int .i64 h2, .int .u64 l2] 52 ∧ Blk w' (w.heap.size + 1 + 1) #[.int .i64 0, .int .u64 0] 52 ∧ Below w.heap.size w w')) (by kernel_rfl) ?_ (fun hHeld => ?_)
      · exact ⟨(((Blk.new rfl).old _).old _).drew, ((Blk.new (by simp)).old _).drew, (Blk.new (by simp)).drew, ((((Below.refl _ _).alloc (Nat.le_refl _) _).alloc (by simp) _).alloc (by simp; omega) _).drew⟩
      refine H.take 0 (v := ?_) rfl (by kernel_rfl) (fun _ _ _ h => h) (by rfl) ?_ (by assumption) ?_
      rotate_left
      · (intro wz hSw; (try dsimp only at hSw); go_simp <;> with_reducible rfl)
      try simp only [Act.put, List.setIfInBounds_toArray, List.set_cons_zero, List.set_cons_succ]
      refine H.take 2 (v := ?_) rfl (by kernel_rfl) (fun _ _ _ h => h) (by rfl) ?_ (by assumption) ?_
      rotate_left
      · (intro wz hSw; (try dsimp only at hSw); go_simp <;> with_reducible rfl)
      try simp only [Act.put, List.setIfInBounds_toArray, List.set_cons_zero, List.set_cons_succ]
      refine H.ready [1] (by kernel_rfl) (by simp) ?_
      refine H.one rfl (by rfl) (fun K hK => ?_) AllReadyH.nil
      go_simp
      go_at_call 62
      refine (negative_any _ _ _).mono ?_
      rintro e w' ⟨rfl, hb⟩
      refine hK.out _ _ ?_ (fun hHeld2 => ?_)
      · exact ⟨Blk.keep hb hHeld.1, Blk.keep hb hHeld.2.1, Blk.keep hb hHeld.2.2.1, hHeld.2.2.2.trans (hb.mono hHeld.2.2.2.size)⟩
      clear hHeld hK K; have hHeld := hHeld2; clear hHeld2
      try simp only [Act.put, List.setIfInBounds_toArray, List.set_cons_zero, List.set_cons_succ]
      refine H.ready [3] (by kernel_rfl) (by simp) ?_
      refine H.one rfl (by rfl) (fun K hK => ?_) AllReadyH.nil
      go_simp
      go_at_call 62
      refine (negative_any _ _ _).mono ?_
      rintro e w' ⟨rfl, hb⟩
      refine hK.out _ _ ?_ (fun hHeld2 => ?_)
      · exact ⟨Blk.keep hb hHeld.1, Blk.keep hb hHeld.2.1, Blk.keep hb hHeld.2.2.1, hHeld.2.2.2.trans (hb.mono hHeld.2.2.2.size)⟩
      clear hHeld hK K; have hHeld := hHeld2; clear hHeld2
      try simp only [Act.put, List.setIfInBounds_toArray, List.set_cons_zero, List.set_cons_succ]
      refine H.take 4 (v := ?_) rfl (by kernel_rfl) (fun _ _ _ h => h) (by rfl) ?_ (by assumption) ?_
      rotate_left
      · (intro wz hSw; (try dsimp only at hSw); go_simp <;> with_reducible rfl)
      try simp only [Act.put, List.setIfInBounds_toArray, List.set_cons_zero, List.set_cons_succ]
      refine H.take 5 (v := ?_) rfl (by kernel_rfl) (fun _ _ _ h => h) (by rfl) ?_ (by assumption) ?_
      rotate_left
      · (intro wz hSw; (try dsimp only at hSw); go_simp <;> with_reducible rfl)
      try simp only [Act.put, List.setIfInBounds_toArray, List.set_cons_zero, List.set_cons_succ]
      refine H.take 6 (v := ?_) rfl (by kernel_rfl) (fun _ _ _ h => h) (by rfl) ?_ (by assumption) ?_
      rotate_left
      · (intro wz hSw; (try dsimp only at hSw); go_simp <;> with_reducible rfl)
      try simp only [Act.put, List.setIfInBounds_toArray, List.set_cons_zero, List.set_cons_succ]
      refine H.take 7 (v := ?_) rfl (by kernel_rfl) (fun _ _ _ h => h) (by rfl) ?_ (by assumption) ?_
      rotate_left
      · (intro wz hSw; (try dsimp only at hSw); go_simp <;> with_reducible rfl)
      try simp only [Act.put, List.setIfInBounds_toArray, List.set_cons_zero, List.set_cons_succ]
      refine H.take 8 (v := ?_) rfl (by kernel_rfl) (fun _ _ _ h => h) (by rfl) ?_ (by assumption) ?_
      rotate_left
      · (intro wz hSw; (try dsimp only at hSw); go_simp <;> with_reducible rfl)
      try simp only [Act.put, List.setIfInBounds_toArray, List.set_cons_zero, List.set_cons_succ]
      refine H.ready [9] (by kernel_rfl) (by simp) ?_
      refine H.one rfl (by rfl) (fun K hK => ?_) AllReadyH.nil
      go_simp
      go_at_call 62
      refine (negative_any _ _ _).mono ?_
      rintro e w' ⟨rfl, hb⟩
      refine hK.out _ _ ?_ (fun hHeld2 => ?_)
      · exact ⟨Blk.keep hb hHeld.1, Blk.keep hb hHeld.2.1, Blk.keep hb hHeld.2.2.1, hHeld.2.2.2.trans (hb.mono hHeld.2.2.2.size)⟩
      clear hHeld hK K; have hHeld := hHeld2; clear hHeld2
      try simp only [Act.put, List.setIfInBounds_toArray, List.set_cons_zero, List.set_cons_succ]
      refine H.take 10 (v := ?_) rfl (by kernel_rfl) (fun _ _ _ h => h) (by rfl) ?_ (by assumption) ?_
      rotate_left
      · (intro wz hSw; (try dsimp only at hSw); go_simp <;> with_reducible rfl)
      try simp only [Act.put, List.setIfInBounds_toArray, List.set_cons_zero, List.set_cons_succ]
      refine H.take 11 (v := ?_) rfl (by kernel_rfl) (fun _ _ _ h => h) (by rfl) ?_ (by assumption) ?_
      rotate_left
      · (intro wz hSw; (try dsimp only at hSw); go_simp <;> with_reducible rfl)
      try simp only [Act.put, List.setIfInBounds_toArray, List.set_cons_zero, List.set_cons_succ]
      refine H.done (by kernel_rfl) ?_ _
      obtain ⟨g1, g2, g3, g4⟩ := hHeld
      have e1 := of_decide_eq_false hd1; have e2 := of_decide_eq_true hd2
      go_wp2_with (first | (go_at_call 62; refine (negative_any _ _ _).mono ?_; rintro e w' ⟨rfl, hb⟩; replace g3 := Blk.keep hb g3; replace g4 := g4.trans (hb.mono g4.size)) | (go_at_call 63; refine (bound_low _).mono ?_; rintro e w' ⟨rfl, hb⟩; replace g3 := Blk.keep hb g3; replace g4 := g4.trans (hb.mono g4.size)) | (go_at_call 63; refine (bound_high _).mono ?_; rintro e w' ⟨rfl, hb⟩; replace g3 := Blk.keep hb g3; replace g4 := g4.trans (hb.mono g4.size)))
      have e3 := of_decide_eq_true hd3
      have hfin := (g3.put (i := 0) (.int .i64 9223372036854775807)).put (i := 1) (.int .u64 18446744073709551615)
      have hres := sub_high a0 a1 b0 b1 (by omega) (by omega) Hs.out hbw.out (by omega) (by omega) (by omega)
      exact bodyPost_ret (v := .agg #[.int .i64 9223372036854775807, .int .u64 18446744073709551615]) (by simp [results, Tryd.results46, go_sem, (show Blk _ _ #[.int .i64 9223372036854775807, .int .u64 18446744073709551615] _ from hfin).two]) rfl ⟨ret_w hres.1 hres.2, (g4.setCell (by simp; omega) _).setCell (by simp; omega) _⟩
  · skip
    go_enter Tryd.func46, Tryd.ntmps46
    go_wp2
    generalize hs : wrap64 (wrap64 (h1 - h2) - bw) = s
    have Hs := Lib.hid hs; clear hs
    rcases hd3 : decide (s < 0) with _ | _
    · skip
      refine wp_region_held_drew (S := (fun w' => Blk w' w.heap.size #[.int .i64 h1, .int .u64 l1] 52 ∧ Blk w' (w.heap.size + 1) #[.int .i64 h2, .int .u64 l2] 52 ∧ Blk w' (w.heap.size + 1 + 1) #[.int .i64 0, .int .u64 0] 52 ∧ Below w.heap.size w w')) (by kernel_rfl) ?_ (fun hHeld => ?_)
      · exact ⟨(((Blk.new rfl).old _).old _).drew, ((Blk.new (by simp)).old _).drew, (Blk.new (by simp)).drew, ((((Below.refl _ _).alloc (Nat.le_refl _) _).alloc (by simp) _).alloc (by simp; omega) _).drew⟩
      refine H.take 0 (v := ?_) rfl (by kernel_rfl) (fun _ _ _ h => h) (by rfl) ?_ (by assumption) ?_
      rotate_left
      · (intro wz hSw; (try dsimp only at hSw); go_simp <;> with_reducible rfl)
      try simp only [Act.put, List.setIfInBounds_toArray, List.set_cons_zero, List.set_cons_succ]
      refine H.take 2 (v := ?_) rfl (by kernel_rfl) (fun _ _ _ h => h) (by rfl) ?_ (by assumption) ?_
      rotate_left
      · (intro wz hSw; (try dsimp only at hSw); go_simp <;> with_reducible rfl)
      try simp only [Act.put, List.setIfInBounds_toArray, List.set_cons_zero, List.set_cons_succ]
      refine H.ready [1] (by kernel_rfl) (by simp) ?_
      refine H.one rfl (by rfl) (fun K hK => ?_) AllReadyH.nil
      go_simp
      go_at_call 62
      refine (negative_any _ _ _).mono ?_
      rintro e w' ⟨rfl, hb⟩
      refine hK.out _ _ ?_ (fun hHeld2 => ?_)
      · exact ⟨Blk.keep hb hHeld.1, Blk.keep hb hHeld.2.1, Blk.keep hb hHeld.2.2.1, hHeld.2.2.2.trans (hb.mono hHeld.2.2.2.size)⟩
      clear hHeld hK K; have hHeld := hHeld2; clear hHeld2
      try simp only [Act.put, List.setIfInBounds_toArray, List.set_cons_zero, List.set_cons_succ]
      refine H.ready [3] (by kernel_rfl) (by simp) ?_
      refine H.one rfl (by rfl) (fun K hK => ?_) AllReadyH.nil
      go_simp
      go_at_call 62
      refine (negative_any _ _ _).mono ?_
      rintro e w' ⟨rfl, hb⟩
      refine hK.out _ _ ?_ (fun hHeld2 => ?_)
      · exact ⟨Blk.keep hb hHeld.1, Blk.keep hb hHeld.2.1, Blk.keep hb hHeld.2.2.1, hHeld.2.2.2.trans (hb.mono hHeld.2.2.2.size)⟩
      clear hHeld hK K; have hHeld := hHeld2; clear hHeld2
      try simp only [Act.put, List.setIfInBounds_toArray, List.set_cons_zero, List.set_cons_succ]
      refine H.take 4 (v := ?_) rfl (by kernel_rfl) (fun _ _ _ h => h) (by rfl) ?_ (by assumption) ?_
      rotate_left
      · (intro wz hSw; (try dsimp only at hSw); go_simp <;> with_reducible rfl)
      try simp only [Act.put, List.setIfInBounds_toArray, List.set_cons_zero, List.set_cons_succ]
      refine H.take 5 (v := ?_) rfl (by kernel_rfl) (fun _ _ _ h => h) (by rfl) ?_ (by assumption) ?_
      rotate_left
      · (intro wz hSw; (try dsimp only at hSw); go_simp <;> with_reducible rfl)
      try simp only [Act.put, List.setIfInBounds_toArray, List.set_cons_zero, List.set_cons_succ]
      refine H.take 6 (v := ?_) rfl (by kernel_rfl) (fun _ _ _ h => h) (by rfl) ?_ (by assumption) ?_
      rotate_left
      · (intro wz hSw; (try dsimp only at hSw); go_simp <;> with_reducible rfl)
      try simp only [Act.put, List.setIfInBounds_toArray, List.set_cons_zero, List.set_cons_succ]
      refine H.take 7 (v := ?_) rfl (by kernel_rfl) (fun _ _ _ h => h) (by rfl) ?_ (by assumption) ?_
      rotate_left
      · (intro wz hSw; (try dsimp only at hSw); go_simp <;> with_reducible rfl)
      try simp only [Act.put, List.setIfInBounds_toArray, List.set_cons_zero, List.set_cons_succ]
      refine H.take 8 (v := ?_) rfl (by kernel_rfl) (fun _ _ _ h => h) (by rfl) ?_ (by assumption) ?_
      rotate_left
      · (intro wz hSw; (try dsimp only at hSw); go_simp <;> with_reducible rfl)
      try simp only [Act.put, List.setIfInBounds_toArray, List.set_cons_zero, List.set_cons_succ]
      refine H.ready [9] (by kernel_rfl) (by simp) ?_
      refine H.one rfl (by rfl) (fun K hK => ?_) AllReadyH.nil
      go_simp
      go_at_call 62
      refine (negative_any _ _ _).mono ?_
      rintro e w' ⟨rfl, hb⟩
      refine hK.out _ _ ?_ (fun hHeld2 => ?_)
      · exact ⟨Blk.keep hb hHeld.1, Blk.keep hb hHeld.2.1, Blk.keep hb hHeld.2.2.1, hHeld.2.2.2.trans (hb.mono hHeld.2.2.2.size)⟩
      clear hHeld hK K; have hHeld := hHeld2; clear hHeld2
      try simp only [Act.put, List.setIfInBounds_toArray, List.set_cons_zero, List.set_cons_succ]
      refine H.take 10 (v := ?_) rfl (by kernel_rfl) (fun _ _ _ h => h) (by rfl) ?_ (by assumption) ?_
      rotate_left
      · (intro wz hSw; (try dsimp only at hSw); go_simp <;> with_reducible rfl)
      try simp only [Act.put, List.setIfInBounds_toArray, List.set_cons_zero, List.set_cons_succ]
      refine H.take 11 (v := ?_) rfl (by kernel_rfl) (fun _ _ _ h => h) (by rfl) ?_ (by assumption) ?_
      rotate_left
      · (intro wz hSw; (try dsimp only at hSw); go_simp <;> with_reducible rfl)
      try simp only [Act.put, List.setIfInBounds_toArray, List.set_cons_zero, List.set_cons_succ]
      refine H.done (by kernel_rfl) ?_ _
      obtain ⟨g1, g2, g3, g4⟩ := hHeld
      have e1 := of_decide_eq_true hd1; have e2 := of_decide_eq_false hd2
      go_wp2_with (first | (go_at_call 62; refine (negative_any _ _ _).mono ?_; rintro e w' ⟨rfl, hb⟩; replace g3 := Blk.keep hb g3; replace g4 := g4.trans (hb.mono g4.size)) | (go_at_call 63; refine (bound_low _).mono ?_; rintro e w' ⟨rfl, hb⟩; replace g3 := Blk.keep hb g3; replace g4 := g4.trans (hb.mono g4.size)) | (go_at_call 63; refine (bound_high _).mono ?_; rintro e w' ⟨rfl, hb⟩; replace g3 := Blk.keep hb g3; replace g4 := g4.trans (hb.mono g4.size)))
      have e3 := of_decide_eq_false hd3
      have hfin := (g3.put (i := 0) (.int .i64 (-9223372036854775808))).put (i := 1) (.int .u64 0)
      have hres := sub_low a0 a1 b0 b1 (by omega) (by omega) Hs.out hbw.out (by omega) (by omega) (by omega)
      exact bodyPost_ret (v := .agg #[.int .i64 (-9223372036854775808), .int .u64 0]) (by simp [results, Tryd.results46, go_sem, (show Blk _ _ #[.int .i64 (-9223372036854775808), .int .u64 0] _ from hfin).two]) rfl ⟨ret_w hres.1 hres.2, (g4.setCell (by simp; omega) _).setCell (by simp; omega) _⟩
    · skip
      refine wp_region_held_drew (S := (fun w' => Blk w' w.heap.size #[.int .i64 h1, .int .u64 l1] 52 ∧ Blk w' (w.heap.size + 1) #[.int .i64 h2, .int .u64 l2] 52 ∧ Blk w' (w.heap.size + 1 + 1) #[.int .i64 0, .int .u64 0] 52 ∧ Below w.heap.size w w')) (by kernel_rfl) ?_ (fun hHeld => ?_)
      · exact ⟨(((Blk.new rfl).old _).old _).drew, ((Blk.new (by simp)).old _).drew, (Blk.new (by simp)).drew, ((((Below.refl _ _).alloc (Nat.le_refl _) _).alloc (by simp) _).alloc (by simp; omega) _).drew⟩
      refine H.take 0 (v := ?_) rfl (by kernel_rfl) (fun _ _ _ h => h) (by rfl) ?_ (by assumption) ?_
      rotate_left
      · (intro wz hSw; (try dsimp only at hSw); go_simp <;> with_reducible rfl)
      try simp only [Act.put, List.setIfInBounds_toArray, List.set_cons_zero, List.set_cons_succ]
      refine H.take 2 (v := ?_) rfl (by kernel_rfl) (fun _ _ _ h => h) (by rfl) ?_ (by assumption) ?_
      rotate_left
      · (intro wz hSw; (try dsimp only at hSw); go_simp <;> with_reducible rfl)
      try simp only [Act.put, List.setIfInBounds_toArray, List.set_cons_zero, List.set_cons_succ]
      refine H.ready [1] (by kernel_rfl) (by simp) ?_
      refine H.one rfl (by rfl) (fun K hK => ?_) AllReadyH.nil
      go_simp
      go_at_call 62
      refine (negative_any _ _ _).mono ?_
      rintro e w' ⟨rfl, hb⟩
      refine hK.out _ _ ?_ (fun hHeld2 => ?_)
      · exact ⟨Blk.keep hb hHeld.1, Blk.keep hb hHeld.2.1, Blk.keep hb hHeld.2.2.1, hHeld.2.2.2.trans (hb.mono hHeld.2.2.2.size)⟩
      clear hHeld hK K; have hHeld := hHeld2; clear hHeld2
      try simp only [Act.put, List.setIfInBounds_toArray, List.set_cons_zero, List.set_cons_succ]
      refine H.ready [3] (by kernel_rfl) (by simp) ?_
      refine H.one rfl (by rfl) (fun K hK => ?_) AllReadyH.nil
      go_simp
      go_at_call 62
      refine (negative_any _ _ _).mono ?_
      rintro e w' ⟨rfl, hb⟩
      refine hK.out _ _ ?_ (fun hHeld2 => ?_)
      · exact ⟨Blk.keep hb hHeld.1, Blk.keep hb hHeld.2.1, Blk.keep hb hHeld.2.2.1, hHeld.2.2.2.trans (hb.mono hHeld.2.2.2.size)⟩
      clear hHeld hK K; have hHeld := hHeld2; clear hHeld2
      try simp only [Act.put, List.setIfInBounds_toArray, List.set_cons_zero, List.set_cons_succ]
      refine H.take 4 (v := ?_) rfl (by kernel_rfl) (fun _ _ _ h => h) (by rfl) ?_ (by assumption) ?_
      rotate_left
      · (intro wz hSw; (try dsimp only at hSw); go_simp <;> with_reducible rfl)
      try simp only [Act.put, List.setIfInBounds_toArray, List.set_cons_zero, List.set_cons_succ]
      refine H.take 5 (v := ?_) rfl (by kernel_rfl) (fun _ _ _ h => h) (by rfl) ?_ (by assumption) ?_
      rotate_left
      · (intro wz hSw; (try dsimp only at hSw); go_simp <;> with_reducible rfl)
      try simp only [Act.put, List.setIfInBounds_toArray, List.set_cons_zero, List.set_cons_succ]
      refine H.take 6 (v := ?_) rfl (by kernel_rfl) (fun _ _ _ h => h) (by rfl) ?_ (by assumption) ?_
      rotate_left
      · (intro wz hSw; (try dsimp only at hSw); go_simp <;> with_reducible rfl)
      try simp only [Act.put, List.setIfInBounds_toArray, List.set_cons_zero, List.set_cons_succ]
      refine H.take 7 (v := ?_) rfl (by kernel_rfl) (fun _ _ _ h => h) (by rfl) ?_ (by assumption) ?_
      rotate_left
      · (intro wz hSw; (try dsimp only at hSw); go_simp <;> with_reducible rfl)
      try simp only [Act.put, List.setIfInBounds_toArray, List.set_cons_zero, List.set_cons_succ]
      refine H.take 8 (v := ?_) rfl (by kernel_rfl) (fun _ _ _ h => h) (by rfl) ?_ (by assumption) ?_
      rotate_left
      · (intro wz hSw; (try dsimp only at hSw); go_simp <;> with_reducible rfl)
      try simp only [Act.put, List.setIfInBounds_toArray, List.set_cons_zero, List.set_cons_succ]
      refine H.ready [9] (by kernel_rfl) (by simp) ?_
      refine H.one rfl (by rfl) (fun K hK => ?_) AllReadyH.nil
      go_simp
      go_at_call 62
      refine (negative_any _ _ _).mono ?_
      rintro e w' ⟨rfl, hb⟩
      refine hK.out _ _ ?_ (fun hHeld2 => ?_)
      · exact ⟨Blk.keep hb hHeld.1, Blk.keep hb hHeld.2.1, Blk.keep hb hHeld.2.2.1, hHeld.2.2.2.trans (hb.mono hHeld.2.2.2.size)⟩
      clear hHeld hK K; have hHeld := hHeld2; clear hHeld2
      try simp only [Act.put, List.setIfInBounds_toArray, List.set_cons_zero, List.set_cons_succ]
      refine H.take 10 (v := ?_) rfl (by kernel_rfl) (fun _ _ _ h => h) (by rfl) ?_ (by assumption) ?_
      rotate_left
      · (intro wz hSw; (try dsimp only at hSw); go_simp <;> with_reducible rfl)
      try simp only [Act.put, List.setIfInBounds_toArray, List.set_cons_zero, List.set_cons_succ]
      refine H.take 11 (v := ?_) rfl (by kernel_rfl) (fun _ _ _ h => h) (by rfl) ?_ (by assumption) ?_
      rotate_left
      · (intro wz hSw; (try dsimp only at hSw); go_simp <;> with_reducible rfl)
      try simp only [Act.put, List.setIfInBounds_toArray, List.set_cons_zero, List.set_cons_succ]
      refine H.done (by kernel_rfl) ?_ _
      obtain ⟨g1, g2, g3, g4⟩ := hHeld
      have e1 := of_decide_eq_true hd1; have e2 := of_decide_eq_false hd2
      go_wp2_with (first | (go_at_call 62; refine (negative_any _ _ _).mono ?_; rintro e w' ⟨rfl, hb⟩; replace g3 := Blk.keep hb g3; replace g4 := g4.trans (hb.mono g4.size)) | (go_at_call 63; refine (bound_low _).mono ?_; rintro e w' ⟨rfl, hb⟩; replace g3 := Blk.keep hb g3; replace g4 := g4.trans (hb.mono g4.size)) | (go_at_call 63; refine (bound_high _).mono ?_; rintro e w' ⟨rfl, hb⟩; replace g3 := Blk.keep hb g3; replace g4 := g4.trans (hb.mono g4.size)))
      have e3 := of_decide_eq_true hd3
      have hfin := (g3.put (i := 0) (.int .i64 s)).put (i := 1) (.int .u64 ((l1 + 18446744073709551616 - l2) % 18446744073709551616))
      have hres := sub_fits a0 a1 b0 b1 c0 c1 d0 d1 Hs.out hbw.out (by omega)
      exact bodyPost_ret (v := .agg #[.int .i64 s, .int .u64 ((l1 + 18446744073709551616 - l2) % 18446744073709551616)]) (by simp [results, Tryd.results46, go_sem, (show Blk _ _ #[.int .i64 s, .int .u64 ((l1 + 18446744073709551616 - l2) % 18446744073709551616)] _ from hfin).two]) rfl ⟨ret_w hres.1 hres.2, (g4.setCell (by simp; omega) _).setCell (by simp; omega) _⟩
  · skip
    go_enter Tryd.func46, Tryd.ntmps46
    go_wp2
    generalize hs : wrap64 (wrap64 (h1 - h2) - bw) = s
    have Hs := Lib.hid hs; clear hs
    refine wp_region_held_drew (S := (fun w' => Blk w' w.heap.size #[.int .i64 h1, .int .u64 l1] 52 ∧ Blk w' (w.heap.size + 1) #[.int .i64 h2, .int .u64 l2] 52 ∧ Blk w' (w.heap.size + 1 + 1) #[.int .i64 0, .int .u64 0] 52 ∧ Below w.heap.size w w')) (by kernel_rfl) ?_ (fun hHeld => ?_)
    · exact ⟨(((Blk.new rfl).old _).old _).drew, ((Blk.new (by simp)).old _).drew, (Blk.new (by simp)).drew, ((((Below.refl _ _).alloc (Nat.le_refl _) _).alloc (by simp) _).alloc (by simp; omega) _).drew⟩
    refine H.take 0 (v := ?_) rfl (by kernel_rfl) (fun _ _ _ h => h) (by rfl) ?_ (by assumption) ?_
    rotate_left
    · (intro wz hSw; (try dsimp only at hSw); go_simp <;> with_reducible rfl)
    try simp only [Act.put, List.setIfInBounds_toArray, List.set_cons_zero, List.set_cons_succ]
    refine H.take 2 (v := ?_) rfl (by kernel_rfl) (fun _ _ _ h => h) (by rfl) ?_ (by assumption) ?_
    rotate_left
    · (intro wz hSw; (try dsimp only at hSw); go_simp <;> with_reducible rfl)
    try simp only [Act.put, List.setIfInBounds_toArray, List.set_cons_zero, List.set_cons_succ]
    refine H.ready [1] (by kernel_rfl) (by simp) ?_
    refine H.one rfl (by rfl) (fun K hK => ?_) AllReadyH.nil
    go_simp
    go_at_call 62
    refine (negative_any _ _ _).mono ?_
    rintro e w' ⟨rfl, hb⟩
    refine hK.out _ _ ?_ (fun hHeld2 => ?_)
    · exact ⟨Blk.keep hb hHeld.1, Blk.keep hb hHeld.2.1, Blk.keep hb hHeld.2.2.1, hHeld.2.2.2.trans (hb.mono hHeld.2.2.2.size)⟩
    clear hHeld hK K; have hHeld := hHeld2; clear hHeld2
    try simp only [Act.put, List.setIfInBounds_toArray, List.set_cons_zero, List.set_cons_succ]
    refine H.ready [3] (by kernel_rfl) (by simp) ?_
    refine H.one rfl (by rfl) (fun K hK => ?_) AllReadyH.nil
    go_simp
    go_at_call 62
    refine (negative_any _ _ _).mono ?_
    rintro e w' ⟨rfl, hb⟩
    refine hK.out _ _ ?_ (fun hHeld2 => ?_)
    · exact ⟨Blk.keep hb hHeld.1, Blk.keep hb hHeld.2.1, Blk.keep hb hHeld.2.2.1, hHeld.2.2.2.trans (hb.mono hHeld.2.2.2.size)⟩
    clear hHeld hK K; have hHeld := hHeld2; clear hHeld2
    try simp only [Act.put, List.setIfInBounds_toArray, List.set_cons_zero, List.set_cons_succ]
    refine H.take 4 (v := ?_) rfl (by kernel_rfl) (fun _ _ _ h => h) (by rfl) ?_ (by assumption) ?_
    rotate_left
    · (intro wz hSw; (try dsimp only at hSw); go_simp <;> with_reducible rfl)
    try simp only [Act.put, List.setIfInBounds_toArray, List.set_cons_zero, List.set_cons_succ]
    refine H.take 5 (v := ?_) rfl (by kernel_rfl) (fun _ _ _ h => h) (by rfl) ?_ (by assumption) ?_
    rotate_left
    · (intro wz hSw; (try dsimp only at hSw); go_simp <;> with_reducible rfl)
    try simp only [Act.put, List.setIfInBounds_toArray, List.set_cons_zero, List.set_cons_succ]
    refine H.skip 6 rfl (by kernel_rfl) (fun _ _ _ h => h) (by rfl) (by assumption) ?_
    try simp only [Act.put, List.setIfInBounds_toArray, List.set_cons_zero, List.set_cons_succ]
    refine H.skip 7 rfl (by kernel_rfl) (fun _ _ _ h => h) (by rfl) (by assumption) ?_
    try simp only [Act.put, List.setIfInBounds_toArray, List.set_cons_zero, List.set_cons_succ]
    refine H.skip 8 rfl (by kernel_rfl) (fun _ _ _ h => h) (by rfl) (by assumption) ?_
    try simp only [Act.put, List.setIfInBounds_toArray, List.set_cons_zero, List.set_cons_succ]
    refine H.skip 9 rfl (by kernel_rfl) (fun _ _ _ h => h) (by rfl) (by assumption) ?_
    try simp only [Act.put, List.setIfInBounds_toArray, List.set_cons_zero, List.set_cons_succ]
    refine H.skip 10 rfl (by kernel_rfl) (fun _ _ _ h => h) (by rfl) (by assumption) ?_
    try simp only [Act.put, List.setIfInBounds_toArray, List.set_cons_zero, List.set_cons_succ]
    refine H.take 11 (v := ?_) rfl (by kernel_rfl) (fun _ _ _ h => h) (by rfl) ?_ (by assumption) ?_
    rotate_left
    · (intro wz hSw; (try dsimp only at hSw); go_simp <;> with_reducible rfl)
    try simp only [Act.put, List.setIfInBounds_toArray, List.set_cons_zero, List.set_cons_succ]
    refine H.done (by kernel_rfl) ?_ _
    obtain ⟨g1, g2, g3, g4⟩ := hHeld
    have e1 := of_decide_eq_true hd1; have e2 := of_decide_eq_true hd2
    go_wp2_with (first | (go_at_call 62; refine (negative_any _ _ _).mono ?_; rintro e w' ⟨rfl, hb⟩; replace g3 := Blk.keep hb g3; replace g4 := g4.trans (hb.mono g4.size)) | (go_at_call 63; refine (bound_low _).mono ?_; rintro e w' ⟨rfl, hb⟩; replace g3 := Blk.keep hb g3; replace g4 := g4.trans (hb.mono g4.size)) | (go_at_call 63; refine (bound_high _).mono ?_; rintro e w' ⟨rfl, hb⟩; replace g3 := Blk.keep hb g3; replace g4 := g4.trans (hb.mono g4.size)))
    have hfin := (g3.put (i := 0) (.int .i64 s)).put (i := 1) (.int .u64 ((l1 + 18446744073709551616 - l2) % 18446744073709551616))
    have hres := sub_fits a0 a1 b0 b1 c0 c1 d0 d1 Hs.out hbw.out (by omega)
    exact bodyPost_ret (v := .agg #[.int .i64 s, .int .u64 ((l1 + 18446744073709551616 - l2) % 18446744073709551616)]) (by simp [results, Tryd.results46, go_sem, (show Blk _ _ #[.int .i64 s, .int .u64 ((l1 + 18446744073709551616 - l2) % 18446744073709551616)] _ from hfin).two]) rfl ⟨ret_w hres.1 hres.2, (g4.setCell (by simp; omega) _).setCell (by simp; omega) _⟩

end Go.Proofs.YtecmhjhjmhliiaaDoor

/-
  DERIVED: THE SHELF's CONTRACTS AT THIS DUMP, IN PLAIN WORDS (tools/lay-plain.mjs out of 'TrydShelf.lean', which tools/lay-shelf.mjs wrote): THE SAME DECLARATIONS UNDER THE SAME NAMES: 'import', 'namespace', 'open', 'def', 'theorem' AND NOTHING ELSE: no command of the shelf's: FOR A HAND-IN. Each laying: the table of numbers ('.._ren') and one theorem, a field a fact of the dump's own or the kernel's comparison; each contract: ONE APPLICATION.
-/
namespace Go.Proofs
open Go.Shelf
def Tryd.lays134_ren : Go.Shelf.Ren := ⟨fun | 134 => 77 | 129 => 80 | n => n, fun | 53 => 36 | 3 => 3 | 4 => 4 | 46 => 77 | 5 => 5 | 9 => 9 | n => n, fun | n => n⟩
theorem Tryd.lays134 : Go.Proofs.Lays.n134 Tryd.prog Tryd.lays134_ren := {
  mixed := by kernel_rfl
  f129 := Tryd.func80.trans (congrArg some (by kernel_rfl))
  f134 := Tryd.func77.trans (congrArg some (by kernel_rfl))
  t3 := Tryd.underlying3
  a3 := Tryd.isAgg3
  z3 := Tryd.sizeOf3
  v3 := Tryd.zeroValue3
  t4 := Tryd.underlying4
  a4 := Tryd.isAgg4
  z4 := Tryd.sizeOf4
  v4 := Tryd.zeroValue4
  t5 := Tryd.underlying5
  a5 := Tryd.isAgg5
  z5 := Tryd.sizeOf5
  v5 := Tryd.zeroValue5
  t9 := Tryd.underlying9
  a9 := Tryd.isAgg9
  z9 := Tryd.sizeOf9
  v9 := Tryd.zeroValue9
  t46 := Tryd.underlying77
  a46 := Tryd.isAgg77
  z46 := Tryd.sizeOf77
  v46 := Tryd.zeroValue77
  t53 := Tryd.underlying36
  a53 := Tryd.isAgg36
  z53 := Tryd.sizeOf36
  v53 := Tryd.zeroValue36 }
/-- bits.LeadingZeros64: "LeadingZeros64 returns the number of leading zero bits in x; the result is 64 for x == 0.": IT RETURNS '64 - Lib.bitLen x'; the world is as it was. ITS CALLEE bits.Len64 IS MET BY ITS OWN CONTRACT OFF THE SHELF (lay that first): entered in place it sends the kernel out of memory. (LAID: no walk: one application.) -/
theorem Tryd.bits_LeadingZeros64 (x : Int) (w : World) (h0 : 0 ≤ x) (h1 : x ≤ 18446744073709551615) :
    Calls Tryd.prog 77 #[.int .u64 x] w fun e w' => e = .returned (.int .i64 (64 - (Lib.bitLen x.toNat : Int))) ∧ w' = w := Any.bits_LeadingZeros64 Tryd.lays134 x w h0 h1
def Tryd.lays129_ren : Go.Shelf.Ren := ⟨fun | 129 => 80 | n => n, fun | 53 => 36 | 3 => 3 | 4 => 4 | 46 => 77 | 5 => 5 | 9 => 9 | n => n, fun | n => n⟩
def Tryd.lays264_ren : Go.Shelf.Ren := ⟨fun | 264 => 73 | n => n, fun | 53 => 36 | 46 => 77 | n => n, fun | n => n⟩
theorem Tryd.lays264 : Go.Proofs.Lays.n264 Tryd.prog Tryd.lays264_ren := {
  mixed := by kernel_rfl
  f264 := Tryd.func73.trans (congrArg some (by kernel_rfl))
  t46 := Tryd.underlying77
  a46 := Tryd.isAgg77
  z46 := Tryd.sizeOf77
  v46 := Tryd.zeroValue77
  t53 := Tryd.underlying36
  a53 := Tryd.isAgg36
  z53 := Tryd.sizeOf36
  v53 := Tryd.zeroValue36 }
open Go.RowKit Go.Lib in
theorem Tryd.bits_Mul64 (x y : Nat) (hx : x < 18446744073709551616) (hy : y < 18446744073709551616) (w : World) :
    Calls Tryd.prog 73 #[.int .u64 x, .int .u64 y] w fun e w' => e = .returned (.tuple #[.int .u64 ((x * y / 18446744073709551616 : Nat) : Int), .int .u64 ((x * y % 18446744073709551616 : Nat) : Int)]) ∧ w' = w := Any.bits_Mul64 Tryd.lays264 x y hx hy w
end Go.Proofs


/-
  Contracts of package wide: Neg, Abs, Cmp, Half, magnitude, signer.
-/


namespace Go.Proofs.YtecmhjhjmhliiaaDoor

set_option maxRecDepth 100000

open Go.RowKit

set_option maxHeartbeats 1000000 in
theorem neg_any (h l : Int) (a0 : 0 ≤ l) (a1 : l ≤ 18446744073709551615) (c0 : -9223372036854775808 ≤ h) (c1 : h ≤ 9223372036854775807) (w : World) :
    Calls Tryd.prog 79 #[.agg #[.int .i64 h, .int .u64 l]] w fun e w' =>
      e = .returned (.agg #[.int .i64 (hi (clamp (-(h * 18446744073709551616 + l)))), .int .u64 (lo (clamp (-(h * 18446744073709551616 + l))))]) ∧ Below w.heap.size w w' := by
  have hsub := fun w => sub_any 0 0 h l (by omega) (by omega) a0 a1 (by omega) (by omega) c0 c1 w
  rw [show (0 : Int) * 18446744073709551616 + 0 - (h * 18446744073709551616 + l) = -(h * 18446744073709551616 + l) from by omega] at hsub
  generalize hr : clamp (-(h * 18446744073709551616 + l)) = r at *
  have q1 := fun (w' : World) (h : Blk w' (w.heap.size + 1) #[.int .i64 0, .int .u64 0] 52) => h.two
  have q2 := fun (w' : World) (h : Blk w' (w.heap.size + 1) #[.int .i64 0, .int .u64 0] 52) => h.free0
  have HS := Lib.hid hsub; clear hsub hr
  go_enter Tryd.func79, Tryd.ntmps79
  go_wp2_with (go_at_call 46; refine (HS.out _).mono ?_; rintro e w' ⟨rfl, hb⟩; have g := Blk.keep hb (Blk.new (b := w.heap.size + 1) (T := 52) (by simp)); have g4 := (((Below.refl w.heap.size w).alloc (Nat.le_refl _) _).alloc (by simp) _).trans (hb.mono (by simp; omega)))
  have hfin := (g.put (i := 0) (.int .i64 (hi r))).put (i := 1) (.int .u64 (lo r))
  exact bodyPost_ret (v := .agg #[.int .i64 (hi r), .int .u64 (lo r)]) (by simp [results, Tryd.results79, go_sem, (show Blk _ _ #[.int .i64 (hi r), .int .u64 (lo r)] _ from hfin).two]) rfl ⟨rfl, (g4.setCell (by simp) _).setCell (by simp) _⟩

theorem or_u64 {a b p : Int} (k : Nat) (hp : p = ((2 ^ k : Nat) : Int)) (ha : a % p = 0) (a0 : 0 ≤ a) (a1 : a ≤ 18446744073709551615) (b0 : 0 ≤ b) (b1 : b < p) (hb : b ≤ 18446744073709551615) :
    bits .or .u64 a b = a + b := by
  obtain ⟨x, rfl⟩ := Int.eq_ofNat_of_zero_le a0
  obtain ⟨y, rfl⟩ := Int.eq_ofNat_of_zero_le b0
  subst hp
  rw [bits_or_u64_nat x y (by omega) (by omega)]
  have hx : x % 2 ^ k = 0 := by exact_mod_cast ha
  have hy : y < 2 ^ k := by exact_mod_cast b1
  have hd : 2 ^ k * (x / 2 ^ k) = x := Nat.mul_div_cancel' (Nat.dvd_of_mod_eq_zero hx)
  have := Nat.two_pow_add_eq_or_of_lt hy (x / 2 ^ k)
  rw [hd] at this
  rw [← this]; push_cast; rfl

/-- The size of a number. -/
def sz (n : Int) : Int := if n < 0 then -n else n
theorem sz_pos {n : Int} (h : 0 ≤ n) : sz n = n := by unfold sz; rw [if_neg (by omega)]
theorem sz_neg {n : Int} (h : n < 0) : sz n = -n := by unfold sz; rw [if_pos h]
theorem sz_bd {n : Int} (h : InR n) : 0 ≤ sz n ∧ sz n ≤ 170141183460469231731687303715884105728 := by unfold InR at h; unfold sz; split <;> omega

set_option maxHeartbeats 1000000 in
theorem magnitude_pos {h : Int} (l : Int) (c1 : h ≤ 9223372036854775807) (hn : ¬ h < 0) (w : World) :
    Calls Tryd.prog 67 #[.agg #[.int .i64 h, .int .u64 l]] w fun e w' =>
      e = .returned (.tuple #[.int .u64 h, .int .u64 l]) ∧ Below w.heap.size w w' := by
  have e1 : IntKind.u64.wrap h = h := by rw [IntKind.wrap_u64]; omega
  have q1 := fun (w' : World) (h : Blk w' (w.heap.size) #[.int .i64 h, .int .u64 l] 52) => h.two
  go_enter Tryd.func67, Tryd.ntmps67
  go_wp2_with (go_at_call 62; refine (negative_no _ hn _).mono ?_; rintro e w' ⟨rfl, hb⟩; have g := Blk.keep hb (Blk.new (b := w.heap.size) (T := 52) rfl); have g4 := ((Below.refl w.heap.size w).alloc (Nat.le_refl _) _).trans (hb.mono (by simp)))
  refine wp_region_held_drew (S := (fun w' => Blk w' w.heap.size #[.int .i64 h, .int .u64 l] 52)) (by kernel_rfl) ?_ (fun hHeld => ?_)
  · exact g.drew
  refine H.take 0 (v := ?_) rfl (by kernel_rfl) (fun _ _ _ h => h) (by rfl) ?_ (by assumption) ?_
  rotate_left
  · (intro wz hSw; (try dsimp only at hSw); go_simp <;> with_reducible rfl)
  try simp only [Act.put, List.setIfInBounds_toArray, List.set_cons_zero, List.set_cons_succ]
  refine H.take 1 (v := ?_) rfl (by kernel_rfl) (fun _ _ _ h => h) (by rfl) ?_ (by assumption) ?_
  rotate_left
  · (intro wz hSw; (try dsimp only at hSw); go_simp <;> with_reducible rfl)
  try simp only [Act.put, List.setIfInBounds_toArray, List.set_cons_zero, List.set_cons_succ]
  refine H.take 2 (v := ?_) rfl (by kernel_rfl) (fun _ _ _ h => h) (by rfl) ?_ (by assumption) ?_
  rotate_left
  · (intro wz hSw; (try dsimp only at hSw); go_simp <;> with_reducible rfl)
  try simp only [Act.put, List.setIfInBounds_toArray, List.set_cons_zero, List.set_cons_succ]
  refine H.take 3 (v := ?_) rfl (by kernel_rfl) (fun _ _ _ h => h) (by rfl) ?_ (by assumption) ?_
  rotate_left
  · (intro wz hSw; (try dsimp only at hSw); go_simp <;> with_reducible rfl)
  try simp only [Act.put, List.setIfInBounds_toArray, List.set_cons_zero, List.set_cons_succ]
  refine H.take 4 (v := ?_) rfl (by kernel_rfl) (fun _ _ _ h => h) (by rfl) ?_ (by assumption) ?_
  rotate_left
  · (intro wz hSw; (try dsimp only at hSw); go_simp <;> with_reducible rfl)
  try simp only [Act.put, List.setIfInBounds_toArray, List.set_cons_zero, List.set_cons_succ]
  refine H.take 5 (v := ?_) rfl (by kernel_rfl) (fun _ _ _ h => h) (by rfl) ?_ (by assumption) ?_
  rotate_left
  · (intro wz hSw; (try dsimp only at hSw); go_simp <;> with_reducible rfl)
  try simp only [Act.put, List.setIfInBounds_toArray, List.set_cons_zero, List.set_cons_succ]
  refine H.take 6 (v := ?_) rfl (by kernel_rfl) (fun _ _ _ h => h) (by rfl) ?_ (by assumption) ?_
  rotate_left
  · (intro wz hSw; (try dsimp only at hSw); go_simp <;> with_reducible rfl)
  try simp only [Act.put, List.setIfInBounds_toArray, List.set_cons_zero, List.set_cons_succ]
  refine H.done (by kernel_rfl) ?_ _
  go_wp2
  go_ret2
  exact ⟨rfl, g4.drew⟩
/-- Sub64 with a borrow. -/
theorem run_sub64b (x y b c : Int) (hx : 0 ≤ x) (hy : 0 ≤ y) (hb0 : 0 ≤ b) (hb1 : b ≤ 1) (hx1 : x ≤ 18446744073709551615) (hy1 : y ≤ 18446744073709551615) (hc : c = if x < y + b then 1 else 0) (w : World) :
    (callFunc 70 #[.int .u64 x, .int .u64 y, .int .u64 b]).run Tryd.prog w =
      .ok (.value (.tuple #[.int .u64 ((x + 18446744073709551616 - y - b) % 18446744073709551616), .int .u64 c])) w := by
  obtain ⟨x, rfl⟩ := Int.eq_ofNat_of_zero_le hx
  obtain ⟨y, rfl⟩ := Int.eq_ofNat_of_zero_le hy
  obtain ⟨b, rfl⟩ := Int.eq_ofNat_of_zero_le hb0
  rw [run_callFunc_extern Tryd.func70 (by kernel_rfl) (by kernel_rfl) (by kernel_rfl) (e := Go.Proofs.sub64Entry) (by kernel_rfl), Go.Proofs.run_sub64 x y b (by omega)]
  simp only [Result.andThen]
  have e1 : (((x + 18446744073709551616 - y - b) % 18446744073709551616 : Nat) : Int) = ((x : Int) + 18446744073709551616 - y - b) % 18446744073709551616 := by omega
  have e2 : ((if x < y + b then 1 else 0 : Nat) : Int) = c := by
    rw [hc]; by_cases h : x < y + b
    · rw [if_pos (by omega), if_pos (by omega)]; rfl
    · rw [if_neg (by omega), if_neg (by omega)]; rfl
  rw [e1, e2]

set_option maxHeartbeats 1000000 in
theorem magnitude_neg {h l : Int} (a0 : 0 ≤ l) (a1 : l ≤ 18446744073709551615) (c0 : -9223372036854775808 ≤ h) (hn : h < 0) (w : World) :
    Calls Tryd.prog 67 #[.agg #[.int .i64 h, .int .u64 l]] w fun e w' =>
      e = .returned (.tuple #[.int .u64 (hi (-(h * 18446744073709551616 + l))), .int .u64 (lo (-(h * 18446744073709551616 + l)))]) ∧ Below w.heap.size w w' := by
  obtain ⟨b, hb0⟩ : ∃ b : Int, b = if 0 < l then 1 else 0 := ⟨_, rfl⟩
  obtain ⟨b2, hb3⟩ : ∃ b2 : Int, b2 = if 0 < h + 18446744073709551616 + b then 1 else 0 := ⟨_, rfl⟩
  have b0 : 0 ≤ b := by split at hb0 <;> omega
  have b1 : b ≤ 1 := by split at hb0 <;> omega
  have hs1 := fun w => run_sub64 0 l b (by omega) a0 (by omega) a1 hb0 w
  have hs2 := fun w => run_sub64b 0 (h + 18446744073709551616) b b2 (by omega) (by omega) b0 b1 (by omega) (by omega) hb3 w
  have e0 : IntKind.u64.wrap h = h + 18446744073709551616 := by rw [IntKind.wrap_u64]; omega
  have e1 : (0 + 18446744073709551616 - (h + 18446744073709551616) - b) % 18446744073709551616 = hi (-(h * 18446744073709551616 + l)) := by
    unfold hi; split at hb0 <;> omega
  have e2 : (0 + 18446744073709551616 - l) % 18446744073709551616 = lo (-(h * 18446744073709551616 + l)) := by
    unfold lo; omega
  rw [e2] at hs1; rw [e1] at hs2
  clear e1 e2 hb0 hb3
  generalize hi (-(h * 18446744073709551616 + l)) = X at *
  generalize lo (-(h * 18446744073709551616 + l)) = Y at *
  have q1 := fun (w' : World) (h : Blk w' (w.heap.size) #[.int .i64 h, .int .u64 l] 52) => h.two
  go_enter Tryd.func67, Tryd.ntmps67
  go_wp2_with (go_at_call 62; refine (negative_yes _ hn _).mono ?_; rintro e w' ⟨rfl, hb⟩; have g := Blk.keep hb (Blk.new (b := w.heap.size) (T := 52) rfl); have g4 := ((Below.refl w.heap.size w).alloc (Nat.le_refl _) _).trans (hb.mono (by simp)))
  go_ret2
  exact ⟨rfl, g4⟩
theorem magnitude_n {n : Int} (hn : InR n) (w : World) :
    Calls Tryd.prog 67 #[.agg #[.int .i64 (hi n), .int .u64 (lo n)]] w fun e w' =>
      e = .returned (.tuple #[.int .u64 (hi (sz n)), .int .u64 (lo (sz n))]) ∧ Below w.heap.size w w' := by
  by_cases h : n < 0
  · have := magnitude_neg (lo_bd n).1 (lo_bd n).2 (hi_bd hn).1 ((hi_neg n).2 h) w
    rwa [hilo, ← sz_neg h] at this
  · have := magnitude_pos (lo n) (hi_bd hn).2 (fun k => h ((hi_neg n).1 k)) w
    rwa [sz_pos (by omega)]

set_option maxHeartbeats 1000000 in
theorem signer_any (m : Bool) (w : World) :
    Calls Tryd.prog 69 #[.bool m] w fun e w' => e = .returned (.func (.func 78) #[] #[.pointer (some ⟨w.heap.size, 0, none⟩)]) ∧ w' = w.alloc (.cells #[.bool m] 4) := by
  go_enter Tryd.func69, Tryd.ntmps69
  have hmf : ∀ (fn : Fn) (first cap : Array Value) (w : World), (Instr.makeFunc fn first cap).run Tryd.prog w = .ok (.func fn first cap) w := fun _ _ _ _ => rfl
  go_wp2
  go_ret
  exact ⟨rfl, rfl⟩

/-- With its sign. -/
def sgn (m : Bool) (u : Int) : Int := if m then -u else u
set_option maxHeartbeats 1000000 in
theorem signed_any (m : Bool) {x y : Int} (x0 : 0 ≤ x) (x1 : x ≤ 18446744073709551615) (y0 : 0 ≤ y) (y1 : y ≤ 18446744073709551615) {b : Nat} {w : World} (g : Blk w b #[.bool m] 4) :
    Calls Tryd.prog 78 #[.int .u64 x, .int .u64 y, .pointer (some ⟨b, 0, none⟩)] w fun e w' =>
      e = .returned (.agg #[.int .i64 (hi (clamp (sgn m (x * 18446744073709551616 + y)))), .int .u64 (lo (clamp (sgn m (x * 18446744073709551616 + y))))]) ∧ Below w.heap.size w w' := by
  have g0 := g.lt
  have g1 := g.one
  rcases (by omega : 9223372036854775807 < x ∨ x ≤ 9223372036854775807) with hx | hx
  · have hcell : ∀ o, (w.alloc o).cell? ⟨b, 0, none⟩ = some (.bool m) := fun o => (g.old o).one
    have hres : hi (clamp (sgn m (x * 18446744073709551616 + y))) = (if m then -9223372036854775808 else 9223372036854775807) ∧ lo (clamp (sgn m (x * 18446744073709551616 + y))) = (if m then 0 else 18446744073709551615) := by
      unfold sgn clamp hi lo
      cases m
      · simp only [Bool.false_eq_true, if_false]; rw [if_neg (by omega), if_pos (by omega)]; omega
      · simp only [if_true]; split
        · omega
        · have : -(x * 18446744073709551616 + y) = -170141183460469231731687303715884105728 := by omega
          rw [if_neg (by omega), this]; omega
    rw [hres.1, hres.2]; clear hres
    have q1 := fun (w' : World) (h : Blk w' w.heap.size #[.int .i64 0, .int .u64 0] 52) => h.two
    have q2 := fun (w' : World) (h : Blk w' w.heap.size #[.int .i64 0, .int .u64 0] 52) => h.free0
    cases m
    · go_enter Tryd.func78, Tryd.ntmps78
      go_wp2_with (go_at_call 63; refine (bound_high _).mono ?_; rintro e w' ⟨rfl, hb⟩; have g := Blk.keep hb (Blk.new (b := w.heap.size) (T := 52) rfl); have gB := ((Below.refl w.heap.size w).alloc (Nat.le_refl _) _).trans (hb.mono (by simp)))
      have hfin := (g.put (i := 0) (.int .i64 9223372036854775807)).put (i := 1) (.int .u64 18446744073709551615)
      exact bodyPost_ret (v := .agg #[.int .i64 9223372036854775807, .int .u64 18446744073709551615]) (by simp [results, Tryd.results78, go_sem, (show Blk _ _ #[.int .i64 9223372036854775807, .int .u64 18446744073709551615] _ from hfin).two]) rfl ⟨rfl, (gB.setCell (by simp) _).setCell (by simp) _⟩
    · go_enter Tryd.func78, Tryd.ntmps78
      go_wp2_with (go_at_call 63; refine (bound_low _).mono ?_; rintro e w' ⟨rfl, hb⟩; have g := Blk.keep hb (Blk.new (b := w.heap.size) (T := 52) rfl); have gB := ((Below.refl w.heap.size w).alloc (Nat.le_refl _) _).trans (hb.mono (by simp)))
      have hfin := (g.put (i := 0) (.int .i64 (-9223372036854775808))).put (i := 1) (.int .u64 0)
      exact bodyPost_ret (v := .agg #[.int .i64 (-9223372036854775808), .int .u64 0]) (by simp [results, Tryd.results78, go_sem, (show Blk _ _ #[.int .i64 (-9223372036854775808), .int .u64 0] _ from hfin).two]) rfl ⟨rfl, (gB.setCell (by simp) _).setCell (by simp) _⟩
  · have hcell : ∀ o, (w.alloc o).cell? ⟨b, 0, none⟩ = some (.bool m) := fun o => (g.old o).one
    have hcell2 : ∀ o o2, ((w.alloc o).alloc o2).cell? ⟨b, 0, none⟩ = some (.bool m) := fun o o2 => ((g.old o).old o2).one
    have q1 := fun (w' : World) (h : Blk w' w.heap.size #[.int .i64 0, .int .u64 0] 52) => h.two
    have q2 := fun (w' : World) (h : Blk w' w.heap.size #[.int .i64 0, .int .u64 0] 52) => h.free0
    have ei : IntKind.i64.wrap x = x := by rw [IntKind.wrap_i64]; omega
    have hneg := fun w => neg_any x y y0 y1 (by omega) hx w
    cases m
    · have hres : clamp (sgn false (x * 18446744073709551616 + y)) = x * 18446744073709551616 + y := by
        unfold sgn; simp only [Bool.false_eq_true, if_false]; exact clamp_of (inR_of y0 y1 (by omega) hx)
      rw [hres, hi_of y0 y1 rfl, lo_of y0 y1 rfl]
      clear hneg hres
      go_enter Tryd.func78, Tryd.ntmps78
      go_wp2
      exact bodyPost_ret (v := .agg #[.int .i64 x, .int .u64 y]) (by simp [results, Tryd.results78, go_sem]) rfl ⟨rfl, ((Below.refl _ _).alloc (Nat.le_refl _) _).alloc (by simp) _⟩
    · unfold sgn; simp only [if_true]
      generalize clamp (-(x * 18446744073709551616 + y)) = r at *
      have HN := Lib.hid hneg; clear hneg
      go_enter Tryd.func78, Tryd.ntmps78
      go_wp2_with (go_at_call 79; refine (HN.out _).mono ?_; rintro e w' ⟨rfl, hb⟩; have g := Blk.keep hb (Blk.old (Blk.new (b := w.heap.size) (T := 52) rfl) _); have gB := (((Below.refl w.heap.size w).alloc (Nat.le_refl _) _).alloc (by simp) _).trans (hb.mono (by simp; omega)))
      have hfin := (g.put (i := 0) (.int .i64 (hi r))).put (i := 1) (.int .u64 (lo r))
      exact bodyPost_ret (v := .agg #[.int .i64 (hi r), .int .u64 (lo r)]) (by simp [results, Tryd.results78, go_sem, (show Blk _ _ #[.int .i64 (hi r), .int .u64 (lo r)] _ from hfin).two]) rfl ⟨rfl, (gB.setCell (by simp) _).setCell (by simp) _⟩

theorem mul64_i (x y : Int) (x0 : 0 ≤ x) (x1 : x ≤ 18446744073709551615) (y0 : 0 ≤ y) (y1 : y ≤ 18446744073709551615) (w : World) :
    Calls Tryd.prog 73 #[.int .u64 x, .int .u64 y] w fun e w' => e = .returned (.tuple #[.int .u64 (hi (x * y)), .int .u64 (lo (x * y))]) ∧ w = w' := by
  obtain ⟨a, rfl⟩ := Int.eq_ofNat_of_zero_le x0
  obtain ⟨b, rfl⟩ := Int.eq_ofNat_of_zero_le y0
  refine (Tryd.bits_Mul64 a b (by omega) (by omega) w).mono ?_
  rintro e w' ⟨rfl, rfl⟩
  exact ⟨rfl, rfl⟩

end Go.Proofs.YtecmhjhjmhliiaaDoor


/-
  Contracts of package wide: Abs, Cmp, Clip; and of the statements' own 'ends'.
-/

namespace Go.Proofs.YtecmhjhjmhliiaaDoor

set_option maxRecDepth 100000

open Go.RowKit

theorem hi_nn {x : Int} (h : 0 ≤ x) : 0 ≤ hi x := by unfold hi; omega
theorem hi_le {x c : Int} (h : x ≤ c) : hi x ≤ c / 18446744073709551616 := by unfold hi; omega
theorem negative_n (n : Int) (w : World) :
    Calls Tryd.prog 62 #[.agg #[.int .i64 (hi n), .int .u64 (lo n)]] w fun e w' => e = .returned (.bool (decide (n < 0))) ∧ Below w.heap.size w w' := by
  have := negative_any (hi n) (lo n) w
  rwa [decide_eq_decide.2 (hi_neg n)] at this

/-- Which is greater, as -1, 0, 1. -/
def cmpI (a b : Int) : Int := if a = b then 0 else if a < b then -1 else 1
theorem hilo_lt (a b : Int) : a < b ↔ hi a < hi b ∨ hi a = hi b ∧ lo a < lo b := by unfold hi lo; omega

set_option maxHeartbeats 1000000 in
theorem cmp_n (a b : Int) (w : World) :
    Calls Tryd.prog 22 #[.agg #[.int .i64 (hi a), .int .u64 (lo a)], .agg #[.int .i64 (hi b), .int .u64 (lo b)]] w fun e w' =>
      e = .returned (.int .i64 (cmpI a b)) ∧ Below w.heap.size w w' := by
  have hlt := hilo_lt a b
  by_cases h : a = b
  · subst h
    rw [show cmpI a a = 0 by unfold cmpI; rw [if_pos rfl]]
    clear hlt
    go_enter Tryd.func22, Tryd.ntmps22
    go_wp2
    go_ret
    exact ⟨rfl, ((Below.refl _ _).alloc (Nat.le_refl _) _).alloc (by simp) _⟩
  · have hne : ¬ (hi a = hi b ∧ lo a = lo b) := fun k => h (hilo_inj k.1 k.2)
    by_cases hl : a < b
    · rw [show cmpI a b = -1 by unfold cmpI; rw [if_neg h, if_pos hl]]
      rw [hlt] at hl
      clear hlt h
      generalize hi a = A at *; generalize lo a = B at *; generalize hi b = C at *; generalize lo b = D at *
      by_cases h1 : A < C
      · have e1 : (A == C) = false := by rw [beq_eq_false_iff_ne]; omega
        clear hne hl
        go_enter Tryd.func22, Tryd.ntmps22
        go_wp2
        go_ret
        exact ⟨rfl, ((Below.refl _ _).alloc (Nat.le_refl _) _).alloc (by simp) _⟩
      · obtain ⟨rfl, h2⟩ : A = C ∧ B < D := by omega
        clear hne hl
        go_enter Tryd.func22, Tryd.ntmps22
        go_wp2
        go_ret
        exact ⟨rfl, ((Below.refl _ _).alloc (Nat.le_refl _) _).alloc (by simp) _⟩
    · rw [show cmpI a b = 1 by unfold cmpI; rw [if_neg h, if_neg hl]]
      rw [hlt] at hl
      clear hlt h
      generalize hi a = A at *; generalize lo a = B at *; generalize hi b = C at *; generalize lo b = D at *
      by_cases h1 : C < A
      · have e1 : (A == C) = false := by rw [beq_eq_false_iff_ne]; omega
        have h2 : ¬ A < C := by omega
        clear hne hl
        go_enter Tryd.func22, Tryd.ntmps22
        go_wp2
        go_ret
        exact ⟨rfl, ((Below.refl _ _).alloc (Nat.le_refl _) _).alloc (by simp) _⟩
      · obtain ⟨rfl, h2⟩ : A = C ∧ D < B := by omega
        have h3 : ¬ B < D := by omega
        clear hne hl
        go_enter Tryd.func22, Tryd.ntmps22
        go_wp2
        go_ret
        exact ⟨rfl, ((Below.refl _ _).alloc (Nat.le_refl _) _).alloc (by simp) _⟩

end Go.Proofs.YtecmhjhjmhliiaaDoor


/-
  Contracts of package wide: Mul, Scale.
-/

namespace Go.Proofs.YtecmhjhjmhliiaaDoor

set_option maxRecDepth 100000

open Go.RowKit

theorem mul_bd {x y : Int} (x0 : 0 ≤ x) (x1 : x ≤ 9223372036854775808) (y0 : 0 ≤ y) (y1 : y ≤ 9223372036854775808) : 0 ≤ x * y ∧ x * y ≤ 85070591730234615865843651857942052864 := by
  refine ⟨Int.mul_nonneg x0 y0, ?_⟩
  have := Int.mul_le_mul x1 y1 y0 (by omega)
  exact this
theorem sgn_mul {a b : Int} (a0 : -9223372036854775808 ≤ a) (a1 : a ≤ 9223372036854775807) (b0 : -9223372036854775808 ≤ b) (b1 : b ≤ 9223372036854775807) :
    clamp (sgn (decide (a < 0) != decide (b < 0)) (sz a * sz b)) = a * b := by
  rcases (by omega : a < 0 ∨ 0 ≤ a) with ha | ha <;> rcases (by omega : b < 0 ∨ 0 ≤ b) with hb | hb
  · have h := mul_bd (x := -a) (y := -b) (by omega) (by omega) (by omega) (by omega)
    rw [sz_neg ha, sz_neg hb, decide_eq_true ha, decide_eq_true hb, Int.neg_mul_neg] at *
    simp only [bne_self_eq_false, sgn, Bool.false_eq_true, if_false]
    exact clamp_of (by unfold InR; omega)
  · have h := mul_bd (x := -a) (y := b) (by omega) (by omega) (by omega) (by omega)
    rw [sz_neg ha, sz_pos hb, decide_eq_true ha, decide_eq_false (by omega)]
    rw [Int.neg_mul] at *
    simp only [sgn, bne, Bool.true_beq, Bool.not_false, if_true, Int.neg_neg]
    exact clamp_of (by unfold InR; omega)
  · have h := mul_bd (x := a) (y := -b) (by omega) (by omega) (by omega) (by omega)
    rw [sz_pos ha, sz_neg hb, decide_eq_false (by omega), decide_eq_true hb]
    rw [Int.mul_neg] at *
    simp only [sgn, bne, Bool.false_beq, Bool.not_true, Bool.not_false, if_true, Int.neg_neg]
    exact clamp_of (by unfold InR; omega)
  · have h := mul_bd (x := a) (y := b) (by omega) (by omega) (by omega) (by omega)
    rw [sz_pos ha, sz_pos hb, decide_eq_false (by omega), decide_eq_false (by omega)]
    simp only [bne_self_eq_false, sgn, Bool.false_eq_true, if_false]
    exact clamp_of (by unfold InR; omega)

set_option maxHeartbeats 1000000 in
theorem mul_any (a b : Int) (a0 : -9223372036854775808 ≤ a) (a1 : a ≤ 9223372036854775807) (b0 : -9223372036854775808 ≤ b) (b1 : b ≤ 9223372036854775807) (w : World) :
    Calls Tryd.prog 49 #[.int .i64 a, .int .i64 b] w fun e w' =>
      e = .returned (.agg #[.int .i64 (hi (a * b)), .int .u64 (lo (a * b))]) ∧ Below w.heap.size w w' := by
  have ha : InR a := by unfold InR; omega
  have hb : InR b := by unfold InR; omega
  have sa : 0 ≤ sz a ∧ sz a ≤ 9223372036854775808 := by unfold sz; split <;> omega
  have sb : 0 ≤ sz b ∧ sz b ≤ 9223372036854775808 := by unfold sz; split <;> omega
  have ma := fun w => magnitude_n ha w
  have mb := fun w => magnitude_n hb w
  rw [show lo (sz a) = sz a by unfold lo; omega] at ma
  rw [show lo (sz b) = sz b by unfold lo; omega] at mb
  have mm := fun w => mul64_i (sz a) (sz b) sa.1 (by omega) sb.1 (by omega) w
  have hfin := sgn_mul a0 a1 b0 b1
  have hs := fun (n : Nat) (w : World) (g : Blk w n #[.bool (decide (a < 0) != decide (b < 0))] 4) => signed_any (decide (a < 0) != decide (b < 0)) (x := hi (sz a * sz b)) (y := lo (sz a * sz b)) (by have := mul_bd sa.1 sa.2 sb.1 sb.2; unfold hi; omega) (by have := mul_bd sa.1 sa.2 sb.1 sb.2; unfold hi; omega) (lo_bd _).1 (lo_bd _).2 g
  rw [hilo, hfin] at hs
  have q1 := fun (w' : World) (h : Blk w' w.heap.size #[.int .i64 0, .int .u64 0] 52) => h.two
  have q2 := fun (w' : World) (h : Blk w' w.heap.size #[.int .i64 0, .int .u64 0] 52) => h.free0
  have MA := Lib.hid ma; have MB := Lib.hid mb; have MM := Lib.hid mm; have HS := Lib.hid hs
  clear ma mb mm hs hfin
  generalize sz a = xa at *; generalize sz b = xb at *
  go_enter Tryd.func49, Tryd.ntmps49
  go_wp2_with (first | (go_at_call 72; refine (of_any _ ?_ ?_ _).mono ?_; omega; omega; rintro e w1 ⟨rfl, hb1⟩; (first | (replace g := Blk.keep hb1 g; replace gB := gB.trans (hb1.mono gB.size)) | (have g := Blk.keep hb1 (Blk.new (b := w.heap.size) (T := 52) rfl); have gB := ((Below.refl w.heap.size w).alloc (Nat.le_refl _) _).trans (hb1.mono (by simp))))) | (go_at_call 67; (first | ((with_reducible refine (MA.out _).mono ?_); rintro e w1 ⟨rfl, hb1⟩) | ((with_reducible refine (MB.out _).mono ?_); rintro e w1 ⟨rfl, hb1⟩)); replace g := Blk.keep hb1 g; replace gB := gB.trans (hb1.mono gB.size)) | (go_at_call 69; refine (signer_any _ _).mono ?_; rintro e w1 ⟨rfl, rfl⟩; replace g := Blk.old g (.cells #[.bool (decide (a < 0) != decide (b < 0))] 4); replace gB := gB.alloc gB.size (.cells #[.bool (decide (a < 0) != decide (b < 0))] 4)) | (go_at_call 73; refine (MM.out _).mono ?_; rintro e w1 ⟨rfl, rfl⟩) | (go_at_call 78; refine (HS.out _ _ (Blk.new rfl)).mono ?_; rintro e w1 ⟨rfl, hb1⟩; replace g := Blk.keep hb1 g; replace gB := gB.trans (hb1.mono gB.size)))
  have hfin := (g.put (i := 0) (.int .i64 (hi (a * b)))).put (i := 1) (.int .u64 (lo (a * b)))
  exact bodyPost_ret (v := .agg #[.int .i64 (hi (a * b)), .int .u64 (lo (a * b))]) (by simp [results, Tryd.results49, go_sem, (show Blk _ _ #[.int .i64 (hi (a * b)), .int .u64 (lo (a * b))] _ from hfin).two]) rfl ⟨rfl, (gB.setCell (by simp) _).setCell (by simp) _⟩

end Go.Proofs.YtecmhjhjmhliiaaDoor


/-
  Plain arithmetic of a long division by two digits of 32 bits. No program is named here.
-/
namespace Go.Proofs.YtecmhjhjmhliiaaDoor.DivM

/-- One digit's setting: Y is N1, N0; U is below Y; Q is the digit. -/
structure Dig (U V Y N1 N0 Q : Int) : Prop where
  y : Y = N1 * 4294967296 + N0
  n1 : 2147483648 ≤ N1
  n1' : N1 ≤ 4294967295
  n0 : 0 ≤ N0
  n0' : N0 ≤ 4294967295
  u0 : 0 ≤ U
  u : U < Y
  v0 : 0 ≤ V
  v : V ≤ 4294967295
  q : Q = (U * 4294967296 + V) / Y

theorem Dig.ypos {U V Y N1 N0 Q : Int} (d : Dig U V Y N1 N0 Q) : 0 < Y := by have := d.y; have := d.n1; have := d.n0; omega
theorem Dig.low {U V Y N1 N0 Q : Int} (d : Dig U V Y N1 N0 Q) : Q * Y ≤ U * 4294967296 + V := by
  rw [d.q]; exact Int.ediv_mul_le _ (by have := d.ypos; omega)
theorem Dig.high {U V Y N1 N0 Q : Int} (d : Dig U V Y N1 N0 Q) : U * 4294967296 + V < Q * Y + Y := by
  have h := Int.lt_ediv_add_one_mul_self (U * 4294967296 + V) d.ypos
  rw [← d.q] at h; rw [Int.add_mul, Int.one_mul] at h; exact h
theorem Dig.q0 {U V Y N1 N0 Q : Int} (d : Dig U V Y N1 N0 Q) : 0 ≤ Q := by
  rw [d.q]; exact Int.ediv_nonneg (by have := d.u0; have := d.v0; omega) (by have := d.ypos; omega)
theorem Dig.qlt {U V Y N1 N0 Q : Int} (d : Dig U V Y N1 N0 Q) : Q ≤ 4294967295 := by
  have h : Q < 4294967296 := by
    rw [d.q]; apply Int.ediv_lt_of_lt_mul d.ypos
    have := d.u; have := d.v; have := d.v0; rw [Int.mul_comm]; omega
  omega
theorem Dig.mulY {U V Y N1 N0 Q : Int} (d : Dig U V Y N1 N0 Q) (q : Int) : q * Y = q * N1 * 4294967296 + q * N0 := by
  rw [d.y, Int.mul_add, Int.mul_assoc]
theorem Dig.dec {U V Y N1 N0 Q q r : Int} (d : Dig U V Y N1 N0 Q) (h : q * N1 + r = U) (hq : Q ≤ q) (hc : 4294967296 ≤ q ∨ 4294967296 * r + V < q * N0) : Q ≤ q - 1 := by
  rcases hc with hc | hc
  · have := d.qlt; omega
  · have h1 := d.mulY q
    have h2 := d.low
    have h3 : Q * Y < q * Y := by omega
    have : Q < q := Int.lt_of_mul_lt_mul_right h3 (by have := d.ypos; omega)
    omega
theorem Dig.stop {U V Y N1 N0 Q q r : Int} (d : Dig U V Y N1 N0 Q) (h : q * N1 + r = U) (hq : Q ≤ q) (hc : q * N0 ≤ 4294967296 * r + V) : q = Q := by
  have h1 := d.mulY q
  have h2 := d.high
  have h3 : q * Y < (Q + 1) * Y := by rw [Int.add_mul, Int.one_mul]; omega
  have : q < Q + 1 := Int.lt_of_mul_lt_mul_right h3 (by have := d.ypos; omega)
  omega
theorem Dig.brk {U V Y N1 N0 Q q r : Int} (d : Dig U V Y N1 N0 Q) (h : q * N1 + r = U) (hq : Q ≤ q) (hb : q ≤ 4294967296) (hr : 4294967296 ≤ r) : q = Q := by
  refine d.stop h hq ?_
  have h1 : q * N0 ≤ 4294967296 * N0 := Int.mul_le_mul_of_nonneg_right hb d.n0
  have := d.n0'; have := d.v0; omega
theorem Dig.start {U V Y N1 N0 Q : Int} (d : Dig U V Y N1 N0 Q) : U / N1 * N1 + U % N1 = U ∧ Q ≤ U / N1 ∧ U / N1 ≤ 4294967297 ∧ 0 ≤ U % N1 ∧ U % N1 ≤ 4294967295 ∧ 0 ≤ U / N1 := by
  have hp : 0 < N1 := by have := d.n1; omega
  have h1 := Int.emod_add_mul_ediv U N1
  have h2 := Int.emod_nonneg U (by omega : N1 ≠ 0)
  have h3 := Int.emod_lt_of_pos U hp
  have h4 := d.n1'
  have h5 : U / N1 * N1 + U % N1 = U := by rw [Int.mul_comm]; omega
  refine ⟨h5, ?_, ?_, h2, by omega, Int.ediv_nonneg d.u0 (by omega)⟩
  · apply Int.le_ediv_of_mul_le hp
    have ha := d.low; have hb := d.mulY Q
    have hc : 0 ≤ Q * N0 := Int.mul_nonneg d.q0 d.n0
    have := d.v; omega
  · have : U / N1 < 4294967298 := by
      apply Int.ediv_lt_of_lt_mul hp
      have := d.u; have := d.y; have := d.n0'; have := d.n1; omega
    omega
/-- What is left behind the digit. -/
theorem Dig.rest {U V Y N1 N0 Q : Int} (d : Dig U V Y N1 N0 Q) : 0 ≤ U * 4294967296 + V - Q * Y ∧ U * 4294967296 + V - Q * Y < Y := by
  have := d.low; have := d.high; omega

/-- Both digits together. -/
theorem two_digits {U V1 V0 Y N1 N0 Q1 Q0 U2 : Int} (d1 : Dig U V1 Y N1 N0 Q1) (hU : U2 = U * 4294967296 + V1 - Q1 * Y) (d2 : Dig U2 V0 Y N1 N0 Q0) :
    (U * 18446744073709551616 + (V1 * 4294967296 + V0)) / Y = Q1 * 4294967296 + Q0 ∧ (U * 18446744073709551616 + (V1 * 4294967296 + V0)) % Y = U2 * 4294967296 + V0 - Q0 * Y := by
  have hr := d2.rest
  have e : U * 18446744073709551616 + (V1 * 4294967296 + V0) = (U2 * 4294967296 + V0 - Q0 * Y) + Y * (Q1 * 4294967296 + Q0) := by
    rw [Int.mul_add, ← Int.mul_assoc, Int.mul_comm Y Q1, Int.mul_comm Y Q0, hU]; omega
  rw [e]
  have hp := d1.ypos
  constructor
  · rw [Int.add_mul_ediv_left _ _ (by omega : Y ≠ 0), Int.ediv_eq_zero_of_lt hr.1 hr.2]; omega
  · rw [Int.add_mul_emod_self_left]; exact Int.emod_eq_of_lt hr.1 hr.2
end Go.Proofs.YtecmhjhjmhliiaaDoor.DivM


/-
  The contract of bits.Div64: the walk, over the numbers that its own text makes.
-/


namespace Go.Proofs.YtecmhjhjmhliiaaDoor

set_option maxRecDepth 100000

open Go.RowKit DivM

/-- At the head of either loop: the digit is not above q, and q times N1, with r, is U. -/
def DigAt (U N1 Q : Int) (A R : Value) : Prop := ∃ q r : Int, (q * N1 + r = U ∧ Q ≤ q ∧ q ≤ 4294967297 ∧ 0 ≤ r ∧ r ≤ 4294967295) ∧ A = .int .u64 q ∧ R = .int .u64 r

theorem prod_bd {q N0 : Int} (q0 : 0 ≤ q) (q1 : q ≤ 4294967295) (n0 : 0 ≤ N0) (n1 : N0 ≤ 4294967295) : 0 ≤ q * N0 ∧ q * N0 ≤ 18446744065119617025 :=
  ⟨Int.mul_nonneg q0 n0, Int.mul_le_mul q1 n1 n0 (by omega)⟩

set_option maxRecDepth 100000 in
set_option maxHeartbeats 8000000 in
theorem div64_walk (h l y s S T Y N1 N0 HS LT U V V1 V0 Q1 U2 Q0 : Int) (w : World)
    (h0 : 0 < h) (hy : h < y) (y1 : y ≤ 18446744073709551615) (s0 : 0 ≤ s) (s1 : s ≤ 63)
    (hs : 64 - (Lib.bitLen y.toNat : Int) = s) (eS : (2 : Int) ^ s.toNat = S) (eT : (2 : Int) ^ (64 - s).toNat = T)
    (eY : IntKind.u64.wrap (y * S) = Y) (eN1 : Y / 4294967296 = N1) (eN0 : bits .and .u64 Y 4294967295 = N0)
    (eH : IntKind.u64.wrap (h * S) = HS) (eL : l / T = LT) (eU : bits .or .u64 HS LT = U)
    (eV : IntKind.u64.wrap (l * S) = V) (eV1 : V / 4294967296 = V1) (eV0 : bits .and .u64 V 4294967295 = V0)
    (d1 : Dig U V1 Y N1 N0 Q1) (hU2 : U2 = U * 4294967296 + V1 - Q1 * Y) (d2 : Dig U2 V0 Y N1 N0 Q0) (yy : Y ≤ 18446744073709551615) :
    Calls Tryd.prog 68 #[.int .u64 h, .int .u64 l, .int .u64 y] w fun e w' =>
      e = .returned (.tuple #[.int .u64 (Q1 * 4294967296 + Q0), .int .u64 ((U2 * 4294967296 + V0 - Q0 * Y) / S)]) ∧ w' = w := by
  have e1 : (y == 0) = false := by rw [beq_eq_false_iff_ne]; omega
  have e2 : (h == 0) = false := by rw [beq_eq_false_iff_ne]; omega
  have e3 : ¬ y ≤ h := by omega
  have lz := fun w => Tryd.bits_LeadingZeros64 y w (by omega) y1
  rw [hs] at lz
  have LZ := Lib.hid lz; clear lz hs
  obtain ⟨st1, st2, st3, st4, st5, st6⟩ := d1.start
  have n1a := d1.n1; have n1b := d1.n1'; have n0a := d1.n0; have n0b := d1.n0'; have ua := d1.u0; have ub : U ≤ 18446744073709551615 := by have := d1.u; omega
  have u2a := d2.u0; have u2b : U2 ≤ 18446744073709551615 := by have := d2.u; omega
  have v1a := d1.v0; have v1b := d1.v; have v0a := d2.v0; have v0b := d2.v
  have qa := d1.q0; have qb := d1.qlt; have q0a := d2.q0; have q0b := d2.qlt
  have yp := d1.ypos
  have nz : (N1 == 0) = false := by rw [beq_eq_false_iff_ne]; omega
  have nz2 : ¬ N1 = 0 := by omega
  obtain ⟨tt1, tt2, tt3, tt4, tt5, tt6⟩ := d2.start
  have D1 := Lib.hid d1; have D2 := Lib.hid d2; have HU2 := Lib.hid hU2
  have ST1 := Lib.hid st1; have TT1 := Lib.hid tt1
  have er1 : U - U / N1 * N1 = U % N1 := by omega
  have er2 : U2 - U2 / N1 * N1 = U2 % N1 := by omega
  have bq1 : 0 ≤ U / N1 * N1 := Int.mul_nonneg st6 (by omega)
  have bq2 : U / N1 * N1 ≤ 18446744073709551615 := by omega
  have bq3 : 0 ≤ U2 / N1 * N1 := Int.mul_nonneg tt6 (by omega)
  have bq4 : U2 / N1 * N1 ≤ 18446744073709551615 := by omega
  clear d1 d2 hU2 st1 tt1
  generalize hr1 : U % N1 = ri at *
  generalize hr2 : U2 % N1 = rj at *
  generalize hm1 : U / N1 * N1 = QN at *
  generalize hm2 : U2 / N1 * N1 = QM at *
  obtain ⟨W1, w1e⟩ : ∃ W1, IntKind.u64.wrap (U * 4294967296) = W1 := ⟨_, rfl⟩
  obtain ⟨W2, w2e⟩ : ∃ W2, IntKind.u64.wrap (Q1 * Y) = W2 := ⟨_, rfl⟩
  obtain ⟨W3, w3e⟩ : ∃ W3, IntKind.u64.wrap (W1 + V1) = W3 := ⟨_, rfl⟩
  obtain ⟨X1, x1e⟩ : ∃ X1, IntKind.u64.wrap (U2 * 4294967296) = X1 := ⟨_, rfl⟩
  obtain ⟨X2, x2e⟩ : ∃ X2, IntKind.u64.wrap (Q0 * Y) = X2 := ⟨_, rfl⟩
  obtain ⟨X3, x3e⟩ : ∃ X3, IntKind.u64.wrap (X1 + V0) = X3 := ⟨_, rfl⟩
  obtain ⟨R, rE⟩ : ∃ R, U2 * 4294967296 + V0 - Q0 * Y = R := ⟨_, rfl⟩
  have hrest := D2.out.rest
  have w4e : IntKind.u64.wrap (W3 - W2) = U2 := by simp only [IntKind.wrap_u64] at *; have := HU2.out; omega
  have x4e : IntKind.u64.wrap (X3 - X2) = R := by simp only [IntKind.wrap_u64] at *; omega
  have rb : 0 ≤ R := by omega
  have rb2 : R ≤ 18446744073709551615 := by omega
  have RE := Lib.hid rE; clear rE hrest
  go_enter Tryd.func68, Tryd.ntmps68
  go_wp2_with (go_at_call 77; refine (LZ.out _).mono ?_; rintro e w1 ⟨rfl, hw1⟩; rw [hw1]; clear hw1)
  go_loop [15, 16] (fun A R => DigAt U N1 Q1 A R) (fun A _ => (intOf A).toNat)
  case atStart => exact ⟨U / N1, ri, ⟨by rw [hm1]; exact ST1.out, st2, st3, st4, st5⟩, rfl, rfl⟩
  case round =>
    obtain ⟨q, r, ⟨i1, i2, i3, i4, i5⟩, rfl, rfl⟩ := hrel
    have I1 := Lib.hid i1; clear i1
    by_cases hbig : 4294967296 ≤ q
    · have hdec := D1.out.dec I1.out i2 (Or.inl hbig)
      have I2 : (q - 1) * N1 + (r + N1) = U := by rw [Int.sub_mul]; have := I1.out; omega
      by_cases hr : 4294967296 ≤ r + N1
      · have hQ := D1.out.brk I2 hdec (by omega) hr
        clear I2
        go_wp2
        go_loop [18, 16] (fun A R => DigAt U2 N1 Q0 A R) (fun A _ => (intOf A).toNat)
        case atStart => exact ⟨U2 / N1, rj, ⟨by rw [hm2]; exact TT1.out, tt2, tt3, tt4, tt5⟩, rfl, rfl⟩
        case round =>
          obtain ⟨q, r, ⟨i1, i2, i3, i4, i5⟩, rfl, rfl⟩ := hrel
          have I1 := Lib.hid i1; clear i1
          by_cases hbig : 4294967296 ≤ q
          · have hdec := D2.out.dec I1.out i2 (Or.inl hbig)
            have I2 : (q - 1) * N1 + (r + N1) = U2 := by rw [Int.sub_mul]; have := I1.out; omega
            by_cases hr : 4294967296 ≤ r + N1
            · have hQ := D2.out.brk I2 hdec (by omega) hr
              clear I2
              go_wp2
              go_ret2
              exact ⟨by rw [RE.out]; rfl, rfl⟩
            · skip
              have IH := Lib.hid I2; clear I2
              go_wp2
              go_round
              case rel => exact ⟨q - 1, r + N1, ⟨IH.out, hdec, by omega, by omega, by omega⟩, rfl, rfl⟩
              case measure => simp [intOf]; omega
          · have hp := prod_bd (by omega : 0 ≤ q) (by omega) n0a n0b
            obtain ⟨P, hP⟩ : ∃ P, q * N0 = P := ⟨_, rfl⟩
            rw [hP] at hp
            by_cases hc : 4294967296 * r + V0 < P
            · have hdec := D2.out.dec I1.out i2 (Or.inr (by rw [hP]; exact hc))
              have I2 : (q - 1) * N1 + (r + N1) = U2 := by rw [Int.sub_mul]; have := I1.out; omega
              by_cases hr : 4294967296 ≤ r + N1
              · have hQ := D2.out.brk I2 hdec (by omega) hr
                clear I2
                go_wp2
                go_ret2
                exact ⟨by rw [RE.out]; rfl, rfl⟩
              · skip
                have IH := Lib.hid I2; clear I2
                go_wp2
                go_round
                case rel => exact ⟨q - 1, r + N1, ⟨IH.out, hdec, by omega, by omega, by omega⟩, rfl, rfl⟩
                case measure => simp [intOf]; omega
            · obtain rfl : Q0 = q := (D2.out.stop I1.out i2 (by omega)).symm
              go_wp2
              go_ret2
              exact ⟨by rw [RE.out]; rfl, rfl⟩
      · skip
        have IH := Lib.hid I2; clear I2
        go_wp2
        go_round
        case rel => exact ⟨q - 1, r + N1, ⟨IH.out, hdec, by omega, by omega, by omega⟩, rfl, rfl⟩
        case measure => simp [intOf]; omega
    · have hp := prod_bd (by omega : 0 ≤ q) (by omega) n0a n0b
      obtain ⟨P, hP⟩ : ∃ P, q * N0 = P := ⟨_, rfl⟩
      rw [hP] at hp
      by_cases hc : 4294967296 * r + V1 < P
      · have hdec := D1.out.dec I1.out i2 (Or.inr (by rw [hP]; exact hc))
        have I2 : (q - 1) * N1 + (r + N1) = U := by rw [Int.sub_mul]; have := I1.out; omega
        by_cases hr : 4294967296 ≤ r + N1
        · have hQ := D1.out.brk I2 hdec (by omega) hr
          clear I2
          go_wp2
          go_loop [18, 16] (fun A R => DigAt U2 N1 Q0 A R) (fun A _ => (intOf A).toNat)
          case atStart => exact ⟨U2 / N1, rj, ⟨by rw [hm2]; exact TT1.out, tt2, tt3, tt4, tt5⟩, rfl, rfl⟩
          case round =>
            obtain ⟨q, r, ⟨i1, i2, i3, i4, i5⟩, rfl, rfl⟩ := hrel
            have I1 := Lib.hid i1; clear i1
            by_cases hbig : 4294967296 ≤ q
            · have hdec := D2.out.dec I1.out i2 (Or.inl hbig)
              have I2 : (q - 1) * N1 + (r + N1) = U2 := by rw [Int.sub_mul]; have := I1.out; omega
              by_cases hr : 4294967296 ≤ r + N1
              · have hQ := D2.out.brk I2 hdec (by omega) hr
                clear I2
                go_wp2
                go_ret2
                exact ⟨by rw [RE.out]; rfl, rfl⟩
              · skip
                have IH := Lib.hid I2; clear I2
                go_wp2
                go_round
                case rel => exact ⟨q - 1, r + N1, ⟨IH.out, hdec, by omega, by omega, by omega⟩, rfl, rfl⟩
                case measure => simp [intOf]; omega
            · have hp := prod_bd (by omega : 0 ≤ q) (by omega) n0a n0b
              obtain ⟨P, hP⟩ : ∃ P, q * N0 = P := ⟨_, rfl⟩
              rw [hP] at hp
              by_cases hc : 4294967296 * r + V0 < P
              · have hdec := D2.out.dec I1.out i2 (Or.inr (by rw [hP]; exact hc))
                have I2 : (q - 1) * N1 + (r + N1) = U2 := by rw [Int.sub_mul]; have := I1.out; omega
                by_cases hr : 4294967296 ≤ r + N1
                · have hQ := D2.out.brk I2 hdec (by omega) hr
                  clear I2
                  go_wp2
                  go_ret2
                  exact ⟨by rw [RE.out]; rfl, rfl⟩
                · skip
                  have IH := Lib.hid I2; clear I2
                  go_wp2
                  go_round
                  case rel => exact ⟨q - 1, r + N1, ⟨IH.out, hdec, by omega, by omega, by omega⟩, rfl, rfl⟩
                  case measure => simp [intOf]; omega
              · obtain rfl : Q0 = q := (D2.out.stop I1.out i2 (by omega)).symm
                go_wp2
                go_ret2
                exact ⟨by rw [RE.out]; rfl, rfl⟩
        · skip
          have IH := Lib.hid I2; clear I2
          go_wp2
          go_round
          case rel => exact ⟨q - 1, r + N1, ⟨IH.out, hdec, by omega, by omega, by omega⟩, rfl, rfl⟩
          case measure => simp [intOf]; omega
      · obtain rfl : Q1 = q := (D1.out.stop I1.out i2 (by omega)).symm
        go_wp2
        go_loop [18, 16] (fun A R => DigAt U2 N1 Q0 A R) (fun A _ => (intOf A).toNat)
        case atStart => exact ⟨U2 / N1, rj, ⟨by rw [hm2]; exact TT1.out, tt2, tt3, tt4, tt5⟩, rfl, rfl⟩
        case round =>
          obtain ⟨q, r, ⟨i1, i2, i3, i4, i5⟩, rfl, rfl⟩ := hrel
          have I1 := Lib.hid i1; clear i1
          by_cases hbig : 4294967296 ≤ q
          · have hdec := D2.out.dec I1.out i2 (Or.inl hbig)
            have I2 : (q - 1) * N1 + (r + N1) = U2 := by rw [Int.sub_mul]; have := I1.out; omega
            by_cases hr : 4294967296 ≤ r + N1
            · have hQ := D2.out.brk I2 hdec (by omega) hr
              clear I2
              go_wp2
              go_ret2
              exact ⟨by rw [RE.out]; rfl, rfl⟩
            · skip
              have IH := Lib.hid I2; clear I2
              go_wp2
              go_round
              case rel => exact ⟨q - 1, r + N1, ⟨IH.out, hdec, by omega, by omega, by omega⟩, rfl, rfl⟩
              case measure => simp [intOf]; omega
          · have hp := prod_bd (by omega : 0 ≤ q) (by omega) n0a n0b
            obtain ⟨P, hP⟩ : ∃ P, q * N0 = P := ⟨_, rfl⟩
            rw [hP] at hp
            by_cases hc : 4294967296 * r + V0 < P
            · have hdec := D2.out.dec I1.out i2 (Or.inr (by rw [hP]; exact hc))
              have I2 : (q - 1) * N1 + (r + N1) = U2 := by rw [Int.sub_mul]; have := I1.out; omega
              by_cases hr : 4294967296 ≤ r + N1
              · have hQ := D2.out.brk I2 hdec (by omega) hr
                clear I2
                go_wp2
                go_ret2
                exact ⟨by rw [RE.out]; rfl, rfl⟩
              · skip
                have IH := Lib.hid I2; clear I2
                go_wp2
                go_round
                case rel => exact ⟨q - 1, r + N1, ⟨IH.out, hdec, by omega, by omega, by omega⟩, rfl, rfl⟩
                case measure => simp [intOf]; omega
            · obtain rfl : Q0 = q := (D2.out.stop I1.out i2 (by omega)).symm
              go_wp2
              go_ret2
              exact ⟨by rw [RE.out]; rfl, rfl⟩
end Go.Proofs.YtecmhjhjmhliiaaDoor


/-
  The contract of bits.Div64 by numbers, for a high part that is below the divisor.
-/

namespace Go.Proofs.YtecmhjhjmhliiaaDoor

set_option maxRecDepth 100000

open Go.RowKit DivM

theorem bitLen_bd : ∀ (f x : Nat), x ≠ 0 → x < 2 ^ f → f ≤ 64 → 2 ^ (Lib.bitLen x) ≤ 2 * x ∧ x < 2 ^ (Lib.bitLen x) ∧ Lib.bitLen x ≤ f ∧ 1 ≤ Lib.bitLen x := by
  intro f
  induction f with
  | zero => intro x h0 h1 _; simp at h1; omega
  | succ f ih =>
    intro x h0 h1 hf
    have h64 : x < 2 ^ 64 := Nat.lt_of_lt_of_le h1 (Nat.pow_le_pow_right (by omega) hf)
    have hh := Lib.bitLen_half x h0 h64
    by_cases hx : x / 2 = 0
    · have : x = 1 := by omega
      subst this
      have e : Lib.bitLen 1 = 1 := rfl
      rw [e]; omega
    · obtain ⟨a, b, c, d⟩ := ih (x / 2) hx (by rw [Nat.pow_succ] at h1; omega) (by omega)
      rw [hh, Nat.pow_add]
      omega

theorem and_mask {a : Int} (a0 : 0 ≤ a) (a1 : a ≤ 18446744073709551615) : bits .and .u64 a 4294967295 = a % 4294967296 := by
  obtain ⟨x, rfl⟩ := Int.eq_ofNat_of_zero_le a0
  have h := bits_and_u64_nat x 4294967295 (by omega) (by omega)
  have e : x &&& 4294967295 = x % 4294967296 := Nat.and_two_pow_sub_one_eq_mod x 32
  rw [e] at h
  exact h

/-- What the shifts come to. -/
structure Sh (h l y S T : Int) : Prop where
  s1 : 1 ≤ S
  t1 : 1 ≤ T
  st : T * S = 18446744073709551616
  y0 : 9223372036854775808 ≤ y * S
  y1 : y * S ≤ 18446744073709551615
  h0 : 0 ≤ h
  hy : h < y
  l0 : 0 ≤ l
  l1 : l ≤ 18446744073709551615
theorem Sh.hS {h l y S T : Int} (k : Sh h l y S T) : 0 ≤ h * S ∧ h * S ≤ y * S - S := by
  have h1 := Int.mul_le_mul_of_nonneg_right (show h ≤ y - 1 by have := k.hy; omega) (show 0 ≤ S by have := k.s1; omega)
  rw [Int.sub_mul, Int.one_mul] at h1
  exact ⟨Int.mul_nonneg k.h0 (by have := k.s1; omega), h1⟩
theorem Sh.lT {h l y S T : Int} (k : Sh h l y S T) : 0 ≤ l / T ∧ l / T < S := by
  refine ⟨Int.ediv_nonneg k.l0 (by have := k.t1; omega), ?_⟩
  apply Int.ediv_lt_of_lt_mul (by have := k.t1; omega)
  have := k.st; have := k.l1; rw [Int.mul_comm]; omega
theorem Sh.lS {h l y S T : Int} (k : Sh h l y S T) : l * S = l / T * 18446744073709551616 + l % T * S ∧ 0 ≤ l % T * S ∧ l % T * S ≤ 18446744073709551615 := by
  have e := Int.emod_add_mul_ediv l T
  have e2 : l * S = (l % T + T * (l / T)) * S := by rw [e]
  have hm := Int.emod_nonneg l (show T ≠ 0 by have := k.t1; omega)
  have hl := Int.emod_lt_of_pos l (show 0 < T by have := k.t1; omega)
  have hs := k.s1
  have h1 := Int.mul_le_mul_of_nonneg_right (show l % T ≤ T - 1 by omega) (show 0 ≤ S by omega)
  rw [Int.sub_mul, Int.one_mul, k.st] at h1
  refine ⟨?_, Int.mul_nonneg hm (by omega), by omega⟩
  rw [e2, Int.add_mul, Int.mul_right_comm, k.st, Int.mul_comm 18446744073709551616]; omega
/-- The dividend, shifted. -/
theorem Sh.num {h l y S T : Int} (k : Sh h l y S T) : (h * 18446744073709551616 + l) * S = (h * S + l / T) * 18446744073709551616 + l % T * S := by
  rw [Int.add_mul, Int.mul_right_comm, k.lS.1, Int.add_mul]; omega
theorem Sh.uY {h l y S T : Int} (k : Sh h l y S T) : 0 ≤ h * S + l / T ∧ h * S + l / T < y * S := by
  have := k.hS; have := k.lT; omega

theorem emod_mul_right (a b : Int) {S : Int} (h : 0 < S) : (a * S) % (b * S) = a % b * S := by
  rw [Int.mul_comm a, Int.mul_comm b, Int.mul_emod_mul_of_pos _ _ h, Int.mul_comm]

theorem div64_n {h l y : Int} (h0 : 0 ≤ h) (hy : h < y) (y1 : y ≤ 18446744073709551615) (l0 : 0 ≤ l) (l1 : l ≤ 18446744073709551615) (w : World) (hpos : 0 < h) :
    Calls Tryd.prog 68 #[.int .u64 h, .int .u64 l, .int .u64 y] w fun e w' =>
      e = .returned (.tuple #[.int .u64 ((h * 18446744073709551616 + l) / y), .int .u64 ((h * 18446744073709551616 + l) % y)]) ∧ w' = w := by
  obtain ⟨yn, rfl⟩ := Int.eq_ofNat_of_zero_le (show 0 ≤ y by omega)
  obtain ⟨b1, b2, b3, b4⟩ := bitLen_bd 64 yn (by omega) (by omega) (by omega)
  generalize hbl : Lib.bitLen yn = n at *
  have hS1 : 1 ≤ 2 ^ (64 - n) := Nat.one_le_two_pow
  have hT1 : 1 ≤ 2 ^ n := Nat.one_le_two_pow
  have hST : 2 ^ n * 2 ^ (64 - n) = 18446744073709551616 := by rw [← Nat.pow_add, show n + (64 - n) = 64 by omega]
  have hy0 : 2 ^ n * 2 ^ (64 - n) ≤ 2 * yn * 2 ^ (64 - n) := Nat.mul_le_mul_right _ b1
  have hy2 : (yn + 1) * 2 ^ (64 - n) ≤ 2 ^ n * 2 ^ (64 - n) := Nat.mul_le_mul_right _ b2
  rw [hST] at hy0 hy2
  rw [Nat.add_mul, Nat.one_mul] at hy2
  rw [Nat.mul_assoc] at hy0
  have k : Sh h l yn (((2 ^ (64 - n) : Nat)) : Int) (((2 ^ n : Nat)) : Int) :=
    ⟨by omega, by omega, by rw [← Int.natCast_mul, hST]; rfl, by rw [← Int.natCast_mul]; omega, by rw [← Int.natCast_mul]; omega, h0, hy, l0, l1⟩
  have es : (64 - (n : Int)).toNat = 64 - n := by omega
  have es2 : (64 - (64 - (n : Int))).toNat = n := by omega
  have eS : (2 : Int) ^ (64 - (n : Int)).toNat = ((2 ^ (64 - n) : Nat) : Int) := by rw [es, Int.natCast_pow]; rfl
  have eT : (2 : Int) ^ (64 - (64 - (n : Int))).toNat = ((2 ^ n : Nat) : Int) := by rw [es2, Int.natCast_pow]; rfl
  have hk : 64 - n ≤ 63 := by omega
  generalize hSd : (((2 ^ (64 - n) : Nat)) : Int) = S at *
  generalize hTd : (((2 ^ n : Nat)) : Int) = T at *
  have hHS := k.hS; have hLT := k.lT; have hLS := k.lS; have hu := k.uY
  have ky0 := k.y0; have ky1 := k.y1; have ks := k.s1
  have hor : bits .or .u64 (h * S) (l / T) = h * S + l / T :=
    or_u64 (64 - n) hSd.symm (Int.mul_emod_left h S) hHS.1 (by omega) hLT.1 hLT.2 (by omega)
  have hyp : 0 < (yn : Int) * S := by omega
  have d1 : Dig (h * S + l / T) (l % T * S / 4294967296) (yn * S) (yn * S / 4294967296) (yn * S % 4294967296) _ :=
    ⟨by omega, by omega, by omega, by omega, by omega, hu.1, hu.2, by omega, by omega, rfl⟩
  have d2 : Dig _ (l % T * S % 4294967296) (yn * S) (yn * S / 4294967296) (yn * S % 4294967296) _ :=
    ⟨by omega, by omega, by omega, by omega, by omega, d1.rest.1, d1.rest.2, by omega, by omega, rfl⟩
  have h2 := two_digits d1 rfl d2
  have hnum := k.num
  rw [show (h * S + l / T) * 18446744073709551616 + (l % T * S / 4294967296 * 4294967296 + l % T * S % 4294967296) = (h * 18446744073709551616 + l) * S by rw [hnum]; omega] at h2
  rw [Int.mul_ediv_mul_of_pos_left _ _ (by omega : 0 < S), emod_mul_right _ _ (by omega : 0 < S)] at h2
  have hw := div64_walk h l yn (64 - n) S T (yn * S) (yn * S / 4294967296) (yn * S % 4294967296) (h * S) (l / T) (h * S + l / T) (l % T * S) (l % T * S / 4294967296) (l % T * S % 4294967296) _ _ _ w
    hpos hy y1 (by omega) (by omega) (by rw [Int.toNat_natCast, hbl]) eS eT (by rw [IntKind.wrap_u64]; omega) rfl (and_mask (by omega) (by omega)) (by rw [IntKind.wrap_u64]; omega) rfl hor
    (by rw [IntKind.wrap_u64]; omega) rfl (and_mask (by omega) (by omega)) d1 rfl d2 (by omega)
  rw [← h2.1, ← h2.2, Int.mul_ediv_cancel _ (by omega : S ≠ 0)] at hw
  exact hw

set_option maxHeartbeats 1000000 in
theorem div64_0 {l y : Int} (hy : 0 < y) (y1 : y ≤ 18446744073709551615) (l0 : 0 ≤ l) (l1 : l ≤ 18446744073709551615) (w : World) :
    Calls Tryd.prog 68 #[.int .u64 0, .int .u64 l, .int .u64 y] w fun e w' =>
      e = .returned (.tuple #[.int .u64 (l / y), .int .u64 (l % y)]) ∧ w' = w.drew := by
  have e1 : (y == 0) = false := by rw [beq_eq_false_iff_ne]; omega
  have e2 : ¬ y ≤ 0 := by omega
  have e3 : ¬ y = 0 := by omega
  have q0 : 0 ≤ l / y := Int.ediv_nonneg l0 (by omega)
  have q1 : l / y ≤ 18446744073709551615 := Int.le_trans (Int.ediv_le_self _ l0) l1
  have t1 : l.tdiv y = l / y := Int.tdiv_eq_ediv_of_nonneg l0
  have t2 : l.tmod y = l % y := Int.tmod_eq_emod_of_nonneg l0
  have t3 : IntKind.u64.wrap (l / y) = l / y := by rw [IntKind.wrap_u64]; omega
  go_enter Tryd.func68, Tryd.ntmps68
  go_wp2
  refine wp_region_held_drew (S := (fun _ => True)) (by kernel_rfl) ?_ (fun hHeld => ?_)
  · trivial
  refine H.take 0 (v := ?_) rfl (by kernel_rfl) (fun _ _ _ h => h) (by rfl) ?_ (by assumption) ?_
  rotate_left
  · (intro wz hSw; (try dsimp only at hSw); go_simp <;> with_reducible rfl)
  try simp only [Act.put, List.setIfInBounds_toArray, List.set_cons_zero, List.set_cons_succ]
  refine H.take 1 (v := ?_) rfl (by kernel_rfl) (fun _ _ _ h => h) (by rfl) ?_ (by assumption) ?_
  rotate_left
  · (intro wz hSw; (try dsimp only at hSw); go_simp <;> with_reducible rfl)
  try simp only [Act.put, List.setIfInBounds_toArray, List.set_cons_zero, List.set_cons_succ]
  refine H.take 2 (v := ?_) rfl (by kernel_rfl) (fun _ _ _ h => h) (by rfl) ?_ (by assumption) ?_
  rotate_left
  · (intro wz hSw; (try dsimp only at hSw); go_simp <;> with_reducible rfl)
  try simp only [Act.put, List.setIfInBounds_toArray, List.set_cons_zero, List.set_cons_succ]
  refine H.take 3 (v := ?_) rfl (by kernel_rfl) (fun _ _ _ h => h) (by rfl) ?_ (by assumption) ?_
  rotate_left
  · (intro wz hSw; (try dsimp only at hSw); go_simp <;> with_reducible rfl)
  try simp only [Act.put, List.setIfInBounds_toArray, List.set_cons_zero, List.set_cons_succ]
  refine H.take 4 (v := ?_) rfl (by kernel_rfl) (fun _ _ _ h => h) (by rfl) ?_ (by assumption) ?_
  rotate_left
  · (intro wz hSw; (try dsimp only at hSw); go_simp <;> with_reducible rfl)
  try simp only [Act.put, List.setIfInBounds_toArray, List.set_cons_zero, List.set_cons_succ]
  refine H.take 5 (v := ?_) rfl (by kernel_rfl) (fun _ _ _ h => h) (by rfl) ?_ (by assumption) ?_
  rotate_left
  · (intro wz hSw; (try dsimp only at hSw); go_simp <;> with_reducible rfl)
  try simp only [Act.put, List.setIfInBounds_toArray, List.set_cons_zero, List.set_cons_succ]
  refine H.take 6 (v := ?_) rfl (by kernel_rfl) (fun _ _ _ h => h) (by rfl) ?_ (by assumption) ?_
  rotate_left
  · (intro wz hSw; (try dsimp only at hSw); go_simp <;> with_reducible rfl)
  try simp only [Act.put, List.setIfInBounds_toArray, List.set_cons_zero, List.set_cons_succ]
  refine H.take 7 (v := ?_) rfl (by kernel_rfl) (fun _ _ _ h => h) (by rfl) ?_ (by assumption) ?_
  rotate_left
  · (intro wz hSw; (try dsimp only at hSw); go_simp <;> with_reducible rfl)
  try simp only [Act.put, List.setIfInBounds_toArray, List.set_cons_zero, List.set_cons_succ]
  refine H.done (by kernel_rfl) ?_ _
  go_wp2
  go_ret2
  exact ⟨rfl, rfl⟩

/-- Whatever the high part is, below the divisor. -/
theorem div64_any {h l y : Int} (h0 : 0 ≤ h) (hy : h < y) (y1 : y ≤ 18446744073709551615) (l0 : 0 ≤ l) (l1 : l ≤ 18446744073709551615) (w : World) :
    Calls Tryd.prog 68 #[.int .u64 h, .int .u64 l, .int .u64 y] w fun e w' =>
      e = .returned (.tuple #[.int .u64 ((h * 18446744073709551616 + l) / y), .int .u64 ((h * 18446744073709551616 + l) % y)]) ∧ Below w.heap.size w w' := by
  by_cases hp : 0 < h
  · refine (div64_n h0 hy y1 l0 l1 w hp).mono ?_
    rintro e w' ⟨he, rfl⟩; exact ⟨he, Below.refl _ _⟩
  · obtain rfl : 0 = h := by omega
    refine (div64_0 (by omega) y1 l0 l1 w).mono ?_
    rintro e w' ⟨rfl, rfl⟩; exact ⟨by rw [Int.zero_mul, Int.zero_add], (Below.refl _ _).drew⟩
end Go.Proofs.YtecmhjhjmhliiaaDoor


/-
  The contract of wide.Div.
-/

namespace Go.Proofs.YtecmhjhjmhliiaaDoor

set_option maxRecDepth 100000

open Go.RowKit

/-- The long division of a size, word by word. -/
theorem word_div {H L y : Int} (y0 : 0 < y) (L0 : 0 ≤ L) (L1 : L ≤ 18446744073709551615) :
    (H * 18446744073709551616 + L) / y = H / y * 18446744073709551616 + (H % y * 18446744073709551616 + L) / y ∧
    (H * 18446744073709551616 + L) % y = (H % y * 18446744073709551616 + L) % y ∧
    0 ≤ (H % y * 18446744073709551616 + L) / y ∧ (H % y * 18446744073709551616 + L) / y ≤ 18446744073709551615 := by
  have e := Int.emod_add_mul_ediv H y
  have m0 := Int.emod_nonneg H (show y ≠ 0 by omega)
  have m1 := Int.emod_lt_of_pos H y0
  have e2 : H * 18446744073709551616 + L = (H % y * 18446744073709551616 + L) + y * (H / y * 18446744073709551616) := by
    rw [← Int.mul_assoc]; generalize y * (H / y) = p at *; omega
  refine ⟨?_, ?_, Int.ediv_nonneg (by omega) (by omega), ?_⟩
  · rw [e2, Int.add_mul_ediv_left _ _ (by omega : y ≠ 0)]; omega
  · rw [e2, Int.add_mul_emod_self_left]
  · have : (H % y * 18446744073709551616 + L) / y < 18446744073709551616 := by
      apply Int.ediv_lt_of_lt_mul y0; rw [Int.mul_comm]; omega
    omega
/-- The quotient of a number below 0 out of that of its size. -/
theorem neg_div {m y : Int} (y0 : 0 < y) : (m % y = 0 → (-m) / y = -(m / y) ∧ (-m) % y = 0) ∧ (m % y ≠ 0 → (-m) / y = -(m / y + 1) ∧ (-m) % y = y - m % y) := by
  have e := Int.emod_add_mul_ediv m y
  have m0 := Int.emod_nonneg m (show y ≠ 0 by omega)
  have m1 := Int.emod_lt_of_pos m y0
  constructor
  · intro h
    have h2 : -m = 0 + y * (-(m / y)) := by rw [Int.mul_neg]; omega
    rw [h2, Int.add_mul_ediv_left _ _ (by omega : y ≠ 0), Int.add_mul_emod_self_left, Int.zero_ediv, Int.zero_emod]; omega
  · intro h
    have h2 : -m = (y - m % y) + y * (-(m / y + 1)) := by rw [Int.mul_neg, Int.mul_add]; omega
    rw [h2, Int.add_mul_ediv_left _ _ (by omega : y ≠ 0), Int.add_mul_emod_self_left, Int.ediv_eq_zero_of_lt (by omega) (by omega), Int.emod_eq_of_lt (by omega) (by omega)]; omega
theorem div_in {n y : Int} (hn : InR n) (y0 : 0 < y) : InR (n / y) := by
  unfold InR at *
  constructor
  · apply Int.le_ediv_of_mul_le y0
    have : -170141183460469231731687303715884105728 * y ≤ -170141183460469231731687303715884105728 * 1 := Int.mul_le_mul_of_nonpos_left (by omega) (by omega)
    omega
  · have : n / y < 170141183460469231731687303715884105728 := by
      apply Int.ediv_lt_of_lt_mul y0
      have : 170141183460469231731687303715884105728 * 1 ≤ 170141183460469231731687303715884105728 * y := Int.mul_le_mul_of_nonneg_left (by omega) (by omega)
      omega
    omega

theorem ret_div {v : Value} {a b : Int} (h : a = b) : Ending.returned (.tuple #[v, .int .u64 a, .bool true]) = .returned (.tuple #[v, .int .u64 b, .bool true]) := by rw [h]

set_option maxHeartbeats 4000000 in
theorem wdiv_n {n y : Int} (hn : InR n) (y0 : 0 < y) (y1 : y ≤ 18446744073709551615) (w : World) :
    Calls Tryd.prog 45 #[.agg #[.int .i64 (hi n), .int .u64 (lo n)], .int .u64 y] w fun e w' =>
      e = .returned (.tuple #[.agg #[.int .i64 (hi (n / y)), .int .u64 (lo (n / y))], .int .u64 (n % y), .bool true]) ∧ Below w.heap.size w w' := by
  have hs := sz_bd hn
  have lb := lo_bd (sz n)
  have hb0 : 0 ≤ hi (sz n) := hi_nn hs.1
  have hb1 : hi (sz n) ≤ 9223372036854775808 := hi_le hs.2
  have ma := fun w => magnitude_n hn w
  have yz : (y == 0) = false := by rw [beq_eq_false_iff_ne]; omega
  have yz2 : ¬ y = 0 := by omega
  have q1 := fun (w' : World) (h : Blk w' w.heap.size #[.int .i64 (hi n), .int .u64 (lo n)] 52) => h.two
  have q2 := fun (w' : World) (h : Blk w' (w.heap.size + 1) #[.int .i64 0, .int .u64 0] 52) => h.two
  have q3 := fun (w' : World) (h : Blk w' (w.heap.size + 1) #[.int .i64 0, .int .u64 0] 52) => h.free0
  obtain ⟨w1, w2, w3, w4⟩ := word_div y0 (H := hi (sz n)) lb.1 lb.2
  rw [hilo] at w1 w2
  have m0 := Int.emod_nonneg (hi (sz n)) (show y ≠ 0 by omega)
  have m1 := Int.emod_lt_of_pos (hi (sz n)) y0
  have qd : hi (sz n) / y ≤ 9223372036854775808 := Int.le_trans (Int.ediv_le_self _ hb0) hb1
  have qd0 : 0 ≤ hi (sz n) / y := Int.ediv_nonneg hb0 (by omega)
  have dv := fun w => div64_any m0 m1 y1 lb.1 lb.2 w
  have t1 : (hi (sz n)).tdiv y = hi (sz n) / y := Int.tdiv_eq_ediv_of_nonneg hb0
  have t2 : (hi (sz n)).tmod y = hi (sz n) % y := Int.tmod_eq_emod_of_nonneg hb0
  have t3 : IntKind.u64.wrap (hi (sz n) / y) = hi (sz n) / y := by rw [IntKind.wrap_u64]; omega
  have r0 := Int.emod_nonneg (hi (sz n) % y * 18446744073709551616 + lo (sz n)) (show y ≠ 0 by omega)
  have r1 := Int.emod_lt_of_pos (hi (sz n) % y * 18446744073709551616 + lo (sz n)) y0
  have hin := div_in hn y0
  have hneg := neg_div (m := sz n) y0
  generalize (hi (sz n) % y * 18446744073709551616 + lo (sz n)) / y = LOW at *
  generalize (hi (sz n) % y * 18446744073709551616 + lo (sz n)) % y = R at *
  rw [w1, w2] at hneg
  have DV := Lib.hid dv; have MA := Lib.hid ma
  clear dv ma
  by_cases hnn : n < 0
  · rw [show -sz n = n by rw [sz_neg hnn]; omega] at hneg
    have hd := decide_eq_true hnn
    by_cases hr : R = 0
    · obtain ⟨e1, e2⟩ := hneg.1 hr
      have hsg : clamp (sgn true (hi (sz n) / y * 18446744073709551616 + LOW)) = n / y := by simp only [sgn, if_true]; rw [← e1]; exact clamp_of hin
      have hs := fun (b : Nat) (w : World) (g : Blk w b #[.bool true] 4) => signed_any true (x := hi (sz n) / y) (y := LOW) (by omega) (by omega) w3 w4 g
      rw [hsg] at hs
      subst hr
      clear hneg w1 w2 e1 hsg
      have E2 := Lib.hid e2; clear e2
      generalize hi (sz n) / y = HI at *
      have HS := Lib.hid hs; clear hs
      go_enter Tryd.func45, Tryd.ntmps45
      go_wp2_with (go_at_call 67; refine (MA.out _).mono ?_; rintro e w1 ⟨rfl, hb1⟩; have g := Blk.keep hb1 (Blk.new (b := w.heap.size + 1) (T := 52) (by simp)); have gA := Blk.keep hb1 (Blk.old (Blk.new (b := w.heap.size) (T := 52) rfl) _); have gB := (((Below.refl w.heap.size w).alloc (Nat.le_refl _) _).alloc (by simp) _).trans (hb1.mono (by simp; omega)))
      refine wp_region_held_drew (S := (fun w' => Blk w' (w.heap.size + 1) #[.int .i64 0, .int .u64 0] 52 ∧ Blk w' w.heap.size #[.int .i64 (hi n), .int .u64 (lo n)] 52 ∧ Below w.heap.size w w')) (by kernel_rfl) ?_ (fun hHeld => ?_)
      · exact ⟨g.drew, gA.drew, gB.drew⟩
      refine H.take 0 (v := ?_) rfl (by kernel_rfl) (fun _ _ _ h => h) (by rfl) ?_ (by assumption) ?_
      rotate_left
      · (intro wz hSw; (try dsimp only at hSw); go_simp <;> with_reducible rfl)
      try simp only [Act.put, List.setIfInBounds_toArray, List.set_cons_zero, List.set_cons_succ]
      refine H.take 1 (v := ?_) rfl (by kernel_rfl) (fun _ _ _ h => h) (by rfl) ?_ (by assumption) ?_
      rotate_left
      · (intro wz hSw; (try dsimp only at hSw); go_simp <;> with_reducible rfl)
      try simp only [Act.put, List.setIfInBounds_toArray, List.set_cons_zero, List.set_cons_succ]
      refine H.take 2 (v := ?_) rfl (by kernel_rfl) (fun _ _ _ h => h) (by rfl) ?_ (by assumption) ?_
      rotate_left
      · (intro wz hSw; (try dsimp only at hSw); go_simp <;> with_reducible rfl)
      try simp only [Act.put, List.setIfInBounds_toArray, List.set_cons_zero, List.set_cons_succ]
      refine H.take 3 (v := ?_) rfl (by kernel_rfl) (fun _ _ _ h => h) (by rfl) ?_ (by assumption) ?_
      rotate_left
      · (intro wz hSw; (try dsimp only at hSw); go_simp <;> with_reducible rfl)
      try simp only [Act.put, List.setIfInBounds_toArray, List.set_cons_zero, List.set_cons_succ]
      refine H.take 4 (v := ?_) rfl (by kernel_rfl) (fun _ _ _ h => h) (by rfl) ?_ (by assumption) ?_
      rotate_left
      · (intro wz hSw; (try dsimp only at hSw); go_simp <;> with_reducible rfl)
      try simp only [Act.put, List.setIfInBounds_toArray, List.set_cons_zero, List.set_cons_succ]
      refine H.take 5 (v := ?_) rfl (by kernel_rfl) (fun _ _ _ h => h) (by rfl) ?_ (by assumption) ?_
      rotate_left
      · (intro wz hSw; (try dsimp only at hSw); go_simp <;> with_reducible rfl)
      try simp only [Act.put, List.setIfInBounds_toArray, List.set_cons_zero, List.set_cons_succ]
      refine H.take 6 (v := ?_) rfl (by kernel_rfl) (fun _ _ _ h => h) (by rfl) ?_ (by assumption) ?_
      rotate_left
      · (intro wz hSw; (try dsimp only at hSw); go_simp <;> with_reducible rfl)
      try simp only [Act.put, List.setIfInBounds_toArray, List.set_cons_zero, List.set_cons_succ]
      refine H.take 7 (v := ?_) rfl (by kernel_rfl) (fun _ _ _ h => h) (by rfl) ?_ (by assumption) ?_
      rotate_left
      · (intro wz hSw; (try dsimp only at hSw); go_simp <;> with_reducible rfl)
      try simp only [Act.put, List.setIfInBounds_toArray, List.set_cons_zero, List.set_cons_succ]
      refine H.done (by kernel_rfl) ?_ _
      clear g gA gB; obtain ⟨g, gA, gB⟩ := hHeld
      go_wp2_with (first | (go_at_call 68; refine (DV.out _).mono ?_; rintro e w2 ⟨rfl, hb2⟩; replace g := Blk.keep hb2 g; replace gA := Blk.keep hb2 gA; replace gB := gB.trans (hb2.mono gB.size)) | (go_at_call 62; refine (negative_n _ _).mono ?_; rintro e w2 ⟨rfl, hb2⟩; replace g := Blk.keep hb2 g; replace gA := Blk.keep hb2 gA; replace gB := gB.trans (hb2.mono gB.size)) | (go_at_call 69; refine (signer_any _ _).mono ?_; rintro e w2 ⟨rfl, rfl⟩; replace g := Blk.old g (.cells #[.bool true] 4); replace gB := gB.alloc gB.size (.cells #[.bool true] 4)))
      refine (HS.out _ _ (Blk.new rfl)).mono ?_
      rintro e w2 ⟨rfl, hb2⟩; replace g := Blk.keep hb2 g; replace gB := gB.trans (hb2.mono gB.size)
      go_wp2
      have hfin := (g.put (i := 0) (.int .i64 (hi (n / y)))).put (i := 1) (.int .u64 (lo (n / y)))
      exact bodyPost_ret (v := .tuple #[.agg #[.int .i64 (hi (n / y)), .int .u64 (lo (n / y))], .int .u64 0, .bool true]) (by simp [results, Tryd.results45, go_sem, (show Blk _ _ #[.int .i64 (hi (n / y)), .int .u64 (lo (n / y))] _ from hfin).two]) rfl ⟨ret_div E2.out.symm, (gB.setCell (by simp) _).setCell (by simp) _⟩
    · obtain ⟨e1, e2⟩ := hneg.2 hr
      have hr2 : (R != 0) = true := by rw [bne_iff_ne]; omega
      have hr3 : (R == 0) = false := by rw [beq_eq_false_iff_ne]; omega
      have ha := fun w => run_add64 LOW 1 0 w3 (by omega) (by omega) (by omega) w
      have hsg : clamp (sgn true ((hi (sz n) / y + (LOW + 1) / 18446744073709551616) * 18446744073709551616 + (LOW + 1) % 18446744073709551616)) = n / y := by
        simp only [sgn, if_true]; rw [show (hi (sz n) / y + (LOW + 1) / 18446744073709551616) * 18446744073709551616 + (LOW + 1) % 18446744073709551616 = hi (sz n) / y * 18446744073709551616 + LOW + 1 by omega, ← e1]; exact clamp_of hin
      have hs := fun (b : Nat) (w : World) (g : Blk w b #[.bool true] 4) => signed_any true (x := hi (sz n) / y + (LOW + 1) / 18446744073709551616) (y := (LOW + 1) % 18446744073709551616) (by omega) (by omega) (by omega) (by omega) g
      rw [hsg] at hs
      clear hneg w1 w2 e1 hsg
      have E2 := Lib.hid e2; clear e2
      generalize hi (sz n) / y = HI at *
      have HS := Lib.hid hs; clear hs
      go_enter Tryd.func45, Tryd.ntmps45
      go_wp2_with (go_at_call 67; refine (MA.out _).mono ?_; rintro e w1 ⟨rfl, hb1⟩; have g := Blk.keep hb1 (Blk.new (b := w.heap.size + 1) (T := 52) (by simp)); have gA := Blk.keep hb1 (Blk.old (Blk.new (b := w.heap.size) (T := 52) rfl) _); have gB := (((Below.refl w.heap.size w).alloc (Nat.le_refl _) _).alloc (by simp) _).trans (hb1.mono (by simp; omega)))
      refine wp_region_held_drew (S := (fun w' => Blk w' (w.heap.size + 1) #[.int .i64 0, .int .u64 0] 52 ∧ Blk w' w.heap.size #[.int .i64 (hi n), .int .u64 (lo n)] 52 ∧ Below w.heap.size w w')) (by kernel_rfl) ?_ (fun hHeld => ?_)
      · exact ⟨g.drew, gA.drew, gB.drew⟩
      refine H.take 0 (v := ?_) rfl (by kernel_rfl) (fun _ _ _ h => h) (by rfl) ?_ (by assumption) ?_
      rotate_left
      · (intro wz hSw; (try dsimp only at hSw); go_simp <;> with_reducible rfl)
      try simp only [Act.put, List.setIfInBounds_toArray, List.set_cons_zero, List.set_cons_succ]
      refine H.take 1 (v := ?_) rfl (by kernel_rfl) (fun _ _ _ h => h) (by rfl) ?_ (by assumption) ?_
      rotate_left
      · (intro wz hSw; (try dsimp only at hSw); go_simp <;> with_reducible rfl)
      try simp only [Act.put, List.setIfInBounds_toArray, List.set_cons_zero, List.set_cons_succ]
      refine H.take 2 (v := ?_) rfl (by kernel_rfl) (fun _ _ _ h => h) (by rfl) ?_ (by assumption) ?_
      rotate_left
      · (intro wz hSw; (try dsimp only at hSw); go_simp <;> with_reducible rfl)
      try simp only [Act.put, List.setIfInBounds_toArray, List.set_cons_zero, List.set_cons_succ]
      refine H.take 3 (v := ?_) rfl (by kernel_rfl) (fun _ _ _ h => h) (by rfl) ?_ (by assumption) ?_
      rotate_left
      · (intro wz hSw; (try dsimp only at hSw); go_simp <;> with_reducible rfl)
      try simp only [Act.put, List.setIfInBounds_toArray, List.set_cons_zero, List.set_cons_succ]
      refine H.take 4 (v := ?_) rfl (by kernel_rfl) (fun _ _ _ h => h) (by rfl) ?_ (by assumption) ?_
      rotate_left
      · (intro wz hSw; (try dsimp only at hSw); go_simp <;> with_reducible rfl)
      try simp only [Act.put, List.setIfInBounds_toArray, List.set_cons_zero, List.set_cons_succ]
      refine H.take 5 (v := ?_) rfl (by kernel_rfl) (fun _ _ _ h => h) (by rfl) ?_ (by assumption) ?_
      rotate_left
      · (intro wz hSw; (try dsimp only at hSw); go_simp <;> with_reducible rfl)
      try simp only [Act.put, List.setIfInBounds_toArray, List.set_cons_zero, List.set_cons_succ]
      refine H.take 6 (v := ?_) rfl (by kernel_rfl) (fun _ _ _ h => h) (by rfl) ?_ (by assumption) ?_
      rotate_left
      · (intro wz hSw; (try dsimp only at hSw); go_simp <;> with_reducible rfl)
      try simp only [Act.put, List.setIfInBounds_toArray, List.set_cons_zero, List.set_cons_succ]
      refine H.take 7 (v := ?_) rfl (by kernel_rfl) (fun _ _ _ h => h) (by rfl) ?_ (by assumption) ?_
      rotate_left
      · (intro wz hSw; (try dsimp only at hSw); go_simp <;> with_reducible rfl)
      try simp only [Act.put, List.setIfInBounds_toArray, List.set_cons_zero, List.set_cons_succ]
      refine H.done (by kernel_rfl) ?_ _
      clear g gA gB; obtain ⟨g, gA, gB⟩ := hHeld
      go_wp2_with (first | (go_at_call 68; refine (DV.out _).mono ?_; rintro e w2 ⟨rfl, hb2⟩; replace g := Blk.keep hb2 g; replace gA := Blk.keep hb2 gA; replace gB := gB.trans (hb2.mono gB.size)) | (go_at_call 62; refine (negative_n _ _).mono ?_; rintro e w2 ⟨rfl, hb2⟩; replace g := Blk.keep hb2 g; replace gA := Blk.keep hb2 gA; replace gB := gB.trans (hb2.mono gB.size)) | (go_at_call 69; refine (signer_any _ _).mono ?_; rintro e w2 ⟨rfl, rfl⟩; replace g := Blk.old g (.cells #[.bool true] 4); replace gB := gB.alloc gB.size (.cells #[.bool true] 4)))
      refine (HS.out _ _ (Blk.new rfl)).mono ?_
      rintro e w2 ⟨rfl, hb2⟩; replace g := Blk.keep hb2 g; replace gB := gB.trans (hb2.mono gB.size)
      go_wp2
      have hfin := (g.put (i := 0) (.int .i64 (hi (n / y)))).put (i := 1) (.int .u64 (lo (n / y)))
      exact bodyPost_ret (v := .tuple #[.agg #[.int .i64 (hi (n / y)), .int .u64 (lo (n / y))], .int .u64 (y - R), .bool true]) (by simp [results, Tryd.results45, go_sem, (show Blk _ _ #[.int .i64 (hi (n / y)), .int .u64 (lo (n / y))] _ from hfin).two]) rfl ⟨ret_div E2.out.symm, (gB.setCell (by simp) _).setCell (by simp) _⟩
  · have e0 := sz_pos (show 0 ≤ n by omega)
    have hd := decide_eq_false hnn
    have hsg : clamp (sgn false (hi (sz n) / y * 18446744073709551616 + LOW)) = n / y := by simp only [sgn, Bool.false_eq_true, if_false]; rw [← w1, e0]; exact clamp_of hin
    have e2 : n % y = R := by rw [← w2, e0]
    have hs := fun (b : Nat) (w : World) (g : Blk w b #[.bool false] 4) => signed_any false (x := hi (sz n) / y) (y := LOW) (by omega) (by omega) w3 w4 g
    rw [hsg] at hs
    clear hneg w1 w2 hsg
    have E2 := Lib.hid e2; clear e2 e0
    generalize hi (sz n) / y = HI at *
    have HS := Lib.hid hs; clear hs
    go_enter Tryd.func45, Tryd.ntmps45
    go_wp2_with (go_at_call 67; refine (MA.out _).mono ?_; rintro e w1 ⟨rfl, hb1⟩; have g := Blk.keep hb1 (Blk.new (b := w.heap.size + 1) (T := 52) (by simp)); have gA := Blk.keep hb1 (Blk.old (Blk.new (b := w.heap.size) (T := 52) rfl) _); have gB := (((Below.refl w.heap.size w).alloc (Nat.le_refl _) _).alloc (by simp) _).trans (hb1.mono (by simp; omega)))
    refine wp_region_held_drew (S := (fun w' => Blk w' (w.heap.size + 1) #[.int .i64 0, .int .u64 0] 52 ∧ Blk w' w.heap.size #[.int .i64 (hi n), .int .u64 (lo n)] 52 ∧ Below w.heap.size w w')) (by kernel_rfl) ?_ (fun hHeld => ?_)
    · exact ⟨g.drew, gA.drew, gB.drew⟩
    refine H.take 0 (v := ?_) rfl (by kernel_rfl) (fun _ _ _ h => h) (by rfl) ?_ (by assumption) ?_
    rotate_left
    · (intro wz hSw; (try dsimp only at hSw); go_simp <;> with_reducible rfl)
    try simp only [Act.put, List.setIfInBounds_toArray, List.set_cons_zero, List.set_cons_succ]
    refine H.take 1 (v := ?_) rfl (by kernel_rfl) (fun _ _ _ h => h) (by rfl) ?_ (by assumption) ?_
    rotate_left
    · (intro wz hSw; (try dsimp only at hSw); go_simp <;> with_reducible rfl)
    try simp only [Act.put, List.setIfInBounds_toArray, List.set_cons_zero, List.set_cons_succ]
    refine H.take 2 (v := ?_) rfl (by kernel_rfl) (fun _ _ _ h => h) (by rfl) ?_ (by assumption) ?_
    rotate_left
    · (intro wz hSw; (try dsimp only at hSw); go_simp <;> with_reducible rfl)
    try simp only [Act.put, List.setIfInBounds_toArray, List.set_cons_zero, List.set_cons_succ]
    refine H.take 3 (v := ?_) rfl (by kernel_rfl) (fun _ _ _ h => h) (by rfl) ?_ (by assumption) ?_
    rotate_left
    · (intro wz hSw; (try dsimp only at hSw); go_simp <;> with_reducible rfl)
    try simp only [Act.put, List.setIfInBounds_toArray, List.set_cons_zero, List.set_cons_succ]
    refine H.take 4 (v := ?_) rfl (by kernel_rfl) (fun _ _ _ h => h) (by rfl) ?_ (by assumption) ?_
    rotate_left
    · (intro wz hSw; (try dsimp only at hSw); go_simp <;> with_reducible rfl)
    try simp only [Act.put, List.setIfInBounds_toArray, List.set_cons_zero, List.set_cons_succ]
    refine H.take 5 (v := ?_) rfl (by kernel_rfl) (fun _ _ _ h => h) (by rfl) ?_ (by assumption) ?_
    rotate_left
    · (intro wz hSw; (try dsimp only at hSw); go_simp <;> with_reducible rfl)
    try simp only [Act.put, List.setIfInBounds_toArray, List.set_cons_zero, List.set_cons_succ]
    refine H.take 6 (v := ?_) rfl (by kernel_rfl) (fun _ _ _ h => h) (by rfl) ?_ (by assumption) ?_
    rotate_left
    · (intro wz hSw; (try dsimp only at hSw); go_simp <;> with_reducible rfl)
    try simp only [Act.put, List.setIfInBounds_toArray, List.set_cons_zero, List.set_cons_succ]
    refine H.take 7 (v := ?_) rfl (by kernel_rfl) (fun _ _ _ h => h) (by rfl) ?_ (by assumption) ?_
    rotate_left
    · (intro wz hSw; (try dsimp only at hSw); go_simp <;> with_reducible rfl)
    try simp only [Act.put, List.setIfInBounds_toArray, List.set_cons_zero, List.set_cons_succ]
    refine H.done (by kernel_rfl) ?_ _
    clear g gA gB; obtain ⟨g, gA, gB⟩ := hHeld
    go_wp2_with (first | (go_at_call 68; refine (DV.out _).mono ?_; rintro e w2 ⟨rfl, hb2⟩; replace g := Blk.keep hb2 g; replace gA := Blk.keep hb2 gA; replace gB := gB.trans (hb2.mono gB.size)) | (go_at_call 62; refine (negative_n _ _).mono ?_; rintro e w2 ⟨rfl, hb2⟩; replace g := Blk.keep hb2 g; replace gA := Blk.keep hb2 gA; replace gB := gB.trans (hb2.mono gB.size)) | (go_at_call 69; refine (signer_any _ _).mono ?_; rintro e w2 ⟨rfl, rfl⟩; replace g := Blk.old g (.cells #[.bool false] 4); replace gB := gB.alloc gB.size (.cells #[.bool false] 4)))
    refine (HS.out _ _ (Blk.new rfl)).mono ?_
    rintro e w2 ⟨rfl, hb2⟩; replace g := Blk.keep hb2 g; replace gB := gB.trans (hb2.mono gB.size)
    go_wp2
    have hfin := (g.put (i := 0) (.int .i64 (hi (n / y)))).put (i := 1) (.int .u64 (lo (n / y)))
    exact bodyPost_ret (v := .tuple #[.agg #[.int .i64 (hi (n / y)), .int .u64 (lo (n / y))], .int .u64 R, .bool true]) (by simp [results, Tryd.results45, go_sem, (show Blk _ _ #[.int .i64 (hi (n / y)), .int .u64 (lo (n / y))] _ from hfin).two]) rfl ⟨ret_div E2.out.symm, (gB.setCell (by simp) _).setCell (by simp) _⟩
end Go.Proofs.YtecmhjhjmhliiaaDoor


/-
  The contract of wide.Root.
-/

namespace Go.Proofs.YtecmhjhjmhliiaaDoor

open Go.RowKit

def pw (k : Nat) : Int := ((2 ^ k : Nat) : Int)
theorem pw_pos (k : Nat) : 1 ≤ pw k := by unfold pw; have := Nat.one_le_two_pow (n := k); omega
theorem pw_succ (k : Nat) : pw (k + 1) = 2 * pw k := by unfold pw; rw [Nat.pow_succ]; omega
/-- What holds at the head of Root's loop: r is a multiple of p = 2^k, and the root lies from r on, below r + p. -/
def RootInv (n r : Int) (k : Nat) : Prop := k ≤ 64 ∧ 0 ≤ r ∧ r % pw k = 0 ∧ r + pw k ≤ 18446744073709551616 ∧ r * r ≤ n ∧ n < (r + pw k) * (r + pw k)

theorem RootInv.start {n : Int} (h0 : 0 ≤ n) (h1 : n ≤ 170141183460469231731687303715884105727) : RootInv n 0 64 := by
  refine ⟨by omega, by omega, by simp, by decide, by omega, ?_⟩
  have : (0 + pw 64) * (0 + pw 64) = 340282366920938463463374607431768211456 := by decide
  rw [this]; omega
theorem mod_half {r p : Int} (h : r % (2 * p) = 0) : r % p = 0 := by
  have := Int.emod_emod_of_dvd r (Int.dvd_mul_left 2 p); rw [h] at this; simpa using this.symm
theorem RootInv.no {n r : Int} {k : Nat} (h : RootInv n r (k + 1)) (hn : ¬ (r + pw k) * (r + pw k) ≤ n) : RootInv n r k := by
  obtain ⟨a, b, c, d, e, f⟩ := h
  rw [pw_succ] at c d
  have := pw_pos k
  exact ⟨by omega, b, mod_half c, by omega, e, by omega⟩
/-- The integer root: r. -/
def IsRoot (n r : Int) : Prop := 0 ≤ r ∧ r ≤ 18446744073709551615 ∧ r * r ≤ n ∧ n < (r + 1) * (r + 1)
theorem RootInv.fin {n r : Int} (h : RootInv n r 0) : IsRoot n r := by
  obtain ⟨a, b, c, d, e, f⟩ := h
  exact ⟨b, by have : pw 0 = 1 := rfl; omega, e, f⟩
def RootPost (n : Int) (w : World) (e : Ending) (w' : World) : Prop := ∃ r, IsRoot n r ∧ e = .returned (.int .u64 r) ∧ Below w.heap.size w w'

/-- At a round's head: the bit is half of 2^k. -/
def RootAt (n : Int) (R B : Value) : Prop := ∃ (r : Int) (k : Nat), RootInv n r k ∧ R = .int .u64 r ∧ B = .int .u64 (pw k / 2)

end Go.Proofs.YtecmhjhjmhliiaaDoor


/-
  Contracts of package wide: Clip, Root.
-/

namespace Go.Proofs.YtecmhjhjmhliiaaDoor

set_option maxRecDepth 100000

open Go.RowKit

/-- A number cut to 64 bits. -/
def clip (n : Int) : Int := if n < -9223372036854775808 then -9223372036854775808 else if 9223372036854775807 < n then 9223372036854775807 else n

set_option maxHeartbeats 1000000 in
theorem clip_n {n : Int} (hn : InR n) (w : World) :
    Calls Tryd.prog 71 #[.agg #[.int .i64 (hi n), .int .u64 (lo n)]] w fun e w' =>
      e = .returned (.int .i64 (clip n)) ∧ Below w.heap.size w w' := by
  have hb := hi_bd hn; have lb := lo_bd n; have hl := hilo n
  obtain ⟨t, ht⟩ : ∃ t, IntKind.i64.wrap (lo n) = t := ⟨_, rfl⟩
  have hw := IntKind.wrap_i64 (lo n)
  have t0 : -9223372036854775808 ≤ t := by omega
  have t1 : t ≤ 9223372036854775807 := by omega
  have ho := fun w => of_any t t0 t1 w
  have hng := fun w => negative_n n w
  have HN := Lib.hid hng; clear hng
  rcases (by omega : (n < -9223372036854775808 ∨ 9223372036854775807 < n) ∨ (-9223372036854775808 ≤ n ∧ n ≤ 9223372036854775807)) with h | h
  · have e1 : ¬ (hi t = hi n ∧ lo t = lo n) := fun k => by
      have := hilo_inj k.1 k.2; omega
    have e2 : clip n = if n < 0 then -9223372036854775808 else 9223372036854775807 := by unfold clip; split <;> split <;> (try split) <;> omega
    rw [e2]; clear e2 hl hw hb
    have q1 := fun (w' : World) (h : Blk w' w.heap.size #[.int .i64 (hi n), .int .u64 (lo n)] 52) => h.two
    generalize hi n = A at *; generalize lo n = B at *; generalize hi t = C at *; generalize lo t = D at *
    have HO := Lib.hid ho; clear ho
    by_cases h1 : C = A
    · obtain rfl : A = C := h1.symm
      have e3 : (D == B) = false := by rw [beq_eq_false_iff_ne]; omega
      clear e1 h
      by_cases hneg : n < 0
      · rw [if_pos hneg]
        go_enter Tryd.func71, Tryd.ntmps71
        go_wp2
        refine wp_region_held_drew (S := (fun w' => Blk w' w.heap.size #[.int .i64 A, .int .u64 B] 52 ∧ Below w.heap.size w w')) (by kernel_rfl) ?_ (fun hHeld => ?_)
        · exact ⟨(Blk.new rfl).drew, ((Below.refl w.heap.size w).alloc (Nat.le_refl _) _).drew⟩
        refine H.take 0 (v := ?_) rfl (by kernel_rfl) (fun _ _ _ h => h) (by rfl) ?_ (by assumption) ?_
        rotate_left
        · (intro wz hSw; (try dsimp only at hSw); go_simp <;> with_reducible rfl)
        try simp only [Act.put, List.setIfInBounds_toArray, List.set_cons_zero, List.set_cons_succ]
        refine H.take 2 (v := ?_) rfl (by kernel_rfl) (fun _ _ _ h => h) (by rfl) ?_ (by assumption) ?_
        rotate_left
        · (intro wz hSw; (try dsimp only at hSw); go_simp <;> with_reducible rfl)
        try simp only [Act.put, List.setIfInBounds_toArray, List.set_cons_zero, List.set_cons_succ]
        refine H.ready [1] (by kernel_rfl) (by simp) ?_
        refine H.one rfl (by rfl) (fun K hK => ?_) AllReadyH.nil
        go_simp
        go_at_call 72
        refine (HO.out _).mono ?_
        rintro e w' ⟨rfl, hb⟩
        refine hK.out _ _ ?_ (fun hHeld2 => ?_)
        · exact ⟨Blk.keep hb hHeld.1, hHeld.2.trans (hb.mono hHeld.2.size)⟩
        clear hHeld hK K; have hHeld := hHeld2; clear hHeld2
        try simp only [Act.put, List.setIfInBounds_toArray, List.set_cons_zero, List.set_cons_succ]
        refine H.take 3 (v := ?_) rfl (by kernel_rfl) (fun _ _ _ h => h) (by rfl) ?_ (by assumption) ?_
        rotate_left
        · (intro wz hSw; (try dsimp only at hSw); go_simp <;> with_reducible rfl)
        try simp only [Act.put, List.setIfInBounds_toArray, List.set_cons_zero, List.set_cons_succ]
        refine H.done (by kernel_rfl) ?_ _
        obtain ⟨g, gB⟩ := hHeld
        go_wp2_with (go_at_call 62; refine (HN.out _).mono ?_; rintro e w1 ⟨rfl, hb1⟩; replace gB := gB.trans (hb1.mono gB.size))
        go_ret
        exact ⟨rfl, gB⟩
      · rw [if_neg hneg]
        have hd := decide_eq_false hneg
        go_enter Tryd.func71, Tryd.ntmps71
        go_wp2
        refine wp_region_held_drew (S := (fun w' => Blk w' w.heap.size #[.int .i64 A, .int .u64 B] 52 ∧ Below w.heap.size w w')) (by kernel_rfl) ?_ (fun hHeld => ?_)
        · exact ⟨(Blk.new rfl).drew, ((Below.refl w.heap.size w).alloc (Nat.le_refl _) _).drew⟩
        refine H.take 0 (v := ?_) rfl (by kernel_rfl) (fun _ _ _ h => h) (by rfl) ?_ (by assumption) ?_
        rotate_left
        · (intro wz hSw; (try dsimp only at hSw); go_simp <;> with_reducible rfl)
        try simp only [Act.put, List.setIfInBounds_toArray, List.set_cons_zero, List.set_cons_succ]
        refine H.take 2 (v := ?_) rfl (by kernel_rfl) (fun _ _ _ h => h) (by rfl) ?_ (by assumption) ?_
        rotate_left
        · (intro wz hSw; (try dsimp only at hSw); go_simp <;> with_reducible rfl)
        try simp only [Act.put, List.setIfInBounds_toArray, List.set_cons_zero, List.set_cons_succ]
        refine H.ready [1] (by kernel_rfl) (by simp) ?_
        refine H.one rfl (by rfl) (fun K hK => ?_) AllReadyH.nil
        go_simp
        go_at_call 72
        refine (HO.out _).mono ?_
        rintro e w' ⟨rfl, hb⟩
        refine hK.out _ _ ?_ (fun hHeld2 => ?_)
        · exact ⟨Blk.keep hb hHeld.1, hHeld.2.trans (hb.mono hHeld.2.size)⟩
        clear hHeld hK K; have hHeld := hHeld2; clear hHeld2
        try simp only [Act.put, List.setIfInBounds_toArray, List.set_cons_zero, List.set_cons_succ]
        refine H.take 3 (v := ?_) rfl (by kernel_rfl) (fun _ _ _ h => h) (by rfl) ?_ (by assumption) ?_
        rotate_left
        · (intro wz hSw; (try dsimp only at hSw); go_simp <;> with_reducible rfl)
        try simp only [Act.put, List.setIfInBounds_toArray, List.set_cons_zero, List.set_cons_succ]
        refine H.done (by kernel_rfl) ?_ _
        obtain ⟨g, gB⟩ := hHeld
        go_wp2_with (go_at_call 62; refine (HN.out _).mono ?_; rintro e w1 ⟨rfl, hb1⟩; replace gB := gB.trans (hb1.mono gB.size))
        go_ret
        exact ⟨rfl, gB⟩
    · have e3 : (C == A) = false := by rw [beq_eq_false_iff_ne]; omega
      clear e1 h
      by_cases hneg : n < 0
      · rw [if_pos hneg]
        go_enter Tryd.func71, Tryd.ntmps71
        go_wp2
        refine wp_region_held_drew (S := (fun w' => Blk w' w.heap.size #[.int .i64 A, .int .u64 B] 52 ∧ Below w.heap.size w w')) (by kernel_rfl) ?_ (fun hHeld => ?_)
        · exact ⟨(Blk.new rfl).drew, ((Below.refl w.heap.size w).alloc (Nat.le_refl _) _).drew⟩
        refine H.take 0 (v := ?_) rfl (by kernel_rfl) (fun _ _ _ h => h) (by rfl) ?_ (by assumption) ?_
        rotate_left
        · (intro wz hSw; (try dsimp only at hSw); go_simp <;> with_reducible rfl)
        try simp only [Act.put, List.setIfInBounds_toArray, List.set_cons_zero, List.set_cons_succ]
        refine H.take 2 (v := ?_) rfl (by kernel_rfl) (fun _ _ _ h => h) (by rfl) ?_ (by assumption) ?_
        rotate_left
        · (intro wz hSw; (try dsimp only at hSw); go_simp <;> with_reducible rfl)
        try simp only [Act.put, List.setIfInBounds_toArray, List.set_cons_zero, List.set_cons_succ]
        refine H.ready [1] (by kernel_rfl) (by simp) ?_
        refine H.one rfl (by rfl) (fun K hK => ?_) AllReadyH.nil
        go_simp
        go_at_call 72
        refine (HO.out _).mono ?_
        rintro e w' ⟨rfl, hb⟩
        refine hK.out _ _ ?_ (fun hHeld2 => ?_)
        · exact ⟨Blk.keep hb hHeld.1, hHeld.2.trans (hb.mono hHeld.2.size)⟩
        clear hHeld hK K; have hHeld := hHeld2; clear hHeld2
        try simp only [Act.put, List.setIfInBounds_toArray, List.set_cons_zero, List.set_cons_succ]
        refine H.take 3 (v := ?_) rfl (by kernel_rfl) (fun _ _ _ h => h) (by rfl) ?_ (by assumption) ?_
        rotate_left
        · (intro wz hSw; (try dsimp only at hSw); go_simp <;> with_reducible rfl)
        try simp only [Act.put, List.setIfInBounds_toArray, List.set_cons_zero, List.set_cons_succ]
        refine H.done (by kernel_rfl) ?_ _
        obtain ⟨g, gB⟩ := hHeld
        go_wp2_with (go_at_call 62; refine (HN.out _).mono ?_; rintro e w1 ⟨rfl, hb1⟩; replace gB := gB.trans (hb1.mono gB.size))
        go_ret
        exact ⟨rfl, gB⟩
      · rw [if_neg hneg]
        have hd := decide_eq_false hneg
        go_enter Tryd.func71, Tryd.ntmps71
        go_wp2
        refine wp_region_held_drew (S := (fun w' => Blk w' w.heap.size #[.int .i64 A, .int .u64 B] 52 ∧ Below w.heap.size w w')) (by kernel_rfl) ?_ (fun hHeld => ?_)
        · exact ⟨(Blk.new rfl).drew, ((Below.refl w.heap.size w).alloc (Nat.le_refl _) _).drew⟩
        refine H.take 0 (v := ?_) rfl (by kernel_rfl) (fun _ _ _ h => h) (by rfl) ?_ (by assumption) ?_
        rotate_left
        · (intro wz hSw; (try dsimp only at hSw); go_simp <;> with_reducible rfl)
        try simp only [Act.put, List.setIfInBounds_toArray, List.set_cons_zero, List.set_cons_succ]
        refine H.take 2 (v := ?_) rfl (by kernel_rfl) (fun _ _ _ h => h) (by rfl) ?_ (by assumption) ?_
        rotate_left
        · (intro wz hSw; (try dsimp only at hSw); go_simp <;> with_reducible rfl)
        try simp only [Act.put, List.setIfInBounds_toArray, List.set_cons_zero, List.set_cons_succ]
        refine H.ready [1] (by kernel_rfl) (by simp) ?_
        refine H.one rfl (by rfl) (fun K hK => ?_) AllReadyH.nil
        go_simp
        go_at_call 72
        refine (HO.out _).mono ?_
        rintro e w' ⟨rfl, hb⟩
        refine hK.out _ _ ?_ (fun hHeld2 => ?_)
        · exact ⟨Blk.keep hb hHeld.1, hHeld.2.trans (hb.mono hHeld.2.size)⟩
        clear hHeld hK K; have hHeld := hHeld2; clear hHeld2
        try simp only [Act.put, List.setIfInBounds_toArray, List.set_cons_zero, List.set_cons_succ]
        refine H.take 3 (v := ?_) rfl (by kernel_rfl) (fun _ _ _ h => h) (by rfl) ?_ (by assumption) ?_
        rotate_left
        · (intro wz hSw; (try dsimp only at hSw); go_simp <;> with_reducible rfl)
        try simp only [Act.put, List.setIfInBounds_toArray, List.set_cons_zero, List.set_cons_succ]
        refine H.done (by kernel_rfl) ?_ _
        obtain ⟨g, gB⟩ := hHeld
        go_wp2_with (go_at_call 62; refine (HN.out _).mono ?_; rintro e w1 ⟨rfl, hb1⟩; replace gB := gB.trans (hb1.mono gB.size))
        go_ret
        exact ⟨rfl, gB⟩
  · obtain rfl : n = t := by omega
    have e2 : clip n = n := by unfold clip; rw [if_neg (by omega), if_neg (by omega)]
    rw [e2]; clear e2 hl hw hb h
    have q1 := fun (w' : World) (h : Blk w' w.heap.size #[.int .i64 (hi n), .int .u64 (lo n)] 52) => h.two
    generalize hi n = A at *; generalize lo n = B at *
    have HO := Lib.hid ho; clear ho
    go_enter Tryd.func71, Tryd.ntmps71
    go_wp2
    refine wp_region_held_drew (S := (fun w' => Blk w' w.heap.size #[.int .i64 A, .int .u64 B] 52 ∧ Below w.heap.size w w')) (by kernel_rfl) ?_ (fun hHeld => ?_)
    · exact ⟨(Blk.new rfl).drew, ((Below.refl w.heap.size w).alloc (Nat.le_refl _) _).drew⟩
    refine H.take 0 (v := ?_) rfl (by kernel_rfl) (fun _ _ _ h => h) (by rfl) ?_ (by assumption) ?_
    rotate_left
    · (intro wz hSw; (try dsimp only at hSw); go_simp <;> with_reducible rfl)
    try simp only [Act.put, List.setIfInBounds_toArray, List.set_cons_zero, List.set_cons_succ]
    refine H.take 2 (v := ?_) rfl (by kernel_rfl) (fun _ _ _ h => h) (by rfl) ?_ (by assumption) ?_
    rotate_left
    · (intro wz hSw; (try dsimp only at hSw); go_simp <;> with_reducible rfl)
    try simp only [Act.put, List.setIfInBounds_toArray, List.set_cons_zero, List.set_cons_succ]
    refine H.ready [1] (by kernel_rfl) (by simp) ?_
    refine H.one rfl (by rfl) (fun K hK => ?_) AllReadyH.nil
    go_simp
    go_at_call 72
    refine (HO.out _).mono ?_
    rintro e w' ⟨rfl, hb⟩
    refine hK.out _ _ ?_ (fun hHeld2 => ?_)
    · exact ⟨Blk.keep hb hHeld.1, hHeld.2.trans (hb.mono hHeld.2.size)⟩
    clear hHeld hK K; have hHeld := hHeld2; clear hHeld2
    try simp only [Act.put, List.setIfInBounds_toArray, List.set_cons_zero, List.set_cons_succ]
    refine H.take 3 (v := ?_) rfl (by kernel_rfl) (fun _ _ _ h => h) (by rfl) ?_ (by assumption) ?_
    rotate_left
    · (intro wz hSw; (try dsimp only at hSw); go_simp <;> with_reducible rfl)
    try simp only [Act.put, List.setIfInBounds_toArray, List.set_cons_zero, List.set_cons_succ]
    refine H.done (by kernel_rfl) ?_ _
    obtain ⟨g, gB⟩ := hHeld
    go_wp2_with (go_at_call 62; refine (HN.out _).mono ?_; rintro e w1 ⟨rfl, hb1⟩; replace gB := gB.trans (hb1.mono gB.size))
    go_ret
    exact ⟨rfl, gB⟩
end Go.Proofs.YtecmhjhjmhliiaaDoor


/-
  The contracts of the program's wide, as oracles of a reading.
-/




namespace Go.Proofs.YtecmhjhjmhliiaaDoor

set_option maxRecDepth 100000

open Go.Den Go.RowKit
noncomputable section

def W2 (h l : Int) : Int := h * 18446744073709551616 + l
def wv (n : Int) : Value := .agg #[.int .i64 (hi n), .int .u64 (lo n)]
def okI (n : Int) : Bool := decide (-9223372036854775808 ≤ n) && decide (n ≤ 9223372036854775807)
def okU (n : Int) : Bool := decide (0 ≤ n) && decide (n ≤ 18446744073709551615)
def okW (h l : Int) : Bool := okI h && okU l
theorem okI_iff {n : Int} : okI n = true ↔ -9223372036854775808 ≤ n ∧ n ≤ 9223372036854775807 := by simp [okI]
theorem okU_iff {n : Int} : okU n = true ↔ 0 ≤ n ∧ n ≤ 18446744073709551615 := by simp [okU]
theorem okW_iff {h l : Int} : okW h l = true ↔ (-9223372036854775808 ≤ h ∧ h ≤ 9223372036854775807) ∧ 0 ≤ l ∧ l ≤ 18446744073709551615 := by simp [okW, okI_iff, okU_iff]
theorem W2_hilo (n : Int) : W2 (hi n) (lo n) = n := hilo n
theorem hi_W2 {h l : Int} (k : okW h l = true) : hi (W2 h l) = h ∧ lo (W2 h l) = l ∧ InR (W2 h l) := by
  rw [okW_iff] at k
  unfold hi lo InR W2; omega
theorem okW_hilo {n : Int} (h : InR n) : okW (hi n) (lo n) = true := okW_iff.2 ⟨hi_bd h, lo_bd n⟩
def ofS : Array Value → Option (Bool × Value)
  | ⟨[.int .i64 n]⟩ => some (okI n, wv n)
  | _ => none
def addS : Array Value → Option (Bool × Value)
  | ⟨[.agg ⟨[.int .i64 h1, .int .u64 l1]⟩, .agg ⟨[.int .i64 h2, .int .u64 l2]⟩]⟩ => some (okW h1 l1 && okW h2 l2, wv (clamp (W2 h1 l1 + W2 h2 l2)))
  | _ => none
def subS : Array Value → Option (Bool × Value)
  | ⟨[.agg ⟨[.int .i64 h1, .int .u64 l1]⟩, .agg ⟨[.int .i64 h2, .int .u64 l2]⟩]⟩ => some (okW h1 l1 && okW h2 l2, wv (clamp (W2 h1 l1 - W2 h2 l2)))
  | _ => none
def negS : Array Value → Option (Bool × Value)
  | ⟨[.agg ⟨[.int .i64 h, .int .u64 l]⟩]⟩ => some (okW h l, wv (clamp (-W2 h l)))
  | _ => none
def absS : Array Value → Option (Bool × Value)
  | ⟨[.agg ⟨[.int .i64 h, .int .u64 l]⟩]⟩ => some (okW h l, wv (clamp (sz (W2 h l))))
  | _ => none
def halfS : Array Value → Option (Bool × Value)
  | ⟨[.agg ⟨[.int .i64 h, .int .u64 l]⟩]⟩ => some (okU l, wv (W2 h l / 2))
  | _ => none
def cmpS : Array Value → Option (Bool × Value)
  | ⟨[.agg ⟨[.int .i64 h1, .int .u64 l1]⟩, .agg ⟨[.int .i64 h2, .int .u64 l2]⟩]⟩ => some (okW h1 l1 && okW h2 l2, .int .i64 (cmpI (W2 h1 l1) (W2 h2 l2)))
  | _ => none
def mulS : Array Value → Option (Bool × Value)
  | ⟨[.int .i64 a, .int .i64 b]⟩ => some (okI a && okI b, wv (a * b))
  | _ => none
def scaleS : Array Value → Option (Bool × Value)
  | ⟨[.agg ⟨[.int .i64 h, .int .u64 l]⟩, .int .u32 k]⟩ => some (okW h l && (decide (0 ≤ k) && decide (k ≤ 4294967295)), wv (clamp (W2 h l * k)))
  | _ => none
def clipS : Array Value → Option (Bool × Value)
  | ⟨[.agg ⟨[.int .i64 h, .int .u64 l]⟩]⟩ => some (okW h l, .int .i64 (clip (W2 h l)))
  | _ => none
def divS : Array Value → Option (Bool × Value)
  | ⟨[.agg ⟨[.int .i64 h, .int .u64 l]⟩, .int .u64 y]⟩ => some (okW h l && (decide (0 < y) && decide (y ≤ 18446744073709551615)), .tuple #[wv (W2 h l / y), .int .u64 (W2 h l % y), .bool true])
  | _ => none
def pcOf : PC Tryd.prog where
  f := 72
  spec := ofS
  body := by kernel_rfl
  ok := fun args r hr hok => by
    unfold ofS at hr
    split at hr
    · cases hr
      rw [okI_iff] at hok
      exact ⟨all_bel rfl, rfl, fun w => of_any _ hok.1 hok.2 w⟩
    · cases hr
def pcAdd : PC Tryd.prog where
  f := 39
  spec := addS
  body := by kernel_rfl
  ok := fun args r hr hok => by
    unfold addS at hr
    split at hr
    · cases hr
      rw [Bool.and_eq_true, okW_iff, okW_iff] at hok
      obtain ⟨⟨⟨a, b⟩, c, d⟩, ⟨e, f⟩, g, h⟩ := hok
      exact ⟨all_bel rfl, rfl, fun w => add_any _ _ _ _ c d g h a b e f w⟩
    · cases hr
def pcSub : PC Tryd.prog where
  f := 46
  spec := subS
  body := by kernel_rfl
  ok := fun args r hr hok => by
    unfold subS at hr
    split at hr
    · cases hr
      rw [Bool.and_eq_true, okW_iff, okW_iff] at hok
      obtain ⟨⟨⟨a, b⟩, c, d⟩, ⟨e, f⟩, g, h⟩ := hok
      exact ⟨all_bel rfl, rfl, fun w => sub_any _ _ _ _ c d g h a b e f w⟩
    · cases hr
def pcNeg : PC Tryd.prog where
  f := 79
  spec := negS
  body := by kernel_rfl
  ok := fun args r hr hok => by
    unfold negS at hr
    split at hr
    · cases hr
      rw [okW_iff] at hok
      exact ⟨all_bel rfl, rfl, fun w => neg_any _ _ hok.2.1 hok.2.2 hok.1.1 hok.1.2 w⟩
    · cases hr
def pcCmp : PC Tryd.prog where
  f := 22
  spec := cmpS
  body := by kernel_rfl
  ok := fun args r hr hok => by
    unfold cmpS at hr
    split at hr
    · rename_i h1 l1 h2 l2
      cases hr
      rw [Bool.and_eq_true] at hok
      refine ⟨all_bel rfl, rfl, fun w => ?_⟩
      have := cmp_n (W2 h1 l1) (W2 h2 l2) w
      rw [(hi_W2 hok.1).1, (hi_W2 hok.1).2.1, (hi_W2 hok.2).1, (hi_W2 hok.2).2.1] at this
      exact this
    · cases hr
def pcMul : PC Tryd.prog where
  f := 49
  spec := mulS
  body := by kernel_rfl
  ok := fun args r hr hok => by
    unfold mulS at hr
    split at hr
    · cases hr
      rw [Bool.and_eq_true, okI_iff, okI_iff] at hok
      exact ⟨all_bel rfl, rfl, fun w => mul_any _ _ hok.1.1 hok.1.2 hok.2.1 hok.2.2 w⟩
    · cases hr
def pcClip : PC Tryd.prog where
  f := 71
  spec := clipS
  body := by kernel_rfl
  ok := fun args r hr hok => by
    unfold clipS at hr
    split at hr
    · cases hr
      refine ⟨all_bel rfl, rfl, fun w => ?_⟩
      have := clip_n (hi_W2 hok).2.2 w
      rw [(hi_W2 hok).1, (hi_W2 hok).2.1] at this
      exact this
    · cases hr
def pcDiv : PC Tryd.prog where
  f := 45
  spec := divS
  body := by kernel_rfl
  ok := fun args r hr hok => by
    unfold divS at hr
    split at hr
    · cases hr
      rw [Bool.and_eq_true, Bool.and_eq_true, decide_eq_true_eq, decide_eq_true_eq] at hok
      refine ⟨all_bel rfl, rfl, fun w => ?_⟩
      have := wdiv_n (hi_W2 hok.1).2.2 hok.2.1 hok.2.2 w
      rw [(hi_W2 hok.1).1, (hi_W2 hok.1).2.1] at this
      exact this
    · cases hr
/-- A function of no arguments that was read. -/
def knownS : Array Value → Option (Bool × Value)
  | ⟨[]⟩ => some (true, .bool true)
  | _ => none
def pcKnown (f : FuncId) (body : (Tryd.prog.funcs[f]?.bind (·.body)).isSome = true) (hr : (((ev envT 1000).call [] f #[] [] B0).run.map (·.v)) = some (.bool true)) : PC Tryd.prog where
  f := f
  spec := knownS
  body := body
  ok := fun args r h _ => by
    unfold knownS at h
    split at h
    · cases h
      exact ⟨all_bel rfl, rfl, fun w => calls_read envT hcokP 1000 hr (by simp) rfl w⟩
    · cases h
def pcsW : List (PC Tryd.prog) := [pcAdd, pcSub, pcOf, pcClip, pcMul, pcDiv, pcCmp, pcNeg]
end

end Go.Proofs.YtecmhjhjmhliiaaDoor


/-
  The statements' own 'known' of layer 2, and what is read by.
-/

namespace Go.Proofs.YtecmhjhjmhliiaaDoor

open Go.Den Go.RowKit
noncomputable section
def envM : Env Tryd.prog := envS.with false (pcsW)
end

end Go.Proofs.YtecmhjhjmhliiaaDoor


/-
  A wide number among a statement's arguments: opened, and shut.
-/


namespace Go.Proofs.YtecmhjhjmhliiaaDoor

set_option maxRecDepth 100000

open Go.ChangeShapes Go.WideShapes Go.ChangeAt Go.RowKit Go.Joins

theorem own : ownKnob Tryd.prog.godebug = none := by kernel_rfl
theorem cellsW : Tryd.prog.cellsOf 52 = 2 := by kernel_rfl

theorem wf_i64 {n : Int} : (Lit.int .i64 n).wf = true ↔ -9223372036854775808 ≤ n ∧ n ≤ 9223372036854775807 := by
  simp [Lit.wf, IntKind.min, IntKind.max, IntKind.signed, IntKind.bits]
theorem wf_u64 {n : Int} : (Lit.int .u64 n).wf = true ↔ 0 ≤ n ∧ n ≤ 18446744073709551615 := by
  simp [Lit.wf, IntKind.min, IntKind.max, IntKind.signed, IntKind.bits]
theorem wf_u32 {n : Int} : (Lit.int .u32 n).wf = true ↔ 0 ≤ n ∧ n ≤ 4294967295 := by
  simp [Lit.wf, IntKind.min, IntKind.max, IntKind.signed, IntKind.bits]

theorem open_w {H : Type} {enc : TypeId × Value → H} {w : World} {b0 base : Nat} {spare : Nat → Bool} {held : Bool} {v : Value} {d : DataW H} {p : List MemPlace}
    (hv : Value.okWide Tryd.prog w .any b0 52 v) (h : DataW.Trod enc Tryd.prog w base spare held 52 v d p) :
    ∃ n : Int, InR n ∧ v = .agg #[.int .i64 (hi n), .int .u64 (lo n)] ∧ d = .agg [.lit (.int .i64 (hi n)), .lit (.int .u64 (lo n))] ∧ p = [] := by
  obtain ⟨c0, c1, y0, y1, m, rfl, rfl, rfl, hy0, hy1⟩ := open_agg2 Tryd.underlying52 (by kernel_rfl) cellsW hv h
  obtain ⟨a, e0, rfl, wa⟩ := DataW.trod_int Tryd.underlying2 hy0
  obtain ⟨b, e1, rfl, wb⟩ := DataW.trod_int Tryd.underlying36 hy1
  simp at e0 e1
  subst e0 e1
  have ha := wf_i64.1 wa; have hb := wf_u64.1 wb
  exact ⟨a * 18446744073709551616 + b, inR_of hb.1 hb.2 ha.1 ha.2, by rw [hi_of hb.1 hb.2 rfl, lo_of hb.1 hb.2 rfl], by rw [hi_of hb.1 hb.2 rfl, lo_of hb.1 hb.2 rfl], rfl⟩

end Go.Proofs.YtecmhjhjmhliiaaDoor
