
/-
  The statements' own 'known' of layer 1: it returns true.
-/
import Derived.Test.YtkmegldbmjpdmaaWDivW
import Derived.Test.YtkmegldbmjpdmaaWRoot
import Derived.Test.YtkmegldbmjpdmaaWClip
namespace Go.Proofs.Ytkmegldbmjpdmaa
open Go.RowKit

/-- The contracts at the numbers that 'known' hands in. -/
theorem k_of (n h l : Int) (h0 : -9223372036854775808 ≤ n) (h1 : n ≤ 9223372036854775807) (e1 : hi n = h) (e2 : lo n = l) (w : World) :
    Calls Try.prog 10 #[.int .i64 n] w fun e w' => e = .returned (.agg #[.int .i64 h, .int .u64 l]) ∧ Below w.heap.size w w' := by
  have := of_any n h0 h1 w; rwa [e1, e2] at this
theorem k_div (w : World) :
    Calls Try.prog 27 #[.agg #[.int .i64 (-1), .int .u64 18446744073709551609], .int .u64 2] w fun e w' =>
      e = .returned (.tuple #[.agg #[.int .i64 (-1), .int .u64 18446744073709551612], .int .u64 1, .bool true]) ∧ Below w.heap.size w w' := by
  have := wdiv_n (n := -7) (y := 2) (by unfold InR; omega) (by omega) (by omega) w
  rw [show hi (-7) = -1 by decide, show lo (-7) = 18446744073709551609 by decide, show hi (-7 / 2) = -1 by decide, show lo (-7 / 2) = 18446744073709551612 by decide, show (-7 : Int) % 2 = 1 by decide] at this
  exact this
theorem k_div0 (w : World) :
    Calls Try.prog 27 #[.agg #[.int .i64 0, .int .u64 7], .int .u64 0] w fun e w' =>
      e = .returned (.tuple #[.agg #[.int .i64 0, .int .u64 0], .int .u64 0, .bool false]) ∧ Below w.heap.size w w' := by
  have := wdiv_0 7 w
  rw [show hi 7 = 0 by decide, show lo 7 = 7 by decide] at this
  exact this
theorem k_add (w : World) :
    Calls Try.prog 13 #[.agg #[.int .i64 9223372036854775807, .int .u64 18446744073709551615], .agg #[.int .i64 0, .int .u64 1]] w fun e w' =>
      e = .returned (.agg #[.int .i64 9223372036854775807, .int .u64 18446744073709551615]) ∧ Below w.heap.size w w' :=
  add_any 9223372036854775807 18446744073709551615 0 1 (by omega) (by omega) (by omega) (by omega) (by omega) (by omega) (by omega) (by omega) w
theorem k_neg (w : World) :
    Calls Try.prog 17 #[.agg #[.int .i64 (-9223372036854775808), .int .u64 0]] w fun e w' =>
      e = .returned (.agg #[.int .i64 9223372036854775807, .int .u64 18446744073709551615]) ∧ Below w.heap.size w w' :=
  neg_any (-9223372036854775808) 0 (by omega) (by omega) (by omega) (by omega) w
theorem k_half (w : World) :
    Calls Try.prog 25 #[.agg #[.int .i64 (-1), .int .u64 18446744073709551613]] w fun e w' =>
      e = .returned (.agg #[.int .i64 (-1), .int .u64 18446744073709551614]) ∧ Below w.heap.size w w' :=
  half_any (-1) 18446744073709551613 (by omega) (by omega) w
theorem k_mul (w : World) :
    Calls Try.prog 21 #[.int .i64 (-9223372036854775808), .int .i64 (-9223372036854775808)] w fun e w' =>
      e = .returned (.agg #[.int .i64 4611686018427387904, .int .u64 0]) ∧ Below w.heap.size w w' :=
  mul_any (-9223372036854775808) (-9223372036854775808) (by omega) (by omega) (by omega) (by omega) w
theorem root_is {n r s : Int} (h : IsRoot n r) (s0 : 0 ≤ s) (h1 : s * s ≤ n) (h2 : n < (s + 1) * (s + 1)) : r = s := by
  obtain ⟨a, _, b, c⟩ := h
  have l1 : ¬ s + 1 ≤ r := fun k => by have := Int.mul_le_mul k k (by omega) a; omega
  have l2 : ¬ r + 1 ≤ s := fun k => by have := Int.mul_le_mul k k (by omega) s0; omega
  omega
theorem k_root {n : Int} (s : Int) (n0 : 0 ≤ n) (n1 : n ≤ 18446744073709551615) (s0 : 0 ≤ s) (h1 : s * s ≤ n) (h2 : n < (s + 1) * (s + 1)) (w : World) :
    Calls Try.prog 30 #[.agg #[.int .i64 0, .int .u64 n]] w fun e w' => e = .returned (.int .u64 s) ∧ Below w.heap.size w w' := by
  have e1 : hi n = 0 := by unfold hi; omega
  have e2 : lo n = n := by unfold lo; omega
  have hr := root_pos (n := n) n0 (by unfold InR; omega) w
  rw [e1, e2] at hr
  refine hr.mono ?_
  rintro e w' ⟨r, h, rfl, hb⟩
  rw [root_is h s0 h1 h2]; exact ⟨rfl, hb⟩
theorem k_rootn (w : World) :
    Calls Try.prog 30 #[.agg #[.int .i64 (-1), .int .u64 18446744073709551612]] w fun e w' => e = .returned (.int .u64 0) ∧ Below w.heap.size w w' := by
  have := root_neg (n := -4) (by omega) w
  rw [show hi (-4) = -1 by decide, show lo (-4) = 18446744073709551612 by decide] at this
  exact this

set_option maxRecDepth 100000 in
set_option maxHeartbeats 8000000 in
theorem known_true (w : World) : Calls Try.prog 8 #[] w fun e w' => e = .returned (.bool true) ∧ Below w.heap.size w w' := by
  have q1 := fun (w' : World) (h : Blk w' w.heap.size #[.int .i64 9223372036854775807, .int .u64 18446744073709551615] 24) => h.two
  have q2 := fun (w' : World) (h : Blk w' (w.heap.size + 1) #[.int .i64 (-9223372036854775808), .int .u64 0] 24) => h.two
  go_enter Try.func8, Try.ntmps8
  go_wp2_with fail
  refine (k_of (-7) (-1) 18446744073709551609 (by omega) (by omega) (by rfl) (by rfl) _).mono ?_
  rintro e w1 ⟨rfl, hb⟩
  have g1 := Blk.keep hb (Blk.old (Blk.new (b := w.heap.size) (T := 24) rfl) _)
  have g2 := Blk.keep hb (Blk.new (b := w.heap.size + 1) (T := 24) (by simp))
  have gB := (((Below.refl w.heap.size w).alloc (Nat.le_refl _) _).alloc (by simp) _).trans (hb.mono (by simp; omega))
  clear hb
  go_wp2_with fail
  refine (k_div _).mono ?_
  rintro e w2 ⟨rfl, hb⟩
  replace g1 := Blk.keep hb g1; replace g2 := Blk.keep hb g2; replace gB := gB.trans (hb.mono gB.size); clear hb
  go_wp2_with fail
  refine (k_of 7 0 7 (by omega) (by omega) (by rfl) (by rfl) _).mono ?_
  rintro e w3 ⟨rfl, hb⟩
  have g3 := Blk.keep hb (Blk.new (b := w2.heap.size) (T := 24) rfl)
  replace g1 := Blk.keep hb (Blk.old g1 _); replace g2 := Blk.keep hb (Blk.old g2 _); replace gB := (gB.alloc gB.size _).trans (hb.mono (Nat.le_succ_of_le gB.size |> fun h => by simpa using h)); clear hb
  go_wp2_with fail
  refine (k_div0 _).mono ?_
  rintro e w4 ⟨rfl, hb⟩
  replace g1 := Blk.keep hb g1; replace g2 := Blk.keep hb g2; replace g3 := Blk.keep hb g3; replace gB := gB.trans (hb.mono gB.size); clear hb
  have q3 := fun (w' : World) (h : Blk w' w2.heap.size #[.int .i64 (-1), .int .u64 18446744073709551612] 24) => h.two
  go_wp2_with fail
  refine wp_region_held_drew (S := (fun w' => Blk w' w.heap.size #[.int .i64 9223372036854775807, .int .u64 18446744073709551615] 24 ∧ Blk w' (w.heap.size + 1) #[.int .i64 (-9223372036854775808), .int .u64 0] 24 ∧ Blk w' w2.heap.size #[.int .i64 (-1), .int .u64 18446744073709551612] 24 ∧ Below w.heap.size w w')) (by kernel_rfl) ?_ (fun hHeld => ?_)
  · exact ⟨(g1.old _).drew, (g2.old _).drew, (g3.old _).drew, (gB.alloc gB.size _).drew⟩
  refine H.take 0 (v := ?_) rfl (by kernel_rfl) (fun _ _ _ h => h) (by rfl) ?_ (by assumption) ?_
  rotate_left
  · (intro wz hSw; (try dsimp only at hSw); go_simp <;> with_reducible rfl)
  try simp only [Act.put, List.setIfInBounds_toArray, List.set_cons_zero, List.set_cons_succ]
  refine H.take 3 (v := ?_) rfl (by kernel_rfl) (fun _ _ _ h => h) (by rfl) ?_ (by assumption) ?_
  rotate_left
  · (intro wz hSw; (try dsimp only at hSw); go_simp <;> with_reducible rfl)
  try simp only [Act.put, List.setIfInBounds_toArray, List.set_cons_zero, List.set_cons_succ]
  refine H.ready [1] (by kernel_rfl) (by simp) ?_
  refine H.one rfl (by rfl) (fun K hK => ?_) AllReadyH.nil
  go_simp
  go_at_call 10
  refine (k_of (1) (0) 1 (by omega) (by omega) (by rfl) (by rfl) _).mono ?_
  rintro e w' ⟨rfl, hb⟩
  refine hK.out _ _ ?_ (fun hHeld2 => ?_)
  · exact ⟨Blk.keep hb hHeld.1, Blk.keep hb hHeld.2.1, Blk.keep hb hHeld.2.2.1, hHeld.2.2.2.trans (hb.mono hHeld.2.2.2.size)⟩
  clear hHeld hK K; have hHeld := hHeld2; clear hHeld2
  try simp only [Act.put, List.setIfInBounds_toArray, List.set_cons_zero, List.set_cons_succ]
  refine H.ready [2] (by kernel_rfl) (by simp) ?_
  refine H.one rfl (by rfl) (fun K hK => ?_) AllReadyH.nil
  go_simp
  go_at_call 13
  refine (k_add _).mono ?_
  rintro e w' ⟨rfl, hb⟩
  refine hK.out _ _ ?_ (fun hHeld2 => ?_)
  · exact ⟨Blk.keep hb hHeld.1, Blk.keep hb hHeld.2.1, Blk.keep hb hHeld.2.2.1, hHeld.2.2.2.trans (hb.mono hHeld.2.2.2.size)⟩
  clear hHeld hK K; have hHeld := hHeld2; clear hHeld2
  try simp only [Act.put, List.setIfInBounds_toArray, List.set_cons_zero, List.set_cons_succ]
  refine H.take 4 (v := ?_) rfl (by kernel_rfl) (fun _ _ _ h => h) (by rfl) ?_ (by assumption) ?_
  rotate_left
  · (intro wz hSw; (try dsimp only at hSw); go_simp <;> with_reducible rfl)
  try simp only [Act.put, List.setIfInBounds_toArray, List.set_cons_zero, List.set_cons_succ]
  refine H.take 5 (v := ?_) rfl (by kernel_rfl) (fun _ _ _ h => h) (by rfl) ?_ (by assumption) ?_
  rotate_left
  · (intro wz hSw; (try dsimp only at hSw); go_simp <;> with_reducible rfl)
  try simp only [Act.put, List.setIfInBounds_toArray, List.set_cons_zero, List.set_cons_succ]
  refine H.take 6 (v := ?_) rfl (by kernel_rfl) (fun _ _ _ h => h) (by rfl) ?_ (by assumption) ?_
  rotate_left
  · (intro wz hSw; (try dsimp only at hSw); go_simp <;> with_reducible rfl)
  try simp only [Act.put, List.setIfInBounds_toArray, List.set_cons_zero, List.set_cons_succ]
  refine H.take 8 (v := ?_) rfl (by kernel_rfl) (fun _ _ _ h => h) (by rfl) ?_ (by assumption) ?_
  rotate_left
  · (intro wz hSw; (try dsimp only at hSw); go_simp <;> with_reducible rfl)
  try simp only [Act.put, List.setIfInBounds_toArray, List.set_cons_zero, List.set_cons_succ]
  refine H.ready [7] (by kernel_rfl) (by simp) ?_
  refine H.one rfl (by rfl) (fun K hK => ?_) AllReadyH.nil
  go_simp
  go_at_call 17
  refine (k_neg _).mono ?_
  rintro e w' ⟨rfl, hb⟩
  refine hK.out _ _ ?_ (fun hHeld2 => ?_)
  · exact ⟨Blk.keep hb hHeld.1, Blk.keep hb hHeld.2.1, Blk.keep hb hHeld.2.2.1, hHeld.2.2.2.trans (hb.mono hHeld.2.2.2.size)⟩
  clear hHeld hK K; have hHeld := hHeld2; clear hHeld2
  try simp only [Act.put, List.setIfInBounds_toArray, List.set_cons_zero, List.set_cons_succ]
  refine H.take 9 (v := ?_) rfl (by kernel_rfl) (fun _ _ _ h => h) (by rfl) ?_ (by assumption) ?_
  rotate_left
  · (intro wz hSw; (try dsimp only at hSw); go_simp <;> with_reducible rfl)
  try simp only [Act.put, List.setIfInBounds_toArray, List.set_cons_zero, List.set_cons_succ]
  refine H.take 10 (v := ?_) rfl (by kernel_rfl) (fun _ _ _ h => h) (by rfl) ?_ (by assumption) ?_
  rotate_left
  · (intro wz hSw; (try dsimp only at hSw); go_simp <;> with_reducible rfl)
  try simp only [Act.put, List.setIfInBounds_toArray, List.set_cons_zero, List.set_cons_succ]
  refine H.take 11 (v := ?_) rfl (by kernel_rfl) (fun _ _ _ h => h) (by rfl) ?_ (by assumption) ?_
  rotate_left
  · (intro wz hSw; (try dsimp only at hSw); go_simp <;> with_reducible rfl)
  try simp only [Act.put, List.setIfInBounds_toArray, List.set_cons_zero, List.set_cons_succ]
  refine H.ready [12] (by kernel_rfl) (by simp) ?_
  refine H.one rfl (by rfl) (fun K hK => ?_) AllReadyH.nil
  go_simp
  go_at_call 10
  refine (k_of (-3) (-1) 18446744073709551613 (by omega) (by omega) (by rfl) (by rfl) _).mono ?_
  rintro e w' ⟨rfl, hb⟩
  refine hK.out _ _ ?_ (fun hHeld2 => ?_)
  · exact ⟨Blk.keep hb hHeld.1, Blk.keep hb hHeld.2.1, Blk.keep hb hHeld.2.2.1, hHeld.2.2.2.trans (hb.mono hHeld.2.2.2.size)⟩
  clear hHeld hK K; have hHeld := hHeld2; clear hHeld2
  try simp only [Act.put, List.setIfInBounds_toArray, List.set_cons_zero, List.set_cons_succ]
  refine H.ready [13] (by kernel_rfl) (by simp) ?_
  refine H.one rfl (by rfl) (fun K hK => ?_) AllReadyH.nil
  go_simp
  go_at_call 25
  refine (k_half _).mono ?_
  rintro e w' ⟨rfl, hb⟩
  refine hK.out _ _ ?_ (fun hHeld2 => ?_)
  · exact ⟨Blk.keep hb hHeld.1, Blk.keep hb hHeld.2.1, Blk.keep hb hHeld.2.2.1, hHeld.2.2.2.trans (hb.mono hHeld.2.2.2.size)⟩
  clear hHeld hK K; have hHeld := hHeld2; clear hHeld2
  try simp only [Act.put, List.setIfInBounds_toArray, List.set_cons_zero, List.set_cons_succ]
  refine H.ready [14] (by kernel_rfl) (by simp) ?_
  refine H.one rfl (by rfl) (fun K hK => ?_) AllReadyH.nil
  go_simp
  go_at_call 10
  refine (k_of (-2) (-1) 18446744073709551614 (by omega) (by omega) (by rfl) (by rfl) _).mono ?_
  rintro e w' ⟨rfl, hb⟩
  refine hK.out _ _ ?_ (fun hHeld2 => ?_)
  · exact ⟨Blk.keep hb hHeld.1, Blk.keep hb hHeld.2.1, Blk.keep hb hHeld.2.2.1, hHeld.2.2.2.trans (hb.mono hHeld.2.2.2.size)⟩
  clear hHeld hK K; have hHeld := hHeld2; clear hHeld2
  try simp only [Act.put, List.setIfInBounds_toArray, List.set_cons_zero, List.set_cons_succ]
  refine H.take 15 (v := ?_) rfl (by kernel_rfl) (fun _ _ _ h => h) (by rfl) ?_ (by assumption) ?_
  rotate_left
  · (intro wz hSw; (try dsimp only at hSw); go_simp <;> with_reducible rfl)
  try simp only [Act.put, List.setIfInBounds_toArray, List.set_cons_zero, List.set_cons_succ]
  refine H.take 16 (v := ?_) rfl (by kernel_rfl) (fun _ _ _ h => h) (by rfl) ?_ (by assumption) ?_
  rotate_left
  · (intro wz hSw; (try dsimp only at hSw); go_simp <;> with_reducible rfl)
  try simp only [Act.put, List.setIfInBounds_toArray, List.set_cons_zero, List.set_cons_succ]
  refine H.take 17 (v := ?_) rfl (by kernel_rfl) (fun _ _ _ h => h) (by rfl) ?_ (by assumption) ?_
  rotate_left
  · (intro wz hSw; (try dsimp only at hSw); go_simp <;> with_reducible rfl)
  try simp only [Act.put, List.setIfInBounds_toArray, List.set_cons_zero, List.set_cons_succ]
  refine H.take 18 (v := ?_) rfl (by kernel_rfl) (fun _ _ _ h => h) (by rfl) ?_ (by assumption) ?_
  rotate_left
  · (intro wz hSw; (try dsimp only at hSw); go_simp <;> with_reducible rfl)
  try simp only [Act.put, List.setIfInBounds_toArray, List.set_cons_zero, List.set_cons_succ]
  refine H.ready [19] (by kernel_rfl) (by simp) ?_
  refine H.one rfl (by rfl) (fun K hK => ?_) AllReadyH.nil
  go_simp
  go_at_call 10
  refine (k_of (-4) (-1) 18446744073709551612 (by omega) (by omega) (by rfl) (by rfl) _).mono ?_
  rintro e w' ⟨rfl, hb⟩
  refine hK.out _ _ ?_ (fun hHeld2 => ?_)
  · exact ⟨Blk.keep hb hHeld.1, Blk.keep hb hHeld.2.1, Blk.keep hb hHeld.2.2.1, hHeld.2.2.2.trans (hb.mono hHeld.2.2.2.size)⟩
  clear hHeld hK K; have hHeld := hHeld2; clear hHeld2
  try simp only [Act.put, List.setIfInBounds_toArray, List.set_cons_zero, List.set_cons_succ]
  refine H.take 20 (v := ?_) rfl (by kernel_rfl) (fun _ _ _ h => h) (by rfl) ?_ (by assumption) ?_
  rotate_left
  · (intro wz hSw; (try dsimp only at hSw); go_simp <;> with_reducible rfl)
  try simp only [Act.put, List.setIfInBounds_toArray, List.set_cons_zero, List.set_cons_succ]
  refine H.take 21 (v := ?_) rfl (by kernel_rfl) (fun _ _ _ h => h) (by rfl) ?_ (by assumption) ?_
  rotate_left
  · (intro wz hSw; (try dsimp only at hSw); go_simp <;> with_reducible rfl)
  try simp only [Act.put, List.setIfInBounds_toArray, List.set_cons_zero, List.set_cons_succ]
  refine H.take 22 (v := ?_) rfl (by kernel_rfl) (fun _ _ _ h => h) (by rfl) ?_ (by assumption) ?_
  rotate_left
  · (intro wz hSw; (try dsimp only at hSw); go_simp <;> with_reducible rfl)
  try simp only [Act.put, List.setIfInBounds_toArray, List.set_cons_zero, List.set_cons_succ]
  refine H.take 23 (v := ?_) rfl (by kernel_rfl) (fun _ _ _ h => h) (by rfl) ?_ (by assumption) ?_
  rotate_left
  · (intro wz hSw; (try dsimp only at hSw); go_simp <;> with_reducible rfl)
  try simp only [Act.put, List.setIfInBounds_toArray, List.set_cons_zero, List.set_cons_succ]
  refine H.take 24 (v := ?_) rfl (by kernel_rfl) (fun _ _ _ h => h) (by rfl) ?_ (by assumption) ?_
  rotate_left
  · (intro wz hSw; (try dsimp only at hSw); go_simp <;> with_reducible rfl)
  try simp only [Act.put, List.setIfInBounds_toArray, List.set_cons_zero, List.set_cons_succ]
  refine H.take 25 (v := ?_) rfl (by kernel_rfl) (fun _ _ _ h => h) (by rfl) ?_ (by assumption) ?_
  rotate_left
  · (intro wz hSw; (try dsimp only at hSw); go_simp <;> with_reducible rfl)
  try simp only [Act.put, List.setIfInBounds_toArray, List.set_cons_zero, List.set_cons_succ]
  refine H.take 26 (v := ?_) rfl (by kernel_rfl) (fun _ _ _ h => h) (by rfl) ?_ (by assumption) ?_
  rotate_left
  · (intro wz hSw; (try dsimp only at hSw); go_simp <;> with_reducible rfl)
  try simp only [Act.put, List.setIfInBounds_toArray, List.set_cons_zero, List.set_cons_succ]
  refine H.take 27 (v := ?_) rfl (by kernel_rfl) (fun _ _ _ h => h) (by rfl) ?_ (by assumption) ?_
  rotate_left
  · (intro wz hSw; (try dsimp only at hSw); go_simp <;> with_reducible rfl)
  try simp only [Act.put, List.setIfInBounds_toArray, List.set_cons_zero, List.set_cons_succ]
  refine H.take 28 (v := ?_) rfl (by kernel_rfl) (fun _ _ _ h => h) (by rfl) ?_ (by assumption) ?_
  rotate_left
  · (intro wz hSw; (try dsimp only at hSw); go_simp <;> with_reducible rfl)
  try simp only [Act.put, List.setIfInBounds_toArray, List.set_cons_zero, List.set_cons_succ]
  refine H.take 29 (v := ?_) rfl (by kernel_rfl) (fun _ _ _ h => h) (by rfl) ?_ (by assumption) ?_
  rotate_left
  · (intro wz hSw; (try dsimp only at hSw); go_simp <;> with_reducible rfl)
  try simp only [Act.put, List.setIfInBounds_toArray, List.set_cons_zero, List.set_cons_succ]
  refine H.take 30 (v := ?_) rfl (by kernel_rfl) (fun _ _ _ h => h) (by rfl) ?_ (by assumption) ?_
  rotate_left
  · (intro wz hSw; (try dsimp only at hSw); go_simp <;> with_reducible rfl)
  try simp only [Act.put, List.setIfInBounds_toArray, List.set_cons_zero, List.set_cons_succ]
  refine H.take 31 (v := ?_) rfl (by kernel_rfl) (fun _ _ _ h => h) (by rfl) ?_ (by assumption) ?_
  rotate_left
  · (intro wz hSw; (try dsimp only at hSw); go_simp <;> with_reducible rfl)
  try simp only [Act.put, List.setIfInBounds_toArray, List.set_cons_zero, List.set_cons_succ]
  refine H.take 32 (v := ?_) rfl (by kernel_rfl) (fun _ _ _ h => h) (by rfl) ?_ (by assumption) ?_
  rotate_left
  · (intro wz hSw; (try dsimp only at hSw); go_simp <;> with_reducible rfl)
  try simp only [Act.put, List.setIfInBounds_toArray, List.set_cons_zero, List.set_cons_succ]
  refine H.take 33 (v := ?_) rfl (by kernel_rfl) (fun _ _ _ h => h) (by rfl) ?_ (by assumption) ?_
  rotate_left
  · (intro wz hSw; (try dsimp only at hSw); go_simp <;> with_reducible rfl)
  try simp only [Act.put, List.setIfInBounds_toArray, List.set_cons_zero, List.set_cons_succ]
  refine H.take 35 (v := ?_) rfl (by kernel_rfl) (fun _ _ _ h => h) (by rfl) ?_ (by assumption) ?_
  rotate_left
  · (intro wz hSw; (try dsimp only at hSw); go_simp <;> with_reducible rfl)
  try simp only [Act.put, List.setIfInBounds_toArray, List.set_cons_zero, List.set_cons_succ]
  refine H.ready [34] (by kernel_rfl) (by simp) ?_
  refine H.one rfl (by rfl) (fun K hK => ?_) AllReadyH.nil
  go_simp
  go_at_call 21
  refine (k_mul _).mono ?_
  rintro e w' ⟨rfl, hb⟩
  refine hK.out _ _ ?_ (fun hHeld2 => ?_)
  · exact ⟨Blk.keep hb hHeld.1, Blk.keep hb hHeld.2.1, Blk.keep hb hHeld.2.2.1, hHeld.2.2.2.trans (hb.mono hHeld.2.2.2.size)⟩
  clear hHeld hK K; have hHeld := hHeld2; clear hHeld2
  try simp only [Act.put, List.setIfInBounds_toArray, List.set_cons_zero, List.set_cons_succ]
  refine H.take 36 (v := ?_) rfl (by kernel_rfl) (fun _ _ _ h => h) (by rfl) ?_ (by assumption) ?_
  rotate_left
  · (intro wz hSw; (try dsimp only at hSw); go_simp <;> with_reducible rfl)
  try simp only [Act.put, List.setIfInBounds_toArray, List.set_cons_zero, List.set_cons_succ]
  refine H.take 37 (v := ?_) rfl (by kernel_rfl) (fun _ _ _ h => h) (by rfl) ?_ (by assumption) ?_
  rotate_left
  · (intro wz hSw; (try dsimp only at hSw); go_simp <;> with_reducible rfl)
  try simp only [Act.put, List.setIfInBounds_toArray, List.set_cons_zero, List.set_cons_succ]
  refine H.take 38 (v := ?_) rfl (by kernel_rfl) (fun _ _ _ h => h) (by rfl) ?_ (by assumption) ?_
  rotate_left
  · (intro wz hSw; (try dsimp only at hSw); go_simp <;> with_reducible rfl)
  try simp only [Act.put, List.setIfInBounds_toArray, List.set_cons_zero, List.set_cons_succ]
  refine H.ready [39] (by kernel_rfl) (by simp) ?_
  refine H.one rfl (by rfl) (fun K hK => ?_) AllReadyH.nil
  go_simp
  go_at_call 10
  refine (k_of (24) (0) 24 (by omega) (by omega) (by rfl) (by rfl) _).mono ?_
  rintro e w' ⟨rfl, hb⟩
  refine hK.out _ _ ?_ (fun hHeld2 => ?_)
  · exact ⟨Blk.keep hb hHeld.1, Blk.keep hb hHeld.2.1, Blk.keep hb hHeld.2.2.1, hHeld.2.2.2.trans (hb.mono hHeld.2.2.2.size)⟩
  clear hHeld hK K; have hHeld := hHeld2; clear hHeld2
  try simp only [Act.put, List.setIfInBounds_toArray, List.set_cons_zero, List.set_cons_succ]
  refine H.ready [40] (by kernel_rfl) (by simp) ?_
  refine H.one rfl (by rfl) (fun K hK => ?_) AllReadyH.nil
  go_simp
  go_at_call 30
  refine (k_root (n := 24) 4 (by omega) (by omega) (by omega) (by omega) (by omega) _).mono ?_
  rintro e w' ⟨rfl, hb⟩
  refine hK.out _ _ ?_ (fun hHeld2 => ?_)
  · exact ⟨Blk.keep hb hHeld.1, Blk.keep hb hHeld.2.1, Blk.keep hb hHeld.2.2.1, hHeld.2.2.2.trans (hb.mono hHeld.2.2.2.size)⟩
  clear hHeld hK K; have hHeld := hHeld2; clear hHeld2
  try simp only [Act.put, List.setIfInBounds_toArray, List.set_cons_zero, List.set_cons_succ]
  refine H.take 41 (v := ?_) rfl (by kernel_rfl) (fun _ _ _ h => h) (by rfl) ?_ (by assumption) ?_
  rotate_left
  · (intro wz hSw; (try dsimp only at hSw); go_simp <;> with_reducible rfl)
  try simp only [Act.put, List.setIfInBounds_toArray, List.set_cons_zero, List.set_cons_succ]
  refine H.take 42 (v := ?_) rfl (by kernel_rfl) (fun _ _ _ h => h) (by rfl) ?_ (by assumption) ?_
  rotate_left
  · (intro wz hSw; (try dsimp only at hSw); go_simp <;> with_reducible rfl)
  try simp only [Act.put, List.setIfInBounds_toArray, List.set_cons_zero, List.set_cons_succ]
  refine H.take 43 (v := ?_) rfl (by kernel_rfl) (fun _ _ _ h => h) (by rfl) ?_ (by assumption) ?_
  rotate_left
  · (intro wz hSw; (try dsimp only at hSw); go_simp <;> with_reducible rfl)
  try simp only [Act.put, List.setIfInBounds_toArray, List.set_cons_zero, List.set_cons_succ]
  refine H.ready [44] (by kernel_rfl) (by simp) ?_
  refine H.one rfl (by rfl) (fun K hK => ?_) AllReadyH.nil
  go_simp
  go_at_call 10
  refine (k_of (25) (0) 25 (by omega) (by omega) (by rfl) (by rfl) _).mono ?_
  rintro e w' ⟨rfl, hb⟩
  refine hK.out _ _ ?_ (fun hHeld2 => ?_)
  · exact ⟨Blk.keep hb hHeld.1, Blk.keep hb hHeld.2.1, Blk.keep hb hHeld.2.2.1, hHeld.2.2.2.trans (hb.mono hHeld.2.2.2.size)⟩
  clear hHeld hK K; have hHeld := hHeld2; clear hHeld2
  try simp only [Act.put, List.setIfInBounds_toArray, List.set_cons_zero, List.set_cons_succ]
  refine H.ready [45] (by kernel_rfl) (by simp) ?_
  refine H.one rfl (by rfl) (fun K hK => ?_) AllReadyH.nil
  go_simp
  go_at_call 30
  refine (k_root (n := 25) 5 (by omega) (by omega) (by omega) (by omega) (by omega) _).mono ?_
  rintro e w' ⟨rfl, hb⟩
  refine hK.out _ _ ?_ (fun hHeld2 => ?_)
  · exact ⟨Blk.keep hb hHeld.1, Blk.keep hb hHeld.2.1, Blk.keep hb hHeld.2.2.1, hHeld.2.2.2.trans (hb.mono hHeld.2.2.2.size)⟩
  clear hHeld hK K; have hHeld := hHeld2; clear hHeld2
  try simp only [Act.put, List.setIfInBounds_toArray, List.set_cons_zero, List.set_cons_succ]
  refine H.take 46 (v := ?_) rfl (by kernel_rfl) (fun _ _ _ h => h) (by rfl) ?_ (by assumption) ?_
  rotate_left
  · (intro wz hSw; (try dsimp only at hSw); go_simp <;> with_reducible rfl)
  try simp only [Act.put, List.setIfInBounds_toArray, List.set_cons_zero, List.set_cons_succ]
  refine H.take 47 (v := ?_) rfl (by kernel_rfl) (fun _ _ _ h => h) (by rfl) ?_ (by assumption) ?_
  rotate_left
  · (intro wz hSw; (try dsimp only at hSw); go_simp <;> with_reducible rfl)
  try simp only [Act.put, List.setIfInBounds_toArray, List.set_cons_zero, List.set_cons_succ]
  refine H.take 48 (v := ?_) rfl (by kernel_rfl) (fun _ _ _ h => h) (by rfl) ?_ (by assumption) ?_
  rotate_left
  · (intro wz hSw; (try dsimp only at hSw); go_simp <;> with_reducible rfl)
  try simp only [Act.put, List.setIfInBounds_toArray, List.set_cons_zero, List.set_cons_succ]
  refine H.ready [49] (by kernel_rfl) (by simp) ?_
  refine H.one rfl (by rfl) (fun K hK => ?_) AllReadyH.nil
  go_simp
  go_at_call 10
  refine (k_of (-4) (-1) 18446744073709551612 (by omega) (by omega) (by rfl) (by rfl) _).mono ?_
  rintro e w' ⟨rfl, hb⟩
  refine hK.out _ _ ?_ (fun hHeld2 => ?_)
  · exact ⟨Blk.keep hb hHeld.1, Blk.keep hb hHeld.2.1, Blk.keep hb hHeld.2.2.1, hHeld.2.2.2.trans (hb.mono hHeld.2.2.2.size)⟩
  clear hHeld hK K; have hHeld := hHeld2; clear hHeld2
  try simp only [Act.put, List.setIfInBounds_toArray, List.set_cons_zero, List.set_cons_succ]
  refine H.ready [50] (by kernel_rfl) (by simp) ?_
  refine H.one rfl (by rfl) (fun K hK => ?_) AllReadyH.nil
  go_simp
  go_at_call 30
  refine (k_rootn _).mono ?_
  rintro e w' ⟨rfl, hb⟩
  refine hK.out _ _ ?_ (fun hHeld2 => ?_)
  · exact ⟨Blk.keep hb hHeld.1, Blk.keep hb hHeld.2.1, Blk.keep hb hHeld.2.2.1, hHeld.2.2.2.trans (hb.mono hHeld.2.2.2.size)⟩
  clear hHeld hK K; have hHeld := hHeld2; clear hHeld2
  try simp only [Act.put, List.setIfInBounds_toArray, List.set_cons_zero, List.set_cons_succ]
  refine H.take 51 (v := ?_) rfl (by kernel_rfl) (fun _ _ _ h => h) (by rfl) ?_ (by assumption) ?_
  rotate_left
  · (intro wz hSw; (try dsimp only at hSw); go_simp <;> with_reducible rfl)
  try simp only [Act.put, List.setIfInBounds_toArray, List.set_cons_zero, List.set_cons_succ]
  refine H.take 52 (v := ?_) rfl (by kernel_rfl) (fun _ _ _ h => h) (by rfl) ?_ (by assumption) ?_
  rotate_left
  · (intro wz hSw; (try dsimp only at hSw); go_simp <;> with_reducible rfl)
  try simp only [Act.put, List.setIfInBounds_toArray, List.set_cons_zero, List.set_cons_succ]
  refine H.take 53 (v := ?_) rfl (by kernel_rfl) (fun _ _ _ h => h) (by rfl) ?_ (by assumption) ?_
  rotate_left
  · (intro wz hSw; (try dsimp only at hSw); go_simp <;> with_reducible rfl)
  try simp only [Act.put, List.setIfInBounds_toArray, List.set_cons_zero]
  refine H.done (by kernel_rfl) ?_ _
  go_wp2
  go_ret
  exact ⟨rfl, hHeld.2.2.2⟩
end Go.Proofs.Ytkmegldbmjpdmaa
