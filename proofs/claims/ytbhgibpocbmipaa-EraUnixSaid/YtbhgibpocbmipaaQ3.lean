/-
  Own texts, merged: WDivW WRoot WClip PC FixK NumR NumT NumMA NumMB NumMC NumMD NumP NumQ NumW DenU NumG NumI NumFA NumFB NumFC
-/
import Derived.Test.YtbhgibpocbmipaaQ2


/-
  The contract of wide.Div.
-/
namespace Go.Proofs.Ytbhgibpocbmipaa
open Go.RowKit

set_option maxHeartbeats 1000000 in
theorem wdiv_0 (n : Int) (w : World) :
    Calls Try.prog 32 #[.agg #[.int .i64 (hi n), .int .u64 (lo n)], .int .u64 0] w fun e w' =>
      e = .returned (.tuple #[.agg #[.int .i64 0, .int .u64 0], .int .u64 0, .bool false]) ∧ Below w.heap.size w w' := by
  go_enter Try.func32, Try.ntmps32
  go_wp2
  exact bodyPost_ret (v := .tuple #[.agg #[.int .i64 0, .int .u64 0], .int .u64 0, .bool false]) (by simp [results, Try.results32, go_sem]) rfl ⟨rfl, ((Below.refl _ _).alloc (Nat.le_refl _) _).alloc (by simp) _⟩

/-- The long division of a size, word by word. -/
theorem word_div {H L y : Int} (y0 : 0 < y) (L0 : 0 ≤ L) (L1 : L ≤ 18446744073709551615) :
    (H * 18446744073709551616 + L) / y = H / y * 18446744073709551616 + (H % y * 18446744073709551616 + L) / y ∧
    (H * 18446744073709551616 + L) % y = (H % y * 18446744073709551616 + L) % y ∧
    0 ≤ (H % y * 18446744073709551616 + L) / y ∧ (H % y * 18446744073709551616 + L) / y ≤ 18446744073709551615 := by
  have e := Int.emod_add_mul_ediv H y
  have m0 := Int.emod_nonneg H (show y ≠ 0 by omega)
  have m1 := Int.emod_lt_of_pos H y0
  have e2 : H * 18446744073709551616 + L = (H % y * 18446744073709551616 + L) + y * (H / y * 18446744073709551616) := by
    rw [← Int.mul_assoc]; generalize y * (H / y) = p at *; omega
  refine ⟨?_, ?_, Int.ediv_nonneg (by omega) (by omega), ?_⟩
  · rw [e2, Int.add_mul_ediv_left _ _ (by omega : y ≠ 0)]; omega
  · rw [e2, Int.add_mul_emod_self_left]
  · have : (H % y * 18446744073709551616 + L) / y < 18446744073709551616 := by
      apply Int.ediv_lt_of_lt_mul y0; rw [Int.mul_comm]; omega
    omega
/-- The quotient of a number below 0 out of that of its size. -/
theorem neg_div {m y : Int} (y0 : 0 < y) : (m % y = 0 → (-m) / y = -(m / y) ∧ (-m) % y = 0) ∧ (m % y ≠ 0 → (-m) / y = -(m / y + 1) ∧ (-m) % y = y - m % y) := by
  have e := Int.emod_add_mul_ediv m y
  have m0 := Int.emod_nonneg m (show y ≠ 0 by omega)
  have m1 := Int.emod_lt_of_pos m y0
  constructor
  · intro h
    have h2 : -m = 0 + y * (-(m / y)) := by rw [Int.mul_neg]; omega
    rw [h2, Int.add_mul_ediv_left _ _ (by omega : y ≠ 0), Int.add_mul_emod_self_left, Int.zero_ediv, Int.zero_emod]; omega
  · intro h
    have h2 : -m = (y - m % y) + y * (-(m / y + 1)) := by rw [Int.mul_neg, Int.mul_add]; omega
    rw [h2, Int.add_mul_ediv_left _ _ (by omega : y ≠ 0), Int.add_mul_emod_self_left, Int.ediv_eq_zero_of_lt (by omega) (by omega), Int.emod_eq_of_lt (by omega) (by omega)]; omega
theorem div_in {n y : Int} (hn : InR n) (y0 : 0 < y) : InR (n / y) := by
  unfold InR at *
  constructor
  · apply Int.le_ediv_of_mul_le y0
    have : -170141183460469231731687303715884105728 * y ≤ -170141183460469231731687303715884105728 * 1 := Int.mul_le_mul_of_nonpos_left (by omega) (by omega)
    omega
  · have : n / y < 170141183460469231731687303715884105728 := by
      apply Int.ediv_lt_of_lt_mul y0
      have : 170141183460469231731687303715884105728 * 1 ≤ 170141183460469231731687303715884105728 * y := Int.mul_le_mul_of_nonneg_left (by omega) (by omega)
      omega
    omega

theorem ret_div {v : Value} {a b : Int} (h : a = b) : Ending.returned (.tuple #[v, .int .u64 a, .bool true]) = .returned (.tuple #[v, .int .u64 b, .bool true]) := by rw [h]

set_option maxHeartbeats 4000000 in
theorem wdiv_n {n y : Int} (hn : InR n) (y0 : 0 < y) (y1 : y ≤ 18446744073709551615) (w : World) :
    Calls Try.prog 32 #[.agg #[.int .i64 (hi n), .int .u64 (lo n)], .int .u64 y] w fun e w' =>
      e = .returned (.tuple #[.agg #[.int .i64 (hi (n / y)), .int .u64 (lo (n / y))], .int .u64 (n % y), .bool true]) ∧ Below w.heap.size w w' := by
  have hs := sz_bd hn
  have lb := lo_bd (sz n)
  have hb0 : 0 ≤ hi (sz n) := hi_nn hs.1
  have hb1 : hi (sz n) ≤ 9223372036854775808 := hi_le hs.2
  have ma := fun w => magnitude_n hn w
  have yz : (y == 0) = false := by rw [beq_eq_false_iff_ne]; omega
  have yz2 : ¬ y = 0 := by omega
  have q1 := fun (w' : World) (h : Blk w' w.heap.size #[.int .i64 (hi n), .int .u64 (lo n)] 24) => h.two
  have q2 := fun (w' : World) (h : Blk w' (w.heap.size + 1) #[.int .i64 0, .int .u64 0] 24) => h.two
  have q3 := fun (w' : World) (h : Blk w' (w.heap.size + 1) #[.int .i64 0, .int .u64 0] 24) => h.free0
  obtain ⟨w1, w2, w3, w4⟩ := word_div y0 (H := hi (sz n)) lb.1 lb.2
  rw [hilo] at w1 w2
  have m0 := Int.emod_nonneg (hi (sz n)) (show y ≠ 0 by omega)
  have m1 := Int.emod_lt_of_pos (hi (sz n)) y0
  have qd : hi (sz n) / y ≤ 9223372036854775808 := Int.le_trans (Int.ediv_le_self _ hb0) hb1
  have qd0 : 0 ≤ hi (sz n) / y := Int.ediv_nonneg hb0 (by omega)
  have dv := fun w => div64_any m0 m1 y1 lb.1 lb.2 w
  have t1 : (hi (sz n)).tdiv y = hi (sz n) / y := Int.tdiv_eq_ediv_of_nonneg hb0
  have t2 : (hi (sz n)).tmod y = hi (sz n) % y := Int.tmod_eq_emod_of_nonneg hb0
  have t3 : IntKind.u64.wrap (hi (sz n) / y) = hi (sz n) / y := by rw [IntKind.wrap_u64]; omega
  have r0 := Int.emod_nonneg (hi (sz n) % y * 18446744073709551616 + lo (sz n)) (show y ≠ 0 by omega)
  have r1 := Int.emod_lt_of_pos (hi (sz n) % y * 18446744073709551616 + lo (sz n)) y0
  have hin := div_in hn y0
  have hneg := neg_div (m := sz n) y0
  generalize (hi (sz n) % y * 18446744073709551616 + lo (sz n)) / y = LOW at *
  generalize (hi (sz n) % y * 18446744073709551616 + lo (sz n)) % y = R at *
  rw [w1, w2] at hneg
  have DV := Lib.hid dv; have MA := Lib.hid ma
  clear dv ma
  by_cases hnn : n < 0
  · rw [show -sz n = n by rw [sz_neg hnn]; omega] at hneg
    have hd := decide_eq_true hnn
    by_cases hr : R = 0
    · obtain ⟨e1, e2⟩ := hneg.1 hr
      have hsg : clamp (sgn true (hi (sz n) / y * 18446744073709551616 + LOW)) = n / y := by simp only [sgn, if_true]; rw [← e1]; exact clamp_of hin
      have hs := fun (b : Nat) (w : World) (g : Blk w b #[.bool true] 4) => signed_any true (x := hi (sz n) / y) (y := LOW) (by omega) (by omega) w3 w4 g
      rw [hsg] at hs
      subst hr
      clear hneg w1 w2 e1 hsg
      have E2 := Lib.hid e2; clear e2
      generalize hi (sz n) / y = HI at *
      have HS := Lib.hid hs; clear hs
      go_enter Try.func32, Try.ntmps32
      go_wp2_with (go_at_call 63; refine (MA.out _).mono ?_; rintro e w1 ⟨rfl, hb1⟩; have g := Blk.keep hb1 (Blk.new (b := w.heap.size + 1) (T := 24) (by simp)); have gA := Blk.keep hb1 (Blk.old (Blk.new (b := w.heap.size) (T := 24) rfl) _); have gB := (((Below.refl w.heap.size w).alloc (Nat.le_refl _) _).alloc (by simp) _).trans (hb1.mono (by simp; omega)))
      refine wp_region_held_drew (S := (fun w' => Blk w' (w.heap.size + 1) #[.int .i64 0, .int .u64 0] 24 ∧ Blk w' w.heap.size #[.int .i64 (hi n), .int .u64 (lo n)] 24 ∧ Below w.heap.size w w')) (by kernel_rfl) ?_ (fun hHeld => ?_)
      · exact ⟨g.drew, gA.drew, gB.drew⟩
      refine H.take 0 (v := ?_) rfl (by kernel_rfl) (fun _ _ _ h => h) (by rfl) ?_ (by assumption) ?_
      rotate_left
      · (intro wz hSw; (try dsimp only at hSw); go_simp <;> with_reducible rfl)
      try simp only [Act.put, List.setIfInBounds_toArray, List.set_cons_zero, List.set_cons_succ]
      refine H.take 1 (v := ?_) rfl (by kernel_rfl) (fun _ _ _ h => h) (by rfl) ?_ (by assumption) ?_
      rotate_left
      · (intro wz hSw; (try dsimp only at hSw); go_simp <;> with_reducible rfl)
      try simp only [Act.put, List.setIfInBounds_toArray, List.set_cons_zero, List.set_cons_succ]
      refine H.take 2 (v := ?_) rfl (by kernel_rfl) (fun _ _ _ h => h) (by rfl) ?_ (by assumption) ?_
      rotate_left
      · (intro wz hSw; (try dsimp only at hSw); go_simp <;> with_reducible rfl)
      try simp only [Act.put, List.setIfInBounds_toArray, List.set_cons_zero, List.set_cons_succ]
      refine H.take 3 (v := ?_) rfl (by kernel_rfl) (fun _ _ _ h => h) (by rfl) ?_ (by assumption) ?_
      rotate_left
      · (intro wz hSw; (try dsimp only at hSw); go_simp <;> with_reducible rfl)
      try simp only [Act.put, List.setIfInBounds_toArray, List.set_cons_zero, List.set_cons_succ]
      refine H.take 4 (v := ?_) rfl (by kernel_rfl) (fun _ _ _ h => h) (by rfl) ?_ (by assumption) ?_
      rotate_left
      · (intro wz hSw; (try dsimp only at hSw); go_simp <;> with_reducible rfl)
      try simp only [Act.put, List.setIfInBounds_toArray, List.set_cons_zero, List.set_cons_succ]
      refine H.take 5 (v := ?_) rfl (by kernel_rfl) (fun _ _ _ h => h) (by rfl) ?_ (by assumption) ?_
      rotate_left
      · (intro wz hSw; (try dsimp only at hSw); go_simp <;> with_reducible rfl)
      try simp only [Act.put, List.setIfInBounds_toArray, List.set_cons_zero, List.set_cons_succ]
      refine H.take 6 (v := ?_) rfl (by kernel_rfl) (fun _ _ _ h => h) (by rfl) ?_ (by assumption) ?_
      rotate_left
      · (intro wz hSw; (try dsimp only at hSw); go_simp <;> with_reducible rfl)
      try simp only [Act.put, List.setIfInBounds_toArray, List.set_cons_zero, List.set_cons_succ]
      refine H.take 7 (v := ?_) rfl (by kernel_rfl) (fun _ _ _ h => h) (by rfl) ?_ (by assumption) ?_
      rotate_left
      · (intro wz hSw; (try dsimp only at hSw); go_simp <;> with_reducible rfl)
      try simp only [Act.put, List.setIfInBounds_toArray, List.set_cons_zero, List.set_cons_succ]
      refine H.done (by kernel_rfl) ?_ _
      clear g gA gB; obtain ⟨g, gA, gB⟩ := hHeld
      go_wp2_with (first | (go_at_call 67; refine (DV.out _).mono ?_; rintro e w2 ⟨rfl, hb2⟩; replace g := Blk.keep hb2 g; replace gA := Blk.keep hb2 gA; replace gB := gB.trans (hb2.mono gB.size)) | (go_at_call 58; refine (negative_n _ _).mono ?_; rintro e w2 ⟨rfl, hb2⟩; replace g := Blk.keep hb2 g; replace gA := Blk.keep hb2 gA; replace gB := gB.trans (hb2.mono gB.size)) | (go_at_call 64; refine (signer_any _ _).mono ?_; rintro e w2 ⟨rfl, rfl⟩; replace g := Blk.old g (.cells #[.bool true] 4); replace gB := gB.alloc gB.size (.cells #[.bool true] 4)))
      refine (HS.out _ _ (Blk.new rfl)).mono ?_
      rintro e w2 ⟨rfl, hb2⟩; replace g := Blk.keep hb2 g; replace gB := gB.trans (hb2.mono gB.size)
      go_wp2
      have hfin := (g.put (i := 0) (.int .i64 (hi (n / y)))).put (i := 1) (.int .u64 (lo (n / y)))
      exact bodyPost_ret (v := .tuple #[.agg #[.int .i64 (hi (n / y)), .int .u64 (lo (n / y))], .int .u64 0, .bool true]) (by simp [results, Try.results32, go_sem, (show Blk _ _ #[.int .i64 (hi (n / y)), .int .u64 (lo (n / y))] _ from hfin).two]) rfl ⟨ret_div E2.out.symm, (gB.setCell (by simp) _).setCell (by simp) _⟩
    · obtain ⟨e1, e2⟩ := hneg.2 hr
      have hr2 : (R != 0) = true := by rw [bne_iff_ne]; omega
      have hr3 : (R == 0) = false := by rw [beq_eq_false_iff_ne]; omega
      have ha := fun w => run_add64 LOW 1 0 w3 (by omega) (by omega) (by omega) w
      have hsg : clamp (sgn true ((hi (sz n) / y + (LOW + 1) / 18446744073709551616) * 18446744073709551616 + (LOW + 1) % 18446744073709551616)) = n / y := by
        simp only [sgn, if_true]; rw [show (hi (sz n) / y + (LOW + 1) / 18446744073709551616) * 18446744073709551616 + (LOW + 1) % 18446744073709551616 = hi (sz n) / y * 18446744073709551616 + LOW + 1 by omega, ← e1]; exact clamp_of hin
      have hs := fun (b : Nat) (w : World) (g : Blk w b #[.bool true] 4) => signed_any true (x := hi (sz n) / y + (LOW + 1) / 18446744073709551616) (y := (LOW + 1) % 18446744073709551616) (by omega) (by omega) (by omega) (by omega) g
      rw [hsg] at hs
      clear hneg w1 w2 e1 hsg
      have E2 := Lib.hid e2; clear e2
      generalize hi (sz n) / y = HI at *
      have HS := Lib.hid hs; clear hs
      go_enter Try.func32, Try.ntmps32
      go_wp2_with (go_at_call 63; refine (MA.out _).mono ?_; rintro e w1 ⟨rfl, hb1⟩; have g := Blk.keep hb1 (Blk.new (b := w.heap.size + 1) (T := 24) (by simp)); have gA := Blk.keep hb1 (Blk.old (Blk.new (b := w.heap.size) (T := 24) rfl) _); have gB := (((Below.refl w.heap.size w).alloc (Nat.le_refl _) _).alloc (by simp) _).trans (hb1.mono (by simp; omega)))
      refine wp_region_held_drew (S := (fun w' => Blk w' (w.heap.size + 1) #[.int .i64 0, .int .u64 0] 24 ∧ Blk w' w.heap.size #[.int .i64 (hi n), .int .u64 (lo n)] 24 ∧ Below w.heap.size w w')) (by kernel_rfl) ?_ (fun hHeld => ?_)
      · exact ⟨g.drew, gA.drew, gB.drew⟩
      refine H.take 0 (v := ?_) rfl (by kernel_rfl) (fun _ _ _ h => h) (by rfl) ?_ (by assumption) ?_
      rotate_left
      · (intro wz hSw; (try dsimp only at hSw); go_simp <;> with_reducible rfl)
      try simp only [Act.put, List.setIfInBounds_toArray, List.set_cons_zero, List.set_cons_succ]
      refine H.take 1 (v := ?_) rfl (by kernel_rfl) (fun _ _ _ h => h) (by rfl) ?_ (by assumption) ?_
      rotate_left
      · (intro wz hSw; (try dsimp only at hSw); go_simp <;> with_reducible rfl)
      try simp only [Act.put, List.setIfInBounds_toArray, List.set_cons_zero, List.set_cons_succ]
      refine H.take 2 (v := ?_) rfl (by kernel_rfl) (fun _ _ _ h => h) (by rfl) ?_ (by assumption) ?_
      rotate_left
      · (intro wz hSw; (try dsimp only at hSw); go_simp <;> with_reducible rfl)
      try simp only [Act.put, List.setIfInBounds_toArray, List.set_cons_zero, List.set_cons_succ]
      refine H.take 3 (v := ?_) rfl (by kernel_rfl) (fun _ _ _ h => h) (by rfl) ?_ (by assumption) ?_
      rotate_left
      · (intro wz hSw; (try dsimp only at hSw); go_simp <;> with_reducible rfl)
      try simp only [Act.put, List.setIfInBounds_toArray, List.set_cons_zero, List.set_cons_succ]
      refine H.take 4 (v := ?_) rfl (by kernel_rfl) (fun _ _ _ h => h) (by rfl) ?_ (by assumption) ?_
      rotate_left
      · (intro wz hSw; (try dsimp only at hSw); go_simp <;> with_reducible rfl)
      try simp only [Act.put, List.setIfInBounds_toArray, List.set_cons_zero, List.set_cons_succ]
      refine H.take 5 (v := ?_) rfl (by kernel_rfl) (fun _ _ _ h => h) (by rfl) ?_ (by assumption) ?_
      rotate_left
      · (intro wz hSw; (try dsimp only at hSw); go_simp <;> with_reducible rfl)
      try simp only [Act.put, List.setIfInBounds_toArray, List.set_cons_zero, List.set_cons_succ]
      refine H.take 6 (v := ?_) rfl (by kernel_rfl) (fun _ _ _ h => h) (by rfl) ?_ (by assumption) ?_
      rotate_left
      · (intro wz hSw; (try dsimp only at hSw); go_simp <;> with_reducible rfl)
      try simp only [Act.put, List.setIfInBounds_toArray, List.set_cons_zero, List.set_cons_succ]
      refine H.take 7 (v := ?_) rfl (by kernel_rfl) (fun _ _ _ h => h) (by rfl) ?_ (by assumption) ?_
      rotate_left
      · (intro wz hSw; (try dsimp only at hSw); go_simp <;> with_reducible rfl)
      try simp only [Act.put, List.setIfInBounds_toArray, List.set_cons_zero, List.set_cons_succ]
      refine H.done (by kernel_rfl) ?_ _
      clear g gA gB; obtain ⟨g, gA, gB⟩ := hHeld
      go_wp2_with (first | (go_at_call 67; refine (DV.out _).mono ?_; rintro e w2 ⟨rfl, hb2⟩; replace g := Blk.keep hb2 g; replace gA := Blk.keep hb2 gA; replace gB := gB.trans (hb2.mono gB.size)) | (go_at_call 58; refine (negative_n _ _).mono ?_; rintro e w2 ⟨rfl, hb2⟩; replace g := Blk.keep hb2 g; replace gA := Blk.keep hb2 gA; replace gB := gB.trans (hb2.mono gB.size)) | (go_at_call 64; refine (signer_any _ _).mono ?_; rintro e w2 ⟨rfl, rfl⟩; replace g := Blk.old g (.cells #[.bool true] 4); replace gB := gB.alloc gB.size (.cells #[.bool true] 4)))
      refine (HS.out _ _ (Blk.new rfl)).mono ?_
      rintro e w2 ⟨rfl, hb2⟩; replace g := Blk.keep hb2 g; replace gB := gB.trans (hb2.mono gB.size)
      go_wp2
      have hfin := (g.put (i := 0) (.int .i64 (hi (n / y)))).put (i := 1) (.int .u64 (lo (n / y)))
      exact bodyPost_ret (v := .tuple #[.agg #[.int .i64 (hi (n / y)), .int .u64 (lo (n / y))], .int .u64 (y - R), .bool true]) (by simp [results, Try.results32, go_sem, (show Blk _ _ #[.int .i64 (hi (n / y)), .int .u64 (lo (n / y))] _ from hfin).two]) rfl ⟨ret_div E2.out.symm, (gB.setCell (by simp) _).setCell (by simp) _⟩
  · have e0 := sz_pos (show 0 ≤ n by omega)
    have hd := decide_eq_false hnn
    have hsg : clamp (sgn false (hi (sz n) / y * 18446744073709551616 + LOW)) = n / y := by simp only [sgn, Bool.false_eq_true, if_false]; rw [← w1, e0]; exact clamp_of hin
    have e2 : n % y = R := by rw [← w2, e0]
    have hs := fun (b : Nat) (w : World) (g : Blk w b #[.bool false] 4) => signed_any false (x := hi (sz n) / y) (y := LOW) (by omega) (by omega) w3 w4 g
    rw [hsg] at hs
    clear hneg w1 w2 hsg
    have E2 := Lib.hid e2; clear e2 e0
    generalize hi (sz n) / y = HI at *
    have HS := Lib.hid hs; clear hs
    go_enter Try.func32, Try.ntmps32
    go_wp2_with (go_at_call 63; refine (MA.out _).mono ?_; rintro e w1 ⟨rfl, hb1⟩; have g := Blk.keep hb1 (Blk.new (b := w.heap.size + 1) (T := 24) (by simp)); have gA := Blk.keep hb1 (Blk.old (Blk.new (b := w.heap.size) (T := 24) rfl) _); have gB := (((Below.refl w.heap.size w).alloc (Nat.le_refl _) _).alloc (by simp) _).trans (hb1.mono (by simp; omega)))
    refine wp_region_held_drew (S := (fun w' => Blk w' (w.heap.size + 1) #[.int .i64 0, .int .u64 0] 24 ∧ Blk w' w.heap.size #[.int .i64 (hi n), .int .u64 (lo n)] 24 ∧ Below w.heap.size w w')) (by kernel_rfl) ?_ (fun hHeld => ?_)
    · exact ⟨g.drew, gA.drew, gB.drew⟩
    refine H.take 0 (v := ?_) rfl (by kernel_rfl) (fun _ _ _ h => h) (by rfl) ?_ (by assumption) ?_
    rotate_left
    · (intro wz hSw; (try dsimp only at hSw); go_simp <;> with_reducible rfl)
    try simp only [Act.put, List.setIfInBounds_toArray, List.set_cons_zero, List.set_cons_succ]
    refine H.take 1 (v := ?_) rfl (by kernel_rfl) (fun _ _ _ h => h) (by rfl) ?_ (by assumption) ?_
    rotate_left
    · (intro wz hSw; (try dsimp only at hSw); go_simp <;> with_reducible rfl)
    try simp only [Act.put, List.setIfInBounds_toArray, List.set_cons_zero, List.set_cons_succ]
    refine H.take 2 (v := ?_) rfl (by kernel_rfl) (fun _ _ _ h => h) (by rfl) ?_ (by assumption) ?_
    rotate_left
    · (intro wz hSw; (try dsimp only at hSw); go_simp <;> with_reducible rfl)
    try simp only [Act.put, List.setIfInBounds_toArray, List.set_cons_zero, List.set_cons_succ]
    refine H.take 3 (v := ?_) rfl (by kernel_rfl) (fun _ _ _ h => h) (by rfl) ?_ (by assumption) ?_
    rotate_left
    · (intro wz hSw; (try dsimp only at hSw); go_simp <;> with_reducible rfl)
    try simp only [Act.put, List.setIfInBounds_toArray, List.set_cons_zero, List.set_cons_succ]
    refine H.take 4 (v := ?_) rfl (by kernel_rfl) (fun _ _ _ h => h) (by rfl) ?_ (by assumption) ?_
    rotate_left
    · (intro wz hSw; (try dsimp only at hSw); go_simp <;> with_reducible rfl)
    try simp only [Act.put, List.setIfInBounds_toArray, List.set_cons_zero, List.set_cons_succ]
    refine H.take 5 (v := ?_) rfl (by kernel_rfl) (fun _ _ _ h => h) (by rfl) ?_ (by assumption) ?_
    rotate_left
    · (intro wz hSw; (try dsimp only at hSw); go_simp <;> with_reducible rfl)
    try simp only [Act.put, List.setIfInBounds_toArray, List.set_cons_zero, List.set_cons_succ]
    refine H.take 6 (v := ?_) rfl (by kernel_rfl) (fun _ _ _ h => h) (by rfl) ?_ (by assumption) ?_
    rotate_left
    · (intro wz hSw; (try dsimp only at hSw); go_simp <;> with_reducible rfl)
    try simp only [Act.put, List.setIfInBounds_toArray, List.set_cons_zero, List.set_cons_succ]
    refine H.take 7 (v := ?_) rfl (by kernel_rfl) (fun _ _ _ h => h) (by rfl) ?_ (by assumption) ?_
    rotate_left
    · (intro wz hSw; (try dsimp only at hSw); go_simp <;> with_reducible rfl)
    try simp only [Act.put, List.setIfInBounds_toArray, List.set_cons_zero, List.set_cons_succ]
    refine H.done (by kernel_rfl) ?_ _
    clear g gA gB; obtain ⟨g, gA, gB⟩ := hHeld
    go_wp2_with (first | (go_at_call 67; refine (DV.out _).mono ?_; rintro e w2 ⟨rfl, hb2⟩; replace g := Blk.keep hb2 g; replace gA := Blk.keep hb2 gA; replace gB := gB.trans (hb2.mono gB.size)) | (go_at_call 58; refine (negative_n _ _).mono ?_; rintro e w2 ⟨rfl, hb2⟩; replace g := Blk.keep hb2 g; replace gA := Blk.keep hb2 gA; replace gB := gB.trans (hb2.mono gB.size)) | (go_at_call 64; refine (signer_any _ _).mono ?_; rintro e w2 ⟨rfl, rfl⟩; replace g := Blk.old g (.cells #[.bool false] 4); replace gB := gB.alloc gB.size (.cells #[.bool false] 4)))
    refine (HS.out _ _ (Blk.new rfl)).mono ?_
    rintro e w2 ⟨rfl, hb2⟩; replace g := Blk.keep hb2 g; replace gB := gB.trans (hb2.mono gB.size)
    go_wp2
    have hfin := (g.put (i := 0) (.int .i64 (hi (n / y)))).put (i := 1) (.int .u64 (lo (n / y)))
    exact bodyPost_ret (v := .tuple #[.agg #[.int .i64 (hi (n / y)), .int .u64 (lo (n / y))], .int .u64 R, .bool true]) (by simp [results, Try.results32, go_sem, (show Blk _ _ #[.int .i64 (hi (n / y)), .int .u64 (lo (n / y))] _ from hfin).two]) rfl ⟨ret_div E2.out.symm, (gB.setCell (by simp) _).setCell (by simp) _⟩
end Go.Proofs.Ytbhgibpocbmipaa


/-
  The contract of wide.Root.
-/
namespace Go.Proofs.Ytbhgibpocbmipaa
open Go.RowKit

def pw (k : Nat) : Int := ((2 ^ k : Nat) : Int)
theorem pw_pos (k : Nat) : 1 ≤ pw k := by unfold pw; have := Nat.one_le_two_pow (n := k); omega
theorem pw_succ (k : Nat) : pw (k + 1) = 2 * pw k := by unfold pw; rw [Nat.pow_succ]; omega
theorem pw_le {k : Nat} (h : k ≤ 64) : pw k ≤ 18446744073709551616 := by
  unfold pw; have := Nat.pow_le_pow_right (n := 2) (by omega) h; omega

/-- What holds at the head of Root's loop: r is a multiple of p = 2^k, and the root lies from r on, below r + p. -/
def RootInv (n r : Int) (k : Nat) : Prop := k ≤ 64 ∧ 0 ≤ r ∧ r % pw k = 0 ∧ r + pw k ≤ 18446744073709551616 ∧ r * r ≤ n ∧ n < (r + pw k) * (r + pw k)

theorem RootInv.start {n : Int} (h0 : 0 ≤ n) (h1 : n ≤ 170141183460469231731687303715884105727) : RootInv n 0 64 := by
  refine ⟨by omega, by omega, by simp, by decide, by omega, ?_⟩
  have : (0 + pw 64) * (0 + pw 64) = 340282366920938463463374607431768211456 := by decide
  rw [this]; omega
theorem mod_half {r p : Int} (h : r % (2 * p) = 0) : r % p = 0 := by
  have := Int.emod_emod_of_dvd r (Int.dvd_mul_left 2 p); rw [h] at this; simpa using this.symm
theorem RootInv.no {n r : Int} {k : Nat} (h : RootInv n r (k + 1)) (hn : ¬ (r + pw k) * (r + pw k) ≤ n) : RootInv n r k := by
  obtain ⟨a, b, c, d, e, f⟩ := h
  rw [pw_succ] at c d
  have := pw_pos k
  exact ⟨by omega, b, mod_half c, by omega, e, by omega⟩
theorem RootInv.yes {n r : Int} {k : Nat} (h : RootInv n r (k + 1)) (hn : (r + pw k) * (r + pw k) ≤ n) : RootInv n (r + pw k) k := by
  obtain ⟨a, b, c, d, e, f⟩ := h
  rw [pw_succ] at c d f
  have := pw_pos k
  refine ⟨by omega, by omega, ?_, by omega, hn, ?_⟩
  · rw [Int.add_emod_right]; exact mod_half c
  · rw [show r + pw k + pw k = r + 2 * pw k by omega]; exact f
/-- The integer root: r. -/
def IsRoot (n r : Int) : Prop := 0 ≤ r ∧ r ≤ 18446744073709551615 ∧ r * r ≤ n ∧ n < (r + 1) * (r + 1)
theorem RootInv.fin {n r : Int} (h : RootInv n r 0) : IsRoot n r := by
  obtain ⟨a, b, c, d, e, f⟩ := h
  exact ⟨b, by have : pw 0 = 1 := rfl; omega, e, f⟩
def RootPost (n : Int) (w : World) (e : Ending) (w' : World) : Prop := ∃ r, IsRoot n r ∧ e = .returned (.int .u64 r) ∧ Below w.heap.size w w'

/-- At a round's head: the bit is half of 2^k. -/
def RootAt (n : Int) (R B : Value) : Prop := ∃ (r : Int) (k : Nat), RootInv n r k ∧ R = .int .u64 r ∧ B = .int .u64 (pw k / 2)

set_option maxHeartbeats 1000000 in
theorem root_neg {n : Int} (h : n < 0) (w : World) :
    Calls Try.prog 34 #[.agg #[.int .i64 (hi n), .int .u64 (lo n)]] w fun e w' => e = .returned (.int .u64 0) ∧ Below w.heap.size w w' := by
  have hd := decide_eq_true h
  have q1 := fun (w' : World) (h : Blk w' w.heap.size #[.int .i64 (hi n), .int .u64 (lo n)] 24) => h.two
  go_enter Try.func34, Try.ntmps34
  go_wp2_with (go_at_call 58; refine (negative_n _ _).mono ?_; rintro e w1 ⟨rfl, hb1⟩; have gB := ((Below.refl w.heap.size w).alloc (Nat.le_refl _) _).trans (hb1.mono (by simp)))
  go_ret
  exact ⟨rfl, gB⟩

set_option maxHeartbeats 1000000 in
theorem root_pos {n : Int} (h : 0 ≤ n) (hn : InR n) (w : World) :
    Calls Try.prog 34 #[.agg #[.int .i64 (hi n), .int .u64 (lo n)]] w (RootPost n w) := by
  have hd : decide (n < 0) = false := decide_eq_false (by omega)
  have hb := hi_bd hn; have lb := lo_bd n
  have hb0 : 0 ≤ hi n := hi_nn h
  have eW : IntKind.u64.wrap (hi n) = hi n := by rw [IntKind.wrap_u64]; omega
  have q1 := fun (w' : World) (h : Blk w' w.heap.size #[.int .i64 (hi n), .int .u64 (lo n)] 24) => h.two
  have hst := RootInv.start h hn.2
  go_enter Try.func34, Try.ntmps34
  go_wp2_with (go_at_call 58; refine (negative_n _ _).mono ?_; rintro e w1 ⟨rfl, hb1⟩; have g := Blk.keep hb1 (Blk.new (b := w.heap.size) (T := 24) rfl); have gB := ((Below.refl w.heap.size w).alloc (Nat.le_refl _) _).trans (hb1.mono (by simp)))
  obtain ⟨g1, g2⟩ := g.two
  go_loop [3, 4] (fun R B => RootAt n R B) (fun _ B => (intOf B).toNat)
  case atStart => exact ⟨0, 64, hst, rfl, rfl⟩
  case round =>
    obtain ⟨r, k, hk, rfl, rfl⟩ := hrel
    clear hst
    rcases k with _ | k
    · have hfin := hk.fin
      have ez : pw 0 / 2 = 0 := rfl
      rw [ez]
      go_wp2
      go_ret
      exact ⟨r, hfin, rfl, gB⟩
    · have ek : pw (k + 1) / 2 = pw k := by rw [pw_succ]; omega
      have ek2 : pw k / 2 = (pw k / 2 : Int) := rfl
      rw [ek]
      have hp := pw_pos k
      have hk2 := hk
      obtain ⟨z1, z2, z3, z4, _, _⟩ := hk2
      rw [pw_succ] at z3 z4
      have hple := pw_le (k := k) (by omega)
      have eor : bits .or .u64 r (pw k) = r + pw k := or_u64 (k + 1) (by rw [show (((2 ^ (k + 1) : Nat)) : Int) = pw (k + 1) from rfl, pw_succ]) z3 z2 (by omega) (by omega) (by omega) (by omega)
      have mm := fun w => mul64_i (r + pw k) (r + pw k) (by omega) (by omega) (by omega) (by omega) w
      have hlt := hilo_lt n ((r + pw k) * (r + pw k))
      have lb2 := lo_bd ((r + pw k) * (r + pw k))
      have hyes := hk.yes; have hno := hk.no
      clear hk z3
      generalize hP : pw k = P at *
      generalize (r + P) * (r + P) = T at *
      generalize hi T = X at *; generalize lo T = Y at *
      have MM := Lib.hid mm; have HY := Lib.hid hyes; have HN := Lib.hid hno; have HP := Lib.hid hP
      clear mm hyes hno hP
      by_cases hT : T ≤ n
      · have hinv := Lib.hid (HY.out hT)
        have hT' : ¬ n < T := by omega
        rw [hlt] at hT'
        clear hlt hT
        generalize hi n = A at *; generalize lo n = B at *
        by_cases h1 : X < A
        · clear hT'
          go_wp2_with (go_at_call 65; refine (MM.out _).mono ?_; rintro e w2 ⟨rfl, rfl⟩)
          go_round
          case rel => exact ⟨_, k, HP.out ▸ hinv.out, rfl, by rw [HP.out]⟩
          case measure => simp [intOf]; omega
        · obtain rfl : A = X := by omega
          have h2 : Y ≤ B := by omega
          clear hT'
          go_wp2_with (go_at_call 65; refine (MM.out _).mono ?_; rintro e w2 ⟨rfl, rfl⟩)
          go_round
          case rel => exact ⟨_, k, HP.out ▸ hinv.out, rfl, by rw [HP.out]⟩
          case measure => simp [intOf]; omega
      · have hinv := Lib.hid (HN.out hT)
        have hT' : n < T := by omega
        rw [hlt] at hT'
        clear hlt hT
        generalize hi n = A at *; generalize lo n = B at *
        by_cases h1 : A < X
        · have e1 : (X == A) = false := by rw [beq_eq_false_iff_ne]; omega
          have h2 : ¬ X < A := by omega
          clear hT'
          go_wp2_with (go_at_call 65; refine (MM.out _).mono ?_; rintro e w2 ⟨rfl, rfl⟩)
          go_round
          case rel => exact ⟨_, k, hinv.out, rfl, by rw [HP.out]⟩
          case measure => simp [intOf]; omega
        · obtain rfl : A = X := by omega
          have h2 : ¬ Y ≤ B := by omega
          clear hT'
          go_wp2_with (go_at_call 65; refine (MM.out _).mono ?_; rintro e w2 ⟨rfl, rfl⟩)
          go_round
          case rel => exact ⟨_, k, hinv.out, rfl, by rw [HP.out]⟩
          case measure => simp [intOf]; omega
end Go.Proofs.Ytbhgibpocbmipaa


/-
  Contracts of package wide: Clip, Root.
-/
namespace Go.Proofs.Ytbhgibpocbmipaa
open Go.RowKit

/-- A number cut to 64 bits. -/
def clip (n : Int) : Int := if n < -9223372036854775808 then -9223372036854775808 else if 9223372036854775807 < n then 9223372036854775807 else n

set_option maxHeartbeats 1000000 in
theorem clip_n {n : Int} (hn : InR n) (w : World) :
    Calls Try.prog 33 #[.agg #[.int .i64 (hi n), .int .u64 (lo n)]] w fun e w' =>
      e = .returned (.int .i64 (clip n)) ∧ Below w.heap.size w w' := by
  have hb := hi_bd hn; have lb := lo_bd n; have hl := hilo n
  obtain ⟨t, ht⟩ : ∃ t, IntKind.i64.wrap (lo n) = t := ⟨_, rfl⟩
  have hw := IntKind.wrap_i64 (lo n)
  have t0 : -9223372036854775808 ≤ t := by omega
  have t1 : t ≤ 9223372036854775807 := by omega
  have ho := fun w => of_any t t0 t1 w
  have hng := fun w => negative_n n w
  have HN := Lib.hid hng; clear hng
  rcases (by omega : (n < -9223372036854775808 ∨ 9223372036854775807 < n) ∨ (-9223372036854775808 ≤ n ∧ n ≤ 9223372036854775807)) with h | h
  · have e1 : ¬ (hi t = hi n ∧ lo t = lo n) := fun k => by
      have := hilo_inj k.1 k.2; omega
    have e2 : clip n = if n < 0 then -9223372036854775808 else 9223372036854775807 := by unfold clip; split <;> split <;> (try split) <;> omega
    rw [e2]; clear e2 hl hw hb
    have q1 := fun (w' : World) (h : Blk w' w.heap.size #[.int .i64 (hi n), .int .u64 (lo n)] 24) => h.two
    generalize hi n = A at *; generalize lo n = B at *; generalize hi t = C at *; generalize lo t = D at *
    have HO := Lib.hid ho; clear ho
    by_cases h1 : C = A
    · obtain rfl : A = C := h1.symm
      have e3 : (D == B) = false := by rw [beq_eq_false_iff_ne]; omega
      clear e1 h
      by_cases hneg : n < 0
      · rw [if_pos hneg]
        go_enter Try.func33, Try.ntmps33
        go_wp2
        refine wp_region_held_drew (S := (fun w' => Blk w' w.heap.size #[.int .i64 A, .int .u64 B] 24 ∧ Below w.heap.size w w')) (by kernel_rfl) ?_ (fun hHeld => ?_)
        · exact ⟨(Blk.new rfl).drew, ((Below.refl w.heap.size w).alloc (Nat.le_refl _) _).drew⟩
        refine H.take 0 (v := ?_) rfl (by kernel_rfl) (fun _ _ _ h => h) (by rfl) ?_ (by assumption) ?_
        rotate_left
        · (intro wz hSw; (try dsimp only at hSw); go_simp <;> with_reducible rfl)
        try simp only [Act.put, List.setIfInBounds_toArray, List.set_cons_zero, List.set_cons_succ]
        refine H.take 2 (v := ?_) rfl (by kernel_rfl) (fun _ _ _ h => h) (by rfl) ?_ (by assumption) ?_
        rotate_left
        · (intro wz hSw; (try dsimp only at hSw); go_simp <;> with_reducible rfl)
        try simp only [Act.put, List.setIfInBounds_toArray, List.set_cons_zero, List.set_cons_succ]
        refine H.ready [1] (by kernel_rfl) (by simp) ?_
        refine H.one rfl (by rfl) (fun K hK => ?_) AllReadyH.nil
        go_simp
        go_at_call 15
        refine (HO.out _).mono ?_
        rintro e w' ⟨rfl, hb⟩
        refine hK.out _ _ ?_ (fun hHeld2 => ?_)
        · exact ⟨Blk.keep hb hHeld.1, hHeld.2.trans (hb.mono hHeld.2.size)⟩
        clear hHeld hK K; have hHeld := hHeld2; clear hHeld2
        try simp only [Act.put, List.setIfInBounds_toArray, List.set_cons_zero, List.set_cons_succ]
        refine H.take 3 (v := ?_) rfl (by kernel_rfl) (fun _ _ _ h => h) (by rfl) ?_ (by assumption) ?_
        rotate_left
        · (intro wz hSw; (try dsimp only at hSw); go_simp <;> with_reducible rfl)
        try simp only [Act.put, List.setIfInBounds_toArray, List.set_cons_zero, List.set_cons_succ]
        refine H.done (by kernel_rfl) ?_ _
        obtain ⟨g, gB⟩ := hHeld
        go_wp2_with (go_at_call 58; refine (HN.out _).mono ?_; rintro e w1 ⟨rfl, hb1⟩; replace gB := gB.trans (hb1.mono gB.size))
        go_ret
        exact ⟨rfl, gB⟩
      · rw [if_neg hneg]
        have hd := decide_eq_false hneg
        go_enter Try.func33, Try.ntmps33
        go_wp2
        refine wp_region_held_drew (S := (fun w' => Blk w' w.heap.size #[.int .i64 A, .int .u64 B] 24 ∧ Below w.heap.size w w')) (by kernel_rfl) ?_ (fun hHeld => ?_)
        · exact ⟨(Blk.new rfl).drew, ((Below.refl w.heap.size w).alloc (Nat.le_refl _) _).drew⟩
        refine H.take 0 (v := ?_) rfl (by kernel_rfl) (fun _ _ _ h => h) (by rfl) ?_ (by assumption) ?_
        rotate_left
        · (intro wz hSw; (try dsimp only at hSw); go_simp <;> with_reducible rfl)
        try simp only [Act.put, List.setIfInBounds_toArray, List.set_cons_zero, List.set_cons_succ]
        refine H.take 2 (v := ?_) rfl (by kernel_rfl) (fun _ _ _ h => h) (by rfl) ?_ (by assumption) ?_
        rotate_left
        · (intro wz hSw; (try dsimp only at hSw); go_simp <;> with_reducible rfl)
        try simp only [Act.put, List.setIfInBounds_toArray, List.set_cons_zero, List.set_cons_succ]
        refine H.ready [1] (by kernel_rfl) (by simp) ?_
        refine H.one rfl (by rfl) (fun K hK => ?_) AllReadyH.nil
        go_simp
        go_at_call 15
        refine (HO.out _).mono ?_
        rintro e w' ⟨rfl, hb⟩
        refine hK.out _ _ ?_ (fun hHeld2 => ?_)
        · exact ⟨Blk.keep hb hHeld.1, hHeld.2.trans (hb.mono hHeld.2.size)⟩
        clear hHeld hK K; have hHeld := hHeld2; clear hHeld2
        try simp only [Act.put, List.setIfInBounds_toArray, List.set_cons_zero, List.set_cons_succ]
        refine H.take 3 (v := ?_) rfl (by kernel_rfl) (fun _ _ _ h => h) (by rfl) ?_ (by assumption) ?_
        rotate_left
        · (intro wz hSw; (try dsimp only at hSw); go_simp <;> with_reducible rfl)
        try simp only [Act.put, List.setIfInBounds_toArray, List.set_cons_zero, List.set_cons_succ]
        refine H.done (by kernel_rfl) ?_ _
        obtain ⟨g, gB⟩ := hHeld
        go_wp2_with (go_at_call 58; refine (HN.out _).mono ?_; rintro e w1 ⟨rfl, hb1⟩; replace gB := gB.trans (hb1.mono gB.size))
        go_ret
        exact ⟨rfl, gB⟩
    · have e3 : (C == A) = false := by rw [beq_eq_false_iff_ne]; omega
      clear e1 h
      by_cases hneg : n < 0
      · rw [if_pos hneg]
        go_enter Try.func33, Try.ntmps33
        go_wp2
        refine wp_region_held_drew (S := (fun w' => Blk w' w.heap.size #[.int .i64 A, .int .u64 B] 24 ∧ Below w.heap.size w w')) (by kernel_rfl) ?_ (fun hHeld => ?_)
        · exact ⟨(Blk.new rfl).drew, ((Below.refl w.heap.size w).alloc (Nat.le_refl _) _).drew⟩
        refine H.take 0 (v := ?_) rfl (by kernel_rfl) (fun _ _ _ h => h) (by rfl) ?_ (by assumption) ?_
        rotate_left
        · (intro wz hSw; (try dsimp only at hSw); go_simp <;> with_reducible rfl)
        try simp only [Act.put, List.setIfInBounds_toArray, List.set_cons_zero, List.set_cons_succ]
        refine H.take 2 (v := ?_) rfl (by kernel_rfl) (fun _ _ _ h => h) (by rfl) ?_ (by assumption) ?_
        rotate_left
        · (intro wz hSw; (try dsimp only at hSw); go_simp <;> with_reducible rfl)
        try simp only [Act.put, List.setIfInBounds_toArray, List.set_cons_zero, List.set_cons_succ]
        refine H.ready [1] (by kernel_rfl) (by simp) ?_
        refine H.one rfl (by rfl) (fun K hK => ?_) AllReadyH.nil
        go_simp
        go_at_call 15
        refine (HO.out _).mono ?_
        rintro e w' ⟨rfl, hb⟩
        refine hK.out _ _ ?_ (fun hHeld2 => ?_)
        · exact ⟨Blk.keep hb hHeld.1, hHeld.2.trans (hb.mono hHeld.2.size)⟩
        clear hHeld hK K; have hHeld := hHeld2; clear hHeld2
        try simp only [Act.put, List.setIfInBounds_toArray, List.set_cons_zero, List.set_cons_succ]
        refine H.take 3 (v := ?_) rfl (by kernel_rfl) (fun _ _ _ h => h) (by rfl) ?_ (by assumption) ?_
        rotate_left
        · (intro wz hSw; (try dsimp only at hSw); go_simp <;> with_reducible rfl)
        try simp only [Act.put, List.setIfInBounds_toArray, List.set_cons_zero, List.set_cons_succ]
        refine H.done (by kernel_rfl) ?_ _
        obtain ⟨g, gB⟩ := hHeld
        go_wp2_with (go_at_call 58; refine (HN.out _).mono ?_; rintro e w1 ⟨rfl, hb1⟩; replace gB := gB.trans (hb1.mono gB.size))
        go_ret
        exact ⟨rfl, gB⟩
      · rw [if_neg hneg]
        have hd := decide_eq_false hneg
        go_enter Try.func33, Try.ntmps33
        go_wp2
        refine wp_region_held_drew (S := (fun w' => Blk w' w.heap.size #[.int .i64 A, .int .u64 B] 24 ∧ Below w.heap.size w w')) (by kernel_rfl) ?_ (fun hHeld => ?_)
        · exact ⟨(Blk.new rfl).drew, ((Below.refl w.heap.size w).alloc (Nat.le_refl _) _).drew⟩
        refine H.take 0 (v := ?_) rfl (by kernel_rfl) (fun _ _ _ h => h) (by rfl) ?_ (by assumption) ?_
        rotate_left
        · (intro wz hSw; (try dsimp only at hSw); go_simp <;> with_reducible rfl)
        try simp only [Act.put, List.setIfInBounds_toArray, List.set_cons_zero, List.set_cons_succ]
        refine H.take 2 (v := ?_) rfl (by kernel_rfl) (fun _ _ _ h => h) (by rfl) ?_ (by assumption) ?_
        rotate_left
        · (intro wz hSw; (try dsimp only at hSw); go_simp <;> with_reducible rfl)
        try simp only [Act.put, List.setIfInBounds_toArray, List.set_cons_zero, List.set_cons_succ]
        refine H.ready [1] (by kernel_rfl) (by simp) ?_
        refine H.one rfl (by rfl) (fun K hK => ?_) AllReadyH.nil
        go_simp
        go_at_call 15
        refine (HO.out _).mono ?_
        rintro e w' ⟨rfl, hb⟩
        refine hK.out _ _ ?_ (fun hHeld2 => ?_)
        · exact ⟨Blk.keep hb hHeld.1, hHeld.2.trans (hb.mono hHeld.2.size)⟩
        clear hHeld hK K; have hHeld := hHeld2; clear hHeld2
        try simp only [Act.put, List.setIfInBounds_toArray, List.set_cons_zero, List.set_cons_succ]
        refine H.take 3 (v := ?_) rfl (by kernel_rfl) (fun _ _ _ h => h) (by rfl) ?_ (by assumption) ?_
        rotate_left
        · (intro wz hSw; (try dsimp only at hSw); go_simp <;> with_reducible rfl)
        try simp only [Act.put, List.setIfInBounds_toArray, List.set_cons_zero, List.set_cons_succ]
        refine H.done (by kernel_rfl) ?_ _
        obtain ⟨g, gB⟩ := hHeld
        go_wp2_with (go_at_call 58; refine (HN.out _).mono ?_; rintro e w1 ⟨rfl, hb1⟩; replace gB := gB.trans (hb1.mono gB.size))
        go_ret
        exact ⟨rfl, gB⟩
  · obtain rfl : n = t := by omega
    have e2 : clip n = n := by unfold clip; rw [if_neg (by omega), if_neg (by omega)]
    rw [e2]; clear e2 hl hw hb h
    have q1 := fun (w' : World) (h : Blk w' w.heap.size #[.int .i64 (hi n), .int .u64 (lo n)] 24) => h.two
    generalize hi n = A at *; generalize lo n = B at *
    have HO := Lib.hid ho; clear ho
    go_enter Try.func33, Try.ntmps33
    go_wp2
    refine wp_region_held_drew (S := (fun w' => Blk w' w.heap.size #[.int .i64 A, .int .u64 B] 24 ∧ Below w.heap.size w w')) (by kernel_rfl) ?_ (fun hHeld => ?_)
    · exact ⟨(Blk.new rfl).drew, ((Below.refl w.heap.size w).alloc (Nat.le_refl _) _).drew⟩
    refine H.take 0 (v := ?_) rfl (by kernel_rfl) (fun _ _ _ h => h) (by rfl) ?_ (by assumption) ?_
    rotate_left
    · (intro wz hSw; (try dsimp only at hSw); go_simp <;> with_reducible rfl)
    try simp only [Act.put, List.setIfInBounds_toArray, List.set_cons_zero, List.set_cons_succ]
    refine H.take 2 (v := ?_) rfl (by kernel_rfl) (fun _ _ _ h => h) (by rfl) ?_ (by assumption) ?_
    rotate_left
    · (intro wz hSw; (try dsimp only at hSw); go_simp <;> with_reducible rfl)
    try simp only [Act.put, List.setIfInBounds_toArray, List.set_cons_zero, List.set_cons_succ]
    refine H.ready [1] (by kernel_rfl) (by simp) ?_
    refine H.one rfl (by rfl) (fun K hK => ?_) AllReadyH.nil
    go_simp
    go_at_call 15
    refine (HO.out _).mono ?_
    rintro e w' ⟨rfl, hb⟩
    refine hK.out _ _ ?_ (fun hHeld2 => ?_)
    · exact ⟨Blk.keep hb hHeld.1, hHeld.2.trans (hb.mono hHeld.2.size)⟩
    clear hHeld hK K; have hHeld := hHeld2; clear hHeld2
    try simp only [Act.put, List.setIfInBounds_toArray, List.set_cons_zero, List.set_cons_succ]
    refine H.take 3 (v := ?_) rfl (by kernel_rfl) (fun _ _ _ h => h) (by rfl) ?_ (by assumption) ?_
    rotate_left
    · (intro wz hSw; (try dsimp only at hSw); go_simp <;> with_reducible rfl)
    try simp only [Act.put, List.setIfInBounds_toArray, List.set_cons_zero, List.set_cons_succ]
    refine H.done (by kernel_rfl) ?_ _
    obtain ⟨g, gB⟩ := hHeld
    go_wp2_with (go_at_call 58; refine (HN.out _).mono ?_; rintro e w1 ⟨rfl, hb1⟩; replace gB := gB.trans (hb1.mono gB.size))
    go_ret
    exact ⟨rfl, gB⟩
end Go.Proofs.Ytbhgibpocbmipaa


/-
  The contracts of the program's wide, as oracles of a reading.
-/
namespace Go.Proofs.Ytbhgibpocbmipaa
open Go.Den Go.RowKit
noncomputable section

def W2 (h l : Int) : Int := h * 18446744073709551616 + l
def wv (n : Int) : Value := .agg #[.int .i64 (hi n), .int .u64 (lo n)]
def okI (n : Int) : Bool := decide (-9223372036854775808 ≤ n) && decide (n ≤ 9223372036854775807)
def okU (n : Int) : Bool := decide (0 ≤ n) && decide (n ≤ 18446744073709551615)
def okW (h l : Int) : Bool := okI h && okU l
theorem okI_iff {n : Int} : okI n = true ↔ -9223372036854775808 ≤ n ∧ n ≤ 9223372036854775807 := by simp [okI]
theorem okU_iff {n : Int} : okU n = true ↔ 0 ≤ n ∧ n ≤ 18446744073709551615 := by simp [okU]
theorem okW_iff {h l : Int} : okW h l = true ↔ (-9223372036854775808 ≤ h ∧ h ≤ 9223372036854775807) ∧ 0 ≤ l ∧ l ≤ 18446744073709551615 := by simp [okW, okI_iff, okU_iff]
theorem W2_hilo (n : Int) : W2 (hi n) (lo n) = n := hilo n
theorem hi_W2 {h l : Int} (k : okW h l = true) : hi (W2 h l) = h ∧ lo (W2 h l) = l ∧ InR (W2 h l) := by
  rw [okW_iff] at k
  unfold hi lo InR W2; omega
theorem okW_hilo {n : Int} (h : InR n) : okW (hi n) (lo n) = true := okW_iff.2 ⟨hi_bd h, lo_bd n⟩
theorem wv_W2 {h l : Int} (k : okW h l = true) : wv (W2 h l) = .agg #[.int .i64 h, .int .u64 l] := by
  unfold wv; rw [(hi_W2 k).1, (hi_W2 k).2.1]
def ofS : Array Value → Option (Bool × Value)
  | ⟨[.int .i64 n]⟩ => some (okI n, wv n)
  | _ => none
def addS : Array Value → Option (Bool × Value)
  | ⟨[.agg ⟨[.int .i64 h1, .int .u64 l1]⟩, .agg ⟨[.int .i64 h2, .int .u64 l2]⟩]⟩ => some (okW h1 l1 && okW h2 l2, wv (clamp (W2 h1 l1 + W2 h2 l2)))
  | _ => none
def subS : Array Value → Option (Bool × Value)
  | ⟨[.agg ⟨[.int .i64 h1, .int .u64 l1]⟩, .agg ⟨[.int .i64 h2, .int .u64 l2]⟩]⟩ => some (okW h1 l1 && okW h2 l2, wv (clamp (W2 h1 l1 - W2 h2 l2)))
  | _ => none
def negS : Array Value → Option (Bool × Value)
  | ⟨[.agg ⟨[.int .i64 h, .int .u64 l]⟩]⟩ => some (okW h l, wv (clamp (-W2 h l)))
  | _ => none
def absS : Array Value → Option (Bool × Value)
  | ⟨[.agg ⟨[.int .i64 h, .int .u64 l]⟩]⟩ => some (okW h l, wv (clamp (sz (W2 h l))))
  | _ => none
def halfS : Array Value → Option (Bool × Value)
  | ⟨[.agg ⟨[.int .i64 h, .int .u64 l]⟩]⟩ => some (okU l, wv (W2 h l / 2))
  | _ => none
def cmpS : Array Value → Option (Bool × Value)
  | ⟨[.agg ⟨[.int .i64 h1, .int .u64 l1]⟩, .agg ⟨[.int .i64 h2, .int .u64 l2]⟩]⟩ => some (okW h1 l1 && okW h2 l2, .int .i64 (cmpI (W2 h1 l1) (W2 h2 l2)))
  | _ => none
def mulS : Array Value → Option (Bool × Value)
  | ⟨[.int .i64 a, .int .i64 b]⟩ => some (okI a && okI b, wv (a * b))
  | _ => none
def scaleS : Array Value → Option (Bool × Value)
  | ⟨[.agg ⟨[.int .i64 h, .int .u64 l]⟩, .int .u32 k]⟩ => some (okW h l && (decide (0 ≤ k) && decide (k ≤ 4294967295)), wv (clamp (W2 h l * k)))
  | _ => none
def clipS : Array Value → Option (Bool × Value)
  | ⟨[.agg ⟨[.int .i64 h, .int .u64 l]⟩]⟩ => some (okW h l, .int .i64 (clip (W2 h l)))
  | _ => none
def divS : Array Value → Option (Bool × Value)
  | ⟨[.agg ⟨[.int .i64 h, .int .u64 l]⟩, .int .u64 y]⟩ => some (okW h l && (decide (0 < y) && decide (y ≤ 18446744073709551615)), .tuple #[wv (W2 h l / y), .int .u64 (W2 h l % y), .bool true])
  | _ => none
theorem by_W2 {h l : Int} (k : okW h l = true) {p : Value → Value → Prop} (q : p (.agg #[.int .i64 (hi (W2 h l)), .int .u64 (lo (W2 h l))]) (wv (W2 h l))) : p (.agg #[.int .i64 h, .int .u64 l]) (wv (W2 h l)) := by
  rwa [(hi_W2 k).1, (hi_W2 k).2.1] at q
def pcOf : PC Try.prog where
  f := 15
  spec := ofS
  body := by kernel_rfl
  ok := fun args r hr hok => by
    unfold ofS at hr
    split at hr
    · cases hr
      rw [okI_iff] at hok
      exact ⟨all_bel rfl, rfl, fun w => of_any _ hok.1 hok.2 w⟩
    · cases hr
def pcAdd : PC Try.prog where
  f := 18
  spec := addS
  body := by kernel_rfl
  ok := fun args r hr hok => by
    unfold addS at hr
    split at hr
    · cases hr
      rw [Bool.and_eq_true, okW_iff, okW_iff] at hok
      obtain ⟨⟨⟨a, b⟩, c, d⟩, ⟨e, f⟩, g, h⟩ := hok
      exact ⟨all_bel rfl, rfl, fun w => add_any _ _ _ _ c d g h a b e f w⟩
    · cases hr
def pcSub : PC Try.prog where
  f := 20
  spec := subS
  body := by kernel_rfl
  ok := fun args r hr hok => by
    unfold subS at hr
    split at hr
    · cases hr
      rw [Bool.and_eq_true, okW_iff, okW_iff] at hok
      obtain ⟨⟨⟨a, b⟩, c, d⟩, ⟨e, f⟩, g, h⟩ := hok
      exact ⟨all_bel rfl, rfl, fun w => sub_any _ _ _ _ c d g h a b e f w⟩
    · cases hr
def pcNeg : PC Try.prog where
  f := 22
  spec := negS
  body := by kernel_rfl
  ok := fun args r hr hok => by
    unfold negS at hr
    split at hr
    · cases hr
      rw [okW_iff] at hok
      exact ⟨all_bel rfl, rfl, fun w => neg_any _ _ hok.2.1 hok.2.2 hok.1.1 hok.1.2 w⟩
    · cases hr
def pcAbs : PC Try.prog where
  f := 23
  spec := absS
  body := by kernel_rfl
  ok := fun args r hr hok => by
    unfold absS at hr
    split at hr
    · cases hr
      refine ⟨all_bel rfl, rfl, fun w => ?_⟩
      have := abs_n (hi_W2 hok).2.2 w
      rw [(hi_W2 hok).1, (hi_W2 hok).2.1] at this
      exact this
    · cases hr
def pcHalf : PC Try.prog where
  f := 30
  spec := halfS
  body := by kernel_rfl
  ok := fun args r hr hok => by
    unfold halfS at hr
    split at hr
    · cases hr
      rw [okU_iff] at hok
      exact ⟨all_bel rfl, rfl, fun w => half_any _ _ hok.1 hok.2 w⟩
    · cases hr
def pcCmp : PC Try.prog where
  f := 24
  spec := cmpS
  body := by kernel_rfl
  ok := fun args r hr hok => by
    unfold cmpS at hr
    split at hr
    · rename_i h1 l1 h2 l2
      cases hr
      rw [Bool.and_eq_true] at hok
      refine ⟨all_bel rfl, rfl, fun w => ?_⟩
      have := cmp_n (W2 h1 l1) (W2 h2 l2) w
      rw [(hi_W2 hok.1).1, (hi_W2 hok.1).2.1, (hi_W2 hok.2).1, (hi_W2 hok.2).2.1] at this
      exact this
    · cases hr
def pcMul : PC Try.prog where
  f := 26
  spec := mulS
  body := by kernel_rfl
  ok := fun args r hr hok => by
    unfold mulS at hr
    split at hr
    · cases hr
      rw [Bool.and_eq_true, okI_iff, okI_iff] at hok
      exact ⟨all_bel rfl, rfl, fun w => mul_any _ _ hok.1.1 hok.1.2 hok.2.1 hok.2.2 w⟩
    · cases hr
def pcScale : PC Try.prog where
  f := 28
  spec := scaleS
  body := by kernel_rfl
  ok := fun args r hr hok => by
    unfold scaleS at hr
    split at hr
    · cases hr
      rw [Bool.and_eq_true, Bool.and_eq_true, decide_eq_true_eq, decide_eq_true_eq] at hok
      refine ⟨all_bel rfl, rfl, fun w => ?_⟩
      have := scale_any (hi_W2 hok.1).2.2 hok.2.1 hok.2.2 w
      rw [(hi_W2 hok.1).1, (hi_W2 hok.1).2.1] at this
      exact this
    · cases hr
def pcClip : PC Try.prog where
  f := 33
  spec := clipS
  body := by kernel_rfl
  ok := fun args r hr hok => by
    unfold clipS at hr
    split at hr
    · cases hr
      refine ⟨all_bel rfl, rfl, fun w => ?_⟩
      have := clip_n (hi_W2 hok).2.2 w
      rw [(hi_W2 hok).1, (hi_W2 hok).2.1] at this
      exact this
    · cases hr
def pcDiv : PC Try.prog where
  f := 32
  spec := divS
  body := by kernel_rfl
  ok := fun args r hr hok => by
    unfold divS at hr
    split at hr
    · cases hr
      rw [Bool.and_eq_true, Bool.and_eq_true, decide_eq_true_eq, decide_eq_true_eq] at hok
      refine ⟨all_bel rfl, rfl, fun w => ?_⟩
      have := wdiv_n (hi_W2 hok.1).2.2 hok.2.1 hok.2.2 w
      rw [(hi_W2 hok.1).1, (hi_W2 hok.1).2.1] at this
      exact this
    · cases hr
/-- A function of no arguments that was read. -/
def knownS : Array Value → Option (Bool × Value)
  | ⟨[]⟩ => some (true, .bool true)
  | _ => none
def pcKnown (f : FuncId) (body : (Try.prog.funcs[f]?.bind (·.body)).isSome = true) (hr : (((ev envT 1000).call [] f #[] [] B0).run.map (·.v)) = some (.bool true)) : PC Try.prog where
  f := f
  spec := knownS
  body := body
  ok := fun args r h _ => by
    unfold knownS at h
    split at h
    · cases h
      exact ⟨all_bel rfl, rfl, fun w => calls_read envT hcokP 1000 hr (by simp) rfl w⟩
    · cases h
def pcsW : List (PC Try.prog) := [pcAdd, pcSub, pcOf, pcClip, pcHalf, pcMul, pcDiv, pcCmp, pcNeg, pcScale, pcAbs]
end
end Go.Proofs.Ytbhgibpocbmipaa


/-
  The statements' own 'known' of layer 2, and what is read by.
-/
namespace Go.Proofs.Ytbhgibpocbmipaa
open Go.Den Go.RowKit
noncomputable section
theorem k2_read : (((ev envT 1000).call [] 35 #[] [] B0).run.map (·.v)) = some (.bool true) := by kernel_rfl
def pcK2 : PC Try.prog := pcKnown 35 (by kernel_rfl) k2_read
def envM : Env Try.prog := envS.with false (pcK2 :: pcsW)
end
end Go.Proofs.Ytbhgibpocbmipaa


/-
  The document's numbers: Of, Num64, Neg, Zero, Size, read, and their contracts.
-/
namespace Go.Proofs.Ytbhgibpocbmipaa
open Go.Den Go.RowKit
noncomputable section
set_option maxRecDepth 100000
theorem rof_vc (n : Int) (Q : Value → Prop) (x1 : Int) (e_x1 : x1 = IntKind.wrap IntKind.u64 (0 - IntKind.wrap IntKind.u64 n)) (x2 : Int) (e_x2 : x2 = IntKind.wrap IntKind.u64 (Int.tdiv x1 65536)) (x3 : Int) (e_x3 : x3 = IntKind.wrap IntKind.u64 (Int.tdiv x2 65536)) (x4 : Int) (e_x4 : x4 = IntKind.wrap IntKind.u64 (Int.tdiv (IntKind.wrap IntKind.u64 n) 65536)) (x5 : Int) (e_x5 : x5 = IntKind.wrap IntKind.u64 (Int.tdiv x4 65536)) : ((ev envS 300).call [] 17 #[.int .i64 n] [] B0).holds (fun r => Q r.v) = (bcase (decide (n < 0))
  (bcase (decide (n < 0))
    (Q
      (Value.agg
        {
          toList :=
            [Value.bool true, Value.int IntKind.u64 (Int.tmod x1 65536), Value.int IntKind.u64 (Int.tmod x2 65536),
              Value.int IntKind.u64 (Int.tmod x3 65536),
              Value.int IntKind.u64 (Int.tmod (IntKind.wrap IntKind.u64 (Int.tdiv x3 65536)) 65536),
              Value.int IntKind.u64 0, Value.int IntKind.u64 0, Value.int IntKind.u64 0, Value.int IntKind.u64 0,
              Value.int IntKind.u64 0, Value.int IntKind.u64 0, Value.int IntKind.u64 0, Value.int IntKind.u64 0,
              Value.int IntKind.u64 0, Value.int IntKind.u64 0, Value.int IntKind.u64 0, Value.int IntKind.u64 0,
              Value.int IntKind.u64 0, Value.int IntKind.u64 0, Value.int IntKind.u64 0, Value.int IntKind.u64 0] }))
    (Q
      (Value.agg
        {
          toList :=
            [Value.bool true, Value.int IntKind.u64 (Int.tmod (IntKind.wrap IntKind.u64 n) 65536),
              Value.int IntKind.u64 (Int.tmod x4 65536), Value.int IntKind.u64 (Int.tmod x5 65536),
              Value.int IntKind.u64 (Int.tmod (IntKind.wrap IntKind.u64 (Int.tdiv x5 65536)) 65536),
              Value.int IntKind.u64 0, Value.int IntKind.u64 0, Value.int IntKind.u64 0, Value.int IntKind.u64 0,
              Value.int IntKind.u64 0, Value.int IntKind.u64 0, Value.int IntKind.u64 0, Value.int IntKind.u64 0,
              Value.int IntKind.u64 0, Value.int IntKind.u64 0, Value.int IntKind.u64 0, Value.int IntKind.u64 0,
              Value.int IntKind.u64 0, Value.int IntKind.u64 0, Value.int IntKind.u64 0, Value.int IntKind.u64 0] })))
  (bcase (decide (n < 0))
    (Q
      (Value.agg
        {
          toList :=
            [Value.bool false, Value.int IntKind.u64 (Int.tmod x1 65536), Value.int IntKind.u64 (Int.tmod x2 65536),
              Value.int IntKind.u64 (Int.tmod x3 65536),
              Value.int IntKind.u64 (Int.tmod (IntKind.wrap IntKind.u64 (Int.tdiv x3 65536)) 65536),
              Value.int IntKind.u64 0, Value.int IntKind.u64 0, Value.int IntKind.u64 0, Value.int IntKind.u64 0,
              Value.int IntKind.u64 0, Value.int IntKind.u64 0, Value.int IntKind.u64 0, Value.int IntKind.u64 0,
              Value.int IntKind.u64 0, Value.int IntKind.u64 0, Value.int IntKind.u64 0, Value.int IntKind.u64 0,
              Value.int IntKind.u64 0, Value.int IntKind.u64 0, Value.int IntKind.u64 0, Value.int IntKind.u64 0] }))
    (Q
      (Value.agg
        {
          toList :=
            [Value.bool false, Value.int IntKind.u64 (Int.tmod (IntKind.wrap IntKind.u64 n) 65536),
              Value.int IntKind.u64 (Int.tmod x4 65536), Value.int IntKind.u64 (Int.tmod x5 65536),
              Value.int IntKind.u64 (Int.tmod (IntKind.wrap IntKind.u64 (Int.tdiv x5 65536)) 65536),
              Value.int IntKind.u64 0, Value.int IntKind.u64 0, Value.int IntKind.u64 0, Value.int IntKind.u64 0,
              Value.int IntKind.u64 0, Value.int IntKind.u64 0, Value.int IntKind.u64 0, Value.int IntKind.u64 0,
              Value.int IntKind.u64 0, Value.int IntKind.u64 0, Value.int IntKind.u64 0, Value.int IntKind.u64 0,
              Value.int IntKind.u64 0, Value.int IntKind.u64 0, Value.int IntKind.u64 0, Value.int IntKind.u64 0] })))) := by
  subst e_x5 e_x4 e_x3 e_x2 e_x1
  kernel_rfl
theorem rnum64_vc (u : Int) (Q : Value → Prop) (x1 : Int) (e_x1 : x1 = IntKind.wrap IntKind.u64 (Int.tdiv u 65536)) (x2 : Int) (e_x2 : x2 = IntKind.wrap IntKind.u64 (Int.tdiv x1 65536)) : ((ev envS 300).call [] 29 #[.int .u64 u] [] B0).holds (fun r => Q r.v) = (Q
  (Value.agg
    {
      toList :=
        [Value.bool false, Value.int IntKind.u64 (Int.tmod u 65536), Value.int IntKind.u64 (Int.tmod x1 65536),
          Value.int IntKind.u64 (Int.tmod x2 65536),
          Value.int IntKind.u64 (Int.tmod (IntKind.wrap IntKind.u64 (Int.tdiv x2 65536)) 65536),
          Value.int IntKind.u64 0, Value.int IntKind.u64 0, Value.int IntKind.u64 0, Value.int IntKind.u64 0,
          Value.int IntKind.u64 0, Value.int IntKind.u64 0, Value.int IntKind.u64 0, Value.int IntKind.u64 0,
          Value.int IntKind.u64 0, Value.int IntKind.u64 0, Value.int IntKind.u64 0, Value.int IntKind.u64 0,
          Value.int IntKind.u64 0, Value.int IntKind.u64 0, Value.int IntKind.u64 0, Value.int IntKind.u64 0] })) := by
  subst e_x2 e_x1
  kernel_rfl
theorem rneg_vc (s : Bool) (a0 a1 a2 a3 a4 a5 a6 a7 a8 a9 a10 a11 a12 a13 a14 a15 a16 a17 a18 a19 : Int) (Q : Value → Prop) : ((ev envS 300).call [] 21 #[.agg #[.bool s, .int .u64 a0, .int .u64 a1, .int .u64 a2, .int .u64 a3, .int .u64 a4, .int .u64 a5, .int .u64 a6, .int .u64 a7, .int .u64 a8, .int .u64 a9, .int .u64 a10, .int .u64 a11, .int .u64 a12, .int .u64 a13, .int .u64 a14, .int .u64 a15, .int .u64 a16, .int .u64 a17, .int .u64 a18, .int .u64 a19]] [] B0).holds (fun r => Q r.v) = (bcase s
  (Q
    (Value.agg
      {
        toList :=
          [Value.bool false, Value.int IntKind.u64 a0, Value.int IntKind.u64 a1, Value.int IntKind.u64 a2,
            Value.int IntKind.u64 a3, Value.int IntKind.u64 a4, Value.int IntKind.u64 a5, Value.int IntKind.u64 a6,
            Value.int IntKind.u64 a7, Value.int IntKind.u64 a8, Value.int IntKind.u64 a9, Value.int IntKind.u64 a10,
            Value.int IntKind.u64 a11, Value.int IntKind.u64 a12, Value.int IntKind.u64 a13, Value.int IntKind.u64 a14,
            Value.int IntKind.u64 a15, Value.int IntKind.u64 a16, Value.int IntKind.u64 a17, Value.int IntKind.u64 a18,
            Value.int IntKind.u64 a19] }))
  (Q
    (Value.agg
      {
        toList :=
          [Value.bool true, Value.int IntKind.u64 a0, Value.int IntKind.u64 a1, Value.int IntKind.u64 a2,
            Value.int IntKind.u64 a3, Value.int IntKind.u64 a4, Value.int IntKind.u64 a5, Value.int IntKind.u64 a6,
            Value.int IntKind.u64 a7, Value.int IntKind.u64 a8, Value.int IntKind.u64 a9, Value.int IntKind.u64 a10,
            Value.int IntKind.u64 a11, Value.int IntKind.u64 a12, Value.int IntKind.u64 a13, Value.int IntKind.u64 a14,
            Value.int IntKind.u64 a15, Value.int IntKind.u64 a16, Value.int IntKind.u64 a17, Value.int IntKind.u64 a18,
            Value.int IntKind.u64 a19] }))) := by kernel_rfl

theorem size_read (sa sb : Bool) (a0 a1 a2 a3 a4 a5 a6 a7 a8 a9 a10 a11 a12 a13 a14 a15 a16 a17 a18 a19 : Int) (b0 b1 b2 b3 b4 b5 b6 b7 b8 b9 b10 b11 b12 b13 b14 b15 b16 b17 b18 b19 : Int) (Q : Value → Prop) : ((ev envS 300).call [] 60 #[.agg #[.bool sa, .int .u64 a0, .int .u64 a1, .int .u64 a2, .int .u64 a3, .int .u64 a4, .int .u64 a5, .int .u64 a6, .int .u64 a7, .int .u64 a8, .int .u64 a9, .int .u64 a10, .int .u64 a11, .int .u64 a12, .int .u64 a13, .int .u64 a14, .int .u64 a15, .int .u64 a16, .int .u64 a17, .int .u64 a18, .int .u64 a19], .agg #[.bool sb, .int .u64 b0, .int .u64 b1, .int .u64 b2, .int .u64 b3, .int .u64 b4, .int .u64 b5, .int .u64 b6, .int .u64 b7, .int .u64 b8, .int .u64 b9, .int .u64 b10, .int .u64 b11, .int .u64 b12, .int .u64 b13, .int .u64 b14, .int .u64 b15, .int .u64 b16, .int .u64 b17, .int .u64 b18, .int .u64 b19]] [] B0).holds (fun r => Q r.v) =
  sizeP [a19, a18, a17, a16, a15, a14, a13, a12, a11, a10, a9, a8, a7, a6, a5, a4, a3, a2, a1, a0] [b19, b18, b17, b16, b15, b14, b13, b12, b11, b10, b9, b8, b7, b6, b5, b4, b3, b2, b1, b0] (fun i => Q (.int .i64 i)) := by kernel_rfl
theorem zero_read (sa : Bool) (a0 a1 a2 a3 a4 a5 a6 a7 a8 a9 a10 a11 a12 a13 a14 a15 a16 a17 a18 a19 : Int) (Q : Value → Prop) : ((ev envS 300).call [] 62 #[.agg #[.bool sa, .int .u64 a0, .int .u64 a1, .int .u64 a2, .int .u64 a3, .int .u64 a4, .int .u64 a5, .int .u64 a6, .int .u64 a7, .int .u64 a8, .int .u64 a9, .int .u64 a10, .int .u64 a11, .int .u64 a12, .int .u64 a13, .int .u64 a14, .int .u64 a15, .int .u64 a16, .int .u64 a17, .int .u64 a18, .int .u64 a19]] [] B0).holds (fun r => Q r.v) =
  zeroP [a0, a1, a2, a3, a4, a5, a6, a7, a8, a9, a10, a11, a12, a13, a14, a15, a16, a17, a18, a19] (fun b => Q (.bool b)) := by kernel_rfl
theorem cons_of {l : List Int} {n : Nat} (h : l.length = n + 1) : ∃ x r, l = x :: r ∧ r.length = n := by
  cases l with
  | nil => simp at h
  | cons x r => exact ⟨x, r, rfl, by simpa using h⟩
theorem list20 {l : List Int} (h : l.length = 20) : ∃ x0 x1 x2 x3 x4 x5 x6 x7 x8 x9 x10 x11 x12 x13 x14 x15 x16 x17 x18 x19 : Int, l = [x0, x1, x2, x3, x4, x5, x6, x7, x8, x9, x10, x11, x12, x13, x14, x15, x16, x17, x18, x19] := by
  obtain ⟨x0, l0, e0, h0⟩ := cons_of h
  obtain ⟨x1, l1, e1, h1⟩ := cons_of h0
  obtain ⟨x2, l2, e2, h2⟩ := cons_of h1
  obtain ⟨x3, l3, e3, h3⟩ := cons_of h2
  obtain ⟨x4, l4, e4, h4⟩ := cons_of h3
  obtain ⟨x5, l5, e5, h5⟩ := cons_of h4
  obtain ⟨x6, l6, e6, h6⟩ := cons_of h5
  obtain ⟨x7, l7, e7, h7⟩ := cons_of h6
  obtain ⟨x8, l8, e8, h8⟩ := cons_of h7
  obtain ⟨x9, l9, e9, h9⟩ := cons_of h8
  obtain ⟨x10, l10, e10, h10⟩ := cons_of h9
  obtain ⟨x11, l11, e11, h11⟩ := cons_of h10
  obtain ⟨x12, l12, e12, h12⟩ := cons_of h11
  obtain ⟨x13, l13, e13, h13⟩ := cons_of h12
  obtain ⟨x14, l14, e14, h14⟩ := cons_of h13
  obtain ⟨x15, l15, e15, h15⟩ := cons_of h14
  obtain ⟨x16, l16, e16, h16⟩ := cons_of h15
  obtain ⟨x17, l17, e17, h17⟩ := cons_of h16
  obtain ⟨x18, l18, e18, h18⟩ := cons_of h17
  obtain ⟨x19, l19, e19, h19⟩ := cons_of h18
  have e20 : l19 = [] := List.length_eq_zero_iff.1 h19
  subst e20
  subst e19
  subst e18
  subst e17
  subst e16
  subst e15
  subst e14
  subst e13
  subst e12
  subst e11
  subst e10
  subst e9
  subst e8
  subst e7
  subst e6
  subst e5
  subst e4
  subst e3
  subst e2
  subst e1
  subst e0
  exact ⟨_, _, _, _, _, _, _, _, _, _, _, _, _, _, _, _, _, _, _, _, rfl⟩
theorem val_snoc : ∀ (l : List Int) (x : Int), val (l ++ [x]) = val l + B16 l.length * x
  | [], x => by rw [List.nil_append, val_one, val, List.length_nil, B16_0]; omega
  | y :: r, x => by
    rw [List.cons_append, val, val, val_snoc r x, List.length_cons, B16_s, Int.mul_add, Int.mul_assoc]; omega
/-- The rows, from the top: what they say of which is greater. -/
theorem sizeP_ok (Q : Int → Prop) : ∀ (xs ys : List Int), xs.length = ys.length → Pcs xs → Pcs ys → Q (cmpI (val xs.reverse) (val ys.reverse)) → sizeP xs ys Q
  | [], [], _, _, _, h => h
  | [], y :: ys, hl, _, _, _ => by simp at hl
  | x :: xs, [], hl, _, _, _ => by simp at hl
  | x :: xs, y :: ys, hl, px, py, h => by
    rw [List.reverse_cons, List.reverse_cons, val_snoc, val_snoc, List.length_reverse, List.length_reverse] at h
    simp only [List.length_cons] at hl
    have hl' : xs.length = ys.length := by omega
    have b1 := val_bd (l := xs.reverse) fun z hz => px.tail z (List.mem_reverse.1 hz)
    have b2 := val_bd (l := ys.reverse) fun z hz => py.tail z (List.mem_reverse.1 hz)
    rw [List.length_reverse] at b1 b2
    rw [← hl'] at h b2
    have bp := B16_pos xs.length
    show bcase (decide (x < y)) (Q (-1)) (bcase (decide (x > y)) (Q 1) (sizeP xs ys Q))
    refine bcase_in (fun q => ?_) fun q => bcase_in (fun q2 => ?_) fun q2 => ?_
    · rw [decide_eq_true_eq] at q
      have h1 : B16 xs.length * x + B16 xs.length * 1 ≤ B16 xs.length * y := by rw [← Int.mul_add]; exact Int.mul_le_mul_of_nonneg_left (by omega) (Int.le_of_lt bp)
      have e : cmpI (val xs.reverse + B16 xs.length * x) (val ys.reverse + B16 xs.length * y) = -1 := by
        unfold cmpI; split
        · omega
        · split <;> omega
      rwa [e] at h
    · rw [decide_eq_true_eq] at q2
      have h1 : B16 xs.length * y + B16 xs.length * 1 ≤ B16 xs.length * x := by rw [← Int.mul_add]; exact Int.mul_le_mul_of_nonneg_left (by omega) (Int.le_of_lt bp)
      have e : cmpI (val xs.reverse + B16 xs.length * x) (val ys.reverse + B16 xs.length * y) = 1 := by
        unfold cmpI; split
        · omega
        · split <;> omega
      rwa [e] at h
    · rw [decide_eq_false_iff_not] at q q2
      obtain rfl : x = y := by omega
      refine sizeP_ok Q xs ys hl' px.tail py.tail ?_
      have e : cmpI (val xs.reverse + B16 xs.length * x) (val ys.reverse + B16 xs.length * x) = cmpI (val xs.reverse) (val ys.reverse) := by
        unfold cmpI; (repeat' split) <;> omega
      rwa [e] at h
theorem zeroP_ok (Q : Bool → Prop) : ∀ (xs : List Int), Pcs xs → Q (val xs == 0) → zeroP xs Q
  | [], _, h => h
  | x :: xs, px, h => by
    have hx := px.head
    have b := val_bd px.tail
    show bcase (decide (x > 0)) (Q false) (zeroP xs Q)
    rw [val] at h
    refine bcase_in (fun q => ?_) fun q => zeroP_ok Q xs px.tail ?_
    · rw [decide_eq_true_eq] at q
      rwa [beq_eq_false_iff_ne.2 (show x + 65536 * val xs ≠ 0 by omega)] at h
    · rw [decide_eq_false_iff_not] at q
      have e : (x + 65536 * val xs == 0) = (val xs == 0) := by rw [Bool.eq_iff_iff, beq_iff_eq, beq_iff_eq]; omega
      rwa [e] at h
theorem belL_mapU (l : List Int) : belL B0 (mapU l) = true := by
  induction l with
  | nil => rfl
  | cons x r ih => exact ih
theorem bel_num (s : Bool) (l : List Int) : bel B0 (.agg ⟨.bool s :: mapU l⟩) = true := belL_mapU l
theorem bel_nv (s : Bool) (n : Int) : bel B0 (nv s n) = true := bel_num s _
/-- A row of 20 pieces, told one by one. -/
theorem num_out {r : List Value} (h : okNum r = true) : ∃ l, r = mapU l ∧ l.length = 20 ∧ Pcs l ∧ mag r = val l := by
  obtain ⟨l, rfl, hl, hp⟩ := okNum_out h
  exact ⟨l, rfl, hl, hp, mag_mapU l⟩
def rofS : Array Value → Option (Bool × Value)
  | ⟨[.int .i64 n]⟩ => some (okI n, nv (decide (n < 0)) (sz n))
  | _ => none
def rnumS : Array Value → Option (Bool × Value)
  | ⟨[.int .u64 n]⟩ => some (okU n, nv false n)
  | _ => none
def rnegS : Array Value → Option (Bool × Value)
  | ⟨[.agg ⟨.bool s :: r⟩]⟩ => some (okNum r, nv (!s) (mag r))
  | _ => none
def rzeroS : Array Value → Option (Bool × Value)
  | ⟨[.agg ⟨.bool _ :: r⟩]⟩ => some (okNum r, .bool (mag r == 0))
  | _ => none
def rsizeS : Array Value → Option (Bool × Value)
  | ⟨[.agg ⟨.bool _ :: r1⟩, .agg ⟨.bool _ :: r2⟩]⟩ => some (okNum r1 && okNum r2, .int .i64 (cmpI (mag r1) (mag r2)))
  | _ => none
theorem bcase_n {p q : Prop} : bcase false p q = q := rfl
def zs16 : List Int := [0, 0, 0, 0, 0, 0, 0, 0, 0, 0, 0, 0, 0, 0, 0, 0]
theorem four {s : Bool} {u d0 d1 d2 d3 : Int} (h0 : 0 ≤ u) (h1 : u ≤ 18446744073709551615) (e0 : d0 = u % 65536) (e1 : d1 = u / 65536 % 65536) (e2 : d2 = u / 65536 / 65536 % 65536) (e3 : d3 = u / 65536 / 65536 / 65536 % 65536) :
    Value.agg ⟨.bool s :: mapU (d0 :: d1 :: d2 :: d3 :: zs16)⟩ = nv s u := by
  refine nv_of rfl ?_ ?_
  · refine .cons (by omega) (.cons (by omega) (.cons (by omega) (.cons (by omega) ?_)))
    intro x hx
    simp only [zs16, List.mem_cons, List.not_mem_nil, or_false, or_self] at hx; omega
  · simp only [val, zs16]; omega
theorem wt {u : Int} (h0 : 0 ≤ u) (h1 : u ≤ 18446744073709551615) : IntKind.u64.wrap (Int.tdiv u 65536) = u / 65536 := by rw [td h0]; exact w64 (by omega) (by omega)
theorem four' {s : Bool} {u : Int} (h0 : 0 ≤ u) (h1 : u ≤ 18446744073709551615) :
    Value.agg ⟨.bool s :: mapU (Int.tmod u 65536 :: Int.tmod (IntKind.u64.wrap (Int.tdiv u 65536)) 65536 :: Int.tmod (IntKind.u64.wrap (Int.tdiv (IntKind.u64.wrap (Int.tdiv u 65536)) 65536)) 65536 ::
      Int.tmod (IntKind.u64.wrap (Int.tdiv (IntKind.u64.wrap (Int.tdiv (IntKind.u64.wrap (Int.tdiv u 65536)) 65536)) 65536)) 65536 :: zs16)⟩ = nv s u := by
  have w1 : IntKind.u64.wrap (Int.tdiv u 65536) = u / 65536 := wt (by omega) (by omega)
  have w2 : IntKind.u64.wrap (Int.tdiv (u / 65536) 65536) = u / 65536 / 65536 := wt (by omega) (by omega)
  have w3 : IntKind.u64.wrap (Int.tdiv (u / 65536 / 65536) 65536) = u / 65536 / 65536 / 65536 := wt (by omega) (by omega)
  rw [w1, w2, w3, tm h0, tm (show 0 ≤ u / 65536 by omega), tm (show 0 ≤ u / 65536 / 65536 by omega), tm (show 0 ≤ u / 65536 / 65536 / 65536 by omega)]
  exact four h0 h1 rfl rfl rfl rfl
def pcROf : PC Try.prog where
  f := 17
  spec := rofS
  body := by kernel_rfl
  ok := fun args r hr hok => by
    unfold rofS at hr
    split at hr
    · rename_i n
      cases hr
      have b := okI_iff.1 hok
      refine ⟨all_bel rfl, bel_nv _ _, fun w => calls_spec envS hcokP 300 ?_ (all_bel rfl) (bel_nv _ _) w⟩
      rw [rof_vc n (fun v => v = nv (decide (n < 0)) (sz n)) _ rfl _ rfl _ rfl _ rfl _ rfl]
      cases hd : decide (n < 0)
      · rw [decide_eq_false_iff_not] at hd
        have e1 : IntKind.u64.wrap n = n := w64 (by omega) (by omega)
        have e2 : sz n = n := by unfold sz; omega
        simp only [bcase_n, e1, e2]
        exact four' (by omega) (by omega)
      · rw [decide_eq_true_eq] at hd
        have e1 : IntKind.u64.wrap (0 - IntKind.u64.wrap n) = -n := by rw [IntKind.wrap_u64, IntKind.wrap_u64]; omega
        have e2 : sz n = -n := by unfold sz; omega
        simp only [bcase_t, e1, e2]
        exact four' (by omega) (by omega)
    · cases hr
def pcRNum : PC Try.prog where
  f := 29
  spec := rnumS
  body := by kernel_rfl
  ok := fun args r hr hok => by
    unfold rnumS at hr
    split at hr
    · rename_i n
      cases hr
      have b := okU_iff.1 hok
      refine ⟨all_bel rfl, bel_nv _ _, fun w => calls_spec envS hcokP 300 ?_ (all_bel rfl) (bel_nv _ _) w⟩
      rw [rnum64_vc n (fun v => v = nv false n) _ rfl _ rfl]
      exact four' (by omega) (by omega)
    · cases hr
def pcRNeg : PC Try.prog where
  f := 21
  spec := rnegS
  body := by kernel_rfl
  ok := fun args r hr hok => by
    unfold rnegS at hr
    split at hr
    · rename_i s r
      cases hr
      obtain ⟨l, rfl, hl, hp, hm⟩ := num_out hok
      have hb : (#[Value.agg ⟨.bool s :: mapU l⟩] : Array Value).all (bel B0) = true := all_bel (by rw [belL, bel_num]; rfl)
      refine ⟨hb, bel_nv _ _, fun w => calls_spec envS hcokP 300 ?_ hb (bel_nv _ _) w⟩
      rw [hm]
      have key : ∀ s', Value.agg ⟨.bool s' :: mapU l⟩ = nv s' (val l) := fun s' => nv_of hl hp rfl
      obtain ⟨a0, a1, a2, a3, a4, a5, a6, a7, a8, a9, a10, a11, a12, a13, a14, a15, a16, a17, a18, a19, rfl⟩ := list20 hl
      refine (rneg_vc s a0 a1 a2 a3 a4 a5 a6 a7 a8 a9 a10 a11 a12 a13 a14 a15 a16 a17 a18 a19 (fun v => v = nv (!s) (val [a0, a1, a2, a3, a4, a5, a6, a7, a8, a9, a10, a11, a12, a13, a14, a15, a16, a17, a18, a19]))).mpr ?_
      cases s
      · exact key true
      · exact key false
    · cases hr
def pcRZero : PC Try.prog where
  f := 62
  spec := rzeroS
  body := by kernel_rfl
  ok := fun args r hr hok => by
    unfold rzeroS at hr
    split at hr
    · rename_i s r
      cases hr
      obtain ⟨l, rfl, hl, hp, hm⟩ := num_out hok
      have hb : (#[Value.agg ⟨.bool s :: mapU l⟩] : Array Value).all (bel B0) = true := all_bel (by rw [belL, bel_num]; rfl)
      refine ⟨hb, rfl, fun w => calls_spec envS hcokP 300 ?_ hb rfl w⟩
      rw [hm]
      obtain ⟨a0, a1, a2, a3, a4, a5, a6, a7, a8, a9, a10, a11, a12, a13, a14, a15, a16, a17, a18, a19, rfl⟩ := list20 hl
      exact (zero_read s a0 a1 a2 a3 a4 a5 a6 a7 a8 a9 a10 a11 a12 a13 a14 a15 a16 a17 a18 a19 (fun v => v = .bool (val [a0, a1, a2, a3, a4, a5, a6, a7, a8, a9, a10, a11, a12, a13, a14, a15, a16, a17, a18, a19] == 0))).mpr (zeroP_ok _ _ hp rfl)
    · cases hr
def pcRSize : PC Try.prog where
  f := 60
  spec := rsizeS
  body := by kernel_rfl
  ok := fun args r hr hok => by
    unfold rsizeS at hr
    split at hr
    · rename_i s1 r1 s2 r2
      cases hr
      have hok' : okNum r1 = true ∧ okNum r2 = true := by simpa using hok
      obtain ⟨l1, rfl, hl1, hp1, hm1⟩ := num_out hok'.1
      obtain ⟨l2, rfl, hl2, hp2, hm2⟩ := num_out hok'.2
      have hb : (#[Value.agg ⟨.bool s1 :: mapU l1⟩, Value.agg ⟨.bool s2 :: mapU l2⟩] : Array Value).all (bel B0) = true := all_bel (by rw [belL, bel_num, belL, bel_num]; rfl)
      refine ⟨hb, rfl, fun w => calls_spec envS hcokP 300 ?_ hb rfl w⟩
      rw [hm1, hm2]
      have key := sizeP_ok (fun i => Value.int .i64 i = .int .i64 (cmpI (val l1) (val l2))) l1.reverse l2.reverse (by rw [List.length_reverse, List.length_reverse, hl1, hl2]) (fun z hz => hp1 z (List.mem_reverse.1 hz)) (fun z hz => hp2 z (List.mem_reverse.1 hz)) (by rw [List.reverse_reverse, List.reverse_reverse])
      obtain ⟨a0, a1, a2, a3, a4, a5, a6, a7, a8, a9, a10, a11, a12, a13, a14, a15, a16, a17, a18, a19, rfl⟩ := list20 hl1
      obtain ⟨b0, b1, b2, b3, b4, b5, b6, b7, b8, b9, b10, b11, b12, b13, b14, b15, b16, b17, b18, b19, rfl⟩ := list20 hl2
      exact (size_read s1 s2 a0 a1 a2 a3 a4 a5 a6 a7 a8 a9 a10 a11 a12 a13 a14 a15 a16 a17 a18 a19 b0 b1 b2 b3 b4 b5 b6 b7 b8 b9 b10 b11 b12 b13 b14 b15 b16 b17 b18 b19 (fun v => v = .int .i64 (cmpI (val [a0, a1, a2, a3, a4, a5, a6, a7, a8, a9, a10, a11, a12, a13, a14, a15, a16, a17, a18, a19]) (val [b0, b1, b2, b3, b4, b5, b6, b7, b8, b9, b10, b11, b12, b13, b14, b15, b16, b17, b18, b19])))).mpr key
    · cases hr
def envR1 : Env Try.prog := envS.with false [pcROf, pcRNum, pcRNeg, pcRZero, pcRSize]
end
end Go.Proofs.Ytbhgibpocbmipaa


/-
  The document's product: its code in pieces, and what stands at the head of its loop.
-/
namespace Go.Proofs.Ytbhgibpocbmipaa
open Go.Den Go.RowKit
noncomputable section
set_option maxRecDepth 100000
noncomputable def codeOf (f : Nat) : Code := ((Try.prog.funcs[f]?).bind (·.body)).getD .skip
noncomputable def getZ (zs : List Value) : Nat → Value := List.rec (motive := fun _ => Nat → Value) (fun _ => undef) (fun z _ ih k => Nat.casesOn (motive := fun _ => Value) k z fun m => ih m) zs
noncomputable def mulC : Code := codeOf 27
noncomputable def mulL : Code := cL (cR (cL (cR (cR mulC))))
noncomputable def mulB : Code := cL mulL
noncomputable def zeroN : Value := .agg ⟨.bool false :: mapU [0, 0, 0, 0, 0, 0, 0, 0, 0, 0, 0, 0, 0, 0, 0, 0, 0, 0, 0, 0]⟩
noncomputable def blkN (s : Bool) (l : List Int) : ABlk := ⟨⟨.bool s :: mapU l⟩, 28, none⟩
noncomputable def mulT (i : Int) (zs : List Value) (sa sb so : Bool) (a b o : List Int) : St :=
  ⟨FT.ins [getZ zs 0, getZ zs 1, ptr B0, ptr (B0 + 1), ptr (B0 + 2), ptr (B0 + 3), .int .i64 i, getZ zs 7, getZ zs 8, getZ zs 9, getZ zs 10, getZ zs 11, getZ zs 12, getZ zs 13, getZ zs 14, getZ zs 15, getZ zs 16, getZ zs 17, getZ zs 18, getZ zs 19, getZ zs 20, getZ zs 21, getZ zs 22, getZ zs 23, getZ zs 24, getZ zs 25, getZ zs 26, getZ zs 27, getZ zs 28, getZ zs 29, getZ zs 30, getZ zs 31, getZ zs 32, getZ zs 33, getZ zs 34, getZ zs 35, getZ zs 36, getZ zs 37, getZ zs 38, getZ zs 39, getZ zs 40, getZ zs 41, getZ zs 42, getZ zs 43, getZ zs 44, getZ zs 45, getZ zs 46, getZ zs 47, getZ zs 48, getZ zs 49, getZ zs 50, getZ zs 51, getZ zs 52, getZ zs 53, getZ zs 54, getZ zs 55, getZ zs 56, getZ zs 57, getZ zs 58, getZ zs 59, getZ zs 60, getZ zs 61, getZ zs 62, getZ zs 63, getZ zs 64, getZ zs 65, getZ zs 66, getZ zs 67, getZ zs 68, getZ zs 69, getZ zs 70, getZ zs 71, getZ zs 72, getZ zs 73] 0 ⟨74, .nil⟩,
    [(B0, blkN sa a), (B0 + 1, blkN sb b), (B0 + 2, blkN false [0, 0, 0, 0, 0, 0, 0, 0, 0, 0, 0, 0, 0, 0, 0, 0, 0, 0, 0, 0]), (B0 + 3, blkN so o)], B0 + 4⟩
end
end Go.Proofs.Ytbhgibpocbmipaa


/-
  The rounds of the document's product, read one by one (0 to 4).
-/
namespace Go.Proofs.Ytbhgibpocbmipaa
open Go.Den Go.RowKit
noncomputable section
set_option maxRecDepth 100000
theorem mul_r0 (zs : List Value) (sa sb so : Bool) (a0 a1 a2 a3 a4 a5 a6 a7 a8 a9 a10 a11 a12 a13 a14 a15 a16 a17 a18 a19 b0 b1 b2 b3 b4 b5 b6 b7 b8 b9 b10 b11 b12 b13 b14 b15 b16 b17 b18 b19 o0 o1 o2 o3 o4 o5 o6 o7 o8 o9 o10 o11 o12 o13 o14 o15 o16 o17 o18 o19 : Int) : ((ev envS 100).code [] mulB (mulT 0 zs sa sb so [a0, a1, a2, a3, a4, a5, a6, a7, a8, a9, a10, a11, a12, a13, a14, a15, a16, a17, a18, a19] [b0, b1, b2, b3, b4, b5, b6, b7, b8, b9, b10, b11, b12, b13, b14, b15, b16, b17, b18, b19] [o0, o1, o2, o3, o4, o5, o6, o7, o8, o9, o10, o11, o12, o13, o14, o15, o16, o17, o18, o19])).run =
    some (.normal, mulT 1 (tlOf (outOf ((ev envS 100).code [] mulB (mulT 0 zs sa sb so [a0, a1, a2, a3, a4, a5, a6, a7, a8, a9, a10, a11, a12, a13, a14, a15, a16, a17, a18, a19] [b0, b1, b2, b3, b4, b5, b6, b7, b8, b9, b10, b11, b12, b13, b14, b15, b16, b17, b18, b19] [o0, o1, o2, o3, o4, o5, o6, o7, o8, o9, o10, o11, o12, o13, o14, o15, o16, o17, o18, o19]))).2) sa sb so [a0, a1, a2, a3, a4, a5, a6, a7, a8, a9, a10, a11, a12, a13, a14, a15, a16, a17, a18, a19] [b0, b1, b2, b3, b4, b5, b6, b7, b8, b9, b10, b11, b12, b13, b14, b15, b16, b17, b18, b19] (carry (mrow a0 0 [o0, o1, o2, o3, o4, o5, o6, o7, o8, o9, o10, o11, o12, o13, o14, o15, o16, o17, o18, o19] [b0, b1, b2, b3, b4, b5, b6, b7, b8, b9, b10, b11, b12, b13, b14, b15, b16, b17, b18, b19]))) := by kernel_rfl
theorem mul_r1 (zs : List Value) (sa sb so : Bool) (a0 a1 a2 a3 a4 a5 a6 a7 a8 a9 a10 a11 a12 a13 a14 a15 a16 a17 a18 a19 b0 b1 b2 b3 b4 b5 b6 b7 b8 b9 b10 b11 b12 b13 b14 b15 b16 b17 b18 b19 o0 o1 o2 o3 o4 o5 o6 o7 o8 o9 o10 o11 o12 o13 o14 o15 o16 o17 o18 o19 : Int) : ((ev envS 100).code [] mulB (mulT 1 zs sa sb so [a0, a1, a2, a3, a4, a5, a6, a7, a8, a9, a10, a11, a12, a13, a14, a15, a16, a17, a18, a19] [b0, b1, b2, b3, b4, b5, b6, b7, b8, b9, b10, b11, b12, b13, b14, b15, b16, b17, b18, b19] [o0, o1, o2, o3, o4, o5, o6, o7, o8, o9, o10, o11, o12, o13, o14, o15, o16, o17, o18, o19])).run =
    some (.normal, mulT 2 (tlOf (outOf ((ev envS 100).code [] mulB (mulT 1 zs sa sb so [a0, a1, a2, a3, a4, a5, a6, a7, a8, a9, a10, a11, a12, a13, a14, a15, a16, a17, a18, a19] [b0, b1, b2, b3, b4, b5, b6, b7, b8, b9, b10, b11, b12, b13, b14, b15, b16, b17, b18, b19] [o0, o1, o2, o3, o4, o5, o6, o7, o8, o9, o10, o11, o12, o13, o14, o15, o16, o17, o18, o19]))).2) sa sb so [a0, a1, a2, a3, a4, a5, a6, a7, a8, a9, a10, a11, a12, a13, a14, a15, a16, a17, a18, a19] [b0, b1, b2, b3, b4, b5, b6, b7, b8, b9, b10, b11, b12, b13, b14, b15, b16, b17, b18, b19] (carry (mrow a1 1 [o0, o1, o2, o3, o4, o5, o6, o7, o8, o9, o10, o11, o12, o13, o14, o15, o16, o17, o18, o19] [b0, b1, b2, b3, b4, b5, b6, b7, b8, b9, b10, b11, b12, b13, b14, b15, b16, b17, b18, b19]))) := by kernel_rfl
theorem mul_r2 (zs : List Value) (sa sb so : Bool) (a0 a1 a2 a3 a4 a5 a6 a7 a8 a9 a10 a11 a12 a13 a14 a15 a16 a17 a18 a19 b0 b1 b2 b3 b4 b5 b6 b7 b8 b9 b10 b11 b12 b13 b14 b15 b16 b17 b18 b19 o0 o1 o2 o3 o4 o5 o6 o7 o8 o9 o10 o11 o12 o13 o14 o15 o16 o17 o18 o19 : Int) : ((ev envS 100).code [] mulB (mulT 2 zs sa sb so [a0, a1, a2, a3, a4, a5, a6, a7, a8, a9, a10, a11, a12, a13, a14, a15, a16, a17, a18, a19] [b0, b1, b2, b3, b4, b5, b6, b7, b8, b9, b10, b11, b12, b13, b14, b15, b16, b17, b18, b19] [o0, o1, o2, o3, o4, o5, o6, o7, o8, o9, o10, o11, o12, o13, o14, o15, o16, o17, o18, o19])).run =
    some (.normal, mulT 3 (tlOf (outOf ((ev envS 100).code [] mulB (mulT 2 zs sa sb so [a0, a1, a2, a3, a4, a5, a6, a7, a8, a9, a10, a11, a12, a13, a14, a15, a16, a17, a18, a19] [b0, b1, b2, b3, b4, b5, b6, b7, b8, b9, b10, b11, b12, b13, b14, b15, b16, b17, b18, b19] [o0, o1, o2, o3, o4, o5, o6, o7, o8, o9, o10, o11, o12, o13, o14, o15, o16, o17, o18, o19]))).2) sa sb so [a0, a1, a2, a3, a4, a5, a6, a7, a8, a9, a10, a11, a12, a13, a14, a15, a16, a17, a18, a19] [b0, b1, b2, b3, b4, b5, b6, b7, b8, b9, b10, b11, b12, b13, b14, b15, b16, b17, b18, b19] (carry (mrow a2 2 [o0, o1, o2, o3, o4, o5, o6, o7, o8, o9, o10, o11, o12, o13, o14, o15, o16, o17, o18, o19] [b0, b1, b2, b3, b4, b5, b6, b7, b8, b9, b10, b11, b12, b13, b14, b15, b16, b17, b18, b19]))) := by kernel_rfl
theorem mul_r3 (zs : List Value) (sa sb so : Bool) (a0 a1 a2 a3 a4 a5 a6 a7 a8 a9 a10 a11 a12 a13 a14 a15 a16 a17 a18 a19 b0 b1 b2 b3 b4 b5 b6 b7 b8 b9 b10 b11 b12 b13 b14 b15 b16 b17 b18 b19 o0 o1 o2 o3 o4 o5 o6 o7 o8 o9 o10 o11 o12 o13 o14 o15 o16 o17 o18 o19 : Int) : ((ev envS 100).code [] mulB (mulT 3 zs sa sb so [a0, a1, a2, a3, a4, a5, a6, a7, a8, a9, a10, a11, a12, a13, a14, a15, a16, a17, a18, a19] [b0, b1, b2, b3, b4, b5, b6, b7, b8, b9, b10, b11, b12, b13, b14, b15, b16, b17, b18, b19] [o0, o1, o2, o3, o4, o5, o6, o7, o8, o9, o10, o11, o12, o13, o14, o15, o16, o17, o18, o19])).run =
    some (.normal, mulT 4 (tlOf (outOf ((ev envS 100).code [] mulB (mulT 3 zs sa sb so [a0, a1, a2, a3, a4, a5, a6, a7, a8, a9, a10, a11, a12, a13, a14, a15, a16, a17, a18, a19] [b0, b1, b2, b3, b4, b5, b6, b7, b8, b9, b10, b11, b12, b13, b14, b15, b16, b17, b18, b19] [o0, o1, o2, o3, o4, o5, o6, o7, o8, o9, o10, o11, o12, o13, o14, o15, o16, o17, o18, o19]))).2) sa sb so [a0, a1, a2, a3, a4, a5, a6, a7, a8, a9, a10, a11, a12, a13, a14, a15, a16, a17, a18, a19] [b0, b1, b2, b3, b4, b5, b6, b7, b8, b9, b10, b11, b12, b13, b14, b15, b16, b17, b18, b19] (carry (mrow a3 3 [o0, o1, o2, o3, o4, o5, o6, o7, o8, o9, o10, o11, o12, o13, o14, o15, o16, o17, o18, o19] [b0, b1, b2, b3, b4, b5, b6, b7, b8, b9, b10, b11, b12, b13, b14, b15, b16, b17, b18, b19]))) := by kernel_rfl
theorem mul_r4 (zs : List Value) (sa sb so : Bool) (a0 a1 a2 a3 a4 a5 a6 a7 a8 a9 a10 a11 a12 a13 a14 a15 a16 a17 a18 a19 b0 b1 b2 b3 b4 b5 b6 b7 b8 b9 b10 b11 b12 b13 b14 b15 b16 b17 b18 b19 o0 o1 o2 o3 o4 o5 o6 o7 o8 o9 o10 o11 o12 o13 o14 o15 o16 o17 o18 o19 : Int) : ((ev envS 100).code [] mulB (mulT 4 zs sa sb so [a0, a1, a2, a3, a4, a5, a6, a7, a8, a9, a10, a11, a12, a13, a14, a15, a16, a17, a18, a19] [b0, b1, b2, b3, b4, b5, b6, b7, b8, b9, b10, b11, b12, b13, b14, b15, b16, b17, b18, b19] [o0, o1, o2, o3, o4, o5, o6, o7, o8, o9, o10, o11, o12, o13, o14, o15, o16, o17, o18, o19])).run =
    some (.normal, mulT 5 (tlOf (outOf ((ev envS 100).code [] mulB (mulT 4 zs sa sb so [a0, a1, a2, a3, a4, a5, a6, a7, a8, a9, a10, a11, a12, a13, a14, a15, a16, a17, a18, a19] [b0, b1, b2, b3, b4, b5, b6, b7, b8, b9, b10, b11, b12, b13, b14, b15, b16, b17, b18, b19] [o0, o1, o2, o3, o4, o5, o6, o7, o8, o9, o10, o11, o12, o13, o14, o15, o16, o17, o18, o19]))).2) sa sb so [a0, a1, a2, a3, a4, a5, a6, a7, a8, a9, a10, a11, a12, a13, a14, a15, a16, a17, a18, a19] [b0, b1, b2, b3, b4, b5, b6, b7, b8, b9, b10, b11, b12, b13, b14, b15, b16, b17, b18, b19] (carry (mrow a4 4 [o0, o1, o2, o3, o4, o5, o6, o7, o8, o9, o10, o11, o12, o13, o14, o15, o16, o17, o18, o19] [b0, b1, b2, b3, b4, b5, b6, b7, b8, b9, b10, b11, b12, b13, b14, b15, b16, b17, b18, b19]))) := by kernel_rfl
end
end Go.Proofs.Ytbhgibpocbmipaa


/-
  The rounds of the document's product, read one by one (5 to 9).
-/
namespace Go.Proofs.Ytbhgibpocbmipaa
open Go.Den Go.RowKit
noncomputable section
set_option maxRecDepth 100000
theorem mul_r5 (zs : List Value) (sa sb so : Bool) (a0 a1 a2 a3 a4 a5 a6 a7 a8 a9 a10 a11 a12 a13 a14 a15 a16 a17 a18 a19 b0 b1 b2 b3 b4 b5 b6 b7 b8 b9 b10 b11 b12 b13 b14 b15 b16 b17 b18 b19 o0 o1 o2 o3 o4 o5 o6 o7 o8 o9 o10 o11 o12 o13 o14 o15 o16 o17 o18 o19 : Int) : ((ev envS 100).code [] mulB (mulT 5 zs sa sb so [a0, a1, a2, a3, a4, a5, a6, a7, a8, a9, a10, a11, a12, a13, a14, a15, a16, a17, a18, a19] [b0, b1, b2, b3, b4, b5, b6, b7, b8, b9, b10, b11, b12, b13, b14, b15, b16, b17, b18, b19] [o0, o1, o2, o3, o4, o5, o6, o7, o8, o9, o10, o11, o12, o13, o14, o15, o16, o17, o18, o19])).run =
    some (.normal, mulT 6 (tlOf (outOf ((ev envS 100).code [] mulB (mulT 5 zs sa sb so [a0, a1, a2, a3, a4, a5, a6, a7, a8, a9, a10, a11, a12, a13, a14, a15, a16, a17, a18, a19] [b0, b1, b2, b3, b4, b5, b6, b7, b8, b9, b10, b11, b12, b13, b14, b15, b16, b17, b18, b19] [o0, o1, o2, o3, o4, o5, o6, o7, o8, o9, o10, o11, o12, o13, o14, o15, o16, o17, o18, o19]))).2) sa sb so [a0, a1, a2, a3, a4, a5, a6, a7, a8, a9, a10, a11, a12, a13, a14, a15, a16, a17, a18, a19] [b0, b1, b2, b3, b4, b5, b6, b7, b8, b9, b10, b11, b12, b13, b14, b15, b16, b17, b18, b19] (carry (mrow a5 5 [o0, o1, o2, o3, o4, o5, o6, o7, o8, o9, o10, o11, o12, o13, o14, o15, o16, o17, o18, o19] [b0, b1, b2, b3, b4, b5, b6, b7, b8, b9, b10, b11, b12, b13, b14, b15, b16, b17, b18, b19]))) := by kernel_rfl
theorem mul_r6 (zs : List Value) (sa sb so : Bool) (a0 a1 a2 a3 a4 a5 a6 a7 a8 a9 a10 a11 a12 a13 a14 a15 a16 a17 a18 a19 b0 b1 b2 b3 b4 b5 b6 b7 b8 b9 b10 b11 b12 b13 b14 b15 b16 b17 b18 b19 o0 o1 o2 o3 o4 o5 o6 o7 o8 o9 o10 o11 o12 o13 o14 o15 o16 o17 o18 o19 : Int) : ((ev envS 100).code [] mulB (mulT 6 zs sa sb so [a0, a1, a2, a3, a4, a5, a6, a7, a8, a9, a10, a11, a12, a13, a14, a15, a16, a17, a18, a19] [b0, b1, b2, b3, b4, b5, b6, b7, b8, b9, b10, b11, b12, b13, b14, b15, b16, b17, b18, b19] [o0, o1, o2, o3, o4, o5, o6, o7, o8, o9, o10, o11, o12, o13, o14, o15, o16, o17, o18, o19])).run =
    some (.normal, mulT 7 (tlOf (outOf ((ev envS 100).code [] mulB (mulT 6 zs sa sb so [a0, a1, a2, a3, a4, a5, a6, a7, a8, a9, a10, a11, a12, a13, a14, a15, a16, a17, a18, a19] [b0, b1, b2, b3, b4, b5, b6, b7, b8, b9, b10, b11, b12, b13, b14, b15, b16, b17, b18, b19] [o0, o1, o2, o3, o4, o5, o6, o7, o8, o9, o10, o11, o12, o13, o14, o15, o16, o17, o18, o19]))).2) sa sb so [a0, a1, a2, a3, a4, a5, a6, a7, a8, a9, a10, a11, a12, a13, a14, a15, a16, a17, a18, a19] [b0, b1, b2, b3, b4, b5, b6, b7, b8, b9, b10, b11, b12, b13, b14, b15, b16, b17, b18, b19] (carry (mrow a6 6 [o0, o1, o2, o3, o4, o5, o6, o7, o8, o9, o10, o11, o12, o13, o14, o15, o16, o17, o18, o19] [b0, b1, b2, b3, b4, b5, b6, b7, b8, b9, b10, b11, b12, b13, b14, b15, b16, b17, b18, b19]))) := by kernel_rfl
theorem mul_r7 (zs : List Value) (sa sb so : Bool) (a0 a1 a2 a3 a4 a5 a6 a7 a8 a9 a10 a11 a12 a13 a14 a15 a16 a17 a18 a19 b0 b1 b2 b3 b4 b5 b6 b7 b8 b9 b10 b11 b12 b13 b14 b15 b16 b17 b18 b19 o0 o1 o2 o3 o4 o5 o6 o7 o8 o9 o10 o11 o12 o13 o14 o15 o16 o17 o18 o19 : Int) : ((ev envS 100).code [] mulB (mulT 7 zs sa sb so [a0, a1, a2, a3, a4, a5, a6, a7, a8, a9, a10, a11, a12, a13, a14, a15, a16, a17, a18, a19] [b0, b1, b2, b3, b4, b5, b6, b7, b8, b9, b10, b11, b12, b13, b14, b15, b16, b17, b18, b19] [o0, o1, o2, o3, o4, o5, o6, o7, o8, o9, o10, o11, o12, o13, o14, o15, o16, o17, o18, o19])).run =
    some (.normal, mulT 8 (tlOf (outOf ((ev envS 100).code [] mulB (mulT 7 zs sa sb so [a0, a1, a2, a3, a4, a5, a6, a7, a8, a9, a10, a11, a12, a13, a14, a15, a16, a17, a18, a19] [b0, b1, b2, b3, b4, b5, b6, b7, b8, b9, b10, b11, b12, b13, b14, b15, b16, b17, b18, b19] [o0, o1, o2, o3, o4, o5, o6, o7, o8, o9, o10, o11, o12, o13, o14, o15, o16, o17, o18, o19]))).2) sa sb so [a0, a1, a2, a3, a4, a5, a6, a7, a8, a9, a10, a11, a12, a13, a14, a15, a16, a17, a18, a19] [b0, b1, b2, b3, b4, b5, b6, b7, b8, b9, b10, b11, b12, b13, b14, b15, b16, b17, b18, b19] (carry (mrow a7 7 [o0, o1, o2, o3, o4, o5, o6, o7, o8, o9, o10, o11, o12, o13, o14, o15, o16, o17, o18, o19] [b0, b1, b2, b3, b4, b5, b6, b7, b8, b9, b10, b11, b12, b13, b14, b15, b16, b17, b18, b19]))) := by kernel_rfl
theorem mul_r8 (zs : List Value) (sa sb so : Bool) (a0 a1 a2 a3 a4 a5 a6 a7 a8 a9 a10 a11 a12 a13 a14 a15 a16 a17 a18 a19 b0 b1 b2 b3 b4 b5 b6 b7 b8 b9 b10 b11 b12 b13 b14 b15 b16 b17 b18 b19 o0 o1 o2 o3 o4 o5 o6 o7 o8 o9 o10 o11 o12 o13 o14 o15 o16 o17 o18 o19 : Int) : ((ev envS 100).code [] mulB (mulT 8 zs sa sb so [a0, a1, a2, a3, a4, a5, a6, a7, a8, a9, a10, a11, a12, a13, a14, a15, a16, a17, a18, a19] [b0, b1, b2, b3, b4, b5, b6, b7, b8, b9, b10, b11, b12, b13, b14, b15, b16, b17, b18, b19] [o0, o1, o2, o3, o4, o5, o6, o7, o8, o9, o10, o11, o12, o13, o14, o15, o16, o17, o18, o19])).run =
    some (.normal, mulT 9 (tlOf (outOf ((ev envS 100).code [] mulB (mulT 8 zs sa sb so [a0, a1, a2, a3, a4, a5, a6, a7, a8, a9, a10, a11, a12, a13, a14, a15, a16, a17, a18, a19] [b0, b1, b2, b3, b4, b5, b6, b7, b8, b9, b10, b11, b12, b13, b14, b15, b16, b17, b18, b19] [o0, o1, o2, o3, o4, o5, o6, o7, o8, o9, o10, o11, o12, o13, o14, o15, o16, o17, o18, o19]))).2) sa sb so [a0, a1, a2, a3, a4, a5, a6, a7, a8, a9, a10, a11, a12, a13, a14, a15, a16, a17, a18, a19] [b0, b1, b2, b3, b4, b5, b6, b7, b8, b9, b10, b11, b12, b13, b14, b15, b16, b17, b18, b19] (carry (mrow a8 8 [o0, o1, o2, o3, o4, o5, o6, o7, o8, o9, o10, o11, o12, o13, o14, o15, o16, o17, o18, o19] [b0, b1, b2, b3, b4, b5, b6, b7, b8, b9, b10, b11, b12, b13, b14, b15, b16, b17, b18, b19]))) := by kernel_rfl
theorem mul_r9 (zs : List Value) (sa sb so : Bool) (a0 a1 a2 a3 a4 a5 a6 a7 a8 a9 a10 a11 a12 a13 a14 a15 a16 a17 a18 a19 b0 b1 b2 b3 b4 b5 b6 b7 b8 b9 b10 b11 b12 b13 b14 b15 b16 b17 b18 b19 o0 o1 o2 o3 o4 o5 o6 o7 o8 o9 o10 o11 o12 o13 o14 o15 o16 o17 o18 o19 : Int) : ((ev envS 100).code [] mulB (mulT 9 zs sa sb so [a0, a1, a2, a3, a4, a5, a6, a7, a8, a9, a10, a11, a12, a13, a14, a15, a16, a17, a18, a19] [b0, b1, b2, b3, b4, b5, b6, b7, b8, b9, b10, b11, b12, b13, b14, b15, b16, b17, b18, b19] [o0, o1, o2, o3, o4, o5, o6, o7, o8, o9, o10, o11, o12, o13, o14, o15, o16, o17, o18, o19])).run =
    some (.normal, mulT 10 (tlOf (outOf ((ev envS 100).code [] mulB (mulT 9 zs sa sb so [a0, a1, a2, a3, a4, a5, a6, a7, a8, a9, a10, a11, a12, a13, a14, a15, a16, a17, a18, a19] [b0, b1, b2, b3, b4, b5, b6, b7, b8, b9, b10, b11, b12, b13, b14, b15, b16, b17, b18, b19] [o0, o1, o2, o3, o4, o5, o6, o7, o8, o9, o10, o11, o12, o13, o14, o15, o16, o17, o18, o19]))).2) sa sb so [a0, a1, a2, a3, a4, a5, a6, a7, a8, a9, a10, a11, a12, a13, a14, a15, a16, a17, a18, a19] [b0, b1, b2, b3, b4, b5, b6, b7, b8, b9, b10, b11, b12, b13, b14, b15, b16, b17, b18, b19] (carry (mrow a9 9 [o0, o1, o2, o3, o4, o5, o6, o7, o8, o9, o10, o11, o12, o13, o14, o15, o16, o17, o18, o19] [b0, b1, b2, b3, b4, b5, b6, b7, b8, b9, b10, b11, b12, b13, b14, b15, b16, b17, b18, b19]))) := by kernel_rfl
end
end Go.Proofs.Ytbhgibpocbmipaa


/-
  The rounds of the document's product, read one by one (10 to 14).
-/
namespace Go.Proofs.Ytbhgibpocbmipaa
open Go.Den Go.RowKit
noncomputable section
set_option maxRecDepth 100000
theorem mul_r10 (zs : List Value) (sa sb so : Bool) (a0 a1 a2 a3 a4 a5 a6 a7 a8 a9 a10 a11 a12 a13 a14 a15 a16 a17 a18 a19 b0 b1 b2 b3 b4 b5 b6 b7 b8 b9 b10 b11 b12 b13 b14 b15 b16 b17 b18 b19 o0 o1 o2 o3 o4 o5 o6 o7 o8 o9 o10 o11 o12 o13 o14 o15 o16 o17 o18 o19 : Int) : ((ev envS 100).code [] mulB (mulT 10 zs sa sb so [a0, a1, a2, a3, a4, a5, a6, a7, a8, a9, a10, a11, a12, a13, a14, a15, a16, a17, a18, a19] [b0, b1, b2, b3, b4, b5, b6, b7, b8, b9, b10, b11, b12, b13, b14, b15, b16, b17, b18, b19] [o0, o1, o2, o3, o4, o5, o6, o7, o8, o9, o10, o11, o12, o13, o14, o15, o16, o17, o18, o19])).run =
    some (.normal, mulT 11 (tlOf (outOf ((ev envS 100).code [] mulB (mulT 10 zs sa sb so [a0, a1, a2, a3, a4, a5, a6, a7, a8, a9, a10, a11, a12, a13, a14, a15, a16, a17, a18, a19] [b0, b1, b2, b3, b4, b5, b6, b7, b8, b9, b10, b11, b12, b13, b14, b15, b16, b17, b18, b19] [o0, o1, o2, o3, o4, o5, o6, o7, o8, o9, o10, o11, o12, o13, o14, o15, o16, o17, o18, o19]))).2) sa sb so [a0, a1, a2, a3, a4, a5, a6, a7, a8, a9, a10, a11, a12, a13, a14, a15, a16, a17, a18, a19] [b0, b1, b2, b3, b4, b5, b6, b7, b8, b9, b10, b11, b12, b13, b14, b15, b16, b17, b18, b19] (carry (mrow a10 10 [o0, o1, o2, o3, o4, o5, o6, o7, o8, o9, o10, o11, o12, o13, o14, o15, o16, o17, o18, o19] [b0, b1, b2, b3, b4, b5, b6, b7, b8, b9, b10, b11, b12, b13, b14, b15, b16, b17, b18, b19]))) := by kernel_rfl
theorem mul_r11 (zs : List Value) (sa sb so : Bool) (a0 a1 a2 a3 a4 a5 a6 a7 a8 a9 a10 a11 a12 a13 a14 a15 a16 a17 a18 a19 b0 b1 b2 b3 b4 b5 b6 b7 b8 b9 b10 b11 b12 b13 b14 b15 b16 b17 b18 b19 o0 o1 o2 o3 o4 o5 o6 o7 o8 o9 o10 o11 o12 o13 o14 o15 o16 o17 o18 o19 : Int) : ((ev envS 100).code [] mulB (mulT 11 zs sa sb so [a0, a1, a2, a3, a4, a5, a6, a7, a8, a9, a10, a11, a12, a13, a14, a15, a16, a17, a18, a19] [b0, b1, b2, b3, b4, b5, b6, b7, b8, b9, b10, b11, b12, b13, b14, b15, b16, b17, b18, b19] [o0, o1, o2, o3, o4, o5, o6, o7, o8, o9, o10, o11, o12, o13, o14, o15, o16, o17, o18, o19])).run =
    some (.normal, mulT 12 (tlOf (outOf ((ev envS 100).code [] mulB (mulT 11 zs sa sb so [a0, a1, a2, a3, a4, a5, a6, a7, a8, a9, a10, a11, a12, a13, a14, a15, a16, a17, a18, a19] [b0, b1, b2, b3, b4, b5, b6, b7, b8, b9, b10, b11, b12, b13, b14, b15, b16, b17, b18, b19] [o0, o1, o2, o3, o4, o5, o6, o7, o8, o9, o10, o11, o12, o13, o14, o15, o16, o17, o18, o19]))).2) sa sb so [a0, a1, a2, a3, a4, a5, a6, a7, a8, a9, a10, a11, a12, a13, a14, a15, a16, a17, a18, a19] [b0, b1, b2, b3, b4, b5, b6, b7, b8, b9, b10, b11, b12, b13, b14, b15, b16, b17, b18, b19] (carry (mrow a11 11 [o0, o1, o2, o3, o4, o5, o6, o7, o8, o9, o10, o11, o12, o13, o14, o15, o16, o17, o18, o19] [b0, b1, b2, b3, b4, b5, b6, b7, b8, b9, b10, b11, b12, b13, b14, b15, b16, b17, b18, b19]))) := by kernel_rfl
theorem mul_r12 (zs : List Value) (sa sb so : Bool) (a0 a1 a2 a3 a4 a5 a6 a7 a8 a9 a10 a11 a12 a13 a14 a15 a16 a17 a18 a19 b0 b1 b2 b3 b4 b5 b6 b7 b8 b9 b10 b11 b12 b13 b14 b15 b16 b17 b18 b19 o0 o1 o2 o3 o4 o5 o6 o7 o8 o9 o10 o11 o12 o13 o14 o15 o16 o17 o18 o19 : Int) : ((ev envS 100).code [] mulB (mulT 12 zs sa sb so [a0, a1, a2, a3, a4, a5, a6, a7, a8, a9, a10, a11, a12, a13, a14, a15, a16, a17, a18, a19] [b0, b1, b2, b3, b4, b5, b6, b7, b8, b9, b10, b11, b12, b13, b14, b15, b16, b17, b18, b19] [o0, o1, o2, o3, o4, o5, o6, o7, o8, o9, o10, o11, o12, o13, o14, o15, o16, o17, o18, o19])).run =
    some (.normal, mulT 13 (tlOf (outOf ((ev envS 100).code [] mulB (mulT 12 zs sa sb so [a0, a1, a2, a3, a4, a5, a6, a7, a8, a9, a10, a11, a12, a13, a14, a15, a16, a17, a18, a19] [b0, b1, b2, b3, b4, b5, b6, b7, b8, b9, b10, b11, b12, b13, b14, b15, b16, b17, b18, b19] [o0, o1, o2, o3, o4, o5, o6, o7, o8, o9, o10, o11, o12, o13, o14, o15, o16, o17, o18, o19]))).2) sa sb so [a0, a1, a2, a3, a4, a5, a6, a7, a8, a9, a10, a11, a12, a13, a14, a15, a16, a17, a18, a19] [b0, b1, b2, b3, b4, b5, b6, b7, b8, b9, b10, b11, b12, b13, b14, b15, b16, b17, b18, b19] (carry (mrow a12 12 [o0, o1, o2, o3, o4, o5, o6, o7, o8, o9, o10, o11, o12, o13, o14, o15, o16, o17, o18, o19] [b0, b1, b2, b3, b4, b5, b6, b7, b8, b9, b10, b11, b12, b13, b14, b15, b16, b17, b18, b19]))) := by kernel_rfl
theorem mul_r13 (zs : List Value) (sa sb so : Bool) (a0 a1 a2 a3 a4 a5 a6 a7 a8 a9 a10 a11 a12 a13 a14 a15 a16 a17 a18 a19 b0 b1 b2 b3 b4 b5 b6 b7 b8 b9 b10 b11 b12 b13 b14 b15 b16 b17 b18 b19 o0 o1 o2 o3 o4 o5 o6 o7 o8 o9 o10 o11 o12 o13 o14 o15 o16 o17 o18 o19 : Int) : ((ev envS 100).code [] mulB (mulT 13 zs sa sb so [a0, a1, a2, a3, a4, a5, a6, a7, a8, a9, a10, a11, a12, a13, a14, a15, a16, a17, a18, a19] [b0, b1, b2, b3, b4, b5, b6, b7, b8, b9, b10, b11, b12, b13, b14, b15, b16, b17, b18, b19] [o0, o1, o2, o3, o4, o5, o6, o7, o8, o9, o10, o11, o12, o13, o14, o15, o16, o17, o18, o19])).run =
    some (.normal, mulT 14 (tlOf (outOf ((ev envS 100).code [] mulB (mulT 13 zs sa sb so [a0, a1, a2, a3, a4, a5, a6, a7, a8, a9, a10, a11, a12, a13, a14, a15, a16, a17, a18, a19] [b0, b1, b2, b3, b4, b5, b6, b7, b8, b9, b10, b11, b12, b13, b14, b15, b16, b17, b18, b19] [o0, o1, o2, o3, o4, o5, o6, o7, o8, o9, o10, o11, o12, o13, o14, o15, o16, o17, o18, o19]))).2) sa sb so [a0, a1, a2, a3, a4, a5, a6, a7, a8, a9, a10, a11, a12, a13, a14, a15, a16, a17, a18, a19] [b0, b1, b2, b3, b4, b5, b6, b7, b8, b9, b10, b11, b12, b13, b14, b15, b16, b17, b18, b19] (carry (mrow a13 13 [o0, o1, o2, o3, o4, o5, o6, o7, o8, o9, o10, o11, o12, o13, o14, o15, o16, o17, o18, o19] [b0, b1, b2, b3, b4, b5, b6, b7, b8, b9, b10, b11, b12, b13, b14, b15, b16, b17, b18, b19]))) := by kernel_rfl
theorem mul_r14 (zs : List Value) (sa sb so : Bool) (a0 a1 a2 a3 a4 a5 a6 a7 a8 a9 a10 a11 a12 a13 a14 a15 a16 a17 a18 a19 b0 b1 b2 b3 b4 b5 b6 b7 b8 b9 b10 b11 b12 b13 b14 b15 b16 b17 b18 b19 o0 o1 o2 o3 o4 o5 o6 o7 o8 o9 o10 o11 o12 o13 o14 o15 o16 o17 o18 o19 : Int) : ((ev envS 100).code [] mulB (mulT 14 zs sa sb so [a0, a1, a2, a3, a4, a5, a6, a7, a8, a9, a10, a11, a12, a13, a14, a15, a16, a17, a18, a19] [b0, b1, b2, b3, b4, b5, b6, b7, b8, b9, b10, b11, b12, b13, b14, b15, b16, b17, b18, b19] [o0, o1, o2, o3, o4, o5, o6, o7, o8, o9, o10, o11, o12, o13, o14, o15, o16, o17, o18, o19])).run =
    some (.normal, mulT 15 (tlOf (outOf ((ev envS 100).code [] mulB (mulT 14 zs sa sb so [a0, a1, a2, a3, a4, a5, a6, a7, a8, a9, a10, a11, a12, a13, a14, a15, a16, a17, a18, a19] [b0, b1, b2, b3, b4, b5, b6, b7, b8, b9, b10, b11, b12, b13, b14, b15, b16, b17, b18, b19] [o0, o1, o2, o3, o4, o5, o6, o7, o8, o9, o10, o11, o12, o13, o14, o15, o16, o17, o18, o19]))).2) sa sb so [a0, a1, a2, a3, a4, a5, a6, a7, a8, a9, a10, a11, a12, a13, a14, a15, a16, a17, a18, a19] [b0, b1, b2, b3, b4, b5, b6, b7, b8, b9, b10, b11, b12, b13, b14, b15, b16, b17, b18, b19] (carry (mrow a14 14 [o0, o1, o2, o3, o4, o5, o6, o7, o8, o9, o10, o11, o12, o13, o14, o15, o16, o17, o18, o19] [b0, b1, b2, b3, b4, b5, b6, b7, b8, b9, b10, b11, b12, b13, b14, b15, b16, b17, b18, b19]))) := by kernel_rfl
end
end Go.Proofs.Ytbhgibpocbmipaa


/-
  The rounds of the document's product, read one by one (15 to 19).
-/
namespace Go.Proofs.Ytbhgibpocbmipaa
open Go.Den Go.RowKit
noncomputable section
set_option maxRecDepth 100000
theorem mul_r15 (zs : List Value) (sa sb so : Bool) (a0 a1 a2 a3 a4 a5 a6 a7 a8 a9 a10 a11 a12 a13 a14 a15 a16 a17 a18 a19 b0 b1 b2 b3 b4 b5 b6 b7 b8 b9 b10 b11 b12 b13 b14 b15 b16 b17 b18 b19 o0 o1 o2 o3 o4 o5 o6 o7 o8 o9 o10 o11 o12 o13 o14 o15 o16 o17 o18 o19 : Int) : ((ev envS 100).code [] mulB (mulT 15 zs sa sb so [a0, a1, a2, a3, a4, a5, a6, a7, a8, a9, a10, a11, a12, a13, a14, a15, a16, a17, a18, a19] [b0, b1, b2, b3, b4, b5, b6, b7, b8, b9, b10, b11, b12, b13, b14, b15, b16, b17, b18, b19] [o0, o1, o2, o3, o4, o5, o6, o7, o8, o9, o10, o11, o12, o13, o14, o15, o16, o17, o18, o19])).run =
    some (.normal, mulT 16 (tlOf (outOf ((ev envS 100).code [] mulB (mulT 15 zs sa sb so [a0, a1, a2, a3, a4, a5, a6, a7, a8, a9, a10, a11, a12, a13, a14, a15, a16, a17, a18, a19] [b0, b1, b2, b3, b4, b5, b6, b7, b8, b9, b10, b11, b12, b13, b14, b15, b16, b17, b18, b19] [o0, o1, o2, o3, o4, o5, o6, o7, o8, o9, o10, o11, o12, o13, o14, o15, o16, o17, o18, o19]))).2) sa sb so [a0, a1, a2, a3, a4, a5, a6, a7, a8, a9, a10, a11, a12, a13, a14, a15, a16, a17, a18, a19] [b0, b1, b2, b3, b4, b5, b6, b7, b8, b9, b10, b11, b12, b13, b14, b15, b16, b17, b18, b19] (carry (mrow a15 15 [o0, o1, o2, o3, o4, o5, o6, o7, o8, o9, o10, o11, o12, o13, o14, o15, o16, o17, o18, o19] [b0, b1, b2, b3, b4, b5, b6, b7, b8, b9, b10, b11, b12, b13, b14, b15, b16, b17, b18, b19]))) := by kernel_rfl
theorem mul_r16 (zs : List Value) (sa sb so : Bool) (a0 a1 a2 a3 a4 a5 a6 a7 a8 a9 a10 a11 a12 a13 a14 a15 a16 a17 a18 a19 b0 b1 b2 b3 b4 b5 b6 b7 b8 b9 b10 b11 b12 b13 b14 b15 b16 b17 b18 b19 o0 o1 o2 o3 o4 o5 o6 o7 o8 o9 o10 o11 o12 o13 o14 o15 o16 o17 o18 o19 : Int) : ((ev envS 100).code [] mulB (mulT 16 zs sa sb so [a0, a1, a2, a3, a4, a5, a6, a7, a8, a9, a10, a11, a12, a13, a14, a15, a16, a17, a18, a19] [b0, b1, b2, b3, b4, b5, b6, b7, b8, b9, b10, b11, b12, b13, b14, b15, b16, b17, b18, b19] [o0, o1, o2, o3, o4, o5, o6, o7, o8, o9, o10, o11, o12, o13, o14, o15, o16, o17, o18, o19])).run =
    some (.normal, mulT 17 (tlOf (outOf ((ev envS 100).code [] mulB (mulT 16 zs sa sb so [a0, a1, a2, a3, a4, a5, a6, a7, a8, a9, a10, a11, a12, a13, a14, a15, a16, a17, a18, a19] [b0, b1, b2, b3, b4, b5, b6, b7, b8, b9, b10, b11, b12, b13, b14, b15, b16, b17, b18, b19] [o0, o1, o2, o3, o4, o5, o6, o7, o8, o9, o10, o11, o12, o13, o14, o15, o16, o17, o18, o19]))).2) sa sb so [a0, a1, a2, a3, a4, a5, a6, a7, a8, a9, a10, a11, a12, a13, a14, a15, a16, a17, a18, a19] [b0, b1, b2, b3, b4, b5, b6, b7, b8, b9, b10, b11, b12, b13, b14, b15, b16, b17, b18, b19] (carry (mrow a16 16 [o0, o1, o2, o3, o4, o5, o6, o7, o8, o9, o10, o11, o12, o13, o14, o15, o16, o17, o18, o19] [b0, b1, b2, b3, b4, b5, b6, b7, b8, b9, b10, b11, b12, b13, b14, b15, b16, b17, b18, b19]))) := by kernel_rfl
theorem mul_r17 (zs : List Value) (sa sb so : Bool) (a0 a1 a2 a3 a4 a5 a6 a7 a8 a9 a10 a11 a12 a13 a14 a15 a16 a17 a18 a19 b0 b1 b2 b3 b4 b5 b6 b7 b8 b9 b10 b11 b12 b13 b14 b15 b16 b17 b18 b19 o0 o1 o2 o3 o4 o5 o6 o7 o8 o9 o10 o11 o12 o13 o14 o15 o16 o17 o18 o19 : Int) : ((ev envS 100).code [] mulB (mulT 17 zs sa sb so [a0, a1, a2, a3, a4, a5, a6, a7, a8, a9, a10, a11, a12, a13, a14, a15, a16, a17, a18, a19] [b0, b1, b2, b3, b4, b5, b6, b7, b8, b9, b10, b11, b12, b13, b14, b15, b16, b17, b18, b19] [o0, o1, o2, o3, o4, o5, o6, o7, o8, o9, o10, o11, o12, o13, o14, o15, o16, o17, o18, o19])).run =
    some (.normal, mulT 18 (tlOf (outOf ((ev envS 100).code [] mulB (mulT 17 zs sa sb so [a0, a1, a2, a3, a4, a5, a6, a7, a8, a9, a10, a11, a12, a13, a14, a15, a16, a17, a18, a19] [b0, b1, b2, b3, b4, b5, b6, b7, b8, b9, b10, b11, b12, b13, b14, b15, b16, b17, b18, b19] [o0, o1, o2, o3, o4, o5, o6, o7, o8, o9, o10, o11, o12, o13, o14, o15, o16, o17, o18, o19]))).2) sa sb so [a0, a1, a2, a3, a4, a5, a6, a7, a8, a9, a10, a11, a12, a13, a14, a15, a16, a17, a18, a19] [b0, b1, b2, b3, b4, b5, b6, b7, b8, b9, b10, b11, b12, b13, b14, b15, b16, b17, b18, b19] (carry (mrow a17 17 [o0, o1, o2, o3, o4, o5, o6, o7, o8, o9, o10, o11, o12, o13, o14, o15, o16, o17, o18, o19] [b0, b1, b2, b3, b4, b5, b6, b7, b8, b9, b10, b11, b12, b13, b14, b15, b16, b17, b18, b19]))) := by kernel_rfl
theorem mul_r18 (zs : List Value) (sa sb so : Bool) (a0 a1 a2 a3 a4 a5 a6 a7 a8 a9 a10 a11 a12 a13 a14 a15 a16 a17 a18 a19 b0 b1 b2 b3 b4 b5 b6 b7 b8 b9 b10 b11 b12 b13 b14 b15 b16 b17 b18 b19 o0 o1 o2 o3 o4 o5 o6 o7 o8 o9 o10 o11 o12 o13 o14 o15 o16 o17 o18 o19 : Int) : ((ev envS 100).code [] mulB (mulT 18 zs sa sb so [a0, a1, a2, a3, a4, a5, a6, a7, a8, a9, a10, a11, a12, a13, a14, a15, a16, a17, a18, a19] [b0, b1, b2, b3, b4, b5, b6, b7, b8, b9, b10, b11, b12, b13, b14, b15, b16, b17, b18, b19] [o0, o1, o2, o3, o4, o5, o6, o7, o8, o9, o10, o11, o12, o13, o14, o15, o16, o17, o18, o19])).run =
    some (.normal, mulT 19 (tlOf (outOf ((ev envS 100).code [] mulB (mulT 18 zs sa sb so [a0, a1, a2, a3, a4, a5, a6, a7, a8, a9, a10, a11, a12, a13, a14, a15, a16, a17, a18, a19] [b0, b1, b2, b3, b4, b5, b6, b7, b8, b9, b10, b11, b12, b13, b14, b15, b16, b17, b18, b19] [o0, o1, o2, o3, o4, o5, o6, o7, o8, o9, o10, o11, o12, o13, o14, o15, o16, o17, o18, o19]))).2) sa sb so [a0, a1, a2, a3, a4, a5, a6, a7, a8, a9, a10, a11, a12, a13, a14, a15, a16, a17, a18, a19] [b0, b1, b2, b3, b4, b5, b6, b7, b8, b9, b10, b11, b12, b13, b14, b15, b16, b17, b18, b19] (carry (mrow a18 18 [o0, o1, o2, o3, o4, o5, o6, o7, o8, o9, o10, o11, o12, o13, o14, o15, o16, o17, o18, o19] [b0, b1, b2, b3, b4, b5, b6, b7, b8, b9, b10, b11, b12, b13, b14, b15, b16, b17, b18, b19]))) := by kernel_rfl
theorem mul_r19 (zs : List Value) (sa sb so : Bool) (a0 a1 a2 a3 a4 a5 a6 a7 a8 a9 a10 a11 a12 a13 a14 a15 a16 a17 a18 a19 b0 b1 b2 b3 b4 b5 b6 b7 b8 b9 b10 b11 b12 b13 b14 b15 b16 b17 b18 b19 o0 o1 o2 o3 o4 o5 o6 o7 o8 o9 o10 o11 o12 o13 o14 o15 o16 o17 o18 o19 : Int) : ((ev envS 100).code [] mulB (mulT 19 zs sa sb so [a0, a1, a2, a3, a4, a5, a6, a7, a8, a9, a10, a11, a12, a13, a14, a15, a16, a17, a18, a19] [b0, b1, b2, b3, b4, b5, b6, b7, b8, b9, b10, b11, b12, b13, b14, b15, b16, b17, b18, b19] [o0, o1, o2, o3, o4, o5, o6, o7, o8, o9, o10, o11, o12, o13, o14, o15, o16, o17, o18, o19])).run =
    some (.normal, mulT 20 (tlOf (outOf ((ev envS 100).code [] mulB (mulT 19 zs sa sb so [a0, a1, a2, a3, a4, a5, a6, a7, a8, a9, a10, a11, a12, a13, a14, a15, a16, a17, a18, a19] [b0, b1, b2, b3, b4, b5, b6, b7, b8, b9, b10, b11, b12, b13, b14, b15, b16, b17, b18, b19] [o0, o1, o2, o3, o4, o5, o6, o7, o8, o9, o10, o11, o12, o13, o14, o15, o16, o17, o18, o19]))).2) sa sb so [a0, a1, a2, a3, a4, a5, a6, a7, a8, a9, a10, a11, a12, a13, a14, a15, a16, a17, a18, a19] [b0, b1, b2, b3, b4, b5, b6, b7, b8, b9, b10, b11, b12, b13, b14, b15, b16, b17, b18, b19] (carry (mrow a19 19 [o0, o1, o2, o3, o4, o5, o6, o7, o8, o9, o10, o11, o12, o13, o14, o15, o16, o17, o18, o19] [b0, b1, b2, b3, b4, b5, b6, b7, b8, b9, b10, b11, b12, b13, b14, b15, b16, b17, b18, b19]))) := by kernel_rfl
end
end Go.Proofs.Ytbhgibpocbmipaa


/-
  The document's product, put together of its rounds.
-/
namespace Go.Proofs.Ytbhgibpocbmipaa
open Go.Den Go.RowKit
noncomputable section
set_option maxRecDepth 100000
theorem mulB_ok : cok mulB = true := by kernel_rfl
theorem mulL_eq : mulL = .loop mulB := by kernel_rfl
theorem addRow_len (x : Int) : ∀ os ys : List Int, (addRow x os ys).length = os.length
  | [], _ => rfl
  | o :: os, [] => rfl
  | o :: os, y :: ys => by show (addRow x os ys).length + 1 = _; rw [addRow_len x os ys, List.length_cons]
theorem mrow_len (x : Int) : ∀ (i : Nat) (os ys : List Int), (mrow x i os ys).length = os.length
  | 0, os, ys => addRow_len x os ys
  | i + 1, [], ys => rfl
  | i + 1, o :: os, ys => by show (mrow x i os ys).length + 1 = _; rw [mrow_len x i os ys, List.length_cons]
theorem carryGo_len : ∀ (r : List Int) (o : Int), (carryGo r o).length = r.length + 1
  | [], _ => rfl
  | p :: r, o => by show (carryGo r _).length + 1 = _; rw [carryGo_len r, List.length_cons]
theorem carry_len (os : List Int) : (carry os).length = os.length := by
  cases os with
  | nil => rfl
  | cons o r => exact carryGo_len r o
theorem mul_end (zs : List Value) (sa sb so : Bool) (a b o : List Int) : ((ev envS 100).code [] mulB (mulT 20 zs sa sb so a b o)).run =
    some (.exit 0, mulT 20 (tlOf (outOf ((ev envS 100).code [] mulB (mulT 20 zs sa sb so a b o))).2) sa sb so a b o) := by kernel_rfl
section
variable (sa sb so : Bool) (a0 a1 a2 a3 a4 a5 a6 a7 a8 a9 a10 a11 a12 a13 a14 a15 a16 a17 a18 a19 b0 b1 b2 b3 b4 b5 b6 b7 b8 b9 b10 b11 b12 b13 b14 b15 b16 b17 b18 b19 : Int)
theorem mul_f20 (zs : List Value) (o : List Int) (_ : o.length = 20) : ∃ zs', SatCode Try.prog [] mulL (mulT 20 zs sa sb so [a0, a1, a2, a3, a4, a5, a6, a7, a8, a9, a10, a11, a12, a13, a14, a15, a16, a17, a18, a19] [b0, b1, b2, b3, b4, b5, b6, b7, b8, b9, b10, b11, b12, b13, b14, b15, b16, b17, b18, b19] o) (.exit 0) (mulT 20 zs' sa sb so [a0, a1, a2, a3, a4, a5, a6, a7, a8, a9, a10, a11, a12, a13, a14, a15, a16, a17, a18, a19] [b0, b1, b2, b3, b4, b5, b6, b7, b8, b9, b10, b11, b12, b13, b14, b15, b16, b17, b18, b19] (mulGo [b0, b1, b2, b3, b4, b5, b6, b7, b8, b9, b10, b11, b12, b13, b14, b15, b16, b17, b18, b19] [] 20 o)) :=
  ⟨_, sat_loop_exit mulL_eq (sat_read envS hcokP 100 mulB_ok (mul_end zs sa sb so [a0, a1, a2, a3, a4, a5, a6, a7, a8, a9, a10, a11, a12, a13, a14, a15, a16, a17, a18, a19] [b0, b1, b2, b3, b4, b5, b6, b7, b8, b9, b10, b11, b12, b13, b14, b15, b16, b17, b18, b19] o))⟩
theorem mul_f19 (zs : List Value) (o : List Int) (ho : o.length = 20) : ∃ zs', SatCode Try.prog [] mulL (mulT 19 zs sa sb so [a0, a1, a2, a3, a4, a5, a6, a7, a8, a9, a10, a11, a12, a13, a14, a15, a16, a17, a18, a19] [b0, b1, b2, b3, b4, b5, b6, b7, b8, b9, b10, b11, b12, b13, b14, b15, b16, b17, b18, b19] o) (.exit 0) (mulT 20 zs' sa sb so [a0, a1, a2, a3, a4, a5, a6, a7, a8, a9, a10, a11, a12, a13, a14, a15, a16, a17, a18, a19] [b0, b1, b2, b3, b4, b5, b6, b7, b8, b9, b10, b11, b12, b13, b14, b15, b16, b17, b18, b19] (mulGo [b0, b1, b2, b3, b4, b5, b6, b7, b8, b9, b10, b11, b12, b13, b14, b15, b16, b17, b18, b19] [a19] 19 o)) := by
  obtain ⟨z, h⟩ := mul_f20 sa sb so a0 a1 a2 a3 a4 a5 a6 a7 a8 a9 a10 a11 a12 a13 a14 a15 a16 a17 a18 a19 b0 b1 b2 b3 b4 b5 b6 b7 b8 b9 b10 b11 b12 b13 b14 b15 b16 b17 b18 b19 (tlOf (outOf ((ev envS 100).code [] mulB (mulT 19 zs sa sb so [a0, a1, a2, a3, a4, a5, a6, a7, a8, a9, a10, a11, a12, a13, a14, a15, a16, a17, a18, a19] [b0, b1, b2, b3, b4, b5, b6, b7, b8, b9, b10, b11, b12, b13, b14, b15, b16, b17, b18, b19] o))).2) (carry (mrow a19 19 o [b0, b1, b2, b3, b4, b5, b6, b7, b8, b9, b10, b11, b12, b13, b14, b15, b16, b17, b18, b19])) (by rw [carry_len, mrow_len, ho])
  refine ⟨z, sat_loop mulL_eq ?_ h⟩
  obtain ⟨o0, o1, o2, o3, o4, o5, o6, o7, o8, o9, o10, o11, o12, o13, o14, o15, o16, o17, o18, o19, rfl⟩ := list20 ho
  exact sat_read envS hcokP 100 mulB_ok (mul_r19 zs sa sb so a0 a1 a2 a3 a4 a5 a6 a7 a8 a9 a10 a11 a12 a13 a14 a15 a16 a17 a18 a19 b0 b1 b2 b3 b4 b5 b6 b7 b8 b9 b10 b11 b12 b13 b14 b15 b16 b17 b18 b19 o0 o1 o2 o3 o4 o5 o6 o7 o8 o9 o10 o11 o12 o13 o14 o15 o16 o17 o18 o19)
theorem mul_f18 (zs : List Value) (o : List Int) (ho : o.length = 20) : ∃ zs', SatCode Try.prog [] mulL (mulT 18 zs sa sb so [a0, a1, a2, a3, a4, a5, a6, a7, a8, a9, a10, a11, a12, a13, a14, a15, a16, a17, a18, a19] [b0, b1, b2, b3, b4, b5, b6, b7, b8, b9, b10, b11, b12, b13, b14, b15, b16, b17, b18, b19] o) (.exit 0) (mulT 20 zs' sa sb so [a0, a1, a2, a3, a4, a5, a6, a7, a8, a9, a10, a11, a12, a13, a14, a15, a16, a17, a18, a19] [b0, b1, b2, b3, b4, b5, b6, b7, b8, b9, b10, b11, b12, b13, b14, b15, b16, b17, b18, b19] (mulGo [b0, b1, b2, b3, b4, b5, b6, b7, b8, b9, b10, b11, b12, b13, b14, b15, b16, b17, b18, b19] [a18, a19] 18 o)) := by
  obtain ⟨z, h⟩ := mul_f19 sa sb so a0 a1 a2 a3 a4 a5 a6 a7 a8 a9 a10 a11 a12 a13 a14 a15 a16 a17 a18 a19 b0 b1 b2 b3 b4 b5 b6 b7 b8 b9 b10 b11 b12 b13 b14 b15 b16 b17 b18 b19 (tlOf (outOf ((ev envS 100).code [] mulB (mulT 18 zs sa sb so [a0, a1, a2, a3, a4, a5, a6, a7, a8, a9, a10, a11, a12, a13, a14, a15, a16, a17, a18, a19] [b0, b1, b2, b3, b4, b5, b6, b7, b8, b9, b10, b11, b12, b13, b14, b15, b16, b17, b18, b19] o))).2) (carry (mrow a18 18 o [b0, b1, b2, b3, b4, b5, b6, b7, b8, b9, b10, b11, b12, b13, b14, b15, b16, b17, b18, b19])) (by rw [carry_len, mrow_len, ho])
  refine ⟨z, sat_loop mulL_eq ?_ h⟩
  obtain ⟨o0, o1, o2, o3, o4, o5, o6, o7, o8, o9, o10, o11, o12, o13, o14, o15, o16, o17, o18, o19, rfl⟩ := list20 ho
  exact sat_read envS hcokP 100 mulB_ok (mul_r18 zs sa sb so a0 a1 a2 a3 a4 a5 a6 a7 a8 a9 a10 a11 a12 a13 a14 a15 a16 a17 a18 a19 b0 b1 b2 b3 b4 b5 b6 b7 b8 b9 b10 b11 b12 b13 b14 b15 b16 b17 b18 b19 o0 o1 o2 o3 o4 o5 o6 o7 o8 o9 o10 o11 o12 o13 o14 o15 o16 o17 o18 o19)
theorem mul_f17 (zs : List Value) (o : List Int) (ho : o.length = 20) : ∃ zs', SatCode Try.prog [] mulL (mulT 17 zs sa sb so [a0, a1, a2, a3, a4, a5, a6, a7, a8, a9, a10, a11, a12, a13, a14, a15, a16, a17, a18, a19] [b0, b1, b2, b3, b4, b5, b6, b7, b8, b9, b10, b11, b12, b13, b14, b15, b16, b17, b18, b19] o) (.exit 0) (mulT 20 zs' sa sb so [a0, a1, a2, a3, a4, a5, a6, a7, a8, a9, a10, a11, a12, a13, a14, a15, a16, a17, a18, a19] [b0, b1, b2, b3, b4, b5, b6, b7, b8, b9, b10, b11, b12, b13, b14, b15, b16, b17, b18, b19] (mulGo [b0, b1, b2, b3, b4, b5, b6, b7, b8, b9, b10, b11, b12, b13, b14, b15, b16, b17, b18, b19] [a17, a18, a19] 17 o)) := by
  obtain ⟨z, h⟩ := mul_f18 sa sb so a0 a1 a2 a3 a4 a5 a6 a7 a8 a9 a10 a11 a12 a13 a14 a15 a16 a17 a18 a19 b0 b1 b2 b3 b4 b5 b6 b7 b8 b9 b10 b11 b12 b13 b14 b15 b16 b17 b18 b19 (tlOf (outOf ((ev envS 100).code [] mulB (mulT 17 zs sa sb so [a0, a1, a2, a3, a4, a5, a6, a7, a8, a9, a10, a11, a12, a13, a14, a15, a16, a17, a18, a19] [b0, b1, b2, b3, b4, b5, b6, b7, b8, b9, b10, b11, b12, b13, b14, b15, b16, b17, b18, b19] o))).2) (carry (mrow a17 17 o [b0, b1, b2, b3, b4, b5, b6, b7, b8, b9, b10, b11, b12, b13, b14, b15, b16, b17, b18, b19])) (by rw [carry_len, mrow_len, ho])
  refine ⟨z, sat_loop mulL_eq ?_ h⟩
  obtain ⟨o0, o1, o2, o3, o4, o5, o6, o7, o8, o9, o10, o11, o12, o13, o14, o15, o16, o17, o18, o19, rfl⟩ := list20 ho
  exact sat_read envS hcokP 100 mulB_ok (mul_r17 zs sa sb so a0 a1 a2 a3 a4 a5 a6 a7 a8 a9 a10 a11 a12 a13 a14 a15 a16 a17 a18 a19 b0 b1 b2 b3 b4 b5 b6 b7 b8 b9 b10 b11 b12 b13 b14 b15 b16 b17 b18 b19 o0 o1 o2 o3 o4 o5 o6 o7 o8 o9 o10 o11 o12 o13 o14 o15 o16 o17 o18 o19)
theorem mul_f16 (zs : List Value) (o : List Int) (ho : o.length = 20) : ∃ zs', SatCode Try.prog [] mulL (mulT 16 zs sa sb so [a0, a1, a2, a3, a4, a5, a6, a7, a8, a9, a10, a11, a12, a13, a14, a15, a16, a17, a18, a19] [b0, b1, b2, b3, b4, b5, b6, b7, b8, b9, b10, b11, b12, b13, b14, b15, b16, b17, b18, b19] o) (.exit 0) (mulT 20 zs' sa sb so [a0, a1, a2, a3, a4, a5, a6, a7, a8, a9, a10, a11, a12, a13, a14, a15, a16, a17, a18, a19] [b0, b1, b2, b3, b4, b5, b6, b7, b8, b9, b10, b11, b12, b13, b14, b15, b16, b17, b18, b19] (mulGo [b0, b1, b2, b3, b4, b5, b6, b7, b8, b9, b10, b11, b12, b13, b14, b15, b16, b17, b18, b19] [a16, a17, a18, a19] 16 o)) := by
  obtain ⟨z, h⟩ := mul_f17 sa sb so a0 a1 a2 a3 a4 a5 a6 a7 a8 a9 a10 a11 a12 a13 a14 a15 a16 a17 a18 a19 b0 b1 b2 b3 b4 b5 b6 b7 b8 b9 b10 b11 b12 b13 b14 b15 b16 b17 b18 b19 (tlOf (outOf ((ev envS 100).code [] mulB (mulT 16 zs sa sb so [a0, a1, a2, a3, a4, a5, a6, a7, a8, a9, a10, a11, a12, a13, a14, a15, a16, a17, a18, a19] [b0, b1, b2, b3, b4, b5, b6, b7, b8, b9, b10, b11, b12, b13, b14, b15, b16, b17, b18, b19] o))).2) (carry (mrow a16 16 o [b0, b1, b2, b3, b4, b5, b6, b7, b8, b9, b10, b11, b12, b13, b14, b15, b16, b17, b18, b19])) (by rw [carry_len, mrow_len, ho])
  refine ⟨z, sat_loop mulL_eq ?_ h⟩
  obtain ⟨o0, o1, o2, o3, o4, o5, o6, o7, o8, o9, o10, o11, o12, o13, o14, o15, o16, o17, o18, o19, rfl⟩ := list20 ho
  exact sat_read envS hcokP 100 mulB_ok (mul_r16 zs sa sb so a0 a1 a2 a3 a4 a5 a6 a7 a8 a9 a10 a11 a12 a13 a14 a15 a16 a17 a18 a19 b0 b1 b2 b3 b4 b5 b6 b7 b8 b9 b10 b11 b12 b13 b14 b15 b16 b17 b18 b19 o0 o1 o2 o3 o4 o5 o6 o7 o8 o9 o10 o11 o12 o13 o14 o15 o16 o17 o18 o19)
theorem mul_f15 (zs : List Value) (o : List Int) (ho : o.length = 20) : ∃ zs', SatCode Try.prog [] mulL (mulT 15 zs sa sb so [a0, a1, a2, a3, a4, a5, a6, a7, a8, a9, a10, a11, a12, a13, a14, a15, a16, a17, a18, a19] [b0, b1, b2, b3, b4, b5, b6, b7, b8, b9, b10, b11, b12, b13, b14, b15, b16, b17, b18, b19] o) (.exit 0) (mulT 20 zs' sa sb so [a0, a1, a2, a3, a4, a5, a6, a7, a8, a9, a10, a11, a12, a13, a14, a15, a16, a17, a18, a19] [b0, b1, b2, b3, b4, b5, b6, b7, b8, b9, b10, b11, b12, b13, b14, b15, b16, b17, b18, b19] (mulGo [b0, b1, b2, b3, b4, b5, b6, b7, b8, b9, b10, b11, b12, b13, b14, b15, b16, b17, b18, b19] [a15, a16, a17, a18, a19] 15 o)) := by
  obtain ⟨z, h⟩ := mul_f16 sa sb so a0 a1 a2 a3 a4 a5 a6 a7 a8 a9 a10 a11 a12 a13 a14 a15 a16 a17 a18 a19 b0 b1 b2 b3 b4 b5 b6 b7 b8 b9 b10 b11 b12 b13 b14 b15 b16 b17 b18 b19 (tlOf (outOf ((ev envS 100).code [] mulB (mulT 15 zs sa sb so [a0, a1, a2, a3, a4, a5, a6, a7, a8, a9, a10, a11, a12, a13, a14, a15, a16, a17, a18, a19] [b0, b1, b2, b3, b4, b5, b6, b7, b8, b9, b10, b11, b12, b13, b14, b15, b16, b17, b18, b19] o))).2) (carry (mrow a15 15 o [b0, b1, b2, b3, b4, b5, b6, b7, b8, b9, b10, b11, b12, b13, b14, b15, b16, b17, b18, b19])) (by rw [carry_len, mrow_len, ho])
  refine ⟨z, sat_loop mulL_eq ?_ h⟩
  obtain ⟨o0, o1, o2, o3, o4, o5, o6, o7, o8, o9, o10, o11, o12, o13, o14, o15, o16, o17, o18, o19, rfl⟩ := list20 ho
  exact sat_read envS hcokP 100 mulB_ok (mul_r15 zs sa sb so a0 a1 a2 a3 a4 a5 a6 a7 a8 a9 a10 a11 a12 a13 a14 a15 a16 a17 a18 a19 b0 b1 b2 b3 b4 b5 b6 b7 b8 b9 b10 b11 b12 b13 b14 b15 b16 b17 b18 b19 o0 o1 o2 o3 o4 o5 o6 o7 o8 o9 o10 o11 o12 o13 o14 o15 o16 o17 o18 o19)
theorem mul_f14 (zs : List Value) (o : List Int) (ho : o.length = 20) : ∃ zs', SatCode Try.prog [] mulL (mulT 14 zs sa sb so [a0, a1, a2, a3, a4, a5, a6, a7, a8, a9, a10, a11, a12, a13, a14, a15, a16, a17, a18, a19] [b0, b1, b2, b3, b4, b5, b6, b7, b8, b9, b10, b11, b12, b13, b14, b15, b16, b17, b18, b19] o) (.exit 0) (mulT 20 zs' sa sb so [a0, a1, a2, a3, a4, a5, a6, a7, a8, a9, a10, a11, a12, a13, a14, a15, a16, a17, a18, a19] [b0, b1, b2, b3, b4, b5, b6, b7, b8, b9, b10, b11, b12, b13, b14, b15, b16, b17, b18, b19] (mulGo [b0, b1, b2, b3, b4, b5, b6, b7, b8, b9, b10, b11, b12, b13, b14, b15, b16, b17, b18, b19] [a14, a15, a16, a17, a18, a19] 14 o)) := by
  obtain ⟨z, h⟩ := mul_f15 sa sb so a0 a1 a2 a3 a4 a5 a6 a7 a8 a9 a10 a11 a12 a13 a14 a15 a16 a17 a18 a19 b0 b1 b2 b3 b4 b5 b6 b7 b8 b9 b10 b11 b12 b13 b14 b15 b16 b17 b18 b19 (tlOf (outOf ((ev envS 100).code [] mulB (mulT 14 zs sa sb so [a0, a1, a2, a3, a4, a5, a6, a7, a8, a9, a10, a11, a12, a13, a14, a15, a16, a17, a18, a19] [b0, b1, b2, b3, b4, b5, b6, b7, b8, b9, b10, b11, b12, b13, b14, b15, b16, b17, b18, b19] o))).2) (carry (mrow a14 14 o [b0, b1, b2, b3, b4, b5, b6, b7, b8, b9, b10, b11, b12, b13, b14, b15, b16, b17, b18, b19])) (by rw [carry_len, mrow_len, ho])
  refine ⟨z, sat_loop mulL_eq ?_ h⟩
  obtain ⟨o0, o1, o2, o3, o4, o5, o6, o7, o8, o9, o10, o11, o12, o13, o14, o15, o16, o17, o18, o19, rfl⟩ := list20 ho
  exact sat_read envS hcokP 100 mulB_ok (mul_r14 zs sa sb so a0 a1 a2 a3 a4 a5 a6 a7 a8 a9 a10 a11 a12 a13 a14 a15 a16 a17 a18 a19 b0 b1 b2 b3 b4 b5 b6 b7 b8 b9 b10 b11 b12 b13 b14 b15 b16 b17 b18 b19 o0 o1 o2 o3 o4 o5 o6 o7 o8 o9 o10 o11 o12 o13 o14 o15 o16 o17 o18 o19)
theorem mul_f13 (zs : List Value) (o : List Int) (ho : o.length = 20) : ∃ zs', SatCode Try.prog [] mulL (mulT 13 zs sa sb so [a0, a1, a2, a3, a4, a5, a6, a7, a8, a9, a10, a11, a12, a13, a14, a15, a16, a17, a18, a19] [b0, b1, b2, b3, b4, b5, b6, b7, b8, b9, b10, b11, b12, b13, b14, b15, b16, b17, b18, b19] o) (.exit 0) (mulT 20 zs' sa sb so [a0, a1, a2, a3, a4, a5, a6, a7, a8, a9, a10, a11, a12, a13, a14, a15, a16, a17, a18, a19] [b0, b1, b2, b3, b4, b5, b6, b7, b8, b9, b10, b11, b12, b13, b14, b15, b16, b17, b18, b19] (mulGo [b0, b1, b2, b3, b4, b5, b6, b7, b8, b9, b10, b11, b12, b13, b14, b15, b16, b17, b18, b19] [a13, a14, a15, a16, a17, a18, a19] 13 o)) := by
  obtain ⟨z, h⟩ := mul_f14 sa sb so a0 a1 a2 a3 a4 a5 a6 a7 a8 a9 a10 a11 a12 a13 a14 a15 a16 a17 a18 a19 b0 b1 b2 b3 b4 b5 b6 b7 b8 b9 b10 b11 b12 b13 b14 b15 b16 b17 b18 b19 (tlOf (outOf ((ev envS 100).code [] mulB (mulT 13 zs sa sb so [a0, a1, a2, a3, a4, a5, a6, a7, a8, a9, a10, a11, a12, a13, a14, a15, a16, a17, a18, a19] [b0, b1, b2, b3, b4, b5, b6, b7, b8, b9, b10, b11, b12, b13, b14, b15, b16, b17, b18, b19] o))).2) (carry (mrow a13 13 o [b0, b1, b2, b3, b4, b5, b6, b7, b8, b9, b10, b11, b12, b13, b14, b15, b16, b17, b18, b19])) (by rw [carry_len, mrow_len, ho])
  refine ⟨z, sat_loop mulL_eq ?_ h⟩
  obtain ⟨o0, o1, o2, o3, o4, o5, o6, o7, o8, o9, o10, o11, o12, o13, o14, o15, o16, o17, o18, o19, rfl⟩ := list20 ho
  exact sat_read envS hcokP 100 mulB_ok (mul_r13 zs sa sb so a0 a1 a2 a3 a4 a5 a6 a7 a8 a9 a10 a11 a12 a13 a14 a15 a16 a17 a18 a19 b0 b1 b2 b3 b4 b5 b6 b7 b8 b9 b10 b11 b12 b13 b14 b15 b16 b17 b18 b19 o0 o1 o2 o3 o4 o5 o6 o7 o8 o9 o10 o11 o12 o13 o14 o15 o16 o17 o18 o19)
theorem mul_f12 (zs : List Value) (o : List Int) (ho : o.length = 20) : ∃ zs', SatCode Try.prog [] mulL (mulT 12 zs sa sb so [a0, a1, a2, a3, a4, a5, a6, a7, a8, a9, a10, a11, a12, a13, a14, a15, a16, a17, a18, a19] [b0, b1, b2, b3, b4, b5, b6, b7, b8, b9, b10, b11, b12, b13, b14, b15, b16, b17, b18, b19] o) (.exit 0) (mulT 20 zs' sa sb so [a0, a1, a2, a3, a4, a5, a6, a7, a8, a9, a10, a11, a12, a13, a14, a15, a16, a17, a18, a19] [b0, b1, b2, b3, b4, b5, b6, b7, b8, b9, b10, b11, b12, b13, b14, b15, b16, b17, b18, b19] (mulGo [b0, b1, b2, b3, b4, b5, b6, b7, b8, b9, b10, b11, b12, b13, b14, b15, b16, b17, b18, b19] [a12, a13, a14, a15, a16, a17, a18, a19] 12 o)) := by
  obtain ⟨z, h⟩ := mul_f13 sa sb so a0 a1 a2 a3 a4 a5 a6 a7 a8 a9 a10 a11 a12 a13 a14 a15 a16 a17 a18 a19 b0 b1 b2 b3 b4 b5 b6 b7 b8 b9 b10 b11 b12 b13 b14 b15 b16 b17 b18 b19 (tlOf (outOf ((ev envS 100).code [] mulB (mulT 12 zs sa sb so [a0, a1, a2, a3, a4, a5, a6, a7, a8, a9, a10, a11, a12, a13, a14, a15, a16, a17, a18, a19] [b0, b1, b2, b3, b4, b5, b6, b7, b8, b9, b10, b11, b12, b13, b14, b15, b16, b17, b18, b19] o))).2) (carry (mrow a12 12 o [b0, b1, b2, b3, b4, b5, b6, b7, b8, b9, b10, b11, b12, b13, b14, b15, b16, b17, b18, b19])) (by rw [carry_len, mrow_len, ho])
  refine ⟨z, sat_loop mulL_eq ?_ h⟩
  obtain ⟨o0, o1, o2, o3, o4, o5, o6, o7, o8, o9, o10, o11, o12, o13, o14, o15, o16, o17, o18, o19, rfl⟩ := list20 ho
  exact sat_read envS hcokP 100 mulB_ok (mul_r12 zs sa sb so a0 a1 a2 a3 a4 a5 a6 a7 a8 a9 a10 a11 a12 a13 a14 a15 a16 a17 a18 a19 b0 b1 b2 b3 b4 b5 b6 b7 b8 b9 b10 b11 b12 b13 b14 b15 b16 b17 b18 b19 o0 o1 o2 o3 o4 o5 o6 o7 o8 o9 o10 o11 o12 o13 o14 o15 o16 o17 o18 o19)
theorem mul_f11 (zs : List Value) (o : List Int) (ho : o.length = 20) : ∃ zs', SatCode Try.prog [] mulL (mulT 11 zs sa sb so [a0, a1, a2, a3, a4, a5, a6, a7, a8, a9, a10, a11, a12, a13, a14, a15, a16, a17, a18, a19] [b0, b1, b2, b3, b4, b5, b6, b7, b8, b9, b10, b11, b12, b13, b14, b15, b16, b17, b18, b19] o) (.exit 0) (mulT 20 zs' sa sb so [a0, a1, a2, a3, a4, a5, a6, a7, a8, a9, a10, a11, a12, a13, a14, a15, a16, a17, a18, a19] [b0, b1, b2, b3, b4, b5, b6, b7, b8, b9, b10, b11, b12, b13, b14, b15, b16, b17, b18, b19] (mulGo [b0, b1, b2, b3, b4, b5, b6, b7, b8, b9, b10, b11, b12, b13, b14, b15, b16, b17, b18, b19] [a11, a12, a13, a14, a15, a16, a17, a18, a19] 11 o)) := by
  obtain ⟨z, h⟩ := mul_f12 sa sb so a0 a1 a2 a3 a4 a5 a6 a7 a8 a9 a10 a11 a12 a13 a14 a15 a16 a17 a18 a19 b0 b1 b2 b3 b4 b5 b6 b7 b8 b9 b10 b11 b12 b13 b14 b15 b16 b17 b18 b19 (tlOf (outOf ((ev envS 100).code [] mulB (mulT 11 zs sa sb so [a0, a1, a2, a3, a4, a5, a6, a7, a8, a9, a10, a11, a12, a13, a14, a15, a16, a17, a18, a19] [b0, b1, b2, b3, b4, b5, b6, b7, b8, b9, b10, b11, b12, b13, b14, b15, b16, b17, b18, b19] o))).2) (carry (mrow a11 11 o [b0, b1, b2, b3, b4, b5, b6, b7, b8, b9, b10, b11, b12, b13, b14, b15, b16, b17, b18, b19])) (by rw [carry_len, mrow_len, ho])
  refine ⟨z, sat_loop mulL_eq ?_ h⟩
  obtain ⟨o0, o1, o2, o3, o4, o5, o6, o7, o8, o9, o10, o11, o12, o13, o14, o15, o16, o17, o18, o19, rfl⟩ := list20 ho
  exact sat_read envS hcokP 100 mulB_ok (mul_r11 zs sa sb so a0 a1 a2 a3 a4 a5 a6 a7 a8 a9 a10 a11 a12 a13 a14 a15 a16 a17 a18 a19 b0 b1 b2 b3 b4 b5 b6 b7 b8 b9 b10 b11 b12 b13 b14 b15 b16 b17 b18 b19 o0 o1 o2 o3 o4 o5 o6 o7 o8 o9 o10 o11 o12 o13 o14 o15 o16 o17 o18 o19)
theorem mul_f10 (zs : List Value) (o : List Int) (ho : o.length = 20) : ∃ zs', SatCode Try.prog [] mulL (mulT 10 zs sa sb so [a0, a1, a2, a3, a4, a5, a6, a7, a8, a9, a10, a11, a12, a13, a14, a15, a16, a17, a18, a19] [b0, b1, b2, b3, b4, b5, b6, b7, b8, b9, b10, b11, b12, b13, b14, b15, b16, b17, b18, b19] o) (.exit 0) (mulT 20 zs' sa sb so [a0, a1, a2, a3, a4, a5, a6, a7, a8, a9, a10, a11, a12, a13, a14, a15, a16, a17, a18, a19] [b0, b1, b2, b3, b4, b5, b6, b7, b8, b9, b10, b11, b12, b13, b14, b15, b16, b17, b18, b19] (mulGo [b0, b1, b2, b3, b4, b5, b6, b7, b8, b9, b10, b11, b12, b13, b14, b15, b16, b17, b18, b19] [a10, a11, a12, a13, a14, a15, a16, a17, a18, a19] 10 o)) := by
  obtain ⟨z, h⟩ := mul_f11 sa sb so a0 a1 a2 a3 a4 a5 a6 a7 a8 a9 a10 a11 a12 a13 a14 a15 a16 a17 a18 a19 b0 b1 b2 b3 b4 b5 b6 b7 b8 b9 b10 b11 b12 b13 b14 b15 b16 b17 b18 b19 (tlOf (outOf ((ev envS 100).code [] mulB (mulT 10 zs sa sb so [a0, a1, a2, a3, a4, a5, a6, a7, a8, a9, a10, a11, a12, a13, a14, a15, a16, a17, a18, a19] [b0, b1, b2, b3, b4, b5, b6, b7, b8, b9, b10, b11, b12, b13, b14, b15, b16, b17, b18, b19] o))).2) (carry (mrow a10 10 o [b0, b1, b2, b3, b4, b5, b6, b7, b8, b9, b10, b11, b12, b13, b14, b15, b16, b17, b18, b19])) (by rw [carry_len, mrow_len, ho])
  refine ⟨z, sat_loop mulL_eq ?_ h⟩
  obtain ⟨o0, o1, o2, o3, o4, o5, o6, o7, o8, o9, o10, o11, o12, o13, o14, o15, o16, o17, o18, o19, rfl⟩ := list20 ho
  exact sat_read envS hcokP 100 mulB_ok (mul_r10 zs sa sb so a0 a1 a2 a3 a4 a5 a6 a7 a8 a9 a10 a11 a12 a13 a14 a15 a16 a17 a18 a19 b0 b1 b2 b3 b4 b5 b6 b7 b8 b9 b10 b11 b12 b13 b14 b15 b16 b17 b18 b19 o0 o1 o2 o3 o4 o5 o6 o7 o8 o9 o10 o11 o12 o13 o14 o15 o16 o17 o18 o19)
theorem mul_f9 (zs : List Value) (o : List Int) (ho : o.length = 20) : ∃ zs', SatCode Try.prog [] mulL (mulT 9 zs sa sb so [a0, a1, a2, a3, a4, a5, a6, a7, a8, a9, a10, a11, a12, a13, a14, a15, a16, a17, a18, a19] [b0, b1, b2, b3, b4, b5, b6, b7, b8, b9, b10, b11, b12, b13, b14, b15, b16, b17, b18, b19] o) (.exit 0) (mulT 20 zs' sa sb so [a0, a1, a2, a3, a4, a5, a6, a7, a8, a9, a10, a11, a12, a13, a14, a15, a16, a17, a18, a19] [b0, b1, b2, b3, b4, b5, b6, b7, b8, b9, b10, b11, b12, b13, b14, b15, b16, b17, b18, b19] (mulGo [b0, b1, b2, b3, b4, b5, b6, b7, b8, b9, b10, b11, b12, b13, b14, b15, b16, b17, b18, b19] [a9, a10, a11, a12, a13, a14, a15, a16, a17, a18, a19] 9 o)) := by
  obtain ⟨z, h⟩ := mul_f10 sa sb so a0 a1 a2 a3 a4 a5 a6 a7 a8 a9 a10 a11 a12 a13 a14 a15 a16 a17 a18 a19 b0 b1 b2 b3 b4 b5 b6 b7 b8 b9 b10 b11 b12 b13 b14 b15 b16 b17 b18 b19 (tlOf (outOf ((ev envS 100).code [] mulB (mulT 9 zs sa sb so [a0, a1, a2, a3, a4, a5, a6, a7, a8, a9, a10, a11, a12, a13, a14, a15, a16, a17, a18, a19] [b0, b1, b2, b3, b4, b5, b6, b7, b8, b9, b10, b11, b12, b13, b14, b15, b16, b17, b18, b19] o))).2) (carry (mrow a9 9 o [b0, b1, b2, b3, b4, b5, b6, b7, b8, b9, b10, b11, b12, b13, b14, b15, b16, b17, b18, b19])) (by rw [carry_len, mrow_len, ho])
  refine ⟨z, sat_loop mulL_eq ?_ h⟩
  obtain ⟨o0, o1, o2, o3, o4, o5, o6, o7, o8, o9, o10, o11, o12, o13, o14, o15, o16, o17, o18, o19, rfl⟩ := list20 ho
  exact sat_read envS hcokP 100 mulB_ok (mul_r9 zs sa sb so a0 a1 a2 a3 a4 a5 a6 a7 a8 a9 a10 a11 a12 a13 a14 a15 a16 a17 a18 a19 b0 b1 b2 b3 b4 b5 b6 b7 b8 b9 b10 b11 b12 b13 b14 b15 b16 b17 b18 b19 o0 o1 o2 o3 o4 o5 o6 o7 o8 o9 o10 o11 o12 o13 o14 o15 o16 o17 o18 o19)
theorem mul_f8 (zs : List Value) (o : List Int) (ho : o.length = 20) : ∃ zs', SatCode Try.prog [] mulL (mulT 8 zs sa sb so [a0, a1, a2, a3, a4, a5, a6, a7, a8, a9, a10, a11, a12, a13, a14, a15, a16, a17, a18, a19] [b0, b1, b2, b3, b4, b5, b6, b7, b8, b9, b10, b11, b12, b13, b14, b15, b16, b17, b18, b19] o) (.exit 0) (mulT 20 zs' sa sb so [a0, a1, a2, a3, a4, a5, a6, a7, a8, a9, a10, a11, a12, a13, a14, a15, a16, a17, a18, a19] [b0, b1, b2, b3, b4, b5, b6, b7, b8, b9, b10, b11, b12, b13, b14, b15, b16, b17, b18, b19] (mulGo [b0, b1, b2, b3, b4, b5, b6, b7, b8, b9, b10, b11, b12, b13, b14, b15, b16, b17, b18, b19] [a8, a9, a10, a11, a12, a13, a14, a15, a16, a17, a18, a19] 8 o)) := by
  obtain ⟨z, h⟩ := mul_f9 sa sb so a0 a1 a2 a3 a4 a5 a6 a7 a8 a9 a10 a11 a12 a13 a14 a15 a16 a17 a18 a19 b0 b1 b2 b3 b4 b5 b6 b7 b8 b9 b10 b11 b12 b13 b14 b15 b16 b17 b18 b19 (tlOf (outOf ((ev envS 100).code [] mulB (mulT 8 zs sa sb so [a0, a1, a2, a3, a4, a5, a6, a7, a8, a9, a10, a11, a12, a13, a14, a15, a16, a17, a18, a19] [b0, b1, b2, b3, b4, b5, b6, b7, b8, b9, b10, b11, b12, b13, b14, b15, b16, b17, b18, b19] o))).2) (carry (mrow a8 8 o [b0, b1, b2, b3, b4, b5, b6, b7, b8, b9, b10, b11, b12, b13, b14, b15, b16, b17, b18, b19])) (by rw [carry_len, mrow_len, ho])
  refine ⟨z, sat_loop mulL_eq ?_ h⟩
  obtain ⟨o0, o1, o2, o3, o4, o5, o6, o7, o8, o9, o10, o11, o12, o13, o14, o15, o16, o17, o18, o19, rfl⟩ := list20 ho
  exact sat_read envS hcokP 100 mulB_ok (mul_r8 zs sa sb so a0 a1 a2 a3 a4 a5 a6 a7 a8 a9 a10 a11 a12 a13 a14 a15 a16 a17 a18 a19 b0 b1 b2 b3 b4 b5 b6 b7 b8 b9 b10 b11 b12 b13 b14 b15 b16 b17 b18 b19 o0 o1 o2 o3 o4 o5 o6 o7 o8 o9 o10 o11 o12 o13 o14 o15 o16 o17 o18 o19)
theorem mul_f7 (zs : List Value) (o : List Int) (ho : o.length = 20) : ∃ zs', SatCode Try.prog [] mulL (mulT 7 zs sa sb so [a0, a1, a2, a3, a4, a5, a6, a7, a8, a9, a10, a11, a12, a13, a14, a15, a16, a17, a18, a19] [b0, b1, b2, b3, b4, b5, b6, b7, b8, b9, b10, b11, b12, b13, b14, b15, b16, b17, b18, b19] o) (.exit 0) (mulT 20 zs' sa sb so [a0, a1, a2, a3, a4, a5, a6, a7, a8, a9, a10, a11, a12, a13, a14, a15, a16, a17, a18, a19] [b0, b1, b2, b3, b4, b5, b6, b7, b8, b9, b10, b11, b12, b13, b14, b15, b16, b17, b18, b19] (mulGo [b0, b1, b2, b3, b4, b5, b6, b7, b8, b9, b10, b11, b12, b13, b14, b15, b16, b17, b18, b19] [a7, a8, a9, a10, a11, a12, a13, a14, a15, a16, a17, a18, a19] 7 o)) := by
  obtain ⟨z, h⟩ := mul_f8 sa sb so a0 a1 a2 a3 a4 a5 a6 a7 a8 a9 a10 a11 a12 a13 a14 a15 a16 a17 a18 a19 b0 b1 b2 b3 b4 b5 b6 b7 b8 b9 b10 b11 b12 b13 b14 b15 b16 b17 b18 b19 (tlOf (outOf ((ev envS 100).code [] mulB (mulT 7 zs sa sb so [a0, a1, a2, a3, a4, a5, a6, a7, a8, a9, a10, a11, a12, a13, a14, a15, a16, a17, a18, a19] [b0, b1, b2, b3, b4, b5, b6, b7, b8, b9, b10, b11, b12, b13, b14, b15, b16, b17, b18, b19] o))).2) (carry (mrow a7 7 o [b0, b1, b2, b3, b4, b5, b6, b7, b8, b9, b10, b11, b12, b13, b14, b15, b16, b17, b18, b19])) (by rw [carry_len, mrow_len, ho])
  refine ⟨z, sat_loop mulL_eq ?_ h⟩
  obtain ⟨o0, o1, o2, o3, o4, o5, o6, o7, o8, o9, o10, o11, o12, o13, o14, o15, o16, o17, o18, o19, rfl⟩ := list20 ho
  exact sat_read envS hcokP 100 mulB_ok (mul_r7 zs sa sb so a0 a1 a2 a3 a4 a5 a6 a7 a8 a9 a10 a11 a12 a13 a14 a15 a16 a17 a18 a19 b0 b1 b2 b3 b4 b5 b6 b7 b8 b9 b10 b11 b12 b13 b14 b15 b16 b17 b18 b19 o0 o1 o2 o3 o4 o5 o6 o7 o8 o9 o10 o11 o12 o13 o14 o15 o16 o17 o18 o19)
theorem mul_f6 (zs : List Value) (o : List Int) (ho : o.length = 20) : ∃ zs', SatCode Try.prog [] mulL (mulT 6 zs sa sb so [a0, a1, a2, a3, a4, a5, a6, a7, a8, a9, a10, a11, a12, a13, a14, a15, a16, a17, a18, a19] [b0, b1, b2, b3, b4, b5, b6, b7, b8, b9, b10, b11, b12, b13, b14, b15, b16, b17, b18, b19] o) (.exit 0) (mulT 20 zs' sa sb so [a0, a1, a2, a3, a4, a5, a6, a7, a8, a9, a10, a11, a12, a13, a14, a15, a16, a17, a18, a19] [b0, b1, b2, b3, b4, b5, b6, b7, b8, b9, b10, b11, b12, b13, b14, b15, b16, b17, b18, b19] (mulGo [b0, b1, b2, b3, b4, b5, b6, b7, b8, b9, b10, b11, b12, b13, b14, b15, b16, b17, b18, b19] [a6, a7, a8, a9, a10, a11, a12, a13, a14, a15, a16, a17, a18, a19] 6 o)) := by
  obtain ⟨z, h⟩ := mul_f7 sa sb so a0 a1 a2 a3 a4 a5 a6 a7 a8 a9 a10 a11 a12 a13 a14 a15 a16 a17 a18 a19 b0 b1 b2 b3 b4 b5 b6 b7 b8 b9 b10 b11 b12 b13 b14 b15 b16 b17 b18 b19 (tlOf (outOf ((ev envS 100).code [] mulB (mulT 6 zs sa sb so [a0, a1, a2, a3, a4, a5, a6, a7, a8, a9, a10, a11, a12, a13, a14, a15, a16, a17, a18, a19] [b0, b1, b2, b3, b4, b5, b6, b7, b8, b9, b10, b11, b12, b13, b14, b15, b16, b17, b18, b19] o))).2) (carry (mrow a6 6 o [b0, b1, b2, b3, b4, b5, b6, b7, b8, b9, b10, b11, b12, b13, b14, b15, b16, b17, b18, b19])) (by rw [carry_len, mrow_len, ho])
  refine ⟨z, sat_loop mulL_eq ?_ h⟩
  obtain ⟨o0, o1, o2, o3, o4, o5, o6, o7, o8, o9, o10, o11, o12, o13, o14, o15, o16, o17, o18, o19, rfl⟩ := list20 ho
  exact sat_read envS hcokP 100 mulB_ok (mul_r6 zs sa sb so a0 a1 a2 a3 a4 a5 a6 a7 a8 a9 a10 a11 a12 a13 a14 a15 a16 a17 a18 a19 b0 b1 b2 b3 b4 b5 b6 b7 b8 b9 b10 b11 b12 b13 b14 b15 b16 b17 b18 b19 o0 o1 o2 o3 o4 o5 o6 o7 o8 o9 o10 o11 o12 o13 o14 o15 o16 o17 o18 o19)
theorem mul_f5 (zs : List Value) (o : List Int) (ho : o.length = 20) : ∃ zs', SatCode Try.prog [] mulL (mulT 5 zs sa sb so [a0, a1, a2, a3, a4, a5, a6, a7, a8, a9, a10, a11, a12, a13, a14, a15, a16, a17, a18, a19] [b0, b1, b2, b3, b4, b5, b6, b7, b8, b9, b10, b11, b12, b13, b14, b15, b16, b17, b18, b19] o) (.exit 0) (mulT 20 zs' sa sb so [a0, a1, a2, a3, a4, a5, a6, a7, a8, a9, a10, a11, a12, a13, a14, a15, a16, a17, a18, a19] [b0, b1, b2, b3, b4, b5, b6, b7, b8, b9, b10, b11, b12, b13, b14, b15, b16, b17, b18, b19] (mulGo [b0, b1, b2, b3, b4, b5, b6, b7, b8, b9, b10, b11, b12, b13, b14, b15, b16, b17, b18, b19] [a5, a6, a7, a8, a9, a10, a11, a12, a13, a14, a15, a16, a17, a18, a19] 5 o)) := by
  obtain ⟨z, h⟩ := mul_f6 sa sb so a0 a1 a2 a3 a4 a5 a6 a7 a8 a9 a10 a11 a12 a13 a14 a15 a16 a17 a18 a19 b0 b1 b2 b3 b4 b5 b6 b7 b8 b9 b10 b11 b12 b13 b14 b15 b16 b17 b18 b19 (tlOf (outOf ((ev envS 100).code [] mulB (mulT 5 zs sa sb so [a0, a1, a2, a3, a4, a5, a6, a7, a8, a9, a10, a11, a12, a13, a14, a15, a16, a17, a18, a19] [b0, b1, b2, b3, b4, b5, b6, b7, b8, b9, b10, b11, b12, b13, b14, b15, b16, b17, b18, b19] o))).2) (carry (mrow a5 5 o [b0, b1, b2, b3, b4, b5, b6, b7, b8, b9, b10, b11, b12, b13, b14, b15, b16, b17, b18, b19])) (by rw [carry_len, mrow_len, ho])
  refine ⟨z, sat_loop mulL_eq ?_ h⟩
  obtain ⟨o0, o1, o2, o3, o4, o5, o6, o7, o8, o9, o10, o11, o12, o13, o14, o15, o16, o17, o18, o19, rfl⟩ := list20 ho
  exact sat_read envS hcokP 100 mulB_ok (mul_r5 zs sa sb so a0 a1 a2 a3 a4 a5 a6 a7 a8 a9 a10 a11 a12 a13 a14 a15 a16 a17 a18 a19 b0 b1 b2 b3 b4 b5 b6 b7 b8 b9 b10 b11 b12 b13 b14 b15 b16 b17 b18 b19 o0 o1 o2 o3 o4 o5 o6 o7 o8 o9 o10 o11 o12 o13 o14 o15 o16 o17 o18 o19)
theorem mul_f4 (zs : List Value) (o : List Int) (ho : o.length = 20) : ∃ zs', SatCode Try.prog [] mulL (mulT 4 zs sa sb so [a0, a1, a2, a3, a4, a5, a6, a7, a8, a9, a10, a11, a12, a13, a14, a15, a16, a17, a18, a19] [b0, b1, b2, b3, b4, b5, b6, b7, b8, b9, b10, b11, b12, b13, b14, b15, b16, b17, b18, b19] o) (.exit 0) (mulT 20 zs' sa sb so [a0, a1, a2, a3, a4, a5, a6, a7, a8, a9, a10, a11, a12, a13, a14, a15, a16, a17, a18, a19] [b0, b1, b2, b3, b4, b5, b6, b7, b8, b9, b10, b11, b12, b13, b14, b15, b16, b17, b18, b19] (mulGo [b0, b1, b2, b3, b4, b5, b6, b7, b8, b9, b10, b11, b12, b13, b14, b15, b16, b17, b18, b19] [a4, a5, a6, a7, a8, a9, a10, a11, a12, a13, a14, a15, a16, a17, a18, a19] 4 o)) := by
  obtain ⟨z, h⟩ := mul_f5 sa sb so a0 a1 a2 a3 a4 a5 a6 a7 a8 a9 a10 a11 a12 a13 a14 a15 a16 a17 a18 a19 b0 b1 b2 b3 b4 b5 b6 b7 b8 b9 b10 b11 b12 b13 b14 b15 b16 b17 b18 b19 (tlOf (outOf ((ev envS 100).code [] mulB (mulT 4 zs sa sb so [a0, a1, a2, a3, a4, a5, a6, a7, a8, a9, a10, a11, a12, a13, a14, a15, a16, a17, a18, a19] [b0, b1, b2, b3, b4, b5, b6, b7, b8, b9, b10, b11, b12, b13, b14, b15, b16, b17, b18, b19] o))).2) (carry (mrow a4 4 o [b0, b1, b2, b3, b4, b5, b6, b7, b8, b9, b10, b11, b12, b13, b14, b15, b16, b17, b18, b19])) (by rw [carry_len, mrow_len, ho])
  refine ⟨z, sat_loop mulL_eq ?_ h⟩
  obtain ⟨o0, o1, o2, o3, o4, o5, o6, o7, o8, o9, o10, o11, o12, o13, o14, o15, o16, o17, o18, o19, rfl⟩ := list20 ho
  exact sat_read envS hcokP 100 mulB_ok (mul_r4 zs sa sb so a0 a1 a2 a3 a4 a5 a6 a7 a8 a9 a10 a11 a12 a13 a14 a15 a16 a17 a18 a19 b0 b1 b2 b3 b4 b5 b6 b7 b8 b9 b10 b11 b12 b13 b14 b15 b16 b17 b18 b19 o0 o1 o2 o3 o4 o5 o6 o7 o8 o9 o10 o11 o12 o13 o14 o15 o16 o17 o18 o19)
theorem mul_f3 (zs : List Value) (o : List Int) (ho : o.length = 20) : ∃ zs', SatCode Try.prog [] mulL (mulT 3 zs sa sb so [a0, a1, a2, a3, a4, a5, a6, a7, a8, a9, a10, a11, a12, a13, a14, a15, a16, a17, a18, a19] [b0, b1, b2, b3, b4, b5, b6, b7, b8, b9, b10, b11, b12, b13, b14, b15, b16, b17, b18, b19] o) (.exit 0) (mulT 20 zs' sa sb so [a0, a1, a2, a3, a4, a5, a6, a7, a8, a9, a10, a11, a12, a13, a14, a15, a16, a17, a18, a19] [b0, b1, b2, b3, b4, b5, b6, b7, b8, b9, b10, b11, b12, b13, b14, b15, b16, b17, b18, b19] (mulGo [b0, b1, b2, b3, b4, b5, b6, b7, b8, b9, b10, b11, b12, b13, b14, b15, b16, b17, b18, b19] [a3, a4, a5, a6, a7, a8, a9, a10, a11, a12, a13, a14, a15, a16, a17, a18, a19] 3 o)) := by
  obtain ⟨z, h⟩ := mul_f4 sa sb so a0 a1 a2 a3 a4 a5 a6 a7 a8 a9 a10 a11 a12 a13 a14 a15 a16 a17 a18 a19 b0 b1 b2 b3 b4 b5 b6 b7 b8 b9 b10 b11 b12 b13 b14 b15 b16 b17 b18 b19 (tlOf (outOf ((ev envS 100).code [] mulB (mulT 3 zs sa sb so [a0, a1, a2, a3, a4, a5, a6, a7, a8, a9, a10, a11, a12, a13, a14, a15, a16, a17, a18, a19] [b0, b1, b2, b3, b4, b5, b6, b7, b8, b9, b10, b11, b12, b13, b14, b15, b16, b17, b18, b19] o))).2) (carry (mrow a3 3 o [b0, b1, b2, b3, b4, b5, b6, b7, b8, b9, b10, b11, b12, b13, b14, b15, b16, b17, b18, b19])) (by rw [carry_len, mrow_len, ho])
  refine ⟨z, sat_loop mulL_eq ?_ h⟩
  obtain ⟨o0, o1, o2, o3, o4, o5, o6, o7, o8, o9, o10, o11, o12, o13, o14, o15, o16, o17, o18, o19, rfl⟩ := list20 ho
  exact sat_read envS hcokP 100 mulB_ok (mul_r3 zs sa sb so a0 a1 a2 a3 a4 a5 a6 a7 a8 a9 a10 a11 a12 a13 a14 a15 a16 a17 a18 a19 b0 b1 b2 b3 b4 b5 b6 b7 b8 b9 b10 b11 b12 b13 b14 b15 b16 b17 b18 b19 o0 o1 o2 o3 o4 o5 o6 o7 o8 o9 o10 o11 o12 o13 o14 o15 o16 o17 o18 o19)
theorem mul_f2 (zs : List Value) (o : List Int) (ho : o.length = 20) : ∃ zs', SatCode Try.prog [] mulL (mulT 2 zs sa sb so [a0, a1, a2, a3, a4, a5, a6, a7, a8, a9, a10, a11, a12, a13, a14, a15, a16, a17, a18, a19] [b0, b1, b2, b3, b4, b5, b6, b7, b8, b9, b10, b11, b12, b13, b14, b15, b16, b17, b18, b19] o) (.exit 0) (mulT 20 zs' sa sb so [a0, a1, a2, a3, a4, a5, a6, a7, a8, a9, a10, a11, a12, a13, a14, a15, a16, a17, a18, a19] [b0, b1, b2, b3, b4, b5, b6, b7, b8, b9, b10, b11, b12, b13, b14, b15, b16, b17, b18, b19] (mulGo [b0, b1, b2, b3, b4, b5, b6, b7, b8, b9, b10, b11, b12, b13, b14, b15, b16, b17, b18, b19] [a2, a3, a4, a5, a6, a7, a8, a9, a10, a11, a12, a13, a14, a15, a16, a17, a18, a19] 2 o)) := by
  obtain ⟨z, h⟩ := mul_f3 sa sb so a0 a1 a2 a3 a4 a5 a6 a7 a8 a9 a10 a11 a12 a13 a14 a15 a16 a17 a18 a19 b0 b1 b2 b3 b4 b5 b6 b7 b8 b9 b10 b11 b12 b13 b14 b15 b16 b17 b18 b19 (tlOf (outOf ((ev envS 100).code [] mulB (mulT 2 zs sa sb so [a0, a1, a2, a3, a4, a5, a6, a7, a8, a9, a10, a11, a12, a13, a14, a15, a16, a17, a18, a19] [b0, b1, b2, b3, b4, b5, b6, b7, b8, b9, b10, b11, b12, b13, b14, b15, b16, b17, b18, b19] o))).2) (carry (mrow a2 2 o [b0, b1, b2, b3, b4, b5, b6, b7, b8, b9, b10, b11, b12, b13, b14, b15, b16, b17, b18, b19])) (by rw [carry_len, mrow_len, ho])
  refine ⟨z, sat_loop mulL_eq ?_ h⟩
  obtain ⟨o0, o1, o2, o3, o4, o5, o6, o7, o8, o9, o10, o11, o12, o13, o14, o15, o16, o17, o18, o19, rfl⟩ := list20 ho
  exact sat_read envS hcokP 100 mulB_ok (mul_r2 zs sa sb so a0 a1 a2 a3 a4 a5 a6 a7 a8 a9 a10 a11 a12 a13 a14 a15 a16 a17 a18 a19 b0 b1 b2 b3 b4 b5 b6 b7 b8 b9 b10 b11 b12 b13 b14 b15 b16 b17 b18 b19 o0 o1 o2 o3 o4 o5 o6 o7 o8 o9 o10 o11 o12 o13 o14 o15 o16 o17 o18 o19)
theorem mul_f1 (zs : List Value) (o : List Int) (ho : o.length = 20) : ∃ zs', SatCode Try.prog [] mulL (mulT 1 zs sa sb so [a0, a1, a2, a3, a4, a5, a6, a7, a8, a9, a10, a11, a12, a13, a14, a15, a16, a17, a18, a19] [b0, b1, b2, b3, b4, b5, b6, b7, b8, b9, b10, b11, b12, b13, b14, b15, b16, b17, b18, b19] o) (.exit 0) (mulT 20 zs' sa sb so [a0, a1, a2, a3, a4, a5, a6, a7, a8, a9, a10, a11, a12, a13, a14, a15, a16, a17, a18, a19] [b0, b1, b2, b3, b4, b5, b6, b7, b8, b9, b10, b11, b12, b13, b14, b15, b16, b17, b18, b19] (mulGo [b0, b1, b2, b3, b4, b5, b6, b7, b8, b9, b10, b11, b12, b13, b14, b15, b16, b17, b18, b19] [a1, a2, a3, a4, a5, a6, a7, a8, a9, a10, a11, a12, a13, a14, a15, a16, a17, a18, a19] 1 o)) := by
  obtain ⟨z, h⟩ := mul_f2 sa sb so a0 a1 a2 a3 a4 a5 a6 a7 a8 a9 a10 a11 a12 a13 a14 a15 a16 a17 a18 a19 b0 b1 b2 b3 b4 b5 b6 b7 b8 b9 b10 b11 b12 b13 b14 b15 b16 b17 b18 b19 (tlOf (outOf ((ev envS 100).code [] mulB (mulT 1 zs sa sb so [a0, a1, a2, a3, a4, a5, a6, a7, a8, a9, a10, a11, a12, a13, a14, a15, a16, a17, a18, a19] [b0, b1, b2, b3, b4, b5, b6, b7, b8, b9, b10, b11, b12, b13, b14, b15, b16, b17, b18, b19] o))).2) (carry (mrow a1 1 o [b0, b1, b2, b3, b4, b5, b6, b7, b8, b9, b10, b11, b12, b13, b14, b15, b16, b17, b18, b19])) (by rw [carry_len, mrow_len, ho])
  refine ⟨z, sat_loop mulL_eq ?_ h⟩
  obtain ⟨o0, o1, o2, o3, o4, o5, o6, o7, o8, o9, o10, o11, o12, o13, o14, o15, o16, o17, o18, o19, rfl⟩ := list20 ho
  exact sat_read envS hcokP 100 mulB_ok (mul_r1 zs sa sb so a0 a1 a2 a3 a4 a5 a6 a7 a8 a9 a10 a11 a12 a13 a14 a15 a16 a17 a18 a19 b0 b1 b2 b3 b4 b5 b6 b7 b8 b9 b10 b11 b12 b13 b14 b15 b16 b17 b18 b19 o0 o1 o2 o3 o4 o5 o6 o7 o8 o9 o10 o11 o12 o13 o14 o15 o16 o17 o18 o19)
theorem mul_f0 (zs : List Value) (o : List Int) (ho : o.length = 20) : ∃ zs', SatCode Try.prog [] mulL (mulT 0 zs sa sb so [a0, a1, a2, a3, a4, a5, a6, a7, a8, a9, a10, a11, a12, a13, a14, a15, a16, a17, a18, a19] [b0, b1, b2, b3, b4, b5, b6, b7, b8, b9, b10, b11, b12, b13, b14, b15, b16, b17, b18, b19] o) (.exit 0) (mulT 20 zs' sa sb so [a0, a1, a2, a3, a4, a5, a6, a7, a8, a9, a10, a11, a12, a13, a14, a15, a16, a17, a18, a19] [b0, b1, b2, b3, b4, b5, b6, b7, b8, b9, b10, b11, b12, b13, b14, b15, b16, b17, b18, b19] (mulGo [b0, b1, b2, b3, b4, b5, b6, b7, b8, b9, b10, b11, b12, b13, b14, b15, b16, b17, b18, b19] [a0, a1, a2, a3, a4, a5, a6, a7, a8, a9, a10, a11, a12, a13, a14, a15, a16, a17, a18, a19] 0 o)) := by
  obtain ⟨z, h⟩ := mul_f1 sa sb so a0 a1 a2 a3 a4 a5 a6 a7 a8 a9 a10 a11 a12 a13 a14 a15 a16 a17 a18 a19 b0 b1 b2 b3 b4 b5 b6 b7 b8 b9 b10 b11 b12 b13 b14 b15 b16 b17 b18 b19 (tlOf (outOf ((ev envS 100).code [] mulB (mulT 0 zs sa sb so [a0, a1, a2, a3, a4, a5, a6, a7, a8, a9, a10, a11, a12, a13, a14, a15, a16, a17, a18, a19] [b0, b1, b2, b3, b4, b5, b6, b7, b8, b9, b10, b11, b12, b13, b14, b15, b16, b17, b18, b19] o))).2) (carry (mrow a0 0 o [b0, b1, b2, b3, b4, b5, b6, b7, b8, b9, b10, b11, b12, b13, b14, b15, b16, b17, b18, b19])) (by rw [carry_len, mrow_len, ho])
  refine ⟨z, sat_loop mulL_eq ?_ h⟩
  obtain ⟨o0, o1, o2, o3, o4, o5, o6, o7, o8, o9, o10, o11, o12, o13, o14, o15, o16, o17, o18, o19, rfl⟩ := list20 ho
  exact sat_read envS hcokP 100 mulB_ok (mul_r0 zs sa sb so a0 a1 a2 a3 a4 a5 a6 a7 a8 a9 a10 a11 a12 a13 a14 a15 a16 a17 a18 a19 b0 b1 b2 b3 b4 b5 b6 b7 b8 b9 b10 b11 b12 b13 b14 b15 b16 b17 b18 b19 o0 o1 o2 o3 o4 o5 o6 o7 o8 o9 o10 o11 o12 o13 o14 o15 o16 o17 o18 o19)
end
noncomputable def mulA (sa sb : Bool) (a b : List Int) : Array Value := #[.agg ⟨.bool sa :: mapU a⟩, .agg ⟨.bool sb :: mapU b⟩]
noncomputable def mulS0 (sa sb : Bool) (a b : List Int) : St := ⟨Go.Den.start (mulA sa sb a b).toList Try.f27.ntmps, [], B0⟩
noncomputable def mulS1 (sa sb : Bool) (a b : List Int) : St := (outOf ((ev envS 100).code [] (cL mulC) (mulS0 sa sb a b))).2
noncomputable def mulS2 (sa sb : Bool) (a b : List Int) : St := (outOf ((ev envS 100).code [] (cL (cR mulC)) (mulS1 sa sb a b))).2
noncomputable def mulS3 (sa sb : Bool) (a b : List Int) : St := (outOf ((ev envS 100).code [] (cL (cL (cR (cR mulC)))) (mulS2 sa sb a b))).2
theorem mul_p1 (sa sb : Bool) (a0 a1 a2 a3 a4 a5 a6 a7 a8 a9 a10 a11 a12 a13 a14 a15 a16 a17 a18 a19 b0 b1 b2 b3 b4 b5 b6 b7 b8 b9 b10 b11 b12 b13 b14 b15 b16 b17 b18 b19 : Int) : ((ev envS 100).code [] (cL mulC) (mulS0 sa sb [a0, a1, a2, a3, a4, a5, a6, a7, a8, a9, a10, a11, a12, a13, a14, a15, a16, a17, a18, a19] [b0, b1, b2, b3, b4, b5, b6, b7, b8, b9, b10, b11, b12, b13, b14, b15, b16, b17, b18, b19])).run = some (.normal, mulS1 sa sb [a0, a1, a2, a3, a4, a5, a6, a7, a8, a9, a10, a11, a12, a13, a14, a15, a16, a17, a18, a19] [b0, b1, b2, b3, b4, b5, b6, b7, b8, b9, b10, b11, b12, b13, b14, b15, b16, b17, b18, b19]) := by
  cases sa <;> cases sb <;> kernel_rfl
theorem mul_p2 (sa sb : Bool) (a0 a1 a2 a3 a4 a5 a6 a7 a8 a9 a10 a11 a12 a13 a14 a15 a16 a17 a18 a19 b0 b1 b2 b3 b4 b5 b6 b7 b8 b9 b10 b11 b12 b13 b14 b15 b16 b17 b18 b19 : Int) : ((ev envS 100).code [] (cL (cR mulC)) (mulS1 sa sb [a0, a1, a2, a3, a4, a5, a6, a7, a8, a9, a10, a11, a12, a13, a14, a15, a16, a17, a18, a19] [b0, b1, b2, b3, b4, b5, b6, b7, b8, b9, b10, b11, b12, b13, b14, b15, b16, b17, b18, b19])).run = some (.normal, mulS2 sa sb [a0, a1, a2, a3, a4, a5, a6, a7, a8, a9, a10, a11, a12, a13, a14, a15, a16, a17, a18, a19] [b0, b1, b2, b3, b4, b5, b6, b7, b8, b9, b10, b11, b12, b13, b14, b15, b16, b17, b18, b19]) := by
  cases sa <;> cases sb <;> kernel_rfl
theorem mul_p3 (sa sb : Bool) (a0 a1 a2 a3 a4 a5 a6 a7 a8 a9 a10 a11 a12 a13 a14 a15 a16 a17 a18 a19 b0 b1 b2 b3 b4 b5 b6 b7 b8 b9 b10 b11 b12 b13 b14 b15 b16 b17 b18 b19 : Int) : ((ev envS 100).code [] (cL (cL (cR (cR mulC)))) (mulS2 sa sb [a0, a1, a2, a3, a4, a5, a6, a7, a8, a9, a10, a11, a12, a13, a14, a15, a16, a17, a18, a19] [b0, b1, b2, b3, b4, b5, b6, b7, b8, b9, b10, b11, b12, b13, b14, b15, b16, b17, b18, b19])).run = some (.normal, mulS3 sa sb [a0, a1, a2, a3, a4, a5, a6, a7, a8, a9, a10, a11, a12, a13, a14, a15, a16, a17, a18, a19] [b0, b1, b2, b3, b4, b5, b6, b7, b8, b9, b10, b11, b12, b13, b14, b15, b16, b17, b18, b19]) := by
  cases sa <;> cases sb <;> kernel_rfl
theorem mul_a3 (sa sb : Bool) (a0 a1 a2 a3 a4 a5 a6 a7 a8 a9 a10 a11 a12 a13 a14 a15 a16 a17 a18 a19 b0 b1 b2 b3 b4 b5 b6 b7 b8 b9 b10 b11 b12 b13 b14 b15 b16 b17 b18 b19 : Int) : (mulT 0 (tlOf (mulS3 sa sb [a0, a1, a2, a3, a4, a5, a6, a7, a8, a9, a10, a11, a12, a13, a14, a15, a16, a17, a18, a19] [b0, b1, b2, b3, b4, b5, b6, b7, b8, b9, b10, b11, b12, b13, b14, b15, b16, b17, b18, b19])) sa sb (sa != sb) [a0, a1, a2, a3, a4, a5, a6, a7, a8, a9, a10, a11, a12, a13, a14, a15, a16, a17, a18, a19] [b0, b1, b2, b3, b4, b5, b6, b7, b8, b9, b10, b11, b12, b13, b14, b15, b16, b17, b18, b19] [0, 0, 0, 0, 0, 0, 0, 0, 0, 0, 0, 0, 0, 0, 0, 0, 0, 0, 0, 0]).tmps.arr = (mulS3 sa sb [a0, a1, a2, a3, a4, a5, a6, a7, a8, a9, a10, a11, a12, a13, a14, a15, a16, a17, a18, a19] [b0, b1, b2, b3, b4, b5, b6, b7, b8, b9, b10, b11, b12, b13, b14, b15, b16, b17, b18, b19]).tmps.arr := by
  cases sa <;> cases sb <;> kernel_rfl
theorem mul_h3 (sa sb : Bool) (a0 a1 a2 a3 a4 a5 a6 a7 a8 a9 a10 a11 a12 a13 a14 a15 a16 a17 a18 a19 b0 b1 b2 b3 b4 b5 b6 b7 b8 b9 b10 b11 b12 b13 b14 b15 b16 b17 b18 b19 : Int) : (mulT 0 (tlOf (mulS3 sa sb [a0, a1, a2, a3, a4, a5, a6, a7, a8, a9, a10, a11, a12, a13, a14, a15, a16, a17, a18, a19] [b0, b1, b2, b3, b4, b5, b6, b7, b8, b9, b10, b11, b12, b13, b14, b15, b16, b17, b18, b19])) sa sb (sa != sb) [a0, a1, a2, a3, a4, a5, a6, a7, a8, a9, a10, a11, a12, a13, a14, a15, a16, a17, a18, a19] [b0, b1, b2, b3, b4, b5, b6, b7, b8, b9, b10, b11, b12, b13, b14, b15, b16, b17, b18, b19] [0, 0, 0, 0, 0, 0, 0, 0, 0, 0, 0, 0, 0, 0, 0, 0, 0, 0, 0, 0]).h = (mulS3 sa sb [a0, a1, a2, a3, a4, a5, a6, a7, a8, a9, a10, a11, a12, a13, a14, a15, a16, a17, a18, a19] [b0, b1, b2, b3, b4, b5, b6, b7, b8, b9, b10, b11, b12, b13, b14, b15, b16, b17, b18, b19]).h := by
  cases sa <;> cases sb <;> kernel_rfl
theorem mul_n3 (sa sb : Bool) (a0 a1 a2 a3 a4 a5 a6 a7 a8 a9 a10 a11 a12 a13 a14 a15 a16 a17 a18 a19 b0 b1 b2 b3 b4 b5 b6 b7 b8 b9 b10 b11 b12 b13 b14 b15 b16 b17 b18 b19 : Int) : (mulT 0 (tlOf (mulS3 sa sb [a0, a1, a2, a3, a4, a5, a6, a7, a8, a9, a10, a11, a12, a13, a14, a15, a16, a17, a18, a19] [b0, b1, b2, b3, b4, b5, b6, b7, b8, b9, b10, b11, b12, b13, b14, b15, b16, b17, b18, b19])) sa sb (sa != sb) [a0, a1, a2, a3, a4, a5, a6, a7, a8, a9, a10, a11, a12, a13, a14, a15, a16, a17, a18, a19] [b0, b1, b2, b3, b4, b5, b6, b7, b8, b9, b10, b11, b12, b13, b14, b15, b16, b17, b18, b19] [0, 0, 0, 0, 0, 0, 0, 0, 0, 0, 0, 0, 0, 0, 0, 0, 0, 0, 0, 0]).nx = (mulS3 sa sb [a0, a1, a2, a3, a4, a5, a6, a7, a8, a9, a10, a11, a12, a13, a14, a15, a16, a17, a18, a19] [b0, b1, b2, b3, b4, b5, b6, b7, b8, b9, b10, b11, b12, b13, b14, b15, b16, b17, b18, b19]).nx := by
  cases sa <;> cases sb <;> kernel_rfl
noncomputable def mulS5 (zs : List Value) (sa sb so : Bool) (a b o : List Int) : St := (outOf ((ev envS 100).code [] (cR (cR (cR mulC))) (mulT 20 zs sa sb so a b o))).2
theorem mul_p5 (zs : List Value) (sa sb so : Bool) (a b : List Int) (o0 o1 o2 o3 o4 o5 o6 o7 o8 o9 o10 o11 o12 o13 o14 o15 o16 o17 o18 o19 : Int) : ((ev envS 100).code [] (cR (cR (cR mulC))) (mulT 20 zs sa sb so a b [o0, o1, o2, o3, o4, o5, o6, o7, o8, o9, o10, o11, o12, o13, o14, o15, o16, o17, o18, o19])).run = some (.ret, mulS5 zs sa sb so a b [o0, o1, o2, o3, o4, o5, o6, o7, o8, o9, o10, o11, o12, o13, o14, o15, o16, o17, o18, o19]) := by
  kernel_rfl
theorem mul_res (zs : List Value) (sa sb so : Bool) (a b : List Int) (o0 o1 o2 o3 o4 o5 o6 o7 o8 o9 o10 o11 o12 o13 o14 o15 o16 o17 o18 o19 : Int) : resultsA Try.prog [] Try.f27 (mulS5 zs sa sb so a b [o0, o1, o2, o3, o4, o5, o6, o7, o8, o9, o10, o11, o12, o13, o14, o15, o16, o17, o18, o19]).tmps (mulS5 zs sa sb so a b [o0, o1, o2, o3, o4, o5, o6, o7, o8, o9, o10, o11, o12, o13, o14, o15, o16, o17, o18, o19]).h = some (.agg ⟨.bool so :: mapU [o0, o1, o2, o3, o4, o5, o6, o7, o8, o9, o10, o11, o12, o13, o14, o15, o16, o17, o18, o19]⟩) := by
  kernel_rfl
theorem sat_of {c : Code} {st s : St} {x : Exit} (hok : cok c = true) (h : ((ev envS 100).code [] c st).run = some (x, s)) : SatCode Try.prog [] c st x s := sat_read envS hcokP 100 (r := (x, s)) hok h
theorem mul_k1 : cok (cL mulC) = true := by kernel_rfl
theorem mul_k2 : cok (cL (cR mulC)) = true := by kernel_rfl
theorem mul_k3 : cok (cL (cL (cR (cR mulC)))) = true := by kernel_rfl
theorem mul_k5 : cok (cR (cR (cR mulC))) = true := by kernel_rfl
theorem mul_q1 : mulC = .seq (cL mulC) (cR mulC) := by kernel_rfl
theorem mul_q2 : cR mulC = .seq (cL (cR mulC)) (cR (cR mulC)) := by kernel_rfl
theorem mul_q3 : cR (cR mulC) = .seq (cL (cR (cR mulC))) (cR (cR (cR mulC))) := by kernel_rfl
theorem mul_q4 : cL (cR (cR mulC)) = .seq (cL (cL (cR (cR mulC)))) (cR (cL (cR (cR mulC)))) := by kernel_rfl
theorem mul_q5 : cR (cL (cR (cR mulC))) = .block 0 mulL := by kernel_rfl
theorem mul_z1 (sa sb : Bool) (a0 a1 a2 a3 a4 a5 a6 a7 a8 a9 a10 a11 a12 a13 a14 a15 a16 a17 a18 a19 b0 b1 b2 b3 b4 b5 b6 b7 b8 b9 b10 b11 b12 b13 b14 b15 b16 b17 b18 b19 : Int) : SatCode Try.prog [] (cL mulC) (mulS0 sa sb [a0, a1, a2, a3, a4, a5, a6, a7, a8, a9, a10, a11, a12, a13, a14, a15, a16, a17, a18, a19] [b0, b1, b2, b3, b4, b5, b6, b7, b8, b9, b10, b11, b12, b13, b14, b15, b16, b17, b18, b19]) .normal (mulS1 sa sb [a0, a1, a2, a3, a4, a5, a6, a7, a8, a9, a10, a11, a12, a13, a14, a15, a16, a17, a18, a19] [b0, b1, b2, b3, b4, b5, b6, b7, b8, b9, b10, b11, b12, b13, b14, b15, b16, b17, b18, b19]) := sat_of mul_k1 (mul_p1 sa sb a0 a1 a2 a3 a4 a5 a6 a7 a8 a9 a10 a11 a12 a13 a14 a15 a16 a17 a18 a19 b0 b1 b2 b3 b4 b5 b6 b7 b8 b9 b10 b11 b12 b13 b14 b15 b16 b17 b18 b19)
theorem mul_z2 (sa sb : Bool) (a0 a1 a2 a3 a4 a5 a6 a7 a8 a9 a10 a11 a12 a13 a14 a15 a16 a17 a18 a19 b0 b1 b2 b3 b4 b5 b6 b7 b8 b9 b10 b11 b12 b13 b14 b15 b16 b17 b18 b19 : Int) : SatCode Try.prog [] (cL (cR mulC)) (mulS1 sa sb [a0, a1, a2, a3, a4, a5, a6, a7, a8, a9, a10, a11, a12, a13, a14, a15, a16, a17, a18, a19] [b0, b1, b2, b3, b4, b5, b6, b7, b8, b9, b10, b11, b12, b13, b14, b15, b16, b17, b18, b19]) .normal (mulS2 sa sb [a0, a1, a2, a3, a4, a5, a6, a7, a8, a9, a10, a11, a12, a13, a14, a15, a16, a17, a18, a19] [b0, b1, b2, b3, b4, b5, b6, b7, b8, b9, b10, b11, b12, b13, b14, b15, b16, b17, b18, b19]) := sat_of mul_k2 (mul_p2 sa sb a0 a1 a2 a3 a4 a5 a6 a7 a8 a9 a10 a11 a12 a13 a14 a15 a16 a17 a18 a19 b0 b1 b2 b3 b4 b5 b6 b7 b8 b9 b10 b11 b12 b13 b14 b15 b16 b17 b18 b19)
theorem mul_z3 (sa sb : Bool) (a0 a1 a2 a3 a4 a5 a6 a7 a8 a9 a10 a11 a12 a13 a14 a15 a16 a17 a18 a19 b0 b1 b2 b3 b4 b5 b6 b7 b8 b9 b10 b11 b12 b13 b14 b15 b16 b17 b18 b19 : Int) : SatCode Try.prog [] (cL (cL (cR (cR mulC)))) (mulS2 sa sb [a0, a1, a2, a3, a4, a5, a6, a7, a8, a9, a10, a11, a12, a13, a14, a15, a16, a17, a18, a19] [b0, b1, b2, b3, b4, b5, b6, b7, b8, b9, b10, b11, b12, b13, b14, b15, b16, b17, b18, b19]) .normal (mulS3 sa sb [a0, a1, a2, a3, a4, a5, a6, a7, a8, a9, a10, a11, a12, a13, a14, a15, a16, a17, a18, a19] [b0, b1, b2, b3, b4, b5, b6, b7, b8, b9, b10, b11, b12, b13, b14, b15, b16, b17, b18, b19]) := sat_of mul_k3 (mul_p3 sa sb a0 a1 a2 a3 a4 a5 a6 a7 a8 a9 a10 a11 a12 a13 a14 a15 a16 a17 a18 a19 b0 b1 b2 b3 b4 b5 b6 b7 b8 b9 b10 b11 b12 b13 b14 b15 b16 b17 b18 b19)
theorem mul_z5 (zs : List Value) (sa sb so : Bool) (a b : List Int) (o0 o1 o2 o3 o4 o5 o6 o7 o8 o9 o10 o11 o12 o13 o14 o15 o16 o17 o18 o19 : Int) : SatCode Try.prog [] (cR (cR (cR mulC))) (mulT 20 zs sa sb so a b [o0, o1, o2, o3, o4, o5, o6, o7, o8, o9, o10, o11, o12, o13, o14, o15, o16, o17, o18, o19]) .ret (mulS5 zs sa sb so a b [o0, o1, o2, o3, o4, o5, o6, o7, o8, o9, o10, o11, o12, o13, o14, o15, o16, o17, o18, o19]) := sat_of mul_k5 (mul_p5 zs sa sb so a b o0 o1 o2 o3 o4 o5 o6 o7 o8 o9 o10 o11 o12 o13 o14 o15 o16 o17 o18 o19)
theorem mul_sat (sa sb : Bool) (a0 a1 a2 a3 a4 a5 a6 a7 a8 a9 a10 a11 a12 a13 a14 a15 a16 a17 a18 a19 b0 b1 b2 b3 b4 b5 b6 b7 b8 b9 b10 b11 b12 b13 b14 b15 b16 b17 b18 b19 : Int) (zs : List Value) {o : List Int} (ho : o.length = 20)
    (h : SatCode Try.prog [] mulL (mulT 0 (tlOf (mulS3 sa sb [a0, a1, a2, a3, a4, a5, a6, a7, a8, a9, a10, a11, a12, a13, a14, a15, a16, a17, a18, a19] [b0, b1, b2, b3, b4, b5, b6, b7, b8, b9, b10, b11, b12, b13, b14, b15, b16, b17, b18, b19])) sa sb (sa != sb) [a0, a1, a2, a3, a4, a5, a6, a7, a8, a9, a10, a11, a12, a13, a14, a15, a16, a17, a18, a19] [b0, b1, b2, b3, b4, b5, b6, b7, b8, b9, b10, b11, b12, b13, b14, b15, b16, b17, b18, b19] [0, 0, 0, 0, 0, 0, 0, 0, 0, 0, 0, 0, 0, 0, 0, 0, 0, 0, 0, 0]) (.exit 0) (mulT 20 zs sa sb (sa != sb) [a0, a1, a2, a3, a4, a5, a6, a7, a8, a9, a10, a11, a12, a13, a14, a15, a16, a17, a18, a19] [b0, b1, b2, b3, b4, b5, b6, b7, b8, b9, b10, b11, b12, b13, b14, b15, b16, b17, b18, b19] o)) : SatCode Try.prog [] mulC (mulS0 sa sb [a0, a1, a2, a3, a4, a5, a6, a7, a8, a9, a10, a11, a12, a13, a14, a15, a16, a17, a18, a19] [b0, b1, b2, b3, b4, b5, b6, b7, b8, b9, b10, b11, b12, b13, b14, b15, b16, b17, b18, b19]) .ret (mulS5 zs sa sb (sa != sb) [a0, a1, a2, a3, a4, a5, a6, a7, a8, a9, a10, a11, a12, a13, a14, a15, a16, a17, a18, a19] [b0, b1, b2, b3, b4, b5, b6, b7, b8, b9, b10, b11, b12, b13, b14, b15, b16, b17, b18, b19] o) := by
  have h1 := sat_arr (mul_a3 sa sb a0 a1 a2 a3 a4 a5 a6 a7 a8 a9 a10 a11 a12 a13 a14 a15 a16 a17 a18 a19 b0 b1 b2 b3 b4 b5 b6 b7 b8 b9 b10 b11 b12 b13 b14 b15 b16 b17 b18 b19) (mul_h3 sa sb a0 a1 a2 a3 a4 a5 a6 a7 a8 a9 a10 a11 a12 a13 a14 a15 a16 a17 a18 a19 b0 b1 b2 b3 b4 b5 b6 b7 b8 b9 b10 b11 b12 b13 b14 b15 b16 b17 b18 b19) (mul_n3 sa sb a0 a1 a2 a3 a4 a5 a6 a7 a8 a9 a10 a11 a12 a13 a14 a15 a16 a17 a18 a19 b0 b1 b2 b3 b4 b5 b6 b7 b8 b9 b10 b11 b12 b13 b14 b15 b16 b17 b18 b19) (sat_block mul_q5 h)
  have h2 := sat_seq mul_q4 (mul_z3 sa sb a0 a1 a2 a3 a4 a5 a6 a7 a8 a9 a10 a11 a12 a13 a14 a15 a16 a17 a18 a19 b0 b1 b2 b3 b4 b5 b6 b7 b8 b9 b10 b11 b12 b13 b14 b15 b16 b17 b18 b19) h1
  obtain ⟨o0, o1, o2, o3, o4, o5, o6, o7, o8, o9, o10, o11, o12, o13, o14, o15, o16, o17, o18, o19, rfl⟩ := list20 ho
  exact sat_seq mul_q1 (mul_z1 sa sb a0 a1 a2 a3 a4 a5 a6 a7 a8 a9 a10 a11 a12 a13 a14 a15 a16 a17 a18 a19 b0 b1 b2 b3 b4 b5 b6 b7 b8 b9 b10 b11 b12 b13 b14 b15 b16 b17 b18 b19) (sat_seq mul_q2 (mul_z2 sa sb a0 a1 a2 a3 a4 a5 a6 a7 a8 a9 a10 a11 a12 a13 a14 a15 a16 a17 a18 a19 b0 b1 b2 b3 b4 b5 b6 b7 b8 b9 b10 b11 b12 b13 b14 b15 b16 b17 b18 b19) (sat_seq mul_q3 h2 (mul_z5 zs sa sb (sa != sb) [a0, a1, a2, a3, a4, a5, a6, a7, a8, a9, a10, a11, a12, a13, a14, a15, a16, a17, a18, a19] [b0, b1, b2, b3, b4, b5, b6, b7, b8, b9, b10, b11, b12, b13, b14, b15, b16, b17, b18, b19] o0 o1 o2 o3 o4 o5 o6 o7 o8 o9 o10 o11 o12 o13 o14 o15 o16 o17 o18 o19)))
theorem mul_call (sa sb : Bool) (a0 a1 a2 a3 a4 a5 a6 a7 a8 a9 a10 a11 a12 a13 a14 a15 a16 a17 a18 a19 b0 b1 b2 b3 b4 b5 b6 b7 b8 b9 b10 b11 b12 b13 b14 b15 b16 b17 b18 b19 : Int) (zs : List Value) {o : List Int} (ho : o.length = 20)
    (h : SatCode Try.prog [] mulC ⟨Go.Den.start (mulA sa sb [a0, a1, a2, a3, a4, a5, a6, a7, a8, a9, a10, a11, a12, a13, a14, a15, a16, a17, a18, a19] [b0, b1, b2, b3, b4, b5, b6, b7, b8, b9, b10, b11, b12, b13, b14, b15, b16, b17, b18, b19]).toList Try.f27.ntmps, [], B0⟩ .ret (mulS5 zs sa sb (sa != sb) [a0, a1, a2, a3, a4, a5, a6, a7, a8, a9, a10, a11, a12, a13, a14, a15, a16, a17, a18, a19] [b0, b1, b2, b3, b4, b5, b6, b7, b8, b9, b10, b11, b12, b13, b14, b15, b16, b17, b18, b19] o)) (w : World) :
    Calls Try.prog 27 (mulA sa sb [a0, a1, a2, a3, a4, a5, a6, a7, a8, a9, a10, a11, a12, a13, a14, a15, a16, a17, a18, a19] [b0, b1, b2, b3, b4, b5, b6, b7, b8, b9, b10, b11, b12, b13, b14, b15, b16, b17, b18, b19]) w fun e w' => e = .returned (.agg ⟨.bool (sa != sb) :: mapU o⟩) ∧ Below w.heap.size w w' := by
  obtain ⟨o0, o1, o2, o3, o4, o5, o6, o7, o8, o9, o10, o11, o12, o13, o14, o15, o16, o17, o18, o19, rfl⟩ := list20 ho
  have hb : Try.f27.body = some mulC := by kernel_rfl
  have c := sat_call Try.func27 hb (by kernel_rfl) h (.inr rfl) (mul_res zs sa sb (sa != sb) [a0, a1, a2, a3, a4, a5, a6, a7, a8, a9, a10, a11, a12, a13, a14, a15, a16, a17, a18, a19] [b0, b1, b2, b3, b4, b5, b6, b7, b8, b9, b10, b11, b12, b13, b14, b15, b16, b17, b18, b19] o0 o1 o2 o3 o4 o5 o6 o7 o8 o9 o10 o11 o12 o13 o14 o15 o16 o17 o18 o19)
  exact calls_sat c (all_bel (by rw [belL, bel_num, belL, bel_num]; rfl)) (bel_num _ _) w
theorem mul_len (a b : List Int) : ∀ (i : Nat) (o : List Int), o.length = 20 → (mulGo b a i o).length = 20 := by
  induction a with
  | nil => exact fun _ _ h => h
  | cons x a ih => exact fun i o h => ih (i + 1) _ (by rw [carry_len, mrow_len, h])
theorem mul_calls {sa sb : Bool} {a b : List Int} (ha : a.length = 20) (hb : b.length = 20) (w : World) : Calls Try.prog 27 (mulA sa sb a b) w fun e w' => e = .returned (.agg ⟨.bool (sa != sb) :: mapU (mulGo b a 0 [0, 0, 0, 0, 0, 0, 0, 0, 0, 0, 0, 0, 0, 0, 0, 0, 0, 0, 0, 0])⟩) ∧ Below w.heap.size w w' := by
  have hlen := mul_len a b 0 [0, 0, 0, 0, 0, 0, 0, 0, 0, 0, 0, 0, 0, 0, 0, 0, 0, 0, 0, 0] rfl
  obtain ⟨a0, a1, a2, a3, a4, a5, a6, a7, a8, a9, a10, a11, a12, a13, a14, a15, a16, a17, a18, a19, rfl⟩ := list20 ha
  obtain ⟨b0, b1, b2, b3, b4, b5, b6, b7, b8, b9, b10, b11, b12, b13, b14, b15, b16, b17, b18, b19, rfl⟩ := list20 hb
  obtain ⟨zs, h⟩ := mul_f0 sa sb (sa != sb) a0 a1 a2 a3 a4 a5 a6 a7 a8 a9 a10 a11 a12 a13 a14 a15 a16 a17 a18 a19 b0 b1 b2 b3 b4 b5 b6 b7 b8 b9 b10 b11 b12 b13 b14 b15 b16 b17 b18 b19 (tlOf (mulS3 sa sb [a0, a1, a2, a3, a4, a5, a6, a7, a8, a9, a10, a11, a12, a13, a14, a15, a16, a17, a18, a19] [b0, b1, b2, b3, b4, b5, b6, b7, b8, b9, b10, b11, b12, b13, b14, b15, b16, b17, b18, b19])) [0, 0, 0, 0, 0, 0, 0, 0, 0, 0, 0, 0, 0, 0, 0, 0, 0, 0, 0, 0] rfl
  generalize mulGo [b0, b1, b2, b3, b4, b5, b6, b7, b8, b9, b10, b11, b12, b13, b14, b15, b16, b17, b18, b19] [a0, a1, a2, a3, a4, a5, a6, a7, a8, a9, a10, a11, a12, a13, a14, a15, a16, a17, a18, a19] 0 [0, 0, 0, 0, 0, 0, 0, 0, 0, 0, 0, 0, 0, 0, 0, 0, 0, 0, 0, 0] = o at *
  exact mul_call sa sb a0 a1 a2 a3 a4 a5 a6 a7 a8 a9 a10 a11 a12 a13 a14 a15 a16 a17 a18 a19 b0 b1 b2 b3 b4 b5 b6 b7 b8 b9 b10 b11 b12 b13 b14 b15 b16 b17 b18 b19 zs hlen (mul_sat sa sb a0 a1 a2 a3 a4 a5 a6 a7 a8 a9 a10 a11 a12 a13 a14 a15 a16 a17 a18 a19 b0 b1 b2 b3 b4 b5 b6 b7 b8 b9 b10 b11 b12 b13 b14 b15 b16 b17 b18 b19 zs hlen h) w
def rmulS : Array Value → Option (Bool × Value)
  | ⟨[.agg ⟨.bool s1 :: r1⟩, .agg ⟨.bool s2 :: r2⟩]⟩ => some (okNum r1 && (okNum r2 && decide (mag r1 * mag r2 < T320)), nv (s1 != s2) (mag r1 * mag r2))
  | _ => none
def pcRMul : PC Try.prog where
  f := 27
  spec := rmulS
  body := by kernel_rfl
  ok := fun args r hr hok => by
    unfold rmulS at hr
    split at hr
    · rename_i s1 r1 s2 r2
      cases hr
      simp only [Bool.and_eq_true, decide_eq_true_eq] at hok
      obtain ⟨k1, k2, k3⟩ := hok
      obtain ⟨a, rfl, hl1, hp1, hm1⟩ := num_out k1
      obtain ⟨b, rfl, hl2, hp2, hm2⟩ := num_out k2
      have hb : (#[Value.agg ⟨.bool s1 :: mapU a⟩, Value.agg ⟨.bool s2 :: mapU b⟩] : Array Value).all (bel B0) = true := all_bel (by rw [belL, bel_num, belL, bel_num]; rfl)
      refine ⟨hb, bel_nv _ _, fun w => (mul_calls hl1 hl2 w).mono ?_⟩
      rintro e w' ⟨rfl, hB⟩
      refine ⟨?_, hB⟩
      rw [hm1, hm2] at k3 ⊢
      have z0 : Pcs [0, 0, 0, 0, 0, 0, 0, 0, 0, 0, 0, 0, 0, 0, 0, 0, 0, 0, 0, 0] := by intro x hx; simp only [List.mem_cons, List.not_mem_nil, or_false, or_self] at hx; omega
      have v0 : val [0, 0, 0, 0, 0, 0, 0, 0, 0, 0, 0, 0, 0, 0, 0, 0, 0, 0, 0, 0] = 0 := by simp [val]
      obtain ⟨g1, g2, g3⟩ := mulGo_ok hp2 hl2 a 0 [0, 0, 0, 0, 0, 0, 0, 0, 0, 0, 0, 0, 0, 0, 0, 0, 0, 0, 0, 0] hp1 z0 rfl (by omega) (by rw [v0, B16_0]; omega)
      rw [v0, B16_0, Int.one_mul, Int.zero_add] at g3
      exact congrArg Ending.returned (nv_of g2 g1 g3)
    · cases hr
end
end Go.Proofs.Ytbhgibpocbmipaa


/-
  The document's sums, and which of two numbers is greater.
-/
namespace Go.Proofs.Ytbhgibpocbmipaa
open Go.Den Go.RowKit
noncomputable section
set_option maxRecDepth 100000
def sv (s : Bool) (n : Int) : Int := bif s then -n else n
theorem add_ff (a0 a1 a2 a3 a4 a5 a6 a7 a8 a9 a10 a11 a12 a13 a14 a15 a16 a17 a18 a19 b0 b1 b2 b3 b4 b5 b6 b7 b8 b9 b10 b11 b12 b13 b14 b15 b16 b17 b18 b19 : Int) (Q : Value → Prop) : ((ev envR1 300).call [] 19 #[.agg ⟨.bool false :: mapU [a0, a1, a2, a3, a4, a5, a6, a7, a8, a9, a10, a11, a12, a13, a14, a15, a16, a17, a18, a19]⟩, .agg ⟨.bool false :: mapU [b0, b1, b2, b3, b4, b5, b6, b7, b8, b9, b10, b11, b12, b13, b14, b15, b16, b17, b18, b19]⟩] [] B0).holds (fun r => Q r.v) =
  Q (.agg ⟨.bool false :: mapU (addGo [a1, a2, a3, a4, a5, a6, a7, a8, a9, a10, a11, a12, a13, a14, a15, a16, a17, a18, a19] a0 [b0, b1, b2, b3, b4, b5, b6, b7, b8, b9, b10, b11, b12, b13, b14, b15, b16, b17, b18, b19])⟩) := by kernel_rfl
theorem add_tt (a0 a1 a2 a3 a4 a5 a6 a7 a8 a9 a10 a11 a12 a13 a14 a15 a16 a17 a18 a19 b0 b1 b2 b3 b4 b5 b6 b7 b8 b9 b10 b11 b12 b13 b14 b15 b16 b17 b18 b19 : Int) (Q : Value → Prop) : ((ev envR1 300).call [] 19 #[.agg ⟨.bool true :: mapU [a0, a1, a2, a3, a4, a5, a6, a7, a8, a9, a10, a11, a12, a13, a14, a15, a16, a17, a18, a19]⟩, .agg ⟨.bool true :: mapU [b0, b1, b2, b3, b4, b5, b6, b7, b8, b9, b10, b11, b12, b13, b14, b15, b16, b17, b18, b19]⟩] [] B0).holds (fun r => Q r.v) =
  Q (.agg ⟨.bool true :: mapU (addGo [a1, a2, a3, a4, a5, a6, a7, a8, a9, a10, a11, a12, a13, a14, a15, a16, a17, a18, a19] a0 [b0, b1, b2, b3, b4, b5, b6, b7, b8, b9, b10, b11, b12, b13, b14, b15, b16, b17, b18, b19])⟩) := by kernel_rfl
theorem add_ft (a0 a1 a2 a3 a4 a5 a6 a7 a8 a9 a10 a11 a12 a13 a14 a15 a16 a17 a18 a19 b0 b1 b2 b3 b4 b5 b6 b7 b8 b9 b10 b11 b12 b13 b14 b15 b16 b17 b18 b19 : Int) (Q : Value → Prop) : ((ev envR1 300).call [] 19 #[.agg ⟨.bool false :: mapU [a0, a1, a2, a3, a4, a5, a6, a7, a8, a9, a10, a11, a12, a13, a14, a15, a16, a17, a18, a19]⟩, .agg ⟨.bool true :: mapU [b0, b1, b2, b3, b4, b5, b6, b7, b8, b9, b10, b11, b12, b13, b14, b15, b16, b17, b18, b19]⟩] [] B0).holds (fun r => Q r.v) =
  bcase (okNum (mapU [a0, a1, a2, a3, a4, a5, a6, a7, a8, a9, a10, a11, a12, a13, a14, a15, a16, a17, a18, a19]) && okNum (mapU [b0, b1, b2, b3, b4, b5, b6, b7, b8, b9, b10, b11, b12, b13, b14, b15, b16, b17, b18, b19])) (bcase (decide (cmpI (mag (mapU [a0, a1, a2, a3, a4, a5, a6, a7, a8, a9, a10, a11, a12, a13, a14, a15, a16, a17, a18, a19])) (mag (mapU [b0, b1, b2, b3, b4, b5, b6, b7, b8, b9, b10, b11, b12, b13, b14, b15, b16, b17, b18, b19])) < 0)) (Q (.agg ⟨.bool true :: mapU (subGo [b0, b1, b2, b3, b4, b5, b6, b7, b8, b9, b10, b11, b12, b13, b14, b15, b16, b17, b18, b19] [a0, a1, a2, a3, a4, a5, a6, a7, a8, a9, a10, a11, a12, a13, a14, a15, a16, a17, a18, a19] 0)⟩)) (Q (.agg ⟨.bool false :: mapU (subGo [a0, a1, a2, a3, a4, a5, a6, a7, a8, a9, a10, a11, a12, a13, a14, a15, a16, a17, a18, a19] [b0, b1, b2, b3, b4, b5, b6, b7, b8, b9, b10, b11, b12, b13, b14, b15, b16, b17, b18, b19] 0)⟩))) False := by kernel_rfl
theorem add_tf (a0 a1 a2 a3 a4 a5 a6 a7 a8 a9 a10 a11 a12 a13 a14 a15 a16 a17 a18 a19 b0 b1 b2 b3 b4 b5 b6 b7 b8 b9 b10 b11 b12 b13 b14 b15 b16 b17 b18 b19 : Int) (Q : Value → Prop) : ((ev envR1 300).call [] 19 #[.agg ⟨.bool true :: mapU [a0, a1, a2, a3, a4, a5, a6, a7, a8, a9, a10, a11, a12, a13, a14, a15, a16, a17, a18, a19]⟩, .agg ⟨.bool false :: mapU [b0, b1, b2, b3, b4, b5, b6, b7, b8, b9, b10, b11, b12, b13, b14, b15, b16, b17, b18, b19]⟩] [] B0).holds (fun r => Q r.v) =
  bcase (okNum (mapU [a0, a1, a2, a3, a4, a5, a6, a7, a8, a9, a10, a11, a12, a13, a14, a15, a16, a17, a18, a19]) && okNum (mapU [b0, b1, b2, b3, b4, b5, b6, b7, b8, b9, b10, b11, b12, b13, b14, b15, b16, b17, b18, b19])) (bcase (decide (cmpI (mag (mapU [a0, a1, a2, a3, a4, a5, a6, a7, a8, a9, a10, a11, a12, a13, a14, a15, a16, a17, a18, a19])) (mag (mapU [b0, b1, b2, b3, b4, b5, b6, b7, b8, b9, b10, b11, b12, b13, b14, b15, b16, b17, b18, b19])) < 0)) (Q (.agg ⟨.bool false :: mapU (subGo [b0, b1, b2, b3, b4, b5, b6, b7, b8, b9, b10, b11, b12, b13, b14, b15, b16, b17, b18, b19] [a0, a1, a2, a3, a4, a5, a6, a7, a8, a9, a10, a11, a12, a13, a14, a15, a16, a17, a18, a19] 0)⟩)) (Q (.agg ⟨.bool true :: mapU (subGo [a0, a1, a2, a3, a4, a5, a6, a7, a8, a9, a10, a11, a12, a13, a14, a15, a16, a17, a18, a19] [b0, b1, b2, b3, b4, b5, b6, b7, b8, b9, b10, b11, b12, b13, b14, b15, b16, b17, b18, b19] 0)⟩))) False := by kernel_rfl
theorem cmp_read (s1 s2 : Bool) (a0 a1 a2 a3 a4 a5 a6 a7 a8 a9 a10 a11 a12 a13 a14 a15 a16 a17 a18 a19 b0 b1 b2 b3 b4 b5 b6 b7 b8 b9 b10 b11 b12 b13 b14 b15 b16 b17 b18 b19 : Int) (Q : Value → Prop) (oa : Bool) (e_oa : oa = okNum (mapU [a0, a1, a2, a3, a4, a5, a6, a7, a8, a9, a10, a11, a12, a13, a14, a15, a16, a17, a18, a19])) (ob : Bool) (e_ob : ob = okNum (mapU [b0, b1, b2, b3, b4, b5, b6, b7, b8, b9, b10, b11, b12, b13, b14, b15, b16, b17, b18, b19])) (x1 : Int) (e_1 : x1 = mag (mapU [a0, a1, a2, a3, a4, a5, a6, a7, a8, a9, a10, a11, a12, a13, a14, a15, a16, a17, a18, a19])) (x2 : Int) (e_2 : x2 = mag (mapU [b0, b1, b2, b3, b4, b5, b6, b7, b8, b9, b10, b11, b12, b13, b14, b15, b16, b17, b18, b19])) :
    ((ev envR1 300).call [] 25 #[.agg ⟨.bool s1 :: mapU [a0, a1, a2, a3, a4, a5, a6, a7, a8, a9, a10, a11, a12, a13, a14, a15, a16, a17, a18, a19]⟩, .agg ⟨.bool s2 :: mapU [b0, b1, b2, b3, b4, b5, b6, b7, b8, b9, b10, b11, b12, b13, b14, b15, b16, b17, b18, b19]⟩] [] B0).holds (fun r => Q r.v) =
    bcase s1 (bcase oa (bcase (!(x1 == 0)) (bcase s2 (bcase ob (bcase (!(x2 == 0)) (bcase (ob && oa) (Q (.int .i64 (cmpI x2 x1))) False) (Q (.int .i64 (-1)))) False) (Q (.int .i64 (-1)))) (bcase s2 (bcase ob (bcase (!(x2 == 0)) (Q (.int .i64 1)) (bcase (oa && ob) (Q (.int .i64 (cmpI x1 x2))) False)) False) (bcase (oa && ob) (Q (.int .i64 (cmpI x1 x2))) False))) False) (bcase s2 (bcase ob (bcase (!(x2 == 0)) (Q (.int .i64 1)) (bcase (oa && ob) (Q (.int .i64 (cmpI x1 x2))) False)) False) (bcase (oa && ob) (Q (.int .i64 (cmpI x1 x2))) False)) := by
  subst e_oa e_ob e_1 e_2
  kernel_rfl
/-- The sign of a sum, as the document's sum has it. -/
def addSg (s1 : Bool) (a : Int) (s2 : Bool) (b : Int) : Bool := bif s1 == s2 then s1 else bif decide (a < b) then s2 else s1
def T304 : Int := 32592575621351777380295131014550050576823494298654980010178247189670100796213387298934358016
theorem T304_eq : B16 19 = T304 := by unfold T304 B16; rfl
def raddS : Array Value → Option (Bool × Value)
  | ⟨[.agg ⟨.bool s1 :: r1⟩, .agg ⟨.bool s2 :: r2⟩]⟩ => some (okNum r1 && (okNum r2 && (decide (mag r2 < T304) && decide (mag r1 + mag r2 < T320))), nv (addSg s1 (mag r1) s2 (mag r2)) (sz (sv s1 (mag r1) + sv s2 (mag r2))))
  | _ => none
def rcmpS : Array Value → Option (Bool × Value)
  | ⟨[.agg ⟨.bool s1 :: r1⟩, .agg ⟨.bool s2 :: r2⟩]⟩ => some (okNum r1 && okNum r2, .int .i64 (cmpI (sv s1 (mag r1)) (sv s2 (mag r2))))
  | _ => none
theorem cmp_lt (a b : Int) : decide (cmpI a b < 0) = decide (a < b) := by
  unfold cmpI; split
  · rename_i h; rw [decide_eq_decide]; omega
  · split
    · rename_i h; rw [decide_eq_decide]; omega
    · rw [decide_eq_decide]; omega
theorem add_same (s : Bool) {a b : List Int} (ha : a.length = 20) (hb : b.length = 20) (pa : Pcs a) (pb : Pcs b) (h : val b < T304) (h2 : val a + val b < T320) :
    ∃ a0 r, a = a0 :: r ∧ Value.agg ⟨.bool s :: mapU (addGo r a0 b)⟩ = nv s (val a + val b) := by
  obtain ⟨a0, r, rfl, hr⟩ := cons_of ha
  refine ⟨a0, r, rfl, ?_⟩
  have hv := pa.head
  have ht : val (b.take r.length) = val b := val_take b r.length pb (by rw [hr, T304_eq]; exact h)
  rw [val] at h2
  obtain ⟨g1, g2, g3⟩ := addGo_ok r a0 b pa.tail pb (by omega) hv.1 (by omega) (by rw [ht, hr]; exact (by rw [T320_eq]; exact h2))
  exact nv_of (by rw [g2, hr]) g1 (by rw [g3, ht, val])
theorem sub_that (s : Bool) {a b : List Int} (ha : a.length = 20) (hb : b.length = 20) (pa : Pcs a) (pb : Pcs b) (h : val b ≤ val a) : Value.agg ⟨.bool s :: mapU (subGo a b 0)⟩ = nv s (val a - val b) := by
  obtain ⟨g1, g2, g3⟩ := subGo_ok a b 0 pa pb (by omega) (by omega) (by omega) (by omega)
  exact nv_of (by rw [g2, ha]) g1 (by rw [g3]; omega)
set_option maxHeartbeats 1000000 in
def pcRAdd : PC Try.prog where
  f := 19
  spec := raddS
  body := by kernel_rfl
  ok := fun args r hr hok => by
    unfold raddS at hr
    split at hr
    · rename_i s1 r1 s2 r2
      cases hr
      simp only [Bool.and_eq_true, decide_eq_true_eq] at hok
      obtain ⟨k1, k2, k3, k4⟩ := hok
      obtain ⟨a, rfl, hl1, hp1, hm1⟩ := num_out k1
      obtain ⟨b, rfl, hl2, hp2, hm2⟩ := num_out k2
      have hb : (#[Value.agg ⟨.bool s1 :: mapU a⟩, Value.agg ⟨.bool s2 :: mapU b⟩] : Array Value).all (bel B0) = true := all_bel (by rw [belL, bel_num, belL, bel_num]; rfl)
      refine ⟨hb, bel_nv _ _, fun w => calls_spec envR1 hcokP 300 ?_ hb (bel_nv _ _) w⟩
      have na := (val_bd hp1).1
      have nb := (val_bd hp2).1
      rw [hm1, hm2] at k4
      rw [hm2] at k3
      have same : ∀ s, ∃ a0 r, a = a0 :: r ∧ Value.agg ⟨.bool s :: mapU (addGo r a0 b)⟩ = nv s (val a + val b) := fun s => add_same s hl1 hl2 hp1 hp2 k3 k4
      have lt : ∀ s, val b ≤ val a → Value.agg ⟨.bool s :: mapU (subGo a b 0)⟩ = nv s (val a - val b) := fun s => sub_that s hl1 hl2 hp1 hp2
      have gt : ∀ s, val a ≤ val b → Value.agg ⟨.bool s :: mapU (subGo b a 0)⟩ = nv s (val b - val a) := fun s => sub_that s hl2 hl1 hp2 hp1
      clear hp1 hp2 hb k3 k4
      show Tree.holds (fun r : VR => r.v = nv (addSg s1 (mag (mapU a)) s2 (mag (mapU b))) (sz (sv s1 (mag (mapU a)) + sv s2 (mag (mapU b))))) _
      generalize hx : mag (mapU a) = x at *
      generalize hy : mag (mapU b) = y at *
      simp only [← hm1, ← hm2] at same lt gt na nb
      clear hm1 hm2
      obtain ⟨a0, a1, a2, a3, a4, a5, a6, a7, a8, a9, a10, a11, a12, a13, a14, a15, a16, a17, a18, a19, rfl⟩ := list20 hl1
      obtain ⟨b0, b1, b2, b3, b4, b5, b6, b7, b8, b9, b10, b11, b12, b13, b14, b15, b16, b17, b18, b19, rfl⟩ := list20 hl2
      cases s1 <;> cases s2
      · refine (add_ff a0 a1 a2 a3 a4 a5 a6 a7 a8 a9 a10 a11 a12 a13 a14 a15 a16 a17 a18 a19 b0 b1 b2 b3 b4 b5 b6 b7 b8 b9 b10 b11 b12 b13 b14 b15 b16 b17 b18 b19 (fun v => v = nv (addSg false x false y) (sz (sv false x + sv false y)))).mpr ?_
        obtain ⟨c, r, e, h⟩ := same false
        cases e
        rw [h]
        have e : sz (sv false x + sv false y) = x + y := by unfold sz sv; simp only [cond_false]; omega
        rw [e]; rfl
      · refine (add_ft a0 a1 a2 a3 a4 a5 a6 a7 a8 a9 a10 a11 a12 a13 a14 a15 a16 a17 a18 a19 b0 b1 b2 b3 b4 b5 b6 b7 b8 b9 b10 b11 b12 b13 b14 b15 b16 b17 b18 b19 (fun v => v = nv (addSg false x true y) (sz (sv false x + sv true y)))).mpr ?_
        rw [k1, k2, Bool.and_self, bcase_t, hx, hy, cmp_lt]
        refine bcase_in (fun q => ?_) fun q => ?_
        · rw [decide_eq_true_eq] at q
          rw [gt true (by omega)]
          have e : sz (sv false x + sv true y) = y - x := by unfold sz sv; simp only [cond_false, cond_true]; omega
          have e2 : addSg false x true y = true := by unfold addSg; rw [decide_eq_true q]; rfl
          rw [e, e2]
        · rw [decide_eq_false_iff_not] at q
          rw [lt false (by omega)]
          have e : sz (sv false x + sv true y) = x - y := by unfold sz sv; simp only [cond_false, cond_true]; omega
          have e2 : addSg false x true y = false := by unfold addSg; rw [decide_eq_false q]; rfl
          rw [e, e2]
      · refine (add_tf a0 a1 a2 a3 a4 a5 a6 a7 a8 a9 a10 a11 a12 a13 a14 a15 a16 a17 a18 a19 b0 b1 b2 b3 b4 b5 b6 b7 b8 b9 b10 b11 b12 b13 b14 b15 b16 b17 b18 b19 (fun v => v = nv (addSg true x false y) (sz (sv true x + sv false y)))).mpr ?_
        rw [k1, k2, Bool.and_self, bcase_t, hx, hy, cmp_lt]
        refine bcase_in (fun q => ?_) fun q => ?_
        · rw [decide_eq_true_eq] at q
          rw [gt false (by omega)]
          have e : sz (sv true x + sv false y) = y - x := by unfold sz sv; simp only [cond_false, cond_true]; omega
          have e2 : addSg true x false y = false := by unfold addSg; rw [decide_eq_true q]; rfl
          rw [e, e2]
        · rw [decide_eq_false_iff_not] at q
          rw [lt true (by omega)]
          have e : sz (sv true x + sv false y) = x - y := by unfold sz sv; simp only [cond_false, cond_true]; omega
          have e2 : addSg true x false y = true := by unfold addSg; rw [decide_eq_false q]; rfl
          rw [e, e2]
      · refine (add_tt a0 a1 a2 a3 a4 a5 a6 a7 a8 a9 a10 a11 a12 a13 a14 a15 a16 a17 a18 a19 b0 b1 b2 b3 b4 b5 b6 b7 b8 b9 b10 b11 b12 b13 b14 b15 b16 b17 b18 b19 (fun v => v = nv (addSg true x true y) (sz (sv true x + sv true y)))).mpr ?_
        obtain ⟨c, r, e, h⟩ := same true
        cases e
        rw [h]
        have e : sz (sv true x + sv true y) = x + y := by unfold sz sv; simp only [cond_true]; omega
        rw [e]; rfl
    · cases hr
theorem intE {a b : Int} (h : a = b) : Value.int .i64 a = .int .i64 b := by rw [h]
set_option maxHeartbeats 1000000 in
def pcRCmp : PC Try.prog where
  f := 25
  spec := rcmpS
  body := by kernel_rfl
  ok := fun args r hr hok => by
    unfold rcmpS at hr
    split at hr
    · rename_i s1 r1 s2 r2
      cases hr
      simp only [Bool.and_eq_true] at hok
      obtain ⟨k1, k2⟩ := hok
      have na := (mag_bd k1).1
      have nb := (mag_bd k2).1
      obtain ⟨a, rfl, hl1, hp1, hm1⟩ := num_out k1
      obtain ⟨b, rfl, hl2, hp2, hm2⟩ := num_out k2
      have hb : (#[Value.agg ⟨.bool s1 :: mapU a⟩, Value.agg ⟨.bool s2 :: mapU b⟩] : Array Value).all (bel B0) = true := all_bel (by rw [belL, bel_num, belL, bel_num]; rfl)
      refine ⟨hb, rfl, fun w => calls_spec envR1 hcokP 300 ?_ hb rfl w⟩
      obtain ⟨a0, a1, a2, a3, a4, a5, a6, a7, a8, a9, a10, a11, a12, a13, a14, a15, a16, a17, a18, a19, rfl⟩ := list20 hl1
      obtain ⟨b0, b1, b2, b3, b4, b5, b6, b7, b8, b9, b10, b11, b12, b13, b14, b15, b16, b17, b18, b19, rfl⟩ := list20 hl2
      refine (cmp_read s1 s2 a0 a1 a2 a3 a4 a5 a6 a7 a8 a9 a10 a11 a12 a13 a14 a15 a16 a17 a18 a19 b0 b1 b2 b3 b4 b5 b6 b7 b8 b9 b10 b11 b12 b13 b14 b15 b16 b17 b18 b19 (fun v => v = .int .i64 (cmpI (sv s1 (mag (mapU [a0, a1, a2, a3, a4, a5, a6, a7, a8, a9, a10, a11, a12, a13, a14, a15, a16, a17, a18, a19]))) (sv s2 (mag (mapU [b0, b1, b2, b3, b4, b5, b6, b7, b8, b9, b10, b11, b12, b13, b14, b15, b16, b17, b18, b19]))))) _ rfl _ rfl _ rfl _ rfl).mpr ?_
      rw [k1, k2]
      simp only [Bool.and_self, bcase_t]
      clear k1 k2 hm1 hm2 hp1 hp2 hb hl1 hl2
      generalize mag (mapU [a0, a1, a2, a3, a4, a5, a6, a7, a8, a9, a10, a11, a12, a13, a14, a15, a16, a17, a18, a19]) = x at *
      generalize mag (mapU [b0, b1, b2, b3, b4, b5, b6, b7, b8, b9, b10, b11, b12, b13, b14, b15, b16, b17, b18, b19]) = y at *
      cases s1 <;> cases s2 <;> simp only [sv, cond_true, cond_false, bcase_t, bcase_n]
      · refine bcase_in (fun q => intE ?_) fun q => intE ?_
        · have q' : y ≠ 0 := by simpa using q
          unfold cmpI; (repeat' split) <;> omega
        · have q' : y = 0 := by simpa using q
          unfold cmpI; (repeat' split) <;> omega
      · refine bcase_in (fun q => intE ?_) fun q => intE ?_
        · have q' : x ≠ 0 := by simpa using q
          unfold cmpI; (repeat' split) <;> omega
        · have q' : x = 0 := by simpa using q
          unfold cmpI; (repeat' split) <;> omega
      · refine bcase_in (fun q => ?_) fun q => ?_
        · have q' : x ≠ 0 := by simpa using q
          refine bcase_in (fun p => intE ?_) fun p => intE ?_
          · have p' : y ≠ 0 := by simpa using p
            unfold cmpI; (repeat' split) <;> omega
          · have p' : y = 0 := by simpa using p
            unfold cmpI; (repeat' split) <;> omega
        · have q' : x = 0 := by simpa using q
          refine bcase_in (fun p => intE ?_) fun p => intE ?_
          · have p' : y ≠ 0 := by simpa using p
            unfold cmpI; (repeat' split) <;> omega
          · have p' : y = 0 := by simpa using p
            unfold cmpI; (repeat' split) <;> omega
    · cases hr
def envR2 : Env Try.prog := envS.with false [pcROf, pcRNum, pcRNeg, pcRZero, pcRSize, pcRMul, pcRAdd, pcRCmp]
end
end Go.Proofs.Ytbhgibpocbmipaa


/-
  The document's numbers from wide ones, and as such.
-/
namespace Go.Proofs.Ytbhgibpocbmipaa
open Go.Den Go.RowKit
noncomputable section
set_option maxRecDepth 100000
def mostL : List Int := [65535, 65535, 65535, 65535, 65535, 65535, 65535, 32767, 0, 0, 0, 0, 0, 0, 0, 0, 0, 0, 0, 0]
def leastL : List Int := [0, 0, 0, 0, 0, 0, 0, 32768, 0, 0, 0, 0, 0, 0, 0, 0, 0, 0, 0, 0]
def topL : List Int := [0, 0, 0, 0, 1, 0, 0, 0, 0, 0, 0, 0, 0, 0, 0, 0, 0, 0, 0, 0]
def stp (h p : Int) : Int := IntKind.wrap .u64 (IntKind.wrap .u64 (65536 * h) + p)
def st4 (a b c d : Int) : Int := stp (stp (stp (stp 0 d) c) b) a
theorem wide_read (s1 : Bool) (a0 a1 a2 a3 a4 a5 a6 a7 a8 a9 a10 a11 a12 a13 a14 a15 a16 a17 a18 a19 : Int) (Q : Value → Prop) (oa : Bool) (e_oa : oa = okNum (mapU [a0, a1, a2, a3, a4, a5, a6, a7, a8, a9, a10, a11, a12, a13, a14, a15, a16, a17, a18, a19])) (x : Int) (e_x : x = sv s1 (mag (mapU [a0, a1, a2, a3, a4, a5, a6, a7, a8, a9, a10, a11, a12, a13, a14, a15, a16, a17, a18, a19]))) (u : Int) (e_u : u = st4 a4 a5 a6 a7) (v : Int) (e_v : v = st4 a0 a1 a2 a3) :
    ((ev envR2 300).call [] 16 #[.agg ⟨.bool s1 :: mapU [a0, a1, a2, a3, a4, a5, a6, a7, a8, a9, a10, a11, a12, a13, a14, a15, a16, a17, a18, a19]⟩] [] B0).holds (fun r => Q r.v) =
    bcase (oa && okNum (mapU mostL)) (bcase (decide (cmpI x (sv false (mag (mapU mostL))) > 0)) (Q (.agg ⟨[.int .i64 9223372036854775807, .int .u64 18446744073709551615]⟩))
      (bcase (oa && okNum (mapU leastL)) (bcase (decide (cmpI x (sv true (mag (mapU leastL))) < 0)) (Q (.agg ⟨[.int .i64 (-9223372036854775808), .int .u64 0]⟩))
        (bcase s1 (bcase (decide (v > 0)) (Q (.agg ⟨[.int .i64 (IntKind.wrap .i64 (IntKind.wrap .u64 (IntKind.wrap .u64 (0 - u) - 1))), .int .u64 (IntKind.wrap .u64 (0 - v))]⟩)) (Q (.agg ⟨[.int .i64 (IntKind.wrap .i64 (IntKind.wrap .u64 (0 - u))), .int .u64 (IntKind.wrap .u64 (0 - v))]⟩)))
          (Q (.agg ⟨[.int .i64 (IntKind.wrap .i64 u), .int .u64 v]⟩)))) False)) False := by
  subst e_oa e_x e_u e_v
  kernel_rfl
theorem from_read (h l : Int) (Q : Value → Prop) (z : Int) (e_z : z = mag (mapU (digsN 20 (sz h)))) (m : Int) (e_m : m = mag (mapU (digsN 20 (z * mag (mapU topL))))) (y : Int) (e_y : y = mag (mapU (digsN 20 l))) :
    ((ev envR2 300).call [] 14 #[.agg #[.int .i64 h, .int .u64 l]] [] B0).holds (fun r => Q r.v) =
    bcase (okI h) (bcase (okNum (mapU (digsN 20 (sz h))) && (okNum (mapU topL) && decide (z * mag (mapU topL) < T320)))
      (bcase (okU l) (bcase (okNum (mapU (digsN 20 (z * mag (mapU topL)))) && (okNum (mapU (digsN 20 l)) && (decide (y < T304) && decide (m + y < T320))))
        (Q (nv (addSg (decide (h < 0) != false) m false y) (sz (sv (decide (h < 0) != false) m + sv false y)))) False) False) False) False := by
  subst e_m e_y e_z
  kernel_rfl
theorem ok_most : okNum (mapU mostL) = true := by kernel_rfl
theorem ok_least : okNum (mapU leastL) = true := by kernel_rfl
theorem ok_top : okNum (mapU topL) = true := by kernel_rfl
theorem mag_most : sv false (mag (mapU mostL)) = 170141183460469231731687303715884105727 := by kernel_rfl
theorem mag_least : sv true (mag (mapU leastL)) = -170141183460469231731687303715884105728 := by kernel_rfl
theorem mag_top : mag (mapU topL) = 18446744073709551616 := by kernel_rfl
theorem cmp_gt (a b : Int) : decide (cmpI a b > 0) = decide (b < a) := by
  unfold cmpI; split
  · rename_i h; rw [decide_eq_decide]; omega
  · split
    · rename_i h; rw [decide_eq_decide]; omega
    · rw [decide_eq_decide]; omega
theorem st4_eq {a b c d : Int} (ha : 0 ≤ a ∧ a ≤ 65535) (hb : 0 ≤ b ∧ b ≤ 65535) (hc : 0 ≤ c ∧ c ≤ 65535) (hd : 0 ≤ d ∧ d ≤ 65535) : st4 a b c d = a + 65536 * b + 4294967296 * c + 281474976710656 * d := by
  have s1 : ∀ h p : Int, 0 ≤ h → h ≤ 281474976710655 → 0 ≤ p → p ≤ 65535 → stp h p = 65536 * h + p := fun h p h0 h1 p0 p1 => by
    unfold stp; rw [w64 (n := 65536 * h) (by omega) (by omega)]; exact w64 (by omega) (by omega)
  unfold st4
  rw [s1 0 d (by omega) (by omega) hd.1 hd.2, s1 _ c (by omega) (by omega) hc.1 hc.2, s1 _ b (by omega) (by omega) hb.1 hb.2, s1 _ a (by omega) (by omega) ha.1 ha.2]
  omega
def rwideS : Array Value → Option (Bool × Value)
  | ⟨[.agg ⟨.bool s :: r⟩]⟩ => some (okNum r, wv (clamp (sv s (mag r))))
  | _ => none
def rfromS : Array Value → Option (Bool × Value)
  | ⟨[.agg ⟨[.int .i64 h, .int .u64 l]⟩]⟩ => some (okW h l, nv (decide (W2 h l < 0)) (sz (W2 h l)))
  | _ => none
theorem wideE {a b n : Int} (h0 : 0 ≤ b) (h1 : b ≤ 18446744073709551615) (e : a * 18446744073709551616 + b = n) : Value.agg ⟨[.int .i64 a, .int .u64 b]⟩ = wv n := by
  unfold wv; rw [hi_of h0 h1 e, lo_of h0 h1 e]
set_option maxHeartbeats 2000000 in
def pcRWide : PC Try.prog where
  f := 16
  spec := rwideS
  body := by kernel_rfl
  ok := fun args r hr hok => by
    unfold rwideS at hr
    split at hr
    · rename_i s r
      cases hr
      have hok' : okNum r = true := hok
      obtain ⟨l, rfl, hl, hp, hm⟩ := num_out hok'
      have hb : (#[Value.agg ⟨.bool s :: mapU l⟩] : Array Value).all (bel B0) = true := all_bel (by rw [belL, bel_num]; rfl)
      refine ⟨hb, rfl, fun w => calls_spec envR2 hcokP 300 ?_ hb rfl w⟩
      obtain ⟨a0, a1, a2, a3, a4, a5, a6, a7, a8, a9, a10, a11, a12, a13, a14, a15, a16, a17, a18, a19, rfl⟩ := list20 hl
      refine (wide_read s a0 a1 a2 a3 a4 a5 a6 a7 a8 a9 a10 a11 a12 a13 a14 a15 a16 a17 a18 a19 (fun v => v = wv (clamp (sv s (mag (mapU [a0, a1, a2, a3, a4, a5, a6, a7, a8, a9, a10, a11, a12, a13, a14, a15, a16, a17, a18, a19]))))) _ rfl _ rfl _ rfl _ rfl).mpr ?_
      have hok2 : okNum (mapU [a0, a1, a2, a3, a4, a5, a6, a7, a8, a9, a10, a11, a12, a13, a14, a15, a16, a17, a18, a19]) = true := hok
      rw [hok2, ok_most, ok_least, mag_most, mag_least, Bool.and_self, bcase_t, bcase_t, cmp_gt, cmp_lt, hm]
      have pt := hp.tail.tail.tail.tail.tail.tail.tail.tail
      have hv := (val_bd pt).1
      have b0 := hp.head; have b1 := hp.tail.head; have b2 := hp.tail.tail.head; have b3 := hp.tail.tail.tail.head
      have b4 := hp.tail.tail.tail.tail.head; have b5 := hp.tail.tail.tail.tail.tail.head; have b6 := hp.tail.tail.tail.tail.tail.tail.head; have b7 := hp.tail.tail.tail.tail.tail.tail.tail.head
      have ev8 : val [a0, a1, a2, a3, a4, a5, a6, a7, a8, a9, a10, a11, a12, a13, a14, a15, a16, a17, a18, a19] = a0 + 65536 * (a1 + 65536 * (a2 + 65536 * (a3 + 65536 * (a4 + 65536 * (a5 + 65536 * (a6 + 65536 * (a7 + 65536 * val [a8, a9, a10, a11, a12, a13, a14, a15, a16, a17, a18, a19]))))))) := rfl
      rw [st4_eq b0 b1 b2 b3, st4_eq b4 b5 b6 b7]
      generalize val [a0, a1, a2, a3, a4, a5, a6, a7, a8, a9, a10, a11, a12, a13, a14, a15, a16, a17, a18, a19] = N at *
      generalize val [a8, a9, a10, a11, a12, a13, a14, a15, a16, a17, a18, a19] = V at *
      clear hok hok2 hok' hb hp pt hl hm
      obtain ⟨lo8, hlo⟩ : ∃ x, x = a0 + 65536 * a1 + 4294967296 * a2 + 281474976710656 * a3 := ⟨_, rfl⟩
      obtain ⟨hi8, hhi⟩ : ∃ x, x = a4 + 65536 * a5 + 4294967296 * a6 + 281474976710656 * a7 := ⟨_, rfl⟩
      rw [← hlo, ← hhi]
      have l0 : 0 ≤ lo8 ∧ lo8 ≤ 18446744073709551615 := by omega
      have h0 : 0 ≤ hi8 ∧ hi8 ≤ 18446744073709551615 := by omega
      have eN : N = lo8 + 18446744073709551616 * hi8 + 340282366920938463463374607431768211456 * V := by omega
      clear ev8 hlo hhi b0 b1 b2 b3 b4 b5 b6 b7
      refine bcase_in (fun q => ?_) fun q => bcase_in (fun q2 => ?_) fun q2 => ?_
      · rw [decide_eq_true_eq] at q
        refine wideE (by omega) (by omega) ?_
        unfold clamp; omega
      · rw [decide_eq_true_eq] at q2
        refine wideE (by omega) (by omega) ?_
        unfold clamp; omega
      · rw [decide_eq_false_iff_not] at q q2
        rw [clamp_of (by unfold InR; omega)]
        cases s
        · simp only [bcase_n, sv, cond_false] at *
          refine wideE l0.1 l0.2 ?_
          rw [IntKind.wrap_i64]; omega
        · simp only [bcase_t, sv, cond_true] at *
          have wv0 : IntKind.u64.wrap (0 - lo8) = if lo8 = 0 then 0 else 18446744073709551616 - lo8 := by rw [IntKind.wrap_u64]; split <;> omega
          have wh0 : IntKind.u64.wrap (0 - hi8) = if hi8 = 0 then 0 else 18446744073709551616 - hi8 := by rw [IntKind.wrap_u64]; split <;> omega
          rw [wv0, wh0]
          refine bcase_in (fun q3 => ?_) fun q3 => ?_
          · rw [decide_eq_true_eq] at q3
            refine wideE (by split <;> omega) (by split <;> omega) ?_
            rw [IntKind.wrap_u64, IntKind.wrap_i64]
            split <;> split <;> omega
          · rw [decide_eq_false_iff_not] at q3
            refine wideE (by split <;> omega) (by split <;> omega) ?_
            rw [IntKind.wrap_i64]
            split <;> split <;> omega
    · cases hr
theorem nvE {s s' : Bool} {n n' : Int} (h : s = s') (h2 : n = n') : nv s n = nv s' n' := by rw [h, h2]
def pcRFrom : PC Try.prog where
  f := 14
  spec := rfromS
  body := by kernel_rfl
  ok := fun args r hr hok => by
    unfold rfromS at hr
    split at hr
    · rename_i h l
      cases hr
      have hok' : okW h l = true := hok
      have b := okW_iff.1 hok'
      have kI : okI h = true := okI_iff.2 b.1
      have kU : okU l = true := okU_iff.2 b.2
      refine ⟨all_bel rfl, bel_nv _ _, fun w => calls_spec envR2 hcokP 300 ?_ (all_bel rfl) (bel_nv _ _) w⟩
      have z0 : 0 ≤ sz h ∧ sz h ≤ 9223372036854775808 := by unfold sz; omega
      have e1 : mag (mapU (digsN 20 (sz h))) = sz h := mag_nv z0.1 (by unfold T320; omega)
      have e2 : mag (mapU (digsN 20 (sz h * 18446744073709551616))) = sz h * 18446744073709551616 := mag_nv (by omega) (by unfold T320; omega)
      have e3 : mag (mapU (digsN 20 l)) = l := mag_nv (by omega) (by unfold T320; omega)
      refine (from_read h l (fun v => v = nv (decide (W2 h l < 0)) (sz (W2 h l))) _ rfl _ rfl _ rfl).mpr ?_
      rw [mag_top, e1, e2, e3, kI, kU, ok_nv, ok_nv, ok_nv, ok_top, decide_eq_true (show sz h * 18446744073709551616 < T320 by unfold T320; omega), decide_eq_true (show l < T304 by unfold T304; omega),
        decide_eq_true (show sz h * 18446744073709551616 + l < T320 by unfold T320; omega)]
      simp only [Bool.and_self, bcase_t]
      have ew : W2 h l = h * 18446744073709551616 + l := rfl
      rw [ew]
      cases hd : decide (h < 0)
      · rw [decide_eq_false_iff_not] at hd
        refine nvE ?_ ?_
        · rw [decide_eq_false (by omega)]; rfl
        · have e : sz h = h := by unfold sz; omega
          rw [e]; rfl
      · rw [decide_eq_true_eq] at hd
        have e : sz h = -h := by unfold sz; omega
        refine nvE ?_ ?_
        · rw [decide_eq_true (by omega)]
          have : addSg true (sz h * 18446744073709551616) false l = true := by
            unfold addSg; rw [decide_eq_false (show ¬ sz h * 18446744073709551616 < l by omega)]; rfl
          exact this
        · have : sv (true != false) (sz h * 18446744073709551616) + sv false l = h * 18446744073709551616 + l := by
            rw [e]; show -(-h * 18446744073709551616) + l = _; omega
          rw [this]
    · cases hr
def pcsR : List (PC Try.prog) := [pcRWide, pcRFrom, pcROf, pcRNum, pcRNeg, pcRZero, pcRSize, pcRMul, pcRAdd, pcRCmp]
def envR3 : Env Try.prog := envS.with false pcsR
end
end Go.Proofs.Ytbhgibpocbmipaa

/-
  Pieces of code, one behind another: partings, and returns.
-/
namespace Go.Den
open Go.RowKit
noncomputable section
section
variable {P : Program} {g : AHeap} {c a b : Code} {st s1 s2 : St} {x : Exit} {id : Nat}
theorem sat_seq_ret (hc : c = .seq a b) (h1 : SatCode P g a st .ret s1) : SatCode P g c st .ret s1 := by
  subst hc
  intro ρ w R ht
  refine cwp_of (by intro b h; cases h) (wp_seq ?_)
  refine wp_mono (cwp_wp (h1 ρ w R ht)) ?_
  rintro x a' w' ⟨rfl, ρ', rfl, ht', R', S⟩
  exact ⟨rfl, ρ', rfl, ht', R', S⟩
theorem sat_cond_t {o : Operand} (hc : c = .cond o a b) (ho : opndOk o = true) (hv : evF st.tmps o = .bool true) (h : SatCode P g a st x s1) : SatCode P g c st x s1 := by
  subst hc
  intro ρ w R ht
  have hev : (actOf ρ st.tmps.arr).eval o = .bool true := by rw [actOf_eval R ho, ← evF_eq, hv]; rfl
  exact cwp_of (by intro b h; cases h) (wp_cond hev (cwp_wp (h ρ w R ht)))
theorem sat_cond_f {o : Operand} (hc : c = .cond o a b) (ho : opndOk o = true) (hv : evF st.tmps o = .bool false) (h : SatCode P g b st x s1) : SatCode P g c st x s1 := by
  subst hc
  intro ρ w R ht
  have hev : (actOf ρ st.tmps.arr).eval o = .bool false := by rw [actOf_eval R ho, ← evF_eq, hv]; rfl
  exact cwp_of (by intro b h; cases h) (wp_cond hev (cwp_wp (h ρ w R ht)))
/-- More blocks are known than are wanted: those behind. -/
theorem sat_tail {h u : AHeap} {tm : FT} {nx : Nat} (hs : SatCode P g c ⟨tm, h, nx⟩ x s1) : SatCode P g c ⟨tm, h ++ u, nx⟩ x s1 :=
  sat_drop (s2 := ⟨tm, h, nx⟩) rfl rfl (fun b B hb => by
    show AHeap.get (h ++ u) b = some B
    rw [AHeap.get_append]
    have hb' : AHeap.get h b = some B := hb
    rw [hb']; rfl) hs
end
end
end Go.Den


/-
  The document's quotient: its code in pieces, what stands at the heads of its loops; a power of two.
-/
namespace Go.Proofs.Ytbhgibpocbmipaa
open Go.Den Go.RowKit
noncomputable section
set_option maxRecDepth 100000
def powS : Array Value → Option (Bool × Value)
  | ⟨[.int .i64 n]⟩ => some (decide (0 ≤ n) && decide (n ≤ 15), .int .u64 (2 ^ n.toNat))
  | _ => none
theorem pow_0 : (((ev envT 200).call [] 66 #[.int .i64 0] [] B0).run.map (·.v)) = some (.int .u64 (2 ^ ((0 : Int)).toNat)) := by kernel_rfl
theorem pow_1 : (((ev envT 200).call [] 66 #[.int .i64 1] [] B0).run.map (·.v)) = some (.int .u64 (2 ^ ((1 : Int)).toNat)) := by kernel_rfl
theorem pow_2 : (((ev envT 200).call [] 66 #[.int .i64 2] [] B0).run.map (·.v)) = some (.int .u64 (2 ^ ((2 : Int)).toNat)) := by kernel_rfl
theorem pow_3 : (((ev envT 200).call [] 66 #[.int .i64 3] [] B0).run.map (·.v)) = some (.int .u64 (2 ^ ((3 : Int)).toNat)) := by kernel_rfl
theorem pow_4 : (((ev envT 200).call [] 66 #[.int .i64 4] [] B0).run.map (·.v)) = some (.int .u64 (2 ^ ((4 : Int)).toNat)) := by kernel_rfl
theorem pow_5 : (((ev envT 200).call [] 66 #[.int .i64 5] [] B0).run.map (·.v)) = some (.int .u64 (2 ^ ((5 : Int)).toNat)) := by kernel_rfl
theorem pow_6 : (((ev envT 200).call [] 66 #[.int .i64 6] [] B0).run.map (·.v)) = some (.int .u64 (2 ^ ((6 : Int)).toNat)) := by kernel_rfl
theorem pow_7 : (((ev envT 200).call [] 66 #[.int .i64 7] [] B0).run.map (·.v)) = some (.int .u64 (2 ^ ((7 : Int)).toNat)) := by kernel_rfl
theorem pow_8 : (((ev envT 200).call [] 66 #[.int .i64 8] [] B0).run.map (·.v)) = some (.int .u64 (2 ^ ((8 : Int)).toNat)) := by kernel_rfl
theorem pow_9 : (((ev envT 200).call [] 66 #[.int .i64 9] [] B0).run.map (·.v)) = some (.int .u64 (2 ^ ((9 : Int)).toNat)) := by kernel_rfl
theorem pow_10 : (((ev envT 200).call [] 66 #[.int .i64 10] [] B0).run.map (·.v)) = some (.int .u64 (2 ^ ((10 : Int)).toNat)) := by kernel_rfl
theorem pow_11 : (((ev envT 200).call [] 66 #[.int .i64 11] [] B0).run.map (·.v)) = some (.int .u64 (2 ^ ((11 : Int)).toNat)) := by kernel_rfl
theorem pow_12 : (((ev envT 200).call [] 66 #[.int .i64 12] [] B0).run.map (·.v)) = some (.int .u64 (2 ^ ((12 : Int)).toNat)) := by kernel_rfl
theorem pow_13 : (((ev envT 200).call [] 66 #[.int .i64 13] [] B0).run.map (·.v)) = some (.int .u64 (2 ^ ((13 : Int)).toNat)) := by kernel_rfl
theorem pow_14 : (((ev envT 200).call [] 66 #[.int .i64 14] [] B0).run.map (·.v)) = some (.int .u64 (2 ^ ((14 : Int)).toNat)) := by kernel_rfl
theorem pow_15 : (((ev envT 200).call [] 66 #[.int .i64 15] [] B0).run.map (·.v)) = some (.int .u64 (2 ^ ((15 : Int)).toNat)) := by kernel_rfl
def pcPow : PC Try.prog where
  f := 66
  spec := powS
  body := by kernel_rfl
  ok := fun args r hr hok => by
    unfold powS at hr
    split at hr
    · rename_i n
      cases hr
      simp only [Bool.and_eq_true, decide_eq_true_eq] at hok
      refine ⟨all_bel rfl, rfl, fun w => calls_read envT hcokP 200 ?_ (all_bel rfl) rfl w⟩
      obtain ⟨h0, h1⟩ := hok
      have hn : n = 0 ∨ n = 1 ∨ n = 2 ∨ n = 3 ∨ n = 4 ∨ n = 5 ∨ n = 6 ∨ n = 7 ∨ n = 8 ∨ n = 9 ∨ n = 10 ∨ n = 11 ∨ n = 12 ∨ n = 13 ∨ n = 14 ∨ n = 15 := by omega
      rcases hn with rfl | rfl | rfl | rfl | rfl | rfl | rfl | rfl | rfl | rfl | rfl | rfl | rfl | rfl | rfl | rfl
      · exact pow_0
      · exact pow_1
      · exact pow_2
      · exact pow_3
      · exact pow_4
      · exact pow_5
      · exact pow_6
      · exact pow_7
      · exact pow_8
      · exact pow_9
      · exact pow_10
      · exact pow_11
      · exact pow_12
      · exact pow_13
      · exact pow_14
      · exact pow_15
    · cases hr
noncomputable def envF1 : Env Try.prog := envS.with false (pcPow :: pcsR)
noncomputable def floC : Code := codeOf 31
/-- From the quotient's signs on. -/
noncomputable def floM : Code := cR (cR (cR floC))
noncomputable def floNeg : Code := cL (cR (cL floM))
noncomputable def floPos : Code := cR floM
noncomputable def flpL : Code := cL (cR (cL floPos))
noncomputable def flpB : Code := cL flpL
noncomputable def flnL : Code := cL (cR (cL (cR floNeg)))
noncomputable def flnB : Code := cL flnL
noncomputable def flH (sa sn sq : Bool) (a n q : List Int) : AHeap := [(B0, blkN sa a), (B0 + 1, blkN sn n), (B0 + 2, blkN false [0, 0, 0, 0, 0, 0, 0, 0, 0, 0, 0, 0, 0, 0, 0, 0, 0, 0, 0, 0]), (B0 + 3, blkN sq q)]
noncomputable def flP (m nx : Nat) (zs : List Value) (sa sn sq : Bool) (a n q : List Int) : St :=
  ⟨FT.ins [getZ zs 0, getZ zs 1, ptr B0, ptr (B0 + 1), ptr (B0 + 2), ptr (B0 + 3), getZ zs 6, getZ zs 7, getZ zs 8, .int .i64 ((m : Int) - 1), getZ zs 10, getZ zs 11, getZ zs 12, getZ zs 13, getZ zs 14, getZ zs 15, getZ zs 16, getZ zs 17, getZ zs 18, getZ zs 19, getZ zs 20, getZ zs 21, getZ zs 22, getZ zs 23, getZ zs 24, getZ zs 25, getZ zs 26, getZ zs 27, getZ zs 28, getZ zs 29, getZ zs 30, getZ zs 31, getZ zs 32, getZ zs 33, getZ zs 34, getZ zs 35, getZ zs 36, getZ zs 37, getZ zs 38, getZ zs 39, getZ zs 40, getZ zs 41, getZ zs 42, getZ zs 43, getZ zs 44, getZ zs 45, getZ zs 46, getZ zs 47, getZ zs 48, getZ zs 49, getZ zs 50, getZ zs 51, getZ zs 52, getZ zs 53, getZ zs 54, getZ zs 55, getZ zs 56, getZ zs 57, getZ zs 58, getZ zs 59, getZ zs 60, getZ zs 61, getZ zs 62, getZ zs 63, getZ zs 64, getZ zs 65, getZ zs 66, getZ zs 67, getZ zs 68, getZ zs 69, getZ zs 70, getZ zs 71, getZ zs 72, getZ zs 73, getZ zs 74, getZ zs 75, getZ zs 76, getZ zs 77, getZ zs 78, getZ zs 79, getZ zs 80, getZ zs 81, getZ zs 82, getZ zs 83, getZ zs 84, getZ zs 85] 0 ⟨86, .nil⟩, flH sa sn sq a n q, nx⟩
noncomputable def flN (m nx : Nat) (zs : List Value) (sa sn sq : Bool) (a n q : List Int) : St :=
  ⟨FT.ins [getZ zs 0, getZ zs 1, ptr B0, ptr (B0 + 1), ptr (B0 + 2), ptr (B0 + 3), getZ zs 6, .int .i64 ((m : Int) - 1), getZ zs 8, getZ zs 9, getZ zs 10, getZ zs 11, getZ zs 12, getZ zs 13, getZ zs 14, getZ zs 15, getZ zs 16, getZ zs 17, getZ zs 18, getZ zs 19, getZ zs 20, getZ zs 21, getZ zs 22, getZ zs 23, getZ zs 24, getZ zs 25, getZ zs 26, getZ zs 27, getZ zs 28, getZ zs 29, getZ zs 30, getZ zs 31, getZ zs 32, getZ zs 33, getZ zs 34, getZ zs 35, getZ zs 36, getZ zs 37, getZ zs 38, getZ zs 39, getZ zs 40, getZ zs 41, getZ zs 42, getZ zs 43, getZ zs 44, getZ zs 45, getZ zs 46, getZ zs 47, getZ zs 48, getZ zs 49, getZ zs 50, getZ zs 51, getZ zs 52, getZ zs 53, getZ zs 54, getZ zs 55, getZ zs 56, getZ zs 57, getZ zs 58, getZ zs 59, getZ zs 60, getZ zs 61, getZ zs 62, getZ zs 63, getZ zs 64, getZ zs 65, getZ zs 66, getZ zs 67, getZ zs 68, getZ zs 69, getZ zs 70, getZ zs 71, getZ zs 72, getZ zs 73, getZ zs 74, getZ zs 75, getZ zs 76, getZ zs 77, getZ zs 78, getZ zs 79, getZ zs 80, getZ zs 81, getZ zs 82, getZ zs 83, getZ zs 84, getZ zs 85] 0 ⟨86, .nil⟩, flH sa sn sq a n q, nx⟩
noncomputable def brT (t : Tree (Exit × St)) : Tree (Exit × St) := Tree.rec (motive := fun _ => Tree (Exit × St)) (fun a => .leaf a) (fun _ t _ _ _ => t) .fail t
noncomputable def brF' (t : Tree (Exit × St)) : Tree (Exit × St) := Tree.rec (motive := fun _ => Tree (Exit × St)) (fun a => .leaf a) (fun _ _ f _ _ => f) .fail t
noncomputable def goT (n : Nat) (t : Tree (Exit × St)) : Tree (Exit × St) := Nat.rec (motive := fun _ => Tree (Exit × St) → Tree (Exit × St)) (fun t => t) (fun _ ih t => ih (brT t)) n t
noncomputable def setI (l : List Int) : Nat → Int → List Int := List.rec (motive := fun _ => Nat → Int → List Int) (fun _ _ => []) (fun x r ih i v => Nat.casesOn (motive := fun _ => List Int) i (v :: r) fun j => x :: ih j v) l
noncomputable def getI (l : List Int) : Nat → Int := List.rec (motive := fun _ => Nat → Int) (fun _ => 0) (fun x _ ih i => Nat.casesOn (motive := fun _ => Int) i x fun j => ih j) l
noncomputable def addP (q : List Int) (k : Nat) : List Int := setI q (k / 16) (IntKind.wrap .u64 (getI q (k / 16) + 2 ^ (k % 16)))
noncomputable def subP (q : List Int) (k : Nat) : List Int := setI q (k / 16) (IntKind.wrap .u64 (getI q (k / 16) - 2 ^ (k % 16)))
noncomputable def flpT (k : Nat) (zs : List Value) (sa sn sq : Bool) (a n q : List Int) : Tree (Exit × St) := (ev envF1 100).code [] flpB (flP (k + 1) (B0 + (133 - k)) zs sa sn sq a n q)
noncomputable def flpX (k : Nat) (zs : List Value) (sa sn sq : Bool) (a n q q' : List Int) : St := ⟨(flP k 0 zs sa sn sq a n q).tmps, flH sa sn sq a n q ++ [(B0 + (133 - k), blkN sq q')], B0 + (134 - k)⟩
def flpG (k : Nat) : Prop := ∀ (zs : List Value) (sa sn sq : Bool) (a0 a1 a2 a3 a4 a5 a6 a7 a8 a9 a10 a11 a12 a13 a14 a15 a16 a17 a18 a19 n0 n1 n2 n3 n4 n5 n6 n7 n8 n9 n10 n11 n12 n13 n14 n15 n16 n17 n18 n19 q0 q1 q2 q3 q4 q5 q6 q7 q8 q9 q10 q11 q12 q13 q14 q15 q16 q17 q18 q19 : Int), (flpT k zs sa sn sq [a0, a1, a2, a3, a4, a5, a6, a7, a8, a9, a10, a11, a12, a13, a14, a15, a16, a17, a18, a19] [n0, n1, n2, n3, n4, n5, n6, n7, n8, n9, n10, n11, n12, n13, n14, n15, n16, n17, n18, n19] [q0, q1, q2, q3, q4, q5, q6, q7, q8, q9, q10, q11, q12, q13, q14, q15, q16, q17, q18, q19]).run =
  bif okNum (mapU (addP [q0, q1, q2, q3, q4, q5, q6, q7, q8, q9, q10, q11, q12, q13, q14, q15, q16, q17, q18, q19] k)) && (okNum (mapU [n0, n1, n2, n3, n4, n5, n6, n7, n8, n9, n10, n11, n12, n13, n14, n15, n16, n17, n18, n19]) && decide (mag (mapU (addP [q0, q1, q2, q3, q4, q5, q6, q7, q8, q9, q10, q11, q12, q13, q14, q15, q16, q17, q18, q19] k)) * mag (mapU [n0, n1, n2, n3, n4, n5, n6, n7, n8, n9, n10, n11, n12, n13, n14, n15, n16, n17, n18, n19]) < T320)) then
    bif okNum (mapU (digsN 20 (mag (mapU (addP [q0, q1, q2, q3, q4, q5, q6, q7, q8, q9, q10, q11, q12, q13, q14, q15, q16, q17, q18, q19] k)) * mag (mapU [n0, n1, n2, n3, n4, n5, n6, n7, n8, n9, n10, n11, n12, n13, n14, n15, n16, n17, n18, n19])))) && okNum (mapU [a0, a1, a2, a3, a4, a5, a6, a7, a8, a9, a10, a11, a12, a13, a14, a15, a16, a17, a18, a19]) then
      bif decide (cmpI (sv (sq != sn) (mag (mapU (digsN 20 (mag (mapU (addP [q0, q1, q2, q3, q4, q5, q6, q7, q8, q9, q10, q11, q12, q13, q14, q15, q16, q17, q18, q19] k)) * mag (mapU [n0, n1, n2, n3, n4, n5, n6, n7, n8, n9, n10, n11, n12, n13, n14, n15, n16, n17, n18, n19])))))) (sv sa (mag (mapU [a0, a1, a2, a3, a4, a5, a6, a7, a8, a9, a10, a11, a12, a13, a14, a15, a16, a17, a18, a19]))) ≤ 0) then
        some (.normal, flpX k (tlOf (outOf (goT 46 (flpT k zs sa sn sq [a0, a1, a2, a3, a4, a5, a6, a7, a8, a9, a10, a11, a12, a13, a14, a15, a16, a17, a18, a19] [n0, n1, n2, n3, n4, n5, n6, n7, n8, n9, n10, n11, n12, n13, n14, n15, n16, n17, n18, n19] [q0, q1, q2, q3, q4, q5, q6, q7, q8, q9, q10, q11, q12, q13, q14, q15, q16, q17, q18, q19]))).2) sa sn sq [a0, a1, a2, a3, a4, a5, a6, a7, a8, a9, a10, a11, a12, a13, a14, a15, a16, a17, a18, a19] [n0, n1, n2, n3, n4, n5, n6, n7, n8, n9, n10, n11, n12, n13, n14, n15, n16, n17, n18, n19] (addP [q0, q1, q2, q3, q4, q5, q6, q7, q8, q9, q10, q11, q12, q13, q14, q15, q16, q17, q18, q19] k) (addP [q0, q1, q2, q3, q4, q5, q6, q7, q8, q9, q10, q11, q12, q13, q14, q15, q16, q17, q18, q19] k))
      else some (.normal, flpX k (tlOf (outOf (brF' (goT 45 (flpT k zs sa sn sq [a0, a1, a2, a3, a4, a5, a6, a7, a8, a9, a10, a11, a12, a13, a14, a15, a16, a17, a18, a19] [n0, n1, n2, n3, n4, n5, n6, n7, n8, n9, n10, n11, n12, n13, n14, n15, n16, n17, n18, n19] [q0, q1, q2, q3, q4, q5, q6, q7, q8, q9, q10, q11, q12, q13, q14, q15, q16, q17, q18, q19])))).2) sa sn sq [a0, a1, a2, a3, a4, a5, a6, a7, a8, a9, a10, a11, a12, a13, a14, a15, a16, a17, a18, a19] [n0, n1, n2, n3, n4, n5, n6, n7, n8, n9, n10, n11, n12, n13, n14, n15, n16, n17, n18, n19] [q0, q1, q2, q3, q4, q5, q6, q7, q8, q9, q10, q11, q12, q13, q14, q15, q16, q17, q18, q19] (addP [q0, q1, q2, q3, q4, q5, q6, q7, q8, q9, q10, q11, q12, q13, q14, q15, q16, q17, q18, q19] k))
    else none
  else none
noncomputable def flnT (k : Nat) (zs : List Value) (sa sn sq : Bool) (a n q : List Int) : Tree (Exit × St) := (ev envF1 100).code [] flnB (flN (k + 1) (B0 + (133 - k)) zs sa sn sq a n q)
noncomputable def flnX (k : Nat) (zs : List Value) (sa sn sq : Bool) (a n q q' : List Int) : St := ⟨(flN k 0 zs sa sn sq a n q).tmps, flH sa sn sq a n q ++ [(B0 + (133 - k), blkN sq q')], B0 + (134 - k)⟩
def flnG (k : Nat) : Prop := ∀ (zs : List Value) (sa sn sq : Bool) (a0 a1 a2 a3 a4 a5 a6 a7 a8 a9 a10 a11 a12 a13 a14 a15 a16 a17 a18 a19 n0 n1 n2 n3 n4 n5 n6 n7 n8 n9 n10 n11 n12 n13 n14 n15 n16 n17 n18 n19 q0 q1 q2 q3 q4 q5 q6 q7 q8 q9 q10 q11 q12 q13 q14 q15 q16 q17 q18 q19 : Int), (flnT k zs sa sn sq [a0, a1, a2, a3, a4, a5, a6, a7, a8, a9, a10, a11, a12, a13, a14, a15, a16, a17, a18, a19] [n0, n1, n2, n3, n4, n5, n6, n7, n8, n9, n10, n11, n12, n13, n14, n15, n16, n17, n18, n19] [q0, q1, q2, q3, q4, q5, q6, q7, q8, q9, q10, q11, q12, q13, q14, q15, q16, q17, q18, q19]).run =
  bif okNum (mapU (subP [q0, q1, q2, q3, q4, q5, q6, q7, q8, q9, q10, q11, q12, q13, q14, q15, q16, q17, q18, q19] k)) && (okNum (mapU [n0, n1, n2, n3, n4, n5, n6, n7, n8, n9, n10, n11, n12, n13, n14, n15, n16, n17, n18, n19]) && decide (mag (mapU (subP [q0, q1, q2, q3, q4, q5, q6, q7, q8, q9, q10, q11, q12, q13, q14, q15, q16, q17, q18, q19] k)) * mag (mapU [n0, n1, n2, n3, n4, n5, n6, n7, n8, n9, n10, n11, n12, n13, n14, n15, n16, n17, n18, n19]) < T320)) then
    bif okNum (mapU (digsN 20 (mag (mapU (subP [q0, q1, q2, q3, q4, q5, q6, q7, q8, q9, q10, q11, q12, q13, q14, q15, q16, q17, q18, q19] k)) * mag (mapU [n0, n1, n2, n3, n4, n5, n6, n7, n8, n9, n10, n11, n12, n13, n14, n15, n16, n17, n18, n19])))) && okNum (mapU [a0, a1, a2, a3, a4, a5, a6, a7, a8, a9, a10, a11, a12, a13, a14, a15, a16, a17, a18, a19]) then
      bif decide (cmpI (sv (sq != sn) (mag (mapU (digsN 20 (mag (mapU (subP [q0, q1, q2, q3, q4, q5, q6, q7, q8, q9, q10, q11, q12, q13, q14, q15, q16, q17, q18, q19] k)) * mag (mapU [n0, n1, n2, n3, n4, n5, n6, n7, n8, n9, n10, n11, n12, n13, n14, n15, n16, n17, n18, n19])))))) (sv sa (mag (mapU [a0, a1, a2, a3, a4, a5, a6, a7, a8, a9, a10, a11, a12, a13, a14, a15, a16, a17, a18, a19]))) ≤ 0) then
        some (.normal, flnX k (tlOf (outOf (goT 46 (flnT k zs sa sn sq [a0, a1, a2, a3, a4, a5, a6, a7, a8, a9, a10, a11, a12, a13, a14, a15, a16, a17, a18, a19] [n0, n1, n2, n3, n4, n5, n6, n7, n8, n9, n10, n11, n12, n13, n14, n15, n16, n17, n18, n19] [q0, q1, q2, q3, q4, q5, q6, q7, q8, q9, q10, q11, q12, q13, q14, q15, q16, q17, q18, q19]))).2) sa sn sq [a0, a1, a2, a3, a4, a5, a6, a7, a8, a9, a10, a11, a12, a13, a14, a15, a16, a17, a18, a19] [n0, n1, n2, n3, n4, n5, n6, n7, n8, n9, n10, n11, n12, n13, n14, n15, n16, n17, n18, n19] (subP [q0, q1, q2, q3, q4, q5, q6, q7, q8, q9, q10, q11, q12, q13, q14, q15, q16, q17, q18, q19] k) (subP [q0, q1, q2, q3, q4, q5, q6, q7, q8, q9, q10, q11, q12, q13, q14, q15, q16, q17, q18, q19] k))
      else some (.normal, flnX k (tlOf (outOf (brF' (goT 45 (flnT k zs sa sn sq [a0, a1, a2, a3, a4, a5, a6, a7, a8, a9, a10, a11, a12, a13, a14, a15, a16, a17, a18, a19] [n0, n1, n2, n3, n4, n5, n6, n7, n8, n9, n10, n11, n12, n13, n14, n15, n16, n17, n18, n19] [q0, q1, q2, q3, q4, q5, q6, q7, q8, q9, q10, q11, q12, q13, q14, q15, q16, q17, q18, q19])))).2) sa sn sq [a0, a1, a2, a3, a4, a5, a6, a7, a8, a9, a10, a11, a12, a13, a14, a15, a16, a17, a18, a19] [n0, n1, n2, n3, n4, n5, n6, n7, n8, n9, n10, n11, n12, n13, n14, n15, n16, n17, n18, n19] [q0, q1, q2, q3, q4, q5, q6, q7, q8, q9, q10, q11, q12, q13, q14, q15, q16, q17, q18, q19] (subP [q0, q1, q2, q3, q4, q5, q6, q7, q8, q9, q10, q11, q12, q13, q14, q15, q16, q17, q18, q19] k))
    else none
  else none
end
end Go.Proofs.Ytbhgibpocbmipaa


/-
  The arithmetic of the document's quotient, bit by bit. No program is named here.
-/
namespace Go.Proofs.Ytbhgibpocbmipaa
open Go.Den
noncomputable section
theorem setI_len : ∀ (l : List Int) (i : Nat) (v : Int), (setI l i v).length = l.length
  | [], _, _ => rfl
  | _ :: _, 0, _ => rfl
  | _ :: r, i + 1, v => by show (setI r i v).length + 1 = _; rw [setI_len r, List.length_cons]
theorem setI_pcs : ∀ (l : List Int) (i : Nat) (v : Int), Pcs l → 0 ≤ v ∧ v ≤ 65535 → Pcs (setI l i v)
  | [], _, _, h, _ => h
  | _ :: _, 0, _, h, hv => .cons hv h.tail
  | _ :: r, i + 1, v, h, hv => .cons h.head (setI_pcs r i v h.tail hv)
theorem val_setI : ∀ (l : List Int) (i : Nat) (d : Int), i < l.length → val (setI l i (getI l i + d)) = val l + B16 i * d
  | [], i, d, h => by simp at h
  | x :: r, 0, d, _ => by show val ((x + d) :: r) = _; rw [val, val, B16_0]; omega
  | x :: r, i + 1, d, h => by
    show val (x :: setI r i (getI r i + d)) = _
    rw [val, val_setI r i d (by simpa using h), val, B16_s, Int.mul_add, Int.mul_assoc]; omega
theorem getI_digit : ∀ (l : List Int) (i : Nat), Pcs l → i < l.length → getI l i = val l / B16 i % 65536
  | [], i, _, h => by simp at h
  | x :: r, 0, hp, _ => by
    have := hp.head
    show x = _
    rw [val, B16_0, Int.ediv_one]; omega
  | x :: r, i + 1, hp, h => by
    have := hp.head
    show getI r i = _
    rw [getI_digit r i hp.tail (by simpa using h), val, B16_s, ← Int.ediv_ediv_of_nonneg (by omega), show (x + 65536 * val r) / 65536 = val r by omega]
theorem two_pow (k : Nat) : (2 : Int) ^ k = B16 (k / 16) * 2 ^ (k % 16) := by
  unfold B16
  have e : (65536 : Int) = 2 ^ 16 := by rfl
  rw [e, ← Int.pow_mul, ← Int.pow_add, Nat.div_add_mod]
theorem p2_pos (k : Nat) : (1 : Int) ≤ 2 ^ k := by
  have : (0 : Int) < 2 ^ k := Int.pow_pos (by omega)
  omega
theorem p2_s (k : Nat) : (2 : Int) ^ (k + 1) = 2 * 2 ^ k := by rw [Int.pow_succ]; omega
theorem gap_up : ∀ (r : Nat) (X m : Int), r < 16 → X = 2 ^ (r + 1) * m → 0 ≤ X % 65536 + 2 ^ r ∧ X % 65536 + 2 ^ r ≤ 65535
  | 0, X, m, _, h => by simp only [Nat.reduceAdd, Int.reducePow] at h ⊢; omega
  | 1, X, m, _, h => by simp only [Nat.reduceAdd, Int.reducePow] at h ⊢; omega
  | 2, X, m, _, h => by simp only [Nat.reduceAdd, Int.reducePow] at h ⊢; omega
  | 3, X, m, _, h => by simp only [Nat.reduceAdd, Int.reducePow] at h ⊢; omega
  | 4, X, m, _, h => by simp only [Nat.reduceAdd, Int.reducePow] at h ⊢; omega
  | 5, X, m, _, h => by simp only [Nat.reduceAdd, Int.reducePow] at h ⊢; omega
  | 6, X, m, _, h => by simp only [Nat.reduceAdd, Int.reducePow] at h ⊢; omega
  | 7, X, m, _, h => by simp only [Nat.reduceAdd, Int.reducePow] at h ⊢; omega
  | 8, X, m, _, h => by simp only [Nat.reduceAdd, Int.reducePow] at h ⊢; omega
  | 9, X, m, _, h => by simp only [Nat.reduceAdd, Int.reducePow] at h ⊢; omega
  | 10, X, m, _, h => by simp only [Nat.reduceAdd, Int.reducePow] at h ⊢; omega
  | 11, X, m, _, h => by simp only [Nat.reduceAdd, Int.reducePow] at h ⊢; omega
  | 12, X, m, _, h => by simp only [Nat.reduceAdd, Int.reducePow] at h ⊢; omega
  | 13, X, m, _, h => by simp only [Nat.reduceAdd, Int.reducePow] at h ⊢; omega
  | 14, X, m, _, h => by simp only [Nat.reduceAdd, Int.reducePow] at h ⊢; omega
  | 15, X, m, _, h => by simp only [Nat.reduceAdd, Int.reducePow] at h ⊢; omega
  | r + 16, X, m, hr, h => by omega
theorem gap_down : ∀ (r : Nat) (X m : Int), r < 16 → X = 2 ^ (r + 1) * m - 1 → 0 ≤ X % 65536 - 2 ^ r ∧ X % 65536 - 2 ^ r ≤ 65535
  | 0, X, m, _, h => by simp only [Nat.reduceAdd, Int.reducePow] at h ⊢; omega
  | 1, X, m, _, h => by simp only [Nat.reduceAdd, Int.reducePow] at h ⊢; omega
  | 2, X, m, _, h => by simp only [Nat.reduceAdd, Int.reducePow] at h ⊢; omega
  | 3, X, m, _, h => by simp only [Nat.reduceAdd, Int.reducePow] at h ⊢; omega
  | 4, X, m, _, h => by simp only [Nat.reduceAdd, Int.reducePow] at h ⊢; omega
  | 5, X, m, _, h => by simp only [Nat.reduceAdd, Int.reducePow] at h ⊢; omega
  | 6, X, m, _, h => by simp only [Nat.reduceAdd, Int.reducePow] at h ⊢; omega
  | 7, X, m, _, h => by simp only [Nat.reduceAdd, Int.reducePow] at h ⊢; omega
  | 8, X, m, _, h => by simp only [Nat.reduceAdd, Int.reducePow] at h ⊢; omega
  | 9, X, m, _, h => by simp only [Nat.reduceAdd, Int.reducePow] at h ⊢; omega
  | 10, X, m, _, h => by simp only [Nat.reduceAdd, Int.reducePow] at h ⊢; omega
  | 11, X, m, _, h => by simp only [Nat.reduceAdd, Int.reducePow] at h ⊢; omega
  | 12, X, m, _, h => by simp only [Nat.reduceAdd, Int.reducePow] at h ⊢; omega
  | 13, X, m, _, h => by simp only [Nat.reduceAdd, Int.reducePow] at h ⊢; omega
  | 14, X, m, _, h => by simp only [Nat.reduceAdd, Int.reducePow] at h ⊢; omega
  | 15, X, m, _, h => by simp only [Nat.reduceAdd, Int.reducePow] at h ⊢; omega
  | r + 16, X, m, hr, h => by omega
theorem addP_ok {q : List Int} {k : Nat} {c : Int} (hl : q.length = 20) (hp : Pcs q) (hk : k < 130) (hc : val q = 2 ^ (k + 1) * c) : Pcs (addP q k) ∧ (addP q k).length = 20 ∧ val (addP q k) = val q + 2 ^ k := by
  have hi : k / 16 < q.length := by rw [hl]; omega
  have bp := B16_pos (k / 16)
  have e1 : val q / B16 (k / 16) = 2 ^ (k % 16 + 1) * c := by
    rw [hc, p2_s, two_pow k, p2_s, show 2 * (B16 (k / 16) * 2 ^ (k % 16)) * c = B16 (k / 16) * (2 * 2 ^ (k % 16) * c) by rw [Int.mul_left_comm 2, Int.mul_assoc (B16 _)], Int.mul_ediv_cancel_left _ (by omega)]
  have g := gap_up (k % 16) _ c (by omega) e1
  have gd := getI_digit q (k / 16) hp hi
  rw [← gd] at g
  have ew : IntKind.wrap .u64 (getI q (k / 16) + 2 ^ (k % 16)) = getI q (k / 16) + 2 ^ (k % 16) := w64 (by omega) (by omega)
  unfold addP
  rw [ew]
  exact ⟨setI_pcs _ _ _ hp (by omega), by rw [setI_len, hl], by rw [val_setI _ _ _ hi, ← two_pow]⟩
theorem subP_ok {q : List Int} {k : Nat} {c : Int} (hl : q.length = 20) (hp : Pcs q) (hk : k < 130) (hc : val q + 1 = 2 ^ (k + 1) * c) : Pcs (subP q k) ∧ (subP q k).length = 20 ∧ val (subP q k) = val q - 2 ^ k := by
  have hi : k / 16 < q.length := by rw [hl]; omega
  have bp := B16_pos (k / 16)
  have e1 : val q / B16 (k / 16) = 2 ^ (k % 16 + 1) * c - 1 := by
    have e2 : val q = (B16 (k / 16) - 1) + B16 (k / 16) * (2 ^ (k % 16 + 1) * c - 1) := by
      rw [Int.mul_sub, Int.mul_one, p2_s, show B16 (k / 16) * (2 * 2 ^ (k % 16) * c) = 2 * (B16 (k / 16) * 2 ^ (k % 16)) * c by rw [Int.mul_left_comm 2, Int.mul_assoc (B16 _)], ← two_pow, ← p2_s]; omega
    rw [e2, Int.add_mul_ediv_left _ _ (by omega), Int.ediv_eq_zero_of_lt (by omega) (by omega)]; omega
  have g := gap_down (k % 16) _ c (by omega) e1
  have gd := getI_digit q (k / 16) hp hi
  rw [← gd] at g
  have pp := p2_pos (k % 16)
  have ew : IntKind.wrap .u64 (getI q (k / 16) - 2 ^ (k % 16)) = getI q (k / 16) + -2 ^ (k % 16) := by rw [w64 (by omega) (by omega)]; omega
  unfold subP
  rw [ew]
  refine ⟨setI_pcs _ _ _ hp (by omega), by rw [setI_len, hl], ?_⟩
  rw [val_setI _ _ _ hi, Int.mul_neg, ← two_pow]; omega
/-- What holds where m bits are to be told, from above and from below. -/
structure UpTo (a n : Int) (m : Nat) (q : List Int) : Prop where
  len : q.length = 20
  pcs : Pcs q
  low : ∃ c, val q = 2 ^ m * c
  top : val q + 2 ^ m ≤ 1361129467683753853853498429727072845824
  le : val q * n ≤ a
  lt : a < (val q + 2 ^ m) * n
structure DownTo (a n : Int) (m : Nat) (q : List Int) : Prop where
  len : q.length = 20
  pcs : Pcs q
  low : ∃ c, val q + 1 = 2 ^ m * c
  top : val q + 1 ≤ 1361129467683753853853498429727072845824
  bot : 2 ^ m ≤ val q + 1
  le : a ≤ val q * n
  lt : (val q - 2 ^ m) * n < a
theorem UpTo.step {a n : Int} {k : Nat} {q : List Int} (h : UpTo a n (k + 1) q) (hk : k < 130) :
    (Pcs (addP q k) ∧ (addP q k).length = 20 ∧ val (addP q k) = val q + 2 ^ k) ∧ ((val q + 2 ^ k) * n ≤ a → UpTo a n k (addP q k)) ∧ (a < (val q + 2 ^ k) * n → UpTo a n k q) := by
  obtain ⟨c, hc⟩ := h.low
  have g := addP_ok h.len h.pcs hk hc
  have pp := p2_pos k
  have top := h.top
  have lt := h.lt
  rw [p2_s] at top lt hc
  refine ⟨g, fun hle => ⟨g.2.1, g.1, ⟨2 * c + 1, ?_⟩, by rw [g.2.2]; omega, by rw [g.2.2]; exact hle, ?_⟩, fun hlt => ⟨h.len, h.pcs, ⟨2 * c, ?_⟩, by omega, h.le, hlt⟩⟩
  · rw [g.2.2, hc, Int.mul_add, Int.mul_left_comm, Int.mul_assoc]; omega
  · rw [g.2.2, show val q + 2 ^ k + 2 ^ k = val q + 2 * 2 ^ k by omega]; exact lt
  · rw [hc, Int.mul_left_comm, Int.mul_assoc]
theorem DownTo.step {a n : Int} {k : Nat} {q : List Int} (h : DownTo a n (k + 1) q) (hk : k < 130) :
    (Pcs (subP q k) ∧ (subP q k).length = 20 ∧ val (subP q k) = val q - 2 ^ k) ∧ (a ≤ (val q - 2 ^ k) * n → DownTo a n k (subP q k)) ∧ ((val q - 2 ^ k) * n < a → DownTo a n k q) := by
  obtain ⟨c, hc⟩ := h.low
  have g := subP_ok h.len h.pcs hk hc
  have pp := p2_pos k
  have top := h.top
  have lt := h.lt
  have bot := h.bot
  rw [p2_s] at bot lt hc
  refine ⟨g, fun hle => ⟨g.2.1, g.1, ⟨2 * c - 1, ?_⟩, by rw [g.2.2]; omega, by rw [g.2.2]; omega, by rw [g.2.2]; exact hle, ?_⟩, fun hlt => ⟨h.len, h.pcs, ⟨2 * c, ?_⟩, by omega, by omega, h.le, hlt⟩⟩
  · rw [g.2.2, show val q - 2 ^ k + 1 = val q + 1 - 2 ^ k by omega, hc, Int.mul_sub, Int.mul_left_comm, Int.mul_assoc]; omega
  · rw [g.2.2, show val q - 2 ^ k - 2 ^ k = val q - 2 * 2 ^ k by omega]; exact lt
  · rw [hc, Int.mul_left_comm, Int.mul_assoc]
/-- A product on the way is small. -/
theorem way {x n : Int} (h0 : 0 ≤ x) (h1 : x ≤ 1361129467683753853853498429727072845824) (n0 : 0 ≤ n) (n1 : n ≤ 18446744073709551616) : 0 ≤ x * n ∧ x * n < T320 := by
  have := Int.mul_le_mul h1 n1 n0 (by omega)
  have := Int.mul_nonneg h0 n0
  unfold T320; omega
theorem cmp_le (a b : Int) : decide (cmpI a b ≤ 0) = decide (a ≤ b) := by
  unfold cmpI; split
  · rename_i h; rw [decide_eq_decide]; omega
  · split
    · rename_i h; rw [decide_eq_decide]; omega
    · rw [decide_eq_decide]; omega
end
end Go.Proofs.Ytbhgibpocbmipaa


/-
  The rounds of the document's quotient, read one by one (flp 0 to 32).
-/
namespace Go.Proofs.Ytbhgibpocbmipaa
open Go.Den Go.RowKit
noncomputable section
set_option maxRecDepth 100000
theorem flp_0 : flpG 0 := by
  intro zs sa sn sq a0 a1 a2 a3 a4 a5 a6 a7 a8 a9 a10 a11 a12 a13 a14 a15 a16 a17 a18 a19 n0 n1 n2 n3 n4 n5 n6 n7 n8 n9 n10 n11 n12 n13 n14 n15 n16 n17 n18 n19 q0 q1 q2 q3 q4 q5 q6 q7 q8 q9 q10 q11 q12 q13 q14 q15 q16 q17 q18 q19
  kernel_rfl
theorem flp_1 : flpG 1 := by
  intro zs sa sn sq a0 a1 a2 a3 a4 a5 a6 a7 a8 a9 a10 a11 a12 a13 a14 a15 a16 a17 a18 a19 n0 n1 n2 n3 n4 n5 n6 n7 n8 n9 n10 n11 n12 n13 n14 n15 n16 n17 n18 n19 q0 q1 q2 q3 q4 q5 q6 q7 q8 q9 q10 q11 q12 q13 q14 q15 q16 q17 q18 q19
  kernel_rfl
theorem flp_2 : flpG 2 := by
  intro zs sa sn sq a0 a1 a2 a3 a4 a5 a6 a7 a8 a9 a10 a11 a12 a13 a14 a15 a16 a17 a18 a19 n0 n1 n2 n3 n4 n5 n6 n7 n8 n9 n10 n11 n12 n13 n14 n15 n16 n17 n18 n19 q0 q1 q2 q3 q4 q5 q6 q7 q8 q9 q10 q11 q12 q13 q14 q15 q16 q17 q18 q19
  kernel_rfl
theorem flp_3 : flpG 3 := by
  intro zs sa sn sq a0 a1 a2 a3 a4 a5 a6 a7 a8 a9 a10 a11 a12 a13 a14 a15 a16 a17 a18 a19 n0 n1 n2 n3 n4 n5 n6 n7 n8 n9 n10 n11 n12 n13 n14 n15 n16 n17 n18 n19 q0 q1 q2 q3 q4 q5 q6 q7 q8 q9 q10 q11 q12 q13 q14 q15 q16 q17 q18 q19
  kernel_rfl
theorem flp_4 : flpG 4 := by
  intro zs sa sn sq a0 a1 a2 a3 a4 a5 a6 a7 a8 a9 a10 a11 a12 a13 a14 a15 a16 a17 a18 a19 n0 n1 n2 n3 n4 n5 n6 n7 n8 n9 n10 n11 n12 n13 n14 n15 n16 n17 n18 n19 q0 q1 q2 q3 q4 q5 q6 q7 q8 q9 q10 q11 q12 q13 q14 q15 q16 q17 q18 q19
  kernel_rfl
theorem flp_5 : flpG 5 := by
  intro zs sa sn sq a0 a1 a2 a3 a4 a5 a6 a7 a8 a9 a10 a11 a12 a13 a14 a15 a16 a17 a18 a19 n0 n1 n2 n3 n4 n5 n6 n7 n8 n9 n10 n11 n12 n13 n14 n15 n16 n17 n18 n19 q0 q1 q2 q3 q4 q5 q6 q7 q8 q9 q10 q11 q12 q13 q14 q15 q16 q17 q18 q19
  kernel_rfl
theorem flp_6 : flpG 6 := by
  intro zs sa sn sq a0 a1 a2 a3 a4 a5 a6 a7 a8 a9 a10 a11 a12 a13 a14 a15 a16 a17 a18 a19 n0 n1 n2 n3 n4 n5 n6 n7 n8 n9 n10 n11 n12 n13 n14 n15 n16 n17 n18 n19 q0 q1 q2 q3 q4 q5 q6 q7 q8 q9 q10 q11 q12 q13 q14 q15 q16 q17 q18 q19
  kernel_rfl
theorem flp_7 : flpG 7 := by
  intro zs sa sn sq a0 a1 a2 a3 a4 a5 a6 a7 a8 a9 a10 a11 a12 a13 a14 a15 a16 a17 a18 a19 n0 n1 n2 n3 n4 n5 n6 n7 n8 n9 n10 n11 n12 n13 n14 n15 n16 n17 n18 n19 q0 q1 q2 q3 q4 q5 q6 q7 q8 q9 q10 q11 q12 q13 q14 q15 q16 q17 q18 q19
  kernel_rfl
theorem flp_8 : flpG 8 := by
  intro zs sa sn sq a0 a1 a2 a3 a4 a5 a6 a7 a8 a9 a10 a11 a12 a13 a14 a15 a16 a17 a18 a19 n0 n1 n2 n3 n4 n5 n6 n7 n8 n9 n10 n11 n12 n13 n14 n15 n16 n17 n18 n19 q0 q1 q2 q3 q4 q5 q6 q7 q8 q9 q10 q11 q12 q13 q14 q15 q16 q17 q18 q19
  kernel_rfl
theorem flp_9 : flpG 9 := by
  intro zs sa sn sq a0 a1 a2 a3 a4 a5 a6 a7 a8 a9 a10 a11 a12 a13 a14 a15 a16 a17 a18 a19 n0 n1 n2 n3 n4 n5 n6 n7 n8 n9 n10 n11 n12 n13 n14 n15 n16 n17 n18 n19 q0 q1 q2 q3 q4 q5 q6 q7 q8 q9 q10 q11 q12 q13 q14 q15 q16 q17 q18 q19
  kernel_rfl
theorem flp_10 : flpG 10 := by
  intro zs sa sn sq a0 a1 a2 a3 a4 a5 a6 a7 a8 a9 a10 a11 a12 a13 a14 a15 a16 a17 a18 a19 n0 n1 n2 n3 n4 n5 n6 n7 n8 n9 n10 n11 n12 n13 n14 n15 n16 n17 n18 n19 q0 q1 q2 q3 q4 q5 q6 q7 q8 q9 q10 q11 q12 q13 q14 q15 q16 q17 q18 q19
  kernel_rfl
theorem flp_11 : flpG 11 := by
  intro zs sa sn sq a0 a1 a2 a3 a4 a5 a6 a7 a8 a9 a10 a11 a12 a13 a14 a15 a16 a17 a18 a19 n0 n1 n2 n3 n4 n5 n6 n7 n8 n9 n10 n11 n12 n13 n14 n15 n16 n17 n18 n19 q0 q1 q2 q3 q4 q5 q6 q7 q8 q9 q10 q11 q12 q13 q14 q15 q16 q17 q18 q19
  kernel_rfl
theorem flp_12 : flpG 12 := by
  intro zs sa sn sq a0 a1 a2 a3 a4 a5 a6 a7 a8 a9 a10 a11 a12 a13 a14 a15 a16 a17 a18 a19 n0 n1 n2 n3 n4 n5 n6 n7 n8 n9 n10 n11 n12 n13 n14 n15 n16 n17 n18 n19 q0 q1 q2 q3 q4 q5 q6 q7 q8 q9 q10 q11 q12 q13 q14 q15 q16 q17 q18 q19
  kernel_rfl
theorem flp_13 : flpG 13 := by
  intro zs sa sn sq a0 a1 a2 a3 a4 a5 a6 a7 a8 a9 a10 a11 a12 a13 a14 a15 a16 a17 a18 a19 n0 n1 n2 n3 n4 n5 n6 n7 n8 n9 n10 n11 n12 n13 n14 n15 n16 n17 n18 n19 q0 q1 q2 q3 q4 q5 q6 q7 q8 q9 q10 q11 q12 q13 q14 q15 q16 q17 q18 q19
  kernel_rfl
theorem flp_14 : flpG 14 := by
  intro zs sa sn sq a0 a1 a2 a3 a4 a5 a6 a7 a8 a9 a10 a11 a12 a13 a14 a15 a16 a17 a18 a19 n0 n1 n2 n3 n4 n5 n6 n7 n8 n9 n10 n11 n12 n13 n14 n15 n16 n17 n18 n19 q0 q1 q2 q3 q4 q5 q6 q7 q8 q9 q10 q11 q12 q13 q14 q15 q16 q17 q18 q19
  kernel_rfl
theorem flp_15 : flpG 15 := by
  intro zs sa sn sq a0 a1 a2 a3 a4 a5 a6 a7 a8 a9 a10 a11 a12 a13 a14 a15 a16 a17 a18 a19 n0 n1 n2 n3 n4 n5 n6 n7 n8 n9 n10 n11 n12 n13 n14 n15 n16 n17 n18 n19 q0 q1 q2 q3 q4 q5 q6 q7 q8 q9 q10 q11 q12 q13 q14 q15 q16 q17 q18 q19
  kernel_rfl
theorem flp_16 : flpG 16 := by
  intro zs sa sn sq a0 a1 a2 a3 a4 a5 a6 a7 a8 a9 a10 a11 a12 a13 a14 a15 a16 a17 a18 a19 n0 n1 n2 n3 n4 n5 n6 n7 n8 n9 n10 n11 n12 n13 n14 n15 n16 n17 n18 n19 q0 q1 q2 q3 q4 q5 q6 q7 q8 q9 q10 q11 q12 q13 q14 q15 q16 q17 q18 q19
  kernel_rfl
theorem flp_17 : flpG 17 := by
  intro zs sa sn sq a0 a1 a2 a3 a4 a5 a6 a7 a8 a9 a10 a11 a12 a13 a14 a15 a16 a17 a18 a19 n0 n1 n2 n3 n4 n5 n6 n7 n8 n9 n10 n11 n12 n13 n14 n15 n16 n17 n18 n19 q0 q1 q2 q3 q4 q5 q6 q7 q8 q9 q10 q11 q12 q13 q14 q15 q16 q17 q18 q19
  kernel_rfl
theorem flp_18 : flpG 18 := by
  intro zs sa sn sq a0 a1 a2 a3 a4 a5 a6 a7 a8 a9 a10 a11 a12 a13 a14 a15 a16 a17 a18 a19 n0 n1 n2 n3 n4 n5 n6 n7 n8 n9 n10 n11 n12 n13 n14 n15 n16 n17 n18 n19 q0 q1 q2 q3 q4 q5 q6 q7 q8 q9 q10 q11 q12 q13 q14 q15 q16 q17 q18 q19
  kernel_rfl
theorem flp_19 : flpG 19 := by
  intro zs sa sn sq a0 a1 a2 a3 a4 a5 a6 a7 a8 a9 a10 a11 a12 a13 a14 a15 a16 a17 a18 a19 n0 n1 n2 n3 n4 n5 n6 n7 n8 n9 n10 n11 n12 n13 n14 n15 n16 n17 n18 n19 q0 q1 q2 q3 q4 q5 q6 q7 q8 q9 q10 q11 q12 q13 q14 q15 q16 q17 q18 q19
  kernel_rfl
theorem flp_20 : flpG 20 := by
  intro zs sa sn sq a0 a1 a2 a3 a4 a5 a6 a7 a8 a9 a10 a11 a12 a13 a14 a15 a16 a17 a18 a19 n0 n1 n2 n3 n4 n5 n6 n7 n8 n9 n10 n11 n12 n13 n14 n15 n16 n17 n18 n19 q0 q1 q2 q3 q4 q5 q6 q7 q8 q9 q10 q11 q12 q13 q14 q15 q16 q17 q18 q19
  kernel_rfl
theorem flp_21 : flpG 21 := by
  intro zs sa sn sq a0 a1 a2 a3 a4 a5 a6 a7 a8 a9 a10 a11 a12 a13 a14 a15 a16 a17 a18 a19 n0 n1 n2 n3 n4 n5 n6 n7 n8 n9 n10 n11 n12 n13 n14 n15 n16 n17 n18 n19 q0 q1 q2 q3 q4 q5 q6 q7 q8 q9 q10 q11 q12 q13 q14 q15 q16 q17 q18 q19
  kernel_rfl
theorem flp_22 : flpG 22 := by
  intro zs sa sn sq a0 a1 a2 a3 a4 a5 a6 a7 a8 a9 a10 a11 a12 a13 a14 a15 a16 a17 a18 a19 n0 n1 n2 n3 n4 n5 n6 n7 n8 n9 n10 n11 n12 n13 n14 n15 n16 n17 n18 n19 q0 q1 q2 q3 q4 q5 q6 q7 q8 q9 q10 q11 q12 q13 q14 q15 q16 q17 q18 q19
  kernel_rfl
theorem flp_23 : flpG 23 := by
  intro zs sa sn sq a0 a1 a2 a3 a4 a5 a6 a7 a8 a9 a10 a11 a12 a13 a14 a15 a16 a17 a18 a19 n0 n1 n2 n3 n4 n5 n6 n7 n8 n9 n10 n11 n12 n13 n14 n15 n16 n17 n18 n19 q0 q1 q2 q3 q4 q5 q6 q7 q8 q9 q10 q11 q12 q13 q14 q15 q16 q17 q18 q19
  kernel_rfl
theorem flp_24 : flpG 24 := by
  intro zs sa sn sq a0 a1 a2 a3 a4 a5 a6 a7 a8 a9 a10 a11 a12 a13 a14 a15 a16 a17 a18 a19 n0 n1 n2 n3 n4 n5 n6 n7 n8 n9 n10 n11 n12 n13 n14 n15 n16 n17 n18 n19 q0 q1 q2 q3 q4 q5 q6 q7 q8 q9 q10 q11 q12 q13 q14 q15 q16 q17 q18 q19
  kernel_rfl
theorem flp_25 : flpG 25 := by
  intro zs sa sn sq a0 a1 a2 a3 a4 a5 a6 a7 a8 a9 a10 a11 a12 a13 a14 a15 a16 a17 a18 a19 n0 n1 n2 n3 n4 n5 n6 n7 n8 n9 n10 n11 n12 n13 n14 n15 n16 n17 n18 n19 q0 q1 q2 q3 q4 q5 q6 q7 q8 q9 q10 q11 q12 q13 q14 q15 q16 q17 q18 q19
  kernel_rfl
theorem flp_26 : flpG 26 := by
  intro zs sa sn sq a0 a1 a2 a3 a4 a5 a6 a7 a8 a9 a10 a11 a12 a13 a14 a15 a16 a17 a18 a19 n0 n1 n2 n3 n4 n5 n6 n7 n8 n9 n10 n11 n12 n13 n14 n15 n16 n17 n18 n19 q0 q1 q2 q3 q4 q5 q6 q7 q8 q9 q10 q11 q12 q13 q14 q15 q16 q17 q18 q19
  kernel_rfl
theorem flp_27 : flpG 27 := by
  intro zs sa sn sq a0 a1 a2 a3 a4 a5 a6 a7 a8 a9 a10 a11 a12 a13 a14 a15 a16 a17 a18 a19 n0 n1 n2 n3 n4 n5 n6 n7 n8 n9 n10 n11 n12 n13 n14 n15 n16 n17 n18 n19 q0 q1 q2 q3 q4 q5 q6 q7 q8 q9 q10 q11 q12 q13 q14 q15 q16 q17 q18 q19
  kernel_rfl
theorem flp_28 : flpG 28 := by
  intro zs sa sn sq a0 a1 a2 a3 a4 a5 a6 a7 a8 a9 a10 a11 a12 a13 a14 a15 a16 a17 a18 a19 n0 n1 n2 n3 n4 n5 n6 n7 n8 n9 n10 n11 n12 n13 n14 n15 n16 n17 n18 n19 q0 q1 q2 q3 q4 q5 q6 q7 q8 q9 q10 q11 q12 q13 q14 q15 q16 q17 q18 q19
  kernel_rfl
theorem flp_29 : flpG 29 := by
  intro zs sa sn sq a0 a1 a2 a3 a4 a5 a6 a7 a8 a9 a10 a11 a12 a13 a14 a15 a16 a17 a18 a19 n0 n1 n2 n3 n4 n5 n6 n7 n8 n9 n10 n11 n12 n13 n14 n15 n16 n17 n18 n19 q0 q1 q2 q3 q4 q5 q6 q7 q8 q9 q10 q11 q12 q13 q14 q15 q16 q17 q18 q19
  kernel_rfl
theorem flp_30 : flpG 30 := by
  intro zs sa sn sq a0 a1 a2 a3 a4 a5 a6 a7 a8 a9 a10 a11 a12 a13 a14 a15 a16 a17 a18 a19 n0 n1 n2 n3 n4 n5 n6 n7 n8 n9 n10 n11 n12 n13 n14 n15 n16 n17 n18 n19 q0 q1 q2 q3 q4 q5 q6 q7 q8 q9 q10 q11 q12 q13 q14 q15 q16 q17 q18 q19
  kernel_rfl
theorem flp_31 : flpG 31 := by
  intro zs sa sn sq a0 a1 a2 a3 a4 a5 a6 a7 a8 a9 a10 a11 a12 a13 a14 a15 a16 a17 a18 a19 n0 n1 n2 n3 n4 n5 n6 n7 n8 n9 n10 n11 n12 n13 n14 n15 n16 n17 n18 n19 q0 q1 q2 q3 q4 q5 q6 q7 q8 q9 q10 q11 q12 q13 q14 q15 q16 q17 q18 q19
  kernel_rfl
theorem flp_32 : flpG 32 := by
  intro zs sa sn sq a0 a1 a2 a3 a4 a5 a6 a7 a8 a9 a10 a11 a12 a13 a14 a15 a16 a17 a18 a19 n0 n1 n2 n3 n4 n5 n6 n7 n8 n9 n10 n11 n12 n13 n14 n15 n16 n17 n18 n19 q0 q1 q2 q3 q4 q5 q6 q7 q8 q9 q10 q11 q12 q13 q14 q15 q16 q17 q18 q19
  kernel_rfl
end
end Go.Proofs.Ytbhgibpocbmipaa


/-
  The rounds of the document's quotient, read one by one (flp 33 to 65).
-/
namespace Go.Proofs.Ytbhgibpocbmipaa
open Go.Den Go.RowKit
noncomputable section
set_option maxRecDepth 100000
theorem flp_33 : flpG 33 := by
  intro zs sa sn sq a0 a1 a2 a3 a4 a5 a6 a7 a8 a9 a10 a11 a12 a13 a14 a15 a16 a17 a18 a19 n0 n1 n2 n3 n4 n5 n6 n7 n8 n9 n10 n11 n12 n13 n14 n15 n16 n17 n18 n19 q0 q1 q2 q3 q4 q5 q6 q7 q8 q9 q10 q11 q12 q13 q14 q15 q16 q17 q18 q19
  kernel_rfl
theorem flp_34 : flpG 34 := by
  intro zs sa sn sq a0 a1 a2 a3 a4 a5 a6 a7 a8 a9 a10 a11 a12 a13 a14 a15 a16 a17 a18 a19 n0 n1 n2 n3 n4 n5 n6 n7 n8 n9 n10 n11 n12 n13 n14 n15 n16 n17 n18 n19 q0 q1 q2 q3 q4 q5 q6 q7 q8 q9 q10 q11 q12 q13 q14 q15 q16 q17 q18 q19
  kernel_rfl
theorem flp_35 : flpG 35 := by
  intro zs sa sn sq a0 a1 a2 a3 a4 a5 a6 a7 a8 a9 a10 a11 a12 a13 a14 a15 a16 a17 a18 a19 n0 n1 n2 n3 n4 n5 n6 n7 n8 n9 n10 n11 n12 n13 n14 n15 n16 n17 n18 n19 q0 q1 q2 q3 q4 q5 q6 q7 q8 q9 q10 q11 q12 q13 q14 q15 q16 q17 q18 q19
  kernel_rfl
theorem flp_36 : flpG 36 := by
  intro zs sa sn sq a0 a1 a2 a3 a4 a5 a6 a7 a8 a9 a10 a11 a12 a13 a14 a15 a16 a17 a18 a19 n0 n1 n2 n3 n4 n5 n6 n7 n8 n9 n10 n11 n12 n13 n14 n15 n16 n17 n18 n19 q0 q1 q2 q3 q4 q5 q6 q7 q8 q9 q10 q11 q12 q13 q14 q15 q16 q17 q18 q19
  kernel_rfl
theorem flp_37 : flpG 37 := by
  intro zs sa sn sq a0 a1 a2 a3 a4 a5 a6 a7 a8 a9 a10 a11 a12 a13 a14 a15 a16 a17 a18 a19 n0 n1 n2 n3 n4 n5 n6 n7 n8 n9 n10 n11 n12 n13 n14 n15 n16 n17 n18 n19 q0 q1 q2 q3 q4 q5 q6 q7 q8 q9 q10 q11 q12 q13 q14 q15 q16 q17 q18 q19
  kernel_rfl
theorem flp_38 : flpG 38 := by
  intro zs sa sn sq a0 a1 a2 a3 a4 a5 a6 a7 a8 a9 a10 a11 a12 a13 a14 a15 a16 a17 a18 a19 n0 n1 n2 n3 n4 n5 n6 n7 n8 n9 n10 n11 n12 n13 n14 n15 n16 n17 n18 n19 q0 q1 q2 q3 q4 q5 q6 q7 q8 q9 q10 q11 q12 q13 q14 q15 q16 q17 q18 q19
  kernel_rfl
theorem flp_39 : flpG 39 := by
  intro zs sa sn sq a0 a1 a2 a3 a4 a5 a6 a7 a8 a9 a10 a11 a12 a13 a14 a15 a16 a17 a18 a19 n0 n1 n2 n3 n4 n5 n6 n7 n8 n9 n10 n11 n12 n13 n14 n15 n16 n17 n18 n19 q0 q1 q2 q3 q4 q5 q6 q7 q8 q9 q10 q11 q12 q13 q14 q15 q16 q17 q18 q19
  kernel_rfl
theorem flp_40 : flpG 40 := by
  intro zs sa sn sq a0 a1 a2 a3 a4 a5 a6 a7 a8 a9 a10 a11 a12 a13 a14 a15 a16 a17 a18 a19 n0 n1 n2 n3 n4 n5 n6 n7 n8 n9 n10 n11 n12 n13 n14 n15 n16 n17 n18 n19 q0 q1 q2 q3 q4 q5 q6 q7 q8 q9 q10 q11 q12 q13 q14 q15 q16 q17 q18 q19
  kernel_rfl
theorem flp_41 : flpG 41 := by
  intro zs sa sn sq a0 a1 a2 a3 a4 a5 a6 a7 a8 a9 a10 a11 a12 a13 a14 a15 a16 a17 a18 a19 n0 n1 n2 n3 n4 n5 n6 n7 n8 n9 n10 n11 n12 n13 n14 n15 n16 n17 n18 n19 q0 q1 q2 q3 q4 q5 q6 q7 q8 q9 q10 q11 q12 q13 q14 q15 q16 q17 q18 q19
  kernel_rfl
theorem flp_42 : flpG 42 := by
  intro zs sa sn sq a0 a1 a2 a3 a4 a5 a6 a7 a8 a9 a10 a11 a12 a13 a14 a15 a16 a17 a18 a19 n0 n1 n2 n3 n4 n5 n6 n7 n8 n9 n10 n11 n12 n13 n14 n15 n16 n17 n18 n19 q0 q1 q2 q3 q4 q5 q6 q7 q8 q9 q10 q11 q12 q13 q14 q15 q16 q17 q18 q19
  kernel_rfl
theorem flp_43 : flpG 43 := by
  intro zs sa sn sq a0 a1 a2 a3 a4 a5 a6 a7 a8 a9 a10 a11 a12 a13 a14 a15 a16 a17 a18 a19 n0 n1 n2 n3 n4 n5 n6 n7 n8 n9 n10 n11 n12 n13 n14 n15 n16 n17 n18 n19 q0 q1 q2 q3 q4 q5 q6 q7 q8 q9 q10 q11 q12 q13 q14 q15 q16 q17 q18 q19
  kernel_rfl
theorem flp_44 : flpG 44 := by
  intro zs sa sn sq a0 a1 a2 a3 a4 a5 a6 a7 a8 a9 a10 a11 a12 a13 a14 a15 a16 a17 a18 a19 n0 n1 n2 n3 n4 n5 n6 n7 n8 n9 n10 n11 n12 n13 n14 n15 n16 n17 n18 n19 q0 q1 q2 q3 q4 q5 q6 q7 q8 q9 q10 q11 q12 q13 q14 q15 q16 q17 q18 q19
  kernel_rfl
theorem flp_45 : flpG 45 := by
  intro zs sa sn sq a0 a1 a2 a3 a4 a5 a6 a7 a8 a9 a10 a11 a12 a13 a14 a15 a16 a17 a18 a19 n0 n1 n2 n3 n4 n5 n6 n7 n8 n9 n10 n11 n12 n13 n14 n15 n16 n17 n18 n19 q0 q1 q2 q3 q4 q5 q6 q7 q8 q9 q10 q11 q12 q13 q14 q15 q16 q17 q18 q19
  kernel_rfl
theorem flp_46 : flpG 46 := by
  intro zs sa sn sq a0 a1 a2 a3 a4 a5 a6 a7 a8 a9 a10 a11 a12 a13 a14 a15 a16 a17 a18 a19 n0 n1 n2 n3 n4 n5 n6 n7 n8 n9 n10 n11 n12 n13 n14 n15 n16 n17 n18 n19 q0 q1 q2 q3 q4 q5 q6 q7 q8 q9 q10 q11 q12 q13 q14 q15 q16 q17 q18 q19
  kernel_rfl
theorem flp_47 : flpG 47 := by
  intro zs sa sn sq a0 a1 a2 a3 a4 a5 a6 a7 a8 a9 a10 a11 a12 a13 a14 a15 a16 a17 a18 a19 n0 n1 n2 n3 n4 n5 n6 n7 n8 n9 n10 n11 n12 n13 n14 n15 n16 n17 n18 n19 q0 q1 q2 q3 q4 q5 q6 q7 q8 q9 q10 q11 q12 q13 q14 q15 q16 q17 q18 q19
  kernel_rfl
theorem flp_48 : flpG 48 := by
  intro zs sa sn sq a0 a1 a2 a3 a4 a5 a6 a7 a8 a9 a10 a11 a12 a13 a14 a15 a16 a17 a18 a19 n0 n1 n2 n3 n4 n5 n6 n7 n8 n9 n10 n11 n12 n13 n14 n15 n16 n17 n18 n19 q0 q1 q2 q3 q4 q5 q6 q7 q8 q9 q10 q11 q12 q13 q14 q15 q16 q17 q18 q19
  kernel_rfl
theorem flp_49 : flpG 49 := by
  intro zs sa sn sq a0 a1 a2 a3 a4 a5 a6 a7 a8 a9 a10 a11 a12 a13 a14 a15 a16 a17 a18 a19 n0 n1 n2 n3 n4 n5 n6 n7 n8 n9 n10 n11 n12 n13 n14 n15 n16 n17 n18 n19 q0 q1 q2 q3 q4 q5 q6 q7 q8 q9 q10 q11 q12 q13 q14 q15 q16 q17 q18 q19
  kernel_rfl
theorem flp_50 : flpG 50 := by
  intro zs sa sn sq a0 a1 a2 a3 a4 a5 a6 a7 a8 a9 a10 a11 a12 a13 a14 a15 a16 a17 a18 a19 n0 n1 n2 n3 n4 n5 n6 n7 n8 n9 n10 n11 n12 n13 n14 n15 n16 n17 n18 n19 q0 q1 q2 q3 q4 q5 q6 q7 q8 q9 q10 q11 q12 q13 q14 q15 q16 q17 q18 q19
  kernel_rfl
theorem flp_51 : flpG 51 := by
  intro zs sa sn sq a0 a1 a2 a3 a4 a5 a6 a7 a8 a9 a10 a11 a12 a13 a14 a15 a16 a17 a18 a19 n0 n1 n2 n3 n4 n5 n6 n7 n8 n9 n10 n11 n12 n13 n14 n15 n16 n17 n18 n19 q0 q1 q2 q3 q4 q5 q6 q7 q8 q9 q10 q11 q12 q13 q14 q15 q16 q17 q18 q19
  kernel_rfl
theorem flp_52 : flpG 52 := by
  intro zs sa sn sq a0 a1 a2 a3 a4 a5 a6 a7 a8 a9 a10 a11 a12 a13 a14 a15 a16 a17 a18 a19 n0 n1 n2 n3 n4 n5 n6 n7 n8 n9 n10 n11 n12 n13 n14 n15 n16 n17 n18 n19 q0 q1 q2 q3 q4 q5 q6 q7 q8 q9 q10 q11 q12 q13 q14 q15 q16 q17 q18 q19
  kernel_rfl
theorem flp_53 : flpG 53 := by
  intro zs sa sn sq a0 a1 a2 a3 a4 a5 a6 a7 a8 a9 a10 a11 a12 a13 a14 a15 a16 a17 a18 a19 n0 n1 n2 n3 n4 n5 n6 n7 n8 n9 n10 n11 n12 n13 n14 n15 n16 n17 n18 n19 q0 q1 q2 q3 q4 q5 q6 q7 q8 q9 q10 q11 q12 q13 q14 q15 q16 q17 q18 q19
  kernel_rfl
theorem flp_54 : flpG 54 := by
  intro zs sa sn sq a0 a1 a2 a3 a4 a5 a6 a7 a8 a9 a10 a11 a12 a13 a14 a15 a16 a17 a18 a19 n0 n1 n2 n3 n4 n5 n6 n7 n8 n9 n10 n11 n12 n13 n14 n15 n16 n17 n18 n19 q0 q1 q2 q3 q4 q5 q6 q7 q8 q9 q10 q11 q12 q13 q14 q15 q16 q17 q18 q19
  kernel_rfl
theorem flp_55 : flpG 55 := by
  intro zs sa sn sq a0 a1 a2 a3 a4 a5 a6 a7 a8 a9 a10 a11 a12 a13 a14 a15 a16 a17 a18 a19 n0 n1 n2 n3 n4 n5 n6 n7 n8 n9 n10 n11 n12 n13 n14 n15 n16 n17 n18 n19 q0 q1 q2 q3 q4 q5 q6 q7 q8 q9 q10 q11 q12 q13 q14 q15 q16 q17 q18 q19
  kernel_rfl
theorem flp_56 : flpG 56 := by
  intro zs sa sn sq a0 a1 a2 a3 a4 a5 a6 a7 a8 a9 a10 a11 a12 a13 a14 a15 a16 a17 a18 a19 n0 n1 n2 n3 n4 n5 n6 n7 n8 n9 n10 n11 n12 n13 n14 n15 n16 n17 n18 n19 q0 q1 q2 q3 q4 q5 q6 q7 q8 q9 q10 q11 q12 q13 q14 q15 q16 q17 q18 q19
  kernel_rfl
theorem flp_57 : flpG 57 := by
  intro zs sa sn sq a0 a1 a2 a3 a4 a5 a6 a7 a8 a9 a10 a11 a12 a13 a14 a15 a16 a17 a18 a19 n0 n1 n2 n3 n4 n5 n6 n7 n8 n9 n10 n11 n12 n13 n14 n15 n16 n17 n18 n19 q0 q1 q2 q3 q4 q5 q6 q7 q8 q9 q10 q11 q12 q13 q14 q15 q16 q17 q18 q19
  kernel_rfl
theorem flp_58 : flpG 58 := by
  intro zs sa sn sq a0 a1 a2 a3 a4 a5 a6 a7 a8 a9 a10 a11 a12 a13 a14 a15 a16 a17 a18 a19 n0 n1 n2 n3 n4 n5 n6 n7 n8 n9 n10 n11 n12 n13 n14 n15 n16 n17 n18 n19 q0 q1 q2 q3 q4 q5 q6 q7 q8 q9 q10 q11 q12 q13 q14 q15 q16 q17 q18 q19
  kernel_rfl
theorem flp_59 : flpG 59 := by
  intro zs sa sn sq a0 a1 a2 a3 a4 a5 a6 a7 a8 a9 a10 a11 a12 a13 a14 a15 a16 a17 a18 a19 n0 n1 n2 n3 n4 n5 n6 n7 n8 n9 n10 n11 n12 n13 n14 n15 n16 n17 n18 n19 q0 q1 q2 q3 q4 q5 q6 q7 q8 q9 q10 q11 q12 q13 q14 q15 q16 q17 q18 q19
  kernel_rfl
theorem flp_60 : flpG 60 := by
  intro zs sa sn sq a0 a1 a2 a3 a4 a5 a6 a7 a8 a9 a10 a11 a12 a13 a14 a15 a16 a17 a18 a19 n0 n1 n2 n3 n4 n5 n6 n7 n8 n9 n10 n11 n12 n13 n14 n15 n16 n17 n18 n19 q0 q1 q2 q3 q4 q5 q6 q7 q8 q9 q10 q11 q12 q13 q14 q15 q16 q17 q18 q19
  kernel_rfl
theorem flp_61 : flpG 61 := by
  intro zs sa sn sq a0 a1 a2 a3 a4 a5 a6 a7 a8 a9 a10 a11 a12 a13 a14 a15 a16 a17 a18 a19 n0 n1 n2 n3 n4 n5 n6 n7 n8 n9 n10 n11 n12 n13 n14 n15 n16 n17 n18 n19 q0 q1 q2 q3 q4 q5 q6 q7 q8 q9 q10 q11 q12 q13 q14 q15 q16 q17 q18 q19
  kernel_rfl
theorem flp_62 : flpG 62 := by
  intro zs sa sn sq a0 a1 a2 a3 a4 a5 a6 a7 a8 a9 a10 a11 a12 a13 a14 a15 a16 a17 a18 a19 n0 n1 n2 n3 n4 n5 n6 n7 n8 n9 n10 n11 n12 n13 n14 n15 n16 n17 n18 n19 q0 q1 q2 q3 q4 q5 q6 q7 q8 q9 q10 q11 q12 q13 q14 q15 q16 q17 q18 q19
  kernel_rfl
theorem flp_63 : flpG 63 := by
  intro zs sa sn sq a0 a1 a2 a3 a4 a5 a6 a7 a8 a9 a10 a11 a12 a13 a14 a15 a16 a17 a18 a19 n0 n1 n2 n3 n4 n5 n6 n7 n8 n9 n10 n11 n12 n13 n14 n15 n16 n17 n18 n19 q0 q1 q2 q3 q4 q5 q6 q7 q8 q9 q10 q11 q12 q13 q14 q15 q16 q17 q18 q19
  kernel_rfl
theorem flp_64 : flpG 64 := by
  intro zs sa sn sq a0 a1 a2 a3 a4 a5 a6 a7 a8 a9 a10 a11 a12 a13 a14 a15 a16 a17 a18 a19 n0 n1 n2 n3 n4 n5 n6 n7 n8 n9 n10 n11 n12 n13 n14 n15 n16 n17 n18 n19 q0 q1 q2 q3 q4 q5 q6 q7 q8 q9 q10 q11 q12 q13 q14 q15 q16 q17 q18 q19
  kernel_rfl
theorem flp_65 : flpG 65 := by
  intro zs sa sn sq a0 a1 a2 a3 a4 a5 a6 a7 a8 a9 a10 a11 a12 a13 a14 a15 a16 a17 a18 a19 n0 n1 n2 n3 n4 n5 n6 n7 n8 n9 n10 n11 n12 n13 n14 n15 n16 n17 n18 n19 q0 q1 q2 q3 q4 q5 q6 q7 q8 q9 q10 q11 q12 q13 q14 q15 q16 q17 q18 q19
  kernel_rfl
end
end Go.Proofs.Ytbhgibpocbmipaa


/-
  The rounds of the document's quotient, read one by one (flp 66 to 97).
-/
namespace Go.Proofs.Ytbhgibpocbmipaa
open Go.Den Go.RowKit
noncomputable section
set_option maxRecDepth 100000
theorem flp_66 : flpG 66 := by
  intro zs sa sn sq a0 a1 a2 a3 a4 a5 a6 a7 a8 a9 a10 a11 a12 a13 a14 a15 a16 a17 a18 a19 n0 n1 n2 n3 n4 n5 n6 n7 n8 n9 n10 n11 n12 n13 n14 n15 n16 n17 n18 n19 q0 q1 q2 q3 q4 q5 q6 q7 q8 q9 q10 q11 q12 q13 q14 q15 q16 q17 q18 q19
  kernel_rfl
theorem flp_67 : flpG 67 := by
  intro zs sa sn sq a0 a1 a2 a3 a4 a5 a6 a7 a8 a9 a10 a11 a12 a13 a14 a15 a16 a17 a18 a19 n0 n1 n2 n3 n4 n5 n6 n7 n8 n9 n10 n11 n12 n13 n14 n15 n16 n17 n18 n19 q0 q1 q2 q3 q4 q5 q6 q7 q8 q9 q10 q11 q12 q13 q14 q15 q16 q17 q18 q19
  kernel_rfl
theorem flp_68 : flpG 68 := by
  intro zs sa sn sq a0 a1 a2 a3 a4 a5 a6 a7 a8 a9 a10 a11 a12 a13 a14 a15 a16 a17 a18 a19 n0 n1 n2 n3 n4 n5 n6 n7 n8 n9 n10 n11 n12 n13 n14 n15 n16 n17 n18 n19 q0 q1 q2 q3 q4 q5 q6 q7 q8 q9 q10 q11 q12 q13 q14 q15 q16 q17 q18 q19
  kernel_rfl
theorem flp_69 : flpG 69 := by
  intro zs sa sn sq a0 a1 a2 a3 a4 a5 a6 a7 a8 a9 a10 a11 a12 a13 a14 a15 a16 a17 a18 a19 n0 n1 n2 n3 n4 n5 n6 n7 n8 n9 n10 n11 n12 n13 n14 n15 n16 n17 n18 n19 q0 q1 q2 q3 q4 q5 q6 q7 q8 q9 q10 q11 q12 q13 q14 q15 q16 q17 q18 q19
  kernel_rfl
theorem flp_70 : flpG 70 := by
  intro zs sa sn sq a0 a1 a2 a3 a4 a5 a6 a7 a8 a9 a10 a11 a12 a13 a14 a15 a16 a17 a18 a19 n0 n1 n2 n3 n4 n5 n6 n7 n8 n9 n10 n11 n12 n13 n14 n15 n16 n17 n18 n19 q0 q1 q2 q3 q4 q5 q6 q7 q8 q9 q10 q11 q12 q13 q14 q15 q16 q17 q18 q19
  kernel_rfl
theorem flp_71 : flpG 71 := by
  intro zs sa sn sq a0 a1 a2 a3 a4 a5 a6 a7 a8 a9 a10 a11 a12 a13 a14 a15 a16 a17 a18 a19 n0 n1 n2 n3 n4 n5 n6 n7 n8 n9 n10 n11 n12 n13 n14 n15 n16 n17 n18 n19 q0 q1 q2 q3 q4 q5 q6 q7 q8 q9 q10 q11 q12 q13 q14 q15 q16 q17 q18 q19
  kernel_rfl
theorem flp_72 : flpG 72 := by
  intro zs sa sn sq a0 a1 a2 a3 a4 a5 a6 a7 a8 a9 a10 a11 a12 a13 a14 a15 a16 a17 a18 a19 n0 n1 n2 n3 n4 n5 n6 n7 n8 n9 n10 n11 n12 n13 n14 n15 n16 n17 n18 n19 q0 q1 q2 q3 q4 q5 q6 q7 q8 q9 q10 q11 q12 q13 q14 q15 q16 q17 q18 q19
  kernel_rfl
theorem flp_73 : flpG 73 := by
  intro zs sa sn sq a0 a1 a2 a3 a4 a5 a6 a7 a8 a9 a10 a11 a12 a13 a14 a15 a16 a17 a18 a19 n0 n1 n2 n3 n4 n5 n6 n7 n8 n9 n10 n11 n12 n13 n14 n15 n16 n17 n18 n19 q0 q1 q2 q3 q4 q5 q6 q7 q8 q9 q10 q11 q12 q13 q14 q15 q16 q17 q18 q19
  kernel_rfl
theorem flp_74 : flpG 74 := by
  intro zs sa sn sq a0 a1 a2 a3 a4 a5 a6 a7 a8 a9 a10 a11 a12 a13 a14 a15 a16 a17 a18 a19 n0 n1 n2 n3 n4 n5 n6 n7 n8 n9 n10 n11 n12 n13 n14 n15 n16 n17 n18 n19 q0 q1 q2 q3 q4 q5 q6 q7 q8 q9 q10 q11 q12 q13 q14 q15 q16 q17 q18 q19
  kernel_rfl
theorem flp_75 : flpG 75 := by
  intro zs sa sn sq a0 a1 a2 a3 a4 a5 a6 a7 a8 a9 a10 a11 a12 a13 a14 a15 a16 a17 a18 a19 n0 n1 n2 n3 n4 n5 n6 n7 n8 n9 n10 n11 n12 n13 n14 n15 n16 n17 n18 n19 q0 q1 q2 q3 q4 q5 q6 q7 q8 q9 q10 q11 q12 q13 q14 q15 q16 q17 q18 q19
  kernel_rfl
theorem flp_76 : flpG 76 := by
  intro zs sa sn sq a0 a1 a2 a3 a4 a5 a6 a7 a8 a9 a10 a11 a12 a13 a14 a15 a16 a17 a18 a19 n0 n1 n2 n3 n4 n5 n6 n7 n8 n9 n10 n11 n12 n13 n14 n15 n16 n17 n18 n19 q0 q1 q2 q3 q4 q5 q6 q7 q8 q9 q10 q11 q12 q13 q14 q15 q16 q17 q18 q19
  kernel_rfl
theorem flp_77 : flpG 77 := by
  intro zs sa sn sq a0 a1 a2 a3 a4 a5 a6 a7 a8 a9 a10 a11 a12 a13 a14 a15 a16 a17 a18 a19 n0 n1 n2 n3 n4 n5 n6 n7 n8 n9 n10 n11 n12 n13 n14 n15 n16 n17 n18 n19 q0 q1 q2 q3 q4 q5 q6 q7 q8 q9 q10 q11 q12 q13 q14 q15 q16 q17 q18 q19
  kernel_rfl
theorem flp_78 : flpG 78 := by
  intro zs sa sn sq a0 a1 a2 a3 a4 a5 a6 a7 a8 a9 a10 a11 a12 a13 a14 a15 a16 a17 a18 a19 n0 n1 n2 n3 n4 n5 n6 n7 n8 n9 n10 n11 n12 n13 n14 n15 n16 n17 n18 n19 q0 q1 q2 q3 q4 q5 q6 q7 q8 q9 q10 q11 q12 q13 q14 q15 q16 q17 q18 q19
  kernel_rfl
theorem flp_79 : flpG 79 := by
  intro zs sa sn sq a0 a1 a2 a3 a4 a5 a6 a7 a8 a9 a10 a11 a12 a13 a14 a15 a16 a17 a18 a19 n0 n1 n2 n3 n4 n5 n6 n7 n8 n9 n10 n11 n12 n13 n14 n15 n16 n17 n18 n19 q0 q1 q2 q3 q4 q5 q6 q7 q8 q9 q10 q11 q12 q13 q14 q15 q16 q17 q18 q19
  kernel_rfl
theorem flp_80 : flpG 80 := by
  intro zs sa sn sq a0 a1 a2 a3 a4 a5 a6 a7 a8 a9 a10 a11 a12 a13 a14 a15 a16 a17 a18 a19 n0 n1 n2 n3 n4 n5 n6 n7 n8 n9 n10 n11 n12 n13 n14 n15 n16 n17 n18 n19 q0 q1 q2 q3 q4 q5 q6 q7 q8 q9 q10 q11 q12 q13 q14 q15 q16 q17 q18 q19
  kernel_rfl
theorem flp_81 : flpG 81 := by
  intro zs sa sn sq a0 a1 a2 a3 a4 a5 a6 a7 a8 a9 a10 a11 a12 a13 a14 a15 a16 a17 a18 a19 n0 n1 n2 n3 n4 n5 n6 n7 n8 n9 n10 n11 n12 n13 n14 n15 n16 n17 n18 n19 q0 q1 q2 q3 q4 q5 q6 q7 q8 q9 q10 q11 q12 q13 q14 q15 q16 q17 q18 q19
  kernel_rfl
theorem flp_82 : flpG 82 := by
  intro zs sa sn sq a0 a1 a2 a3 a4 a5 a6 a7 a8 a9 a10 a11 a12 a13 a14 a15 a16 a17 a18 a19 n0 n1 n2 n3 n4 n5 n6 n7 n8 n9 n10 n11 n12 n13 n14 n15 n16 n17 n18 n19 q0 q1 q2 q3 q4 q5 q6 q7 q8 q9 q10 q11 q12 q13 q14 q15 q16 q17 q18 q19
  kernel_rfl
theorem flp_83 : flpG 83 := by
  intro zs sa sn sq a0 a1 a2 a3 a4 a5 a6 a7 a8 a9 a10 a11 a12 a13 a14 a15 a16 a17 a18 a19 n0 n1 n2 n3 n4 n5 n6 n7 n8 n9 n10 n11 n12 n13 n14 n15 n16 n17 n18 n19 q0 q1 q2 q3 q4 q5 q6 q7 q8 q9 q10 q11 q12 q13 q14 q15 q16 q17 q18 q19
  kernel_rfl
theorem flp_84 : flpG 84 := by
  intro zs sa sn sq a0 a1 a2 a3 a4 a5 a6 a7 a8 a9 a10 a11 a12 a13 a14 a15 a16 a17 a18 a19 n0 n1 n2 n3 n4 n5 n6 n7 n8 n9 n10 n11 n12 n13 n14 n15 n16 n17 n18 n19 q0 q1 q2 q3 q4 q5 q6 q7 q8 q9 q10 q11 q12 q13 q14 q15 q16 q17 q18 q19
  kernel_rfl
theorem flp_85 : flpG 85 := by
  intro zs sa sn sq a0 a1 a2 a3 a4 a5 a6 a7 a8 a9 a10 a11 a12 a13 a14 a15 a16 a17 a18 a19 n0 n1 n2 n3 n4 n5 n6 n7 n8 n9 n10 n11 n12 n13 n14 n15 n16 n17 n18 n19 q0 q1 q2 q3 q4 q5 q6 q7 q8 q9 q10 q11 q12 q13 q14 q15 q16 q17 q18 q19
  kernel_rfl
theorem flp_86 : flpG 86 := by
  intro zs sa sn sq a0 a1 a2 a3 a4 a5 a6 a7 a8 a9 a10 a11 a12 a13 a14 a15 a16 a17 a18 a19 n0 n1 n2 n3 n4 n5 n6 n7 n8 n9 n10 n11 n12 n13 n14 n15 n16 n17 n18 n19 q0 q1 q2 q3 q4 q5 q6 q7 q8 q9 q10 q11 q12 q13 q14 q15 q16 q17 q18 q19
  kernel_rfl
theorem flp_87 : flpG 87 := by
  intro zs sa sn sq a0 a1 a2 a3 a4 a5 a6 a7 a8 a9 a10 a11 a12 a13 a14 a15 a16 a17 a18 a19 n0 n1 n2 n3 n4 n5 n6 n7 n8 n9 n10 n11 n12 n13 n14 n15 n16 n17 n18 n19 q0 q1 q2 q3 q4 q5 q6 q7 q8 q9 q10 q11 q12 q13 q14 q15 q16 q17 q18 q19
  kernel_rfl
theorem flp_88 : flpG 88 := by
  intro zs sa sn sq a0 a1 a2 a3 a4 a5 a6 a7 a8 a9 a10 a11 a12 a13 a14 a15 a16 a17 a18 a19 n0 n1 n2 n3 n4 n5 n6 n7 n8 n9 n10 n11 n12 n13 n14 n15 n16 n17 n18 n19 q0 q1 q2 q3 q4 q5 q6 q7 q8 q9 q10 q11 q12 q13 q14 q15 q16 q17 q18 q19
  kernel_rfl
theorem flp_89 : flpG 89 := by
  intro zs sa sn sq a0 a1 a2 a3 a4 a5 a6 a7 a8 a9 a10 a11 a12 a13 a14 a15 a16 a17 a18 a19 n0 n1 n2 n3 n4 n5 n6 n7 n8 n9 n10 n11 n12 n13 n14 n15 n16 n17 n18 n19 q0 q1 q2 q3 q4 q5 q6 q7 q8 q9 q10 q11 q12 q13 q14 q15 q16 q17 q18 q19
  kernel_rfl
theorem flp_90 : flpG 90 := by
  intro zs sa sn sq a0 a1 a2 a3 a4 a5 a6 a7 a8 a9 a10 a11 a12 a13 a14 a15 a16 a17 a18 a19 n0 n1 n2 n3 n4 n5 n6 n7 n8 n9 n10 n11 n12 n13 n14 n15 n16 n17 n18 n19 q0 q1 q2 q3 q4 q5 q6 q7 q8 q9 q10 q11 q12 q13 q14 q15 q16 q17 q18 q19
  kernel_rfl
theorem flp_91 : flpG 91 := by
  intro zs sa sn sq a0 a1 a2 a3 a4 a5 a6 a7 a8 a9 a10 a11 a12 a13 a14 a15 a16 a17 a18 a19 n0 n1 n2 n3 n4 n5 n6 n7 n8 n9 n10 n11 n12 n13 n14 n15 n16 n17 n18 n19 q0 q1 q2 q3 q4 q5 q6 q7 q8 q9 q10 q11 q12 q13 q14 q15 q16 q17 q18 q19
  kernel_rfl
theorem flp_92 : flpG 92 := by
  intro zs sa sn sq a0 a1 a2 a3 a4 a5 a6 a7 a8 a9 a10 a11 a12 a13 a14 a15 a16 a17 a18 a19 n0 n1 n2 n3 n4 n5 n6 n7 n8 n9 n10 n11 n12 n13 n14 n15 n16 n17 n18 n19 q0 q1 q2 q3 q4 q5 q6 q7 q8 q9 q10 q11 q12 q13 q14 q15 q16 q17 q18 q19
  kernel_rfl
theorem flp_93 : flpG 93 := by
  intro zs sa sn sq a0 a1 a2 a3 a4 a5 a6 a7 a8 a9 a10 a11 a12 a13 a14 a15 a16 a17 a18 a19 n0 n1 n2 n3 n4 n5 n6 n7 n8 n9 n10 n11 n12 n13 n14 n15 n16 n17 n18 n19 q0 q1 q2 q3 q4 q5 q6 q7 q8 q9 q10 q11 q12 q13 q14 q15 q16 q17 q18 q19
  kernel_rfl
theorem flp_94 : flpG 94 := by
  intro zs sa sn sq a0 a1 a2 a3 a4 a5 a6 a7 a8 a9 a10 a11 a12 a13 a14 a15 a16 a17 a18 a19 n0 n1 n2 n3 n4 n5 n6 n7 n8 n9 n10 n11 n12 n13 n14 n15 n16 n17 n18 n19 q0 q1 q2 q3 q4 q5 q6 q7 q8 q9 q10 q11 q12 q13 q14 q15 q16 q17 q18 q19
  kernel_rfl
theorem flp_95 : flpG 95 := by
  intro zs sa sn sq a0 a1 a2 a3 a4 a5 a6 a7 a8 a9 a10 a11 a12 a13 a14 a15 a16 a17 a18 a19 n0 n1 n2 n3 n4 n5 n6 n7 n8 n9 n10 n11 n12 n13 n14 n15 n16 n17 n18 n19 q0 q1 q2 q3 q4 q5 q6 q7 q8 q9 q10 q11 q12 q13 q14 q15 q16 q17 q18 q19
  kernel_rfl
theorem flp_96 : flpG 96 := by
  intro zs sa sn sq a0 a1 a2 a3 a4 a5 a6 a7 a8 a9 a10 a11 a12 a13 a14 a15 a16 a17 a18 a19 n0 n1 n2 n3 n4 n5 n6 n7 n8 n9 n10 n11 n12 n13 n14 n15 n16 n17 n18 n19 q0 q1 q2 q3 q4 q5 q6 q7 q8 q9 q10 q11 q12 q13 q14 q15 q16 q17 q18 q19
  kernel_rfl
theorem flp_97 : flpG 97 := by
  intro zs sa sn sq a0 a1 a2 a3 a4 a5 a6 a7 a8 a9 a10 a11 a12 a13 a14 a15 a16 a17 a18 a19 n0 n1 n2 n3 n4 n5 n6 n7 n8 n9 n10 n11 n12 n13 n14 n15 n16 n17 n18 n19 q0 q1 q2 q3 q4 q5 q6 q7 q8 q9 q10 q11 q12 q13 q14 q15 q16 q17 q18 q19
  kernel_rfl
end
end Go.Proofs.Ytbhgibpocbmipaa
