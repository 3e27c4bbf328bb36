
/-
  The walk of the statement WideLaws.
-/
import Derived.Test.YtkmegldbmjpdmaaKnown
import Derived.Test.YtkmegldbmjpdmaaLawsA
import Derived.Test.YtkmegldbmjpdmaaLawsB
import Derived.Test.YtkmegldbmjpdmaaLawsC
import Derived.Test.YtkmegldbmjpdmaaLawsD
import Derived.Test.YtkmegldbmjpdmaaLawsE
import Derived.Test.YtkmegldbmjpdmaaLawsF
namespace Go.Proofs.Ytkmegldbmjpdmaa
open Go.RowKit

/-- The plain facts of the statement. -/
theorem mul_back {a n : Int} (iA : InR a) (n0 : 0 < n) (n1 : n ≤ 4294967295) :
    (clamp (clamp (a / n * n) + a % n) = a) ∨ (hi a = -9223372036854775808 ∧ (lo (clamp (clamp (a / n * n) + a % n)) == lo a) = false) := by
  have e := Int.emod_add_mul_ediv a n
  rw [Int.mul_comm] at e
  have m0 := Int.emod_nonneg a (show n ≠ 0 by omega)
  have m1 := Int.emod_lt_of_pos a n0
  generalize a / n * n = p at *
  generalize a % n = r at *
  unfold InR at iA
  by_cases h : -170141183460469231731687303715884105728 ≤ p
  · left
    have h1 : clamp p = p := clamp_of (by unfold InR; omega)
    rw [h1]; rw [show p + r = a by omega]; exact clamp_of (by unfold InR; omega)
  · right
    have h1 : clamp p = -170141183460469231731687303715884105728 := by unfold clamp; rw [if_pos (by omega)]
    have h2 : clamp (-170141183460469231731687303715884105728 + r) = -170141183460469231731687303715884105728 + r := clamp_of (by unfold InR; omega)
    rw [h1, h2]
    refine ⟨by unfold hi; omega, ?_⟩
    rw [beq_eq_false_iff_ne]; unfold lo; omega
theorem half_back {a : Int} (iA : InR a) : InR (a / 2) ∧ clamp (a / 2 + a / 2) = a / 2 + a / 2 ∧ InR (a / 2 + a / 2) ∧ clamp (a - (a / 2 + a / 2)) = a % 2 ∧ (a % 2 = 0 ∨ a % 2 = 1) := by
  unfold InR at *
  refine ⟨by omega, clamp_of (by unfold InR; omega), by omega, ?_, by omega⟩
  rw [show a - (a / 2 + a / 2) = a % 2 by omega]; exact clamp_of (by unfold InR; omega)
theorem sub_back {a b : Int} (ha : InR a) (h : isEnd (clamp (a + b)) = false) : clamp (clamp (a + b) - b) = a := by
  have h2 := isEnd_no h
  have : clamp (a + b) = a + b := by unfold clamp at *; split at h2 <;> (try split at h2) <;> (try split) <;> omega
  rw [this, show a + b - b = a by omega]; exact clamp_of ha
theorem clamp_fit {n : Int} (h : isEnd (clamp n) = false) : clamp n = n := by
  have h2 := isEnd_no h
  unfold clamp at *; split at h2 <;> (try split at h2) <;> (try split) <;> omega

theorem clamp_mono (m n : Int) : (m < n → clamp m ≤ clamp n) ∧ (m = n → clamp m = clamp n) := by
  refine ⟨fun h => ?_, fun h => by rw [h]⟩
  unfold clamp; split <;> (try split) <;> (try split) <;> omega
theorem cmpI_cases (a b : Int) : (a < b ∧ cmpI a b = -1) ∨ (a = b ∧ cmpI a b = 0) ∨ (b < a ∧ cmpI a b = 1) := by
  unfold cmpI; split
  · omega
  · split <;> omega
theorem div_cases {a n : Int} (iA : InR a) (n0 : 0 ≤ n) (n1 : n ≤ 4294967295) : ∃ (q r : Int) (ok : Bool),
    (∀ w, Calls Try.prog 27 #[.agg #[.int .i64 (hi a), .int .u64 (lo a)], .int .u64 n] w fun e w' =>
      e = .returned (.tuple #[.agg #[.int .i64 (hi q), .int .u64 (lo q)], .int .u64 r, .bool ok]) ∧ Below w.heap.size w w') ∧ (n = 0 ∨ 0 < n ∧ ok = true ∧ q = a / n ∧ r = a % n) := by
  rcases (by omega : n = 0 ∨ 0 < n) with h | h
  · subst h
    exact ⟨0, 0, false, fun w => wdiv_0 a w, Or.inl rfl⟩
  · exact ⟨a / n, a % n, true, fun w => wdiv_n iA h (by omega) w, Or.inr ⟨h, rfl, rfl, rfl⟩⟩
set_option maxRecDepth 100000 in
set_option maxHeartbeats 8000000 in
theorem laws_walk (a b c n : Int) (iA : InR a) (iB : InR b) (iC : InR c) (n0 : 0 ≤ n) (n1 : n ≤ 4294967295) (w : World) :
    Calls Try.prog 6 #[.agg #[.int .i64 (hi a), .int .u64 (lo a)], .agg #[.int .i64 (hi b), .int .u64 (lo b)], .agg #[.int .i64 (hi c), .int .u64 (lo c)], .int .u32 n] w fun e w' =>
      e = .returned (.bool true) ∧ Below w.heap.size w w' := by
  have ab := fun w => add_n iA iB w
  have ba := fun w => add_n iB iA w
  rw [Int.add_comm b a] at ba
  have hsR := clamp_in (a + b)
  have hs1 := fun h => sub_back (a := a) (b := b) iA h
  have hs2 := fun h => sub_back (a := b) (b := a) iB h
  rw [Int.add_comm b a] at hs2
  generalize hsE : clamp (a + b) = s at *
  have sb := fun w => sub_n hsR iB w
  have sa := fun w => sub_n hsR iA w
  have HSE := Lib.hid hsE; clear hsE
  have q4 := fun (w' : World) (h : Blk w' w.heap.size #[.int .i64 (hi a), .int .u64 (lo a)] 24) => h.two
  have q5 := fun (w' : World) (h : Blk w' (w.heap.size + 1) #[.int .i64 (hi b), .int .u64 (lo b)] 24) => h.two
  have q6 := fun (w' : World) (h : Blk w' (w.heap.size + 1 + 1) #[.int .i64 (hi c), .int .u64 (lo c)] 24) => h.two
  have AB := Lib.hid ab; have BA := Lib.hid ba; have SB := Lib.hid sb; have SA := Lib.hid sa; have HS1 := Lib.hid hs1; have HS2 := Lib.hid hs2
  clear ab ba sb sa hs1 hs2
  go_enter Try.func6, Try.ntmps6
  go_wp2_with fail
  refine (known_true _).mono ?_
  rintro e w1 ⟨rfl, hb⟩
  have g4 := Blk.keep hb (Blk.old (Blk.old (Blk.new (b := w.heap.size) (T := 24) rfl) _) _)
  have g5 := Blk.keep hb (Blk.old (Blk.new (b := w.heap.size + 1) (T := 24) (by simp)) _)
  have g6 := Blk.keep hb (Blk.new (b := w.heap.size + 1 + 1) (T := 24) (by simp))
  have gB := ((((Below.refl w.heap.size w).alloc (Nat.le_refl _) _).alloc (by simp) _).alloc (by simp; omega) _).trans (hb.mono (by simp; omega))
  clear hb
  go_wp2_with fail
  refine (AB.out _).mono ?_
  rintro e w2 ⟨rfl, hb⟩
  replace g4 := Blk.keep hb g4; replace g5 := Blk.keep hb g5; replace g6 := Blk.keep hb g6; replace gB := gB.trans (hb.mono gB.size)
  clear hb
  have q9 := fun (w' : World) (h : Blk w' w2.heap.size #[.int .i64 (hi s), .int .u64 (lo s)] 24) => h.two
  go_wp2_with fail
  refine wp_region_held_drew (S := (fun w' => Blk w' w.heap.size #[.int .i64 (hi a), .int .u64 (lo a)] 24 ∧ Blk w' (w.heap.size + 1) #[.int .i64 (hi b), .int .u64 (lo b)] 24 ∧ Blk w' (w.heap.size + 1 + 1) #[.int .i64 (hi c), .int .u64 (lo c)] 24 ∧ Blk w' w2.heap.size #[.int .i64 (hi s), .int .u64 (lo s)] 24 ∧ Below w.heap.size w w')) (by kernel_rfl) ?_ (fun hHeld => ?_)
  · exact ⟨(g4.old _).drew, (g5.old _).drew, (g6.old _).drew, (Blk.new rfl).drew, (gB.alloc gB.size _).drew⟩
  refine H.take 0 (v := ?_) rfl (by kernel_rfl) (fun _ _ _ h => h) (by rfl) ?_ (by assumption) ?_
  rotate_left
  · (intro wz hSw; (try dsimp only at hSw); go_simp <;> with_reducible rfl)
  try simp only [Act.put, List.setIfInBounds_toArray, List.set_cons_zero, List.set_cons_succ]
  refine H.take 1 (v := ?_) rfl (by kernel_rfl) (fun _ _ _ h => h) (by rfl) ?_ (by assumption) ?_
  rotate_left
  · (intro wz hSw; (try dsimp only at hSw); go_simp <;> with_reducible rfl)
  try simp only [Act.put, List.setIfInBounds_toArray, List.set_cons_zero, List.set_cons_succ]
  refine H.take 2 (v := ?_) rfl (by kernel_rfl) (fun _ _ _ h => h) (by rfl) ?_ (by assumption) ?_
  rotate_left
  · (intro wz hSw; (try dsimp only at hSw); go_simp <;> with_reducible rfl)
  try simp only [Act.put, List.setIfInBounds_toArray, List.set_cons_zero, List.set_cons_succ]
  refine H.ready [3] (by kernel_rfl) (by simp) ?_
  refine H.one rfl (by rfl) (fun K hK => ?_) AllReadyH.nil
  go_simp
  go_at_call 13
  refine (BA.out _).mono ?_
  rintro e w1 ⟨rfl, hb⟩
  refine hK.out _ _ ?_ (fun hHeld2 => ?_)
  · exact ⟨Blk.keep hb hHeld.1, Blk.keep hb hHeld.2.1, Blk.keep hb hHeld.2.2.1, Blk.keep hb hHeld.2.2.2.1, hHeld.2.2.2.2.trans (hb.mono hHeld.2.2.2.2.size)⟩
  clear hHeld hK K; have hHeld := hHeld2; clear hHeld2
  try simp only [Act.put, List.setIfInBounds_toArray, List.set_cons_zero, List.set_cons_succ]
  refine H.take 4 (v := ?_) rfl (by kernel_rfl) (fun _ _ _ h => h) (by rfl) ?_ (by assumption) ?_
  rotate_left
  · (intro wz hSw; (try dsimp only at hSw); go_simp <;> with_reducible rfl)
  try simp only [Act.put, List.setIfInBounds_toArray, List.set_cons_zero, List.set_cons_succ]
  refine H.done (by kernel_rfl) ?_ _
  clear g4 g5 g6 gB
  generalize w2.heap.size = b9 at *
  go_wp2_with fail
  go_cut [45] from 46 (fun s45 wx => s45 = .bool false ∧ (fun w' => Blk w' w.heap.size #[.int .i64 (hi a), .int .u64 (lo a)] 24 ∧ Blk w' (w.heap.size + 1) #[.int .i64 (hi b), .int .u64 (lo b)] 24 ∧ Blk w' (w.heap.size + 1 + 1) #[.int .i64 (hi c), .int .u64 (lo c)] 24 ∧ Blk w' b9 #[.int .i64 (hi s), .int .u64 (lo s)] 24 ∧ Below w.heap.size w w') wx)
  case first =>
    rcases he : isEnd s with _ | _
    · have e1 := HS1.out he; have e2 := HS2.out he
      have sb := SB.out; have sa := SA.out
      rw [e1] at sb; rw [e2] at sa
      refine laws_r6n he (Lib.hid sb) (Lib.hid sa) hHeld (fun _ _ _ _ _ h => h) ?_
      intros; rename_i wn hcut
      obtain ⟨rfl, hHeld⟩ := hcut
      go_wp2_with fail
      go_meet
      exact ⟨rfl, hHeld⟩
    · refine laws_r6e he hHeld (fun _ _ _ _ _ h => h) ?_
      intros; rename_i wn hcut
      obtain ⟨rfl, hHeld⟩ := hcut
      go_wp2_with fail
      go_meet
      exact ⟨rfl, hHeld⟩
  case rest =>
  obtain ⟨rfl, hHeld⟩ := hcut
  clear HS1 HS2 SB SA BA AB
  have sc := fun w => add_n hsR iC w
  have bc := fun w => add_n iB iC w
  have tR := clamp_in (b + c)
  have at1 := fun w => add_n iA tR w
  have ac := fun w => add_n iA iC w
  have xR := clamp_in (a + c)
  have fits1 := clamp_fit (n := s + c)
  have fits2 := clamp_fit (n := b + c)
  have fits3 := clamp_fit (n := a + clamp (b + c))
  have fits4 := clamp_fit (n := a + c)
  have fits0 := clamp_fit (n := a + b)
  rw [HSE.out] at fits0
  have mono := clamp_mono (a + c) (b + c)
  generalize clamp (s + c) = L at *
  generalize clamp (a + clamp (b + c)) = R at *
  generalize clamp (b + c) = t at *
  generalize clamp (a + c) = x at *
  have SC := Lib.hid sc; have BC := Lib.hid bc; have AT := Lib.hid at1; have AC := Lib.hid ac
  have F0 := Lib.hid fits0; have F1 := Lib.hid fits1; have F2 := Lib.hid fits2; have F3 := Lib.hid fits3; have F4 := Lib.hid fits4; have MO := Lib.hid mono
  clear sc bc at1 ac fits0 fits1 fits2 fits3 fits4 mono
  go_wp2_with fail
  refine laws_r8 SC BC AT hHeld (fun _ _ _ _ _ h => h) ?_
  clear hHeld
  intros; rename_i wc hcut
  obtain ⟨b10, b11, rfl, rfl, g10, g11, hHeld⟩ := hcut
  have q10 := fun (w' : World) (h : Blk w' b10 #[.int .i64 (hi L), .int .u64 (lo L)] 24) => h.two
  have q11 := fun (w' : World) (h : Blk w' b11 #[.int .i64 (hi R), .int .u64 (lo R)] 24) => h.two
  have hSS : (fun w' => Blk w' b10 #[.int .i64 (hi L), .int .u64 (lo L)] 24 ∧ Blk w' b11 #[.int .i64 (hi R), .int .u64 (lo R)] 24 ∧ Blk w' w.heap.size #[.int .i64 (hi a), .int .u64 (lo a)] 24 ∧ Blk w' (w.heap.size + 1) #[.int .i64 (hi b), .int .u64 (lo b)] 24 ∧ Blk w' (w.heap.size + 1 + 1) #[.int .i64 (hi c), .int .u64 (lo c)] 24 ∧ Blk w' b9 #[.int .i64 (hi s), .int .u64 (lo s)] 24 ∧ Below w.heap.size w w') wc := ⟨g10, g11, hHeld⟩
  clear hHeld g10 g11
  go_upto_region 9 with (fail)
  go_cut [78] from 79 (fun s78 wx => s78 = .bool false ∧ (fun w' => Blk w' b10 #[.int .i64 (hi L), .int .u64 (lo L)] 24 ∧ Blk w' b11 #[.int .i64 (hi R), .int .u64 (lo R)] 24 ∧ Blk w' w.heap.size #[.int .i64 (hi a), .int .u64 (lo a)] 24 ∧ Blk w' (w.heap.size + 1) #[.int .i64 (hi b), .int .u64 (lo b)] 24 ∧ Blk w' (w.heap.size + 1 + 1) #[.int .i64 (hi c), .int .u64 (lo c)] 24 ∧ Blk w' b9 #[.int .i64 (hi s), .int .u64 (lo s)] 24 ∧ Below w.heap.size w w') wx)
  case first =>
    obtain ⟨k1, k2, k3, k4, k5, k6, k7⟩ := hSS
    rcases he : isEnd s with _ | _
    · rcases he2 : isEnd t with _ | _
      · rcases he3 : isEnd L with _ | _
        · rcases he4 : isEnd R with _ | _
          · obtain rfl : L = R := by
              have h0 := F0.out he; have h1 := F1.out he3; have h2 := F2.out he2; have h3 := F3.out he4; omega
            go_wp2_with (first | (go_at_call 29; refine (ends_n _ _).mono ?_; rintro e w1 ⟨rfl, hb⟩; replace k1 := Blk.keep hb k1; replace k2 := Blk.keep hb k2; replace k3 := Blk.keep hb k3; replace k4 := Blk.keep hb k4; replace k5 := Blk.keep hb k5; replace k6 := Blk.keep hb k6; replace k7 := k7.trans (hb.mono k7.size); clear hb) | (go_at_call 13; refine (BC.out _).mono ?_; rintro e w1 ⟨rfl, hb⟩; replace k1 := Blk.keep hb k1; replace k2 := Blk.keep hb k2; replace k3 := Blk.keep hb k3; replace k4 := Blk.keep hb k4; replace k5 := Blk.keep hb k5; replace k6 := Blk.keep hb k6; replace k7 := k7.trans (hb.mono k7.size); clear hb))
            go_meet
            exact ⟨rfl, k1, k2, k3, k4, k5, k6, k7⟩
          · skip
            go_wp2_with (first | (go_at_call 29; refine (ends_n _ _).mono ?_; rintro e w1 ⟨rfl, hb⟩; replace k1 := Blk.keep hb k1; replace k2 := Blk.keep hb k2; replace k3 := Blk.keep hb k3; replace k4 := Blk.keep hb k4; replace k5 := Blk.keep hb k5; replace k6 := Blk.keep hb k6; replace k7 := k7.trans (hb.mono k7.size); clear hb) | (go_at_call 13; refine (BC.out _).mono ?_; rintro e w1 ⟨rfl, hb⟩; replace k1 := Blk.keep hb k1; replace k2 := Blk.keep hb k2; replace k3 := Blk.keep hb k3; replace k4 := Blk.keep hb k4; replace k5 := Blk.keep hb k5; replace k6 := Blk.keep hb k6; replace k7 := k7.trans (hb.mono k7.size); clear hb))
            go_meet
            exact ⟨rfl, k1, k2, k3, k4, k5, k6, k7⟩
        · skip
          go_wp2_with (first | (go_at_call 29; refine (ends_n _ _).mono ?_; rintro e w1 ⟨rfl, hb⟩; replace k1 := Blk.keep hb k1; replace k2 := Blk.keep hb k2; replace k3 := Blk.keep hb k3; replace k4 := Blk.keep hb k4; replace k5 := Blk.keep hb k5; replace k6 := Blk.keep hb k6; replace k7 := k7.trans (hb.mono k7.size); clear hb) | (go_at_call 13; refine (BC.out _).mono ?_; rintro e w1 ⟨rfl, hb⟩; replace k1 := Blk.keep hb k1; replace k2 := Blk.keep hb k2; replace k3 := Blk.keep hb k3; replace k4 := Blk.keep hb k4; replace k5 := Blk.keep hb k5; replace k6 := Blk.keep hb k6; replace k7 := k7.trans (hb.mono k7.size); clear hb))
          go_meet
          exact ⟨rfl, k1, k2, k3, k4, k5, k6, k7⟩
      · skip
        go_wp2_with (first | (go_at_call 29; refine (ends_n _ _).mono ?_; rintro e w1 ⟨rfl, hb⟩; replace k1 := Blk.keep hb k1; replace k2 := Blk.keep hb k2; replace k3 := Blk.keep hb k3; replace k4 := Blk.keep hb k4; replace k5 := Blk.keep hb k5; replace k6 := Blk.keep hb k6; replace k7 := k7.trans (hb.mono k7.size); clear hb) | (go_at_call 13; refine (BC.out _).mono ?_; rintro e w1 ⟨rfl, hb⟩; replace k1 := Blk.keep hb k1; replace k2 := Blk.keep hb k2; replace k3 := Blk.keep hb k3; replace k4 := Blk.keep hb k4; replace k5 := Blk.keep hb k5; replace k6 := Blk.keep hb k6; replace k7 := k7.trans (hb.mono k7.size); clear hb))
        go_meet
        exact ⟨rfl, k1, k2, k3, k4, k5, k6, k7⟩
    · skip
      go_wp2_with (first | (go_at_call 29; refine (ends_n _ _).mono ?_; rintro e w1 ⟨rfl, hb⟩; replace k1 := Blk.keep hb k1; replace k2 := Blk.keep hb k2; replace k3 := Blk.keep hb k3; replace k4 := Blk.keep hb k4; replace k5 := Blk.keep hb k5; replace k6 := Blk.keep hb k6; replace k7 := k7.trans (hb.mono k7.size); clear hb) | (go_at_call 13; refine (BC.out _).mono ?_; rintro e w1 ⟨rfl, hb⟩; replace k1 := Blk.keep hb k1; replace k2 := Blk.keep hb k2; replace k3 := Blk.keep hb k3; replace k4 := Blk.keep hb k4; replace k5 := Blk.keep hb k5; replace k6 := Blk.keep hb k6; replace k7 := k7.trans (hb.mono k7.size); clear hb))
      go_meet
      exact ⟨rfl, k1, k2, k3, k4, k5, k6, k7⟩
  case rest =>
  obtain ⟨rfl, hSS2⟩ := hcut
  clear hSS
  obtain ⟨_, _, hHeld⟩ := hSS2
  clear q10 q11
  go_wp2_with fail
  refine laws_r11 AC BC hHeld (fun _ _ _ _ _ h => h) ?_
  clear hHeld
  intros; rename_i wd hcut
  obtain ⟨b12, b13, rfl, rfl, g12, g13, hHeld⟩ := hcut
  have q12 := fun (w' : World) (h : Blk w' b12 #[.int .i64 (hi x), .int .u64 (lo x)] 24) => h.two
  have q13 := fun (w' : World) (h : Blk w' b13 #[.int .i64 (hi t), .int .u64 (lo t)] 24) => h.two
  have hSS : (fun w' => Blk w' b12 #[.int .i64 (hi x), .int .u64 (lo x)] 24 ∧ Blk w' b13 #[.int .i64 (hi t), .int .u64 (lo t)] 24 ∧ Blk w' w.heap.size #[.int .i64 (hi a), .int .u64 (lo a)] 24 ∧ Blk w' (w.heap.size + 1) #[.int .i64 (hi b), .int .u64 (lo b)] 24 ∧ Blk w' (w.heap.size + 1 + 1) #[.int .i64 (hi c), .int .u64 (lo c)] 24 ∧ Blk w' b9 #[.int .i64 (hi s), .int .u64 (lo s)] 24 ∧ Below w.heap.size w w') wd := ⟨g12, g13, hHeld⟩
  clear hHeld g12 g13
  go_wp2_with fail
  go_cut [113] from 114 (fun s113 wx => s113 = .bool false ∧ (fun w' => Blk w' b12 #[.int .i64 (hi x), .int .u64 (lo x)] 24 ∧ Blk w' b13 #[.int .i64 (hi t), .int .u64 (lo t)] 24 ∧ Blk w' w.heap.size #[.int .i64 (hi a), .int .u64 (lo a)] 24 ∧ Blk w' (w.heap.size + 1) #[.int .i64 (hi b), .int .u64 (lo b)] 24 ∧ Blk w' (w.heap.size + 1 + 1) #[.int .i64 (hi c), .int .u64 (lo c)] 24 ∧ Blk w' b9 #[.int .i64 (hi s), .int .u64 (lo s)] 24 ∧ Below w.heap.size w w') wx)
  case first =>
    have cab := fun w => cmp_n a b w
    have cxt := fun w => cmp_n x t w
    have hv := cmpI_cases a b
    have hu := cmpI_cases x t
    have hvu : isEnd x = false → isEnd t = false → cmpI a b = cmpI x t := fun he he2 => by have h2 := F2.out he2; have h4 := F4.out he; omega
    by_cases hlt : a < b
    · have hv1 : cmpI a b < 0 := by omega
      have hu2 : decide (0 < cmpI x t) = false := decide_eq_false (by have := MO.out.1 (by omega); omega)
      rcases he : isEnd x with _ | _
      · rcases he2 : isEnd t with _ | _
        · have hvu2 := hvu he he2
          rw [← hvu2] at cxt hu2
          refine laws_r12an (Lib.hid cab) (Lib.hid cxt) hv1 hu2 he he2 hSS (fun _ _ _ _ _ h => h) ?_
          intros; rename_i wn hcut
          obtain ⟨rfl, hHeld⟩ := hcut
          go_wp2_with fail
          go_meet
          exact ⟨rfl, hHeld⟩
        · refine laws_r12at (Lib.hid cab) (Lib.hid cxt) hv1 hu2 he he2 hSS (fun _ _ _ _ _ h => h) ?_
          intros; rename_i wn hcut
          obtain ⟨rfl, hHeld⟩ := hcut
          go_wp2_with fail
          go_meet
          exact ⟨rfl, hHeld⟩
      · refine laws_r12ax (Lib.hid cab) (Lib.hid cxt) hv1 hu2 he hSS (fun _ _ _ _ _ h => h) ?_
        intros; rename_i wn hcut
        obtain ⟨rfl, hHeld⟩ := hcut
        go_wp2_with fail
        go_meet
        exact ⟨rfl, hHeld⟩
    · have hv2 : decide (cmpI a b < 0) = false := decide_eq_false (by omega)
      rcases he : isEnd x with _ | _
      · rcases he2 : isEnd t with _ | _
        · have hvu2 := hvu he he2
          rw [← hvu2] at cxt
          refine laws_r12bn (Lib.hid cab) (Lib.hid cxt) hv2 he he2 hSS (fun _ _ _ _ _ h => h) ?_
          intros; rename_i wn hcut
          obtain ⟨rfl, hHeld⟩ := hcut
          go_wp2_with fail
          go_meet
          exact ⟨rfl, hHeld⟩
        · refine laws_r12bt (Lib.hid cab) hv2 he he2 hSS (fun _ _ _ _ _ h => h) ?_
          intros; rename_i wn hcut
          obtain ⟨rfl, hHeld⟩ := hcut
          go_wp2_with fail
          go_meet
          exact ⟨rfl, hHeld⟩
      · refine laws_r12bx (Lib.hid cab) hv2 he hSS (fun _ _ _ _ _ h => h) ?_
        intros; rename_i wn hcut
        obtain ⟨rfl, hHeld⟩ := hcut
        go_wp2_with fail
        go_meet
        exact ⟨rfl, hHeld⟩
  case rest =>
  obtain ⟨rfl, hSS2⟩ := hcut
  clear hSS
  obtain ⟨_, _, hHeld⟩ := hSS2
  clear q12 q13
  obtain ⟨q, r, ok, hdv, hq⟩ := div_cases iA n0 n1
  have DV := Lib.hid hdv; have HQ := Lib.hid hq
  clear hdv hq
  go_wp2_with fail
  refine (DV.out _).mono ?_
  rintro e w5 ⟨rfl, hb⟩
  obtain ⟨k3, k4, k5, k6, k7⟩ := hHeld
  replace k3 := Blk.keep hb k3; replace k4 := Blk.keep hb k4; replace k5 := Blk.keep hb k5; replace k6 := Blk.keep hb k6; replace k7 := k7.trans (hb.mono k7.size)
  clear hb
  have q14 := fun (w' : World) (h : Blk w' w5.heap.size #[.int .i64 (hi q), .int .u64 (lo q)] 24) => h.two
  have hSQ : (fun w' => Blk w' w5.heap.size #[.int .i64 (hi q), .int .u64 (lo q)] 24 ∧ Blk w' w.heap.size #[.int .i64 (hi a), .int .u64 (lo a)] 24 ∧ Blk w' (w.heap.size + 1) #[.int .i64 (hi b), .int .u64 (lo b)] 24 ∧ Blk w' (w.heap.size + 1 + 1) #[.int .i64 (hi c), .int .u64 (lo c)] 24 ∧ Blk w' b9 #[.int .i64 (hi s), .int .u64 (lo s)] 24 ∧ Below w.heap.size w w') (w5.alloc (.cells #[.int .i64 (hi q), .int .u64 (lo q)] 24)) := ⟨Blk.new rfl, k3.old _, k4.old _, k5.old _, k6.old _, k7.alloc k7.size _⟩
  clear k3 k4 k5 k6 k7 q14
  go_wp2_with fail
  generalize w5.heap.size = b14 at *
  go_cut [149] from 150 (fun s149 wx => s149 = .bool false ∧ (fun w' => Blk w' b14 #[.int .i64 (hi q), .int .u64 (lo q)] 24 ∧ Blk w' w.heap.size #[.int .i64 (hi a), .int .u64 (lo a)] 24 ∧ Blk w' (w.heap.size + 1) #[.int .i64 (hi b), .int .u64 (lo b)] 24 ∧ Blk w' (w.heap.size + 1 + 1) #[.int .i64 (hi c), .int .u64 (lo c)] 24 ∧ Blk w' b9 #[.int .i64 (hi s), .int .u64 (lo s)] 24 ∧ Below w.heap.size w w') wx)
  case first =>
    rcases HQ.out with hz | ⟨hz, hok, hq, hr⟩
    · subst hz
      refine laws_r15z hSQ (fun _ _ _ _ _ h => h) ?_
      intros; rename_i wn hcut
      obtain ⟨rfl, hHeld⟩ := hcut
      go_wp2_with fail
      go_meet
      exact ⟨rfl, hHeld⟩
    · subst hok hq hr
      have sc := fun w => scale_any (k := n) (div_in iA hz) n0 n1 w
      have mR := clamp_in (a / n * n)
      have r0 := Int.emod_nonneg a (show n ≠ 0 by omega)
      have r1 := Int.emod_lt_of_pos a hz
      have orr := fun w => of_any (a % n) (by omega) (by omega) w
      have ad := fun w => add_n (m := a % n) mR (by unfold InR; omega) w
      rcases mul_back iA hz n1 with hm | ⟨hm, hm2⟩
      · rw [hm] at ad
        refine laws_r15a hz n1 r0 r1 (Lib.hid sc) (Lib.hid orr) (Lib.hid ad) hSQ (fun _ _ _ _ _ h => h) ?_
        intros; rename_i wn hcut
        obtain ⟨rfl, hHeld⟩ := hcut
        go_wp2_with fail
        go_meet
        exact ⟨rfl, hHeld⟩
      · refine laws_r15b hz n1 r0 r1 (Lib.hid sc) (Lib.hid orr) (Lib.hid ad) hm2 hm hSQ (fun _ _ _ _ _ h => h) ?_
        clear hm hm2
        intros; rename_i wn hcut
        obtain ⟨rfl, hHeld⟩ := hcut
        go_wp2_with fail
        go_meet
        exact ⟨rfl, hHeld⟩
  case rest =>
  obtain ⟨rfl, hSS2⟩ := hcut
  clear hSQ
  obtain ⟨_, k3, k4, k5, k6, k7⟩ := hSS2
  obtain ⟨i1, i2, i3, i4, i5⟩ := half_back iA
  have hh := fun w => add_n i1 i1 w
  rw [i2] at hh
  have ad := fun w => sub_n iA i3 w
  rw [i4] at ad
  clear i2 i4
  have I5 := Lib.hid i5; have HF := Lib.hid (fun w => half_n a w); have HH := Lib.hid hh; have AD := Lib.hid ad
  clear i5 hh ad
  go_wp2_with fail
  refine (HF.out _).mono ?_
  rintro e w6 ⟨rfl, hb⟩
  have hSH : (fun w' => Blk w' w6.heap.size #[.int .i64 (hi (a / 2)), .int .u64 (lo (a / 2))] 24 ∧ Blk w' w.heap.size #[.int .i64 (hi a), .int .u64 (lo a)] 24 ∧ Blk w' (w.heap.size + 1) #[.int .i64 (hi b), .int .u64 (lo b)] 24 ∧ Blk w' (w.heap.size + 1 + 1) #[.int .i64 (hi c), .int .u64 (lo c)] 24 ∧ Blk w' b9 #[.int .i64 (hi s), .int .u64 (lo s)] 24 ∧ Below w.heap.size w w') (w6.alloc (.cells #[.int .i64 (hi (a / 2)), .int .u64 (lo (a / 2))] 24)) := ⟨Blk.new rfl, (Blk.keep hb k3).old _, (Blk.keep hb k4).old _, (Blk.keep hb k5).old _, (Blk.keep hb k6).old _, (k7.trans (hb.mono k7.size)).alloc (k7.trans (hb.mono k7.size)).size _⟩
  clear hb k3 k4 k5 k6 k7
  go_wp2_with fail
  generalize w6.heap.size = b17 at *
  refine laws_r18 HH AD hSH (fun _ _ _ _ _ h => h) ?_
  intros; rename_i we hcut
  obtain ⟨b18, rfl, g18, hSH2⟩ := hcut
  obtain ⟨_, k3, k4, k5, k6, k7⟩ := hSH2
  rcases I5.out with hz | hz
  · rw [hz] at g18
    go_wp2_with fail
    refine laws_r19z (Lib.hid (fun w => of_any 0 (by omega) (by omega) w)) ⟨g18, k3, k4, k5, k6, k7⟩ (fun _ _ _ _ _ h => h) ?_
    intros; rename_i wn hcut
    obtain ⟨rfl, hl⟩ := hcut
    go_wp2_with fail
    go_ret
    exact ⟨rfl, hl.2.2.2.2.2⟩
  · rw [hz] at g18
    go_wp2_with fail
    refine laws_r19o (Lib.hid (fun w => of_any 0 (by omega) (by omega) w)) (Lib.hid (fun w => of_any 1 (by omega) (by omega) w)) ⟨g18, k3, k4, k5, k6, k7⟩ (fun _ _ _ _ _ h => h) ?_
    intros; rename_i wn hcut
    obtain ⟨rfl, hl⟩ := hcut
    go_wp2_with fail
    go_ret
    exact ⟨rfl, hl.2.2.2.2.2⟩
end Go.Proofs.Ytkmegldbmjpdmaa
