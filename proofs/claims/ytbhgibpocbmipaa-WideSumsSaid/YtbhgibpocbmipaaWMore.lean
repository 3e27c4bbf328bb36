
/-
  Contracts of package wide: Neg, Abs, Cmp, Half, magnitude, signer.
-/
import Derived.Test.YtbhgibpocbmipaaWLeaf
import Derived.Test.YtbhgibpocbmipaaShelf
namespace Go.Proofs.Ytbhgibpocbmipaa
open Go.RowKit

/-- The two contracts by numbers. -/
theorem add_n {n m : Int} (hn : InR n) (hm : InR m) (w : World) :
    Calls Try.prog 18 #[.agg #[.int .i64 (hi n), .int .u64 (lo n)], .agg #[.int .i64 (hi m), .int .u64 (lo m)]] w fun e w' =>
      e = .returned (.agg #[.int .i64 (hi (clamp (n + m))), .int .u64 (lo (clamp (n + m)))]) ∧ Below w.heap.size w w' := by
  have := add_any (hi n) (lo n) (hi m) (lo m) (lo_bd n).1 (lo_bd n).2 (lo_bd m).1 (lo_bd m).2 (hi_bd hn).1 (hi_bd hn).2 (hi_bd hm).1 (hi_bd hm).2 w
  rwa [hilo, hilo] at this
theorem sub_n {n m : Int} (hn : InR n) (hm : InR m) (w : World) :
    Calls Try.prog 20 #[.agg #[.int .i64 (hi n), .int .u64 (lo n)], .agg #[.int .i64 (hi m), .int .u64 (lo m)]] w fun e w' =>
      e = .returned (.agg #[.int .i64 (hi (clamp (n - m))), .int .u64 (lo (clamp (n - m)))]) ∧ Below w.heap.size w w' := by
  have := sub_any (hi n) (lo n) (hi m) (lo m) (lo_bd n).1 (lo_bd n).2 (lo_bd m).1 (lo_bd m).2 (hi_bd hn).1 (hi_bd hn).2 (hi_bd hm).1 (hi_bd hm).2 w
  rwa [hilo, hilo] at this

set_option maxHeartbeats 1000000 in
theorem neg_any (h l : Int) (a0 : 0 ≤ l) (a1 : l ≤ 18446744073709551615) (c0 : -9223372036854775808 ≤ h) (c1 : h ≤ 9223372036854775807) (w : World) :
    Calls Try.prog 22 #[.agg #[.int .i64 h, .int .u64 l]] w fun e w' =>
      e = .returned (.agg #[.int .i64 (hi (clamp (-(h * 18446744073709551616 + l)))), .int .u64 (lo (clamp (-(h * 18446744073709551616 + l))))]) ∧ Below w.heap.size w w' := by
  have hsub := fun w => sub_any 0 0 h l (by omega) (by omega) a0 a1 (by omega) (by omega) c0 c1 w
  rw [show (0 : Int) * 18446744073709551616 + 0 - (h * 18446744073709551616 + l) = -(h * 18446744073709551616 + l) from by omega] at hsub
  generalize hr : clamp (-(h * 18446744073709551616 + l)) = r at *
  have q1 := fun (w' : World) (h : Blk w' (w.heap.size + 1) #[.int .i64 0, .int .u64 0] 24) => h.two
  have q2 := fun (w' : World) (h : Blk w' (w.heap.size + 1) #[.int .i64 0, .int .u64 0] 24) => h.free0
  have HS := Lib.hid hsub; clear hsub hr
  go_enter Try.func22, Try.ntmps22
  go_wp2_with (go_at_call 20; refine (HS.out _).mono ?_; rintro e w' ⟨rfl, hb⟩; have g := Blk.keep hb (Blk.new (b := w.heap.size + 1) (T := 24) (by simp)); have g4 := (((Below.refl w.heap.size w).alloc (Nat.le_refl _) _).alloc (by simp) _).trans (hb.mono (by simp; omega)))
  have hfin := (g.put (i := 0) (.int .i64 (hi r))).put (i := 1) (.int .u64 (lo r))
  exact bodyPost_ret (v := .agg #[.int .i64 (hi r), .int .u64 (lo r)]) (by simp [results, Try.results22, go_sem, (show Blk _ _ #[.int .i64 (hi r), .int .u64 (lo r)] _ from hfin).two]) rfl ⟨rfl, (g4.setCell (by simp) _).setCell (by simp) _⟩

theorem or_u64 {a b p : Int} (k : Nat) (hp : p = ((2 ^ k : Nat) : Int)) (ha : a % p = 0) (a0 : 0 ≤ a) (a1 : a ≤ 18446744073709551615) (b0 : 0 ≤ b) (b1 : b < p) (hb : b ≤ 18446744073709551615) :
    bits .or .u64 a b = a + b := by
  obtain ⟨x, rfl⟩ := Int.eq_ofNat_of_zero_le a0
  obtain ⟨y, rfl⟩ := Int.eq_ofNat_of_zero_le b0
  subst hp
  rw [bits_or_u64_nat x y (by omega) (by omega)]
  have hx : x % 2 ^ k = 0 := by exact_mod_cast ha
  have hy : y < 2 ^ k := by exact_mod_cast b1
  have hd : 2 ^ k * (x / 2 ^ k) = x := Nat.mul_div_cancel' (Nat.dvd_of_mod_eq_zero hx)
  have := Nat.two_pow_add_eq_or_of_lt hy (x / 2 ^ k)
  rw [hd] at this
  rw [← this]; push_cast; rfl

set_option maxHeartbeats 1000000 in
theorem half_any (h l : Int) (a0 : 0 ≤ l) (a1 : l ≤ 18446744073709551615) (w : World) :
    Calls Try.prog 30 #[.agg #[.int .i64 h, .int .u64 l]] w fun e w' =>
      e = .returned (.agg #[.int .i64 (hi ((h * 18446744073709551616 + l) / 2)), .int .u64 (lo ((h * 18446744073709551616 + l) / 2))]) ∧ Below w.heap.size w w' := by
  have e1 : bits BinOp.or IntKind.u64 (IntKind.u64.wrap (IntKind.u64.wrap h * 9223372036854775808)) (l / 2) = lo ((h * 18446744073709551616 + l) / 2) := by
    simp only [IntKind.wrap_u64]
    rw [or_u64 63 rfl (by omega) (by omega) (by omega) (by omega) (by omega) (by omega)]
    unfold lo; omega
  have e2 : h / 2 = hi ((h * 18446744073709551616 + l) / 2) := by unfold hi; omega
  have E1 := Lib.hid e1; have E2 := Lib.hid e2; clear e1 e2
  go_enter Try.func30, Try.ntmps30
  go_wp2
  refine bodyPost_ret (v := .agg #[.int .i64 (h / 2), .int .u64 (bits BinOp.or IntKind.u64 (IntKind.u64.wrap (IntKind.u64.wrap h * 9223372036854775808)) (l / 2))]) (by simp [results, Try.results30, go_sem]) rfl ⟨ret_w E2.out E1.out, ((Below.refl _ _).alloc (Nat.le_refl _) _).alloc (by simp) _⟩

/-- The size of a number. -/
def sz (n : Int) : Int := if n < 0 then -n else n
theorem sz_pos {n : Int} (h : 0 ≤ n) : sz n = n := by unfold sz; rw [if_neg (by omega)]
theorem sz_neg {n : Int} (h : n < 0) : sz n = -n := by unfold sz; rw [if_pos h]
theorem sz_bd {n : Int} (h : InR n) : 0 ≤ sz n ∧ sz n ≤ 170141183460469231731687303715884105728 := by unfold InR at h; unfold sz; split <;> omega

set_option maxHeartbeats 1000000 in
theorem magnitude_pos {h : Int} (l : Int) (c1 : h ≤ 9223372036854775807) (hn : ¬ h < 0) (w : World) :
    Calls Try.prog 63 #[.agg #[.int .i64 h, .int .u64 l]] w fun e w' =>
      e = .returned (.tuple #[.int .u64 h, .int .u64 l]) ∧ Below w.heap.size w w' := by
  have e1 : IntKind.u64.wrap h = h := by rw [IntKind.wrap_u64]; omega
  have q1 := fun (w' : World) (h : Blk w' (w.heap.size) #[.int .i64 h, .int .u64 l] 24) => h.two
  go_enter Try.func63, Try.ntmps63
  go_wp2_with (go_at_call 58; refine (negative_no _ hn _).mono ?_; rintro e w' ⟨rfl, hb⟩; have g := Blk.keep hb (Blk.new (b := w.heap.size) (T := 24) rfl); have g4 := ((Below.refl w.heap.size w).alloc (Nat.le_refl _) _).trans (hb.mono (by simp)))
  refine wp_region_held_drew (S := (fun w' => Blk w' w.heap.size #[.int .i64 h, .int .u64 l] 24)) (by kernel_rfl) ?_ (fun hHeld => ?_)
  · exact g.drew
  refine H.take 0 (v := ?_) rfl (by kernel_rfl) (fun _ _ _ h => h) (by rfl) ?_ (by assumption) ?_
  rotate_left
  · (intro wz hSw; (try dsimp only at hSw); go_simp <;> with_reducible rfl)
  try simp only [Act.put, List.setIfInBounds_toArray, List.set_cons_zero, List.set_cons_succ]
  refine H.take 1 (v := ?_) rfl (by kernel_rfl) (fun _ _ _ h => h) (by rfl) ?_ (by assumption) ?_
  rotate_left
  · (intro wz hSw; (try dsimp only at hSw); go_simp <;> with_reducible rfl)
  try simp only [Act.put, List.setIfInBounds_toArray, List.set_cons_zero, List.set_cons_succ]
  refine H.take 2 (v := ?_) rfl (by kernel_rfl) (fun _ _ _ h => h) (by rfl) ?_ (by assumption) ?_
  rotate_left
  · (intro wz hSw; (try dsimp only at hSw); go_simp <;> with_reducible rfl)
  try simp only [Act.put, List.setIfInBounds_toArray, List.set_cons_zero, List.set_cons_succ]
  refine H.take 3 (v := ?_) rfl (by kernel_rfl) (fun _ _ _ h => h) (by rfl) ?_ (by assumption) ?_
  rotate_left
  · (intro wz hSw; (try dsimp only at hSw); go_simp <;> with_reducible rfl)
  try simp only [Act.put, List.setIfInBounds_toArray, List.set_cons_zero, List.set_cons_succ]
  refine H.take 4 (v := ?_) rfl (by kernel_rfl) (fun _ _ _ h => h) (by rfl) ?_ (by assumption) ?_
  rotate_left
  · (intro wz hSw; (try dsimp only at hSw); go_simp <;> with_reducible rfl)
  try simp only [Act.put, List.setIfInBounds_toArray, List.set_cons_zero, List.set_cons_succ]
  refine H.take 5 (v := ?_) rfl (by kernel_rfl) (fun _ _ _ h => h) (by rfl) ?_ (by assumption) ?_
  rotate_left
  · (intro wz hSw; (try dsimp only at hSw); go_simp <;> with_reducible rfl)
  try simp only [Act.put, List.setIfInBounds_toArray, List.set_cons_zero, List.set_cons_succ]
  refine H.take 6 (v := ?_) rfl (by kernel_rfl) (fun _ _ _ h => h) (by rfl) ?_ (by assumption) ?_
  rotate_left
  · (intro wz hSw; (try dsimp only at hSw); go_simp <;> with_reducible rfl)
  try simp only [Act.put, List.setIfInBounds_toArray, List.set_cons_zero, List.set_cons_succ]
  refine H.done (by kernel_rfl) ?_ _
  go_wp2
  go_ret2
  exact ⟨rfl, g4.drew⟩
/-- Sub64 with a borrow. -/
theorem run_sub64b (x y b c : Int) (hx : 0 ≤ x) (hy : 0 ≤ y) (hb0 : 0 ≤ b) (hb1 : b ≤ 1) (hx1 : x ≤ 18446744073709551615) (hy1 : y ≤ 18446744073709551615) (hc : c = if x < y + b then 1 else 0) (w : World) :
    (callFunc 61 #[.int .u64 x, .int .u64 y, .int .u64 b]).run Try.prog w =
      .ok (.value (.tuple #[.int .u64 ((x + 18446744073709551616 - y - b) % 18446744073709551616), .int .u64 c])) w := by
  obtain ⟨x, rfl⟩ := Int.eq_ofNat_of_zero_le hx
  obtain ⟨y, rfl⟩ := Int.eq_ofNat_of_zero_le hy
  obtain ⟨b, rfl⟩ := Int.eq_ofNat_of_zero_le hb0
  rw [run_callFunc_extern Try.func61 (by kernel_rfl) (by kernel_rfl) (by kernel_rfl) (e := Go.Proofs.sub64Entry) (by kernel_rfl), Go.Proofs.run_sub64 x y b (by omega)]
  simp only [Result.andThen]
  have e1 : (((x + 18446744073709551616 - y - b) % 18446744073709551616 : Nat) : Int) = ((x : Int) + 18446744073709551616 - y - b) % 18446744073709551616 := by omega
  have e2 : ((if x < y + b then 1 else 0 : Nat) : Int) = c := by
    rw [hc]; by_cases h : x < y + b
    · rw [if_pos (by omega), if_pos (by omega)]; rfl
    · rw [if_neg (by omega), if_neg (by omega)]; rfl
  rw [e1, e2]

set_option maxHeartbeats 1000000 in
theorem magnitude_neg {h l : Int} (a0 : 0 ≤ l) (a1 : l ≤ 18446744073709551615) (c0 : -9223372036854775808 ≤ h) (hn : h < 0) (w : World) :
    Calls Try.prog 63 #[.agg #[.int .i64 h, .int .u64 l]] w fun e w' =>
      e = .returned (.tuple #[.int .u64 (hi (-(h * 18446744073709551616 + l))), .int .u64 (lo (-(h * 18446744073709551616 + l)))]) ∧ Below w.heap.size w w' := by
  obtain ⟨b, hb0⟩ : ∃ b : Int, b = if 0 < l then 1 else 0 := ⟨_, rfl⟩
  obtain ⟨b2, hb3⟩ : ∃ b2 : Int, b2 = if 0 < h + 18446744073709551616 + b then 1 else 0 := ⟨_, rfl⟩
  have b0 : 0 ≤ b := by split at hb0 <;> omega
  have b1 : b ≤ 1 := by split at hb0 <;> omega
  have hs1 := fun w => run_sub64 0 l b (by omega) a0 (by omega) a1 hb0 w
  have hs2 := fun w => run_sub64b 0 (h + 18446744073709551616) b b2 (by omega) (by omega) b0 b1 (by omega) (by omega) hb3 w
  have e0 : IntKind.u64.wrap h = h + 18446744073709551616 := by rw [IntKind.wrap_u64]; omega
  have e1 : (0 + 18446744073709551616 - (h + 18446744073709551616) - b) % 18446744073709551616 = hi (-(h * 18446744073709551616 + l)) := by
    unfold hi; split at hb0 <;> omega
  have e2 : (0 + 18446744073709551616 - l) % 18446744073709551616 = lo (-(h * 18446744073709551616 + l)) := by
    unfold lo; omega
  rw [e2] at hs1; rw [e1] at hs2
  clear e1 e2 hb0 hb3
  generalize hi (-(h * 18446744073709551616 + l)) = X at *
  generalize lo (-(h * 18446744073709551616 + l)) = Y at *
  have q1 := fun (w' : World) (h : Blk w' (w.heap.size) #[.int .i64 h, .int .u64 l] 24) => h.two
  go_enter Try.func63, Try.ntmps63
  go_wp2_with (go_at_call 58; refine (negative_yes _ hn _).mono ?_; rintro e w' ⟨rfl, hb⟩; have g := Blk.keep hb (Blk.new (b := w.heap.size) (T := 24) rfl); have g4 := ((Below.refl w.heap.size w).alloc (Nat.le_refl _) _).trans (hb.mono (by simp)))
  go_ret2
  exact ⟨rfl, g4⟩
theorem magnitude_n {n : Int} (hn : InR n) (w : World) :
    Calls Try.prog 63 #[.agg #[.int .i64 (hi n), .int .u64 (lo n)]] w fun e w' =>
      e = .returned (.tuple #[.int .u64 (hi (sz n)), .int .u64 (lo (sz n))]) ∧ Below w.heap.size w w' := by
  by_cases h : n < 0
  · have := magnitude_neg (lo_bd n).1 (lo_bd n).2 (hi_bd hn).1 ((hi_neg n).2 h) w
    rwa [hilo, ← sz_neg h] at this
  · have := magnitude_pos (lo n) (hi_bd hn).2 (fun k => h ((hi_neg n).1 k)) w
    rwa [sz_pos (by omega)]

set_option maxHeartbeats 1000000 in
theorem signer_any (m : Bool) (w : World) :
    Calls Try.prog 64 #[.bool m] w fun e w' => e = .returned (.func (.func 75) #[] #[.pointer (some ⟨w.heap.size, 0, none⟩)]) ∧ w' = w.alloc (.cells #[.bool m] 4) := by
  go_enter Try.func64, Try.ntmps64
  have hmf : ∀ (fn : Fn) (first cap : Array Value) (w : World), (Instr.makeFunc fn first cap).run Try.prog w = .ok (.func fn first cap) w := fun _ _ _ _ => rfl
  go_wp2
  go_ret
  exact ⟨rfl, rfl⟩

/-- With its sign. -/
def sgn (m : Bool) (u : Int) : Int := if m then -u else u
set_option maxHeartbeats 1000000 in
theorem signed_any (m : Bool) {x y : Int} (x0 : 0 ≤ x) (x1 : x ≤ 18446744073709551615) (y0 : 0 ≤ y) (y1 : y ≤ 18446744073709551615) {b : Nat} {w : World} (g : Blk w b #[.bool m] 4) :
    Calls Try.prog 75 #[.int .u64 x, .int .u64 y, .pointer (some ⟨b, 0, none⟩)] w fun e w' =>
      e = .returned (.agg #[.int .i64 (hi (clamp (sgn m (x * 18446744073709551616 + y)))), .int .u64 (lo (clamp (sgn m (x * 18446744073709551616 + y))))]) ∧ Below w.heap.size w w' := by
  have g0 := g.lt
  have g1 := g.one
  rcases (by omega : 9223372036854775807 < x ∨ x ≤ 9223372036854775807) with hx | hx
  · have hcell : ∀ o, (w.alloc o).cell? ⟨b, 0, none⟩ = some (.bool m) := fun o => (g.old o).one
    have hres : hi (clamp (sgn m (x * 18446744073709551616 + y))) = (if m then -9223372036854775808 else 9223372036854775807) ∧ lo (clamp (sgn m (x * 18446744073709551616 + y))) = (if m then 0 else 18446744073709551615) := by
      unfold sgn clamp hi lo
      cases m
      · simp only [Bool.false_eq_true, if_false]; rw [if_neg (by omega), if_pos (by omega)]; omega
      · simp only [if_true]; split
        · omega
        · have : -(x * 18446744073709551616 + y) = -170141183460469231731687303715884105728 := by omega
          rw [if_neg (by omega), this]; omega
    rw [hres.1, hres.2]; clear hres
    have q1 := fun (w' : World) (h : Blk w' w.heap.size #[.int .i64 0, .int .u64 0] 24) => h.two
    have q2 := fun (w' : World) (h : Blk w' w.heap.size #[.int .i64 0, .int .u64 0] 24) => h.free0
    cases m
    · go_enter Try.func75, Try.ntmps75
      go_wp2_with (go_at_call 59; refine (bound_high _).mono ?_; rintro e w' ⟨rfl, hb⟩; have g := Blk.keep hb (Blk.new (b := w.heap.size) (T := 24) rfl); have gB := ((Below.refl w.heap.size w).alloc (Nat.le_refl _) _).trans (hb.mono (by simp)))
      have hfin := (g.put (i := 0) (.int .i64 9223372036854775807)).put (i := 1) (.int .u64 18446744073709551615)
      exact bodyPost_ret (v := .agg #[.int .i64 9223372036854775807, .int .u64 18446744073709551615]) (by simp [results, Try.results75, go_sem, (show Blk _ _ #[.int .i64 9223372036854775807, .int .u64 18446744073709551615] _ from hfin).two]) rfl ⟨rfl, (gB.setCell (by simp) _).setCell (by simp) _⟩
    · go_enter Try.func75, Try.ntmps75
      go_wp2_with (go_at_call 59; refine (bound_low _).mono ?_; rintro e w' ⟨rfl, hb⟩; have g := Blk.keep hb (Blk.new (b := w.heap.size) (T := 24) rfl); have gB := ((Below.refl w.heap.size w).alloc (Nat.le_refl _) _).trans (hb.mono (by simp)))
      have hfin := (g.put (i := 0) (.int .i64 (-9223372036854775808))).put (i := 1) (.int .u64 0)
      exact bodyPost_ret (v := .agg #[.int .i64 (-9223372036854775808), .int .u64 0]) (by simp [results, Try.results75, go_sem, (show Blk _ _ #[.int .i64 (-9223372036854775808), .int .u64 0] _ from hfin).two]) rfl ⟨rfl, (gB.setCell (by simp) _).setCell (by simp) _⟩
  · have hcell : ∀ o, (w.alloc o).cell? ⟨b, 0, none⟩ = some (.bool m) := fun o => (g.old o).one
    have hcell2 : ∀ o o2, ((w.alloc o).alloc o2).cell? ⟨b, 0, none⟩ = some (.bool m) := fun o o2 => ((g.old o).old o2).one
    have q1 := fun (w' : World) (h : Blk w' w.heap.size #[.int .i64 0, .int .u64 0] 24) => h.two
    have q2 := fun (w' : World) (h : Blk w' w.heap.size #[.int .i64 0, .int .u64 0] 24) => h.free0
    have ei : IntKind.i64.wrap x = x := by rw [IntKind.wrap_i64]; omega
    have hneg := fun w => neg_any x y y0 y1 (by omega) hx w
    cases m
    · have hres : clamp (sgn false (x * 18446744073709551616 + y)) = x * 18446744073709551616 + y := by
        unfold sgn; simp only [Bool.false_eq_true, if_false]; exact clamp_of (inR_of y0 y1 (by omega) hx)
      rw [hres, hi_of y0 y1 rfl, lo_of y0 y1 rfl]
      clear hneg hres
      go_enter Try.func75, Try.ntmps75
      go_wp2
      exact bodyPost_ret (v := .agg #[.int .i64 x, .int .u64 y]) (by simp [results, Try.results75, go_sem]) rfl ⟨rfl, ((Below.refl _ _).alloc (Nat.le_refl _) _).alloc (by simp) _⟩
    · unfold sgn; simp only [if_true]
      generalize clamp (-(x * 18446744073709551616 + y)) = r at *
      have HN := Lib.hid hneg; clear hneg
      go_enter Try.func75, Try.ntmps75
      go_wp2_with (go_at_call 22; refine (HN.out _).mono ?_; rintro e w' ⟨rfl, hb⟩; have g := Blk.keep hb (Blk.old (Blk.new (b := w.heap.size) (T := 24) rfl) _); have gB := (((Below.refl w.heap.size w).alloc (Nat.le_refl _) _).alloc (by simp) _).trans (hb.mono (by simp; omega)))
      have hfin := (g.put (i := 0) (.int .i64 (hi r))).put (i := 1) (.int .u64 (lo r))
      exact bodyPost_ret (v := .agg #[.int .i64 (hi r), .int .u64 (lo r)]) (by simp [results, Try.results75, go_sem, (show Blk _ _ #[.int .i64 (hi r), .int .u64 (lo r)] _ from hfin).two]) rfl ⟨rfl, (gB.setCell (by simp) _).setCell (by simp) _⟩

theorem mul64_i (x y : Int) (x0 : 0 ≤ x) (x1 : x ≤ 18446744073709551615) (y0 : 0 ≤ y) (y1 : y ≤ 18446744073709551615) (w : World) :
    Calls Try.prog 65 #[.int .u64 x, .int .u64 y] w fun e w' => e = .returned (.tuple #[.int .u64 (hi (x * y)), .int .u64 (lo (x * y))]) ∧ w = w' := by
  obtain ⟨a, rfl⟩ := Int.eq_ofNat_of_zero_le x0
  obtain ⟨b, rfl⟩ := Int.eq_ofNat_of_zero_le y0
  refine (Try.bits_Mul64 a b (by omega) (by omega) w).mono ?_
  rintro e w' ⟨rfl, rfl⟩
  exact ⟨rfl, rfl⟩

end Go.Proofs.Ytbhgibpocbmipaa
