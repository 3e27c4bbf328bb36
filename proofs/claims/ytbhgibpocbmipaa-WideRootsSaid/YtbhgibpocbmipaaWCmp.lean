
/-
  Contracts of package wide: Abs, Cmp, Clip; and of the statements' own 'ends'.
-/
import Derived.Test.YtbhgibpocbmipaaWMore
namespace Go.Proofs.Ytbhgibpocbmipaa
open Go.RowKit

theorem hi_nn {x : Int} (h : 0 ≤ x) : 0 ≤ hi x := by unfold hi; omega
theorem hi_le {x c : Int} (h : x ≤ c) : hi x ≤ c / 18446744073709551616 := by unfold hi; omega
theorem neg_n {n : Int} (hn : InR n) (w : World) :
    Calls Try.prog 22 #[.agg #[.int .i64 (hi n), .int .u64 (lo n)]] w fun e w' =>
      e = .returned (.agg #[.int .i64 (hi (clamp (-n))), .int .u64 (lo (clamp (-n)))]) ∧ Below w.heap.size w w' := by
  have := neg_any (hi n) (lo n) (lo_bd n).1 (lo_bd n).2 (hi_bd hn).1 (hi_bd hn).2 w
  rwa [hilo] at this
theorem half_n (n : Int) (w : World) :
    Calls Try.prog 30 #[.agg #[.int .i64 (hi n), .int .u64 (lo n)]] w fun e w' =>
      e = .returned (.agg #[.int .i64 (hi (n / 2)), .int .u64 (lo (n / 2))]) ∧ Below w.heap.size w w' := by
  have := half_any (hi n) (lo n) (lo_bd n).1 (lo_bd n).2 w
  rwa [hilo] at this
theorem negative_n (n : Int) (w : World) :
    Calls Try.prog 58 #[.agg #[.int .i64 (hi n), .int .u64 (lo n)]] w fun e w' => e = .returned (.bool (decide (n < 0))) ∧ Below w.heap.size w w' := by
  have := negative_any (hi n) (lo n) w
  rwa [decide_eq_decide.2 (hi_neg n)] at this

set_option maxHeartbeats 1000000 in
theorem abs_n {n : Int} (hn : InR n) (w : World) :
    Calls Try.prog 23 #[.agg #[.int .i64 (hi n), .int .u64 (lo n)]] w fun e w' =>
      e = .returned (.agg #[.int .i64 (hi (clamp (sz n))), .int .u64 (lo (clamp (sz n)))]) ∧ Below w.heap.size w w' := by
  have q1 := fun (w' : World) (h : Blk w' w.heap.size #[.int .i64 (hi n), .int .u64 (lo n)] 24) => h.two
  have q2 := fun (w' : World) (h : Blk w' (w.heap.size + 1) #[.int .i64 0, .int .u64 0] 24) => h.two
  have q3 := fun (w' : World) (h : Blk w' (w.heap.size + 1) #[.int .i64 0, .int .u64 0] 24) => h.free0
  rcases hd : decide (n < 0) with _ | _
  · have hs := of_decide_eq_false hd
    rw [sz_pos (by omega), clamp_of hn]
    go_enter Try.func23, Try.ntmps23
    go_wp2_with (go_at_call 58; refine (negative_n _ _).mono ?_; rintro e w1 ⟨rfl, hb1⟩; have g := Blk.keep hb1 (Blk.new (b := w.heap.size + 1) (T := 24) (by simp)); have gA := Blk.keep hb1 (Blk.old (Blk.new (b := w.heap.size) (T := 24) rfl) _); have gB := (((Below.refl w.heap.size w).alloc (Nat.le_refl _) _).alloc (by simp) _).trans (hb1.mono (by simp; omega)))
    have hfin := (g.put (i := 0) (.int .i64 (hi n))).put (i := 1) (.int .u64 (lo n))
    exact bodyPost_ret (v := .agg #[.int .i64 (hi n), .int .u64 (lo n)]) (by simp [results, Try.results23, go_sem, (show Blk _ _ #[.int .i64 (hi n), .int .u64 (lo n)] _ from hfin).two]) rfl ⟨rfl, (gB.setCell (by simp) _).setCell (by simp) _⟩
  · have hs := of_decide_eq_true hd
    rw [sz_neg hs]
    go_enter Try.func23, Try.ntmps23
    go_wp2_with (first | (go_at_call 58; refine (negative_n _ _).mono ?_; rintro e w1 ⟨rfl, hb1⟩; have g := Blk.keep hb1 (Blk.new (b := w.heap.size + 1) (T := 24) (by simp)); have gA := Blk.keep hb1 (Blk.old (Blk.new (b := w.heap.size) (T := 24) rfl) _); have gB := (((Below.refl w.heap.size w).alloc (Nat.le_refl _) _).alloc (by simp) _).trans (hb1.mono (by simp; omega))) | (go_at_call 22; refine (neg_n hn _).mono ?_; rintro e w1 ⟨rfl, hb1⟩; replace g := Blk.keep hb1 g; replace gB := gB.trans (hb1.mono gB.size)))
    have hfin := (g.put (i := 0) (.int .i64 (hi (clamp (-n))))).put (i := 1) (.int .u64 (lo (clamp (-n))))
    exact bodyPost_ret (v := .agg #[.int .i64 (hi (clamp (-n))), .int .u64 (lo (clamp (-n)))]) (by simp [results, Try.results23, go_sem, (show Blk _ _ #[.int .i64 (hi (clamp (-n))), .int .u64 (lo (clamp (-n)))] _ from hfin).two]) rfl ⟨rfl, (gB.setCell (by simp) _).setCell (by simp) _⟩

/-- Which is greater, as -1, 0, 1. -/
def cmpI (a b : Int) : Int := if a = b then 0 else if a < b then -1 else 1
theorem hilo_lt (a b : Int) : a < b ↔ hi a < hi b ∨ hi a = hi b ∧ lo a < lo b := by unfold hi lo; omega

set_option maxHeartbeats 1000000 in
theorem cmp_n (a b : Int) (w : World) :
    Calls Try.prog 24 #[.agg #[.int .i64 (hi a), .int .u64 (lo a)], .agg #[.int .i64 (hi b), .int .u64 (lo b)]] w fun e w' =>
      e = .returned (.int .i64 (cmpI a b)) ∧ Below w.heap.size w w' := by
  have hlt := hilo_lt a b
  by_cases h : a = b
  · subst h
    rw [show cmpI a a = 0 by unfold cmpI; rw [if_pos rfl]]
    clear hlt
    go_enter Try.func24, Try.ntmps24
    go_wp2
    go_ret
    exact ⟨rfl, ((Below.refl _ _).alloc (Nat.le_refl _) _).alloc (by simp) _⟩
  · have hne : ¬ (hi a = hi b ∧ lo a = lo b) := fun k => h (hilo_inj k.1 k.2)
    by_cases hl : a < b
    · rw [show cmpI a b = -1 by unfold cmpI; rw [if_neg h, if_pos hl]]
      rw [hlt] at hl
      clear hlt h
      generalize hi a = A at *; generalize lo a = B at *; generalize hi b = C at *; generalize lo b = D at *
      by_cases h1 : A < C
      · have e1 : (A == C) = false := by rw [beq_eq_false_iff_ne]; omega
        clear hne hl
        go_enter Try.func24, Try.ntmps24
        go_wp2
        go_ret
        exact ⟨rfl, ((Below.refl _ _).alloc (Nat.le_refl _) _).alloc (by simp) _⟩
      · obtain ⟨rfl, h2⟩ : A = C ∧ B < D := by omega
        clear hne hl
        go_enter Try.func24, Try.ntmps24
        go_wp2
        go_ret
        exact ⟨rfl, ((Below.refl _ _).alloc (Nat.le_refl _) _).alloc (by simp) _⟩
    · rw [show cmpI a b = 1 by unfold cmpI; rw [if_neg h, if_neg hl]]
      rw [hlt] at hl
      clear hlt h
      generalize hi a = A at *; generalize lo a = B at *; generalize hi b = C at *; generalize lo b = D at *
      by_cases h1 : C < A
      · have e1 : (A == C) = false := by rw [beq_eq_false_iff_ne]; omega
        have h2 : ¬ A < C := by omega
        clear hne hl
        go_enter Try.func24, Try.ntmps24
        go_wp2
        go_ret
        exact ⟨rfl, ((Below.refl _ _).alloc (Nat.le_refl _) _).alloc (by simp) _⟩
      · obtain ⟨rfl, h2⟩ : A = C ∧ D < B := by omega
        have h3 : ¬ B < D := by omega
        clear hne hl
        go_enter Try.func24, Try.ntmps24
        go_wp2
        go_ret
        exact ⟨rfl, ((Below.refl _ _).alloc (Nat.le_refl _) _).alloc (by simp) _⟩

end Go.Proofs.Ytbhgibpocbmipaa
