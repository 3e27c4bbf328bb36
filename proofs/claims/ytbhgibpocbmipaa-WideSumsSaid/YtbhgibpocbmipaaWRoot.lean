
/-
  The contract of wide.Root.
-/
import Derived.Test.YtbhgibpocbmipaaWMul
namespace Go.Proofs.Ytbhgibpocbmipaa
open Go.RowKit

def pw (k : Nat) : Int := ((2 ^ k : Nat) : Int)
theorem pw_pos (k : Nat) : 1 ≤ pw k := by unfold pw; have := Nat.one_le_two_pow (n := k); omega
theorem pw_succ (k : Nat) : pw (k + 1) = 2 * pw k := by unfold pw; rw [Nat.pow_succ]; omega
theorem pw_le {k : Nat} (h : k ≤ 64) : pw k ≤ 18446744073709551616 := by
  unfold pw; have := Nat.pow_le_pow_right (n := 2) (by omega) h; omega

/-- What holds at the head of Root's loop: r is a multiple of p = 2^k, and the root lies from r on, below r + p. -/
def RootInv (n r : Int) (k : Nat) : Prop := k ≤ 64 ∧ 0 ≤ r ∧ r % pw k = 0 ∧ r + pw k ≤ 18446744073709551616 ∧ r * r ≤ n ∧ n < (r + pw k) * (r + pw k)

theorem RootInv.start {n : Int} (h0 : 0 ≤ n) (h1 : n ≤ 170141183460469231731687303715884105727) : RootInv n 0 64 := by
  refine ⟨by omega, by omega, by simp, by decide, by omega, ?_⟩
  have : (0 + pw 64) * (0 + pw 64) = 340282366920938463463374607431768211456 := by decide
  rw [this]; omega
theorem mod_half {r p : Int} (h : r % (2 * p) = 0) : r % p = 0 := by
  have := Int.emod_emod_of_dvd r (Int.dvd_mul_left 2 p); rw [h] at this; simpa using this.symm
theorem RootInv.no {n r : Int} {k : Nat} (h : RootInv n r (k + 1)) (hn : ¬ (r + pw k) * (r + pw k) ≤ n) : RootInv n r k := by
  obtain ⟨a, b, c, d, e, f⟩ := h
  rw [pw_succ] at c d
  have := pw_pos k
  exact ⟨by omega, b, mod_half c, by omega, e, by omega⟩
theorem RootInv.yes {n r : Int} {k : Nat} (h : RootInv n r (k + 1)) (hn : (r + pw k) * (r + pw k) ≤ n) : RootInv n (r + pw k) k := by
  obtain ⟨a, b, c, d, e, f⟩ := h
  rw [pw_succ] at c d f
  have := pw_pos k
  refine ⟨by omega, by omega, ?_, by omega, hn, ?_⟩
  · rw [Int.add_emod_right]; exact mod_half c
  · rw [show r + pw k + pw k = r + 2 * pw k by omega]; exact f
/-- The integer root: r. -/
def IsRoot (n r : Int) : Prop := 0 ≤ r ∧ r ≤ 18446744073709551615 ∧ r * r ≤ n ∧ n < (r + 1) * (r + 1)
theorem RootInv.fin {n r : Int} (h : RootInv n r 0) : IsRoot n r := by
  obtain ⟨a, b, c, d, e, f⟩ := h
  exact ⟨b, by have : pw 0 = 1 := rfl; omega, e, f⟩
def RootPost (n : Int) (w : World) (e : Ending) (w' : World) : Prop := ∃ r, IsRoot n r ∧ e = .returned (.int .u64 r) ∧ Below w.heap.size w w'

/-- At a round's head: the bit is half of 2^k. -/
def RootAt (n : Int) (R B : Value) : Prop := ∃ (r : Int) (k : Nat), RootInv n r k ∧ R = .int .u64 r ∧ B = .int .u64 (pw k / 2)

set_option maxHeartbeats 1000000 in
theorem root_neg {n : Int} (h : n < 0) (w : World) :
    Calls Try.prog 34 #[.agg #[.int .i64 (hi n), .int .u64 (lo n)]] w fun e w' => e = .returned (.int .u64 0) ∧ Below w.heap.size w w' := by
  have hd := decide_eq_true h
  have q1 := fun (w' : World) (h : Blk w' w.heap.size #[.int .i64 (hi n), .int .u64 (lo n)] 24) => h.two
  go_enter Try.func34, Try.ntmps34
  go_wp2_with (go_at_call 58; refine (negative_n _ _).mono ?_; rintro e w1 ⟨rfl, hb1⟩; have gB := ((Below.refl w.heap.size w).alloc (Nat.le_refl _) _).trans (hb1.mono (by simp)))
  go_ret
  exact ⟨rfl, gB⟩

set_option maxHeartbeats 1000000 in
theorem root_pos {n : Int} (h : 0 ≤ n) (hn : InR n) (w : World) :
    Calls Try.prog 34 #[.agg #[.int .i64 (hi n), .int .u64 (lo n)]] w (RootPost n w) := by
  have hd : decide (n < 0) = false := decide_eq_false (by omega)
  have hb := hi_bd hn; have lb := lo_bd n
  have hb0 : 0 ≤ hi n := hi_nn h
  have eW : IntKind.u64.wrap (hi n) = hi n := by rw [IntKind.wrap_u64]; omega
  have q1 := fun (w' : World) (h : Blk w' w.heap.size #[.int .i64 (hi n), .int .u64 (lo n)] 24) => h.two
  have hst := RootInv.start h hn.2
  go_enter Try.func34, Try.ntmps34
  go_wp2_with (go_at_call 58; refine (negative_n _ _).mono ?_; rintro e w1 ⟨rfl, hb1⟩; have g := Blk.keep hb1 (Blk.new (b := w.heap.size) (T := 24) rfl); have gB := ((Below.refl w.heap.size w).alloc (Nat.le_refl _) _).trans (hb1.mono (by simp)))
  obtain ⟨g1, g2⟩ := g.two
  go_loop [3, 4] (fun R B => RootAt n R B) (fun _ B => (intOf B).toNat)
  case atStart => exact ⟨0, 64, hst, rfl, rfl⟩
  case round =>
    obtain ⟨r, k, hk, rfl, rfl⟩ := hrel
    clear hst
    rcases k with _ | k
    · have hfin := hk.fin
      have ez : pw 0 / 2 = 0 := rfl
      rw [ez]
      go_wp2
      go_ret
      exact ⟨r, hfin, rfl, gB⟩
    · have ek : pw (k + 1) / 2 = pw k := by rw [pw_succ]; omega
      have ek2 : pw k / 2 = (pw k / 2 : Int) := rfl
      rw [ek]
      have hp := pw_pos k
      have hk2 := hk
      obtain ⟨z1, z2, z3, z4, _, _⟩ := hk2
      rw [pw_succ] at z3 z4
      have hple := pw_le (k := k) (by omega)
      have eor : bits .or .u64 r (pw k) = r + pw k := or_u64 (k + 1) (by rw [show (((2 ^ (k + 1) : Nat)) : Int) = pw (k + 1) from rfl, pw_succ]) z3 z2 (by omega) (by omega) (by omega) (by omega)
      have mm := fun w => mul64_i (r + pw k) (r + pw k) (by omega) (by omega) (by omega) (by omega) w
      have hlt := hilo_lt n ((r + pw k) * (r + pw k))
      have lb2 := lo_bd ((r + pw k) * (r + pw k))
      have hyes := hk.yes; have hno := hk.no
      clear hk z3
      generalize hP : pw k = P at *
      generalize (r + P) * (r + P) = T at *
      generalize hi T = X at *; generalize lo T = Y at *
      have MM := Lib.hid mm; have HY := Lib.hid hyes; have HN := Lib.hid hno; have HP := Lib.hid hP
      clear mm hyes hno hP
      by_cases hT : T ≤ n
      · have hinv := Lib.hid (HY.out hT)
        have hT' : ¬ n < T := by omega
        rw [hlt] at hT'
        clear hlt hT
        generalize hi n = A at *; generalize lo n = B at *
        by_cases h1 : X < A
        · clear hT'
          go_wp2_with (go_at_call 65; refine (MM.out _).mono ?_; rintro e w2 ⟨rfl, rfl⟩)
          go_round
          case rel => exact ⟨_, k, HP.out ▸ hinv.out, rfl, by rw [HP.out]⟩
          case measure => simp [intOf]; omega
        · obtain rfl : A = X := by omega
          have h2 : Y ≤ B := by omega
          clear hT'
          go_wp2_with (go_at_call 65; refine (MM.out _).mono ?_; rintro e w2 ⟨rfl, rfl⟩)
          go_round
          case rel => exact ⟨_, k, HP.out ▸ hinv.out, rfl, by rw [HP.out]⟩
          case measure => simp [intOf]; omega
      · have hinv := Lib.hid (HN.out hT)
        have hT' : n < T := by omega
        rw [hlt] at hT'
        clear hlt hT
        generalize hi n = A at *; generalize lo n = B at *
        by_cases h1 : A < X
        · have e1 : (X == A) = false := by rw [beq_eq_false_iff_ne]; omega
          have h2 : ¬ X < A := by omega
          clear hT'
          go_wp2_with (go_at_call 65; refine (MM.out _).mono ?_; rintro e w2 ⟨rfl, rfl⟩)
          go_round
          case rel => exact ⟨_, k, hinv.out, rfl, by rw [HP.out]⟩
          case measure => simp [intOf]; omega
        · obtain rfl : A = X := by omega
          have h2 : ¬ Y ≤ B := by omega
          clear hT'
          go_wp2_with (go_at_call 65; refine (MM.out _).mono ?_; rintro e w2 ⟨rfl, rfl⟩)
          go_round
          case rel => exact ⟨_, k, hinv.out, rfl, by rw [HP.out]⟩
          case measure => simp [intOf]; omega
end Go.Proofs.Ytbhgibpocbmipaa
