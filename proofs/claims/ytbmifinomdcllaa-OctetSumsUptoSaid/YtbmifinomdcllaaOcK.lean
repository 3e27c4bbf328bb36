
/-
  Octet: the document's checksum.
-/
import Derived.Test.YtbmifinomdcllaaOcF

import Derived.Test.YtbmifinomdcllaaOcJ

namespace Go.Proofs.Ytbmifinomdcllaa

open Go.RowKit Go.Lib

set_option maxRecDepth 100000

def RsR (l : List UInt8) (r s i : Value) : Prop := ∃ k : Nat, k ≤ l.length ∧ i = .int .i64 k ∧ r = .int .u64 ((sumP true (l.take k) % 65535 : Nat) : Int) ∧ s = .bool (decide (0 < sumP true (l.take k)))
theorem sumP_snoc (l : List UInt8) (k : Nat) (h : k < l.length) : sumP true (l.take (k + 1)) = sumP true (l.take k) + if k % 2 = 0 then (l.getD k 0).toNat * 256 else (l.getD k 0).toNat := by
  rw [List.take_succ_eq_append_getElem h, sumP_app, sumP_one, List.length_take, Nat.min_eq_left (by omega), getD_lt h]
  congr 1
  unfold flipN
  split <;> rfl
theorem Rd.at3 {w : World} {blk off : Nat} {l : List UInt8} (h : Rd w (some ⟨blk, off, none⟩) l) (j : Nat) (hj : j < l.length) : w.cell? ⟨blk, off + j, none⟩ = some (.int .u8 ((l.getD j 0).toNat : Int)) := h.at2 j hj
set_option maxHeartbeats 2000000 in
theorem refSum_any (A : Option Addr) (l : List UInt8) (cap : Nat) (hlen : l.length ≤ 1099511627776) (w : World) (hr : Rd w A l) :
    Calls Try.prog 18 #[.slice A l.length cap] w fun e w' => e = .returned (.int .u16 (ck (sumP true l) : Nat)) ∧ w = w' := by
  have HR := Lib.hid hr
  have hst : RsR l (.int .u64 0) (.bool false) (.int .i64 0) := ⟨0, Nat.zero_le _, rfl, rfl, rfl⟩
  have HST := Lib.hid hst
  clear hr hst
  go_enter Try.func18, Try.ntmps18
  go_wp2
  go_loop [3, 4, 5] (fun r s i => RsR l r s i) (fun _ _ i => l.length - (intOf i).toNat)
  case atStart => exact HST.out
  case round =>
    obtain ⟨k, hk, rfl, rfl, rfl⟩ := hrel
    by_cases hlt : k < l.length
    · obtain ⟨blk, off, rfl⟩ := HR.out.some_ (by omega)
      have hc := HR.out.at3 k hlt
      have hsn := sumP_snoc l k hlt
      have hb2 : (l.getD k 0).toNat < 256 := UInt8.toNat_lt _
      generalize l.getD k 0 = b at *
      obtain ⟨B, hB⟩ : ∃ B : Nat, b.toNat = B := ⟨_, rfl⟩
      rw [hB] at hsn hb2 hc
      have hbI : (B : Int) < 256 := by omega
      generalize sumP true (l.take k) = S at *
      generalize hS2 : sumP true (l.take (k + 1)) = S2 at *
      have hrb : ((S % 65535 : Nat) : Int) < 65535 := by omega
      generalize hR : S % 65535 = R at *
      have hltI : (k : Int) < (l.length : Int) := by omega
      rcases Nat.mod_two_eq_zero_or_one k with hm | hm
      · rw [if_pos hm] at hsn
        have hmi : ((k : Int) % 2 == 0) = true := by rw [beq_iff_eq]; omega
        have hn1 : S2 % 65535 = (R + B * 256) % 65535 := by omega
        have HN := Lib.hid hn1; have HS2 := Lib.hid hS2; have HSN := Lib.hid hsn
        clear hn1 hS2 hsn hm hB
        rcases Nat.eq_zero_or_pos S with hS | hS
        · have hd : decide (0 < S) = false := by simp; omega
          rw [hd]
          have HS := Lib.hid hS
          clear hS
          go_wp2
          go_round
          case rel => exact ⟨k + 1, by omega, by go_num, by rw [HS2.out, HN.out]; exact congrArg (Value.int .u64) (by omega), by rw [HS2.out]; exact congrArg Value.bool (decide_eq_decide.2 (by have := HSN.out; have := HS.out; omega))⟩
          case measure => simp [intOf]; omega
        · have hd : decide (0 < S) = true := by simp; omega
          rw [hd]
          have HS := Lib.hid hS
          clear hS
          go_wp2
          go_round
          case rel => exact ⟨k + 1, by omega, by go_num, by rw [HS2.out, HN.out]; exact congrArg (Value.int .u64) (by omega), by rw [HS2.out]; rw [decide_eq_true (by have := HSN.out; have := HS.out; omega)]⟩
          case measure => simp [intOf]; omega
      · rw [if_neg (by omega)] at hsn
        have hmi : ((k : Int) % 2 == 0) = false := by rw [beq_eq_false_iff_ne]; omega
        have hn1 : S2 % 65535 = (R + B) % 65535 := by omega
        have HN := Lib.hid hn1; have HS2 := Lib.hid hS2; have HSN := Lib.hid hsn
        clear hn1 hS2 hsn hm hB
        rcases Nat.eq_zero_or_pos S with hS | hS
        · have hd : decide (0 < S) = false := by simp; omega
          rw [hd]
          have HS := Lib.hid hS
          clear hS
          go_wp2
          go_round
          case rel => exact ⟨k + 1, by omega, by go_num, by rw [HS2.out, HN.out]; exact congrArg (Value.int .u64) (by omega), by rw [HS2.out]; exact congrArg Value.bool (decide_eq_decide.2 (by have := HSN.out; have := HS.out; omega))⟩
          case measure => simp [intOf]; omega
        · have hd : decide (0 < S) = true := by simp; omega
          rw [hd]
          have HS := Lib.hid hS
          clear hS
          go_wp2
          go_round
          case rel => exact ⟨k + 1, by omega, by go_num, by rw [HS2.out, HN.out]; exact congrArg (Value.int .u64) (by omega), by rw [HS2.out]; rw [decide_eq_true (by have := HSN.out; have := HS.out; omega)]⟩
          case measure => simp [intOf]; omega
    · have hk' : k = l.length := by omega
      rw [List.take_of_length_le (by omega)]
      obtain ⟨S, hSe⟩ : ∃ S, sumP true l = S := ⟨_, rfl⟩
      rw [hSe]
      have HSE := Lib.hid hSe
      clear hSe
      have hrb : ((S % 65535 : Nat) : Int) < 65535 := by omega
      rcases Nat.eq_zero_or_pos S with hS | hS
      · subst hS
        rw [show decide (0 < 0) = false from rfl, show 0 % 65535 = 0 from rfl]
        go_wp2
        go_ret
        exact ⟨by rw [HSE.out]; rfl, rfl⟩
      · rw [decide_eq_true hS]
        by_cases h0 : S % 65535 = 0
        · have HC := Lib.hid (show ck S = 0 by unfold ck; rw [if_neg (by omega), if_pos h0])
          rw [h0] at *
          clear hS h0
          go_wp2
          go_ret
          exact ⟨by rw [HSE.out, HC.out]; rfl, rfl⟩
        · have HC := Lib.hid (show ck S = 65535 - S % 65535 by unfold ck; rw [if_neg (by omega), if_neg h0])
          generalize S % 65535 = R at *
          have hne : ((R : Int) == 0) = false := by rw [beq_eq_false_iff_ne]; omega
          have HR2 := Lib.hid hrb
          clear hS h0
          go_wp2
          go_ret
          exact ⟨by rw [HSE.out, HC.out]; exact ret_i (by have := HR2.out; omega), rfl⟩
end Go.Proofs.Ytbmifinomdcllaa
