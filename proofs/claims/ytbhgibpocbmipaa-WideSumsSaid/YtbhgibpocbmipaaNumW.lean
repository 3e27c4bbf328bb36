
/-
  The document's numbers from wide ones, and as such.
-/
import Derived.Test.YtbhgibpocbmipaaNumQ
namespace Go.Proofs.Ytbhgibpocbmipaa
open Go.Den Go.RowKit
noncomputable section
set_option maxRecDepth 100000
def mostL : List Int := [65535, 65535, 65535, 65535, 65535, 65535, 65535, 32767, 0, 0, 0, 0, 0, 0, 0, 0, 0, 0, 0, 0]
def leastL : List Int := [0, 0, 0, 0, 0, 0, 0, 32768, 0, 0, 0, 0, 0, 0, 0, 0, 0, 0, 0, 0]
def topL : List Int := [0, 0, 0, 0, 1, 0, 0, 0, 0, 0, 0, 0, 0, 0, 0, 0, 0, 0, 0, 0]
def stp (h p : Int) : Int := IntKind.wrap .u64 (IntKind.wrap .u64 (65536 * h) + p)
def st4 (a b c d : Int) : Int := stp (stp (stp (stp 0 d) c) b) a
theorem wide_read (s1 : Bool) (a0 a1 a2 a3 a4 a5 a6 a7 a8 a9 a10 a11 a12 a13 a14 a15 a16 a17 a18 a19 : Int) (Q : Value → Prop) (oa : Bool) (e_oa : oa = okNum (mapU [a0, a1, a2, a3, a4, a5, a6, a7, a8, a9, a10, a11, a12, a13, a14, a15, a16, a17, a18, a19])) (x : Int) (e_x : x = sv s1 (mag (mapU [a0, a1, a2, a3, a4, a5, a6, a7, a8, a9, a10, a11, a12, a13, a14, a15, a16, a17, a18, a19]))) (u : Int) (e_u : u = st4 a4 a5 a6 a7) (v : Int) (e_v : v = st4 a0 a1 a2 a3) :
    ((ev envR2 300).call [] 16 #[.agg ⟨.bool s1 :: mapU [a0, a1, a2, a3, a4, a5, a6, a7, a8, a9, a10, a11, a12, a13, a14, a15, a16, a17, a18, a19]⟩] [] B0).holds (fun r => Q r.v) =
    bcase (oa && okNum (mapU mostL)) (bcase (decide (cmpI x (sv false (mag (mapU mostL))) > 0)) (Q (.agg ⟨[.int .i64 9223372036854775807, .int .u64 18446744073709551615]⟩))
      (bcase (oa && okNum (mapU leastL)) (bcase (decide (cmpI x (sv true (mag (mapU leastL))) < 0)) (Q (.agg ⟨[.int .i64 (-9223372036854775808), .int .u64 0]⟩))
        (bcase s1 (bcase (decide (v > 0)) (Q (.agg ⟨[.int .i64 (IntKind.wrap .i64 (IntKind.wrap .u64 (IntKind.wrap .u64 (0 - u) - 1))), .int .u64 (IntKind.wrap .u64 (0 - v))]⟩)) (Q (.agg ⟨[.int .i64 (IntKind.wrap .i64 (IntKind.wrap .u64 (0 - u))), .int .u64 (IntKind.wrap .u64 (0 - v))]⟩)))
          (Q (.agg ⟨[.int .i64 (IntKind.wrap .i64 u), .int .u64 v]⟩)))) False)) False := by
  subst e_oa e_x e_u e_v
  kernel_rfl
theorem from_read (h l : Int) (Q : Value → Prop) (z : Int) (e_z : z = mag (mapU (digsN 20 (sz h)))) (m : Int) (e_m : m = mag (mapU (digsN 20 (z * mag (mapU topL))))) (y : Int) (e_y : y = mag (mapU (digsN 20 l))) :
    ((ev envR2 300).call [] 14 #[.agg #[.int .i64 h, .int .u64 l]] [] B0).holds (fun r => Q r.v) =
    bcase (okI h) (bcase (okNum (mapU (digsN 20 (sz h))) && (okNum (mapU topL) && decide (z * mag (mapU topL) < T320)))
      (bcase (okU l) (bcase (okNum (mapU (digsN 20 (z * mag (mapU topL)))) && (okNum (mapU (digsN 20 l)) && (decide (y < T304) && decide (m + y < T320))))
        (Q (nv (addSg (decide (h < 0) != false) m false y) (sz (sv (decide (h < 0) != false) m + sv false y)))) False) False) False) False := by
  subst e_m e_y e_z
  kernel_rfl
theorem ok_most : okNum (mapU mostL) = true := by kernel_rfl
theorem ok_least : okNum (mapU leastL) = true := by kernel_rfl
theorem ok_top : okNum (mapU topL) = true := by kernel_rfl
theorem mag_most : sv false (mag (mapU mostL)) = 170141183460469231731687303715884105727 := by kernel_rfl
theorem mag_least : sv true (mag (mapU leastL)) = -170141183460469231731687303715884105728 := by kernel_rfl
theorem mag_top : mag (mapU topL) = 18446744073709551616 := by kernel_rfl
theorem cmp_gt (a b : Int) : decide (cmpI a b > 0) = decide (b < a) := by
  unfold cmpI; split
  · rename_i h; rw [decide_eq_decide]; omega
  · split
    · rename_i h; rw [decide_eq_decide]; omega
    · rw [decide_eq_decide]; omega
theorem st4_eq {a b c d : Int} (ha : 0 ≤ a ∧ a ≤ 65535) (hb : 0 ≤ b ∧ b ≤ 65535) (hc : 0 ≤ c ∧ c ≤ 65535) (hd : 0 ≤ d ∧ d ≤ 65535) : st4 a b c d = a + 65536 * b + 4294967296 * c + 281474976710656 * d := by
  have s1 : ∀ h p : Int, 0 ≤ h → h ≤ 281474976710655 → 0 ≤ p → p ≤ 65535 → stp h p = 65536 * h + p := fun h p h0 h1 p0 p1 => by
    unfold stp; rw [w64 (n := 65536 * h) (by omega) (by omega)]; exact w64 (by omega) (by omega)
  unfold st4
  rw [s1 0 d (by omega) (by omega) hd.1 hd.2, s1 _ c (by omega) (by omega) hc.1 hc.2, s1 _ b (by omega) (by omega) hb.1 hb.2, s1 _ a (by omega) (by omega) ha.1 ha.2]
  omega
def rwideS : Array Value → Option (Bool × Value)
  | ⟨[.agg ⟨.bool s :: r⟩]⟩ => some (okNum r, wv (clamp (sv s (mag r))))
  | _ => none
def rfromS : Array Value → Option (Bool × Value)
  | ⟨[.agg ⟨[.int .i64 h, .int .u64 l]⟩]⟩ => some (okW h l, nv (decide (W2 h l < 0)) (sz (W2 h l)))
  | _ => none
theorem wideE {a b n : Int} (h0 : 0 ≤ b) (h1 : b ≤ 18446744073709551615) (e : a * 18446744073709551616 + b = n) : Value.agg ⟨[.int .i64 a, .int .u64 b]⟩ = wv n := by
  unfold wv; rw [hi_of h0 h1 e, lo_of h0 h1 e]
set_option maxHeartbeats 2000000 in
def pcRWide : PC Try.prog where
  f := 16
  spec := rwideS
  body := by kernel_rfl
  ok := fun args r hr hok => by
    unfold rwideS at hr
    split at hr
    · rename_i s r
      cases hr
      have hok' : okNum r = true := hok
      obtain ⟨l, rfl, hl, hp, hm⟩ := num_out hok'
      have hb : (#[Value.agg ⟨.bool s :: mapU l⟩] : Array Value).all (bel B0) = true := all_bel (by rw [belL, bel_num]; rfl)
      refine ⟨hb, rfl, fun w => calls_spec envR2 hcokP 300 ?_ hb rfl w⟩
      obtain ⟨a0, a1, a2, a3, a4, a5, a6, a7, a8, a9, a10, a11, a12, a13, a14, a15, a16, a17, a18, a19, rfl⟩ := list20 hl
      refine (wide_read s a0 a1 a2 a3 a4 a5 a6 a7 a8 a9 a10 a11 a12 a13 a14 a15 a16 a17 a18 a19 (fun v => v = wv (clamp (sv s (mag (mapU [a0, a1, a2, a3, a4, a5, a6, a7, a8, a9, a10, a11, a12, a13, a14, a15, a16, a17, a18, a19]))))) _ rfl _ rfl _ rfl _ rfl).mpr ?_
      have hok2 : okNum (mapU [a0, a1, a2, a3, a4, a5, a6, a7, a8, a9, a10, a11, a12, a13, a14, a15, a16, a17, a18, a19]) = true := hok
      rw [hok2, ok_most, ok_least, mag_most, mag_least, Bool.and_self, bcase_t, bcase_t, cmp_gt, cmp_lt, hm]
      have pt := hp.tail.tail.tail.tail.tail.tail.tail.tail
      have hv := (val_bd pt).1
      have b0 := hp.head; have b1 := hp.tail.head; have b2 := hp.tail.tail.head; have b3 := hp.tail.tail.tail.head
      have b4 := hp.tail.tail.tail.tail.head; have b5 := hp.tail.tail.tail.tail.tail.head; have b6 := hp.tail.tail.tail.tail.tail.tail.head; have b7 := hp.tail.tail.tail.tail.tail.tail.tail.head
      have ev8 : val [a0, a1, a2, a3, a4, a5, a6, a7, a8, a9, a10, a11, a12, a13, a14, a15, a16, a17, a18, a19] = a0 + 65536 * (a1 + 65536 * (a2 + 65536 * (a3 + 65536 * (a4 + 65536 * (a5 + 65536 * (a6 + 65536 * (a7 + 65536 * val [a8, a9, a10, a11, a12, a13, a14, a15, a16, a17, a18, a19]))))))) := rfl
      rw [st4_eq b0 b1 b2 b3, st4_eq b4 b5 b6 b7]
      generalize val [a0, a1, a2, a3, a4, a5, a6, a7, a8, a9, a10, a11, a12, a13, a14, a15, a16, a17, a18, a19] = N at *
      generalize val [a8, a9, a10, a11, a12, a13, a14, a15, a16, a17, a18, a19] = V at *
      clear hok hok2 hok' hb hp pt hl hm
      obtain ⟨lo8, hlo⟩ : ∃ x, x = a0 + 65536 * a1 + 4294967296 * a2 + 281474976710656 * a3 := ⟨_, rfl⟩
      obtain ⟨hi8, hhi⟩ : ∃ x, x = a4 + 65536 * a5 + 4294967296 * a6 + 281474976710656 * a7 := ⟨_, rfl⟩
      rw [← hlo, ← hhi]
      have l0 : 0 ≤ lo8 ∧ lo8 ≤ 18446744073709551615 := by omega
      have h0 : 0 ≤ hi8 ∧ hi8 ≤ 18446744073709551615 := by omega
      have eN : N = lo8 + 18446744073709551616 * hi8 + 340282366920938463463374607431768211456 * V := by omega
      clear ev8 hlo hhi b0 b1 b2 b3 b4 b5 b6 b7
      refine bcase_in (fun q => ?_) fun q => bcase_in (fun q2 => ?_) fun q2 => ?_
      · rw [decide_eq_true_eq] at q
        refine wideE (by omega) (by omega) ?_
        unfold clamp; omega
      · rw [decide_eq_true_eq] at q2
        refine wideE (by omega) (by omega) ?_
        unfold clamp; omega
      · rw [decide_eq_false_iff_not] at q q2
        rw [clamp_of (by unfold InR; omega)]
        cases s
        · simp only [bcase_n, sv, cond_false] at *
          refine wideE l0.1 l0.2 ?_
          rw [IntKind.wrap_i64]; omega
        · simp only [bcase_t, sv, cond_true] at *
          have wv0 : IntKind.u64.wrap (0 - lo8) = if lo8 = 0 then 0 else 18446744073709551616 - lo8 := by rw [IntKind.wrap_u64]; split <;> omega
          have wh0 : IntKind.u64.wrap (0 - hi8) = if hi8 = 0 then 0 else 18446744073709551616 - hi8 := by rw [IntKind.wrap_u64]; split <;> omega
          rw [wv0, wh0]
          refine bcase_in (fun q3 => ?_) fun q3 => ?_
          · rw [decide_eq_true_eq] at q3
            refine wideE (by split <;> omega) (by split <;> omega) ?_
            rw [IntKind.wrap_u64, IntKind.wrap_i64]
            split <;> split <;> omega
          · rw [decide_eq_false_iff_not] at q3
            refine wideE (by split <;> omega) (by split <;> omega) ?_
            rw [IntKind.wrap_i64]
            split <;> split <;> omega
    · cases hr
theorem nvE {s s' : Bool} {n n' : Int} (h : s = s') (h2 : n = n') : nv s n = nv s' n' := by rw [h, h2]
def pcRFrom : PC Try.prog where
  f := 14
  spec := rfromS
  body := by kernel_rfl
  ok := fun args r hr hok => by
    unfold rfromS at hr
    split at hr
    · rename_i h l
      cases hr
      have hok' : okW h l = true := hok
      have b := okW_iff.1 hok'
      have kI : okI h = true := okI_iff.2 b.1
      have kU : okU l = true := okU_iff.2 b.2
      refine ⟨all_bel rfl, bel_nv _ _, fun w => calls_spec envR2 hcokP 300 ?_ (all_bel rfl) (bel_nv _ _) w⟩
      have z0 : 0 ≤ sz h ∧ sz h ≤ 9223372036854775808 := by unfold sz; omega
      have e1 : mag (mapU (digsN 20 (sz h))) = sz h := mag_nv z0.1 (by unfold T320; omega)
      have e2 : mag (mapU (digsN 20 (sz h * 18446744073709551616))) = sz h * 18446744073709551616 := mag_nv (by omega) (by unfold T320; omega)
      have e3 : mag (mapU (digsN 20 l)) = l := mag_nv (by omega) (by unfold T320; omega)
      refine (from_read h l (fun v => v = nv (decide (W2 h l < 0)) (sz (W2 h l))) _ rfl _ rfl _ rfl).mpr ?_
      rw [mag_top, e1, e2, e3, kI, kU, ok_nv, ok_nv, ok_nv, ok_top, decide_eq_true (show sz h * 18446744073709551616 < T320 by unfold T320; omega), decide_eq_true (show l < T304 by unfold T304; omega),
        decide_eq_true (show sz h * 18446744073709551616 + l < T320 by unfold T320; omega)]
      simp only [Bool.and_self, bcase_t]
      have ew : W2 h l = h * 18446744073709551616 + l := rfl
      rw [ew]
      cases hd : decide (h < 0)
      · rw [decide_eq_false_iff_not] at hd
        refine nvE ?_ ?_
        · rw [decide_eq_false (by omega)]; rfl
        · have e : sz h = h := by unfold sz; omega
          rw [e]; rfl
      · rw [decide_eq_true_eq] at hd
        have e : sz h = -h := by unfold sz; omega
        refine nvE ?_ ?_
        · rw [decide_eq_true (by omega)]
          have : addSg true (sz h * 18446744073709551616) false l = true := by
            unfold addSg; rw [decide_eq_false (show ¬ sz h * 18446744073709551616 < l by omega)]; rfl
          exact this
        · have : sv (true != false) (sz h * 18446744073709551616) + sv false l = h * 18446744073709551616 + l := by
            rw [e]; show -(-h * 18446744073709551616) + l = _; omega
          rw [this]
    · cases hr
def pcsR : List (PC Try.prog) := [pcRWide, pcRFrom, pcROf, pcRNum, pcRNeg, pcRZero, pcRSize, pcRMul, pcRAdd, pcRCmp]
def envR3 : Env Try.prog := envS.with false pcsR
end
end Go.Proofs.Ytbhgibpocbmipaa
