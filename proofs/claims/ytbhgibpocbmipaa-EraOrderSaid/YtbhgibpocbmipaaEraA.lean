
/-
  Read by wip/tools/vc.py, and what follows.
-/
import Derived.Test.YtbhgibpocbmipaaFixP
namespace Go.Proofs.Ytbhgibpocbmipaa
open Go.Den Go.RowKit
noncomputable section
set_option maxRecDepth 100000
theorem unfold_vc (s h l : Int) (Q : Value → Prop) (x1 : Int) (e_x1 : x1 = -9223372036854775808) (x2 : Int) (e_x2 : x2 = clamp (W2 h s - W2 h l)) (x3 : Int) (e_x3 : x3 = hi x2) (x4 : Int) (e_x4 : x4 = lo x2) (x5 : Int) (e_x5 : x5 = IntKind.wrap IntKind.i64 (h - 1)) (x6 : Int) (e_x6 : x6 = clamp (W2 x5 s - W2 h l)) (x7 : Int) (e_x7 : x7 = hi x6) (x8 : Int) (e_x8 : x8 = lo x6) (x9 : Int) (e_x9 : x9 = clamp (sz (W2 x3 x4))) (x10 : Int) (e_x10 : x10 = hi x9) (x11 : Int) (e_x11 : x11 = lo x9) (x12 : Int) (e_x12 : x12 = clamp (sz (W2 x7 x8))) (x13 : Int) (e_x13 : x13 = hi x12) (x14 : Int) (e_x14 : x14 = lo x12) (x15 : Int) (e_x15 : x15 = W2 x10 x11) (x16 : Int) (e_x16 : x16 = W2 x13 x14) (x17 : Int) (e_x17 : x17 = cmpI x15 x16) (x18 : Int) (e_x18 : x18 = IntKind.wrap IntKind.i64 (h + 1)) (x19 : Int) (e_x19 : x19 = clamp (W2 x18 s - W2 h l)) (x20 : Int) (e_x20 : x20 = hi x19) (x21 : Int) (e_x21 : x21 = lo x19) (x22 : Int) (e_x22 : x22 = clamp (sz (W2 x20 x21))) (x23 : Int) (e_x23 : x23 = hi x22) (x24 : Int) (e_x24 : x24 = lo x22) (x25 : Int) (e_x25 : x25 = W2 x23 x24) (x26 : Int) (e_x26 : x26 = cmpI x25 x15) (x27 : Int) (e_x27 : x27 = cmpI x25 x16) : ((ev envP 80).call [] 54 #[.int .u64 s, .agg #[.int .i64 h, .int .u64 l]] [] B0).holds (fun r => Q r.v) = (bcase (decide (h > x1))
  (bcase (okW h s && okW h l)
    (bcase (okW x3 x4)
      (bcase (okW x5 s && okW h l)
        (bcase (okW x7 x8)
          (bcase (okW x10 x11 && okW x13 x14)
            (bcase (decide (x17 < 0))
              (bcase (decide (h < 9223372036854775807))
                (bcase (okW x18 s && okW h l)
                  (bcase (okW x20 x21)
                    (bcase (okW h s && okW h l)
                      (bcase (okW x3 x4)
                        (bcase (okW x23 x24 && okW x10 x11)
                          (bcase (decide (x26 < 0))
                            (Q (Value.agg { toList := [Value.int IntKind.i64 x18, Value.int IntKind.u64 s] }))
                            (Q (Value.agg { toList := [Value.int IntKind.i64 h, Value.int IntKind.u64 s] })))
                          False)
                        False)
                      False)
                    False)
                  False)
                (Q (Value.agg { toList := [Value.int IntKind.i64 h, Value.int IntKind.u64 s] })))
              (bcase (decide (h < 9223372036854775807))
                (bcase (okW x18 s && okW h l)
                  (bcase (okW x20 x21)
                    (bcase (okW x5 s && okW h l)
                      (bcase (okW x7 x8)
                        (bcase (okW x23 x24 && okW x13 x14)
                          (bcase (decide (x27 < 0))
                            (Q (Value.agg { toList := [Value.int IntKind.i64 x18, Value.int IntKind.u64 s] }))
                            (Q (Value.agg { toList := [Value.int IntKind.i64 x5, Value.int IntKind.u64 s] })))
                          False)
                        False)
                      False)
                    False)
                  False)
                (Q (Value.agg { toList := [Value.int IntKind.i64 x5, Value.int IntKind.u64 s] }))))
            False)
          False)
        False)
      False)
    False)
  (bcase (decide (h < 9223372036854775807))
    (bcase (okW x18 s && okW h l)
      (bcase (okW x20 x21)
        (bcase (okW h s && okW h l)
          (bcase (okW x3 x4)
            (bcase (okW x23 x24 && okW x10 x11)
              (bcase (decide (x26 < 0))
                (Q (Value.agg { toList := [Value.int IntKind.i64 x18, Value.int IntKind.u64 s] }))
                (Q (Value.agg { toList := [Value.int IntKind.i64 h, Value.int IntKind.u64 s] })))
              False)
            False)
          False)
        False)
      False)
    (Q (Value.agg { toList := [Value.int IntKind.i64 h, Value.int IntKind.u64 s] })))) := by
  subst e_x27 e_x26 e_x25 e_x24 e_x23 e_x22 e_x21 e_x20 e_x19 e_x18 e_x17 e_x16 e_x15 e_x14 e_x13 e_x12 e_x11 e_x10 e_x9 e_x8 e_x7 e_x6 e_x5 e_x4 e_x3 e_x2 e_x1
  kernel_rfl
theorem unix_vc (s f : Int) (Q : Value → Prop) (x1 : Int) (e_x1 : x1 = IntKind.wrap IntKind.i64 (Int.fdiv s 4294967296)) (x2 : Int) (e_x2 : x2 = IntKind.wrap IntKind.u64
  (↑(BitVec.toNat
        (BitVec.ofInt 64 (IntKind.wrap IntKind.u64 (s * 4294967296)) |||
          BitVec.ofInt 64 (IntKind.wrap IntKind.u64 f))) :
    Int)) (x3 : Int) (e_x3 : x3 = clamp (9487534653230284800 + W2 x1 x2)) : ((ev envP 80).call [] 52 #[.int .u64 s, .int .u32 f] [] B0).holds (fun r => Q r.v) = (bcase (okW x1 x2) (Q (Value.agg { toList := [Value.int IntKind.i64 (hi x3), Value.int IntKind.u64 (lo x3)] })) False) := by
  subst e_x3 e_x2 e_x1
  kernel_rfl
theorem eback_vc (h l : Int) (Q : Value → Prop) (x1 : Int) (e_x1 : x1 = clamp (W2 h l - 9487534653230284800)) (x2 : Int) (e_x2 : x2 = hi x1) (x3 : Int) (e_x3 : x3 = lo x1) (x4 : Int) (e_x4 : x4 = W2 x2 x3) (x5 : Int) (e_x5 : x5 = x4 / 4294967296) : ((ev envP 80).call [] 50 #[.agg #[.int .i64 h, .int .u64 l]] [] B0).holds (fun r => Q r.v) = (bcase (okW h l && true)
  (bcase (okW x2 x3 && true)
    (bcase (hi x5 != 0)
      (Q (Value.tuple { toList := [Value.int IntKind.u64 0, Value.int IntKind.u32 0, Value.bool false] }))
      (Q
        (Value.tuple
          {
            toList :=
              [Value.int IntKind.u64 (lo x5), Value.int IntKind.u32 (IntKind.wrap IntKind.u32 (x4 % 4294967296)),
                Value.bool true] })))
    False)
  False) := by
  subst e_x5 e_x4 e_x3 e_x2 e_x1
  kernel_rfl
theorem bcase_f {p q : Prop} : bcase false p q = q := rfl
theorem cmp_lt (a b : Int) : decide (cmpI a b < 0) = decide (a < b) := by
  unfold cmpI; split
  · rename_i h; rw [decide_eq_decide]; omega
  · split
    · rename_i h; rw [decide_eq_decide]; omega
    · rw [decide_eq_decide]; omega
theorem dist_of {d : Int} (h0 : -73786976294838206464 ≤ d) (h1 : d ≤ 73786976294838206464) : clamp (sz (clamp d)) = sz d := by
  rw [clamp_of (show InR d by unfold InR; omega), clamp_of]
  unfold InR sz; split <;> omega
theorem okI_wrap (n : Int) : okI (IntKind.i64.wrap n) = true := by rw [okI_iff, IntKind.wrap_i64]; omega
theorem okW_mk {h l : Int} (a : okI h = true) (b : okU l = true) : okW h l = true := by unfold okW; rw [a, b]; rfl
theorem okW_l {h l : Int} (a : okW h l = true) : okI h = true ∧ okU l = true := by unfold okW at a; simpa using a
theorem W2_in {h l : Int} (k : okW h l = true) : InR (W2 h l) := (hi_W2 k).2.2
/-- The era that a stamp has nearest to a moment. -/
def unfH (s h l : Int) : Int := if l + 9223372036854775808 ≤ s ∧ -9223372036854775808 < h then h - 1 else if s + 9223372036854775808 < l ∧ h < 9223372036854775807 then h + 1 else h
theorem unfH_bd {s h l : Int} (k : okI h = true) : okI (unfH s h l) = true := by
  rw [okI_iff] at *; unfold unfH; split
  · omega
  · split <;> omega
def unfS : Array Value → Option (Bool × Value)
  | ⟨[.int .u64 s, .agg ⟨[.int .i64 h, .int .u64 l]⟩]⟩ => some (okU s && okW h l, .agg #[.int .i64 (unfH s h l), .int .u64 s])
  | _ => none
def unixV (s f : Int) : Int := (s + 2208988800) * 4294967296 + f
def unixS : Array Value → Option (Bool × Value)
  | ⟨[.int .u64 s, .int .u32 f]⟩ => some (okU s && okU32 f, wv (unixV s f))
  | _ => none
def ebOk (n : Int) : Bool := decide (9487534653230284800 ≤ n) && decide (n < 79228162523751872246774235136)
def ebackS : Array Value → Option (Bool × Value)
  | ⟨[.agg ⟨[.int .i64 h, .int .u64 l]⟩]⟩ => some (okW h l, .tuple #[.int .u64 (bif ebOk (W2 h l) then (W2 h l - 9487534653230284800) / 4294967296 else 0), .int .u32 (bif ebOk (W2 h l) then (W2 h l - 9487534653230284800) % 4294967296 else 0), .bool (ebOk (W2 h l))])
  | _ => none
theorem aggE {a b s : Int} (h : a = b) : Value.agg ⟨[.int .i64 a, .int .u64 s]⟩ = .agg ⟨[.int .i64 b, .int .u64 s]⟩ := by rw [h]
theorem ww {h : Int} (h0 : -9223372036854775808 ≤ h) (h1 : h ≤ 9223372036854775807) : IntKind.i64.wrap h = h := by rw [IntKind.wrap_i64]; omega
set_option maxHeartbeats 1000000 in
def pcUnfold : PC Try.prog where
  f := 54
  spec := unfS
  body := by kernel_rfl
  ok := fun args r hr hok => by
    unfold unfS at hr
    split at hr
    · rename_i s h l
      cases hr
      rw [Bool.and_eq_true] at hok
      obtain ⟨ks, kw⟩ := hok
      have kI := (okW_l kw).1
      have bI := okI_iff.1 kI
      have bs := okU_iff.1 ks
      have bl := okU_iff.1 (okW_l kw).2
      refine ⟨all_bel rfl, rfl, fun w => calls_spec envP hcokP 80 ?_ (all_bel rfl) rfl w⟩
      rw [unfold_vc s h l (fun v => v = .agg #[.int .i64 (unfH s h l), .int .u64 s]) _ rfl _ rfl _ rfl _ rfl _ rfl _ rfl _ rfl _ rfl _ rfl _ rfl _ rfl _ rfl _ rfl _ rfl _ rfl _ rfl _ rfl _ rfl _ rfl _ rfl _ rfl _ rfl _ rfl _ rfl _ rfl _ rfl _ rfl]
      have k1 : okW h s = true := okW_mk kI ks
      have k2 : okW (IntKind.i64.wrap (h - 1)) s = true := okW_mk (okI_wrap _) ks
      have k3 : okW (IntKind.i64.wrap (h + 1)) s = true := okW_mk (okI_wrap _) ks
      simp only [W2_hilo, kw, k1, k2, k3, okW_clamp, Bool.and_self, bcase_t, cmp_lt]
      have d0 : clamp (sz (clamp (W2 h s - W2 h l))) = sz (s - l) := by
        rw [show W2 h s - W2 h l = s - l by unfold W2; omega]; exact dist_of (by omega) (by omega)
      have d1 : h < 9223372036854775807 → IntKind.i64.wrap (h + 1) = h + 1 := fun q => ww (by omega) (by omega)
      have d2 : h > -9223372036854775808 → IntKind.i64.wrap (h - 1) = h - 1 := fun q => ww (by omega) (by omega)
      have e1 : h < 9223372036854775807 → clamp (sz (clamp (W2 (IntKind.i64.wrap (h + 1)) s - W2 h l))) = sz (s - l + 18446744073709551616) := fun q => by
        rw [d1 q, show W2 (h + 1) s - W2 h l = s - l + 18446744073709551616 by unfold W2; omega]; exact dist_of (by omega) (by omega)
      have e2 : h > -9223372036854775808 → clamp (sz (clamp (W2 (IntKind.i64.wrap (h - 1)) s - W2 h l))) = sz (s - l - 18446744073709551616) := fun q => by
        rw [d2 q, show W2 (h - 1) s - W2 h l = s - l - 18446744073709551616 by unfold W2; omega]; exact dist_of (by omega) (by omega)
      rw [d0]
      refine bcase_in (fun q1 => ?_) fun q1 => ?_
      · rw [decide_eq_true_eq] at q1
        rw [e2 q1, d2 q1]
        refine bcase_in (fun q2 => ?_) fun q2 => ?_
        · rw [decide_eq_true_eq] at q2
          refine bcase_in (fun q3 => ?_) fun q3 => aggE ?_
          · rw [decide_eq_true_eq] at q3
            rw [e1 q3, d1 q3]
            refine bcase_in (fun q4 => aggE ?_) fun q4 => aggE ?_
            · rw [decide_eq_true_eq] at q4; unfold sz at *; unfold unfH; omega
            · rw [decide_eq_false_iff_not] at q4; unfold sz at *; unfold unfH; omega
          · rw [decide_eq_false_iff_not] at q3; unfold sz at *; unfold unfH; omega
        · rw [decide_eq_false_iff_not] at q2
          refine bcase_in (fun q3 => ?_) fun q3 => aggE ?_
          · rw [decide_eq_true_eq] at q3
            rw [e1 q3, d1 q3]
            refine bcase_in (fun q4 => aggE ?_) fun q4 => aggE ?_
            · rw [decide_eq_true_eq] at q4; unfold sz at *; unfold unfH; omega
            · rw [decide_eq_false_iff_not] at q4; unfold sz at *; unfold unfH; omega
          · rw [decide_eq_false_iff_not] at q3; unfold sz at *; unfold unfH; omega
      · rw [decide_eq_false_iff_not] at q1
        refine bcase_in (fun q3 => ?_) fun q3 => aggE ?_
        · rw [decide_eq_true_eq] at q3
          rw [e1 q3, d1 q3]
          refine bcase_in (fun q4 => aggE ?_) fun q4 => aggE ?_
          · rw [decide_eq_true_eq] at q4; unfold sz at *; unfold unfH; omega
          · rw [decide_eq_false_iff_not] at q4; unfold sz at *; unfold unfH; omega
        · rw [decide_eq_false_iff_not] at q3; unfold sz at *; unfold unfH; omega
    · cases hr
theorem or_low (a f : Int) (f0 : 0 ≤ f) (f1 : f ≤ 4294967295) : ((BitVec.ofInt 64 (IntKind.wrap .u64 (a * 4294967296)) ||| BitVec.ofInt 64 (IntKind.wrap .u64 f)).toNat : Int) = a % 4294967296 * 4294967296 + f := by
  have e1 : IntKind.wrap .u64 (a * 4294967296) = a % 4294967296 * 4294967296 := by rw [IntKind.wrap_u64]; omega
  have e2 : IntKind.wrap .u64 f = f := by rw [IntKind.wrap_u64]; omega
  rw [e1, e2]
  obtain ⟨x, hx⟩ : ∃ x : Nat, (x : Int) = a % 4294967296 := ⟨(a % 4294967296).toNat, by omega⟩
  obtain ⟨y, hy⟩ : ∃ y : Nat, (y : Int) = f := ⟨f.toNat, by omega⟩
  rw [← hx, ← hy]
  have hx1 : x < 4294967296 := by omega
  have hy1 : y < 2 ^ 32 := by omega
  rw [BitVec.toNat_or, BitVec.toNat_ofInt, BitVec.toNat_ofInt]
  have t1 : ((x : Int) * 4294967296 % (2 ^ 64 : Nat)).toNat = x <<< 32 := by rw [Nat.shiftLeft_eq]; omega
  have t2 : ((y : Int) % (2 ^ 64 : Nat)).toNat = y := by omega
  rw [t1, t2, ← Nat.shiftLeft_add_eq_or_of_lt hy1, Nat.shiftLeft_eq]
  omega
def pcUnix : PC Try.prog where
  f := 52
  spec := unixS
  body := by kernel_rfl
  ok := fun args r hr hok => by
    unfold unixS at hr
    split at hr
    · rename_i s f
      cases hr
      rw [Bool.and_eq_true] at hok
      obtain ⟨ks, kf⟩ := hok
      have bs := okU_iff.1 ks
      have bf := okU32_iff.1 kf
      refine ⟨all_bel rfl, rfl, fun w => calls_spec envP hcokP 80 ?_ (all_bel rfl) rfl w⟩
      rw [unix_vc s f (fun v => v = wv (unixV s f)) _ rfl _ rfl _ rfl, or_low s f bf.1 bf.2]
      have e1 : IntKind.i64.wrap (Int.fdiv s 4294967296) = s / 4294967296 := by
        rw [Int.fdiv_eq_ediv_of_nonneg _ (by omega)]; exact ww (by omega) (by omega)
      have e2 : IntKind.u64.wrap (s % 4294967296 * 4294967296 + f) = s % 4294967296 * 4294967296 + f := by rw [IntKind.wrap_u64]; omega
      rw [e1, e2]
      have k : okW (s / 4294967296) (s % 4294967296 * 4294967296 + f) = true := by rw [okW_iff]; omega
      have e3 : 9487534653230284800 + W2 (s / 4294967296) (s % 4294967296 * 4294967296 + f) = unixV s f := by unfold W2 unixV; omega
      rw [k, bcase_t, e3, clamp_of (by unfold InR unixV; omega)]; rfl
    · cases hr
theorem tup3 {a b c d : Int} {p q : Bool} (h1 : a = b) (h2 : c = d) (h3 : p = q) : Value.tuple ⟨[.int .u64 a, .int .u32 c, .bool p]⟩ = .tuple ⟨[.int .u64 b, .int .u32 d, .bool q]⟩ := by rw [h1, h2, h3]
def pcEBack : PC Try.prog where
  f := 50
  spec := ebackS
  body := by kernel_rfl
  ok := fun args r hr hok => by
    unfold ebackS at hr
    split at hr
    · rename_i h l
      cases hr
      have kw : okW h l = true := hok
      have kR := W2_in kw
      refine ⟨all_bel rfl, rfl, fun w => calls_spec envP hcokP 80 ?_ (all_bel rfl) rfl w⟩
      rw [eback_vc h l (fun v => v = .tuple #[.int .u64 (bif ebOk (W2 h l) then (W2 h l - 9487534653230284800) / 4294967296 else 0), .int .u32 (bif ebOk (W2 h l) then (W2 h l - 9487534653230284800) % 4294967296 else 0), .bool (ebOk (W2 h l))]) _ rfl _ rfl _ rfl _ rfl _ rfl]
      simp only [W2_hilo, kw, okW_clamp, Bool.and_self, bcase_t]
      generalize hN : W2 h l = N at *
      obtain ⟨c, hc⟩ : ∃ c, c = clamp (N - 9487534653230284800) := ⟨_, rfl⟩
      rw [← hc]
      have hcc : ebOk N = true → c = N - 9487534653230284800 := fun q => by
        simp only [ebOk, Bool.and_eq_true, decide_eq_true_eq] at q
        rw [hc]; exact clamp_of (by unfold InR; omega)
      have hnc : ebOk N = false → c < 0 ∨ 79228162514264337593543950336 ≤ c := fun q => by
        simp only [ebOk, Bool.and_eq_false_iff, decide_eq_false_iff_not] at q
        rw [hc]; unfold InR at kR; unfold clamp; split <;> (try split) <;> omega
      refine bcase_in (fun q => ?_) fun q => ?_
      · rw [bne_iff_ne] at q
        cases hk : ebOk N with
        | true =>
          exfalso; apply q
          have := hcc hk
          simp only [ebOk, Bool.and_eq_true, decide_eq_true_eq] at hk
          unfold hi; omega
        | false => rfl
      · have q' : hi (c / 4294967296) = 0 := by simpa using q
        cases hk : ebOk N with
        | true =>
          have := hcc hk
          simp only [ebOk, Bool.and_eq_true, decide_eq_true_eq] at hk
          refine tup3 ?_ ?_ rfl
          · simp only [cond_true]; unfold lo; omega
          · simp only [cond_true]; rw [IntKind.wrap_u32]; omega
        | false =>
          exfalso
          have := hnc hk
          unfold hi at q'; omega
    · cases hr
theorem k3_read : (((ev envT 1000).call [] 49 #[] [] B0).run.map (·.v)) = some (.bool true) := by kernel_rfl
def pcK3 : PC Try.prog := pcKnown 49 (by kernel_rfl) k3_read
def envE : Env Try.prog := envS.with false (pcUnfold :: pcUnix :: pcEBack :: pcK3 :: pcMoment :: pcSplit :: pcK2 :: pcsW)
end
end Go.Proofs.Ytbhgibpocbmipaa
