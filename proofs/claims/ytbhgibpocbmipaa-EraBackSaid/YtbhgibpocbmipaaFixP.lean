
/-
  Read by wip/tools/vc.py, and what follows.
-/
import Derived.Test.YtbhgibpocbmipaaFixO
namespace Go.Proofs.Ytbhgibpocbmipaa
open Go.Den Go.RowKit
noncomputable section
set_option maxRecDepth 100000
theorem moment_vc (s f : Int) (Q : Value → Prop) : ((ev envM 60).call [] 38 #[.int .i64 s, .int .u32 f] [] B0).holds (fun r => Q r.v) = (bcase (okI s && true)
  (bcase (okI (IntKind.wrap IntKind.i64 f))
    (bcase
      (okW (hi (s * 4294967296)) (lo (s * 4294967296)) &&
        okW (hi (IntKind.wrap IntKind.i64 f)) (lo (IntKind.wrap IntKind.i64 f)))
      (Q
        (Value.agg
          {
            toList :=
              [Value.int IntKind.i64
                  (hi
                    (clamp
                      (W2 (hi (s * 4294967296)) (lo (s * 4294967296)) +
                        W2 (hi (IntKind.wrap IntKind.i64 f)) (lo (IntKind.wrap IntKind.i64 f))))),
                Value.int IntKind.u64
                  (lo
                    (clamp
                      (W2 (hi (s * 4294967296)) (lo (s * 4294967296)) +
                        W2 (hi (IntKind.wrap IntKind.i64 f)) (lo (IntKind.wrap IntKind.i64 f)))))] }))
      False)
    False)
  False) := by kernel_rfl
theorem split_vc (h l : Int) (Q : Value → Prop) : ((ev envM 60).call [] 36 #[.agg #[.int .i64 h, .int .u64 l]] [] B0).holds (fun r => Q r.v) = (bcase (okW h l && true)
  (bcase (okW (hi (W2 h l / 4294967296)) (lo (W2 h l / 4294967296)))
    (Q
      (Value.tuple
        {
          toList :=
            [Value.int IntKind.i64 (clip (W2 (hi (W2 h l / 4294967296)) (lo (W2 h l / 4294967296)))),
              Value.int IntKind.u32 (IntKind.wrap IntKind.u32 (W2 h l % 4294967296))] }))
    False)
  False) := by kernel_rfl
theorem frac_vc (n d : Int) (Q : Value → Prop) : ((ev envM 60).call [] 41 #[.int .u64 n, .int .u64 d] [] B0).holds (fun r => Q r.v) = (bcase (d == 0) (Q (Value.tuple { toList := [Value.int IntKind.u32 0, Value.bool false] }))
  (bcase (decide (d > 1099511627776)) (Q (Value.tuple { toList := [Value.int IntKind.u32 0, Value.bool false] }))
    (bcase (decide (n ≥ d)) (Q (Value.tuple { toList := [Value.int IntKind.u32 0, Value.bool false] }))
      (bcase (okI (IntKind.wrap IntKind.i64 n) && true)
        (bcase
          (okW (hi (IntKind.wrap IntKind.i64 n * 4294967296)) (lo (IntKind.wrap IntKind.i64 n * 4294967296)) && true)
          (bcase
            (okW
                (hi
                  (clamp
                    (W2 (hi (IntKind.wrap IntKind.i64 n * 4294967296)) (lo (IntKind.wrap IntKind.i64 n * 4294967296)) +
                      0)))
                (lo
                  (clamp
                    (W2 (hi (IntKind.wrap IntKind.i64 n * 4294967296)) (lo (IntKind.wrap IntKind.i64 n * 4294967296)) +
                      0))) &&
              (decide (0 < d) && decide (d ≤ 18446744073709551615)))
            (bcase
              (W2
                    (hi
                      (clamp
                        (W2 (hi (IntKind.wrap IntKind.i64 n * 4294967296))
                            (lo (IntKind.wrap IntKind.i64 n * 4294967296)) +
                          0)))
                    (lo
                      (clamp
                        (W2 (hi (IntKind.wrap IntKind.i64 n * 4294967296))
                            (lo (IntKind.wrap IntKind.i64 n * 4294967296)) +
                          0))) %
                  d !=
                0)
              (Q
                (Value.tuple
                  {
                    toList :=
                      [Value.int IntKind.u32
                          (IntKind.wrap IntKind.u32
                            (if
                                4294967295 <
                                  IntKind.wrap IntKind.u64
                                    (lo
                                        (W2
                                            (hi
                                              (clamp
                                                (W2 (hi (IntKind.wrap IntKind.i64 n * 4294967296))
                                                    (lo (IntKind.wrap IntKind.i64 n * 4294967296)) +
                                                  W2 (hi (IntKind.wrap IntKind.i64 0))
                                                    (lo (IntKind.wrap IntKind.i64 0)))))
                                            (lo
                                              (clamp
                                                (W2 (hi (IntKind.wrap IntKind.i64 n * 4294967296))
                                                    (lo (IntKind.wrap IntKind.i64 n * 4294967296)) +
                                                  W2 (hi (IntKind.wrap IntKind.i64 0))
                                                    (lo (IntKind.wrap IntKind.i64 0))))) /
                                          d) +
                                      1) then
                              4294967295
                            else
                              IntKind.wrap IntKind.u64
                                (lo
                                    (W2
                                        (hi
                                          (clamp
                                            (W2 (hi (IntKind.wrap IntKind.i64 n * 4294967296))
                                                (lo (IntKind.wrap IntKind.i64 n * 4294967296)) +
                                              0)))
                                        (lo
                                          (clamp
                                            (W2 (hi (IntKind.wrap IntKind.i64 n * 4294967296))
                                                (lo (IntKind.wrap IntKind.i64 n * 4294967296)) +
                                              0))) /
                                      d) +
                                  1))),
                        Value.bool true] }))
              (Q
                (Value.tuple
                  {
                    toList :=
                      [Value.int IntKind.u32
                          (IntKind.wrap IntKind.u32
                            (if
                                4294967295 <
                                  lo
                                    (W2
                                        (hi
                                          (clamp
                                            (W2 (hi (IntKind.wrap IntKind.i64 n * 4294967296))
                                                (lo (IntKind.wrap IntKind.i64 n * 4294967296)) +
                                              W2 (hi (IntKind.wrap IntKind.i64 0)) (lo (IntKind.wrap IntKind.i64 0)))))
                                        (lo
                                          (clamp
                                            (W2 (hi (IntKind.wrap IntKind.i64 n * 4294967296))
                                                (lo (IntKind.wrap IntKind.i64 n * 4294967296)) +
                                              W2 (hi (IntKind.wrap IntKind.i64 0))
                                                (lo (IntKind.wrap IntKind.i64 0))))) /
                                      d) then
                              4294967295
                            else
                              lo
                                (W2
                                    (hi
                                      (clamp
                                        (W2 (hi (IntKind.wrap IntKind.i64 n * 4294967296))
                                            (lo (IntKind.wrap IntKind.i64 n * 4294967296)) +
                                          0)))
                                    (lo
                                      (clamp
                                        (W2 (hi (IntKind.wrap IntKind.i64 n * 4294967296))
                                            (lo (IntKind.wrap IntKind.i64 n * 4294967296)) +
                                          0))) /
                                  d))),
                        Value.bool true] })))
            False)
          False)
        False)))) := by kernel_rfl
theorem parts_vc (f d : Int) (Q : Value → Prop) : ((ev envM 60).call [] 42 #[.int .u32 f, .int .u64 d] [] B0).holds (fun r => Q r.v) = (bcase (d == 0) (Q (Value.tuple { toList := [Value.int IntKind.u64 0, Value.bool false] }))
  (bcase (decide (d > 1099511627776)) (Q (Value.tuple { toList := [Value.int IntKind.u64 0, Value.bool false] }))
    (bcase (okI (IntKind.wrap IntKind.i64 f) && okI (IntKind.wrap IntKind.i64 d))
      (bcase
        (okW (hi (IntKind.wrap IntKind.i64 f * IntKind.wrap IntKind.i64 d))
            (lo (IntKind.wrap IntKind.i64 f * IntKind.wrap IntKind.i64 d)) &&
          true)
        (bcase
          (okW
            (hi
              (W2 (hi (IntKind.wrap IntKind.i64 f * IntKind.wrap IntKind.i64 d))
                  (lo (IntKind.wrap IntKind.i64 f * IntKind.wrap IntKind.i64 d)) /
                4294967296))
            (lo
              (W2 (hi (IntKind.wrap IntKind.i64 f * IntKind.wrap IntKind.i64 d))
                  (lo (IntKind.wrap IntKind.i64 f * IntKind.wrap IntKind.i64 d)) /
                4294967296)))
          (Q
            (Value.tuple
              {
                toList :=
                  [Value.int IntKind.u64
                      (IntKind.wrap IntKind.u64
                        (clip
                          (W2
                            (hi
                              (W2 (hi (IntKind.wrap IntKind.i64 f * IntKind.wrap IntKind.i64 d))
                                  (lo (IntKind.wrap IntKind.i64 f * IntKind.wrap IntKind.i64 d)) /
                                4294967296))
                            (lo
                              (W2 (hi (IntKind.wrap IntKind.i64 f * IntKind.wrap IntKind.i64 d))
                                  (lo (IntKind.wrap IntKind.i64 f * IntKind.wrap IntKind.i64 d)) /
                                4294967296))))),
                    Value.bool true] }))
          False)
        False)
      False))) := by kernel_rfl
theorem mulI_in {s : Int} (h : okI s = true) (k : Int) (k0 : 0 ≤ k) (k1 : k ≤ 4294967296) : InR (s * k) := by
  rw [okI_iff] at h
  have h1 : s * k ≤ 9223372036854775807 * k := Int.mul_le_mul_of_nonneg_right h.2 k0
  have h2 : -9223372036854775808 * k ≤ s * k := Int.mul_le_mul_of_nonneg_right h.1 k0
  unfold InR; omega
theorem wrap_i64_of {n : Int} (h : okI n = true) : IntKind.i64.wrap n = n := by
  rw [okI_iff] at h; rw [IntKind.wrap_i64]; omega
theorem i64_small {n : Int} (h0 : 0 ≤ n) (h1 : n ≤ 9223372036854775807) : IntKind.i64.wrap n = n := by rw [IntKind.wrap_i64]; omega
def okU32 (n : Int) : Bool := decide (0 ≤ n) && decide (n ≤ 4294967295)
theorem okU32_iff {n : Int} : okU32 n = true ↔ 0 ≤ n ∧ n ≤ 4294967295 := by simp [okU32]
def momS : Array Value → Option (Bool × Value)
  | ⟨[.int .i64 s, .int .u32 f]⟩ => some (okI s && okU32 f, wv (s * 4294967296 + f))
  | _ => none
def splitS : Array Value → Option (Bool × Value)
  | ⟨[.agg ⟨[.int .i64 h, .int .u64 l]⟩]⟩ => some (okW h l, .tuple #[.int .i64 (clip (W2 h l / 4294967296)), .int .u32 (W2 h l % 4294967296)])
  | _ => none
def fracOk (n d : Int) : Bool := decide (0 < d) && (decide (d ≤ 1099511627776) && decide (n < d))
def fracC (n d : Int) : Int := n * 4294967296 / d + if n * 4294967296 % d = 0 then 0 else 1
def fracV (n d : Int) : Int := bif fracOk n d then (if 4294967295 < fracC n d then 4294967295 else fracC n d) else 0
def fracS : Array Value → Option (Bool × Value)
  | ⟨[.int .u64 n, .int .u64 d]⟩ => some (okU n && okU d, .tuple #[.int .u32 (fracV n d), .bool (fracOk n d)])
  | _ => none
def partOk (d : Int) : Bool := decide (0 < d) && decide (d ≤ 1099511627776)
def partV (f d : Int) : Int := bif partOk d then f * d / 4294967296 else 0
def partS : Array Value → Option (Bool × Value)
  | ⟨[.int .u32 f, .int .u64 d]⟩ => some (okU32 f && okU d, .tuple #[.int .u64 (partV f d), .bool (partOk d)])
  | _ => none
theorem mom_in {s f : Int} (hs : okI s = true) (hf : okU32 f = true) : InR (s * 4294967296 + f) := by
  rw [okI_iff] at hs; rw [okU32_iff] at hf; unfold InR; omega
def pcMoment : PC Try.prog where
  f := 38
  spec := momS
  body := by kernel_rfl
  ok := fun args r hr hok => by
    unfold momS at hr
    split at hr
    · rename_i s f
      cases hr
      rw [Bool.and_eq_true] at hok
      obtain ⟨ks, kf⟩ := hok
      refine ⟨all_bel rfl, rfl, fun w => calls_spec envM hcokP 60 ?_ (all_bel rfl) rfl w⟩
      have kf' := okU32_iff.1 kf
      rw [moment_vc s f (fun v => v = wv (s * 4294967296 + f))]
      have e1 : IntKind.i64.wrap f = f := i64_small kf'.1 (by omega)
      have e2 : okI f = true := okI_iff.2 (by omega)
      have e3 := okW_hilo (mulI_in ks 4294967296 (by omega) (by omega))
      have e4 : okW (hi f) (lo f) = true := okW_hilo (by unfold InR; omega)
      simp only [e1, e2, e3, e4, ks, W2_hilo, Bool.and_self, bcase_t, clamp_of (mom_in ks kf), wv]
    · cases hr
theorem clip_or' (n : Int) (h0 : -9223372036854775808 ≤ n) (h1 : n ≤ 9223372036854775807) : clip n = n := by unfold clip; rw [if_neg (by omega), if_neg (by omega)]
theorem div_in' {n : Int} (h : InR n) : InR (n / 4294967296) := by unfold InR at *; omega
def pcSplit : PC Try.prog where
  f := 36
  spec := splitS
  body := by kernel_rfl
  ok := fun args r hr hok => by
    unfold splitS at hr
    split at hr
    · rename_i h l
      cases hr
      refine ⟨all_bel rfl, rfl, fun w => calls_spec envM hcokP 60 ?_ (all_bel rfl) rfl w⟩
      have hok' : okW h l = true := hok
      have e1 := okW_hilo (div_in' (hi_W2 hok').2.2)
      have e2 : IntKind.u32.wrap (W2 h l % 4294967296) = W2 h l % 4294967296 := by rw [IntKind.wrap_u32]; omega
      rw [split_vc h l (fun v => v = .tuple #[.int .i64 (clip (W2 h l / 4294967296)), .int .u32 (W2 h l % 4294967296)])]
      simp only [e1, e2, hok', W2_hilo, Bool.and_self, bcase_t]
    · cases hr
theorem frac_lt {n d : Int} (n0 : 0 ≤ n) (h : n < d) : 0 ≤ n * 4294967296 / d ∧ n * 4294967296 / d < 4294967296 := by
  constructor
  · exact Int.ediv_nonneg (by omega) (by omega)
  · exact Int.ediv_lt_of_lt_mul (by omega) (by omega)
theorem tup_eq {k : IntKind} {a b : Int} {x : Value} (h : a = b) : Value.tuple #[.int k a, x] = .tuple #[.int k b, x] := by rw [h]
set_option maxHeartbeats 1000000 in
def pcFrac : PC Try.prog where
  f := 41
  spec := fracS
  body := by kernel_rfl
  ok := fun args r hr hok => by
    unfold fracS at hr
    split at hr
    · rename_i n d
      cases hr
      rw [Bool.and_eq_true, okU_iff, okU_iff] at hok
      obtain ⟨⟨n0, n1⟩, d0, d1⟩ := hok
      refine ⟨all_bel rfl, rfl, fun w => calls_spec envM hcokP 60 ?_ (all_bel rfl) rfl w⟩
      rw [frac_vc n d (fun v => v = .tuple #[.int .u32 (fracV n d), .bool (fracOk n d)])]
      have no : fracOk n d = false → Value.tuple #[.int .u32 0, .bool false] = .tuple #[.int .u32 (fracV n d), .bool (fracOk n d)] := fun h => by simp only [fracV, h, cond_false]
      refine bcase_in (fun h => no ?_) fun h1 => bcase_in (fun h => no ?_) fun h2 => bcase_in (fun h => no ?_) fun h3 => ?_
      · rw [beq_iff_eq] at h; subst h; simp [fracOk]
      · rw [decide_eq_true_eq] at h; simp [fracOk]; omega
      · rw [decide_eq_true_eq] at h; simp [fracOk]; omega
      simp only [decide_eq_false_iff_not, beq_eq_false_iff_ne, ne_eq] at h1 h2 h3
      have hd : 0 < d := by omega
      have hok : fracOk n d = true := by simp [fracOk]; omega
      have b := frac_lt n0 (show n < d by omega)
      have e1 : IntKind.i64.wrap n = n := i64_small n0 (by omega)
      have ki : okI n = true := okI_iff.2 (by omega)
      have e2 : IntKind.i64.wrap 0 = 0 := by rfl
      have e3 := okW_hilo (mulI_in ki 4294967296 (by omega) (by omega))
      have e4 : clamp (n * 4294967296 + 0) = n * 4294967296 := by rw [Int.add_zero]; exact clamp_of (mulI_in ki 4294967296 (by omega) (by omega))
      have e5 : lo (n * 4294967296 / d) = n * 4294967296 / d := by unfold lo; omega
      have e6 : W2 (hi 0) (lo 0) = 0 := W2_hilo 0
      have hV : fracV n d = if 4294967295 < fracC n d then 4294967295 else fracC n d := by simp only [fracV, hok, cond_true]
      simp only [e1, e2, e3, e4, e5, e6, ki, hok, W2_hilo, Bool.and_self, bcase_t, decide_eq_true (show d ≤ 18446744073709551615 by omega), decide_eq_true hd, hV]
      have e7 : IntKind.u64.wrap (n * 4294967296 / d + 1) = n * 4294967296 / d + 1 := by rw [IntKind.wrap_u64]; omega
      refine bcase_in (fun h => ?_) fun h => ?_
      · rw [bne_iff_ne] at h
        have hc : fracC n d = n * 4294967296 / d + 1 := by unfold fracC; rw [if_neg h]
        rw [e7, hc]
        refine tup_eq ?_
        rw [IntKind.wrap_u32]; split <;> omega
      · have h' : n * 4294967296 % d = 0 := by simpa using h
        have hc : fracC n d = n * 4294967296 / d := by unfold fracC; rw [if_pos h']; omega
        rw [hc]
        refine tup_eq ?_
        rw [IntKind.wrap_u32]; split <;> omega
    · cases hr
def pcParts : PC Try.prog where
  f := 42
  spec := partS
  body := by kernel_rfl
  ok := fun args r hr hok => by
    unfold partS at hr
    split at hr
    · rename_i f d
      cases hr
      rw [Bool.and_eq_true, okU32_iff, okU_iff] at hok
      obtain ⟨⟨f0, f1⟩, d0, d1⟩ := hok
      refine ⟨all_bel rfl, rfl, fun w => calls_spec envM hcokP 60 ?_ (all_bel rfl) rfl w⟩
      rw [parts_vc f d (fun v => v = .tuple #[.int .u64 (partV f d), .bool (partOk d)])]
      have no : partOk d = false → Value.tuple #[.int .u64 0, .bool false] = .tuple #[.int .u64 (partV f d), .bool (partOk d)] := fun h => by simp only [partV, h, cond_false]
      refine bcase_in (fun h => no ?_) fun h1 => bcase_in (fun h => no ?_) fun h2 => ?_
      · rw [beq_iff_eq] at h; subst h; simp [partOk]
      · rw [decide_eq_true_eq] at h; simp [partOk]; omega
      simp only [decide_eq_false_iff_not, beq_eq_false_iff_ne, ne_eq] at h1 h2
      have hok : partOk d = true := by simp [partOk]; omega
      have e1 : IntKind.i64.wrap f = f := i64_small f0 (by omega)
      have e2 : IntKind.i64.wrap d = d := i64_small d0 (by omega)
      have k1 : okI f = true := okI_iff.2 (by omega)
      have k2 : okI d = true := okI_iff.2 (by omega)
      have p0 : 0 ≤ f * d := Int.mul_nonneg f0 d0
      have p1 : f * d ≤ 4294967295 * 1099511627776 := Int.mul_le_mul f1 (by omega) d0 (by omega)
      have e3 : okW (hi (f * d)) (lo (f * d)) = true := okW_hilo (by unfold InR; omega)
      have e4 := okW_hilo (div_in' (n := f * d) (by unfold InR; omega))
      have hV : partV f d = f * d / 4294967296 := by simp only [partV, hok, cond_true]
      have e5 : IntKind.u64.wrap (clip (f * d / 4294967296)) = f * d / 4294967296 := by
        have := clip_or' (f * d / 4294967296) (by omega) (by omega)
        rw [this, IntKind.wrap_u64]; omega
      simp only [e1, e2, e3, e4, e5, k1, k2, hok, hV, W2_hilo, Bool.and_self, bcase_t]
    · cases hr
def envP : Env Try.prog := envS.with false (pcMoment :: pcSplit :: pcFrac :: pcParts :: pcOffset :: pcDelay :: pcK2 :: pcsW)
end
end Go.Proofs.Ytbhgibpocbmipaa
