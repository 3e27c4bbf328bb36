/-
  Own texts, merged: SumM FixO FixP EraA RefA RefB RefC SumK RefL FracA FracB PdC PdD
-/
import Derived.Test.YtecmhjhjmhliiaaDoorQ4
import Derived.Test.YtecmhjhjmhliiaaDoorQ5
import Derived.Test.YtecmhjhjmhliiaaDoorQ6
import Derived.Test.YtecmhjhjmhliiaaDoorQ1

/-
  Signs and sizes of the document's numbers. No program is named here.
-/

namespace Go.Proofs.YtecmhjhjmhliiaaDoor

open Go.Den

theorem sv_sz (A : Int) : sv (decide (A < 0)) (sz A) = A := by
  unfold sv sz
  cases h : decide (A < 0)
  · rw [decide_eq_false_iff_not] at h; simp only [cond_false]; omega
  · rw [decide_eq_true_eq] at h; simp only [cond_true]; omega
theorem sv_f (n : Int) : sv false n = n := rfl
theorem sz_nn (n : Int) : 0 ≤ sz n := by unfold sz; omega
theorem sv_addSg {a b : Int} (ha : 0 ≤ a) (hb : 0 ≤ b) (s1 s2 : Bool) : sv (addSg s1 a s2 b) (sz (sv s1 a + sv s2 b)) = sv s1 a + sv s2 b := by
  cases s1 <;> cases s2
  · have e : addSg false a false b = false := rfl
    rw [e]; simp only [sv, cond_false, sz]; omega
  · by_cases h : a < b
    · have e : addSg false a true b = true := by unfold addSg; rw [decide_eq_true h]; rfl
      rw [e]; simp only [sv, cond_false, cond_true, sz]; omega
    · have e : addSg false a true b = false := by unfold addSg; rw [decide_eq_false h]; rfl
      rw [e]; simp only [sv, cond_false, cond_true, sz]; omega
  · by_cases h : a < b
    · have e : addSg true a false b = false := by unfold addSg; rw [decide_eq_true h]; rfl
      rw [e]; simp only [sv, cond_false, cond_true, sz]; omega
    · have e : addSg true a false b = true := by unfold addSg; rw [decide_eq_false h]; rfl
      rw [e]; simp only [sv, cond_false, cond_true, sz]; omega
  · have e : addSg true a true b = true := rfl
    rw [e]; simp only [sv, cond_true, sz]; omega
/-- The size of a number that is small beside T304. -/
theorem mag_sz {n : Int} (h0 : -680564733841876926926749214863536422912 ≤ n) (h1 : n ≤ 680564733841876926926749214863536422912) : mag (mapU (digsN 20 (sz n))) = sz n :=
  mag_nv (sz_nn n) (by unfold T320 sz; omega)
end Go.Proofs.YtecmhjhjmhliiaaDoor


/-
  Read by wip/tools/vc.py, and what follows.
-/

namespace Go.Proofs.YtecmhjhjmhliiaaDoor

open Go.Den Go.RowKit
noncomputable section
set_option maxRecDepth 100000

theorem okW_clamp (n : Int) : okW (hi (clamp n)) (lo (clamp n)) = true := okW_hilo (clamp_in n)
def off (a b c d : Int) : Int := clip (clamp (clamp (b - a) + clamp (c - d)) / 2)
def del (a b c d : Int) : Int := clip (clamp (clamp (d - a) - clamp (c - b)))
def ok4 (h1 l1 h2 l2 h3 l3 h4 l4 : Int) : Bool := okW h1 l1 && (okW h2 l2 && (okW h3 l3 && okW h4 l4))
def offS : Array Value → Option (Bool × Value)
  | ⟨[.agg ⟨[.int .i64 h1, .int .u64 l1]⟩, .agg ⟨[.int .i64 h2, .int .u64 l2]⟩, .agg ⟨[.int .i64 h3, .int .u64 l3]⟩, .agg ⟨[.int .i64 h4, .int .u64 l4]⟩]⟩ => some (ok4 h1 l1 h2 l2 h3 l3 h4 l4, .int .i64 (off (W2 h1 l1) (W2 h2 l2) (W2 h3 l3) (W2 h4 l4)))
  | _ => none
def delS : Array Value → Option (Bool × Value)
  | ⟨[.agg ⟨[.int .i64 h1, .int .u64 l1]⟩, .agg ⟨[.int .i64 h2, .int .u64 l2]⟩, .agg ⟨[.int .i64 h3, .int .u64 l3]⟩, .agg ⟨[.int .i64 h4, .int .u64 l4]⟩]⟩ => some (ok4 h1 l1 h2 l2 h3 l3 h4 l4, .int .i64 (del (W2 h1 l1) (W2 h2 l2) (W2 h3 l3) (W2 h4 l4)))
  | _ => none
def envO : Env Tryd.prog := envS.with false (pcsW)
end

end Go.Proofs.YtecmhjhjmhliiaaDoor


/-
  Read by wip/tools/vc.py, and what follows.
-/

namespace Go.Proofs.YtecmhjhjmhliiaaDoor

open Go.Den Go.RowKit
noncomputable section
set_option maxRecDepth 100000

theorem moment_vc (s f : Int) (Q : Value → Prop) : ((ev envM 60).call [] 59 #[.int .i64 s, .int .u32 f] [] B0).holds (fun r => Q r.v) = (bcase (okI s && true)
  (bcase (okI (IntKind.wrap IntKind.i64 f))
    (bcase
      (okW (hi (s * 4294967296)) (lo (s * 4294967296)) &&
        okW (hi (IntKind.wrap IntKind.i64 f)) (lo (IntKind.wrap IntKind.i64 f)))
      (Q
        (Value.agg
          {
            toList :=
              [Value.int IntKind.i64
                  (hi
                    (clamp
                      (W2 (hi (s * 4294967296)) (lo (s * 4294967296)) +
                        W2 (hi (IntKind.wrap IntKind.i64 f)) (lo (IntKind.wrap IntKind.i64 f))))),
                Value.int IntKind.u64
                  (lo
                    (clamp
                      (W2 (hi (s * 4294967296)) (lo (s * 4294967296)) +
                        W2 (hi (IntKind.wrap IntKind.i64 f)) (lo (IntKind.wrap IntKind.i64 f)))))] }))
      False)
    False)
  False) := by kernel_rfl
theorem split_vc (h l : Int) (Q : Value → Prop) : ((ev envM 60).call [] 48 #[.agg #[.int .i64 h, .int .u64 l]] [] B0).holds (fun r => Q r.v) = (bcase (okW h l && true)
  (bcase (okW (hi (W2 h l / 4294967296)) (lo (W2 h l / 4294967296)))
    (Q
      (Value.tuple
        {
          toList :=
            [Value.int IntKind.i64 (clip (W2 (hi (W2 h l / 4294967296)) (lo (W2 h l / 4294967296)))),
              Value.int IntKind.u32 (IntKind.wrap IntKind.u32 (W2 h l % 4294967296))] }))
    False)
  False) := by kernel_rfl
theorem frac_vc (n d : Int) (Q : Value → Prop) : ((ev envM 60).call [] 36 #[.int .u64 n, .int .u64 d] [] B0).holds (fun r => Q r.v) = (bcase (d == 0) (Q (Value.tuple { toList := [Value.int IntKind.u32 0, Value.bool false] }))
  (bcase (decide (d > 1099511627776)) (Q (Value.tuple { toList := [Value.int IntKind.u32 0, Value.bool false] }))
    (bcase (decide (n ≥ d)) (Q (Value.tuple { toList := [Value.int IntKind.u32 0, Value.bool false] }))
      (bcase (okI (IntKind.wrap IntKind.i64 n) && true)
        (bcase
          (okW (hi (IntKind.wrap IntKind.i64 n * 4294967296)) (lo (IntKind.wrap IntKind.i64 n * 4294967296)) && true)
          (bcase
            (okW
                (hi
                  (clamp
                    (W2 (hi (IntKind.wrap IntKind.i64 n * 4294967296)) (lo (IntKind.wrap IntKind.i64 n * 4294967296)) +
                      0)))
                (lo
                  (clamp
                    (W2 (hi (IntKind.wrap IntKind.i64 n * 4294967296)) (lo (IntKind.wrap IntKind.i64 n * 4294967296)) +
                      0))) &&
              (decide (0 < d) && decide (d ≤ 18446744073709551615)))
            (bcase
              (W2
                    (hi
                      (clamp
                        (W2 (hi (IntKind.wrap IntKind.i64 n * 4294967296))
                            (lo (IntKind.wrap IntKind.i64 n * 4294967296)) +
                          0)))
                    (lo
                      (clamp
                        (W2 (hi (IntKind.wrap IntKind.i64 n * 4294967296))
                            (lo (IntKind.wrap IntKind.i64 n * 4294967296)) +
                          0))) %
                  d !=
                0)
              (Q
                (Value.tuple
                  {
                    toList :=
                      [Value.int IntKind.u32
                          (IntKind.wrap IntKind.u32
                            (if
                                4294967295 <
                                  IntKind.wrap IntKind.u64
                                    (lo
                                        (W2
                                            (hi
                                              (clamp
                                                (W2 (hi (IntKind.wrap IntKind.i64 n * 4294967296))
                                                    (lo (IntKind.wrap IntKind.i64 n * 4294967296)) +
                                                  W2 (hi (IntKind.wrap IntKind.i64 0))
                                                    (lo (IntKind.wrap IntKind.i64 0)))))
                                            (lo
                                              (clamp
                                                (W2 (hi (IntKind.wrap IntKind.i64 n * 4294967296))
                                                    (lo (IntKind.wrap IntKind.i64 n * 4294967296)) +
                                                  W2 (hi (IntKind.wrap IntKind.i64 0))
                                                    (lo (IntKind.wrap IntKind.i64 0))))) /
                                          d) +
                                      1) then
                              4294967295
                            else
                              IntKind.wrap IntKind.u64
                                (lo
                                    (W2
                                        (hi
                                          (clamp
                                            (W2 (hi (IntKind.wrap IntKind.i64 n * 4294967296))
                                                (lo (IntKind.wrap IntKind.i64 n * 4294967296)) +
                                              0)))
                                        (lo
                                          (clamp
                                            (W2 (hi (IntKind.wrap IntKind.i64 n * 4294967296))
                                                (lo (IntKind.wrap IntKind.i64 n * 4294967296)) +
                                              0))) /
                                      d) +
                                  1))),
                        Value.bool true] }))
              (Q
                (Value.tuple
                  {
                    toList :=
                      [Value.int IntKind.u32
                          (IntKind.wrap IntKind.u32
                            (if
                                4294967295 <
                                  lo
                                    (W2
                                        (hi
                                          (clamp
                                            (W2 (hi (IntKind.wrap IntKind.i64 n * 4294967296))
                                                (lo (IntKind.wrap IntKind.i64 n * 4294967296)) +
                                              W2 (hi (IntKind.wrap IntKind.i64 0)) (lo (IntKind.wrap IntKind.i64 0)))))
                                        (lo
                                          (clamp
                                            (W2 (hi (IntKind.wrap IntKind.i64 n * 4294967296))
                                                (lo (IntKind.wrap IntKind.i64 n * 4294967296)) +
                                              W2 (hi (IntKind.wrap IntKind.i64 0))
                                                (lo (IntKind.wrap IntKind.i64 0))))) /
                                      d) then
                              4294967295
                            else
                              lo
                                (W2
                                    (hi
                                      (clamp
                                        (W2 (hi (IntKind.wrap IntKind.i64 n * 4294967296))
                                            (lo (IntKind.wrap IntKind.i64 n * 4294967296)) +
                                          0)))
                                    (lo
                                      (clamp
                                        (W2 (hi (IntKind.wrap IntKind.i64 n * 4294967296))
                                            (lo (IntKind.wrap IntKind.i64 n * 4294967296)) +
                                          0))) /
                                  d))),
                        Value.bool true] })))
            False)
          False)
        False)))) := by kernel_rfl
theorem parts_vc (f d : Int) (Q : Value → Prop) : ((ev envM 60).call [] 33 #[.int .u32 f, .int .u64 d] [] B0).holds (fun r => Q r.v) = (bcase (d == 0) (Q (Value.tuple { toList := [Value.int IntKind.u64 0, Value.bool false] }))
  (bcase (decide (d > 1099511627776)) (Q (Value.tuple { toList := [Value.int IntKind.u64 0, Value.bool false] }))
    (bcase (okI (IntKind.wrap IntKind.i64 f) && okI (IntKind.wrap IntKind.i64 d))
      (bcase
        (okW (hi (IntKind.wrap IntKind.i64 f * IntKind.wrap IntKind.i64 d))
            (lo (IntKind.wrap IntKind.i64 f * IntKind.wrap IntKind.i64 d)) &&
          true)
        (bcase
          (okW
            (hi
              (W2 (hi (IntKind.wrap IntKind.i64 f * IntKind.wrap IntKind.i64 d))
                  (lo (IntKind.wrap IntKind.i64 f * IntKind.wrap IntKind.i64 d)) /
                4294967296))
            (lo
              (W2 (hi (IntKind.wrap IntKind.i64 f * IntKind.wrap IntKind.i64 d))
                  (lo (IntKind.wrap IntKind.i64 f * IntKind.wrap IntKind.i64 d)) /
                4294967296)))
          (Q
            (Value.tuple
              {
                toList :=
                  [Value.int IntKind.u64
                      (IntKind.wrap IntKind.u64
                        (clip
                          (W2
                            (hi
                              (W2 (hi (IntKind.wrap IntKind.i64 f * IntKind.wrap IntKind.i64 d))
                                  (lo (IntKind.wrap IntKind.i64 f * IntKind.wrap IntKind.i64 d)) /
                                4294967296))
                            (lo
                              (W2 (hi (IntKind.wrap IntKind.i64 f * IntKind.wrap IntKind.i64 d))
                                  (lo (IntKind.wrap IntKind.i64 f * IntKind.wrap IntKind.i64 d)) /
                                4294967296))))),
                    Value.bool true] }))
          False)
        False)
      False))) := by kernel_rfl
theorem mulI_in {s : Int} (h : okI s = true) (k : Int) (k0 : 0 ≤ k) (k1 : k ≤ 4294967296) : InR (s * k) := by
  rw [okI_iff] at h
  have h1 : s * k ≤ 9223372036854775807 * k := Int.mul_le_mul_of_nonneg_right h.2 k0
  have h2 : -9223372036854775808 * k ≤ s * k := Int.mul_le_mul_of_nonneg_right h.1 k0
  unfold InR; omega
theorem i64_small {n : Int} (h0 : 0 ≤ n) (h1 : n ≤ 9223372036854775807) : IntKind.i64.wrap n = n := by rw [IntKind.wrap_i64]; omega
def okU32 (n : Int) : Bool := decide (0 ≤ n) && decide (n ≤ 4294967295)
theorem okU32_iff {n : Int} : okU32 n = true ↔ 0 ≤ n ∧ n ≤ 4294967295 := by simp [okU32]
def momS : Array Value → Option (Bool × Value)
  | ⟨[.int .i64 s, .int .u32 f]⟩ => some (okI s && okU32 f, wv (s * 4294967296 + f))
  | _ => none
def splitS : Array Value → Option (Bool × Value)
  | ⟨[.agg ⟨[.int .i64 h, .int .u64 l]⟩]⟩ => some (okW h l, .tuple #[.int .i64 (clip (W2 h l / 4294967296)), .int .u32 (W2 h l % 4294967296)])
  | _ => none
def fracOk (n d : Int) : Bool := decide (0 < d) && (decide (d ≤ 1099511627776) && decide (n < d))
def fracC (n d : Int) : Int := n * 4294967296 / d + if n * 4294967296 % d = 0 then 0 else 1
def fracV (n d : Int) : Int := bif fracOk n d then (if 4294967295 < fracC n d then 4294967295 else fracC n d) else 0
def fracS : Array Value → Option (Bool × Value)
  | ⟨[.int .u64 n, .int .u64 d]⟩ => some (okU n && okU d, .tuple #[.int .u32 (fracV n d), .bool (fracOk n d)])
  | _ => none
def partOk (d : Int) : Bool := decide (0 < d) && decide (d ≤ 1099511627776)
def partV (f d : Int) : Int := bif partOk d then f * d / 4294967296 else 0
def partS : Array Value → Option (Bool × Value)
  | ⟨[.int .u32 f, .int .u64 d]⟩ => some (okU32 f && okU d, .tuple #[.int .u64 (partV f d), .bool (partOk d)])
  | _ => none
theorem mom_in {s f : Int} (hs : okI s = true) (hf : okU32 f = true) : InR (s * 4294967296 + f) := by
  rw [okI_iff] at hs; rw [okU32_iff] at hf; unfold InR; omega
def pcMoment : PC Tryd.prog where
  f := 59
  spec := momS
  body := by kernel_rfl
  ok := fun args r hr hok => by
    unfold momS at hr
    split at hr
    · rename_i s f
      cases hr
      rw [Bool.and_eq_true] at hok
      obtain ⟨ks, kf⟩ := hok
      refine ⟨all_bel rfl, rfl, fun w => calls_spec envM hcokP 60 ?_ (all_bel rfl) rfl w⟩
      have kf' := okU32_iff.1 kf
      rw [moment_vc s f (fun v => v = wv (s * 4294967296 + f))]
      have e1 : IntKind.i64.wrap f = f := i64_small kf'.1 (by omega)
      have e2 : okI f = true := okI_iff.2 (by omega)
      have e3 := okW_hilo (mulI_in ks 4294967296 (by omega) (by omega))
      have e4 : okW (hi f) (lo f) = true := okW_hilo (by unfold InR; omega)
      simp only [e1, e2, e3, e4, ks, W2_hilo, Bool.and_self, bcase_t, clamp_of (mom_in ks kf), wv]
    · cases hr
theorem clip_or' (n : Int) (h0 : -9223372036854775808 ≤ n) (h1 : n ≤ 9223372036854775807) : clip n = n := by unfold clip; rw [if_neg (by omega), if_neg (by omega)]
theorem div_in' {n : Int} (h : InR n) : InR (n / 4294967296) := by unfold InR at *; omega
def pcSplit : PC Tryd.prog where
  f := 48
  spec := splitS
  body := by kernel_rfl
  ok := fun args r hr hok => by
    unfold splitS at hr
    split at hr
    · rename_i h l
      cases hr
      refine ⟨all_bel rfl, rfl, fun w => calls_spec envM hcokP 60 ?_ (all_bel rfl) rfl w⟩
      have hok' : okW h l = true := hok
      have e1 := okW_hilo (div_in' (hi_W2 hok').2.2)
      have e2 : IntKind.u32.wrap (W2 h l % 4294967296) = W2 h l % 4294967296 := by rw [IntKind.wrap_u32]; omega
      rw [split_vc h l (fun v => v = .tuple #[.int .i64 (clip (W2 h l / 4294967296)), .int .u32 (W2 h l % 4294967296)])]
      simp only [e1, e2, hok', W2_hilo, Bool.and_self, bcase_t]
    · cases hr
theorem frac_lt {n d : Int} (n0 : 0 ≤ n) (h : n < d) : 0 ≤ n * 4294967296 / d ∧ n * 4294967296 / d < 4294967296 := by
  constructor
  · exact Int.ediv_nonneg (by omega) (by omega)
  · exact Int.ediv_lt_of_lt_mul (by omega) (by omega)
theorem tup_eq {k : IntKind} {a b : Int} {x : Value} (h : a = b) : Value.tuple #[.int k a, x] = .tuple #[.int k b, x] := by rw [h]
set_option maxHeartbeats 1000000 in
def pcFrac : PC Tryd.prog where
  f := 36
  spec := fracS
  body := by kernel_rfl
  ok := fun args r hr hok => by
    unfold fracS at hr
    split at hr
    · rename_i n d
      cases hr
      rw [Bool.and_eq_true, okU_iff, okU_iff] at hok
      obtain ⟨⟨n0, n1⟩, d0, d1⟩ := hok
      refine ⟨all_bel rfl, rfl, fun w => calls_spec envM hcokP 60 ?_ (all_bel rfl) rfl w⟩
      rw [frac_vc n d (fun v => v = .tuple #[.int .u32 (fracV n d), .bool (fracOk n d)])]
      have no : fracOk n d = false → Value.tuple #[.int .u32 0, .bool false] = .tuple #[.int .u32 (fracV n d), .bool (fracOk n d)] := fun h => by simp only [fracV, h, cond_false]
      refine bcase_in (fun h => no ?_) fun h1 => bcase_in (fun h => no ?_) fun h2 => bcase_in (fun h => no ?_) fun h3 => ?_
      · rw [beq_iff_eq] at h; subst h; simp [fracOk]
      · rw [decide_eq_true_eq] at h; simp [fracOk]; omega
      · rw [decide_eq_true_eq] at h; simp [fracOk]; omega
      simp only [decide_eq_false_iff_not, beq_eq_false_iff_ne, ne_eq] at h1 h2 h3
      have hd : 0 < d := by omega
      have hok : fracOk n d = true := by simp [fracOk]; omega
      have b := frac_lt n0 (show n < d by omega)
      have e1 : IntKind.i64.wrap n = n := i64_small n0 (by omega)
      have ki : okI n = true := okI_iff.2 (by omega)
      have e2 : IntKind.i64.wrap 0 = 0 := by rfl
      have e3 := okW_hilo (mulI_in ki 4294967296 (by omega) (by omega))
      have e4 : clamp (n * 4294967296 + 0) = n * 4294967296 := by rw [Int.add_zero]; exact clamp_of (mulI_in ki 4294967296 (by omega) (by omega))
      have e5 : lo (n * 4294967296 / d) = n * 4294967296 / d := by unfold lo; omega
      have e6 : W2 (hi 0) (lo 0) = 0 := W2_hilo 0
      have hV : fracV n d = if 4294967295 < fracC n d then 4294967295 else fracC n d := by simp only [fracV, hok, cond_true]
      simp only [e1, e2, e3, e4, e5, e6, ki, hok, W2_hilo, Bool.and_self, bcase_t, decide_eq_true (show d ≤ 18446744073709551615 by omega), decide_eq_true hd, hV]
      have e7 : IntKind.u64.wrap (n * 4294967296 / d + 1) = n * 4294967296 / d + 1 := by rw [IntKind.wrap_u64]; omega
      refine bcase_in (fun h => ?_) fun h => ?_
      · rw [bne_iff_ne] at h
        have hc : fracC n d = n * 4294967296 / d + 1 := by unfold fracC; rw [if_neg h]
        rw [e7, hc]
        refine tup_eq ?_
        rw [IntKind.wrap_u32]; split <;> omega
      · have h' : n * 4294967296 % d = 0 := by simpa using h
        have hc : fracC n d = n * 4294967296 / d := by unfold fracC; rw [if_pos h']; omega
        rw [hc]
        refine tup_eq ?_
        rw [IntKind.wrap_u32]; split <;> omega
    · cases hr
def pcParts : PC Tryd.prog where
  f := 33
  spec := partS
  body := by kernel_rfl
  ok := fun args r hr hok => by
    unfold partS at hr
    split at hr
    · rename_i f d
      cases hr
      rw [Bool.and_eq_true, okU32_iff, okU_iff] at hok
      obtain ⟨⟨f0, f1⟩, d0, d1⟩ := hok
      refine ⟨all_bel rfl, rfl, fun w => calls_spec envM hcokP 60 ?_ (all_bel rfl) rfl w⟩
      rw [parts_vc f d (fun v => v = .tuple #[.int .u64 (partV f d), .bool (partOk d)])]
      have no : partOk d = false → Value.tuple #[.int .u64 0, .bool false] = .tuple #[.int .u64 (partV f d), .bool (partOk d)] := fun h => by simp only [partV, h, cond_false]
      refine bcase_in (fun h => no ?_) fun h1 => bcase_in (fun h => no ?_) fun h2 => ?_
      · rw [beq_iff_eq] at h; subst h; simp [partOk]
      · rw [decide_eq_true_eq] at h; simp [partOk]; omega
      simp only [decide_eq_false_iff_not, beq_eq_false_iff_ne, ne_eq] at h1 h2
      have hok : partOk d = true := by simp [partOk]; omega
      have e1 : IntKind.i64.wrap f = f := i64_small f0 (by omega)
      have e2 : IntKind.i64.wrap d = d := i64_small d0 (by omega)
      have k1 : okI f = true := okI_iff.2 (by omega)
      have k2 : okI d = true := okI_iff.2 (by omega)
      have p0 : 0 ≤ f * d := Int.mul_nonneg f0 d0
      have p1 : f * d ≤ 4294967295 * 1099511627776 := Int.mul_le_mul f1 (by omega) d0 (by omega)
      have e3 : okW (hi (f * d)) (lo (f * d)) = true := okW_hilo (by unfold InR; omega)
      have e4 := okW_hilo (div_in' (n := f * d) (by unfold InR; omega))
      have hV : partV f d = f * d / 4294967296 := by simp only [partV, hok, cond_true]
      have e5 : IntKind.u64.wrap (clip (f * d / 4294967296)) = f * d / 4294967296 := by
        have := clip_or' (f * d / 4294967296) (by omega) (by omega)
        rw [this, IntKind.wrap_u64]; omega
      simp only [e1, e2, e3, e4, e5, k1, k2, hok, hV, W2_hilo, Bool.and_self, bcase_t]
    · cases hr
def envP : Env Tryd.prog := envS.with false (pcMoment :: pcSplit :: pcFrac :: pcParts :: pcsW)
end

end Go.Proofs.YtecmhjhjmhliiaaDoor


/-
  Read by wip/tools/vc.py, and what follows.
-/


namespace Go.Proofs.YtecmhjhjmhliiaaDoor

open Go.Den Go.RowKit
noncomputable section
set_option maxRecDepth 100000

theorem unix_vc (s f : Int) (Q : Value → Prop) (x1 : Int) (e_x1 : x1 = IntKind.wrap IntKind.i64 (Int.fdiv s 4294967296)) (x2 : Int) (e_x2 : x2 = IntKind.wrap IntKind.u64
  (↑(BitVec.toNat
        (BitVec.ofInt 64 (IntKind.wrap IntKind.u64 (s * 4294967296)) |||
          BitVec.ofInt 64 (IntKind.wrap IntKind.u64 f))) :
    Int)) (x3 : Int) (e_x3 : x3 = clamp (9487534653230284800 + W2 x1 x2)) : ((ev envP 80).call [] 23 #[.int .u64 s, .int .u32 f] [] B0).holds (fun r => Q r.v) = (bcase (okW x1 x2) (Q (Value.agg { toList := [Value.int IntKind.i64 (hi x3), Value.int IntKind.u64 (lo x3)] })) False) := by
  subst e_x3 e_x2 e_x1
  kernel_rfl
theorem eback_vc (h l : Int) (Q : Value → Prop) (x1 : Int) (e_x1 : x1 = clamp (W2 h l - 9487534653230284800)) (x2 : Int) (e_x2 : x2 = hi x1) (x3 : Int) (e_x3 : x3 = lo x1) (x4 : Int) (e_x4 : x4 = W2 x2 x3) (x5 : Int) (e_x5 : x5 = x4 / 4294967296) : ((ev envP 80).call [] 32 #[.agg #[.int .i64 h, .int .u64 l]] [] B0).holds (fun r => Q r.v) = (bcase (okW h l && true)
  (bcase (okW x2 x3 && true)
    (bcase (hi x5 != 0)
      (Q (Value.tuple { toList := [Value.int IntKind.u64 0, Value.int IntKind.u32 0, Value.bool false] }))
      (Q
        (Value.tuple
          {
            toList :=
              [Value.int IntKind.u64 (lo x5), Value.int IntKind.u32 (IntKind.wrap IntKind.u32 (x4 % 4294967296)),
                Value.bool true] })))
    False)
  False) := by
  subst e_x5 e_x4 e_x3 e_x2 e_x1
  kernel_rfl

theorem W2_in {h l : Int} (k : okW h l = true) : InR (W2 h l) := (hi_W2 k).2.2
/-- The era that a stamp has nearest to a moment. -/
def unfH (s h l : Int) : Int := if l + 9223372036854775808 ≤ s ∧ -9223372036854775808 < h then h - 1 else if s + 9223372036854775808 < l ∧ h < 9223372036854775807 then h + 1 else h
def unfS : Array Value → Option (Bool × Value)
  | ⟨[.int .u64 s, .agg ⟨[.int .i64 h, .int .u64 l]⟩]⟩ => some (okU s && okW h l, .agg #[.int .i64 (unfH s h l), .int .u64 s])
  | _ => none
def unixV (s f : Int) : Int := (s + 2208988800) * 4294967296 + f
def unixS : Array Value → Option (Bool × Value)
  | ⟨[.int .u64 s, .int .u32 f]⟩ => some (okU s && okU32 f, wv (unixV s f))
  | _ => none
def ebOk (n : Int) : Bool := decide (9487534653230284800 ≤ n) && decide (n < 79228162523751872246774235136)
def ebackS : Array Value → Option (Bool × Value)
  | ⟨[.agg ⟨[.int .i64 h, .int .u64 l]⟩]⟩ => some (okW h l, .tuple #[.int .u64 (bif ebOk (W2 h l) then (W2 h l - 9487534653230284800) / 4294967296 else 0), .int .u32 (bif ebOk (W2 h l) then (W2 h l - 9487534653230284800) % 4294967296 else 0), .bool (ebOk (W2 h l))])
  | _ => none
theorem ww {h : Int} (h0 : -9223372036854775808 ≤ h) (h1 : h ≤ 9223372036854775807) : IntKind.i64.wrap h = h := by rw [IntKind.wrap_i64]; omega
theorem or_low (a f : Int) (f0 : 0 ≤ f) (f1 : f ≤ 4294967295) : ((BitVec.ofInt 64 (IntKind.wrap .u64 (a * 4294967296)) ||| BitVec.ofInt 64 (IntKind.wrap .u64 f)).toNat : Int) = a % 4294967296 * 4294967296 + f := by
  have e1 : IntKind.wrap .u64 (a * 4294967296) = a % 4294967296 * 4294967296 := by rw [IntKind.wrap_u64]; omega
  have e2 : IntKind.wrap .u64 f = f := by rw [IntKind.wrap_u64]; omega
  rw [e1, e2]
  obtain ⟨x, hx⟩ : ∃ x : Nat, (x : Int) = a % 4294967296 := ⟨(a % 4294967296).toNat, by omega⟩
  obtain ⟨y, hy⟩ : ∃ y : Nat, (y : Int) = f := ⟨f.toNat, by omega⟩
  rw [← hx, ← hy]
  have hx1 : x < 4294967296 := by omega
  have hy1 : y < 2 ^ 32 := by omega
  rw [BitVec.toNat_or, BitVec.toNat_ofInt, BitVec.toNat_ofInt]
  have t1 : ((x : Int) * 4294967296 % (2 ^ 64 : Nat)).toNat = x <<< 32 := by rw [Nat.shiftLeft_eq]; omega
  have t2 : ((y : Int) % (2 ^ 64 : Nat)).toNat = y := by omega
  rw [t1, t2, ← Nat.shiftLeft_add_eq_or_of_lt hy1, Nat.shiftLeft_eq]
  omega
def pcUnix : PC Tryd.prog where
  f := 23
  spec := unixS
  body := by kernel_rfl
  ok := fun args r hr hok => by
    unfold unixS at hr
    split at hr
    · rename_i s f
      cases hr
      rw [Bool.and_eq_true] at hok
      obtain ⟨ks, kf⟩ := hok
      have bs := okU_iff.1 ks
      have bf := okU32_iff.1 kf
      refine ⟨all_bel rfl, rfl, fun w => calls_spec envP hcokP 80 ?_ (all_bel rfl) rfl w⟩
      rw [unix_vc s f (fun v => v = wv (unixV s f)) _ rfl _ rfl _ rfl, or_low s f bf.1 bf.2]
      have e1 : IntKind.i64.wrap (Int.fdiv s 4294967296) = s / 4294967296 := by
        rw [Int.fdiv_eq_ediv_of_nonneg _ (by omega)]; exact ww (by omega) (by omega)
      have e2 : IntKind.u64.wrap (s % 4294967296 * 4294967296 + f) = s % 4294967296 * 4294967296 + f := by rw [IntKind.wrap_u64]; omega
      rw [e1, e2]
      have k : okW (s / 4294967296) (s % 4294967296 * 4294967296 + f) = true := by rw [okW_iff]; omega
      have e3 : 9487534653230284800 + W2 (s / 4294967296) (s % 4294967296 * 4294967296 + f) = unixV s f := by unfold W2 unixV; omega
      rw [k, bcase_t, e3, clamp_of (by unfold InR unixV; omega)]; rfl
    · cases hr
theorem tup3 {a b c d : Int} {p q : Bool} (h1 : a = b) (h2 : c = d) (h3 : p = q) : Value.tuple ⟨[.int .u64 a, .int .u32 c, .bool p]⟩ = .tuple ⟨[.int .u64 b, .int .u32 d, .bool q]⟩ := by rw [h1, h2, h3]
def pcEBack : PC Tryd.prog where
  f := 32
  spec := ebackS
  body := by kernel_rfl
  ok := fun args r hr hok => by
    unfold ebackS at hr
    split at hr
    · rename_i h l
      cases hr
      have kw : okW h l = true := hok
      have kR := W2_in kw
      refine ⟨all_bel rfl, rfl, fun w => calls_spec envP hcokP 80 ?_ (all_bel rfl) rfl w⟩
      rw [eback_vc h l (fun v => v = .tuple #[.int .u64 (bif ebOk (W2 h l) then (W2 h l - 9487534653230284800) / 4294967296 else 0), .int .u32 (bif ebOk (W2 h l) then (W2 h l - 9487534653230284800) % 4294967296 else 0), .bool (ebOk (W2 h l))]) _ rfl _ rfl _ rfl _ rfl _ rfl]
      simp only [W2_hilo, kw, okW_clamp, Bool.and_self, bcase_t]
      generalize hN : W2 h l = N at *
      obtain ⟨c, hc⟩ : ∃ c, c = clamp (N - 9487534653230284800) := ⟨_, rfl⟩
      rw [← hc]
      have hcc : ebOk N = true → c = N - 9487534653230284800 := fun q => by
        simp only [ebOk, Bool.and_eq_true, decide_eq_true_eq] at q
        rw [hc]; exact clamp_of (by unfold InR; omega)
      have hnc : ebOk N = false → c < 0 ∨ 79228162514264337593543950336 ≤ c := fun q => by
        simp only [ebOk, Bool.and_eq_false_iff, decide_eq_false_iff_not] at q
        rw [hc]; unfold InR at kR; unfold clamp; split <;> (try split) <;> omega
      refine bcase_in (fun q => ?_) fun q => ?_
      · rw [bne_iff_ne] at q
        cases hk : ebOk N with
        | true =>
          exfalso; apply q
          have := hcc hk
          simp only [ebOk, Bool.and_eq_true, decide_eq_true_eq] at hk
          unfold hi; omega
        | false => rfl
      · have q' : hi (c / 4294967296) = 0 := by simpa using q
        cases hk : ebOk N with
        | true =>
          have := hcc hk
          simp only [ebOk, Bool.and_eq_true, decide_eq_true_eq] at hk
          refine tup3 ?_ ?_ rfl
          · simp only [cond_true]; unfold lo; omega
          · simp only [cond_true]; rw [IntKind.wrap_u32]; omega
        | false =>
          exfalso
          have := hnc hk
          unfold hi at q'; omega
    · cases hr
def envE : Env Tryd.prog := envS.with false (pcUnix :: pcEBack :: pcMoment :: pcSplit :: pcsW)
end

end Go.Proofs.YtecmhjhjmhliiaaDoor


/-
  Read by wip/tools/vc.py, and what follows.
-/



namespace Go.Proofs.YtecmhjhjmhliiaaDoor

open Go.Den Go.RowKit
noncomputable section
set_option maxRecDepth 100000

theorem r2parts_vc (f d : Int) (Q : Value → Prop) (x1 : Int) (e_x1 : x1 = mag (mapU (digsN 20 (IntKind.wrap IntKind.u64 f))) * mag (mapU (digsN 20 d))) (x2 : Int) (e_x2 : x2 = mag (mapU (digsN 20 x1))) : ((ev envG 100).call [] 35 #[.int .u32 f, .int .u64 d] [] B0).holds (fun r => Q r.v) = (bcase (decide (d ≥ 1))
  (bcase (decide (d ≤ 1099511627776))
    (bcase (okU (IntKind.wrap IntKind.u64 f))
      (bcase (okU d)
        (bcase
          (okNum (mapU (digsN 20 (IntKind.wrap IntKind.u64 f))) &&
            (okNum (mapU (digsN 20 d)) &&
              decide
                (x1 <
                  2135987035920910082395021706169552114602704522356652769947041607822219725780640550022962086936576)))
          (bcase (okNum (mapU (digsN 20 x1)) && decide (x2 < 680564733841876926926749214863536422912))
            (bcase (okNum (mapU (digsN 20 (sz (sv false x2 / 4294967296)))))
              (Q
                (Value.tuple
                  {
                    toList :=
                      [Value.int IntKind.u64
                          (lo (clamp (sv false (mag (mapU (digsN 20 (sz (sv false x2 / 4294967296)))))))),
                        Value.bool true] }))
              False)
            False)
          False)
        False)
      False)
    (Q (Value.tuple { toList := [Value.int IntKind.u64 0, Value.bool false] })))
  (Q (Value.tuple { toList := [Value.int IntKind.u64 0, Value.bool false] }))) := by
  subst e_x2 e_x1
  kernel_rfl
theorem r3unix_vc (s f : Int) (Q : Value → Prop) (x1 : Int) (e_x1 : x1 = mag (mapU (digsN 20 s))) (x2 : Int) (e_x2 : x2 = x1 + 2208988800) (x3 : Int) (e_x3 : x3 = mag (mapU (digsN 20 (sz (sv false x1 + 2208988800)))) * 4294967296) (x4 : Int) (e_x4 : x4 = mag (mapU (digsN 20 (IntKind.wrap IntKind.u64 f)))) (x5 : Int) (e_x5 : x5 = mag (mapU (digsN 20 x3))) (x6 : Int) (e_x6 : x6 = x5 + x4) (x7 : Int) (e_x7 : x7 = clamp (sv false (mag (mapU (digsN 20 (sz (sv false x5 + sv false x4))))))) : ((ev envG 100).call [] 38 #[.int .u64 s, .int .u32 f] [] B0).holds (fun r => Q r.v) = (bcase (okU s)
  (bcase
    (okNum (mapU (digsN 20 s)) &&
      decide (x2 < 2135987035920910082395021706169552114602704522356652769947041607822219725780640550022962086936576))
    (bcase
      (okNum (mapU (digsN 20 (sz (sv false x1 + 2208988800)))) &&
        decide (x3 < 2135987035920910082395021706169552114602704522356652769947041607822219725780640550022962086936576))
      (bcase (okU (IntKind.wrap IntKind.u64 f))
        (bcase
          (okNum (mapU (digsN 20 x3)) &&
            (okNum (mapU (digsN 20 (IntKind.wrap IntKind.u64 f))) &&
              (decide
                  (x4 < 32592575621351777380295131014550050576823494298654980010178247189670100796213387298934358016) &&
                decide
                  (x6 <
                    2135987035920910082395021706169552114602704522356652769947041607822219725780640550022962086936576))))
          (bcase (okNum (mapU (digsN 20 (sz (sv false x5 + sv false x4)))))
            (Q (Value.agg { toList := [Value.int IntKind.i64 (hi x7), Value.int IntKind.u64 (lo x7)] })) False)
          False)
        False)
      False)
    False)
  False) := by
  subst e_x7 e_x6 e_x5 e_x4 e_x3 e_x2 e_x1
  kernel_rfl
theorem wu32 {f : Int} (k : okU32 f = true) : IntKind.wrap .u64 f = f := by rw [okU32_iff] at k; exact w64 (by omega) (by omega)
def r2lessS : Array Value → Option (Bool × Value)
  | ⟨[.agg ⟨[.int .i64 h1, .int .u64 l1]⟩, .agg ⟨[.int .i64 h2, .int .u64 l2]⟩]⟩ => some (okW h1 l1 && okW h2 l2, wv (clamp (W2 h1 l1 - W2 h2 l2)))
  | _ => none
def pcR2Parts : PC Tryd.prog where
  f := 35
  spec := partS
  body := by kernel_rfl
  ok := fun args r hr hok => by
    unfold partS at hr
    split at hr
    · rename_i f d
      cases hr
      rw [Bool.and_eq_true] at hok
      obtain ⟨kf, kd⟩ := hok
      have bf := okU32_iff.1 kf
      have bd := okU_iff.1 kd
      have kU : okU f = true := okU_iff.2 (by omega)
      refine ⟨all_bel rfl, rfl, fun w => calls_spec envG hcokP 100 ?_ (all_bel rfl) rfl w⟩
      rw [r2parts_vc f d (fun v => v = .tuple #[.int .u64 (partV f d), .bool (partOk d)]) _ rfl _ rfl]
      have no : partOk d = false → Value.tuple #[.int .u64 0, .bool false] = .tuple #[.int .u64 (partV f d), .bool (partOk d)] := fun h => by simp only [partV, h, cond_false]
      refine bcase_in (fun h1 => bcase_in (fun h2 => ?_) fun h2 => no ?_) fun h1 => no ?_
      · rw [decide_eq_true_eq] at h1 h2
        have hok : partOk d = true := by simp [partOk]; omega
        have p0 : 0 ≤ f * d := Int.mul_nonneg bf.1 bd.1
        have p1 : f * d ≤ 4294967295 * 1099511627776 := Int.mul_le_mul bf.2 (by omega) bd.1 (by omega)
        have m1 : mag (mapU (digsN 20 f)) = f := mag_nv (by omega) (by unfold T320; omega)
        have m2 : mag (mapU (digsN 20 d)) = d := mag_nv (by omega) (by unfold T320; omega)
        have m3 : mag (mapU (digsN 20 (f * d))) = f * d := mag_nv p0 (by unfold T320; omega)
        have e : sz (f * d / 4294967296) = f * d / 4294967296 := by unfold sz; omega
        have m4 : mag (mapU (digsN 20 (f * d / 4294967296))) = f * d / 4294967296 := mag_nv (by omega) (by unfold T320; omega)
        have hV : partV f d = f * d / 4294967296 := by simp only [partV, hok, cond_true]
        have e2 : lo (clamp (f * d / 4294967296)) = f * d / 4294967296 := by
          rw [clamp_of (by unfold InR; omega)]; unfold lo; omega
        simp only [wu32 kf, m1, m2, m3, m4, e, e2, hV, hok, sv_f, ok_nv, kU, kd, Bool.and_self, bcase_t, decide_eq_true (show f * d < 2135987035920910082395021706169552114602704522356652769947041607822219725780640550022962086936576 by omega), decide_eq_true (show f * d < 680564733841876926926749214863536422912 by omega)]
      · rw [decide_eq_false_iff_not] at h2; simp [partOk]; omega
      · rw [decide_eq_false_iff_not] at h1; simp [partOk]; omega
    · cases hr
def pcR3Unix : PC Tryd.prog where
  f := 38
  spec := unixS
  body := by kernel_rfl
  ok := fun args r hr hok => by
    unfold unixS at hr
    split at hr
    · rename_i s f
      cases hr
      rw [Bool.and_eq_true] at hok
      obtain ⟨ks, kf⟩ := hok
      have bs := okU_iff.1 ks
      have bf := okU32_iff.1 kf
      have kU : okU f = true := okU_iff.2 (by omega)
      refine ⟨all_bel rfl, rfl, fun w => calls_spec envG hcokP 100 ?_ (all_bel rfl) rfl w⟩
      rw [r3unix_vc s f (fun v => v = wv (unixV s f)) _ rfl _ rfl _ rfl _ rfl _ rfl _ rfl _ rfl]
      have m1 : mag (mapU (digsN 20 s)) = s := mag_nv (by omega) (by unfold T320; omega)
      have m2 : mag (mapU (digsN 20 f)) = f := mag_nv (by omega) (by unfold T320; omega)
      have e1 : sz (s + 2208988800) = s + 2208988800 := by unfold sz; omega
      have m3 : mag (mapU (digsN 20 (s + 2208988800))) = s + 2208988800 := mag_nv (by omega) (by unfold T320; omega)
      have m4 : mag (mapU (digsN 20 ((s + 2208988800) * 4294967296))) = (s + 2208988800) * 4294967296 := mag_nv (by omega) (by unfold T320; omega)
      have e2 : sz ((s + 2208988800) * 4294967296 + f) = (s + 2208988800) * 4294967296 + f := by unfold sz; omega
      have m5 : mag (mapU (digsN 20 ((s + 2208988800) * 4294967296 + f))) = (s + 2208988800) * 4294967296 + f := mag_nv (by omega) (by unfold T320; omega)
      have ec : clamp ((s + 2208988800) * 4294967296 + f) = unixV s f := clamp_of (by unfold InR; omega)
      simp only [wu32 kf, m1, m2, m3, m4, m5, e1, e2, ec, sv_f, ok_nv, ks, kU, Bool.and_self, bcase_t, decide_eq_true (show s + 2208988800 < 2135987035920910082395021706169552114602704522356652769947041607822219725780640550022962086936576 by omega),
        decide_eq_true (show (s + 2208988800) * 4294967296 < 2135987035920910082395021706169552114602704522356652769947041607822219725780640550022962086936576 by omega), decide_eq_true (show f < 32592575621351777380295131014550050576823494298654980010178247189670100796213387298934358016 by omega),
        decide_eq_true (show (s + 2208988800) * 4294967296 + f < 2135987035920910082395021706169552114602704522356652769947041607822219725780640550022962086936576 by omega)]
      exact (rfl : wv (unixV s f) = wv (unixV s f))
    · cases hr
def pcsG : List (PC Tryd.prog) := pcR2Parts :: pcR3Unix :: pcsF
def envH : Env Tryd.prog := envS.with false pcsG
end

end Go.Proofs.YtecmhjhjmhliiaaDoor


/-
  Read by wip/tools/vc.py, and what follows.
-/

namespace Go.Proofs.YtecmhjhjmhliiaaDoor

open Go.Den Go.RowKit
noncomputable section
set_option maxRecDepth 100000

theorem mag_in {A : Int} (h : InR A) : mag (mapU (digsN 20 (sz A))) = sz A ∧ sz A < 680564733841876926926749214863536422912 ∧ sz A < 32592575621351777380295131014550050576823494298654980010178247189670100796213387298934358016 := by
  unfold InR at h
  exact ⟨mag_sz (by omega) (by omega), by unfold sz; omega, by unfold sz; omega⟩
end

end Go.Proofs.YtecmhjhjmhliiaaDoor


/-
  Read by wip/tools/vc.py, and what follows.
-/

namespace Go.Proofs.YtecmhjhjmhliiaaDoor

open Go.Den Go.RowKit
noncomputable section
set_option maxRecDepth 100000

theorem r3back_vc (h l : Int) (Q : Value → Prop) (x1 : Int) (e_x1 : x1 = mag (mapU (digsN 20 (sz (W2 h l))))) (x2 : Int) (e_x2 : x2 = x1 + 9487534653230284800) (x3 : Int) (e_x3 : x3 = mag (mapU (digsN 20 (sz (sv (decide (W2 h l < 0)) x1 + -9487534653230284800))))) (x4 : Int) (e_x4 : x4 = sz (sv (addSg (decide (W2 h l < 0)) x1 true 9487534653230284800) x3 / 4294967296)) (x5 : Int) (e_x5 : x5 = x4 / 65536 / 65536 / 65536 / 65536) (x6 : Int) (e_x6 : x6 = x5 % 65536) (x7 : Int) (e_x7 : x7 = x5 / 65536) (x8 : Int) (e_x8 : x8 = x7 % 65536) (x9 : Int) (e_x9 : x9 = x7 / 65536) (x10 : Int) (e_x10 : x10 = x9 % 65536) (x11 : Int) (e_x11 : x11 = x9 / 65536) (x12 : Int) (e_x12 : x12 = x11 % 65536) (x13 : Int) (e_x13 : x13 = x11 / 65536) (x14 : Int) (e_x14 : x14 = x13 % 65536) (x15 : Int) (e_x15 : x15 = x13 / 65536) (x16 : Int) (e_x16 : x16 = x15 % 65536) (x17 : Int) (e_x17 : x17 = x15 / 65536) (x18 : Int) (e_x18 : x18 = x17 % 65536) (x19 : Int) (e_x19 : x19 = x17 / 65536) (x20 : Int) (e_x20 : x20 = x19 % 65536) (x21 : Int) (e_x21 : x21 = x19 / 65536) (x22 : Int) (e_x22 : x22 = x21 % 65536) (x23 : Int) (e_x23 : x23 = x21 / 65536) (x24 : Int) (e_x24 : x24 = x23 % 65536) (x25 : Int) (e_x25 : x25 = x23 / 65536) (x26 : Int) (e_x26 : x26 = x25 % 65536) (x27 : Int) (e_x27 : x27 = x25 / 65536) (x28 : Int) (e_x28 : x28 = x27 % 65536) (x29 : Int) (e_x29 : x29 = x27 / 65536) (x30 : Int) (e_x30 : x30 = x29 % 65536) (x31 : Int) (e_x31 : x31 = x29 / 65536) (x32 : Int) (e_x32 : x32 = x31 % 65536) (x33 : Int) (e_x33 : x33 = x31 / 65536) (x34 : Int) (e_x34 : x34 = x33 % 65536) (x35 : Int) (e_x35 : x35 = x33 / 65536 % 65536) (x36 : Int) (e_x36 : x36 = mag (mapU (digsN 20 x4))) : ((ev envH 200).call [] 34 #[.agg #[.int .i64 h, .int .u64 l]] [] B0).holds (fun r => Q r.v) = (bcase (okW h l)
  (bcase
    (okNum (mapU (digsN 20 (sz (W2 h l)))) &&
      decide (x2 < 2135987035920910082395021706169552114602704522356652769947041607822219725780640550022962086936576))
    (bcase
      (okNum (mapU (digsN 20 (sz (sv (decide (W2 h l < 0)) x1 + -9487534653230284800)))) &&
        decide (x3 < 680564733841876926926749214863536422912))
      (bcase (decide (x6 > 0))
        (Q (Value.tuple { toList := [Value.int IntKind.u64 0, Value.int IntKind.u32 0, Value.bool false] }))
        (bcase (decide (x8 > 0))
          (Q (Value.tuple { toList := [Value.int IntKind.u64 0, Value.int IntKind.u32 0, Value.bool false] }))
          (bcase (decide (x10 > 0))
            (Q (Value.tuple { toList := [Value.int IntKind.u64 0, Value.int IntKind.u32 0, Value.bool false] }))
            (bcase (decide (x12 > 0))
              (Q (Value.tuple { toList := [Value.int IntKind.u64 0, Value.int IntKind.u32 0, Value.bool false] }))
              (bcase (decide (x14 > 0))
                (Q (Value.tuple { toList := [Value.int IntKind.u64 0, Value.int IntKind.u32 0, Value.bool false] }))
                (bcase (decide (x16 > 0))
                  (Q (Value.tuple { toList := [Value.int IntKind.u64 0, Value.int IntKind.u32 0, Value.bool false] }))
                  (bcase (decide (x18 > 0))
                    (Q (Value.tuple { toList := [Value.int IntKind.u64 0, Value.int IntKind.u32 0, Value.bool false] }))
                    (bcase (decide (x20 > 0))
                      (Q
                        (Value.tuple
                          { toList := [Value.int IntKind.u64 0, Value.int IntKind.u32 0, Value.bool false] }))
                      (bcase (decide (x22 > 0))
                        (Q
                          (Value.tuple
                            { toList := [Value.int IntKind.u64 0, Value.int IntKind.u32 0, Value.bool false] }))
                        (bcase (decide (x24 > 0))
                          (Q
                            (Value.tuple
                              { toList := [Value.int IntKind.u64 0, Value.int IntKind.u32 0, Value.bool false] }))
                          (bcase (decide (x26 > 0))
                            (Q
                              (Value.tuple
                                { toList := [Value.int IntKind.u64 0, Value.int IntKind.u32 0, Value.bool false] }))
                            (bcase (decide (x28 > 0))
                              (Q
                                (Value.tuple
                                  { toList := [Value.int IntKind.u64 0, Value.int IntKind.u32 0, Value.bool false] }))
                              (bcase (decide (x30 > 0))
                                (Q
                                  (Value.tuple
                                    { toList := [Value.int IntKind.u64 0, Value.int IntKind.u32 0, Value.bool false] }))
                                (bcase (decide (x32 > 0))
                                  (Q
                                    (Value.tuple
                                      {
                                        toList :=
                                          [Value.int IntKind.u64 0, Value.int IntKind.u32 0, Value.bool false] }))
                                  (bcase (decide (x34 > 0))
                                    (Q
                                      (Value.tuple
                                        {
                                          toList :=
                                            [Value.int IntKind.u64 0, Value.int IntKind.u32 0, Value.bool false] }))
                                    (bcase (decide (x35 > 0))
                                      (Q
                                        (Value.tuple
                                          {
                                            toList :=
                                              [Value.int IntKind.u64 0, Value.int IntKind.u32 0, Value.bool false] }))
                                      (bcase (addSg (decide (W2 h l < 0)) x1 true 9487534653230284800)
                                        (bcase (okNum (mapU (digsN 20 x4)))
                                          (bcase (!x36 == 0)
                                            (Q
                                              (Value.tuple
                                                {
                                                  toList :=
                                                    [Value.int IntKind.u64 0, Value.int IntKind.u32 0,
                                                      Value.bool false] }))
                                            (bcase (okNum (mapU (digsN 20 x4)))
                                              (Q
                                                (Value.tuple
                                                  {
                                                    toList :=
                                                      [Value.int IntKind.u64
                                                          (lo
                                                            (clamp
                                                              (sv
                                                                (addSg (decide (W2 h l < 0)) x1 true
                                                                  9487534653230284800)
                                                                x36))),
                                                        Value.int IntKind.u32
                                                          (IntKind.wrap IntKind.u32 (Int.tmod l 4294967296)),
                                                        Value.bool true] }))
                                              False))
                                          False)
                                        (bcase (okNum (mapU (digsN 20 x4)))
                                          (Q
                                            (Value.tuple
                                              {
                                                toList :=
                                                  [Value.int IntKind.u64
                                                      (lo
                                                        (clamp
                                                          (sv (addSg (decide (W2 h l < 0)) x1 true 9487534653230284800)
                                                            x36))),
                                                    Value.int IntKind.u32
                                                      (IntKind.wrap IntKind.u32 (Int.tmod l 4294967296)),
                                                    Value.bool true] }))
                                          False))))))))))))))))))
      False)
    False)
  False) := by
  subst e_x36 e_x35 e_x34 e_x33 e_x32 e_x31 e_x30 e_x29 e_x28 e_x27 e_x26 e_x25 e_x24 e_x23 e_x22 e_x21 e_x20 e_x19 e_x18 e_x17 e_x16 e_x15 e_x14 e_x13 e_x12 e_x11 e_x10 e_x9 e_x8 e_x7 e_x6 e_x5 e_x4 e_x3 e_x2 e_x1
  kernel_rfl
theorem tupE {a b c d : Int} {p q : Bool} (h1 : a = b) (h2 : c = d) (h3 : p = q) : Value.tuple ⟨[.int .u64 a, .int .u32 c, .bool p]⟩ = .tuple ⟨[.int .u64 b, .int .u32 d, .bool q]⟩ := by rw [h1, h2, h3]
set_option maxHeartbeats 2000000 in
def pcR3Back : PC Tryd.prog where
  f := 34
  spec := ebackS
  body := by kernel_rfl
  ok := fun args r hr hok => by
    unfold ebackS at hr
    split at hr
    · rename_i h l
      cases hr
      have kw : okW h l = true := hok
      refine ⟨all_bel rfl, rfl, fun w => calls_spec envH hcokP 200 ?_ (all_bel rfl) rfl w⟩
      rw [r3back_vc h l (fun v => v = .tuple #[.int .u64 (bif ebOk (W2 h l) then (W2 h l - 9487534653230284800) / 4294967296 else 0), .int .u32 (bif ebOk (W2 h l) then (W2 h l - 9487534653230284800) % 4294967296 else 0), .bool (ebOk (W2 h l))]) _ rfl _ rfl _ rfl _ rfl _ rfl _ rfl _ rfl _ rfl _ rfl _ rfl _ rfl _ rfl _ rfl _ rfl _ rfl _ rfl _ rfl _ rfl _ rfl _ rfl _ rfl _ rfl _ rfl _ rfl _ rfl _ rfl _ rfl _ rfl _ rfl _ rfl _ rfl _ rfl _ rfl _ rfl _ rfl _ rfl ]
      have e2 : IntKind.u32.wrap (Int.tmod l 4294967296) = (W2 h l - 9487534653230284800) % 4294967296 := by
        have b := okW_iff.1 kw
        rw [Int.tmod_eq_emod_of_nonneg b.2.1, IntKind.wrap_u32]; unfold W2; omega
      have iA := (hi_W2 kw).2.2
      generalize W2 h l = A at *
      obtain ⟨m1, _, _⟩ := mag_in iA
      have iA' := iA
      unfold InR at iA'
      have m2 : mag (mapU (digsN 20 (sz (A - 9487534653230284800)))) = sz (A - 9487534653230284800) := mag_sz (by omega) (by omega)
      have sg := sv_addSg (sz_nn A) (show (0 : Int) ≤ 9487534653230284800 by omega) (decide (A < 0)) true
      rw [sv_sz, show A + sv true 9487534653230284800 = A - 9487534653230284800 from rfl] at sg
      have t1 : sz A + 9487534653230284800 < 2135987035920910082395021706169552114602704522356652769947041607822219725780640550022962086936576 := by unfold sz; omega
      have t2 : sz (A - 9487534653230284800) < 680564733841876926926749214863536422912 := by unfold sz; omega
      simp only [m1, sv_sz, m2, show A + -9487534653230284800 = A - 9487534653230284800 from rfl, sg]
      obtain ⟨D, hD⟩ : ∃ D, D = A - 9487534653230284800 := ⟨_, rfl⟩
      rw [← hD] at sg t2 e2 ⊢
      have m3 : mag (mapU (digsN 20 (sz (D / 4294967296)))) = sz (D / 4294967296) := mag_sz (by omega) (by omega)
      simp only [m3, e2, ok_nv, kw, Bool.and_self, bcase_t, decide_eq_true t1, decide_eq_true t2]
      generalize addSg (decide (A < 0)) (sz A) true 9487534653230284800 = g at *
      have hq : sz (D / 4294967296) ≤ 79228162514264337593543950336 := by unfold sz; omega
      have hq0 : 0 ≤ sz (D / 4294967296) := sz_nn _
      obtain ⟨y, hy⟩ : ∃ y, y = sz (D / 4294967296) / 65536 / 65536 / 65536 / 65536 := ⟨_, rfl⟩
      rw [← hy]
      cases hk : ebOk A
      · simp only [ebOk, Bool.and_eq_false_iff, decide_eq_false_iff_not] at hk
        simp only [cond_false]
        refine bcase_in (fun _ => True.intro) fun p1 => bcase_in (fun _ => True.intro) fun p2 => bcase_in (fun _ => True.intro) fun p3 => bcase_in (fun _ => True.intro) fun p4 => bcase_in (fun _ => True.intro) fun p5 => bcase_in (fun _ => True.intro) fun p6 => bcase_in (fun _ => True.intro) fun p7 => bcase_in (fun _ => True.intro) fun p8 => bcase_in (fun _ => True.intro) fun p9 => bcase_in (fun _ => True.intro) fun p10 => bcase_in (fun _ => True.intro) fun p11 => bcase_in (fun _ => True.intro) fun p12 => bcase_in (fun _ => True.intro) fun p13 => bcase_in (fun _ => True.intro) fun p14 => bcase_in (fun _ => True.intro) fun p15 => bcase_in (fun _ => True.intro) fun p16 => ?_
        have p1' := of_decide_eq_false p1
        have p2' := of_decide_eq_false p2
        have p3' := of_decide_eq_false p3
        have hy0 : y = 0 := by omega
        have hneg : D < 0 := by unfold sz at hy hq; omega
        clear p1 p2 p3 p4 p5 p6 p7 p8 p9 p10 p11 p12 p13 p14 p15 p16
        cases g
        · exfalso
          have : sz D = D := sg
          unfold sz at this; omega
        · rw [bcase_t]
          refine bcase_in (fun _ => True.intro) fun p => ?_
          exfalso
          have p' : sz (D / 4294967296) = 0 := by simpa using p
          unfold sz at p'; omega
      · simp only [ebOk, Bool.and_eq_true, decide_eq_true_eq] at hk
        have hd : 0 ≤ D ∧ D < 79228162514264337593543950336 := by omega
        have es : sz (D / 4294967296) = D / 4294967296 := by unfold sz; omega
        have hy0 : y = 0 := by rw [hy, es]; omega
        subst hy0
        simp only [Int.zero_emod, Int.zero_ediv, show decide ((0 : Int) > 0) = false from rfl, bcase_n, cond_true, es]
        cases g
        · refine tupE ?_ rfl rfl
          rw [sv_f, clamp_of (by unfold InR; omega)]; unfold lo; omega
        · have : -sz D = D := sg
          have hz : D = 0 := by unfold sz at this; omega
          subst hz
          rfl
    · cases hr
def pcsH : List (PC Tryd.prog) := pcR3Back :: pcsG
end

end Go.Proofs.YtecmhjhjmhliiaaDoor


/-
  The statements' own 'known' of layer 1, wide.Root as a contract, and what the statements of layer 1 are read by.
-/

namespace Go.Proofs.YtecmhjhjmhliiaaDoor

open Go.Den Go.RowKit
noncomputable section
open Classical in
/-- The integer root. -/
def rootI (n : Int) : Int := if h : ∃ r, IsRoot n r then h.choose else 0
def rootS : Array Value → Option (Bool × Value)
  | ⟨[.agg ⟨[.int .i64 h, .int .u64 l]⟩]⟩ => some (okW h l, .int .u64 (rootI (W2 h l)))
  | _ => none
def env1 : Env Tryd.prog := envS.with false ((pcsR ++ pcsW))
end

end Go.Proofs.YtecmhjhjmhliiaaDoor


/-
  What the statements against the document's answers are read by.
-/


namespace Go.Proofs.YtecmhjhjmhliiaaDoor

open Go.Den Go.RowKit
noncomputable section
def envL : Env Tryd.prog := envS.with false (pcMoment :: pcSplit :: pcFrac :: pcParts :: pcUnix :: pcEBack :: (pcsH ++ pcsW))
end

end Go.Proofs.YtecmhjhjmhliiaaDoor


/-
  The document's fraction: its code in pieces, its rounds.
-/

namespace Go.Proofs.YtecmhjhjmhliiaaDoor

open Go.Den Go.RowKit
noncomputable section
set_option maxRecDepth 100000

noncomputable def frC : Code := codeOf 37
noncomputable def frX : Code := cL (cR frC)
noncomputable def fr3 : Code := cL (cR (cR frC))
noncomputable def fr4 : Code := cL (cR (cR (cR frC)))
noncomputable def frY : Code := cL (cR (cR (cR (cR frC))))
noncomputable def frZ : Code := cR (cR (cR (cR (cR frC))))
noncomputable def frL : Code := cL (cR frY)
noncomputable def frB : Code := cL frL
/-- The bit that m rounds begin with. -/
noncomputable def bitOf (m : Nat) : Int := Nat.rec (motive := fun _ => Int) 0 (fun k _ => 2 ^ k) m
noncomputable def frH (W : Int) : AHeap := [(B0, ⟨⟨.bool false :: mapU (digsN 20 W)⟩, 92, none⟩)]
noncomputable def frT (m : Nat) (zs : List Value) (d f W : Int) : St := ⟨FT.ins [getZ zs 0, .int .u64 d, getZ zs 2, getZ zs 3, getZ zs 4, getZ zs 5, ptr B0, .int .u64 f, .int .u64 (bitOf m), getZ zs 9, getZ zs 10, getZ zs 11, getZ zs 12, getZ zs 13, getZ zs 14, getZ zs 15, getZ zs 16, getZ zs 17, getZ zs 18, getZ zs 19, getZ zs 20, getZ zs 21, getZ zs 22, getZ zs 23, getZ zs 24, getZ zs 25, getZ zs 26, getZ zs 27, getZ zs 28, getZ zs 29, getZ zs 30, getZ zs 31, getZ zs 32, getZ zs 33, getZ zs 34, getZ zs 35, getZ zs 36, getZ zs 37, getZ zs 38, getZ zs 39] 0 ⟨40, .nil⟩, frH W, B0 + 1⟩
noncomputable def frTree (k : Nat) (zs : List Value) (d f W : Int) : Tree (Exit × St) := (ev envG 100).code [] frB (frT (k + 1) zs d f W)
noncomputable def pick (p : List Bool) (t : Tree (Exit × St)) : Tree (Exit × St) := List.rec (motive := fun _ => Tree (Exit × St) → Tree (Exit × St)) (fun t => t) (fun b _ ih t => ih (Bool.casesOn (motive := fun _ => Tree (Exit × St)) b (brF' t) (brT t))) p t
noncomputable def frS0 (n d : Int) : St := ⟨Go.Den.start [.int .u64 n, .int .u64 d] Tryd.f37.ntmps, [], B0⟩
noncomputable def frS1 (n d : Int) : St := (outOf ((ev envG 100).code [] (cL frC) (frS0 n d))).2
noncomputable def frXT (n d : Int) : Tree (Exit × St) := (ev envG 100).code [] frX (frS1 n d)
noncomputable def lessOf (k : Nat) (f : Int) : Int := IntKind.wrap .u64 (f - 2 ^ k)
noncomputable def prodOf (k : Nat) (d f : Int) : Int := mag (mapU (digsN 20 (lessOf k f))) * mag (mapU (digsN 20 d))
def frG (k : Nat) : Prop := ∀ (zs : List Value) (d f W : Int), (frTree k zs d f W).run =
  bif okU (lessOf k f) then bif okU d then bif okNum (mapU (digsN 20 (lessOf k f))) && (okNum (mapU (digsN 20 d)) && decide (prodOf k d f < T320)) then
    bif okNum (mapU (digsN 20 (prodOf k d f))) && okNum (mapU (digsN 20 W)) then
      bif decide (cmpI (mag (mapU (digsN 20 (prodOf k d f)))) (mag (mapU (digsN 20 W))) ≥ 0) then some (.normal, frT k (tlOf (outOf (goT 24 (frTree k zs d f W))).2) d (lessOf k f) W)
      else some (.normal, frT k (tlOf (outOf (brF' (goT 23 (frTree k zs d f W)))).2) d f W)
    else none else none else none else none
theorem fr_0 : frG 0 := by
  intro zs d f W
  kernel_rfl
theorem fr_1 : frG 1 := by
  intro zs d f W
  kernel_rfl
theorem fr_2 : frG 2 := by
  intro zs d f W
  kernel_rfl
theorem fr_3 : frG 3 := by
  intro zs d f W
  kernel_rfl
theorem fr_4 : frG 4 := by
  intro zs d f W
  kernel_rfl
theorem fr_5 : frG 5 := by
  intro zs d f W
  kernel_rfl
theorem fr_6 : frG 6 := by
  intro zs d f W
  kernel_rfl
theorem fr_7 : frG 7 := by
  intro zs d f W
  kernel_rfl
theorem fr_8 : frG 8 := by
  intro zs d f W
  kernel_rfl
theorem fr_9 : frG 9 := by
  intro zs d f W
  kernel_rfl
theorem fr_10 : frG 10 := by
  intro zs d f W
  kernel_rfl
theorem fr_11 : frG 11 := by
  intro zs d f W
  kernel_rfl
theorem fr_12 : frG 12 := by
  intro zs d f W
  kernel_rfl
theorem fr_13 : frG 13 := by
  intro zs d f W
  kernel_rfl
theorem fr_14 : frG 14 := by
  intro zs d f W
  kernel_rfl
theorem fr_15 : frG 15 := by
  intro zs d f W
  kernel_rfl
theorem fr_16 : frG 16 := by
  intro zs d f W
  kernel_rfl
theorem fr_17 : frG 17 := by
  intro zs d f W
  kernel_rfl
theorem fr_18 : frG 18 := by
  intro zs d f W
  kernel_rfl
theorem fr_19 : frG 19 := by
  intro zs d f W
  kernel_rfl
theorem fr_20 : frG 20 := by
  intro zs d f W
  kernel_rfl
theorem fr_21 : frG 21 := by
  intro zs d f W
  kernel_rfl
theorem fr_22 : frG 22 := by
  intro zs d f W
  kernel_rfl
theorem fr_23 : frG 23 := by
  intro zs d f W
  kernel_rfl
theorem fr_24 : frG 24 := by
  intro zs d f W
  kernel_rfl
theorem fr_25 : frG 25 := by
  intro zs d f W
  kernel_rfl
theorem fr_26 : frG 26 := by
  intro zs d f W
  kernel_rfl
theorem fr_27 : frG 27 := by
  intro zs d f W
  kernel_rfl
theorem fr_28 : frG 28 := by
  intro zs d f W
  kernel_rfl
theorem fr_29 : frG 29 := by
  intro zs d f W
  kernel_rfl
theorem fr_30 : frG 30 := by
  intro zs d f W
  kernel_rfl
theorem fr_31 : frG 31 := by
  intro zs d f W
  kernel_rfl
end

end Go.Proofs.YtecmhjhjmhliiaaDoor


/-
  The document's fraction, put together of its rounds.
-/

namespace Go.Proofs.YtecmhjhjmhliiaaDoor

open Go.Den Go.RowKit
noncomputable section
set_option maxRecDepth 100000

theorem sat_ofG {c : Code} {st s : St} {x : Exit} (hok : cok c = true) (h : ((ev envG 100).code [] c st).run = some (x, s)) : SatCode Tryd.prog [] c st x s := sat_read envG hcokP 100 (r := (x, s)) hok h
theorem frB_ok : cok frB = true := by kernel_rfl
theorem frL_eq : frL = .loop frB := by kernel_rfl
theorem fr_all : ∀ k, k < 32 → frG k := fun k hk => by
  have h : k = 0 ∨ k = 1 ∨ k = 2 ∨ k = 3 ∨ k = 4 ∨ k = 5 ∨ k = 6 ∨ k = 7 ∨ k = 8 ∨ k = 9 ∨ k = 10 ∨ k = 11 ∨ k = 12 ∨ k = 13 ∨ k = 14 ∨ k = 15 ∨ k = 16 ∨ k = 17 ∨ k = 18 ∨ k = 19 ∨ k = 20 ∨ k = 21 ∨ k = 22 ∨ k = 23 ∨ k = 24 ∨ k = 25 ∨ k = 26 ∨ k = 27 ∨ k = 28 ∨ k = 29 ∨ k = 30 ∨ k = 31 := by omega
  rcases h with rfl | rfl | rfl | rfl | rfl | rfl | rfl | rfl | rfl | rfl | rfl | rfl | rfl | rfl | rfl | rfl | rfl | rfl | rfl | rfl | rfl | rfl | rfl | rfl | rfl | rfl | rfl | rfl | rfl | rfl | rfl | rfl
  · exact fr_0
  · exact fr_1
  · exact fr_2
  · exact fr_3
  · exact fr_4
  · exact fr_5
  · exact fr_6
  · exact fr_7
  · exact fr_8
  · exact fr_9
  · exact fr_10
  · exact fr_11
  · exact fr_12
  · exact fr_13
  · exact fr_14
  · exact fr_15
  · exact fr_16
  · exact fr_17
  · exact fr_18
  · exact fr_19
  · exact fr_20
  · exact fr_21
  · exact fr_22
  · exact fr_23
  · exact fr_24
  · exact fr_25
  · exact fr_26
  · exact fr_27
  · exact fr_28
  · exact fr_29
  · exact fr_30
  · exact fr_31
theorem fr_end (zs : List Value) (d f W : Int) : ((ev envG 100).code [] frB (frT 0 zs d f W)).run = some (.exit 0, frT 0 (tlOf (outOf ((ev envG 100).code [] frB (frT 0 zs d f W))).2) d f W) := by kernel_rfl
theorem fr_stop (zs : List Value) (d f W : Int) : ∃ z, SatCode Tryd.prog [] frB (frT 0 zs d f W) (.exit 0) (frT 0 z d f W) := ⟨_, sat_ofG frB_ok (fr_end zs d f W)⟩
theorem fr_of {k : Nat} {zs : List Value} {d f W : Int} {x : Exit} {s : St} (h : (frTree k zs d f W).run = some (x, s)) : SatCode Tryd.prog [] frB (frT (k + 1) zs d f W) x s := sat_ofG frB_ok h
theorem fr_round {k : Nat} (hk : k < 32) (zs : List Value) {d f W : Int} (g1 : okU (lessOf k f) = true) (g2 : okU d = true) (g3 : (okNum (mapU (digsN 20 (lessOf k f))) && (okNum (mapU (digsN 20 d)) && decide (prodOf k d f < T320))) = true)
    (g4 : (okNum (mapU (digsN 20 (prodOf k d f))) && okNum (mapU (digsN 20 W))) = true) {c : Bool} (hc : decide (cmpI (mag (mapU (digsN 20 (prodOf k d f)))) (mag (mapU (digsN 20 W))) ≥ 0) = c) :
    ∃ z, SatCode Tryd.prog [] frB (frT (k + 1) zs d f W) .normal (frT k z d (bif c then lessOf k f else f) W) := by
  have h := fr_all k hk zs d f W
  rw [g1, g2, g3, g4, hc] at h
  cases c
  · simp only [cond_true, cond_false] at h ⊢
    exact ⟨_, fr_of h⟩
  · simp only [cond_true] at h ⊢
    exact ⟨_, fr_of h⟩
/-- What holds where m bits are to be told. -/
structure FrTo (d W : Int) (m : Nat) (f : Int) : Prop where
  low : ∃ c, f + 1 = 2 ^ m * c
  bot : 2 ^ m ≤ f + 1
  top : f ≤ 4294967295
  le : f = 4294967295 ∨ W ≤ f * d
  lt : (f - 2 ^ m) * d < W
theorem cmp_ge (a b : Int) : decide (cmpI a b ≥ 0) = decide (b ≤ a) := by
  unfold cmpI; split
  · rename_i h; rw [decide_eq_decide]; omega
  · split
    · rw [decide_eq_decide]; omega
    · rw [decide_eq_decide]; omega
theorem prod_bdF {a b A B : Int} (h0 : 0 ≤ a) (h1 : a ≤ A) (k0 : 0 ≤ b) (k1 : b ≤ B) : 0 ≤ a * b ∧ a * b ≤ A * B :=
  ⟨Int.mul_nonneg h0 k0, Int.mul_le_mul h1 k1 k0 (by omega)⟩
theorem FrTo.step {d W f : Int} {k : Nat} (h : FrTo d W (k + 1) f) : (W ≤ (f - 2 ^ k) * d → FrTo d W k (f - 2 ^ k)) ∧ ((f - 2 ^ k) * d < W → FrTo d W k f) := by
  obtain ⟨⟨c, hc⟩, bot, top, le, lt⟩ := h
  have pp := p2_pos k
  rw [p2_s] at bot lt hc
  refine ⟨fun hle => ⟨⟨2 * c - 1, ?_⟩, by omega, by omega, .inr hle, ?_⟩, fun hlt => ⟨⟨2 * c, ?_⟩, by omega, top, le, hlt⟩⟩
  · rw [show f - 2 ^ k + 1 = f + 1 - 2 ^ k by omega, hc, Int.mul_sub, Int.mul_left_comm, Int.mul_assoc]; omega
  · rw [show f - 2 ^ k - 2 ^ k = f - 2 * 2 ^ k by omega]; exact lt
  · rw [hc, Int.mul_left_comm, Int.mul_assoc]
theorem fr_loop {d W : Int} (d0 : 0 ≤ d) (d1 : d ≤ 1099511627776) (w0 : 0 ≤ W) (w1 : W < T320) : ∀ (m : Nat), m ≤ 32 → ∀ (zs : List Value) (f : Int), FrTo d W m f → ∃ z f', SatCode Tryd.prog [] frL (frT m zs d f W) (.exit 0) (frT 0 z d f' W) ∧ FrTo d W 0 f'
  | 0, _, zs, f, h => by
    obtain ⟨z, hz⟩ := fr_stop zs d f W
    exact ⟨z, f, sat_loop_exit frL_eq hz, h⟩
  | k + 1, hk, zs, f, h => by
    have pp := p2_pos k
    have bot := h.bot; have top := h.top
    rw [p2_s] at bot
    have el : lessOf k f = f - 2 ^ k := by unfold lessOf; exact w64 (by omega) (by omega)
    have pb := prod_bdF (a := f - 2 ^ k) (b := d) (A := 4294967295) (B := 1099511627776) (by omega) (by omega) d0 d1
    have m1 : mag (mapU (digsN 20 (f - 2 ^ k))) = f - 2 ^ k := mag_nv (by omega) (by unfold T320; omega)
    have m2 : mag (mapU (digsN 20 d)) = d := mag_nv d0 (by unfold T320; omega)
    have ep : prodOf k d f = (f - 2 ^ k) * d := by unfold prodOf; rw [el, m1, m2]
    have t1 : (f - 2 ^ k) * d < T320 := by unfold T320; omega
    have m3 : mag (mapU (digsN 20 ((f - 2 ^ k) * d))) = (f - 2 ^ k) * d := mag_nv pb.1 t1
    have m4 : mag (mapU (digsN 20 W)) = W := mag_nv w0 w1
    have hc : decide (cmpI (mag (mapU (digsN 20 (prodOf k d f)))) (mag (mapU (digsN 20 W))) ≥ 0) = decide (W ≤ (f - 2 ^ k) * d) := by rw [ep, m3, m4, cmp_ge]
    obtain ⟨z, hz⟩ := fr_round (by omega) zs (by rw [el]; exact okU_iff.2 (by omega)) (okU_iff.2 (by omega)) (by rw [ep, ok_nv, ok_nv, decide_eq_true t1]; rfl) (by rw [ok_nv, ok_nv]; rfl) hc
    rw [el] at hz
    cases hd : decide (W ≤ (f - 2 ^ k) * d)
    · rw [hd] at hz
      obtain ⟨z2, f', hs, h2⟩ := fr_loop d0 d1 w0 w1 k (by omega) z f (h.step.2 (by have := of_decide_eq_false hd; omega))
      exact ⟨z2, f', sat_loop frL_eq hz hs, h2⟩
    · rw [hd] at hz
      obtain ⟨z2, f', hs, h2⟩ := fr_loop d0 d1 w0 w1 k (by omega) z (f - 2 ^ k) (h.step.1 (of_decide_eq_true hd))
      exact ⟨z2, f', sat_loop frL_eq hz hs, h2⟩
theorem fr_q1 : frC = .seq (cL frC) (cR frC) := by kernel_rfl
theorem fr_q2 : cR frC = .seq frX (cR (cR frC)) := by kernel_rfl
theorem fr_q3 : cR (cR frC) = .seq fr3 (cR (cR (cR frC))) := by kernel_rfl
theorem fr_q4 : cR (cR (cR frC)) = .seq fr4 (cR (cR (cR (cR frC)))) := by kernel_rfl
theorem fr_q5 : cR (cR (cR (cR frC))) = .seq frY frZ := by kernel_rfl
theorem fr_q6 : frY = .seq (cL frY) (cR frY) := by kernel_rfl
theorem fr_q7 : cR frY = .block 0 frL := by kernel_rfl
theorem fr_k1 : cok (cL frC) = true := by kernel_rfl
theorem fr_k2 : cok frX = true := by kernel_rfl
theorem fr_k3 : cok fr3 = true := by kernel_rfl
theorem fr_k4 : cok fr4 = true := by kernel_rfl
theorem fr_k5 : cok (cL frY) = true := by kernel_rfl
theorem fr_k6 : cok frZ = true := by kernel_rfl
theorem fr_p1 (n d : Int) : ((ev envG 100).code [] (cL frC) (frS0 n d)).run = some (.normal, frS1 n d) := by kernel_rfl
noncomputable def frXA (n d : Int) : St := (outOf (pick [true, true, false, true, true, true, true, true, true, true, true, true, true, true, true, true, true, true, true, false, true, false, true, true, true, true, true, true, true] (frXT n d))).2
noncomputable def frXB (n d : Int) : St := (outOf (pick [true, true, false, true, true, true, true, true, true, true, true, true, true, true, true, true, true, true, true, false, true, false, true, true, true, true, true, true, false] (frXT n d))).2
noncomputable def frXC (n d : Int) : St := (outOf (pick [true, true, false, true, true, true, true, true, true, true, true, true, false] (frXT n d))).2
noncomputable def frXD (n d : Int) : St := (outOf (pick [true, true, false, true, true, false] (frXT n d))).2
theorem fr_p2 (n d : Int) : (frXT n d).run = bif decide (d ≥ 1) then bif decide (d ≤ 1099511627776) then bif decide (n ≥ d) then some (.ret, frXA n d) else some (.normal, frXB n d) else some (.ret, frXC n d) else some (.ret, frXD n d) := by kernel_rfl
theorem fr_rA (n d : Int) : resultsA Tryd.prog [] Tryd.f37 (frXA n d).tmps (frXA n d).h = some (.tuple #[.int .u32 0, .bool false]) := by kernel_rfl
theorem fr_rC (n d : Int) : resultsA Tryd.prog [] Tryd.f37 (frXC n d).tmps (frXC n d).h = some (.tuple #[.int .u32 0, .bool false]) := by kernel_rfl
theorem fr_rD (n d : Int) : resultsA Tryd.prog [] Tryd.f37 (frXD n d).tmps (frXD n d).h = some (.tuple #[.int .u32 0, .bool false]) := by kernel_rfl
noncomputable def fr3T (n d : Int) : Tree (Exit × St) := (ev envG 100).code [] fr3 (frXB n d)
noncomputable def frS3 (n d : Int) : St := (outOf (pick [true, true, true, true] (fr3T n d))).2
noncomputable def wantOf (n : Int) : Int := mag (mapU (digsN 20 n)) * mag (mapU (digsN 20 4294967296))
theorem fr_p3 (n d : Int) : (fr3T n d).run = bif okU n then bif okNum (mapU (digsN 20 n)) && (okNum (mapU (digsN 20 4294967296)) && decide (wantOf n < T320)) then some (.normal, frS3 n d) else none else none := by kernel_rfl
noncomputable def frS4 (n d : Int) : St := (outOf ((ev envG 100).code [] fr4 (frS3 n d))).2
noncomputable def frS5 (n d : Int) : St := (outOf ((ev envG 100).code [] (cL frY) (frS4 n d))).2
theorem fr_p4 (n d : Int) : ((ev envG 100).code [] fr4 (frS3 n d)).run = some (.normal, frS4 n d) := by kernel_rfl
theorem fr_p5 (n d : Int) : ((ev envG 100).code [] (cL frY) (frS4 n d)).run = some (.normal, frS5 n d) := by kernel_rfl
theorem fr_a5 (n d : Int) : (frT 32 (tlOf (frS5 n d)) d 4294967295 (wantOf n)).tmps.arr = (frS5 n d).tmps.arr := by kernel_rfl
theorem fr_h5 (n d : Int) : (frT 32 (tlOf (frS5 n d)) d 4294967295 (wantOf n)).h = (frS5 n d).h := by kernel_rfl
theorem fr_n5 (n d : Int) : (frT 32 (tlOf (frS5 n d)) d 4294967295 (wantOf n)).nx = (frS5 n d).nx := by kernel_rfl
noncomputable def frS6 (z : List Value) (d f W : Int) : St := (outOf ((ev envG 100).code [] frZ (frT 0 z d f W))).2
theorem fr_p6 (z : List Value) (d f W : Int) : ((ev envG 100).code [] frZ (frT 0 z d f W)).run = some (.ret, frS6 z d f W) := by kernel_rfl
theorem fr_r6 (z : List Value) (d f W : Int) : resultsA Tryd.prog [] Tryd.f37 (frS6 z d f W).tmps (frS6 z d f W).h = some (.tuple #[.int .u32 (IntKind.wrap .u32 f), .bool true]) := by kernel_rfl
theorem fr_body : Tryd.f37.body = some frC := by kernel_rfl
theorem fr_start {x : Exit} {n d : Int} {s : St} (h : SatCode Tryd.prog [] (cR frC) (frS1 n d) x s) : SatCode Tryd.prog [] frC (frS0 n d) x s := sat_seq fr_q1 (sat_ofG fr_k1 (fr_p1 n d)) h
theorem fr_call {n d : Int} {s : St} {v : Value} (h : SatCode Tryd.prog [] frC (frS0 n d) .ret s) (hr : resultsA Tryd.prog [] Tryd.f37 s.tmps s.h = some v) (hv : bel B0 v = true) (w : World) :
    Calls Tryd.prog 37 #[.int .u64 n, .int .u64 d] w fun e w' => e = .returned v ∧ Below w.heap.size w w' := by
  have h' : SatCode Tryd.prog [] frC ⟨Go.Den.start (#[.int .u64 n, .int .u64 d] : Array Value).toList Tryd.f37.ntmps, [], B0⟩ .ret s := h
  exact calls_sat (sat_call Tryd.func37 fr_body (by kernel_rfl) h' (.inr rfl) hr) (all_bel rfl) hv w
theorem fr_no {n d : Int} {s : St} (hx : (frXT n d).run = some (.ret, s)) (hr : resultsA Tryd.prog [] Tryd.f37 s.tmps s.h = some (.tuple #[.int .u32 0, .bool false])) (w : World) :
    Calls Tryd.prog 37 #[.int .u64 n, .int .u64 d] w fun e w' => e = .returned (.tuple #[.int .u32 0, .bool false]) ∧ Below w.heap.size w w' :=
  fr_call (fr_start (sat_seq_ret fr_q2 (sat_ofG fr_k2 hx))) hr rfl w
theorem fr_yes {n d f : Int} {z : List Value} (hx : (frXT n d).run = some (.normal, frXB n d)) (h3 : (fr3T n d).run = some (.normal, frS3 n d))
    (h : SatCode Tryd.prog [] frL (frT 32 (tlOf (frS5 n d)) d 4294967295 (wantOf n)) (.exit 0) (frT 0 z d f (wantOf n))) (w : World) :
    Calls Tryd.prog 37 #[.int .u64 n, .int .u64 d] w fun e w' => e = .returned (.tuple #[.int .u32 (IntKind.wrap .u32 f), .bool true]) ∧ Below w.heap.size w w' := by
  have h1 := sat_arr (fr_a5 n d) (fr_h5 n d) (fr_n5 n d) (sat_block fr_q7 h)
  have h2 := sat_seq fr_q6 (sat_ofG fr_k5 (fr_p5 n d)) h1
  have h4 := sat_seq fr_q5 h2 (sat_ofG fr_k6 (fr_p6 z d f (wantOf n)))
  have h5 := sat_seq fr_q4 (sat_ofG fr_k4 (fr_p4 n d)) h4
  have h6 := sat_seq fr_q3 (sat_ofG fr_k3 h3) h5
  exact fr_call (fr_start (sat_seq fr_q2 (sat_ofG fr_k2 hx) h6)) (fr_r6 z d f (wantOf n)) rfl w
theorem cle {c k d P : Int} (hd : 0 < d) (h : (c - 1) * d < P) (h2 : P ≤ k * d) : c ≤ k := by
  have : (c - 1) * d < k * d := Int.lt_of_lt_of_le h h2
  have := Int.lt_of_mul_lt_mul_right this (by omega)
  omega
theorem fracC_prop (n d : Int) (hd : 0 < d) : n * 4294967296 ≤ fracC n d * d ∧ (fracC n d - 1) * d < n * 4294967296 := by
  have h1 := Int.emod_add_mul_ediv (n * 4294967296) d
  have h2 := Int.emod_nonneg (n * 4294967296) (show d ≠ 0 by omega)
  have h3 := Int.emod_lt_of_pos (n * 4294967296) hd
  have h4 : d * (n * 4294967296 / d) = n * 4294967296 / d * d := Int.mul_comm _ _
  unfold fracC
  generalize n * 4294967296 / d = q at *
  split
  · rw [Int.add_zero, Int.sub_mul]; omega
  · rw [show q + 1 - 1 = q by omega, Int.add_mul]; omega
theorem fr_is {n d f : Int} (hd : 0 < d) (hd2 : d ≤ 1099511627776) (hn : n < d) (h : FrTo d (n * 4294967296) 0 f) : fracV n d = f ∧ fracOk n d = true ∧ 0 ≤ f := by
  have hok : fracOk n d = true := by simp [fracOk]; omega
  obtain ⟨_, bot, top, le, lt⟩ := h
  rw [Int.pow_zero] at bot lt
  obtain ⟨p1, p2⟩ := fracC_prop n d hd
  refine ⟨?_, hok, by omega⟩
  simp only [fracV, hok, cond_true]
  have h1 : f ≤ fracC n d := cle hd lt p1
  rcases le with e | le
  · rw [e] at h1 ⊢
    split
    · rfl
    · omega
  · have h2 : fracC n d ≤ f := cle hd p2 le
    rw [if_neg (by omega)]; omega
def pcR2Frac : PC Tryd.prog where
  f := 37
  spec := fracS
  body := by kernel_rfl
  ok := fun args r hr hok => by
    unfold fracS at hr
    split at hr
    · rename_i n d
      cases hr
      rw [Bool.and_eq_true] at hok
      obtain ⟨kn, kd⟩ := hok
      have bn := okU_iff.1 kn
      have bd := okU_iff.1 kd
      refine ⟨all_bel rfl, rfl, fun w => ?_⟩
      have no : fracOk n d = false → Value.tuple #[.int .u32 0, .bool false] = .tuple #[.int .u32 (fracV n d), .bool (fracOk n d)] := fun h => by simp only [fracV, h, cond_false]
      have hp := fr_p2 n d
      by_cases h1 : d ≥ 1
      · rw [decide_eq_true h1, cond_true] at hp
        by_cases h2 : d ≤ 1099511627776
        · rw [decide_eq_true h2, cond_true] at hp
          by_cases h3 : n ≥ d
          · rw [decide_eq_true h3, cond_true] at hp
            have e := no (by simp [fracOk]; omega)
            refine (fr_no hp (fr_rA n d) w).mono ?_
            rintro x w' ⟨rfl, hB⟩
            exact ⟨congrArg Ending.returned e, hB⟩
          · rw [decide_eq_false h3, cond_false] at hp
            have m1 : mag (mapU (digsN 20 n)) = n := mag_nv bn.1 (by unfold T320; omega)
            have m2 : mag (mapU (digsN 20 4294967296)) = 4294967296 := mag_nv (by omega) (by unfold T320; omega)
            have eW : wantOf n = n * 4294967296 := by unfold wantOf; rw [m1, m2]
            have h3' := fr_p3 n d
            rw [kn, ok_nv, ok_nv, decide_eq_true (show wantOf n < T320 by rw [eW]; unfold T320; omega)] at h3'
            simp only [Bool.and_self, cond_true] at h3'
            have st : FrTo d (wantOf n) 32 4294967295 := by
              rw [eW]
              refine ⟨⟨1, rfl⟩, by decide, by omega, .inl rfl, ?_⟩
              have e : (4294967295 - 2 ^ 32 : Int) = -1 := by rfl
              rw [e]; omega
            obtain ⟨z, f, hs, hf⟩ := fr_loop (by omega) h2 (by rw [eW]; omega) (by rw [eW]; unfold T320; omega) 32 (by omega) (tlOf (frS5 n d)) 4294967295 st
            rw [eW] at hf
            obtain ⟨e1, e2, e3⟩ := fr_is (by omega) h2 (by omega) hf
            refine (fr_yes hp h3' hs w).mono ?_
            rintro x w' ⟨rfl, hB⟩
            refine ⟨?_, hB⟩
            rw [e1, e2, show IntKind.wrap .u32 f = f by rw [IntKind.wrap_u32]; have := hf.top; omega]
        · rw [decide_eq_false h2, cond_false] at hp
          have e := no (by simp [fracOk]; omega)
          refine (fr_no hp (fr_rC n d) w).mono ?_
          rintro x w' ⟨rfl, hB⟩
          exact ⟨congrArg Ending.returned e, hB⟩
      · rw [decide_eq_false h1, cond_false] at hp
        have e := no (by simp [fracOk]; omega)
        refine (fr_no hp (fr_rD n d) w).mono ?_
        rintro x w' ⟨rfl, hB⟩
        exact ⟨congrArg Ending.returned e, hB⟩
    · cases hr
def envQ : Env Tryd.prog := envS.with false (pcFrac :: pcParts :: pcR2Frac :: pcR2Parts :: [])
end

end Go.Proofs.YtecmhjhjmhliiaaDoor


/-
  Pcap: bytes.Equal, bytes.HasPrefix; the contracts of fix and era as calls.
-/


namespace Go.Proofs.YtecmhjhjmhliiaaDoor

open Go.RowKit Go.Lib

set_option maxRecDepth 100000

theorem beq_dec (l m : List UInt8) : (l == m) = decide (l = m) := by
  rw [Bool.eq_iff_iff]; simp
theorem equal_any (A B : Option Addr) (l m : List UInt8) (c d : Nat) (w : World) (hl : Rd w A l) (hm : Rd w B m) :
    Calls Tryd.prog 64 #[.slice A l.length c, .slice B m.length d] w fun e w' => e = .returned (.bool (decide (l = m))) ∧ w = w' := by
  have h1 := conv_rd hl c
  have h2 := conv_rd hm d
  rw [← beq_dec]
  generalize l.length = n1 at *
  generalize m.length = n2 at *
  go_enter Tryd.func64, Tryd.ntmps64
  go_wp2
  go_ret
  exact ⟨rfl, rfl⟩
theorem upto_cut (A : Option Addr) (l : List UInt8) (cap E : Nat) (hE : E ≤ l.length) (hc : l.length ≤ cap) : ∃ A0, (∀ w : World, (Instr.slice 22 (.slice A l.length cap) none (some (.int .i64 E)) none).run Tryd.prog w = .ok (.slice A0 E cap) w) ∧ ∀ w', Rd w' A l → Rd w' A0 (l.take E) := by
  have hel : Tryd.prog.elem 22 = 5 := by kernel_rfl
  have hz : ∀ w : World, (sizeOf 5).run Tryd.prog w = .ok 1 w := fun w => by
    obtain ⟨i0, hi, _, hz1, _⟩ := info_parts info_u8b
    simp [sizeOf, typeInfo, Sem.run_bind, hi, hz1]
  refine ⟨if cap = 0 then A else A.map (·.add 0), fun w => ?_, fun w' hr hl => ?_⟩
  · rw [run_slice_h (w := w) (t := 22) (ht := by rw [hel]; exact Tryd.underlying22) (kh := .i64) (h := (E : Int)) (h0 := by omega) (h2 := by omega), hel, hz]
    simp only [Result.andThen, sliced]
    rw [Int.toNat_natCast, Nat.zero_mul, Nat.sub_zero, Nat.sub_zero]
  · have hl0 : l ≠ [] := by rintro rfl; simp at hl
    obtain ⟨b, o, rfl, hcc⟩ := hr hl0
    have hc0 : cap ≠ 0 := by rintro rfl; exact hl0 (List.eq_nil_of_length_eq_zero (by omega))
    refine ⟨b, o, by rw [if_neg hc0]; exact congrArg some (plain_add _ _ _), fun j x hx => ?_⟩
    rw [List.getElem?_take] at hx
    split at hx
    · exact hcc j x hx
    · cases hx
theorem prefix_any (A B : Option Addr) (l m : List UInt8) (c d : Nat) (hc : l.length ≤ c) (w : World) (hl : Rd w A l) (hm : Rd w B m) :
    Calls Tryd.prog 41 #[.slice A l.length c, .slice B m.length d] w fun e w' => e = .returned (.bool (decide (l.take m.length = m))) ∧ w = w' := by
  by_cases h : m.length ≤ l.length
  · obtain ⟨A0, hrun, hrd⟩ := upto_cut A l c m.length h hc
    have HE := Lib.hid (equal_any A0 B (l.take m.length) m c d w (hrd w hl) hm)
    rw [show (l.take m.length).length = m.length by rw [List.length_take]; omega] at HE
    generalize decide (l.take m.length = m) = r at *
    generalize l.length = n1 at *
    generalize m.length = n2 at *
    clear hrd hl hm
    go_enter Tryd.func41, Tryd.ntmps41
    go_wp2_with (go_at_call 64; refine HE.out.mono ?_; rintro e w' ⟨rfl, rfl⟩)
    go_ret
    exact ⟨rfl, rfl⟩
  · have hf : decide (l.take m.length = m) = false := by
      rw [decide_eq_false_iff_not]; intro e
      have := congrArg List.length e
      rw [List.length_take] at this; omega
    rw [hf]
    generalize l.length = n1 at *
    generalize m.length = n2 at *
    go_enter Tryd.func41, Tryd.ntmps41
    go_wp2
    go_ret
    exact ⟨rfl, rfl⟩
/-- The contracts of fix and era. -/
theorem frac_any (n d : Int) (hn : okU n = true) (hd : okU d = true) (w : World) :
    Calls Tryd.prog 36 #[.int .u64 n, .int .u64 d] w fun e w' => e = .returned (.tuple #[.int .u32 (fracV n d), .bool (fracOk n d)]) ∧ Below w.heap.size w w' :=
  (pcFrac.ok #[.int .u64 n, .int .u64 d] (okU n && okU d, _) rfl (by rw [hn, hd]; rfl)).2.2 w
theorem refFrac_any (n d : Int) (hn : okU n = true) (hd : okU d = true) (w : World) :
    Calls Tryd.prog 37 #[.int .u64 n, .int .u64 d] w fun e w' => e = .returned (.tuple #[.int .u32 (fracV n d), .bool (fracOk n d)]) ∧ Below w.heap.size w w' :=
  (pcR2Frac.ok #[.int .u64 n, .int .u64 d] (okU n && okU d, _) rfl (by rw [hn, hd]; rfl)).2.2 w
theorem parts_any (f d : Int) (hf : okU32 f = true) (hd : okU d = true) (w : World) :
    Calls Tryd.prog 33 #[.int .u32 f, .int .u64 d] w fun e w' => e = .returned (.tuple #[.int .u64 (partV f d), .bool (partOk d)]) ∧ Below w.heap.size w w' :=
  (pcParts.ok #[.int .u32 f, .int .u64 d] (okU32 f && okU d, _) rfl (by rw [hf, hd]; rfl)).2.2 w
theorem refParts_any (f d : Int) (hf : okU32 f = true) (hd : okU d = true) (w : World) :
    Calls Tryd.prog 35 #[.int .u32 f, .int .u64 d] w fun e w' => e = .returned (.tuple #[.int .u64 (partV f d), .bool (partOk d)]) ∧ Below w.heap.size w w' :=
  (pcR2Parts.ok #[.int .u32 f, .int .u64 d] (okU32 f && okU d, _) rfl (by rw [hf, hd]; rfl)).2.2 w
theorem unix_any (s f : Int) (hs : okU s = true) (hf : okU32 f = true) (w : World) :
    Calls Tryd.prog 23 #[.int .u64 s, .int .u32 f] w fun e w' => e = .returned (wv (unixV s f)) ∧ Below w.heap.size w w' :=
  (pcUnix.ok #[.int .u64 s, .int .u32 f] (okU s && okU32 f, _) rfl (by rw [hs, hf]; rfl)).2.2 w
theorem refUnix_any (s f : Int) (hs : okU s = true) (hf : okU32 f = true) (w : World) :
    Calls Tryd.prog 38 #[.int .u64 s, .int .u32 f] w fun e w' => e = .returned (wv (unixV s f)) ∧ Below w.heap.size w w' :=
  (pcR3Unix.ok #[.int .u64 s, .int .u32 f] (okU s && okU32 f, _) rfl (by rw [hs, hf]; rfl)).2.2 w
/-- What Back tells. -/
def backV (n : Int) : Value := .tuple #[.int .u64 (bif ebOk n then (n - 9487534653230284800) / 4294967296 else 0), .int .u32 (bif ebOk n then (n - 9487534653230284800) % 4294967296 else 0), .bool (ebOk n)]
theorem back_any (n : Int) (hn : InR n) (w : World) :
    Calls Tryd.prog 32 #[wv n] w fun e w' => e = .returned (backV n) ∧ Below w.heap.size w w' := by
  have h := (pcEBack.ok #[.agg #[.int .i64 (hi n), .int .u64 (lo n)]] (okW (hi n) (lo n), _) rfl (okW_hilo hn)).2.2 w
  simp only [W2_hilo] at h
  exact h
theorem refBack_any (n : Int) (hn : InR n) (w : World) :
    Calls Tryd.prog 34 #[wv n] w fun e w' => e = .returned (backV n) ∧ Below w.heap.size w w' := by
  have h := (pcR3Back.ok #[.agg #[.int .i64 (hi n), .int .u64 (lo n)]] (okW (hi n) (lo n), _) rfl (okW_hilo hn)).2.2 w
  simp only [W2_hilo] at h
  exact h
end Go.Proofs.YtecmhjhjmhliiaaDoor


/-
  Pcap: At and When; the document's.
-/

namespace Go.Proofs.YtecmhjhjmhliiaaDoor

open Go.RowKit Go.Lib

set_option maxRecDepth 100000

abbrev headV (s p c l : Nat) : Value := .agg #[.int .u32 (s : Int), .int .u32 (p : Int), .int .u32 (c : Int), .int .u32 (l : Int)]
def unitsN (nan : Bool) (p : Int) : Int := bif fracOk p (den nan) then fracV p (den nan) else 4294967295
def atN (nan : Bool) (s p : Int) : Int := unixV s (unitsN nan p)
theorem fracV_in {n d : Int} (h : 0 ≤ n) : 0 ≤ fracV n d ∧ fracV n d ≤ 4294967295 := by
  unfold fracV
  cases hk : fracOk n d
  · exact ⟨by simp, by simp⟩
  · simp only [cond_true]
    have h0 : 0 ≤ fracC n d := by
      unfold fracOk at hk
      simp only [Bool.and_eq_true, decide_eq_true_eq] at hk
      have := Int.ediv_nonneg (show 0 ≤ n * 4294967296 by omega) (show 0 ≤ d by omega)
      unfold fracC; split <;> omega
    split <;> omega
theorem den_U (nan : Bool) : okU (den nan) = true := by cases nan <;> decide
theorem nat_U {s : Nat} (h : s ≤ 4294967295) : okU (s : Int) = true := by rw [okU_iff]; omega
theorem drewB {W w : World} (h : Below W.heap.size W w) : Below W.heap.size W w.drew := h.trans ⟨rfl, rfl, rfl, Nat.le_refl _, fun _ _ => rfl⟩
theorem keepA2 {w w1 : World} {o o2 : Obj} (h1 : Below ((w.alloc o).alloc o2).heap.size ((w.alloc o).alloc o2) w1) : Below w.heap.size w w1 :=
  (((Below.refl _ w).alloc (Nat.le_refl _) o).alloc (by simp) o2).trans (h1.mono (by simp; omega))
set_option maxHeartbeats 4000000 in
theorem at_any (lit nan : Bool) (link snap s p c l : Nat) (hs : s ≤ 4294967295) (hp : p ≤ 4294967295) (w : World) :
    Calls Tryd.prog 20 #[fileV lit nan link snap, headV s p c l] w fun e w' => e = .returned (wv (atN nan s p)) ∧ Below w.heap.size w w' := by
  have HD := Lib.hid (fun w => den_any lit nan link snap w)
  have HF := Lib.hid (fun w => frac_any p (den nan) (nat_U hp) (den_U nan) w)
  obtain ⟨f, hf⟩ : ∃ f, fracV p (den nan) = f := ⟨_, rfl⟩
  obtain ⟨k, hk⟩ : ∃ k, fracOk p (den nan) = k := ⟨_, rfl⟩
  have hfi : 0 ≤ f ∧ f ≤ 4294967295 := by rw [← hf]; exact fracV_in (by omega)
  have hat : atN nan s p = unixV s (bif k then f else 4294967295) := by unfold atN unitsN; rw [hf, hk]
  rw [hat, ]
  rw [hf, hk] at HF
  obtain ⟨V, hV⟩ : ∃ V, unixV s (bif k then f else 4294967295) = V := ⟨_, rfl⟩
  have hu32 : okU32 (bif k then f else 4294967295) = true := by cases k <;> simp [okU32_iff]; omega
  have HU := Lib.hid (show ∀ w, Calls Tryd.prog 23 #[.int .u64 (s : Int), .int .u32 (bif k then f else 4294967295)] w fun e w' => e = .returned (.agg #[.int .i64 (hi V), .int .u64 (lo V)]) ∧ Below w.heap.size w w' from fun w => by rw [← hV]; exact unix_any s _ (nat_U hs) hu32 w)
  rw [hV]
  show Calls _ _ _ _ fun e w' => e = .returned (.agg #[.int .i64 (hi V), .int .u64 (lo V)]) ∧ Below w.heap.size w w'
  have HSI := Lib.hid hs
  have hpI : (p : Int) ≤ 4294967295 := by omega
  have hsI : (s : Int) ≤ 4294967295 := by omega
  have hwp : IntKind.u64.wrap (p : Int) = (p : Int) := by rw [IntKind.wrap_u64]; omega
  clear hf hk hfi hat hs hp hV hu32
  generalize hi V = V1 at *
  generalize lo V = V2 at *
  generalize den nan = D at *
  go_enter Tryd.func20, Tryd.ntmps20
  go_wp2
  refine wp_region_held_drew (S := (fun w' => Blk w' w.heap.size #[.bool lit, .bool nan, .int .u16 (link : Int), .int .u32 (snap : Int)] 26 ∧ Blk w' (w.heap.size + 1) #[.int .u32 (s : Int), .int .u32 (p : Int), .int .u32 (c : Int), .int .u32 (l : Int)] 43 ∧ Blk w' (w.heap.size + 1 + 1) #[.int .i64 0, .int .u64 0] 52 ∧ Below w.heap.size w w')) (by kernel_rfl) ?_ (fun hHeld => ?_)
  · exact ⟨(((Blk.new rfl).old _).old _).drew, ((Blk.new (by simp)).old _).drew, (Blk.new (by simp)).drew, drewB (((((Below.refl _ w).alloc (Nat.le_refl _) _).alloc (by simp) _).alloc (by simp; omega) _))⟩
  refine H.take 0 (v := ?_) rfl (by kernel_rfl) (fun _ _ _ h => h) (by rfl) ?_ (by assumption) ?_
  rotate_left
  · (intro wz hSw; (try dsimp only at hSw); have q1 := hSw.1.four; have q2 := hSw.2.1.four;go_simp <;> with_reducible rfl)
  try simp only [Act.put, List.setIfInBounds_toArray, List.set_cons_zero, List.set_cons_succ]
  refine H.take 1 (v := ?_) rfl (by kernel_rfl) (fun _ _ _ h => h) (by rfl) ?_ (by assumption) ?_
  rotate_left
  · (intro wz hSw; (try dsimp only at hSw); have q1 := hSw.1.four; have q2 := hSw.2.1.four;go_simp <;> with_reducible rfl)
  try simp only [Act.put, List.setIfInBounds_toArray, List.set_cons_zero, List.set_cons_succ]
  refine H.take 2 (v := ?_) rfl (by kernel_rfl) (fun _ _ _ h => h) (by rfl) ?_ (by assumption) ?_
  rotate_left
  · (intro wz hSw; (try dsimp only at hSw); have q1 := hSw.1.four; have q2 := hSw.2.1.four;go_simp <;> with_reducible rfl)
  try simp only [Act.put, List.setIfInBounds_toArray, List.set_cons_zero, List.set_cons_succ]
  refine H.take 3 (v := ?_) rfl (by kernel_rfl) (fun _ _ _ h => h) (by rfl) ?_ (by assumption) ?_
  rotate_left
  · (intro wz hSw; (try dsimp only at hSw); have q1 := hSw.1.four; have q2 := hSw.2.1.four;go_simp <;> with_reducible rfl)
  try simp only [Act.put, List.setIfInBounds_toArray, List.set_cons_zero, List.set_cons_succ]
  refine H.ready [4] (by kernel_rfl) (by simp) ?_
  refine H.one rfl (by rfl) (fun K hK => ?_) AllReadyH.nil
  go_simp
  go_at_call 12
  refine (HD.out _).mono ?_
  rintro e w1 ⟨rfl, hb⟩
  refine hK.out _ _ ?_ (fun hHeld2 => ?_)
  · exact ⟨Blk.keep hb hHeld.1, Blk.keep hb hHeld.2.1, Blk.keep hb hHeld.2.2.1, hHeld.2.2.2.trans (hb.mono hHeld.2.2.2.size)⟩
  clear hHeld hK K; have hHeld := hHeld2; clear hHeld2
  try simp only [Act.put, List.setIfInBounds_toArray, List.set_cons_zero, List.set_cons_succ]
  refine H.ready [5] (by kernel_rfl) (by simp) ?_
  refine H.one rfl (by rfl) (fun K hK => ?_) AllReadyH.nil
  go_simp
  go_at_call 36
  refine (HF.out _).mono ?_
  rintro e w1 ⟨rfl, hb⟩
  refine hK.out _ _ ?_ (fun hHeld2 => ?_)
  · exact ⟨Blk.keep hb hHeld.1, Blk.keep hb hHeld.2.1, Blk.keep hb hHeld.2.2.1, hHeld.2.2.2.trans (hb.mono hHeld.2.2.2.size)⟩
  clear hHeld hK K; have hHeld := hHeld2; clear hHeld2
  try simp only [Act.put, List.setIfInBounds_toArray, List.set_cons_zero, List.set_cons_succ]
  refine H.take 6 (v := ?_) rfl (by kernel_rfl) (fun _ _ _ h => h) (by rfl) ?_ (by assumption) ?_
  rotate_left
  · (intro wz hSw; (try dsimp only at hSw); have q1 := hSw.1.four; have q2 := hSw.2.1.four;go_simp <;> with_reducible rfl)
  try simp only [Act.put, List.setIfInBounds_toArray, List.set_cons_zero, List.set_cons_succ]
  refine H.take 7 (v := ?_) rfl (by kernel_rfl) (fun _ _ _ h => h) (by rfl) ?_ (by assumption) ?_
  rotate_left
  · (intro wz hSw; (try dsimp only at hSw); have q1 := hSw.1.four; have q2 := hSw.2.1.four;go_simp <;> with_reducible rfl)
  try simp only [Act.put, List.setIfInBounds_toArray, List.set_cons_zero, List.set_cons_succ]
  refine H.take 8 (v := ?_) rfl (by kernel_rfl) (fun _ _ _ h => h) (by rfl) ?_ (by assumption) ?_
  rotate_left
  · (intro wz hSw; (try dsimp only at hSw); have q1 := hSw.1.four; have q2 := hSw.2.1.four;go_simp <;> with_reducible rfl)
  try simp only [Act.put, List.setIfInBounds_toArray, List.set_cons_zero, List.set_cons_succ]
  refine H.take 9 (v := ?_) rfl (by kernel_rfl) (fun _ _ _ h => h) (by rfl) ?_ (by assumption) ?_
  rotate_left
  · (intro wz hSw; (try dsimp only at hSw); have q1 := hSw.1.four; have q2 := hSw.2.1.four;go_simp <;> with_reducible rfl)
  try simp only [Act.put, List.setIfInBounds_toArray, List.set_cons_zero, List.set_cons_succ]
  refine H.take 10 (v := ?_) rfl (by kernel_rfl) (fun _ _ _ h => h) (by rfl) ?_ (by assumption) ?_
  rotate_left
  · (intro wz hSw; (try dsimp only at hSw); have q1 := hSw.1.four; have q2 := hSw.2.1.four;go_simp <;> with_reducible rfl)
  try simp only [Act.put, List.setIfInBounds_toArray, List.set_cons_zero, List.set_cons_succ]
  refine H.done (by kernel_rfl) ?_ _
  rename_i w1 _
  have q2 := hHeld.2.1.four
  have HH := Lib.hid hHeld
  clear hHeld
  cases k
  · simp only [cond_false] at HU
    go_wp2_with (go_at_call 23; refine (HU.out _).mono ?_; rintro e w2 ⟨rfl, hb2⟩; have g3 := Blk.keep hb2 HH.out.2.2.1; have hc3 := g3.two; have hf3 := g3.free0; have HB2 := Lib.hid (HH.out.2.2.2.trans (hb2.mono HH.out.2.2.2.size)); clear hb2)
    apply post_row1 Tryd.results20 Tryd.underlying52 rfl (w.heap.size + 1 + 1) 52
    case hg =>
      repeat (first | with_reducible exact g3 | apply Blk.put)
    case h =>
      refine And.intro (by kernel_rfl) ?_
      repeat (first | with_reducible exact HB2.out | with_reducible refine Below.at ?_ (by omega))
    all_goals kernel_rfl
  · simp only [cond_true] at HU
    go_wp2_with (go_at_call 23; refine (HU.out _).mono ?_; rintro e w2 ⟨rfl, hb2⟩; have g3 := Blk.keep hb2 HH.out.2.2.1; have hc3 := g3.two; have hf3 := g3.free0; have HB2 := Lib.hid (HH.out.2.2.2.trans (hb2.mono HH.out.2.2.2.size)); clear hb2)
    apply post_row1 Tryd.results20 Tryd.underlying52 rfl (w.heap.size + 1 + 1) 52
    case hg =>
      repeat (first | with_reducible exact g3 | apply Blk.put)
    case h =>
      refine And.intro (by kernel_rfl) ?_
      repeat (first | with_reducible exact HB2.out | with_reducible refine Below.at ?_ (by omega))
    all_goals kernel_rfl
set_option maxHeartbeats 4000000 in
theorem refAt_any (nan : Bool) (s p : Nat) (hs : s ≤ 4294967295) (hp : p ≤ 4294967295) (w : World) :
    Calls Tryd.prog 21 #[.bool nan, .int .u32 (s : Int), .int .u32 (p : Int)] w fun e w' => e = .returned (wv (atN nan s p)) ∧ Below w.heap.size w w' := by
  have HD := Lib.hid (fun w => refDen_any nan w)
  have HF := Lib.hid (fun w => refFrac_any p (den nan) (nat_U hp) (den_U nan) w)
  obtain ⟨f, hf⟩ : ∃ f, fracV p (den nan) = f := ⟨_, rfl⟩
  obtain ⟨k, hk⟩ : ∃ k, fracOk p (den nan) = k := ⟨_, rfl⟩
  have hfi : 0 ≤ f ∧ f ≤ 4294967295 := by rw [← hf]; exact fracV_in (by omega)
  have hat : atN nan s p = unixV s (bif k then f else 4294967295) := by unfold atN unitsN; rw [hf, hk]
  rw [hat]
  rw [hf, hk] at HF
  obtain ⟨V, hV⟩ : ∃ V, unixV s (bif k then f else 4294967295) = V := ⟨_, rfl⟩
  have hu32 : okU32 (bif k then f else 4294967295) = true := by cases k <;> simp [okU32_iff]; omega
  have HU := Lib.hid (show ∀ w, Calls Tryd.prog 38 #[.int .u64 (s : Int), .int .u32 (bif k then f else 4294967295)] w fun e w' => e = .returned (.agg #[.int .i64 (hi V), .int .u64 (lo V)]) ∧ Below w.heap.size w w' from fun w => by rw [← hV]; exact refUnix_any s _ (nat_U hs) hu32 w)
  rw [hV]
  show Calls _ _ _ _ fun e w' => e = .returned (.agg #[.int .i64 (hi V), .int .u64 (lo V)]) ∧ Below w.heap.size w w'
  have hpI : (p : Int) ≤ 4294967295 := by omega
  have hsI : (s : Int) ≤ 4294967295 := by omega
  clear hf hk hfi hat hs hp hV hu32
  generalize hi V = V1 at *
  generalize lo V = V2 at *
  generalize den nan = D at *
  cases k
  · simp only [cond_false] at HU
    go_enter Tryd.func21, Tryd.ntmps21
    go_wp2_with (first
      | (go_at_call 13; refine (HD.out _).mono ?_; rintro e w' ⟨rfl, rfl⟩)
      | (go_at_call 37; refine (HF.out _).mono ?_; rintro e w1 ⟨rfl, hb1⟩; have g1 := Blk.keep hb1 (Blk.new rfl); have HB1 := Lib.hid (keepA hb1 (Below.refl _ _)); clear hb1)
      | (go_at_call 38; refine (HU.out _).mono ?_; rintro e w2 ⟨rfl, hb2⟩; have g3 := Blk.keep hb2 g1; have hc3 := g3.two; have hf3 := g3.free0; have HB2 := Lib.hid (keepW HB1.out hb2); clear hb2))
    apply post_row1 Tryd.results21 Tryd.underlying52 rfl w.heap.size 52
    case hg =>
      repeat (first | with_reducible exact g3 | apply Blk.put)
    case h =>
      refine And.intro (by kernel_rfl) ?_
      repeat (first | with_reducible exact HB2.out | with_reducible refine Below.at ?_ (Nat.le_refl _))
    all_goals kernel_rfl
  · simp only [cond_true] at HU
    go_enter Tryd.func21, Tryd.ntmps21
    go_wp2_with (first
      | (go_at_call 13; refine (HD.out _).mono ?_; rintro e w' ⟨rfl, rfl⟩)
      | (go_at_call 37; refine (HF.out _).mono ?_; rintro e w1 ⟨rfl, hb1⟩; have g1 := Blk.keep hb1 (Blk.new rfl); have HB1 := Lib.hid (keepA hb1 (Below.refl _ _)); clear hb1)
      | (go_at_call 38; refine (HU.out _).mono ?_; rintro e w2 ⟨rfl, hb2⟩; have g3 := Blk.keep hb2 g1; have hc3 := g3.two; have hf3 := g3.free0; have HB2 := Lib.hid (keepW HB1.out hb2); clear hb2))
    apply post_row1 Tryd.results21 Tryd.underlying52 rfl w.heap.size 52
    case hg =>
      repeat (first | with_reducible exact g3 | apply Blk.put)
    case h =>
      refine And.intro (by kernel_rfl) ?_
      repeat (first | with_reducible exact HB2.out | with_reducible refine Below.at ?_ (Nat.le_refl _))
    all_goals kernel_rfl
def unixU : Int := 9487534653230284800
def whenOk (n : Int) : Bool := ebOk n && decide ((n - 9487534653230284800) / 4294967296 ≤ 4294967295)
def whenS (n : Int) : Int := bif whenOk n then (n - 9487534653230284800) / 4294967296 else 0
def whenP (nan : Bool) (n : Int) : Int := bif whenOk n then partV ((n - 9487534653230284800) % 4294967296) (den nan) else 0
def whenV (nan : Bool) (n : Int) : Value := .tuple #[.int .u32 (whenS n), .int .u32 (whenP nan n), .bool (whenOk n)]
theorem partV_in {f : Int} (h0 : 0 ≤ f) (h1 : f ≤ 4294967295) (nan : Bool) : 0 ≤ partV f (den nan) ∧ partV f (den nan) ≤ 4294967295 := by
  cases nan
  · show 0 ≤ (bif partOk 1000000 then f * 1000000 / 4294967296 else 0) ∧ (bif partOk 1000000 then f * 1000000 / 4294967296 else 0) ≤ 4294967295
    rw [show partOk 1000000 = true by decide]; simp only [cond_true]; omega
  · show 0 ≤ (bif partOk 1000000000 then f * 1000000000 / 4294967296 else 0) ∧ (bif partOk 1000000000 then f * 1000000000 / 4294967296 else 0) ≤ 4294967295
    rw [show partOk 1000000000 = true by decide]; simp only [cond_true]; omega
theorem partOk_den (nan : Bool) : partOk (den nan) = true := by cases nan <;> decide
theorem ebOk_bd {n : Int} (h : ebOk n = true) : 0 ≤ (n - 9487534653230284800) / 4294967296 ∧ (n - 9487534653230284800) / 4294967296 ≤ 18446744073709551615 := by
  unfold ebOk at h
  simp only [Bool.and_eq_true, decide_eq_true_eq] at h
  omega
set_option maxHeartbeats 4000000 in
theorem when_any (lit nan : Bool) (link snap : Nat) (n : Int) (hn : InR n) (w : World) :
    Calls Tryd.prog 18 #[fileV lit nan link snap, .agg #[.int .i64 (hi n), .int .u64 (lo n)]] w fun e w' => e = .returned (whenV nan n) ∧ Below w.heap.size w w' := by
  have HD := Lib.hid (fun w => den_any lit nan link snap w)
  have HB := Lib.hid (fun w => back_any n hn w)
  unfold backV wv at HB
  unfold whenV whenS whenP whenOk
  generalize hi n = h at *
  generalize lo n = l at *
  cases he : ebOk n
  · rw [he] at HB
    simp only [cond_false, Bool.false_and] at HB ⊢
    clear he hn
    go_enter Tryd.func18, Tryd.ntmps18
    go_wp2_with (go_at_call 32; refine (HB.out _).mono ?_; rintro e w1 ⟨rfl, hb1⟩; have HB1 := Lib.hid hb1; clear hb1)
    go_ret3
    exact ⟨rfl, keepA2 HB1.out⟩
  · rw [he] at HB
    have hbd := ebOk_bd he
    simp only [cond_true, Bool.true_and] at HB ⊢
    have HP := Lib.hid (fun w => parts_any ((n - 9487534653230284800) % 4294967296) (den nan) (by rw [okU32_iff]; omega) (den_U nan) w)
    have hpd := partV_in (f := (n - 9487534653230284800) % 4294967296) (by omega) (by omega) nan
    rw [partOk_den] at HP
    have hu0 : 0 ≤ (n - 9487534653230284800) % 4294967296 ∧ (n - 9487534653230284800) % 4294967296 ≤ 4294967295 := by omega
    generalize partV ((n - 9487534653230284800) % 4294967296) (den nan) = P at *
    generalize (n - 9487534653230284800) % 4294967296 = u at *
    generalize (n - 9487534653230284800) / 4294967296 = s at *
    generalize den nan = D at *
    clear he hn hu0
    by_cases hs : s ≤ 4294967295
    · rw [decide_eq_true hs]
      simp only [cond_true]
      have hs2 : ¬ 4294967295 < s := by omega
      have hws : IntKind.u32.wrap s = s := by rw [IntKind.wrap_u32]; omega
      have hwp : IntKind.u32.wrap P = P := by rw [IntKind.wrap_u32]; omega
      clear hbd hpd hs
      go_enter Tryd.func18, Tryd.ntmps18
      go_wp2_with (first
        | (go_at_call 32; refine (HB.out _).mono ?_; rintro e w1 ⟨rfl, hb1⟩; have HB1 := Lib.hid hb1; have g1 := Blk.keep hb1 (Blk.old (Blk.new rfl) _); have hc1 := g1.four; clear hb1)
        | (go_at_call 12; refine (HD.out _).mono ?_; rintro e w2 ⟨rfl, hb2⟩; have HB2 := Lib.hid (keepW (keepA2 HB1.out) hb2); clear hb2)
        | (go_at_call 33; refine (HP.out _).mono ?_; rintro e w3 ⟨rfl, hb3⟩; have HB3 := Lib.hid (keepW HB2.out hb3); clear hb3))
      go_ret3
      exact ⟨rfl, HB3.out⟩
    · rw [decide_eq_false hs]
      simp only [cond_false]
      have hs2 : 4294967295 < s := by omega
      clear hpd hs
      go_enter Tryd.func18, Tryd.ntmps18
      go_wp2_with (go_at_call 32; refine (HB.out _).mono ?_; rintro e w1 ⟨rfl, hb1⟩; have HB1 := Lib.hid hb1; clear hb1)
      go_ret3
      exact ⟨rfl, keepA2 HB1.out⟩
set_option maxHeartbeats 4000000 in
theorem refWhen_any (nan : Bool) (n : Int) (hn : InR n) (w : World) :
    Calls Tryd.prog 19 #[.bool nan, .agg #[.int .i64 (hi n), .int .u64 (lo n)]] w fun e w' => e = .returned (whenV nan n) ∧ Below w.heap.size w w' := by
  have HD := Lib.hid (fun w => refDen_any nan w)
  have HB := Lib.hid (fun w => refBack_any n hn w)
  unfold backV wv at HB
  unfold whenV whenS whenP whenOk
  generalize hi n = h at *
  generalize lo n = l at *
  cases he : ebOk n
  · rw [he] at HB
    simp only [cond_false, Bool.false_and] at HB ⊢
    clear he hn
    go_enter Tryd.func19, Tryd.ntmps19
    go_wp2_with (go_at_call 34; refine (HB.out _).mono ?_; rintro e w1 ⟨rfl, hb1⟩; have HB1 := Lib.hid hb1; clear hb1)
    go_ret3
    exact ⟨rfl, keepA HB1.out (Below.refl _ _)⟩
  · rw [he] at HB
    have hbd := ebOk_bd he
    simp only [cond_true, Bool.true_and] at HB ⊢
    have HP := Lib.hid (fun w => refParts_any ((n - 9487534653230284800) % 4294967296) (den nan) (by rw [okU32_iff]; omega) (den_U nan) w)
    have hpd := partV_in (f := (n - 9487534653230284800) % 4294967296) (by omega) (by omega) nan
    rw [partOk_den] at HP
    have hu0 : 0 ≤ (n - 9487534653230284800) % 4294967296 ∧ (n - 9487534653230284800) % 4294967296 ≤ 4294967295 := by omega
    generalize partV ((n - 9487534653230284800) % 4294967296) (den nan) = P at *
    generalize (n - 9487534653230284800) % 4294967296 = u at *
    generalize (n - 9487534653230284800) / 4294967296 = s at *
    generalize den nan = D at *
    clear he hn hu0
    by_cases hs : s ≤ 4294967295
    · rw [decide_eq_true hs]
      simp only [cond_true]
      have hs2 : ¬ 4294967296 ≤ s := by omega
      have hws : IntKind.u32.wrap s = s := by rw [IntKind.wrap_u32]; omega
      have hwp : IntKind.u32.wrap P = P := by rw [IntKind.wrap_u32]; omega
      clear hbd hpd hs
      go_enter Tryd.func19, Tryd.ntmps19
      go_wp2_with (first
        | (go_at_call 34; refine (HB.out _).mono ?_; rintro e w1 ⟨rfl, hb1⟩; have HB1 := Lib.hid hb1; clear hb1)
        | (go_at_call 13; refine (HD.out _).mono ?_; rintro e w' ⟨rfl, rfl⟩)
        | (go_at_call 35; refine (HP.out _).mono ?_; rintro e w3 ⟨rfl, hb3⟩; have HB3 := Lib.hid (keepA HB1.out hb3); clear hb3))
      go_ret3
      exact ⟨rfl, HB3.out⟩
    · rw [decide_eq_false hs]
      simp only [cond_false]
      have hs2 : 4294967296 ≤ s := by omega
      clear hpd hs
      go_enter Tryd.func19, Tryd.ntmps19
      go_wp2_with (go_at_call 34; refine (HB.out _).mono ?_; rintro e w1 ⟨rfl, hb1⟩; have HB1 := Lib.hid hb1; clear hb1)
      go_ret3
      exact ⟨rfl, keepA HB1.out (Below.refl _ _)⟩
end Go.Proofs.YtecmhjhjmhliiaaDoor
