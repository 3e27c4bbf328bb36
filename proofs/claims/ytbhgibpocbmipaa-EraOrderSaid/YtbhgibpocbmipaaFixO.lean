
/-
  Read by wip/tools/vc.py, and what follows.
-/
import Derived.Test.YtbhgibpocbmipaaFixK
namespace Go.Proofs.Ytbhgibpocbmipaa
open Go.Den Go.RowKit
noncomputable section
set_option maxRecDepth 100000
theorem offset_vc (h1 l1 h2 l2 h3 l3 h4 l4 : Int) (Q : Value → Prop) : ((ev envM 60).call [] 45 #[.agg #[.int .i64 h1, .int .u64 l1], .agg #[.int .i64 h2, .int .u64 l2], .agg #[.int .i64 h3, .int .u64 l3], .agg #[.int .i64 h4, .int .u64 l4]] [] B0).holds (fun r => Q r.v) = (bcase (okW h2 l2 && okW h1 l1)
  (bcase (okW h3 l3 && okW h4 l4)
    (bcase
      (okW (hi (clamp (W2 h2 l2 - W2 h1 l1))) (lo (clamp (W2 h2 l2 - W2 h1 l1))) &&
        okW (hi (clamp (W2 h3 l3 - W2 h4 l4))) (lo (clamp (W2 h3 l3 - W2 h4 l4))))
      (bcase
        (okU
          (lo
            (clamp
              (W2 (hi (clamp (W2 h2 l2 - W2 h1 l1))) (lo (clamp (W2 h2 l2 - W2 h1 l1))) +
                W2 (hi (clamp (W2 h3 l3 - W2 h4 l4))) (lo (clamp (W2 h3 l3 - W2 h4 l4)))))))
        (bcase
          (okW
            (hi
              (W2
                  (hi
                    (clamp
                      (W2 (hi (clamp (W2 h2 l2 - W2 h1 l1))) (lo (clamp (W2 h2 l2 - W2 h1 l1))) +
                        W2 (hi (clamp (W2 h3 l3 - W2 h4 l4))) (lo (clamp (W2 h3 l3 - W2 h4 l4))))))
                  (lo
                    (clamp
                      (W2 (hi (clamp (W2 h2 l2 - W2 h1 l1))) (lo (clamp (W2 h2 l2 - W2 h1 l1))) +
                        W2 (hi (clamp (W2 h3 l3 - W2 h4 l4))) (lo (clamp (W2 h3 l3 - W2 h4 l4)))))) /
                2))
            (lo
              (W2
                  (hi
                    (clamp
                      (W2 (hi (clamp (W2 h2 l2 - W2 h1 l1))) (lo (clamp (W2 h2 l2 - W2 h1 l1))) +
                        W2 (hi (clamp (W2 h3 l3 - W2 h4 l4))) (lo (clamp (W2 h3 l3 - W2 h4 l4))))))
                  (lo
                    (clamp
                      (W2 (hi (clamp (W2 h2 l2 - W2 h1 l1))) (lo (clamp (W2 h2 l2 - W2 h1 l1))) +
                        W2 (hi (clamp (W2 h3 l3 - W2 h4 l4))) (lo (clamp (W2 h3 l3 - W2 h4 l4)))))) /
                2)))
          (Q
            (Value.int IntKind.i64
              (clip
                (W2
                  (hi
                    (W2
                        (hi
                          (clamp
                            (W2 (hi (clamp (W2 h2 l2 - W2 h1 l1))) (lo (clamp (W2 h2 l2 - W2 h1 l1))) +
                              W2 (hi (clamp (W2 h3 l3 - W2 h4 l4))) (lo (clamp (W2 h3 l3 - W2 h4 l4))))))
                        (lo
                          (clamp
                            (W2 (hi (clamp (W2 h2 l2 - W2 h1 l1))) (lo (clamp (W2 h2 l2 - W2 h1 l1))) +
                              W2 (hi (clamp (W2 h3 l3 - W2 h4 l4))) (lo (clamp (W2 h3 l3 - W2 h4 l4)))))) /
                      2))
                  (lo
                    (W2
                        (hi
                          (clamp
                            (W2 (hi (clamp (W2 h2 l2 - W2 h1 l1))) (lo (clamp (W2 h2 l2 - W2 h1 l1))) +
                              W2 (hi (clamp (W2 h3 l3 - W2 h4 l4))) (lo (clamp (W2 h3 l3 - W2 h4 l4))))))
                        (lo
                          (clamp
                            (W2 (hi (clamp (W2 h2 l2 - W2 h1 l1))) (lo (clamp (W2 h2 l2 - W2 h1 l1))) +
                              W2 (hi (clamp (W2 h3 l3 - W2 h4 l4))) (lo (clamp (W2 h3 l3 - W2 h4 l4)))))) /
                      2))))))
          False)
        False)
      False)
    False)
  False) := by kernel_rfl
theorem delay_vc (h1 l1 h2 l2 h3 l3 h4 l4 : Int) (Q : Value → Prop) : ((ev envM 60).call [] 47 #[.agg #[.int .i64 h1, .int .u64 l1], .agg #[.int .i64 h2, .int .u64 l2], .agg #[.int .i64 h3, .int .u64 l3], .agg #[.int .i64 h4, .int .u64 l4]] [] B0).holds (fun r => Q r.v) = (bcase (okW h4 l4 && okW h1 l1)
  (bcase (okW h3 l3 && okW h2 l2)
    (bcase
      (okW (hi (clamp (W2 h4 l4 - W2 h1 l1))) (lo (clamp (W2 h4 l4 - W2 h1 l1))) &&
        okW (hi (clamp (W2 h3 l3 - W2 h2 l2))) (lo (clamp (W2 h3 l3 - W2 h2 l2))))
      (bcase
        (okW
          (hi
            (clamp
              (W2 (hi (clamp (W2 h4 l4 - W2 h1 l1))) (lo (clamp (W2 h4 l4 - W2 h1 l1))) -
                W2 (hi (clamp (W2 h3 l3 - W2 h2 l2))) (lo (clamp (W2 h3 l3 - W2 h2 l2))))))
          (lo
            (clamp
              (W2 (hi (clamp (W2 h4 l4 - W2 h1 l1))) (lo (clamp (W2 h4 l4 - W2 h1 l1))) -
                W2 (hi (clamp (W2 h3 l3 - W2 h2 l2))) (lo (clamp (W2 h3 l3 - W2 h2 l2)))))))
        (Q
          (Value.int IntKind.i64
            (clip
              (W2
                (hi
                  (clamp
                    (W2 (hi (clamp (W2 h4 l4 - W2 h1 l1))) (lo (clamp (W2 h4 l4 - W2 h1 l1))) -
                      W2 (hi (clamp (W2 h3 l3 - W2 h2 l2))) (lo (clamp (W2 h3 l3 - W2 h2 l2))))))
                (lo
                  (clamp
                    (W2 (hi (clamp (W2 h4 l4 - W2 h1 l1))) (lo (clamp (W2 h4 l4 - W2 h1 l1))) -
                      W2 (hi (clamp (W2 h3 l3 - W2 h2 l2))) (lo (clamp (W2 h3 l3 - W2 h2 l2))))))))))
        False)
      False)
    False)
  False) := by kernel_rfl
theorem okU_lo (n : Int) : okU (lo n) = true := okU_iff.2 (lo_bd n)
theorem okW_clamp (n : Int) : okW (hi (clamp n)) (lo (clamp n)) = true := okW_hilo (clamp_in n)
theorem half_in {n : Int} (h : InR n) : InR (n / 2) := by unfold InR at *; omega
theorem okW_half (n : Int) : okW (hi (clamp n / 2)) (lo (clamp n / 2)) = true := okW_hilo (half_in (clamp_in n))
def off (a b c d : Int) : Int := clip (clamp (clamp (b - a) + clamp (c - d)) / 2)
def del (a b c d : Int) : Int := clip (clamp (clamp (d - a) - clamp (c - b)))
def ok4 (h1 l1 h2 l2 h3 l3 h4 l4 : Int) : Bool := okW h1 l1 && (okW h2 l2 && (okW h3 l3 && okW h4 l4))
def offS : Array Value → Option (Bool × Value)
  | ⟨[.agg ⟨[.int .i64 h1, .int .u64 l1]⟩, .agg ⟨[.int .i64 h2, .int .u64 l2]⟩, .agg ⟨[.int .i64 h3, .int .u64 l3]⟩, .agg ⟨[.int .i64 h4, .int .u64 l4]⟩]⟩ => some (ok4 h1 l1 h2 l2 h3 l3 h4 l4, .int .i64 (off (W2 h1 l1) (W2 h2 l2) (W2 h3 l3) (W2 h4 l4)))
  | _ => none
def delS : Array Value → Option (Bool × Value)
  | ⟨[.agg ⟨[.int .i64 h1, .int .u64 l1]⟩, .agg ⟨[.int .i64 h2, .int .u64 l2]⟩, .agg ⟨[.int .i64 h3, .int .u64 l3]⟩, .agg ⟨[.int .i64 h4, .int .u64 l4]⟩]⟩ => some (ok4 h1 l1 h2 l2 h3 l3 h4 l4, .int .i64 (del (W2 h1 l1) (W2 h2 l2) (W2 h3 l3) (W2 h4 l4)))
  | _ => none
def pcOffset : PC Try.prog where
  f := 45
  spec := offS
  body := by kernel_rfl
  ok := fun args r hr hok => by
    unfold offS at hr
    split at hr
    · rename_i h1 l1 h2 l2 h3 l3 h4 l4
      cases hr
      simp only [ok4, Bool.and_eq_true] at hok
      obtain ⟨k1, k2, k3, k4⟩ := hok
      refine ⟨all_bel rfl, rfl, fun w => calls_spec envM hcokP 60 ?_ (all_bel rfl) rfl w⟩
      rw [offset_vc h1 l1 h2 l2 h3 l3 h4 l4 (fun v => v = .int .i64 (off (W2 h1 l1) (W2 h2 l2) (W2 h3 l3) (W2 h4 l4)))]
      simp only [W2_hilo, k1, k2, k3, k4, okW_clamp, okU_lo, okW_half, Bool.and_self, bcase_t, off]
    · cases hr
def pcDelay : PC Try.prog where
  f := 47
  spec := delS
  body := by kernel_rfl
  ok := fun args r hr hok => by
    unfold delS at hr
    split at hr
    · rename_i h1 l1 h2 l2 h3 l3 h4 l4
      cases hr
      simp only [ok4, Bool.and_eq_true] at hok
      obtain ⟨k1, k2, k3, k4⟩ := hok
      refine ⟨all_bel rfl, rfl, fun w => calls_spec envM hcokP 60 ?_ (all_bel rfl) rfl w⟩
      rw [delay_vc h1 l1 h2 l2 h3 l3 h4 l4 (fun v => v = .int .i64 (del (W2 h1 l1) (W2 h2 l2) (W2 h3 l3) (W2 h4 l4)))]
      simp only [W2_hilo, k1, k2, k3, k4, okW_clamp, Bool.and_self, bcase_t, del]
    · cases hr
def envO : Env Try.prog := envS.with false (pcOffset :: pcDelay :: pcK2 :: pcsW)
end
end Go.Proofs.Ytbhgibpocbmipaa
