
/-
  The contracts of the program's wide, as oracles of a reading.
-/
import Derived.Test.YtbhgibpocbmipaaDenEnv
import Derived.Test.YtbhgibpocbmipaaWDivW
import Derived.Test.YtbhgibpocbmipaaWRoot
import Derived.Test.YtbhgibpocbmipaaWClip
namespace Go.Proofs.Ytbhgibpocbmipaa
open Go.Den Go.RowKit
noncomputable section

def W2 (h l : Int) : Int := h * 18446744073709551616 + l
def wv (n : Int) : Value := .agg #[.int .i64 (hi n), .int .u64 (lo n)]
def okI (n : Int) : Bool := decide (-9223372036854775808 ≤ n) && decide (n ≤ 9223372036854775807)
def okU (n : Int) : Bool := decide (0 ≤ n) && decide (n ≤ 18446744073709551615)
def okW (h l : Int) : Bool := okI h && okU l
theorem okI_iff {n : Int} : okI n = true ↔ -9223372036854775808 ≤ n ∧ n ≤ 9223372036854775807 := by simp [okI]
theorem okU_iff {n : Int} : okU n = true ↔ 0 ≤ n ∧ n ≤ 18446744073709551615 := by simp [okU]
theorem okW_iff {h l : Int} : okW h l = true ↔ (-9223372036854775808 ≤ h ∧ h ≤ 9223372036854775807) ∧ 0 ≤ l ∧ l ≤ 18446744073709551615 := by simp [okW, okI_iff, okU_iff]
theorem W2_hilo (n : Int) : W2 (hi n) (lo n) = n := hilo n
theorem hi_W2 {h l : Int} (k : okW h l = true) : hi (W2 h l) = h ∧ lo (W2 h l) = l ∧ InR (W2 h l) := by
  rw [okW_iff] at k
  unfold hi lo InR W2; omega
theorem okW_hilo {n : Int} (h : InR n) : okW (hi n) (lo n) = true := okW_iff.2 ⟨hi_bd h, lo_bd n⟩
theorem wv_W2 {h l : Int} (k : okW h l = true) : wv (W2 h l) = .agg #[.int .i64 h, .int .u64 l] := by
  unfold wv; rw [(hi_W2 k).1, (hi_W2 k).2.1]
def ofS : Array Value → Option (Bool × Value)
  | ⟨[.int .i64 n]⟩ => some (okI n, wv n)
  | _ => none
def addS : Array Value → Option (Bool × Value)
  | ⟨[.agg ⟨[.int .i64 h1, .int .u64 l1]⟩, .agg ⟨[.int .i64 h2, .int .u64 l2]⟩]⟩ => some (okW h1 l1 && okW h2 l2, wv (clamp (W2 h1 l1 + W2 h2 l2)))
  | _ => none
def subS : Array Value → Option (Bool × Value)
  | ⟨[.agg ⟨[.int .i64 h1, .int .u64 l1]⟩, .agg ⟨[.int .i64 h2, .int .u64 l2]⟩]⟩ => some (okW h1 l1 && okW h2 l2, wv (clamp (W2 h1 l1 - W2 h2 l2)))
  | _ => none
def negS : Array Value → Option (Bool × Value)
  | ⟨[.agg ⟨[.int .i64 h, .int .u64 l]⟩]⟩ => some (okW h l, wv (clamp (-W2 h l)))
  | _ => none
def absS : Array Value → Option (Bool × Value)
  | ⟨[.agg ⟨[.int .i64 h, .int .u64 l]⟩]⟩ => some (okW h l, wv (clamp (sz (W2 h l))))
  | _ => none
def halfS : Array Value → Option (Bool × Value)
  | ⟨[.agg ⟨[.int .i64 h, .int .u64 l]⟩]⟩ => some (okU l, wv (W2 h l / 2))
  | _ => none
def cmpS : Array Value → Option (Bool × Value)
  | ⟨[.agg ⟨[.int .i64 h1, .int .u64 l1]⟩, .agg ⟨[.int .i64 h2, .int .u64 l2]⟩]⟩ => some (okW h1 l1 && okW h2 l2, .int .i64 (cmpI (W2 h1 l1) (W2 h2 l2)))
  | _ => none
def mulS : Array Value → Option (Bool × Value)
  | ⟨[.int .i64 a, .int .i64 b]⟩ => some (okI a && okI b, wv (a * b))
  | _ => none
def scaleS : Array Value → Option (Bool × Value)
  | ⟨[.agg ⟨[.int .i64 h, .int .u64 l]⟩, .int .u32 k]⟩ => some (okW h l && (decide (0 ≤ k) && decide (k ≤ 4294967295)), wv (clamp (W2 h l * k)))
  | _ => none
def clipS : Array Value → Option (Bool × Value)
  | ⟨[.agg ⟨[.int .i64 h, .int .u64 l]⟩]⟩ => some (okW h l, .int .i64 (clip (W2 h l)))
  | _ => none
def divS : Array Value → Option (Bool × Value)
  | ⟨[.agg ⟨[.int .i64 h, .int .u64 l]⟩, .int .u64 y]⟩ => some (okW h l && (decide (0 < y) && decide (y ≤ 18446744073709551615)), .tuple #[wv (W2 h l / y), .int .u64 (W2 h l % y), .bool true])
  | _ => none
theorem by_W2 {h l : Int} (k : okW h l = true) {p : Value → Value → Prop} (q : p (.agg #[.int .i64 (hi (W2 h l)), .int .u64 (lo (W2 h l))]) (wv (W2 h l))) : p (.agg #[.int .i64 h, .int .u64 l]) (wv (W2 h l)) := by
  rwa [(hi_W2 k).1, (hi_W2 k).2.1] at q
def pcOf : PC Try.prog where
  f := 15
  spec := ofS
  body := by kernel_rfl
  ok := fun args r hr hok => by
    unfold ofS at hr
    split at hr
    · cases hr
      rw [okI_iff] at hok
      exact ⟨all_bel rfl, rfl, fun w => of_any _ hok.1 hok.2 w⟩
    · cases hr
def pcAdd : PC Try.prog where
  f := 18
  spec := addS
  body := by kernel_rfl
  ok := fun args r hr hok => by
    unfold addS at hr
    split at hr
    · cases hr
      rw [Bool.and_eq_true, okW_iff, okW_iff] at hok
      obtain ⟨⟨⟨a, b⟩, c, d⟩, ⟨e, f⟩, g, h⟩ := hok
      exact ⟨all_bel rfl, rfl, fun w => add_any _ _ _ _ c d g h a b e f w⟩
    · cases hr
def pcSub : PC Try.prog where
  f := 20
  spec := subS
  body := by kernel_rfl
  ok := fun args r hr hok => by
    unfold subS at hr
    split at hr
    · cases hr
      rw [Bool.and_eq_true, okW_iff, okW_iff] at hok
      obtain ⟨⟨⟨a, b⟩, c, d⟩, ⟨e, f⟩, g, h⟩ := hok
      exact ⟨all_bel rfl, rfl, fun w => sub_any _ _ _ _ c d g h a b e f w⟩
    · cases hr
def pcNeg : PC Try.prog where
  f := 22
  spec := negS
  body := by kernel_rfl
  ok := fun args r hr hok => by
    unfold negS at hr
    split at hr
    · cases hr
      rw [okW_iff] at hok
      exact ⟨all_bel rfl, rfl, fun w => neg_any _ _ hok.2.1 hok.2.2 hok.1.1 hok.1.2 w⟩
    · cases hr
def pcAbs : PC Try.prog where
  f := 23
  spec := absS
  body := by kernel_rfl
  ok := fun args r hr hok => by
    unfold absS at hr
    split at hr
    · cases hr
      refine ⟨all_bel rfl, rfl, fun w => ?_⟩
      have := abs_n (hi_W2 hok).2.2 w
      rw [(hi_W2 hok).1, (hi_W2 hok).2.1] at this
      exact this
    · cases hr
def pcHalf : PC Try.prog where
  f := 30
  spec := halfS
  body := by kernel_rfl
  ok := fun args r hr hok => by
    unfold halfS at hr
    split at hr
    · cases hr
      rw [okU_iff] at hok
      exact ⟨all_bel rfl, rfl, fun w => half_any _ _ hok.1 hok.2 w⟩
    · cases hr
def pcCmp : PC Try.prog where
  f := 24
  spec := cmpS
  body := by kernel_rfl
  ok := fun args r hr hok => by
    unfold cmpS at hr
    split at hr
    · rename_i h1 l1 h2 l2
      cases hr
      rw [Bool.and_eq_true] at hok
      refine ⟨all_bel rfl, rfl, fun w => ?_⟩
      have := cmp_n (W2 h1 l1) (W2 h2 l2) w
      rw [(hi_W2 hok.1).1, (hi_W2 hok.1).2.1, (hi_W2 hok.2).1, (hi_W2 hok.2).2.1] at this
      exact this
    · cases hr
def pcMul : PC Try.prog where
  f := 26
  spec := mulS
  body := by kernel_rfl
  ok := fun args r hr hok => by
    unfold mulS at hr
    split at hr
    · cases hr
      rw [Bool.and_eq_true, okI_iff, okI_iff] at hok
      exact ⟨all_bel rfl, rfl, fun w => mul_any _ _ hok.1.1 hok.1.2 hok.2.1 hok.2.2 w⟩
    · cases hr
def pcScale : PC Try.prog where
  f := 28
  spec := scaleS
  body := by kernel_rfl
  ok := fun args r hr hok => by
    unfold scaleS at hr
    split at hr
    · cases hr
      rw [Bool.and_eq_true, Bool.and_eq_true, decide_eq_true_eq, decide_eq_true_eq] at hok
      refine ⟨all_bel rfl, rfl, fun w => ?_⟩
      have := scale_any (hi_W2 hok.1).2.2 hok.2.1 hok.2.2 w
      rw [(hi_W2 hok.1).1, (hi_W2 hok.1).2.1] at this
      exact this
    · cases hr
def pcClip : PC Try.prog where
  f := 33
  spec := clipS
  body := by kernel_rfl
  ok := fun args r hr hok => by
    unfold clipS at hr
    split at hr
    · cases hr
      refine ⟨all_bel rfl, rfl, fun w => ?_⟩
      have := clip_n (hi_W2 hok).2.2 w
      rw [(hi_W2 hok).1, (hi_W2 hok).2.1] at this
      exact this
    · cases hr
def pcDiv : PC Try.prog where
  f := 32
  spec := divS
  body := by kernel_rfl
  ok := fun args r hr hok => by
    unfold divS at hr
    split at hr
    · cases hr
      rw [Bool.and_eq_true, Bool.and_eq_true, decide_eq_true_eq, decide_eq_true_eq] at hok
      refine ⟨all_bel rfl, rfl, fun w => ?_⟩
      have := wdiv_n (hi_W2 hok.1).2.2 hok.2.1 hok.2.2 w
      rw [(hi_W2 hok.1).1, (hi_W2 hok.1).2.1] at this
      exact this
    · cases hr
/-- A function of no arguments that was read. -/
def knownS : Array Value → Option (Bool × Value)
  | ⟨[]⟩ => some (true, .bool true)
  | _ => none
def pcKnown (f : FuncId) (body : (Try.prog.funcs[f]?.bind (·.body)).isSome = true) (hr : (((ev envT 1000).call [] f #[] [] B0).run.map (·.v)) = some (.bool true)) : PC Try.prog where
  f := f
  spec := knownS
  body := body
  ok := fun args r h _ => by
    unfold knownS at h
    split at h
    · cases h
      exact ⟨all_bel rfl, rfl, fun w => calls_read envT hcokP 1000 hr (by simp) rfl w⟩
    · cases h
def pcsW : List (PC Try.prog) := [pcAdd, pcSub, pcOf, pcClip, pcHalf, pcMul, pcDiv, pcCmp, pcNeg, pcScale, pcAbs]
end
end Go.Proofs.Ytbhgibpocbmipaa
