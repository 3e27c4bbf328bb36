
/-
  The statements' own 'known' of layer 1, wide.Root as a contract, and what the statements of layer 1 are read by.
-/
import Derived.Test.YtbhgibpocbmipaaNumW
namespace Go.Proofs.Ytbhgibpocbmipaa
open Go.Den Go.RowKit
noncomputable section
theorem k1_read : (((ev envT 1000).call [] 13 #[] [] B0).run.map (·.v)) = some (.bool true) := by kernel_rfl
def pcK1 : PC Try.prog := pcKnown 13 (by kernel_rfl) k1_read
open Classical in
/-- The integer root. -/
def rootI (n : Int) : Int := if h : ∃ r, IsRoot n r then h.choose else 0
theorem root_le {n m r s : Int} (h : IsRoot n r) (k : IsRoot m s) (hnm : n ≤ m) : r ≤ s := by
  obtain ⟨a, b, c, d⟩ := h
  obtain ⟨e, f, g, i⟩ := k
  by_cases hr : r ≤ s
  · exact hr
  · exfalso
    have : (s + 1) * (s + 1) ≤ r * r := Int.mul_le_mul (by omega) (by omega) (by omega) (by omega)
    omega
theorem rootI_eq {n r : Int} (h : IsRoot n r) : rootI n = r := by
  have he : ∃ r, IsRoot n r := ⟨r, h⟩
  unfold rootI
  rw [dif_pos he]
  have h2 := he.choose_spec
  have := root_le h h2 (by omega)
  have := root_le h2 h (by omega)
  omega
theorem rootI_neg {n : Int} (h : n < 0) : rootI n = 0 := by
  unfold rootI
  rw [dif_neg]
  rintro ⟨r, a, b, c, d⟩
  have : 0 ≤ r * r := Int.mul_nonneg a a
  omega
def rootS : Array Value → Option (Bool × Value)
  | ⟨[.agg ⟨[.int .i64 h, .int .u64 l]⟩]⟩ => some (okW h l, .int .u64 (rootI (W2 h l)))
  | _ => none
def pcRoot : PC Try.prog where
  f := 34
  spec := rootS
  body := by kernel_rfl
  ok := fun args r hr hok => by
    unfold rootS at hr
    split at hr
    · rename_i h l
      cases hr
      have hok' : okW h l = true := hok
      refine ⟨all_bel rfl, rfl, fun w => ?_⟩
      have hw := hi_W2 hok'
      by_cases hn : W2 h l < 0
      · have := root_neg hn w
        rw [hw.1, hw.2.1] at this
        rw [rootI_neg hn]; exact this
      · have := root_pos (show 0 ≤ W2 h l by omega) hw.2.2 w
        rw [hw.1, hw.2.1] at this
        refine this.mono ?_
        rintro e w' ⟨r, h1, rfl, hB⟩
        rw [rootI_eq h1]; exact ⟨rfl, hB⟩
    · cases hr
theorem root_is {n : Int} (h : 0 ≤ n) (h1 : InR n) : IsRoot n (rootI n) := by
  obtain ⟨r, hr⟩ : ∃ r, IsRoot n r := by
    obtain ⟨_, _, _, ⟨r, h2, _⟩, _⟩ := root_pos h h1 default []
    exact ⟨r, h2⟩
  rw [rootI_eq hr]; exact hr
def env1 : Env Try.prog := envS.with false (pcRoot :: pcK1 :: (pcsR ++ pcsW))
end
end Go.Proofs.Ytbhgibpocbmipaa
