
/-
  Slices of integers among a statement's arguments: opened.
-/
import Derived.Test.YtbmifinomdcllaaOcR

import Derived.Test.YtbmifinomdcllaaOpenO

namespace Go.Proofs.Ytbmifinomdcllaa

open Go.ChangeShapes Go.WideShapes Go.ChangeAt Go.RowKit Go.Joins

set_option maxRecDepth 100000

theorem open_nums {k : IntKind} {ts te : TypeId} (hts : Try.prog.underlying ts = some (.slice te)) (hte : Try.prog.underlying te = some (.int k)) (hce : Try.prog.cellsOf te = 1) {H : Type} {enc : TypeId × Value → H} {w : World} {b0 base : Nat} {spare : Nat → Bool} {held : Bool} {v : Value} {d : DataW H} {p : List MemPlace}
    (hv : Value.okWide Try.prog w .any b0 ts v) (h : DataW.Trod enc Try.prog w base spare held ts v d p) : ∃ zs, NArg k w v zs := by
  obtain ⟨a0, len0, cap0, rfl⟩ := okWide_slice hts hv
  obtain ⟨fuel, hf⟩ := h
  rcases open_ints hts hte hce hf with ⟨hcs, hx⟩ | ⟨a, len, cap, zs, hcs, _, hl, hm, hz, hx, hcell, hwz⟩
  · simp [Value.cells] at hcs
    obtain ⟨rfl, rfl, rfl⟩ := hcs
    exact ⟨[], none, 0, rfl, fun h => absurd rfl h, fun z hz => by cases hz⟩
  · simp [Value.cells] at hcs
    obtain ⟨rfl, rfl, rfl⟩ := hcs
    obtain ⟨blk, off, spot⟩ := a
    have hspot : spot = none := spot_of hts hv
    subst hspot
    have hlz : len0 ≤ zs.length := by rw [hz]; split <;> omega
    have hlen : (zs.take len0).length = len0 := by rw [List.length_take, Nat.min_eq_left hlz]
    refine ⟨zs.take len0, some ⟨blk, off, none⟩, cap0, by rw [hlen], fun _ => ⟨blk, off, rfl, fun j z hj => ?_⟩, fun z hz2 => hwz z (List.mem_of_mem_take hz2)⟩
    rw [List.getElem?_take] at hj
    split at hj
    · have hj3 : j < zs.length := by omega
      rw [List.getElem?_eq_getElem hj3] at hj
      have hc := hcell j hj3
      rw [add_plain] at hc
      rw [hc, List.getD_eq_getElem?_getD, List.getElem?_eq_getElem hj3]
      exact congrArg (fun q => some (Value.int k q)) (Option.some.inj hj)
    · cases hj
theorem open_u64s {H : Type} {enc : TypeId × Value → H} {w : World} {b0 base : Nat} {spare : Nat → Bool} {held : Bool} {v : Value} {d : DataW H} {p : List MemPlace}
    (hv : Value.okWide Try.prog w .any b0 38 v) (h : DataW.Trod enc Try.prog w base spare held 38 v d p) : ∃ zs, NArg .u64 w v zs :=
  open_nums Try.underlying38 Try.underlying26 (by kernel_rfl) hv h
theorem open_i64s {H : Type} {enc : TypeId × Value → H} {w : World} {b0 base : Nat} {spare : Nat → Bool} {held : Bool} {v : Value} {d : DataW H} {p : List MemPlace}
    (hv : Value.okWide Try.prog w .any b0 39 v) (h : DataW.Trod enc Try.prog w base spare held 39 v d p) : ∃ zs, NArg .i64 w v zs :=
  open_nums Try.underlying39 Try.underlying3 (by kernel_rfl) hv h
end Go.Proofs.Ytbmifinomdcllaa
