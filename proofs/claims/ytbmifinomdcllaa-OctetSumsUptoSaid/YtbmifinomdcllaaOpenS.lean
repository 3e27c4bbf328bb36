
/-
  A slice of slices of bytes among a statement's arguments: opened, with its bulk.
-/
import Derived.Test.YtbmifinomdcllaaOcU

import Derived.Test.YtbmifinomdcllaaOpenO

import Derived.Deep.Slices

import Derived.JoinedCond

namespace Go.Proofs.Ytbmifinomdcllaa

open Go.ChangeShapes Go.WideShapes Go.ChangeAt Go.RowKit Go.Joins

set_option maxRecDepth 100000

theorem bulk_one {H : Type} (d : DataW H) : 1 ≤ Rows.uptoBulk d := by
  cases d with
  | lit l => cases l <;> simp [Rows.uptoBulk]
  | nil => simp [Rows.uptoBulk]
  | ptr d => simp [Rows.uptoBulk]
  | slice elems spare => simp [Rows.uptoBulk]
  | agg parts => simp [Rows.uptoBulk]
  | iface t d => simp [Rows.uptoBulk]
  | map entries => simp [Rows.uptoBulk]
  | held h => simp [Rows.uptoBulk]
theorem bulk_len {H : Type} (l : List (DataW H)) : l.length ≤ Rows.uptoBulkAll l := by
  induction l with
  | nil => simp [Rows.uptoBulkAll]
  | cons x r ih => have := bulk_one x; simp only [Rows.uptoBulkAll, List.length_cons]; omega
theorem bulk_parts {H : Type} (L : List Nat) (f : Nat → Part) (D : Nat → DataW H) (h : ∀ i ∈ L, (f i).2.1.length ≤ Rows.uptoBulk (D i)) : (flatP (L.map f)).length ≤ Rows.uptoBulkAll (L.map D) := by
  induction L with
  | nil => simp [flatP, Rows.uptoBulkAll]
  | cons x r ih =>
    have h1 := h x (List.mem_cons_self ..)
    have h2 := ih (fun i hi => h i (List.mem_cons_of_mem _ hi))
    unfold flatP at h2 ⊢
    simp only [List.map_cons, List.flatMap_cons, List.length_append, Rows.uptoBulkAll]
    omega
/-- One part. -/
theorem open_part {H : Type} {enc : TypeId × Value → H} {w : World} {base fuel : Nat} {spare : Nat → Bool} {held : Bool} {V : Value} {D : DataW H} {pl : List MemPlace}
    (h : DataW.trod enc Try.prog w base spare held fuel 22 [V] = some (D, pl)) : ∃ p : Part, V = partV p ∧ Rd w p.1 p.2.1 ∧ (p.1 = none → p.2 = ([], 0)) ∧ p.2.1.length ≤ Rows.uptoBulk D := by
  rcases open_ints Try.underlying22 Try.underlying5 (by kernel_rfl) h with ⟨hcs, hx⟩ | ⟨a, len, cap, zs, hcs, _, hl, hm, hz, hx, hcell, hwz⟩
  · obtain rfl : V = .slice none 0 0 := by simpa using hcs
    exact ⟨(none, [], 0), rfl, Rd.nil _ _, fun _ => rfl, Nat.zero_le _⟩
  · obtain rfl : V = .slice (some a) len cap := by simpa using hcs
    have hlz : len ≤ zs.length := by rw [hz]; split <;> omega
    have hlen : ((zs.take len).map fun z => UInt8.ofNat z.toNat).length = len := by rw [List.length_map, List.length_take, Nat.min_eq_left hlz]
    refine ⟨(some a, (zs.take len).map fun z => UInt8.ofNat z.toNat, cap), by unfold partV; rw [hlen], fun hne => ?_, (fun h => by cases h), ?_⟩
    · have hl0 : 0 < zs.length := by
        rcases Nat.eq_zero_or_pos zs.length with h0 | h0
        · exact absurd (List.eq_nil_of_length_eq_zero (by rw [hlen]; omega)) hne
        · exact h0
      obtain ⟨blk, off, spot⟩ := a
      have hspot : spot = none := by simpa [Addr.add] using World.cell?_spot (hcell 0 hl0)
      subst hspot
      refine ⟨blk, off, rfl, fun j x hj => ?_⟩
      dsimp only at hj
      rw [List.getElem?_map, List.getElem?_take] at hj
      split at hj
      · have hj3 : j < zs.length := by omega
        rw [List.getElem?_eq_getElem hj3] at hj
        have hc := hcell j hj3
        rw [add_plain] at hc
        rw [hc]
        have e : zs.getD j 0 = zs[j] := by rw [List.getD_eq_getElem?_getD, List.getElem?_eq_getElem hj3]; rfl
        have hw := hwz zs[j] (List.getElem_mem hj3)
        simp [Lit.wf, IntKind.min, IntKind.max, IntKind.signed, IntKind.bits] at hw
        have hxe : UInt8.ofNat zs[j].toNat = x := by simpa using hj
        rw [e, ← hxe]
        have : (UInt8.ofNat zs[j].toNat).toNat = zs[j].toNat := by simp; omega
        show some (Value.int .u8 _) = some (.int .u8 (((UInt8.ofNat zs[j].toNat).toNat : Nat) : Int))
        rw [this]; congr 2; omega
      · cases hj
    · show ((zs.take len).map fun z => UInt8.ofNat z.toNat).length ≤ _
      rw [hlen]
      have hD : D = .slice (lits .u8 (zs.take len)) (lits .u8 (zs.drop len)) := congrArg Prod.fst hx
      rw [hD]
      simp only [Rows.uptoBulk]
      have := bulk_len (lits (H := H) .u8 (zs.take len))
      have hll : (lits (H := H) .u8 (zs.take len)).length = len := by unfold lits; rw [List.length_map, List.length_take, Nat.min_eq_left hlz]
      omega
theorem open_parts {H : Type} {enc : TypeId × Value → H} {w : World} {b0 base : Nat} {spare : Nat → Bool} {held : Bool} {v : Value} {d : DataW H} {p : List MemPlace}
    (hv : Value.okWide Try.prog w .any b0 44 v) (h : DataW.Trod enc Try.prog w base spare held 44 v d p) : ∃ ps, PArg w v ps ∧ (flatP ps).length ≤ Rows.uptoBulk d ∧ ps.length ≤ Rows.uptoBulk d := by
  obtain ⟨a0, len0, cap0, rfl⟩ := okWide_slice Try.underlying44 hv
  obtain ⟨fuel, hf⟩ := h
  rcases Go.Deep.open_slice1 Try.underlying44 (by kernel_rfl) hf with ⟨hcs, hx⟩ | ⟨a, len, cap, m, n, V, D, Pl, hcs, _, hl, hm, hmm, hx, hel⟩
  · simp [Value.cells] at hcs
    obtain ⟨rfl, rfl, rfl⟩ := hcs
    exact ⟨[], ⟨none, 0, rfl, fun h => absurd rfl h, fun p hp => by cases hp⟩, Nat.zero_le _, Nat.zero_le _⟩
  · simp [Value.cells] at hcs
    obtain ⟨rfl, rfl, rfl⟩ := hcs
    have hlm : len0 ≤ m := by rw [hmm]; split <;> omega
    obtain ⟨f, hf2⟩ := Go.Deep.choose_lt (α := Part) (p := fun i p => V i = partV p ∧ Rd w p.1 p.2.1 ∧ (p.1 = none → p.2 = ([], 0)) ∧ p.2.1.length ≤ Rows.uptoBulk (D i)) (n := len0) (fun i hi => open_part (hel i (by omega)).2)
    have hD : d = .slice ((List.range len0).map D) ((List.range (m - len0)).map fun j => D (len0 + j)) := congrArg Prod.fst hx
    have hb := bulk_parts (List.range len0) f D (fun i hi => (hf2 i (List.mem_range.1 hi)).2.2.2)
    have hlen : ((List.range len0).map f).length = len0 := by simp
    refine ⟨(List.range len0).map f, ⟨some a, cap0, by rw [hlen], fun hne => ?_, fun p hp => ?_⟩, ?_, ?_⟩
    · have hl0 : 0 < len0 := by
        rcases Nat.eq_zero_or_pos len0 with h0 | h0
        · subst h0; exact absurd rfl hne
        · exact h0
      obtain ⟨blk, off, spot⟩ := a
      have hspot : spot = none := by simpa [Addr.add] using World.cell?_spot (hel 0 (by omega)).1
      subst hspot
      refine ⟨blk, off, rfl, fun j q hq => ?_⟩
      rw [List.getElem?_map] at hq
      have hj : j < len0 := by
        rcases Nat.lt_or_ge j len0 with h1 | h1
        · exact h1
        · rw [List.getElem?_eq_none (by simpa using h1)] at hq; cases hq
      rw [List.getElem?_range hj] at hq
      obtain rfl : f j = q := by simpa using hq
      obtain ⟨h1, h2, _, _⟩ := hf2 j hj
      have hc := (hel j (by omega)).1
      rw [add_plain, h1] at hc
      exact ⟨hc, h2⟩
    · obtain ⟨i, hi, rfl⟩ := List.mem_map.1 hp
      exact (hf2 i (List.mem_range.1 hi)).2.2.1
    · rw [hD]; simp only [Rows.uptoBulk]; omega
    · rw [hD, hlen]
      simp only [Rows.uptoBulk]
      have := bulk_len ((List.range len0).map D)
      have h2 : ((List.range len0).map D).length = len0 := by simp
      omega
end Go.Proofs.Ytbmifinomdcllaa
