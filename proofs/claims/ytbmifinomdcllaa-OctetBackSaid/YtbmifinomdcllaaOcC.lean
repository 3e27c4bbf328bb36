
/-
  Octet: Cut.
-/
import Derived.Test.YtbmifinomdcllaaOcB

namespace Go.Proofs.Ytbmifinomdcllaa

open Go.RowKit Go.Lib

set_option maxRecDepth 100000

theorem plain_add (b o n : Nat) : (⟨b, o, none⟩ : Addr).add n = ⟨b, o + n, none⟩ := by unfold Addr.add; split <;> simp [*]
/-- A byte as a value. -/
abbrev u8 (c : UInt8) : Value := .int .u8 (c.toNat : Int)
/-- A slice of bytes, at an address, reads as a list. -/
def Rd (w : World) (A : Option Addr) (l : List UInt8) : Prop := l ≠ [] → ∃ blk off, A = some ⟨blk, off, none⟩ ∧ ∀ j x, l[j]? = some x → w.cell? ⟨blk, off + j, none⟩ = some (u8 x)
theorem Rd.nil (w : World) (A : Option Addr) : Rd w A [] := fun h => absurd rfl h
theorem Rd.below {w w' : World} {A : Option Addr} {l : List UInt8} (h : Rd w A l) (hb : Below w.heap.size w w') : Rd w' A l := fun hl => by
  obtain ⟨blk, off, hA, hc⟩ := h hl
  exact ⟨blk, off, hA, fun j x hx => (hb.cell (World.block_lt_of_cell? _ _ (hc j x hx))).trans (hc j x hx)⟩
/-- The address of what is cut. -/
def cutA (A : Option Addr) (a m : Nat) : Option Addr := if m = 0 then A else A.map (·.add a)
theorem Rd.cut {w : World} {A : Option Addr} {l : List UInt8} (h : Rd w A l) (a m : Nat) (ham : a + m ≤ l.length) : Rd w (cutA A a m) ((l.drop a).take m) := fun hl => by
  have hm : m ≠ 0 := by rintro rfl; simp at hl
  obtain ⟨blk, off, hA, hc⟩ := h (by rintro rfl; simp at ham; omega)
  subst hA
  refine ⟨blk, off + a, by unfold cutA; rw [if_neg hm]; exact congrArg some (plain_add _ _ _), fun j x hx => ?_⟩
  rw [List.getElem?_take] at hx
  split at hx
  · rw [List.getElem?_drop] at hx
    rw [Nat.add_assoc]
    exact hc _ _ hx
  · cases hx
theorem Rd.at_ {w : World} {blk off : Nat} {l : List UInt8} (h : Rd w (some ⟨blk, off, none⟩) l) (j : Nat) (hj : j < l.length) : w.cell? ⟨blk, off + j, none⟩ = some (u8 l[j]) := by
  obtain ⟨b, o, hA, hc⟩ := h (by rintro rfl; simp at hj)
  cases hA
  exact hc j _ (List.getElem?_eq_getElem hj)
theorem Rd.some_ {w : World} {A : Option Addr} {l : List UInt8} (h : Rd w A l) (hl : 0 < l.length) : ∃ blk off, A = some ⟨blk, off, none⟩ := by
  obtain ⟨b, o, hA, hc⟩ := h (by rintro rfl; simp at hl)
  exact ⟨b, o, hA⟩

theorem cut_ok (A : Option Addr) (len cap : Nat) (little : Bool) (a m : Nat) (h : a + m ≤ len) (hc : len ≤ cap) (hlen : len ≤ 4611686018427387904) (w : World) :
    Calls Try.prog 10 #[.agg #[.slice A len cap, .bool little], .int .i64 a, .int .i64 m] w fun e w' => e = .returned (.tuple #[.slice (cutA A a m) m m, .bool true]) ∧ Below w.heap.size w w' := by
  have h1 : ¬ ((len : Int) - (a : Int) < (m : Int)) := by omega
  have g1 : ¬ ((a : Int) < 0) := by omega
  have g2 : ¬ ((m : Int) < 0) := by omega
  by_cases hm : m = 0
  · subst hm
    have HE := Lib.hid (show cutA A a 0 = A by unfold cutA; rw [if_pos rfl])
    go_enter Try.func10, Try.ntmps10
    go_wp2
    go_ret2
    exact ⟨by rw [HE.out]; rfl, (Below.refl _ w).alloc (Nat.le_refl _) _⟩
  · have hm0 : 0 < m := by omega
    have HE := Lib.hid (show cutA A a m = A.map (fun x => x.add a) by unfold cutA; rw [if_neg hm])
    clear hm
    go_enter Try.func10, Try.ntmps10
    go_wp2
    all_goals try go_ret2
    exact ⟨by rw [HE.out]; rfl, (Below.refl _ w).alloc (Nat.le_refl _) _⟩
theorem cut_no (A : Option Addr) (len cap : Nat) (little : Bool) (a m : Int) (h : ¬ (0 ≤ a ∧ 0 ≤ m ∧ a ≤ len ∧ m ≤ len - a)) (hlen : len ≤ 4611686018427387904) (ha : a ≤ 9223372036854775807) (w : World) :
    Calls Try.prog 10 #[.agg #[.slice A len cap, .bool little], .int .i64 a, .int .i64 m] w fun e w' => e = .returned (.tuple #[.slice none 0 0, .bool false]) ∧ Below w.heap.size w w' := by
  by_cases h0 : a < 0
  · go_enter Try.func10, Try.ntmps10
    go_wp2
    all_goals go_ret2
    all_goals exact ⟨rfl, (Below.refl _ w).alloc (Nat.le_refl _) _⟩
  · by_cases h1 : m < 0
    · go_enter Try.func10, Try.ntmps10
      go_wp2
      all_goals go_ret2
      all_goals exact ⟨rfl, (Below.refl _ w).alloc (Nat.le_refl _) _⟩
    · have h2 : (len : Int) - a < m := by omega
      clear h
      have h0' : 0 ≤ a := by omega
      go_enter Try.func10, Try.ntmps10
      go_wp2
      all_goals go_ret2
      all_goals exact ⟨rfl, (Below.refl _ w).alloc (Nat.le_refl _) _⟩
end Go.Proofs.Ytbmifinomdcllaa
