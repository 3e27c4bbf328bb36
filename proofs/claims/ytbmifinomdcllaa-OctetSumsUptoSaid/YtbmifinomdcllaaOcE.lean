
/-
  Octet: Get at any place; the document's number of bytes.
-/
import Derived.Test.YtbmifinomdcllaaOcD

namespace Go.Proofs.Ytbmifinomdcllaa

open Go.RowKit Go.Lib

set_option maxRecDepth 100000

theorem take_get (l : List UInt8) (a m j : Nat) (hj : j < m) : ((l.drop a).take m).getD j 0 = l.getD (a + j) 0 := by
  rw [List.getD_eq_getElem?_getD, List.getElem?_take, if_pos hj, List.getElem?_drop, List.getD_eq_getElem?_getD]
theorem rev_get (l : List UInt8) (j : Nat) (hj : j < l.length) : l.reverse.getD j 0 = l.getD (l.length - 1 - j) 0 := by
  rw [List.getD_eq_getElem?_getD, List.getElem?_reverse hj, List.getD_eq_getElem?_getD]
theorem getD_lt {l : List UInt8} {j : Nat} (hj : j < l.length) : l.getD j 0 = l[j] := by
  rw [List.getD_eq_getElem?_getD, List.getElem?_eq_getElem hj]; rfl
theorem Rd.at2 {w : World} {blk off : Nat} {l : List UInt8} (h : Rd w (some ⟨blk, off, none⟩) l) (j : Nat) (hj : j < l.length) : w.cell? ⟨blk, off + j, none⟩ = some (u8 (l.getD j 0)) := by
  rw [getD_lt hj]; exact h.at_ j hj
theorem get_ok (A : Option Addr) (l : List UInt8) (cap : Nat) (little : Bool) (a m : Nat) (hm : m ≤ 8) (h : a + m ≤ l.length) (hc : l.length ≤ cap) (hlen : l.length ≤ 4611686018427387904) (w : World) (hr : Rd w A l) :
    Calls Try.prog 8 #[.agg #[.slice A l.length cap, .bool little], .int .i64 a, .int .i64 m] w fun e w' => e = .returned (.tuple #[.int .u64 (valF little ((l.drop a).take m) : Nat), .bool true]) ∧ Below w.heap.size w w' := by
  rcases Nat.eq_zero_or_pos m with rfl | hm0
  · rw [List.take_zero]
    exact get0 A l.length cap little a (by omega) hc hlen w
  · obtain ⟨blk, off, rfl⟩ := hr.some_ (by omega)
    have hl : ((l.drop a).take m).length = m := by rw [List.length_take, List.length_drop]; omega
    have hcell : ∀ j, j < m → w.cell? ⟨blk, off + a + j, none⟩ = some (u8 (((l.drop a).take m).getD j 0)) := fun j hj => by
      rw [take_get l a m j hj, Nat.add_assoc]
      exact hr.at2 (a + j) (by omega)
    generalize (l.drop a).take m = s at *
    rcases (by omega : m = 1 ∨ m = 2 ∨ m = 3 ∨ m = 4 ∨ m = 5 ∨ m = 6 ∨ m = 7 ∨ m = 8) with rfl | rfl | rfl | rfl | rfl | rfl | rfl | rfl
    · match s, hl, hcell with
      | [b0], _, hcell => exact get1 blk off _ cap little a b0 h hc hlen w (hcell 0 (by decide))
    · match s, hl, hcell with
      | [b0, b1], _, hcell => exact get2 blk off _ cap little a b0 b1 h hc hlen w (hcell 0 (by decide)) (hcell 1 (by decide))
    · match s, hl, hcell with
      | [b0, b1, b2], _, hcell => exact get3 blk off _ cap little a b0 b1 b2 h hc hlen w (hcell 0 (by decide)) (hcell 1 (by decide)) (hcell 2 (by decide))
    · match s, hl, hcell with
      | [b0, b1, b2, b3], _, hcell => exact get4 blk off _ cap little a b0 b1 b2 b3 h hc hlen w (hcell 0 (by decide)) (hcell 1 (by decide)) (hcell 2 (by decide)) (hcell 3 (by decide))
    · match s, hl, hcell with
      | [b0, b1, b2, b3, b4], _, hcell => exact get5 blk off _ cap little a b0 b1 b2 b3 b4 h hc hlen w (hcell 0 (by decide)) (hcell 1 (by decide)) (hcell 2 (by decide)) (hcell 3 (by decide)) (hcell 4 (by decide))
    · match s, hl, hcell with
      | [b0, b1, b2, b3, b4, b5], _, hcell => exact get6 blk off _ cap little a b0 b1 b2 b3 b4 b5 h hc hlen w (hcell 0 (by decide)) (hcell 1 (by decide)) (hcell 2 (by decide)) (hcell 3 (by decide)) (hcell 4 (by decide)) (hcell 5 (by decide))
    · match s, hl, hcell with
      | [b0, b1, b2, b3, b4, b5, b6], _, hcell => exact get7 blk off _ cap little a b0 b1 b2 b3 b4 b5 b6 h hc hlen w (hcell 0 (by decide)) (hcell 1 (by decide)) (hcell 2 (by decide)) (hcell 3 (by decide)) (hcell 4 (by decide)) (hcell 5 (by decide)) (hcell 6 (by decide))
    · match s, hl, hcell with
      | [b0, b1, b2, b3, b4, b5, b6, b7], _, hcell => exact get8 blk off _ cap little a b0 b1 b2 b3 b4 b5 b6 b7 h hc hlen w (hcell 0 (by decide)) (hcell 1 (by decide)) (hcell 2 (by decide)) (hcell 3 (by decide)) (hcell 4 (by decide)) (hcell 5 (by decide)) (hcell 6 (by decide)) (hcell 7 (by decide))
/-- What Get tells. -/
def GetIf (len : Nat) (a m : Int) : Prop := 0 ≤ a ∧ 0 ≤ m ∧ m ≤ 8 ∧ a ≤ len ∧ m ≤ len - a
instance (len : Nat) (a m : Int) : Decidable (GetIf len a m) := by unfold GetIf; infer_instance
def getN (little : Bool) (l : List UInt8) (a m : Int) : Nat := if GetIf l.length a m then valF little ((l.drop a.toNat).take m.toNat) else 0
def getB (l : List UInt8) (a m : Int) : Bool := decide (GetIf l.length a m)
theorem getN_lt (little : Bool) (l : List UInt8) (a m : Int) : getN little l a m < 18446744073709551616 := by
  unfold getN
  split
  · rename_i h
    exact valF_lt _ _ (by rw [List.length_take]; have := h.2.2.1; omega)
  · decide
theorem get_any (A : Option Addr) (l : List UInt8) (cap : Nat) (little : Bool) (a m : Int) (ha : a ≤ 9223372036854775807) (hc : l.length ≤ cap) (hlen : l.length ≤ 4611686018427387904) (w : World) (hr : Rd w A l) :
    Calls Try.prog 8 #[.agg #[.slice A l.length cap, .bool little], .int .i64 a, .int .i64 m] w fun e w' => e = .returned (.tuple #[.int .u64 (getN little l a m : Nat), .bool (getB l a m)]) ∧ Below w.heap.size w w' := by
  unfold getN getB
  by_cases h : GetIf l.length a m
  · rw [if_pos h, decide_eq_true h]
    obtain ⟨h1, h2, h3, h4, h5⟩ := h
    obtain ⟨a, rfl⟩ := Int.eq_ofNat_of_zero_le h1
    obtain ⟨m, rfl⟩ := Int.eq_ofNat_of_zero_le h2
    exact get_ok A l cap little a m (by omega) (by omega) hc hlen w hr
  · rw [if_neg h, decide_eq_false h]
    by_cases h8 : 0 ≤ a ∧ 0 ≤ m ∧ a ≤ l.length ∧ m ≤ l.length - a
    · obtain ⟨h1, h2, h4, h5⟩ := h8
      have h3 : 8 < m := by
        apply Classical.byContradiction; intro h3; exact h ⟨h1, h2, by omega, h4, h5⟩
      obtain ⟨a, rfl⟩ := Int.eq_ofNat_of_zero_le h1
      obtain ⟨m, rfl⟩ := Int.eq_ofNat_of_zero_le h2
      exact get_big A l.length cap little a m (by omega) hc (by omega) hlen w
    · exact get_no A l.length cap little a m h8 hlen ha w
/-- The document's loop. -/
theorem leNat_snoc (L : List UInt8) (k : Nat) (h : k < L.length) : leNat (L.take (k + 1)) = leNat (L.take k) + (L.getD k 0).toNat * 256 ^ k := by
  rw [List.take_succ_eq_append_getElem h, leNat_app, List.length_take, Nat.min_eq_left (by omega)]
  rw [getD_lt h]
  simp only [leNat]
  rw [Nat.mul_zero, Nat.add_zero, Nat.mul_comm]
def RefG (L : List UInt8) (m : Nat) (n w i : Value) : Prop := ∃ k W N : Nat, k ≤ m ∧ i = .int .i64 k ∧ w = .int .u64 W ∧ n = .int .u64 N ∧ N = leNat (L.take k) ∧ (k < 8 → W = 256 ^ k)
set_option maxHeartbeats 1000000 in
theorem refGet_some (blk off : Nat) (l : List UInt8) (cap : Nat) (little : Bool) (a m : Nat) (hm : m ≤ 8) (h : a + m ≤ l.length) (hlen : l.length ≤ 4611686018427387904) (w : World) (hr : Rd w (some ⟨blk, off, none⟩) l) :
    Calls Try.prog 9 #[.slice (some ⟨blk, off, none⟩) l.length cap, .bool little, .int .i64 a, .int .i64 m] w fun e w' => e = .returned (.tuple #[.int .u64 (valF little ((l.drop a).take m) : Nat), .bool true]) ∧ w = w' := by
  have hl : ((l.drop a).take m).length = m := by rw [List.length_take, List.length_drop]; omega
  obtain ⟨L, hL, hLl⟩ : ∃ L, (if little then (l.drop a).take m else ((l.drop a).take m).reverse) = L ∧ L.length = m := ⟨_, rfl, by split <;> simp [hl]⟩
  have hval : valF little ((l.drop a).take m) = leNat L := by unfold valF; rw [hL]
  rw [hval]
  have hcell : ∀ k : Nat, k < m → w.cell? ⟨blk, off + (if little then a + k else a + m - 1 - k), none⟩ = some (u8 (L.getD k 0)) := fun k hk => by
    rw [← hL]
    cases little
    · rw [if_neg (by decide), if_neg (by decide), rev_get _ _ (by omega), hl, take_get l a m _ (by omega), show a + m - 1 - k = a + (m - 1 - k) by omega]
      exact hr.at2 _ (by omega)
    · rw [if_pos rfl, if_pos rfl, take_get l a m k hk]
      exact hr.at2 (a + k) (by omega)
  have HCE := Lib.hid hcell
  have hLlt := leNat_lt8 L (by omega)
  have HLT := Lib.hid hLlt
  clear hcell hval hL hl hr hLlt
  have g1 : ¬ ((m : Int) < 0) := by omega
  have g2 : ¬ ((8 : Int) < (m : Int)) := by omega
  have g3 : ¬ ((a : Int) < 0) := by omega
  have g4 : ¬ ((l.length : Int) < (a : Int)) := by omega
  have g5 : ¬ ((l.length : Int) - (a : Int) < (m : Int)) := by omega
  have HLL := Lib.hid hLl
  generalize l.length = len at *
  clear hLl
  go_enter Try.func9, Try.ntmps9
  go_wp2
  go_loop [10, 11, 12] (fun n w i => RefG L m n w i) (fun _ _ i => m - (intOf i).toNat)
  case atStart => exact ⟨0, 1, 0, Nat.zero_le _, rfl, rfl, rfl, rfl, fun _ => rfl⟩
  case round =>
    obtain ⟨k, W, N, hk, rfl, rfl, rfl, hN, hW⟩ := hrel
    have hlL := HLL.out
    by_cases hlt : k < m
    · have hW7 := hW (by omega)
      have hsn := leNat_snoc L k (by omega)
      have hle : leNat (L.take (k + 1)) < 18446744073709551616 := leNat_lt8 _ (by rw [List.length_take]; omega)
      have hc := HCE.out k hlt
      obtain ⟨B, hB⟩ : ∃ B : Nat, (L.getD k 0).toNat = B := ⟨_, rfl⟩
      have hB2 : B < 256 := by rw [← hB]; exact UInt8.toNat_lt _
      have hWle : W ≤ 72057594037927936 := by rw [hW7]; exact Nat.le_trans (Nat.pow_le_pow_right (by decide) (by omega : k ≤ 7)) (by decide)
      obtain ⟨P, hP⟩ : ∃ P : Nat, B * W = P := ⟨_, rfl⟩
      have hPi : (B : Int) * (W : Int) = (P : Int) := by rw [← hP]; simp
      have hsum : leNat (L.take (k + 1)) = N + P := by rw [hsn, hN, ← hP, hB, hW7]
      have hPN : N + P < 18446744073709551616 := by omega
      have hPN1 : (N : Int) + (P : Int) < 18446744073709551616 := by omega
      have hw256 : IntKind.u64.wrap (256 * (W : Int)) = ((256 * W % 18446744073709551616 : Nat) : Int) := by rw [IntKind.wrap_u64]; omega
      have hnx : k + 1 < 8 → 256 * W % 18446744073709551616 = 256 ^ (k + 1) := fun h8 => by
        have : W ≤ 281474976710656 := by rw [hW7]; exact Nat.le_trans (Nat.pow_le_pow_right (by decide) (by omega : k ≤ 6)) (by decide)
        rw [Nat.mod_eq_of_lt (by omega), hW7, Nat.pow_succ, Nat.mul_comm]
      generalize 256 * W % 18446744073709551616 = W2 at *
      have HNX := Lib.hid hnx; have HS := Lib.hid hsum
      rw [show u8 (L.getD k 0) = .int .u8 (B : Int) by rw [← hB]] at hc
      clear hnx hsum hsn hW7 hW hle hP hB hN hlL
      cases little
      · obtain ⟨q, hq, hq2⟩ : ∃ q : Nat, (a : Int) + (m : Int) - 1 - (k : Int) = (q : Int) ∧ q = a + m - 1 - k := ⟨a + m - 1 - k, by omega, rfl⟩
        rw [if_neg (by decide), ← hq2] at hc
        have hq3 : (q : Int) < (len : Int) := by omega
        clear hq2
        go_wp2
        go_round
        case rel => exact ⟨k + 1, W2, N + P, by omega, by go_num, rfl, by go_num, HS.out.symm, HNX.out⟩
        case measure => simp [intOf]; omega
      · obtain ⟨q, hq, hq2⟩ : ∃ q : Nat, (a : Int) + (k : Int) = (q : Int) ∧ q = a + k := ⟨a + k, by omega, rfl⟩
        rw [if_pos rfl, ← hq2] at hc
        have hq3 : (q : Int) < (len : Int) := by omega
        clear hq2
        go_wp2
        go_round
        case rel => exact ⟨k + 1, W2, N + P, by omega, by go_num, rfl, by go_num, HS.out.symm, HNX.out⟩
        case measure => simp [intOf]; omega
    · have hk' : k = m := by omega
      have HE := Lib.hid (show N = leNat L by rw [hN, List.take_of_length_le (by omega)])
      clear hN hW hlL
      go_wp2
      go_ret2
      exact ⟨by rw [← HE.out]; rfl, rfl⟩
end Go.Proofs.Ytbmifinomdcllaa
