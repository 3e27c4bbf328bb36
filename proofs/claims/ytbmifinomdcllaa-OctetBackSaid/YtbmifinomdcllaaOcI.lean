
/-
  Octet: the document's bytes of a number.
-/
import Derived.Test.YtbmifinomdcllaaOcH

namespace Go.Proofs.Ytbmifinomdcllaa

open Go.RowKit Go.Lib

set_option maxRecDepth 100000

/-- What the loop holds: k bytes are written. -/
def halfV (little : Bool) (L : List UInt8) (m k : Nat) : List Value := if little then (L.take k).map u8 ++ zerosV (m - k) else zerosV (m - k) ++ ((L.take k).reverse).map u8
theorem halfV_0 (little : Bool) (L : List UInt8) (m : Nat) : halfV little L m 0 = zerosV m := by unfold halfV; cases little <;> simp
theorem halfV_len (little : Bool) (L : List UInt8) (m k : Nat) (hL : L.length = m) (hk : k ≤ m) : (halfV little L m k).length = m := by
  unfold halfV; cases little <;> simp [zerosV] <;> omega
theorem halfV_end (little : Bool) (L : List UInt8) (m : Nat) (hL : L.length = m) : halfV little L m m = (if little then L else L.reverse).map u8 := by
  unfold halfV; rw [List.take_of_length_le (by omega), Nat.sub_self]; cases little <;> simp [zerosV]
theorem zeros_succ (k : Nat) : zerosV (k + 1) = .int .u8 0 :: zerosV k := rfl
theorem zeros_snoc (k : Nat) : zerosV (k + 1) = zerosV k ++ [.int .u8 0] := by unfold zerosV; rw [List.replicate_succ']
theorem halfV_lit (L : List UInt8) (m k : Nat) (hL : L.length = m) (hk : k < m) : (halfV true L m k).set k (u8 (L.getD k 0)) = halfV true L m (k + 1) := by
  unfold halfV
  rw [if_pos rfl, if_pos rfl, show m - k = (m - (k + 1)) + 1 by omega, zeros_succ]
  have hl : ((L.take k).map u8).length = k := by simp; omega
  rw [List.set_append_right _ _ (by omega), hl, Nat.sub_self, List.set_cons_zero, List.take_succ_eq_append_getElem (by omega), getD_lt (by omega), List.map_append, List.append_assoc]
  rfl
theorem halfV_big (L : List UInt8) (m k : Nat) (hL : L.length = m) (hk : k < m) : (halfV false L m k).set (m - 1 - k) (u8 (L.getD k 0)) = halfV false L m (k + 1) := by
  unfold halfV
  rw [if_neg (by decide), if_neg (by decide), show m - k = (m - (k + 1)) + 1 by omega, zeros_snoc, List.append_assoc]
  have hl : (zerosV (m - (k + 1))).length = m - 1 - k := by simp [zerosV]; omega
  rw [List.set_append_right _ _ (by omega), hl, Nat.sub_self, List.take_succ_eq_append_getElem (by omega), getD_lt (by omega), List.reverse_append, List.map_append]
  rfl
theorem leB_getD (m n k : Nat) (hk : k < m) : ((Lib.leBytes m n).getD k 0).toNat = n / 256 ^ k % 256 := by
  induction m generalizing n k with
  | zero => omega
  | succ m ih =>
    cases k with
    | zero => simp [Lib.leBytes]
    | succ k =>
      simp only [Lib.leBytes, List.getD_cons_succ]
      rw [ih (n / 256) k (by omega), Nat.div_div_eq_div_mul, Nat.pow_succ, Nat.mul_comm]
def RputR (little : Bool) (m n : Nat) (w : World) (v i : Value) (wr : World) : Prop := ∃ k : Nat, k ≤ m ∧ i = .int .i64 k ∧ v = .int .u64 ((n / 256 ^ k : Nat) : Int) ∧ Blk wr w.heap.size (halfV little (Lib.leBytes m n) m k).toArray 5 ∧ Below w.heap.size w wr
set_option maxHeartbeats 2000000 in
theorem refPut_any (little : Bool) (n : Nat) (hn : n < 18446744073709551616) (m : Nat) (hm : m ≤ 8) (w : World) :
    Calls Try.prog 16 #[.int .u64 n, .bool little, .int .i64 m] w fun e w' => e = .returned (.slice (some ⟨w.heap.size, 0, none⟩) m m) ∧ Rd w' (some ⟨w.heap.size, 0, none⟩) (bytesF little m n) ∧ Below w.heap.size w w' := by
  have hmk := fun w => make_u8 m (by omega) w
  have hm8 : (m : Int) ≤ 8 := by omega
  have HL := Lib.hid (leBytes_length m n)
  obtain ⟨nv, hnv⟩ : ∃ nv : Int, (n : Int) = nv := ⟨_, rfl⟩
  have hst : RputR little m n w (.int .u64 nv) (.int .i64 0) (w.alloc (.cells (zerosV m).toArray 5)) := by
    refine ⟨0, Nat.zero_le _, rfl, by rw [← hnv]; simp, ?_, (Below.refl _ w).alloc (Nat.le_refl _) _⟩
    rw [halfV_0]; exact Blk.new rfl
  have HST := Lib.hid hst
  rw [hnv]
  have HN := Lib.hid hn
  clear hst hnv hn
  go_enter Try.func16, Try.ntmps16
  go_wp2
  go_loopw [0, 8] (fun v i wr => RputR little m n w v i wr) (fun _ i _ => m - (intOf i).toNat)
  case atStart => exact HST.out
  case round =>
    obtain ⟨wo, rfl⟩ : ∃ wo : World, wo = wr := ⟨_, rfl⟩
    obtain ⟨k, hk, rfl, rfl, hb, hbe⟩ := hrel
    by_cases hlt : k < m
    · have hlen := halfV_len little (Lib.leBytes m n) m k HL.out (by omega)
      have hg : (Lib.leBytes m n).getD k 0 = ((n / 256 ^ k) % 256).toUInt8 := UInt8.toNat.inj (by rw [leB_getD m n k hlt, toUInt8_mod])
      have hv : u8 ((Lib.leBytes m n).getD k 0) = .int .u8 (((n / 256 ^ k : Nat) : Int) % 256) := by rw [hg, u8, toUInt8_mod]; rfl
      have hnx : n / 256 ^ (k + 1) = n / 256 ^ k / 256 := by rw [Nat.pow_succ, Nat.div_div_eq_div_mul]
      have HNX := Lib.hid hnx
      have hNb : ((n / 256 ^ k : Nat) : Int) < 18446744073709551616 := by have h1 : n / 256 ^ k ≤ n := Nat.div_le_self _ _; have h2 := HN.out; omega
      have HB := Lib.hid hb; have HBE := Lib.hid hbe
      have hz := lt_of_block hb
      have hc2 := HL.out
      cases little
      · have hs := halfV_big (Lib.leBytes m n) m k HL.out hlt
        rw [hv] at hs
        obtain ⟨q, hq, hq2⟩ : ∃ q : Nat, (m : Int) - 1 - (k : Int) = (q : Int) ∧ q = m - 1 - k := ⟨m - 1 - k, by omega, rfl⟩
        have hqm : (q : Int) < (m : Int) := by omega
        rw [← hq2] at hs
        have hcell : wo.cell? ⟨w.heap.size, q, none⟩ = some ((halfV false (Lib.leBytes m n) m k)[q]'(by rw [hlen]; omega)) := by rw [hb.cell]; simp [show q < (halfV false (Lib.leBytes m n) m k).length by rw [hlen]; omega]
        have hfr := hb.free q
        have HS := Lib.hid hs
        generalize (halfV false (Lib.leBytes m n) m k)[q]'(by rw [hlen]; omega) = old at *
        clear hs hq2 hnx hv hg hb hbe hlen hc2
        generalize n / 256 ^ k = N at *
        go_wp2
        go_roundw
        case rel => exact ⟨k + 1, by omega, by go_num, by rw [HNX.out]; rfl, by rw [← HS.out]; have h := Blk.put HB.out (i := q) (.int .u8 ((N : Int) % 256)); rw [List.setIfInBounds_toArray] at h; exact h, Below.setCell HBE.out (p := ⟨w.heap.size, q, none⟩) (Nat.le_refl _) _⟩
        case measure => simp [intOf]; omega
      · have hs := halfV_lit (Lib.leBytes m n) m k HL.out hlt
        rw [hv] at hs
        have hcell : wo.cell? ⟨w.heap.size, k, none⟩ = some ((halfV true (Lib.leBytes m n) m k)[k]'(by rw [hlen]; omega)) := by rw [hb.cell]; simp [show k < (halfV true (Lib.leBytes m n) m k).length by rw [hlen]; omega]
        have hfr := hb.free k
        have HS := Lib.hid hs
        generalize (halfV true (Lib.leBytes m n) m k)[k]'(by rw [hlen]; omega) = old at *
        clear hs hnx hv hg hb hbe hlen hc2
        generalize n / 256 ^ k = N at *
        go_wp2
        go_roundw
        case rel => exact ⟨k + 1, by omega, by go_num, by rw [HNX.out]; rfl, by rw [← HS.out]; have h := Blk.put HB.out (i := k) (.int .u8 ((N : Int) % 256)); rw [List.setIfInBounds_toArray] at h; exact h, Below.setCell HBE.out (p := ⟨w.heap.size, k, none⟩) (Nat.le_refl _) _⟩
        case measure => simp [intOf]; omega
    · have hk' : k = m := by omega
      subst hk'
      rw [halfV_end little _ _ HL.out] at hb
      have HB := Lib.hid hb; have HBE := Lib.hid hbe
      clear hb hbe
      go_wp2
      go_ret
      exact ⟨rfl, rd_of_blk HB.out, HBE.out⟩
end Go.Proofs.Ytbmifinomdcllaa
