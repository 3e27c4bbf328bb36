
/-
  Octet: the checksum of parts.
-/
import Derived.Test.YtbmifinomdcllaaOcK

namespace Go.Proofs.Ytbmifinomdcllaa

open Go.RowKit Go.Lib

set_option maxRecDepth 100000

/-- A part: its address, its bytes, its room. -/
abbrev Part := Option Addr × List UInt8 × Nat
def partV (p : Part) : Value := .slice p.1 p.2.1.length p.2.2
def Rows2 (w : World) (P : Option Addr) (ps : List Part) : Prop := ps ≠ [] → ∃ blk off, P = some ⟨blk, off, none⟩ ∧ ∀ j p, ps[j]? = some p → w.cell? ⟨blk, off + j, none⟩ = some (partV p) ∧ Rd w p.1 p.2.1
def flatP (ps : List Part) : List UInt8 := ps.flatMap (·.2.1)
theorem flatP_snoc (ps : List Part) (k : Nat) (h : k < ps.length) : flatP (ps.take (k + 1)) = flatP (ps.take k) ++ ps[k].2.1 := by
  unfold flatP; rw [List.take_succ_eq_append_getElem h, List.flatMap_append]; simp
theorem flatP_le (ps : List Part) (k : Nat) : (flatP (ps.take k)).length ≤ (flatP ps).length := by
  conv => rhs; rw [← List.take_append_drop k ps]
  unfold flatP; rw [List.flatMap_append, List.length_append]; omega
theorem Rows2.below {w w' : World} {P : Option Addr} {ps : List Part} (h : Rows2 w P ps) (hb : Below w.heap.size w w') : Rows2 w' P ps := fun hl => by
  obtain ⟨blk, off, hA, hc⟩ := h hl
  exact ⟨blk, off, hA, fun j x hx => ⟨(hb.cell (World.block_lt_of_cell? _ _ (hc j x hx).1)).trans (hc j x hx).1, (hc j x hx).2.below hb⟩⟩
/-- The sum so far, and where the next byte goes. -/
def shV (hi : Bool) : Value := .int .i64 (if hi then 8 else 0)
def SumR (l : List UInt8) (t s : Value) : Prop := t = .int .u64 ((sumP true l : Nat) : Int) ∧ s = shV (flipN true l.length)
def SumO (ps : List Part) (t s i : Value) : Prop := ∃ k : Nat, k ≤ ps.length ∧ i = .int .i64 k ∧ SumR (flatP (ps.take k)) t s
def SumI (d l : List UInt8) (t s i : Value) : Prop := ∃ j : Nat, j ≤ l.length ∧ i = .int .i64 j ∧ SumR (d ++ l.take j) t s
def SumF (T : Nat) (t : Value) : Prop := ∃ n : Nat, t = .int .u64 n ∧ n < 18446744073709551616 ∧ ck n = ck T
theorem and16I (t : Nat) (ht : t < 18446744073709551616) : bits .and .u64 (t : Int) 65535 = ((t % 65536 : Nat) : Int) := by
  have h : bits .and .u64 (t : Int) ((65535 : Nat) : Int) = _ := and64 t 65535 ht (by decide)
  rw [and16] at h
  exact h
theorem not16 (t : Nat) (h : t ≤ 65535) : bits .xor .u16 65535 (t : Int) = ((65535 - t : Nat) : Int) := by
  show IntKind.u16.wrap ((BitVec.ofInt 16 65535 ^^^ BitVec.ofInt 16 (t : Int)).toNat : Int) = _
  have h1 : BitVec.ofInt 16 65535 = BitVec.allOnes 16 := by decide
  rw [h1, BitVec.allOnes_xor, BitVec.toNat_not, BitVec.ofInt_natCast, BitVec.toNat_ofNat, Nat.mod_eq_of_lt (by omega), IntKind.wrap_u16]
  omega
set_option maxHeartbeats 4000000 in
theorem sum_any (P : Option Addr) (ps : List Part) (cap : Nat) (hlen : (flatP ps).length ≤ 1099511627776) (hn : ps.length ≤ 4611686018427387904) (hln : ∀ p ∈ ps, p.2.1.length ≤ 4611686018427387904) (w : World) (hr : Rows2 w P ps) :
    Calls Try.prog 17 #[.slice P ps.length cap] w fun e w' => e = .returned (.int .u16 (ck (sumP true (flatP ps)) : Nat)) ∧ w = w' := by
  have HR := Lib.hid hr
  have hst : SumO ps (.int .u64 0) (.int .i64 8) (.int .i64 0) := ⟨0, Nat.zero_le _, rfl, rfl, rfl⟩
  have HST := Lib.hid hst
  have HLN := Lib.hid hln
  clear hr hst hln
  go_enter Try.func17, Try.ntmps17
  go_wp2
  go_loop [3, 4, 11] (fun t s i => SumO ps t s i) (fun _ _ i => ps.length - (intOf i).toNat)
  case atStart => exact HST.out
  case round =>
    obtain ⟨k, hk, rfl, hS⟩ := hrel
    by_cases hlt : k < ps.length
    · obtain ⟨blk, off, rfl, hcs⟩ := HR.out (by intro e; subst e; simp at hlt)
      obtain ⟨hc, hrd⟩ := hcs k _ (List.getElem?_eq_getElem hlt)
      have hsn := flatP_snoc ps k hlt
      have hle := flatP_le ps (k + 1)
      have hpl := HLN.out _ (List.getElem_mem hlt)
      obtain ⟨⟨A, l, c⟩, hp⟩ : ∃ p : Part, ps[k] = p := ⟨_, rfl⟩
      rw [hp] at hc hrd hsn hpl
      dsimp only at hrd hsn hpl
      rw [hsn, List.length_append] at hle
      have HSN := Lib.hid hsn; have HRD := Lib.hid hrd
      have hltI : (k : Int) < (ps.length : Int) := by omega
      generalize flatP (ps.take k) = d at *
      have hd40 : d.length + l.length ≤ 1099511627776 := by omega
      have hcell : w.cell? ⟨blk, off + k, none⟩ = some (.slice A l.length c) := hc
      have hl62 : (l.length : Int) ≤ 4611686018427387904 := by have : l.length ≤ 4611686018427387904 := hpl; omega
      clear hc hcs hsn hrd hp hle hpl
      go_wp2
      go_loop [3, 4, 17] (fun t s i => SumI d l t s i) (fun _ _ i => l.length - (intOf i).toNat)
      case atStart => exact ⟨0, Nat.zero_le _, rfl, by rw [List.take_zero, List.append_nil]; exact hS⟩
      case round =>
        obtain ⟨j, hj, rfl, rfl, rfl⟩ := hrel
        by_cases hjl : j < l.length
        · obtain ⟨b2, o2, rfl⟩ := HRD.out.some_ (by omega)
          have hx := HRD.out.at3 j hjl
          have happ : d ++ l.take (j + 1) = (d ++ l.take j) ++ [l.getD j 0] := by rw [List.take_succ_eq_append_getElem hjl, getD_lt hjl, List.append_assoc]
          have hsum := sumP_app true (d ++ l.take j) [l.getD j 0]
          rw [← happ, sumP_one] at hsum
          have hfl : flipN true (d ++ l.take (j + 1)).length = !flipN true (d ++ l.take j).length := by rw [happ, List.length_append, List.length_singleton, flipN_succ]
          have hbd := sumP_le true (d ++ l.take (j + 1))
          have hlen2 : (d ++ l.take (j + 1)).length ≤ 1099511627776 := by rw [List.length_append, List.length_take]; omega
          have hb2 : (l.getD j 0).toNat < 256 := UInt8.toNat_lt _
          generalize (l.getD j 0).toNat = B at *
          generalize flipN true (d ++ l.take j).length = hi at *
          have hbd2 : sumP true (d ++ l.take (j + 1)) < 18446744073709551616 := by omega
          generalize sumP true (d ++ l.take j) = S at *
          have hSI : (S : Int) < 18446744073709551616 := by omega
          have hjI : (j : Int) < (l.length : Int) := by omega
          have HF := Lib.hid hfl; have HSUM := Lib.hid hsum
          clear happ hfl hbd hlen2
          cases hi
          · rw [if_neg (by decide)] at hsum
            have hSB : (S : Int) + (B : Int) < 18446744073709551616 := by omega
            have hBI : (B : Int) < 256 := by omega
            clear hsum hbd2
            rw [show shV false = .int .i64 0 from rfl]
            go_wp2
            go_round
            case rel => exact ⟨j + 1, by omega, by go_num, by rw [HSUM.out]; rfl, by rw [HF.out]; rfl⟩
            case measure => simp [intOf]; omega
          · rw [if_pos rfl] at hsum
            have hSB : (S : Int) + (B : Int) * 256 < 18446744073709551616 := by omega
            have hBI : (B : Int) < 256 := by omega
            clear hsum hbd2
            rw [show shV true = .int .i64 8 from rfl]
            go_wp2
            go_round
            case rel => exact ⟨j + 1, by omega, by go_num, by rw [HSUM.out]; rfl, by rw [HF.out]; rfl⟩
            case measure => simp [intOf]; omega
        · have hj' : j = l.length := by omega
          have HE := Lib.hid (show d ++ l.take j = flatP (ps.take (k + 1)) by rw [HSN.out, List.take_of_length_le (by omega)])
          rw [HE.out]
          have HSS := Lib.hid (show SumR (flatP (ps.take (k + 1))) (.int .u64 ((sumP true (flatP (ps.take (k + 1))) : Nat) : Int)) (shV (flipN true (flatP (ps.take (k + 1))).length)) from ⟨rfl, rfl⟩)
          generalize ((sumP true (flatP (ps.take (k + 1))) : Nat) : Int) = tv at *
          generalize shV (flipN true (flatP (ps.take (k + 1))).length) = sv at *
          go_wp2
          go_round
          case rel => exact ⟨k + 1, by omega, by go_num, HSS.out⟩
          case measure => simp [intOf]; omega
    · have hk' : k = ps.length := by omega
      obtain ⟨rfl, rfl⟩ := hS
      rw [List.take_of_length_le (by omega)]
      have hbd := sumP_le true (flatP ps)
      obtain ⟨S, hSe⟩ : ∃ S, sumP true (flatP ps) = S := ⟨_, rfl⟩
      have hS2 : S < 18446744073709551616 := by omega
      rw [hSe]
      generalize shV (flipN true (flatP ps).length) = sv at *
      have HSE := Lib.hid hSe
      have HSF := Lib.hid (show SumF S (.int .u64 (S : Int)) from ⟨S, rfl, hS2, rfl⟩)
      clear hSe hbd hS2
      go_wp2
      go_loop [3] (fun t => SumF S t) (fun t => (intOf t).toNat)
      case atStart => exact HSF.out
      case round =>
        obtain ⟨t, rfl, ht, hck⟩ := hrel
        have htI : (t : Int) < 18446744073709551616 := by omega
        by_cases hb : 65535 < t
        · have hbI : (65535 : Int) < (t : Int) := by omega
          have ha := and16I t ht
          have HN := Lib.hid (show ck (t / 65536 + t % 65536) = ck S by rw [ck_fold, hck])
          have HT := Lib.hid (show t / 65536 + t % 65536 < t ∧ t / 65536 + t % 65536 < 18446744073709551616 by omega)
          clear hck
          go_wp2
          go_round
          case rel => exact ⟨t / 65536 + t % 65536, by first | rfl | go_num, HT.out.2, HN.out⟩
          case measure => simp [intOf]; have := HT.out.1; omega
        · have hbI : ¬ (65535 : Int) < (t : Int) := by omega
          have HC := Lib.hid (show ck S = 65535 - t by rw [← hck, ck_small t (by omega)])
          have HB := Lib.hid hb
          have hb3 : (t : Int) < 65536 := by omega
          have HX := Lib.hid (show bits .xor .u16 IntKind.u16.max (t : Int) = ((65535 - t : Nat) : Int) from not16 t (by omega))
          generalize 65535 - t = r at *
          clear hck ht hb htI hb3 hbI
          have hbI : ¬ (65535 : Int) < (t : Int) := by have := HB.out; omega
          have hbJ : ((t : Int) % 65536) = (t : Int) := by omega
          go_wp2
          go_ret
          exact ⟨by rw [HSE.out, HC.out]; exact ret_i HX.out, rfl⟩
end Go.Proofs.Ytbmifinomdcllaa
