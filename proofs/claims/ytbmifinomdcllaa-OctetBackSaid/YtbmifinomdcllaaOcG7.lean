
/-
  Octet: Put of 7 bytes. (Written by tools/gen_ocG.py.)
-/
import Derived.Test.YtbmifinomdcllaaOcG

namespace Go.Proofs.Ytbmifinomdcllaa

open Go.RowKit Go.Lib

set_option maxRecDepth 100000

theorem fill7 {cs : List Value} {len : Nat} (hl : cs.length = len) (v0 v1 v2 v3 v4 v5 v6 : Value) : ((((((((cs ++ zerosV 7).toArray.setIfInBounds (len + 6) v6).setIfInBounds (len + 5) v5).setIfInBounds (len + 4) v4).setIfInBounds (len + 3) v3).setIfInBounds (len + 2) v2).setIfInBounds (len + 1) v1).setIfInBounds (len) v0) = (cs ++ [v0, v1, v2, v3, v4, v5, v6]).toArray := by
  subst hl
  show ((((((((cs ++ [Value.int .u8 0, Value.int .u8 0, Value.int .u8 0, Value.int .u8 0, Value.int .u8 0, Value.int .u8 0, Value.int .u8 0]).toArray.setIfInBounds (cs.length + 6) v6).setIfInBounds (cs.length + 5) v5).setIfInBounds (cs.length + 4) v4).setIfInBounds (cs.length + 3) v3).setIfInBounds (cs.length + 2) v2).setIfInBounds (cs.length + 1) v1).setIfInBounds (cs.length) v0) = _
  simp
theorem vals7 (N : Nat) : [Value.int .u8 ((N : Int) % 256), Value.int .u8 ((N : Int) / 256 % 256), Value.int .u8 ((N : Int) / 65536 % 256), Value.int .u8 ((N : Int) / 16777216 % 256), Value.int .u8 ((N : Int) / 4294967296 % 256), Value.int .u8 ((N : Int) / 1099511627776 % 256), Value.int .u8 ((N : Int) / 281474976710656 % 256)] = (Lib.leBytes 7 N).map u8 := by
  show _ = [u8 (N % 256).toUInt8, u8 (N / 256 % 256).toUInt8, u8 (N / 256 / 256 % 256).toUInt8, u8 (N / 256 / 256 / 256 % 256).toUInt8, u8 (N / 256 / 256 / 256 / 256 % 256).toUInt8, u8 (N / 256 / 256 / 256 / 256 / 256 % 256).toUInt8, u8 (N / 256 / 256 / 256 / 256 / 256 / 256 % 256).toUInt8]
  have h0 : ((N : Int) % 256) = (((N % 256).toUInt8).toNat : Int) := by rw [toUInt8_mod]; omega
  have h1 : ((N : Int) / 256 % 256) = (((N / 256 % 256).toUInt8).toNat : Int) := by rw [toUInt8_mod]; omega
  have h2 : ((N : Int) / 65536 % 256) = (((N / 256 / 256 % 256).toUInt8).toNat : Int) := by rw [toUInt8_mod]; omega
  have h3 : ((N : Int) / 16777216 % 256) = (((N / 256 / 256 / 256 % 256).toUInt8).toNat : Int) := by rw [toUInt8_mod]; omega
  have h4 : ((N : Int) / 4294967296 % 256) = (((N / 256 / 256 / 256 / 256 % 256).toUInt8).toNat : Int) := by rw [toUInt8_mod]; omega
  have h5 : ((N : Int) / 1099511627776 % 256) = (((N / 256 / 256 / 256 / 256 / 256 % 256).toUInt8).toNat : Int) := by rw [toUInt8_mod]; omega
  have h6 : ((N : Int) / 281474976710656 % 256) = (((N / 256 / 256 / 256 / 256 / 256 / 256 % 256).toUInt8).toNat : Int) := by rw [toUInt8_mod]; omega
  rw [h0, h1, h2, h3, h4, h5, h6]
set_option maxHeartbeats 4000000 in
theorem put7 (A : Option Addr) (l : List UInt8) (len cap T : Nat) (hl : l.length = len) (hT : len + 7 = T) (little : Bool) (n : Nat) (hlen : len ≤ 1048576) (w : World) (hr : Rd w A l)
    (N : Nat) (hord : ∀ w, Calls Try.prog 22 #[.agg #[.slice A len cap, .bool little], .int .u64 n, .int .i64 7] w fun e w' => e = .returned (.int .u64 N) ∧ Below w.heap.size w w') :
    Calls Try.prog 15 #[.agg #[.slice A len cap, .bool little], .int .u64 n, .int .i64 7] w fun e w' => e = .returned (.agg #[.slice (some ⟨w.heap.size + 1 + 1, 0, none⟩) T T, .bool little]) ∧ Rd w' (some ⟨w.heap.size + 1 + 1, 0, none⟩) (l ++ Lib.leBytes 7 N) ∧ Below w.heap.size w w' := by
  have hmk := fun w => make_u8 T (by omega) w
  obtain ⟨cs, hcs, hcl, hfit, hone, hsrc⟩ := src_of hr hl (show len ≤ T by omega)
  have HCS := Lib.hid hcs; have HCL := Lib.hid hcl; have HFIT := Lib.hid hfit; have HONE := Lib.hid hone; have HSRC := Lib.hid hsrc
  have HLEN := Lib.hid (show cs.length = len by rw [hcs, List.length_map, hl])
  clear hcs hcl hfit hone hsrc
  have HO := Lib.hid hord
  have hsum : (len : Int) + 7 = (T : Int) := by omega
  have hlT : (len : Int) ≤ (T : Int) := by omega
  have hneT : ¬ (T = len) := by omega
  have hTl : T - len = 7 := by omega
  have HSP := Lib.hid (show splice (zerosV T) 0 cs = cs ++ zerosV 7 by unfold splice zerosV; rw [List.take_zero, List.nil_append, Nat.zero_add, HLEN.out, List.drop_replicate, hTl])
  have HSZ := Lib.hid (show (cs ++ zerosV 7).toArray.size = len + 7 by simp [zerosV, HLEN.out])
  clear hr hl hord hT
  go_enter Try.func15, Try.ntmps15
  go_wp2_with (first
    | (go_at_call 21; refine (fits_any _ _).mono ?_; rintro e w' ⟨rfl, rfl⟩)
    | ((refine wpList_copy_splice rfl (.tmp 20) (.tmp 22) 22 22 rfl 5 Try.underlying22 (by kernel_rfl) (some ⟨w.heap.size + 1 + 1, 0, none⟩) A T T len cap rfl rfl (w.heap.size + 1 + 1) 0 (zerosV T) 5 (show Blk _ _ _ _ from Blk.new (by simp)) cs HCL.out (fun hp => ⟨rfl, HSRC.out _ ((((Below.refl _ w).alloc (Nat.le_refl _) _).alloc (by simp) _).alloc (by simp; omega) _) hp⟩) HFIT.out HONE.out ((w.alloc (.cells #[.slice A len cap, .bool little] 25)).alloc (.cells #[.slice none 0 0, .bool false] 25)).heap.size ((w.alloc (.cells #[.slice A len cap, .bool little] 25)).alloc (.cells #[.slice none 0 0, .bool false] 25)) ((Below.refl _ _).alloc (Nat.le_refl _) _) (by simp) ?_); intro w4 hg4 hb4; have HG4 := Lib.hid (show Blk w4 (w.heap.size + 1 + 1) (cs ++ zerosV 7).toArray 5 by have h := hg4.out; rw [HSP.out] at h; exact h); clear hg4; rw [HLEN.out]; have HROW := Lib.hid (Blk.keep hb4 ((Blk.new rfl).old _)); have hrow := HROW.out.two; have HRES := Lib.hid (show Blk w4 (w.heap.size + 1) #[.slice none 0 0, .bool false] 25 from Blk.keep hb4 (Blk.new (by simp))); have hz4 := (lt_of_block HG4.out); have HB4 := Lib.hid hb4; clear hb4)
    | (go_at_call 22; refine (HO.out _).mono ?_; rintro e w5 ⟨rfl, hb5⟩; have hg5 := Blk.keep hb5 HG4.out; have HROW5 := Lib.hid (Blk.keep hb5 HROW.out); have HRES5 := Lib.hid (Blk.keep hb5 HRES.out); have hz5 := lt_of_block hg5; have HG5 := Lib.hid hg5; clear hg5; have HB5 := Lib.hid (HB4.out.trans (hb5.mono HB4.out.size)); clear hb5; clear hrow)
    | ((refine at_put rfl 5 (.tmp 55) (.tmp 54) rfl rfl (w.heap.size + 1 + 1) (len + 6) (.int .u8 ((N : Int) / 281474976710656 % 256)) rfl rfl rfl 5 _ HG5.out (by (try simp only [Array.size_setIfInBounds]); rw [HSZ.out]; omega) (by kernel_rfl) ((w.alloc (.cells #[.slice A len cap, .bool little] 25)).alloc (.cells #[.slice none 0 0, .bool false] 25)) HB5.out (by simp) ?_); intro ws6 hg6 hb6 ho6; have HGs6 := Lib.hid hg6; have HBs6 := Lib.hid hb6; have HROWs6 := Lib.hid (ho6 _ _ _ (by simp; omega) HROW5.out); have HRESs6 := Lib.hid (ho6 _ _ _ (by simp) HRES5.out); clear hg6 hb6 ho6 HG5 HB5 HROW5 HRES5; skip)
    | ((refine at_put rfl 5 (.tmp 60) (.tmp 59) rfl rfl (w.heap.size + 1 + 1) (len + 5) (.int .u8 ((N : Int) / 1099511627776 % 256)) rfl rfl rfl 5 _ HGs6.out (by (try simp only [Array.size_setIfInBounds]); rw [HSZ.out]; omega) (by kernel_rfl) ((w.alloc (.cells #[.slice A len cap, .bool little] 25)).alloc (.cells #[.slice none 0 0, .bool false] 25)) HBs6.out (by simp) ?_); intro ws5 hg6 hb6 ho6; have HGs5 := Lib.hid hg6; have HBs5 := Lib.hid hb6; have HROWs5 := Lib.hid (ho6 _ _ _ (by simp; omega) HROWs6.out); have HRESs5 := Lib.hid (ho6 _ _ _ (by simp) HRESs6.out); clear hg6 hb6 ho6 HGs6 HBs6 HROWs6 HRESs6; skip)
    | ((refine at_put rfl 5 (.tmp 65) (.tmp 64) rfl rfl (w.heap.size + 1 + 1) (len + 4) (.int .u8 ((N : Int) / 4294967296 % 256)) rfl rfl rfl 5 _ HGs5.out (by (try simp only [Array.size_setIfInBounds]); rw [HSZ.out]; omega) (by kernel_rfl) ((w.alloc (.cells #[.slice A len cap, .bool little] 25)).alloc (.cells #[.slice none 0 0, .bool false] 25)) HBs5.out (by simp) ?_); intro ws4 hg6 hb6 ho6; have HGs4 := Lib.hid hg6; have HBs4 := Lib.hid hb6; have HROWs4 := Lib.hid (ho6 _ _ _ (by simp; omega) HROWs5.out); have HRESs4 := Lib.hid (ho6 _ _ _ (by simp) HRESs5.out); clear hg6 hb6 ho6 HGs5 HBs5 HROWs5 HRESs5; skip)
    | ((refine at_put rfl 5 (.tmp 70) (.tmp 69) rfl rfl (w.heap.size + 1 + 1) (len + 3) (.int .u8 ((N : Int) / 16777216 % 256)) rfl rfl rfl 5 _ HGs4.out (by (try simp only [Array.size_setIfInBounds]); rw [HSZ.out]; omega) (by kernel_rfl) ((w.alloc (.cells #[.slice A len cap, .bool little] 25)).alloc (.cells #[.slice none 0 0, .bool false] 25)) HBs4.out (by simp) ?_); intro ws3 hg6 hb6 ho6; have HGs3 := Lib.hid hg6; have HBs3 := Lib.hid hb6; have HROWs3 := Lib.hid (ho6 _ _ _ (by simp; omega) HROWs4.out); have HRESs3 := Lib.hid (ho6 _ _ _ (by simp) HRESs4.out); clear hg6 hb6 ho6 HGs4 HBs4 HROWs4 HRESs4; skip)
    | ((refine at_put rfl 5 (.tmp 75) (.tmp 74) rfl rfl (w.heap.size + 1 + 1) (len + 2) (.int .u8 ((N : Int) / 65536 % 256)) rfl rfl rfl 5 _ HGs3.out (by (try simp only [Array.size_setIfInBounds]); rw [HSZ.out]; omega) (by kernel_rfl) ((w.alloc (.cells #[.slice A len cap, .bool little] 25)).alloc (.cells #[.slice none 0 0, .bool false] 25)) HBs3.out (by simp) ?_); intro ws2 hg6 hb6 ho6; have HGs2 := Lib.hid hg6; have HBs2 := Lib.hid hb6; have HROWs2 := Lib.hid (ho6 _ _ _ (by simp; omega) HROWs3.out); have HRESs2 := Lib.hid (ho6 _ _ _ (by simp) HRESs3.out); clear hg6 hb6 ho6 HGs3 HBs3 HROWs3 HRESs3; skip)
    | ((refine at_put rfl 5 (.tmp 80) (.tmp 79) rfl rfl (w.heap.size + 1 + 1) (len + 1) (.int .u8 ((N : Int) / 256 % 256)) rfl rfl rfl 5 _ HGs2.out (by (try simp only [Array.size_setIfInBounds]); rw [HSZ.out]; omega) (by kernel_rfl) ((w.alloc (.cells #[.slice A len cap, .bool little] 25)).alloc (.cells #[.slice none 0 0, .bool false] 25)) HBs2.out (by simp) ?_); intro ws1 hg6 hb6 ho6; have HGs1 := Lib.hid hg6; have HBs1 := Lib.hid hb6; have HROWs1 := Lib.hid (ho6 _ _ _ (by simp; omega) HROWs2.out); have HRESs1 := Lib.hid (ho6 _ _ _ (by simp) HRESs2.out); clear hg6 hb6 ho6 HGs2 HBs2 HROWs2 HRESs2; skip)
    | ((refine at_put rfl 5 (.tmp 84) (.tmp 83) rfl rfl (w.heap.size + 1 + 1) len (.int .u8 ((N : Int) % 256)) rfl rfl rfl 5 _ HGs1.out (by (try simp only [Array.size_setIfInBounds]); rw [HSZ.out]; omega) (by kernel_rfl) ((w.alloc (.cells #[.slice A len cap, .bool little] 25)).alloc (.cells #[.slice none 0 0, .bool false] 25)) HBs1.out (by simp) ?_); intro ws0 hg6 hb6 ho6; have HGs0 := Lib.hid hg6; have HBs0 := Lib.hid hb6; have HROWs0 := Lib.hid (ho6 _ _ _ (by simp; omega) HROWs1.out); have HRESs0 := Lib.hid (ho6 _ _ _ (by simp) HRESs1.out); clear hg6 hb6 ho6 HGs1 HBs1 HROWs1 HRESs1; have hrow6 := HROWs0.out.two; have hres6 := HRESs0.out.two; have hfre6 := HRESs0.out.free0; have hz6 := lt_of_block HGs0.out; skip))
  have hbk := ((Blk.else (a := ⟨w.heap.size + 1, 1, none⟩) (Blk.else (a := ⟨w.heap.size + 1, 0, none⟩) HGs0.out (.slice (some ⟨w.heap.size + 1 + 1, 0, none⟩) T T) (by simp)) (.bool little) (by simp)))
  rw [fill7 HLEN.out, vals7 N, HCS.out, ← List.map_append] at hbk
  have hre := Blk.put (Blk.put HRESs0.out (i := 0) (.slice (some ⟨w.heap.size + 1 + 1, 0, none⟩) T T)) (i := 1) (.bool little)
  exact bodyPost_ret (v := .agg #[.slice (some ⟨w.heap.size + 1 + 1, 0, none⟩) T T, .bool little]) (by simp [results, Try.results15, go_sem, (show Blk _ _ #[.slice (some ⟨w.heap.size + 1 + 1, 0, none⟩) T T, .bool little] _ from hre).two]) rfl
    ⟨rfl, rd_of_blk hbk, (((Below.refl _ w).alloc (Nat.le_refl _) _).alloc (by simp) _).trans (Below.mono (Below.setCell (p := ⟨w.heap.size + 1, 1, none⟩) (Below.setCell (p := ⟨w.heap.size + 1, 0, none⟩) (Below.mono HBs0.out (by simp : w.heap.size + 1 ≤ _)) (Nat.le_refl _) _) (Nat.le_refl _) _) (by omega))⟩
end Go.Proofs.Ytbmifinomdcllaa
