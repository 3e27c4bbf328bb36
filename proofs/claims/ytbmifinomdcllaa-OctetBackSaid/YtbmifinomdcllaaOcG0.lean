
/-
  Octet: Put of 0 bytes. (Written by tools/gen_ocG.py.)
-/
import Derived.Test.YtbmifinomdcllaaOcG

namespace Go.Proofs.Ytbmifinomdcllaa

open Go.RowKit Go.Lib

set_option maxRecDepth 100000

set_option maxHeartbeats 4000000 in
theorem put0 (A : Option Addr) (l : List UInt8) (len cap : Nat) (hl : l.length = len) (little : Bool) (n : Nat) (hlen : len ≤ 1048576) (w : World) (hr : Rd w A l)
    (N : Nat) (hord : ∀ w, Calls Try.prog 22 #[.agg #[.slice A len cap, .bool little], .int .u64 n, .int .i64 0] w fun e w' => e = .returned (.int .u64 N) ∧ Below w.heap.size w w') :
    Calls Try.prog 15 #[.agg #[.slice A len cap, .bool little], .int .u64 n, .int .i64 0] w fun e w' => e = .returned (.agg #[.slice (some ⟨w.heap.size + 1 + 1, 0, none⟩) len len, .bool little]) ∧ Rd w' (some ⟨w.heap.size + 1 + 1, 0, none⟩) (l) ∧ Below w.heap.size w w' := by
  have hmk := fun w => make_u8 len (by omega) w
  obtain ⟨cs, hcs, hcl, hfit, hone, hsrc⟩ := src_of hr hl (show len ≤ len by omega)
  have HCS := Lib.hid hcs; have HCL := Lib.hid hcl; have HFIT := Lib.hid hfit; have HONE := Lib.hid hone; have HSRC := Lib.hid hsrc
  have HLEN := Lib.hid (show cs.length = len by rw [hcs, List.length_map, hl])
  clear hcs hcl hfit hone hsrc
  have HO := Lib.hid hord

  have hlT : (len : Int) ≤ (len : Int) := by omega

  have HSP := Lib.hid (show splice (zerosV len) 0 cs = cs ++ zerosV 0 by unfold splice zerosV; rw [List.take_zero, List.nil_append, Nat.zero_add, HLEN.out, List.drop_replicate, Nat.sub_self])
  have HSZ := Lib.hid (show (cs ++ zerosV 0).toArray.size = len + 0 by simp [zerosV, HLEN.out])
  clear hr hl hord
  go_enter Try.func15, Try.ntmps15
  go_wp2_with (first
    | (go_at_call 21; refine (fits_any _ _).mono ?_; rintro e w' ⟨rfl, rfl⟩)
    | ((refine wpList_copy_splice rfl (.tmp 20) (.tmp 22) 22 22 rfl 5 Try.underlying22 (by kernel_rfl) (some ⟨w.heap.size + 1 + 1, 0, none⟩) A len len len cap rfl rfl (w.heap.size + 1 + 1) 0 (zerosV len) 5 (show Blk _ _ _ _ from Blk.new (by simp)) cs HCL.out (fun hp => ⟨rfl, HSRC.out _ ((((Below.refl _ w).alloc (Nat.le_refl _) _).alloc (by simp) _).alloc (by simp; omega) _) hp⟩) HFIT.out HONE.out ((w.alloc (.cells #[.slice A len cap, .bool little] 25)).alloc (.cells #[.slice none 0 0, .bool false] 25)).heap.size ((w.alloc (.cells #[.slice A len cap, .bool little] 25)).alloc (.cells #[.slice none 0 0, .bool false] 25)) ((Below.refl _ _).alloc (Nat.le_refl _) _) (by simp) ?_); intro w4 hg4 hb4; have HG4 := Lib.hid (show Blk w4 (w.heap.size + 1 + 1) (cs ++ zerosV 0).toArray 5 by have h := hg4.out; rw [HSP.out] at h; exact h); clear hg4; rw [HLEN.out]; have HROW := Lib.hid (Blk.keep hb4 ((Blk.new rfl).old _)); have hrow := HROW.out.two; have HRES := Lib.hid (show Blk w4 (w.heap.size + 1) #[.slice none 0 0, .bool false] 25 from Blk.keep hb4 (Blk.new (by simp))); have hz4 := (lt_of_block HG4.out); have HB4 := Lib.hid hb4; clear hb4)
    | (go_at_call 22; refine (HO.out _).mono ?_; rintro e w5 ⟨rfl, hb5⟩; have hg5 := Blk.keep hb5 HG4.out; have HROW5 := Lib.hid (Blk.keep hb5 HROW.out); have HRES5 := Lib.hid (Blk.keep hb5 HRES.out); have hz5 := lt_of_block hg5; have hrow5 := HROW5.out.two; have hres5 := HRES5.out.two; have hfre5 := HRES5.out.free0; have HG5 := Lib.hid hg5; clear hg5; have HB5 := Lib.hid (HB4.out.trans (hb5.mono HB4.out.size)); clear hb5; clear hrow))
  have hbk := ((Blk.else (a := ⟨w.heap.size + 1, 1, none⟩) (Blk.else (a := ⟨w.heap.size + 1, 0, none⟩) HG5.out (.slice (some ⟨w.heap.size + 1 + 1, 0, none⟩) len len) (by simp)) (.bool little) (by simp)))
  rw [show zerosV 0 = [] from rfl, List.append_nil, HCS.out] at hbk
  have hre := Blk.put (Blk.put HRES5.out (i := 0) (.slice (some ⟨w.heap.size + 1 + 1, 0, none⟩) len len)) (i := 1) (.bool little)
  exact bodyPost_ret (v := .agg #[.slice (some ⟨w.heap.size + 1 + 1, 0, none⟩) len len, .bool little]) (by simp [results, Try.results15, go_sem, (show Blk _ _ #[.slice (some ⟨w.heap.size + 1 + 1, 0, none⟩) len len, .bool little] _ from hre).two]) rfl
    ⟨rfl, rd_of_blk hbk, (((Below.refl _ w).alloc (Nat.le_refl _) _).alloc (by simp) _).trans (Below.mono (Below.setCell (p := ⟨w.heap.size + 1, 1, none⟩) (Below.setCell (p := ⟨w.heap.size + 1, 0, none⟩) (Below.mono HB5.out (by simp : w.heap.size + 1 ≤ _)) (Nat.le_refl _) _) (Nat.le_refl _) _) (by omega))⟩
end Go.Proofs.Ytbmifinomdcllaa
