
/-
  OctetPuts: the law's walk.
-/
import Derived.Test.YtbmifinomdcllaaOcQ

import Derived.Test.YtbmifinomdcllaaOcI

import Derived.BigRegion

import Derived.Deep.RegionWith

import Derived.Deep.DeepCutAuto

namespace Go.Proofs.Ytbmifinomdcllaa

open Go.RowKit Go.Lib

set_option maxRecDepth 100000

/-- A slice of integers that came in. -/
def NArg (k : IntKind) (w : World) (v : Value) (zs : List Int) : Prop :=
  ∃ A cap, v = .slice A zs.length cap ∧ (zs ≠ [] → ∃ blk off, A = some ⟨blk, off, none⟩ ∧ ∀ j z, zs[j]? = some z → w.cell? ⟨blk, off + j, none⟩ = some (.int k z)) ∧ ∀ z ∈ zs, (Lit.int k z).wf = true
def mkS (l : List UInt8) : ByteArray := ⟨l.toArray⟩
theorem mkS_size (l : List UInt8) : (mkS l).size = l.length := by simp [mkS, ByteArray.size]
theorem mkS_app (a b : List UInt8) : mkS a ++ mkS b = mkS (a ++ b) := by
  apply ByteArray.ext
  unfold mkS
  rw [ByteArray.data_append]
  simp
theorem puts_big (v u x : Value) (l : List UInt8) (zs : List Int) (hl : 300 < l.length ∨ 20 < zs.length) (little : Bool) (n : Int) (w : World) (hb : BArg w v l) (hu : NArg .u64 w u zs) :
    Calls Try.prog 4 #[v, .bool little, u, x, .int .i64 n] w fun e w' => e = .returned (.bool true) ∧ Below w.heap.size w w' := by
  obtain ⟨A, cap, rfl, _, _⟩ := hb
  obtain ⟨A2, c2, rfl, _, _⟩ := hu
  generalize l.length = len at *
  generalize zs.length = zl at *
  have HK := Lib.hid (known_any w)
  by_cases h1 : 300 < len
  · have h2 : (300 : Int) < (len : Int) := by omega
    clear hl
    go_enter Try.func4, Try.ntmps4
    go_wp2_with (go_at_call 7; refine HK.out.mono ?_; rintro e w1 ⟨rfl, hb1⟩; have HB1 := Lib.hid hb1; clear hb1)
    go_ret
    exact ⟨rfl, HB1.out⟩
  · have h2 : ¬ (300 : Int) < (len : Int) := by omega
    have h3 : (20 : Int) < (zl : Int) := by omega
    clear hl
    go_enter Try.func4, Try.ntmps4
    go_wp2_with (go_at_call 7; refine HK.out.mono ?_; rintro e w1 ⟨rfl, hb1⟩; have HB1 := Lib.hid hb1; clear hb1)
    go_ret
    exact ⟨rfl, HB1.out⟩
def PadR (n : Int) (v : Value) : Prop := ∃ k : Nat, v = .int .i64 k ∧ (k : Int) ≤ padI n
structure BdX (n : Nat) : Prop where
  lt : n < 18446744073709551616
theorem Rd.drew {w : World} {A : Option Addr} {l : List UInt8} (h : Rd w A l) : Rd w.drew A l := h
theorem wf_u64b {n : Int} (h : (Lit.int .u64 n).wf = true) : 0 ≤ n ∧ n ≤ 18446744073709551615 := by
  simpa [Lit.wf, IntKind.min, IntKind.max, IntKind.signed, IntKind.bits] using h
theorem wf_i64b {n : Int} (h : (Lit.int .i64 n).wf = true) : -9223372036854775808 ≤ n ∧ n ≤ 9223372036854775807 := by
  simpa [Lit.wf, IntKind.min, IntKind.max, IntKind.signed, IntKind.bits] using h
theorem drewB {W w : World} (h : Below W.heap.size W w) : Below W.heap.size W w.drew := h.trans ⟨rfl, rfl, rfl, Nat.le_refl _, fun _ _ => rfl⟩
theorem Rd.put2 {w : World} {A C : Option Addr} {l : List UInt8} {rb n c : Nat} {b : Bool} {T : TypeId} {x y : Value} (h : Rd w A l) (hb : Blk w rb #[.slice C n c, .bool b] T) :
    Rd ((w.setCell ⟨rb, 0, none⟩ x).setCell ⟨rb, 1, none⟩ y) A l := fun hl => by
  obtain ⟨blk, off, rfl, hc⟩ := h hl
  have hne : blk ≠ rb := by
    rintro rfl
    have hx := hc 0 _ (List.getElem?_eq_getElem (by cases l with | nil => exact absurd rfl hl | cons _ _ => simp))
    rw [hb.cell, Nat.add_zero] at hx
    rcases (by omega : off = 0 ∨ off = 1 ∨ 2 ≤ off) with rfl | rfl | h2
    · simp at hx
    · simp at hx
    · rw [Array.getElem?_eq_none (by simpa using h2)] at hx; cases hx
  have hn : ∀ i j : Nat, (⟨rb, i, none⟩ : Addr) ≠ ⟨blk, j, none⟩ ∧ (⟨blk, j, none⟩ : Addr) ≠ ⟨rb, i, none⟩ := fun i j =>
    ⟨fun e => hne (congrArg Addr.block e).symm, fun e => hne (congrArg Addr.block e)⟩
  refine ⟨blk, off, rfl, fun j z hz => ?_⟩
  rw [World.cell?_setCell_other _ _ _ _ (by first | exact (hn _ _).1 | exact (hn _ _).2), World.cell?_setCell_other _ _ _ _ (by first | exact (hn _ _).1 | exact (hn _ _).2)]
  exact hc j z hz
theorem padI_le (n : Int) : 0 ≤ padI n ∧ padI n ≤ 3 := by unfold padI; split <;> omega
/-- The loop: k numbers are put. -/
def PutsR (rb : Nat) (w : World) (zl : Nat) (little : Bool) (all i : Value) (wr : World) : Prop :=
  ∃ (k : Nat) (cur : List UInt8) (A : Option Addr) (cap : Nat), k ≤ zl ∧ i = .int .i64 k ∧ all = .string (mkS cur) ∧ Blk wr rb #[.slice A cur.length cap, .bool little] 25 ∧ cur.length ≤ cap ∧ cur.length ≤ 300 + 8 * k ∧ Rd wr A cur ∧ Below w.heap.size w wr
set_option maxHeartbeats 4000000 in
theorem puts_go (v u x : Value) (l : List UInt8) (zs ms : List Int) (hl : l.length ≤ 300) (hzl : zs.length ≤ 20) (little : Bool) (n : Int) (hn : n ≤ 9223372036854775807) (w : World) (hb : BArg w v l) (hu : NArg .u64 w u zs) (hx : NArg .i64 w x ms) :
    Calls Try.prog 4 #[v, .bool little, u, x, .int .i64 n] w fun e w' => e = .returned (.bool true) ∧ Below w.heap.size w w' := by
  obtain ⟨A, cap, rfl, hcap, hr⟩ := hb
  obtain ⟨A2, c2, rfl, hz, hzw⟩ := hu
  obtain ⟨A3, c3, rfl, hm, hmw⟩ := hx
  have HK := Lib.hid (known_any w)
  have HZ := Lib.hid hz; have HZW := Lib.hid hzw; have HM := Lib.hid hm; have HMW := Lib.hid hmw; have HRD := Lib.hid hr; have HCAP := Lib.hid hcap
  have HST := Lib.hid (show ∀ (w1 : World), Below w.heap.size w w1 → PutsR w1.heap.size w zs.length little (.string (mkS l)) (.int .i64 0) (w1.alloc (.cells #[.slice A l.length cap, .bool little] 25)) from fun w1 hb1 => ⟨0, l, A, cap, Nat.zero_le _, rfl, rfl, Blk.new rfl, hcap, by omega, (hr.below hb1).below ((Below.refl _ _).alloc (Nat.le_refl _) _), hb1.alloc hb1.size _⟩)
  have HCV := Lib.hid (fun (w' : World) (hb : Below w.heap.size w w') => conv_rd (hr.below hb) cap)
  clear hz hzw hm hmw hr hcap
  have hl2 : ¬ (300 : Int) < (l.length : Int) := by omega
  have hz2 : ¬ (20 : Int) < (zs.length : Int) := by omega
  have hp := padI_le n
  have HPD := Lib.hid (fun w => pad_any n w)
  obtain ⟨P, hP⟩ : ∃ P, padI n = P := ⟨_, rfl⟩
  rw [hP] at HPD hp
  have HPE := Lib.hid hP
  clear hP
  go_enter Try.func4, Try.ntmps4
  go_wp2_with (first
    | (go_at_call 7; refine HK.out.mono ?_; rintro e w1 ⟨rfl, hb1⟩; have HB1 := Lib.hid hb1; clear hb1))
  go_loop [11] (fun v => PadR n v) (fun v => 4 - (RowKit.intOf v).toNat)
  case atStart => exact ⟨0, rfl, by rw [HPE.out]; exact hp.1⟩
  case round =>
    obtain ⟨k, rfl, hk⟩ := hrel
    rw [HPE.out] at hk
    have hk3 : (k : Int) ≤ 3 := by omega
    by_cases hn0 : 0 < n
    · have hpn := HPE.out
      unfold padI at hpn
      rw [if_neg (by omega)] at hpn
      by_cases hgo : 0 < (n % 4 + (k : Int)) % 4
      · have hkl : (k : Int) + 1 ≤ P := by omega
        have HKL := Lib.hid hkl
        clear hpn hp hkl
        go_wp2
        go_round
        case rel => exact ⟨k + 1, by go_num, by rw [HPE.out]; have := HKL.out; omega⟩
        case measure => simp [RowKit.intOf]; omega
      · have hkP : (k : Int) = P := by omega
        subst hkP
        clear hpn hp hk
        have hcv := HCV.out (w1.alloc (.cells #[.slice A l.length cap, .bool little] 25)) (keepR HB1.out)
        go_wp2_with (go_at_call 14; refine (HPD.out _).mono ?_; rintro e w' ⟨rfl, rfl⟩)
        clear hcv
        go_loopw [13, 52] (fun all i wr => PutsR w1.heap.size w zs.length little all i wr) (fun _ i _ => zs.length - (RowKit.intOf i).toNat)
        case atStart => exact HST.out w1 HB1.out
        case round =>
          obtain ⟨wo, rfl⟩ : ∃ wo : World, wo = wr := ⟨_, rfl⟩
          obtain ⟨q, cur, C, cc, hq, rfl, rfl, hblk, hcc, hcl, hrd, hbe⟩ := hrel
          by_cases hql : q < zs.length
          · obtain ⟨b2, o2, rfl, hz⟩ := HZ.out (by intro e; subst e; simp at hql)
            have hzc := hz q _ (List.getElem?_eq_getElem hql)
            have hzw := wf_u64b (HZW.out _ (List.getElem_mem hql))
            have hzo : wo.cell? ⟨b2, o2 + q, none⟩ = _ := (hbe.cell (p := ⟨b2, o2 + q, none⟩) (World.block_lt_of_cell? _ _ hzc)).trans hzc
            obtain ⟨X, hX⟩ := Int.eq_ofNat_of_zero_le hzw.1
            rw [hX] at hzo hzw
            have hX64 : X < 18446744073709551616 := by omega
            have HX64 : BdX X := ⟨hX64⟩
            have hqI : (q : Int) < (zs.length : Int) := by omega
            have hc2 := hblk.two
            have hf2 := hblk.free0
            have hzr := hblk.lt
            have hcv0 : (convert 22 9 (.slice C cur.length cc)).run Try.prog wo.drew = .ok (.string (mkS cur)) wo.drew := conv_rd hrd.drew cc
            have hcv1 : (convert 22 9 (.slice C cur.length cc)).run Try.prog (wo.alloc (.cells #[.slice none 0 0, .bool false] 25)).drew = .ok (.string (mkS cur)) (wo.alloc (.cells #[.slice none 0 0, .bool false] 25)).drew := conv_rd (Rd.drew (hrd.below ((Below.refl _ wo).alloc (Nat.le_refl _) _))) cc
            have hcv2 : (convert 22 9 (.slice C cur.length cc)).run Try.prog (wo.alloc (.cells #[.slice C cur.length cc, .bool little] 25)).drew = .ok (.string (mkS cur)) (wo.alloc (.cells #[.slice C cur.length cc, .bool little] 25)).drew := conv_rd (Rd.drew (hrd.below ((Below.refl _ wo).alloc (Nat.le_refl _) _))) cc
            have HRDC := Lib.hid hrd; have HBE := Lib.hid hbe; have HBLK := Lib.hid hblk; have HCL := Lib.hid hcl; have HCC := Lib.hid hcc
            clear hz hzc hzw hX hX64 hrd hbe hblk hcl hcc
            by_cases hqm : q < ms.length
            · have hqmI : (q : Int) < (ms.length : Int) := by omega
              go_upto_region 16 with fail
              go_cut [16, 17] (fun s16 s17 wx => s16 = .pointer (some ⟨wo.heap.size, 0, none⟩) ∧ s17 = .string (mkS cur) ∧ wx = (wo.alloc (.cells #[.slice C cur.length cc, .bool little] 25)).drew)
              case first =>
                go_region
                all_goals (go_wp2_with fail; go_meet; exact ⟨rfl, rfl, rfl⟩)
              case rest =>
                obtain ⟨rfl, rfl, rfl⟩ := hcut
                clear hcv0 hcv1 hcv2
                obtain ⟨b3, o3, rfl, hm⟩ := HM.out (by intro e; subst e; simp at hqm)
                have hmc := hm q _ (List.getElem?_eq_getElem hqm)
                have hmw := wf_i64b (HMW.out _ (List.getElem_mem hqm))
                have HBE3 := Lib.hid (show Below w.heap.size w (wo.alloc (.cells #[.slice C cur.length cc, .bool little] 25)).drew from drewB (keepR HBE.out))
                have HBL3 := Lib.hid (show Blk (wo.alloc (.cells #[.slice C cur.length cc, .bool little] 25)).drew w1.heap.size #[.slice C cur.length cc, .bool little] 25 from HBLK.out.old _)
                have HWAS := Lib.hid (show Blk (wo.alloc (.cells #[.slice C cur.length cc, .bool little] 25)).drew wo.heap.size #[.slice C cur.length cc, .bool little] 25 from Blk.new rfl)
                have HRD3 := Lib.hid (show Rd (wo.alloc (.cells #[.slice C cur.length cc, .bool little] 25)).drew C cur from Rd.drew (HRDC.out.below ((Below.refl _ wo).alloc (Nat.le_refl _) _)))
                have hmo : (wo.alloc (.cells #[.slice C cur.length cc, .bool little] 25)).drew.cell? ⟨b3, o3 + q, none⟩ = _ := (HBE3.out.cell (p := ⟨b3, o3 + q, none⟩) (World.block_lt_of_cell? _ _ hmc)).trans hmc
                have hz3 : w1.heap.size < wo.heap.size := hzr
                have hz4 := HWAS.out.lt
                obtain ⟨M, hM⟩ : ∃ M, ms[q] = M := ⟨_, rfl⟩
                rw [hM] at hmo hmw hmc
                have HMC := Lib.hid hmc
                clear hm hmc hM hc2 hf2 hzo hzr
                generalize (wo.alloc (.cells #[.slice C cur.length cc, .bool little] 25)).drew = w3 at *
                generalize wo.heap.size = wb at *
                have hc3 := HBL3.out.two
                have HP := Lib.hid (fun w' (h : Rd w' C cur) => put_any C cur cc little X HX64.lt M HCC.out (by have := HCL.out; omega) w' h)
                go_upto_region 17 with fail
                go_cut [] (fun wx => ∃ A' cap', Blk wx w1.heap.size #[.slice A' (putL cur little X M).length cap', .bool little] 25 ∧ (putL cur little X M).length ≤ cap' ∧ Rd wx A' (putL cur little X M) ∧ Blk wx wb #[.slice C cur.length cc, .bool little] 25 ∧ Rd wx C cur ∧ Below w.heap.size w wx)
                case first =>
                  go_region_with (go_at_call 15; refine (HP.out _ (Rd.drew HRD3.out)).mono ?_; rintro e w4 ⟨A', cap', rfl, h1, h2, h3⟩; have hc4 := (Blk.keep h3 HBL3.out.drew).two; have hf4 := (Blk.keep h3 HBL3.out.drew).free0)
                  all_goals
                    go_wp2_with fail
                    go_meet
                    have hb4 := Blk.keep h3 HBL3.out.drew
                    exact ⟨A', cap', ((hb4.put (i := 0) _).put (i := 1) _), h1, h2.put2 hb4, (((Blk.keep h3 HWAS.out.drew).else (a := ⟨w1.heap.size, 0, none⟩) _ (by simp; omega)).else (a := ⟨w1.heap.size, 1, none⟩) _ (by simp; omega)), ((Rd.drew HRD3.out).below h3).put2 hb4, Below.put2 (keepW (drewB HBE3.out) h3) HB1.out.size⟩
                case rest =>
                  obtain ⟨A', cap', g1, g2, g3, g4, g5, g6⟩ := hcut
                  have hmo : wc.cell? ⟨b3, o3 + q, none⟩ = _ := (g6.cell (p := ⟨b3, o3 + q, none⟩) (World.block_lt_of_cell? _ _ HMC.out)).trans HMC.out
                  have hc5 := g1.two
                  have hw5 := g4.two
                  have hz5 := g1.lt
                  have hz6 := g4.lt
                  have hszC : (mkS cur).size ≤ 1000 := by rw [mkS_size]; have := HCL.out; omega
                  have hcvC : ∀ w', Below wc.heap.size wc w' → (convert 22 9 (.slice C cur.length cc)).run Try.prog w' = .ok (.string (mkS cur)) w' := fun w' hb => conv_rd (g5.below hb) cc
                  have hcvN : ∀ w', Below wc.heap.size wc w' → (convert 22 9 (.slice A' (putL cur little X M).length cap')).run Try.prog w' = .ok (.string (mkS (putL cur little X M))) w' := fun w' hb => conv_rd (g3.below hb) cap'
                  have G1 := Lib.hid g1; have G3 := Lib.hid g3; have G4 := Lib.hid g4; have G6 := Lib.hid g6; have G2 := Lib.hid g2
                  have HCVC := Lib.hid hcvC; have HCVN := Lib.hid hcvN
                  clear g1 g2 g3 g4 g5 g6 hcvC hcvN
                  by_cases hM8 : 0 ≤ M ∧ M ≤ 8
                  · obtain ⟨hM0, hM1⟩ := hM8
                    obtain ⟨m, rfl⟩ := Int.eq_ofNat_of_zero_le hM0
                    have hp : putL cur little X (m : Int) = cur ++ bytesF little m X := by unfold putL; rw [if_pos ⟨hM0, hM1⟩]; rfl
                    have hcat : mkS cur ++ mkS (bytesF little m X) = mkS (putL cur little X (m : Int)) := by rw [hp, mkS_app]
                    have hszB : (mkS (bytesF little m X)).size ≤ 8 := by rw [mkS_size, bytesF_len]; omega
                    have hlN : (putL cur little X (m : Int)).length ≤ 300 + 8 * (q + 1) := by rw [hp, List.length_append, bytesF_len]; have := HCL.out; omega
                    have HLN := Lib.hid hlN
                    have HRP := Lib.hid (refPut_any little X HX64.lt m (by omega) wc)
                    have hbl : (bytesF little m X).length = m := bytesF_len little m X
                    have HBLN := Lib.hid hbl
                    generalize putL cur little X (m : Int) = nx at *
                    generalize bytesF little m X = bb at *
                    generalize mkS cur = SC at *
                    obtain ⟨SB, hSB⟩ : ∃ SB, mkS bb = SB := ⟨_, rfl⟩
                    rw [hSB] at hcat hszB
                    have HSB := Lib.hid hSB
                    clear hp hlN hbl hSB
                    go_wp2_with (go_at_call 16; refine HRP.out.mono ?_; rintro e w6 ⟨rfl, hr6, hb6⟩; have hcvB := conv_rd hr6 m; rw [HBLN.out] at hcvB; rw [show (⟨bb.toArray⟩ : ByteArray) = SB from HSB.out] at hcvB; have hcvN := HCVN.out _ hb6; have hcvC := HCVC.out _ hb6; have hc6 := (Blk.keep hb6 G1.out).two; have hw6 := (Blk.keep hb6 G4.out).two; have HB6 := Lib.hid hb6; clear hb6 hr6)
                    go_roundw
                    case rel => exact ⟨q + 1, nx, A', cap', by omega, by go_num, rfl, Blk.keep HB6.out G1.out, G2.out, HLN.out, G3.out.below HB6.out, keepW G6.out HB6.out⟩
                    case measure => simp [RowKit.intOf]; omega
                  · have hp : putL cur little X M = cur := by unfold putL; rw [if_neg hM8]
                    have hlN : (putL cur little X M).length ≤ 300 + 8 * (q + 1) := by rw [hp]; have := HCL.out; omega
                    have HLN := Lib.hid hlN
                    have hSe : mkS (putL cur little X M) = mkS cur := by rw [hp]
                    have hcvN := HCVN.out _ (Below.refl _ _)
                    have hcvC := HCVC.out _ (Below.refl _ _)
                    rw [hSe] at hcvN
                    have HSE := Lib.hid hSe
                    clear hp hlN hSe
                    generalize putL cur little X M = nx at *
                    by_cases hMn : M < 0
                    · clear hM8
                      go_wp2
                      go_roundw
                      case rel => exact ⟨q + 1, nx, A', cap', by omega, by go_num, by rw [HSE.out], G1.out, G2.out, HLN.out, G3.out, G6.out⟩
                      case measure => simp [RowKit.intOf]; omega
                    · have hM9 : 8 < M := by omega
                      clear hM8
                      go_wp2
                      go_roundw
                      case rel => exact ⟨q + 1, nx, A', cap', by omega, by go_num, by rw [HSE.out], G1.out, G2.out, HLN.out, G3.out, G6.out⟩
                      case measure => simp [RowKit.intOf]; omega
            · have hqmI : ¬ (q : Int) < (ms.length : Int) := by omega
              clear hcv0 hcv1 hcv2
              go_wp2
              go_ret
              exact ⟨rfl, HBE.out⟩
          · have hqlI : ¬ (q : Int) < (zs.length : Int) := by omega
            have HBE := Lib.hid hbe
            clear hbe hrd hblk hcl hcc
            go_wp2
            go_ret
            exact ⟨rfl, HBE.out⟩
    · have hkP : (k : Int) = P := by have := HPE.out; unfold padI at this; split at this <;> omega
      subst hkP
      clear hp hk
      have hcv := HCV.out (w1.alloc (.cells #[.slice A l.length cap, .bool little] 25)) (keepR HB1.out)
      go_wp2_with (go_at_call 14; refine (HPD.out _).mono ?_; rintro e w' ⟨rfl, rfl⟩)
      clear hcv
      go_loopw [13, 52] (fun all i wr => PutsR w1.heap.size w zs.length little all i wr) (fun _ i _ => zs.length - (RowKit.intOf i).toNat)
      case atStart => exact HST.out w1 HB1.out
      case round =>
        obtain ⟨wo, rfl⟩ : ∃ wo : World, wo = wr := ⟨_, rfl⟩
        obtain ⟨q, cur, C, cc, hq, rfl, rfl, hblk, hcc, hcl, hrd, hbe⟩ := hrel
        by_cases hql : q < zs.length
        · obtain ⟨b2, o2, rfl, hz⟩ := HZ.out (by intro e; subst e; simp at hql)
          have hzc := hz q _ (List.getElem?_eq_getElem hql)
          have hzw := wf_u64b (HZW.out _ (List.getElem_mem hql))
          have hzo : wo.cell? ⟨b2, o2 + q, none⟩ = _ := (hbe.cell (p := ⟨b2, o2 + q, none⟩) (World.block_lt_of_cell? _ _ hzc)).trans hzc
          obtain ⟨X, hX⟩ := Int.eq_ofNat_of_zero_le hzw.1
          rw [hX] at hzo hzw
          have hX64 : X < 18446744073709551616 := by omega
          have HX64 : BdX X := ⟨hX64⟩
          have hqI : (q : Int) < (zs.length : Int) := by omega
          have hc2 := hblk.two
          have hf2 := hblk.free0
          have hzr := hblk.lt
          have hcv0 : (convert 22 9 (.slice C cur.length cc)).run Try.prog wo.drew = .ok (.string (mkS cur)) wo.drew := conv_rd hrd.drew cc
          have hcv1 : (convert 22 9 (.slice C cur.length cc)).run Try.prog (wo.alloc (.cells #[.slice none 0 0, .bool false] 25)).drew = .ok (.string (mkS cur)) (wo.alloc (.cells #[.slice none 0 0, .bool false] 25)).drew := conv_rd (Rd.drew (hrd.below ((Below.refl _ wo).alloc (Nat.le_refl _) _))) cc
          have hcv2 : (convert 22 9 (.slice C cur.length cc)).run Try.prog (wo.alloc (.cells #[.slice C cur.length cc, .bool little] 25)).drew = .ok (.string (mkS cur)) (wo.alloc (.cells #[.slice C cur.length cc, .bool little] 25)).drew := conv_rd (Rd.drew (hrd.below ((Below.refl _ wo).alloc (Nat.le_refl _) _))) cc
          have HRDC := Lib.hid hrd; have HBE := Lib.hid hbe; have HBLK := Lib.hid hblk; have HCL := Lib.hid hcl; have HCC := Lib.hid hcc
          clear hz hzc hzw hX hX64 hrd hbe hblk hcl hcc
          by_cases hqm : q < ms.length
          · have hqmI : (q : Int) < (ms.length : Int) := by omega
            go_upto_region 16 with fail
            go_cut [16, 17] (fun s16 s17 wx => s16 = .pointer (some ⟨wo.heap.size, 0, none⟩) ∧ s17 = .string (mkS cur) ∧ wx = (wo.alloc (.cells #[.slice C cur.length cc, .bool little] 25)).drew)
            case first =>
              go_region
              all_goals (go_wp2_with fail; go_meet; exact ⟨rfl, rfl, rfl⟩)
            case rest =>
              obtain ⟨rfl, rfl, rfl⟩ := hcut
              clear hcv0 hcv1 hcv2
              obtain ⟨b3, o3, rfl, hm⟩ := HM.out (by intro e; subst e; simp at hqm)
              have hmc := hm q _ (List.getElem?_eq_getElem hqm)
              have hmw := wf_i64b (HMW.out _ (List.getElem_mem hqm))
              have HBE3 := Lib.hid (show Below w.heap.size w (wo.alloc (.cells #[.slice C cur.length cc, .bool little] 25)).drew from drewB (keepR HBE.out))
              have HBL3 := Lib.hid (show Blk (wo.alloc (.cells #[.slice C cur.length cc, .bool little] 25)).drew w1.heap.size #[.slice C cur.length cc, .bool little] 25 from HBLK.out.old _)
              have HWAS := Lib.hid (show Blk (wo.alloc (.cells #[.slice C cur.length cc, .bool little] 25)).drew wo.heap.size #[.slice C cur.length cc, .bool little] 25 from Blk.new rfl)
              have HRD3 := Lib.hid (show Rd (wo.alloc (.cells #[.slice C cur.length cc, .bool little] 25)).drew C cur from Rd.drew (HRDC.out.below ((Below.refl _ wo).alloc (Nat.le_refl _) _)))
              have hmo : (wo.alloc (.cells #[.slice C cur.length cc, .bool little] 25)).drew.cell? ⟨b3, o3 + q, none⟩ = _ := (HBE3.out.cell (p := ⟨b3, o3 + q, none⟩) (World.block_lt_of_cell? _ _ hmc)).trans hmc
              have hz3 : w1.heap.size < wo.heap.size := hzr
              have hz4 := HWAS.out.lt
              obtain ⟨M, hM⟩ : ∃ M, ms[q] = M := ⟨_, rfl⟩
              rw [hM] at hmo hmw hmc
              have HMC := Lib.hid hmc
              clear hm hmc hM hc2 hf2 hzo hzr
              generalize (wo.alloc (.cells #[.slice C cur.length cc, .bool little] 25)).drew = w3 at *
              generalize wo.heap.size = wb at *
              have hc3 := HBL3.out.two
              have HP := Lib.hid (fun w' (h : Rd w' C cur) => put_any C cur cc little X HX64.lt M HCC.out (by have := HCL.out; omega) w' h)
              go_upto_region 17 with fail
              go_cut [] (fun wx => ∃ A' cap', Blk wx w1.heap.size #[.slice A' (putL cur little X M).length cap', .bool little] 25 ∧ (putL cur little X M).length ≤ cap' ∧ Rd wx A' (putL cur little X M) ∧ Blk wx wb #[.slice C cur.length cc, .bool little] 25 ∧ Rd wx C cur ∧ Below w.heap.size w wx)
              case first =>
                go_region_with (go_at_call 15; refine (HP.out _ (Rd.drew HRD3.out)).mono ?_; rintro e w4 ⟨A', cap', rfl, h1, h2, h3⟩; have hc4 := (Blk.keep h3 HBL3.out.drew).two; have hf4 := (Blk.keep h3 HBL3.out.drew).free0)
                all_goals
                  go_wp2_with fail
                  go_meet
                  have hb4 := Blk.keep h3 HBL3.out.drew
                  exact ⟨A', cap', ((hb4.put (i := 0) _).put (i := 1) _), h1, h2.put2 hb4, (((Blk.keep h3 HWAS.out.drew).else (a := ⟨w1.heap.size, 0, none⟩) _ (by simp; omega)).else (a := ⟨w1.heap.size, 1, none⟩) _ (by simp; omega)), ((Rd.drew HRD3.out).below h3).put2 hb4, Below.put2 (keepW (drewB HBE3.out) h3) HB1.out.size⟩
              case rest =>
                obtain ⟨A', cap', g1, g2, g3, g4, g5, g6⟩ := hcut
                have hmo : wc.cell? ⟨b3, o3 + q, none⟩ = _ := (g6.cell (p := ⟨b3, o3 + q, none⟩) (World.block_lt_of_cell? _ _ HMC.out)).trans HMC.out
                have hc5 := g1.two
                have hw5 := g4.two
                have hz5 := g1.lt
                have hz6 := g4.lt
                have hszC : (mkS cur).size ≤ 1000 := by rw [mkS_size]; have := HCL.out; omega
                have hcvC : ∀ w', Below wc.heap.size wc w' → (convert 22 9 (.slice C cur.length cc)).run Try.prog w' = .ok (.string (mkS cur)) w' := fun w' hb => conv_rd (g5.below hb) cc
                have hcvN : ∀ w', Below wc.heap.size wc w' → (convert 22 9 (.slice A' (putL cur little X M).length cap')).run Try.prog w' = .ok (.string (mkS (putL cur little X M))) w' := fun w' hb => conv_rd (g3.below hb) cap'
                have G1 := Lib.hid g1; have G3 := Lib.hid g3; have G4 := Lib.hid g4; have G6 := Lib.hid g6; have G2 := Lib.hid g2
                have HCVC := Lib.hid hcvC; have HCVN := Lib.hid hcvN
                clear g1 g2 g3 g4 g5 g6 hcvC hcvN
                by_cases hM8 : 0 ≤ M ∧ M ≤ 8
                · obtain ⟨hM0, hM1⟩ := hM8
                  obtain ⟨m, rfl⟩ := Int.eq_ofNat_of_zero_le hM0
                  have hp : putL cur little X (m : Int) = cur ++ bytesF little m X := by unfold putL; rw [if_pos ⟨hM0, hM1⟩]; rfl
                  have hcat : mkS cur ++ mkS (bytesF little m X) = mkS (putL cur little X (m : Int)) := by rw [hp, mkS_app]
                  have hszB : (mkS (bytesF little m X)).size ≤ 8 := by rw [mkS_size, bytesF_len]; omega
                  have hlN : (putL cur little X (m : Int)).length ≤ 300 + 8 * (q + 1) := by rw [hp, List.length_append, bytesF_len]; have := HCL.out; omega
                  have HLN := Lib.hid hlN
                  have HRP := Lib.hid (refPut_any little X HX64.lt m (by omega) wc)
                  have hbl : (bytesF little m X).length = m := bytesF_len little m X
                  have HBLN := Lib.hid hbl
                  generalize putL cur little X (m : Int) = nx at *
                  generalize bytesF little m X = bb at *
                  generalize mkS cur = SC at *
                  obtain ⟨SB, hSB⟩ : ∃ SB, mkS bb = SB := ⟨_, rfl⟩
                  rw [hSB] at hcat hszB
                  have HSB := Lib.hid hSB
                  clear hp hlN hbl hSB
                  go_wp2_with (go_at_call 16; refine HRP.out.mono ?_; rintro e w6 ⟨rfl, hr6, hb6⟩; have hcvB := conv_rd hr6 m; rw [HBLN.out] at hcvB; rw [show (⟨bb.toArray⟩ : ByteArray) = SB from HSB.out] at hcvB; have hcvN := HCVN.out _ hb6; have hcvC := HCVC.out _ hb6; have hc6 := (Blk.keep hb6 G1.out).two; have hw6 := (Blk.keep hb6 G4.out).two; have HB6 := Lib.hid hb6; clear hb6 hr6)
                  go_roundw
                  case rel => exact ⟨q + 1, nx, A', cap', by omega, by go_num, rfl, Blk.keep HB6.out G1.out, G2.out, HLN.out, G3.out.below HB6.out, keepW G6.out HB6.out⟩
                  case measure => simp [RowKit.intOf]; omega
                · have hp : putL cur little X M = cur := by unfold putL; rw [if_neg hM8]
                  have hlN : (putL cur little X M).length ≤ 300 + 8 * (q + 1) := by rw [hp]; have := HCL.out; omega
                  have HLN := Lib.hid hlN
                  have hSe : mkS (putL cur little X M) = mkS cur := by rw [hp]
                  have hcvN := HCVN.out _ (Below.refl _ _)
                  have hcvC := HCVC.out _ (Below.refl _ _)
                  rw [hSe] at hcvN
                  have HSE := Lib.hid hSe
                  clear hp hlN hSe
                  generalize putL cur little X M = nx at *
                  by_cases hMn : M < 0
                  · clear hM8
                    go_wp2
                    go_roundw
                    case rel => exact ⟨q + 1, nx, A', cap', by omega, by go_num, by rw [HSE.out], G1.out, G2.out, HLN.out, G3.out, G6.out⟩
                    case measure => simp [RowKit.intOf]; omega
                  · have hM9 : 8 < M := by omega
                    clear hM8
                    go_wp2
                    go_roundw
                    case rel => exact ⟨q + 1, nx, A', cap', by omega, by go_num, by rw [HSE.out], G1.out, G2.out, HLN.out, G3.out, G6.out⟩
                    case measure => simp [RowKit.intOf]; omega
          · have hqmI : ¬ (q : Int) < (ms.length : Int) := by omega
            clear hcv0 hcv1 hcv2
            go_wp2
            go_ret
            exact ⟨rfl, HBE.out⟩
        · have hqlI : ¬ (q : Int) < (zs.length : Int) := by omega
          have HBE := Lib.hid hbe
          clear hbe hrd hblk hcl hcc
          go_wp2
          go_ret
          exact ⟨rfl, HBE.out⟩
theorem octetPuts_walk {w : World} (v : Value) (l : List UInt8) (hb : BArg w v l) (little : Bool) (u : Value) (zs : List Int) (hu : NArg .u64 w u zs) (x : Value) (ms : List Int) (hx : NArg .i64 w x ms)
    (n : Int) (_n0 : -9223372036854775808 ≤ n) (n1 : n ≤ 9223372036854775807) :
    Calls Try.prog 4 #[v, .bool little, u, x, .int .i64 n] w fun e w' => e = .returned (.bool true) ∧ Below w.heap.size w w' := by
  by_cases h : 300 < l.length ∨ 20 < zs.length
  · exact puts_big v u x l zs h little n w hb hu
  · exact puts_go v u x l zs ms (by omega) (by omega) little n n1 w hb hu hx
end Go.Proofs.Ytbmifinomdcllaa
