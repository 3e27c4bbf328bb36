
/-
  OctetSums: the law's walk.
-/
import Derived.Test.YtbmifinomdcllaaOcP

import Derived.Laws.AppendOwnNone

namespace Go.Proofs.Ytbmifinomdcllaa

open Go.RowKit Go.Lib

set_option maxRecDepth 100000

/-- A slice of slices of bytes that came in. -/
def PArg (w : World) (v : Value) (ps : List Part) : Prop := ∃ P cap, v = .slice P ps.length cap ∧ Rows2 w P ps ∧ ∀ p ∈ ps, p.1 = none → p.2 = ([], 0)
def AllR (ps : List Part) (w : World) (v i : Value) (wr : World) : Prop := ∃ k : Nat, k ≤ ps.length ∧ i = .int .i64 k ∧ wr.ownsRow w.heap.size 5 1 v (flatP (ps.take k)).length ((flatP (ps.take k)).map u8) ∧ Below w.heap.size w wr
set_option maxHeartbeats 4000000 in
theorem octetSums_walk {w : World} (v : Value) (ps : List Part) (hb : PArg w v ps) (hlen : (flatP ps).length ≤ 1048576) (hn : ps.length ≤ 1048576) :
    Calls Try.prog 5 #[v] w fun e w' => e = .returned (.bool true) ∧ Below w.heap.size w w' := by
  obtain ⟨P, cap, rfl, hr, hnil⟩ := hb
  have HK := Lib.hid (known_any w)
  have HR := Lib.hid hr; have HNIL := Lib.hid hnil; have HLEN := Lib.hid hlen; have HNN := Lib.hid hn
  have hpl : ∀ p ∈ ps, p.2.1.length ≤ 4611686018427387904 := fun p hp => by
    have h1 : p.2.1.length ≤ (flatP ps).length := by
      obtain ⟨s, t, rfl⟩ := List.append_of_mem hp
      unfold flatP; rw [List.flatMap_append, List.flatMap_cons, List.length_append, List.length_append]; omega
    omega
  have HSUM := Lib.hid (fun w' (hb : Below w.heap.size w w') => sum_any P ps cap (by omega) (by omega) hpl w' (hr.below hb))
  obtain ⟨i0, hi, hz0, hz1, hz2⟩ := info_parts info_u8b
  have HI := Lib.hid hi
  have HST := Lib.hid (show ∀ w1, Below w.heap.size w w1 → AllR ps w1 (.slice none 0 0) (.int .i64 0) w1 from fun w1 _ => ⟨0, Nat.zero_le _, rfl, World.ownsRow_nil _ _ _ _, Below.refl _ _⟩)
  clear hr hnil hlen hn hi hpl
  go_enter Try.func5, Try.ntmps5
  go_wp2_with (go_at_call 7; refine HK.out.mono ?_; rintro e w1 ⟨rfl, hb1⟩; have HB1 := Lib.hid hb1; clear hb1)
  go_loopw [3, 10] (fun v i wr => AllR ps w1 v i wr) (fun _ i _ => ps.length - (RowKit.intOf i).toNat)
  case atStart => exact HST.out w1 HB1.out
  case round =>
    obtain ⟨wo, rfl⟩ : ∃ wo : World, wo = wr := ⟨_, rfl⟩
    obtain ⟨k, hk, rfl, hown, hbe⟩ := hrel
    by_cases hlt : k < ps.length
    · obtain ⟨blk, off, rfl, hcs⟩ := (HR.out.below (keepW HB1.out hbe)) (by intro e; subst e; simp at hlt)
      obtain ⟨hc, hrd⟩ := hcs k _ (List.getElem?_eq_getElem hlt)
      have hnk := HNIL.out _ (List.getElem_mem hlt)
      have hsn := flatP_snoc ps k hlt
      have hle := flatP_le ps (k + 1)
      have hle2 := HLEN.out
      obtain ⟨⟨A, l, c⟩, hp⟩ : ∃ p : Part, ps[k] = p := ⟨_, rfl⟩
      rw [hp] at hc hrd hsn hnk
      dsimp only at hrd hsn hnk
      have hltI : (k : Int) < (ps.length : Int) := by omega
      have hkI : (k : Int) < 1048576 := by have := HNN.out; omega
      have hcell : wo.cell? ⟨blk, off + k, none⟩ = some (.slice A l.length c) := hc
      have hsz : (flatP (ps.take k)).length + l.length ≤ 1048576 := by rw [hsn, List.length_append] at hle; omega
      have hz : w1.heap.size ≤ wo.heap.size := hbe.size
      have HSN := Lib.hid hsn; have HBE := Lib.hid hbe; have HSZ := Lib.hid hsz
      clear hsn hle hle2 hcs hc hp hbe hsz
      cases A with
      | none =>
        have hl0 := hnk rfl
        cases hl0
        have HO := Lib.hid hown
        clear hown hnk hrd
        go_wp2_with (refine wpList_append_own_none rfl _ _ 22 rfl w1.heap.size 5 i0 1 Try.underlying22 HI.out _ _ _ rfl HO.out rfl ?_)
        go_roundw
        case rel => exact ⟨k + 1, by omega, by go_num, by rw [HSN.out, List.append_nil]; exact HO.out, HBE.out⟩
        case measure => simp [RowKit.intOf]; omega
      | some a =>
        have hnews : ∀ j u, (l.map u8)[j]? = some u → wo.cell? (a.add j) = some u := fun j u hu => by
          rw [List.getElem?_map] at hu
          cases hx : l[j]? with
          | none => rw [hx] at hu; cases hu
          | some x =>
            rw [hx] at hu; cases hu
            obtain ⟨b, o, ha, hcc⟩ := hrd (by rintro rfl; simp at hx)
            cases ha
            rw [plain_add]; exact hcc j x hx
        have HNW := Lib.hid hnews
        have HO := Lib.hid hown
        clear hown hnk hrd hnews
        go_wp2_with (at_builtin; refine wpList_append_own _ rfl _ _ 22 rfl w1.heap.size 5 i0 (.int .u8 0) 1 1 Try.underlying22 HI.out hz0 hz1 hz2 rfl (by decide) _ _ _ rfl HO.out a l.length c (l.map u8) rfl ?qc1 HNW.out ?qc3 ?qc4 ?qc5 hz ?_)
        case qc1 => simp
        case qc3 => intro u hu; obtain ⟨x, _, rfl⟩ := List.mem_map.1 hu; rfl
        case qc4 => unfold maxLen; have := HSZ.out; omega
        case qc5 => have := HSZ.out; omega
        intro v' w2 hown hgrow _
        have hown2 : w2.ownsRow w1.heap.size 5 1 v' (flatP (ps.take (k + 1))).length ((flatP (ps.take (k + 1))).map u8) := by
          rw [HSN.out, List.length_append, List.map_append]; exact hown
        have hb2 : Below w1.heap.size w1 w2 := HBE.out.grown hgrow hz fun g hg => (HO.out.lt g hg).1
        have HO2 := Lib.hid hown2; have HB2 := Lib.hid hb2
        clear hown hgrow hown2 hb2
        go_wp2
        go_roundw
        case rel => exact ⟨k + 1, by omega, by go_num, HO2.out, HB2.out⟩
        case measure => simp [RowKit.intOf]; omega
    · have hk' : k = ps.length := by omega
      rw [List.take_of_length_le (by omega)] at hown
      obtain ⟨A, c, rfl, ho⟩ := own_of hown
      have HB := Lib.hid (keepW HB1.out hbe)
      have HSU := Lib.hid (HSUM.out _ HB.out)
      have HRS := Lib.hid (refSum_any A (flatP ps) c (by have := HLEN.out; omega) wo ho.rd)
      have hlt16 := ck_lt (sumP true (flatP ps))
      generalize ck (sumP true (flatP ps)) = S at *
      generalize (flatP ps).length = len at *
      clear hown ho hbe hlt16
      by_cases hbig : 3000 < len
      · have hbI : (3000 : Int) < (len : Int) := by omega
        clear hbig
        go_wp2
        go_ret
        exact ⟨rfl, HB.out⟩
      · have hbI : ¬ (3000 : Int) < (len : Int) := by omega
        clear hbig
        go_wp2_with (first
          | (go_at_call 17; refine HSU.out.mono ?_; rintro e w' ⟨rfl, rfl⟩)
          | (go_at_call 18; refine HRS.out.mono ?_; rintro e w' ⟨rfl, rfl⟩))
        go_ret
        exact ⟨rfl, HB.out⟩
end Go.Proofs.Ytbmifinomdcllaa
