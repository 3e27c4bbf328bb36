/-
  Own texts, merged: PdJ PdK PdL PdM
-/
import Derived.Test.YtecmhjhjmhliiaaDoorQ8

/-
  Pcap: the document's Open.
-/

namespace Go.Proofs.YtecmhjhjmhliiaaDoor

open Go.RowKit Go.Lib

set_option maxRecDepth 100000

def RefOR (w : World) (l : List UInt8) (i : Value) (wr : World) : Prop := ∃ k : Nat, k ≤ 4 ∧ i = .int .i64 k ∧ Below w.heap.size w wr ∧ Blk wr w.heap.size #[.bool false, .bool false, .int .u16 0, .int .u32 0] 31 ∧
  (0 < k → pre l (mg false false) = false) ∧ (1 < k → pre l (mg true false) = false) ∧ (2 < k → pre l (mg false true) = false) ∧ (3 < k → pre l (mg true true) = false)
theorem slice_all (g E c : Nat) (h : E ≤ c) (hc : 0 < c) (w : World) : (Instr.slice 22 (.slice (some ⟨g, 0, none⟩) c c) none (some (.int .i64 E)) none).run Tryd.prog w = .ok (.slice (some ⟨g, 0, none⟩) E c) w := by
  have hel : Tryd.prog.elem 22 = 5 := by kernel_rfl
  have hz : ∀ w : World, (sizeOf 5).run Tryd.prog w = .ok 1 w := fun w => by
    obtain ⟨i0, hi, _, hz1, _⟩ := info_parts info_u8b
    simp [sizeOf, typeInfo, Sem.run_bind, hi, hz1]
  rw [run_slice_h (w := w) (t := 22) (ht := by rw [hel]; exact Tryd.underlying22) (kh := .i64) (h := (E : Int)) (h0 := by omega) (h2 := by omega), hel, hz]
  simp only [Result.andThen, sliced]
  rw [Int.toNat_natCast, Nat.zero_mul, Nat.sub_zero, Nat.sub_zero, if_neg (by omega)]
  show Result.ok (Value.slice (some ((⟨g, 0, none⟩ : Addr).add 0)) E c) w = _
  rw [plain_add]
theorem rd_take {w : World} {g : Nat} {l : List UInt8} (h : Rd w (some ⟨g, 0, none⟩) l) (E : Nat) : Rd w (some ⟨g, 0, none⟩) (l.take E) := fun hl => by
  obtain ⟨b, o, hA, hc⟩ := h (by rintro rfl; simp at hl)
  refine ⟨b, o, hA, fun j x hx => ?_⟩
  rw [List.getElem?_take] at hx
  split at hx
  · exact hc j x hx
  · cases hx
theorem refMagic_R (lit nan : Bool) (w : World) :
    Calls Tryd.prog 27 #[.bool lit, .bool nan] w fun e w' => ∃ g, e = .returned (.slice (some ⟨g, 0, none⟩) 4 4) ∧ RdB w' g (mg lit nan) ∧ w.heap.size ≤ g ∧ Below w.heap.size w w' := by
  refine (refMagic_any lit nan w).mono ?_
  rintro e w' ⟨rfl, h1, h2⟩
  refine ⟨_, rfl, ⟨h1, ?_⟩, Nat.le_refl _, h2⟩
  have := h1.at_ 0 (by rw [mg_len]; decide)
  exact World.block_lt_of_cell? _ _ this
set_option maxHeartbeats 8000000 in
theorem refOpen_any (A : Option Addr) (l : List UInt8) (cap : Nat) (hc : l.length ≤ cap) (hlen : l.length ≤ 4611686018427387904) (w : World) (hr : Rd w A l) :
    Calls Tryd.prog 9 #[.slice A l.length cap] w fun e w' => e = .returned (openV (openF l)) ∧ Below w.heap.size w w' := by
  obtain ⟨E, hE⟩ : ∃ E, (l.take 4).length = E := ⟨_, rfl⟩
  have hE2 : E = min 4 l.length := by rw [← hE, List.length_take]
  obtain ⟨A0, hrun, hrd⟩ := upto_cut A l cap E (by omega) hc
  have hle : l.take E = l.take 4 := by rw [hE2, List.take_eq_take_iff]; omega
  rw [hle] at hrd
  obtain ⟨tb, htb⟩ : ∃ tb, l.take 4 = tb := ⟨_, rfl⟩
  have hcb : ∀ w', Below w.heap.size w w' → (convert 22 9 (.slice A0 E cap)).run Tryd.prog w' = .ok (.string ⟨tb.toArray⟩) w' := fun w' hb => by
    have h := conv_rd (hrd w' (hr.below hb)) cap
    rw [hE, htb] at h
    exact h
  have HPRE := Lib.hid (show ∀ m, decide (m.take E = tb) = pre l m from fun m => by unfold pre; rw [hE, htb])
  have HG2 := Lib.hid (fun (lit : Bool) w' hb => refGet_any A l cap lit 4 2 (by decide) hlen w' (hr.below (w' := w') hb))
  have HG16 := Lib.hid (fun (lit : Bool) w' hb => refGet_any A l cap lit 16 4 (by decide) hlen w' (hr.below (w' := w') hb))
  have HG20 := Lib.hid (fun (lit : Bool) w' hb => refGet_any A l cap lit 20 4 (by decide) hlen w' (hr.below (w' := w') hb))
  have HE4 := Lib.hid (show E ≤ 4 by omega)
  have HCB := Lib.hid hcb; have HRUN := Lib.hid hrun
  have HLL : ∃ len, l.length = len := ⟨_, rfl⟩
  obtain ⟨len, hll⟩ := HLL
  have HLN := Lib.hid hll
  rw [hll] at HRUN hc hlen hE2 HG2 HG16 HG20
  rw [hll]
  clear hE hle hrd hr htb hcb hrun hll
  go_enter Tryd.func9, Tryd.ntmps9
  go_upto_if 16 with fail
  go_cut [4] (fun s4 wx => s4 = .int .i64 (E : Int) ∧ wx = w.alloc (.cells #[.bool false, .bool false, .int .u16 0, .int .u32 0] 31))
  case first =>
    by_cases h4 : (4 : Int) < (len : Int)
    · have hE5 : E = 4 := by omega
      clear hE2
      go_wp2_with fail
      go_meet
      exact ⟨by rw [hE5]; rfl, rfl⟩
    · have hE5 : E = len := by omega
      clear hE2
      go_wp2_with fail
      go_meet
      exact ⟨by rw [hE5], rfl⟩
  case rest =>
    obtain ⟨rfl, rfl⟩ := hcut
    clear hE2
    go_wp2_with fail
    go_loopw [5] (fun i wr => RefOR w l i wr) (fun i _ => 4 - (RowKit.intOf i).toNat)
    case atStart => exact ⟨0, by omega, rfl, (Below.refl _ w).alloc (Nat.le_refl _) _, Blk.new rfl, by omega, by omega, by omega, by omega⟩
    case round =>
      obtain ⟨wo, rfl⟩ : ∃ wo : World, wo = wr := ⟨_, rfl⟩
      obtain ⟨k, hk, rfl, hbe, hres, h0, h1, h2, h3⟩ := hrel
      have HBE := Lib.hid hbe
      have HRES := Lib.hid hres
      clear hbe hres
      rcases (by omega : k = 0 ∨ k = 1 ∨ k = 2 ∨ k = 3 ∨ k = 4) with rfl | rfl | rfl | rfl | rfl
      · skip
        rw [show ((0 : Nat) : Int) = 0 from rfl]
        obtain ⟨p, hp⟩ : ∃ p, pre l (mg false false) = p := ⟨_, rfl⟩
        obtain ⟨tm, htm⟩ : ∃ tm, (mg false false).take E = tm := ⟨_, rfl⟩
        have hq1 : (tm == tb) = p := by rw [beq_dec, ← htm, HPRE.out, hp]
        have hq2 : (tm != tb) = !p := by rw [bne, hq1]
        have HM := Lib.hid (fun w => refMagic_R false false w)
        have HCV := Lib.hid (fun (w' : World) (g : Nat) (h : RdB w' g (mg false false)) => by
          have h2 := conv_rd (rd_take h.rd E) 4
          rw [htm, show tm.length = E by rw [← htm, List.length_take, mg_len]; have := HE4.out; omega] at h2
          exact h2)
        have H0 := Lib.hid h0; have H1 := Lib.hid h1; have H2 := Lib.hid h2; have H3 := Lib.hid h3
        have HPP := Lib.hid hp
        clear h0 h1 h2 h3 hp htm
        go_upto_region 8 with fail
        have hsl := fun g w => slice_all g E 4 HE4.out (by decide) w
        have hcb := HCB.out
        have hrun := HRUN.out
        have HBA : Blk (wo.alloc (.cells #[.bool false, .bool false, .int .u16 0, .int .u32 0] 31)) wo.heap.size #[.bool false, .bool false, .int .u16 0, .int .u32 0] 31 := Blk.new rfl
        refine wp_region_held_drew (S := (fun w' => Blk w' wo.heap.size #[.bool false, .bool false, .int .u16 0, .int .u32 0] 31 ∧ Blk w' w.heap.size #[.bool false, .bool false, .int .u16 0, .int .u32 0] 31 ∧ Below w.heap.size w w')) (by kernel_rfl) ?_ (fun hHeld => ?_)
        · exact ⟨HBA.drew, (HRES.out.old _).drew, drewB (keepR HBE.out)⟩
        generalize World.drew _ = wz at hHeld  ⊢
        refine H.take 0 (v := ?_) rfl (by kernel_rfl) (fun _ _ _ h => h) (by rfl) ?_ (by assumption) ?_
        rotate_left
        · (intro wz hSw; (try dsimp only at hSw); have q1 := hSw.1.four; have hcb2 := hcb wz hSw.2.2;go_simp <;> with_reducible rfl)
        try simp only [Act.put, List.setIfInBounds_toArray, List.set_cons_zero, List.set_cons_succ]
        refine H.take 1 (v := ?_) rfl (by kernel_rfl) (fun _ _ _ h => h) (by rfl) ?_ (by assumption) ?_
        rotate_left
        · (intro wz hSw; (try dsimp only at hSw); have q1 := hSw.1.four; have hcb2 := hcb wz hSw.2.2;go_simp <;> with_reducible rfl)
        try simp only [Act.put, List.setIfInBounds_toArray, List.set_cons_zero, List.set_cons_succ]
        refine H.take 2 (v := ?_) rfl (by kernel_rfl) (fun _ _ _ h => h) (by rfl) ?_ (by assumption) ?_
        rotate_left
        · (intro wz hSw; (try dsimp only at hSw); have q1 := hSw.1.four; have hcb2 := hcb wz hSw.2.2;go_simp <;> with_reducible rfl)
        try simp only [Act.put, List.setIfInBounds_toArray, List.set_cons_zero, List.set_cons_succ]
        refine H.take 3 (v := ?_) rfl (by kernel_rfl) (fun _ _ _ h => h) (by rfl) ?_ (by assumption) ?_
        rotate_left
        · (intro wz hSw; (try dsimp only at hSw); have q1 := hSw.1.four; have hcb2 := hcb wz hSw.2.2;go_simp <;> with_reducible rfl)
        try simp only [Act.put, List.setIfInBounds_toArray, List.set_cons_zero, List.set_cons_succ]
        refine H.take 5 (v := ?_) rfl (by kernel_rfl) (fun _ _ _ h => h) (by rfl) ?_ (by assumption) ?_
        rotate_left
        · (intro wz hSw; (try dsimp only at hSw); have q1 := hSw.1.four; have hcb2 := hcb wz hSw.2.2;go_simp <;> with_reducible rfl)
        try simp only [Act.put, List.setIfInBounds_toArray, List.set_cons_zero, List.set_cons_succ]
        refine H.take 8 (v := ?_) rfl (by kernel_rfl) (fun _ _ _ h => h) (by rfl) ?_ (by assumption) ?_
        rotate_left
        · (intro wz hSw; (try dsimp only at hSw); have q1 := hSw.1.four; have hcb2 := hcb wz hSw.2.2;go_simp <;> with_reducible rfl)
        try simp only [Act.put, List.setIfInBounds_toArray, List.set_cons_zero, List.set_cons_succ]
        refine H.take 9 (v := ?_) rfl (by kernel_rfl) (fun _ _ _ h => h) (by rfl) ?_ (by assumption) ?_
        rotate_left
        · (intro wz hSw; (try dsimp only at hSw); have q1 := hSw.1.four; have hcb2 := hcb wz hSw.2.2;go_simp <;> with_reducible rfl)
        try simp only [Act.put, List.setIfInBounds_toArray, List.set_cons_zero, List.set_cons_succ]
        refine H.take 10 (v := ?_) rfl (by kernel_rfl) (fun _ _ _ h => h) (by rfl) ?_ (by assumption) ?_
        rotate_left
        · (intro wz hSw; (try dsimp only at hSw); have q1 := hSw.1.four; have hcb2 := hcb wz hSw.2.2;go_simp <;> with_reducible rfl)
        try simp only [Act.put, List.setIfInBounds_toArray, List.set_cons_zero, List.set_cons_succ]
        refine H.take 11 (v := ?_) rfl (by kernel_rfl) (fun _ _ _ h => h) (by rfl) ?_ (by assumption) ?_
        rotate_left
        · (intro wz hSw; (try dsimp only at hSw); have q1 := hSw.1.four; have hcb2 := hcb wz hSw.2.2;go_simp <;> with_reducible rfl)
        try simp only [Act.put, List.setIfInBounds_toArray, List.set_cons_zero, List.set_cons_succ]
        refine H.ready [4] (by kernel_rfl) (by simp) ?_
        refine H.one rfl (by rfl) (fun K hK => ?_) AllReadyH.nil
        go_simp
        go_at_call 27
        refine (HM.out _).mono ?_
        rintro e wk ⟨g31, rfl, r31, h31, hb⟩
        refine hK.out _ _ ?_ (fun hHeld2 => ?_)
        · exact ⟨hHeld.1.keep hb, hHeld.2.1.keep hb, hHeld.2.2.trans (hb.mono hHeld.2.2.size)⟩
        clear hHeld hK K; have hHeld := hHeld2; clear hHeld2
        clear hb
        try simp only [Act.put, List.setIfInBounds_toArray, List.set_cons_zero, List.set_cons_succ]
        refine H.take 6 (v := ?_) rfl (by kernel_rfl) (fun _ _ _ h => h) (by rfl) ?_ (by assumption) ?_
        rotate_left
        · (intro wz hSw; (try dsimp only at hSw); have q1 := hSw.1.four; have hcb2 := hcb wz hSw.2.2;go_simp <;> with_reducible rfl)
        try simp only [Act.put, List.setIfInBounds_toArray, List.set_cons_zero, List.set_cons_succ]
        refine H.ready [7] (by kernel_rfl) (by simp) ?_
        refine H.one rfl (by rfl) (fun K hK => ?_) AllReadyH.nil
        have hcv := HCV.out _ _ r31
        go_simp
        refine hK.out _ _ hHeld (fun hHeld2 => ?_)
        clear hHeld hK K; have hHeld := hHeld2; clear hHeld2
        try simp only [Act.put, List.setIfInBounds_toArray, List.set_cons_zero, List.set_cons_succ]
        refine H.take 12 (v := ?_) rfl (by kernel_rfl) (fun _ _ _ h => h) (by rfl) ?_ (by assumption) ?_
        rotate_left
        · (intro wz hSw; (try dsimp only at hSw); have q1 := hSw.1.four; have hcb2 := hcb wz hSw.2.2;go_simp <;> with_reducible rfl)
        try simp only [Act.put, List.setIfInBounds_toArray, List.set_cons_zero, List.set_cons_succ]
        refine H.done (by kernel_rfl) ?_ _
        have k6 := hHeld.1; have k2 := hHeld.2.1; have HBZ := Lib.hid hHeld.2.2
        have hc2 := k2.four; have hf2 := k2.fre4; have hc6 := k6.four; have hf6 := k6.fre4
        have HNE := Lib.hid (Nat.ne_of_lt HRES.out.lt)
        clear hHeld hcb hrun hsl HBA r31 hq1 hq2
        cases p
        · simp only [Bool.not_false]
          go_wp2_with fail
          go_roundw
          case rel => exact ⟨0 + 1, by omega, rfl, HBZ.out, k2, fun _ => by first | exact HPP.out | exact H0.out (by omega), fun _ => by first | exact HPP.out | exact H1.out (by omega) | omega, fun _ => by first | exact HPP.out | exact H2.out (by omega) | omega, fun _ => by first | exact HPP.out | exact H3.out (by omega) | omega⟩
          case measure => decide
        · simp only [Bool.not_true]
          have hbeg : begF l = true := (begF_iff l).2 ⟨false, false, HPP.out⟩
          by_cases h24 : len < 24
          · have hof : openF l = noF 121 := by unfold openF; rw [if_pos hbeg, HLN.out, if_pos h24]
            have h24I : (len : Int) < 24 := by omega
            clear h24 hc6 hf6
            go_wp2_with fail
            apply post_row2 Tryd.results9 Tryd.underlying31 rfl w.heap.size 31 (x := .int .i64 121)
            case hg =>
              repeat (first | with_reducible exact k2 | apply Blk.put)
            case h =>
              refine And.intro (by rw [hof]; kernel_rfl) ?_
              repeat (first | with_reducible exact HBZ.out | with_reducible refine Below.at ?_ (Nat.le_refl _))
            all_goals kernel_rfl
          · have htk : l.take 4 = mg false false := (pre_whole (by rw [HLN.out]; omega) (mg_len _ _)).1 HPP.out
            have hof : openF l = openL false false l := by unfold openF; rw [if_pos hbeg, HLN.out, if_neg h24, (mag_of htk).1, (mag_of htk).2.1]
            have h24I : ¬ (len : Int) < 24 := by omega
            clear htk hbeg
            have hOL : openL false false l = if getN false l 4 2 = 2 then ⟨false, false, getN false l 20 4 % 65536, getN false l 16 4, 0⟩ else noF 125 := rfl
            rw [hOL] at hof
            have h20 : getN false l 20 4 < 4294967296 := getN_le false l 20 4
            have h16 : getN false l 16 4 < 4294967296 := getN_le false l 16 4
            have G2 := Lib.hid (HG2.out false); have G16 := Lib.hid (HG16.out false); have G20 := Lib.hid (HG20.out false)
            generalize getN false l 4 2 = n4 at *
            generalize getN false l 16 4 = n16 at *
            generalize getN false l 20 4 = n20 at *
            generalize getB l 4 2 = o4 at *
            generalize getB l 16 4 = o16 at *
            generalize getB l 20 4 = o20 at *
            clear h24 hOL HG2 HG16 HG20
            have hw16 : IntKind.u32.wrap (n16 : Int) = (n16 : Int) := by rw [IntKind.wrap_u32]; omega
            obtain ⟨m20, hm20, hr20⟩ : ∃ m : Nat, n20 % 65536 = m ∧ (n20 : Int) % 65536 = (m : Int) := ⟨n20 % 65536, rfl, by omega⟩
            have hw20 : IntKind.u16.wrap (m20 : Int) = (m20 : Int) := by rw [IntKind.wrap_u16]; omega
            rw [hm20] at hof
            clear hm20 h16 h20
            by_cases h4 : n4 = 2
            · subst h4
              rw [if_pos rfl] at hof
              have HOF := Lib.hid hof
              clear hof
              have hne1 := HNE.out; have hne2 := HNE.out.symm
              go_wp2_with (first | (go_at_call_of 28 (Value.int IntKind.i64 2); refine (G2.out _ HBZ.out).mono ?_; rintro e w' ⟨rfl, rfl⟩) | (go_at_call_of 28 (Value.int IntKind.i64 16); refine (G16.out _ HBZ.out).mono ?_; rintro e w' ⟨rfl, rfl⟩) | (go_at_call_of 28 (Value.int IntKind.i64 20); refine (G20.out _ HBZ.out).mono ?_; rintro e w' ⟨rfl, rfl⟩))
              apply post_row2 Tryd.results9 Tryd.underlying31 rfl w.heap.size 31 (x := .int .i64 0)
              case hg =>
                repeat (first | with_reducible exact k2 | apply Blk.put | apply Blk.else (a := ⟨wo.heap.size, 2, none⟩) (hb := HNE.out) | apply Blk.else (a := ⟨wo.heap.size, 3, none⟩) (hb := HNE.out))
              case h =>
                refine And.intro (by rw [HOF.out]; kernel_rfl) ?_
                repeat (first | with_reducible exact HBZ.out | with_reducible refine Below.at ?_ (Nat.le_refl _) | refine Below.at ?_ HBE.out.size)
              all_goals kernel_rfl
            · rw [if_neg h4] at hof
              have h4I : ¬ (n4 : Int) = 2 := by omega
              have HOF := Lib.hid hof
              clear hof h4
              go_wp2_with (first | (go_at_call_of 28 (Value.int IntKind.i64 2); refine (G2.out _ HBZ.out).mono ?_; rintro e w' ⟨rfl, rfl⟩) | (go_at_call_of 28 (Value.int IntKind.i64 16); refine (G16.out _ HBZ.out).mono ?_; rintro e w' ⟨rfl, rfl⟩) | (go_at_call_of 28 (Value.int IntKind.i64 20); refine (G20.out _ HBZ.out).mono ?_; rintro e w' ⟨rfl, rfl⟩))
              apply post_row2 Tryd.results9 Tryd.underlying31 rfl w.heap.size 31 (x := .int .i64 125)
              case hg =>
                repeat (first | with_reducible exact k2 | apply Blk.put)
              case h =>
                refine And.intro (by rw [HOF.out]; kernel_rfl) ?_
                repeat (first | with_reducible exact HBZ.out | with_reducible refine Below.at ?_ (Nat.le_refl _))
              all_goals kernel_rfl
      · skip
        rw [show ((1 : Nat) : Int) = 1 from rfl]
        obtain ⟨p, hp⟩ : ∃ p, pre l (mg true false) = p := ⟨_, rfl⟩
        obtain ⟨tm, htm⟩ : ∃ tm, (mg true false).take E = tm := ⟨_, rfl⟩
        have hq1 : (tm == tb) = p := by rw [beq_dec, ← htm, HPRE.out, hp]
        have hq2 : (tm != tb) = !p := by rw [bne, hq1]
        have HM := Lib.hid (fun w => refMagic_R true false w)
        have HCV := Lib.hid (fun (w' : World) (g : Nat) (h : RdB w' g (mg true false)) => by
          have h2 := conv_rd (rd_take h.rd E) 4
          rw [htm, show tm.length = E by rw [← htm, List.length_take, mg_len]; have := HE4.out; omega] at h2
          exact h2)
        have H0 := Lib.hid h0; have H1 := Lib.hid h1; have H2 := Lib.hid h2; have H3 := Lib.hid h3
        have HPP := Lib.hid hp
        clear h0 h1 h2 h3 hp htm
        go_upto_region 8 with fail
        have hsl := fun g w => slice_all g E 4 HE4.out (by decide) w
        have hcb := HCB.out
        have hrun := HRUN.out
        have HBA : Blk (wo.alloc (.cells #[.bool true, .bool false, .int .u16 0, .int .u32 0] 31)) wo.heap.size #[.bool true, .bool false, .int .u16 0, .int .u32 0] 31 := Blk.new rfl
        refine wp_region_held_drew (S := (fun w' => Blk w' wo.heap.size #[.bool true, .bool false, .int .u16 0, .int .u32 0] 31 ∧ Blk w' w.heap.size #[.bool false, .bool false, .int .u16 0, .int .u32 0] 31 ∧ Below w.heap.size w w')) (by kernel_rfl) ?_ (fun hHeld => ?_)
        · exact ⟨HBA.drew, (HRES.out.old _).drew, drewB (keepR HBE.out)⟩
        generalize World.drew _ = wz at hHeld  ⊢
        refine H.take 0 (v := ?_) rfl (by kernel_rfl) (fun _ _ _ h => h) (by rfl) ?_ (by assumption) ?_
        rotate_left
        · (intro wz hSw; (try dsimp only at hSw); have q1 := hSw.1.four; have hcb2 := hcb wz hSw.2.2;go_simp <;> with_reducible rfl)
        try simp only [Act.put, List.setIfInBounds_toArray, List.set_cons_zero, List.set_cons_succ]
        refine H.take 1 (v := ?_) rfl (by kernel_rfl) (fun _ _ _ h => h) (by rfl) ?_ (by assumption) ?_
        rotate_left
        · (intro wz hSw; (try dsimp only at hSw); have q1 := hSw.1.four; have hcb2 := hcb wz hSw.2.2;go_simp <;> with_reducible rfl)
        try simp only [Act.put, List.setIfInBounds_toArray, List.set_cons_zero, List.set_cons_succ]
        refine H.take 2 (v := ?_) rfl (by kernel_rfl) (fun _ _ _ h => h) (by rfl) ?_ (by assumption) ?_
        rotate_left
        · (intro wz hSw; (try dsimp only at hSw); have q1 := hSw.1.four; have hcb2 := hcb wz hSw.2.2;go_simp <;> with_reducible rfl)
        try simp only [Act.put, List.setIfInBounds_toArray, List.set_cons_zero, List.set_cons_succ]
        refine H.take 3 (v := ?_) rfl (by kernel_rfl) (fun _ _ _ h => h) (by rfl) ?_ (by assumption) ?_
        rotate_left
        · (intro wz hSw; (try dsimp only at hSw); have q1 := hSw.1.four; have hcb2 := hcb wz hSw.2.2;go_simp <;> with_reducible rfl)
        try simp only [Act.put, List.setIfInBounds_toArray, List.set_cons_zero, List.set_cons_succ]
        refine H.take 5 (v := ?_) rfl (by kernel_rfl) (fun _ _ _ h => h) (by rfl) ?_ (by assumption) ?_
        rotate_left
        · (intro wz hSw; (try dsimp only at hSw); have q1 := hSw.1.four; have hcb2 := hcb wz hSw.2.2;go_simp <;> with_reducible rfl)
        try simp only [Act.put, List.setIfInBounds_toArray, List.set_cons_zero, List.set_cons_succ]
        refine H.take 8 (v := ?_) rfl (by kernel_rfl) (fun _ _ _ h => h) (by rfl) ?_ (by assumption) ?_
        rotate_left
        · (intro wz hSw; (try dsimp only at hSw); have q1 := hSw.1.four; have hcb2 := hcb wz hSw.2.2;go_simp <;> with_reducible rfl)
        try simp only [Act.put, List.setIfInBounds_toArray, List.set_cons_zero, List.set_cons_succ]
        refine H.take 9 (v := ?_) rfl (by kernel_rfl) (fun _ _ _ h => h) (by rfl) ?_ (by assumption) ?_
        rotate_left
        · (intro wz hSw; (try dsimp only at hSw); have q1 := hSw.1.four; have hcb2 := hcb wz hSw.2.2;go_simp <;> with_reducible rfl)
        try simp only [Act.put, List.setIfInBounds_toArray, List.set_cons_zero, List.set_cons_succ]
        refine H.take 10 (v := ?_) rfl (by kernel_rfl) (fun _ _ _ h => h) (by rfl) ?_ (by assumption) ?_
        rotate_left
        · (intro wz hSw; (try dsimp only at hSw); have q1 := hSw.1.four; have hcb2 := hcb wz hSw.2.2;go_simp <;> with_reducible rfl)
        try simp only [Act.put, List.setIfInBounds_toArray, List.set_cons_zero, List.set_cons_succ]
        refine H.take 11 (v := ?_) rfl (by kernel_rfl) (fun _ _ _ h => h) (by rfl) ?_ (by assumption) ?_
        rotate_left
        · (intro wz hSw; (try dsimp only at hSw); have q1 := hSw.1.four; have hcb2 := hcb wz hSw.2.2;go_simp <;> with_reducible rfl)
        try simp only [Act.put, List.setIfInBounds_toArray, List.set_cons_zero, List.set_cons_succ]
        refine H.ready [4] (by kernel_rfl) (by simp) ?_
        refine H.one rfl (by rfl) (fun K hK => ?_) AllReadyH.nil
        go_simp
        go_at_call 27
        refine (HM.out _).mono ?_
        rintro e wk ⟨g31, rfl, r31, h31, hb⟩
        refine hK.out _ _ ?_ (fun hHeld2 => ?_)
        · exact ⟨hHeld.1.keep hb, hHeld.2.1.keep hb, hHeld.2.2.trans (hb.mono hHeld.2.2.size)⟩
        clear hHeld hK K; have hHeld := hHeld2; clear hHeld2
        clear hb
        try simp only [Act.put, List.setIfInBounds_toArray, List.set_cons_zero, List.set_cons_succ]
        refine H.take 6 (v := ?_) rfl (by kernel_rfl) (fun _ _ _ h => h) (by rfl) ?_ (by assumption) ?_
        rotate_left
        · (intro wz hSw; (try dsimp only at hSw); have q1 := hSw.1.four; have hcb2 := hcb wz hSw.2.2;go_simp <;> with_reducible rfl)
        try simp only [Act.put, List.setIfInBounds_toArray, List.set_cons_zero, List.set_cons_succ]
        refine H.ready [7] (by kernel_rfl) (by simp) ?_
        refine H.one rfl (by rfl) (fun K hK => ?_) AllReadyH.nil
        have hcv := HCV.out _ _ r31
        go_simp
        refine hK.out _ _ hHeld (fun hHeld2 => ?_)
        clear hHeld hK K; have hHeld := hHeld2; clear hHeld2
        try simp only [Act.put, List.setIfInBounds_toArray, List.set_cons_zero, List.set_cons_succ]
        refine H.take 12 (v := ?_) rfl (by kernel_rfl) (fun _ _ _ h => h) (by rfl) ?_ (by assumption) ?_
        rotate_left
        · (intro wz hSw; (try dsimp only at hSw); have q1 := hSw.1.four; have hcb2 := hcb wz hSw.2.2;go_simp <;> with_reducible rfl)
        try simp only [Act.put, List.setIfInBounds_toArray, List.set_cons_zero, List.set_cons_succ]
        refine H.done (by kernel_rfl) ?_ _
        have k6 := hHeld.1; have k2 := hHeld.2.1; have HBZ := Lib.hid hHeld.2.2
        have hc2 := k2.four; have hf2 := k2.fre4; have hc6 := k6.four; have hf6 := k6.fre4
        have HNE := Lib.hid (Nat.ne_of_lt HRES.out.lt)
        clear hHeld hcb hrun hsl HBA r31 hq1 hq2
        cases p
        · simp only [Bool.not_false]
          go_wp2_with fail
          go_roundw
          case rel => exact ⟨1 + 1, by omega, rfl, HBZ.out, k2, fun _ => by first | exact HPP.out | exact H0.out (by omega), fun _ => by first | exact HPP.out | exact H1.out (by omega) | omega, fun _ => by first | exact HPP.out | exact H2.out (by omega) | omega, fun _ => by first | exact HPP.out | exact H3.out (by omega) | omega⟩
          case measure => decide
        · simp only [Bool.not_true]
          have hbeg : begF l = true := (begF_iff l).2 ⟨true, false, HPP.out⟩
          by_cases h24 : len < 24
          · have hof : openF l = noF 121 := by unfold openF; rw [if_pos hbeg, HLN.out, if_pos h24]
            have h24I : (len : Int) < 24 := by omega
            clear h24 hc6 hf6
            go_wp2_with fail
            apply post_row2 Tryd.results9 Tryd.underlying31 rfl w.heap.size 31 (x := .int .i64 121)
            case hg =>
              repeat (first | with_reducible exact k2 | apply Blk.put)
            case h =>
              refine And.intro (by rw [hof]; kernel_rfl) ?_
              repeat (first | with_reducible exact HBZ.out | with_reducible refine Below.at ?_ (Nat.le_refl _))
            all_goals kernel_rfl
          · have htk : l.take 4 = mg true false := (pre_whole (by rw [HLN.out]; omega) (mg_len _ _)).1 HPP.out
            have hof : openF l = openL true false l := by unfold openF; rw [if_pos hbeg, HLN.out, if_neg h24, (mag_of htk).1, (mag_of htk).2.1]
            have h24I : ¬ (len : Int) < 24 := by omega
            clear htk hbeg
            have hOL : openL true false l = if getN true l 4 2 = 2 then ⟨true, false, getN true l 20 4 % 65536, getN true l 16 4, 0⟩ else noF 125 := rfl
            rw [hOL] at hof
            have h20 : getN true l 20 4 < 4294967296 := getN_le true l 20 4
            have h16 : getN true l 16 4 < 4294967296 := getN_le true l 16 4
            have G2 := Lib.hid (HG2.out true); have G16 := Lib.hid (HG16.out true); have G20 := Lib.hid (HG20.out true)
            generalize getN true l 4 2 = n4 at *
            generalize getN true l 16 4 = n16 at *
            generalize getN true l 20 4 = n20 at *
            generalize getB l 4 2 = o4 at *
            generalize getB l 16 4 = o16 at *
            generalize getB l 20 4 = o20 at *
            clear h24 hOL HG2 HG16 HG20
            have hw16 : IntKind.u32.wrap (n16 : Int) = (n16 : Int) := by rw [IntKind.wrap_u32]; omega
            obtain ⟨m20, hm20, hr20⟩ : ∃ m : Nat, n20 % 65536 = m ∧ (n20 : Int) % 65536 = (m : Int) := ⟨n20 % 65536, rfl, by omega⟩
            have hw20 : IntKind.u16.wrap (m20 : Int) = (m20 : Int) := by rw [IntKind.wrap_u16]; omega
            rw [hm20] at hof
            clear hm20 h16 h20
            by_cases h4 : n4 = 2
            · subst h4
              rw [if_pos rfl] at hof
              have HOF := Lib.hid hof
              clear hof
              have hne1 := HNE.out; have hne2 := HNE.out.symm
              go_wp2_with (first | (go_at_call_of 28 (Value.int IntKind.i64 2); refine (G2.out _ HBZ.out).mono ?_; rintro e w' ⟨rfl, rfl⟩) | (go_at_call_of 28 (Value.int IntKind.i64 16); refine (G16.out _ HBZ.out).mono ?_; rintro e w' ⟨rfl, rfl⟩) | (go_at_call_of 28 (Value.int IntKind.i64 20); refine (G20.out _ HBZ.out).mono ?_; rintro e w' ⟨rfl, rfl⟩))
              apply post_row2 Tryd.results9 Tryd.underlying31 rfl w.heap.size 31 (x := .int .i64 0)
              case hg =>
                repeat (first | with_reducible exact k2 | apply Blk.put | apply Blk.else (a := ⟨wo.heap.size, 2, none⟩) (hb := HNE.out) | apply Blk.else (a := ⟨wo.heap.size, 3, none⟩) (hb := HNE.out))
              case h =>
                refine And.intro (by rw [HOF.out]; kernel_rfl) ?_
                repeat (first | with_reducible exact HBZ.out | with_reducible refine Below.at ?_ (Nat.le_refl _) | refine Below.at ?_ HBE.out.size)
              all_goals kernel_rfl
            · rw [if_neg h4] at hof
              have h4I : ¬ (n4 : Int) = 2 := by omega
              have HOF := Lib.hid hof
              clear hof h4
              go_wp2_with (first | (go_at_call_of 28 (Value.int IntKind.i64 2); refine (G2.out _ HBZ.out).mono ?_; rintro e w' ⟨rfl, rfl⟩) | (go_at_call_of 28 (Value.int IntKind.i64 16); refine (G16.out _ HBZ.out).mono ?_; rintro e w' ⟨rfl, rfl⟩) | (go_at_call_of 28 (Value.int IntKind.i64 20); refine (G20.out _ HBZ.out).mono ?_; rintro e w' ⟨rfl, rfl⟩))
              apply post_row2 Tryd.results9 Tryd.underlying31 rfl w.heap.size 31 (x := .int .i64 125)
              case hg =>
                repeat (first | with_reducible exact k2 | apply Blk.put)
              case h =>
                refine And.intro (by rw [HOF.out]; kernel_rfl) ?_
                repeat (first | with_reducible exact HBZ.out | with_reducible refine Below.at ?_ (Nat.le_refl _))
              all_goals kernel_rfl
      · skip
        rw [show ((2 : Nat) : Int) = 2 from rfl]
        obtain ⟨p, hp⟩ : ∃ p, pre l (mg false true) = p := ⟨_, rfl⟩
        obtain ⟨tm, htm⟩ : ∃ tm, (mg false true).take E = tm := ⟨_, rfl⟩
        have hq1 : (tm == tb) = p := by rw [beq_dec, ← htm, HPRE.out, hp]
        have hq2 : (tm != tb) = !p := by rw [bne, hq1]
        have HM := Lib.hid (fun w => refMagic_R false true w)
        have HCV := Lib.hid (fun (w' : World) (g : Nat) (h : RdB w' g (mg false true)) => by
          have h2 := conv_rd (rd_take h.rd E) 4
          rw [htm, show tm.length = E by rw [← htm, List.length_take, mg_len]; have := HE4.out; omega] at h2
          exact h2)
        have H0 := Lib.hid h0; have H1 := Lib.hid h1; have H2 := Lib.hid h2; have H3 := Lib.hid h3
        have HPP := Lib.hid hp
        clear h0 h1 h2 h3 hp htm
        go_upto_region 8 with fail
        have hsl := fun g w => slice_all g E 4 HE4.out (by decide) w
        have hcb := HCB.out
        have hrun := HRUN.out
        have HBA : Blk (wo.alloc (.cells #[.bool false, .bool true, .int .u16 0, .int .u32 0] 31)) wo.heap.size #[.bool false, .bool true, .int .u16 0, .int .u32 0] 31 := Blk.new rfl
        refine wp_region_held_drew (S := (fun w' => Blk w' wo.heap.size #[.bool false, .bool true, .int .u16 0, .int .u32 0] 31 ∧ Blk w' w.heap.size #[.bool false, .bool false, .int .u16 0, .int .u32 0] 31 ∧ Below w.heap.size w w')) (by kernel_rfl) ?_ (fun hHeld => ?_)
        · exact ⟨HBA.drew, (HRES.out.old _).drew, drewB (keepR HBE.out)⟩
        generalize World.drew _ = wz at hHeld  ⊢
        refine H.take 0 (v := ?_) rfl (by kernel_rfl) (fun _ _ _ h => h) (by rfl) ?_ (by assumption) ?_
        rotate_left
        · (intro wz hSw; (try dsimp only at hSw); have q1 := hSw.1.four; have hcb2 := hcb wz hSw.2.2;go_simp <;> with_reducible rfl)
        try simp only [Act.put, List.setIfInBounds_toArray, List.set_cons_zero, List.set_cons_succ]
        refine H.take 1 (v := ?_) rfl (by kernel_rfl) (fun _ _ _ h => h) (by rfl) ?_ (by assumption) ?_
        rotate_left
        · (intro wz hSw; (try dsimp only at hSw); have q1 := hSw.1.four; have hcb2 := hcb wz hSw.2.2;go_simp <;> with_reducible rfl)
        try simp only [Act.put, List.setIfInBounds_toArray, List.set_cons_zero, List.set_cons_succ]
        refine H.take 2 (v := ?_) rfl (by kernel_rfl) (fun _ _ _ h => h) (by rfl) ?_ (by assumption) ?_
        rotate_left
        · (intro wz hSw; (try dsimp only at hSw); have q1 := hSw.1.four; have hcb2 := hcb wz hSw.2.2;go_simp <;> with_reducible rfl)
        try simp only [Act.put, List.setIfInBounds_toArray, List.set_cons_zero, List.set_cons_succ]
        refine H.take 3 (v := ?_) rfl (by kernel_rfl) (fun _ _ _ h => h) (by rfl) ?_ (by assumption) ?_
        rotate_left
        · (intro wz hSw; (try dsimp only at hSw); have q1 := hSw.1.four; have hcb2 := hcb wz hSw.2.2;go_simp <;> with_reducible rfl)
        try simp only [Act.put, List.setIfInBounds_toArray, List.set_cons_zero, List.set_cons_succ]
        refine H.take 5 (v := ?_) rfl (by kernel_rfl) (fun _ _ _ h => h) (by rfl) ?_ (by assumption) ?_
        rotate_left
        · (intro wz hSw; (try dsimp only at hSw); have q1 := hSw.1.four; have hcb2 := hcb wz hSw.2.2;go_simp <;> with_reducible rfl)
        try simp only [Act.put, List.setIfInBounds_toArray, List.set_cons_zero, List.set_cons_succ]
        refine H.take 8 (v := ?_) rfl (by kernel_rfl) (fun _ _ _ h => h) (by rfl) ?_ (by assumption) ?_
        rotate_left
        · (intro wz hSw; (try dsimp only at hSw); have q1 := hSw.1.four; have hcb2 := hcb wz hSw.2.2;go_simp <;> with_reducible rfl)
        try simp only [Act.put, List.setIfInBounds_toArray, List.set_cons_zero, List.set_cons_succ]
        refine H.take 9 (v := ?_) rfl (by kernel_rfl) (fun _ _ _ h => h) (by rfl) ?_ (by assumption) ?_
        rotate_left
        · (intro wz hSw; (try dsimp only at hSw); have q1 := hSw.1.four; have hcb2 := hcb wz hSw.2.2;go_simp <;> with_reducible rfl)
        try simp only [Act.put, List.setIfInBounds_toArray, List.set_cons_zero, List.set_cons_succ]
        refine H.take 10 (v := ?_) rfl (by kernel_rfl) (fun _ _ _ h => h) (by rfl) ?_ (by assumption) ?_
        rotate_left
        · (intro wz hSw; (try dsimp only at hSw); have q1 := hSw.1.four; have hcb2 := hcb wz hSw.2.2;go_simp <;> with_reducible rfl)
        try simp only [Act.put, List.setIfInBounds_toArray, List.set_cons_zero, List.set_cons_succ]
        refine H.take 11 (v := ?_) rfl (by kernel_rfl) (fun _ _ _ h => h) (by rfl) ?_ (by assumption) ?_
        rotate_left
        · (intro wz hSw; (try dsimp only at hSw); have q1 := hSw.1.four; have hcb2 := hcb wz hSw.2.2;go_simp <;> with_reducible rfl)
        try simp only [Act.put, List.setIfInBounds_toArray, List.set_cons_zero, List.set_cons_succ]
        refine H.ready [4] (by kernel_rfl) (by simp) ?_
        refine H.one rfl (by rfl) (fun K hK => ?_) AllReadyH.nil
        go_simp
        go_at_call 27
        refine (HM.out _).mono ?_
        rintro e wk ⟨g31, rfl, r31, h31, hb⟩
        refine hK.out _ _ ?_ (fun hHeld2 => ?_)
        · exact ⟨hHeld.1.keep hb, hHeld.2.1.keep hb, hHeld.2.2.trans (hb.mono hHeld.2.2.size)⟩
        clear hHeld hK K; have hHeld := hHeld2; clear hHeld2
        clear hb
        try simp only [Act.put, List.setIfInBounds_toArray, List.set_cons_zero, List.set_cons_succ]
        refine H.take 6 (v := ?_) rfl (by kernel_rfl) (fun _ _ _ h => h) (by rfl) ?_ (by assumption) ?_
        rotate_left
        · (intro wz hSw; (try dsimp only at hSw); have q1 := hSw.1.four; have hcb2 := hcb wz hSw.2.2;go_simp <;> with_reducible rfl)
        try simp only [Act.put, List.setIfInBounds_toArray, List.set_cons_zero, List.set_cons_succ]
        refine H.ready [7] (by kernel_rfl) (by simp) ?_
        refine H.one rfl (by rfl) (fun K hK => ?_) AllReadyH.nil
        have hcv := HCV.out _ _ r31
        go_simp
        refine hK.out _ _ hHeld (fun hHeld2 => ?_)
        clear hHeld hK K; have hHeld := hHeld2; clear hHeld2
        try simp only [Act.put, List.setIfInBounds_toArray, List.set_cons_zero, List.set_cons_succ]
        refine H.take 12 (v := ?_) rfl (by kernel_rfl) (fun _ _ _ h => h) (by rfl) ?_ (by assumption) ?_
        rotate_left
        · (intro wz hSw; (try dsimp only at hSw); have q1 := hSw.1.four; have hcb2 := hcb wz hSw.2.2;go_simp <;> with_reducible rfl)
        try simp only [Act.put, List.setIfInBounds_toArray, List.set_cons_zero, List.set_cons_succ]
        refine H.done (by kernel_rfl) ?_ _
        have k6 := hHeld.1; have k2 := hHeld.2.1; have HBZ := Lib.hid hHeld.2.2
        have hc2 := k2.four; have hf2 := k2.fre4; have hc6 := k6.four; have hf6 := k6.fre4
        have HNE := Lib.hid (Nat.ne_of_lt HRES.out.lt)
        clear hHeld hcb hrun hsl HBA r31 hq1 hq2
        cases p
        · simp only [Bool.not_false]
          go_wp2_with fail
          go_roundw
          case rel => exact ⟨2 + 1, by omega, rfl, HBZ.out, k2, fun _ => by first | exact HPP.out | exact H0.out (by omega), fun _ => by first | exact HPP.out | exact H1.out (by omega) | omega, fun _ => by first | exact HPP.out | exact H2.out (by omega) | omega, fun _ => by first | exact HPP.out | exact H3.out (by omega) | omega⟩
          case measure => decide
        · simp only [Bool.not_true]
          have hbeg : begF l = true := (begF_iff l).2 ⟨false, true, HPP.out⟩
          by_cases h24 : len < 24
          · have hof : openF l = noF 121 := by unfold openF; rw [if_pos hbeg, HLN.out, if_pos h24]
            have h24I : (len : Int) < 24 := by omega
            clear h24 hc6 hf6
            go_wp2_with fail
            apply post_row2 Tryd.results9 Tryd.underlying31 rfl w.heap.size 31 (x := .int .i64 121)
            case hg =>
              repeat (first | with_reducible exact k2 | apply Blk.put)
            case h =>
              refine And.intro (by rw [hof]; kernel_rfl) ?_
              repeat (first | with_reducible exact HBZ.out | with_reducible refine Below.at ?_ (Nat.le_refl _))
            all_goals kernel_rfl
          · have htk : l.take 4 = mg false true := (pre_whole (by rw [HLN.out]; omega) (mg_len _ _)).1 HPP.out
            have hof : openF l = openL false true l := by unfold openF; rw [if_pos hbeg, HLN.out, if_neg h24, (mag_of htk).1, (mag_of htk).2.1]
            have h24I : ¬ (len : Int) < 24 := by omega
            clear htk hbeg
            have hOL : openL false true l = if getN false l 4 2 = 2 then ⟨false, true, getN false l 20 4 % 65536, getN false l 16 4, 0⟩ else noF 125 := rfl
            rw [hOL] at hof
            have h20 : getN false l 20 4 < 4294967296 := getN_le false l 20 4
            have h16 : getN false l 16 4 < 4294967296 := getN_le false l 16 4
            have G2 := Lib.hid (HG2.out false); have G16 := Lib.hid (HG16.out false); have G20 := Lib.hid (HG20.out false)
            generalize getN false l 4 2 = n4 at *
            generalize getN false l 16 4 = n16 at *
            generalize getN false l 20 4 = n20 at *
            generalize getB l 4 2 = o4 at *
            generalize getB l 16 4 = o16 at *
            generalize getB l 20 4 = o20 at *
            clear h24 hOL HG2 HG16 HG20
            have hw16 : IntKind.u32.wrap (n16 : Int) = (n16 : Int) := by rw [IntKind.wrap_u32]; omega
            obtain ⟨m20, hm20, hr20⟩ : ∃ m : Nat, n20 % 65536 = m ∧ (n20 : Int) % 65536 = (m : Int) := ⟨n20 % 65536, rfl, by omega⟩
            have hw20 : IntKind.u16.wrap (m20 : Int) = (m20 : Int) := by rw [IntKind.wrap_u16]; omega
            rw [hm20] at hof
            clear hm20 h16 h20
            by_cases h4 : n4 = 2
            · subst h4
              rw [if_pos rfl] at hof
              have HOF := Lib.hid hof
              clear hof
              have hne1 := HNE.out; have hne2 := HNE.out.symm
              go_wp2_with (first | (go_at_call_of 28 (Value.int IntKind.i64 2); refine (G2.out _ HBZ.out).mono ?_; rintro e w' ⟨rfl, rfl⟩) | (go_at_call_of 28 (Value.int IntKind.i64 16); refine (G16.out _ HBZ.out).mono ?_; rintro e w' ⟨rfl, rfl⟩) | (go_at_call_of 28 (Value.int IntKind.i64 20); refine (G20.out _ HBZ.out).mono ?_; rintro e w' ⟨rfl, rfl⟩))
              apply post_row2 Tryd.results9 Tryd.underlying31 rfl w.heap.size 31 (x := .int .i64 0)
              case hg =>
                repeat (first | with_reducible exact k2 | apply Blk.put | apply Blk.else (a := ⟨wo.heap.size, 2, none⟩) (hb := HNE.out) | apply Blk.else (a := ⟨wo.heap.size, 3, none⟩) (hb := HNE.out))
              case h =>
                refine And.intro (by rw [HOF.out]; kernel_rfl) ?_
                repeat (first | with_reducible exact HBZ.out | with_reducible refine Below.at ?_ (Nat.le_refl _) | refine Below.at ?_ HBE.out.size)
              all_goals kernel_rfl
            · rw [if_neg h4] at hof
              have h4I : ¬ (n4 : Int) = 2 := by omega
              have HOF := Lib.hid hof
              clear hof h4
              go_wp2_with (first | (go_at_call_of 28 (Value.int IntKind.i64 2); refine (G2.out _ HBZ.out).mono ?_; rintro e w' ⟨rfl, rfl⟩) | (go_at_call_of 28 (Value.int IntKind.i64 16); refine (G16.out _ HBZ.out).mono ?_; rintro e w' ⟨rfl, rfl⟩) | (go_at_call_of 28 (Value.int IntKind.i64 20); refine (G20.out _ HBZ.out).mono ?_; rintro e w' ⟨rfl, rfl⟩))
              apply post_row2 Tryd.results9 Tryd.underlying31 rfl w.heap.size 31 (x := .int .i64 125)
              case hg =>
                repeat (first | with_reducible exact k2 | apply Blk.put)
              case h =>
                refine And.intro (by rw [HOF.out]; kernel_rfl) ?_
                repeat (first | with_reducible exact HBZ.out | with_reducible refine Below.at ?_ (Nat.le_refl _))
              all_goals kernel_rfl
      · skip
        rw [show ((3 : Nat) : Int) = 3 from rfl]
        obtain ⟨p, hp⟩ : ∃ p, pre l (mg true true) = p := ⟨_, rfl⟩
        obtain ⟨tm, htm⟩ : ∃ tm, (mg true true).take E = tm := ⟨_, rfl⟩
        have hq1 : (tm == tb) = p := by rw [beq_dec, ← htm, HPRE.out, hp]
        have hq2 : (tm != tb) = !p := by rw [bne, hq1]
        have HM := Lib.hid (fun w => refMagic_R true true w)
        have HCV := Lib.hid (fun (w' : World) (g : Nat) (h : RdB w' g (mg true true)) => by
          have h2 := conv_rd (rd_take h.rd E) 4
          rw [htm, show tm.length = E by rw [← htm, List.length_take, mg_len]; have := HE4.out; omega] at h2
          exact h2)
        have H0 := Lib.hid h0; have H1 := Lib.hid h1; have H2 := Lib.hid h2; have H3 := Lib.hid h3
        have HPP := Lib.hid hp
        clear h0 h1 h2 h3 hp htm
        go_upto_region 8 with fail
        have hsl := fun g w => slice_all g E 4 HE4.out (by decide) w
        have hcb := HCB.out
        have hrun := HRUN.out
        have HBA : Blk (wo.alloc (.cells #[.bool true, .bool true, .int .u16 0, .int .u32 0] 31)) wo.heap.size #[.bool true, .bool true, .int .u16 0, .int .u32 0] 31 := Blk.new rfl
        refine wp_region_held_drew (S := (fun w' => Blk w' wo.heap.size #[.bool true, .bool true, .int .u16 0, .int .u32 0] 31 ∧ Blk w' w.heap.size #[.bool false, .bool false, .int .u16 0, .int .u32 0] 31 ∧ Below w.heap.size w w')) (by kernel_rfl) ?_ (fun hHeld => ?_)
        · exact ⟨HBA.drew, (HRES.out.old _).drew, drewB (keepR HBE.out)⟩
        generalize World.drew _ = wz at hHeld  ⊢
        refine H.take 0 (v := ?_) rfl (by kernel_rfl) (fun _ _ _ h => h) (by rfl) ?_ (by assumption) ?_
        rotate_left
        · (intro wz hSw; (try dsimp only at hSw); have q1 := hSw.1.four; have hcb2 := hcb wz hSw.2.2;go_simp <;> with_reducible rfl)
        try simp only [Act.put, List.setIfInBounds_toArray, List.set_cons_zero, List.set_cons_succ]
        refine H.take 1 (v := ?_) rfl (by kernel_rfl) (fun _ _ _ h => h) (by rfl) ?_ (by assumption) ?_
        rotate_left
        · (intro wz hSw; (try dsimp only at hSw); have q1 := hSw.1.four; have hcb2 := hcb wz hSw.2.2;go_simp <;> with_reducible rfl)
        try simp only [Act.put, List.setIfInBounds_toArray, List.set_cons_zero, List.set_cons_succ]
        refine H.take 2 (v := ?_) rfl (by kernel_rfl) (fun _ _ _ h => h) (by rfl) ?_ (by assumption) ?_
        rotate_left
        · (intro wz hSw; (try dsimp only at hSw); have q1 := hSw.1.four; have hcb2 := hcb wz hSw.2.2;go_simp <;> with_reducible rfl)
        try simp only [Act.put, List.setIfInBounds_toArray, List.set_cons_zero, List.set_cons_succ]
        refine H.take 3 (v := ?_) rfl (by kernel_rfl) (fun _ _ _ h => h) (by rfl) ?_ (by assumption) ?_
        rotate_left
        · (intro wz hSw; (try dsimp only at hSw); have q1 := hSw.1.four; have hcb2 := hcb wz hSw.2.2;go_simp <;> with_reducible rfl)
        try simp only [Act.put, List.setIfInBounds_toArray, List.set_cons_zero, List.set_cons_succ]
        refine H.take 5 (v := ?_) rfl (by kernel_rfl) (fun _ _ _ h => h) (by rfl) ?_ (by assumption) ?_
        rotate_left
        · (intro wz hSw; (try dsimp only at hSw); have q1 := hSw.1.four; have hcb2 := hcb wz hSw.2.2;go_simp <;> with_reducible rfl)
        try simp only [Act.put, List.setIfInBounds_toArray, List.set_cons_zero, List.set_cons_succ]
        refine H.take 8 (v := ?_) rfl (by kernel_rfl) (fun _ _ _ h => h) (by rfl) ?_ (by assumption) ?_
        rotate_left
        · (intro wz hSw; (try dsimp only at hSw); have q1 := hSw.1.four; have hcb2 := hcb wz hSw.2.2;go_simp <;> with_reducible rfl)
        try simp only [Act.put, List.setIfInBounds_toArray, List.set_cons_zero, List.set_cons_succ]
        refine H.take 9 (v := ?_) rfl (by kernel_rfl) (fun _ _ _ h => h) (by rfl) ?_ (by assumption) ?_
        rotate_left
        · (intro wz hSw; (try dsimp only at hSw); have q1 := hSw.1.four; have hcb2 := hcb wz hSw.2.2;go_simp <;> with_reducible rfl)
        try simp only [Act.put, List.setIfInBounds_toArray, List.set_cons_zero, List.set_cons_succ]
        refine H.take 10 (v := ?_) rfl (by kernel_rfl) (fun _ _ _ h => h) (by rfl) ?_ (by assumption) ?_
        rotate_left
        · (intro wz hSw; (try dsimp only at hSw); have q1 := hSw.1.four; have hcb2 := hcb wz hSw.2.2;go_simp <;> with_reducible rfl)
        try simp only [Act.put, List.setIfInBounds_toArray, List.set_cons_zero, List.set_cons_succ]
        refine H.take 11 (v := ?_) rfl (by kernel_rfl) (fun _ _ _ h => h) (by rfl) ?_ (by assumption) ?_
        rotate_left
        · (intro wz hSw; (try dsimp only at hSw); have q1 := hSw.1.four; have hcb2 := hcb wz hSw.2.2;go_simp <;> with_reducible rfl)
        try simp only [Act.put, List.setIfInBounds_toArray, List.set_cons_zero, List.set_cons_succ]
        refine H.ready [4] (by kernel_rfl) (by simp) ?_
        refine H.one rfl (by rfl) (fun K hK => ?_) AllReadyH.nil
        go_simp
        go_at_call 27
        refine (HM.out _).mono ?_
        rintro e wk ⟨g31, rfl, r31, h31, hb⟩
        refine hK.out _ _ ?_ (fun hHeld2 => ?_)
        · exact ⟨hHeld.1.keep hb, hHeld.2.1.keep hb, hHeld.2.2.trans (hb.mono hHeld.2.2.size)⟩
        clear hHeld hK K; have hHeld := hHeld2; clear hHeld2
        clear hb
        try simp only [Act.put, List.setIfInBounds_toArray, List.set_cons_zero, List.set_cons_succ]
        refine H.take 6 (v := ?_) rfl (by kernel_rfl) (fun _ _ _ h => h) (by rfl) ?_ (by assumption) ?_
        rotate_left
        · (intro wz hSw; (try dsimp only at hSw); have q1 := hSw.1.four; have hcb2 := hcb wz hSw.2.2;go_simp <;> with_reducible rfl)
        try simp only [Act.put, List.setIfInBounds_toArray, List.set_cons_zero, List.set_cons_succ]
        refine H.ready [7] (by kernel_rfl) (by simp) ?_
        refine H.one rfl (by rfl) (fun K hK => ?_) AllReadyH.nil
        have hcv := HCV.out _ _ r31
        go_simp
        refine hK.out _ _ hHeld (fun hHeld2 => ?_)
        clear hHeld hK K; have hHeld := hHeld2; clear hHeld2
        try simp only [Act.put, List.setIfInBounds_toArray, List.set_cons_zero, List.set_cons_succ]
        refine H.take 12 (v := ?_) rfl (by kernel_rfl) (fun _ _ _ h => h) (by rfl) ?_ (by assumption) ?_
        rotate_left
        · (intro wz hSw; (try dsimp only at hSw); have q1 := hSw.1.four; have hcb2 := hcb wz hSw.2.2;go_simp <;> with_reducible rfl)
        try simp only [Act.put, List.setIfInBounds_toArray, List.set_cons_zero, List.set_cons_succ]
        refine H.done (by kernel_rfl) ?_ _
        have k6 := hHeld.1; have k2 := hHeld.2.1; have HBZ := Lib.hid hHeld.2.2
        have hc2 := k2.four; have hf2 := k2.fre4; have hc6 := k6.four; have hf6 := k6.fre4
        have HNE := Lib.hid (Nat.ne_of_lt HRES.out.lt)
        clear hHeld hcb hrun hsl HBA r31 hq1 hq2
        cases p
        · simp only [Bool.not_false]
          go_wp2_with fail
          go_roundw
          case rel => exact ⟨3 + 1, by omega, rfl, HBZ.out, k2, fun _ => by first | exact HPP.out | exact H0.out (by omega), fun _ => by first | exact HPP.out | exact H1.out (by omega) | omega, fun _ => by first | exact HPP.out | exact H2.out (by omega) | omega, fun _ => by first | exact HPP.out | exact H3.out (by omega) | omega⟩
          case measure => decide
        · simp only [Bool.not_true]
          have hbeg : begF l = true := (begF_iff l).2 ⟨true, true, HPP.out⟩
          by_cases h24 : len < 24
          · have hof : openF l = noF 121 := by unfold openF; rw [if_pos hbeg, HLN.out, if_pos h24]
            have h24I : (len : Int) < 24 := by omega
            clear h24 hc6 hf6
            go_wp2_with fail
            apply post_row2 Tryd.results9 Tryd.underlying31 rfl w.heap.size 31 (x := .int .i64 121)
            case hg =>
              repeat (first | with_reducible exact k2 | apply Blk.put)
            case h =>
              refine And.intro (by rw [hof]; kernel_rfl) ?_
              repeat (first | with_reducible exact HBZ.out | with_reducible refine Below.at ?_ (Nat.le_refl _))
            all_goals kernel_rfl
          · have htk : l.take 4 = mg true true := (pre_whole (by rw [HLN.out]; omega) (mg_len _ _)).1 HPP.out
            have hof : openF l = openL true true l := by unfold openF; rw [if_pos hbeg, HLN.out, if_neg h24, (mag_of htk).1, (mag_of htk).2.1]
            have h24I : ¬ (len : Int) < 24 := by omega
            clear htk hbeg
            have hOL : openL true true l = if getN true l 4 2 = 2 then ⟨true, true, getN true l 20 4 % 65536, getN true l 16 4, 0⟩ else noF 125 := rfl
            rw [hOL] at hof
            have h20 : getN true l 20 4 < 4294967296 := getN_le true l 20 4
            have h16 : getN true l 16 4 < 4294967296 := getN_le true l 16 4
            have G2 := Lib.hid (HG2.out true); have G16 := Lib.hid (HG16.out true); have G20 := Lib.hid (HG20.out true)
            generalize getN true l 4 2 = n4 at *
            generalize getN true l 16 4 = n16 at *
            generalize getN true l 20 4 = n20 at *
            generalize getB l 4 2 = o4 at *
            generalize getB l 16 4 = o16 at *
            generalize getB l 20 4 = o20 at *
            clear h24 hOL HG2 HG16 HG20
            have hw16 : IntKind.u32.wrap (n16 : Int) = (n16 : Int) := by rw [IntKind.wrap_u32]; omega
            obtain ⟨m20, hm20, hr20⟩ : ∃ m : Nat, n20 % 65536 = m ∧ (n20 : Int) % 65536 = (m : Int) := ⟨n20 % 65536, rfl, by omega⟩
            have hw20 : IntKind.u16.wrap (m20 : Int) = (m20 : Int) := by rw [IntKind.wrap_u16]; omega
            rw [hm20] at hof
            clear hm20 h16 h20
            by_cases h4 : n4 = 2
            · subst h4
              rw [if_pos rfl] at hof
              have HOF := Lib.hid hof
              clear hof
              have hne1 := HNE.out; have hne2 := HNE.out.symm
              go_wp2_with (first | (go_at_call_of 28 (Value.int IntKind.i64 2); refine (G2.out _ HBZ.out).mono ?_; rintro e w' ⟨rfl, rfl⟩) | (go_at_call_of 28 (Value.int IntKind.i64 16); refine (G16.out _ HBZ.out).mono ?_; rintro e w' ⟨rfl, rfl⟩) | (go_at_call_of 28 (Value.int IntKind.i64 20); refine (G20.out _ HBZ.out).mono ?_; rintro e w' ⟨rfl, rfl⟩))
              apply post_row2 Tryd.results9 Tryd.underlying31 rfl w.heap.size 31 (x := .int .i64 0)
              case hg =>
                repeat (first | with_reducible exact k2 | apply Blk.put | apply Blk.else (a := ⟨wo.heap.size, 2, none⟩) (hb := HNE.out) | apply Blk.else (a := ⟨wo.heap.size, 3, none⟩) (hb := HNE.out))
              case h =>
                refine And.intro (by rw [HOF.out]; kernel_rfl) ?_
                repeat (first | with_reducible exact HBZ.out | with_reducible refine Below.at ?_ (Nat.le_refl _) | refine Below.at ?_ HBE.out.size)
              all_goals kernel_rfl
            · rw [if_neg h4] at hof
              have h4I : ¬ (n4 : Int) = 2 := by omega
              have HOF := Lib.hid hof
              clear hof h4
              go_wp2_with (first | (go_at_call_of 28 (Value.int IntKind.i64 2); refine (G2.out _ HBZ.out).mono ?_; rintro e w' ⟨rfl, rfl⟩) | (go_at_call_of 28 (Value.int IntKind.i64 16); refine (G16.out _ HBZ.out).mono ?_; rintro e w' ⟨rfl, rfl⟩) | (go_at_call_of 28 (Value.int IntKind.i64 20); refine (G20.out _ HBZ.out).mono ?_; rintro e w' ⟨rfl, rfl⟩))
              apply post_row2 Tryd.results9 Tryd.underlying31 rfl w.heap.size 31 (x := .int .i64 125)
              case hg =>
                repeat (first | with_reducible exact k2 | apply Blk.put)
              case h =>
                refine And.intro (by rw [HOF.out]; kernel_rfl) ?_
                repeat (first | with_reducible exact HBZ.out | with_reducible refine Below.at ?_ (Nat.le_refl _))
              all_goals kernel_rfl
      · rw [show ((4 : Nat) : Int) = 4 from rfl]
        have hf : begF l = false := by unfold begF; rw [h0 (by omega), h1 (by omega), h2 (by omega), h3 (by omega)]; rfl
        have hof : openF l = noF 120 := by unfold openF; rw [if_neg (by rw [hf]; decide)]
        have HOF := Lib.hid hof
        clear h0 h1 h2 h3 hf hof
        have hc2 := HRES.out.four; have hf2 := HRES.out.fre4
        go_wp2_with fail
        apply post_row2 Tryd.results9 Tryd.underlying31 rfl w.heap.size 31 (x := .int .i64 120)
        case hg =>
          repeat (first | with_reducible exact HRES.out | apply Blk.put)
        case h =>
          refine And.intro (by rw [HOF.out]; kernel_rfl) ?_
          repeat (first | with_reducible exact HBE.out | with_reducible refine Below.at ?_ (Nat.le_refl _))
        all_goals kernel_rfl
end Go.Proofs.YtecmhjhjmhliiaaDoor


/-
  Pcap: Head: a record's header.
-/

namespace Go.Proofs.YtecmhjhjmhliiaaDoor

open Go.RowKit Go.Lib

set_option maxRecDepth 100000

structure HeadR where
  s : Nat
  p : Nat
  c : Nat
  n : Nat
  err : Int
def noH (e : Int) : HeadR := ⟨0, 0, 0, 0, e⟩
def headV5 (r : HeadR) : Value := .tuple #[headV r.s r.p r.c r.n, .int .i64 r.err]
def headF (lit nan : Bool) (l : List UInt8) (most : Int) : HeadR :=
  if l.length < 16 then noH 121 else if den nan ≤ getN lit l 4 4 then noH 8 else if most < (getN lit l 8 4 : Nat) then noH 122 else ⟨getN lit l 0 4, getN lit l 4 4, getN lit l 8 4, getN lit l 12 4, 0⟩
def HeadCut (w : World) (lit nan : Bool) (link snap n0 n4 n8 n12 : Nat) (s9 : Value) (wx : World) : Prop :=
  ∃ g : Nat, s9 = .pointer (some ⟨g, 0, none⟩) ∧ Blk wx g #[.int .u32 (n0 : Int), .int .u32 (n4 : Int), .int .u32 (n8 : Int), .int .u32 (n12 : Int)] 43 ∧
    Blk wx w.heap.size #[.bool lit, .bool nan, .int .u16 (link : Int), .int .u32 (snap : Int)] 26 ∧ Blk wx (w.heap.size + 1) #[.int .u32 0, .int .u32 0, .int .u32 0, .int .u32 0] 43 ∧ Below w.heap.size w wx ∧ w.heap.size + 1 < g
set_option maxHeartbeats 8000000 in
theorem head_any (lit nan : Bool) (link snap : Nat) (A : Option Addr) (l : List UInt8) (cap : Nat) (most : Int) (hc : l.length ≤ cap) (hlen : l.length ≤ 4611686018427387904) (w : World) (hr : Rd w A l) :
    Calls Tryd.prog 15 #[fileV lit nan link snap, .slice A l.length cap, .int .i64 most] w fun e w' => e = .returned (headV5 (headF lit nan l most)) ∧ Below w.heap.size w w' := by
  have HD := Lib.hid (fun w => den_any lit nan link snap w)
  have U0 := Lib.hid (fun w' hb => u32_any A l cap lit 0 (by decide) hc hlen w' (hr.below (w' := w') hb))
  have U4 := Lib.hid (fun w' hb => u32_any A l cap lit 4 (by decide) hc hlen w' (hr.below (w' := w') hb))
  have U8 := Lib.hid (fun w' hb => u32_any A l cap lit 8 (by decide) hc hlen w' (hr.below (w' := w') hb))
  have U12 := Lib.hid (fun w' hb => u32_any A l cap lit 12 (by decide) hc hlen w' (hr.below (w' := w') hb))
  have hof : headF lit nan l most = if l.length < 16 then noH 121 else if den nan ≤ getN lit l 4 4 then noH 8 else if most < (getN lit l 8 4 : Nat) then noH 122 else ⟨getN lit l 0 4, getN lit l 4 4, getN lit l 8 4, getN lit l 12 4, 0⟩ := rfl
  have h4 : getN lit l 4 4 < 4294967296 := getN_le lit l 4 4
  have h8 : getN lit l 8 4 < 4294967296 := getN_le lit l 8 4
  generalize getN lit l 0 4 = n0 at *
  generalize getN lit l 4 4 = n4 at *
  generalize getN lit l 8 4 = n8 at *
  generalize getN lit l 12 4 = n12 at *
  obtain ⟨D, hD⟩ : ∃ D, den nan = D := ⟨_, rfl⟩
  rw [hD] at HD hof
  clear hr hD
  obtain ⟨len, hll⟩ : ∃ len, l.length = len := ⟨_, rfl⟩
  rw [hll] at hc hlen U0 U4 U8 U12 hof ⊢
  clear hll
  by_cases h16 : len < 16
  · rw [if_pos h16] at hof
    have HOF := Lib.hid hof
    have h16I : (len : Int) < 16 := by omega
    have HBB := Lib.hid (((Below.refl _ w).alloc (Nat.le_refl _) (.cells #[.bool lit, .bool nan, .int .u16 (link : Int), .int .u32 (snap : Int)] 26)).alloc (by simp) (.cells #[.int .u32 0, .int .u32 0, .int .u32 0, .int .u32 0] 43))
    clear hof h16 h4 h8
    go_enter Tryd.func15, Tryd.ntmps15
    go_wp2_with fail
    apply post_row2 Tryd.results15 Tryd.underlying43 rfl (w.heap.size + 1) 43 (x := .int .i64 121)
    case hg => exact Blk.new (by simp)
    case h => exact And.intro (by rw [HOF.out]; kernel_rfl) HBB.out
    all_goals kernel_rfl
  · rw [if_neg h16] at hof
    have h16I : ¬ (len : Int) < 16 := by omega
    clear h16
    go_enter Tryd.func15, Tryd.ntmps15
    go_upto_region 4 with fail
    go_cut [9] (fun s9 wx => HeadCut w lit nan link snap n0 n4 n8 n12 s9 wx)
    case first =>
      clear hof h4 h8
      refine wp_region_held_drew (S := (fun w' => Blk w' (w.heap.size + 1 + 1) #[.slice A len cap, .bool lit] 63 ∧ Blk w' w.heap.size #[.bool lit, .bool nan, .int .u16 (link : Int), .int .u32 (snap : Int)] 26 ∧ Blk w' (w.heap.size + 1) #[.int .u32 0, .int .u32 0, .int .u32 0, .int .u32 0] 43 ∧ Below w.heap.size w w')) (by kernel_rfl) ?_ (fun hHeld => ?_)
      · exact ⟨(Blk.new (by simp)).drew, ((Blk.old (Blk.new rfl) _).old _).drew, (Blk.old (Blk.new (by simp)) _).drew, drewB ((((Below.refl _ w).alloc (Nat.le_refl _) _).alloc (by simp) _).alloc (by simp; omega) _)⟩
      generalize World.drew _ = wz at hHeld  ⊢
      refine H.take 0 (v := ?_) rfl (by kernel_rfl) (fun _ _ _ h => h) (by rfl) ?_ (by assumption) ?_
      rotate_left
      · (intro wz hSw; (try dsimp only at hSw); have q1 := hSw.1.two;go_simp <;> with_reducible rfl)
      try simp only [Act.put, List.setIfInBounds_toArray, List.set_cons_zero, List.set_cons_succ]
      refine H.take 2 (v := ?_) rfl (by kernel_rfl) (fun _ _ _ h => h) (by rfl) ?_ (by assumption) ?_
      rotate_left
      · (intro wz hSw; (try dsimp only at hSw); have q1 := hSw.1.two;go_simp <;> with_reducible rfl)
      try simp only [Act.put, List.setIfInBounds_toArray, List.set_cons_zero, List.set_cons_succ]
      refine H.take 4 (v := ?_) rfl (by kernel_rfl) (fun _ _ _ h => h) (by rfl) ?_ (by assumption) ?_
      rotate_left
      · (intro wz hSw; (try dsimp only at hSw); have q1 := hSw.1.two;go_simp <;> with_reducible rfl)
      try simp only [Act.put, List.setIfInBounds_toArray, List.set_cons_zero, List.set_cons_succ]
      refine H.take 6 (v := ?_) rfl (by kernel_rfl) (fun _ _ _ h => h) (by rfl) ?_ (by assumption) ?_
      rotate_left
      · (intro wz hSw; (try dsimp only at hSw); have q1 := hSw.1.two;go_simp <;> with_reducible rfl)
      try simp only [Act.put, List.setIfInBounds_toArray, List.set_cons_zero, List.set_cons_succ]
      refine H.ready [1, 9] (by kernel_rfl) (by simp) ?_
      refine H.one rfl (by rfl) (fun K hK => ?_) ?_
      · skip
        go_simp
        go_at_call 26
        refine (U0.out _ hHeld.2.2.2).mono ?_
        rintro e wk ⟨rfl, hb⟩
        refine hK.out _ _ ?_ (fun hHeld2 => ?_)
        · exact ⟨hHeld.1.keep hb, hHeld.2.1.keep hb, hHeld.2.2.1.keep hb, hHeld.2.2.2.trans (hb.mono hHeld.2.2.2.size)⟩
        clear hHeld hK K; have hHeld := hHeld2; clear hHeld2
        clear hb
        try simp only [Act.put, List.setIfInBounds_toArray, List.set_cons_zero, List.set_cons_succ]
        refine H.ready [3, 9] (by kernel_rfl) (by simp) ?_
        refine H.one rfl (by rfl) (fun K hK => ?_) ?_
        · skip
          go_simp
          go_at_call 26
          refine (U4.out _ hHeld.2.2.2).mono ?_
          rintro e wk ⟨rfl, hb⟩
          refine hK.out _ _ ?_ (fun hHeld2 => ?_)
          · exact ⟨hHeld.1.keep hb, hHeld.2.1.keep hb, hHeld.2.2.1.keep hb, hHeld.2.2.2.trans (hb.mono hHeld.2.2.2.size)⟩
          clear hHeld hK K; have hHeld := hHeld2; clear hHeld2
          clear hb
          try simp only [Act.put, List.setIfInBounds_toArray, List.set_cons_zero, List.set_cons_succ]
          refine H.ready [5, 9] (by kernel_rfl) (by simp) ?_
          refine H.one rfl (by rfl) (fun K hK => ?_) ?_
          · skip
            go_simp
            go_at_call 26
            refine (U8.out _ hHeld.2.2.2).mono ?_
            rintro e wk ⟨rfl, hb⟩
            refine hK.out _ _ ?_ (fun hHeld2 => ?_)
            · exact ⟨hHeld.1.keep hb, hHeld.2.1.keep hb, hHeld.2.2.1.keep hb, hHeld.2.2.2.trans (hb.mono hHeld.2.2.2.size)⟩
            clear hHeld hK K; have hHeld := hHeld2; clear hHeld2
            clear hb
            try simp only [Act.put, List.setIfInBounds_toArray, List.set_cons_zero, List.set_cons_succ]
            refine H.ready [7, 9] (by kernel_rfl) (by simp) ?_
            refine H.one rfl (by rfl) (fun K hK => ?_) ?_
            · skip
              go_simp
              go_at_call 26
              refine (U12.out _ hHeld.2.2.2).mono ?_
              rintro e wk ⟨rfl, hb⟩
              refine hK.out _ _ ?_ (fun hHeld2 => ?_)
              · exact ⟨hHeld.1.keep hb, hHeld.2.1.keep hb, hHeld.2.2.1.keep hb, hHeld.2.2.2.trans (hb.mono hHeld.2.2.2.size)⟩
              clear hHeld hK K; have hHeld := hHeld2; clear hHeld2
              clear hb
              try simp only [Act.put, List.setIfInBounds_toArray, List.set_cons_zero, List.set_cons_succ]
              refine H.take 8 (v := ?_) rfl (by kernel_rfl) (fun _ _ _ h => h) (by rfl) ?_ (by assumption) ?_
              rotate_left
              · (intro wz hSw; (try dsimp only at hSw); have q1 := hSw.1.two;go_simp <;> with_reducible rfl)
              try simp only [Act.put, List.setIfInBounds_toArray, List.set_cons_zero, List.set_cons_succ]
              refine H.ready [9] (by kernel_rfl) (by simp) ?_
              refine H.one rfl (by rfl) (fun K hK => ?_) AllReadyH.nil
              have e9_0 := hHeld.1.lt
              have e9_1 := hHeld.2.1.lt
              have e9_2 := hHeld.2.2.1.lt
              have z9 := hHeld.2.2.2.size
              go_simp
              refine hK.out _ _ ?_ (fun hHeld2 => ?_)
              · exact ⟨hHeld.1.old _, hHeld.2.1.old _, hHeld.2.2.1.old _, hHeld.2.2.2.alloc hHeld.2.2.2.size _⟩
              clear hHeld hK K; have hHeld := hHeld2; clear hHeld2
              try simp only [Act.put, List.setIfInBounds_toArray, List.set_cons_zero, List.set_cons_succ]
              refine H.fresh (fun n9 => ?_)
              generalize World.alloc _ _ = wz at hHeld n9 ⊢
              refine H.ready [10] (by kernel_rfl) (by simp) ?_
              refine H.one rfl (by rfl) (fun K hK => ?_) AllReadyH.nil
              have c9 := n9.four; have f9 := n9.fre4
              go_simp
              refine hK.out _ _ ?_ (fun hHeld2 => ?_)
              · exact ⟨hHeld.1.else4 (Nat.ne_of_lt e9_0), hHeld.2.1.else4 (Nat.ne_of_lt e9_1), hHeld.2.2.1.else4 (Nat.ne_of_lt e9_2), Below.put4 hHeld.2.2.2 z9⟩
              clear hHeld hK K c9 f9; have hHeld := hHeld2; clear hHeld2
              try simp only [Act.put, List.setIfInBounds_toArray, List.set_cons_zero, List.set_cons_succ]
              refine H.stored4 n9 (fun n9x => ?_); clear n9; have n9 := n9x; clear n9x
              refine H.done (by kernel_rfl) ?_ _
              (go_wp2_with fail; go_meet; exact ⟨_, rfl, n9, hHeld.2.1, hHeld.2.2.1, hHeld.2.2.2, e9_2⟩)
            refine H.one rfl (by rfl) (fun K hK => ?_) ?_
            · skip
              have e9_0 := hHeld.1.lt
              have e9_1 := hHeld.2.1.lt
              have e9_2 := hHeld.2.2.1.lt
              have z9 := hHeld.2.2.2.size
              go_simp
              refine hK.out _ _ ?_ (fun hHeld2 => ?_)
              · exact ⟨hHeld.1.old _, hHeld.2.1.old _, hHeld.2.2.1.old _, hHeld.2.2.2.alloc hHeld.2.2.2.size _⟩
              clear hHeld hK K; have hHeld := hHeld2; clear hHeld2
              try simp only [Act.put, List.setIfInBounds_toArray, List.set_cons_zero, List.set_cons_succ]
              refine H.fresh (fun n9 => ?_)
              generalize World.alloc _ _ = wz at hHeld n9 ⊢
              refine H.ready [7] (by kernel_rfl) (by simp) ?_
              refine H.one rfl (by rfl) (fun K hK => ?_) AllReadyH.nil
              go_simp
              go_at_call 26
              refine (U12.out _ hHeld.2.2.2).mono ?_
              rintro e wk ⟨rfl, hb⟩
              refine hK.out _ _ ?_ (fun hHeld2 => ?_)
              · exact ⟨hHeld.1.keep hb, hHeld.2.1.keep hb, hHeld.2.2.1.keep hb, hHeld.2.2.2.trans (hb.mono hHeld.2.2.2.size)⟩
              clear hHeld hK K; have hHeld := hHeld2; clear hHeld2
              replace n9 := n9.keep hb
              clear hb
              try simp only [Act.put, List.setIfInBounds_toArray, List.set_cons_zero, List.set_cons_succ]
              refine H.take 8 (v := ?_) rfl (by kernel_rfl) (fun _ _ _ h => h) (by rfl) ?_ (by assumption) ?_
              rotate_left
              · (intro wz hSw; (try dsimp only at hSw); have q1 := hSw.1.two;go_simp <;> with_reducible rfl)
              try simp only [Act.put, List.setIfInBounds_toArray, List.set_cons_zero, List.set_cons_succ]
              refine H.ready [10] (by kernel_rfl) (by simp) ?_
              refine H.one rfl (by rfl) (fun K hK => ?_) AllReadyH.nil
              have c9 := n9.four; have f9 := n9.fre4
              go_simp
              refine hK.out _ _ ?_ (fun hHeld2 => ?_)
              · exact ⟨hHeld.1.else4 (Nat.ne_of_lt e9_0), hHeld.2.1.else4 (Nat.ne_of_lt e9_1), hHeld.2.2.1.else4 (Nat.ne_of_lt e9_2), Below.put4 hHeld.2.2.2 z9⟩
              clear hHeld hK K c9 f9; have hHeld := hHeld2; clear hHeld2
              try simp only [Act.put, List.setIfInBounds_toArray, List.set_cons_zero, List.set_cons_succ]
              refine H.stored4 n9 (fun n9x => ?_); clear n9; have n9 := n9x; clear n9x
              refine H.done (by kernel_rfl) ?_ _
              (go_wp2_with fail; go_meet; exact ⟨_, rfl, n9, hHeld.2.1, hHeld.2.2.1, hHeld.2.2.2, e9_2⟩)
            exact AllReadyH.nil
          refine H.one rfl (by rfl) (fun K hK => ?_) ?_
          · skip
            have e9_0 := hHeld.1.lt
            have e9_1 := hHeld.2.1.lt
            have e9_2 := hHeld.2.2.1.lt
            have z9 := hHeld.2.2.2.size
            go_simp
            refine hK.out _ _ ?_ (fun hHeld2 => ?_)
            · exact ⟨hHeld.1.old _, hHeld.2.1.old _, hHeld.2.2.1.old _, hHeld.2.2.2.alloc hHeld.2.2.2.size _⟩
            clear hHeld hK K; have hHeld := hHeld2; clear hHeld2
            try simp only [Act.put, List.setIfInBounds_toArray, List.set_cons_zero, List.set_cons_succ]
            refine H.fresh (fun n9 => ?_)
            generalize World.alloc _ _ = wz at hHeld n9 ⊢
            refine H.ready [5] (by kernel_rfl) (by simp) ?_
            refine H.one rfl (by rfl) (fun K hK => ?_) AllReadyH.nil
            go_simp
            go_at_call 26
            refine (U8.out _ hHeld.2.2.2).mono ?_
            rintro e wk ⟨rfl, hb⟩
            refine hK.out _ _ ?_ (fun hHeld2 => ?_)
            · exact ⟨hHeld.1.keep hb, hHeld.2.1.keep hb, hHeld.2.2.1.keep hb, hHeld.2.2.2.trans (hb.mono hHeld.2.2.2.size)⟩
            clear hHeld hK K; have hHeld := hHeld2; clear hHeld2
            replace n9 := n9.keep hb
            clear hb
            try simp only [Act.put, List.setIfInBounds_toArray, List.set_cons_zero, List.set_cons_succ]
            refine H.ready [7] (by kernel_rfl) (by simp) ?_
            refine H.one rfl (by rfl) (fun K hK => ?_) AllReadyH.nil
            go_simp
            go_at_call 26
            refine (U12.out _ hHeld.2.2.2).mono ?_
            rintro e wk ⟨rfl, hb⟩
            refine hK.out _ _ ?_ (fun hHeld2 => ?_)
            · exact ⟨hHeld.1.keep hb, hHeld.2.1.keep hb, hHeld.2.2.1.keep hb, hHeld.2.2.2.trans (hb.mono hHeld.2.2.2.size)⟩
            clear hHeld hK K; have hHeld := hHeld2; clear hHeld2
            replace n9 := n9.keep hb
            clear hb
            try simp only [Act.put, List.setIfInBounds_toArray, List.set_cons_zero, List.set_cons_succ]
            refine H.take 8 (v := ?_) rfl (by kernel_rfl) (fun _ _ _ h => h) (by rfl) ?_ (by assumption) ?_
            rotate_left
            · (intro wz hSw; (try dsimp only at hSw); have q1 := hSw.1.two;go_simp <;> with_reducible rfl)
            try simp only [Act.put, List.setIfInBounds_toArray, List.set_cons_zero, List.set_cons_succ]
            refine H.ready [10] (by kernel_rfl) (by simp) ?_
            refine H.one rfl (by rfl) (fun K hK => ?_) AllReadyH.nil
            have c9 := n9.four; have f9 := n9.fre4
            go_simp
            refine hK.out _ _ ?_ (fun hHeld2 => ?_)
            · exact ⟨hHeld.1.else4 (Nat.ne_of_lt e9_0), hHeld.2.1.else4 (Nat.ne_of_lt e9_1), hHeld.2.2.1.else4 (Nat.ne_of_lt e9_2), Below.put4 hHeld.2.2.2 z9⟩
            clear hHeld hK K c9 f9; have hHeld := hHeld2; clear hHeld2
            try simp only [Act.put, List.setIfInBounds_toArray, List.set_cons_zero, List.set_cons_succ]
            refine H.stored4 n9 (fun n9x => ?_); clear n9; have n9 := n9x; clear n9x
            refine H.done (by kernel_rfl) ?_ _
            (go_wp2_with fail; go_meet; exact ⟨_, rfl, n9, hHeld.2.1, hHeld.2.2.1, hHeld.2.2.2, e9_2⟩)
          exact AllReadyH.nil
        refine H.one rfl (by rfl) (fun K hK => ?_) ?_
        · skip
          have e9_0 := hHeld.1.lt
          have e9_1 := hHeld.2.1.lt
          have e9_2 := hHeld.2.2.1.lt
          have z9 := hHeld.2.2.2.size
          go_simp
          refine hK.out _ _ ?_ (fun hHeld2 => ?_)
          · exact ⟨hHeld.1.old _, hHeld.2.1.old _, hHeld.2.2.1.old _, hHeld.2.2.2.alloc hHeld.2.2.2.size _⟩
          clear hHeld hK K; have hHeld := hHeld2; clear hHeld2
          try simp only [Act.put, List.setIfInBounds_toArray, List.set_cons_zero, List.set_cons_succ]
          refine H.fresh (fun n9 => ?_)
          generalize World.alloc _ _ = wz at hHeld n9 ⊢
          refine H.ready [3] (by kernel_rfl) (by simp) ?_
          refine H.one rfl (by rfl) (fun K hK => ?_) AllReadyH.nil
          go_simp
          go_at_call 26
          refine (U4.out _ hHeld.2.2.2).mono ?_
          rintro e wk ⟨rfl, hb⟩
          refine hK.out _ _ ?_ (fun hHeld2 => ?_)
          · exact ⟨hHeld.1.keep hb, hHeld.2.1.keep hb, hHeld.2.2.1.keep hb, hHeld.2.2.2.trans (hb.mono hHeld.2.2.2.size)⟩
          clear hHeld hK K; have hHeld := hHeld2; clear hHeld2
          replace n9 := n9.keep hb
          clear hb
          try simp only [Act.put, List.setIfInBounds_toArray, List.set_cons_zero, List.set_cons_succ]
          refine H.ready [5] (by kernel_rfl) (by simp) ?_
          refine H.one rfl (by rfl) (fun K hK => ?_) AllReadyH.nil
          go_simp
          go_at_call 26
          refine (U8.out _ hHeld.2.2.2).mono ?_
          rintro e wk ⟨rfl, hb⟩
          refine hK.out _ _ ?_ (fun hHeld2 => ?_)
          · exact ⟨hHeld.1.keep hb, hHeld.2.1.keep hb, hHeld.2.2.1.keep hb, hHeld.2.2.2.trans (hb.mono hHeld.2.2.2.size)⟩
          clear hHeld hK K; have hHeld := hHeld2; clear hHeld2
          replace n9 := n9.keep hb
          clear hb
          try simp only [Act.put, List.setIfInBounds_toArray, List.set_cons_zero, List.set_cons_succ]
          refine H.ready [7] (by kernel_rfl) (by simp) ?_
          refine H.one rfl (by rfl) (fun K hK => ?_) AllReadyH.nil
          go_simp
          go_at_call 26
          refine (U12.out _ hHeld.2.2.2).mono ?_
          rintro e wk ⟨rfl, hb⟩
          refine hK.out _ _ ?_ (fun hHeld2 => ?_)
          · exact ⟨hHeld.1.keep hb, hHeld.2.1.keep hb, hHeld.2.2.1.keep hb, hHeld.2.2.2.trans (hb.mono hHeld.2.2.2.size)⟩
          clear hHeld hK K; have hHeld := hHeld2; clear hHeld2
          replace n9 := n9.keep hb
          clear hb
          try simp only [Act.put, List.setIfInBounds_toArray, List.set_cons_zero, List.set_cons_succ]
          refine H.take 8 (v := ?_) rfl (by kernel_rfl) (fun _ _ _ h => h) (by rfl) ?_ (by assumption) ?_
          rotate_left
          · (intro wz hSw; (try dsimp only at hSw); have q1 := hSw.1.two;go_simp <;> with_reducible rfl)
          try simp only [Act.put, List.setIfInBounds_toArray, List.set_cons_zero, List.set_cons_succ]
          refine H.ready [10] (by kernel_rfl) (by simp) ?_
          refine H.one rfl (by rfl) (fun K hK => ?_) AllReadyH.nil
          have c9 := n9.four; have f9 := n9.fre4
          go_simp
          refine hK.out _ _ ?_ (fun hHeld2 => ?_)
          · exact ⟨hHeld.1.else4 (Nat.ne_of_lt e9_0), hHeld.2.1.else4 (Nat.ne_of_lt e9_1), hHeld.2.2.1.else4 (Nat.ne_of_lt e9_2), Below.put4 hHeld.2.2.2 z9⟩
          clear hHeld hK K c9 f9; have hHeld := hHeld2; clear hHeld2
          try simp only [Act.put, List.setIfInBounds_toArray, List.set_cons_zero, List.set_cons_succ]
          refine H.stored4 n9 (fun n9x => ?_); clear n9; have n9 := n9x; clear n9x
          refine H.done (by kernel_rfl) ?_ _
          (go_wp2_with fail; go_meet; exact ⟨_, rfl, n9, hHeld.2.1, hHeld.2.2.1, hHeld.2.2.2, e9_2⟩)
        exact AllReadyH.nil
      refine H.one rfl (by rfl) (fun K hK => ?_) ?_
      · skip
        have e9_0 := hHeld.1.lt
        have e9_1 := hHeld.2.1.lt
        have e9_2 := hHeld.2.2.1.lt
        have z9 := hHeld.2.2.2.size
        go_simp
        refine hK.out _ _ ?_ (fun hHeld2 => ?_)
        · exact ⟨hHeld.1.old _, hHeld.2.1.old _, hHeld.2.2.1.old _, hHeld.2.2.2.alloc hHeld.2.2.2.size _⟩
        clear hHeld hK K; have hHeld := hHeld2; clear hHeld2
        try simp only [Act.put, List.setIfInBounds_toArray, List.set_cons_zero, List.set_cons_succ]
        refine H.fresh (fun n9 => ?_)
        generalize World.alloc _ _ = wz at hHeld n9 ⊢
        refine H.ready [1] (by kernel_rfl) (by simp) ?_
        refine H.one rfl (by rfl) (fun K hK => ?_) AllReadyH.nil
        go_simp
        go_at_call 26
        refine (U0.out _ hHeld.2.2.2).mono ?_
        rintro e wk ⟨rfl, hb⟩
        refine hK.out _ _ ?_ (fun hHeld2 => ?_)
        · exact ⟨hHeld.1.keep hb, hHeld.2.1.keep hb, hHeld.2.2.1.keep hb, hHeld.2.2.2.trans (hb.mono hHeld.2.2.2.size)⟩
        clear hHeld hK K; have hHeld := hHeld2; clear hHeld2
        replace n9 := n9.keep hb
        clear hb
        try simp only [Act.put, List.setIfInBounds_toArray, List.set_cons_zero, List.set_cons_succ]
        refine H.ready [3] (by kernel_rfl) (by simp) ?_
        refine H.one rfl (by rfl) (fun K hK => ?_) AllReadyH.nil
        go_simp
        go_at_call 26
        refine (U4.out _ hHeld.2.2.2).mono ?_
        rintro e wk ⟨rfl, hb⟩
        refine hK.out _ _ ?_ (fun hHeld2 => ?_)
        · exact ⟨hHeld.1.keep hb, hHeld.2.1.keep hb, hHeld.2.2.1.keep hb, hHeld.2.2.2.trans (hb.mono hHeld.2.2.2.size)⟩
        clear hHeld hK K; have hHeld := hHeld2; clear hHeld2
        replace n9 := n9.keep hb
        clear hb
        try simp only [Act.put, List.setIfInBounds_toArray, List.set_cons_zero, List.set_cons_succ]
        refine H.ready [5] (by kernel_rfl) (by simp) ?_
        refine H.one rfl (by rfl) (fun K hK => ?_) AllReadyH.nil
        go_simp
        go_at_call 26
        refine (U8.out _ hHeld.2.2.2).mono ?_
        rintro e wk ⟨rfl, hb⟩
        refine hK.out _ _ ?_ (fun hHeld2 => ?_)
        · exact ⟨hHeld.1.keep hb, hHeld.2.1.keep hb, hHeld.2.2.1.keep hb, hHeld.2.2.2.trans (hb.mono hHeld.2.2.2.size)⟩
        clear hHeld hK K; have hHeld := hHeld2; clear hHeld2
        replace n9 := n9.keep hb
        clear hb
        try simp only [Act.put, List.setIfInBounds_toArray, List.set_cons_zero, List.set_cons_succ]
        refine H.ready [7] (by kernel_rfl) (by simp) ?_
        refine H.one rfl (by rfl) (fun K hK => ?_) AllReadyH.nil
        go_simp
        go_at_call 26
        refine (U12.out _ hHeld.2.2.2).mono ?_
        rintro e wk ⟨rfl, hb⟩
        refine hK.out _ _ ?_ (fun hHeld2 => ?_)
        · exact ⟨hHeld.1.keep hb, hHeld.2.1.keep hb, hHeld.2.2.1.keep hb, hHeld.2.2.2.trans (hb.mono hHeld.2.2.2.size)⟩
        clear hHeld hK K; have hHeld := hHeld2; clear hHeld2
        replace n9 := n9.keep hb
        clear hb
        try simp only [Act.put, List.setIfInBounds_toArray, List.set_cons_zero, List.set_cons_succ]
        refine H.take 8 (v := ?_) rfl (by kernel_rfl) (fun _ _ _ h => h) (by rfl) ?_ (by assumption) ?_
        rotate_left
        · (intro wz hSw; (try dsimp only at hSw); have q1 := hSw.1.two;go_simp <;> with_reducible rfl)
        try simp only [Act.put, List.setIfInBounds_toArray, List.set_cons_zero, List.set_cons_succ]
        refine H.ready [10] (by kernel_rfl) (by simp) ?_
        refine H.one rfl (by rfl) (fun K hK => ?_) AllReadyH.nil
        have c9 := n9.four; have f9 := n9.fre4
        go_simp
        refine hK.out _ _ ?_ (fun hHeld2 => ?_)
        · exact ⟨hHeld.1.else4 (Nat.ne_of_lt e9_0), hHeld.2.1.else4 (Nat.ne_of_lt e9_1), hHeld.2.2.1.else4 (Nat.ne_of_lt e9_2), Below.put4 hHeld.2.2.2 z9⟩
        clear hHeld hK K c9 f9; have hHeld := hHeld2; clear hHeld2
        try simp only [Act.put, List.setIfInBounds_toArray, List.set_cons_zero, List.set_cons_succ]
        refine H.stored4 n9 (fun n9x => ?_); clear n9; have n9 := n9x; clear n9x
        refine H.done (by kernel_rfl) ?_ _
        (go_wp2_with fail; go_meet; exact ⟨_, rfl, n9, hHeld.2.1, hHeld.2.2.1, hHeld.2.2.2, e9_2⟩)
      exact AllReadyH.nil
    case rest =>
      obtain ⟨g, rfl, hg, hfile, hres, hbe, hgl⟩ := hcut
      have hw4 : IntKind.u64.wrap (n4 : Int) = (n4 : Int) := by rw [IntKind.wrap_u64]; omega
      have hw8 : IntKind.i64.wrap (n8 : Int) = (n8 : Int) := by rw [IntKind.wrap_i64]; omega
      clear h4 h8 U0 U4 U8 U12
      obtain ⟨b, hb⟩ : ∃ b, decide ((D : Int) ≤ (n4 : Int)) = b := ⟨_, rfl⟩
      have HB := Lib.hid hb; have HW8 := Lib.hid hw8
      clear hw8
      go_wp2_with fail
      refine wp_region_held_drew (S := (fun w' => Blk w' g #[.int .u32 (n0 : Int), .int .u32 (n4 : Int), .int .u32 (n8 : Int), .int .u32 (n12 : Int)] 43 ∧ Blk w' w.heap.size #[.bool lit, .bool nan, .int .u16 (link : Int), .int .u32 (snap : Int)] 26 ∧ Blk w' (w.heap.size + 1) #[.int .u32 0, .int .u32 0, .int .u32 0, .int .u32 0] 43 ∧ Below w.heap.size w w')) (by kernel_rfl) ?_ (fun hHeld => ?_)
      · exact ⟨hg.drew, hfile.drew, hres.drew, drewB hbe⟩
      generalize World.drew _ = wz at hHeld  ⊢
      refine H.take 0 (v := ?_) rfl (by kernel_rfl) (fun _ _ _ h => h) (by rfl) ?_ (by assumption) ?_
      rotate_left
      · (intro wz hSw; (try dsimp only at hSw); have q1 := hSw.1.four; have q2 := hSw.2.1.four;go_simp <;> with_reducible rfl)
      try simp only [Act.put, List.setIfInBounds_toArray, List.set_cons_zero, List.set_cons_succ]
      refine H.take 1 (v := ?_) rfl (by kernel_rfl) (fun _ _ _ h => h) (by rfl) ?_ (by assumption) ?_
      rotate_left
      · (intro wz hSw; (try dsimp only at hSw); have q1 := hSw.1.four; have q2 := hSw.2.1.four;go_simp <;> with_reducible rfl)
      try simp only [Act.put, List.setIfInBounds_toArray, List.set_cons_zero, List.set_cons_succ]
      refine H.take 2 (v := ?_) rfl (by kernel_rfl) (fun _ _ _ h => h) (by rfl) ?_ (by assumption) ?_
      rotate_left
      · (intro wz hSw; (try dsimp only at hSw); have q1 := hSw.1.four; have q2 := hSw.2.1.four;go_simp <;> with_reducible rfl)
      try simp only [Act.put, List.setIfInBounds_toArray, List.set_cons_zero, List.set_cons_succ]
      refine H.take 3 (v := ?_) rfl (by kernel_rfl) (fun _ _ _ h => h) (by rfl) ?_ (by assumption) ?_
      rotate_left
      · (intro wz hSw; (try dsimp only at hSw); have q1 := hSw.1.four; have q2 := hSw.2.1.four;go_simp <;> with_reducible rfl)
      try simp only [Act.put, List.setIfInBounds_toArray, List.set_cons_zero, List.set_cons_succ]
      refine H.ready [4] (by kernel_rfl) (by simp) ?_
      refine H.one rfl (by rfl) (fun K hK => ?_) AllReadyH.nil
      go_simp
      go_at_call 12
      refine (HD.out _).mono ?_
      rintro e wk ⟨rfl, hb⟩
      refine hK.out _ _ ?_ (fun hHeld2 => ?_)
      · exact ⟨hHeld.1.keep hb, hHeld.2.1.keep hb, hHeld.2.2.1.keep hb, hHeld.2.2.2.trans (hb.mono hHeld.2.2.2.size)⟩
      clear hHeld hK K; have hHeld := hHeld2; clear hHeld2
      clear hb
      try simp only [Act.put, List.setIfInBounds_toArray, List.set_cons_zero, List.set_cons_succ]
      refine H.take 5 (v := ?_) rfl (by kernel_rfl) (fun _ _ _ h => h) (by rfl) ?_ (by assumption) ?_
      rotate_left
      · (intro wz hSw; (try dsimp only at hSw); have q1 := hSw.1.four; have q2 := hSw.2.1.four;go_simp <;> with_reducible rfl)
      try simp only [Act.put, List.setIfInBounds_toArray, List.set_cons_zero, List.set_cons_succ]
      refine H.take 6 (v := ?_) rfl (by kernel_rfl) (fun _ _ _ h => h) (by rfl) ?_ (by assumption) ?_
      rotate_left
      · (intro wz hSw; (try dsimp only at hSw); have q1 := hSw.1.four; have q2 := hSw.2.1.four;go_simp <;> with_reducible rfl)
      try simp only [Act.put, List.setIfInBounds_toArray, List.set_cons_zero, List.set_cons_succ]
      refine H.done (by kernel_rfl) ?_ _
      have k9 := hHeld.1; have k6 := hHeld.2.2.1; have HBZ := Lib.hid hHeld.2.2.2
      have hc9 := k9.four; have hc6 := k6.four; have hf6 := k6.fre4
      have hw8 := HW8.out
      clear hHeld hg hfile hres hb hw4
      cases b
      · have hd : ¬ D ≤ n4 := by have h := of_decide_eq_false HB.out; omega
        rw [if_neg hd] at hof
        by_cases hm : most < (n8 : Int)
        · rw [if_pos hm] at hof
          have HOF := Lib.hid hof
          clear hof
          go_wp2_with fail
          apply post_row2 Tryd.results15 Tryd.underlying43 rfl (w.heap.size + 1) 43 (x := .int .i64 122)
          case hg =>
            repeat (first | with_reducible exact k6 | apply Blk.put)
          case h =>
            refine And.intro (by rw [HOF.out]; kernel_rfl) ?_
            repeat (first | with_reducible exact HBZ.out | with_reducible refine Below.at ?_ (Nat.le_add_right _ _))
          all_goals kernel_rfl
        · rw [if_neg hm] at hof
          have HOF := Lib.hid hof
          clear hof
          go_wp2_with fail
          apply post_row2 Tryd.results15 Tryd.underlying43 rfl (w.heap.size + 1) 43 (x := .int .i64 0)
          case hg =>
            repeat (first | with_reducible exact k6 | apply Blk.put)
          case h =>
            refine And.intro (by rw [HOF.out]; kernel_rfl) ?_
            repeat (first | with_reducible exact HBZ.out | with_reducible refine Below.at ?_ (Nat.le_add_right _ _))
          all_goals kernel_rfl
      · have hd : D ≤ n4 := by have h := of_decide_eq_true HB.out; omega
        rw [if_pos hd] at hof
        have HOF := Lib.hid hof
        clear hof hc9 hw8
        go_wp2_with fail
        apply post_row2 Tryd.results15 Tryd.underlying43 rfl (w.heap.size + 1) 43 (x := .int .i64 8)
        case hg =>
          repeat (first | with_reducible exact k6 | apply Blk.put)
        case h =>
          refine And.intro (by rw [HOF.out]; kernel_rfl) ?_
          repeat (first | with_reducible exact HBZ.out | with_reducible refine Below.at ?_ (Nat.le_add_right _ _))
        all_goals kernel_rfl
end Go.Proofs.YtecmhjhjmhliiaaDoor


/-
  Pcap: the document's Head.
-/

namespace Go.Proofs.YtecmhjhjmhliiaaDoor

open Go.RowKit Go.Lib

set_option maxRecDepth 100000

def hcells (n0 n4 n8 n12 k : Nat) : Array Value := #[.int .u32 (if 0 < k then (n0 : Int) else 0), .int .u32 (if 1 < k then (n4 : Int) else 0), .int .u32 (if 2 < k then (n8 : Int) else 0), .int .u32 (if 3 < k then (n12 : Int) else 0)]
def RefHR (w : World) (lit nan : Bool) (link snap n0 n4 n8 n12 : Nat) (i : Value) (wr : World) : Prop := ∃ k : Nat, k ≤ 4 ∧ i = .int .i64 k ∧ Below w.heap.size w wr ∧
  Blk wr w.heap.size #[.bool lit, .bool nan, .int .u16 (link : Int), .int .u32 (snap : Int)] 31 ∧ Blk wr (w.heap.size + 1) #[.int .u32 0, .int .u32 0, .int .u32 0, .int .u32 0] 46 ∧ Blk wr (w.heap.size + 1 + 1) (hcells n0 n4 n8 n12 k) 46
set_option maxHeartbeats 8000000 in
theorem refHead_any (lit nan : Bool) (link snap : Nat) (A : Option Addr) (l : List UInt8) (cap : Nat) (most : Int) (hm0 : -9223372036854775808 ≤ most) (hm1 : most ≤ 9223372036854775807) (hlen : l.length ≤ 4611686018427387904) (w : World) (hr : Rd w A l) :
    Calls Tryd.prog 16 #[fileV lit nan link snap, .slice A l.length cap, .int .i64 most] w fun e w' => e = .returned (headV5 (headF lit nan l most)) ∧ Below w.heap.size w w' := by
  have HD := Lib.hid (fun w => (refDen_any nan w).mono (fun e w' h => (⟨h.1, h.2 ▸ Below.refl _ _⟩ : e = .returned (.int .u64 (den nan : Nat)) ∧ Below w.heap.size w w')))
  have U0 := Lib.hid (fun w' hb => refGet_any A l cap lit 0 4 (by decide) hlen w' (hr.below (w' := w') hb))
  have U4 := Lib.hid (fun w' hb => refGet_any A l cap lit 4 4 (by decide) hlen w' (hr.below (w' := w') hb))
  have U8 := Lib.hid (fun w' hb => refGet_any A l cap lit 8 4 (by decide) hlen w' (hr.below (w' := w') hb))
  have U12 := Lib.hid (fun w' hb => refGet_any A l cap lit 12 4 (by decide) hlen w' (hr.below (w' := w') hb))
  have hof : headF lit nan l most = if l.length < 16 then noH 121 else if den nan ≤ getN lit l 4 4 then noH 8 else if most < (getN lit l 8 4 : Nat) then noH 122 else ⟨getN lit l 0 4, getN lit l 4 4, getN lit l 8 4, getN lit l 12 4, 0⟩ := rfl
  have h0 : getN lit l 0 4 < 4294967296 := getN_le lit l 0 4
  have h4 : getN lit l 4 4 < 4294967296 := getN_le lit l 4 4
  have h8 : getN lit l 8 4 < 4294967296 := getN_le lit l 8 4
  have h12 : getN lit l 12 4 < 4294967296 := getN_le lit l 12 4
  generalize getN lit l 0 4 = n0 at *
  generalize getN lit l 4 4 = n4 at *
  generalize getN lit l 8 4 = n8 at *
  generalize getN lit l 12 4 = n12 at *
  generalize getB l 0 4 = o0 at *
  generalize getB l 4 4 = o4 at *
  generalize getB l 8 4 = o8 at *
  generalize getB l 12 4 = o12 at *
  obtain ⟨D, hD⟩ : ∃ D, den nan = D := ⟨_, rfl⟩
  rw [hD] at HD hof
  clear hr hD
  obtain ⟨len, hll⟩ : ∃ len, l.length = len := ⟨_, rfl⟩
  rw [hll] at hlen U0 U4 U8 U12 hof ⊢
  clear hll
  by_cases h16 : len < 16
  · rw [if_pos h16] at hof
    have HOF := Lib.hid hof
    have h16I : (len : Int) < 16 := by omega
    have HBB := Lib.hid ((((Below.refl _ w).alloc (Nat.le_refl _) (.cells #[.bool lit, .bool nan, .int .u16 (link : Int), .int .u32 (snap : Int)] 31)).alloc (by simp) (.cells #[.int .u32 0, .int .u32 0, .int .u32 0, .int .u32 0] 46)).alloc (by simp; omega) (.cells #[.int .u32 0, .int .u32 0, .int .u32 0, .int .u32 0] 46))
    clear hof h16 h4 h8 h0 h12 hm0 hm1
    go_enter Tryd.func16, Tryd.ntmps16
    go_wp2_with fail
    apply post_row2 Tryd.results16 Tryd.underlying46 rfl (w.heap.size + 1) 46 (x := .int .i64 121)
    case hg =>
      repeat (first | with_reducible exact (Blk.old (Blk.new (by simp)) _) | apply Blk.put)
    case h =>
      refine And.intro (by rw [HOF.out]; kernel_rfl) ?_
      repeat (first | with_reducible exact HBB.out | with_reducible refine Below.at ?_ (Nat.le_add_right _ _))
    all_goals kernel_rfl
  · rw [if_neg h16] at hof
    have h16I : ¬ (len : Int) < 16 := by omega
    have hw0 : IntKind.u32.wrap (n0 : Int) = (n0 : Int) := by rw [IntKind.wrap_u32]; omega
    have hw4 : IntKind.u32.wrap (n4 : Int) = (n4 : Int) := by rw [IntKind.wrap_u32]; omega
    have hw8 : IntKind.u32.wrap (n8 : Int) = (n8 : Int) := by rw [IntKind.wrap_u32]; omega
    have hw12 : IntKind.u32.wrap (n12 : Int) = (n12 : Int) := by rw [IntKind.wrap_u32]; omega
    have HH4 := Lib.hid h4; have HH8 := Lib.hid h8; have HM0 := Lib.hid hm0; have HM1 := Lib.hid hm1
    have HOF0 := Lib.hid hof
    clear h16 h0 h4 h8 h12 hm0 hm1 hof
    go_enter Tryd.func16, Tryd.ntmps16
    go_wp2_with fail
    go_loopw [9] (fun i wr => RefHR w lit nan link snap n0 n4 n8 n12 i wr) (fun i _ => 4 - (RowKit.intOf i).toNat)
    case atStart => exact ⟨0, by omega, rfl, (((Below.refl _ w).alloc (Nat.le_refl _) _).alloc (by simp) _).alloc (by simp; omega) _, ((Blk.new rfl).old _).old _, (Blk.new (by simp)).old _, Blk.new (by simp)⟩
    case round =>
      obtain ⟨wo, rfl⟩ : ∃ wo : World, wo = wr := ⟨_, rfl⟩
      obtain ⟨k, hk, rfl, hbe, h3, h6, h8⟩ := hrel
      have HBE := Lib.hid hbe
      clear hbe
      rcases (by omega : k = 0 ∨ k = 1 ∨ k = 2 ∨ k = 3 ∨ k = 4) with rfl | rfl | rfl | rfl | rfl
      · skip
        rw [show ((0 : Nat) : Int) = 0 from rfl]
        have hcc : Blk wo (w.heap.size + 1 + 1) #[.int .u32 0, .int .u32 0, .int .u32 0, .int .u32 0] 46 := h8
        have hc8 := hcc.four; have hf8 := hcc.fre4
        have hc3 := h3.four
        have H3 := Lib.hid h3; have H6 := Lib.hid h6; have HCC := Lib.hid hcc
        clear h3 h6 h8 hcc
        go_wp2_with (go_at_call 28; refine (U0.out _ HBE.out).mono ?_; rintro e w' ⟨rfl, rfl⟩)
        go_roundw
        case rel => exact ⟨0 + 1, by omega, rfl, Below.at HBE.out (by omega), Blk.else (a := ⟨w.heap.size + 1 + 1, 0, none⟩) H3.out _ (show w.heap.size ≠ w.heap.size + 1 + 1 by omega), Blk.else (a := ⟨w.heap.size + 1 + 1, 0, none⟩) H6.out _ (show w.heap.size + 1 ≠ w.heap.size + 1 + 1 by omega), Blk.put HCC.out (i := 0) _⟩
        case measure => decide
      · skip
        rw [show ((1 : Nat) : Int) = 1 from rfl]
        have hcc : Blk wo (w.heap.size + 1 + 1) #[.int .u32 (n0 : Int), .int .u32 0, .int .u32 0, .int .u32 0] 46 := h8
        have hc8 := hcc.four; have hf8 := hcc.fre4
        have hc3 := h3.four
        have H3 := Lib.hid h3; have H6 := Lib.hid h6; have HCC := Lib.hid hcc
        clear h3 h6 h8 hcc
        go_wp2_with (go_at_call 28; refine (U4.out _ HBE.out).mono ?_; rintro e w' ⟨rfl, rfl⟩)
        go_roundw
        case rel => exact ⟨1 + 1, by omega, rfl, Below.at HBE.out (by omega), Blk.else (a := ⟨w.heap.size + 1 + 1, 1, none⟩) H3.out _ (show w.heap.size ≠ w.heap.size + 1 + 1 by omega), Blk.else (a := ⟨w.heap.size + 1 + 1, 1, none⟩) H6.out _ (show w.heap.size + 1 ≠ w.heap.size + 1 + 1 by omega), Blk.put HCC.out (i := 1) _⟩
        case measure => decide
      · skip
        rw [show ((2 : Nat) : Int) = 2 from rfl]
        have hcc : Blk wo (w.heap.size + 1 + 1) #[.int .u32 (n0 : Int), .int .u32 (n4 : Int), .int .u32 0, .int .u32 0] 46 := h8
        have hc8 := hcc.four; have hf8 := hcc.fre4
        have hc3 := h3.four
        have H3 := Lib.hid h3; have H6 := Lib.hid h6; have HCC := Lib.hid hcc
        clear h3 h6 h8 hcc
        go_wp2_with (go_at_call 28; refine (U8.out _ HBE.out).mono ?_; rintro e w' ⟨rfl, rfl⟩)
        go_roundw
        case rel => exact ⟨2 + 1, by omega, rfl, Below.at HBE.out (by omega), Blk.else (a := ⟨w.heap.size + 1 + 1, 2, none⟩) H3.out _ (show w.heap.size ≠ w.heap.size + 1 + 1 by omega), Blk.else (a := ⟨w.heap.size + 1 + 1, 2, none⟩) H6.out _ (show w.heap.size + 1 ≠ w.heap.size + 1 + 1 by omega), Blk.put HCC.out (i := 2) _⟩
        case measure => decide
      · skip
        rw [show ((3 : Nat) : Int) = 3 from rfl]
        have hcc : Blk wo (w.heap.size + 1 + 1) #[.int .u32 (n0 : Int), .int .u32 (n4 : Int), .int .u32 (n8 : Int), .int .u32 0] 46 := h8
        have hc8 := hcc.four; have hf8 := hcc.fre4
        have hc3 := h3.four
        have H3 := Lib.hid h3; have H6 := Lib.hid h6; have HCC := Lib.hid hcc
        clear h3 h6 h8 hcc
        go_wp2_with (go_at_call 28; refine (U12.out _ HBE.out).mono ?_; rintro e w' ⟨rfl, rfl⟩)
        go_roundw
        case rel => exact ⟨3 + 1, by omega, rfl, Below.at HBE.out (by omega), Blk.else (a := ⟨w.heap.size + 1 + 1, 3, none⟩) H3.out _ (show w.heap.size ≠ w.heap.size + 1 + 1 by omega), Blk.else (a := ⟨w.heap.size + 1 + 1, 3, none⟩) H6.out _ (show w.heap.size + 1 ≠ w.heap.size + 1 + 1 by omega), Blk.put HCC.out (i := 3) _⟩
        case measure => decide
      · rw [show ((4 : Nat) : Int) = 4 from rfl]
        have hcc : Blk wo (w.heap.size + 1 + 1) #[.int .u32 (n0 : Int), .int .u32 (n4 : Int), .int .u32 (n8 : Int), .int .u32 (n12 : Int)] 46 := h8
        clear h8 hw0 hw4 hw8 hw12 U0 U4 U8 U12
        have hx4 : IntKind.u64.wrap (n4 : Int) = (n4 : Int) := by have := HH4.out; rw [IntKind.wrap_u64]; omega
        go_wp2_with fail
        refine wp_region_held_drew (S := (fun w' => Blk w' (w.heap.size + 1 + 1) #[.int .u32 (n0 : Int), .int .u32 (n4 : Int), .int .u32 (n8 : Int), .int .u32 (n12 : Int)] 46 ∧ Blk w' w.heap.size #[.bool lit, .bool nan, .int .u16 (link : Int), .int .u32 (snap : Int)] 31 ∧ Blk w' (w.heap.size + 1) #[.int .u32 0, .int .u32 0, .int .u32 0, .int .u32 0] 46 ∧ Below w.heap.size w w')) (by kernel_rfl) ?_ (fun hHeld => ?_)
        · exact ⟨hcc.drew, h3.drew, h6.drew, drewB HBE.out⟩
        generalize World.drew _ = wz at hHeld  ⊢
        refine H.take 0 (v := ?_) rfl (by kernel_rfl) (fun _ _ _ h => h) (by rfl) ?_ (by assumption) ?_
        rotate_left
        · (intro wz hSw; (try dsimp only at hSw); have q1 := hSw.1.four; have q2 := hSw.2.1.four;go_simp <;> with_reducible rfl)
        try simp only [Act.put, List.setIfInBounds_toArray, List.set_cons_zero, List.set_cons_succ]
        refine H.take 1 (v := ?_) rfl (by kernel_rfl) (fun _ _ _ h => h) (by rfl) ?_ (by assumption) ?_
        rotate_left
        · (intro wz hSw; (try dsimp only at hSw); have q1 := hSw.1.four; have q2 := hSw.2.1.four;go_simp <;> with_reducible rfl)
        try simp only [Act.put, List.setIfInBounds_toArray, List.set_cons_zero, List.set_cons_succ]
        refine H.take 2 (v := ?_) rfl (by kernel_rfl) (fun _ _ _ h => h) (by rfl) ?_ (by assumption) ?_
        rotate_left
        · (intro wz hSw; (try dsimp only at hSw); have q1 := hSw.1.four; have q2 := hSw.2.1.four;go_simp <;> with_reducible rfl)
        try simp only [Act.put, List.setIfInBounds_toArray, List.set_cons_zero, List.set_cons_succ]
        refine H.take 3 (v := ?_) rfl (by kernel_rfl) (fun _ _ _ h => h) (by rfl) ?_ (by assumption) ?_
        rotate_left
        · (intro wz hSw; (try dsimp only at hSw); have q1 := hSw.1.four; have q2 := hSw.2.1.four;go_simp <;> with_reducible rfl)
        try simp only [Act.put, List.setIfInBounds_toArray, List.set_cons_zero, List.set_cons_succ]
        refine H.take 4 (v := ?_) rfl (by kernel_rfl) (fun _ _ _ h => h) (by rfl) ?_ (by assumption) ?_
        rotate_left
        · (intro wz hSw; (try dsimp only at hSw); have q1 := hSw.1.four; have q2 := hSw.2.1.four;go_simp <;> with_reducible rfl)
        try simp only [Act.put, List.setIfInBounds_toArray, List.set_cons_zero, List.set_cons_succ]
        refine H.ready [5] (by kernel_rfl) (by simp) ?_
        refine H.one rfl (by rfl) (fun K hK => ?_) AllReadyH.nil
        go_simp
        go_at_call 13
        refine (HD.out _).mono ?_
        rintro e wk ⟨rfl, hb⟩
        refine hK.out _ _ ?_ (fun hHeld2 => ?_)
        · exact ⟨hHeld.1.keep hb, hHeld.2.1.keep hb, hHeld.2.2.1.keep hb, hHeld.2.2.2.trans (hb.mono hHeld.2.2.2.size)⟩
        clear hHeld hK K; have hHeld := hHeld2; clear hHeld2
        clear hb
        try simp only [Act.put, List.setIfInBounds_toArray, List.set_cons_zero, List.set_cons_succ]
        refine H.take 6 (v := ?_) rfl (by kernel_rfl) (fun _ _ _ h => h) (by rfl) ?_ (by assumption) ?_
        rotate_left
        · (intro wz hSw; (try dsimp only at hSw); have q1 := hSw.1.four; have q2 := hSw.2.1.four;go_simp <;> with_reducible rfl)
        try simp only [Act.put, List.setIfInBounds_toArray, List.set_cons_zero, List.set_cons_succ]
        refine H.done (by kernel_rfl) ?_ _
        have k9 := hHeld.1; have k6 := hHeld.2.2.1; have HBZ := Lib.hid hHeld.2.2.2
        have hc9 := k9.four; have hc6 := k6.four; have hf6 := k6.fre4
        clear hHeld hcc h3 h6 hx4
        by_cases hd : D ≤ n4
        · have hof := HOF0.out
          rw [if_pos hd] at hof
          have HOF := Lib.hid hof
          clear hof hc9
          go_wp2_with fail
          apply post_row2 Tryd.results16 Tryd.underlying46 rfl (w.heap.size + 1) 46 (x := .int .i64 8)
          case hg =>
            repeat (first | with_reducible exact k6 | apply Blk.put)
          case h =>
            refine And.intro (by rw [HOF.out]; kernel_rfl) ?_
            repeat (first | with_reducible exact HBZ.out | with_reducible refine Below.at ?_ (Nat.le_add_right _ _))
          all_goals kernel_rfl
        · have hof := HOF0.out
          rw [if_neg hd] at hof
          have hx8 : IntKind.u64.wrap (n8 : Int) = (n8 : Int) := by have := HH8.out; rw [IntKind.wrap_u64]; omega
          by_cases hneg : most < 0
          · rw [if_pos (by omega)] at hof
            have HOF := Lib.hid hof
            clear hof hc9
            go_wp2_with fail
            apply post_row2 Tryd.results16 Tryd.underlying46 rfl (w.heap.size + 1) 46 (x := .int .i64 122)
            case hg =>
              repeat (first | with_reducible exact k6 | apply Blk.put)
            case h =>
              refine And.intro (by rw [HOF.out]; kernel_rfl) ?_
              repeat (first | with_reducible exact HBZ.out | with_reducible refine Below.at ?_ (Nat.le_add_right _ _))
            all_goals kernel_rfl
          · have hxm : IntKind.u64.wrap most = most := by have := HM1.out; rw [IntKind.wrap_u64]; omega
            by_cases hm : most < (n8 : Int)
            · rw [if_pos hm] at hof
              have HOF := Lib.hid hof
              clear hof
              go_wp2_with fail
              apply post_row2 Tryd.results16 Tryd.underlying46 rfl (w.heap.size + 1) 46 (x := .int .i64 122)
              case hg =>
                repeat (first | with_reducible exact k6 | apply Blk.put)
              case h =>
                refine And.intro (by rw [HOF.out]; kernel_rfl) ?_
                repeat (first | with_reducible exact HBZ.out | with_reducible refine Below.at ?_ (Nat.le_add_right _ _))
              all_goals kernel_rfl
            · rw [if_neg hm] at hof
              have HOF := Lib.hid hof
              clear hof
              go_wp2_with fail
              apply post_row2 Tryd.results16 Tryd.underlying46 rfl (w.heap.size + 1) 46 (x := .int .i64 0)
              case hg =>
                repeat (first | with_reducible exact k6 | apply Blk.put)
              case h =>
                refine And.intro (by rw [HOF.out]; kernel_rfl) ?_
                repeat (first | with_reducible exact HBZ.out | with_reducible refine Below.at ?_ (Nat.le_add_right _ _))
              all_goals kernel_rfl
end Go.Proofs.YtecmhjhjmhliiaaDoor


/-
  Pcap: the chapter's rows (known).
-/


namespace Go.Proofs.YtecmhjhjmhliiaaDoor

open Go.RowKit Go.Lib

set_option maxRecDepth 100000

theorem open_two (g : Nat) (x y : UInt8) (e : Int) (he : openV (openF [x, y]) = .tuple #[.agg #[.bool false, .bool false, .int .u16 0, .int .u32 0], .int .i64 e]) (w : World) (hb : Blk w g #[u8 x, u8 y] 5) (hT : MagT w) :
    Calls Tryd.prog 8 #[.slice (some ⟨g, 0, none⟩) 2 2] w fun e' w' => e' = .returned (.tuple #[.agg #[.bool false, .bool false, .int .u16 0, .int .u32 0], .int .i64 e]) ∧ Below w.heap.size w w' := by
  have h := open_any (some ⟨g, 0, none⟩) [x, y] 2 (by simp) (by simp) w (rd_of_blk (T := 5) hb) hT
  rw [he] at h
  exact h
theorem bytes_known : bytesH true false 1 262144 = [212, 195, 178, 161, 2, 0, 4, 0, 0, 0, 0, 0, 0, 0, 0, 0, 0, 0, 4, 0, 1, 0, 0, 0] := by decide
theorem at_known (w : World) : Calls Tryd.prog 20 #[.agg #[.bool true, .bool false, .int .u16 1, .int .u32 262144], .agg #[.int .u32 0, .int .u32 500000, .int .u32 0, .int .u32 0]] w fun e w' => e = .returned (.agg #[.int .i64 0, .int .u64 9487534655377768448]) ∧ Below w.heap.size w w' :=
  at_any true false 1 262144 0 500000 0 0 (by decide) (by decide) w
theorem unix_known (w : World) : Calls Tryd.prog 23 #[.int .u64 0, .int .u32 2147483648] w fun e w' => e = .returned (.agg #[.int .i64 0, .int .u64 9487534655377768448]) ∧ Below w.heap.size w w' :=
  unix_any 0 2147483648 (by decide) (by decide) w
theorem den_known (w : World) : Calls Tryd.prog 12 #[.agg #[.bool true, .bool false, .int .u16 1, .int .u32 262144]] w fun e w' => e = .returned (.int .u64 1000000) ∧ Below w.heap.size w w' :=
  den_any true false 1 262144 w
theorem bytes_known8_any (w : World) : Calls Tryd.prog 10 #[.agg #[.bool true, .bool false, .int .u16 1, .int .u32 262144]] w fun e w' => ∃ g, e = .returned (.slice (some ⟨g, 0, none⟩) 24 24) ∧ (convert 22 9 (.slice (some ⟨g, 0, none⟩) 24 24)).run Tryd.prog w' = .ok (.string ⟨#[212, 195, 178, 161, 2, 0, 4, 0, 0, 0, 0, 0, 0, 0, 0, 0, 0, 0, 4, 0, 1, 0, 0, 0]⟩) w' ∧ Below w.heap.size w w' := by
  refine (bytes_any true false 1 262144 (by decide) (by decide) w).mono ?_
  rintro e w' ⟨g, rfl, hr, _, hb⟩
  rw [bytes_known] at hr
  exact ⟨g, rfl, conv_rd hr.rd 24, hb⟩
set_option maxHeartbeats 4000000 in
theorem known8_any (w : World) (hT : MagT w) : Calls Tryd.prog 7 #[] w fun e w' => e = .returned (.bool true) ∧ Below w.heap.size w w' := by
  have O1 := Lib.hid (fun g w' => open_two g 212 195 121 (by kernel_rfl) w')
  have O2 := Lib.hid (fun g w' => open_two g 212 196 120 (by kernel_rfl) w')
  have HT := Lib.hid hT
  have HFIRST := Lib.hid hT
  clear hT
  go_enter Tryd.func7, Tryd.ntmps7
  go_wp2_with (first
    | (go_at_call 8; clear HFIRST; refine (O1.out _ _ (Blk.new (by simp)) (HT.out.below (((Below.refl _ w).alloc (Nat.le_refl _) _).alloc (by simp) _))).mono ?_; rintro e w1 ⟨rfl, hb1⟩; have HB1 := Lib.hid (keepA2 hb1); have kf : Blk w1 w.heap.size _ 26 := Blk.keep hb1 ((Blk.new (b := w.heap.size) rfl).old _); clear hb1)
    | (go_at_call 8; refine (O2.out _ _ (Blk.new (by simp)) (HT.out.below (keepR (keepR HB1.out)))).mono ?_; rintro e w2 ⟨rfl, hb2⟩; have HB2 := Lib.hid (keepW (keepR (keepR HB1.out)) hb2); have kf2 := Blk.keep hb2 ((kf.old _).old _); have hc2 := (kf2.old (.cells #[.bool false, .bool false, .int .u16 0, .int .u32 0] 26)).four; clear hb2 kf)
    | (go_at_call 10; refine (bytes_known8_any _).mono ?_; rintro e w3 ⟨g3, rfl, hcv, hb3⟩; have HB3 := Lib.hid (keepW (keepR HB2.out) hb3); have kf3 := Blk.keep hb3 (kf2.old _); clear hc2 hb3; have hc2 := kf3.four)
    | (go_at_call 20; refine (at_known _).mono ?_; rintro e w4 ⟨rfl, hb4⟩; have HB4 := Lib.hid (keepW HB3.out hb4); have kf4 := Blk.keep hb4 kf3; clear hb4 hc2)
    | (go_at_call 23; refine (unix_known _).mono ?_; rintro e w5 ⟨rfl, hb5⟩; have HB5 := Lib.hid (keepW HB4.out hb5); have kf5 := Blk.keep hb5 kf4; have hc2 := kf5.four; clear hb5)
    | (go_at_call 12; refine (den_known _).mono ?_; rintro e w6 ⟨rfl, hb6⟩; have HB6 := Lib.hid (keepW HB5.out hb6); clear hb6))
  go_ret
  exact ⟨rfl, HB6.out⟩
end Go.Proofs.YtecmhjhjmhliiaaDoor
