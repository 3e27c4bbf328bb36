/-
  Own texts, merged: FtY Open OpenF
-/
import Derived.Lib.SmallJoins
import Derived.Test.YtidkpdabidlnnaaGreatDoorTie
import Derived.Lib.LaidTab
import Derived.Lay
import Derived.LaidMore
import Derived.LaidHandle
import Derived.OpenShut
import Derived.Carry
import Derived.ChangeSlices
import Derived.ChangeMaps5
import Derived.SliceStrings
import Derived.Stop.LaidErr
import Derived.Stop.Joined
import Derived.Shelf.Vars
import Derived.SevenTiedAt
import Derived.Test.YtidkpdabidlnnaaGreatDoorQ4


/-
  What is wrapped stays what it is: the law's walk.
-/

namespace Go.Proofs.YtidkpdabidlnnaaGreatDoor

open Go.Den Go.RowKit

set_option maxRecDepth 100000

set_option linter.unusedSectionVars false

variable [Inhabited Root]

/-- A slice of bytes that came in. -/
def BytesA (w : World) (v : Value) (bs : List UInt8) : Prop :=
  (v = .slice none 0 0 ∧ bs = []) ∨ ∃ blk off cap : Nat, v = .slice (some ⟨blk, off, none⟩) bs.length cap ∧ ∀ j : Nat, j < bs.length → w.cell? ⟨blk, off + j, none⟩ = some (u8 bs[j]!)
/-- A slice of strings that came in. -/
def StrsA (w : World) (v : Value) (ss : List ByteArray) : Prop :=
  (v = .slice none 0 0 ∧ ss = []) ∨ ∃ blk off cap : Nat, v = .slice (some ⟨blk, off, none⟩) ss.length cap ∧ ss.length ≤ maxLen ∧ ∀ j : Nat, j < ss.length → w.cell? ⟨blk, off + j, none⟩ = some (.string (nthS ss j))
/-- What stays of a fault. -/
structure ThE (k o : Int) (f : Er) : Prop where
  fs : fstS f = some k
  ff : fstF f = some (k, o)
  hs : has (qS k) f = true
  hf : has (qF k o) f = true
  sm : smallW f
  sz : f.size ≤ 1000
theorem ThE.start (k o : Int) : ThE k o (.flt k o) := ⟨rfl, rfl, by show (false || (k == k)) = true; simp, by show ((k == k && o == o) || false) = true; simp, fun x h => (by cases h), by show 2 ≤ 1000; omega⟩
theorem ThE.note {k o : Int} {f : Er} (h : ThE k o f) (b : Nat) (s : ByteArray) (hz : f.size < 1000) : ThE k o (.note b (wordB s) f) :=
  ⟨h.fs, h.ff, by show (false || has (qS k) f) = true; rw [h.hs]; rfl, by show (false || has (qF k o) f) = true; rw [h.hf]; rfl, fun x hx => by
    rcases List.mem_cons.1 hx with rfl | hx
    · exact wordB_size _
    · exact h.sm x hx, hz⟩
theorem ThE.arnd {k o : Int} {f : Er} (h : ThE k o f) (hz : f.size < 1000) : ThE k o (.arnd f) :=
  ⟨h.fs, h.ff, by show (false || has (qS k) f) = true; rw [h.hs]; rfl, by show (false || has (qF k o) f) = true; rw [h.hf]; rfl, fun x (hx : x ∈ ([] : List ByteArray)) => (by cases hx), hz⟩
theorem ThE.join {k o : Int} {f : Er} (h : ThE k o f) (b r a : Nat) (hz : f.size < 999) : ThE k o (.join b r a f) :=
  ⟨h.fs, h.ff, by show (false || (false || has (qS k) f)) = true; rw [h.hs]; rfl, by show (false || (false || has (qF k o) f)) = true; rw [h.hf]; rfl, fun x (hx : x ∈ ([] : List ByteArray)) => (by cases hx), by show f.size + 2 ≤ 1000; omega⟩
theorem kind_th (hR : R6) {k o : Int} {w wc : World} {f : Er} (h : ThE k o f) (a : At w f wc) : Calls Tryz.prog 10 #[.iface f.ty f.cont] wc fun ev w' => ev = .returned (.tuple #[.int .i64 k, .bool true]) ∧ At w f w' :=
  (kind_any f wc a.lies (Nat.le_trans h.sz (by omega)) (hR.ert.held a.held)).mono fun ev w' ⟨h1, h2⟩ => ⟨by rw [h1, h.fs]; rfl, a.next h2⟩
theorem off_th (hR : R6) {k o : Int} {w wc : World} {f : Er} (h : ThE k o f) (a : At w f wc) : Calls Tryz.prog 11 #[.iface f.ty f.cont] wc fun ev w' => ev = .returned (.tuple #[.int .i64 o, .bool true]) ∧ At w f w' :=
  (off_any f wc a.lies (Nat.le_trans h.sz (by omega)) (hR.ert.held a.held)).mono fun ev w' ⟨h1, h2⟩ => ⟨by rw [h1, h.ff]; rfl, a.next h2⟩
/-- .. beside a variable for a sort. -/
structure At2 (w : World) (f : Er) (t : Nat) (wA wc : World) : Prop where
  here : At w f wc
  below : Below t wA wc
  blk : Blk wc t #[.int .i64 0] 41
theorem At2.next {w wA wc w' : World} {f : Er} {t : Nat} (h : At2 w f t wA wc) (hb : Below wc.heap.size wc w') : At2 w f t wA w' :=
  ⟨h.here.next hb, h.below.trans (hb.mono (Nat.le_of_lt h.blk.lt)), Blk.keep hb h.blk⟩
theorem At2.start {w wc : World} {f : Er} (a : At w f wc) : At2 w f wc.heap.size wc (wc.alloc (.cells #[.int .i64 0] 41)) :=
  ⟨a.next ((Below.refl _ _).alloc (Nat.le_refl _) _), (Below.refl _ _).alloc (Nat.le_refl _) _, Blk.new rfl⟩
theorem is_th {k o : Int} {w wA wc : World} {f : Er} {t : Nat} (h : ThE k o f) (a : At2 w f t wA wc) : Calls Tryz.prog 16 #[.iface f.ty f.cont, .int .i64 k] wc fun ev w' => ev = .returned (.bool true) ∧ At2 w f t wA w' :=
  (fis_any f k wc a.here.lies (Nat.le_trans h.sz (by omega))).mono fun ev w' ⟨h1, h2⟩ => ⟨by rw [h1, h.hs], a.next h2⟩
theorem isF_th {k o : Int} {w wA wc : World} {f : Er} {t : Nat} (h : ThE k o f) (a : At2 w f t wA wc) : Calls Tryz.prog 23 #[.iface f.ty f.cont, .iface (Er.flt k o).ty (Er.flt k o).cont] wc fun ev w' => ev = .returned (.bool true) ∧ At2 w f t wA w' :=
  (Is_flt k o f wc a.here.lies).mono fun ev w' ⟨h1, h2⟩ => ⟨by rw [h1, h.hf], a.next h2⟩
theorem isS_th {k o : Int} {w wA wc : World} {f : Er} {t : Nat} (h : ThE k o f) (a : At2 w f t wA wc) : Calls Tryz.prog 23 #[.iface f.ty f.cont, .iface 41 (.int .i64 k)] wc fun ev w' => ev = .returned (.bool true) ∧ At2 w f t wA w' :=
  (Is_sort k f wc a.here.lies).mono fun ev w' ⟨h1, h2⟩ => ⟨by rw [h1, h.hs], a.next h2⟩
theorem as_th (hR : R6) {k o : Int} {w wA wc : World} {f : Er} {t : Nat} (h : ThE k o f) (a : At2 w f t wA wc) (hA : At w f wA) (ht : t = wA.heap.size) : Calls Tryz.prog 27 #[.iface f.ty f.cont, .iface 60 (.pointer (some ⟨t, 0, none⟩))] wc fun ev w' => ev = .returned (.bool true) ∧ At w f w' ∧ Blk w' t #[.int .i64 k] 41 :=
  (As_S f t _ wc a.here.lies a.blk (hR.ert.held a.here.held)).mono fun ev w' hp => by
    obtain ⟨h1, h2, h3⟩ := PostS_some h.fs hp
    have hb : Below wA.heap.size wA w' := by rw [← ht]; exact a.below.trans h2
    exact ⟨h1, hA.next hb, h3⟩
theorem line_th (hR : R6) {k o : Int} {w wc : World} {f : Er} (h : ThE k o f) (a : At w f wc) : ∃ S : ByteArray, Calls Tryz.prog 12 #[.iface f.ty f.cont] wc fun ev w' => ev = .returned (.tuple #[.string S, .bool (isF (innerE f))]) ∧ At w f w' := by
  have := line_any hR f wc a.lies (Nat.le_trans h.sz (by omega)) h.sm a.held
  unfold lineV at this
  cases hq : isF (innerE f) with
  | true =>
    rw [hq] at this
    exact ⟨_, this.mono fun ev w' ⟨h1, h2⟩ => ⟨h1, a.next h2⟩⟩
  | false =>
    rw [hq] at this
    exact ⟨_, this.mono fun ev w' ⟨h1, h2⟩ => ⟨h1, a.next h2⟩⟩
theorem neq_flt (k o : Int) (w : World) : (binOp .neq 27 (.iface 65 (.agg #[.int .i64 k, .int .i64 o])) (.iface 65 (.agg #[.int .i64 k, .int .i64 o]))).run Tryz.prog w = .ok (.bool false) w := by
  have h : ∀ d : Nat, (Op.equalIn (d + 3) 27 (.iface 65 (.agg #[.int .i64 k, .int .i64 o])) (.iface 65 (.agg #[.int .i64 k, .int .i64 o]))).run Tryz.prog w = .ok (k == k && o == o) w := fun d => by
    rw [eqIn_iface, run_equalIn_struct w (d + 1) 65 _ _ (by kernel_rfl) (by kernel_rfl), eqIn_fields]
  simp only [binOp]
  simp [Op.equal, Op.maxDepth, h 9997]
theorem neq_note (b : Nat) (w : World) : (binOp .neq 27 (.iface 80 (.pointer (some ⟨b, 0, none⟩))) (.iface 80 (.pointer (some ⟨b, 0, none⟩)))).run Tryz.prog w = .ok (.bool false) w := by
  obtain ⟨i, hi, hcmp⟩ := Option.map_eq_some_iff.1 (show (Tryz.prog.info? 80).map (·.comparable) = some true by kernel_rfl)
  obtain ⟨j, hj, _⟩ := Option.map_eq_some_iff.1 (show (Tryz.prog.info? 82).map (·.size) = some 2 by kernel_rfl)
  simp only [binOp]
  simp [Op.equal, Op.maxDepth, run_equalIn_iface_ptr_same w 9998 ⟨b, 0, none⟩ Tryz.underlying27 Tryz.underlying80 hi hcmp hj]
theorem neq_own : ∀ {f : Er}, isF (innerE f) = true → ∀ w, (binOp .neq 27 (.iface f.ty f.cont) (.iface f.ty f.cont)).run Tryz.prog w = .ok (.bool false) w
  | .flt k o, _, w => neq_flt k o w
  | .note b _ _, _, w => neq_note b w
theorem un_note {f' f : Er} {s : ByteArray} (h : ∃ b, f' = .note b s f) : f'.un = some f := by obtain ⟨b, rfl⟩ := h; rfl
def ThR (k o : Int) (w : World) (j : Nat) (e nt ow : Value) (wx : World) : Prop := ∃ (f : Er) (c : Nat), e = .iface f.ty f.cont ∧ nt = .int .i64 (c : Int) ∧ ow = .bool (isF (innerE f)) ∧ c ≤ j ∧ At w f wx ∧ ThE k o f ∧ f.size ≤ 2 * j + 2 ∧ (isF (innerE f) = true → c = cntE f)
theorem ThR.wrap {k o : Int} {j : Nat} {f f' : Er} {s : ByteArray} (hj : j ≤ 20) (hth : ThE k o f) (hsz : f.size ≤ 2 * j + 2) (hf : WrapR f s f') : ThE k o f' ∧ f'.size ≤ 2 * (j + 1) + 2 ∧ isF (innerE f') = isF (innerE f) := by
  rcases hf with ⟨_, rfl⟩ | ⟨_, b, rfl⟩
  · exact ⟨hth, by omega, rfl⟩
  · exact ⟨hth.note b s (by omega), by show f.size + 1 ≤ _; omega, rfl⟩
set_option maxHeartbeats 8000000 in
theorem faultThrough_run (hR : R6) (k : Int) (k0 : -9223372036854775808 ≤ k) (k1 : k ≤ 9223372036854775807) (o : Int) (o0 : -9223372036854775808 ≤ o) (o1 : o ≤ 9223372036854775807) (v : Value) (bs : List UInt8) (w : World) (hb : BytesA w v bs) (hw : Held w) :
    Calls Tryz.prog 6 #[.int .i64 k, .int .i64 o, v] w fun ev w' => ev = .returned (.bool true) ∧ Below w.heap.size w w' := by
  have HKN := Lib.hid (known6_any hR w hw)
  by_cases hk0 : k = 0
  · subst hk0
    have HNW := Lib.hid (fun w' : World => new_zero o w')
    rcases hb with ⟨rfl, rfl⟩ | ⟨blk, off, cap, rfl, hcell⟩
    · go_enter Tryz.func6, Tryz.ntmps6
      go_wp2_with (go_at_call 7; refine HKN.out.mono ?_; rintro ev w1 ⟨rfl, hb1⟩; have HB1 := Lib.hid hb1; clear hb1)
      go_ret
      exact ⟨rfl, HB1.out⟩
    · clear hcell
      go_enter Tryz.func6, Tryz.ntmps6
      go_wp2_with (go_at_call 7; refine HKN.out.mono ?_; rintro ev w1 ⟨rfl, hb1⟩; have HB1 := Lib.hid hb1; clear hb1)
      go_ret
      exact ⟨rfl, HB1.out⟩
  rcases hb with ⟨rfl, rfl⟩ | ⟨blk, off, cap, rfl, hcell⟩
  · have hk0' : (k == 0) = false := by rw [beq_eq_false_iff_ne]; exact hk0
    have HNW := Lib.hid fun w' => new_any k o hk0 w'
    clear k0 k1 o0 o1 hk0 hw
    go_enter Tryz.func6, Tryz.ntmps6
    go_wp2_with (first
      | (go_at_call 7; refine HKN.out.mono ?_; rintro ev w1 ⟨rfl, hb1⟩; have HB1 := Lib.hid hb1; clear hb1)
      | (go_at_call 24; refine (HNW.out _).mono ?_; rintro ev w2 ⟨rfl, hb2⟩; have HB2 := Lib.hid hb2; clear hb2))
    refine wp_loop_rounds 1 ?_
    rw [rounds_succ]
    go_wp2
    go_ret
    exact ⟨rfl, keepW HB1.out HB2.out⟩
  · skip
    have hk0' : (k == 0) = false := by rw [beq_eq_false_iff_ne]; exact hk0
    · obtain ⟨n, hn⟩ : ∃ n, bs.length = n := ⟨_, rfl⟩
      rw [hn]
      by_cases hn20 : n ≤ 20
      · have hn20' : ¬ (20 : Int) < (n : Int) := by omega
        have HNW := Lib.hid fun w' => new_any k o hk0 w'
        have HIK := Lib.hid (⟨⟨k0, k1⟩, ⟨o0, o1⟩⟩ : In64 k ∧ In64 o); have HW := Lib.hid hw; have HN := Lib.hid hn; have HN20 := Lib.hid hn20; have HCELL := Lib.hid hcell
        clear k0 k1 o0 o1 hk0 hn20 hw hn hcell
        go_enter Tryz.func6, Tryz.ntmps6
        go_wp2_with (first
          | (go_at_call 7; refine HKN.out.mono ?_; rintro ev w1 ⟨rfl, hb1⟩; have HB1 := Lib.hid hb1; clear hb1)
          | (go_at_call 24; refine (HNW.out _).mono ?_; rintro ev w2 ⟨rfl, hb2⟩; have HB2 := Lib.hid hb2; clear hb2))
        go_loopw [8, 9, 10, 36] (fun e nt ow i wr => ∃ (f : Er) (c j : Nat), e = .iface f.ty f.cont ∧ nt = .int .i64 (c : Int) ∧ ow = .bool (isF (innerE f)) ∧ i = .int .i64 (j : Int) ∧ j ≤ n ∧ c ≤ j ∧ At w f wr ∧ ThE k o f ∧ f.size ≤ 2 * j + 2 ∧ (isF (innerE f) = true → c = cntE f)) (fun _ _ _ i _ => n - natOf i)
        case atStart => exact ⟨.flt k o, 0, 0, rfl, rfl, rfl, rfl, Nat.zero_le _, Nat.le_refl _, ⟨keepW HB1.out HB2.out, HIK.out, (HW.out.below HB1.out).below HB2.out⟩, ThE.start k o, Nat.le_refl _, fun _ => rfl⟩
        case round =>
          obtain ⟨f, c, j, rfl, rfl, rfl, rfl, hj, hcj, hat, hth, hsz, hcnt⟩ := hrel
          by_cases hjn : j < n
          · obtain ⟨x, hx⟩ : ∃ x : UInt8, bs[j]! = x := ⟨_, rfl⟩
            have hce : wr.cell? ⟨blk, off + j, none⟩ = some (.int .u8 (x.toNat : Int)) := by
              have h1 := HCELL.out j (by rw [HN.out]; exact hjn)
              rw [hx] at h1
              exact (World.cell?_of_block (hat.below.block _ (World.block_lt_of_cell? _ _ h1))).trans h1
            have hjn' : (j : Int) < (n : Int) := by omega
            have hj0 : ¬ ((j : Int) < 0) := by omega
            have HAT := Lib.hid hat; have HTH := Lib.hid hth; have HSZ := Lib.hid hsz; have HCNT := Lib.hid hcnt; have HCJ := Lib.hid hcj; have HJ := Lib.hid hj; have HJJ := Lib.hid hjn
            clear hat hth hsz hcnt hcj hj hjn
            have hn20b : j < 20 := by have := HN20.out; have := HJJ.out; omega
            have HJ20 := Lib.hid hn20b
            clear hn20b
            have hww := wrap_any f ⟨#[119, 111, 114, 100]⟩ (by show 4 ≤ 1000000; omega) (Nat.le_trans HTH.out.sz (by omega)) wr HAT.out.lies
            have HWW := Lib.hid hww
            clear hww
            go_upto_block 2 with fail
            obtain ⟨m, hm⟩ : ∃ m : Int, (x.toNat : Int) % 3 = m := ⟨_, rfl⟩
            rw [hm]
            have hm3 : m = 0 ∨ m = 1 ∨ m = 2 := by omega
            have HM3 := Lib.hid hm3
            clear hm hm3
            go_cut [8, 9, 10] (fun e nt ow wx => ThR k o w (j + 1) e nt ow wx)
            case first =>
              rcases HM3.out with rfl | rfl | rfl
              · cases hq : isF (innerE f) with
                | false =>
                  have HQ := Lib.hid hq
                  clear hq
                  go_wp2_with (go_at_call 22; refine HWW.out.mono ?_; rintro ev w5 ⟨f', rfl, hl', hb5, hwr⟩; have HL5 := Lib.hid hl'; have HB5 := Lib.hid hb5; have HWR := Lib.hid hwr; clear hl' hb5 hwr)
                  go_meet
                  case rel =>
                    obtain ⟨h1, h2, h3⟩ := ThR.wrap (Nat.le_of_lt HJ20.out) HTH.out HSZ.out HWR.out
                    exact ⟨f', c, rfl, rfl, by rw [h3, HQ.out], Nat.le_succ_of_le HCJ.out, ⟨keepW HAT.out.below HB5.out, HL5.out, HAT.out.held.below HB5.out⟩, h1, h2, fun h => by rw [h3, HQ.out] at h; cases h⟩
                | true =>
                  have HQ := Lib.hid hq
                  have hcc := HCNT.out hq
                  have hcb := HCJ.out
                  have hcb2 := HJ20.out
                  clear hq
                  by_cases h8 : 8 ≤ cntE f
                  · have hlt8 : ¬ ((c : Int) < 8) := by omega
                    have H8 := Lib.hid h8; have HCC := Lib.hid hcc
                    clear h8 hcc hcb hcb2
                    go_wp2_with (go_at_call 22; refine HWW.out.mono ?_; rintro ev w5 ⟨f', rfl, hl', hb5, hwr⟩; have HL5 := Lib.hid hl'; have HB5 := Lib.hid hb5; have HWR := Lib.hid hwr; clear hl' hb5 hwr)
                    go_meet
                    case rel =>
                      obtain ⟨h1, h2, h3⟩ := ThR.wrap (Nat.le_of_lt HJ20.out) HTH.out HSZ.out HWR.out
                      refine ⟨f', c, rfl, rfl, by rw [h3, HQ.out], Nat.le_succ_of_le HCJ.out, ⟨keepW HAT.out.below HB5.out, HL5.out, HAT.out.held.below HB5.out⟩, h1, h2, fun _ => ?_⟩
                      rcases HWR.out with ⟨_, rfl⟩ | ⟨h, _⟩
                      · exact HCC.out
                      · exact absurd h (by have := H8.out; omega)
                  · have hlt8 : ((c : Int) < 8) := by omega
                    have hc20 : (c : Int) ≤ 20 := by omega
                    have H8 := Lib.hid h8; have HCC := Lib.hid hcc
                    have hno := neq_own HQ.out
                    clear h8 hcc hcb hcb2
                    go_wp2_with (first
                      | (go_at_call 22; refine HWW.out.mono ?_; rintro ev w5 ⟨f', rfl, hl', hb5, hwr⟩; have hwr2 : ∃ b, f' = .note b (wordB ⟨#[119, 111, 114, 100]⟩) f := (by rcases hwr with ⟨h, _⟩ | ⟨_, h⟩; exact absurd h H8.out; exact h); have HL5 := Lib.hid hl'; have HB5 := Lib.hid hb5; have HWR := Lib.hid hwr; have HW2 := Lib.hid hwr2; have hun := un_note hwr2; have HUN := Lib.hid hun; clear hl' hb5 hwr hwr2 hun)
                      | (go_at_call 25; rw [← Er.val_eq]; refine (unwrap_any _ _ HL5.out).mono ?_; rw [HUN.out, oval_some]; rintro ev w6 ⟨rfl, hb6⟩; have HB6 := Lib.hid hb6; clear hb6))
                    go_meet
                    case rel =>
                      obtain ⟨h1, h2, h3⟩ := ThR.wrap (Nat.le_of_lt HJ20.out) HTH.out HSZ.out HWR.out
                      refine ⟨f', c + 1, Er.val_eq f', by go_num, by rw [h3, HQ.out], Nat.succ_le_succ HCJ.out, ⟨keepW (keepW HAT.out.below HB5.out) HB6.out, Er.lies.keep HB6.out HL5.out, (HAT.out.held.below HB5.out).below HB6.out⟩, h1, h2, fun _ => ?_⟩
                      obtain ⟨b, rfl⟩ := HW2.out
                      exact congrArg (· + 1) HCC.out
              · go_wp2
                go_meet
                case rel =>
                  refine ⟨.arnd f, c, ?_, rfl, rfl, Nat.le_succ_of_le HCJ.out, ⟨HAT.out.below, HAT.out.lies, HAT.out.held⟩, HTH.out.arnd (by have := HSZ.out; have := HJ20.out; omega), by have := HSZ.out; show f.size + 1 ≤ _; omega, fun h => by cases h⟩
                  show _ = Value.iface 57 (.agg #[f.val])
                  rw [Er.val_eq]
              · have hjj : ∀ (g a : Nat) (w' : World), Below wr.heap.size wr w' → Blk w' g #[.iface (Er.oth a).ty (Er.oth a).cont, .iface f.ty f.cont] 27 → (Er.oth a).lies w' → Calls Tryz.prog 26 #[.slice (some ⟨g, 0, none⟩) 2 2] w' fun ev w2 => ∃ b r, ev = .returned (.iface (Er.join b r a f).ty (Er.join b r a f).cont) ∧ (Er.join b r a f).lies w2 ∧ Below w'.heap.size w' w2 := fun g a w' h1 h2 h3 => join_any g a f w' h2 h3 (HAT.out.lies.keep h1)
                have HJN := Lib.hid hjj
                clear hjj
                go_wp2_with (first
                  | (go_at_call 21; refine (enew_any _ _).mono ?_; rintro ev w5 ⟨a, rfl, hba, hb5⟩; have HBA := Lib.hid hba; have HB5 := Lib.hid hb5; clear hba hb5)
                  | (go_at_call 26; refine (HJN.out _ _ _ (HB5.out.alloc HB5.out.size _) (Blk.new rfl) ⟨_, Blk.old HBA.out _⟩).mono ?_; rintro ev w6 ⟨b, r, rfl, hl6, hb6⟩; have HL6 := Lib.hid hl6; have HB6 := Lib.hid (keepW (HB5.out.alloc HB5.out.size _) hb6); clear hl6 hb6))
                go_meet
                case rel =>
                  exact ⟨.join b r a f, c, rfl, rfl, rfl, Nat.le_succ_of_le HCJ.out, ⟨keepW HAT.out.below HB6.out, HL6.out, HAT.out.held.below HB6.out⟩, HTH.out.join b r a (by have := HSZ.out; have := HJ20.out; omega), by have := HSZ.out; show f.size + 2 ≤ _; omega, fun h => by cases h⟩
            case rest =>
              obtain ⟨f2, c2, rfl, rfl, rfl, hc2, hat2, hth2, hsz2, hcnt2⟩ := hcut
              have A0 := Lib.hid hat2; have HT2 := Lib.hid hth2; have HS2 := Lib.hid hsz2; have HC2 := Lib.hid hcnt2; have HCC2 := Lib.hid hc2
              clear hc2 hat2 hth2 hsz2 hcnt2 HAT HTH HSZ HCNT HWW
              go_wp2_with (first
                | (go_at_call 10; refine (kind_th hR HT2.out A0.out).mono ?_; rintro ev w11 ⟨rfl, ha⟩; have A1 := Lib.hid ha; clear ha)
                | (go_at_call 11; refine (off_th hR HT2.out A1.out).mono ?_; rintro ev w12 ⟨rfl, ha⟩; have A2 := Lib.hid ha; have A3 := Lib.hid (At2.start ha); clear ha)
                | (go_at_call 16; refine (is_th HT2.out A3.out).mono ?_; rintro ev w13 ⟨rfl, ha⟩; have A4 := Lib.hid ha; clear ha)
                | (go_at_call_of 23 (Er.cont (Er.flt k o)); refine (isF_th HT2.out A4.out).mono ?_; rintro ev w14 ⟨rfl, ha⟩; have A5 := Lib.hid ha; clear ha)
                | (go_at_call_of 23 (Value.int IntKind.i64 k); refine (isS_th HT2.out A5.out).mono ?_; rintro ev w15 ⟨rfl, ha⟩; have A6 := Lib.hid ha; clear ha)
                | (go_at_call 27; refine (as_th hR HT2.out A6.out A2.out rfl).mono ?_; rintro ev w16 ⟨rfl, ha, hbk⟩; have A7 := Lib.hid ha; have cst := hbk.one; clear ha hbk)
                | (go_at_call 12; obtain ⟨S, hS⟩ := line_th hR HT2.out A7.out; refine hS.mono ?_; rintro ev w17 ⟨rfl, ha⟩; have A8 := Lib.hid ha; clear ha hS))
              exact ⟨⟨f2, c2, j + 1, rfl, rfl, rfl, rfl, HJJ.out, HCC2.out, A8.out, HT2.out, HS2.out, HC2.out⟩, by have := HJJ.out; simp only [natOf]; omega⟩
          · have hjn' : ¬ ((j : Int) < (n : Int)) := by omega
            have HAT := Lib.hid hat
            clear hat hth hsz hcnt hcj hj hjn
            go_wp2
            go_ret
            exact ⟨rfl, HAT.out.below⟩
      · have hn20' : (20 : Int) < (n : Int) := by omega
        clear k0 k1 o0 o1 hk0 hn20 hw hn hcell
        go_enter Tryz.func6, Tryz.ntmps6
        go_wp2_with (go_at_call 7; refine HKN.out.mono ?_; rintro ev w1 ⟨rfl, hb1⟩; have HB1 := Lib.hid hb1; clear hb1)
        go_ret
        exact ⟨rfl, HB1.out⟩
theorem held_cell {w : World} (hw : Held w) {a : Addr} {v : Value} (h : rootW.cell? a = some v) : w.cell? a = some v :=
  (World.cell?_of_block (hw _ (World.block_lt_of_cell? _ _ h))).trans h
theorem BytesA.held {v : Value} {bs : List UInt8} (h : BytesA rootW v bs) {w : World} (hw : Held w) : BytesA w v bs := by
  rcases h with h | ⟨blk, off, cap, h1, h2⟩
  · exact .inl h
  · exact .inr ⟨blk, off, cap, h1, fun j hj => held_cell hw (h2 j hj)⟩
theorem StrsA.held {v : Value} {ss : List ByteArray} (h : StrsA rootW v ss) {w : World} (hw : Held w) : StrsA w v ss := by
  rcases h with h | ⟨blk, off, cap, h1, h3, h2⟩
  · exact .inl h
  · exact .inr ⟨blk, off, cap, h1, h3, fun j hj => held_cell hw (h2 j hj)⟩
theorem faultThrough_walk (hR : R6) (k : Int) (k0 : -9223372036854775808 ≤ k) (k1 : k ≤ 9223372036854775807) (o : Int) (o0 : -9223372036854775808 ≤ o) (o1 : o ≤ 9223372036854775807) (v : Value) (bs : List UInt8) (hb : BytesA rootW v bs) (w : World) (hw : Held w) :
    Calls Tryz.prog 6 #[.int .i64 k, .int .i64 o, v] w fun ev w' => ev = .returned (.bool true) ∧ Below w.heap.size w w' :=
  faultThrough_run hR k k0 k1 o o0 o1 v bs w (hb.held hw) hw
end Go.Proofs.YtidkpdabidlnnaaGreatDoor


/-
  A wide number among a statement's arguments: opened, and shut.
-/


namespace Go.Proofs.YtidkpdabidlnnaaGreatDoor

set_option maxRecDepth 100000

open Go.ChangeShapes Go.WideShapes Go.ChangeAt Go.RowKit Go.Joins

theorem own : ownKnob Tryz.prog.godebug = none := by kernel_rfl
theorem cellsW : Tryz.prog.cellsOf 125 = 2 := by kernel_rfl

theorem wf_i64 {n : Int} : (Lit.int .i64 n).wf = true ↔ -9223372036854775808 ≤ n ∧ n ≤ 9223372036854775807 := by
  simp [Lit.wf, IntKind.min, IntKind.max, IntKind.signed, IntKind.bits]
theorem wf_u64 {n : Int} : (Lit.int .u64 n).wf = true ↔ 0 ≤ n ∧ n ≤ 18446744073709551615 := by
  simp [Lit.wf, IntKind.min, IntKind.max, IntKind.signed, IntKind.bits]
theorem wf_u32 {n : Int} : (Lit.int .u32 n).wf = true ↔ 0 ≤ n ∧ n ≤ 4294967295 := by
  simp [Lit.wf, IntKind.min, IntKind.max, IntKind.signed, IntKind.bits]

theorem open_w {H : Type} {enc : TypeId × Value → H} {w : World} {b0 base : Nat} {spare : Nat → Bool} {held : Bool} {v : Value} {d : DataW H} {p : List MemPlace}
    (hv : Value.okWide Tryz.prog w .any b0 125 v) (h : DataW.Trod enc Tryz.prog w base spare held 125 v d p) :
    ∃ n : Int, InR n ∧ v = .agg #[.int .i64 (hi n), .int .u64 (lo n)] ∧ d = .agg [.lit (.int .i64 (hi n)), .lit (.int .u64 (lo n))] ∧ p = [] := by
  obtain ⟨c0, c1, y0, y1, m, rfl, rfl, rfl, hy0, hy1⟩ := open_agg2 Tryz.underlying125 (by kernel_rfl) cellsW hv h
  obtain ⟨a, e0, rfl, wa⟩ := DataW.trod_int Tryz.underlying2 hy0
  obtain ⟨b, e1, rfl, wb⟩ := DataW.trod_int Tryz.underlying71 hy1
  simp at e0 e1
  subst e0 e1
  have ha := wf_i64.1 wa; have hb := wf_u64.1 wb
  exact ⟨a * 18446744073709551616 + b, inR_of hb.1 hb.2 ha.1 ha.2, by rw [hi_of hb.1 hb.2 rfl, lo_of hb.1 hb.2 rfl], by rw [hi_of hb.1 hb.2 rfl, lo_of hb.1 hb.2 rfl], rfl⟩

theorem shut_w {H : Type} {enc : TypeId × Value → H} {w : World} {base : Nat} {spare : Nat → Bool} {held : Bool} {n : Int} (hn : InR n) :
    DataW.Trod enc Tryz.prog w base spare held 125 (.agg #[.int .i64 (hi n), .int .u64 (lo n)]) (.agg [.lit (.int .i64 (hi n)), .lit (.int .u64 (lo n))]) [] :=
  shut_agg2 (y0 := (.lit (.int .i64 (hi n)), [])) (y1 := (.lit (.int .u64 (lo n)), [])) Tryz.underlying125 (by kernel_rfl) cellsW
    ⟨1, by simp [DataW.trod, Tryz.underlying2, wf_i64.2 (hi_bd hn)]⟩ ⟨1, by simp [DataW.trod, Tryz.underlying71, wf_u64.2 (lo_bd n)]⟩
end Go.Proofs.YtidkpdabidlnnaaGreatDoor


/-
  Statements of fault: from the row's condition to what the walks ask; arguments that are slices of strings.
-/
















namespace Go.Proofs.YtidkpdabidlnnaaGreatDoor

open Go.ChangeShapes Go.WideShapes Go.ChangeAt Go.RowKit Go.Den

set_option maxRecDepth 100000

theorem laidOut : laidOutB Tryz.prog = true := by kernel_rfl
theorem returnsInHanded_laid {H : Type} {enc : TypeId × Value → H} {a : Assume} {C : Checked} {os : Os} {f : FuncId} {fn : Func} {s : ChangeSpec} {conds : List PathCond} {apart fresh handsOn again : Bool} {laid : List (String × DataW Unit)}
    (own : ownKnob C.prog.godebug = none) (started : os.Started) (noInit : C.prog.inits.idxOf? f = none) (hfn : C.prog.funcs[f]? = some fn)
    (witness : ∃ (w : World) (tape : Tape) (i : Input), w.os = os ∧ (w.forCall tape i).Shaped C.prog ∧ i.vars = [] ∧ Input.okWide C.prog (w.forCall tape i) .any w.heap.size f i ∧
      ((s.pre enc C.prog fn conds apart (w.forCall tape i).memory i.args ∧ laidMetH C.prog laid (w.forCall tape i).memory) ∧ sizedMet enc C.prog fn (OpenSpec.ofChange s) apart (w.forCall tape i).memory i.args) ∧ a.holds C.prog (lone (Frame.enter C.prog f i.args .normal) [] (w.forCall tape i)))
    (contract : ∀ (W : World) (base : Nat) (args : Array Value) (ds gs : List (DataW H)) (before : List MemPlace),
      (∀ (j : Nat) t v, fn.params[j]? = some t → args[j]? = some v → Value.okWide C.prog W .any base t v) →
      DataW.Whole enc C.prog fn.params.toList s.vars apart W args.toList ds gs before →
      laidMetH C.prog laid W → W.ShapedOpen C.prog →
      Calls C.prog f args W fun e W' => ∃ v, e = .returned v ∧ s.post enc C.prog fn apart fresh handsOn again W args v W') :
    ReturnsInHanded a C os f .any (fun w args => (s.pre enc C.prog fn conds apart w args ∧ laidMetH C.prog laid w) ∧ sizedMet enc C.prog fn (OpenSpec.ofChange s) apart w args) (s.post enc C.prog fn apart fresh handsOn again) := by
  refine returnsInHanded_of_calls own started noInit witness ?_
  intro w tape i _ hsh _ hok hpre hholds
  obtain ⟨_, _, _, fn', hfn', _, _, _, _, hval⟩ := hok
  have e : fn' = fn := Option.some.inj (hfn'.symm.trans hfn)
  subst e
  obtain ⟨⟨⟨ds, gs, before, hw, hc⟩, hx⟩, hz⟩ := hpre
  have hw' := DataW.Whole.of_heap (w' := w.forCall tape i) (by rfl) hw
  refine (contract (w.forCall tape i) w.heap.size i.args ds gs before hval hw' (hx.of_heap (by rfl)) hsh).mono fun e W' ⟨v, he, hp⟩ => ?_
  subst he
  exact ChangeSpec.post_blind hp
theorem maxIs_of {W : World} (h : W.ShapedOpen Tryz.prog) : MaxIs W :=
  cell_of_shapedOpen_int (zero := #[.int .i64 0]) (t := 3) h (of_decide_eq_true (by kernel_rfl)) (by kernel_rfl) rfl (by kernel_rfl) (by kernel_rfl) Tryz.underlying3
theorem pow10_eq : (Rows.laid_internal_strconv_uint64pow10 : DataW Unit) = Lib.tabData .u64 Lib.pow10Tab := by kernel_rfl
theorem tab_of {W : World} {x y : String × DataW Unit} {r : List (String × DataW Unit)} (h : laidMet Tryz.prog (x :: y :: ("internal/strconv.uint64pow10", Rows.laid_internal_strconv_uint64pow10) :: r) W) : Tab W := by
  rw [pow10_eq] at h
  exact Lib.tabIs_of_head (g := 1) (t := 159) (by kernel_rfl) (by kernel_rfl) Tryz.underlying159 Tryz.underlying71 (by kernel_rfl) (by kernel_rfl) h.tail.tail
theorem open_str {H : Type} {enc : TypeId × Value → H} {w : World} {b0 base : Nat} {spare : Nat → Bool} {held : Bool} {v : Value} {d : DataW H} {p : List MemPlace}
    (hv : Value.okWide Tryz.prog w .any b0 9 v) (h : DataW.Trod enc Tryz.prog w base spare held 9 v d p) : ∃ s : ByteArray, v = .string s ∧ s.size ≤ maxLen := by
  obtain ⟨s, rfl, _, _, hs⟩ := Go.ChangeMaps.open_string Tryz.underlying9 hv h
  exact ⟨s, rfl, hs⟩
theorem spot_of {w : World} {base : Nat} {t e : TypeId} {a : Addr} {len cap : Nat} (ht : Tryz.prog.underlying t = some (.slice e)) (h : Value.okWide Tryz.prog w .any base t (.slice (some a) len cap)) : a.spot = none := by
  unfold Value.okWide at h
  rw [ht] at h
  unfold Cell.okWide at h
  rw [ht] at h
  unfold Cell.ok at h
  rw [ht] at h
  exact h.2.2.2.1
theorem open_bytes {H : Type} {enc : TypeId × Value → H} {w : World} {b0 base : Nat} {spare : Nat → Bool} {held : Bool} {v : Value} {d : DataW H} {p : List MemPlace}
    (hv : Value.okWide Tryz.prog w .any b0 53 v) (h : DataW.Trod enc Tryz.prog w base spare held 53 v d p) : ∃ bs, BytesA w v bs := by
  obtain ⟨a0, len0, cap0, rfl⟩ := okWide_slice Tryz.underlying53 hv
  obtain ⟨fuel, hf⟩ := h
  rcases open_ints Tryz.underlying53 Tryz.underlying5 (by kernel_rfl) hf with ⟨hcs, hx⟩ | ⟨a, len, cap, zs, hcs, _, hl, hm, hz, hx, hcell, hwz⟩
  · simp [Value.cells] at hcs
    obtain ⟨rfl, rfl, rfl⟩ := hcs
    exact ⟨[], .inl ⟨rfl, rfl⟩⟩
  · simp [Value.cells] at hcs
    obtain ⟨rfl, rfl, rfl⟩ := hcs
    obtain ⟨blk, off, spot⟩ := a
    have hspot : spot = none := spot_of Tryz.underlying53 hv
    subst hspot
    have hlz : len0 ≤ zs.length := by rw [hz]; split <;> omega
    refine ⟨(zs.take len0).map fun z => UInt8.ofNat z.toNat, .inr ⟨blk, off, cap0, ?_, fun j hj => ?_⟩⟩
    · rw [List.length_map, List.length_take, Nat.min_eq_left hlz]
    · have hj2 : j < len0 := by simpa [List.length_take, Nat.min_eq_left hlz] using hj
      have hj3 : j < zs.length := by omega
      have hc := hcell j hj3
      rw [add_plain] at hc
      rw [hc]
      have e : zs.getD j 0 = zs[j] := by rw [List.getD_eq_getElem?_getD, List.getElem?_eq_getElem hj3]; rfl
      have hw := hwz zs[j] (List.getElem_mem hj3)
      simp [Lit.wf, IntKind.min, IntKind.max, IntKind.signed, IntKind.bits] at hw
      rw [getElem!_pos _ j hj, List.getElem_map, List.getElem_take, e]
      have : (UInt8.ofNat zs[j].toNat).toNat = zs[j].toNat := by simp; omega
      show some (Value.int .u8 _) = some (.int .u8 (((UInt8.ofNat zs[j].toNat).toNat : Nat) : Int))
      rw [this]; congr 2; omega
/-- A slice of strings that came in. -/
theorem open_strl {H : Type} {enc : TypeId × Value → H} {w : World} {b0 base : Nat} {spare : Nat → Bool} {held : Bool} {v : Value} {d : DataW H} {p : List MemPlace}
    (hv : Value.okWide Tryz.prog w .any b0 23 v) (h : DataW.Trod enc Tryz.prog w base spare held 23 v d p) : ∃ ss, StrsA w v ss := by
  obtain ⟨a0, len0, cap0, rfl⟩ := okWide_slice Tryz.underlying23 hv
  obtain ⟨fuel, hf⟩ := h
  rcases open_strings Tryz.underlying23 Tryz.underlying9 (by kernel_rfl) hf with ⟨hcs, hx⟩ | ⟨a, len, cap, ss, hcs, _, hl, hm, hz, hx, hcell, _⟩
  · simp [Value.cells] at hcs
    obtain ⟨rfl, rfl, rfl⟩ := hcs
    exact ⟨[], .inl ⟨rfl, rfl⟩⟩
  · simp [Value.cells] at hcs
    obtain ⟨rfl, rfl, rfl⟩ := hcs
    obtain ⟨blk, off, spot⟩ := a
    have hspot : spot = none := spot_of Tryz.underlying23 hv
    subst hspot
    have hlz : len0 ≤ ss.length := by rw [hz]; split <;> omega
    refine ⟨ss.take len0, .inr ⟨blk, off, cap0, ?_, ?_, fun j hj => ?_⟩⟩
    · rw [List.length_take, Nat.min_eq_left hlz]
    · rw [List.length_take, Nat.min_eq_left hlz]; exact Nat.le_trans hl hm
    · have hj2 : j < len0 := by simpa [List.length_take, Nat.min_eq_left hlz] using hj
      have hj3 : j < ss.length := by omega
      have hc := hcell j hj3
      rw [add_plain] at hc
      rw [hc]
      have e : ss.getD j ByteArray.empty = ss[j] := by rw [List.getD_eq_getElem?_getD, List.getElem?_eq_getElem hj3]; rfl
      rw [e, nthS, List.getD_eq_getElem?_getD, List.getElem?_take, if_pos hj2, List.getElem?_eq_getElem hj3]; rfl
theorem hn_name : Tryz.prog.globalNamed "errors.errorType" = some 0 := by kernel_rfl
theorem hn_type : (Tryz.prog.cutTypes.find? (·.1 == "internal/reflectlite.rtype")).map (·.2) = some 113 := by kernel_rfl
theorem hn_row : ((List.range (326 - 100)).filter fun t => Tryz.prog.rowNamed t [101, 114, 114, 111, 114]) = [27] := by kernel_rfl
theorem hn_size : Tryz.prog.types.size = 326 - 100 := by kernel_rfl
abbrev laid6 : List (String × DataW Unit) := [("math/bits.deBruijn32tab", Rows.laid_math_bits_deBruijn32tab), ("math/bits.deBruijn64tab", Rows.laid_math_bits_deBruijn64tab), ("internal/strconv.uint64pow10", Rows.laid_internal_strconv_uint64pow10), ("unicode/utf8.acceptRanges", Rows.laid_unicode_utf8_acceptRanges), ("errors.errorType", Rows.laid_errors_errorType), ("unicode/utf8.first", Rows.laid_unicode_utf8_first)]
abbrev laid5 : List (String × DataW Unit) := [("math/bits.deBruijn32tab", Rows.laid_math_bits_deBruijn32tab), ("math/bits.deBruijn64tab", Rows.laid_math_bits_deBruijn64tab), ("internal/strconv.uint64pow10", Rows.laid_internal_strconv_uint64pow10), ("unicode/utf8.acceptRanges", Rows.laid_unicode_utf8_acceptRanges), ("unicode/utf8.first", Rows.laid_unicode_utf8_first)]
theorem laid_parts {W : World} (h : laidMetH Tryz.prog laid6 W) : laidMet Tryz.prog laid5 W ∧ handlesMet Tryz.prog [("errors.errorType", Rows.laid_errors_errorType)] W := h
theorem ert_of {W : World} (h : laidMetH Tryz.prog laid6 W) : ErrT W := by
  obtain ⟨name, u, ty, e1, e2, e3, e4, e5⟩ := (laid_parts h).2 _ (List.mem_singleton.2 rfl)
  have en : name = [101, 114, 114, 111, 114] := (Option.some.inj e1).symm
  subst en
  obtain rfl := Option.some.inj (hn_type.symm.trans e2)
  have hm : ty ∈ (List.range (326 - 100)).filter fun t => Tryz.prog.rowNamed t [101, 114, 114, 111, 114] := List.mem_filter.2 ⟨List.mem_range.2 (by rw [← hn_size]; exact e3), e4⟩
  rw [hn_row] at hm
  obtain rfl := List.mem_singleton.1 hm
  have hh : typeHandle Tryz.prog 27 = .pointer (some ⟨9, 27, none⟩) := by kernel_rfl
  rw [hh] at e5
  simpa [ErrT] using World.var?_cell hn_name e5 0
theorem r6_of [Inhabited Root] (h : laidMetH Tryz.prog laid6 rootW) (hs : rootW.ShapedOpen Tryz.prog) : R6 :=
  ⟨tab_of (laid_parts h).1, maxIs_of hs, ert_of h⟩
/-- A world that meets the condition. -/
noncomputable def hold6 (os : Os) : World :=
  let w0 := World.holding Tryz.prog os ⟨#[], #[], []⟩
  { w0 with heap := w0.heap.modify 0 fun
      | .cells _ t frozen => .cells #[.iface 113 (.agg #[.pointer (some ⟨9, 27, none⟩)])] t frozen
      | o => o }
noncomputable def laidW (os : Os) : World := (hold6 os).layVars Tryz.prog laid5
theorem laidW_os (os : Os) : (laidW os).os = os := World.layVars_os _ _ _
theorem laidW_met (os : Os) (args : Array Value) : laidMetH Tryz.prog laid6 ((laidW os).forCall (fun _ _ => 0) ⟨#[], args, []⟩).memory := by
  refine laidMetH_of_parts ?_ (by kernel_rfl)
  have e1 : (laid5.filter fun x => (laid5.map (·.1)).contains x.1) = laid5 := List.filter_eq_self.2 fun x hx => List.contains_iff_mem.2 (List.mem_map.2 ⟨x, hx, rfl⟩)
  have e2 : (laid5.filter fun x => !(laid5.map (·.1)).contains x.1) = [] := List.filter_eq_nil_iff.2 fun x hx => by rw [List.contains_iff_mem.2 (List.mem_map.2 ⟨x, hx, rfl⟩)]; simp
  have h : laidMet Tryz.prog laid5 (laidW os) := laidMet_layVars (w0 := hold6 os) (laid5.map (·.1)) [] (by rw [e1]; rfl) (by rw [e1]; kernel_rfl) (by rw [e1]; kernel_rfl) (by rw [e2]; exact LaidIn.none)
  exact h.of_heap (by simp [World.memory, World.forCall, Input.heap])
end Go.Proofs.YtidkpdabidlnnaaGreatDoor
