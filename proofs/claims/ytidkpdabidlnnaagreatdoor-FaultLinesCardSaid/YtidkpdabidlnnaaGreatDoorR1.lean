/-
  Own texts, merged: FtY GbA GbB GbC GbD GbE GbF GbG Open OpenF
-/
import Derived.Laws.AppendOwnNone
import Derived.Lib.SmallJoins
import Derived.Test.YtidkpdabidlnnaaGreatDoorTie
import Derived.Lib.LaidTab
import Derived.Lay
import Derived.LaidMore
import Derived.LaidHandle
import Derived.OpenShut
import Derived.Carry
import Derived.ChangeSlices
import Derived.ChangeMaps5
import Derived.SliceStrings
import Derived.Stop.LaidErr
import Derived.Stop.Joined
import Derived.Shelf.Vars
import Derived.SevenTiedAt
import Derived.Test.YtidkpdabidlnnaaGreatDoorQ4


/-
  What is wrapped stays what it is: the law's walk.
-/

namespace Go.Proofs.YtidkpdabidlnnaaGreatDoor

open Go.Den Go.RowKit

set_option maxRecDepth 100000

set_option linter.unusedSectionVars false

variable [Inhabited Root]

/-- A slice of bytes that came in. -/
def BytesA (w : World) (v : Value) (bs : List UInt8) : Prop :=
  (v = .slice none 0 0 ∧ bs = []) ∨ ∃ blk off cap : Nat, v = .slice (some ⟨blk, off, none⟩) bs.length cap ∧ ∀ j : Nat, j < bs.length → w.cell? ⟨blk, off + j, none⟩ = some (u8 bs[j]!)
/-- A slice of strings that came in. -/
def StrsA (w : World) (v : Value) (ss : List ByteArray) : Prop :=
  (v = .slice none 0 0 ∧ ss = []) ∨ ∃ blk off cap : Nat, v = .slice (some ⟨blk, off, none⟩) ss.length cap ∧ ss.length ≤ maxLen ∧ ∀ j : Nat, j < ss.length → w.cell? ⟨blk, off + j, none⟩ = some (.string (nthS ss j))
/-- What stays of a fault. -/
structure ThE (k o : Int) (f : Er) : Prop where
  fs : fstS f = some k
  ff : fstF f = some (k, o)
  hs : has (qS k) f = true
  hf : has (qF k o) f = true
  sm : smallW f
  sz : f.size ≤ 1000
theorem ThE.start (k o : Int) : ThE k o (.flt k o) := ⟨rfl, rfl, by show (false || (k == k)) = true; simp, by show ((k == k && o == o) || false) = true; simp, fun x h => (by cases h), by show 2 ≤ 1000; omega⟩
theorem ThE.note {k o : Int} {f : Er} (h : ThE k o f) (b : Nat) (s : ByteArray) (hz : f.size < 1000) : ThE k o (.note b (wordB s) f) :=
  ⟨h.fs, h.ff, by show (false || has (qS k) f) = true; rw [h.hs]; rfl, by show (false || has (qF k o) f) = true; rw [h.hf]; rfl, fun x hx => by
    rcases List.mem_cons.1 hx with rfl | hx
    · exact wordB_size _
    · exact h.sm x hx, hz⟩
theorem ThE.arnd {k o : Int} {f : Er} (h : ThE k o f) (hz : f.size < 1000) : ThE k o (.arnd f) :=
  ⟨h.fs, h.ff, by show (false || has (qS k) f) = true; rw [h.hs]; rfl, by show (false || has (qF k o) f) = true; rw [h.hf]; rfl, fun x (hx : x ∈ ([] : List ByteArray)) => (by cases hx), hz⟩
theorem ThE.join {k o : Int} {f : Er} (h : ThE k o f) (b r a : Nat) (hz : f.size < 999) : ThE k o (.join b r a f) :=
  ⟨h.fs, h.ff, by show (false || (false || has (qS k) f)) = true; rw [h.hs]; rfl, by show (false || (false || has (qF k o) f)) = true; rw [h.hf]; rfl, fun x (hx : x ∈ ([] : List ByteArray)) => (by cases hx), by show f.size + 2 ≤ 1000; omega⟩
theorem kind_th (hR : R6) {k o : Int} {w wc : World} {f : Er} (h : ThE k o f) (a : At w f wc) : Calls Tryz.prog 10 #[.iface f.ty f.cont] wc fun ev w' => ev = .returned (.tuple #[.int .i64 k, .bool true]) ∧ At w f w' :=
  (kind_any f wc a.lies (Nat.le_trans h.sz (by omega)) (hR.ert.held a.held)).mono fun ev w' ⟨h1, h2⟩ => ⟨by rw [h1, h.fs]; rfl, a.next h2⟩
theorem off_th (hR : R6) {k o : Int} {w wc : World} {f : Er} (h : ThE k o f) (a : At w f wc) : Calls Tryz.prog 11 #[.iface f.ty f.cont] wc fun ev w' => ev = .returned (.tuple #[.int .i64 o, .bool true]) ∧ At w f w' :=
  (off_any f wc a.lies (Nat.le_trans h.sz (by omega)) (hR.ert.held a.held)).mono fun ev w' ⟨h1, h2⟩ => ⟨by rw [h1, h.ff]; rfl, a.next h2⟩
/-- .. beside a variable for a sort. -/
structure At2 (w : World) (f : Er) (t : Nat) (wA wc : World) : Prop where
  here : At w f wc
  below : Below t wA wc
  blk : Blk wc t #[.int .i64 0] 41
theorem At2.next {w wA wc w' : World} {f : Er} {t : Nat} (h : At2 w f t wA wc) (hb : Below wc.heap.size wc w') : At2 w f t wA w' :=
  ⟨h.here.next hb, h.below.trans (hb.mono (Nat.le_of_lt h.blk.lt)), Blk.keep hb h.blk⟩
theorem At2.start {w wc : World} {f : Er} (a : At w f wc) : At2 w f wc.heap.size wc (wc.alloc (.cells #[.int .i64 0] 41)) :=
  ⟨a.next ((Below.refl _ _).alloc (Nat.le_refl _) _), (Below.refl _ _).alloc (Nat.le_refl _) _, Blk.new rfl⟩
theorem is_th {k o : Int} {w wA wc : World} {f : Er} {t : Nat} (h : ThE k o f) (a : At2 w f t wA wc) : Calls Tryz.prog 16 #[.iface f.ty f.cont, .int .i64 k] wc fun ev w' => ev = .returned (.bool true) ∧ At2 w f t wA w' :=
  (fis_any f k wc a.here.lies (Nat.le_trans h.sz (by omega))).mono fun ev w' ⟨h1, h2⟩ => ⟨by rw [h1, h.hs], a.next h2⟩
theorem isF_th {k o : Int} {w wA wc : World} {f : Er} {t : Nat} (h : ThE k o f) (a : At2 w f t wA wc) : Calls Tryz.prog 23 #[.iface f.ty f.cont, .iface (Er.flt k o).ty (Er.flt k o).cont] wc fun ev w' => ev = .returned (.bool true) ∧ At2 w f t wA w' :=
  (Is_flt k o f wc a.here.lies).mono fun ev w' ⟨h1, h2⟩ => ⟨by rw [h1, h.hf], a.next h2⟩
theorem isS_th {k o : Int} {w wA wc : World} {f : Er} {t : Nat} (h : ThE k o f) (a : At2 w f t wA wc) : Calls Tryz.prog 23 #[.iface f.ty f.cont, .iface 41 (.int .i64 k)] wc fun ev w' => ev = .returned (.bool true) ∧ At2 w f t wA w' :=
  (Is_sort k f wc a.here.lies).mono fun ev w' ⟨h1, h2⟩ => ⟨by rw [h1, h.hs], a.next h2⟩
theorem as_th (hR : R6) {k o : Int} {w wA wc : World} {f : Er} {t : Nat} (h : ThE k o f) (a : At2 w f t wA wc) (hA : At w f wA) (ht : t = wA.heap.size) : Calls Tryz.prog 27 #[.iface f.ty f.cont, .iface 60 (.pointer (some ⟨t, 0, none⟩))] wc fun ev w' => ev = .returned (.bool true) ∧ At w f w' ∧ Blk w' t #[.int .i64 k] 41 :=
  (As_S f t _ wc a.here.lies a.blk (hR.ert.held a.here.held)).mono fun ev w' hp => by
    obtain ⟨h1, h2, h3⟩ := PostS_some h.fs hp
    have hb : Below wA.heap.size wA w' := by rw [← ht]; exact a.below.trans h2
    exact ⟨h1, hA.next hb, h3⟩
theorem line_th (hR : R6) {k o : Int} {w wc : World} {f : Er} (h : ThE k o f) (a : At w f wc) : ∃ S : ByteArray, Calls Tryz.prog 12 #[.iface f.ty f.cont] wc fun ev w' => ev = .returned (.tuple #[.string S, .bool (isF (innerE f))]) ∧ At w f w' := by
  have := line_any hR f wc a.lies (Nat.le_trans h.sz (by omega)) h.sm a.held
  unfold lineV at this
  cases hq : isF (innerE f) with
  | true =>
    rw [hq] at this
    exact ⟨_, this.mono fun ev w' ⟨h1, h2⟩ => ⟨h1, a.next h2⟩⟩
  | false =>
    rw [hq] at this
    exact ⟨_, this.mono fun ev w' ⟨h1, h2⟩ => ⟨h1, a.next h2⟩⟩
theorem neq_flt (k o : Int) (w : World) : (binOp .neq 27 (.iface 65 (.agg #[.int .i64 k, .int .i64 o])) (.iface 65 (.agg #[.int .i64 k, .int .i64 o]))).run Tryz.prog w = .ok (.bool false) w := by
  have h : ∀ d : Nat, (Op.equalIn (d + 3) 27 (.iface 65 (.agg #[.int .i64 k, .int .i64 o])) (.iface 65 (.agg #[.int .i64 k, .int .i64 o]))).run Tryz.prog w = .ok (k == k && o == o) w := fun d => by
    rw [eqIn_iface, run_equalIn_struct w (d + 1) 65 _ _ (by kernel_rfl) (by kernel_rfl), eqIn_fields]
  simp only [binOp]
  simp [Op.equal, Op.maxDepth, h 9997]
theorem neq_note (b : Nat) (w : World) : (binOp .neq 27 (.iface 80 (.pointer (some ⟨b, 0, none⟩))) (.iface 80 (.pointer (some ⟨b, 0, none⟩)))).run Tryz.prog w = .ok (.bool false) w := by
  obtain ⟨i, hi, hcmp⟩ := Option.map_eq_some_iff.1 (show (Tryz.prog.info? 80).map (·.comparable) = some true by kernel_rfl)
  obtain ⟨j, hj, _⟩ := Option.map_eq_some_iff.1 (show (Tryz.prog.info? 82).map (·.size) = some 2 by kernel_rfl)
  simp only [binOp]
  simp [Op.equal, Op.maxDepth, run_equalIn_iface_ptr_same w 9998 ⟨b, 0, none⟩ Tryz.underlying27 Tryz.underlying80 hi hcmp hj]
theorem neq_own : ∀ {f : Er}, isF (innerE f) = true → ∀ w, (binOp .neq 27 (.iface f.ty f.cont) (.iface f.ty f.cont)).run Tryz.prog w = .ok (.bool false) w
  | .flt k o, _, w => neq_flt k o w
  | .note b _ _, _, w => neq_note b w
theorem un_note {f' f : Er} {s : ByteArray} (h : ∃ b, f' = .note b s f) : f'.un = some f := by obtain ⟨b, rfl⟩ := h; rfl
def ThR (k o : Int) (w : World) (j : Nat) (e nt ow : Value) (wx : World) : Prop := ∃ (f : Er) (c : Nat), e = .iface f.ty f.cont ∧ nt = .int .i64 (c : Int) ∧ ow = .bool (isF (innerE f)) ∧ c ≤ j ∧ At w f wx ∧ ThE k o f ∧ f.size ≤ 2 * j + 2 ∧ (isF (innerE f) = true → c = cntE f)
theorem ThR.wrap {k o : Int} {j : Nat} {f f' : Er} {s : ByteArray} (hj : j ≤ 20) (hth : ThE k o f) (hsz : f.size ≤ 2 * j + 2) (hf : WrapR f s f') : ThE k o f' ∧ f'.size ≤ 2 * (j + 1) + 2 ∧ isF (innerE f') = isF (innerE f) := by
  rcases hf with ⟨_, rfl⟩ | ⟨_, b, rfl⟩
  · exact ⟨hth, by omega, rfl⟩
  · exact ⟨hth.note b s (by omega), by show f.size + 1 ≤ _; omega, rfl⟩
set_option maxHeartbeats 8000000 in
theorem faultThrough_run (hR : R6) (k : Int) (k0 : -9223372036854775808 ≤ k) (k1 : k ≤ 9223372036854775807) (o : Int) (o0 : -9223372036854775808 ≤ o) (o1 : o ≤ 9223372036854775807) (v : Value) (bs : List UInt8) (w : World) (hb : BytesA w v bs) (hw : Held w) :
    Calls Tryz.prog 6 #[.int .i64 k, .int .i64 o, v] w fun ev w' => ev = .returned (.bool true) ∧ Below w.heap.size w w' := by
  have HKN := Lib.hid (known6_any hR w hw)
  by_cases hk0 : k = 0
  · subst hk0
    have HNW := Lib.hid (fun w' : World => new_zero o w')
    rcases hb with ⟨rfl, rfl⟩ | ⟨blk, off, cap, rfl, hcell⟩
    · go_enter Tryz.func6, Tryz.ntmps6
      go_wp2_with (go_at_call 7; refine HKN.out.mono ?_; rintro ev w1 ⟨rfl, hb1⟩; have HB1 := Lib.hid hb1; clear hb1)
      go_ret
      exact ⟨rfl, HB1.out⟩
    · clear hcell
      go_enter Tryz.func6, Tryz.ntmps6
      go_wp2_with (go_at_call 7; refine HKN.out.mono ?_; rintro ev w1 ⟨rfl, hb1⟩; have HB1 := Lib.hid hb1; clear hb1)
      go_ret
      exact ⟨rfl, HB1.out⟩
  rcases hb with ⟨rfl, rfl⟩ | ⟨blk, off, cap, rfl, hcell⟩
  · have hk0' : (k == 0) = false := by rw [beq_eq_false_iff_ne]; exact hk0
    have HNW := Lib.hid fun w' => new_any k o hk0 w'
    clear k0 k1 o0 o1 hk0 hw
    go_enter Tryz.func6, Tryz.ntmps6
    go_wp2_with (first
      | (go_at_call 7; refine HKN.out.mono ?_; rintro ev w1 ⟨rfl, hb1⟩; have HB1 := Lib.hid hb1; clear hb1)
      | (go_at_call 24; refine (HNW.out _).mono ?_; rintro ev w2 ⟨rfl, hb2⟩; have HB2 := Lib.hid hb2; clear hb2))
    refine wp_loop_rounds 1 ?_
    rw [rounds_succ]
    go_wp2
    go_ret
    exact ⟨rfl, keepW HB1.out HB2.out⟩
  · skip
    have hk0' : (k == 0) = false := by rw [beq_eq_false_iff_ne]; exact hk0
    · obtain ⟨n, hn⟩ : ∃ n, bs.length = n := ⟨_, rfl⟩
      rw [hn]
      by_cases hn20 : n ≤ 20
      · have hn20' : ¬ (20 : Int) < (n : Int) := by omega
        have HNW := Lib.hid fun w' => new_any k o hk0 w'
        have HIK := Lib.hid (⟨⟨k0, k1⟩, ⟨o0, o1⟩⟩ : In64 k ∧ In64 o); have HW := Lib.hid hw; have HN := Lib.hid hn; have HN20 := Lib.hid hn20; have HCELL := Lib.hid hcell
        clear k0 k1 o0 o1 hk0 hn20 hw hn hcell
        go_enter Tryz.func6, Tryz.ntmps6
        go_wp2_with (first
          | (go_at_call 7; refine HKN.out.mono ?_; rintro ev w1 ⟨rfl, hb1⟩; have HB1 := Lib.hid hb1; clear hb1)
          | (go_at_call 24; refine (HNW.out _).mono ?_; rintro ev w2 ⟨rfl, hb2⟩; have HB2 := Lib.hid hb2; clear hb2))
        go_loopw [8, 9, 10, 36] (fun e nt ow i wr => ∃ (f : Er) (c j : Nat), e = .iface f.ty f.cont ∧ nt = .int .i64 (c : Int) ∧ ow = .bool (isF (innerE f)) ∧ i = .int .i64 (j : Int) ∧ j ≤ n ∧ c ≤ j ∧ At w f wr ∧ ThE k o f ∧ f.size ≤ 2 * j + 2 ∧ (isF (innerE f) = true → c = cntE f)) (fun _ _ _ i _ => n - natOf i)
        case atStart => exact ⟨.flt k o, 0, 0, rfl, rfl, rfl, rfl, Nat.zero_le _, Nat.le_refl _, ⟨keepW HB1.out HB2.out, HIK.out, (HW.out.below HB1.out).below HB2.out⟩, ThE.start k o, Nat.le_refl _, fun _ => rfl⟩
        case round =>
          obtain ⟨f, c, j, rfl, rfl, rfl, rfl, hj, hcj, hat, hth, hsz, hcnt⟩ := hrel
          by_cases hjn : j < n
          · obtain ⟨x, hx⟩ : ∃ x : UInt8, bs[j]! = x := ⟨_, rfl⟩
            have hce : wr.cell? ⟨blk, off + j, none⟩ = some (.int .u8 (x.toNat : Int)) := by
              have h1 := HCELL.out j (by rw [HN.out]; exact hjn)
              rw [hx] at h1
              exact (World.cell?_of_block (hat.below.block _ (World.block_lt_of_cell? _ _ h1))).trans h1
            have hjn' : (j : Int) < (n : Int) := by omega
            have hj0 : ¬ ((j : Int) < 0) := by omega
            have HAT := Lib.hid hat; have HTH := Lib.hid hth; have HSZ := Lib.hid hsz; have HCNT := Lib.hid hcnt; have HCJ := Lib.hid hcj; have HJ := Lib.hid hj; have HJJ := Lib.hid hjn
            clear hat hth hsz hcnt hcj hj hjn
            have hn20b : j < 20 := by have := HN20.out; have := HJJ.out; omega
            have HJ20 := Lib.hid hn20b
            clear hn20b
            have hww := wrap_any f ⟨#[119, 111, 114, 100]⟩ (by show 4 ≤ 1000000; omega) (Nat.le_trans HTH.out.sz (by omega)) wr HAT.out.lies
            have HWW := Lib.hid hww
            clear hww
            go_upto_block 2 with fail
            obtain ⟨m, hm⟩ : ∃ m : Int, (x.toNat : Int) % 3 = m := ⟨_, rfl⟩
            rw [hm]
            have hm3 : m = 0 ∨ m = 1 ∨ m = 2 := by omega
            have HM3 := Lib.hid hm3
            clear hm hm3
            go_cut [8, 9, 10] (fun e nt ow wx => ThR k o w (j + 1) e nt ow wx)
            case first =>
              rcases HM3.out with rfl | rfl | rfl
              · cases hq : isF (innerE f) with
                | false =>
                  have HQ := Lib.hid hq
                  clear hq
                  go_wp2_with (go_at_call 22; refine HWW.out.mono ?_; rintro ev w5 ⟨f', rfl, hl', hb5, hwr⟩; have HL5 := Lib.hid hl'; have HB5 := Lib.hid hb5; have HWR := Lib.hid hwr; clear hl' hb5 hwr)
                  go_meet
                  case rel =>
                    obtain ⟨h1, h2, h3⟩ := ThR.wrap (Nat.le_of_lt HJ20.out) HTH.out HSZ.out HWR.out
                    exact ⟨f', c, rfl, rfl, by rw [h3, HQ.out], Nat.le_succ_of_le HCJ.out, ⟨keepW HAT.out.below HB5.out, HL5.out, HAT.out.held.below HB5.out⟩, h1, h2, fun h => by rw [h3, HQ.out] at h; cases h⟩
                | true =>
                  have HQ := Lib.hid hq
                  have hcc := HCNT.out hq
                  have hcb := HCJ.out
                  have hcb2 := HJ20.out
                  clear hq
                  by_cases h8 : 8 ≤ cntE f
                  · have hlt8 : ¬ ((c : Int) < 8) := by omega
                    have H8 := Lib.hid h8; have HCC := Lib.hid hcc
                    clear h8 hcc hcb hcb2
                    go_wp2_with (go_at_call 22; refine HWW.out.mono ?_; rintro ev w5 ⟨f', rfl, hl', hb5, hwr⟩; have HL5 := Lib.hid hl'; have HB5 := Lib.hid hb5; have HWR := Lib.hid hwr; clear hl' hb5 hwr)
                    go_meet
                    case rel =>
                      obtain ⟨h1, h2, h3⟩ := ThR.wrap (Nat.le_of_lt HJ20.out) HTH.out HSZ.out HWR.out
                      refine ⟨f', c, rfl, rfl, by rw [h3, HQ.out], Nat.le_succ_of_le HCJ.out, ⟨keepW HAT.out.below HB5.out, HL5.out, HAT.out.held.below HB5.out⟩, h1, h2, fun _ => ?_⟩
                      rcases HWR.out with ⟨_, rfl⟩ | ⟨h, _⟩
                      · exact HCC.out
                      · exact absurd h (by have := H8.out; omega)
                  · have hlt8 : ((c : Int) < 8) := by omega
                    have hc20 : (c : Int) ≤ 20 := by omega
                    have H8 := Lib.hid h8; have HCC := Lib.hid hcc
                    have hno := neq_own HQ.out
                    clear h8 hcc hcb hcb2
                    go_wp2_with (first
                      | (go_at_call 22; refine HWW.out.mono ?_; rintro ev w5 ⟨f', rfl, hl', hb5, hwr⟩; have hwr2 : ∃ b, f' = .note b (wordB ⟨#[119, 111, 114, 100]⟩) f := (by rcases hwr with ⟨h, _⟩ | ⟨_, h⟩; exact absurd h H8.out; exact h); have HL5 := Lib.hid hl'; have HB5 := Lib.hid hb5; have HWR := Lib.hid hwr; have HW2 := Lib.hid hwr2; have hun := un_note hwr2; have HUN := Lib.hid hun; clear hl' hb5 hwr hwr2 hun)
                      | (go_at_call 25; rw [← Er.val_eq]; refine (unwrap_any _ _ HL5.out).mono ?_; rw [HUN.out, oval_some]; rintro ev w6 ⟨rfl, hb6⟩; have HB6 := Lib.hid hb6; clear hb6))
                    go_meet
                    case rel =>
                      obtain ⟨h1, h2, h3⟩ := ThR.wrap (Nat.le_of_lt HJ20.out) HTH.out HSZ.out HWR.out
                      refine ⟨f', c + 1, Er.val_eq f', by go_num, by rw [h3, HQ.out], Nat.succ_le_succ HCJ.out, ⟨keepW (keepW HAT.out.below HB5.out) HB6.out, Er.lies.keep HB6.out HL5.out, (HAT.out.held.below HB5.out).below HB6.out⟩, h1, h2, fun _ => ?_⟩
                      obtain ⟨b, rfl⟩ := HW2.out
                      exact congrArg (· + 1) HCC.out
              · go_wp2
                go_meet
                case rel =>
                  refine ⟨.arnd f, c, ?_, rfl, rfl, Nat.le_succ_of_le HCJ.out, ⟨HAT.out.below, HAT.out.lies, HAT.out.held⟩, HTH.out.arnd (by have := HSZ.out; have := HJ20.out; omega), by have := HSZ.out; show f.size + 1 ≤ _; omega, fun h => by cases h⟩
                  show _ = Value.iface 57 (.agg #[f.val])
                  rw [Er.val_eq]
              · have hjj : ∀ (g a : Nat) (w' : World), Below wr.heap.size wr w' → Blk w' g #[.iface (Er.oth a).ty (Er.oth a).cont, .iface f.ty f.cont] 27 → (Er.oth a).lies w' → Calls Tryz.prog 26 #[.slice (some ⟨g, 0, none⟩) 2 2] w' fun ev w2 => ∃ b r, ev = .returned (.iface (Er.join b r a f).ty (Er.join b r a f).cont) ∧ (Er.join b r a f).lies w2 ∧ Below w'.heap.size w' w2 := fun g a w' h1 h2 h3 => join_any g a f w' h2 h3 (HAT.out.lies.keep h1)
                have HJN := Lib.hid hjj
                clear hjj
                go_wp2_with (first
                  | (go_at_call 21; refine (enew_any _ _).mono ?_; rintro ev w5 ⟨a, rfl, hba, hb5⟩; have HBA := Lib.hid hba; have HB5 := Lib.hid hb5; clear hba hb5)
                  | (go_at_call 26; refine (HJN.out _ _ _ (HB5.out.alloc HB5.out.size _) (Blk.new rfl) ⟨_, Blk.old HBA.out _⟩).mono ?_; rintro ev w6 ⟨b, r, rfl, hl6, hb6⟩; have HL6 := Lib.hid hl6; have HB6 := Lib.hid (keepW (HB5.out.alloc HB5.out.size _) hb6); clear hl6 hb6))
                go_meet
                case rel =>
                  exact ⟨.join b r a f, c, rfl, rfl, rfl, Nat.le_succ_of_le HCJ.out, ⟨keepW HAT.out.below HB6.out, HL6.out, HAT.out.held.below HB6.out⟩, HTH.out.join b r a (by have := HSZ.out; have := HJ20.out; omega), by have := HSZ.out; show f.size + 2 ≤ _; omega, fun h => by cases h⟩
            case rest =>
              obtain ⟨f2, c2, rfl, rfl, rfl, hc2, hat2, hth2, hsz2, hcnt2⟩ := hcut
              have A0 := Lib.hid hat2; have HT2 := Lib.hid hth2; have HS2 := Lib.hid hsz2; have HC2 := Lib.hid hcnt2; have HCC2 := Lib.hid hc2
              clear hc2 hat2 hth2 hsz2 hcnt2 HAT HTH HSZ HCNT HWW
              go_wp2_with (first
                | (go_at_call 10; refine (kind_th hR HT2.out A0.out).mono ?_; rintro ev w11 ⟨rfl, ha⟩; have A1 := Lib.hid ha; clear ha)
                | (go_at_call 11; refine (off_th hR HT2.out A1.out).mono ?_; rintro ev w12 ⟨rfl, ha⟩; have A2 := Lib.hid ha; have A3 := Lib.hid (At2.start ha); clear ha)
                | (go_at_call 16; refine (is_th HT2.out A3.out).mono ?_; rintro ev w13 ⟨rfl, ha⟩; have A4 := Lib.hid ha; clear ha)
                | (go_at_call_of 23 (Er.cont (Er.flt k o)); refine (isF_th HT2.out A4.out).mono ?_; rintro ev w14 ⟨rfl, ha⟩; have A5 := Lib.hid ha; clear ha)
                | (go_at_call_of 23 (Value.int IntKind.i64 k); refine (isS_th HT2.out A5.out).mono ?_; rintro ev w15 ⟨rfl, ha⟩; have A6 := Lib.hid ha; clear ha)
                | (go_at_call 27; refine (as_th hR HT2.out A6.out A2.out rfl).mono ?_; rintro ev w16 ⟨rfl, ha, hbk⟩; have A7 := Lib.hid ha; have cst := hbk.one; clear ha hbk)
                | (go_at_call 12; obtain ⟨S, hS⟩ := line_th hR HT2.out A7.out; refine hS.mono ?_; rintro ev w17 ⟨rfl, ha⟩; have A8 := Lib.hid ha; clear ha hS))
              exact ⟨⟨f2, c2, j + 1, rfl, rfl, rfl, rfl, HJJ.out, HCC2.out, A8.out, HT2.out, HS2.out, HC2.out⟩, by have := HJJ.out; simp only [natOf]; omega⟩
          · have hjn' : ¬ ((j : Int) < (n : Int)) := by omega
            have HAT := Lib.hid hat
            clear hat hth hsz hcnt hcj hj hjn
            go_wp2
            go_ret
            exact ⟨rfl, HAT.out.below⟩
      · have hn20' : (20 : Int) < (n : Int) := by omega
        clear k0 k1 o0 o1 hk0 hn20 hw hn hcell
        go_enter Tryz.func6, Tryz.ntmps6
        go_wp2_with (go_at_call 7; refine HKN.out.mono ?_; rintro ev w1 ⟨rfl, hb1⟩; have HB1 := Lib.hid hb1; clear hb1)
        go_ret
        exact ⟨rfl, HB1.out⟩
theorem held_cell {w : World} (hw : Held w) {a : Addr} {v : Value} (h : rootW.cell? a = some v) : w.cell? a = some v :=
  (World.cell?_of_block (hw _ (World.block_lt_of_cell? _ _ h))).trans h
theorem BytesA.held {v : Value} {bs : List UInt8} (h : BytesA rootW v bs) {w : World} (hw : Held w) : BytesA w v bs := by
  rcases h with h | ⟨blk, off, cap, h1, h2⟩
  · exact .inl h
  · exact .inr ⟨blk, off, cap, h1, fun j hj => held_cell hw (h2 j hj)⟩
theorem StrsA.held {v : Value} {ss : List ByteArray} (h : StrsA rootW v ss) {w : World} (hw : Held w) : StrsA w v ss := by
  rcases h with h | ⟨blk, off, cap, h1, h3, h2⟩
  · exact .inl h
  · exact .inr ⟨blk, off, cap, h1, h3, fun j hj => held_cell hw (h2 j hj)⟩
theorem faultThrough_walk (hR : R6) (k : Int) (k0 : -9223372036854775808 ≤ k) (k1 : k ≤ 9223372036854775807) (o : Int) (o0 : -9223372036854775808 ≤ o) (o1 : o ≤ 9223372036854775807) (v : Value) (bs : List UInt8) (hb : BytesA rootW v bs) (w : World) (hw : Held w) :
    Calls Tryz.prog 6 #[.int .i64 k, .int .i64 o, v] w fun ev w' => ev = .returned (.bool true) ∧ Below w.heap.size w w' :=
  faultThrough_run hR k k0 k1 o o0 o1 v bs w (hb.held hw) hw
end Go.Proofs.YtidkpdabidlnnaaGreatDoor


/-
  Words of whatever length; what is not gone through.
-/

namespace Go.Proofs.YtidkpdabidlnnaaGreatDoor

open Go.Den Go.RowKit

set_option maxRecDepth 100000

set_option linter.unusedSectionVars false

variable [Inhabited Root]

theorem may2_any (s : ByteArray) (w : World) :
    Calls Tryz.prog 37 #[.string s] w fun e w' => e = .returned (.bool (wordOk s.data.toList)) ∧ Below w.heap.size w w' := by
  by_cases hs : s.size ≤ 1000000
  · exact may_any s hs w
  · have hl : s.data.toList.length = s.size := size_data s
    have htl : s.toList = s.data.toList := Lib.toList_data s
    have he : s.toList.isEmpty = false := by
      rw [htl]
      cases h : s.data.toList with
      | nil => rw [h] at hl; simp at hl; omega
      | cons c r => rfl
    have h32' : ¬ (s.size : Int) ≤ 32 := by omega
    have hr : wordOk s.data.toList = false := by unfold wordOk; rw [hl, decide_eq_false (by omega : ¬ s.size ≤ 32), Bool.and_false, Bool.false_and]
    have HR := Lib.hid hr
    clear hl htl hr hs
    go_enter Tryz.func37, Tryz.ntmps37
    go_wp2
    go_ret
    exact ⟨by rw [HR.out]; rfl, Below.refl _ _⟩
set_option maxHeartbeats 1000000 in
theorem wrap2_any (e : Er) (s : ByteArray) (he : e.size ≤ 1000000) (w : World) (hl : e.lies w) :
    Calls Tryz.prog 22 #[.iface e.ty e.cont, .string s] w fun ev w' => ∃ f : Er, ev = .returned (.iface f.ty f.cont) ∧ f.lies w' ∧ Below w.heap.size w w' ∧ WrapR e s f := by
  by_cases hs : s.size ≤ 1000000
  · exact wrap_any e s hs he w hl
  have HC := Lib.hid (count_any e w hl he)
  have hw : wordOk s.data.toList = false := by
    unfold wordOk
    rw [size_data s, decide_eq_false (by omega : ¬ s.size ≤ 32), Bool.and_false, Bool.false_and]
  have HM := Lib.hid fun w' : World => may2_any s w'
  have HL := Lib.hid hl
  have hn := eq_nil e
  have hws : wordB s = ⟨#[63]⟩ := by unfold wordB wordF; rw [hw]; rfl
  have HWS := Lib.hid hws
  rw [hw] at HM
  clear hl he hs hw hws
  by_cases h8 : 8 ≤ cntE e
  · have h8' : (8 : Int) ≤ (cntE e : Int) := by omega
    have H8 := Lib.hid h8
    clear h8
    go_enter Tryz.func22, Tryz.ntmps22
    go_wp2_with (first
      | (go_at_call 36; refine HC.out.mono ?_; rintro ev w2 ⟨rfl, hb2⟩; have HB2 := Lib.hid hb2; clear hb2)
      | (go_at_call 37; refine (HM.out _).mono ?_; rintro ev w3 ⟨rfl, hb3⟩; have HB3 := Lib.hid hb3; clear hb3))
    go_ret
    exact ⟨e, rfl, Er.lies.keep HB2.out HL.out, HB2.out, .inl ⟨H8.out, rfl⟩⟩
  · have h8' : ¬ (8 : Int) ≤ (cntE e : Int) := by omega
    have H8 := Lib.hid (Nat.lt_of_not_le h8)
    clear h8
    go_enter Tryz.func22, Tryz.ntmps22
    go_wp2_with (first
      | (go_at_call 36; refine HC.out.mono ?_; rintro ev w2 ⟨rfl, hb2⟩; have HB2 := Lib.hid hb2; clear hb2)
      | (go_at_call 37; refine (HM.out _).mono ?_; rintro ev w3 ⟨rfl, hb3⟩; have HB3 := Lib.hid hb3; clear hb3))
    go_ret
    have hb := keepW HB2.out HB3.out
    refine ⟨.note w3.heap.size (wordB s) e, rfl, ⟨?_, Er.lies.keep (hb.alloc hb.size _) HL.out⟩, hb.alloc hb.size _, .inr ⟨H8.out, _, rfl⟩⟩
    rw [HWS.out, Er.val_eq]; exact Blk.new rfl
noncomputable def sumW (l : List ByteArray) : Int := l.foldl (fun z s => wrap64 (z + (s.size : Int))) 0
noncomputable def heavyB (l : List ByteArray) : Bool := decide (20 < l.length) || decide (1000 < sumW l)
theorem heavy_few {l : List ByteArray} (h : heavyB l = false) : l.length ≤ 20 := by
  unfold heavyB at h
  simp only [Bool.or_eq_false_iff, decide_eq_false_iff_not] at h
  omega
theorem sumW_next {ss : List ByteArray} {j : Nat} (h : j < ss.length) : sumW (ss.take (j + 1)) = wrap64 (sumW (ss.take j) + ((nthS ss j).size : Int)) := by
  unfold sumW
  rw [List.take_succ_eq_append_getElem h, List.foldl_append, List.foldl_cons, List.foldl_nil, nthS, List.getD_eq_getElem?_getD, List.getElem?_eq_getElem h]
  rfl
set_option maxHeartbeats 1000000 in
/-- What is not gone through: more than twenty words, at least. -/
theorem heavy_any (v : Value) (ss : List ByteArray) (w : World) (hb : StrsA w v ss) :
    Calls Tryz.prog 8 #[v] w fun ev w' => ev = .returned (.bool (heavyB ss)) ∧ w' = w := by
  rcases hb with ⟨rfl, rfl⟩ | ⟨blk, off, cap, rfl, hm, hcell⟩
  · go_enter Tryz.func8, Tryz.ntmps8
    go_wp2
    refine wp_loop_rounds 1 ?_
    rw [rounds_succ]
    go_wp2
    go_ret
    exact ⟨rfl, rfl⟩
  · obtain ⟨n, hn⟩ : ∃ n, ss.length = n := ⟨_, rfl⟩
    rw [hn] at hm hcell ⊢
    have HC := Lib.hid hcell; have HN := Lib.hid hn
    have hmn : (n : Int) ≤ 9223372036854775807 := by unfold maxLen at hm; omega
    clear hcell hm hn
    go_enter Tryz.func8, Tryz.ntmps8
    go_wp2
    go_loopw [3, 8] (fun z i wr => ∃ (c : Int) (j : Nat), z = .int .i64 c ∧ i = .int .i64 (j : Int) ∧ j ≤ n ∧ c = sumW (ss.take j) ∧ wr = w) (fun _ i _ => n - natOf i)
    case atStart => exact ⟨0, 0, rfl, rfl, Nat.zero_le _, rfl, rfl⟩
    case round =>
      obtain ⟨c, j, rfl, rfl, hj, hc, rfl⟩ := hrel
      by_cases hjn : j < n
      · have hce := HC.out j hjn
        have hjn' : (j : Int) < (n : Int) := by omega
        have hj0 : ¬ ((j : Int) < 0) := by omega
        have hnx := sumW_next (ss := ss) (j := j) (by rw [HN.out]; exact hjn)
        rw [← hc] at hnx
        have HJ := Lib.hid hjn; have HNX := Lib.hid hnx
        clear hj hjn hnx hc
        go_wp2
        go_roundw
        case rel => exact ⟨_, j + 1, rfl, by go_num, HJ.out, HNX.out.symm, trivial⟩
        case measure => have := HJ.out; simp [natOf]; omega
      · have hjn' : ¬ ((j : Int) < (n : Int)) := by omega
        have hje : j = ss.length := by have := HN.out; omega
        rw [hje, List.take_length] at hc
        have hh : heavyB ss = (decide ((20 : Int) < (n : Int)) || decide (1000 < c)) := by
          unfold heavyB
          rw [← hc, HN.out]
          congr 1
          rw [decide_eq_decide]; omega
        have HH := Lib.hid hh
        clear hj hjn hje hc hh
        by_cases h20 : (20 : Int) < (n : Int)
        · go_wp2
          go_ret
          exact ⟨by rw [HH.out, decide_eq_true h20]; rfl, rfl⟩
        · by_cases hc : (1000 : Int) < c
          · go_wp2
            go_ret
            exact ⟨by rw [HH.out, decide_eq_true hc, Bool.or_true]; rfl, rfl⟩
          · go_wp2
            go_ret
            exact ⟨by rw [HH.out, decide_eq_false (by omega), decide_eq_false (by omega)]; rfl, rfl⟩
end Go.Proofs.YtidkpdabidlnnaaGreatDoor


/-
  Errors of others: the law's walk.
-/

namespace Go.Proofs.YtidkpdabidlnnaaGreatDoor

open Go.Den Go.RowKit

set_option maxRecDepth 100000

set_option linter.unusedSectionVars false

variable [Inhabited Root]

/-- Another's error, with notes around it. -/
structure OtE (a j : Nat) (f : Er) : Prop where
  fs : fstS f = none
  ff : fstF f = none
  inn : isF (innerE f) = false
  ho : has (qO a) f = true
  hs : ∀ k, has (qS k) f = false
  len : (wordsE f).length = min j 8
  cnt : cntE f = (wordsE f).length
  sz : f.size ≤ j + 1
  sm : smallW f
theorem OtE.start (a : Nat) : OtE a 0 (.oth a) := ⟨rfl, rfl, rfl, by show (a == a) = true; simp, fun _ => rfl, rfl, rfl, Nat.le_refl _, fun x (hx : x ∈ ([] : List ByteArray)) => (by cases hx)⟩
theorem OtE.next {a j : Nat} {f f' : Er} {s : ByteArray} (h : OtE a j f) (hw : WrapR f s f') : OtE a (j + 1) f' := by
  have h1 := h.len
  have h2 := h.cnt
  rcases hw with ⟨h8, rfl⟩ | ⟨h8, b, rfl⟩
  · exact ⟨h.fs, h.ff, h.inn, h.ho, h.hs, by omega, h.cnt, by have := h.sz; omega, h.sm⟩
  · refine ⟨h.fs, h.ff, h.inn, by show (false || has (qO a) f) = true; rw [h.ho]; rfl, fun k => by show (false || has (qS k) f) = false; rw [h.hs]; rfl, ?_, ?_, ?_, ?_⟩
    · show (wordsE f).length + 1 = _; omega
    · show cntE f + 1 = (wordsE f).length + 1; omega
    · have := h.sz; show f.size + 1 ≤ _; omega
    · intro x hx
      rcases List.mem_cons.1 hx with rfl | hx
      · exact wordB_size _
      · exact h.sm x hx
theorem row_form {base : Nat} {w : World} {v : Value} {l : List ByteArray} (h : Row base w v l) : ∃ A c, v = .slice A l.length c := by
  rcases h.2 with ⟨h1, h2⟩ | ⟨g, cap, cur, h1, _⟩
  · exact ⟨none, 0, by rw [h1, h2]⟩
  · exact ⟨_, _, h1⟩
theorem kind_ot (hR : R6) {a j : Nat} {w wc : World} {f : Er} (h : OtE a j f) (hj : j ≤ 20) (x : At w f wc) : Calls Tryz.prog 10 #[.iface f.ty f.cont] wc fun ev w' => ev = .returned (.tuple #[.int .i64 0, .bool false]) ∧ At w f w' :=
  (kind_any f wc x.lies (by have := h.sz; omega) (hR.ert.held x.held)).mono fun ev w' ⟨h1, h2⟩ => ⟨by rw [h1, h.fs]; rfl, x.next h2⟩
theorem off_ot (hR : R6) {a j : Nat} {w wc : World} {f : Er} (h : OtE a j f) (hj : j ≤ 20) (x : At w f wc) : Calls Tryz.prog 11 #[.iface f.ty f.cont] wc fun ev w' => ev = .returned (.tuple #[.int .i64 0, .bool false]) ∧ At w f w' :=
  (off_any f wc x.lies (by have := h.sz; omega) (hR.ert.held x.held)).mono fun ev w' ⟨h1, h2⟩ => ⟨by rw [h1, h.ff]; rfl, x.next h2⟩
theorem line_ot (hR : R6) {a j : Nat} {w wc : World} {f : Er} (h : OtE a j f) (hj : j ≤ 20) (x : At w f wc) : Calls Tryz.prog 12 #[.iface f.ty f.cont] wc fun ev w' => ev = .returned (.tuple #[.string ⟨#[]⟩, .bool false]) ∧ At w f w' :=
  (line_any hR f wc x.lies (by have := h.sz; omega) h.sm x.held).mono fun ev w' ⟨h1, h2⟩ => ⟨by rw [h1]; unfold lineV; rw [h.inn]; rfl, x.next h2⟩
theorem is_ot {a j : Nat} {w wc : World} {f : Er} (h : OtE a j f) (hj : j ≤ 20) (x : At w f wc) (k : Int) : Calls Tryz.prog 16 #[.iface f.ty f.cont, .int .i64 k] wc fun ev w' => ev = .returned (.bool false) ∧ At w f w' :=
  (fis_any f k wc x.lies (by have := h.sz; omega)).mono fun ev w' ⟨h1, h2⟩ => ⟨by rw [h1, h.hs], x.next h2⟩
theorem isO_ot {a j : Nat} {w wc : World} {f : Er} {s : ByteArray} (h : OtE a j f) (x : At w f wc) (hb : Blk wc a #[.string s] 77) : Calls Tryz.prog 23 #[.iface f.ty f.cont, .iface (Er.oth a).ty (Er.oth a).cont] wc fun ev w' => ev = .returned (.bool true) ∧ At w f w' :=
  (Is_oth a s f wc x.lies hb).mono fun ev w' ⟨h1, h2⟩ => ⟨by rw [h1, h.ho], x.next h2⟩
theorem notes_ot {a j : Nat} {w wc : World} {f : Er} (h : OtE a j f) (hj : j ≤ 20) (x : At w f wc) : Calls Tryz.prog 15 #[.iface f.ty f.cont] wc fun ev w' => ∃ A c, ev = .returned (.slice A (min j 8) c) ∧ At w f w' :=
  (notes_any f wc x.lies (by have := h.sz; omega)).mono fun ev w' ⟨v, h1, h2, h3⟩ => by
    obtain ⟨A, c, hv⟩ := row_form h2
    exact ⟨A, c, by rw [h1, hv, h.len], x.next h3⟩
theorem min_cases (j : Nat) : (min j 8 = j ∧ j ≤ 8) ∨ (min j 8 = 8 ∧ ¬ j ≤ 8) := by omega
set_option maxHeartbeats 8000000 in
theorem faultOthers_run (hR : R6) (s : ByteArray) (hsz : s.size ≤ maxLen) (v : Value) (ss : List ByteArray) (k : Int) (w : World) (hb : StrsA w v ss) (hw : Held w) :
    Calls Tryz.prog 5 #[.string s, v, .int .i64 k] w fun ev w' => ev = .returned (.bool true) ∧ Below w.heap.size w w' := by
  have HKN := Lib.hid (known6_any hR w hw)
  have hs63 : (s.size : Int) ≤ 9223372036854775807 := by unfold maxLen at hsz; omega
  have hhv : ∀ w', Below w.heap.size w w' → Calls Tryz.prog 8 #[v] w' fun ev w2 => ev = .returned (.bool (heavyB ss)) ∧ w2 = w' := fun w' hbb => by
    refine heavy_any v ss w' ?_
    rcases hb with h | ⟨blk, off, cap, h1, h3, h2⟩
    · exact .inl h
    · exact .inr ⟨blk, off, cap, h1, h3, fun j hj => (World.cell?_of_block (hbb.block _ (World.block_lt_of_cell? _ _ (h2 j hj)))).trans (h2 j hj)⟩
  by_cases hbig : heavyB ss = true ∨ 1000 < s.size
  · have HHV := Lib.hid hhv
    obtain ⟨A, n, c, hv⟩ : ∃ A n c, v = .slice A n c := by
      rcases hb with ⟨h, _⟩ | ⟨blk, off, cap, h1, _⟩
      · exact ⟨_, _, _, h⟩
      · exact ⟨_, _, _, h1⟩
    subst hv
    rcases Bool.eq_false_or_eq_true (heavyB ss) with hh | hh
    · rw [hh] at HHV
      clear hw hhv hb hsz hh hbig
      go_enter Tryz.func5, Tryz.ntmps5
      go_wp2_with (first
        | (go_at_call 7; refine HKN.out.mono ?_; rintro ev w1 ⟨rfl, hb1⟩; have HB1 := Lib.hid hb1; clear hb1)
        | (go_at_call 8; refine (HHV.out _ HB1.out).mono ?_; rintro ev w2 ⟨rfl, rfl⟩))
      go_ret
      exact ⟨rfl, HB1.out⟩
    · have hl : (1000 : Int) < (s.size : Int) := by
        rcases hbig with h | h
        · rw [hh] at h; cases h
        · omega
      rw [hh] at HHV
      clear hw hhv hb hsz hh hbig
      go_enter Tryz.func5, Tryz.ntmps5
      go_wp2_with (first
        | (go_at_call 7; refine HKN.out.mono ?_; rintro ev w1 ⟨rfl, hb1⟩; have HB1 := Lib.hid hb1; clear hb1)
        | (go_at_call 8; refine (HHV.out _ HB1.out).mono ?_; rintro ev w2 ⟨rfl, rfl⟩))
      go_ret
      exact ⟨rfl, HB1.out⟩
  · have hh : heavyB ss = false := by
      cases h : heavyB ss with
      | true => exact absurd (.inl h) hbig
      | false => rfl
    have hfew := heavy_few hh
    have hl : ¬ (1000 : Int) < (s.size : Int) := by omega
    rw [hh] at hhv
    have HHV := Lib.hid hhv
    obtain ⟨n, hn⟩ : ∃ n, ss.length = n := ⟨_, rfl⟩
    have hn20 : n ≤ 20 := by omega
    have HW := Lib.hid hw; have HN20 := Lib.hid hn20; have HN := Lib.hid hn
    rcases hb with ⟨rfl, rfl⟩ | ⟨blk, off, cap, rfl, hm, hcell⟩
    · have hn0 : n = 0 := by rw [← hn]; rfl
      subst hn0
      clear hw hhv hsz hh hbig hfew hn hn20
      go_enter Tryz.func5, Tryz.ntmps5
      go_wp2_with (first
        | (go_at_call 7; refine HKN.out.mono ?_; rintro ev w1 ⟨rfl, hb1⟩; have HB1 := Lib.hid hb1; clear hb1)
        | (go_at_call 8; refine (HHV.out _ HB1.out).mono ?_; rintro ev w2 ⟨rfl, rfl⟩)
        | (go_at_call 21; refine (enew_any _ _).mono ?_; rintro ev w3 ⟨a, rfl, hba, hb3⟩; have HBL := Lib.hid hba; have HB3 := Lib.hid (keepW HB1.out hb3); clear hba hb3))
      refine wp_loop_rounds 1 ?_
      rw [rounds_succ]
      have HO := Lib.hid (OtE.start a)
      have A0 := Lib.hid (⟨Below.refl _ _, ⟨_, HBL.out⟩, HW.out.below HB3.out⟩ : At w3 (.oth a) w3)
      have HNT := Lib.hid fun (wc : World) (x : At w3 (.oth a) wc) => notes_ot (OtE.start a) (Nat.zero_le 20) x
      go_wp2_with (first
        | (go_at_call 10; refine (kind_ot hR HO.out (Nat.zero_le 20) A0.out).mono ?_; rintro ev w11 ⟨rfl, ha⟩; have A1 := Lib.hid ha; clear ha)
        | (go_at_call 11; refine (off_ot hR HO.out (Nat.zero_le 20) A1.out).mono ?_; rintro ev w12 ⟨rfl, ha⟩; have A2 := Lib.hid ha; clear ha)
        | (go_at_call 12; refine (line_ot hR HO.out (Nat.zero_le 20) A2.out).mono ?_; rintro ev w13 ⟨rfl, ha⟩; have A3 := Lib.hid ha; clear ha)
        | (go_at_call 23; refine (isO_ot HO.out A3.out (Blk.keep A3.out.below HBL.out)).mono ?_; rintro ev w14 ⟨rfl, ha⟩; have A4 := Lib.hid ha; clear ha)
        | (go_at_call 16; refine (is_ot HO.out (Nat.zero_le 20) A4.out _).mono ?_; rintro ev w15 ⟨rfl, ha⟩; have A5 := Lib.hid ha; clear ha)
        | (go_at_call 15; refine (HNT.out _ A5.out).mono ?_; rintro ev w16 ⟨A6, c6, rfl, ha⟩; have A7 := Lib.hid ha; clear ha))
      go_ret
      exact ⟨rfl, keepW HB3.out A7.out.below⟩
    · rw [hn] at hm hcell HHV ⊢
      have HC := Lib.hid hcell
      have hni : (n : Int) ≤ 20 := by omega
      clear hw hhv hsz hh hbig hfew hn hn20 hm hcell
      go_enter Tryz.func5, Tryz.ntmps5
      go_wp2_with (first
        | (go_at_call 7; refine HKN.out.mono ?_; rintro ev w1 ⟨rfl, hb1⟩; have HB1 := Lib.hid hb1; clear hb1)
        | (go_at_call 8; refine (HHV.out _ HB1.out).mono ?_; rintro ev w2 ⟨rfl, rfl⟩)
        | (go_at_call 21; refine (enew_any _ _).mono ?_; rintro ev w3 ⟨a, rfl, hba, hb3⟩; have HBA := Lib.hid hba; have HB3 := Lib.hid (keepW HB1.out hb3); clear hba hb3))
      go_loopw [8, 31] (fun e i wr => ∃ (f : Er) (j : Nat), e = .iface f.ty f.cont ∧ i = .int .i64 (j : Int) ∧ j ≤ n ∧ OtE a j f ∧ At w f wr ∧ Blk wr a #[.string s] 77) (fun _ i _ => n - natOf i)
      case atStart => exact ⟨.oth a, 0, rfl, rfl, Nat.zero_le _, OtE.start a, ⟨HB3.out, ⟨_, HBA.out⟩, HW.out.below HB3.out⟩, HBA.out⟩
      case round =>
        obtain ⟨f, j, rfl, rfl, hj, ho, hat, hbl⟩ := hrel
        by_cases hjn : j < n
        · have hce : wr.cell? ⟨blk, off + j, none⟩ = some (.string (nthS ss j)) := (World.cell?_of_block (hat.below.block _ (World.block_lt_of_cell? _ _ (HC.out j hjn)))).trans (HC.out j hjn)
          have hjn' : (j : Int) < (n : Int) := by omega
          have hj0 : ¬ ((j : Int) < 0) := by omega
          have hwr := wrap2_any f (nthS ss j) (by have := ho.sz; omega) wr hat.lies
          have HWR := Lib.hid hwr; have HO := Lib.hid ho; have HAT := Lib.hid hat; have HJJ := Lib.hid hjn; have HBL := Lib.hid hbl
          clear hj ho hat hjn hwr hbl
          go_wp2_with (go_at_call 22; refine HWR.out.mono ?_; rintro ev w5 ⟨g, rfl, hgl, hb5, hwg⟩; have HB5 := Lib.hid hb5; have HGL := Lib.hid hgl; have HWG := Lib.hid hwg; clear hb5 hgl hwg)
          go_roundw
          case rel => exact ⟨g, j + 1, rfl, by go_num, HJJ.out, HO.out.next HWG.out, ⟨keepW HAT.out.below HB5.out, HGL.out, HAT.out.held.below HB5.out⟩, Blk.keep HB5.out HBL.out⟩
          case measure => have := HJJ.out; simp [natOf]; omega
        · have hjn' : ¬ ((j : Int) < (n : Int)) := by omega
          have hje : j = n := by omega
          subst hje
          have HO := Lib.hid ho; have HBL := Lib.hid hbl; have HAT := Lib.hid hat
          have A0 := Lib.hid (⟨Below.refl _ _, hat.lies, hat.held⟩ : At wr f wr)
          have hj8 := min_cases j
          have HNT := Lib.hid fun (wc : World) (x : At wr f wc) => notes_ot ho HN20.out x
          rcases hj8 with ⟨hm8, h8⟩ | ⟨hm8, h8⟩
          · have h8' : (j : Int) ≤ 8 := by omega
            rw [hm8] at HNT
            have hmm : ((j : Int) == min (j : Int) 8) = true := by rw [beq_iff_eq]; omega
            clear ho hat hbl hj hjn hm8 h8
            go_wp2_with (first
              | (go_at_call 10; refine (kind_ot hR HO.out HN20.out A0.out).mono ?_; rintro ev w11 ⟨rfl, ha⟩; have A1 := Lib.hid ha; clear ha)
              | (go_at_call 11; refine (off_ot hR HO.out HN20.out A1.out).mono ?_; rintro ev w12 ⟨rfl, ha⟩; have A2 := Lib.hid ha; clear ha)
              | (go_at_call 12; refine (line_ot hR HO.out HN20.out A2.out).mono ?_; rintro ev w13 ⟨rfl, ha⟩; have A3 := Lib.hid ha; clear ha)
              | (go_at_call 23; refine (isO_ot HO.out A3.out (Blk.keep A3.out.below HBL.out)).mono ?_; rintro ev w14 ⟨rfl, ha⟩; have A4 := Lib.hid ha; clear ha)
              | (go_at_call 16; refine (is_ot HO.out HN20.out A4.out _).mono ?_; rintro ev w15 ⟨rfl, ha⟩; have A5 := Lib.hid ha; clear ha)
              | (go_at_call 15; refine (HNT.out _ A5.out).mono ?_; rintro ev w16 ⟨A6, c6, rfl, ha⟩; have A7 := Lib.hid ha; clear ha))
            go_ret
            exact ⟨by first | (rw [hmm]; rfl) | rfl, keepW HAT.out.below A7.out.below⟩
          · rw [hm8] at HNT
            have h8' : ¬ (j : Int) ≤ 8 := by omega
            have hmm : ((8 : Int) == min (j : Int) 8) = true := by rw [beq_iff_eq]; omega
            clear ho hat hbl hj hjn hm8 h8
            go_wp2_with (first
              | (go_at_call 10; refine (kind_ot hR HO.out HN20.out A0.out).mono ?_; rintro ev w11 ⟨rfl, ha⟩; have A1 := Lib.hid ha; clear ha)
              | (go_at_call 11; refine (off_ot hR HO.out HN20.out A1.out).mono ?_; rintro ev w12 ⟨rfl, ha⟩; have A2 := Lib.hid ha; clear ha)
              | (go_at_call 12; refine (line_ot hR HO.out HN20.out A2.out).mono ?_; rintro ev w13 ⟨rfl, ha⟩; have A3 := Lib.hid ha; clear ha)
              | (go_at_call 23; refine (isO_ot HO.out A3.out (Blk.keep A3.out.below HBL.out)).mono ?_; rintro ev w14 ⟨rfl, ha⟩; have A4 := Lib.hid ha; clear ha)
              | (go_at_call 16; refine (is_ot HO.out HN20.out A4.out _).mono ?_; rintro ev w15 ⟨rfl, ha⟩; have A5 := Lib.hid ha; clear ha)
              | (go_at_call 15; refine (HNT.out _ A5.out).mono ?_; rintro ev w16 ⟨A6, c6, rfl, ha⟩; have A7 := Lib.hid ha; clear ha))
            go_ret
            exact ⟨by first | (rw [hmm]; rfl) | rfl, keepW HAT.out.below A7.out.below⟩
theorem faultOthers_walk (hR : R6) (s : ByteArray) (hsz : s.size ≤ maxLen) (v : Value) (ss : List ByteArray) (hb : StrsA rootW v ss ∧ ∀ x ∈ ss, x.size ≤ maxLen) (k : Int) (_k0 : -9223372036854775808 ≤ k) (_k1 : k ≤ 9223372036854775807) (w : World) (hw : Held w) :
    Calls Tryz.prog 5 #[.string s, v, .int .i64 k] w fun ev w' => ev = .returned (.bool true) ∧ Below w.heap.size w w' :=
  faultOthers_run hR s hsz v ss k w (hb.1.held hw) hw
end Go.Proofs.YtidkpdabidlnnaaGreatDoor


/-
  The document's words and numbers.
-/

namespace Go.Proofs.YtidkpdabidlnnaaGreatDoor

open Go.Den Go.RowKit

set_option maxRecDepth 100000

set_option linter.unusedSectionVars false

theorem digits_any : ∀ (n : Nat), n < 18446744073709551616 → ∀ w : World, Calls Tryz.prog 32 #[.int .u64 (n : Int)] w fun ev w' => ev = .returned (.string (st (Lib.decDigits n))) ∧ Below w.heap.size w w' := by
  intro n
  induction n using Nat.strongRecOn with
  | _ n ih =>
    intro hn w
    have hmod : (48 : Int) + (n : Int) % 10 ≤ 57 := by omega
    obtain ⟨c, hc⟩ : ∃ c : UInt8, c = UInt8.ofNat (48 + n % 10) := ⟨_, rfl⟩
    have hcn : (c.toNat : Int) = 48 + (n : Int) % 10 := by rw [hc, dig_nat (Nat.mod_lt _ (by decide))]; omega
    have hcv : (convert 53 9 (.slice (some ⟨w.heap.size, 0, none⟩) 1 1)).run Tryz.prog (w.alloc (.cells #[.int .u8 (48 + (n : Int) % 10)] 5)) = .ok (.string (st [c])) (w.alloc (.cells #[.int .u8 (48 + (n : Int) % 10)] 5)) :=
      conv_own (l := [c]) (base := 0) (World.ownsRow_lit w #[.int .u8 (48 + (n : Int) % 10)] 1 (Nat.zero_le _) (by decide) rfl |> fun h => by rw [← hcn] at h ⊢; exact h)
    by_cases h10 : n < 10
    · have h10' : (n : Int) < 10 := by omega
      have hd : Lib.decDigits n = [c] := by rw [Lib.decDigits, dif_pos h10, hc, Nat.mod_eq_of_lt h10]
      have HD := Lib.hid hd
      clear ih hc hcn hd
      go_enter Tryz.func32, Tryz.ntmps32
      go_wp2
      go_ret
      exact ⟨by rw [HD.out]; rfl, (Below.refl _ w).alloc (Nat.le_refl _) _⟩
    · have h10' : ¬ ((n : Int) < 10) := by omega
      have hq : (n : Int) / 10 = ((n / 10 : Nat) : Int) := by omega
      have hih := ih (n / 10) (by omega) (by omega)
      obtain ⟨D, hD⟩ : ∃ D, st (Lib.decDigits (n / 10)) = D := ⟨_, rfl⟩
      have hDs : D.size ≤ 20 := by rw [← hD, size_st]; exact dec_len20 (by omega)
      have hss : (st [c]).size = 1 := rfl
      rw [hD, ← hq] at hih
      have hd : Lib.decDigits n = Lib.decDigits (n / 10) ++ [c] := by rw [Lib.decDigits, dif_neg h10, hc]
      obtain ⟨S, hS⟩ : ∃ S, st [c] = S := ⟨_, rfl⟩
      rw [hS] at hcv hss
      have HD := Lib.hid hd; have HDD := Lib.hid hD; have HIH := Lib.hid hih; have HSS := Lib.hid hS
      have hss' : S.size ≤ 1 := by omega
      clear ih hc hcn hd hD hih hS hss hq
      go_enter Tryz.func32, Tryz.ntmps32
      go_wp2_with (go_at_call 32; refine (HIH.out _).mono ?_; rintro ev w3 ⟨rfl, hb3⟩; have HB3 := Lib.hid (keepW ((Below.refl _ w).alloc (Nat.le_refl _) _) hb3); clear hb3)
      go_ret
      exact ⟨by rw [HD.out, ← st_app, HDD.out, HSS.out]; rfl, HB3.out⟩
theorem number_any (v : Int) (hv : In64 v) (w : World) : Calls Tryz.prog 18 #[.int .i64 v] w fun ev w' => ev = .returned (.string (st (Lib.itoa v))) ∧ Below w.heap.size w w' := by
  obtain ⟨v0, v1⟩ := hv
  by_cases hn : v < 0
  · have hd := digits_any v.natAbs (by omega)
    obtain ⟨D, hD⟩ : ∃ D, st (Lib.decDigits v.natAbs) = D := ⟨_, rfl⟩
    have hDs : D.size ≤ 20 := by rw [← hD, size_st]; exact dec_len20 (by omega)
    rw [hD] at hd
    have hna : ((v.natAbs : Nat) : Int) = -v := by omega
    rw [hna] at hd
    have hi : Lib.itoa v = [45] ++ Lib.decDigits v.natAbs := if_pos hn
    have HI := Lib.hid hi; have HD := Lib.hid hD; have HC := Lib.hid hd
    have hwr : IntKind.u64.wrap (-IntKind.u64.wrap v) = -v := by
      have e1 : ∀ x : Int, IntKind.u64.wrap x = x % 18446744073709551616 := fun x => by simp [IntKind.wrap, IntKind.signed, IntKind.bits]
      rw [e1, e1]; omega
    clear hd hD hna hi
    go_enter Tryz.func18, Tryz.ntmps18
    go_wp2_with (go_at_call 32; refine (HC.out _).mono ?_; rintro ev w3 ⟨rfl, hb3⟩; have HB3 := Lib.hid hb3; clear hb3)
    go_ret
    exact ⟨by rw [HI.out, ← st_app, HD.out]; rfl, HB3.out⟩
  · have hd := digits_any v.toNat (by omega)
    have hna : ((v.toNat : Nat) : Int) = v := by omega
    rw [hna] at hd
    have hi : Lib.itoa v = Lib.decDigits v.toNat := if_neg hn
    have HI := Lib.hid hi; have HC := Lib.hid hd
    clear hd hna hi
    go_enter Tryz.func18, Tryz.ntmps18
    go_wp2_with (go_at_call 32; refine (HC.out _).mono ?_; rintro ev w3 ⟨rfl, hb3⟩; have HB3 := Lib.hid hb3; clear hb3)
    go_ret
    exact ⟨by rw [HI.out]; rfl, HB3.out⟩
end Go.Proofs.YtidkpdabidlnnaaGreatDoor


/-
  The document's words.
-/

namespace Go.Proofs.YtidkpdabidlnnaaGreatDoor

open Go.Den Go.RowKit

set_option maxRecDepth 100000

set_option linter.unusedSectionVars false

def wOk (s : ByteArray) (j : Nat) : Bool := decide (1 ≤ s.size) && decide (s.size ≤ 32) && (s.data.toList.take j).all okc
theorem wOk_next {s : ByteArray} {j : Nat} (h : j < s.size) : wOk s (j + 1) = (wOk s j && okc (s[j]'h)) := by
  have hl : s.data.toList.length = s.size := size_data s
  unfold wOk
  rw [List.take_succ_eq_append_getElem (by omega), List.all_append, List.all_cons, List.all_nil, Bool.and_true, Bool.and_assoc, Bool.and_assoc, Bool.and_assoc]
  rfl
theorem wOk_end (s : ByteArray) : wOk s s.size = wordOk s.data.toList := by
  have hl : s.data.toList.length = s.size := size_data s
  unfold wOk wordOk
  rw [List.take_of_length_le (by omega), hl]
set_option maxHeartbeats 4000000 in
theorem word_any (s : ByteArray) (hs : s.size ≤ maxLen) (w : World) : Calls Tryz.prog 28 #[.string s] w fun ev w' => ev = .returned (.string (wordB s)) ∧ w' = w := by
  have hs63 : (s.size : Int) ≤ 9223372036854775807 := by unfold maxLen at hs; omega
  have key : ∀ b0 : Bool, (decide (1 ≤ s.size) && decide (s.size ≤ 32)) = b0 → wOk s 0 = b0 := fun b0 h => by
    unfold wOk; rw [h, List.take_zero]; simp
  have hw0 : ∀ b : Bool, wordOk s.data.toList = b → wordB s = if b then s else ⟨#[63]⟩ := fun b hb => by
    unfold wordB wordF
    rw [hb]
    cases b <;> rfl
  have HKEY := Lib.hid key; have HW0 := Lib.hid hw0
  clear key hw0 hs
  go_enter Tryz.func28, Tryz.ntmps28
  by_cases h1 : (1 : Int) ≤ (s.size : Int)
  · by_cases h32 : (s.size : Int) ≤ 32
    · have h0 := HKEY.out true (by rw [decide_eq_true (by omega), decide_eq_true (by omega)]; rfl)
      have H0 := Lib.hid h0
      clear h0
      go_wp2
      go_loopw [3, 4] (fun ok i wr => ∃ j : Nat, j ≤ s.size ∧ ok = .bool (wOk s j) ∧ i = .int .i64 (j : Int) ∧ wr = w) (fun _ i _ => s.size - natOf i)
      case atStart => exact ⟨0, Nat.zero_le _, by rw [H0.out], rfl, rfl⟩
      case round =>
        obtain ⟨j, hj, rfl, rfl, rfl⟩ := hrel
        by_cases hjn : j < s.size
        · cases hok : wOk s j with
          | false =>
            have hnx : wOk s (j + 1) = false := by rw [wOk_next hjn, hok]; rfl
            have HNX := Lib.hid hnx
            have HJJ := Lib.hid hjn
            clear hnx hj hok
            go_wp2
            go_roundw
            case rel => exact ⟨j + 1, HJJ.out, by rw [HNX.out], by go_num, trivial⟩
            case measure => have := HJJ.out; simp [natOf]; omega
          | true =>
            by_cases g97 : (97 : Int) ≤ ((s[j]'hjn).toNat : Int)
            · by_cases g122 : ((s[j]'hjn).toNat : Int) ≤ 122
              · skip
                have hnx : wOk s (j + 1) = true := by
                  rw [wOk_next hjn, hok, Bool.true_and]
                  exact (by unfold okc; rw [decide_eq_true (by omega : 97 ≤ (s[j]'hjn).toNat), decide_eq_true (by omega : (s[j]'hjn).toNat ≤ 122)]; rfl)
                have HNX := Lib.hid hnx
                have HJJ := Lib.hid hjn
                clear hnx hj hok
                go_wp2
                go_roundw
                case rel => exact ⟨j + 1, HJJ.out, by rw [HNX.out], by go_num, trivial⟩
                case measure => have := HJJ.out; simp [natOf]; omega
              · have g48 : (48 : Int) ≤ ((s[j]'hjn).toNat : Int) := by omega
                have g57 : ¬ ((s[j]'hjn).toNat : Int) ≤ 57 := by omega
                have g45 : (((s[j]'hjn).toNat : Int) == 45) = false := by rw [beq_eq_false_iff_ne]; omega
                have hnx : wOk s (j + 1) = false := by
                  rw [wOk_next hjn, hok, Bool.true_and]
                  exact (by unfold okc; rw [decide_eq_false (by omega : ¬ (s[j]'hjn).toNat ≤ 122), decide_eq_false (by omega : ¬ (s[j]'hjn).toNat ≤ 57), decide_eq_false (by omega : ¬ (s[j]'hjn).toNat = 45)]; simp)
                have HNX := Lib.hid hnx
                have HJJ := Lib.hid hjn
                clear hnx hj hok
                go_wp2
                go_roundw
                case rel => exact ⟨j + 1, HJJ.out, by rw [HNX.out], by go_num, trivial⟩
                case measure => have := HJJ.out; simp [natOf]; omega
            · by_cases g48 : (48 : Int) ≤ ((s[j]'hjn).toNat : Int)
              · by_cases g57 : ((s[j]'hjn).toNat : Int) ≤ 57
                · skip
                  have hnx : wOk s (j + 1) = true := by
                    rw [wOk_next hjn, hok, Bool.true_and]
                    exact (by unfold okc; rw [decide_eq_true (by omega : 48 ≤ (s[j]'hjn).toNat), decide_eq_true (by omega : (s[j]'hjn).toNat ≤ 57)]; simp)
                  have HNX := Lib.hid hnx
                  have HJJ := Lib.hid hjn
                  clear hnx hj hok
                  go_wp2
                  go_roundw
                  case rel => exact ⟨j + 1, HJJ.out, by rw [HNX.out], by go_num, trivial⟩
                  case measure => have := HJJ.out; simp [natOf]; omega
                · have g45 : (((s[j]'hjn).toNat : Int) == 45) = false := by rw [beq_eq_false_iff_ne]; omega
                  have hnx : wOk s (j + 1) = false := by
                    rw [wOk_next hjn, hok, Bool.true_and]
                    exact (by unfold okc; rw [decide_eq_false (by omega : ¬ 97 ≤ (s[j]'hjn).toNat), decide_eq_false (by omega : ¬ (s[j]'hjn).toNat ≤ 57), decide_eq_false (by omega : ¬ (s[j]'hjn).toNat = 45)]; simp)
                  have HNX := Lib.hid hnx
                  have HJJ := Lib.hid hjn
                  clear hnx hj hok
                  go_wp2
                  go_roundw
                  case rel => exact ⟨j + 1, HJJ.out, by rw [HNX.out], by go_num, trivial⟩
                  case measure => have := HJJ.out; simp [natOf]; omega
              · by_cases e45 : (s[j]'hjn).toNat = 45
                · have g45 : (((s[j]'hjn).toNat : Int) == 45) = true := by rw [beq_iff_eq]; omega
                  have hnx : wOk s (j + 1) = true := by
                    rw [wOk_next hjn, hok, Bool.true_and]
                    exact (by unfold okc; rw [decide_eq_true e45]; simp)
                  have HNX := Lib.hid hnx
                  have HJJ := Lib.hid hjn
                  clear hnx hj hok
                  go_wp2
                  go_roundw
                  case rel => exact ⟨j + 1, HJJ.out, by rw [HNX.out], by go_num, trivial⟩
                  case measure => have := HJJ.out; simp [natOf]; omega
                · have g45 : (((s[j]'hjn).toNat : Int) == 45) = false := by rw [beq_eq_false_iff_ne]; omega
                  have hnx : wOk s (j + 1) = false := by
                    rw [wOk_next hjn, hok, Bool.true_and]
                    exact (by unfold okc; rw [decide_eq_false (by omega : ¬ 97 ≤ (s[j]'hjn).toNat), decide_eq_false (by omega : ¬ 48 ≤ (s[j]'hjn).toNat), decide_eq_false e45]; simp)
                  have HNX := Lib.hid hnx
                  have HJJ := Lib.hid hjn
                  clear hnx hj hok
                  go_wp2
                  go_roundw
                  case rel => exact ⟨j + 1, HJJ.out, by rw [HNX.out], by go_num, trivial⟩
                  case measure => have := HJJ.out; simp [natOf]; omega
        · have hje : j = s.size := by omega
          have hwe := wOk_end s
          rw [← hje] at hwe
          cases hok : wOk s j with
          | false =>
            have hwb := HW0.out false (by rw [← hwe]; exact hok)
            have HWB := Lib.hid hwb
            clear hwb hwe hje hj hok
            go_wp2
            go_ret
            exact ⟨by rw [HWB.out]; rfl, rfl⟩
          | true =>
            have hwb := HW0.out true (by rw [← hwe]; exact hok)
            have HWB := Lib.hid hwb
            clear hwb hwe hje hj hok
            go_wp2
            go_ret
            exact ⟨by rw [HWB.out]; rfl, rfl⟩
    · have h0 := HKEY.out false (by rw [decide_eq_false (by omega : ¬ s.size ≤ 32), Bool.and_false])
      have H0 := Lib.hid h0
      clear h0
      go_wp2
      go_loopw [3, 4] (fun ok i wr => ∃ j : Nat, j ≤ s.size ∧ ok = .bool (wOk s j) ∧ i = .int .i64 (j : Int) ∧ wr = w) (fun _ i _ => s.size - natOf i)
      case atStart => exact ⟨0, Nat.zero_le _, by rw [H0.out], rfl, rfl⟩
      case round =>
        obtain ⟨j, hj, rfl, rfl, rfl⟩ := hrel
        by_cases hjn : j < s.size
        · cases hok : wOk s j with
          | false =>
            have hnx : wOk s (j + 1) = false := by rw [wOk_next hjn, hok]; rfl
            have HNX := Lib.hid hnx
            have HJJ := Lib.hid hjn
            clear hnx hj hok
            go_wp2
            go_roundw
            case rel => exact ⟨j + 1, HJJ.out, by rw [HNX.out], by go_num, trivial⟩
            case measure => have := HJJ.out; simp [natOf]; omega
          | true =>
            by_cases g97 : (97 : Int) ≤ ((s[j]'hjn).toNat : Int)
            · by_cases g122 : ((s[j]'hjn).toNat : Int) ≤ 122
              · skip
                have hnx : wOk s (j + 1) = true := by
                  rw [wOk_next hjn, hok, Bool.true_and]
                  exact (by unfold okc; rw [decide_eq_true (by omega : 97 ≤ (s[j]'hjn).toNat), decide_eq_true (by omega : (s[j]'hjn).toNat ≤ 122)]; rfl)
                have HNX := Lib.hid hnx
                have HJJ := Lib.hid hjn
                clear hnx hj hok
                go_wp2
                go_roundw
                case rel => exact ⟨j + 1, HJJ.out, by rw [HNX.out], by go_num, trivial⟩
                case measure => have := HJJ.out; simp [natOf]; omega
              · have g48 : (48 : Int) ≤ ((s[j]'hjn).toNat : Int) := by omega
                have g57 : ¬ ((s[j]'hjn).toNat : Int) ≤ 57 := by omega
                have g45 : (((s[j]'hjn).toNat : Int) == 45) = false := by rw [beq_eq_false_iff_ne]; omega
                have hnx : wOk s (j + 1) = false := by
                  rw [wOk_next hjn, hok, Bool.true_and]
                  exact (by unfold okc; rw [decide_eq_false (by omega : ¬ (s[j]'hjn).toNat ≤ 122), decide_eq_false (by omega : ¬ (s[j]'hjn).toNat ≤ 57), decide_eq_false (by omega : ¬ (s[j]'hjn).toNat = 45)]; simp)
                have HNX := Lib.hid hnx
                have HJJ := Lib.hid hjn
                clear hnx hj hok
                go_wp2
                go_roundw
                case rel => exact ⟨j + 1, HJJ.out, by rw [HNX.out], by go_num, trivial⟩
                case measure => have := HJJ.out; simp [natOf]; omega
            · by_cases g48 : (48 : Int) ≤ ((s[j]'hjn).toNat : Int)
              · by_cases g57 : ((s[j]'hjn).toNat : Int) ≤ 57
                · skip
                  have hnx : wOk s (j + 1) = true := by
                    rw [wOk_next hjn, hok, Bool.true_and]
                    exact (by unfold okc; rw [decide_eq_true (by omega : 48 ≤ (s[j]'hjn).toNat), decide_eq_true (by omega : (s[j]'hjn).toNat ≤ 57)]; simp)
                  have HNX := Lib.hid hnx
                  have HJJ := Lib.hid hjn
                  clear hnx hj hok
                  go_wp2
                  go_roundw
                  case rel => exact ⟨j + 1, HJJ.out, by rw [HNX.out], by go_num, trivial⟩
                  case measure => have := HJJ.out; simp [natOf]; omega
                · have g45 : (((s[j]'hjn).toNat : Int) == 45) = false := by rw [beq_eq_false_iff_ne]; omega
                  have hnx : wOk s (j + 1) = false := by
                    rw [wOk_next hjn, hok, Bool.true_and]
                    exact (by unfold okc; rw [decide_eq_false (by omega : ¬ 97 ≤ (s[j]'hjn).toNat), decide_eq_false (by omega : ¬ (s[j]'hjn).toNat ≤ 57), decide_eq_false (by omega : ¬ (s[j]'hjn).toNat = 45)]; simp)
                  have HNX := Lib.hid hnx
                  have HJJ := Lib.hid hjn
                  clear hnx hj hok
                  go_wp2
                  go_roundw
                  case rel => exact ⟨j + 1, HJJ.out, by rw [HNX.out], by go_num, trivial⟩
                  case measure => have := HJJ.out; simp [natOf]; omega
              · by_cases e45 : (s[j]'hjn).toNat = 45
                · have g45 : (((s[j]'hjn).toNat : Int) == 45) = true := by rw [beq_iff_eq]; omega
                  have hnx : wOk s (j + 1) = true := by
                    rw [wOk_next hjn, hok, Bool.true_and]
                    exact (by unfold okc; rw [decide_eq_true e45]; simp)
                  have HNX := Lib.hid hnx
                  have HJJ := Lib.hid hjn
                  clear hnx hj hok
                  go_wp2
                  go_roundw
                  case rel => exact ⟨j + 1, HJJ.out, by rw [HNX.out], by go_num, trivial⟩
                  case measure => have := HJJ.out; simp [natOf]; omega
                · have g45 : (((s[j]'hjn).toNat : Int) == 45) = false := by rw [beq_eq_false_iff_ne]; omega
                  have hnx : wOk s (j + 1) = false := by
                    rw [wOk_next hjn, hok, Bool.true_and]
                    exact (by unfold okc; rw [decide_eq_false (by omega : ¬ 97 ≤ (s[j]'hjn).toNat), decide_eq_false (by omega : ¬ 48 ≤ (s[j]'hjn).toNat), decide_eq_false e45]; simp)
                  have HNX := Lib.hid hnx
                  have HJJ := Lib.hid hjn
                  clear hnx hj hok
                  go_wp2
                  go_roundw
                  case rel => exact ⟨j + 1, HJJ.out, by rw [HNX.out], by go_num, trivial⟩
                  case measure => have := HJJ.out; simp [natOf]; omega
        · have hje : j = s.size := by omega
          have hwe := wOk_end s
          rw [← hje] at hwe
          cases hok : wOk s j with
          | false =>
            have hwb := HW0.out false (by rw [← hwe]; exact hok)
            have HWB := Lib.hid hwb
            clear hwb hwe hje hj hok
            go_wp2
            go_ret
            exact ⟨by rw [HWB.out]; rfl, rfl⟩
          | true =>
            have hwb := HW0.out true (by rw [← hwe]; exact hok)
            have HWB := Lib.hid hwb
            clear hwb hwe hje hj hok
            go_wp2
            go_ret
            exact ⟨by rw [HWB.out]; rfl, rfl⟩
  · have h0 := HKEY.out false (by rw [decide_eq_false (by omega : ¬ 1 ≤ s.size), Bool.false_and])
    have H0 := Lib.hid h0
    clear h0
    go_wp2
    go_loopw [3, 4] (fun ok i wr => ∃ j : Nat, j ≤ s.size ∧ ok = .bool (wOk s j) ∧ i = .int .i64 (j : Int) ∧ wr = w) (fun _ i _ => s.size - natOf i)
    case atStart => exact ⟨0, Nat.zero_le _, by rw [H0.out], rfl, rfl⟩
    case round =>
      obtain ⟨j, hj, rfl, rfl, rfl⟩ := hrel
      by_cases hjn : j < s.size
      · cases hok : wOk s j with
        | false =>
          have hnx : wOk s (j + 1) = false := by rw [wOk_next hjn, hok]; rfl
          have HNX := Lib.hid hnx
          have HJJ := Lib.hid hjn
          clear hnx hj hok
          go_wp2
          go_roundw
          case rel => exact ⟨j + 1, HJJ.out, by rw [HNX.out], by go_num, trivial⟩
          case measure => have := HJJ.out; simp [natOf]; omega
        | true =>
          by_cases g97 : (97 : Int) ≤ ((s[j]'hjn).toNat : Int)
          · by_cases g122 : ((s[j]'hjn).toNat : Int) ≤ 122
            · skip
              have hnx : wOk s (j + 1) = true := by
                rw [wOk_next hjn, hok, Bool.true_and]
                exact (by unfold okc; rw [decide_eq_true (by omega : 97 ≤ (s[j]'hjn).toNat), decide_eq_true (by omega : (s[j]'hjn).toNat ≤ 122)]; rfl)
              have HNX := Lib.hid hnx
              have HJJ := Lib.hid hjn
              clear hnx hj hok
              go_wp2
              go_roundw
              case rel => exact ⟨j + 1, HJJ.out, by rw [HNX.out], by go_num, trivial⟩
              case measure => have := HJJ.out; simp [natOf]; omega
            · have g48 : (48 : Int) ≤ ((s[j]'hjn).toNat : Int) := by omega
              have g57 : ¬ ((s[j]'hjn).toNat : Int) ≤ 57 := by omega
              have g45 : (((s[j]'hjn).toNat : Int) == 45) = false := by rw [beq_eq_false_iff_ne]; omega
              have hnx : wOk s (j + 1) = false := by
                rw [wOk_next hjn, hok, Bool.true_and]
                exact (by unfold okc; rw [decide_eq_false (by omega : ¬ (s[j]'hjn).toNat ≤ 122), decide_eq_false (by omega : ¬ (s[j]'hjn).toNat ≤ 57), decide_eq_false (by omega : ¬ (s[j]'hjn).toNat = 45)]; simp)
              have HNX := Lib.hid hnx
              have HJJ := Lib.hid hjn
              clear hnx hj hok
              go_wp2
              go_roundw
              case rel => exact ⟨j + 1, HJJ.out, by rw [HNX.out], by go_num, trivial⟩
              case measure => have := HJJ.out; simp [natOf]; omega
          · by_cases g48 : (48 : Int) ≤ ((s[j]'hjn).toNat : Int)
            · by_cases g57 : ((s[j]'hjn).toNat : Int) ≤ 57
              · skip
                have hnx : wOk s (j + 1) = true := by
                  rw [wOk_next hjn, hok, Bool.true_and]
                  exact (by unfold okc; rw [decide_eq_true (by omega : 48 ≤ (s[j]'hjn).toNat), decide_eq_true (by omega : (s[j]'hjn).toNat ≤ 57)]; simp)
                have HNX := Lib.hid hnx
                have HJJ := Lib.hid hjn
                clear hnx hj hok
                go_wp2
                go_roundw
                case rel => exact ⟨j + 1, HJJ.out, by rw [HNX.out], by go_num, trivial⟩
                case measure => have := HJJ.out; simp [natOf]; omega
              · have g45 : (((s[j]'hjn).toNat : Int) == 45) = false := by rw [beq_eq_false_iff_ne]; omega
                have hnx : wOk s (j + 1) = false := by
                  rw [wOk_next hjn, hok, Bool.true_and]
                  exact (by unfold okc; rw [decide_eq_false (by omega : ¬ 97 ≤ (s[j]'hjn).toNat), decide_eq_false (by omega : ¬ (s[j]'hjn).toNat ≤ 57), decide_eq_false (by omega : ¬ (s[j]'hjn).toNat = 45)]; simp)
                have HNX := Lib.hid hnx
                have HJJ := Lib.hid hjn
                clear hnx hj hok
                go_wp2
                go_roundw
                case rel => exact ⟨j + 1, HJJ.out, by rw [HNX.out], by go_num, trivial⟩
                case measure => have := HJJ.out; simp [natOf]; omega
            · by_cases e45 : (s[j]'hjn).toNat = 45
              · have g45 : (((s[j]'hjn).toNat : Int) == 45) = true := by rw [beq_iff_eq]; omega
                have hnx : wOk s (j + 1) = true := by
                  rw [wOk_next hjn, hok, Bool.true_and]
                  exact (by unfold okc; rw [decide_eq_true e45]; simp)
                have HNX := Lib.hid hnx
                have HJJ := Lib.hid hjn
                clear hnx hj hok
                go_wp2
                go_roundw
                case rel => exact ⟨j + 1, HJJ.out, by rw [HNX.out], by go_num, trivial⟩
                case measure => have := HJJ.out; simp [natOf]; omega
              · have g45 : (((s[j]'hjn).toNat : Int) == 45) = false := by rw [beq_eq_false_iff_ne]; omega
                have hnx : wOk s (j + 1) = false := by
                  rw [wOk_next hjn, hok, Bool.true_and]
                  exact (by unfold okc; rw [decide_eq_false (by omega : ¬ 97 ≤ (s[j]'hjn).toNat), decide_eq_false (by omega : ¬ 48 ≤ (s[j]'hjn).toNat), decide_eq_false e45]; simp)
                have HNX := Lib.hid hnx
                have HJJ := Lib.hid hjn
                clear hnx hj hok
                go_wp2
                go_roundw
                case rel => exact ⟨j + 1, HJJ.out, by rw [HNX.out], by go_num, trivial⟩
                case measure => have := HJJ.out; simp [natOf]; omega
      · have hje : j = s.size := by omega
        have hwe := wOk_end s
        rw [← hje] at hwe
        cases hok : wOk s j with
        | false =>
          have hwb := HW0.out false (by rw [← hwe]; exact hok)
          have HWB := Lib.hid hwb
          clear hwb hwe hje hj hok
          go_wp2
          go_ret
          exact ⟨by rw [HWB.out]; rfl, rfl⟩
        | true =>
          have hwb := HW0.out true (by rw [← hwe]; exact hok)
          have HWB := Lib.hid hwb
          clear hwb hwe hje hj hok
          go_wp2
          go_ret
          exact ⟨by rw [HWB.out]; rfl, rfl⟩
end Go.Proofs.YtidkpdabidlnnaaGreatDoor


/-
  The document's line.
-/

namespace Go.Proofs.YtidkpdabidlnnaaGreatDoor

open Go.Den Go.RowKit

set_option maxRecDepth 100000

set_option linter.unusedSectionVars false

def flatW (l : List ByteArray) : List UInt8 := (bsl l).flatMap fun w => w ++ [58, 32]
theorem flatW_next {l : List ByteArray} {j : Nat} (h : j < l.length) : flatW (l.take (j + 1)) = flatW (l.take j) ++ ((nthS l j).data.toList ++ [58, 32]) := by
  unfold flatW bsl
  rw [List.take_succ_eq_append_getElem h, List.map_append, List.flatMap_append]
  simp [nthS, List.getD_eq_getElem?_getD, List.getElem?_eq_getElem h]
theorem flatW_len {l : List ByteArray} (h : ∀ x ∈ l, x.size ≤ 32) : (flatW l).length ≤ 34 * l.length := by
  induction l with
  | nil => exact Nat.le_refl _
  | cons x l ih =>
    have h1 := h x List.mem_cons_self
    have h2 := ih fun y hy => h y (List.mem_cons_of_mem _ hy)
    have h3 : x.data.toList.length = x.size := size_data x
    have e : flatW (x :: l) = x.data.toList ++ [58, 32] ++ flatW l := by unfold flatW bsl; simp
    have e4 : (x :: l).length = l.length + 1 := rfl
    rw [e, List.length_append, List.length_append, e4]
    have : ([58, 32] : List UInt8).length = 2 := rfl
    omega
/-- A row of strings, as code reads it. -/
def RowC (w : World) (v : Value) (l : List ByteArray) : Prop := ∃ (A : Option Addr) (c : Nat), v = .slice A l.length c ∧ l.length ≤ c ∧ (0 < l.length → ∃ g, A = some ⟨g, 0, none⟩ ∧ ∀ j, j < l.length → w.cell? ⟨g, j, none⟩ = some (.string (nthS l j)))
theorem Row.code {base : Nat} {w : World} {v : Value} {l : List ByteArray} (h : Row base w v l) : RowC w v l := by
  rcases h.2 with ⟨h1, h2⟩ | ⟨g, cap, cur, h1, _, hg, hc, _, _, ht⟩
  · exact ⟨none, 0, by rw [h1, h2], by omega, fun h => by omega⟩
  · refine ⟨_, cap, h1, hc, fun _ => ⟨g, rfl, fun j hj => ?_⟩⟩
    rw [Blk.cell (T := 9) hg j, ← Array.getElem?_toList]
    have : (cur.toList.take (l.length * 1))[j]? = some (.string (nthS l j)) := by
      rw [ht, List.getElem?_map, nthS, List.getD_eq_getElem?_getD, List.getElem?_eq_getElem hj]; rfl
    rw [List.getElem?_take, if_pos (by omega)] at this
    exact this
theorem RowC.keep {w w' : World} {v : Value} {l : List ByteArray} (h : RowC w v l) (hb : Below w.heap.size w w') : RowC w' v l := by
  obtain ⟨A, c, h1, h3, h2⟩ := h
  refine ⟨A, c, h1, h3, fun h0 => ?_⟩
  obtain ⟨g, hA, hc⟩ := h2 h0
  exact ⟨g, hA, fun j hj => (World.cell?_of_block (hb.block _ (World.block_lt_of_cell? _ _ (hc j hj)))).trans (hc j hj)⟩
set_option maxHeartbeats 4000000 in
theorem refLine_any (l : List ByteArray) (hl : l.length ≤ 8) (hsm : ∀ x ∈ l, x.size ≤ 32) (k o : Int) (ik : In64 k) (io : In64 o) (v : Value) (w : World) (hv : RowC w v l) :
    Calls Tryz.prog 13 #[v, .int .i64 k, .int .i64 o] w fun ev w' => ev = .returned (.string (st (lineF (bsl l) k o))) ∧ Below w.heap.size w w' := by
  obtain ⟨A, c, rfl, hc, hcell⟩ := hv
  obtain ⟨n, hn⟩ : ∃ n, l.length = n := ⟨_, rfl⟩
  rw [hn] at hc hcell ⊢
  have HN := Lib.hid hn; have HSM := Lib.hid hsm; have HC := Lib.hid hcell
  have hn8 : (n : Int) ≤ 8 := by omega
  clear hn hsm hcell hl
  go_enter Tryz.func13, Tryz.ntmps13
  go_wp2
  go_loopw [7, 8] (fun s i wr => ∃ (T : ByteArray) (j : Nat), s = .string T ∧ i = .int .i64 (j : Int) ∧ j ≤ n ∧ T = st (flatW (l.take j)) ∧ wr = w) (fun _ i _ => n - natOf i)
  case atStart => exact ⟨_, 0, rfl, rfl, Nat.zero_le _, rfl, rfl⟩
  case round =>
    obtain ⟨T, j, rfl, rfl, hj, hT, rfl⟩ := hrel
    have hts : T.size ≤ 272 := by
      rw [hT, size_st]
      have h1 := flatW_len (l := l.take j) fun x hx => HSM.out x (List.mem_of_mem_take hx)
      have h2 : (l.take j).length ≤ 8 := by rw [List.length_take]; omega
      omega
    by_cases hjn : j < n
    · obtain ⟨g, rfl, hcc⟩ := HC.out (by omega)
      have hce := hcc j hjn
      have hjn' : (j : Int) < (n : Int) := by omega
      have hj0 : ¬ ((j : Int) < 0) := by omega
      have hxs : (nthS l j).size ≤ 32 := by
        refine HSM.out _ ?_
        rw [nthS, List.getD_eq_getElem?_getD, List.getElem?_eq_getElem (by have := HN.out; omega)]
        exact List.getElem_mem _
      have hnx := flatW_next (l := l) (j := j) (by have := HN.out; omega)
      have HNX := Lib.hid hnx; have HT := Lib.hid hT; have HJJ := Lib.hid hjn
      clear hnx hT hjn hj hcc
      go_wp2
      go_roundw
      case rel => exact ⟨_, j + 1, rfl, by go_num, HJJ.out, by rw [HNX.out, ← List.append_assoc, ← st_app, ← st_app, ← HT.out]; rfl, trivial⟩
      case measure => have := HJJ.out; simp [natOf]; omega
    · have hjn' : ¬ ((j : Int) < (n : Int)) := by omega
      have hte : T = st (flatW l) := by rw [hT, List.take_of_length_le (by have := HN.out; omega)]
      have HT := Lib.hid hte
      clear hj hjn hT hte
      obtain ⟨K, hK, hKs, hKc⟩ : ∃ K, st (Lib.itoa k) = K ∧ K.size ≤ 40 ∧ ∀ w, Calls Tryz.prog 18 #[.int .i64 k] w fun ev w' => ev = .returned (.string K) ∧ Below w.heap.size w w' := ⟨_, rfl, itoa_len (in_R ik), fun w => number_any k ik w⟩
      obtain ⟨O, hO, hOs, hOc⟩ : ∃ O, st (Lib.itoa o) = O ∧ O.size ≤ 40 ∧ ∀ w, Calls Tryz.prog 18 #[.int .i64 o] w fun ev w' => ev = .returned (.string O) ∧ Below w.heap.size w w' := ⟨_, rfl, itoa_len (in_R io), fun w => number_any o io w⟩
      have HK := Lib.hid hK; have HO := Lib.hid hO; have HKC := Lib.hid hKc; have HOC := Lib.hid hOc
      clear hK hO hKc hOc
      go_wp2_with (first
        | (go_at_call 18; have hx := HB3.out; refine (HOC.out _).mono ?_; rintro ev w4 ⟨rfl, hb4⟩; have HB4 := Lib.hid (keepW hx hb4); clear hb4 hx)
        | (go_at_call 18; refine (HKC.out _).mono ?_; rintro ev w3 ⟨rfl, hb3⟩; have HB3 := Lib.hid hb3; clear hb3))
      (go_ret; exact ⟨by rw [HT.out, ← HK.out, ← HO.out]; exact congrArg (fun s => Ending.returned (.string s)) (by rw [show (⟨#[107, 105, 110, 100, 32]⟩ : ByteArray) = st kindS from rfl, show (⟨#[32, 97, 116, 32]⟩ : ByteArray) = st atS from rfl, st_app, st_app, st_app, st_app]; unfold lineF faultS flatW; simp [List.append_assoc]), HB4.out⟩)
end Go.Proofs.YtidkpdabidlnnaaGreatDoor


/-
  A fault with its notes: the law's own making.
-/


namespace Go.Proofs.YtidkpdabidlnnaaGreatDoor

open Go.Den Go.RowKit

set_option maxRecDepth 100000

set_option linter.unusedSectionVars false

variable [Inhabited Root]

def hasN (l : List ByteArray) : List ByteArray := ((l.take 8).map wordB).reverse
theorem hasN_next {ss : List ByteArray} {j : Nat} (h : j < ss.length) : hasN (ss.take (j + 1)) = if j < 8 then wordB (nthS ss j) :: hasN (ss.take j) else hasN (ss.take j) := by
  unfold hasN
  rw [List.take_take, List.take_take]
  split
  · rename_i h8
    rw [Nat.min_eq_right (by omega), Nat.min_eq_right (by omega), List.take_succ_eq_append_getElem h, List.map_append, List.reverse_append]
    simp [nthS, List.getD_eq_getElem?_getD, List.getElem?_eq_getElem h]
  · rw [Nat.min_eq_left (by omega), Nat.min_eq_left (by omega)]
theorem hasN_len (l : List ByteArray) : (hasN l).length = min 8 l.length := by
  unfold hasN; rw [List.length_reverse, List.length_map, List.length_take]
theorem hasN_small (l : List ByteArray) : ∀ x ∈ hasN l, x.size ≤ 32 := by
  intro x hx
  unfold hasN at hx
  rw [List.mem_reverse] at hx
  obtain ⟨y, _, rfl⟩ := List.mem_map.1 hx
  exact wordB_size y
/-- What is made. -/
structure BuiltE (k o : Int) (l : List ByteArray) (f : Er) : Prop where
  inn : innerE f = .flt k o
  ws : wordsE f = hasN l
theorem BuiltE.size {k o : Int} {l : List ByteArray} {f : Er} (h : BuiltE k o l f) : f.size ≤ 10 := by
  have h1 := (cnt_words h.inn).2
  rw [h.ws, hasN_len] at h1; omega
theorem BuiltE.next {k o : Int} {ss : List ByteArray} {j : Nat} {f f' : Er} (h : BuiltE k o (ss.take j) f) (hj : j < ss.length) (hw : WrapR f (nthS ss j) f') : BuiltE k o (ss.take (j + 1)) f' := by
  have h1 := (cnt_words h.inn).1
  rw [h.ws, hasN_len, List.length_take, Nat.min_eq_left (Nat.le_of_lt hj)] at h1
  rcases hw with ⟨h8, rfl⟩ | ⟨h8, b, rfl⟩
  · exact ⟨h.inn, by rw [hasN_next hj, if_neg (by omega)]; exact h.ws⟩
  · exact ⟨h.inn, by rw [hasN_next hj, if_pos (by omega), ← h.ws]; rfl⟩
def BuildR (k o : Int) (l : List ByteArray) (base : Nat) (e v : Value) (w : World) : Prop :=
  (k = 0 → e = .nilIface) ∧ (k ≠ 0 → ∃ f : Er, e = .iface f.ty f.cont ∧ f.lies w ∧ BuiltE k o l f) ∧ Row base w v (hasN l)
def BuildP (k o : Int) (l : List ByteArray) (e : Value) (w : World) : Prop := (k = 0 → e = .nilIface) ∧ (k ≠ 0 → ∃ f : Er, e = .iface f.ty f.cont ∧ f.lies w ∧ BuiltE k o l f)
theorem BuildP.keep {k o : Int} {l : List ByteArray} {e : Value} {w w' : World} (h : BuildP k o l e w) (hb : Below w.heap.size w w') : BuildP k o l e w' :=
  ⟨h.1, fun hk => by obtain ⟨f, h1, h2, h3⟩ := h.2 hk; exact ⟨f, h1, h2.keep hb, h3⟩⟩
theorem wrapE_any {k o : Int} {ss : List ByteArray} {j : Nat} {E : Value} {w : World} (h : BuildP k o (ss.take j) E w) (hj : j < ss.length) :
    Calls Tryz.prog 22 #[E, .string (nthS ss j)] w fun ev w' => ∃ E', ev = .returned E' ∧ BuildP k o (ss.take (j + 1)) E' w' ∧ Below w.heap.size w w' := by
  by_cases hk : k = 0
  · rw [h.1 hk]
    exact (wrap_nil _ w).mono fun ev w' ⟨h1, h2⟩ => ⟨_, h1, ⟨fun _ => rfl, fun h => absurd hk h⟩, h2 ▸ Below.refl _ _⟩
  · obtain ⟨f, h1, h2, h3⟩ := h.2 hk
    rw [h1]
    exact (wrap2_any f (nthS ss j) (by have := h3.size; omega) w h2).mono fun ev w' ⟨g, g1, g2, g3, g4⟩ => ⟨_, g1, ⟨fun h => absurd h hk, fun _ => ⟨g, rfl, g2, h3.next hj g4⟩⟩, g3⟩
set_option maxHeartbeats 8000000 in
theorem build_any (k o : Int) (ik : In64 k) (io : In64 o) (v : Value) (ss : List ByteArray) (hn20 : ss.length ≤ 20) (hsz : ∀ x ∈ ss, x.size ≤ maxLen) (w : World) (hb : StrsA w v ss) :
    Calls Tryz.prog 9 #[.int .i64 k, .int .i64 o, v] w fun ev w' => ∃ e vh, ev = .returned (.tuple #[e, vh]) ∧ BuildR k o ss w.heap.size e vh w' ∧ Below w.heap.size w w' := by
  obtain ⟨E0, hE0, hnew⟩ : ∃ E0 : Value, ((k = 0 → E0 = .nilIface) ∧ (k ≠ 0 → E0 = .iface (Er.flt k o).ty (Er.flt k o).cont)) ∧ Calls Tryz.prog 24 #[.int .i64 k, .int .i64 o] w fun ev w' => ev = .returned E0 ∧ Below w.heap.size w w' := by
    by_cases hk : k = 0
    · subst hk
      exact ⟨.nilIface, ⟨fun _ => rfl, fun h => absurd rfl h⟩, (new_zero o w).mono fun ev w' ⟨h1, h2⟩ => ⟨h1, h2 ▸ Below.refl _ _⟩⟩
    · exact ⟨_, ⟨fun h => absurd h hk, fun _ => rfl⟩, new_any k o hk w⟩
  have HNEW := Lib.hid hnew; have HE0 := Lib.hid hE0; have HIK := Lib.hid ik; have HIO := Lib.hid io
  clear hnew hE0 ik io
  obtain ⟨i0, hi0, hz0, hz1, hz2⟩ := info3 info_str
  have HI := Lib.hid hi0; have HZ0 := Lib.hid hz0; have HZ1 := Lib.hid hz1; have HZ2 := Lib.hid hz2
  clear hi0 hz0 hz1 hz2
  rcases hb with ⟨rfl, rfl⟩ | ⟨blk, off, cap, rfl, hm, hcell⟩
  · go_enter Tryz.func9, Tryz.ntmps9
    go_wp2_with (go_at_call 24; refine HNEW.out.mono ?_; rintro ev w1 ⟨rfl, hb1⟩; have HB1 := Lib.hid hb1; clear hb1)
    refine wp_loop_rounds 1 ?_
    rw [rounds_succ]
    go_wp2
    go_ret2
    exact ⟨_, _, rfl, ⟨HE0.out.1, fun h => ⟨_, HE0.out.2 h, ⟨HIK.out, HIO.out⟩, ⟨rfl, rfl⟩⟩, World.ownsRow_nil _ _ _ _⟩, HB1.out⟩
  · obtain ⟨n, hn⟩ : ∃ n, ss.length = n := ⟨_, rfl⟩
    rw [hn] at hm hcell hn20 ⊢
    have HN := Lib.hid hn; have HC := Lib.hid hcell; have HSZ := Lib.hid hsz; have HN20 := Lib.hid hn20
    have hni : (n : Int) ≤ 20 := by omega
    clear hn hcell hsz hn20 hm
    go_enter Tryz.func9, Tryz.ntmps9
    go_wp2_with (go_at_call 24; refine HNEW.out.mono ?_; rintro ev w1 ⟨rfl, hb1⟩; have HB1 := Lib.hid hb1; clear hb1)
    go_loopw [8, 9, 17] (fun e vh i wr => ∃ (E V : Value) (j : Nat), e = E ∧ vh = V ∧ i = .int .i64 (j : Int) ∧ j ≤ n ∧ BuildP k o (ss.take j) E wr ∧ Row w.heap.size wr V (hasN (ss.take j)) ∧ Below w.heap.size w wr) (fun _ _ i _ => n - natOf i)
    case atStart => exact ⟨_, _, 0, rfl, rfl, rfl, Nat.zero_le _, ⟨HE0.out.1, fun h => ⟨_, HE0.out.2 h, ⟨HIK.out, HIO.out⟩, ⟨rfl, rfl⟩⟩⟩, World.ownsRow_nil _ _ _ _, HB1.out⟩
    case round =>
      obtain ⟨E, V, j, rfl, rfl, rfl, hj, hp, hrow, hbl⟩ := hrel
      by_cases hjn : j < n
      · have hjs : j < ss.length := by rw [HN.out]; exact hjn
        have hce : wr.cell? ⟨blk, off + j, none⟩ = some (.string (nthS ss j)) := (World.cell?_of_block (hbl.block _ (World.block_lt_of_cell? _ _ (HC.out j hjn)))).trans (HC.out j hjn)
        have hjn' : (j : Int) < (n : Int) := by omega
        have hj0 : ¬ ((j : Int) < 0) := by omega
        have hwe := wrapE_any hp hjs
        have hxs : (nthS ss j).size ≤ maxLen := by
          refine HSZ.out _ ?_
          rw [nthS, List.getD_eq_getElem?_getD, List.getElem?_eq_getElem hjs]
          exact List.getElem_mem _
        have hnx := hasN_next hjs
        have HWE := Lib.hid hwe; have HJJ := Lib.hid hjn; have HWD := Lib.hid fun w' => word_any (nthS ss j) hxs w'; have HROW := Lib.hid hrow; have HBL := Lib.hid hbl
        clear hwe hj hjn hp hxs hbl hjs
        by_cases h8 : j < 8
        · rw [if_pos h8] at hnx
          have h8' : (j : Int) < 8 := by omega
          have HNX := Lib.hid hnx
          have hml : (hasN (ss.take j)).length ≤ 8 := by rw [hasN_len]; omega
          have HML := Lib.hid hml
          clear hnx h8 hml
          rcases hrow.2 with ⟨hv, hz⟩ | ⟨g, cp, cur, hv, _, _, hcp, _⟩
          · subst hv
            have he : hasN (ss.take j) = [] := List.length_eq_zero_iff.1 hz
            have HEM := Lib.hid he
            clear hrow hz he
            go_wp2_with (first
              | (go_at_call 22; refine HWE.out.mono ?_; rintro ev w5 ⟨E', rfl, hp5, hb5⟩; have HP5 := Lib.hid hp5; have HB5 := Lib.hid (keepW HBL.out hb5); clear hp5 hb5)
              | (go_at_call 28; refine (HWD.out _).mono ?_; rintro ev w7 ⟨rfl, rfl⟩)
              | (at_builtin; go_loud (refine wpList_append_own_none rfl _ _ 23 rfl w.heap.size 9 i0 1 Tryz.underlying23 HI.out _ 1 [.string (wordB (nthS ss j))] rfl (World.ownsRow_lit _ #[.string (wordB (nthS ss j))] 1 HB5.out.size (by decide) rfl) rfl ?_)))
            go_roundw
            case rel =>
              refine ⟨E', _, j + 1, rfl, rfl, by go_num, HJJ.out, HP5.out.keep ((Below.refl _ _).alloc (Nat.le_refl _) _), ?_, HB5.out.alloc HB5.out.size _⟩
              rw [HNX.out, HEM.out]
              exact World.ownsRow_lit _ #[.string (wordB (nthS ss j))] 1 HB5.out.size (by decide) rfl
            case measure => have := HJJ.out; simp [natOf]; omega
          · subst hv
            clear hrow hcp
            obtain ⟨m, hm⟩ : ∃ m, (hasN (ss.take j)).length = m := ⟨_, rfl⟩
            have hrow' : wr.ownsRow w.heap.size 9 1 (.slice (some ⟨g, 0, none⟩) m cp) m ((hasN (ss.take j)).map strV) := by rw [← hm]; exact HROW.out
            rw [hm] at HML ⊢
            have HRW := Lib.hid hrow'; have HM := Lib.hid hm
            clear hrow' hm
            go_wp2_with (first
              | (go_at_call 22; refine HWE.out.mono ?_; rintro ev w5 ⟨E', rfl, hp5, hb5⟩; have HB5W := Lib.hid hb5; have HP5 := Lib.hid hp5; have HB5 := Lib.hid (keepW HBL.out hb5); have hnews := (own_below HRW.out hb5).alloc (.cells #[.string (wordB (nthS ss j))] 9) |>.cells (g := g) rfl; have HNW := Lib.hid hnews; clear hp5 hb5 hnews)
              | (go_at_call 28; refine (HWD.out _).mono ?_; rintro ev w7 ⟨rfl, rfl⟩)
              | (at_builtin; go_loud (refine wpList_append_own _ rfl _ _ 23 rfl w.heap.size 9 i0 (.string ByteArray.empty) 1 16 Tryz.underlying23 HI.out HZ0.out HZ1.out HZ2.out rfl (by decide) _ _ _ rfl (World.ownsRow_lit _ #[.string (wordB (nthS ss j))] 1 HB5.out.size (by decide) rfl) ⟨g, 0, none⟩ m cp ((hasN (ss.take j)).map strV) rfl (by rw [List.length_map, HM.out, Nat.mul_one]) ?c1 ?c2 ?c3 ?c4 ?c5 ?_)))
            case c1 => exact HNW.out
            case c2 => intro u hu; obtain ⟨x, _, rfl⟩ := List.mem_map.1 hu; rfl
            case c3 => have := HML.out; unfold maxLen; omega
            case c4 => have := HML.out; omega
            case c5 => have := HB5.out.size; simp; omega
            intro v' w6 own6 grow6 _
            have hE7 : Below w.heap.size w w6 := (HB5.out.alloc HB5.out.size _).grown grow6 (by have := HB5.out.size; simp; omega) (fun q hq => by cases hq; exact HB5.out.size)
            have hP7 : BuildP k o (ss.take (j + 1)) E' w6 := HP5.out.keep (((Below.refl _ _).alloc (Nat.le_refl _) _).grown grow6 (by simp) (fun q hq => by cases hq; exact Nat.le_refl _))
            have hR7 : Row w.heap.size w6 v' (hasN (ss.take (j + 1))) := by
              rw [HNX.out]
              unfold Row
              rw [List.length_cons, List.map_cons, Nat.add_comm, HM.out]
              exact own6
            have HE7 := Lib.hid hE7; have HP7 := Lib.hid hP7; have HR7 := Lib.hid hR7
            clear hE7 hP7 hR7 own6 grow6
            go_wp2
            go_roundw
            case rel => exact ⟨E', v', j + 1, rfl, rfl, by go_num, HJJ.out, HP7.out, HR7.out, HE7.out⟩
            case measure => have := HJJ.out; simp [natOf]; omega
        · rw [if_neg h8] at hnx
          have h8' : ¬ (j : Int) < 8 := by omega
          have HNX := Lib.hid hnx
          clear hnx h8 hrow
          go_wp2_with (first
            | (go_at_call 22; refine HWE.out.mono ?_; rintro ev w5 ⟨E', rfl, hp5, hb5⟩; have HP5 := Lib.hid hp5; have HB5 := Lib.hid (keepW HBL.out hb5); have HR5 := Lib.hid (own_below HROW.out hb5); clear hp5 hb5))
          go_roundw
          case rel => exact ⟨E', _, j + 1, rfl, rfl, by go_num, HJJ.out, HP5.out, by rw [HNX.out]; exact HR5.out, HB5.out⟩
          case measure => have := HJJ.out; simp [natOf]; omega
      · have hjn' : ¬ ((j : Int) < (n : Int)) := by omega
        have hje : ss.take j = ss := List.take_of_length_le (by rw [HN.out]; omega)
        rw [hje] at hp hrow
        have HP := Lib.hid hp; have HROW := Lib.hid hrow; have HBL := Lib.hid hbl
        clear hj hjn hp hrow hbl hje
        go_wp2
        go_ret2
        exact ⟨_, _, rfl, ⟨HP.out.1, HP.out.2, HROW.out⟩, HBL.out⟩
end Go.Proofs.YtidkpdabidlnnaaGreatDoor


/-
  What was built: the law's walk.
-/

namespace Go.Proofs.YtidkpdabidlnnaaGreatDoor

open Go.Den Go.RowKit

set_option maxRecDepth 100000

set_option linter.unusedSectionVars false

variable [Inhabited Root]

theorem below_drewN (w : World) (q : Nat) : Below w.heap.size w (w.drewN q) := ⟨rfl, rfl, rfl, Nat.le_refl _, fun _ _ => rfl⟩
theorem same_rows {w : World} {v u : Value} {l : List ByteArray} (hl : l.length ≤ 100) (h1 : RowC w v l) (h2 : RowC w u l) :
    Calls Tryz.prog 14 #[v, u] w fun ev w' => ev = .returned (.bool true) ∧ Below w.heap.size w w' := by
  obtain ⟨A, c, rfl, _, hA⟩ := h1
  obtain ⟨B, d, rfl, _, hB⟩ := h2
  cases l with
  | nil => exact (Tryz.slices_Equal_string_empty A B c 0 d w (by decide)).mono fun ev w' ⟨h1, h2⟩ => ⟨h1, h2 ▸ Below.refl _ _⟩
  | cons x l =>
    obtain ⟨g, rfl, hc⟩ := hA (by simp)
    obtain ⟨g2, rfl, hc2⟩ := hB (by simp)
    have hg : ∀ j, j < (x :: l).length → nthS (x :: l) j = (x :: l).getD j ByteArray.empty := fun j _ => rfl
    exact (Tryz.slices_Equal_string g 0 (x :: l).length c g2 0 (x :: l).length d (x :: l) (x :: l) w (Nat.le_refl _) (Nat.le_refl _) (by omega) (by omega)
      (fun j hj => by rw [Nat.zero_add, hc j hj]; rfl) (fun j hj => by rw [Nat.zero_add, hc2 j hj]; rfl)).mono fun ev w' ⟨h1, q, h2⟩ => ⟨by rw [h1]; simp, h2 ▸ below_drewN w q⟩
theorem BuiltE.lines {k o : Int} {l : List ByteArray} {f : Er} (h : BuiltE k o l f) : errS f = lineF (bsl (hasN l)) k o := by rw [errS_line h.inn, h.ws]
theorem BuiltE.small {k o : Int} {l : List ByteArray} {f : Er} (h : BuiltE k o l f) : smallW f := fun x hx => hasN_small l x (by rw [← h.ws]; exact hx)
theorem BuiltE.ok {k o : Int} {l : List ByteArray} {f : Er} (h : BuiltE k o l f) : lineOk f := lineOk_of h.small (by rw [h.inn]; rfl)
theorem kind_bt (hR : R6) {k o : Int} {l : List ByteArray} {w wc : World} {f : Er} (h : BuiltE k o l f) (a : At w f wc) : Calls Tryz.prog 10 #[.iface f.ty f.cont] wc fun ev w' => ev = .returned (.tuple #[.int .i64 k, .bool true]) ∧ At w f w' :=
  (kind_any f wc a.lies (by have := h.size; omega) (hR.ert.held a.held)).mono fun ev w' ⟨h1, h2⟩ => ⟨by rw [h1, (fst_inner h.inn).1]; rfl, a.next h2⟩
theorem off_bt (hR : R6) {k o : Int} {l : List ByteArray} {w wc : World} {f : Er} (h : BuiltE k o l f) (a : At w f wc) : Calls Tryz.prog 11 #[.iface f.ty f.cont] wc fun ev w' => ev = .returned (.tuple #[.int .i64 o, .bool true]) ∧ At w f w' :=
  (off_any f wc a.lies (by have := h.size; omega) (hR.ert.held a.held)).mono fun ev w' ⟨h1, h2⟩ => ⟨by rw [h1, (fst_inner h.inn).2.1]; rfl, a.next h2⟩
theorem is_bt {k o : Int} {l : List ByteArray} {w wc : World} {f : Er} (h : BuiltE k o l f) (a : At w f wc) (j : Int) : Calls Tryz.prog 16 #[.iface f.ty f.cont, .int .i64 j] wc fun ev w' => ev = .returned (.bool (k == j)) ∧ At w f w' :=
  (fis_any f j wc a.lies (by have := h.size; omega)).mono fun ev w' ⟨h1, h2⟩ => ⟨by rw [h1, (fst_inner h.inn).2.2], a.next h2⟩
theorem line_bt (hR : R6) {k o : Int} {l : List ByteArray} {w wc : World} {f : Er} (h : BuiltE k o l f) (a : At w f wc) : Calls Tryz.prog 12 #[.iface f.ty f.cont] wc fun ev w' => ev = .returned (.tuple #[.string (st (lineF (bsl (hasN l)) k o)), .bool true]) ∧ At w f w' :=
  (line_any hR f wc a.lies (by have := h.size; omega) h.small a.held).mono fun ev w' ⟨h1, h2⟩ => ⟨by rw [h1]; unfold lineV; rw [h.inn, h.lines]; rfl, a.next h2⟩
theorem err_bt (hR : R6) {k o : Int} {l : List ByteArray} {w wc : World} {f : Er} (h : BuiltE k o l f) (a : At w f wc) : Calls Tryz.prog f.erf #[f.cont] wc fun ev w' => ev = .returned (.string (st (lineF (bsl (hasN l)) k o))) ∧ At w f w' :=
  (err_any hR f h.ok (by have := h.size; omega) wc a.held a.lies).mono fun ev w' ⟨h1, h2⟩ => ⟨by rw [h1, h.lines], a.next h2⟩
theorem notes_bt {k o : Int} {l : List ByteArray} {w wc : World} {f : Er} (h : BuiltE k o l f) (a : At w f wc) : Calls Tryz.prog 15 #[.iface f.ty f.cont] wc fun ev w' => ∃ v, ev = .returned v ∧ RowC w' v (hasN l) ∧ At w f w' :=
  (notes_any f wc a.lies (by have := h.size; omega)).mono fun ev w' ⟨v, h1, h2, h3⟩ => ⟨v, h1, by have := h2.code; rw [h.ws] at this; exact this, a.next h3⟩
theorem heavy_in {v : Value} {ss : List ByteArray} {w w' : World} (hb : StrsA w v ss) (hbb : Below w.heap.size w w') : StrsA w' v ss := by
  rcases hb with h | ⟨blk, off, cap, h1, h3, h2⟩
  · exact .inl h
  · exact .inr ⟨blk, off, cap, h1, h3, fun j hj => (World.cell?_of_block (hbb.block _ (World.block_lt_of_cell? _ _ (h2 j hj)))).trans (h2 j hj)⟩
set_option maxHeartbeats 8000000 in
theorem faultBuilds_run (hR : R6) (k o2 o : Int) (ik : In64 k) (i2 : In64 o2) (io : In64 o) (v : Value) (ss : List ByteArray) (hsz : ∀ x ∈ ss, x.size ≤ maxLen) (w : World) (hb : StrsA w v ss) (hw : Held w) :
    Calls Tryz.prog 3 #[.int .i64 k, .int .i64 o2, .int .i64 o, v] w fun ev w' => ev = .returned (.bool true) ∧ Below w.heap.size w w' := by
  have HKN := Lib.hid (known6_any hR w hw)
  have hhv : ∀ w', Below w.heap.size w w' → Calls Tryz.prog 8 #[v] w' fun ev w2 => ev = .returned (.bool (heavyB ss)) ∧ w2 = w' := fun w' hbb => heavy_any v ss w' (heavy_in hb hbb)
  obtain ⟨A, n, c, hv⟩ : ∃ A n c, v = .slice A n c := by
    rcases hb with ⟨h, _⟩ | ⟨blk, off, cap, h1, _⟩
    · exact ⟨_, _, _, h⟩
    · exact ⟨_, _, _, h1⟩
  have HHV := Lib.hid hhv
  clear hhv
  cases hh : heavyB ss with
  | true =>
    rw [hh] at HHV
    subst hv
    clear hw hb hsz hh ik i2 io
    go_enter Tryz.func3, Tryz.ntmps3
    go_wp2_with (first
      | (go_at_call 7; refine HKN.out.mono ?_; rintro ev w1 ⟨rfl, hb1⟩; have HB1 := Lib.hid hb1; clear hb1)
      | (go_at_call 8; refine (HHV.out _ HB1.out).mono ?_; rintro ev w2 ⟨rfl, rfl⟩))
    go_ret
    exact ⟨rfl, HB1.out⟩
  | false =>
    rw [hh] at HHV
    have hfew := heavy_few hh
    have HBD := Lib.hid fun (w' : World) (hbb : Below w.heap.size w w') => build_any k o ik io v ss hfew hsz w' (heavy_in hb hbb)
    have HW := Lib.hid hw; have HI2 := Lib.hid i2; have HIK := Lib.hid ik; have HIO := Lib.hid io
    subst hv
    clear hw hb hsz hh i2 ik io hfew
    by_cases hk : k = 0
    · subst hk
      go_enter Tryz.func3, Tryz.ntmps3
      go_wp2_with (first
        | (go_at_call 7; refine HKN.out.mono ?_; rintro ev w1 ⟨rfl, hb1⟩; have HB1 := Lib.hid hb1; clear hb1)
        | (go_at_call 8; refine (HHV.out _ HB1.out).mono ?_; rintro ev w2 ⟨rfl, rfl⟩)
        | (go_at_call 9; refine (HBD.out _ HB1.out).mono ?_; rintro ev w3 ⟨e, vh, rfl, ⟨he, _, _⟩, hb3⟩; obtain rfl := he rfl; have HB3 := Lib.hid (keepW HB1.out hb3); clear hb3 he))
      go_ret
      exact ⟨rfl, HB3.out⟩
    · have hk0 : (k == 0) = false := by rw [beq_eq_false_iff_ne]; exact hk
      have HK := Lib.hid hk
      clear hk
      go_enter Tryz.func3, Tryz.ntmps3
      go_upto_region 6 with (first
        | (go_at_call 7; refine HKN.out.mono ?_; rintro ev w1 ⟨rfl, hb1⟩; have HB1 := Lib.hid hb1; clear hb1)
        | (go_at_call 8; refine (HHV.out _ HB1.out).mono ?_; rintro ev w2 ⟨rfl, rfl⟩)
        | (go_at_call 9; refine (HBD.out _ HB1.out).mono ?_; rintro ev w3 ⟨e, vh, rfl, ⟨_, he, hrow⟩, hb3⟩; obtain ⟨f, rfl, hl, hbe⟩ := he HK.out; have hb3' := keepW HB1.out hb3; have A0 := Lib.hid (⟨Below.refl _ _, hl, HW.out.below hb3'⟩ : At w3 f w3); have HB3 := Lib.hid hb3'; have HBE := Lib.hid hbe; have HRC := Lib.hid hrow.code; clear hb3 he hl hbe hrow hb3'))
      obtain ⟨L, hL⟩ : ∃ L, st (lineF (bsl (hasN ss)) k o) = L := ⟨_, rfl⟩
      obtain ⟨D, hD, hDs, hDc⟩ : ∃ D, st (Lib.itoa o2) = D ∧ D.size ≤ 40 ∧ ∀ w, Calls Tryz.prog 18 #[.int .i64 o2] w fun ev w' => ev = .returned (.string D) ∧ Below w.heap.size w w' := ⟨_, rfl, itoa_len (in_R HI2.out), fun w => number_any o2 HI2.out w⟩
      have hln : ∀ wc, At w3 f wc → Calls Tryz.prog 12 #[.iface f.ty f.cont] wc fun ev w' => ev = .returned (.tuple #[.string L, .bool true]) ∧ At w3 f w' := fun wc a => by rw [← hL]; exact line_bt hR HBE.out a
      have hrl : ∀ wc, Below w3.heap.size w3 wc → Calls Tryz.prog 13 #[vh, .int .i64 k, .int .i64 o] wc fun ev w' => ev = .returned (.string L) ∧ Below wc.heap.size wc w' := fun wc hb => by
        rw [← hL]
        exact refLine_any (hasN ss) (by rw [hasN_len]; omega) (hasN_small ss) k o HIK.out HIO.out vh wc (HRC.out.keep hb)
      have hse : ∀ wc, At w3 f wc → Calls Tryz.prog 17 #[.int .i64 o2] wc fun ev w' => ev = .returned (.string (⟨#[107, 105, 110, 100, 32]⟩ ++ D)) ∧ At w3 f w' := fun wc a => by
        have := sortErr_any hR o2 HI2.out wc a.held
        rw [← st_app, hD] at this
        exact this.mono fun ev w' ⟨h1, h2⟩ => ⟨h1, a.next h2⟩
      have her : ∀ wc, At w3 f wc → Calls Tryz.prog f.erf #[f.cont] wc fun ev w' => ev = .returned (.string L) ∧ At w3 f w' := fun wc a => by rw [← hL]; exact err_bt hR HBE.out a
      have hl100 : (hasN ss).length ≤ 100 := by rw [hasN_len]; omega
      have HLN := Lib.hid hln; have HRL := Lib.hid hrl; have HSE := Lib.hid hse; have HNU := Lib.hid hDc; have HL100 := Lib.hid hl100
      have hne := eq_nil f
      have hkk : (k == k) = true := beq_self_eq_true k
      clear hL hD hln hrl hse hDc hl100
      obtain ⟨hnum, hmE⟩ := erf_num HBE.out.ok
      by_cases hko : o2 = k
      · have hk1 : (k == o2) = true := by rw [beq_iff_eq]; exact hko.symm
        have hk2 : (o2 == k) = true := by rw [beq_iff_eq]; exact hko
        clear hko
        rcases hnum with hnum | hnum
        · rw [hnum] at her hmE
          have HER := Lib.hid her
          clear her hnum
          go_wp2_with (first
            | (go_at_call 10; refine (kind_bt hR HBE.out A0.out).mono ?_; rintro ev w4 ⟨rfl, ha⟩; have A1 := Lib.hid ha; clear ha)
            | (go_at_call 11; refine (off_bt hR HBE.out A1.out).mono ?_; rintro ev w5 ⟨rfl, ha⟩; have A2 := Lib.hid ha; clear ha)
            | (go_at_call 12; refine (HLN.out _ A2.out).mono ?_; rintro ev w6 ⟨rfl, ha⟩; have A3 := Lib.hid ha; clear ha)
            | (go_at_call 13; refine (HRL.out _ A3.out.below).mono ?_; rintro ev w7 ⟨rfl, hb⟩; have A4 := Lib.hid (A3.out.next hb); clear hb)
            | (go_at_call 148; refine (HER.out _ A4.out).mono ?_; rintro ev w8 ⟨rfl, ha⟩; have A5 := Lib.hid ha; clear ha)
            | (go_at_call 15; refine (notes_bt HBE.out A5.out).mono ?_; rintro ev w9 ⟨nv, rfl, hnr, ha⟩; have HNR := Lib.hid hnr; have A6 := Lib.hid ha; clear ha hnr)
            | (go_at_call 14; refine (same_rows HL100.out HNR.out (HRC.out.keep A6.out.below)).mono ?_; rintro ev w10 ⟨rfl, hb⟩; have A7 := Lib.hid (A6.out.next hb); clear hb)
            | (go_at_call 16; have hx := A8.out; refine (is_bt HBE.out hx o2).mono ?_; rintro ev w12 ⟨rfl, ha⟩; have A9 := Lib.hid ha; clear ha hx)
            | (go_at_call 16; refine (is_bt HBE.out A7.out k).mono ?_; rintro ev w11 ⟨rfl, ha⟩; have A8 := Lib.hid ha; clear ha)
            | (go_at_call 17; refine (HSE.out _ A9.out).mono ?_; rintro ev w13 ⟨rfl, ha⟩; have A10 := Lib.hid ha; clear ha)
            | (go_at_call 18; refine (HNU.out _).mono ?_; rintro ev w14 ⟨rfl, hb⟩; have A11 := Lib.hid (A10.out.next hb); clear hb))
          go_ret
          exact ⟨rfl, keepW HB3.out A11.out.below⟩
        · rw [hnum] at her hmE
          have HER := Lib.hid her
          clear her hnum
          go_wp2_with (first
            | (go_at_call 10; refine (kind_bt hR HBE.out A0.out).mono ?_; rintro ev w4 ⟨rfl, ha⟩; have A1 := Lib.hid ha; clear ha)
            | (go_at_call 11; refine (off_bt hR HBE.out A1.out).mono ?_; rintro ev w5 ⟨rfl, ha⟩; have A2 := Lib.hid ha; clear ha)
            | (go_at_call 12; refine (HLN.out _ A2.out).mono ?_; rintro ev w6 ⟨rfl, ha⟩; have A3 := Lib.hid ha; clear ha)
            | (go_at_call 13; refine (HRL.out _ A3.out.below).mono ?_; rintro ev w7 ⟨rfl, hb⟩; have A4 := Lib.hid (A3.out.next hb); clear hb)
            | (go_at_call 151; refine (HER.out _ A4.out).mono ?_; rintro ev w8 ⟨rfl, ha⟩; have A5 := Lib.hid ha; clear ha)
            | (go_at_call 15; refine (notes_bt HBE.out A5.out).mono ?_; rintro ev w9 ⟨nv, rfl, hnr, ha⟩; have HNR := Lib.hid hnr; have A6 := Lib.hid ha; clear ha hnr)
            | (go_at_call 14; refine (same_rows HL100.out HNR.out (HRC.out.keep A6.out.below)).mono ?_; rintro ev w10 ⟨rfl, hb⟩; have A7 := Lib.hid (A6.out.next hb); clear hb)
            | (go_at_call 16; have hx := A8.out; refine (is_bt HBE.out hx o2).mono ?_; rintro ev w12 ⟨rfl, ha⟩; have A9 := Lib.hid ha; clear ha hx)
            | (go_at_call 16; refine (is_bt HBE.out A7.out k).mono ?_; rintro ev w11 ⟨rfl, ha⟩; have A8 := Lib.hid ha; clear ha)
            | (go_at_call 17; refine (HSE.out _ A9.out).mono ?_; rintro ev w13 ⟨rfl, ha⟩; have A10 := Lib.hid ha; clear ha)
            | (go_at_call 18; refine (HNU.out _).mono ?_; rintro ev w14 ⟨rfl, hb⟩; have A11 := Lib.hid (A10.out.next hb); clear hb))
          go_ret
          exact ⟨rfl, keepW HB3.out A11.out.below⟩
      · have hk1 : (k == o2) = false := by rw [beq_eq_false_iff_ne]; exact fun h => hko h.symm
        have hk2 : (o2 == k) = false := by rw [beq_eq_false_iff_ne]; exact hko
        clear hko
        rcases hnum with hnum | hnum
        · rw [hnum] at her hmE
          have HER := Lib.hid her
          clear her hnum
          go_wp2_with (first
            | (go_at_call 10; refine (kind_bt hR HBE.out A0.out).mono ?_; rintro ev w4 ⟨rfl, ha⟩; have A1 := Lib.hid ha; clear ha)
            | (go_at_call 11; refine (off_bt hR HBE.out A1.out).mono ?_; rintro ev w5 ⟨rfl, ha⟩; have A2 := Lib.hid ha; clear ha)
            | (go_at_call 12; refine (HLN.out _ A2.out).mono ?_; rintro ev w6 ⟨rfl, ha⟩; have A3 := Lib.hid ha; clear ha)
            | (go_at_call 13; refine (HRL.out _ A3.out.below).mono ?_; rintro ev w7 ⟨rfl, hb⟩; have A4 := Lib.hid (A3.out.next hb); clear hb)
            | (go_at_call 148; refine (HER.out _ A4.out).mono ?_; rintro ev w8 ⟨rfl, ha⟩; have A5 := Lib.hid ha; clear ha)
            | (go_at_call 15; refine (notes_bt HBE.out A5.out).mono ?_; rintro ev w9 ⟨nv, rfl, hnr, ha⟩; have HNR := Lib.hid hnr; have A6 := Lib.hid ha; clear ha hnr)
            | (go_at_call 14; refine (same_rows HL100.out HNR.out (HRC.out.keep A6.out.below)).mono ?_; rintro ev w10 ⟨rfl, hb⟩; have A7 := Lib.hid (A6.out.next hb); clear hb)
            | (go_at_call 16; have hx := A8.out; refine (is_bt HBE.out hx o2).mono ?_; rintro ev w12 ⟨rfl, ha⟩; have A9 := Lib.hid ha; clear ha hx)
            | (go_at_call 16; refine (is_bt HBE.out A7.out k).mono ?_; rintro ev w11 ⟨rfl, ha⟩; have A8 := Lib.hid ha; clear ha)
            | (go_at_call 17; refine (HSE.out _ A9.out).mono ?_; rintro ev w13 ⟨rfl, ha⟩; have A10 := Lib.hid ha; clear ha)
            | (go_at_call 18; refine (HNU.out _).mono ?_; rintro ev w14 ⟨rfl, hb⟩; have A11 := Lib.hid (A10.out.next hb); clear hb))
          go_ret
          exact ⟨rfl, keepW HB3.out A11.out.below⟩
        · rw [hnum] at her hmE
          have HER := Lib.hid her
          clear her hnum
          go_wp2_with (first
            | (go_at_call 10; refine (kind_bt hR HBE.out A0.out).mono ?_; rintro ev w4 ⟨rfl, ha⟩; have A1 := Lib.hid ha; clear ha)
            | (go_at_call 11; refine (off_bt hR HBE.out A1.out).mono ?_; rintro ev w5 ⟨rfl, ha⟩; have A2 := Lib.hid ha; clear ha)
            | (go_at_call 12; refine (HLN.out _ A2.out).mono ?_; rintro ev w6 ⟨rfl, ha⟩; have A3 := Lib.hid ha; clear ha)
            | (go_at_call 13; refine (HRL.out _ A3.out.below).mono ?_; rintro ev w7 ⟨rfl, hb⟩; have A4 := Lib.hid (A3.out.next hb); clear hb)
            | (go_at_call 151; refine (HER.out _ A4.out).mono ?_; rintro ev w8 ⟨rfl, ha⟩; have A5 := Lib.hid ha; clear ha)
            | (go_at_call 15; refine (notes_bt HBE.out A5.out).mono ?_; rintro ev w9 ⟨nv, rfl, hnr, ha⟩; have HNR := Lib.hid hnr; have A6 := Lib.hid ha; clear ha hnr)
            | (go_at_call 14; refine (same_rows HL100.out HNR.out (HRC.out.keep A6.out.below)).mono ?_; rintro ev w10 ⟨rfl, hb⟩; have A7 := Lib.hid (A6.out.next hb); clear hb)
            | (go_at_call 16; have hx := A8.out; refine (is_bt HBE.out hx o2).mono ?_; rintro ev w12 ⟨rfl, ha⟩; have A9 := Lib.hid ha; clear ha hx)
            | (go_at_call 16; refine (is_bt HBE.out A7.out k).mono ?_; rintro ev w11 ⟨rfl, ha⟩; have A8 := Lib.hid ha; clear ha)
            | (go_at_call 17; refine (HSE.out _ A9.out).mono ?_; rintro ev w13 ⟨rfl, ha⟩; have A10 := Lib.hid ha; clear ha)
            | (go_at_call 18; refine (HNU.out _).mono ?_; rintro ev w14 ⟨rfl, hb⟩; have A11 := Lib.hid (A10.out.next hb); clear hb))
          go_ret
          exact ⟨rfl, keepW HB3.out A11.out.below⟩
theorem faultBuilds_walk (hR : R6) (k : Int) (k0 : -9223372036854775808 ≤ k) (k1 : k ≤ 9223372036854775807) (o2 : Int) (p0 : -9223372036854775808 ≤ o2) (p1 : o2 ≤ 9223372036854775807) (o : Int) (o0 : -9223372036854775808 ≤ o) (o1 : o ≤ 9223372036854775807) (v : Value) (ss : List ByteArray) (hb : StrsA rootW v ss ∧ ∀ x ∈ ss, x.size ≤ maxLen) (w : World) (hw : Held w) :
    Calls Tryz.prog 3 #[.int .i64 k, .int .i64 o2, .int .i64 o, v] w fun ev w' => ev = .returned (.bool true) ∧ Below w.heap.size w w' :=
  faultBuilds_run hR k o2 o ⟨k0, k1⟩ ⟨p0, p1⟩ ⟨o0, o1⟩ v ss hb.2 w (hb.1.held hw) hw
end Go.Proofs.YtidkpdabidlnnaaGreatDoor


/-
  A wide number among a statement's arguments: opened, and shut.
-/


namespace Go.Proofs.YtidkpdabidlnnaaGreatDoor

set_option maxRecDepth 100000

open Go.ChangeShapes Go.WideShapes Go.ChangeAt Go.RowKit Go.Joins

theorem own : ownKnob Tryz.prog.godebug = none := by kernel_rfl
theorem cellsW : Tryz.prog.cellsOf 125 = 2 := by kernel_rfl

theorem wf_i64 {n : Int} : (Lit.int .i64 n).wf = true ↔ -9223372036854775808 ≤ n ∧ n ≤ 9223372036854775807 := by
  simp [Lit.wf, IntKind.min, IntKind.max, IntKind.signed, IntKind.bits]
theorem wf_u64 {n : Int} : (Lit.int .u64 n).wf = true ↔ 0 ≤ n ∧ n ≤ 18446744073709551615 := by
  simp [Lit.wf, IntKind.min, IntKind.max, IntKind.signed, IntKind.bits]
theorem wf_u32 {n : Int} : (Lit.int .u32 n).wf = true ↔ 0 ≤ n ∧ n ≤ 4294967295 := by
  simp [Lit.wf, IntKind.min, IntKind.max, IntKind.signed, IntKind.bits]

theorem open_w {H : Type} {enc : TypeId × Value → H} {w : World} {b0 base : Nat} {spare : Nat → Bool} {held : Bool} {v : Value} {d : DataW H} {p : List MemPlace}
    (hv : Value.okWide Tryz.prog w .any b0 125 v) (h : DataW.Trod enc Tryz.prog w base spare held 125 v d p) :
    ∃ n : Int, InR n ∧ v = .agg #[.int .i64 (hi n), .int .u64 (lo n)] ∧ d = .agg [.lit (.int .i64 (hi n)), .lit (.int .u64 (lo n))] ∧ p = [] := by
  obtain ⟨c0, c1, y0, y1, m, rfl, rfl, rfl, hy0, hy1⟩ := open_agg2 Tryz.underlying125 (by kernel_rfl) cellsW hv h
  obtain ⟨a, e0, rfl, wa⟩ := DataW.trod_int Tryz.underlying2 hy0
  obtain ⟨b, e1, rfl, wb⟩ := DataW.trod_int Tryz.underlying71 hy1
  simp at e0 e1
  subst e0 e1
  have ha := wf_i64.1 wa; have hb := wf_u64.1 wb
  exact ⟨a * 18446744073709551616 + b, inR_of hb.1 hb.2 ha.1 ha.2, by rw [hi_of hb.1 hb.2 rfl, lo_of hb.1 hb.2 rfl], by rw [hi_of hb.1 hb.2 rfl, lo_of hb.1 hb.2 rfl], rfl⟩

theorem shut_w {H : Type} {enc : TypeId × Value → H} {w : World} {base : Nat} {spare : Nat → Bool} {held : Bool} {n : Int} (hn : InR n) :
    DataW.Trod enc Tryz.prog w base spare held 125 (.agg #[.int .i64 (hi n), .int .u64 (lo n)]) (.agg [.lit (.int .i64 (hi n)), .lit (.int .u64 (lo n))]) [] :=
  shut_agg2 (y0 := (.lit (.int .i64 (hi n)), [])) (y1 := (.lit (.int .u64 (lo n)), [])) Tryz.underlying125 (by kernel_rfl) cellsW
    ⟨1, by simp [DataW.trod, Tryz.underlying2, wf_i64.2 (hi_bd hn)]⟩ ⟨1, by simp [DataW.trod, Tryz.underlying71, wf_u64.2 (lo_bd n)]⟩
end Go.Proofs.YtidkpdabidlnnaaGreatDoor


/-
  Statements of fault: from the row's condition to what the walks ask; arguments that are slices of strings.
-/
















namespace Go.Proofs.YtidkpdabidlnnaaGreatDoor

open Go.ChangeShapes Go.WideShapes Go.ChangeAt Go.RowKit Go.Den

set_option maxRecDepth 100000

theorem laidOut : laidOutB Tryz.prog = true := by kernel_rfl
theorem returnsInHanded_laid {H : Type} {enc : TypeId × Value → H} {a : Assume} {C : Checked} {os : Os} {f : FuncId} {fn : Func} {s : ChangeSpec} {conds : List PathCond} {apart fresh handsOn again : Bool} {laid : List (String × DataW Unit)}
    (own : ownKnob C.prog.godebug = none) (started : os.Started) (noInit : C.prog.inits.idxOf? f = none) (hfn : C.prog.funcs[f]? = some fn)
    (witness : ∃ (w : World) (tape : Tape) (i : Input), w.os = os ∧ (w.forCall tape i).Shaped C.prog ∧ i.vars = [] ∧ Input.okWide C.prog (w.forCall tape i) .any w.heap.size f i ∧
      ((s.pre enc C.prog fn conds apart (w.forCall tape i).memory i.args ∧ laidMetH C.prog laid (w.forCall tape i).memory) ∧ sizedMet enc C.prog fn (OpenSpec.ofChange s) apart (w.forCall tape i).memory i.args) ∧ a.holds C.prog (lone (Frame.enter C.prog f i.args .normal) [] (w.forCall tape i)))
    (contract : ∀ (W : World) (base : Nat) (args : Array Value) (ds gs : List (DataW H)) (before : List MemPlace),
      (∀ (j : Nat) t v, fn.params[j]? = some t → args[j]? = some v → Value.okWide C.prog W .any base t v) →
      DataW.Whole enc C.prog fn.params.toList s.vars apart W args.toList ds gs before →
      laidMetH C.prog laid W → W.ShapedOpen C.prog →
      Calls C.prog f args W fun e W' => ∃ v, e = .returned v ∧ s.post enc C.prog fn apart fresh handsOn again W args v W') :
    ReturnsInHanded a C os f .any (fun w args => (s.pre enc C.prog fn conds apart w args ∧ laidMetH C.prog laid w) ∧ sizedMet enc C.prog fn (OpenSpec.ofChange s) apart w args) (s.post enc C.prog fn apart fresh handsOn again) := by
  refine returnsInHanded_of_calls own started noInit witness ?_
  intro w tape i _ hsh _ hok hpre hholds
  obtain ⟨_, _, _, fn', hfn', _, _, _, _, hval⟩ := hok
  have e : fn' = fn := Option.some.inj (hfn'.symm.trans hfn)
  subst e
  obtain ⟨⟨⟨ds, gs, before, hw, hc⟩, hx⟩, hz⟩ := hpre
  have hw' := DataW.Whole.of_heap (w' := w.forCall tape i) (by rfl) hw
  refine (contract (w.forCall tape i) w.heap.size i.args ds gs before hval hw' (hx.of_heap (by rfl)) hsh).mono fun e W' ⟨v, he, hp⟩ => ?_
  subst he
  exact ChangeSpec.post_blind hp
theorem maxIs_of {W : World} (h : W.ShapedOpen Tryz.prog) : MaxIs W :=
  cell_of_shapedOpen_int (zero := #[.int .i64 0]) (t := 3) h (of_decide_eq_true (by kernel_rfl)) (by kernel_rfl) rfl (by kernel_rfl) (by kernel_rfl) Tryz.underlying3
theorem pow10_eq : (Rows.laid_internal_strconv_uint64pow10 : DataW Unit) = Lib.tabData .u64 Lib.pow10Tab := by kernel_rfl
theorem tab_of {W : World} {x y : String × DataW Unit} {r : List (String × DataW Unit)} (h : laidMet Tryz.prog (x :: y :: ("internal/strconv.uint64pow10", Rows.laid_internal_strconv_uint64pow10) :: r) W) : Tab W := by
  rw [pow10_eq] at h
  exact Lib.tabIs_of_head (g := 1) (t := 159) (by kernel_rfl) (by kernel_rfl) Tryz.underlying159 Tryz.underlying71 (by kernel_rfl) (by kernel_rfl) h.tail.tail
theorem open_str {H : Type} {enc : TypeId × Value → H} {w : World} {b0 base : Nat} {spare : Nat → Bool} {held : Bool} {v : Value} {d : DataW H} {p : List MemPlace}
    (hv : Value.okWide Tryz.prog w .any b0 9 v) (h : DataW.Trod enc Tryz.prog w base spare held 9 v d p) : ∃ s : ByteArray, v = .string s ∧ s.size ≤ maxLen := by
  obtain ⟨s, rfl, _, _, hs⟩ := Go.ChangeMaps.open_string Tryz.underlying9 hv h
  exact ⟨s, rfl, hs⟩
theorem spot_of {w : World} {base : Nat} {t e : TypeId} {a : Addr} {len cap : Nat} (ht : Tryz.prog.underlying t = some (.slice e)) (h : Value.okWide Tryz.prog w .any base t (.slice (some a) len cap)) : a.spot = none := by
  unfold Value.okWide at h
  rw [ht] at h
  unfold Cell.okWide at h
  rw [ht] at h
  unfold Cell.ok at h
  rw [ht] at h
  exact h.2.2.2.1
theorem open_bytes {H : Type} {enc : TypeId × Value → H} {w : World} {b0 base : Nat} {spare : Nat → Bool} {held : Bool} {v : Value} {d : DataW H} {p : List MemPlace}
    (hv : Value.okWide Tryz.prog w .any b0 53 v) (h : DataW.Trod enc Tryz.prog w base spare held 53 v d p) : ∃ bs, BytesA w v bs := by
  obtain ⟨a0, len0, cap0, rfl⟩ := okWide_slice Tryz.underlying53 hv
  obtain ⟨fuel, hf⟩ := h
  rcases open_ints Tryz.underlying53 Tryz.underlying5 (by kernel_rfl) hf with ⟨hcs, hx⟩ | ⟨a, len, cap, zs, hcs, _, hl, hm, hz, hx, hcell, hwz⟩
  · simp [Value.cells] at hcs
    obtain ⟨rfl, rfl, rfl⟩ := hcs
    exact ⟨[], .inl ⟨rfl, rfl⟩⟩
  · simp [Value.cells] at hcs
    obtain ⟨rfl, rfl, rfl⟩ := hcs
    obtain ⟨blk, off, spot⟩ := a
    have hspot : spot = none := spot_of Tryz.underlying53 hv
    subst hspot
    have hlz : len0 ≤ zs.length := by rw [hz]; split <;> omega
    refine ⟨(zs.take len0).map fun z => UInt8.ofNat z.toNat, .inr ⟨blk, off, cap0, ?_, fun j hj => ?_⟩⟩
    · rw [List.length_map, List.length_take, Nat.min_eq_left hlz]
    · have hj2 : j < len0 := by simpa [List.length_take, Nat.min_eq_left hlz] using hj
      have hj3 : j < zs.length := by omega
      have hc := hcell j hj3
      rw [add_plain] at hc
      rw [hc]
      have e : zs.getD j 0 = zs[j] := by rw [List.getD_eq_getElem?_getD, List.getElem?_eq_getElem hj3]; rfl
      have hw := hwz zs[j] (List.getElem_mem hj3)
      simp [Lit.wf, IntKind.min, IntKind.max, IntKind.signed, IntKind.bits] at hw
      rw [getElem!_pos _ j hj, List.getElem_map, List.getElem_take, e]
      have : (UInt8.ofNat zs[j].toNat).toNat = zs[j].toNat := by simp; omega
      show some (Value.int .u8 _) = some (.int .u8 (((UInt8.ofNat zs[j].toNat).toNat : Nat) : Int))
      rw [this]; congr 2; omega
/-- A slice of strings that came in. -/
theorem open_strl {H : Type} {enc : TypeId × Value → H} {w : World} {b0 base : Nat} {spare : Nat → Bool} {held : Bool} {v : Value} {d : DataW H} {p : List MemPlace}
    (hv : Value.okWide Tryz.prog w .any b0 23 v) (h : DataW.Trod enc Tryz.prog w base spare held 23 v d p) : ∃ ss, StrsA w v ss ∧ ∀ x ∈ ss, x.size ≤ maxLen := by
  obtain ⟨a0, len0, cap0, rfl⟩ := okWide_slice Tryz.underlying23 hv
  obtain ⟨fuel, hf⟩ := h
  rcases open_strings Tryz.underlying23 Tryz.underlying9 (by kernel_rfl) hf with ⟨hcs, hx⟩ | ⟨a, len, cap, ss, hcs, _, hl, hm, hz, hx, hcell, hszs⟩
  · simp [Value.cells] at hcs
    obtain ⟨rfl, rfl, rfl⟩ := hcs
    exact ⟨[], .inl ⟨rfl, rfl⟩, fun x hx => by cases hx⟩
  · simp [Value.cells] at hcs
    obtain ⟨rfl, rfl, rfl⟩ := hcs
    obtain ⟨blk, off, spot⟩ := a
    have hspot : spot = none := spot_of Tryz.underlying23 hv
    subst hspot
    have hlz : len0 ≤ ss.length := by rw [hz]; split <;> omega
    refine ⟨ss.take len0, .inr ⟨blk, off, cap0, ?_, ?_, fun j hj => ?_⟩, fun x hx => hszs x (List.mem_of_mem_take hx)⟩
    · rw [List.length_take, Nat.min_eq_left hlz]
    · rw [List.length_take, Nat.min_eq_left hlz]; exact Nat.le_trans hl hm
    · have hj2 : j < len0 := by simpa [List.length_take, Nat.min_eq_left hlz] using hj
      have hj3 : j < ss.length := by omega
      have hc := hcell j hj3
      rw [add_plain] at hc
      rw [hc]
      have e : ss.getD j ByteArray.empty = ss[j] := by rw [List.getD_eq_getElem?_getD, List.getElem?_eq_getElem hj3]; rfl
      rw [e, nthS, List.getD_eq_getElem?_getD, List.getElem?_take, if_pos hj2, List.getElem?_eq_getElem hj3]; rfl
theorem hn_name : Tryz.prog.globalNamed "errors.errorType" = some 0 := by kernel_rfl
theorem hn_type : (Tryz.prog.cutTypes.find? (·.1 == "internal/reflectlite.rtype")).map (·.2) = some 113 := by kernel_rfl
theorem hn_row : ((List.range (326 - 100)).filter fun t => Tryz.prog.rowNamed t [101, 114, 114, 111, 114]) = [27] := by kernel_rfl
theorem hn_size : Tryz.prog.types.size = 326 - 100 := by kernel_rfl
abbrev laid6 : List (String × DataW Unit) := [("math/bits.deBruijn32tab", Rows.laid_math_bits_deBruijn32tab), ("math/bits.deBruijn64tab", Rows.laid_math_bits_deBruijn64tab), ("internal/strconv.uint64pow10", Rows.laid_internal_strconv_uint64pow10), ("unicode/utf8.acceptRanges", Rows.laid_unicode_utf8_acceptRanges), ("errors.errorType", Rows.laid_errors_errorType), ("unicode/utf8.first", Rows.laid_unicode_utf8_first)]
abbrev laid5 : List (String × DataW Unit) := [("math/bits.deBruijn32tab", Rows.laid_math_bits_deBruijn32tab), ("math/bits.deBruijn64tab", Rows.laid_math_bits_deBruijn64tab), ("internal/strconv.uint64pow10", Rows.laid_internal_strconv_uint64pow10), ("unicode/utf8.acceptRanges", Rows.laid_unicode_utf8_acceptRanges), ("unicode/utf8.first", Rows.laid_unicode_utf8_first)]
theorem laid_parts {W : World} (h : laidMetH Tryz.prog laid6 W) : laidMet Tryz.prog laid5 W ∧ handlesMet Tryz.prog [("errors.errorType", Rows.laid_errors_errorType)] W := h
theorem ert_of {W : World} (h : laidMetH Tryz.prog laid6 W) : ErrT W := by
  obtain ⟨name, u, ty, e1, e2, e3, e4, e5⟩ := (laid_parts h).2 _ (List.mem_singleton.2 rfl)
  have en : name = [101, 114, 114, 111, 114] := (Option.some.inj e1).symm
  subst en
  obtain rfl := Option.some.inj (hn_type.symm.trans e2)
  have hm : ty ∈ (List.range (326 - 100)).filter fun t => Tryz.prog.rowNamed t [101, 114, 114, 111, 114] := List.mem_filter.2 ⟨List.mem_range.2 (by rw [← hn_size]; exact e3), e4⟩
  rw [hn_row] at hm
  obtain rfl := List.mem_singleton.1 hm
  have hh : typeHandle Tryz.prog 27 = .pointer (some ⟨9, 27, none⟩) := by kernel_rfl
  rw [hh] at e5
  simpa [ErrT] using World.var?_cell hn_name e5 0
theorem r6_of [Inhabited Root] (h : laidMetH Tryz.prog laid6 rootW) (hs : rootW.ShapedOpen Tryz.prog) : R6 :=
  ⟨tab_of (laid_parts h).1, maxIs_of hs, ert_of h⟩
/-- A world that meets the condition. -/
noncomputable def hold6 (os : Os) : World :=
  let w0 := World.holding Tryz.prog os ⟨#[], #[], []⟩
  { w0 with heap := w0.heap.modify 0 fun
      | .cells _ t frozen => .cells #[.iface 113 (.agg #[.pointer (some ⟨9, 27, none⟩)])] t frozen
      | o => o }
noncomputable def laidW (os : Os) : World := (hold6 os).layVars Tryz.prog laid5
theorem laidW_os (os : Os) : (laidW os).os = os := World.layVars_os _ _ _
theorem laidW_met (os : Os) (args : Array Value) : laidMetH Tryz.prog laid6 ((laidW os).forCall (fun _ _ => 0) ⟨#[], args, []⟩).memory := by
  refine laidMetH_of_parts ?_ (by kernel_rfl)
  have e1 : (laid5.filter fun x => (laid5.map (·.1)).contains x.1) = laid5 := List.filter_eq_self.2 fun x hx => List.contains_iff_mem.2 (List.mem_map.2 ⟨x, hx, rfl⟩)
  have e2 : (laid5.filter fun x => !(laid5.map (·.1)).contains x.1) = [] := List.filter_eq_nil_iff.2 fun x hx => by rw [List.contains_iff_mem.2 (List.mem_map.2 ⟨x, hx, rfl⟩)]; simp
  have h : laidMet Tryz.prog laid5 (laidW os) := laidMet_layVars (w0 := hold6 os) (laid5.map (·.1)) [] (by rw [e1]; rfl) (by rw [e1]; kernel_rfl) (by rw [e1]; kernel_rfl) (by rw [e2]; exact LaidIn.none)
  exact h.of_heap (by simp [World.memory, World.forCall, Input.heap])
end Go.Proofs.YtidkpdabidlnnaaGreatDoor
