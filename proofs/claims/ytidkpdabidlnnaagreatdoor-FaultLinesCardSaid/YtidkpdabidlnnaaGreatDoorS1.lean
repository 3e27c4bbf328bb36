/-
  Own texts, merged: GbH GbI GbJ GbK
-/
import Derived.Test.YtidkpdabidlnnaaGreatDoorR1


/-
  The document's reading of a number.
-/

namespace Go.Proofs.YtidkpdabidlnnaaGreatDoor

open Go.Den Go.RowKit

set_option maxRecDepth 100000

set_option linter.unusedSectionVars false

theorem u8_eq {a b : UInt8} (h : a.toNat = b.toNat) : a = b := UInt8.toNat_inj.1 h
/-- Of the digits that are read: one more, or the end. -/
theorem digs_step {dw : List UInt8} {lim i : Nat} (h : i < ((dw.takeWhile isDig).take lim).length) : i < lim ∧ ∃ c, dw[i]? = some c ∧ isDig c = true ∧ ((dw.takeWhile isDig).take lim).take (i + 1) = ((dw.takeWhile isDig).take lim).take i ++ [c] := by
  rw [List.length_take] at h
  have h1 : i < (dw.takeWhile isDig).length := by omega
  have h2 : i < lim := by omega
  have hp : (dw.takeWhile isDig) <+: dw := List.takeWhile_prefix _
  obtain ⟨r, hr⟩ := hp
  refine ⟨h2, (dw.takeWhile isDig)[i], ?_, ?_, ?_⟩
  · conv => lhs; rw [← hr]
    rw [List.getElem?_append_left h1, List.getElem?_eq_getElem h1]
  · exact (List.all_eq_true.1 (List.all_takeWhile)) _ (List.getElem_mem h1)
  · rw [List.take_take, List.take_take, Nat.min_eq_left (by omega), Nat.min_eq_left (by omega), List.take_succ_eq_append_getElem h1]
theorem digs_end {dw : List UInt8} {lim i : Nat} (h : ((dw.takeWhile isDig).take lim).length = i) : i = lim ∨ (i < lim ∧ (dw[i]? = none ∨ ∃ c, dw[i]? = some c ∧ isDig c = false)) := by
  rw [List.length_take] at h
  by_cases hl : i = lim
  · exact .inl hl
  · right
    have h1 : (dw.takeWhile isDig).length = i := by omega
    refine ⟨by omega, ?_⟩
    have hs : dw = dw.takeWhile isDig ++ dw.dropWhile isDig := (List.takeWhile_append_dropWhile).symm
    cases hd : dw.dropWhile isDig with
    | nil =>
      left
      rw [hs, hd, List.append_nil, List.getElem?_eq_none (by omega)]
    | cons c r =>
      right
      refine ⟨c, ?_, ?_⟩
      · conv => lhs; rw [hs, hd]
        rw [List.getElem?_append_right (by omega), h1, Nat.sub_self]; rfl
      · have := List.head?_dropWhile_not isDig dw
        rw [hd] at this
        simpa using this
noncomputable def readV (l : List UInt8) (at0 : Nat) : Value := match readR (l.drop at0) with
  | some (v, _) => .tuple #[.int .i64 v, .int .i64 ((at0 + (Lib.itoa v).length : Nat) : Int)]
  | none => .tuple #[.int .i64 0, .int .i64 (-1)]
theorem wrap_u64 (x : Int) : IntKind.u64.wrap x = x % 18446744073709551616 := by simp [IntKind.wrap, IntKind.signed, IntKind.bits]
theorem wrap_i64 (N : Nat) (h : N < 18446744073709551616) : IntKind.i64.wrap (N : Int) = sgn64 N := by
  have e : IntKind.i64.wrap (N : Int) = if 9223372036854775808 ≤ (N : Int) % 18446744073709551616 then (N : Int) % 18446744073709551616 - 18446744073709551616 else (N : Int) % 18446744073709551616 := by simp [IntKind.wrap, IntKind.signed, IntKind.bits]
  rw [e]
  unfold sgn64
  split <;> split <;> omega
theorem byte_dl {s : ByteArray} {p i : Nat} {dw : List UInt8} (hd : s.data.toList.drop p = dw) (h : p + i < s.size) : dw[i]? = some (s[p + i]'h) := by
  have hl : s.data.toList.length = s.size := size_data s
  rw [← hd, List.getElem?_drop, List.getElem?_eq_getElem (by omega)]; rfl
theorem byte_none {s : ByteArray} {p i : Nat} {dw : List UInt8} (hd : s.data.toList.drop p = dw) (h : dw[i]? = none) : ¬ p + i < s.size := fun hh => by
  rw [byte_dl hd hh] at h; cases h
/-- What is behind the digits. -/
structure AfterD (s : ByteArray) (a0 q : Nat) (V : Int) (dl : List UInt8) : Prop where
  txt : (s.extract a0 q).data.toList = textR dl
  val : valR dl = V
  len : q = a0 + (textR dl).length
theorem AfterD.ok {s : ByteArray} {a0 q : Nat} {V : Int} {dl : List UInt8} (h : AfterD s a0 q V dl) (hdl : s.data.toList.drop a0 = dl) (he : Lib.itoa V = textR dl) : readV s.data.toList a0 = .tuple #[.int .i64 V, .int .i64 (q : Int)] := by
  unfold readV
  rw [hdl]
  unfold readR
  rw [h.val, if_pos he, h.len, ← he]
theorem AfterD.no {s : ByteArray} {a0 q : Nat} {V : Int} {dl : List UInt8} (h : AfterD s a0 q V dl) (hdl : s.data.toList.drop a0 = dl) (he : ¬ Lib.itoa V = textR dl) : readV s.data.toList a0 = .tuple #[.int .i64 0, .int .i64 (-1)] := by
  unfold readV
  rw [hdl]
  unfold readR
  rw [h.val, if_neg he]
theorem str_beq (D E : ByteArray) (b : Bool) (h : decide (D.data.toList = E.data.toList) = b) : (D.toList == E.toList) = b := by
  rw [Lib.toList_data, Lib.toList_data, ← h]
  cases hb : decide (D.data.toList = E.data.toList) with
  | true => rw [beq_iff_eq]; exact of_decide_eq_true hb
  | false => rw [beq_eq_false_iff_ne]; exact of_decide_eq_false hb
end Go.Proofs.YtidkpdabidlnnaaGreatDoor


/-
  The document's reading of a number: the walk.
-/

namespace Go.Proofs.YtidkpdabidlnnaaGreatDoor

open Go.Den Go.RowKit

set_option maxRecDepth 100000

set_option linter.unusedSectionVars false

set_option maxHeartbeats 40000000 in
theorem rread_any (s : ByteArray) (hs : s.size ≤ 1000) (a0 : Nat) (ha : a0 ≤ s.size) (w : World) :
    Calls Tryz.prog 35 #[.string s, .int .i64 (a0 : Int)] w fun ev w' => ev = .returned (readV s.data.toList a0) ∧ Below w.heap.size w w' := by
  have hl : s.data.toList.length = s.size := size_data s
  obtain ⟨dl, hdl⟩ : ∃ dl, s.data.toList.drop a0 = dl := ⟨_, rfl⟩
  have hsi : (s.size : Int) ≤ 1000 := by omega
  have hai : (a0 : Int) ≤ (s.size : Int) := by omega
  have ha0 : ¬ ((a0 : Int) < 0) := by omega
  have hhead : ∀ h : a0 < s.size, dl = s[a0]'h :: s.data.toList.drop (a0 + 1) := fun h => by
    rw [← hdl, List.drop_eq_getElem_cons (by omega)]; rfl
  by_cases hneg : isNeg dl = true
  · have hend : a0 < s.size := by
      rcases Nat.lt_or_ge a0 s.size with h | h
      · exact h
      · rw [← hdl, List.drop_of_length_le (by omega)] at hneg; cases hneg
    have hdc := neg_cons hneg
    have hc45 : s[a0]'hend = 45 := by
      have := hhead hend
      rw [hdc] at this
      exact (List.cons.inj this).1.symm
    have hdw : s.data.toList.drop (a0 + 1) = dl.drop 1 := by
      have := hhead hend
      rw [this]; rfl
    obtain ⟨dg, hdg⟩ : ∃ dg, ((dl.drop 1).takeWhile isDig).take 24 = dg := ⟨_, rfl⟩
    have hAFT : ∀ i, i = dg.length → AfterD s a0 (a0 + 1 + i) (sgn64 ((18446744073709551616 - numW dg 0) % 18446744073709551616)) dl := fun i hi => by
      have e1 : digsR dl = dg := by unfold digsR; rw [hneg, if_pos rfl, hdg]
      have e2 : textR dl = 45 :: dg := by unfold textR; rw [hneg, if_pos rfl, e1]
      have hpre := textR_pre dl
      refine ⟨?_, by unfold valR; rw [hneg, if_pos rfl, e1], by rw [e2, hi, List.length_cons]; omega⟩
      rw [Lib.extract_data, hdl, show a0 + 1 + i - a0 = (textR dl).length by rw [e2, hi, List.length_cons]; omega]
      obtain ⟨tx, htx⟩ : ∃ tx, textR dl = tx := ⟨_, rfl⟩
      rw [htx] at hpre ⊢
      conv => lhs; rw [hpre]
      exact List.take_left
    have hai' : (a0 : Int) < (s.size : Int) := by omega
    have h45 : (((s[a0]'hend).toNat : Int) == 45) = true := by rw [hc45]; rfl
    have hP : a0 + 1 ≤ s.size := hend
    clear hneg hhead hdc hc45
    go_enter Tryz.func35, Tryz.ntmps35
    go_wp2
    clear h45
    go_loopw [1, 8] (fun x n wr => ∃ q i : Nat, x = .int .i64 (q : Int) ∧ n = .int .u64 ((numW (dg.take i) 0 : Nat) : Int) ∧ q = (a0 + 1) + i ∧ i ≤ dg.length ∧ wr = w) (fun x _ _ => 2000 - natOf x)
    case atStart => exact ⟨(a0 + 1), 0, by go_num, rfl, rfl, Nat.zero_le _, rfl⟩
    case round =>
      obtain ⟨q, i, rfl, rfl, hqe, hi, rfl⟩ := hrel
      have hnl : numW (dg.take i) 0 < 18446744073709551616 := numW_lt _ _ (by omega)
      by_cases hid : i < dg.length
      · skip
        rw [← hdg] at hid
        obtain ⟨h1, c, h2, h3, h4⟩ := digs_step hid
        rw [hdg] at hid h4
        have hq : q < s.size := by
          rcases Nat.lt_or_ge q s.size with h | h
          · exact h
          · rw [← hdw, List.getElem?_drop, List.getElem?_eq_none (by omega)] at h2; cases h2
        have hce : s[q]'hq = c := by
          have h5 := byte_dl (s := s) (p := (a0 + 1)) (i := i) hdw (by omega)
          rw [h2] at h5
          have h6 := Option.some.inj h5
          rw [h6]
          congr 1
        obtain ⟨C, hC⟩ : ∃ C : Int, ((s[q]'hq).toNat : Int) = C := ⟨_, rfl⟩
        have hc48 : 48 ≤ C ∧ C ≤ 57 := by rw [← hC, hce]; unfold isDig at h3; simp at h3; omega
        have hC2 : (c.toNat : Int) = C := by rw [← hC, hce]
        obtain ⟨hca, hcb⟩ := hc48
        have hc25 : (q : Int) - (a0 : Int) < 25 := by omega
        have hqi : (q : Int) < (s.size : Int) := by omega
        have hq0 : ¬ ((q : Int) < 0) := by omega
        have hq1 : (q : Int) ≤ 1000 := by omega
        have hn10 : numW (dg.take (i + 1)) 0 = stepW (numW (dg.take i) 0) c := by rw [h4, numW_app, numW_cons, numW_nil]
        obtain ⟨Z, hZ⟩ : ∃ Z, numW (dg.take i) 0 = Z := ⟨_, rfl⟩
        rw [hZ] at hn10 hnl ⊢
        have HZ := Lib.hid hn10; have HID := Lib.hid hid; have HNL := Lib.hid hnl; have HQE := Lib.hid hqe; have HC2 := Lib.hid hC2; have HAFT := Lib.hid hAFT; have HDG := Lib.hid hdg; have HDW := Lib.hid hdw; have HDL := Lib.hid hdl; have HCE := Lib.hid hce; have HCB := Lib.hid (And.intro hca hcb)
        clear hn10 hi hid h1 h2 h3 h4 hZ hnl hqe hC2 hAFT hdg hdw hdl hce
        go_wp2
        have hstep : IntKind.u64.wrap (IntKind.u64.wrap (IntKind.u64.wrap (10 * (Z : Int)) + C) - 48) = ((stepW Z c : Nat) : Int) := by
          rw [wrap_u64, wrap_u64, wrap_u64]
          unfold stepW
          have h1 := HC2.out
          have h2 := HCB.out
          have h3 := HNL.out
          omega
        refine ⟨⟨q + 1, i + 1, by go_num, ?_, by have := HQE.out; omega, HID.out, trivial⟩, by simp only [natOf]; omega⟩
        rw [hstep, HZ.out]
      · have hie : i = dg.length := by omega
        have hwhy := digs_end (dw := dl.drop 1) (lim := 24) (i := i) (by rw [hdg, hie])
        have htk : dg.take i = dg := by rw [hie, List.take_length]
        rw [htk] at hnl ⊢
        have hqs : q ≤ s.size := by
          have h1 : dg.length ≤ (dl.drop 1).length := by rw [← hdg, List.length_take]; exact Nat.le_trans (Nat.min_le_right _ _) (List.Sublist.length_le (List.takeWhile_sublist _))
          rw [← hdw, List.length_drop] at h1
          omega
        have hAF := hAFT i hie
        rw [show a0 + 1 + i = q from hqe.symm] at hAF
        clear hi hid htk hie
        have hqi0 : ¬ ((q : Int) < 0) := by omega
        have hqia : (a0 : Int) ≤ (q : Int) := by omega
        have hqie : (q : Int) ≤ (s.size : Int) := by omega
        obtain ⟨NN, hNN⟩ : ∃ NN, numW dg 0 = NN := ⟨_, rfl⟩
        rw [hNN] at hnl hAF ⊢
        clear hNN
        obtain ⟨V, hV⟩ : ∃ V, sgn64 ((18446744073709551616 - NN) % 18446744073709551616) = V := ⟨_, rfl⟩
        rw [hV] at hAF
        obtain ⟨D, hD, hNum⟩ : ∃ D, st (Lib.itoa V) = D ∧ ∀ w, Calls Tryz.prog 18 #[.int .i64 V] w fun ev w' => ev = .returned (.string D) ∧ Below w.heap.size w w' := ⟨_, rfl, fun w => number_any V (by rw [← hAF.val]; exact valR_in dl) w⟩
        obtain ⟨MM, hMM⟩ : ∃ MM, (18446744073709551616 - NN) % 18446744073709551616 = MM := ⟨_, rfl⟩; have hw1 : IntKind.u64.wrap (-(NN : Int)) = (MM : Int) := (by rw [wrap_u64, ← hMM]; omega); rw [hMM] at hV; have hw2 := (wrap_i64 MM (by omega)).trans hV; clear hMM
        clear hV hnl
        by_cases hq : q < s.size
        · have hqi : (q : Int) < (s.size : Int) := by omega
          obtain ⟨C, hC⟩ : ∃ C : Int, ((s[q]'hq).toNat : Int) = C := ⟨_, rfl⟩
          by_cases h48 : (48 : Int) ≤ C
          · by_cases h57 : C ≤ 57
            · have h25 : ¬ ((q : Int) - (a0 : Int) < 25) := by
                rcases hwhy with h | ⟨h, h | ⟨c, h, hc⟩⟩
                · omega
                · exact absurd (by omega) (byte_none (s := s) (p := (a0 + 1)) (i := i) hdw h)
                · have h5 := byte_dl (s := s) (p := (a0 + 1)) (i := i) hdw (by omega)
                  rw [h] at h5
                  have h6 := Option.some.inj h5
                  have h7 : s[q]'hq = c := by rw [h6]; congr 1
                  rw [h7] at hC
                  unfold isDig at hc
                  rw [decide_eq_true (by omega), decide_eq_true (by omega)] at hc
                  cases hc
              clear hwhy hqe hAFT hdg hdw
              by_cases he : Lib.itoa V = textR dl
              · have hcmp := str_beq D (s.extract a0 q) true (by rw [hAF.txt, ← hD, decide_eq_true]; exact he)
                have HR := Lib.hid (hAF.ok hdl he)
                have HNU := Lib.hid hNum
                clear he hAF hdl hD hNum
                go_wp2
                go_region_with (go_at_call 18; refine (HNU.out _).mono ?_; rintro ev w3 ⟨rfl, hb3⟩; have hb3' : Below wr.heap.size wr w3 := (Below.refl _ wr).drew.trans hb3; have HB3 := Lib.hid hb3'; clear hb3 hb3')
                all_goals (try go_wp2)
                all_goals (go_ret2; exact ⟨by rw [HR.out]; rfl, HB3.out⟩)
              · have hcmp := str_beq D (s.extract a0 q) false (by rw [hAF.txt, ← hD, decide_eq_false]; exact he)
                have HR := Lib.hid (hAF.no hdl he)
                have HNU := Lib.hid hNum
                clear he hAF hdl hD hNum
                go_wp2
                go_region_with (go_at_call 18; refine (HNU.out _).mono ?_; rintro ev w3 ⟨rfl, hb3⟩; have hb3' : Below wr.heap.size wr w3 := (Below.refl _ wr).drew.trans hb3; have HB3 := Lib.hid hb3'; clear hb3 hb3')
                all_goals (try go_wp2)
                all_goals (go_ret2; exact ⟨by rw [HR.out]; rfl, HB3.out⟩)
            · clear hwhy hqe hAFT hdg hdw
              by_cases he : Lib.itoa V = textR dl
              · have hcmp := str_beq D (s.extract a0 q) true (by rw [hAF.txt, ← hD, decide_eq_true]; exact he)
                have HR := Lib.hid (hAF.ok hdl he)
                have HNU := Lib.hid hNum
                clear he hAF hdl hD hNum
                go_wp2
                go_region_with (go_at_call 18; refine (HNU.out _).mono ?_; rintro ev w3 ⟨rfl, hb3⟩; have hb3' : Below wr.heap.size wr w3 := (Below.refl _ wr).drew.trans hb3; have HB3 := Lib.hid hb3'; clear hb3 hb3')
                all_goals (try go_wp2)
                all_goals (go_ret2; exact ⟨by rw [HR.out]; rfl, HB3.out⟩)
              · have hcmp := str_beq D (s.extract a0 q) false (by rw [hAF.txt, ← hD, decide_eq_false]; exact he)
                have HR := Lib.hid (hAF.no hdl he)
                have HNU := Lib.hid hNum
                clear he hAF hdl hD hNum
                go_wp2
                go_region_with (go_at_call 18; refine (HNU.out _).mono ?_; rintro ev w3 ⟨rfl, hb3⟩; have hb3' : Below wr.heap.size wr w3 := (Below.refl _ wr).drew.trans hb3; have HB3 := Lib.hid hb3'; clear hb3 hb3')
                all_goals (try go_wp2)
                all_goals (go_ret2; exact ⟨by rw [HR.out]; rfl, HB3.out⟩)
          · clear hwhy hqe hAFT hdg hdw
            by_cases he : Lib.itoa V = textR dl
            · have hcmp := str_beq D (s.extract a0 q) true (by rw [hAF.txt, ← hD, decide_eq_true]; exact he)
              have HR := Lib.hid (hAF.ok hdl he)
              have HNU := Lib.hid hNum
              clear he hAF hdl hD hNum
              go_wp2
              go_region_with (go_at_call 18; refine (HNU.out _).mono ?_; rintro ev w3 ⟨rfl, hb3⟩; have hb3' : Below wr.heap.size wr w3 := (Below.refl _ wr).drew.trans hb3; have HB3 := Lib.hid hb3'; clear hb3 hb3')
              all_goals (try go_wp2)
              all_goals (go_ret2; exact ⟨by rw [HR.out]; rfl, HB3.out⟩)
            · have hcmp := str_beq D (s.extract a0 q) false (by rw [hAF.txt, ← hD, decide_eq_false]; exact he)
              have HR := Lib.hid (hAF.no hdl he)
              have HNU := Lib.hid hNum
              clear he hAF hdl hD hNum
              go_wp2
              go_region_with (go_at_call 18; refine (HNU.out _).mono ?_; rintro ev w3 ⟨rfl, hb3⟩; have hb3' : Below wr.heap.size wr w3 := (Below.refl _ wr).drew.trans hb3; have HB3 := Lib.hid hb3'; clear hb3 hb3')
              all_goals (try go_wp2)
              all_goals (go_ret2; exact ⟨by rw [HR.out]; rfl, HB3.out⟩)
        · have hqi : ¬ ((q : Int) < (s.size : Int)) := by omega
          clear hwhy hqe hAFT hdg hdw
          by_cases he : Lib.itoa V = textR dl
          · have hcmp := str_beq D (s.extract a0 q) true (by rw [hAF.txt, ← hD, decide_eq_true]; exact he)
            have HR := Lib.hid (hAF.ok hdl he)
            have HNU := Lib.hid hNum
            clear he hAF hdl hD hNum
            go_wp2
            go_region_with (go_at_call 18; refine (HNU.out _).mono ?_; rintro ev w3 ⟨rfl, hb3⟩; have hb3' : Below wr.heap.size wr w3 := (Below.refl _ wr).drew.trans hb3; have HB3 := Lib.hid hb3'; clear hb3 hb3')
            all_goals (try go_wp2)
            all_goals (go_ret2; exact ⟨by rw [HR.out]; rfl, HB3.out⟩)
          · have hcmp := str_beq D (s.extract a0 q) false (by rw [hAF.txt, ← hD, decide_eq_false]; exact he)
            have HR := Lib.hid (hAF.no hdl he)
            have HNU := Lib.hid hNum
            clear he hAF hdl hD hNum
            go_wp2
            go_region_with (go_at_call 18; refine (HNU.out _).mono ?_; rintro ev w3 ⟨rfl, hb3⟩; have hb3' : Below wr.heap.size wr w3 := (Below.refl _ wr).drew.trans hb3; have HB3 := Lib.hid hb3'; clear hb3 hb3')
            all_goals (try go_wp2)
            all_goals (go_ret2; exact ⟨by rw [HR.out]; rfl, HB3.out⟩)
  · have hneg' : isNeg dl = false := by simpa using hneg
    obtain ⟨dg, hdg⟩ : ∃ dg, (dl.takeWhile isDig).take 25 = dg := ⟨_, rfl⟩
    have hdw := hdl
    have hAFT : ∀ i, i = dg.length → AfterD s a0 (a0 + i) (sgn64 (numW dg 0)) dl := fun i hi => by
      have e1 : digsR dl = dg := by unfold digsR; rw [hneg', if_neg (by decide), hdg]
      have e2 : textR dl = dg := by unfold textR; rw [hneg', if_neg (by decide), e1]
      have hpre := textR_pre dl
      rw [e2] at hpre
      refine ⟨?_, by unfold valR; rw [hneg', if_neg (by decide), e1], by rw [e2, hi]⟩
      rw [e2, Lib.extract_data, hdl, Nat.add_sub_cancel_left, hi]
      conv => lhs; rw [hpre]
      exact List.take_left
    have hP : a0 ≤ s.size := ha
    by_cases hend : a0 < s.size
    · have hai' : (a0 : Int) < (s.size : Int) := by omega
      have h45 : (((s[a0]'hend).toNat : Int) == 45) = false := by
        rw [beq_eq_false_iff_ne]
        intro h
        apply hneg
        have hc : s[a0]'hend = 45 := u8_eq (by have : (45 : UInt8).toNat = 45 := rfl; omega)
        rw [hhead hend, hc]; rfl
      clear hneg hneg' hhead
      go_enter Tryz.func35, Tryz.ntmps35
      go_wp2
      clear h45
      go_loopw [1, 8] (fun x n wr => ∃ q i : Nat, x = .int .i64 (q : Int) ∧ n = .int .u64 ((numW (dg.take i) 0 : Nat) : Int) ∧ q = a0 + i ∧ i ≤ dg.length ∧ wr = w) (fun x _ _ => 2000 - natOf x)
      case atStart => exact ⟨a0, 0, by go_num, rfl, rfl, Nat.zero_le _, rfl⟩
      case round =>
        obtain ⟨q, i, rfl, rfl, hqe, hi, rfl⟩ := hrel
        have hnl : numW (dg.take i) 0 < 18446744073709551616 := numW_lt _ _ (by omega)
        by_cases hid : i < dg.length
        · skip
          rw [← hdg] at hid
          obtain ⟨h1, c, h2, h3, h4⟩ := digs_step hid
          rw [hdg] at hid h4
          have hq : q < s.size := by
            rcases Nat.lt_or_ge q s.size with h | h
            · exact h
            · rw [← hdw, List.getElem?_drop, List.getElem?_eq_none (by omega)] at h2; cases h2
          have hce : s[q]'hq = c := by
            have h5 := byte_dl (s := s) (p := a0) (i := i) hdw (by omega)
            rw [h2] at h5
            have h6 := Option.some.inj h5
            rw [h6]
            congr 1
          obtain ⟨C, hC⟩ : ∃ C : Int, ((s[q]'hq).toNat : Int) = C := ⟨_, rfl⟩
          have hc48 : 48 ≤ C ∧ C ≤ 57 := by rw [← hC, hce]; unfold isDig at h3; simp at h3; omega
          have hC2 : (c.toNat : Int) = C := by rw [← hC, hce]
          obtain ⟨hca, hcb⟩ := hc48
          have hc25 : (q : Int) - (a0 : Int) < 25 := by omega
          have hqi : (q : Int) < (s.size : Int) := by omega
          have hq0 : ¬ ((q : Int) < 0) := by omega
          have hq1 : (q : Int) ≤ 1000 := by omega
          have hn10 : numW (dg.take (i + 1)) 0 = stepW (numW (dg.take i) 0) c := by rw [h4, numW_app, numW_cons, numW_nil]
          obtain ⟨Z, hZ⟩ : ∃ Z, numW (dg.take i) 0 = Z := ⟨_, rfl⟩
          rw [hZ] at hn10 hnl ⊢
          have HZ := Lib.hid hn10; have HID := Lib.hid hid; have HNL := Lib.hid hnl; have HQE := Lib.hid hqe; have HC2 := Lib.hid hC2; have HAFT := Lib.hid hAFT; have HDG := Lib.hid hdg; have HDW := Lib.hid hdw; have HDL := Lib.hid hdl; have HCE := Lib.hid hce; have HCB := Lib.hid (And.intro hca hcb)
          clear hn10 hi hid h1 h2 h3 h4 hZ hnl hqe hC2 hAFT hdg hdw hdl hce
          go_wp2
          have hstep : IntKind.u64.wrap (IntKind.u64.wrap (IntKind.u64.wrap (10 * (Z : Int)) + C) - 48) = ((stepW Z c : Nat) : Int) := by
            rw [wrap_u64, wrap_u64, wrap_u64]
            unfold stepW
            have h1 := HC2.out
            have h2 := HCB.out
            have h3 := HNL.out
            omega
          refine ⟨⟨q + 1, i + 1, by go_num, ?_, by have := HQE.out; omega, HID.out, trivial⟩, by simp only [natOf]; omega⟩
          rw [hstep, HZ.out]
        · have hie : i = dg.length := by omega
          have hwhy := digs_end (dw := dl) (lim := 25) (i := i) (by rw [hdg, hie])
          have htk : dg.take i = dg := by rw [hie, List.take_length]
          rw [htk] at hnl ⊢
          have hqs : q ≤ s.size := by
            have h1 : dg.length ≤ (dl).length := by rw [← hdg, List.length_take]; exact Nat.le_trans (Nat.min_le_right _ _) (List.Sublist.length_le (List.takeWhile_sublist _))
            rw [← hdw, List.length_drop] at h1
            omega
          have hAF := hAFT i hie
          rw [show a0 + i = q from hqe.symm] at hAF
          clear hi hid htk hie
          have hqi0 : ¬ ((q : Int) < 0) := by omega
          have hqia : (a0 : Int) ≤ (q : Int) := by omega
          have hqie : (q : Int) ≤ (s.size : Int) := by omega
          obtain ⟨NN, hNN⟩ : ∃ NN, numW dg 0 = NN := ⟨_, rfl⟩
          rw [hNN] at hnl hAF ⊢
          clear hNN
          obtain ⟨V, hV⟩ : ∃ V, sgn64 NN = V := ⟨_, rfl⟩
          rw [hV] at hAF
          obtain ⟨D, hD, hNum⟩ : ∃ D, st (Lib.itoa V) = D ∧ ∀ w, Calls Tryz.prog 18 #[.int .i64 V] w fun ev w' => ev = .returned (.string D) ∧ Below w.heap.size w w' := ⟨_, rfl, fun w => number_any V (by rw [← hAF.val]; exact valR_in dl) w⟩
          have hw2 := (wrap_i64 NN hnl).trans hV
          clear hV hnl
          by_cases hq : q < s.size
          · have hqi : (q : Int) < (s.size : Int) := by omega
            obtain ⟨C, hC⟩ : ∃ C : Int, ((s[q]'hq).toNat : Int) = C := ⟨_, rfl⟩
            by_cases h48 : (48 : Int) ≤ C
            · by_cases h57 : C ≤ 57
              · have h25 : ¬ ((q : Int) - (a0 : Int) < 25) := by
                  rcases hwhy with h | ⟨h, h | ⟨c, h, hc⟩⟩
                  · omega
                  · exact absurd (by omega) (byte_none (s := s) (p := a0) (i := i) hdw h)
                  · have h5 := byte_dl (s := s) (p := a0) (i := i) hdw (by omega)
                    rw [h] at h5
                    have h6 := Option.some.inj h5
                    have h7 : s[q]'hq = c := by rw [h6]; congr 1
                    rw [h7] at hC
                    unfold isDig at hc
                    rw [decide_eq_true (by omega), decide_eq_true (by omega)] at hc
                    cases hc
                clear hwhy hqe hAFT hdg hdw
                by_cases he : Lib.itoa V = textR dl
                · have hcmp := str_beq D (s.extract a0 q) true (by rw [hAF.txt, ← hD, decide_eq_true]; exact he)
                  have HR := Lib.hid (hAF.ok hdl he)
                  have HNU := Lib.hid hNum
                  clear he hAF hdl hD hNum
                  go_wp2
                  go_region_with (go_at_call 18; refine (HNU.out _).mono ?_; rintro ev w3 ⟨rfl, hb3⟩; have hb3' : Below wr.heap.size wr w3 := (Below.refl _ wr).drew.trans hb3; have HB3 := Lib.hid hb3'; clear hb3 hb3')
                  all_goals (try go_wp2)
                  all_goals (go_ret2; exact ⟨by rw [HR.out]; rfl, HB3.out⟩)
                · have hcmp := str_beq D (s.extract a0 q) false (by rw [hAF.txt, ← hD, decide_eq_false]; exact he)
                  have HR := Lib.hid (hAF.no hdl he)
                  have HNU := Lib.hid hNum
                  clear he hAF hdl hD hNum
                  go_wp2
                  go_region_with (go_at_call 18; refine (HNU.out _).mono ?_; rintro ev w3 ⟨rfl, hb3⟩; have hb3' : Below wr.heap.size wr w3 := (Below.refl _ wr).drew.trans hb3; have HB3 := Lib.hid hb3'; clear hb3 hb3')
                  all_goals (try go_wp2)
                  all_goals (go_ret2; exact ⟨by rw [HR.out]; rfl, HB3.out⟩)
              · clear hwhy hqe hAFT hdg hdw
                by_cases he : Lib.itoa V = textR dl
                · have hcmp := str_beq D (s.extract a0 q) true (by rw [hAF.txt, ← hD, decide_eq_true]; exact he)
                  have HR := Lib.hid (hAF.ok hdl he)
                  have HNU := Lib.hid hNum
                  clear he hAF hdl hD hNum
                  go_wp2
                  go_region_with (go_at_call 18; refine (HNU.out _).mono ?_; rintro ev w3 ⟨rfl, hb3⟩; have hb3' : Below wr.heap.size wr w3 := (Below.refl _ wr).drew.trans hb3; have HB3 := Lib.hid hb3'; clear hb3 hb3')
                  all_goals (try go_wp2)
                  all_goals (go_ret2; exact ⟨by rw [HR.out]; rfl, HB3.out⟩)
                · have hcmp := str_beq D (s.extract a0 q) false (by rw [hAF.txt, ← hD, decide_eq_false]; exact he)
                  have HR := Lib.hid (hAF.no hdl he)
                  have HNU := Lib.hid hNum
                  clear he hAF hdl hD hNum
                  go_wp2
                  go_region_with (go_at_call 18; refine (HNU.out _).mono ?_; rintro ev w3 ⟨rfl, hb3⟩; have hb3' : Below wr.heap.size wr w3 := (Below.refl _ wr).drew.trans hb3; have HB3 := Lib.hid hb3'; clear hb3 hb3')
                  all_goals (try go_wp2)
                  all_goals (go_ret2; exact ⟨by rw [HR.out]; rfl, HB3.out⟩)
            · clear hwhy hqe hAFT hdg hdw
              by_cases he : Lib.itoa V = textR dl
              · have hcmp := str_beq D (s.extract a0 q) true (by rw [hAF.txt, ← hD, decide_eq_true]; exact he)
                have HR := Lib.hid (hAF.ok hdl he)
                have HNU := Lib.hid hNum
                clear he hAF hdl hD hNum
                go_wp2
                go_region_with (go_at_call 18; refine (HNU.out _).mono ?_; rintro ev w3 ⟨rfl, hb3⟩; have hb3' : Below wr.heap.size wr w3 := (Below.refl _ wr).drew.trans hb3; have HB3 := Lib.hid hb3'; clear hb3 hb3')
                all_goals (try go_wp2)
                all_goals (go_ret2; exact ⟨by rw [HR.out]; rfl, HB3.out⟩)
              · have hcmp := str_beq D (s.extract a0 q) false (by rw [hAF.txt, ← hD, decide_eq_false]; exact he)
                have HR := Lib.hid (hAF.no hdl he)
                have HNU := Lib.hid hNum
                clear he hAF hdl hD hNum
                go_wp2
                go_region_with (go_at_call 18; refine (HNU.out _).mono ?_; rintro ev w3 ⟨rfl, hb3⟩; have hb3' : Below wr.heap.size wr w3 := (Below.refl _ wr).drew.trans hb3; have HB3 := Lib.hid hb3'; clear hb3 hb3')
                all_goals (try go_wp2)
                all_goals (go_ret2; exact ⟨by rw [HR.out]; rfl, HB3.out⟩)
          · have hqi : ¬ ((q : Int) < (s.size : Int)) := by omega
            clear hwhy hqe hAFT hdg hdw
            by_cases he : Lib.itoa V = textR dl
            · have hcmp := str_beq D (s.extract a0 q) true (by rw [hAF.txt, ← hD, decide_eq_true]; exact he)
              have HR := Lib.hid (hAF.ok hdl he)
              have HNU := Lib.hid hNum
              clear he hAF hdl hD hNum
              go_wp2
              go_region_with (go_at_call 18; refine (HNU.out _).mono ?_; rintro ev w3 ⟨rfl, hb3⟩; have hb3' : Below wr.heap.size wr w3 := (Below.refl _ wr).drew.trans hb3; have HB3 := Lib.hid hb3'; clear hb3 hb3')
              all_goals (try go_wp2)
              all_goals (go_ret2; exact ⟨by rw [HR.out]; rfl, HB3.out⟩)
            · have hcmp := str_beq D (s.extract a0 q) false (by rw [hAF.txt, ← hD, decide_eq_false]; exact he)
              have HR := Lib.hid (hAF.no hdl he)
              have HNU := Lib.hid hNum
              clear he hAF hdl hD hNum
              go_wp2
              go_region_with (go_at_call 18; refine (HNU.out _).mono ?_; rintro ev w3 ⟨rfl, hb3⟩; have hb3' : Below wr.heap.size wr w3 := (Below.refl _ wr).drew.trans hb3; have HB3 := Lib.hid hb3'; clear hb3 hb3')
              all_goals (try go_wp2)
              all_goals (go_ret2; exact ⟨by rw [HR.out]; rfl, HB3.out⟩)
    · have hai' : ¬ ((a0 : Int) < (s.size : Int)) := by omega
      clear hneg hneg' hhead
      go_enter Tryz.func35, Tryz.ntmps35
      go_wp2
      clear hai'
      go_loopw [1, 8] (fun x n wr => ∃ q i : Nat, x = .int .i64 (q : Int) ∧ n = .int .u64 ((numW (dg.take i) 0 : Nat) : Int) ∧ q = a0 + i ∧ i ≤ dg.length ∧ wr = w) (fun x _ _ => 2000 - natOf x)
      case atStart => exact ⟨a0, 0, by go_num, rfl, rfl, Nat.zero_le _, rfl⟩
      case round =>
        obtain ⟨q, i, rfl, rfl, hqe, hi, rfl⟩ := hrel
        have hnl : numW (dg.take i) 0 < 18446744073709551616 := numW_lt _ _ (by omega)
        by_cases hid : i < dg.length
        · skip
          rw [← hdg] at hid
          obtain ⟨h1, c, h2, h3, h4⟩ := digs_step hid
          rw [hdg] at hid h4
          have hq : q < s.size := by
            rcases Nat.lt_or_ge q s.size with h | h
            · exact h
            · rw [← hdw, List.getElem?_drop, List.getElem?_eq_none (by omega)] at h2; cases h2
          have hce : s[q]'hq = c := by
            have h5 := byte_dl (s := s) (p := a0) (i := i) hdw (by omega)
            rw [h2] at h5
            have h6 := Option.some.inj h5
            rw [h6]
            congr 1
          obtain ⟨C, hC⟩ : ∃ C : Int, ((s[q]'hq).toNat : Int) = C := ⟨_, rfl⟩
          have hc48 : 48 ≤ C ∧ C ≤ 57 := by rw [← hC, hce]; unfold isDig at h3; simp at h3; omega
          have hC2 : (c.toNat : Int) = C := by rw [← hC, hce]
          obtain ⟨hca, hcb⟩ := hc48
          have hc25 : (q : Int) - (a0 : Int) < 25 := by omega
          have hqi : (q : Int) < (s.size : Int) := by omega
          have hq0 : ¬ ((q : Int) < 0) := by omega
          have hq1 : (q : Int) ≤ 1000 := by omega
          have hn10 : numW (dg.take (i + 1)) 0 = stepW (numW (dg.take i) 0) c := by rw [h4, numW_app, numW_cons, numW_nil]
          obtain ⟨Z, hZ⟩ : ∃ Z, numW (dg.take i) 0 = Z := ⟨_, rfl⟩
          rw [hZ] at hn10 hnl ⊢
          have HZ := Lib.hid hn10; have HID := Lib.hid hid; have HNL := Lib.hid hnl; have HQE := Lib.hid hqe; have HC2 := Lib.hid hC2; have HAFT := Lib.hid hAFT; have HDG := Lib.hid hdg; have HDW := Lib.hid hdw; have HDL := Lib.hid hdl; have HCE := Lib.hid hce; have HCB := Lib.hid (And.intro hca hcb)
          clear hn10 hi hid h1 h2 h3 h4 hZ hnl hqe hC2 hAFT hdg hdw hdl hce
          go_wp2
          have hstep : IntKind.u64.wrap (IntKind.u64.wrap (IntKind.u64.wrap (10 * (Z : Int)) + C) - 48) = ((stepW Z c : Nat) : Int) := by
            rw [wrap_u64, wrap_u64, wrap_u64]
            unfold stepW
            have h1 := HC2.out
            have h2 := HCB.out
            have h3 := HNL.out
            omega
          refine ⟨⟨q + 1, i + 1, by go_num, ?_, by have := HQE.out; omega, HID.out, trivial⟩, by simp only [natOf]; omega⟩
          rw [hstep, HZ.out]
        · have hie : i = dg.length := by omega
          have hwhy := digs_end (dw := dl) (lim := 25) (i := i) (by rw [hdg, hie])
          have htk : dg.take i = dg := by rw [hie, List.take_length]
          rw [htk] at hnl ⊢
          have hqs : q ≤ s.size := by
            have h1 : dg.length ≤ (dl).length := by rw [← hdg, List.length_take]; exact Nat.le_trans (Nat.min_le_right _ _) (List.Sublist.length_le (List.takeWhile_sublist _))
            rw [← hdw, List.length_drop] at h1
            omega
          have hAF := hAFT i hie
          rw [show a0 + i = q from hqe.symm] at hAF
          clear hi hid htk hie
          have hqi0 : ¬ ((q : Int) < 0) := by omega
          have hqia : (a0 : Int) ≤ (q : Int) := by omega
          have hqie : (q : Int) ≤ (s.size : Int) := by omega
          obtain ⟨NN, hNN⟩ : ∃ NN, numW dg 0 = NN := ⟨_, rfl⟩
          rw [hNN] at hnl hAF ⊢
          clear hNN
          obtain ⟨V, hV⟩ : ∃ V, sgn64 NN = V := ⟨_, rfl⟩
          rw [hV] at hAF
          obtain ⟨D, hD, hNum⟩ : ∃ D, st (Lib.itoa V) = D ∧ ∀ w, Calls Tryz.prog 18 #[.int .i64 V] w fun ev w' => ev = .returned (.string D) ∧ Below w.heap.size w w' := ⟨_, rfl, fun w => number_any V (by rw [← hAF.val]; exact valR_in dl) w⟩
          have hw2 := (wrap_i64 NN hnl).trans hV
          clear hV hnl
          by_cases hq : q < s.size
          · have hqi : (q : Int) < (s.size : Int) := by omega
            obtain ⟨C, hC⟩ : ∃ C : Int, ((s[q]'hq).toNat : Int) = C := ⟨_, rfl⟩
            by_cases h48 : (48 : Int) ≤ C
            · by_cases h57 : C ≤ 57
              · have h25 : ¬ ((q : Int) - (a0 : Int) < 25) := by
                  rcases hwhy with h | ⟨h, h | ⟨c, h, hc⟩⟩
                  · omega
                  · exact absurd (by omega) (byte_none (s := s) (p := a0) (i := i) hdw h)
                  · have h5 := byte_dl (s := s) (p := a0) (i := i) hdw (by omega)
                    rw [h] at h5
                    have h6 := Option.some.inj h5
                    have h7 : s[q]'hq = c := by rw [h6]; congr 1
                    rw [h7] at hC
                    unfold isDig at hc
                    rw [decide_eq_true (by omega), decide_eq_true (by omega)] at hc
                    cases hc
                clear hwhy hqe hAFT hdg hdw
                by_cases he : Lib.itoa V = textR dl
                · have hcmp := str_beq D (s.extract a0 q) true (by rw [hAF.txt, ← hD, decide_eq_true]; exact he)
                  have HR := Lib.hid (hAF.ok hdl he)
                  have HNU := Lib.hid hNum
                  clear he hAF hdl hD hNum
                  go_wp2
                  go_region_with (go_at_call 18; refine (HNU.out _).mono ?_; rintro ev w3 ⟨rfl, hb3⟩; have hb3' : Below wr.heap.size wr w3 := (Below.refl _ wr).drew.trans hb3; have HB3 := Lib.hid hb3'; clear hb3 hb3')
                  all_goals (try go_wp2)
                  all_goals (go_ret2; exact ⟨by rw [HR.out]; rfl, HB3.out⟩)
                · have hcmp := str_beq D (s.extract a0 q) false (by rw [hAF.txt, ← hD, decide_eq_false]; exact he)
                  have HR := Lib.hid (hAF.no hdl he)
                  have HNU := Lib.hid hNum
                  clear he hAF hdl hD hNum
                  go_wp2
                  go_region_with (go_at_call 18; refine (HNU.out _).mono ?_; rintro ev w3 ⟨rfl, hb3⟩; have hb3' : Below wr.heap.size wr w3 := (Below.refl _ wr).drew.trans hb3; have HB3 := Lib.hid hb3'; clear hb3 hb3')
                  all_goals (try go_wp2)
                  all_goals (go_ret2; exact ⟨by rw [HR.out]; rfl, HB3.out⟩)
              · clear hwhy hqe hAFT hdg hdw
                by_cases he : Lib.itoa V = textR dl
                · have hcmp := str_beq D (s.extract a0 q) true (by rw [hAF.txt, ← hD, decide_eq_true]; exact he)
                  have HR := Lib.hid (hAF.ok hdl he)
                  have HNU := Lib.hid hNum
                  clear he hAF hdl hD hNum
                  go_wp2
                  go_region_with (go_at_call 18; refine (HNU.out _).mono ?_; rintro ev w3 ⟨rfl, hb3⟩; have hb3' : Below wr.heap.size wr w3 := (Below.refl _ wr).drew.trans hb3; have HB3 := Lib.hid hb3'; clear hb3 hb3')
                  all_goals (try go_wp2)
                  all_goals (go_ret2; exact ⟨by rw [HR.out]; rfl, HB3.out⟩)
                · have hcmp := str_beq D (s.extract a0 q) false (by rw [hAF.txt, ← hD, decide_eq_false]; exact he)
                  have HR := Lib.hid (hAF.no hdl he)
                  have HNU := Lib.hid hNum
                  clear he hAF hdl hD hNum
                  go_wp2
                  go_region_with (go_at_call 18; refine (HNU.out _).mono ?_; rintro ev w3 ⟨rfl, hb3⟩; have hb3' : Below wr.heap.size wr w3 := (Below.refl _ wr).drew.trans hb3; have HB3 := Lib.hid hb3'; clear hb3 hb3')
                  all_goals (try go_wp2)
                  all_goals (go_ret2; exact ⟨by rw [HR.out]; rfl, HB3.out⟩)
            · clear hwhy hqe hAFT hdg hdw
              by_cases he : Lib.itoa V = textR dl
              · have hcmp := str_beq D (s.extract a0 q) true (by rw [hAF.txt, ← hD, decide_eq_true]; exact he)
                have HR := Lib.hid (hAF.ok hdl he)
                have HNU := Lib.hid hNum
                clear he hAF hdl hD hNum
                go_wp2
                go_region_with (go_at_call 18; refine (HNU.out _).mono ?_; rintro ev w3 ⟨rfl, hb3⟩; have hb3' : Below wr.heap.size wr w3 := (Below.refl _ wr).drew.trans hb3; have HB3 := Lib.hid hb3'; clear hb3 hb3')
                all_goals (try go_wp2)
                all_goals (go_ret2; exact ⟨by rw [HR.out]; rfl, HB3.out⟩)
              · have hcmp := str_beq D (s.extract a0 q) false (by rw [hAF.txt, ← hD, decide_eq_false]; exact he)
                have HR := Lib.hid (hAF.no hdl he)
                have HNU := Lib.hid hNum
                clear he hAF hdl hD hNum
                go_wp2
                go_region_with (go_at_call 18; refine (HNU.out _).mono ?_; rintro ev w3 ⟨rfl, hb3⟩; have hb3' : Below wr.heap.size wr w3 := (Below.refl _ wr).drew.trans hb3; have HB3 := Lib.hid hb3'; clear hb3 hb3')
                all_goals (try go_wp2)
                all_goals (go_ret2; exact ⟨by rw [HR.out]; rfl, HB3.out⟩)
          · have hqi : ¬ ((q : Int) < (s.size : Int)) := by omega
            clear hwhy hqe hAFT hdg hdw
            by_cases he : Lib.itoa V = textR dl
            · have hcmp := str_beq D (s.extract a0 q) true (by rw [hAF.txt, ← hD, decide_eq_true]; exact he)
              have HR := Lib.hid (hAF.ok hdl he)
              have HNU := Lib.hid hNum
              clear he hAF hdl hD hNum
              go_wp2
              go_region_with (go_at_call 18; refine (HNU.out _).mono ?_; rintro ev w3 ⟨rfl, hb3⟩; have hb3' : Below wr.heap.size wr w3 := (Below.refl _ wr).drew.trans hb3; have HB3 := Lib.hid hb3'; clear hb3 hb3')
              all_goals (try go_wp2)
              all_goals (go_ret2; exact ⟨by rw [HR.out]; rfl, HB3.out⟩)
            · have hcmp := str_beq D (s.extract a0 q) false (by rw [hAF.txt, ← hD, decide_eq_false]; exact he)
              have HR := Lib.hid (hAF.no hdl he)
              have HNU := Lib.hid hNum
              clear he hAF hdl hD hNum
              go_wp2
              go_region_with (go_at_call 18; refine (HNU.out _).mono ?_; rintro ev w3 ⟨rfl, hb3⟩; have hb3' : Below wr.heap.size wr w3 := (Below.refl _ wr).drew.trans hb3; have HB3 := Lib.hid hb3'; clear hb3 hb3')
              all_goals (try go_wp2)
              all_goals (go_ret2; exact ⟨by rw [HR.out]; rfl, HB3.out⟩)
end Go.Proofs.YtidkpdabidlnnaaGreatDoor


/-
  The document's reading of a line.
-/

namespace Go.Proofs.YtidkpdabidlnnaaGreatDoor

open Go.Den Go.RowKit

set_option maxRecDepth 100000

set_option linter.unusedSectionVars false

def ParR6 (r : Option (List (List UInt8) × Int × Int)) (base : Nat) (ev : Ending) (w' : World) : Prop :=
  match r with
  | none => ev = .returned (.tuple #[.slice none 0 0, .int .i64 0, .int .i64 0, .bool false])
  | some (ws, k, o) => ∃ v, ev = .returned (.tuple #[v, .int .i64 k, .int .i64 o, .bool true]) ∧ Row base w' v (ws.map st)
/-- The words so far, and the rest. -/
def RdR (s : ByteArray) (ws : List ByteArray) (R : ByteArray) : Prop := ∃ m, R.size ≤ m ∧ parW s.size s.data.toList = (bsl ws ++ (parW m R.data.toList).1, (parW m R.data.toList).2) ∧ 2 * ws.length + R.size ≤ s.size
theorem RdR.start (s : ByteArray) : RdR s [] s := ⟨s.size, Nat.le_refl _, rfl, by simp⟩
/-- At a word's end. -/
theorem parW_stop {m : Nat} {l : List UInt8} (h : ∀ c r, l.drop (l.takeWhile not58).length = c :: 32 :: r → ¬ wordF (l.takeWhile not58) = l.takeWhile not58) : parW m l = ([], l) := by
  cases m with
  | zero => rfl
  | succ m =>
    unfold parW
    split
    · rename_i d c r hd
      split
      · rename_i hc
        obtain ⟨rfl, hw⟩ := hc
        exact absurd hw (h d r hd)
      · rfl
    · rfl
theorem parW_go {m : Nat} {l r : List UInt8} {d : UInt8} (hd : l.drop (l.takeWhile not58).length = d :: 32 :: r) (hw : wordF (l.takeWhile not58) = l.takeWhile not58) : parW (m + 1) l = (l.takeWhile not58 :: (parW m r).1, (parW m r).2) := by
  conv => lhs; unfold parW
  rw [hd]
  simp only [hw, and_self, if_true]
theorem RdR.next {s R X : ByteArray} {ws : List ByteArray} {r : List UInt8} {d : UInt8} (h : RdR s ws R) (hX : X.data.toList = R.data.toList.takeWhile not58) (hd : R.data.toList.drop (R.data.toList.takeWhile not58).length = d :: 32 :: r) (hw : wordB X = X) (R' : ByteArray) (hR : R'.data.toList = r) : RdR s (ws ++ [X]) R' := by
  obtain ⟨m, h1, h2, h3⟩ := h
  have hl : R.data.toList.length = R.size := size_data R
  have hr : R'.data.toList.length = R'.size := size_data R'
  have hlen : R'.size + 2 ≤ R.size := by
    have := congrArg List.length hd
    rw [List.length_drop, List.length_cons, List.length_cons, ← hR] at this
    omega
  have hwf : wordF (R.data.toList.takeWhile not58) = R.data.toList.takeWhile not58 := by
    rw [← hX]
    have := congrArg (fun b => b.data.toList) hw
    exact this
  obtain ⟨n, rfl⟩ : ∃ n, m = n + 1 := ⟨m - 1, by omega⟩
  refine ⟨n, by omega, ?_, ?_⟩
  · rw [h2, parW_go hd hwf, hR]
    unfold bsl
    rw [List.map_append, List.append_assoc]
    simp [hX]
  · rw [List.length_append, List.length_cons, List.length_nil]; omega
theorem RdR.stop {s R : ByteArray} {ws : List ByteArray} (h : RdR s ws R) (hs : ∀ c r, R.data.toList.drop (R.data.toList.takeWhile not58).length = c :: 32 :: r → ¬ wordF (R.data.toList.takeWhile not58) = R.data.toList.takeWhile not58) : parW s.size s.data.toList = (bsl ws, R.data.toList) := by
  obtain ⟨m, _, h2, _⟩ := h
  rw [h2, parW_stop hs, List.append_nil]
/-- The tail. -/
theorem parF_nil {s R : ByteArray} {ws : List ByteArray} (h : parW s.size s.data.toList = (bsl ws, R.data.toList)) (ht : parT R.data.toList = none) : parF s.data.toList = none := by
  have hl : s.data.toList.length = s.size := size_data s
  unfold parF
  rw [hl, h, ht]
  split <;> rfl
theorem parF_big {s R : ByteArray} {ws : List ByteArray} (h : parW s.size s.data.toList = (bsl ws, R.data.toList)) (hb : 400 < s.size ∨ 8 < ws.length) : parF s.data.toList = none := by
  have hl : s.data.toList.length = s.size := size_data s
  unfold parF
  rw [hl, h, if_pos (by simp only [bsl, List.length_map]; exact hb)]
theorem parF_yes {s R : ByteArray} {ws : List ByteArray} {q : Int × Int} (h : parW s.size s.data.toList = (bsl ws, R.data.toList)) (hb : ¬ (400 < s.size ∨ 8 < ws.length)) (ht : parT R.data.toList = some q) : parF s.data.toList = some (bsl ws, q.1, q.2) := by
  have hl : s.data.toList.length = s.size := size_data s
  unfold parF
  rw [hl, h, if_neg (by simp only [bsl, List.length_map]; exact hb), ht]
  rfl
theorem readR_nil : readR [] = none := by kernel_rfl
theorem drop_some {l r : List UInt8} {v : Int} {a q : Nat} (h : readR (l.drop a) = some (v, r)) (ha : a ≤ l.length) (hq : a + (Lib.itoa v).length = q) : r = l.drop q ∧ q ≤ l.length := by
  obtain ⟨h1, _⟩ := readR_some h
  have h2 := congrArg List.length h1
  rw [List.length_drop, List.length_append] at h2
  refine ⟨?_, by omega⟩
  rw [← hq, ← List.drop_drop, h1, List.drop_left]
theorem parT_kind {l : List UInt8} (h : ¬ l.take 5 = kindS) : parT l = none := by unfold parT; rw [if_neg h]
theorem parT_one {l : List UInt8} (h : readR (l.drop 5) = none) : parT l = none := by
  unfold parT
  split
  · rw [h]; rfl
  · rfl
theorem parT_short {l : List UInt8} (h : l.length < 6) : parT l = none := by
  apply parT_one
  rw [List.drop_of_length_le (by omega)]
  exact readR_nil
theorem parT_zero {l r : List UInt8} (h : readR (l.drop 5) = some (0, r)) : parT l = none := by
  unfold parT
  split
  · rw [h]; rfl
  · rfl
theorem parT_at {l r : List UInt8} {v : Int} (h : readR (l.drop 5) = some (v, r)) (ha : ¬ r.take 4 = atS) : parT l = none := by
  unfold parT
  split
  · rw [h]
    show (if v = 0 then none else _) = none
    split
    · rfl
    · rfl
  · rfl
theorem parT_two {l r : List UInt8} {v : Int} (h : readR (l.drop 5) = some (v, r)) (h2 : readR (r.drop 4) = none) : parT l = none := by
  unfold parT
  split
  · rw [h]
    show (if v = 0 then none else _) = none
    split
    · rfl
    · rw [h2]; split <;> rfl
  · rfl
theorem parT_more {l r r2 : List UInt8} {v v2 : Int} (h : readR (l.drop 5) = some (v, r)) (h2 : readR (r.drop 4) = some (v2, r2)) (hr : r2 ≠ []) : parT l = none := by
  unfold parT
  split
  · rw [h]
    show (if v = 0 then none else _) = none
    split
    · rfl
    · rw [h2]
      split
      · show (if r2 = [] then _ else none) = none
        rw [if_neg hr]
      · rfl
  · rfl
theorem parT_yes {l r : List UInt8} {v v2 : Int} (hk : l.take 5 = kindS) (h : readR (l.drop 5) = some (v, r)) (hv : v ≠ 0) (ha : r.take 4 = atS) (h2 : readR (r.drop 4) = some (v2, [])) : parT l = some (v, v2) := by
  unfold parT
  rw [if_pos hk, h]
  show (if v = 0 then none else if r.take 4 = atS then _ else none) = _
  rw [if_neg hv, if_pos ha, h2]
  rfl
theorem four_res {f : Func} {i j k l : Tmp} (h : f.results = #[.tmp i, .tmp j, .tmp k, .tmp l]) (ts : Array Value) (P : Program) (w : World) : (results f ts).run P w = .ok (.tuple #[ts.getD i undef, ts.getD j undef, ts.getD k undef, ts.getD l undef]) w := by simp [results, h]
theorem Below_drewN {B n : Nat} {a w : World} (h : Below B a w) : Below B a (w.drewN n) := ⟨h.os, h.tape, h.output, h.size, h.block⟩
theorem Row_drewN {base n : Nat} {w : World} {v : Value} {l : List ByteArray} (h : Row base w v l) : Row base (w.drewN n) v l := h
noncomputable def sizS (v : Value) : Nat :=
  match v with
  | .string s => s.size
  | _ => 0
set_option maxHeartbeats 8000000 in
theorem rparse_any (s : ByteArray) (hs : s.size ≤ 1000) (w : World) :
    Calls Tryz.prog 20 #[.string s] w fun ev w' => ParR6 (parF s.data.toList) w.heap.size ev w' ∧ Below w.heap.size w w' := by
  obtain ⟨i0, hi0, hz0, hz1, hz2⟩ := info3 info_str
  have HI := Lib.hid hi0; have HZ0 := Lib.hid hz0; have HZ1 := Lib.hid hz1; have HZ2 := Lib.hid hz2
  have hsi : (s.size : Int) ≤ 1000 := by omega
  clear hi0 hz0 hz1 hz2
  go_enter Tryz.func20, Tryz.ntmps20
  go_upto_block 0 with fail
  go_cut [6, 7] (fun v r wx => ∃ (ws : List ByteArray) (R : ByteArray), r = .string R ∧ Row w.heap.size wx v ws ∧ parW s.size s.data.toList = (bsl ws, R.data.toList) ∧ R.size ≤ s.size ∧ ws.length ≤ 500 ∧ Below w.heap.size w wx)
  case first =>
    go_wp2
    go_loopw [6, 7] (fun v r wx => ∃ (ws : List ByteArray) (R : ByteArray), r = .string R ∧ Row w.heap.size wx v ws ∧ RdR s ws R ∧ R.size ≤ s.size ∧ ws.length ≤ 500 ∧ Below w.heap.size w wx) (fun _ r _ => sizS r)
    case atStart => exact ⟨[], s, rfl, World.ownsRow_nil _ _ _ _, RdR.start s, Nat.le_refl _, Nat.zero_le _, Below.refl _ _⟩
    case round =>
      obtain ⟨ws, R, rfl, hrow, hrd, hRs, hwl, hbl⟩ := hrel
      obtain ⟨wo, rfl⟩ : ∃ wo : World, wo = wr := ⟨_, rfl⟩
      have hl : R.data.toList.length = R.size := size_data R
      obtain ⟨al, hal⟩ : ∃ al, (R.data.toList.takeWhile not58).length = al := ⟨_, rfl⟩
      have hale : al ≤ R.size := by rw [← hal, ← hl]; exact List.Sublist.length_le (List.takeWhile_sublist _)
      have hRi : (R.size : Int) ≤ 1000 := by omega
      have HROW := Lib.hid hrow; have HRD := Lib.hid hrd; have HWL := Lib.hid hwl; have HBL := Lib.hid hbl; have HRS := Lib.hid hRs; have HAL := Lib.hid hal; have HALE := Lib.hid hale
      clear hrow hrd hwl hbl hRs hal hale
      go_wp2
      go_loopw [8] (fun x wx => ∃ j : Nat, x = .int .i64 (j : Int) ∧ j ≤ al ∧ wo = wx) (fun x _ => R.size - natOf x)
      case atStart => exact ⟨0, rfl, Nat.zero_le _, rfl⟩
      case round =>
        obtain ⟨j, rfl, hj, rfl⟩ := hrel
        by_cases hja : j < al
        · have hjR : j < R.size := by have := HALE.out; omega
          have hjR' : (j : Int) < (R.size : Int) := by omega
          have hj0 : ¬ ((j : Int) < 0) := by omega
          have h58 : (((R[j]'hjR).toNat : Int) == 58) = false := by
            rw [beq_eq_false_iff_ne]
            intro h
            have hm : not58 (R[j]'hjR) = true := by
              have h1 : (R.data.toList.takeWhile not58)[j]'(by rw [HAL.out]; exact hja) = R[j]'hjR := by
                have hp : (R.data.toList.takeWhile not58) <+: R.data.toList := List.takeWhile_prefix _
                rw [List.IsPrefix.getElem hp]; rfl
              rw [← h1]
              exact (List.all_eq_true.1 (List.all_takeWhile)) _ (List.getElem_mem _)
            have hc : R[j]'hjR = 58 := u8_eq (by have : (58 : UInt8).toNat = 58 := rfl; omega)
            rw [hc] at hm; revert hm; decide
          have HJA := Lib.hid hja
          clear hj hja
          go_wp2
          go_roundw
          case rel => exact ⟨j + 1, by go_num, HJA.out, trivial⟩
          case measure => simp [natOf]; omega
        · have hje : j = al := by omega
          subst hje
          have hj0 : ¬ ((j : Int) < 0) := by omega
          obtain ⟨dl, hdl⟩ : ∃ dl, R.data.toList.drop j = dl := ⟨_, rfl⟩
          have hdr : R.data.toList.drop (R.data.toList.takeWhile not58).length = dl := by rw [HAL.out, hdl]
          by_cases hjR : j < R.size
          · have hjR' : (j : Int) < (R.size : Int) := by omega
            have hd1 : dl = R[j]'hjR :: R.data.toList.drop (j + 1) := by rw [← hdl, List.drop_eq_getElem_cons (by omega)]; rfl
            have hc58 : R[j]'hjR = 58 := dropW_head (hdr.trans hd1)
            have h58 : (((R[j]'hjR).toNat : Int) == 58) = true := by rw [hc58]; rfl
            by_cases hj1 : j + 1 < R.size
            · have hj1' : ¬ ((R.size : Int) ≤ (j : Int) + 1) := by omega
              have hd2 : R.data.toList.drop (j + 1) = R[j + 1]'hj1 :: R.data.toList.drop (j + 2) := by rw [List.drop_eq_getElem_cons (by omega)]; rfl
              by_cases h32 : R[j + 1]'hj1 = 32
              · have h32' : (((R[j + 1]'hj1).toNat : Int) == 32) = true := by rw [h32]; rfl
                have hXd : (R.extract 0 j).data.toList = R.data.toList.takeWhile not58 := by
                  rw [Lib.extract_data, List.drop_zero, Nat.sub_zero]
                  have hp : (R.data.toList.takeWhile not58) <+: R.data.toList := List.takeWhile_prefix _
                  obtain ⟨r, hr⟩ := hp
                  conv => lhs; rw [← hr]
                  rw [← HAL.out, List.take_left]
                have hXs : (R.extract 0 j).size ≤ maxLen := by rw [ByteArray.size_extract]; unfold maxLen; omega
                have hde : R.data.toList.drop (R.data.toList.takeWhile not58).length = 58 :: 32 :: R.data.toList.drop (j + 2) := by rw [hdr, hd1, hc58, hd2, h32]
                obtain ⟨X, hX⟩ : ∃ X, R.extract 0 j = X := ⟨_, rfl⟩
                rw [hX] at hXd hXs
                have hwd := fun w' => word_any X hXs w'
                obtain ⟨WX, hWX⟩ : ∃ WX, wordB X = WX := ⟨_, rfl⟩
                rw [hWX] at hwd
                have HWD := Lib.hid hwd
                by_cases hsame : WX = X
                · have hcmp := str_beq WX X true (by rw [hsame]; simp)
                  have hnx := HRD.out.next hXd hde (by rw [hWX, hsame]) (R.extract (j + 2) R.size) (by rw [Lib.extract_data, List.take_of_length_le (by rw [List.length_drop]; omega)])
                  have hsz2 : (R.extract (j + 2) R.size).size ≤ R.size := by rw [ByteArray.size_extract]; omega
                  have hsz3 : (R.extract (j + 2) R.size).size < R.size := by rw [ByteArray.size_extract]; omega
                  have hw500 : (ws ++ [X]).length ≤ 500 := by obtain ⟨_, _, _, h⟩ := hnx; omega
                  have HNX := Lib.hid hnx; have HS2 := Lib.hid hsz2; have HS3 := Lib.hid hsz3; have HW5 := Lib.hid hw500
                  have hj2 : (j : Int) + 2 ≤ (R.size : Int) := by omega
                  clear hnx hsz2 hsz3 hw500 hXd hXs hde hwd hWX hsame hd1 hd2 hdl hdr hj hja
                  go_wp2
                  have hwj : IntKind.i64.wrap ((j : Int) + 1) = (j : Int) + 1 := by rw [IntKind.wrap_i64]; omega
                  have hgj : decide ((R.size : Int) ≤ (j : Int) + 1) = false := decide_eq_false (by omega)
                  have hnj : (0 : Int) ≤ (j : Int) + 1 := by omega
                  have h32a : ((R[j + 1]'hj1).toNat : Int) = 32 := by rw [beq_iff_eq] at h32'; exact h32'
                  have h32d : decide (((R[j + 1]'hj1).toNat : Int) = 32) = true := decide_eq_true h32a
                  have h32b : (((R[j + 1]'hj1).toNat : Int) != 32) = false := by rw [bne, h32']; rfl
                  have hjz : (0 : Int) ≤ (j : Int) := by omega
                  have hjl : (j : Int) ≤ (R.size : Int) := by omega
                  go_quiet ((go_at_call 28; exact Calls.quiet_of_same (HWD.out _)))
                  go_wp2_with (first
                    | (at_builtin; go_loud (refine wpList_append_own _ rfl _ _ 23 rfl w.heap.size 9 i0 (.string ByteArray.empty) 1 16 Tryz.underlying23 HI.out HZ0.out HZ1.out HZ2.out rfl (by decide) _ _ _ rfl ((Row_drewN HROW.out).alloc _) _ 1 1 [.string X] rfl rfl ?c1 ?c2 ?c3 ?c4 ?c5 ?_)))
                  case c1 => exact World.news_of_block (heap_alloc_new _ _)
                  case c2 => intro u hu; rw [List.mem_singleton] at hu; subst hu; rfl
                  case c3 => have := HWL.out; unfold maxLen; omega
                  case c4 => have := HWL.out; omega
                  case c5 => have := HBL.out.size; simp; omega
                  intro v' w6 own6 grow6 _
                  have hE7 : Below w.heap.size w w6 := ((Below_drewN HBL.out).alloc HBL.out.size _).grown grow6 (by have := HBL.out.size; simp; omega) (fun q hq => ((HROW.out.alloc (.cells #[.string X] 9)).lt q hq).1)
                  have hR7 : Row w.heap.size w6 v' (ws ++ [X]) := by
                    unfold Row
                    rw [List.length_append, List.map_append]; exact own6
                  have HE7 := Lib.hid hE7; have HR7 := Lib.hid hR7
                  clear own6 grow6 hE7 hR7
                  go_wp2
                  exact ⟨⟨ws ++ [X], _, rfl, HR7.out, HNX.out, Nat.le_trans HS2.out HRS.out, HW5.out, HE7.out⟩, HS3.out⟩
                · have hcmp := str_beq WX X false (decide_eq_false fun h => hsame (by rw [← st_data WX, ← st_data X, h]))
                  have hstop := HRD.out.stop fun c r h hw => hsame (by
                    rw [← hWX]
                    unfold wordB
                    rw [hXd, hw, ← hXd, st_data])
                  have HST := Lib.hid hstop
                  clear hstop hXd hXs hde hwd hWX hsame hd1 hd2 hdl hdr hj hja
                  go_wp2
                  have hwj : IntKind.i64.wrap ((j : Int) + 1) = (j : Int) + 1 := by rw [IntKind.wrap_i64]; omega
                  have hgj : decide ((R.size : Int) ≤ (j : Int) + 1) = false := decide_eq_false (by omega)
                  have hnj : (0 : Int) ≤ (j : Int) + 1 := by omega
                  have h32a : ((R[j + 1]'hj1).toNat : Int) = 32 := by rw [beq_iff_eq] at h32'; exact h32'
                  have h32d : decide (((R[j + 1]'hj1).toNat : Int) = 32) = true := decide_eq_true h32a
                  have h32b : (((R[j + 1]'hj1).toNat : Int) != 32) = false := by rw [bne, h32']; rfl
                  have hjz : (0 : Int) ≤ (j : Int) := by omega
                  have hjl : (j : Int) ≤ (R.size : Int) := by omega
                  go_quiet ((go_at_call 28; exact Calls.quiet_of_same (HWD.out _)))
                  go_wp2
                  go_meet
                  case rel => exact ⟨ws, R, rfl, Row_drewN HROW.out, HST.out, HRS.out, HWL.out, Below_drewN HBL.out⟩
              · have h32' : (((R[j + 1]'hj1).toNat : Int) == 32) = false := by
                  rw [beq_eq_false_iff_ne]; exact fun h => h32 (u8_eq (by have : (32 : UInt8).toNat = 32 := rfl; omega))
                have hstop := HRD.out.stop fun c r h _ => h32 (by
                  rw [hdr, hd1, hd2] at h
                  exact (List.cons.inj (List.cons.inj h).2).1)
                have HST := Lib.hid hstop
                clear hstop hd1 hd2 hdl hdr hj hja h32
                go_wp2
                have hwj : IntKind.i64.wrap ((j : Int) + 1) = (j : Int) + 1 := by rw [IntKind.wrap_i64]; omega
                have hgj : decide ((R.size : Int) ≤ (j : Int) + 1) = false := decide_eq_false (by omega)
                have hnj : (0 : Int) ≤ (j : Int) + 1 := by omega
                have h32a : ¬ (((R[j + 1]'hj1).toNat : Int) = 32) := by intro h; rw [h] at h32'; cases h32'
                have h32d : decide (((R[j + 1]'hj1).toNat : Int) = 32) = false := decide_eq_false h32a
                have h32n : ¬ ((R[j + 1]'hj1).toNat = 32) := by omega
                have h32b : (((R[j + 1]'hj1).toNat : Int) != 32) = true := by rw [bne, h32']; rfl
                go_region
                go_wp2
                go_meet
                case rel => exact ⟨ws, R, rfl, HROW.out.drew, HST.out, HRS.out, HWL.out, HBL.out.drew⟩
            · have hj1' : (R.size : Int) ≤ (j : Int) + 1 := by omega
              have hstop := HRD.out.stop fun c r h _ => by
                rw [hdr, hd1, List.drop_of_length_le (by omega)] at h
                cases h
              have HST := Lib.hid hstop
              clear hstop hd1 hdl hdr hj hja hj1
              go_wp2
              go_region
              go_wp2
              go_meet
              case rel => exact ⟨ws, R, rfl, HROW.out.drew, HST.out, HRS.out, HWL.out, HBL.out.drew⟩
          · have hjR' : ¬ ((j : Int) < (R.size : Int)) := by omega
            have hj1' : (R.size : Int) ≤ (j : Int) + 1 := by omega
            have hstop := HRD.out.stop fun c r h _ => by
              rw [hdr, ← hdl, List.drop_of_length_le (by omega)] at h
              cases h
            have HST := Lib.hid hstop
            have hjs : (j : Int) ≤ 1000 := by have := HALE.out; omega
            clear hstop hdl hdr hj hja hjR
            go_wp2
            have hwj : IntKind.i64.wrap ((j : Int) + 1) = (j : Int) + 1 := by rw [IntKind.wrap_i64]; omega
            have hgj : decide ((R.size : Int) ≤ (j : Int) + 1) = true := decide_eq_true (by omega)
            go_region
            go_wp2
            go_meet
            case rel => exact ⟨ws, R, rfl, HROW.out.drew, HST.out, HRS.out, HWL.out, HBL.out.drew⟩
  case rest =>
    obtain ⟨ws, R, rfl, hrow, hpw, hRs, hwl, hbl⟩ := hcut
    obtain ⟨wo, rfl⟩ : ∃ wo : World, wo = wc := ⟨_, rfl⟩
    obtain ⟨A, c, rfl, hc1, hc2⟩ := hrow.code
    have hl : R.data.toList.length = R.size := size_data R
    have hRi : (R.size : Int) ≤ 1000 := by omega
    have hwi : (ws.length : Int) ≤ 500 := by omega
    have HROW := Lib.hid hrow; have HPW := Lib.hid hpw; have HBL := Lib.hid hbl; have HL := Lib.hid hl
    clear hrow hpw hbl hc2 hc1 hl
    by_cases h6 : R.size < 6
    · -- TAIL 1
      have HPF := Lib.hid (parF_nil HPW.out (parT_short (by rw [HL.out]; exact h6)))
      have h6' : (R.size : Int) < 6 := by omega
      clear h6
      have h6d : decide ((R.size : Int) < 6) = true := decide_eq_true (by omega)
      go_wp2
      (try simp only [Exit.inBlock, Exit.then])
      refine bodyPost_ret (four_res rfl _ _ _) rfl ?_
      exact ⟨by rw [HPF.out]; rfl, HBL.out⟩
    · have h6' : ¬ ((R.size : Int) < 6) := by omega
      have hx5 : (R.extract 0 5).data.toList = R.data.toList.take 5 := by rw [Lib.extract_data, List.drop_zero]
      by_cases hk : R.data.toList.take 5 = kindS
      · have hcmp : (R.extract 0 5).toList = [107, 105, 110, 100, 32] := by rw [Lib.toList_data, hx5, hk]; rfl
        have hcmq : ((R.extract 0 5).toList == [107, 105, 110, 100, 32]) = true := by rw [hcmp]; rfl
        by_cases h4 : 400 < s.size
        · -- TAIL 3
          have HPF := Lib.hid (parF_big HPW.out (.inl h4))
          have h4' : (400 : Int) < (s.size : Int) := by omega
          clear h4 h6 hx5 hk
          have h6d : decide ((R.size : Int) < 6) = false := decide_eq_false (by omega)
          have h4d : decide ((400 : Int) < (s.size : Int)) = true := decide_eq_true (by omega)
          have h5n : (5 : Int) ≤ (R.size : Int) := by omega
          go_wp2
          (try simp only [Exit.inBlock, Exit.then])
          refine bodyPost_ret (four_res rfl _ _ _) rfl ?_
          exact ⟨by rw [HPF.out]; rfl, HBL.out⟩
        · have h4' : ¬ ((400 : Int) < (s.size : Int)) := by omega
          by_cases h8 : 8 < ws.length
          · -- TAIL 4
            have HPF := Lib.hid (parF_big HPW.out (.inr h8))
            have h8' : (8 : Int) < (ws.length : Int) := by omega
            clear h4 h6 hx5 hk h8
            have h6d : decide ((R.size : Int) < 6) = false := decide_eq_false (by omega)
            have h4d : decide ((400 : Int) < (s.size : Int)) = false := decide_eq_false (by omega)
            have h8d : decide ((8 : Int) < (ws.length : Int)) = true := decide_eq_true (by omega)
            have h5n : (5 : Int) ≤ (R.size : Int) := by omega
            go_wp2
            (try simp only [Exit.inBlock, Exit.then])
            refine bodyPost_ret (four_res rfl _ _ _) rfl ?_
            exact ⟨by rw [HPF.out]; rfl, HBL.out⟩
          · have h8' : ¬ ((8 : Int) < (ws.length : Int)) := by omega
            have h48 : ¬ (400 < s.size ∨ 8 < ws.length) := by omega
            have h6d : decide ((R.size : Int) < 6) = false := decide_eq_false (by omega)
            have h4d : decide ((400 : Int) < (s.size : Int)) = false := decide_eq_false (by omega)
            have h8d : decide ((8 : Int) < (ws.length : Int)) = false := decide_eq_false (by omega)
            have h5n : (5 : Int) ≤ (R.size : Int) := by omega
            have hrd : ∀ w', Calls Tryz.prog 35 #[.string R, .int .i64 5] w' fun ev w'' => ev = .returned (readV R.data.toList 5) ∧ Below w'.heap.size w' w'' := fun w' => rread_any R (by omega) 5 (by omega) w'
            have HK := Lib.hid hk; have H48 := Lib.hid h48
            clear hk h48 hx5 h4 h8
            cases hr0 : readR (R.data.toList.drop 5) with
            | none =>
              have hv : readV R.data.toList 5 = .tuple #[.int .i64 0, .int .i64 (-1)] := by unfold readV; rw [hr0]
              rw [hv] at hrd
              have HPF := Lib.hid (parF_nil HPW.out (parT_one hr0))
              have HRD := Lib.hid hrd
              clear hrd hv hr0 h6
              · -- TAIL 6
                go_wp2_with (go_at_call_of 35 (Value.int IntKind.i64 5); refine (HRD.out _).mono ?_; rintro ev w3 ⟨rfl, hb3⟩; have HB3 := Lib.hid hb3; clear hb3)
                (try simp only [Exit.inBlock, Exit.then])
                refine bodyPost_ret (four_res rfl _ _ _) rfl ?_
                exact ⟨by rw [HPF.out]; rfl, keepW HBL.out HB3.out⟩
            | some p =>
              obtain ⟨v, r⟩ := p
              obtain ⟨q, hq⟩ : ∃ q, 5 + (Lib.itoa v).length = q := ⟨_, rfl⟩
              obtain ⟨hrr, hqR⟩ := drop_some hr0 (by rw [HL.out]; omega) hq
              rw [HL.out] at hqR
              have hv : readV R.data.toList 5 = .tuple #[.int .i64 v, .int .i64 (q : Int)] := by unfold readV; rw [hr0, ← hq]
              rw [hv] at hrd
              have HRD := Lib.hid hrd; have HR0 := Lib.hid hr0
              have hq0 : ¬ ((q : Int) < 0) := by omega
              have hqi : (q : Int) ≤ (R.size : Int) := by omega
              have hq0d : decide ((q : Int) < 0) = false := decide_eq_false (by omega)
              have hw4 : IntKind.i64.wrap ((q : Int) + 4) = (q : Int) + 4 := by rw [IntKind.wrap_i64]; omega
              clear hrd hv hr0 hq h6
              by_cases hv0 : v = 0
              · subst hv0
                have HPF := Lib.hid (parF_nil HPW.out (parT_zero HR0.out))
                · -- TAIL 7
                  go_wp2_with (go_at_call_of 35 (Value.int IntKind.i64 5); refine (HRD.out _).mono ?_; rintro ev w3 ⟨rfl, hb3⟩; have HB3 := Lib.hid hb3; clear hb3)
                  (try simp only [Exit.inBlock, Exit.then])
                  refine bodyPost_ret (four_res rfl _ _ _) rfl ?_
                  exact ⟨by rw [HPF.out]; rfl, keepW HBL.out HB3.out⟩
              · have hvq : (v == 0) = false := by rw [beq_eq_false_iff_ne]; exact hv0
                have HV0 := Lib.hid hv0
                by_cases h4r : R.size < q + 4
                · have HPF := Lib.hid (parF_nil HPW.out (parT_at HR0.out (fun h => by
                    have := congrArg List.length h
                    rw [hrr, List.length_take, List.length_drop, HL.out] at this
                    have e4 : atS.length = 4 := rfl
                    omega)))
                  have h4q : decide ((R.size : Int) < (q : Int) + 4) = true := decide_eq_true (by omega)
                  have h4i : (R.size : Int) < (q : Int) + 4 := by omega
                  clear h4r hrr
                  · -- TAIL 8
                    go_wp2_with (go_at_call_of 35 (Value.int IntKind.i64 5); refine (HRD.out _).mono ?_; rintro ev w3 ⟨rfl, hb3⟩; have HB3 := Lib.hid hb3; clear hb3)
                    (try simp only [Exit.inBlock, Exit.then])
                    refine bodyPost_ret (four_res rfl _ _ _) rfl ?_
                    exact ⟨by rw [HPF.out]; rfl, keepW HBL.out HB3.out⟩
                · have h4q : decide ((R.size : Int) < (q : Int) + 4) = false := decide_eq_false (by omega)
                  have h4i : ¬ ((R.size : Int) < (q : Int) + 4) := by omega
                  have h4j : (q : Int) + 4 ≤ (R.size : Int) := by omega
                  have h4k : (0 : Int) ≤ (q : Int) + 4 := by omega
                  have h4l : (q : Int) ≤ (q : Int) + 4 := by omega
                  have hx4 : (R.extract q (q + 4)).data.toList = r.take 4 := by rw [Lib.extract_data, ← hrr, Nat.add_sub_cancel_left]
                  by_cases ha : r.take 4 = atS
                  · have hcmt : (R.extract q (q + 4)).toList = [32, 97, 116, 32] := by rw [Lib.toList_data, hx4, ha]; rfl
                    have hcmu : ((R.extract q (q + 4)).toList == [32, 97, 116, 32]) = true := by rw [hcmt]; rfl
                    have hre : ∀ w', Calls Tryz.prog 35 #[.string R, .int .i64 ((q : Int) + 4)] w' fun ev w'' => ev = .returned (readV R.data.toList (q + 4)) ∧ Below w'.heap.size w' w'' := fun w' => rread_any R (by omega) (q + 4) (by omega) w'
                    have hrq : r.drop 4 = R.data.toList.drop (q + 4) := by rw [hrr, List.drop_drop]
                    have HA := Lib.hid ha
                    clear hx4 ha h4r
                    cases hr1 : readR (R.data.toList.drop (q + 4)) with
                    | none =>
                      have hv : readV R.data.toList (q + 4) = .tuple #[.int .i64 0, .int .i64 (-1)] := by unfold readV; rw [hr1]
                      rw [hv] at hre
                      have HPF := Lib.hid (parF_nil HPW.out (parT_two HR0.out (by rw [hrq]; exact hr1)))
                      have HRE := Lib.hid hre
                      have hne : ¬ ((-1 : Int) = (R.size : Int)) := by omega
                      have hneq : ((-1 : Int) == (R.size : Int)) = false := by rw [beq_eq_false_iff_ne]; exact hne
                      clear hre hv hr1 hrq hrr
                      · -- TAIL 10
                        go_wp2_with (go_at_call_of 35 (Value.int IntKind.i64 5); refine (HRD.out _).mono ?_; rintro ev w3 ⟨rfl, hb3⟩; have HB3 := Lib.hid hb3; clear hb3)
                        refine (HRE.out _).mono ?_
                        rintro ev w5 ⟨rfl, hb5⟩; have HB5 := Lib.hid hb5; clear hb5
                        go_wp2
                        (try simp only [Exit.inBlock, Exit.then])
                        refine bodyPost_ret (four_res rfl _ _ _) rfl ?_
                        exact ⟨by rw [HPF.out]; rfl, keepW (keepW HBL.out HB3.out) HB5.out⟩
                    | some p2 =>
                      obtain ⟨v2, r2⟩ := p2
                      obtain ⟨m, hm⟩ : ∃ m, q + 4 + (Lib.itoa v2).length = m := ⟨_, rfl⟩
                      obtain ⟨hrr2, hmR⟩ := drop_some hr1 (by rw [HL.out]; omega) hm
                      rw [HL.out] at hmR
                      have hv : readV R.data.toList (q + 4) = .tuple #[.int .i64 v2, .int .i64 (m : Int)] := by unfold readV; rw [hr1, ← hm]
                      rw [hv] at hre
                      have HRE := Lib.hid hre
                      have hmi : (m : Int) ≤ (R.size : Int) := by omega
                      by_cases hend : m = R.size
                      · have hr2 : r2 = [] := by rw [hrr2]; exact List.drop_of_length_le (by rw [HL.out]; omega)
                        have HPF := Lib.hid (parF_yes HPW.out H48.out (parT_yes HK.out HR0.out HV0.out HA.out (by rw [hrq, hr1, hr2])))
                        have heq : (m : Int) = (R.size : Int) := by omega
                        have heqq : ((m : Int) == (R.size : Int)) = true := by rw [beq_iff_eq]; exact heq
                        clear hre hv hr1 hrq hrr hrr2 hm hend hr2 hmR
                        · -- TAIL 12
                          go_wp2_with (go_at_call_of 35 (Value.int IntKind.i64 5); refine (HRD.out _).mono ?_; rintro ev w3 ⟨rfl, hb3⟩; have HB3 := Lib.hid hb3; clear hb3)
                          refine (HRE.out _).mono ?_
                          rintro ev w5 ⟨rfl, hb5⟩; have HB5 := Lib.hid hb5; clear hb5
                          go_wp2
                          (try simp only [Exit.inBlock, Exit.then])
                          refine bodyPost_ret (four_res rfl _ _ _) rfl ?_
                          refine ⟨?_, keepW (keepW HBL.out HB3.out) HB5.out⟩
                          rw [HPF.out]
                          exact ⟨_, rfl, by rw [st_bsl]; exact own_below (own_below HROW.out HB3.out) HB5.out⟩
                      · have hr2 : r2 ≠ [] := fun h => by
                          have := congrArg List.length (hrr2.symm.trans h)
                          rw [List.length_drop, HL.out, List.length_nil] at this
                          omega
                        have HPF := Lib.hid (parF_nil HPW.out (parT_more HR0.out (by rw [hrq]; exact hr1) hr2))
                        have heq : ¬ ((m : Int) = (R.size : Int)) := by omega
                        have heqq : ((m : Int) == (R.size : Int)) = false := by rw [beq_eq_false_iff_ne]; exact heq
                        clear hre hv hr1 hrq hrr hrr2 hm hend hr2 hmR
                        · -- TAIL 11
                          go_wp2_with (go_at_call_of 35 (Value.int IntKind.i64 5); refine (HRD.out _).mono ?_; rintro ev w3 ⟨rfl, hb3⟩; have HB3 := Lib.hid hb3; clear hb3)
                          refine (HRE.out _).mono ?_
                          rintro ev w5 ⟨rfl, hb5⟩; have HB5 := Lib.hid hb5; clear hb5
                          go_wp2
                          (try simp only [Exit.inBlock, Exit.then])
                          refine bodyPost_ret (four_res rfl _ _ _) rfl ?_
                          exact ⟨by rw [HPF.out]; rfl, keepW (keepW HBL.out HB3.out) HB5.out⟩
                  · have hcmt : ¬ (R.extract q (q + 4)).toList = [32, 97, 116, 32] := by rw [Lib.toList_data, hx4]; exact ha
                    have hcmu : ((R.extract q (q + 4)).toList == [32, 97, 116, 32]) = false := by rw [beq_eq_false_iff_ne]; exact hcmt
                    have HPF := Lib.hid (parF_nil HPW.out (parT_at HR0.out ha))
                    clear hx4 ha h4r hrr
                    · -- TAIL 9
                      go_wp2_with (go_at_call_of 35 (Value.int IntKind.i64 5); refine (HRD.out _).mono ?_; rintro ev w3 ⟨rfl, hb3⟩; have HB3 := Lib.hid hb3; clear hb3)
                      (try simp only [Exit.inBlock, Exit.then])
                      refine bodyPost_ret (four_res rfl _ _ _) rfl ?_
                      exact ⟨by rw [HPF.out]; rfl, keepW HBL.out HB3.out⟩
      · -- TAIL 2
        have hcmp : ¬ (R.extract 0 5).toList = [107, 105, 110, 100, 32] := by rw [Lib.toList_data, hx5]; exact hk
        have hcmq : ((R.extract 0 5).toList == [107, 105, 110, 100, 32]) = false := by rw [beq_eq_false_iff_ne]; exact hcmp
        have HPF := Lib.hid (parF_nil HPW.out (parT_kind hk))
        clear h6 hx5 hk
        have h6d : decide ((R.size : Int) < 6) = false := decide_eq_false (by omega)
        have h5n : (5 : Int) ≤ (R.size : Int) := by omega
        go_wp2
        (try simp only [Exit.inBlock, Exit.then])
        refine bodyPost_ret (four_res rfl _ _ _) rfl ?_
        exact ⟨by rw [HPF.out]; rfl, HBL.out⟩
end Go.Proofs.YtidkpdabidlnnaaGreatDoor


/-
  What a line is parsed as: the law's walk.
-/



namespace Go.Proofs.YtidkpdabidlnnaaGreatDoor

open Go.Den Go.RowKit

set_option maxRecDepth 100000

set_option linter.unusedSectionVars false

variable [Inhabited Root]

structure ParE (ws : List ByteArray) (k o : Int) (x : ByteArray) (f : Er) : Prop where
  inn : innerE f = .flt k o
  wds : wordsE f = ws
  size : f.size ≤ 10
  small : smallW f
  txt : st (errS f) = x
def PrgR (r : Option (List (List UInt8) × Int × Int)) (x : ByteArray) (ev : Ending) (w' : World) : Prop :=
  match r with
  | none => ev = .returned (.tuple #[.nilIface, .bool false])
  | some (l, k, o) => ∃ f : Er, ev = .returned (.tuple #[.iface f.ty f.cont, .bool true]) ∧ f.lies w' ∧ ParE (l.map st) k o x f
theorem prg_of {x : ByteArray} {ev : Ending} {w' : World} (h1 : ParR (parC x) ev w') : PrgR (parF x.data.toList) x ev w' := by
  cases hp : parF x.data.toList with
  | none =>
    have hc : parC x = none := by rw [parC_parF, hp]; rfl
    rw [hc] at h1; exact h1
  | some p =>
    obtain ⟨l, k, o⟩ := p
    have hc : parC x = some (l.map st, k, o) := by rw [parC_parF, hp]; rfl
    rw [hc] at h1
    obtain ⟨f, e1, e2, e3, e4, e5, e6⟩ := h1
    refine ⟨f, e1, e2, e4, e3, e5, e6, ?_⟩
    rw [errS_line e4, e3]
    unfold parC at hc
    split at hc
    · cases hc
    · cases hr : readC (nthS (pcs2 x) ((pcs2 x).length - 1)) with
      | none => rw [hr] at hc; cases hc
      | some q =>
        rw [hr] at hc
        simp only [Option.bind_some] at hc
        split at hc
        · rename_i ht
          injection hc with hc
          injection hc with ha hb
          injection hb with hb hd
          rw [← ha, ← hb, ← hd]; exact ht
        · cases hc
theorem prog_reads (hR : R6) (x : ByteArray) (hx : x.size ≤ 1000) (w : World) (hw : Held w) :
    Calls Tryz.prog 19 #[.string x] w fun ev w' => PrgR (parF x.data.toList) x ev w' ∧ Below w.heap.size w w' :=
  (parse_any hR x hx w hw).mono fun _ _ ⟨h1, h2⟩ => ⟨prg_of h1, h2⟩
theorem kind_pf (hR : R6) {ws : List ByteArray} {k o : Int} {x : ByteArray} {w wc : World} {f : Er} (h : ParE ws k o x f) (a : At w f wc) : Calls Tryz.prog 10 #[.iface f.ty f.cont] wc fun ev w' => ev = .returned (.tuple #[.int .i64 k, .bool true]) ∧ At w f w' :=
  (kind_any f wc a.lies (by have := h.size; omega) (hR.ert.held a.held)).mono fun ev w' ⟨h1, h2⟩ => ⟨by rw [h1, (fst_inner h.inn).1]; rfl, a.next h2⟩
theorem off_pf (hR : R6) {ws : List ByteArray} {k o : Int} {x : ByteArray} {w wc : World} {f : Er} (h : ParE ws k o x f) (a : At w f wc) : Calls Tryz.prog 11 #[.iface f.ty f.cont] wc fun ev w' => ev = .returned (.tuple #[.int .i64 o, .bool true]) ∧ At w f w' :=
  (off_any f wc a.lies (by have := h.size; omega) (hR.ert.held a.held)).mono fun ev w' ⟨h1, h2⟩ => ⟨by rw [h1, (fst_inner h.inn).2.1]; rfl, a.next h2⟩
theorem line_pf (hR : R6) {ws : List ByteArray} {k o : Int} {x : ByteArray} {w wc : World} {f : Er} (h : ParE ws k o x f) (a : At w f wc) : Calls Tryz.prog 12 #[.iface f.ty f.cont] wc fun ev w' => ev = .returned (.tuple #[.string x, .bool true]) ∧ At w f w' :=
  (line_any hR f wc a.lies (by have := h.size; omega) h.small a.held).mono fun ev w' ⟨h1, h2⟩ => ⟨by rw [h1]; unfold lineV; rw [h.inn, h.txt]; rfl, a.next h2⟩
theorem notes_pf {ws : List ByteArray} {k o : Int} {x : ByteArray} {w wc : World} {f : Er} (h : ParE ws k o x f) (a : At w f wc) : Calls Tryz.prog 15 #[.iface f.ty f.cont] wc fun ev w' => ∃ v, ev = .returned v ∧ RowC w' v ws ∧ At w f w' :=
  (notes_any f wc a.lies (by have := h.size; omega)).mono fun ev w' ⟨v, h1, h2, h3⟩ => ⟨v, h1, by have := h2.code; rw [h.wds] at this; exact this, a.next h3⟩
theorem ParE.few {ws : List ByteArray} {k o : Int} {x : ByteArray} {f : Er} (h : ParE ws k o x f) : ws.length ≤ 100 := by
  have h1 := (cnt_words h.inn).2
  rw [h.wds] at h1
  have := h.size
  omega
theorem lineF_len : ∀ (l : List ByteArray) (k o : Int), (∀ x ∈ l, x.size ≤ 32) → In64 k → In64 o → (lineF (bsl l) k o).length ≤ 34 * l.length + 89
  | [], k, o, _, ik, io => by
    have h1 := itoa_len (in_R ik)
    have h2 := itoa_len (in_R io)
    show (faultS k o).length ≤ _
    unfold faultS
    rw [List.length_append, List.length_append, List.length_append]
    have e1 : kindS.length = 5 := rfl
    have e2 : atS.length = 4 := rfl
    simp only [List.length_nil]
    omega
  | x :: l, k, o, h, ik, io => by
    have ih := lineF_len l k o (fun y hy => h y (List.mem_cons_of_mem _ hy)) ik io
    have hx := h x (List.mem_cons_self ..)
    have hxl : x.data.toList.length = x.size := size_data x
    have e : lineF (bsl (x :: l)) k o = x.data.toList ++ [58, 32] ++ lineF (bsl l) k o := by unfold lineF bsl; simp
    rw [e, List.length_append, List.length_append, List.length_cons]
    simp only [List.length_cons, List.length_nil]
    omega
/-- The line of what was built. -/
theorem line_of (hR : R6) {k o : Int} {ss : List ByteArray} {base : Nat} {e vh : Value} {w3 : World} (ik : In64 k) (io : In64 o) (h : BuildR k o ss base e vh w3) (hw : Held w3) :
    ∃ (T : ByteArray) (b : Bool), T.size ≤ 1000 ∧ Calls Tryz.prog 12 #[e] w3 fun ev w' => ev = .returned (.tuple #[.string T, .bool b]) ∧ Below w3.heap.size w3 w' := by
  by_cases hk : k = 0
  · rw [h.1 hk]
    exact ⟨_, _, by decide, line_nil w3⟩
  · obtain ⟨f, rfl, hl, hb⟩ := h.2.1 hk
    refine ⟨st (lineF (bsl (hasN ss)) k o), true, ?_, (line_bt hR hb ⟨Below.refl _ _, hl, hw⟩).mono fun ev w' ⟨h1, h2⟩ => ⟨h1, h2.below⟩⟩
    have := lineF_len (hasN ss) k o (hasN_small ss) ik io
    rw [hasN_len] at this
    have hs : (st (lineF (bsl (hasN ss)) k o)).size = (lineF (bsl (hasN ss)) k o).length := by rw [← size_data]; rfl
    omega
set_option maxHeartbeats 8000000 in
theorem faultLines_run (hR : R6) (s : ByteArray) (hs : s.size ≤ maxLen) (k o : Int) (ik : In64 k) (io : In64 o) (v : Value) (ss : List ByteArray) (hsz : ∀ x ∈ ss, x.size ≤ maxLen) (w : World) (hb : StrsA w v ss) (hw : Held w) :
    Calls Tryz.prog 4 #[.string s, .int .i64 k, .int .i64 o, v] w fun ev w' => ev = .returned (.bool true) ∧ Below w.heap.size w w' := by
  have HKN := Lib.hid (known6_any hR w hw)
  have hhv : ∀ w', Below w.heap.size w w' → Calls Tryz.prog 8 #[v] w' fun ev w2 => ev = .returned (.bool (heavyB ss)) ∧ w2 = w' := fun w' hbb => heavy_any v ss w' (heavy_in hb hbb)
  obtain ⟨A, n, c, hv⟩ : ∃ A n c, v = .slice A n c := by
    rcases hb with ⟨h, _⟩ | ⟨blk, off, cap, h1, _⟩
    · exact ⟨_, _, _, h⟩
    · exact ⟨_, _, _, h1⟩
  have HHV := Lib.hid hhv
  clear hhv
  have hsm : (s.size : Int) ≤ 9223372036854775807 := by unfold maxLen at hs; omega
  cases hh : heavyB ss with
  | true =>
    rw [hh] at HHV
    subst hv
    clear hw hb hsz hh ik io
    go_enter Tryz.func4, Tryz.ntmps4
    go_wp2_with (first
      | (go_at_call 7; refine HKN.out.mono ?_; rintro ev w1 ⟨rfl, hb1⟩; have HB1 := Lib.hid hb1; clear hb1)
      | (go_at_call 8; refine (HHV.out _ HB1.out).mono ?_; rintro ev w2 ⟨rfl, rfl⟩))
    go_ret
    exact ⟨rfl, HB1.out⟩
  | false =>
    rw [hh] at HHV
    by_cases hbig : 1000 < s.size
    · have hbi : (1000 : Int) < (s.size : Int) := by omega
      have hbd : decide ((1000 : Int) < (s.size : Int)) = true := decide_eq_true hbi
      subst hv
      clear hw hb hsz hh ik io hbig
      go_enter Tryz.func4, Tryz.ntmps4
      go_wp2_with (first
        | (go_at_call 7; refine HKN.out.mono ?_; rintro ev w1 ⟨rfl, hb1⟩; have HB1 := Lib.hid hb1; clear hb1)
        | (go_at_call 8; refine (HHV.out _ HB1.out).mono ?_; rintro ev w2 ⟨rfl, rfl⟩))
      go_ret
      exact ⟨rfl, HB1.out⟩
    · have hbi : ¬ (1000 : Int) < (s.size : Int) := by omega
      have hbd : decide ((1000 : Int) < (s.size : Int)) = false := decide_eq_false hbi
      have hfew := heavy_few hh
      have HBD := Lib.hid fun (w' : World) (hbb : Below w.heap.size w w') => build_any k o ik io v ss hfew hsz w' (heavy_in hb hbb)
      have HW := Lib.hid hw; have HIK := Lib.hid ik; have HIO := Lib.hid io; have HS := Lib.hid (Nat.le_of_not_lt hbig)
      subst hv
      clear hw hb hsz hh ik io hfew hbig hs
      go_enter Tryz.func4, Tryz.ntmps4
      go_upto_block 0 with (first
        | (go_at_call 7; refine HKN.out.mono ?_; rintro ev w1 ⟨rfl, hb1⟩; have HB1 := Lib.hid hb1; clear hb1)
        | (go_at_call 8; refine (HHV.out _ HB1.out).mono ?_; rintro ev w2 ⟨rfl, rfl⟩)
        | (go_at_call 9; refine (HBD.out _ HB1.out).mono ?_; rintro ev w3 ⟨e, vh, rfl, hbr, hb3⟩; obtain ⟨T, b, hT, hln⟩ := line_of hR HIK.out HIO.out hbr (HW.out.below (keepW HB1.out hb3)); have HLN := Lib.hid hln; have HT := Lib.hid hT; have HB3 := Lib.hid (keepW HB1.out hb3); clear hb3 hbr hln hT)
        | (go_at_call 12; refine HLN.out.mono ?_; rintro ev w4 ⟨rfl, hb4⟩; have HB4 := Lib.hid (keepW HB3.out hb4); clear hb4))
      have hkw : Blk (w4.alloc (.cells #[.string s, .string T] 9)) w4.heap.size #[.string s, .string T] 9 := Blk.new rfl
      have HKW := Lib.hid hkw
      clear hkw
      go_wp2
      go_loopw [52] (fun i wr => ∃ j : Nat, i = .int .i64 (j : Int) ∧ j ≤ 2 ∧ Below w.heap.size w wr ∧ Blk wr w4.heap.size #[.string s, .string T] 9) (fun i _ => 2 - natOf i)
      case atStart => exact ⟨0, rfl, by omega, HB4.out.alloc HB4.out.size _, HKW.out⟩
      case round =>
        obtain ⟨j, rfl, hj, hbl, hk⟩ := hrel
        by_cases hj2 : j < 2
        · obtain ⟨X, hXs, hXc⟩ : ∃ X : ByteArray, X.size ≤ 1000 ∧ wr.cell? ⟨w4.heap.size, j, none⟩ = some (.string X) := by
            rcases (by omega : j = 0 ∨ j = 1) with rfl | rfl
            · exact ⟨s, HS.out, hk.cell 0⟩
            · exact ⟨T, HT.out, hk.cell 1⟩
          have hj2' : (j : Int) < 2 := by omega
          have hj0 : ¬ ((j : Int) < 0) := by omega
          have hpp := prog_reads hR X hXs wr (HW.out.below hbl)
          have hrp := fun w' => rparse_any X hXs w'
          have HBL := Lib.hid hbl; have HK := Lib.hid hk; have HJ := Lib.hid hj2
          have hXX : (X.toList == X.toList) = true := beq_self_eq_true _
          clear hbl hk hj hj2 hXs
          cases hp : parF X.data.toList with
          | none =>
            have hpp' : Calls Tryz.prog 19 #[.string X] wr fun ev w' => ev = .returned (.tuple #[.nilIface, .bool false]) ∧ Below wr.heap.size wr w' := by rw [hp] at hpp; exact hpp
            have hrp' : ∀ w', Calls Tryz.prog 20 #[.string X] w' fun ev w'' => ev = .returned (.tuple #[.slice none 0 0, .int .i64 0, .int .i64 0, .bool false]) ∧ Below w'.heap.size w' w'' := by rw [hp] at hrp; exact hrp
            have HPP := Lib.hid hpp'; have HRP := Lib.hid hrp'
            clear hpp hrp hpp' hrp' hp
            go_wp2_with (first
              | (go_at_call 19; refine HPP.out.mono ?_; rintro ev w5 ⟨rfl, hb5⟩; have HB5 := Lib.hid hb5; clear hb5)
              | (go_at_call 20; refine (HRP.out _).mono ?_; rintro ev w6 ⟨rfl, hb6⟩; have HB6 := Lib.hid hb6; clear hb6))
            go_roundw
            case rel => exact ⟨j + 1, by go_num, HJ.out, keepW (keepW HBL.out HB5.out) HB6.out, Blk.keep HB6.out (Blk.keep HB5.out HK.out)⟩
            case measure => have := HJ.out; simp [natOf]; omega
          | some q =>
            obtain ⟨l, k2, o2⟩ := q
            have hpp' : Calls Tryz.prog 19 #[.string X] wr fun ev w' => (∃ f : Er, ev = .returned (.tuple #[.iface f.ty f.cont, .bool true]) ∧ f.lies w' ∧ ParE (l.map st) k2 o2 X f) ∧ Below wr.heap.size wr w' := by rw [hp] at hpp; exact hpp
            have hrp' : ∀ w', Calls Tryz.prog 20 #[.string X] w' fun ev w'' => (∃ v, ev = .returned (.tuple #[v, .int .i64 k2, .int .i64 o2, .bool true]) ∧ Row w'.heap.size w'' v (l.map st)) ∧ Below w'.heap.size w' w'' := by rw [hp] at hrp; exact hrp
            have HPP := Lib.hid hpp'; have HRP := Lib.hid hrp'
            have hkk : (k2 == k2) = true := beq_self_eq_true _
            have hoo : (o2 == o2) = true := beq_self_eq_true _
            clear hpp hrp hpp' hrp' hp
            go_wp2_with (first
              | (go_at_call 19; refine HPP.out.mono ?_; rintro ev w5 ⟨⟨f, rfl, hl, hpe⟩, hb5⟩; have HB5 := Lib.hid hb5; have HLI := Lib.hid hl; have HPE := Lib.hid hpe; clear hb5 hl hpe)
              | (go_at_call 20; refine (HRP.out _).mono ?_; rintro ev w6 ⟨⟨v6, rfl, hrow⟩, hb6⟩; have HRC := Lib.hid hrow.code; have A1 := Lib.hid (⟨Below.refl _ _, HLI.out.keep hb6, HW.out.below (keepW (keepW HBL.out HB5.out) hb6)⟩ : At w6 f w6); have HB6 := Lib.hid hb6; clear hb6 hrow)
              | (go_at_call 12; refine (line_pf hR HPE.out A1.out).mono ?_; rintro ev w7 ⟨rfl, ha⟩; have A2 := Lib.hid ha; clear ha)
              | (go_at_call 10; refine (kind_pf hR HPE.out A2.out).mono ?_; rintro ev w8 ⟨rfl, ha⟩; have A3 := Lib.hid ha; clear ha)
              | (go_at_call 11; refine (off_pf hR HPE.out A3.out).mono ?_; rintro ev w9 ⟨rfl, ha⟩; have A4 := Lib.hid ha; clear ha)
              | (go_at_call 15; refine (notes_pf HPE.out A4.out).mono ?_; rintro ev w10 ⟨nv, rfl, hnr, ha⟩; have HNR := Lib.hid hnr; have A5 := Lib.hid ha; clear ha hnr)
              | (go_at_call 14; refine (same_rows HPE.out.few HNR.out (HRC.out.keep A5.out.below)).mono ?_; rintro ev w11 ⟨rfl, hb⟩; have A6 := Lib.hid (A5.out.next hb); clear hb))
            go_roundw
            case rel => exact ⟨j + 1, by go_num, HJ.out, keepW (keepW (keepW HBL.out HB5.out) HB6.out) A6.out.below, Blk.keep A6.out.below (Blk.keep HB6.out (Blk.keep HB5.out HK.out))⟩
            case measure => have := HJ.out; simp [natOf]; omega
        · have hje : j = 2 := by omega
          subst hje
          have HBL := Lib.hid hbl
          clear hbl hk hj hj2
          go_wp2
          go_ret
          exact ⟨rfl, HBL.out⟩
theorem faultLines_walk (hR : R6) (s : ByteArray) (hs : s.size ≤ maxLen) (k : Int) (k0 : -9223372036854775808 ≤ k) (k1 : k ≤ 9223372036854775807) (o : Int) (o0 : -9223372036854775808 ≤ o) (o1 : o ≤ 9223372036854775807) (v : Value) (ss : List ByteArray) (hb : StrsA rootW v ss ∧ ∀ x ∈ ss, x.size ≤ maxLen) (w : World) (hw : Held w) :
    Calls Tryz.prog 4 #[.string s, .int .i64 k, .int .i64 o, v] w fun ev w' => ev = .returned (.bool true) ∧ Below w.heap.size w w' :=
  faultLines_run hR s hs k o ⟨k0, k1⟩ ⟨o0, o1⟩ v ss hb.2 w (hb.1.held hw) hw
end Go.Proofs.YtidkpdabidlnnaaGreatDoor
