
/-
  OctetGets: the law's walk.
-/
import Derived.Test.YtbmifinomdcllaaOcP

namespace Go.Proofs.Ytbmifinomdcllaa

open Go.RowKit Go.Lib

set_option maxRecDepth 100000

/-- A slice of bytes that came in. -/
def BArg (w : World) (v : Value) (l : List UInt8) : Prop := ∃ A cap, v = .slice A l.length cap ∧ l.length ≤ cap ∧ Rd w A l
theorem gets_big (v : Value) (l : List UInt8) (hl : 300 < l.length) (little : Bool) (a m : Int) (w : World) (hb : BArg w v l) :
    Calls Try.prog 3 #[v, .bool little, .int .i64 a, .int .i64 m] w fun e w' => e = .returned (.bool true) ∧ Below w.heap.size w w' := by
  obtain ⟨A, cap, rfl, _, _⟩ := hb
  generalize l.length = len at *
  have hl2 : (300 : Int) < (len : Int) := by omega
  have HK := Lib.hid (known_any w)
  go_enter Try.func3, Try.ntmps3
  go_wp2_with (go_at_call 7; refine HK.out.mono ?_; rintro e w1 ⟨rfl, hb1⟩; have HB1 := Lib.hid hb1; clear hb1)
  go_ret
  exact ⟨rfl, HB1.out⟩
structure BdS (n k : Nat) : Prop where
  two : (n : Int) < 65536
  four : (k : Int) < 4294967296
theorem belowD {W w : World} (h : Below W.heap.size W w) (q : Nat) : Below W.heap.size W (w.drewN q) := h.trans ⟨rfl, rfl, rfl, Nat.le_refl _, fun _ _ => rfl⟩
theorem keepR {W w : World} {o : Obj} (h : Below W.heap.size W w) : Below W.heap.size W (w.alloc o) := h.alloc h.size o
set_option maxHeartbeats 4000000 in
theorem gets_no (v : Value) (l : List UInt8) (hl : l.length ≤ 300) (little : Bool) (a m : Int) (ha : a ≤ 9223372036854775807) (w : World) (hb : BArg w v l) (hno : ¬ (0 ≤ a ∧ 0 ≤ m ∧ a ≤ l.length ∧ m ≤ l.length - a)) :
    Calls Try.prog 3 #[v, .bool little, .int .i64 a, .int .i64 m] w fun e w' => e = .returned (.bool true) ∧ Below w.heap.size w w' := by
  obtain ⟨A, cap, rfl, hc, hr⟩ := hb
  have HK := Lib.hid (known_any w)
  have HG := Lib.hid (fun w' (hb : Below w.heap.size w w') => get_any A l cap little a m ha hc (by omega) w' (hr.below hb))
  have HF := Lib.hid (fun w' (hb : Below w.heap.size w w') => refGet_any A l cap little a m ha (by omega) w' (hr.below hb))
  have HC := Lib.hid (fun w' => cut_no A l.length cap little a m hno (by omega) ha w')
  generalize getN little l a m = N at *
  have HX2 := Lib.hid (fun w' (hb : Below w.heap.size w w') => refGet_any A l cap little a 2 ha (by omega) w' (hr.below hb))
  have HX4 := Lib.hid (fun w' (hb : Below w.heap.size w w') => refGet_any A l cap little a 4 ha (by omega) w' (hr.below hb))
  have HX8 := Lib.hid (fun w' (hb : Below w.heap.size w w') => refGet_any A l cap little a 8 ha (by omega) w' (hr.below hb))
  have HU2 := Lib.hid (fun w' (hb : Below w.heap.size w w') => u16_any A l cap little a ha hc (by omega) w' (hr.below hb))
  have HU4 := Lib.hid (fun w' (hb : Below w.heap.size w w') => u32_any A l cap little a ha hc (by omega) w' (hr.below hb))
  have HU8 := Lib.hid (fun w' (hb : Below w.heap.size w w') => u64_any A l cap little a ha hc (by omega) w' (hr.below hb))
  have hlt2 : ((getN little l a 2 : Nat) : Int) < 65536 := by have h : getN little l a 2 < 65536 := getN_le little l a 2; omega
  have hlt4 : ((getN little l a 4 : Nat) : Int) < 4294967296 := by have h : getN little l a 4 < 4294967296 := getN_le little l a 4; omega
  generalize getN little l a 2 = N2 at *
  generalize getN little l a 4 = N4 at *
  generalize getN little l a 8 = N8 at *
  generalize getB l a 2 = o2 at *
  generalize getB l a 4 = o4 at *
  generalize getB l a 8 = o8 at *
  have HLT2 : BdS N2 N4 := ⟨hlt2, hlt4⟩
  clear hlt2 hlt4
  generalize getB l a m = ok at *
  have HR := Lib.hid hr; have HNO := Lib.hid hno; have HCL := Lib.hid hc
  clear hr hno hc
  have hln : ¬ ((300 : Int) < (l.length : Int)) := by omega
  generalize l.length = len at *
  go_enter Try.func3, Try.ntmps3
  go_upto_region 11 with (first
    | (go_at_call 7; refine HK.out.mono ?_; rintro e w1 ⟨rfl, hb1⟩; have HB1 := Lib.hid hb1; clear hb1)
    | (go_at_call 8; go_loud (refine (HG.out _ (keepR HB1.out)).mono ?_; rintro e w2 ⟨rfl, hb2⟩; have HB2 := Lib.hid (keepW (keepR HB1.out) hb2); have HR2 := Lib.hid (Blk.keep hb2 (Blk.new rfl)); have hr2 := HR2.out.two; clear hb2))
    | (go_at_call 9; refine (HF.out _ HB2.out).mono ?_; rintro e w' ⟨rfl, rfl⟩)
    | (go_at_call 10; refine (HC.out _).mono ?_; rintro e w3 ⟨rfl, hb3⟩; have HB3 := Lib.hid (keepW HB2.out hb3); have HR3 := Lib.hid (Blk.keep hb3 HR2.out); have hr3 := HR3.out.two; clear hb3))
  have hno := HNO.out
  clear hln hl
  by_cases c1 : a < 0
  · clear hno
    go_wp2
    go_quiet (fail)
    have HB4 := Lib.hid (belowD HB3.out nq)
    have HR4 := Lib.hid (show Blk (w3.drewN nq) w1.heap.size #[.slice A len cap, .bool little] 25 from HR3.out)
    have hr4 := HR4.out.two
    clear hr2 hr3
    generalize w3.drewN nq = wd at *
    have hlt2 := HLT2.two; have hlt4 := HLT2.four
    go_wp2_with (first
      | (go_at_call_of 9 (Value.int IntKind.i64 2); refine (HX2.out _ HB4.out).mono ?_; rintro e w' ⟨rfl, rfl⟩)
      | (go_at_call_of 9 (Value.int IntKind.i64 4); refine (HX4.out _ HB4.out).mono ?_; rintro e w' ⟨rfl, rfl⟩)
      | (go_at_call_of 9 (Value.int IntKind.i64 8); refine (HX8.out _ HB4.out).mono ?_; rintro e w' ⟨rfl, rfl⟩)
      | (go_at_call 11; refine (HU2.out _ HB4.out).mono ?_; rintro e w5 ⟨rfl, hb5⟩; have HB5 := Lib.hid (keepW HB4.out hb5); have HR5 := Lib.hid (Blk.keep hb5 HR4.out); have hr5 := HR5.out.two; clear hb5 hr4)
      | (go_at_call 12; refine (HU4.out _ HB5.out).mono ?_; rintro e w6 ⟨rfl, hb6⟩; have HB6 := Lib.hid (keepW HB5.out hb6); have HR6 := Lib.hid (Blk.keep hb6 HR5.out); have hr6 := HR6.out.two; clear hb6 hr5)
      | (go_at_call 13; refine (HU8.out _ HB6.out).mono ?_; rintro e w7 ⟨rfl, hb7⟩; have HB7 := Lib.hid (keepW HB6.out hb7); clear hb7))
    go_ret
    exact ⟨rfl, HB7.out⟩
  · by_cases c2 : m < 0
    · clear hno
      go_wp2
      go_quiet (fail)
      have HB4 := Lib.hid (belowD HB3.out nq)
      have HR4 := Lib.hid (show Blk (w3.drewN nq) w1.heap.size #[.slice A len cap, .bool little] 25 from HR3.out)
      have hr4 := HR4.out.two
      clear hr2 hr3
      generalize w3.drewN nq = wd at *
      have hlt2 := HLT2.two; have hlt4 := HLT2.four
      go_wp2_with (first
        | (go_at_call_of 9 (Value.int IntKind.i64 2); refine (HX2.out _ HB4.out).mono ?_; rintro e w' ⟨rfl, rfl⟩)
        | (go_at_call_of 9 (Value.int IntKind.i64 4); refine (HX4.out _ HB4.out).mono ?_; rintro e w' ⟨rfl, rfl⟩)
        | (go_at_call_of 9 (Value.int IntKind.i64 8); refine (HX8.out _ HB4.out).mono ?_; rintro e w' ⟨rfl, rfl⟩)
        | (go_at_call 11; refine (HU2.out _ HB4.out).mono ?_; rintro e w5 ⟨rfl, hb5⟩; have HB5 := Lib.hid (keepW HB4.out hb5); have HR5 := Lib.hid (Blk.keep hb5 HR4.out); have hr5 := HR5.out.two; clear hb5 hr4)
        | (go_at_call 12; refine (HU4.out _ HB5.out).mono ?_; rintro e w6 ⟨rfl, hb6⟩; have HB6 := Lib.hid (keepW HB5.out hb6); have HR6 := Lib.hid (Blk.keep hb6 HR5.out); have hr6 := HR6.out.two; clear hb6 hr5)
        | (go_at_call 13; refine (HU8.out _ HB6.out).mono ?_; rintro e w7 ⟨rfl, hb7⟩; have HB7 := Lib.hid (keepW HB6.out hb7); clear hb7))
      go_ret
      exact ⟨rfl, HB7.out⟩
    · by_cases c3 : (len : Int) < a
      · clear hno
        go_wp2
        go_quiet (fail)
        have HB4 := Lib.hid (belowD HB3.out nq)
        have HR4 := Lib.hid (show Blk (w3.drewN nq) w1.heap.size #[.slice A len cap, .bool little] 25 from HR3.out)
        have hr4 := HR4.out.two
        clear hr2 hr3
        generalize w3.drewN nq = wd at *
        have hlt2 := HLT2.two; have hlt4 := HLT2.four
        go_wp2_with (first
          | (go_at_call_of 9 (Value.int IntKind.i64 2); refine (HX2.out _ HB4.out).mono ?_; rintro e w' ⟨rfl, rfl⟩)
          | (go_at_call_of 9 (Value.int IntKind.i64 4); refine (HX4.out _ HB4.out).mono ?_; rintro e w' ⟨rfl, rfl⟩)
          | (go_at_call_of 9 (Value.int IntKind.i64 8); refine (HX8.out _ HB4.out).mono ?_; rintro e w' ⟨rfl, rfl⟩)
          | (go_at_call 11; refine (HU2.out _ HB4.out).mono ?_; rintro e w5 ⟨rfl, hb5⟩; have HB5 := Lib.hid (keepW HB4.out hb5); have HR5 := Lib.hid (Blk.keep hb5 HR4.out); have hr5 := HR5.out.two; clear hb5 hr4)
          | (go_at_call 12; refine (HU4.out _ HB5.out).mono ?_; rintro e w6 ⟨rfl, hb6⟩; have HB6 := Lib.hid (keepW HB5.out hb6); have HR6 := Lib.hid (Blk.keep hb6 HR5.out); have hr6 := HR6.out.two; clear hb6 hr5)
          | (go_at_call 13; refine (HU8.out _ HB6.out).mono ?_; rintro e w7 ⟨rfl, hb7⟩; have HB7 := Lib.hid (keepW HB6.out hb7); clear hb7))
        go_ret
        exact ⟨rfl, HB7.out⟩
      · have c4 : (len : Int) - a < m := by omega
        have c5 : -9223372036854775808 ≤ (len : Int) - a := by omega
        have c6 : (len : Int) - a ≤ 9223372036854775807 := by omega
        have cd : decide (m ≤ (len : Int) - a) = false := by simp; omega
        clear hno
        go_wp2
        go_quiet (fail)
        have HB4 := Lib.hid (belowD HB3.out nq)
        have HR4 := Lib.hid (show Blk (w3.drewN nq) w1.heap.size #[.slice A len cap, .bool little] 25 from HR3.out)
        have hr4 := HR4.out.two
        clear hr2 hr3
        generalize w3.drewN nq = wd at *
        have hlt2 := HLT2.two; have hlt4 := HLT2.four
        go_wp2_with (first
          | (go_at_call_of 9 (Value.int IntKind.i64 2); refine (HX2.out _ HB4.out).mono ?_; rintro e w' ⟨rfl, rfl⟩)
          | (go_at_call_of 9 (Value.int IntKind.i64 4); refine (HX4.out _ HB4.out).mono ?_; rintro e w' ⟨rfl, rfl⟩)
          | (go_at_call_of 9 (Value.int IntKind.i64 8); refine (HX8.out _ HB4.out).mono ?_; rintro e w' ⟨rfl, rfl⟩)
          | (go_at_call 11; refine (HU2.out _ HB4.out).mono ?_; rintro e w5 ⟨rfl, hb5⟩; have HB5 := Lib.hid (keepW HB4.out hb5); have HR5 := Lib.hid (Blk.keep hb5 HR4.out); have hr5 := HR5.out.two; clear hb5 hr4)
          | (go_at_call 12; refine (HU4.out _ HB5.out).mono ?_; rintro e w6 ⟨rfl, hb6⟩; have HB6 := Lib.hid (keepW HB5.out hb6); have HR6 := Lib.hid (Blk.keep hb6 HR5.out); have hr6 := HR6.out.two; clear hb6 hr5)
          | (go_at_call 13; refine (HU8.out _ HB6.out).mono ?_; rintro e w7 ⟨rfl, hb7⟩; have HB7 := Lib.hid (keepW HB6.out hb7); clear hb7))
        go_ret
        exact ⟨rfl, HB7.out⟩
theorem cut_le (A : Option Addr) (l : List UInt8) (cap a m : Nat) (h : a + m ≤ l.length) (hc : l.length ≤ cap) (w : World) (hr : Rd w A l) :
    ∃ A2 c2, (∀ w, (Instr.slice 22 (.slice A l.length cap) (some (.int .i64 a)) (some (.int .i64 ((a : Int) + (m : Int)))) none).run Try.prog w = .ok (.slice A2 m c2) w) ∧ Rd w A2 ((l.drop a).take m) := by
  have hel : Try.prog.elem 22 = 5 := by kernel_rfl
  have hz : ∀ w : World, (sizeOf 5).run Try.prog w = .ok 1 w := fun w => by
    obtain ⟨i0, hi, _, hz1, _⟩ := info_parts info_u8b
    simp [sizeOf, typeInfo, Sem.run_bind, hi, hz1]
  refine ⟨if cap = a then A else A.map (·.add a), cap - a, fun w => ?_, ?_⟩
  · rw [run_slice_lh (w := w) (t := 22) (ht := by rw [hel]; exact Try.underlying22) (kl := .i64) (kh := .i64) (l := (a : Int)) (h := (a : Int) + (m : Int)) (h0 := by omega) (h1 := by omega) (h2 := by omega), hel, hz]
    simp only [Result.andThen, sliced]
    rw [show (a : Int).toNat = a from rfl, show ((a : Int) + (m : Int)).toNat = a + m by omega, show a + m - a = m by omega, Nat.mul_one]
  · by_cases hm : m = 0
    · subst hm; rw [List.take_zero]; exact Rd.nil _ _
    · have h2 := hr.cut a m h
      unfold cutA at h2
      rw [if_neg hm] at h2
      rw [if_neg (by omega)]
      exact h2
set_option maxHeartbeats 4000000 in
theorem gets_yes (v : Value) (l : List UInt8) (hl : l.length ≤ 300) (little : Bool) (a m : Nat) (w : World) (hb : BArg w v l) (hyes : a + m ≤ l.length) :
    Calls Try.prog 3 #[v, .bool little, .int .i64 a, .int .i64 m] w fun e w' => e = .returned (.bool true) ∧ Below w.heap.size w w' := by
  obtain ⟨A, cap, rfl, hc, hr⟩ := hb
  have ha : (a : Int) ≤ 9223372036854775807 := by omega
  have HK := Lib.hid (known_any w)
  have HG := Lib.hid (fun w' (hb : Below w.heap.size w w') => get_any A l cap little a m ha hc (by omega) w' (hr.below hb))
  have HF := Lib.hid (fun w' (hb : Below w.heap.size w w') => refGet_any A l cap little a m ha (by omega) w' (hr.below hb))
  have HC := Lib.hid (fun w' => cut_ok A l.length cap little a m hyes hc (by omega) w')
  generalize getN little l a m = N at *
  have HX2 := Lib.hid (fun w' (hb : Below w.heap.size w w') => refGet_any A l cap little a 2 ha (by omega) w' (hr.below hb))
  have HX4 := Lib.hid (fun w' (hb : Below w.heap.size w w') => refGet_any A l cap little a 4 ha (by omega) w' (hr.below hb))
  have HX8 := Lib.hid (fun w' (hb : Below w.heap.size w w') => refGet_any A l cap little a 8 ha (by omega) w' (hr.below hb))
  have HU2 := Lib.hid (fun w' (hb : Below w.heap.size w w') => u16_any A l cap little a ha hc (by omega) w' (hr.below hb))
  have HU4 := Lib.hid (fun w' (hb : Below w.heap.size w w') => u32_any A l cap little a ha hc (by omega) w' (hr.below hb))
  have HU8 := Lib.hid (fun w' (hb : Below w.heap.size w w') => u64_any A l cap little a ha hc (by omega) w' (hr.below hb))
  have hlt2 : ((getN little l a 2 : Nat) : Int) < 65536 := by have h : getN little l a 2 < 65536 := getN_le little l a 2; omega
  have hlt4 : ((getN little l a 4 : Nat) : Int) < 4294967296 := by have h : getN little l a 4 < 4294967296 := getN_le little l a 4; omega
  generalize getN little l a 2 = N2 at *
  generalize getN little l a 4 = N4 at *
  generalize getN little l a 8 = N8 at *
  generalize getB l a 2 = o2 at *
  generalize getB l a 4 = o4 at *
  generalize getB l a 8 = o8 at *
  have HLT2 : BdS N2 N4 := ⟨hlt2, hlt4⟩
  clear hlt2 hlt4
  generalize getB l a m = ok at *
  obtain ⟨S, hS⟩ : ∃ S : ByteArray, S = ⟨((l.drop a).take m).toArray⟩ := ⟨_, rfl⟩
  have hsl : ((l.drop a).take m).length = m := by rw [List.length_take, List.length_drop]; omega
  have HV1 := Lib.hid (fun (w' : World) (hb : Below w.heap.size w w') => by have h := conv_rd ((hr.cut a m hyes).below hb) m; rw [← hS, hsl] at h; exact h)
  obtain ⟨A2, c2, hrun, hrd2⟩ := cut_le A l cap a m hyes hc w hr
  have HV2 := Lib.hid (fun (w' : World) (hb : Below w.heap.size w w') => by have h := conv_rd (hrd2.below hb) c2; rw [← hS, hsl] at h; exact h)
  generalize cutA A a m = C at *
  have HRUN := Lib.hid hrun
  clear hr hS hsl hrd2 hrun ha
  have hln : ¬ ((300 : Int) < (l.length : Int)) := by omega
  generalize l.length = len at *
  go_enter Try.func3, Try.ntmps3
  go_upto_region 11 with (first
    | (go_at_call 7; refine HK.out.mono ?_; rintro e w1 ⟨rfl, hb1⟩; have HB1 := Lib.hid hb1; clear hb1)
    | (go_at_call 8; go_loud (refine (HG.out _ (keepR HB1.out)).mono ?_; rintro e w2 ⟨rfl, hb2⟩; have HB2 := Lib.hid (keepW (keepR HB1.out) hb2); have HR2 := Lib.hid (Blk.keep hb2 (Blk.new rfl)); have hr2 := HR2.out.two; clear hb2))
    | (go_at_call 9; refine (HF.out _ HB2.out).mono ?_; rintro e w' ⟨rfl, rfl⟩)
    | (go_at_call 10; refine (HC.out _).mono ?_; rintro e w3 ⟨rfl, hb3⟩; have HB3 := Lib.hid (keepW HB2.out hb3); have HR3 := Lib.hid (Blk.keep hb3 HR2.out); have hr3 := HR3.out.two; clear hb3))
  have c1 : ¬ ((a : Int) < 0) := by omega
  have c2' : ¬ ((m : Int) < 0) := by omega
  have c3 : ¬ ((len : Int) < (a : Int)) := by omega
  have c4 : ¬ ((len : Int) - (a : Int) < (m : Int)) := by omega
  go_wp2
  have hv1 := fun k => HV1.out (w3.drewN k) (belowD HB3.out k)
  have hv2 := fun k => HV2.out (w3.drewN k) (belowD HB3.out k)
  have hrun := HRUN.out
  have hws : IntKind.i64.wrap ((a : Int) + (m : Int)) = (a : Int) + (m : Int) := IntWalk.i64_in _ (by omega)
  go_quiet (fail)
  clear hws hrun hv1 hv2
  have HB4 := Lib.hid (belowD HB3.out nq)
  have HR4 := Lib.hid (show Blk (w3.drewN nq) w1.heap.size #[.slice A len cap, .bool little] 25 from HR3.out)
  have hr4 := HR4.out.two
  clear hr2 hr3
  generalize w3.drewN nq = wd at *
  have hlt2 := HLT2.two; have hlt4 := HLT2.four
  go_wp2_with (first
    | (go_at_call_of 9 (Value.int IntKind.i64 2); refine (HX2.out _ HB4.out).mono ?_; rintro e w' ⟨rfl, rfl⟩)
    | (go_at_call_of 9 (Value.int IntKind.i64 4); refine (HX4.out _ HB4.out).mono ?_; rintro e w' ⟨rfl, rfl⟩)
    | (go_at_call_of 9 (Value.int IntKind.i64 8); refine (HX8.out _ HB4.out).mono ?_; rintro e w' ⟨rfl, rfl⟩)
    | (go_at_call 11; refine (HU2.out _ HB4.out).mono ?_; rintro e w5 ⟨rfl, hb5⟩; have HB5 := Lib.hid (keepW HB4.out hb5); have HR5 := Lib.hid (Blk.keep hb5 HR4.out); have hr5 := HR5.out.two; clear hb5 hr4)
    | (go_at_call 12; refine (HU4.out _ HB5.out).mono ?_; rintro e w6 ⟨rfl, hb6⟩; have HB6 := Lib.hid (keepW HB5.out hb6); have HR6 := Lib.hid (Blk.keep hb6 HR5.out); have hr6 := HR6.out.two; clear hb6 hr5)
    | (go_at_call 13; refine (HU8.out _ HB6.out).mono ?_; rintro e w7 ⟨rfl, hb7⟩; have HB7 := Lib.hid (keepW HB6.out hb7); clear hb7))
  go_ret
  exact ⟨rfl, HB7.out⟩
theorem octetGets_walk {w : World} (v : Value) (l : List UInt8) (hb : BArg w v l) (little : Bool) (a : Int) (_a0 : -9223372036854775808 ≤ a) (a1 : a ≤ 9223372036854775807) (m : Int) (_m0 : -9223372036854775808 ≤ m) (_m1 : m ≤ 9223372036854775807) :
    Calls Try.prog 3 #[v, .bool little, .int .i64 a, .int .i64 m] w fun e w' => e = .returned (.bool true) ∧ Below w.heap.size w w' := by
  by_cases hl : l.length ≤ 300
  · by_cases h : 0 ≤ a ∧ 0 ≤ m ∧ a ≤ l.length ∧ m ≤ l.length - a
    · obtain ⟨h1, h2, h3, h4⟩ := h
      obtain ⟨a, rfl⟩ := Int.eq_ofNat_of_zero_le h1
      obtain ⟨m, rfl⟩ := Int.eq_ofNat_of_zero_le h2
      exact gets_yes v l hl little a m w hb (by omega)
    · exact gets_no v l hl little a m a1 w hb h
  · exact gets_big v l (by omega) little a m w hb
end Go.Proofs.Ytbmifinomdcllaa
