
/-
  The document's sums, and which of two numbers is greater.
-/
import Derived.Test.YtbhgibpocbmipaaNumP
namespace Go.Proofs.Ytbhgibpocbmipaa
open Go.Den Go.RowKit
noncomputable section
set_option maxRecDepth 100000
def sv (s : Bool) (n : Int) : Int := bif s then -n else n
theorem add_ff (a0 a1 a2 a3 a4 a5 a6 a7 a8 a9 a10 a11 a12 a13 a14 a15 a16 a17 a18 a19 b0 b1 b2 b3 b4 b5 b6 b7 b8 b9 b10 b11 b12 b13 b14 b15 b16 b17 b18 b19 : Int) (Q : Value → Prop) : ((ev envR1 300).call [] 19 #[.agg ⟨.bool false :: mapU [a0, a1, a2, a3, a4, a5, a6, a7, a8, a9, a10, a11, a12, a13, a14, a15, a16, a17, a18, a19]⟩, .agg ⟨.bool false :: mapU [b0, b1, b2, b3, b4, b5, b6, b7, b8, b9, b10, b11, b12, b13, b14, b15, b16, b17, b18, b19]⟩] [] B0).holds (fun r => Q r.v) =
  Q (.agg ⟨.bool false :: mapU (addGo [a1, a2, a3, a4, a5, a6, a7, a8, a9, a10, a11, a12, a13, a14, a15, a16, a17, a18, a19] a0 [b0, b1, b2, b3, b4, b5, b6, b7, b8, b9, b10, b11, b12, b13, b14, b15, b16, b17, b18, b19])⟩) := by kernel_rfl
theorem add_tt (a0 a1 a2 a3 a4 a5 a6 a7 a8 a9 a10 a11 a12 a13 a14 a15 a16 a17 a18 a19 b0 b1 b2 b3 b4 b5 b6 b7 b8 b9 b10 b11 b12 b13 b14 b15 b16 b17 b18 b19 : Int) (Q : Value → Prop) : ((ev envR1 300).call [] 19 #[.agg ⟨.bool true :: mapU [a0, a1, a2, a3, a4, a5, a6, a7, a8, a9, a10, a11, a12, a13, a14, a15, a16, a17, a18, a19]⟩, .agg ⟨.bool true :: mapU [b0, b1, b2, b3, b4, b5, b6, b7, b8, b9, b10, b11, b12, b13, b14, b15, b16, b17, b18, b19]⟩] [] B0).holds (fun r => Q r.v) =
  Q (.agg ⟨.bool true :: mapU (addGo [a1, a2, a3, a4, a5, a6, a7, a8, a9, a10, a11, a12, a13, a14, a15, a16, a17, a18, a19] a0 [b0, b1, b2, b3, b4, b5, b6, b7, b8, b9, b10, b11, b12, b13, b14, b15, b16, b17, b18, b19])⟩) := by kernel_rfl
theorem add_ft (a0 a1 a2 a3 a4 a5 a6 a7 a8 a9 a10 a11 a12 a13 a14 a15 a16 a17 a18 a19 b0 b1 b2 b3 b4 b5 b6 b7 b8 b9 b10 b11 b12 b13 b14 b15 b16 b17 b18 b19 : Int) (Q : Value → Prop) : ((ev envR1 300).call [] 19 #[.agg ⟨.bool false :: mapU [a0, a1, a2, a3, a4, a5, a6, a7, a8, a9, a10, a11, a12, a13, a14, a15, a16, a17, a18, a19]⟩, .agg ⟨.bool true :: mapU [b0, b1, b2, b3, b4, b5, b6, b7, b8, b9, b10, b11, b12, b13, b14, b15, b16, b17, b18, b19]⟩] [] B0).holds (fun r => Q r.v) =
  bcase (okNum (mapU [a0, a1, a2, a3, a4, a5, a6, a7, a8, a9, a10, a11, a12, a13, a14, a15, a16, a17, a18, a19]) && okNum (mapU [b0, b1, b2, b3, b4, b5, b6, b7, b8, b9, b10, b11, b12, b13, b14, b15, b16, b17, b18, b19])) (bcase (decide (cmpI (mag (mapU [a0, a1, a2, a3, a4, a5, a6, a7, a8, a9, a10, a11, a12, a13, a14, a15, a16, a17, a18, a19])) (mag (mapU [b0, b1, b2, b3, b4, b5, b6, b7, b8, b9, b10, b11, b12, b13, b14, b15, b16, b17, b18, b19])) < 0)) (Q (.agg ⟨.bool true :: mapU (subGo [b0, b1, b2, b3, b4, b5, b6, b7, b8, b9, b10, b11, b12, b13, b14, b15, b16, b17, b18, b19] [a0, a1, a2, a3, a4, a5, a6, a7, a8, a9, a10, a11, a12, a13, a14, a15, a16, a17, a18, a19] 0)⟩)) (Q (.agg ⟨.bool false :: mapU (subGo [a0, a1, a2, a3, a4, a5, a6, a7, a8, a9, a10, a11, a12, a13, a14, a15, a16, a17, a18, a19] [b0, b1, b2, b3, b4, b5, b6, b7, b8, b9, b10, b11, b12, b13, b14, b15, b16, b17, b18, b19] 0)⟩))) False := by kernel_rfl
theorem add_tf (a0 a1 a2 a3 a4 a5 a6 a7 a8 a9 a10 a11 a12 a13 a14 a15 a16 a17 a18 a19 b0 b1 b2 b3 b4 b5 b6 b7 b8 b9 b10 b11 b12 b13 b14 b15 b16 b17 b18 b19 : Int) (Q : Value → Prop) : ((ev envR1 300).call [] 19 #[.agg ⟨.bool true :: mapU [a0, a1, a2, a3, a4, a5, a6, a7, a8, a9, a10, a11, a12, a13, a14, a15, a16, a17, a18, a19]⟩, .agg ⟨.bool false :: mapU [b0, b1, b2, b3, b4, b5, b6, b7, b8, b9, b10, b11, b12, b13, b14, b15, b16, b17, b18, b19]⟩] [] B0).holds (fun r => Q r.v) =
  bcase (okNum (mapU [a0, a1, a2, a3, a4, a5, a6, a7, a8, a9, a10, a11, a12, a13, a14, a15, a16, a17, a18, a19]) && okNum (mapU [b0, b1, b2, b3, b4, b5, b6, b7, b8, b9, b10, b11, b12, b13, b14, b15, b16, b17, b18, b19])) (bcase (decide (cmpI (mag (mapU [a0, a1, a2, a3, a4, a5, a6, a7, a8, a9, a10, a11, a12, a13, a14, a15, a16, a17, a18, a19])) (mag (mapU [b0, b1, b2, b3, b4, b5, b6, b7, b8, b9, b10, b11, b12, b13, b14, b15, b16, b17, b18, b19])) < 0)) (Q (.agg ⟨.bool false :: mapU (subGo [b0, b1, b2, b3, b4, b5, b6, b7, b8, b9, b10, b11, b12, b13, b14, b15, b16, b17, b18, b19] [a0, a1, a2, a3, a4, a5, a6, a7, a8, a9, a10, a11, a12, a13, a14, a15, a16, a17, a18, a19] 0)⟩)) (Q (.agg ⟨.bool true :: mapU (subGo [a0, a1, a2, a3, a4, a5, a6, a7, a8, a9, a10, a11, a12, a13, a14, a15, a16, a17, a18, a19] [b0, b1, b2, b3, b4, b5, b6, b7, b8, b9, b10, b11, b12, b13, b14, b15, b16, b17, b18, b19] 0)⟩))) False := by kernel_rfl
theorem cmp_read (s1 s2 : Bool) (a0 a1 a2 a3 a4 a5 a6 a7 a8 a9 a10 a11 a12 a13 a14 a15 a16 a17 a18 a19 b0 b1 b2 b3 b4 b5 b6 b7 b8 b9 b10 b11 b12 b13 b14 b15 b16 b17 b18 b19 : Int) (Q : Value → Prop) (oa : Bool) (e_oa : oa = okNum (mapU [a0, a1, a2, a3, a4, a5, a6, a7, a8, a9, a10, a11, a12, a13, a14, a15, a16, a17, a18, a19])) (ob : Bool) (e_ob : ob = okNum (mapU [b0, b1, b2, b3, b4, b5, b6, b7, b8, b9, b10, b11, b12, b13, b14, b15, b16, b17, b18, b19])) (x1 : Int) (e_1 : x1 = mag (mapU [a0, a1, a2, a3, a4, a5, a6, a7, a8, a9, a10, a11, a12, a13, a14, a15, a16, a17, a18, a19])) (x2 : Int) (e_2 : x2 = mag (mapU [b0, b1, b2, b3, b4, b5, b6, b7, b8, b9, b10, b11, b12, b13, b14, b15, b16, b17, b18, b19])) :
    ((ev envR1 300).call [] 25 #[.agg ⟨.bool s1 :: mapU [a0, a1, a2, a3, a4, a5, a6, a7, a8, a9, a10, a11, a12, a13, a14, a15, a16, a17, a18, a19]⟩, .agg ⟨.bool s2 :: mapU [b0, b1, b2, b3, b4, b5, b6, b7, b8, b9, b10, b11, b12, b13, b14, b15, b16, b17, b18, b19]⟩] [] B0).holds (fun r => Q r.v) =
    bcase s1 (bcase oa (bcase (!(x1 == 0)) (bcase s2 (bcase ob (bcase (!(x2 == 0)) (bcase (ob && oa) (Q (.int .i64 (cmpI x2 x1))) False) (Q (.int .i64 (-1)))) False) (Q (.int .i64 (-1)))) (bcase s2 (bcase ob (bcase (!(x2 == 0)) (Q (.int .i64 1)) (bcase (oa && ob) (Q (.int .i64 (cmpI x1 x2))) False)) False) (bcase (oa && ob) (Q (.int .i64 (cmpI x1 x2))) False))) False) (bcase s2 (bcase ob (bcase (!(x2 == 0)) (Q (.int .i64 1)) (bcase (oa && ob) (Q (.int .i64 (cmpI x1 x2))) False)) False) (bcase (oa && ob) (Q (.int .i64 (cmpI x1 x2))) False)) := by
  subst e_oa e_ob e_1 e_2
  kernel_rfl
/-- The sign of a sum, as the document's sum has it. -/
def addSg (s1 : Bool) (a : Int) (s2 : Bool) (b : Int) : Bool := bif s1 == s2 then s1 else bif decide (a < b) then s2 else s1
def T304 : Int := 32592575621351777380295131014550050576823494298654980010178247189670100796213387298934358016
theorem T304_eq : B16 19 = T304 := by unfold T304 B16; rfl
def raddS : Array Value → Option (Bool × Value)
  | ⟨[.agg ⟨.bool s1 :: r1⟩, .agg ⟨.bool s2 :: r2⟩]⟩ => some (okNum r1 && (okNum r2 && (decide (mag r2 < T304) && decide (mag r1 + mag r2 < T320))), nv (addSg s1 (mag r1) s2 (mag r2)) (sz (sv s1 (mag r1) + sv s2 (mag r2))))
  | _ => none
def rcmpS : Array Value → Option (Bool × Value)
  | ⟨[.agg ⟨.bool s1 :: r1⟩, .agg ⟨.bool s2 :: r2⟩]⟩ => some (okNum r1 && okNum r2, .int .i64 (cmpI (sv s1 (mag r1)) (sv s2 (mag r2))))
  | _ => none
theorem cmp_lt (a b : Int) : decide (cmpI a b < 0) = decide (a < b) := by
  unfold cmpI; split
  · rename_i h; rw [decide_eq_decide]; omega
  · split
    · rename_i h; rw [decide_eq_decide]; omega
    · rw [decide_eq_decide]; omega
theorem add_same (s : Bool) {a b : List Int} (ha : a.length = 20) (hb : b.length = 20) (pa : Pcs a) (pb : Pcs b) (h : val b < T304) (h2 : val a + val b < T320) :
    ∃ a0 r, a = a0 :: r ∧ Value.agg ⟨.bool s :: mapU (addGo r a0 b)⟩ = nv s (val a + val b) := by
  obtain ⟨a0, r, rfl, hr⟩ := cons_of ha
  refine ⟨a0, r, rfl, ?_⟩
  have hv := pa.head
  have ht : val (b.take r.length) = val b := val_take b r.length pb (by rw [hr, T304_eq]; exact h)
  rw [val] at h2
  obtain ⟨g1, g2, g3⟩ := addGo_ok r a0 b pa.tail pb (by omega) hv.1 (by omega) (by rw [ht, hr]; exact (by rw [T320_eq]; exact h2))
  exact nv_of (by rw [g2, hr]) g1 (by rw [g3, ht, val])
theorem sub_that (s : Bool) {a b : List Int} (ha : a.length = 20) (hb : b.length = 20) (pa : Pcs a) (pb : Pcs b) (h : val b ≤ val a) : Value.agg ⟨.bool s :: mapU (subGo a b 0)⟩ = nv s (val a - val b) := by
  obtain ⟨g1, g2, g3⟩ := subGo_ok a b 0 pa pb (by omega) (by omega) (by omega) (by omega)
  exact nv_of (by rw [g2, ha]) g1 (by rw [g3]; omega)
set_option maxHeartbeats 1000000 in
def pcRAdd : PC Try.prog where
  f := 19
  spec := raddS
  body := by kernel_rfl
  ok := fun args r hr hok => by
    unfold raddS at hr
    split at hr
    · rename_i s1 r1 s2 r2
      cases hr
      simp only [Bool.and_eq_true, decide_eq_true_eq] at hok
      obtain ⟨k1, k2, k3, k4⟩ := hok
      obtain ⟨a, rfl, hl1, hp1, hm1⟩ := num_out k1
      obtain ⟨b, rfl, hl2, hp2, hm2⟩ := num_out k2
      have hb : (#[Value.agg ⟨.bool s1 :: mapU a⟩, Value.agg ⟨.bool s2 :: mapU b⟩] : Array Value).all (bel B0) = true := all_bel (by rw [belL, bel_num, belL, bel_num]; rfl)
      refine ⟨hb, bel_nv _ _, fun w => calls_spec envR1 hcokP 300 ?_ hb (bel_nv _ _) w⟩
      have na := (val_bd hp1).1
      have nb := (val_bd hp2).1
      rw [hm1, hm2] at k4
      rw [hm2] at k3
      have same : ∀ s, ∃ a0 r, a = a0 :: r ∧ Value.agg ⟨.bool s :: mapU (addGo r a0 b)⟩ = nv s (val a + val b) := fun s => add_same s hl1 hl2 hp1 hp2 k3 k4
      have lt : ∀ s, val b ≤ val a → Value.agg ⟨.bool s :: mapU (subGo a b 0)⟩ = nv s (val a - val b) := fun s => sub_that s hl1 hl2 hp1 hp2
      have gt : ∀ s, val a ≤ val b → Value.agg ⟨.bool s :: mapU (subGo b a 0)⟩ = nv s (val b - val a) := fun s => sub_that s hl2 hl1 hp2 hp1
      clear hp1 hp2 hb k3 k4
      show Tree.holds (fun r : VR => r.v = nv (addSg s1 (mag (mapU a)) s2 (mag (mapU b))) (sz (sv s1 (mag (mapU a)) + sv s2 (mag (mapU b))))) _
      generalize hx : mag (mapU a) = x at *
      generalize hy : mag (mapU b) = y at *
      simp only [← hm1, ← hm2] at same lt gt na nb
      clear hm1 hm2
      obtain ⟨a0, a1, a2, a3, a4, a5, a6, a7, a8, a9, a10, a11, a12, a13, a14, a15, a16, a17, a18, a19, rfl⟩ := list20 hl1
      obtain ⟨b0, b1, b2, b3, b4, b5, b6, b7, b8, b9, b10, b11, b12, b13, b14, b15, b16, b17, b18, b19, rfl⟩ := list20 hl2
      cases s1 <;> cases s2
      · refine (add_ff a0 a1 a2 a3 a4 a5 a6 a7 a8 a9 a10 a11 a12 a13 a14 a15 a16 a17 a18 a19 b0 b1 b2 b3 b4 b5 b6 b7 b8 b9 b10 b11 b12 b13 b14 b15 b16 b17 b18 b19 (fun v => v = nv (addSg false x false y) (sz (sv false x + sv false y)))).mpr ?_
        obtain ⟨c, r, e, h⟩ := same false
        cases e
        rw [h]
        have e : sz (sv false x + sv false y) = x + y := by unfold sz sv; simp only [cond_false]; omega
        rw [e]; rfl
      · refine (add_ft a0 a1 a2 a3 a4 a5 a6 a7 a8 a9 a10 a11 a12 a13 a14 a15 a16 a17 a18 a19 b0 b1 b2 b3 b4 b5 b6 b7 b8 b9 b10 b11 b12 b13 b14 b15 b16 b17 b18 b19 (fun v => v = nv (addSg false x true y) (sz (sv false x + sv true y)))).mpr ?_
        rw [k1, k2, Bool.and_self, bcase_t, hx, hy, cmp_lt]
        refine bcase_in (fun q => ?_) fun q => ?_
        · rw [decide_eq_true_eq] at q
          rw [gt true (by omega)]
          have e : sz (sv false x + sv true y) = y - x := by unfold sz sv; simp only [cond_false, cond_true]; omega
          have e2 : addSg false x true y = true := by unfold addSg; rw [decide_eq_true q]; rfl
          rw [e, e2]
        · rw [decide_eq_false_iff_not] at q
          rw [lt false (by omega)]
          have e : sz (sv false x + sv true y) = x - y := by unfold sz sv; simp only [cond_false, cond_true]; omega
          have e2 : addSg false x true y = false := by unfold addSg; rw [decide_eq_false q]; rfl
          rw [e, e2]
      · refine (add_tf a0 a1 a2 a3 a4 a5 a6 a7 a8 a9 a10 a11 a12 a13 a14 a15 a16 a17 a18 a19 b0 b1 b2 b3 b4 b5 b6 b7 b8 b9 b10 b11 b12 b13 b14 b15 b16 b17 b18 b19 (fun v => v = nv (addSg true x false y) (sz (sv true x + sv false y)))).mpr ?_
        rw [k1, k2, Bool.and_self, bcase_t, hx, hy, cmp_lt]
        refine bcase_in (fun q => ?_) fun q => ?_
        · rw [decide_eq_true_eq] at q
          rw [gt false (by omega)]
          have e : sz (sv true x + sv false y) = y - x := by unfold sz sv; simp only [cond_false, cond_true]; omega
          have e2 : addSg true x false y = false := by unfold addSg; rw [decide_eq_true q]; rfl
          rw [e, e2]
        · rw [decide_eq_false_iff_not] at q
          rw [lt true (by omega)]
          have e : sz (sv true x + sv false y) = x - y := by unfold sz sv; simp only [cond_false, cond_true]; omega
          have e2 : addSg true x false y = true := by unfold addSg; rw [decide_eq_false q]; rfl
          rw [e, e2]
      · refine (add_tt a0 a1 a2 a3 a4 a5 a6 a7 a8 a9 a10 a11 a12 a13 a14 a15 a16 a17 a18 a19 b0 b1 b2 b3 b4 b5 b6 b7 b8 b9 b10 b11 b12 b13 b14 b15 b16 b17 b18 b19 (fun v => v = nv (addSg true x true y) (sz (sv true x + sv true y)))).mpr ?_
        obtain ⟨c, r, e, h⟩ := same true
        cases e
        rw [h]
        have e : sz (sv true x + sv true y) = x + y := by unfold sz sv; simp only [cond_true]; omega
        rw [e]; rfl
    · cases hr
theorem intE {a b : Int} (h : a = b) : Value.int .i64 a = .int .i64 b := by rw [h]
set_option maxHeartbeats 1000000 in
def pcRCmp : PC Try.prog where
  f := 25
  spec := rcmpS
  body := by kernel_rfl
  ok := fun args r hr hok => by
    unfold rcmpS at hr
    split at hr
    · rename_i s1 r1 s2 r2
      cases hr
      simp only [Bool.and_eq_true] at hok
      obtain ⟨k1, k2⟩ := hok
      have na := (mag_bd k1).1
      have nb := (mag_bd k2).1
      obtain ⟨a, rfl, hl1, hp1, hm1⟩ := num_out k1
      obtain ⟨b, rfl, hl2, hp2, hm2⟩ := num_out k2
      have hb : (#[Value.agg ⟨.bool s1 :: mapU a⟩, Value.agg ⟨.bool s2 :: mapU b⟩] : Array Value).all (bel B0) = true := all_bel (by rw [belL, bel_num, belL, bel_num]; rfl)
      refine ⟨hb, rfl, fun w => calls_spec envR1 hcokP 300 ?_ hb rfl w⟩
      obtain ⟨a0, a1, a2, a3, a4, a5, a6, a7, a8, a9, a10, a11, a12, a13, a14, a15, a16, a17, a18, a19, rfl⟩ := list20 hl1
      obtain ⟨b0, b1, b2, b3, b4, b5, b6, b7, b8, b9, b10, b11, b12, b13, b14, b15, b16, b17, b18, b19, rfl⟩ := list20 hl2
      refine (cmp_read s1 s2 a0 a1 a2 a3 a4 a5 a6 a7 a8 a9 a10 a11 a12 a13 a14 a15 a16 a17 a18 a19 b0 b1 b2 b3 b4 b5 b6 b7 b8 b9 b10 b11 b12 b13 b14 b15 b16 b17 b18 b19 (fun v => v = .int .i64 (cmpI (sv s1 (mag (mapU [a0, a1, a2, a3, a4, a5, a6, a7, a8, a9, a10, a11, a12, a13, a14, a15, a16, a17, a18, a19]))) (sv s2 (mag (mapU [b0, b1, b2, b3, b4, b5, b6, b7, b8, b9, b10, b11, b12, b13, b14, b15, b16, b17, b18, b19]))))) _ rfl _ rfl _ rfl _ rfl).mpr ?_
      rw [k1, k2]
      simp only [Bool.and_self, bcase_t]
      clear k1 k2 hm1 hm2 hp1 hp2 hb hl1 hl2
      generalize mag (mapU [a0, a1, a2, a3, a4, a5, a6, a7, a8, a9, a10, a11, a12, a13, a14, a15, a16, a17, a18, a19]) = x at *
      generalize mag (mapU [b0, b1, b2, b3, b4, b5, b6, b7, b8, b9, b10, b11, b12, b13, b14, b15, b16, b17, b18, b19]) = y at *
      cases s1 <;> cases s2 <;> simp only [sv, cond_true, cond_false, bcase_t, bcase_n]
      · refine bcase_in (fun q => intE ?_) fun q => intE ?_
        · have q' : y ≠ 0 := by simpa using q
          unfold cmpI; (repeat' split) <;> omega
        · have q' : y = 0 := by simpa using q
          unfold cmpI; (repeat' split) <;> omega
      · refine bcase_in (fun q => intE ?_) fun q => intE ?_
        · have q' : x ≠ 0 := by simpa using q
          unfold cmpI; (repeat' split) <;> omega
        · have q' : x = 0 := by simpa using q
          unfold cmpI; (repeat' split) <;> omega
      · refine bcase_in (fun q => ?_) fun q => ?_
        · have q' : x ≠ 0 := by simpa using q
          refine bcase_in (fun p => intE ?_) fun p => intE ?_
          · have p' : y ≠ 0 := by simpa using p
            unfold cmpI; (repeat' split) <;> omega
          · have p' : y = 0 := by simpa using p
            unfold cmpI; (repeat' split) <;> omega
        · have q' : x = 0 := by simpa using q
          refine bcase_in (fun p => intE ?_) fun p => intE ?_
          · have p' : y ≠ 0 := by simpa using p
            unfold cmpI; (repeat' split) <;> omega
          · have p' : y = 0 := by simpa using p
            unfold cmpI; (repeat' split) <;> omega
    · cases hr
def envR2 : Env Try.prog := envS.with false [pcROf, pcRNum, pcRNeg, pcRZero, pcRSize, pcRMul, pcRAdd, pcRCmp]
end
end Go.Proofs.Ytbhgibpocbmipaa
