/-
  Own texts, merged: FracA FracB LawD
-/
import Derived.Test.YtbhgibpocbmipaaQ5


/-
  The document's fraction: its code in pieces, its rounds.
-/
namespace Go.Proofs.Ytbhgibpocbmipaa
open Go.Den Go.RowKit
noncomputable section
set_option maxRecDepth 100000
noncomputable def frC : Code := codeOf 43
noncomputable def frX : Code := cL (cR frC)
noncomputable def fr3 : Code := cL (cR (cR frC))
noncomputable def fr4 : Code := cL (cR (cR (cR frC)))
noncomputable def frY : Code := cL (cR (cR (cR (cR frC))))
noncomputable def frZ : Code := cR (cR (cR (cR (cR frC))))
noncomputable def frL : Code := cL (cR frY)
noncomputable def frB : Code := cL frL
/-- The bit that m rounds begin with. -/
noncomputable def bitOf (m : Nat) : Int := Nat.rec (motive := fun _ => Int) 0 (fun k _ => 2 ^ k) m
noncomputable def frH (W : Int) : AHeap := [(B0, ⟨⟨.bool false :: mapU (digsN 20 W)⟩, 28, none⟩)]
noncomputable def frT (m : Nat) (zs : List Value) (d f W : Int) : St := ⟨FT.ins [getZ zs 0, .int .u64 d, getZ zs 2, getZ zs 3, getZ zs 4, getZ zs 5, ptr B0, .int .u64 f, .int .u64 (bitOf m), getZ zs 9, getZ zs 10, getZ zs 11, getZ zs 12, getZ zs 13, getZ zs 14, getZ zs 15, getZ zs 16, getZ zs 17, getZ zs 18, getZ zs 19, getZ zs 20, getZ zs 21, getZ zs 22, getZ zs 23, getZ zs 24, getZ zs 25, getZ zs 26, getZ zs 27, getZ zs 28, getZ zs 29, getZ zs 30, getZ zs 31, getZ zs 32, getZ zs 33, getZ zs 34, getZ zs 35, getZ zs 36, getZ zs 37, getZ zs 38, getZ zs 39] 0 ⟨40, .nil⟩, frH W, B0 + 1⟩
noncomputable def frTree (k : Nat) (zs : List Value) (d f W : Int) : Tree (Exit × St) := (ev envG 100).code [] frB (frT (k + 1) zs d f W)
noncomputable def pick (p : List Bool) (t : Tree (Exit × St)) : Tree (Exit × St) := List.rec (motive := fun _ => Tree (Exit × St) → Tree (Exit × St)) (fun t => t) (fun b _ ih t => ih (Bool.casesOn (motive := fun _ => Tree (Exit × St)) b (brF' t) (brT t))) p t
noncomputable def frS0 (n d : Int) : St := ⟨Go.Den.start [.int .u64 n, .int .u64 d] Try.f43.ntmps, [], B0⟩
noncomputable def frS1 (n d : Int) : St := (outOf ((ev envG 100).code [] (cL frC) (frS0 n d))).2
noncomputable def frXT (n d : Int) : Tree (Exit × St) := (ev envG 100).code [] frX (frS1 n d)
noncomputable def lessOf (k : Nat) (f : Int) : Int := IntKind.wrap .u64 (f - 2 ^ k)
noncomputable def prodOf (k : Nat) (d f : Int) : Int := mag (mapU (digsN 20 (lessOf k f))) * mag (mapU (digsN 20 d))
def frG (k : Nat) : Prop := ∀ (zs : List Value) (d f W : Int), (frTree k zs d f W).run =
  bif okU (lessOf k f) then bif okU d then bif okNum (mapU (digsN 20 (lessOf k f))) && (okNum (mapU (digsN 20 d)) && decide (prodOf k d f < T320)) then
    bif okNum (mapU (digsN 20 (prodOf k d f))) && okNum (mapU (digsN 20 W)) then
      bif decide (cmpI (mag (mapU (digsN 20 (prodOf k d f)))) (mag (mapU (digsN 20 W))) ≥ 0) then some (.normal, frT k (tlOf (outOf (goT 24 (frTree k zs d f W))).2) d (lessOf k f) W)
      else some (.normal, frT k (tlOf (outOf (brF' (goT 23 (frTree k zs d f W)))).2) d f W)
    else none else none else none else none
theorem fr_0 : frG 0 := by
  intro zs d f W
  kernel_rfl
theorem fr_1 : frG 1 := by
  intro zs d f W
  kernel_rfl
theorem fr_2 : frG 2 := by
  intro zs d f W
  kernel_rfl
theorem fr_3 : frG 3 := by
  intro zs d f W
  kernel_rfl
theorem fr_4 : frG 4 := by
  intro zs d f W
  kernel_rfl
theorem fr_5 : frG 5 := by
  intro zs d f W
  kernel_rfl
theorem fr_6 : frG 6 := by
  intro zs d f W
  kernel_rfl
theorem fr_7 : frG 7 := by
  intro zs d f W
  kernel_rfl
theorem fr_8 : frG 8 := by
  intro zs d f W
  kernel_rfl
theorem fr_9 : frG 9 := by
  intro zs d f W
  kernel_rfl
theorem fr_10 : frG 10 := by
  intro zs d f W
  kernel_rfl
theorem fr_11 : frG 11 := by
  intro zs d f W
  kernel_rfl
theorem fr_12 : frG 12 := by
  intro zs d f W
  kernel_rfl
theorem fr_13 : frG 13 := by
  intro zs d f W
  kernel_rfl
theorem fr_14 : frG 14 := by
  intro zs d f W
  kernel_rfl
theorem fr_15 : frG 15 := by
  intro zs d f W
  kernel_rfl
theorem fr_16 : frG 16 := by
  intro zs d f W
  kernel_rfl
theorem fr_17 : frG 17 := by
  intro zs d f W
  kernel_rfl
theorem fr_18 : frG 18 := by
  intro zs d f W
  kernel_rfl
theorem fr_19 : frG 19 := by
  intro zs d f W
  kernel_rfl
theorem fr_20 : frG 20 := by
  intro zs d f W
  kernel_rfl
theorem fr_21 : frG 21 := by
  intro zs d f W
  kernel_rfl
theorem fr_22 : frG 22 := by
  intro zs d f W
  kernel_rfl
theorem fr_23 : frG 23 := by
  intro zs d f W
  kernel_rfl
theorem fr_24 : frG 24 := by
  intro zs d f W
  kernel_rfl
theorem fr_25 : frG 25 := by
  intro zs d f W
  kernel_rfl
theorem fr_26 : frG 26 := by
  intro zs d f W
  kernel_rfl
theorem fr_27 : frG 27 := by
  intro zs d f W
  kernel_rfl
theorem fr_28 : frG 28 := by
  intro zs d f W
  kernel_rfl
theorem fr_29 : frG 29 := by
  intro zs d f W
  kernel_rfl
theorem fr_30 : frG 30 := by
  intro zs d f W
  kernel_rfl
theorem fr_31 : frG 31 := by
  intro zs d f W
  kernel_rfl
end
end Go.Proofs.Ytbhgibpocbmipaa


/-
  The document's fraction, put together of its rounds.
-/
namespace Go.Proofs.Ytbhgibpocbmipaa
open Go.Den Go.RowKit
noncomputable section
set_option maxRecDepth 100000
theorem sat_ofG {c : Code} {st s : St} {x : Exit} (hok : cok c = true) (h : ((ev envG 100).code [] c st).run = some (x, s)) : SatCode Try.prog [] c st x s := sat_read envG hcokP 100 (r := (x, s)) hok h
theorem frB_ok : cok frB = true := by kernel_rfl
theorem frL_eq : frL = .loop frB := by kernel_rfl
theorem fr_all : ∀ k, k < 32 → frG k := fun k hk => by
  have h : k = 0 ∨ k = 1 ∨ k = 2 ∨ k = 3 ∨ k = 4 ∨ k = 5 ∨ k = 6 ∨ k = 7 ∨ k = 8 ∨ k = 9 ∨ k = 10 ∨ k = 11 ∨ k = 12 ∨ k = 13 ∨ k = 14 ∨ k = 15 ∨ k = 16 ∨ k = 17 ∨ k = 18 ∨ k = 19 ∨ k = 20 ∨ k = 21 ∨ k = 22 ∨ k = 23 ∨ k = 24 ∨ k = 25 ∨ k = 26 ∨ k = 27 ∨ k = 28 ∨ k = 29 ∨ k = 30 ∨ k = 31 := by omega
  rcases h with rfl | rfl | rfl | rfl | rfl | rfl | rfl | rfl | rfl | rfl | rfl | rfl | rfl | rfl | rfl | rfl | rfl | rfl | rfl | rfl | rfl | rfl | rfl | rfl | rfl | rfl | rfl | rfl | rfl | rfl | rfl | rfl
  · exact fr_0
  · exact fr_1
  · exact fr_2
  · exact fr_3
  · exact fr_4
  · exact fr_5
  · exact fr_6
  · exact fr_7
  · exact fr_8
  · exact fr_9
  · exact fr_10
  · exact fr_11
  · exact fr_12
  · exact fr_13
  · exact fr_14
  · exact fr_15
  · exact fr_16
  · exact fr_17
  · exact fr_18
  · exact fr_19
  · exact fr_20
  · exact fr_21
  · exact fr_22
  · exact fr_23
  · exact fr_24
  · exact fr_25
  · exact fr_26
  · exact fr_27
  · exact fr_28
  · exact fr_29
  · exact fr_30
  · exact fr_31
theorem fr_end (zs : List Value) (d f W : Int) : ((ev envG 100).code [] frB (frT 0 zs d f W)).run = some (.exit 0, frT 0 (tlOf (outOf ((ev envG 100).code [] frB (frT 0 zs d f W))).2) d f W) := by kernel_rfl
theorem fr_stop (zs : List Value) (d f W : Int) : ∃ z, SatCode Try.prog [] frB (frT 0 zs d f W) (.exit 0) (frT 0 z d f W) := ⟨_, sat_ofG frB_ok (fr_end zs d f W)⟩
theorem fr_of {k : Nat} {zs : List Value} {d f W : Int} {x : Exit} {s : St} (h : (frTree k zs d f W).run = some (x, s)) : SatCode Try.prog [] frB (frT (k + 1) zs d f W) x s := sat_ofG frB_ok h
theorem fr_round {k : Nat} (hk : k < 32) (zs : List Value) {d f W : Int} (g1 : okU (lessOf k f) = true) (g2 : okU d = true) (g3 : (okNum (mapU (digsN 20 (lessOf k f))) && (okNum (mapU (digsN 20 d)) && decide (prodOf k d f < T320))) = true)
    (g4 : (okNum (mapU (digsN 20 (prodOf k d f))) && okNum (mapU (digsN 20 W))) = true) {c : Bool} (hc : decide (cmpI (mag (mapU (digsN 20 (prodOf k d f)))) (mag (mapU (digsN 20 W))) ≥ 0) = c) :
    ∃ z, SatCode Try.prog [] frB (frT (k + 1) zs d f W) .normal (frT k z d (bif c then lessOf k f else f) W) := by
  have h := fr_all k hk zs d f W
  rw [g1, g2, g3, g4, hc] at h
  cases c
  · simp only [cond_true, cond_false] at h ⊢
    exact ⟨_, fr_of h⟩
  · simp only [cond_true] at h ⊢
    exact ⟨_, fr_of h⟩
/-- What holds where m bits are to be told. -/
structure FrTo (d W : Int) (m : Nat) (f : Int) : Prop where
  low : ∃ c, f + 1 = 2 ^ m * c
  bot : 2 ^ m ≤ f + 1
  top : f ≤ 4294967295
  le : f = 4294967295 ∨ W ≤ f * d
  lt : (f - 2 ^ m) * d < W
theorem cmp_ge (a b : Int) : decide (cmpI a b ≥ 0) = decide (b ≤ a) := by
  unfold cmpI; split
  · rename_i h; rw [decide_eq_decide]; omega
  · split
    · rw [decide_eq_decide]; omega
    · rw [decide_eq_decide]; omega
theorem prod_bdF {a b A B : Int} (h0 : 0 ≤ a) (h1 : a ≤ A) (k0 : 0 ≤ b) (k1 : b ≤ B) : 0 ≤ a * b ∧ a * b ≤ A * B :=
  ⟨Int.mul_nonneg h0 k0, Int.mul_le_mul h1 k1 k0 (by omega)⟩
theorem FrTo.step {d W f : Int} {k : Nat} (h : FrTo d W (k + 1) f) : (W ≤ (f - 2 ^ k) * d → FrTo d W k (f - 2 ^ k)) ∧ ((f - 2 ^ k) * d < W → FrTo d W k f) := by
  obtain ⟨⟨c, hc⟩, bot, top, le, lt⟩ := h
  have pp := p2_pos k
  rw [p2_s] at bot lt hc
  refine ⟨fun hle => ⟨⟨2 * c - 1, ?_⟩, by omega, by omega, .inr hle, ?_⟩, fun hlt => ⟨⟨2 * c, ?_⟩, by omega, top, le, hlt⟩⟩
  · rw [show f - 2 ^ k + 1 = f + 1 - 2 ^ k by omega, hc, Int.mul_sub, Int.mul_left_comm, Int.mul_assoc]; omega
  · rw [show f - 2 ^ k - 2 ^ k = f - 2 * 2 ^ k by omega]; exact lt
  · rw [hc, Int.mul_left_comm, Int.mul_assoc]
theorem fr_loop {d W : Int} (d0 : 0 ≤ d) (d1 : d ≤ 1099511627776) (w0 : 0 ≤ W) (w1 : W < T320) : ∀ (m : Nat), m ≤ 32 → ∀ (zs : List Value) (f : Int), FrTo d W m f → ∃ z f', SatCode Try.prog [] frL (frT m zs d f W) (.exit 0) (frT 0 z d f' W) ∧ FrTo d W 0 f'
  | 0, _, zs, f, h => by
    obtain ⟨z, hz⟩ := fr_stop zs d f W
    exact ⟨z, f, sat_loop_exit frL_eq hz, h⟩
  | k + 1, hk, zs, f, h => by
    have pp := p2_pos k
    have bot := h.bot; have top := h.top
    rw [p2_s] at bot
    have el : lessOf k f = f - 2 ^ k := by unfold lessOf; exact w64 (by omega) (by omega)
    have pb := prod_bdF (a := f - 2 ^ k) (b := d) (A := 4294967295) (B := 1099511627776) (by omega) (by omega) d0 d1
    have m1 : mag (mapU (digsN 20 (f - 2 ^ k))) = f - 2 ^ k := mag_nv (by omega) (by unfold T320; omega)
    have m2 : mag (mapU (digsN 20 d)) = d := mag_nv d0 (by unfold T320; omega)
    have ep : prodOf k d f = (f - 2 ^ k) * d := by unfold prodOf; rw [el, m1, m2]
    have t1 : (f - 2 ^ k) * d < T320 := by unfold T320; omega
    have m3 : mag (mapU (digsN 20 ((f - 2 ^ k) * d))) = (f - 2 ^ k) * d := mag_nv pb.1 t1
    have m4 : mag (mapU (digsN 20 W)) = W := mag_nv w0 w1
    have hc : decide (cmpI (mag (mapU (digsN 20 (prodOf k d f)))) (mag (mapU (digsN 20 W))) ≥ 0) = decide (W ≤ (f - 2 ^ k) * d) := by rw [ep, m3, m4, cmp_ge]
    obtain ⟨z, hz⟩ := fr_round (by omega) zs (by rw [el]; exact okU_iff.2 (by omega)) (okU_iff.2 (by omega)) (by rw [ep, ok_nv, ok_nv, decide_eq_true t1]; rfl) (by rw [ok_nv, ok_nv]; rfl) hc
    rw [el] at hz
    cases hd : decide (W ≤ (f - 2 ^ k) * d)
    · rw [hd] at hz
      obtain ⟨z2, f', hs, h2⟩ := fr_loop d0 d1 w0 w1 k (by omega) z f (h.step.2 (by have := of_decide_eq_false hd; omega))
      exact ⟨z2, f', sat_loop frL_eq hz hs, h2⟩
    · rw [hd] at hz
      obtain ⟨z2, f', hs, h2⟩ := fr_loop d0 d1 w0 w1 k (by omega) z (f - 2 ^ k) (h.step.1 (of_decide_eq_true hd))
      exact ⟨z2, f', sat_loop frL_eq hz hs, h2⟩
theorem fr_q1 : frC = .seq (cL frC) (cR frC) := by kernel_rfl
theorem fr_q2 : cR frC = .seq frX (cR (cR frC)) := by kernel_rfl
theorem fr_q3 : cR (cR frC) = .seq fr3 (cR (cR (cR frC))) := by kernel_rfl
theorem fr_q4 : cR (cR (cR frC)) = .seq fr4 (cR (cR (cR (cR frC)))) := by kernel_rfl
theorem fr_q5 : cR (cR (cR (cR frC))) = .seq frY frZ := by kernel_rfl
theorem fr_q6 : frY = .seq (cL frY) (cR frY) := by kernel_rfl
theorem fr_q7 : cR frY = .block 0 frL := by kernel_rfl
theorem fr_k1 : cok (cL frC) = true := by kernel_rfl
theorem fr_k2 : cok frX = true := by kernel_rfl
theorem fr_k3 : cok fr3 = true := by kernel_rfl
theorem fr_k4 : cok fr4 = true := by kernel_rfl
theorem fr_k5 : cok (cL frY) = true := by kernel_rfl
theorem fr_k6 : cok frZ = true := by kernel_rfl
theorem fr_p1 (n d : Int) : ((ev envG 100).code [] (cL frC) (frS0 n d)).run = some (.normal, frS1 n d) := by kernel_rfl
noncomputable def frXA (n d : Int) : St := (outOf (pick [true, true, false, true, true, true, true, true, true, true, true, true, true, true, true, true, true, true, true, false, true, false, true, true, true, true, true, true, true] (frXT n d))).2
noncomputable def frXB (n d : Int) : St := (outOf (pick [true, true, false, true, true, true, true, true, true, true, true, true, true, true, true, true, true, true, true, false, true, false, true, true, true, true, true, true, false] (frXT n d))).2
noncomputable def frXC (n d : Int) : St := (outOf (pick [true, true, false, true, true, true, true, true, true, true, true, true, false] (frXT n d))).2
noncomputable def frXD (n d : Int) : St := (outOf (pick [true, true, false, true, true, false] (frXT n d))).2
theorem fr_p2 (n d : Int) : (frXT n d).run = bif decide (d ≥ 1) then bif decide (d ≤ 1099511627776) then bif decide (n ≥ d) then some (.ret, frXA n d) else some (.normal, frXB n d) else some (.ret, frXC n d) else some (.ret, frXD n d) := by kernel_rfl
theorem fr_rA (n d : Int) : resultsA Try.prog [] Try.f43 (frXA n d).tmps (frXA n d).h = some (.tuple #[.int .u32 0, .bool false]) := by kernel_rfl
theorem fr_rC (n d : Int) : resultsA Try.prog [] Try.f43 (frXC n d).tmps (frXC n d).h = some (.tuple #[.int .u32 0, .bool false]) := by kernel_rfl
theorem fr_rD (n d : Int) : resultsA Try.prog [] Try.f43 (frXD n d).tmps (frXD n d).h = some (.tuple #[.int .u32 0, .bool false]) := by kernel_rfl
noncomputable def fr3T (n d : Int) : Tree (Exit × St) := (ev envG 100).code [] fr3 (frXB n d)
noncomputable def frS3 (n d : Int) : St := (outOf (pick [true, true, true, true] (fr3T n d))).2
noncomputable def wantOf (n : Int) : Int := mag (mapU (digsN 20 n)) * mag (mapU (digsN 20 4294967296))
theorem fr_p3 (n d : Int) : (fr3T n d).run = bif okU n then bif okNum (mapU (digsN 20 n)) && (okNum (mapU (digsN 20 4294967296)) && decide (wantOf n < T320)) then some (.normal, frS3 n d) else none else none := by kernel_rfl
noncomputable def frS4 (n d : Int) : St := (outOf ((ev envG 100).code [] fr4 (frS3 n d))).2
noncomputable def frS5 (n d : Int) : St := (outOf ((ev envG 100).code [] (cL frY) (frS4 n d))).2
theorem fr_p4 (n d : Int) : ((ev envG 100).code [] fr4 (frS3 n d)).run = some (.normal, frS4 n d) := by kernel_rfl
theorem fr_p5 (n d : Int) : ((ev envG 100).code [] (cL frY) (frS4 n d)).run = some (.normal, frS5 n d) := by kernel_rfl
theorem fr_a5 (n d : Int) : (frT 32 (tlOf (frS5 n d)) d 4294967295 (wantOf n)).tmps.arr = (frS5 n d).tmps.arr := by kernel_rfl
theorem fr_h5 (n d : Int) : (frT 32 (tlOf (frS5 n d)) d 4294967295 (wantOf n)).h = (frS5 n d).h := by kernel_rfl
theorem fr_n5 (n d : Int) : (frT 32 (tlOf (frS5 n d)) d 4294967295 (wantOf n)).nx = (frS5 n d).nx := by kernel_rfl
noncomputable def frS6 (z : List Value) (d f W : Int) : St := (outOf ((ev envG 100).code [] frZ (frT 0 z d f W))).2
theorem fr_p6 (z : List Value) (d f W : Int) : ((ev envG 100).code [] frZ (frT 0 z d f W)).run = some (.ret, frS6 z d f W) := by kernel_rfl
theorem fr_r6 (z : List Value) (d f W : Int) : resultsA Try.prog [] Try.f43 (frS6 z d f W).tmps (frS6 z d f W).h = some (.tuple #[.int .u32 (IntKind.wrap .u32 f), .bool true]) := by kernel_rfl
theorem fr_body : Try.f43.body = some frC := by kernel_rfl
theorem fr_start {x : Exit} {n d : Int} {s : St} (h : SatCode Try.prog [] (cR frC) (frS1 n d) x s) : SatCode Try.prog [] frC (frS0 n d) x s := sat_seq fr_q1 (sat_ofG fr_k1 (fr_p1 n d)) h
theorem fr_call {n d : Int} {s : St} {v : Value} (h : SatCode Try.prog [] frC (frS0 n d) .ret s) (hr : resultsA Try.prog [] Try.f43 s.tmps s.h = some v) (hv : bel B0 v = true) (w : World) :
    Calls Try.prog 43 #[.int .u64 n, .int .u64 d] w fun e w' => e = .returned v ∧ Below w.heap.size w w' := by
  have h' : SatCode Try.prog [] frC ⟨Go.Den.start (#[.int .u64 n, .int .u64 d] : Array Value).toList Try.f43.ntmps, [], B0⟩ .ret s := h
  exact calls_sat (sat_call Try.func43 fr_body (by kernel_rfl) h' (.inr rfl) hr) (all_bel rfl) hv w
theorem fr_no {n d : Int} {s : St} (hx : (frXT n d).run = some (.ret, s)) (hr : resultsA Try.prog [] Try.f43 s.tmps s.h = some (.tuple #[.int .u32 0, .bool false])) (w : World) :
    Calls Try.prog 43 #[.int .u64 n, .int .u64 d] w fun e w' => e = .returned (.tuple #[.int .u32 0, .bool false]) ∧ Below w.heap.size w w' :=
  fr_call (fr_start (sat_seq_ret fr_q2 (sat_ofG fr_k2 hx))) hr rfl w
theorem fr_yes {n d f : Int} {z : List Value} (hx : (frXT n d).run = some (.normal, frXB n d)) (h3 : (fr3T n d).run = some (.normal, frS3 n d))
    (h : SatCode Try.prog [] frL (frT 32 (tlOf (frS5 n d)) d 4294967295 (wantOf n)) (.exit 0) (frT 0 z d f (wantOf n))) (w : World) :
    Calls Try.prog 43 #[.int .u64 n, .int .u64 d] w fun e w' => e = .returned (.tuple #[.int .u32 (IntKind.wrap .u32 f), .bool true]) ∧ Below w.heap.size w w' := by
  have h1 := sat_arr (fr_a5 n d) (fr_h5 n d) (fr_n5 n d) (sat_block fr_q7 h)
  have h2 := sat_seq fr_q6 (sat_ofG fr_k5 (fr_p5 n d)) h1
  have h4 := sat_seq fr_q5 h2 (sat_ofG fr_k6 (fr_p6 z d f (wantOf n)))
  have h5 := sat_seq fr_q4 (sat_ofG fr_k4 (fr_p4 n d)) h4
  have h6 := sat_seq fr_q3 (sat_ofG fr_k3 h3) h5
  exact fr_call (fr_start (sat_seq fr_q2 (sat_ofG fr_k2 hx) h6)) (fr_r6 z d f (wantOf n)) rfl w
theorem cle {c k d P : Int} (hd : 0 < d) (h : (c - 1) * d < P) (h2 : P ≤ k * d) : c ≤ k := by
  have : (c - 1) * d < k * d := Int.lt_of_lt_of_le h h2
  have := Int.lt_of_mul_lt_mul_right this (by omega)
  omega
theorem fracC_prop (n d : Int) (hd : 0 < d) : n * 4294967296 ≤ fracC n d * d ∧ (fracC n d - 1) * d < n * 4294967296 := by
  have h1 := Int.emod_add_mul_ediv (n * 4294967296) d
  have h2 := Int.emod_nonneg (n * 4294967296) (show d ≠ 0 by omega)
  have h3 := Int.emod_lt_of_pos (n * 4294967296) hd
  have h4 : d * (n * 4294967296 / d) = n * 4294967296 / d * d := Int.mul_comm _ _
  unfold fracC
  generalize n * 4294967296 / d = q at *
  split
  · rw [Int.add_zero, Int.sub_mul]; omega
  · rw [show q + 1 - 1 = q by omega, Int.add_mul]; omega
theorem fr_is {n d f : Int} (hd : 0 < d) (hd2 : d ≤ 1099511627776) (hn : n < d) (h : FrTo d (n * 4294967296) 0 f) : fracV n d = f ∧ fracOk n d = true ∧ 0 ≤ f := by
  have hok : fracOk n d = true := by simp [fracOk]; omega
  obtain ⟨_, bot, top, le, lt⟩ := h
  rw [Int.pow_zero] at bot lt
  obtain ⟨p1, p2⟩ := fracC_prop n d hd
  refine ⟨?_, hok, by omega⟩
  simp only [fracV, hok, cond_true]
  have h1 : f ≤ fracC n d := cle hd lt p1
  rcases le with e | le
  · rw [e] at h1 ⊢
    split
    · rfl
    · omega
  · have h2 : fracC n d ≤ f := cle hd p2 le
    rw [if_neg (by omega)]; omega
def pcR2Frac : PC Try.prog where
  f := 43
  spec := fracS
  body := by kernel_rfl
  ok := fun args r hr hok => by
    unfold fracS at hr
    split at hr
    · rename_i n d
      cases hr
      rw [Bool.and_eq_true] at hok
      obtain ⟨kn, kd⟩ := hok
      have bn := okU_iff.1 kn
      have bd := okU_iff.1 kd
      refine ⟨all_bel rfl, rfl, fun w => ?_⟩
      have no : fracOk n d = false → Value.tuple #[.int .u32 0, .bool false] = .tuple #[.int .u32 (fracV n d), .bool (fracOk n d)] := fun h => by simp only [fracV, h, cond_false]
      have hp := fr_p2 n d
      by_cases h1 : d ≥ 1
      · rw [decide_eq_true h1, cond_true] at hp
        by_cases h2 : d ≤ 1099511627776
        · rw [decide_eq_true h2, cond_true] at hp
          by_cases h3 : n ≥ d
          · rw [decide_eq_true h3, cond_true] at hp
            have e := no (by simp [fracOk]; omega)
            refine (fr_no hp (fr_rA n d) w).mono ?_
            rintro x w' ⟨rfl, hB⟩
            exact ⟨congrArg Ending.returned e, hB⟩
          · rw [decide_eq_false h3, cond_false] at hp
            have m1 : mag (mapU (digsN 20 n)) = n := mag_nv bn.1 (by unfold T320; omega)
            have m2 : mag (mapU (digsN 20 4294967296)) = 4294967296 := mag_nv (by omega) (by unfold T320; omega)
            have eW : wantOf n = n * 4294967296 := by unfold wantOf; rw [m1, m2]
            have h3' := fr_p3 n d
            rw [kn, ok_nv, ok_nv, decide_eq_true (show wantOf n < T320 by rw [eW]; unfold T320; omega)] at h3'
            simp only [Bool.and_self, cond_true] at h3'
            have st : FrTo d (wantOf n) 32 4294967295 := by
              rw [eW]
              refine ⟨⟨1, rfl⟩, by decide, by omega, .inl rfl, ?_⟩
              have e : (4294967295 - 2 ^ 32 : Int) = -1 := by rfl
              rw [e]; omega
            obtain ⟨z, f, hs, hf⟩ := fr_loop (by omega) h2 (by rw [eW]; omega) (by rw [eW]; unfold T320; omega) 32 (by omega) (tlOf (frS5 n d)) 4294967295 st
            rw [eW] at hf
            obtain ⟨e1, e2, e3⟩ := fr_is (by omega) h2 (by omega) hf
            refine (fr_yes hp h3' hs w).mono ?_
            rintro x w' ⟨rfl, hB⟩
            refine ⟨?_, hB⟩
            rw [e1, e2, show IntKind.wrap .u32 f = f by rw [IntKind.wrap_u32]; have := hf.top; omega]
        · rw [decide_eq_false h2, cond_false] at hp
          have e := no (by simp [fracOk]; omega)
          refine (fr_no hp (fr_rC n d) w).mono ?_
          rintro x w' ⟨rfl, hB⟩
          exact ⟨congrArg Ending.returned e, hB⟩
      · rw [decide_eq_false h1, cond_false] at hp
        have e := no (by simp [fracOk]; omega)
        refine (fr_no hp (fr_rD n d) w).mono ?_
        rintro x w' ⟨rfl, hB⟩
        exact ⟨congrArg Ending.returned e, hB⟩
    · cases hr
def envQ : Env Try.prog := envS.with false (pcFrac :: pcParts :: pcR2Frac :: pcR2Parts :: pcK2 :: [])
end
end Go.Proofs.Ytbhgibpocbmipaa


/-
  Read by wip/tools/vc.py, and what follows.
-/
namespace Go.Proofs.Ytbhgibpocbmipaa
open Go.Den Go.RowKit
noncomputable section
set_option maxRecDepth 100000
theorem fparts_vc (n d f : Int) (Q : Value → Prop) : ((ev envQ 100).call [] 8 #[.int .u64 n, .int .u64 d, .int .u32 f] [] B0).holds (fun r => Q r.v) = (bcase (okU n && okU d)
  (bcase (fracOk n d)
    (bcase (okU32 f && okU d)
      (bcase (partOk d)
        (bcase (okU n && okU d)
          (bcase (fracOk n d)
            (bcase (okU32 f && okU d)
              (bcase (partOk d)
                (bcase (fracV n d == fracV n d)
                  (bcase (partV f d == partV f d) (Q (Value.bool true)) (Q (Value.bool false))) (Q (Value.bool false)))
                (bcase (fracV n d == fracV n d)
                  (bcase (partV f d == partV f d) (Q (Value.bool false)) (Q (Value.bool false)))
                  (Q (Value.bool false))))
              False)
            (bcase (okU32 f && okU d)
              (bcase (partOk d) (bcase (fracV n d == fracV n d) (Q (Value.bool false)) (Q (Value.bool false)))
                (bcase (fracV n d == fracV n d) (Q (Value.bool false)) (Q (Value.bool false))))
              False))
          False)
        (bcase (okU n && okU d)
          (bcase (fracOk n d)
            (bcase (okU32 f && okU d)
              (bcase (partOk d)
                (bcase (fracV n d == fracV n d)
                  (bcase (partV f d == partV f d) (Q (Value.bool false)) (Q (Value.bool false))) (Q (Value.bool false)))
                (bcase (fracV n d == fracV n d)
                  (bcase (partV f d == partV f d) (Q (Value.bool true)) (Q (Value.bool false))) (Q (Value.bool false))))
              False)
            (bcase (okU32 f && okU d)
              (bcase (partOk d) (bcase (fracV n d == fracV n d) (Q (Value.bool false)) (Q (Value.bool false)))
                (bcase (fracV n d == fracV n d) (Q (Value.bool false)) (Q (Value.bool false))))
              False))
          False))
      False)
    (bcase (okU32 f && okU d)
      (bcase (partOk d)
        (bcase (okU n && okU d)
          (bcase (fracOk n d)
            (bcase (okU32 f && okU d)
              (bcase (partOk d) (bcase (fracV n d == fracV n d) (Q (Value.bool false)) (Q (Value.bool false)))
                (bcase (fracV n d == fracV n d) (Q (Value.bool false)) (Q (Value.bool false))))
              False)
            (bcase (okU32 f && okU d)
              (bcase (partOk d)
                (bcase (fracV n d == fracV n d)
                  (bcase (partV f d == partV f d) (Q (Value.bool true)) (Q (Value.bool false))) (Q (Value.bool false)))
                (bcase (fracV n d == fracV n d)
                  (bcase (partV f d == partV f d) (Q (Value.bool false)) (Q (Value.bool false)))
                  (Q (Value.bool false))))
              False))
          False)
        (bcase (okU n && okU d)
          (bcase (fracOk n d)
            (bcase (okU32 f && okU d)
              (bcase (partOk d) (bcase (fracV n d == fracV n d) (Q (Value.bool false)) (Q (Value.bool false)))
                (bcase (fracV n d == fracV n d) (Q (Value.bool false)) (Q (Value.bool false))))
              False)
            (bcase (okU32 f && okU d)
              (bcase (partOk d)
                (bcase (fracV n d == fracV n d)
                  (bcase (partV f d == partV f d) (Q (Value.bool false)) (Q (Value.bool false))) (Q (Value.bool false)))
                (bcase (fracV n d == fracV n d)
                  (bcase (partV f d == partV f d) (Q (Value.bool true)) (Q (Value.bool false))) (Q (Value.bool false))))
              False))
          False))
      False))
  False) := by kernel_rfl
theorem fparts_ok (n d f : Int) (kn : okU n = true) (kd : okU d = true) (kf : okU32 f = true) :
    ((ev envQ 100).call [] 8 #[.int .u64 n, .int .u64 d, .int .u32 f] [] B0).holds (fun r => r.v = .bool true) := by
  rw [fparts_vc n d f (fun v => v = .bool true)]
  simp only [kn, kd, kf, Bool.and_self, bcase_t, beq_self_eq_true]
  cases fracOk n d <;> cases partOk d <;> exact True.intro
theorem fixParts_walk (n : Int) (n0 : 0 ≤ n) (n1 : n ≤ 18446744073709551615) (d : Int) (d0 : 0 ≤ d) (d1 : d ≤ 18446744073709551615) (f : Int) (f0 : 0 ≤ f) (f1 : f ≤ 4294967295) (w : World) :
    Calls Try.prog 8 #[.int .u64 n, .int .u64 d, .int .u32 f] w fun e w' =>
      e = .returned (.bool true) ∧ Below w.heap.size w w' :=
  calls_spec envQ hcokP 100 (fparts_ok n d f (okU_iff.2 ⟨n0, n1⟩) (okU_iff.2 ⟨d0, d1⟩) (okU32_iff.2 ⟨f0, f1⟩)) (all_bel rfl) rfl w
end
end Go.Proofs.Ytbhgibpocbmipaa
