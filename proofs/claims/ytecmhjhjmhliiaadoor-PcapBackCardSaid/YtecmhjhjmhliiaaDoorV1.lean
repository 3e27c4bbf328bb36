/-
  Own texts, merged: PdQ PdR
-/
import Derived.Test.YtecmhjhjmhliiaaDoorQ10

/-
  PcapBack: the mathematics.
-/


namespace Go.Proofs.YtecmhjhjmhliiaaDoor

open Go.RowKit Go.Lib

set_option maxRecDepth 100000

theorem openF_bytesH (lit nan : Bool) (link snap : Nat) (hk : link ≤ 65535) (hs : snap ≤ 4294967295) (more : List UInt8) :
    openF (bytesH lit nan link snap ++ more) = ⟨lit, nan, link, snap, 0⟩ := by
  obtain ⟨x, hx⟩ : ∃ x, bytesH lit nan link snap ++ more = x := ⟨_, rfl⟩
  have hl : 24 ≤ x.length := by rw [← hx, List.length_append, bytesH_len]; omega
  have ht : x.take 4 = mg lit nan := by rw [← hx, List.take_append_of_le_length (by rw [bytesH_len]; decide), bytesH_take]
  have hb : begF x = true := (begF_iff x).2 ⟨lit, nan, (pre_whole (by omega) (mg_len _ _)).2 ht⟩
  have hm := mag_of ht
  have e2 : getN lit x 4 2 = 2 := by
    have h := getN_mid lit (mg lit nan) (bytesF lit 2 4 ++ bytesF lit 4 0 ++ bytesF lit 4 0 ++ bytesF lit 4 snap ++ bytesF lit 4 link ++ more) 2 2 4 (mg_len _ _) (by decide)
    refine Eq.trans ?_ h
    rw [← hx]; unfold bytesH; simp only [List.append_assoc]; rfl
  have e16 : getN lit x 16 4 = snap := by
    have h := getN_mid lit (mg lit nan ++ bytesF lit 2 2 ++ bytesF lit 2 4 ++ bytesF lit 4 0 ++ bytesF lit 4 0) (bytesF lit 4 link ++ more) 4 snap 16 (by simp only [List.length_append, bytesF_len, mg_len]) (by decide)
    rw [Nat.mod_eq_of_lt (by omega)] at h
    refine Eq.trans ?_ h
    rw [← hx]; unfold bytesH; simp only [List.append_assoc]; rfl
  have e20 : getN lit x 20 4 = link := by
    have h := getN_mid lit (mg lit nan ++ bytesF lit 2 2 ++ bytesF lit 2 4 ++ bytesF lit 4 0 ++ bytesF lit 4 0 ++ bytesF lit 4 snap) more 4 link 20 (by simp only [List.length_append, bytesF_len, mg_len]) (by decide)
    rw [Nat.mod_eq_of_lt (by omega)] at h
    refine Eq.trans ?_ h
    rw [← hx]; unfold bytesH; simp only [List.append_assoc]; rfl
  rw [hx]
  unfold openF
  rw [if_pos hb, if_neg (by omega), hm.1, hm.2.1]
  unfold openL
  rw [e2, e16, e20, if_pos rfl, Nat.mod_eq_of_lt (by omega)]
theorem openF_cut (lit nan : Bool) (link snap : Nat) (E : Nat) (hE : E < 24) : openF ((bytesH lit nan link snap).take E) = noF 121 := by
  obtain ⟨x, hx⟩ : ∃ x, (bytesH lit nan link snap).take E = x := ⟨_, rfl⟩
  have hl : x.length < 24 := by rw [← hx, List.length_take, bytesH_len]; omega
  have ht : x.take 4 = (mg lit nan).take E := by rw [← hx, List.take_take, Nat.min_comm, ← List.take_take, bytesH_take]
  have hb : begF x = true := (begF_iff x).2 ⟨lit, nan, by
    unfold pre
    rw [decide_eq_true_eq, ht, List.length_take, mg_len, List.take_eq_take_iff, mg_len]; omega⟩
  rw [hx]
  unfold openF
  rw [if_pos hb, if_pos hl]
theorem headF_cut (lit nan : Bool) (l : List UInt8) (E : Nat) (hE : E < 16) (most : Int) : headF lit nan (l.take E) most = noH 121 := by
  unfold headF
  rw [if_pos (by rw [List.length_take]; omega)]
theorem ceil_go (P d : Int) (hP : 0 ≤ P) (h : P < d) (hd : d ≤ 1000000000) : 0 ≤ fracC P d ∧ fracC P d ≤ 4294967295 ∧ P * 4294967296 ≤ fracC P d * d ∧ fracC P d * d < P * 4294967296 + d := by
  have h1 := Int.mul_ediv_add_emod (P * 4294967296) d
  have h2 := Int.emod_nonneg (P * 4294967296) (show d ≠ 0 by omega)
  have h3 := Int.emod_lt_of_pos (P * 4294967296) (show 0 < d by omega)
  have h4 : 0 ≤ P * 4294967296 / d := Int.ediv_nonneg (by omega) (by omega)
  unfold fracC
  generalize P * 4294967296 / d = q at *
  generalize P * 4294967296 % d = r at *
  have hq : q * d = P * 4294967296 - r := by rw [Int.mul_comm]; omega
  by_cases hr : r = 0
  · rw [if_pos hr, Int.add_zero, hq]
    refine ⟨h4, ?_, by omega, by omega⟩
    apply Classical.byContradiction; intro hn
    have := Int.mul_le_mul_of_nonneg_right (show (4294967296 : Int) ≤ q by omega) (show 0 ≤ d by omega)
    omega
  · have hq2 : (q + 1) * d = P * 4294967296 - r + d := by rw [Int.add_mul, hq, Int.one_mul]
    rw [if_neg hr, hq2]
    refine ⟨by omega, ?_, by omega, by omega⟩
    apply Classical.byContradiction; intro hn
    have := Int.mul_le_mul_of_nonneg_right (show (4294967296 : Int) ≤ q + 1 by omega) (show 0 ≤ d by omega)
    omega
theorem fracV_of (P d c : Int) (hk : fracOk P d = true) (he : fracC P d = c) (hc : ¬ 4294967295 < c) : fracV P d = c := by
  unfold fracV
  rw [hk, he, cond_true, if_neg hc]
theorem unitsN_of (nan : Bool) (P d c : Int) (hd : (den nan : Nat) = d) (hk : fracOk P d = true) (he : fracV P d = c) : unitsN nan P = c := by
  unfold unitsN
  rw [hd, hk, cond_true, he]
theorem fracOk_of {P d : Int} (h0 : 0 < d) (h1 : d ≤ 1000000000) (h : P < d) : fracOk P d = true := by
  unfold fracOk
  rw [decide_eq_true h0, decide_eq_true (show d ≤ 1099511627776 by omega), decide_eq_true h]; rfl
theorem den_I (nan : Bool) : ∃ d : Int, (den nan : Nat) = d ∧ 0 < d ∧ d ≤ 1000000000 := by
  have h := den_lo nan
  exact ⟨_, rfl, by omega, by omega⟩
theorem units_of {nan : Bool} {P d : Int} (hd : (den nan : Nat) = d) (h0 : 0 < d) (h1 : d ≤ 1000000000) (hP : 0 ≤ P) (h : P < d) : ∃ f : Int, unitsN nan P = f ∧ 0 ≤ f ∧ f ≤ 4294967295 ∧ P * 4294967296 ≤ f * d ∧ f * d < P * 4294967296 + d := by
  have hc := ceil_go P d hP h h1
  have hk := fracOk_of h0 h1 h
  exact ⟨fracC P d, unitsN_of nan P d _ hd hk (fracV_of P d _ hk rfl (by have := hc.2.1; omega)), hc⟩
theorem ord_go {p q f g d : Int} (hd0 : 0 < d) (hd : d ≤ 1000000000) (f2 : p * 4294967296 ≤ f * d) (f3 : f * d < p * 4294967296 + d) (g2 : q * 4294967296 ≤ g * d) (g3 : g * d < q * 4294967296 + d) : g < f ↔ q < p := by
  constructor
  · intro h
    have h1 := Int.mul_le_mul_of_nonneg_right (show g + 1 ≤ f by omega) (show 0 ≤ d by omega)
    rw [Int.add_mul, Int.one_mul] at h1
    omega
  · intro h
    apply Classical.byContradiction; intro hn
    have h1 := Int.mul_le_mul_of_nonneg_right (show f ≤ g by omega) (show 0 ≤ d by omega)
    omega
theorem whenOk_of {n : Int} {s f : Int} (hn : n = (s + 2208988800) * 4294967296 + f) (s0 : 0 ≤ s) (s1 : s ≤ 4294967295) (f0 : 0 ≤ f) (f1 : f ≤ 4294967295) : whenOk n = true ∧ (n - 9487534653230284800) / 4294967296 = s ∧ (n - 9487534653230284800) % 4294967296 = f ∧ InR n := by
  have h1 : (n - 9487534653230284800) / 4294967296 = s := by omega
  have h2 : (n - 9487534653230284800) % 4294967296 = f := by omega
  refine ⟨?_, h1, h2, by unfold InR; omega⟩
  unfold whenOk ebOk
  rw [h1, decide_eq_true s1, decide_eq_true (show 9487534653230284800 ≤ n by omega), decide_eq_true (show n < 79228162523751872246774235136 by omega)]; rfl
theorem partV_of {f d p : Int} (hk : partOk d = true) (h2 : p * 4294967296 ≤ f * d) (h3 : f * d < p * 4294967296 + d) (h1 : d ≤ 1000000000) : partV f d = p := by
  unfold partV
  rw [hk, cond_true]
  generalize f * d = F at *
  omega
theorem when_go (nan : Bool) (s : Nat) (f d : Int) (hs : s ≤ 4294967295) (f0 : 0 ≤ f) (f1 : f ≤ 4294967295) (hd : (den nan : Nat) = d) (p : Nat) (_ : 0 ≤ (p : Int)) (f2 : (p : Int) * 4294967296 ≤ f * d) (f3 : f * d < (p : Int) * 4294967296 + d) (d1 : d ≤ 1000000000) :
    whenOk (((s : Int) + 2208988800) * 4294967296 + f) = true ∧ whenS (((s : Int) + 2208988800) * 4294967296 + f) = s ∧ whenP nan (((s : Int) + 2208988800) * 4294967296 + f) = p ∧ InR (((s : Int) + 2208988800) * 4294967296 + f) := by
  obtain ⟨h1, h2, h3, h4⟩ := whenOk_of (n := ((s : Int) + 2208988800) * 4294967296 + f) rfl (by omega) (by omega) f0 f1
  generalize ((s : Int) + 2208988800) * 4294967296 + f = n at *
  refine ⟨h1, ?_, ?_, h4⟩
  · unfold whenS; rw [h1, cond_true, h2]
  · unfold whenP
    rw [h1, cond_true, h3]
    have hk := partOk_den nan
    rw [hd] at hk ⊢
    exact partV_of hk f2 f3 d1
theorem when_back {nan : Bool} {s p : Nat} (hs : s ≤ 4294967295) (h : p < den nan) : whenOk (atN nan s p) = true ∧ whenS (atN nan s p) = s ∧ whenP nan (atN nan s p) = p ∧ InR (atN nan s p) := by
  obtain ⟨d, hd, d0, d1⟩ := den_I nan
  obtain ⟨f, hf, f0, f1, f2, f3⟩ := units_of (P := p) hd d0 d1 (by omega) (by omega)
  have ha : atN nan s p = ((s : Int) + 2208988800) * 4294967296 + f := by unfold atN unixV; rw [hf]
  rw [ha]
  exact when_go nan s f d hs f0 f1 hd p (by omega) f2 f3 d1
theorem later_iff {nan : Bool} {s p t q : Nat} (_ : s ≤ 4294967295) (h : p < den nan) (_ : t ≤ 4294967295) (k : q < den nan) :
    decide (0 < cmpI (atN nan s p) (atN nan t q)) = (decide (t < s) || (decide (s = t) && decide (q < p))) := by
  obtain ⟨d, hd, d0, d1⟩ := den_I nan
  obtain ⟨f, hf, f0, f1, f2, f3⟩ := units_of (P := p) hd d0 d1 (by omega) (by omega)
  have ha : atN nan s p = ((s : Int) + 2208988800) * 4294967296 + f := by unfold atN unixV; rw [hf]
  obtain ⟨g, hg, g0, g1, g2, g3⟩ := units_of (P := q) hd d0 d1 (by omega) (by omega)
  have hb : atN nan t q = ((t : Int) + 2208988800) * 4294967296 + g := by unfold atN unixV; rw [hg]
  have hcmp : 0 < cmpI (atN nan s p) (atN nan t q) ↔ atN nan t q < atN nan s p := by
    unfold cmpI
    split
    · omega
    · split <;> omega
  have hord : g < f ↔ (q : Int) < p := ord_go d0 d1 f2 f3 g2 g3
  rw [Bool.eq_iff_iff]
  simp only [Bool.or_eq_true, Bool.and_eq_true, decide_eq_true_eq, hcmp]
  rw [ha, hb]
  clear f2 f3 g2 g3 hcmp ha hb hf hg
  omega
end Go.Proofs.YtecmhjhjmhliiaaDoor


/-
  PcapBack: the law's walk, as far as the headers go.
-/

namespace Go.Proofs.YtecmhjhjmhliiaaDoor

open Go.RowKit Go.Lib

set_option maxRecDepth 100000

theorem pcapBack_big {w : World} (v : Value) (b : List UInt8) (hb : BArg w v b) (hbig : 300 < b.length) (lit nan : Bool) (link snap : Nat) (s0 p0 c0 l0 s p c l : Nat) (cut : Int) (hT : MagT w) :
    Calls Tryd.prog 6 #[fileV lit nan link snap, headV s0 p0 c0 l0, headV s p c l, v, .int .u8 cut] w fun e w' => e = .returned (.bool true) ∧ Below w.heap.size w w' := by
  obtain ⟨A, cap, rfl, _, _⟩ := hb
  have hbI : (300 : Int) < (b.length : Int) := by omega
  generalize b.length = len at *
  have HK := Lib.hid (fun w' hb => known8_any w' (hT.below (w' := w') hb))
  have hHB := Lib.hid ((((Below.refl _ w).alloc (Nat.le_refl _) (.cells #[.bool lit, .bool nan, .int .u16 (link : Int), .int .u32 (snap : Int)] 26)).alloc (by simp) (.cells #[.int .u32 (s0 : Int), .int .u32 (p0 : Int), .int .u32 (c0 : Int), .int .u32 (l0 : Int)] 43)).alloc (by simp; omega) (.cells #[.int .u32 (s : Int), .int .u32 (p : Int), .int .u32 (c : Int), .int .u32 (l : Int)] 43))
  clear hT hbig
  go_enter Tryd.func6, Tryd.ntmps6
  go_wp2_with (go_at_call 7; refine (HK.out _ hHB.out).mono ?_; rintro e w1 ⟨rfl, hb1⟩; have HB1 := Lib.hid (keepW hHB.out hb1); clear hb1)
  go_ret
  exact ⟨rfl, HB1.out⟩
set_option maxHeartbeats 32000000 in
theorem pcapBack_go {w : World} (v : Value) (b : List UInt8) (hb : BArg w v b) (hsm : b.length ≤ 300) (lit nan : Bool) (link snap : Nat) (hk : link ≤ 65535) (hsn : snap ≤ 4294967295)
    (s0 p0 c0 l0 : Nat) (hs0 : s0 ≤ 4294967295) (hp0 : p0 ≤ 4294967295) (s p c l : Nat) (hs : s ≤ 4294967295) (hp : p ≤ 4294967295) (hc : c ≤ 4294967295) (hl : l ≤ 4294967295) (cut : Nat) (hcut : cut ≤ 255) (hT : MagT w) :
    Calls Tryd.prog 6 #[fileV lit nan link snap, headV s0 p0 c0 l0, headV s p c l, v, .int .u8 cut] w fun e w' => e = .returned (.bool true) ∧ Below w.heap.size w w' := by
  obtain ⟨A, cap, rfl, hcap, hr⟩ := hb
  have hbI : ¬ (300 : Int) < (b.length : Int) := by omega
  have HK := Lib.hid (fun w' hb => known8_any w' (hT.below (w' := w') hb))
  have HB := Lib.hid (fun w => bytes_any lit nan link snap hk hsn w)
  obtain ⟨X, hX⟩ : ∃ X, bytesH lit nan link snap = X := ⟨_, rfl⟩
  have hXl : X.length = 24 := by rw [← hX, bytesH_len]
  obtain ⟨Z, hZ⟩ : ∃ Z, [] ++ X ++ b = Z := ⟨_, rfl⟩
  have hZl : Z.length ≤ 1048576 := by rw [← hZ]; simp only [List.nil_append, List.length_append]; omega
  have hZo : openF Z = ⟨lit, nan, link, snap, 0⟩ := by rw [← hZ, ← hX, List.nil_append]; exact openF_bytesH lit nan link snap hk hsn b
  have HO1 := Lib.hid (fun (A : Option Addr) (c : Nat) (w' : World) (hc : Z.length ≤ c) (h : Rd w' A Z) (hb : Below w.heap.size w w') => by
    have h2 := open_any A Z c hc (by omega) w' h (hT.below hb)
    rw [hZo] at h2; exact h2)
  obtain ⟨E, hE, hE24⟩ : ∃ E : Nat, (cut : Int) % 24 = (E : Int) ∧ E < 24 := ⟨cut % 24, by omega, by omega⟩
  have HO2 := Lib.hid (fun (g : Nat) (w' : World) (h : RdB w' g X) (hb : Below w.heap.size w w') => by
    have h2 := open_any (some ⟨g, 0, none⟩) (X.take E) 24 (by rw [List.length_take]; omega) (by rw [List.length_take]; omega) w' (rd_take h.rd E) (hT.below hb)
    rw [← hX, openF_cut lit nan link snap E hE24, hX, List.length_take, hXl, Nat.min_eq_left (by omega)] at h2
    exact h2)
  have hslE : ∀ g w, (Instr.slice 22 (.slice (some ⟨g, 0, none⟩) 24 24) none (some (.int .i64 (E : Int))) none).run Tryd.prog w = .ok (.slice (some ⟨g, 0, none⟩) E 24) w := fun g w => slice_all g E 24 (by omega) (by decide) w
  rw [hX] at HB
  have HXL := Lib.hid hXl; have HZZ := Lib.hid hZ
  have HP := Lib.hid (fun w => put_head lit nan link snap s p c l hs hp hc hl w)
  obtain ⟨Y, hY⟩ : ∃ Y, bytesR lit s p c l = Y := ⟨_, rfl⟩
  have hYl : Y.length = 16 := by rw [← hY, bytesR_len]
  rw [hY] at HP
  obtain ⟨E2, hE2, hE3, hE16⟩ : ∃ E : Nat, (cut : Int).tmod 16 = (E : Int) ∧ (cut : Int) % 16 = (E : Int) ∧ E < 16 := ⟨cut % 16, by rw [Int.tmod_eq_emod_of_nonneg (by omega)]; omega, by omega, by omega⟩
  have HH := Lib.hid (fun (g : Nat) (w' : World) (h : RdB w' g Y) => by
    have h2 := head_any lit nan link snap (some ⟨g, 0, none⟩) (Y.take E2) 16 4294967296 (by rw [List.length_take]; omega) (by rw [List.length_take]; omega) w' (rd_take h.rd E2)
    rw [headF_cut lit nan Y E2 hE16, List.length_take, hYl, Nat.min_eq_left (by omega)] at h2
    exact h2)
  have HD := Lib.hid (fun w => den_any lit nan link snap w)
  have HAg := Lib.hid (fun w => at_any lit nan link snap s0 p0 c0 l0 hs0 hp0 w)
  have HAh := Lib.hid (fun w => at_any lit nan link snap s p c l hs hp w)
  have HWB := Lib.hid (show p < den nan → ∀ w, Calls Tryd.prog 18 #[fileV lit nan link snap, .agg #[.int .i64 (hi (atN nan s p)), .int .u64 (lo (atN nan s p))]] w fun e w' => e = .returned (.tuple #[.int .u32 (s : Int), .int .u32 (p : Int), .bool true]) ∧ Below w.heap.size w w' from fun h w => by
    obtain ⟨h1, h2, h3, h4⟩ := when_back hs h
    have h5 := when_any lit nan link snap (atN nan s p) h4 w
    unfold whenV at h5
    rw [h1, h2, h3] at h5
    exact h5)
  obtain ⟨bl, hbl⟩ : ∃ bl, (decide (s < s0) || (decide (s0 = s) && decide (p < p0))) = bl := ⟨_, rfl⟩
  have HLT := Lib.hid (show p0 < den nan → p < den nan → decide (0 < cmpI (atN nan s0 p0) (atN nan s p)) = bl from fun h0 h => by rw [← hbl]; exact later_iff hs0 h0 hs h)
  have HBL2 := Lib.hid hbl
  have HCM := Lib.hid (fun w => cmp_n (atN nan s0 p0) (atN nan s p) w)
  unfold wv at HAg HAh
  generalize cmpI (atN nan s0 p0) (atN nan s p) = CI at *
  generalize hi (atN nan s0 p0) = u1 at *
  generalize lo (atN nan s0 p0) = u2 at *
  generalize hi (atN nan s p) = v1 at *
  generalize lo (atN nan s p) = v2 at *
  obtain ⟨D, hD⟩ : ∃ D, den nan = D := ⟨_, rfl⟩
  rw [hD] at HD HWB HLT
  clear hbl hD
  unfold headV5 at HH
  dsimp only [noH] at HH
  have HSL2 := Lib.hid (show ∀ g w, (Instr.slice 22 (.slice (some ⟨g, 0, none⟩) 16 16) none (some (.int .i64 (E2 : Int))) none).run Tryd.prog w = .ok (.slice (some ⟨g, 0, none⟩) E2 16) w from fun g w => slice_all g E2 16 (by omega) (by decide) w)
  have HE2 := Lib.hid hE2; have HE3 := Lib.hid hE3; have HHP := Lib.hid hp; have HHS := Lib.hid hs; have HHP0 := Lib.hid hp0; have HHS0 := Lib.hid hs0
  have HRD := Lib.hid (fun w' hb => hr.below (w' := w') hb)
  have HBL := Lib.hid hsm
  have hw8 : IntKind.i64.wrap (cut : Int) = (cut : Int) := by rw [IntKind.wrap_i64]; omega
  unfold openV at HO1 HO2
  dsimp only [noF] at HO1 HO2
  obtain ⟨len, hll⟩ : ∃ len, b.length = len := ⟨_, rfl⟩
  have HLN := Lib.hid hll
  rw [hll] at hbI ⊢
  clear hsm hX hXl hZ hZl hZo hE24 hr hll hY hYl hE2 hE3 hE16 hs hp hc hl hs0 hp0 hk hsn
  have hHB := Lib.hid ((((Below.refl _ w).alloc (Nat.le_refl _) (.cells #[.bool lit, .bool nan, .int .u16 (link : Int), .int .u32 (snap : Int)] 26)).alloc (by simp) (.cells #[.int .u32 (s0 : Int), .int .u32 (p0 : Int), .int .u32 (c0 : Int), .int .u32 (l0 : Int)] 43)).alloc (by simp; omega) (.cells #[.int .u32 (s : Int), .int .u32 (p : Int), .int .u32 (c : Int), .int .u32 (l : Int)] 43))
  have b1 : Blk (((w.alloc (.cells #[.bool lit, .bool nan, .int .u16 (link : Int), .int .u32 (snap : Int)] 26)).alloc (.cells #[.int .u32 (s0 : Int), .int .u32 (p0 : Int), .int .u32 (c0 : Int), .int .u32 (l0 : Int)] 43)).alloc (.cells #[.int .u32 (s : Int), .int .u32 (p : Int), .int .u32 (c : Int), .int .u32 (l : Int)] 43)) w.heap.size #[.bool lit, .bool nan, .int .u16 (link : Int), .int .u32 (snap : Int)] 26 := ((Blk.new rfl).old _).old _
  have b2 : Blk (((w.alloc (.cells #[.bool lit, .bool nan, .int .u16 (link : Int), .int .u32 (snap : Int)] 26)).alloc (.cells #[.int .u32 (s0 : Int), .int .u32 (p0 : Int), .int .u32 (c0 : Int), .int .u32 (l0 : Int)] 43)).alloc (.cells #[.int .u32 (s : Int), .int .u32 (p : Int), .int .u32 (c : Int), .int .u32 (l : Int)] 43)) (w.heap.size + 1) #[.int .u32 (s0 : Int), .int .u32 (p0 : Int), .int .u32 (c0 : Int), .int .u32 (l0 : Int)] 43 := (Blk.new (by simp)).old _
  have b3 : Blk (((w.alloc (.cells #[.bool lit, .bool nan, .int .u16 (link : Int), .int .u32 (snap : Int)] 26)).alloc (.cells #[.int .u32 (s0 : Int), .int .u32 (p0 : Int), .int .u32 (c0 : Int), .int .u32 (l0 : Int)] 43)).alloc (.cells #[.int .u32 (s : Int), .int .u32 (p : Int), .int .u32 (c : Int), .int .u32 (l : Int)] 43)) (w.heap.size + 1 + 1) #[.int .u32 (s : Int), .int .u32 (p : Int), .int .u32 (c : Int), .int .u32 (l : Int)] 43 := Blk.new (by simp)
  go_enter Tryd.func6, Tryd.ntmps6
  go_upto_region 1 with fail
  generalize World.alloc (World.alloc (World.alloc _ _) _) _ = W0 at hHB b1 b2 b3 ⊢
  have HFIRST := Lib.hid hw8
  go_upto_region 13 with (first
    | (go_at_call 7; refine (HK.out _ hHB.out).mono ?_; rintro e w1 ⟨rfl, hb1⟩; have HB1 := Lib.hid (keepW hHB.out hb1); have k1 := Blk.keep hb1 b1; have k2 := Blk.keep hb1 b2; have k3 := Blk.keep hb1 b3; clear hb1 b1 b2 b3; have hc1 := k1.four)
    | (go_at_call 10; refine (HB.out _).mono ?_; rintro e w2 ⟨g1, rfl, rX, _, hb2⟩; have HB2 := Lib.hid (keepW HB1.out hb2); have l1 := Blk.keep hb2 k1; have l2 := Blk.keep hb2 k2; have l3 := Blk.keep hb2 k3; clear hb2 k1 k2 k3 hc1)
    | (at_builtin; refine at_app2 rfl _ _ rfl w2.heap.size _ [] rfl (Owns.of_blk (l := []) (n := 0) (Blk.new rfl) (Nat.le_refl _) rfl (by decide)) (some ⟨g1, 0, none⟩) 24 24 X rfl (rX.old _).rd HXL.out (by decide) w2 ((Below.refl _ _).alloc (Nat.le_refl _) _) (Nat.le_refl _) ?_; intro v3 w3 ow3 hb3; have HC3 := Lib.hid hb3; clear hb3)
    | (at_builtin; refine at_app2 rfl _ _ rfl w2.heap.size _ _ rfl ow3 A len cap b rfl (HRD.out _ (HB2.out.trans (HC3.out.mono HB2.out.size))) HLN.out (by have := HBL.out; have := HLN.out; have := HXL.out; simp only [List.nil_append]; omega) w2 HC3.out (Nat.le_refl _) ?_; intro v4 w4 ow4 hb4; have ow5 : Owns w4 w2.heap.size v4 Z := (by rw [← HZZ.out]; exact ow4); obtain ⟨A5, c5, rfl, hc5, hr5⟩ := ow5.rd; have HC4 := Lib.hid hb4; clear hb4 ow3 ow4 ow5 HC3)
    | (go_at_call 8; clear HFIRST; refine (HO1.out A5 c5 _ hc5 hr5 (HB2.out.trans (HC4.out.mono HB2.out.size))).mono ?_; rintro e w5 ⟨rfl, hb5⟩; have HC5 := Lib.hid (keepW HC4.out hb5); have hc1 := ((Blk.keep HC5.out l1).old (.cells #[.bool lit, .bool nan, .int .u16 (link : Int), .int .u32 (snap : Int)] 26)).four; clear hb5 hc5 hr5 HC4)
    | (go_at_call 8; refine (HO2.out g1 _ ((rX.keep HC5.out).old _) (keepR (HB2.out.trans (HC5.out.mono HB2.out.size)))).mono ?_; rintro e w6 ⟨rfl, hb6⟩; have HC6 := Lib.hid (keepW (keepR HC5.out) hb6); clear hc1; have hc1 := ((Blk.keep HC6.out l1).old (.cells #[.bool false, .bool false, .int .u16 0, .int .u32 0] 26)).four; have hc3 := ((Blk.keep HC6.out l3).old (.cells #[.bool false, .bool false, .int .u16 0, .int .u32 0] 26)).four; clear hb6)
    | (go_at_call 17; refine (HP.out _).mono ?_; rintro e w7 ⟨g7, rfl, r16, _, hb7⟩; have HC7 := Lib.hid (keepW (keepR HC6.out) hb7); clear hb7 hc1 hc3))
  have q1 := Blk.keep HC7.out l1; have q2 := Blk.keep HC7.out l2; have q3 := Blk.keep HC7.out l3
  have HB7 := Lib.hid (HB2.out.trans (HC7.out.mono HB2.out.size))
  clear l1 l2 l3 rX hE hslE
  go_cut [18] (fun s18 wx => s18 = .int .i64 121 ∧ (fun w' => Blk w' w.heap.size #[.bool lit, .bool nan, .int .u16 (link : Int), .int .u32 (snap : Int)] 26 ∧ Blk w' (w.heap.size + 1) #[.int .u32 (s0 : Int), .int .u32 (p0 : Int), .int .u32 (c0 : Int), .int .u32 (l0 : Int)] 43 ∧ Blk w' (w.heap.size + 1 + 1) #[.int .u32 (s : Int), .int .u32 (p : Int), .int .u32 (c : Int), .int .u32 (l : Int)] 43 ∧ Below w.heap.size w w') wx)
  case first =>
    have hsl2 := HSL2.out
    have htm := HE2.out
    refine wp_region_held_drew (S := (fun w' => Blk w' w.heap.size #[.bool lit, .bool nan, .int .u16 (link : Int), .int .u32 (snap : Int)] 26 ∧ Blk w' (w.heap.size + 1) #[.int .u32 (s0 : Int), .int .u32 (p0 : Int), .int .u32 (c0 : Int), .int .u32 (l0 : Int)] 43 ∧ Blk w' (w.heap.size + 1 + 1) #[.int .u32 (s : Int), .int .u32 (p : Int), .int .u32 (c : Int), .int .u32 (l : Int)] 43 ∧ Below w.heap.size w w')) (by kernel_rfl) ?_ (fun hHeld => ?_)
    · exact ⟨q1.drew, q2.drew, q3.drew, drewB HB7.out⟩
    replace r16 := r16.drew
    generalize World.drew _ = wz at hHeld r16 ⊢
    refine H.take 0 (v := ?_) rfl (by kernel_rfl) (fun _ _ _ h => h) (by rfl) ?_ (by assumption) ?_
    rotate_left
    · (intro wz hSw; (try dsimp only at hSw); have x1 := hSw.1.four;go_simp <;> with_reducible rfl)
    try simp only [Act.put, List.setIfInBounds_toArray, List.set_cons_zero, List.set_cons_succ]
    refine H.take 1 (v := ?_) rfl (by kernel_rfl) (fun _ _ _ h => h) (by rfl) ?_ (by assumption) ?_
    rotate_left
    · (intro wz hSw; (try dsimp only at hSw); have x1 := hSw.1.four;go_simp <;> with_reducible rfl)
    try simp only [Act.put, List.setIfInBounds_toArray, List.set_cons_zero, List.set_cons_succ]
    refine H.take 2 (v := ?_) rfl (by kernel_rfl) (fun _ _ _ h => h) (by rfl) ?_ (by assumption) ?_
    rotate_left
    · (intro wz hSw; (try dsimp only at hSw); have x1 := hSw.1.four;go_simp <;> with_reducible rfl)
    try simp only [Act.put, List.setIfInBounds_toArray, List.set_cons_zero, List.set_cons_succ]
    refine H.take 3 (v := ?_) rfl (by kernel_rfl) (fun _ _ _ h => h) (by rfl) ?_ (by assumption) ?_
    rotate_left
    · (intro wz hSw; (try dsimp only at hSw); have x1 := hSw.1.four;go_simp <;> with_reducible rfl)
    try simp only [Act.put, List.setIfInBounds_toArray, List.set_cons_zero, List.set_cons_succ]
    refine H.take 4 (v := ?_) rfl (by kernel_rfl) (fun _ _ _ h => h) (by rfl) ?_ (by assumption) ?_
    rotate_left
    · (intro wz hSw; (try dsimp only at hSw); have x1 := hSw.1.four;go_simp <;> with_reducible rfl)
    try simp only [Act.put, List.setIfInBounds_toArray, List.set_cons_zero, List.set_cons_succ]
    refine H.take 5 (v := ?_) rfl (by kernel_rfl) (fun _ _ _ h => h) (by rfl) ?_ (by assumption) ?_
    rotate_left
    · (intro wz hSw; (try dsimp only at hSw); have x1 := hSw.1.four;go_simp <;> with_reducible rfl)
    try simp only [Act.put, List.setIfInBounds_toArray, List.set_cons_zero, List.set_cons_succ]
    refine H.take 6 (v := ?_) rfl (by kernel_rfl) (fun _ _ _ h => h) (by rfl) ?_ (by assumption) ?_
    rotate_left
    · (intro wz hSw; (try dsimp only at hSw); have x1 := hSw.1.four;go_simp <;> with_reducible rfl)
    try simp only [Act.put, List.setIfInBounds_toArray, List.set_cons_zero, List.set_cons_succ]
    refine H.take 7 (v := ?_) rfl (by kernel_rfl) (fun _ _ _ h => h) (by rfl) ?_ (by assumption) ?_
    rotate_left
    · (intro wz hSw; (try dsimp only at hSw); have x1 := hSw.1.four;go_simp <;> with_reducible rfl)
    try simp only [Act.put, List.setIfInBounds_toArray, List.set_cons_zero, List.set_cons_succ]
    refine H.ready [8, 12] (by kernel_rfl) (by simp) ?_
    refine H.one rfl (by rfl) (fun K hK => ?_) ?_
    · skip
      go_simp
      go_at_call 15
      refine (HH.out _ _ r16).mono ?_
      rintro e wk ⟨rfl, hb⟩
      refine hK.out _ _ ?_ (fun hHeld2 => ?_)
      · exact ⟨hHeld.1.keep hb, hHeld.2.1.keep hb, hHeld.2.2.1.keep hb, hHeld.2.2.2.trans (hb.mono hHeld.2.2.2.size)⟩
      clear hHeld hK K; have hHeld := hHeld2; clear hHeld2
      replace r16 := r16.keep hb
      clear hb
      try simp only [Act.put, List.setIfInBounds_toArray, List.set_cons_zero, List.set_cons_succ]
      refine H.take 9 (v := ?_) rfl (by kernel_rfl) (fun _ _ _ h => h) (by rfl) ?_ (by assumption) ?_
      rotate_left
      · (intro wz hSw; (try dsimp only at hSw); have x1 := hSw.1.four;go_simp <;> with_reducible rfl)
      try simp only [Act.put, List.setIfInBounds_toArray, List.set_cons_zero, List.set_cons_succ]
      refine H.take 10 (v := ?_) rfl (by kernel_rfl) (fun _ _ _ h => h) (by rfl) ?_ (by assumption) ?_
      rotate_left
      · (intro wz hSw; (try dsimp only at hSw); have x1 := hSw.1.four;go_simp <;> with_reducible rfl)
      try simp only [Act.put, List.setIfInBounds_toArray, List.set_cons_zero, List.set_cons_succ]
      refine H.take 11 (v := ?_) rfl (by kernel_rfl) (fun _ _ _ h => h) (by rfl) ?_ (by assumption) ?_
      rotate_left
      · (intro wz hSw; (try dsimp only at hSw); have x1 := hSw.1.four;go_simp <;> with_reducible rfl)
      try simp only [Act.put, List.setIfInBounds_toArray, List.set_cons_zero, List.set_cons_succ]
      refine H.ready [12] (by kernel_rfl) (by simp) ?_
      refine H.one rfl (by rfl) (fun K hK => ?_) AllReadyH.nil
      have e17_0 := hHeld.1.lt
      have e17_1 := hHeld.2.1.lt
      have e17_2 := hHeld.2.2.1.lt
      have z17 := hHeld.2.2.2.size
      have dr16_n17 := r16.lt
      go_simp
      refine hK.out _ _ ?_ (fun hHeld2 => ?_)
      · exact ⟨hHeld.1.old _, hHeld.2.1.old _, hHeld.2.2.1.old _, hHeld.2.2.2.alloc hHeld.2.2.2.size _⟩
      clear hHeld hK K; have hHeld := hHeld2; clear hHeld2
      replace r16 := r16.old (.cells #[.int .u32 0, .int .u32 0, .int .u32 0, .int .u32 0] 43)
      try simp only [Act.put, List.setIfInBounds_toArray, List.set_cons_zero, List.set_cons_succ]
      refine H.fresh (fun n17 => ?_)
      generalize World.alloc _ _ = wz at hHeld r16 n17 ⊢
      refine H.ready [13] (by kernel_rfl) (by simp) ?_
      refine H.one rfl (by rfl) (fun K hK => ?_) AllReadyH.nil
      have c17 := n17.four; have f17 := n17.fre4
      go_simp
      refine hK.out _ _ ?_ (fun hHeld2 => ?_)
      · exact ⟨hHeld.1.else4 (Nat.ne_of_lt e17_0), hHeld.2.1.else4 (Nat.ne_of_lt e17_1), hHeld.2.2.1.else4 (Nat.ne_of_lt e17_2), Below.put4 hHeld.2.2.2 z17⟩
      clear hHeld hK K c17 f17; have hHeld := hHeld2; clear hHeld2
      try simp only [Act.put, List.setIfInBounds_toArray, List.set_cons_zero, List.set_cons_succ]
      refine H.otherR4 r16 (Nat.ne_of_lt dr16_n17) (fun r16x => ?_); clear r16; have r16 := r16x; clear r16x
      refine H.stored4 n17 (fun n17x => ?_); clear n17; have n17 := n17x; clear n17x
      refine H.take 14 (v := ?_) rfl (by kernel_rfl) (fun _ _ _ h => h) (by rfl) ?_ (by assumption) ?_
      rotate_left
      · (intro wz hSw; (try dsimp only at hSw); have x1 := hSw.1.four;go_simp <;> with_reducible rfl)
      try simp only [Act.put, List.setIfInBounds_toArray, List.set_cons_zero, List.set_cons_succ]
      refine H.done (by kernel_rfl) ?_ _
      (go_wp2_with fail; go_meet; exact ⟨rfl, hHeld⟩)
    refine H.one rfl (by rfl) (fun K hK => ?_) ?_
    · skip
      have e17_0 := hHeld.1.lt
      have e17_1 := hHeld.2.1.lt
      have e17_2 := hHeld.2.2.1.lt
      have z17 := hHeld.2.2.2.size
      have dr16_n17 := r16.lt
      go_simp
      refine hK.out _ _ ?_ (fun hHeld2 => ?_)
      · exact ⟨hHeld.1.old _, hHeld.2.1.old _, hHeld.2.2.1.old _, hHeld.2.2.2.alloc hHeld.2.2.2.size _⟩
      clear hHeld hK K; have hHeld := hHeld2; clear hHeld2
      replace r16 := r16.old (.cells #[.int .u32 0, .int .u32 0, .int .u32 0, .int .u32 0] 43)
      try simp only [Act.put, List.setIfInBounds_toArray, List.set_cons_zero, List.set_cons_succ]
      refine H.fresh (fun n17 => ?_)
      generalize World.alloc _ _ = wz at hHeld r16 n17 ⊢
      refine H.ready [8] (by kernel_rfl) (by simp) ?_
      refine H.one rfl (by rfl) (fun K hK => ?_) AllReadyH.nil
      go_simp
      go_at_call 15
      refine (HH.out _ _ r16).mono ?_
      rintro e wk ⟨rfl, hb⟩
      refine hK.out _ _ ?_ (fun hHeld2 => ?_)
      · exact ⟨hHeld.1.keep hb, hHeld.2.1.keep hb, hHeld.2.2.1.keep hb, hHeld.2.2.2.trans (hb.mono hHeld.2.2.2.size)⟩
      clear hHeld hK K; have hHeld := hHeld2; clear hHeld2
      replace r16 := r16.keep hb
      replace n17 := n17.keep hb
      clear hb
      try simp only [Act.put, List.setIfInBounds_toArray, List.set_cons_zero, List.set_cons_succ]
      refine H.take 9 (v := ?_) rfl (by kernel_rfl) (fun _ _ _ h => h) (by rfl) ?_ (by assumption) ?_
      rotate_left
      · (intro wz hSw; (try dsimp only at hSw); have x1 := hSw.1.four;go_simp <;> with_reducible rfl)
      try simp only [Act.put, List.setIfInBounds_toArray, List.set_cons_zero, List.set_cons_succ]
      refine H.take 10 (v := ?_) rfl (by kernel_rfl) (fun _ _ _ h => h) (by rfl) ?_ (by assumption) ?_
      rotate_left
      · (intro wz hSw; (try dsimp only at hSw); have x1 := hSw.1.four;go_simp <;> with_reducible rfl)
      try simp only [Act.put, List.setIfInBounds_toArray, List.set_cons_zero, List.set_cons_succ]
      refine H.take 11 (v := ?_) rfl (by kernel_rfl) (fun _ _ _ h => h) (by rfl) ?_ (by assumption) ?_
      rotate_left
      · (intro wz hSw; (try dsimp only at hSw); have x1 := hSw.1.four;go_simp <;> with_reducible rfl)
      try simp only [Act.put, List.setIfInBounds_toArray, List.set_cons_zero, List.set_cons_succ]
      refine H.ready [13] (by kernel_rfl) (by simp) ?_
      refine H.one rfl (by rfl) (fun K hK => ?_) AllReadyH.nil
      have c17 := n17.four; have f17 := n17.fre4
      go_simp
      refine hK.out _ _ ?_ (fun hHeld2 => ?_)
      · exact ⟨hHeld.1.else4 (Nat.ne_of_lt e17_0), hHeld.2.1.else4 (Nat.ne_of_lt e17_1), hHeld.2.2.1.else4 (Nat.ne_of_lt e17_2), Below.put4 hHeld.2.2.2 z17⟩
      clear hHeld hK K c17 f17; have hHeld := hHeld2; clear hHeld2
      try simp only [Act.put, List.setIfInBounds_toArray, List.set_cons_zero, List.set_cons_succ]
      refine H.otherR4 r16 (Nat.ne_of_lt dr16_n17) (fun r16x => ?_); clear r16; have r16 := r16x; clear r16x
      refine H.stored4 n17 (fun n17x => ?_); clear n17; have n17 := n17x; clear n17x
      refine H.take 14 (v := ?_) rfl (by kernel_rfl) (fun _ _ _ h => h) (by rfl) ?_ (by assumption) ?_
      rotate_left
      · (intro wz hSw; (try dsimp only at hSw); have x1 := hSw.1.four;go_simp <;> with_reducible rfl)
      try simp only [Act.put, List.setIfInBounds_toArray, List.set_cons_zero, List.set_cons_succ]
      refine H.done (by kernel_rfl) ?_ _
      (go_wp2_with fail; go_meet; exact ⟨rfl, hHeld⟩)
    exact AllReadyH.nil
  case rest =>
    obtain ⟨rfl, hfile, hg, hh, hbe⟩ := hcut
    clear hw8 q1 q2 q3
    have hwp0 := wrap_nat HHP0.out
    have hwp := wrap_nat HHP.out
    clear HK HB HO1 HO2 HP HH
    go_wp2_with fail
    by_cases hd0 : D ≤ p0
    · have hq : decide (D ≤ p0) = true := decide_eq_true hd0
      refine wp_region_held_drew (S := (fun w' => Blk w' w.heap.size #[.bool lit, .bool nan, .int .u16 (link : Int), .int .u32 (snap : Int)] 26 ∧ Blk w' (w.heap.size + 1) #[.int .u32 (s0 : Int), .int .u32 (p0 : Int), .int .u32 (c0 : Int), .int .u32 (l0 : Int)] 43 ∧ Blk w' (w.heap.size + 1 + 1) #[.int .u32 (s : Int), .int .u32 (p : Int), .int .u32 (c : Int), .int .u32 (l : Int)] 43 ∧ Below w.heap.size w w')) (by kernel_rfl) ?_ (fun hHeld => ?_)
      · exact ⟨hfile.drew, hg.drew, hh.drew, drewB hbe⟩
      generalize World.drew _ = wz at hHeld  ⊢
      refine H.take 0 (v := ?_) rfl (by kernel_rfl) (fun _ _ _ h => h) (by rfl) ?_ (by assumption) ?_
      rotate_left
      · (intro wz hSw; (try dsimp only at hSw); have x1 := hSw.1.four; have x2 := hSw.2.1.four; have x3 := hSw.2.2.1.four;go_simp <;> with_reducible rfl)
      try simp only [Act.put, List.setIfInBounds_toArray, List.set_cons_zero, List.set_cons_succ]
      refine H.take 1 (v := ?_) rfl (by kernel_rfl) (fun _ _ _ h => h) (by rfl) ?_ (by assumption) ?_
      rotate_left
      · (intro wz hSw; (try dsimp only at hSw); have x1 := hSw.1.four; have x2 := hSw.2.1.four; have x3 := hSw.2.2.1.four;go_simp <;> with_reducible rfl)
      try simp only [Act.put, List.setIfInBounds_toArray, List.set_cons_zero, List.set_cons_succ]
      refine H.take 2 (v := ?_) rfl (by kernel_rfl) (fun _ _ _ h => h) (by rfl) ?_ (by assumption) ?_
      rotate_left
      · (intro wz hSw; (try dsimp only at hSw); have x1 := hSw.1.four; have x2 := hSw.2.1.four; have x3 := hSw.2.2.1.four;go_simp <;> with_reducible rfl)
      try simp only [Act.put, List.setIfInBounds_toArray, List.set_cons_zero, List.set_cons_succ]
      refine H.take 3 (v := ?_) rfl (by kernel_rfl) (fun _ _ _ h => h) (by rfl) ?_ (by assumption) ?_
      rotate_left
      · (intro wz hSw; (try dsimp only at hSw); have x1 := hSw.1.four; have x2 := hSw.2.1.four; have x3 := hSw.2.2.1.four;go_simp <;> with_reducible rfl)
      try simp only [Act.put, List.setIfInBounds_toArray, List.set_cons_zero, List.set_cons_succ]
      refine H.ready [4] (by kernel_rfl) (by simp) ?_
      refine H.one rfl (by rfl) (fun K hK => ?_) AllReadyH.nil
      go_simp
      go_at_call 12
      refine (HD.out _).mono ?_
      rintro e wk ⟨rfl, hb⟩
      refine hK.out _ _ ?_ (fun hHeld2 => ?_)
      · exact ⟨hHeld.1.keep hb, hHeld.2.1.keep hb, hHeld.2.2.1.keep hb, hHeld.2.2.2.trans (hb.mono hHeld.2.2.2.size)⟩
      clear hHeld hK K; have hHeld := hHeld2; clear hHeld2
      clear hb
      try simp only [Act.put, List.setIfInBounds_toArray, List.set_cons_zero, List.set_cons_succ]
      refine H.take 5 (v := ?_) rfl (by kernel_rfl) (fun _ _ _ h => h) (by rfl) ?_ (by assumption) ?_
      rotate_left
      · (intro wz hSw; (try dsimp only at hSw); have x1 := hSw.1.four; have x2 := hSw.2.1.four; have x3 := hSw.2.2.1.four;go_simp <;> with_reducible rfl)
      try simp only [Act.put, List.setIfInBounds_toArray, List.set_cons_zero, List.set_cons_succ]
      refine H.take 6 (v := ?_) rfl (by kernel_rfl) (fun _ _ _ h => h) (by rfl) ?_ (by assumption) ?_
      rotate_left
      · (intro wz hSw; (try dsimp only at hSw); have x1 := hSw.1.four; have x2 := hSw.2.1.four; have x3 := hSw.2.2.1.four;go_simp <;> with_reducible rfl)
      try simp only [Act.put, List.setIfInBounds_toArray, List.set_cons_zero, List.set_cons_succ]
      refine H.skip 7 rfl (by kernel_rfl) (fun _ _ _ h => h) (by rfl) (by assumption) ?_
      try simp only [Act.put, List.setIfInBounds_toArray, List.set_cons_zero, List.set_cons_succ]
      refine H.skip 8 rfl (by kernel_rfl) (fun _ _ _ h => h) (by rfl) (by assumption) ?_
      try simp only [Act.put, List.setIfInBounds_toArray, List.set_cons_zero, List.set_cons_succ]
      refine H.skip 9 rfl (by kernel_rfl) (fun _ _ _ h => h) (by rfl) (by assumption) ?_
      try simp only [Act.put, List.setIfInBounds_toArray, List.set_cons_zero, List.set_cons_succ]
      refine H.skip 10 rfl (by kernel_rfl) (fun _ _ _ h => h) (by rfl) (by assumption) ?_
      try simp only [Act.put, List.setIfInBounds_toArray, List.set_cons_zero, List.set_cons_succ]
      refine H.skip 11 rfl (by kernel_rfl) (fun _ _ _ h => h) (by rfl) (by assumption) ?_
      try simp only [Act.put, List.setIfInBounds_toArray, List.set_cons_zero, List.set_cons_succ]
      refine H.skip 12 rfl (by kernel_rfl) (fun _ _ _ h => h) (by rfl) (by assumption) ?_
      try simp only [Act.put, List.setIfInBounds_toArray, List.set_cons_zero, List.set_cons_succ]
      refine H.take 13 (v := ?_) rfl (by kernel_rfl) (fun _ _ _ h => h) (by rfl) ?_ (by assumption) ?_
      rotate_left
      · (intro wz hSw; (try dsimp only at hSw); have x1 := hSw.1.four; have x2 := hSw.2.1.four; have x3 := hSw.2.2.1.four;go_simp <;> with_reducible rfl)
      try simp only [Act.put, List.setIfInBounds_toArray, List.set_cons_zero, List.set_cons_succ]
      refine H.done (by kernel_rfl) ?_ _
      go_wp2_with fail
      go_ret
      exact ⟨rfl, hHeld.2.2.2⟩
    · have hq : decide (D ≤ p0) = false := decide_eq_false hd0
      by_cases hd1 : D ≤ p
      · have hq2 : decide (D ≤ p) = true := decide_eq_true hd1
        refine wp_region_held_drew (S := (fun w' => Blk w' w.heap.size #[.bool lit, .bool nan, .int .u16 (link : Int), .int .u32 (snap : Int)] 26 ∧ Blk w' (w.heap.size + 1) #[.int .u32 (s0 : Int), .int .u32 (p0 : Int), .int .u32 (c0 : Int), .int .u32 (l0 : Int)] 43 ∧ Blk w' (w.heap.size + 1 + 1) #[.int .u32 (s : Int), .int .u32 (p : Int), .int .u32 (c : Int), .int .u32 (l : Int)] 43 ∧ Below w.heap.size w w')) (by kernel_rfl) ?_ (fun hHeld => ?_)
        · exact ⟨hfile.drew, hg.drew, hh.drew, drewB hbe⟩
        generalize World.drew _ = wz at hHeld  ⊢
        refine H.take 0 (v := ?_) rfl (by kernel_rfl) (fun _ _ _ h => h) (by rfl) ?_ (by assumption) ?_
        rotate_left
        · (intro wz hSw; (try dsimp only at hSw); have x1 := hSw.1.four; have x2 := hSw.2.1.four; have x3 := hSw.2.2.1.four;go_simp <;> with_reducible rfl)
        try simp only [Act.put, List.setIfInBounds_toArray, List.set_cons_zero, List.set_cons_succ]
        refine H.take 1 (v := ?_) rfl (by kernel_rfl) (fun _ _ _ h => h) (by rfl) ?_ (by assumption) ?_
        rotate_left
        · (intro wz hSw; (try dsimp only at hSw); have x1 := hSw.1.four; have x2 := hSw.2.1.four; have x3 := hSw.2.2.1.four;go_simp <;> with_reducible rfl)
        try simp only [Act.put, List.setIfInBounds_toArray, List.set_cons_zero, List.set_cons_succ]
        refine H.take 2 (v := ?_) rfl (by kernel_rfl) (fun _ _ _ h => h) (by rfl) ?_ (by assumption) ?_
        rotate_left
        · (intro wz hSw; (try dsimp only at hSw); have x1 := hSw.1.four; have x2 := hSw.2.1.four; have x3 := hSw.2.2.1.four;go_simp <;> with_reducible rfl)
        try simp only [Act.put, List.setIfInBounds_toArray, List.set_cons_zero, List.set_cons_succ]
        refine H.take 3 (v := ?_) rfl (by kernel_rfl) (fun _ _ _ h => h) (by rfl) ?_ (by assumption) ?_
        rotate_left
        · (intro wz hSw; (try dsimp only at hSw); have x1 := hSw.1.four; have x2 := hSw.2.1.four; have x3 := hSw.2.2.1.four;go_simp <;> with_reducible rfl)
        try simp only [Act.put, List.setIfInBounds_toArray, List.set_cons_zero, List.set_cons_succ]
        refine H.ready [4] (by kernel_rfl) (by simp) ?_
        refine H.one rfl (by rfl) (fun K hK => ?_) AllReadyH.nil
        go_simp
        go_at_call 12
        refine (HD.out _).mono ?_
        rintro e wk ⟨rfl, hb⟩
        refine hK.out _ _ ?_ (fun hHeld2 => ?_)
        · exact ⟨hHeld.1.keep hb, hHeld.2.1.keep hb, hHeld.2.2.1.keep hb, hHeld.2.2.2.trans (hb.mono hHeld.2.2.2.size)⟩
        clear hHeld hK K; have hHeld := hHeld2; clear hHeld2
        clear hb
        try simp only [Act.put, List.setIfInBounds_toArray, List.set_cons_zero, List.set_cons_succ]
        refine H.take 5 (v := ?_) rfl (by kernel_rfl) (fun _ _ _ h => h) (by rfl) ?_ (by assumption) ?_
        rotate_left
        · (intro wz hSw; (try dsimp only at hSw); have x1 := hSw.1.four; have x2 := hSw.2.1.four; have x3 := hSw.2.2.1.four;go_simp <;> with_reducible rfl)
        try simp only [Act.put, List.setIfInBounds_toArray, List.set_cons_zero, List.set_cons_succ]
        refine H.take 6 (v := ?_) rfl (by kernel_rfl) (fun _ _ _ h => h) (by rfl) ?_ (by assumption) ?_
        rotate_left
        · (intro wz hSw; (try dsimp only at hSw); have x1 := hSw.1.four; have x2 := hSw.2.1.four; have x3 := hSw.2.2.1.four;go_simp <;> with_reducible rfl)
        try simp only [Act.put, List.setIfInBounds_toArray, List.set_cons_zero, List.set_cons_succ]
        refine H.take 7 (v := ?_) rfl (by kernel_rfl) (fun _ _ _ h => h) (by rfl) ?_ (by assumption) ?_
        rotate_left
        · (intro wz hSw; (try dsimp only at hSw); have x1 := hSw.1.four; have x2 := hSw.2.1.four; have x3 := hSw.2.2.1.four;go_simp <;> with_reducible rfl)
        try simp only [Act.put, List.setIfInBounds_toArray, List.set_cons_zero, List.set_cons_succ]
        refine H.take 8 (v := ?_) rfl (by kernel_rfl) (fun _ _ _ h => h) (by rfl) ?_ (by assumption) ?_
        rotate_left
        · (intro wz hSw; (try dsimp only at hSw); have x1 := hSw.1.four; have x2 := hSw.2.1.four; have x3 := hSw.2.2.1.four;go_simp <;> with_reducible rfl)
        try simp only [Act.put, List.setIfInBounds_toArray, List.set_cons_zero, List.set_cons_succ]
        refine H.take 9 (v := ?_) rfl (by kernel_rfl) (fun _ _ _ h => h) (by rfl) ?_ (by assumption) ?_
        rotate_left
        · (intro wz hSw; (try dsimp only at hSw); have x1 := hSw.1.four; have x2 := hSw.2.1.four; have x3 := hSw.2.2.1.four;go_simp <;> with_reducible rfl)
        try simp only [Act.put, List.setIfInBounds_toArray, List.set_cons_zero, List.set_cons_succ]
        refine H.take 10 (v := ?_) rfl (by kernel_rfl) (fun _ _ _ h => h) (by rfl) ?_ (by assumption) ?_
        rotate_left
        · (intro wz hSw; (try dsimp only at hSw); have x1 := hSw.1.four; have x2 := hSw.2.1.four; have x3 := hSw.2.2.1.four;go_simp <;> with_reducible rfl)
        try simp only [Act.put, List.setIfInBounds_toArray, List.set_cons_zero, List.set_cons_succ]
        refine H.ready [11] (by kernel_rfl) (by simp) ?_
        refine H.one rfl (by rfl) (fun K hK => ?_) AllReadyH.nil
        go_simp
        go_at_call 12
        refine (HD.out _).mono ?_
        rintro e wk ⟨rfl, hb⟩
        refine hK.out _ _ ?_ (fun hHeld2 => ?_)
        · exact ⟨hHeld.1.keep hb, hHeld.2.1.keep hb, hHeld.2.2.1.keep hb, hHeld.2.2.2.trans (hb.mono hHeld.2.2.2.size)⟩
        clear hHeld hK K; have hHeld := hHeld2; clear hHeld2
        clear hb
        try simp only [Act.put, List.setIfInBounds_toArray, List.set_cons_zero, List.set_cons_succ]
        refine H.take 12 (v := ?_) rfl (by kernel_rfl) (fun _ _ _ h => h) (by rfl) ?_ (by assumption) ?_
        rotate_left
        · (intro wz hSw; (try dsimp only at hSw); have x1 := hSw.1.four; have x2 := hSw.2.1.four; have x3 := hSw.2.2.1.four;go_simp <;> with_reducible rfl)
        try simp only [Act.put, List.setIfInBounds_toArray, List.set_cons_zero, List.set_cons_succ]
        refine H.take 13 (v := ?_) rfl (by kernel_rfl) (fun _ _ _ h => h) (by rfl) ?_ (by assumption) ?_
        rotate_left
        · (intro wz hSw; (try dsimp only at hSw); have x1 := hSw.1.four; have x2 := hSw.2.1.four; have x3 := hSw.2.2.1.four;go_simp <;> with_reducible rfl)
        try simp only [Act.put, List.setIfInBounds_toArray, List.set_cons_zero, List.set_cons_succ]
        refine H.done (by kernel_rfl) ?_ _
        go_wp2_with fail
        go_ret
        exact ⟨rfl, hHeld.2.2.2⟩
      · have hq2 : decide (D ≤ p) = false := decide_eq_false hd1
        refine wp_region_held_drew (S := (fun w' => Blk w' w.heap.size #[.bool lit, .bool nan, .int .u16 (link : Int), .int .u32 (snap : Int)] 26 ∧ Blk w' (w.heap.size + 1) #[.int .u32 (s0 : Int), .int .u32 (p0 : Int), .int .u32 (c0 : Int), .int .u32 (l0 : Int)] 43 ∧ Blk w' (w.heap.size + 1 + 1) #[.int .u32 (s : Int), .int .u32 (p : Int), .int .u32 (c : Int), .int .u32 (l : Int)] 43 ∧ Below w.heap.size w w')) (by kernel_rfl) ?_ (fun hHeld => ?_)
        · exact ⟨hfile.drew, hg.drew, hh.drew, drewB hbe⟩
        generalize World.drew _ = wz at hHeld  ⊢
        refine H.take 0 (v := ?_) rfl (by kernel_rfl) (fun _ _ _ h => h) (by rfl) ?_ (by assumption) ?_
        rotate_left
        · (intro wz hSw; (try dsimp only at hSw); have x1 := hSw.1.four; have x2 := hSw.2.1.four; have x3 := hSw.2.2.1.four;go_simp <;> with_reducible rfl)
        try simp only [Act.put, List.setIfInBounds_toArray, List.set_cons_zero, List.set_cons_succ]
        refine H.take 1 (v := ?_) rfl (by kernel_rfl) (fun _ _ _ h => h) (by rfl) ?_ (by assumption) ?_
        rotate_left
        · (intro wz hSw; (try dsimp only at hSw); have x1 := hSw.1.four; have x2 := hSw.2.1.four; have x3 := hSw.2.2.1.four;go_simp <;> with_reducible rfl)
        try simp only [Act.put, List.setIfInBounds_toArray, List.set_cons_zero, List.set_cons_succ]
        refine H.take 2 (v := ?_) rfl (by kernel_rfl) (fun _ _ _ h => h) (by rfl) ?_ (by assumption) ?_
        rotate_left
        · (intro wz hSw; (try dsimp only at hSw); have x1 := hSw.1.four; have x2 := hSw.2.1.four; have x3 := hSw.2.2.1.four;go_simp <;> with_reducible rfl)
        try simp only [Act.put, List.setIfInBounds_toArray, List.set_cons_zero, List.set_cons_succ]
        refine H.take 3 (v := ?_) rfl (by kernel_rfl) (fun _ _ _ h => h) (by rfl) ?_ (by assumption) ?_
        rotate_left
        · (intro wz hSw; (try dsimp only at hSw); have x1 := hSw.1.four; have x2 := hSw.2.1.four; have x3 := hSw.2.2.1.four;go_simp <;> with_reducible rfl)
        try simp only [Act.put, List.setIfInBounds_toArray, List.set_cons_zero, List.set_cons_succ]
        refine H.ready [4] (by kernel_rfl) (by simp) ?_
        refine H.one rfl (by rfl) (fun K hK => ?_) AllReadyH.nil
        go_simp
        go_at_call 12
        refine (HD.out _).mono ?_
        rintro e wk ⟨rfl, hb⟩
        refine hK.out _ _ ?_ (fun hHeld2 => ?_)
        · exact ⟨hHeld.1.keep hb, hHeld.2.1.keep hb, hHeld.2.2.1.keep hb, hHeld.2.2.2.trans (hb.mono hHeld.2.2.2.size)⟩
        clear hHeld hK K; have hHeld := hHeld2; clear hHeld2
        clear hb
        try simp only [Act.put, List.setIfInBounds_toArray, List.set_cons_zero, List.set_cons_succ]
        refine H.take 5 (v := ?_) rfl (by kernel_rfl) (fun _ _ _ h => h) (by rfl) ?_ (by assumption) ?_
        rotate_left
        · (intro wz hSw; (try dsimp only at hSw); have x1 := hSw.1.four; have x2 := hSw.2.1.four; have x3 := hSw.2.2.1.four;go_simp <;> with_reducible rfl)
        try simp only [Act.put, List.setIfInBounds_toArray, List.set_cons_zero, List.set_cons_succ]
        refine H.take 6 (v := ?_) rfl (by kernel_rfl) (fun _ _ _ h => h) (by rfl) ?_ (by assumption) ?_
        rotate_left
        · (intro wz hSw; (try dsimp only at hSw); have x1 := hSw.1.four; have x2 := hSw.2.1.four; have x3 := hSw.2.2.1.four;go_simp <;> with_reducible rfl)
        try simp only [Act.put, List.setIfInBounds_toArray, List.set_cons_zero, List.set_cons_succ]
        refine H.take 7 (v := ?_) rfl (by kernel_rfl) (fun _ _ _ h => h) (by rfl) ?_ (by assumption) ?_
        rotate_left
        · (intro wz hSw; (try dsimp only at hSw); have x1 := hSw.1.four; have x2 := hSw.2.1.four; have x3 := hSw.2.2.1.four;go_simp <;> with_reducible rfl)
        try simp only [Act.put, List.setIfInBounds_toArray, List.set_cons_zero, List.set_cons_succ]
        refine H.take 8 (v := ?_) rfl (by kernel_rfl) (fun _ _ _ h => h) (by rfl) ?_ (by assumption) ?_
        rotate_left
        · (intro wz hSw; (try dsimp only at hSw); have x1 := hSw.1.four; have x2 := hSw.2.1.four; have x3 := hSw.2.2.1.four;go_simp <;> with_reducible rfl)
        try simp only [Act.put, List.setIfInBounds_toArray, List.set_cons_zero, List.set_cons_succ]
        refine H.take 9 (v := ?_) rfl (by kernel_rfl) (fun _ _ _ h => h) (by rfl) ?_ (by assumption) ?_
        rotate_left
        · (intro wz hSw; (try dsimp only at hSw); have x1 := hSw.1.four; have x2 := hSw.2.1.four; have x3 := hSw.2.2.1.four;go_simp <;> with_reducible rfl)
        try simp only [Act.put, List.setIfInBounds_toArray, List.set_cons_zero, List.set_cons_succ]
        refine H.take 10 (v := ?_) rfl (by kernel_rfl) (fun _ _ _ h => h) (by rfl) ?_ (by assumption) ?_
        rotate_left
        · (intro wz hSw; (try dsimp only at hSw); have x1 := hSw.1.four; have x2 := hSw.2.1.four; have x3 := hSw.2.2.1.four;go_simp <;> with_reducible rfl)
        try simp only [Act.put, List.setIfInBounds_toArray, List.set_cons_zero, List.set_cons_succ]
        refine H.ready [11] (by kernel_rfl) (by simp) ?_
        refine H.one rfl (by rfl) (fun K hK => ?_) AllReadyH.nil
        go_simp
        go_at_call 12
        refine (HD.out _).mono ?_
        rintro e wk ⟨rfl, hb⟩
        refine hK.out _ _ ?_ (fun hHeld2 => ?_)
        · exact ⟨hHeld.1.keep hb, hHeld.2.1.keep hb, hHeld.2.2.1.keep hb, hHeld.2.2.2.trans (hb.mono hHeld.2.2.2.size)⟩
        clear hHeld hK K; have hHeld := hHeld2; clear hHeld2
        clear hb
        try simp only [Act.put, List.setIfInBounds_toArray, List.set_cons_zero, List.set_cons_succ]
        refine H.take 12 (v := ?_) rfl (by kernel_rfl) (fun _ _ _ h => h) (by rfl) ?_ (by assumption) ?_
        rotate_left
        · (intro wz hSw; (try dsimp only at hSw); have x1 := hSw.1.four; have x2 := hSw.2.1.four; have x3 := hSw.2.2.1.four;go_simp <;> with_reducible rfl)
        try simp only [Act.put, List.setIfInBounds_toArray, List.set_cons_zero, List.set_cons_succ]
        refine H.take 13 (v := ?_) rfl (by kernel_rfl) (fun _ _ _ h => h) (by rfl) ?_ (by assumption) ?_
        rotate_left
        · (intro wz hSw; (try dsimp only at hSw); have x1 := hSw.1.four; have x2 := hSw.2.1.four; have x3 := hSw.2.2.1.four;go_simp <;> with_reducible rfl)
        try simp only [Act.put, List.setIfInBounds_toArray, List.set_cons_zero, List.set_cons_succ]
        refine H.done (by kernel_rfl) ?_ _
        have HW := Lib.hid (HWB.out (by omega))
        have hlt := HLT.out (by omega) (by omega)
        have HLB := Lib.hid hlt
        clear hq hq2 hd0 hd1 hwp0 hwp hlt hfile hg hh hbe
        have r1 := hHeld.1; have r2 := hHeld.2.1; have r3 := hHeld.2.2.1; have HBZ := Lib.hid hHeld.2.2.2
        clear hHeld
        go_wp2_with fail
        refine wp_region_held_drew (S := (fun w' => Blk w' w.heap.size #[.bool lit, .bool nan, .int .u16 (link : Int), .int .u32 (snap : Int)] 26 ∧ Blk w' (w.heap.size + 1) #[.int .u32 (s0 : Int), .int .u32 (p0 : Int), .int .u32 (c0 : Int), .int .u32 (l0 : Int)] 43 ∧ Blk w' (w.heap.size + 1 + 1) #[.int .u32 (s : Int), .int .u32 (p : Int), .int .u32 (c : Int), .int .u32 (l : Int)] 43 ∧ Below w.heap.size w w')) (by kernel_rfl) ?_ (fun hHeld => ?_)
        · exact ⟨r1.drew, r2.drew, r3.drew, drewB HBZ.out⟩
        generalize World.drew _ = wz at hHeld  ⊢
        refine H.take 0 (v := ?_) rfl (by kernel_rfl) (fun _ _ _ h => h) (by rfl) ?_ (by assumption) ?_
        rotate_left
        · (intro wz hSw; (try dsimp only at hSw); have x1 := hSw.1.four; have x2 := hSw.2.2.1.four;go_simp <;> with_reducible rfl)
        try simp only [Act.put, List.setIfInBounds_toArray, List.set_cons_zero, List.set_cons_succ]
        refine H.take 1 (v := ?_) rfl (by kernel_rfl) (fun _ _ _ h => h) (by rfl) ?_ (by assumption) ?_
        rotate_left
        · (intro wz hSw; (try dsimp only at hSw); have x1 := hSw.1.four; have x2 := hSw.2.2.1.four;go_simp <;> with_reducible rfl)
        try simp only [Act.put, List.setIfInBounds_toArray, List.set_cons_zero, List.set_cons_succ]
        refine H.take 2 (v := ?_) rfl (by kernel_rfl) (fun _ _ _ h => h) (by rfl) ?_ (by assumption) ?_
        rotate_left
        · (intro wz hSw; (try dsimp only at hSw); have x1 := hSw.1.four; have x2 := hSw.2.2.1.four;go_simp <;> with_reducible rfl)
        try simp only [Act.put, List.setIfInBounds_toArray, List.set_cons_zero, List.set_cons_succ]
        refine H.ready [3] (by kernel_rfl) (by simp) ?_
        refine H.one rfl (by rfl) (fun K hK => ?_) AllReadyH.nil
        go_simp
        go_at_call 20
        refine (HAh.out _).mono ?_
        rintro e wk ⟨rfl, hb⟩
        refine hK.out _ _ ?_ (fun hHeld2 => ?_)
        · exact ⟨hHeld.1.keep hb, hHeld.2.1.keep hb, hHeld.2.2.1.keep hb, hHeld.2.2.2.trans (hb.mono hHeld.2.2.2.size)⟩
        clear hHeld hK K; have hHeld := hHeld2; clear hHeld2
        clear hb
        try simp only [Act.put, List.setIfInBounds_toArray, List.set_cons_zero, List.set_cons_succ]
        refine H.ready [4] (by kernel_rfl) (by simp) ?_
        refine H.one rfl (by rfl) (fun K hK => ?_) AllReadyH.nil
        go_simp
        go_at_call 18
        refine (HW.out _).mono ?_
        rintro e wk ⟨rfl, hb⟩
        refine hK.out _ _ ?_ (fun hHeld2 => ?_)
        · exact ⟨hHeld.1.keep hb, hHeld.2.1.keep hb, hHeld.2.2.1.keep hb, hHeld.2.2.2.trans (hb.mono hHeld.2.2.2.size)⟩
        clear hHeld hK K; have hHeld := hHeld2; clear hHeld2
        clear hb
        try simp only [Act.put, List.setIfInBounds_toArray, List.set_cons_zero, List.set_cons_succ]
        refine H.take 5 (v := ?_) rfl (by kernel_rfl) (fun _ _ _ h => h) (by rfl) ?_ (by assumption) ?_
        rotate_left
        · (intro wz hSw; (try dsimp only at hSw); have x1 := hSw.1.four; have x2 := hSw.2.2.1.four;go_simp <;> with_reducible rfl)
        try simp only [Act.put, List.setIfInBounds_toArray, List.set_cons_zero, List.set_cons_succ]
        refine H.take 6 (v := ?_) rfl (by kernel_rfl) (fun _ _ _ h => h) (by rfl) ?_ (by assumption) ?_
        rotate_left
        · (intro wz hSw; (try dsimp only at hSw); have x1 := hSw.1.four; have x2 := hSw.2.2.1.four;go_simp <;> with_reducible rfl)
        try simp only [Act.put, List.setIfInBounds_toArray, List.set_cons_zero, List.set_cons_succ]
        refine H.take 7 (v := ?_) rfl (by kernel_rfl) (fun _ _ _ h => h) (by rfl) ?_ (by assumption) ?_
        rotate_left
        · (intro wz hSw; (try dsimp only at hSw); have x1 := hSw.1.four; have x2 := hSw.2.2.1.four;go_simp <;> with_reducible rfl)
        try simp only [Act.put, List.setIfInBounds_toArray, List.set_cons_zero, List.set_cons_succ]
        refine H.take 8 (v := ?_) rfl (by kernel_rfl) (fun _ _ _ h => h) (by rfl) ?_ (by assumption) ?_
        rotate_left
        · (intro wz hSw; (try dsimp only at hSw); have x1 := hSw.1.four; have x2 := hSw.2.2.1.four;go_simp <;> with_reducible rfl)
        try simp only [Act.put, List.setIfInBounds_toArray, List.set_cons_zero, List.set_cons_succ]
        refine H.take 9 (v := ?_) rfl (by kernel_rfl) (fun _ _ _ h => h) (by rfl) ?_ (by assumption) ?_
        rotate_left
        · (intro wz hSw; (try dsimp only at hSw); have x1 := hSw.1.four; have x2 := hSw.2.2.1.four;go_simp <;> with_reducible rfl)
        try simp only [Act.put, List.setIfInBounds_toArray, List.set_cons_zero, List.set_cons_succ]
        refine H.take 10 (v := ?_) rfl (by kernel_rfl) (fun _ _ _ h => h) (by rfl) ?_ (by assumption) ?_
        rotate_left
        · (intro wz hSw; (try dsimp only at hSw); have x1 := hSw.1.four; have x2 := hSw.2.2.1.four;go_simp <;> with_reducible rfl)
        try simp only [Act.put, List.setIfInBounds_toArray, List.set_cons_zero, List.set_cons_succ]
        refine H.take 11 (v := ?_) rfl (by kernel_rfl) (fun _ _ _ h => h) (by rfl) ?_ (by assumption) ?_
        rotate_left
        · (intro wz hSw; (try dsimp only at hSw); have x1 := hSw.1.four; have x2 := hSw.2.2.1.four;go_simp <;> with_reducible rfl)
        try simp only [Act.put, List.setIfInBounds_toArray, List.set_cons_zero, List.set_cons_succ]
        refine H.done (by kernel_rfl) ?_ _
        have t1 := hHeld.1; have t2 := hHeld.2.1; have t3 := hHeld.2.2.1; have HBY := Lib.hid hHeld.2.2.2
        clear hHeld r1 r2 r3 HBZ
        have x2 := t2.four; have x3 := t3.four
        go_upto_region 21 with fail
        go_cut [22] (fun s22 wx => s22 = .bool bl ∧ (fun w' => Blk w' w.heap.size #[.bool lit, .bool nan, .int .u16 (link : Int), .int .u32 (snap : Int)] 26 ∧ Blk w' (w.heap.size + 1) #[.int .u32 (s0 : Int), .int .u32 (p0 : Int), .int .u32 (c0 : Int), .int .u32 (l0 : Int)] 43 ∧ Blk w' (w.heap.size + 1 + 1) #[.int .u32 (s : Int), .int .u32 (p : Int), .int .u32 (c : Int), .int .u32 (l : Int)] 43 ∧ Below w.heap.size w w') wx)
        case first =>
          have HK4 := Lib.hid (And.intro t1 (And.intro t2 (And.intro t3 HBY.out)))
          clear t1 t2 t3
          by_cases h1 : s < s0
          · have e1 : bl = true := by rw [← HBL2.out, decide_eq_true h1]; rfl
            subst e1
            have h1I : (s : Int) < (s0 : Int) := by omega
            go_wp2_with fail
            go_meet
            exact ⟨rfl, HK4.out⟩
          · have h1I : ¬ (s : Int) < (s0 : Int) := by omega
            by_cases h2 : s0 = s
            · by_cases h3 : p < p0
              · have e1 : bl = true := by rw [← HBL2.out, decide_eq_true h2, decide_eq_true h3]; simp
                subst e1
                have h2I : decide ((s0 : Int) = (s : Int)) = true := decide_eq_true (by omega)
                have h2J : decide (s0 = s) = true := decide_eq_true h2
                have h2K : ((s0 : Int) == (s : Int)) = true := beq_iff_eq.2 (by omega)
                have h2L : (s0 == s) = true := beq_iff_eq.2 h2
                clear h2
                have h3I : (p : Int) < (p0 : Int) := by omega
                go_wp2_with fail
                go_meet
                exact ⟨rfl, HK4.out⟩
              · have e1 : bl = false := by rw [← HBL2.out, decide_eq_false h1, decide_eq_false h3]; simp
                subst e1
                have h2I : decide ((s0 : Int) = (s : Int)) = true := decide_eq_true (by omega)
                have h2J : decide (s0 = s) = true := decide_eq_true h2
                have h2K : ((s0 : Int) == (s : Int)) = true := beq_iff_eq.2 (by omega)
                have h2L : (s0 == s) = true := beq_iff_eq.2 h2
                clear h2
                have h3I : ¬ (p : Int) < (p0 : Int) := by omega
                go_wp2_with fail
                go_meet
                exact ⟨rfl, HK4.out⟩
            · have e1 : bl = false := by rw [← HBL2.out, decide_eq_false h1, decide_eq_false h2]; rfl
              subst e1
              have h2I : ¬ (s0 : Int) = (s : Int) := by omega
              go_wp2_with fail
              go_meet
              exact ⟨rfl, HK4.out⟩
        case rest =>
          obtain ⟨rfl, y1, y2, y3, hby⟩ := hcut
          have hlb := HLB.out
          go_wp2_with fail
          refine wp_region_held_drew (S := (fun w' => Blk w' w.heap.size #[.bool lit, .bool nan, .int .u16 (link : Int), .int .u32 (snap : Int)] 26 ∧ Blk w' (w.heap.size + 1) #[.int .u32 (s0 : Int), .int .u32 (p0 : Int), .int .u32 (c0 : Int), .int .u32 (l0 : Int)] 43 ∧ Blk w' (w.heap.size + 1 + 1) #[.int .u32 (s : Int), .int .u32 (p : Int), .int .u32 (c : Int), .int .u32 (l : Int)] 43 ∧ Below w.heap.size w w')) (by kernel_rfl) ?_ (fun hHeld => ?_)
          · exact ⟨y1.drew, y2.drew, y3.drew, drewB hby⟩
          generalize World.drew _ = wz at hHeld  ⊢
          refine H.take 0 (v := ?_) rfl (by kernel_rfl) (fun _ _ _ h => h) (by rfl) ?_ (by assumption) ?_
          rotate_left
          · (intro wz hSw; (try dsimp only at hSw); have x1 := hSw.1.four; have x2 := hSw.2.1.four; have x3 := hSw.2.2.1.four;go_simp <;> with_reducible rfl)
          try simp only [Act.put, List.setIfInBounds_toArray, List.set_cons_zero, List.set_cons_succ]
          refine H.take 1 (v := ?_) rfl (by kernel_rfl) (fun _ _ _ h => h) (by rfl) ?_ (by assumption) ?_
          rotate_left
          · (intro wz hSw; (try dsimp only at hSw); have x1 := hSw.1.four; have x2 := hSw.2.1.four; have x3 := hSw.2.2.1.four;go_simp <;> with_reducible rfl)
          try simp only [Act.put, List.setIfInBounds_toArray, List.set_cons_zero, List.set_cons_succ]
          refine H.take 3 (v := ?_) rfl (by kernel_rfl) (fun _ _ _ h => h) (by rfl) ?_ (by assumption) ?_
          rotate_left
          · (intro wz hSw; (try dsimp only at hSw); have x1 := hSw.1.four; have x2 := hSw.2.1.four; have x3 := hSw.2.2.1.four;go_simp <;> with_reducible rfl)
          try simp only [Act.put, List.setIfInBounds_toArray, List.set_cons_zero, List.set_cons_succ]
          refine H.take 4 (v := ?_) rfl (by kernel_rfl) (fun _ _ _ h => h) (by rfl) ?_ (by assumption) ?_
          rotate_left
          · (intro wz hSw; (try dsimp only at hSw); have x1 := hSw.1.four; have x2 := hSw.2.1.four; have x3 := hSw.2.2.1.four;go_simp <;> with_reducible rfl)
          try simp only [Act.put, List.setIfInBounds_toArray, List.set_cons_zero, List.set_cons_succ]
          refine H.take 8 (v := ?_) rfl (by kernel_rfl) (fun _ _ _ h => h) (by rfl) ?_ (by assumption) ?_
          rotate_left
          · (intro wz hSw; (try dsimp only at hSw); have x1 := hSw.1.four; have x2 := hSw.2.1.four; have x3 := hSw.2.2.1.four;go_simp <;> with_reducible rfl)
          try simp only [Act.put, List.setIfInBounds_toArray, List.set_cons_zero, List.set_cons_succ]
          refine H.ready [2] (by kernel_rfl) (by simp) ?_
          refine H.one rfl (by rfl) (fun K hK => ?_) AllReadyH.nil
          go_simp
          go_at_call 20
          refine (HAg.out _).mono ?_
          rintro e wk ⟨rfl, hb⟩
          refine hK.out _ _ ?_ (fun hHeld2 => ?_)
          · exact ⟨hHeld.1.keep hb, hHeld.2.1.keep hb, hHeld.2.2.1.keep hb, hHeld.2.2.2.trans (hb.mono hHeld.2.2.2.size)⟩
          clear hHeld hK K; have hHeld := hHeld2; clear hHeld2
          clear hb
          try simp only [Act.put, List.setIfInBounds_toArray, List.set_cons_zero, List.set_cons_succ]
          refine H.ready [5] (by kernel_rfl) (by simp) ?_
          refine H.one rfl (by rfl) (fun K hK => ?_) AllReadyH.nil
          go_simp
          go_at_call 20
          refine (HAh.out _).mono ?_
          rintro e wk ⟨rfl, hb⟩
          refine hK.out _ _ ?_ (fun hHeld2 => ?_)
          · exact ⟨hHeld.1.keep hb, hHeld.2.1.keep hb, hHeld.2.2.1.keep hb, hHeld.2.2.2.trans (hb.mono hHeld.2.2.2.size)⟩
          clear hHeld hK K; have hHeld := hHeld2; clear hHeld2
          clear hb
          try simp only [Act.put, List.setIfInBounds_toArray, List.set_cons_zero, List.set_cons_succ]
          refine H.ready [6] (by kernel_rfl) (by simp) ?_
          refine H.one rfl (by rfl) (fun K hK => ?_) AllReadyH.nil
          go_simp
          go_at_call 22
          refine (HCM.out _).mono ?_
          rintro e wk ⟨rfl, hb⟩
          refine hK.out _ _ ?_ (fun hHeld2 => ?_)
          · exact ⟨hHeld.1.keep hb, hHeld.2.1.keep hb, hHeld.2.2.1.keep hb, hHeld.2.2.2.trans (hb.mono hHeld.2.2.2.size)⟩
          clear hHeld hK K; have hHeld := hHeld2; clear hHeld2
          clear hb
          try simp only [Act.put, List.setIfInBounds_toArray, List.set_cons_zero, List.set_cons_succ]
          refine H.take 7 (v := ?_) rfl (by kernel_rfl) (fun _ _ _ h => h) (by rfl) ?_ (by assumption) ?_
          rotate_left
          · (intro wz hSw; (try dsimp only at hSw); have x1 := hSw.1.four; have x2 := hSw.2.1.four; have x3 := hSw.2.2.1.four;go_simp <;> with_reducible rfl)
          try simp only [Act.put, List.setIfInBounds_toArray, List.set_cons_zero, List.set_cons_succ]
          refine H.take 9 (v := ?_) rfl (by kernel_rfl) (fun _ _ _ h => h) (by rfl) ?_ (by assumption) ?_
          rotate_left
          · (intro wz hSw; (try dsimp only at hSw); have x1 := hSw.1.four; have x2 := hSw.2.1.four; have x3 := hSw.2.2.1.four;go_simp <;> with_reducible rfl)
          try simp only [Act.put, List.setIfInBounds_toArray, List.set_cons_zero, List.set_cons_succ]
          refine H.take 10 (v := ?_) rfl (by kernel_rfl) (fun _ _ _ h => h) (by rfl) ?_ (by assumption) ?_
          rotate_left
          · (intro wz hSw; (try dsimp only at hSw); have x1 := hSw.1.four; have x2 := hSw.2.1.four; have x3 := hSw.2.2.1.four;go_simp <;> with_reducible rfl)
          try simp only [Act.put, List.setIfInBounds_toArray, List.set_cons_zero, List.set_cons_succ]
          refine H.done (by kernel_rfl) ?_ _
          go_wp2_with fail
          go_ret
          exact ⟨rfl, hHeld.2.2.2⟩
theorem pcapBack_walk (lit nan : Bool) (link snap : Nat) (hk : link ≤ 65535) (hsn : snap ≤ 4294967295) (s0 p0 c0 l0 : Nat) (hs0 : s0 ≤ 4294967295) (hp0 : p0 ≤ 4294967295) (_ : c0 ≤ 4294967295) (_ : l0 ≤ 4294967295) (s p c l : Nat) (hs : s ≤ 4294967295) (hp : p ≤ 4294967295) (hc : c ≤ 4294967295) (hl : l ≤ 4294967295)
    (v : Value) (b : List UInt8) {w : World} (hb : BArg w v b) (cut : Int) (c0' : 0 ≤ cut) (c1' : cut ≤ 255) (_ : World) (hT : MagT w) :
    Calls Tryd.prog 6 #[fileV lit nan link snap, headV s0 p0 c0 l0, headV s p c l, v, .int .u8 cut] w fun e w' => e = .returned (.bool true) ∧ Below w.heap.size w w' := by
  obtain ⟨cut, rfl⟩ := Int.eq_ofNat_of_zero_le c0'
  by_cases h : b.length ≤ 300
  · exact pcapBack_go v b hb h lit nan link snap hk hsn s0 p0 c0 l0 hs0 hp0 s p c l hs hp hc hl cut (by omega) hT
  · exact pcapBack_big v b hb (by omega) lit nan link snap s0 p0 c0 l0 s p c l cut hT
end Go.Proofs.YtecmhjhjmhliiaaDoor
