/-
  Own texts, merged: OpenQ PdO PdP
-/
import Derived.Test.YtecmhjhjmhliiaaDoorTie
import Derived.Lib.LaidTab
import Derived.Lib.SmallJoins
import Derived.Lay
import Derived.LaidMore
import Derived.OpenShut
import Derived.Carry
import Derived.ChangeSlices
import Derived.ChangeMaps5
import Derived.Stop.LaidErr
import Derived.Stop.Joined
import Derived.Shelf.Vars
import Derived.SevenTiedAt
import Derived.Test.YtecmhjhjmhliiaaDoorQ5
import Derived.Test.YtecmhjhjmhliiaaDoorQ9
import Derived.Test.YtecmhjhjmhliiaaDoorQ1

/-
  Statements of pcap: from the row's condition to what the walks ask: files' and records' headers, wide numbers, bytes; the table of magic numbers.
-/















namespace Go.Proofs.YtecmhjhjmhliiaaDoor

open Go.ChangeShapes Go.WideShapes Go.ChangeAt Go.RowKit Go.Joins

set_option maxRecDepth 100000

theorem laidOut : laidOutB Tryd.prog = true := by kernel_rfl
theorem returnsInHanded_laid {H : Type} {enc : TypeId × Value → H} {a : Assume} {C : Checked} {os : Os} {f : FuncId} {fn : Func} {s : ChangeSpec} {conds : List PathCond} {apart fresh handsOn again : Bool} {laid : List (String × DataW Unit)}
    (own : ownKnob C.prog.godebug = none) (started : os.Started) (noInit : C.prog.inits.idxOf? f = none) (hfn : C.prog.funcs[f]? = some fn)
    (witness : ∃ (w : World) (tape : Tape) (i : Input), w.os = os ∧ (w.forCall tape i).Shaped C.prog ∧ i.vars = [] ∧ Input.okWide C.prog (w.forCall tape i) .any w.heap.size f i ∧
      ((s.pre enc C.prog fn conds apart (w.forCall tape i).memory i.args ∧ laidMetH C.prog laid (w.forCall tape i).memory) ∧ sizedMet enc C.prog fn (OpenSpec.ofChange s) apart (w.forCall tape i).memory i.args) ∧ a.holds C.prog (lone (Frame.enter C.prog f i.args .normal) [] (w.forCall tape i)))
    (contract : ∀ (W : World) (base : Nat) (args : Array Value) (ds gs : List (DataW H)) (before : List MemPlace),
      (∀ (j : Nat) t v, fn.params[j]? = some t → args[j]? = some v → Value.okWide C.prog W .any base t v) →
      DataW.Whole enc C.prog fn.params.toList s.vars apart W args.toList ds gs before →
      laidMetH C.prog laid W → W.ShapedOpen C.prog →
      Calls C.prog f args W fun e W' => ∃ v, e = .returned v ∧ s.post enc C.prog fn apart fresh handsOn again W args v W') :
    ReturnsInHanded a C os f .any (fun w args => (s.pre enc C.prog fn conds apart w args ∧ laidMetH C.prog laid w) ∧ sizedMet enc C.prog fn (OpenSpec.ofChange s) apart w args) (s.post enc C.prog fn apart fresh handsOn again) := by
  refine returnsInHanded_of_calls own started noInit witness ?_
  intro w tape i _ hsh _ hok hpre hholds
  obtain ⟨_, _, _, fn', hfn', _, _, _, _, hval⟩ := hok
  have e : fn' = fn := Option.some.inj (hfn'.symm.trans hfn)
  subst e
  obtain ⟨⟨⟨ds, gs, before, hw, hc⟩, hx⟩, hz⟩ := hpre
  have hw' := DataW.Whole.of_heap (w' := w.forCall tape i) (by rfl) hw
  refine (contract (w.forCall tape i) w.heap.size i.args ds gs before hval hw' (hx.of_heap (by rfl)) hsh).mono fun e W' ⟨v, he, hp⟩ => ?_
  subst he
  exact ChangeSpec.post_blind hp
theorem mags_eq : (Rows.laid_horologe_pcap_magics : DataW Unit) = Lib.tabData .u32 [2712847316, 2712812621, 3569595041, 1295823521] := by kernel_rfl
theorem magT_of {W : World} {r : List (String × DataW Unit)} (h : laidMet Tryd.prog (("horologe/pcap.magics", Rows.laid_horologe_pcap_magics) :: r) W) : MagT W := by
  rw [mags_eq] at h
  have ht := Lib.tabIs_of_head (g := 0) (t := 46) (by kernel_rfl) (by kernel_rfl) Tryd.underlying46 Tryd.underlying24 (by kernel_rfl) (by kernel_rfl) h
  have hn : Tryd.prog.globalNamed "horologe/pcap.magics" = some 0 := by kernel_rfl
  exact ⟨by simpa using World.var?_cell hn ht 0, by simpa using World.var?_cell hn ht 1, by simpa using World.var?_cell hn ht 2, by simpa using World.var?_cell hn ht 3⟩
theorem wf_u16 {n : Int} : (Lit.int .u16 n).wf = true ↔ 0 ≤ n ∧ n ≤ 65535 := by
  simp [Lit.wf, IntKind.min, IntKind.max, IntKind.signed, IntKind.bits]
theorem wf_u8 {n : Int} : (Lit.int .u8 n).wf = true ↔ 0 ≤ n ∧ n ≤ 255 := by
  simp [Lit.wf, IntKind.min, IntKind.max, IntKind.signed, IntKind.bits]
theorem open_file {H : Type} {enc : TypeId × Value → H} {w : World} {b0 base : Nat} {spare : Nat → Bool} {held : Bool} {v : Value} {d : DataW H} {p : List MemPlace}
    (hv : Value.okWide Tryd.prog w .any b0 26 v) (h : DataW.Trod enc Tryd.prog w base spare held 26 v d p) :
    ∃ (lit nan : Bool) (link snap : Nat), v = fileV lit nan link snap ∧ link ≤ 65535 ∧ snap ≤ 4294967295 := by
  obtain ⟨c0, c1, c2, c3, y0, y1, y2, y3, m, rfl, rfl, rfl, hy0, hy1, hy2, hy3⟩ := open_agg4 Tryd.underlying26 (by kernel_rfl) (by kernel_rfl) hv h
  obtain ⟨x0, e0, _⟩ := DataW.trod_bool Tryd.underlying4 hy0
  obtain ⟨x1, e1, _⟩ := DataW.trod_bool Tryd.underlying4 hy1
  obtain ⟨x2, e2, _, w2⟩ := DataW.trod_int Tryd.underlying23 hy2
  obtain ⟨x3, e3, _, w3⟩ := DataW.trod_int Tryd.underlying24 hy3
  simp at e0 e1 e2 e3
  subst e0 e1 e2 e3
  have h2 := wf_u16.1 w2; have h3 := wf_u32.1 w3
  obtain ⟨x2, rfl⟩ := Int.eq_ofNat_of_zero_le h2.1
  obtain ⟨x3, rfl⟩ := Int.eq_ofNat_of_zero_le h3.1
  exact ⟨x0, x1, x2, x3, rfl, by omega, by omega⟩
theorem open_head {H : Type} {enc : TypeId × Value → H} {w : World} {b0 base : Nat} {spare : Nat → Bool} {held : Bool} {v : Value} {d : DataW H} {p : List MemPlace}
    (hv : Value.okWide Tryd.prog w .any b0 43 v) (h : DataW.Trod enc Tryd.prog w base spare held 43 v d p) :
    ∃ (s q c l : Nat), v = headV s q c l ∧ s ≤ 4294967295 ∧ q ≤ 4294967295 ∧ c ≤ 4294967295 ∧ l ≤ 4294967295 := by
  obtain ⟨c0, c1, c2, c3, y0, y1, y2, y3, m, rfl, rfl, rfl, hy0, hy1, hy2, hy3⟩ := open_agg4 Tryd.underlying43 (by kernel_rfl) (by kernel_rfl) hv h
  obtain ⟨x0, e0, _, w0⟩ := DataW.trod_int Tryd.underlying24 hy0
  obtain ⟨x1, e1, _, w1⟩ := DataW.trod_int Tryd.underlying24 hy1
  obtain ⟨x2, e2, _, w2⟩ := DataW.trod_int Tryd.underlying24 hy2
  obtain ⟨x3, e3, _, w3⟩ := DataW.trod_int Tryd.underlying24 hy3
  simp at e0 e1 e2 e3
  subst e0 e1 e2 e3
  have h0 := wf_u32.1 w0; have h1 := wf_u32.1 w1; have h2 := wf_u32.1 w2; have h3 := wf_u32.1 w3
  obtain ⟨x0, rfl⟩ := Int.eq_ofNat_of_zero_le h0.1
  obtain ⟨x1, rfl⟩ := Int.eq_ofNat_of_zero_le h1.1
  obtain ⟨x2, rfl⟩ := Int.eq_ofNat_of_zero_le h2.1
  obtain ⟨x3, rfl⟩ := Int.eq_ofNat_of_zero_le h3.1
  exact ⟨x0, x1, x2, x3, rfl, by omega, by omega, by omega, by omega⟩
theorem spot_of {w : World} {base : Nat} {t e : TypeId} {a : Addr} {len cap : Nat} (ht : Tryd.prog.underlying t = some (.slice e)) (h : Value.okWide Tryd.prog w .any base t (.slice (some a) len cap)) : a.spot = none := by
  unfold Value.okWide at h
  rw [ht] at h
  unfold Cell.okWide at h
  rw [ht] at h
  unfold Cell.ok at h
  rw [ht] at h
  exact h.2.2.2.1
theorem open_bytes {H : Type} {enc : TypeId × Value → H} {w : World} {b0 base : Nat} {spare : Nat → Bool} {held : Bool} {v : Value} {d : DataW H} {p : List MemPlace}
    (hv : Value.okWide Tryd.prog w .any b0 22 v) (h : DataW.Trod enc Tryd.prog w base spare held 22 v d p) : ∃ l, BArg w v l := by
  obtain ⟨a0, len0, cap0, rfl⟩ := okWide_slice Tryd.underlying22 hv
  obtain ⟨fuel, hf⟩ := h
  rcases open_ints Tryd.underlying22 Tryd.underlying5 (by kernel_rfl) hf with ⟨hcs, hx⟩ | ⟨a, len, cap, zs, hcs, _, hl, hm, hz, hx, hcell, hwz⟩
  · simp [Value.cells] at hcs
    obtain ⟨rfl, rfl, rfl⟩ := hcs
    exact ⟨[], none, 0, rfl, Nat.le_refl _, Rd.nil _ _⟩
  · simp [Value.cells] at hcs
    obtain ⟨rfl, rfl, rfl⟩ := hcs
    obtain ⟨blk, off, spot⟩ := a
    have hspot : spot = none := spot_of Tryd.underlying22 hv
    subst hspot
    have hlz : len0 ≤ zs.length := by rw [hz]; split <;> omega
    have hlen : ((zs.take len0).map fun z => UInt8.ofNat z.toNat).length = len0 := by rw [List.length_map, List.length_take, Nat.min_eq_left hlz]
    refine ⟨(zs.take len0).map fun z => UInt8.ofNat z.toNat, some ⟨blk, off, none⟩, cap0, by rw [hlen], by rw [hlen]; exact hl, fun _ => ⟨blk, off, rfl, fun j x hj => ?_⟩⟩
    rw [List.getElem?_map, List.getElem?_take] at hj
    split at hj
    · rename_i hj2
      have hj3 : j < zs.length := by omega
      rw [List.getElem?_eq_getElem hj3] at hj
      have hc := hcell j hj3
      rw [add_plain] at hc
      rw [hc]
      have e : zs.getD j 0 = zs[j] := by rw [List.getD_eq_getElem?_getD, List.getElem?_eq_getElem hj3]; rfl
      have hw := hwz zs[j] (List.getElem_mem hj3)
      simp [Lit.wf, IntKind.min, IntKind.max, IntKind.signed, IntKind.bits] at hw
      have hxe : UInt8.ofNat zs[j].toNat = x := by simpa using hj
      rw [e, ← hxe]
      have : (UInt8.ofNat zs[j].toNat).toNat = zs[j].toNat := by simp; omega
      show some (Value.int .u8 _) = some (.int .u8 (((UInt8.ofNat zs[j].toNat).toNat : Nat) : Int))
      rw [this]; congr 2; omega
    · cases hj
end Go.Proofs.YtecmhjhjmhliiaaDoor


/-
  PcapHeads: the law's walk.
-/

namespace Go.Proofs.YtecmhjhjmhliiaaDoor

open Go.RowKit Go.Lib

set_option maxRecDepth 100000

theorem getN_mid (lit : Bool) (p q : List UInt8) (m n a : Nat) (ha : p.length = a) (hm : m ≤ 8) : getN lit (p ++ bytesF lit m n ++ q) a m = n % 256 ^ m := by
  subst ha
  have hg : GetIf (p ++ bytesF lit m n ++ q).length p.length m := by
    unfold GetIf; rw [List.length_append, List.length_append, bytesF_len]; omega
  unfold getN
  rw [if_pos hg, Int.toNat_natCast, Int.toNat_natCast, List.append_assoc, List.drop_left, List.take_left' (bytesF_len _ _ _), valF_bytes]
theorem headF_bytesR (lit nan : Bool) (s p c l : Nat) (hs : s ≤ 4294967295) (hp : p ≤ 4294967295) (hc : c ≤ 4294967295) (hl : l ≤ 4294967295) :
    headF lit nan (bytesR lit s p c l) 4294967296 = if den nan ≤ p then noH 8 else ⟨s, p, c, l, 0⟩ := by
  have e0 : getN lit (bytesR lit s p c l) 0 4 = s := by
    have h := getN_mid lit [] (bytesF lit 4 p ++ bytesF lit 4 c ++ bytesF lit 4 l) 4 s 0 rfl (by decide)
    rw [Nat.mod_eq_of_lt (by omega)] at h
    refine Eq.trans ?_ h; unfold bytesR; simp only [List.nil_append, List.append_assoc]; rfl
  have e4 : getN lit (bytesR lit s p c l) 4 4 = p := by
    have h := getN_mid lit (bytesF lit 4 s) (bytesF lit 4 c ++ bytesF lit 4 l) 4 p 4 (bytesF_len _ _ _) (by decide)
    rw [Nat.mod_eq_of_lt (by omega)] at h
    refine Eq.trans ?_ h; unfold bytesR; simp only [List.append_assoc]; rfl
  have e8 : getN lit (bytesR lit s p c l) 8 4 = c := by
    have h := getN_mid lit (bytesF lit 4 s ++ bytesF lit 4 p) (bytesF lit 4 l) 4 c 8 (by rw [List.length_append, bytesF_len, bytesF_len]) (by decide)
    rw [Nat.mod_eq_of_lt (by omega)] at h
    refine Eq.trans ?_ h; unfold bytesR; rfl
  have e12 : getN lit (bytesR lit s p c l) 12 4 = l := by
    have h := getN_mid lit (bytesF lit 4 s ++ bytesF lit 4 p ++ bytesF lit 4 c) [] 4 l 12 (by simp only [List.length_append, bytesF_len]) (by decide)
    rw [Nat.mod_eq_of_lt (by omega)] at h
    refine Eq.trans ?_ h; unfold bytesR; rw [List.append_nil]; rfl
  unfold headF
  rw [e0, e4, e8, e12, bytesR_len, if_neg (by decide)]
  rw [if_neg (show ¬ (4294967296 : Int) < (c : Int) by omega)]
theorem pcapHeads_big {w : World} (lit nan : Bool) (link snap : Nat) (v : Value) (b : List UInt8) (hb : BArg w v b) (hbig : 300 < b.length) (most : Int) (s p c l : Nat) (hT : MagT w) :
    Calls Tryd.prog 4 #[fileV lit nan link snap, v, .int .i64 most, headV s p c l] w fun e w' => e = .returned (.bool true) ∧ Below w.heap.size w w' := by
  obtain ⟨A, cap, rfl, _, _⟩ := hb
  have hbI : (300 : Int) < (b.length : Int) := by omega
  generalize b.length = len at *
  have HK := Lib.hid (fun w' hb => known8_any w' (hT.below (w' := w') hb))
  have hHB := Lib.hid (((Below.refl _ w).alloc (Nat.le_refl _) (.cells #[.bool lit, .bool nan, .int .u16 (link : Int), .int .u32 (snap : Int)] 26)).alloc (by simp) (.cells #[.int .u32 (s : Int), .int .u32 (p : Int), .int .u32 (c : Int), .int .u32 (l : Int)] 43))
  clear hT hbig
  go_enter Tryd.func4, Tryd.ntmps4
  go_wp2_with (go_at_call 7; refine (HK.out _ hHB.out).mono ?_; rintro e w1 ⟨rfl, hb1⟩; have HB1 := Lib.hid (keepW hHB.out hb1); clear hb1)
  go_ret
  exact ⟨rfl, HB1.out⟩
set_option maxHeartbeats 8000000 in
theorem pcapHeads_go {w : World} (lit nan : Bool) (link snap : Nat) (v : Value) (b : List UInt8) (hb : BArg w v b) (hsm : b.length ≤ 300) (most : Int) (hm0 : -9223372036854775808 ≤ most) (hm1 : most ≤ 9223372036854775807) (s p c l : Nat)
    (hs : s ≤ 4294967295) (hp : p ≤ 4294967295) (hc : c ≤ 4294967295) (hl : l ≤ 4294967295) (hT : MagT w) :
    Calls Tryd.prog 4 #[fileV lit nan link snap, v, .int .i64 most, headV s p c l] w fun e w' => e = .returned (.bool true) ∧ Below w.heap.size w w' := by
  obtain ⟨A, cap, rfl, hcap, hr⟩ := hb
  have hbI : ¬ (300 : Int) < (b.length : Int) := by omega
  have HK := Lib.hid (fun w' hb => known8_any w' (hT.below (w' := w') hb))
  have HH := Lib.hid (fun w' hb => head_any lit nan link snap A b cap most hcap (by omega) w' (hr.below (w' := w') hb))
  have HR := Lib.hid (fun w' hb => refHead_any lit nan link snap A b cap most hm0 hm1 (by omega) w' (hr.below (w' := w') hb))
  have HP := Lib.hid (fun w => put_head lit nan link snap s p c l hs hp hc hl w)
  obtain ⟨X, hX⟩ : ∃ X, bytesR lit s p c l = X := ⟨_, rfl⟩
  have hXl : X.length = 16 := by rw [← hX, bytesR_len]
  have hXf : headF lit nan X 4294967296 = if den nan ≤ p then noH 8 else ⟨s, p, c, l, 0⟩ := by rw [← hX]; exact headF_bytesR lit nan s p c l hs hp hc hl
  have HX := Lib.hid (fun (g : Nat) (w' : World) (h : RdB w' g X) => by
    have h2 := head_any lit nan link snap (some ⟨g, 0, none⟩) X 16 4294967296 (by omega) (by omega) w' h.rd
    rw [hXl, hXf] at h2; exact h2)
  rw [hX] at HP
  have HD := Lib.hid (fun w => den_any lit nan link snap w)
  unfold headV5 at HH HR
  generalize headF lit nan b most = r at *
  obtain ⟨r0, r1, r2, r3, re⟩ := r
  obtain ⟨D, hD⟩ : ∃ D, den nan = D := ⟨_, rfl⟩
  rw [hD] at HX HD
  have hwp := wrap_nat hp
  generalize b.length = len at *
  clear hT hs hp hc hl hX hXl hXf hD hm0 hm1 hr hcap hsm
  have hHB := Lib.hid (((Below.refl _ w).alloc (Nat.le_refl _) (.cells #[.bool lit, .bool nan, .int .u16 (link : Int), .int .u32 (snap : Int)] 26)).alloc (by simp) (.cells #[.int .u32 (s : Int), .int .u32 (p : Int), .int .u32 (c : Int), .int .u32 (l : Int)] 43))
  have b1 : Blk ((w.alloc (.cells #[.bool lit, .bool nan, .int .u16 (link : Int), .int .u32 (snap : Int)] 26)).alloc (.cells #[.int .u32 (s : Int), .int .u32 (p : Int), .int .u32 (c : Int), .int .u32 (l : Int)] 43)) w.heap.size #[.bool lit, .bool nan, .int .u16 (link : Int), .int .u32 (snap : Int)] 26 := (Blk.new rfl).old _
  have b2 : Blk ((w.alloc (.cells #[.bool lit, .bool nan, .int .u16 (link : Int), .int .u32 (snap : Int)] 26)).alloc (.cells #[.int .u32 (s : Int), .int .u32 (p : Int), .int .u32 (c : Int), .int .u32 (l : Int)] 43)) (w.heap.size + 1) #[.int .u32 (s : Int), .int .u32 (p : Int), .int .u32 (c : Int), .int .u32 (l : Int)] 43 := Blk.new (by simp)
  by_cases hd : D ≤ p
  · rw [if_pos hd] at HX
    unfold headV5 noH at HX
    dsimp only at HX
    have HFIRST := Lib.hid b1
    go_enter Tryd.func4, Tryd.ntmps4
    go_upto_region 1 with fail
    generalize World.alloc (World.alloc _ _) _ = W0 at hHB b1 b2 HFIRST ⊢
    go_wp2_with (first
      | (go_at_call 7; refine (HK.out _ hHB.out).mono ?_; rintro e w1 ⟨rfl, hb1⟩; have HB1 := Lib.hid (keepW hHB.out hb1); have k1 := Blk.keep hb1 b1; have k2 := Blk.keep hb1 b2; clear hb1 b1 b2; have hc1 := k1.four)
      | (go_at_call 15; clear HFIRST; refine (HH.out _ HB1.out).mono ?_; rintro e w2 ⟨rfl, hb2⟩; have HB2 := Lib.hid (keepW HB1.out hb2); have l1 := Blk.keep hb2 k1; have l2 := Blk.keep hb2 k2; clear hb2 hc1 k1 k2; have hc1 := (l1.old (.cells #[.int .u32 (r0 : Int), .int .u32 (r1 : Int), .int .u32 (r2 : Int), .int .u32 (r3 : Int)] 43)).four)
      | (go_at_call 16; refine (HR.out _ (keepR HB2.out)).mono ?_; rintro e w3 ⟨rfl, hb3⟩; have HB3 := Lib.hid (keepW (keepR HB2.out) hb3); have m1 := Blk.keep hb3 (l1.old _); have m2 := Blk.keep hb3 (l2.old _); have m3 : Blk w3 w2.heap.size _ 43 := Blk.keep hb3 (Blk.new (b := w2.heap.size) rfl); clear hb3 hc1 l1 l2; have hc1 := (m1.old (.cells #[.int .u32 (r0 : Int), .int .u32 (r1 : Int), .int .u32 (r2 : Int), .int .u32 (r3 : Int)] 46)).four; have hc2 := (m2.old (.cells #[.int .u32 (r0 : Int), .int .u32 (r1 : Int), .int .u32 (r2 : Int), .int .u32 (r3 : Int)] 46)).four; have hc3 := (m3.old (.cells #[.int .u32 (r0 : Int), .int .u32 (r1 : Int), .int .u32 (r2 : Int), .int .u32 (r3 : Int)] 46)).four)
      | (go_at_call 17; refine (HP.out _).mono ?_; rintro e w4 ⟨g4, rfl, hr4, _, hb4⟩; have HB4 := Lib.hid (keepW (keepR HB3.out) hb4); have o1 := Blk.keep hb4 (m1.old _); have o2 := Blk.keep hb4 (m2.old _); clear hb4 hc1 hc2 hc3 m1 m2 m3; have hc1 := o1.four)
      | (go_at_call 15; refine (HX.out _ _ hr4).mono ?_; rintro e w5 ⟨rfl, hb5⟩; have HB5 := Lib.hid (keepW HB4.out hb5); have q1 := Blk.keep hb5 o1; have q2 := Blk.keep hb5 o2; clear hb5 hc1 o1 o2))
    refine wp_region_held_drew (S := (fun w' => Blk w' w.heap.size #[.bool lit, .bool nan, .int .u16 (link : Int), .int .u32 (snap : Int)] 26 ∧ Blk w' (w.heap.size + 1) #[.int .u32 (s : Int), .int .u32 (p : Int), .int .u32 (c : Int), .int .u32 (l : Int)] 43 ∧ Blk w' w5.heap.size #[.int .u32 0, .int .u32 0, .int .u32 0, .int .u32 0] 43 ∧ Below w.heap.size w w')) (by kernel_rfl) ?_ (fun hHeld => ?_)
    · exact ⟨(q1.old _).drew, (q2.old _).drew, (Blk.new (b := w5.heap.size) rfl).drew, drewB (keepR HB5.out)⟩
    generalize World.drew _ = wz at hHeld  ⊢
    refine H.take 0 (v := ?_) rfl (by kernel_rfl) (fun _ _ _ h => h) (by rfl) ?_ (by assumption) ?_
    rotate_left
    · (intro wz hSw; (try dsimp only at hSw); have x1 := hSw.1.four; have x2 := hSw.2.1.four;go_simp <;> with_reducible rfl)
    try simp only [Act.put, List.setIfInBounds_toArray, List.set_cons_zero, List.set_cons_succ]
    refine H.take 1 (v := ?_) rfl (by kernel_rfl) (fun _ _ _ h => h) (by rfl) ?_ (by assumption) ?_
    rotate_left
    · (intro wz hSw; (try dsimp only at hSw); have x1 := hSw.1.four; have x2 := hSw.2.1.four;go_simp <;> with_reducible rfl)
    try simp only [Act.put, List.setIfInBounds_toArray, List.set_cons_zero, List.set_cons_succ]
    refine H.take 2 (v := ?_) rfl (by kernel_rfl) (fun _ _ _ h => h) (by rfl) ?_ (by assumption) ?_
    rotate_left
    · (intro wz hSw; (try dsimp only at hSw); have x1 := hSw.1.four; have x2 := hSw.2.1.four;go_simp <;> with_reducible rfl)
    try simp only [Act.put, List.setIfInBounds_toArray, List.set_cons_zero, List.set_cons_succ]
    refine H.take 3 (v := ?_) rfl (by kernel_rfl) (fun _ _ _ h => h) (by rfl) ?_ (by assumption) ?_
    rotate_left
    · (intro wz hSw; (try dsimp only at hSw); have x1 := hSw.1.four; have x2 := hSw.2.1.four;go_simp <;> with_reducible rfl)
    try simp only [Act.put, List.setIfInBounds_toArray, List.set_cons_zero, List.set_cons_succ]
    refine H.ready [4] (by kernel_rfl) (by simp) ?_
    refine H.one rfl (by rfl) (fun K hK => ?_) AllReadyH.nil
    go_simp
    go_at_call 12
    refine (HD.out _).mono ?_
    rintro e wk ⟨rfl, hb⟩
    refine hK.out _ _ ?_ (fun hHeld2 => ?_)
    · exact ⟨hHeld.1.keep hb, hHeld.2.1.keep hb, hHeld.2.2.1.keep hb, hHeld.2.2.2.trans (hb.mono hHeld.2.2.2.size)⟩
    clear hHeld hK K; have hHeld := hHeld2; clear hHeld2
    clear hb
    try simp only [Act.put, List.setIfInBounds_toArray, List.set_cons_zero, List.set_cons_succ]
    refine H.take 5 (v := ?_) rfl (by kernel_rfl) (fun _ _ _ h => h) (by rfl) ?_ (by assumption) ?_
    rotate_left
    · (intro wz hSw; (try dsimp only at hSw); have x1 := hSw.1.four; have x2 := hSw.2.1.four;go_simp <;> with_reducible rfl)
    try simp only [Act.put, List.setIfInBounds_toArray, List.set_cons_zero, List.set_cons_succ]
    refine H.done (by kernel_rfl) ?_ _
    have x1 := hHeld.2.1.four; have x2 := hHeld.2.2.1.four; have HBZ := Lib.hid hHeld.2.2.2
    clear hHeld q1 q2 hwp
    go_wp2_with fail
    go_ret
    exact ⟨rfl, HBZ.out⟩
  · rw [if_neg hd] at HX
    unfold headV5 at HX
    dsimp only at HX
    have HFIRST := Lib.hid b1
    go_enter Tryd.func4, Tryd.ntmps4
    go_upto_region 1 with fail
    generalize World.alloc (World.alloc _ _) _ = W0 at hHB b1 b2 HFIRST ⊢
    go_wp2_with (first
      | (go_at_call 7; refine (HK.out _ hHB.out).mono ?_; rintro e w1 ⟨rfl, hb1⟩; have HB1 := Lib.hid (keepW hHB.out hb1); have k1 := Blk.keep hb1 b1; have k2 := Blk.keep hb1 b2; clear hb1 b1 b2; have hc1 := k1.four)
      | (go_at_call 15; clear HFIRST; refine (HH.out _ HB1.out).mono ?_; rintro e w2 ⟨rfl, hb2⟩; have HB2 := Lib.hid (keepW HB1.out hb2); have l1 := Blk.keep hb2 k1; have l2 := Blk.keep hb2 k2; clear hb2 hc1 k1 k2; have hc1 := (l1.old (.cells #[.int .u32 (r0 : Int), .int .u32 (r1 : Int), .int .u32 (r2 : Int), .int .u32 (r3 : Int)] 43)).four)
      | (go_at_call 16; refine (HR.out _ (keepR HB2.out)).mono ?_; rintro e w3 ⟨rfl, hb3⟩; have HB3 := Lib.hid (keepW (keepR HB2.out) hb3); have m1 := Blk.keep hb3 (l1.old _); have m2 := Blk.keep hb3 (l2.old _); have m3 : Blk w3 w2.heap.size _ 43 := Blk.keep hb3 (Blk.new (b := w2.heap.size) rfl); clear hb3 hc1 l1 l2; have hc1 := (m1.old (.cells #[.int .u32 (r0 : Int), .int .u32 (r1 : Int), .int .u32 (r2 : Int), .int .u32 (r3 : Int)] 46)).four; have hc2 := (m2.old (.cells #[.int .u32 (r0 : Int), .int .u32 (r1 : Int), .int .u32 (r2 : Int), .int .u32 (r3 : Int)] 46)).four; have hc3 := (m3.old (.cells #[.int .u32 (r0 : Int), .int .u32 (r1 : Int), .int .u32 (r2 : Int), .int .u32 (r3 : Int)] 46)).four)
      | (go_at_call 17; refine (HP.out _).mono ?_; rintro e w4 ⟨g4, rfl, hr4, _, hb4⟩; have HB4 := Lib.hid (keepW (keepR HB3.out) hb4); have o1 := Blk.keep hb4 (m1.old _); have o2 := Blk.keep hb4 (m2.old _); clear hb4 hc1 hc2 hc3 m1 m2 m3; have hc1 := o1.four)
      | (go_at_call 15; refine (HX.out _ _ hr4).mono ?_; rintro e w5 ⟨rfl, hb5⟩; have HB5 := Lib.hid (keepW HB4.out hb5); have q1 := Blk.keep hb5 o1; have q2 := Blk.keep hb5 o2; clear hb5 hc1 o1 o2))
    refine wp_region_held_drew (S := (fun w' => Blk w' w.heap.size #[.bool lit, .bool nan, .int .u16 (link : Int), .int .u32 (snap : Int)] 26 ∧ Blk w' (w.heap.size + 1) #[.int .u32 (s : Int), .int .u32 (p : Int), .int .u32 (c : Int), .int .u32 (l : Int)] 43 ∧ Blk w' w5.heap.size #[.int .u32 (s : Int), .int .u32 (p : Int), .int .u32 (c : Int), .int .u32 (l : Int)] 43 ∧ Below w.heap.size w w')) (by kernel_rfl) ?_ (fun hHeld => ?_)
    · exact ⟨(q1.old _).drew, (q2.old _).drew, (Blk.new (b := w5.heap.size) rfl).drew, drewB (keepR HB5.out)⟩
    generalize World.drew _ = wz at hHeld  ⊢
    refine H.take 0 (v := ?_) rfl (by kernel_rfl) (fun _ _ _ h => h) (by rfl) ?_ (by assumption) ?_
    rotate_left
    · (intro wz hSw; (try dsimp only at hSw); have x1 := hSw.1.four; have x2 := hSw.2.1.four;go_simp <;> with_reducible rfl)
    try simp only [Act.put, List.setIfInBounds_toArray, List.set_cons_zero, List.set_cons_succ]
    refine H.take 1 (v := ?_) rfl (by kernel_rfl) (fun _ _ _ h => h) (by rfl) ?_ (by assumption) ?_
    rotate_left
    · (intro wz hSw; (try dsimp only at hSw); have x1 := hSw.1.four; have x2 := hSw.2.1.four;go_simp <;> with_reducible rfl)
    try simp only [Act.put, List.setIfInBounds_toArray, List.set_cons_zero, List.set_cons_succ]
    refine H.take 2 (v := ?_) rfl (by kernel_rfl) (fun _ _ _ h => h) (by rfl) ?_ (by assumption) ?_
    rotate_left
    · (intro wz hSw; (try dsimp only at hSw); have x1 := hSw.1.four; have x2 := hSw.2.1.four;go_simp <;> with_reducible rfl)
    try simp only [Act.put, List.setIfInBounds_toArray, List.set_cons_zero, List.set_cons_succ]
    refine H.take 3 (v := ?_) rfl (by kernel_rfl) (fun _ _ _ h => h) (by rfl) ?_ (by assumption) ?_
    rotate_left
    · (intro wz hSw; (try dsimp only at hSw); have x1 := hSw.1.four; have x2 := hSw.2.1.four;go_simp <;> with_reducible rfl)
    try simp only [Act.put, List.setIfInBounds_toArray, List.set_cons_zero, List.set_cons_succ]
    refine H.ready [4] (by kernel_rfl) (by simp) ?_
    refine H.one rfl (by rfl) (fun K hK => ?_) AllReadyH.nil
    go_simp
    go_at_call 12
    refine (HD.out _).mono ?_
    rintro e wk ⟨rfl, hb⟩
    refine hK.out _ _ ?_ (fun hHeld2 => ?_)
    · exact ⟨hHeld.1.keep hb, hHeld.2.1.keep hb, hHeld.2.2.1.keep hb, hHeld.2.2.2.trans (hb.mono hHeld.2.2.2.size)⟩
    clear hHeld hK K; have hHeld := hHeld2; clear hHeld2
    clear hb
    try simp only [Act.put, List.setIfInBounds_toArray, List.set_cons_zero, List.set_cons_succ]
    refine H.take 5 (v := ?_) rfl (by kernel_rfl) (fun _ _ _ h => h) (by rfl) ?_ (by assumption) ?_
    rotate_left
    · (intro wz hSw; (try dsimp only at hSw); have x1 := hSw.1.four; have x2 := hSw.2.1.four;go_simp <;> with_reducible rfl)
    try simp only [Act.put, List.setIfInBounds_toArray, List.set_cons_zero, List.set_cons_succ]
    refine H.done (by kernel_rfl) ?_ _
    have x1 := hHeld.2.1.four; have x2 := hHeld.2.2.1.four; have HBZ := Lib.hid hHeld.2.2.2
    clear hHeld q1 q2 hwp
    go_wp2_with fail
    go_ret
    exact ⟨rfl, HBZ.out⟩
theorem pcapHeads_walk (lit nan : Bool) (link snap : Nat) (_ : link ≤ 65535) (_ : snap ≤ 4294967295) (v : Value) (b : List UInt8) {w : World} (hb : BArg w v b) (most : Int) (hm0 : -9223372036854775808 ≤ most) (hm1 : most ≤ 9223372036854775807) (s p c l : Nat)
    (hs : s ≤ 4294967295) (hp : p ≤ 4294967295) (hc : c ≤ 4294967295) (hl : l ≤ 4294967295) (_ : World) (hT : MagT w) :
    Calls Tryd.prog 4 #[fileV lit nan link snap, v, .int .i64 most, headV s p c l] w fun e w' => e = .returned (.bool true) ∧ Below w.heap.size w w' := by
  by_cases h : b.length ≤ 300
  · exact pcapHeads_go lit nan link snap v b hb h most hm0 hm1 s p c l hs hp hc hl hT
  · exact pcapHeads_big lit nan link snap v b hb (by omega) most s p c l hT
end Go.Proofs.YtecmhjhjmhliiaaDoor


/-
  PcapOpens: the law's walk.
-/


namespace Go.Proofs.YtecmhjhjmhliiaaDoor

open Go.RowKit Go.Lib

set_option maxRecDepth 100000

/-- The first four bytes, and twenty noughts behind. -/
def padded (l : List UInt8) : List UInt8 := [] ++ l.take 4 ++ List.replicate 20 0
theorem openL_err (lit nan : Bool) (l : List UInt8) : (openL lit nan l).err ≠ 120 := by
  unfold openL; split
  · show (0 : Int) ≠ 120; decide
  · show (125 : Int) ≠ 120; decide
theorem openF_err (l : List UInt8) : (openF l).err = 120 ↔ begF l = false := by
  unfold openF
  cases h : begF l
  · rw [if_neg (by decide)]; simp [noF]
  · rw [if_pos rfl]; split
    · simp [noF]
    · constructor
      · intro h; exact absurd h (openL_err _ _ _)
      · intro h; cases h
theorem padded_beg {l : List UInt8} (hl : 4 ≤ l.length) : begF (padded l) = begF l := by
  have e : (padded l).take 4 = l.take 4 := by
    unfold padded
    rw [List.nil_append, List.take_append_of_le_length (by rw [List.length_take]; omega), List.take_take, Nat.min_self]
  unfold begF pre
  rw [e]
theorem padded_len (l : List UInt8) : (padded l).length = (l.take 4).length + 20 := by unfold padded; simp
theorem bytesH_take (lit nan : Bool) (link snap : Nat) : (bytesH lit nan link snap).take 4 = mg lit nan := by
  unfold bytesH
  simp only [List.append_assoc]
  rw [List.take_left' (mg_len _ _)]
theorem pcapOpens_big {w : World} (v : Value) (b : List UInt8) (hb : BArg w v b) (hbig : 300 < b.length) (lit nan : Bool) (link snap : Nat) (hT : MagT w) :
    Calls Tryd.prog 3 #[v, fileV lit nan link snap] w fun e w' => e = .returned (.bool true) ∧ Below w.heap.size w w' := by
  obtain ⟨A, cap, rfl, _, _⟩ := hb
  have hbI : (300 : Int) < (b.length : Int) := by omega
  generalize b.length = len at *
  have HK := Lib.hid (fun w' hb => known8_any w' (hT.below (w' := w') hb))
  clear hT hbig
  go_enter Tryd.func3, Tryd.ntmps3
  go_wp2_with (go_at_call 7; refine (HK.out _ ((Below.refl _ w).alloc (Nat.le_refl _) _)).mono ?_; rintro e w1 ⟨rfl, hb1⟩; have HB1 := Lib.hid (keepA hb1 (Below.refl _ _)); clear hb1)
  go_ret
  exact ⟨rfl, HB1.out⟩
set_option maxHeartbeats 16000000 in
theorem pcapOpens_go {w : World} (v : Value) (b : List UInt8) (hb : BArg w v b) (hsm : b.length ≤ 300) (lit nan : Bool) (link snap : Nat) (hk : link ≤ 65535) (hs : snap ≤ 4294967295) (hT : MagT w) :
    Calls Tryd.prog 3 #[v, fileV lit nan link snap] w fun e w' => e = .returned (.bool true) ∧ Below w.heap.size w w' := by
  obtain ⟨A, cap, rfl, hcap, hr⟩ := hb
  have hbI : ¬ (300 : Int) < (b.length : Int) := by omega
  have HK := Lib.hid (fun w' hb => known8_any w' (hT.below (w' := w') hb))
  have HO := Lib.hid (fun w' hb => open_any A b cap hcap (by omega) w' (hr.below (w' := w') hb) (hT.below hb))
  have HR := Lib.hid (fun w' hb => refOpen_any A b cap hcap (by omega) w' (hr.below (w' := w') hb))
  have HM := Lib.hid (fun w' hb => mag_any A b cap hcap (by omega) w' (hr.below (w' := w') hb))
  have HB := Lib.hid (fun w => bytes_any lit nan link snap hk hs w)
  have HC := Lib.hid (fun w => refBytes_any lit nan link snap hk hs w)
  have HD := Lib.hid (fun w => den_any lit nan link snap w)
  have HE := Lib.hid (fun w => (refDen_any nan w).mono (fun e w' h => (⟨h.1, h.2 ▸ Below.refl _ _⟩ : e = .returned (.int .u64 (den nan : Nat)) ∧ Below w.heap.size w w')))
  obtain ⟨X, hX⟩ : ∃ X, bytesH lit nan link snap = X := ⟨_, rfl⟩
  have hXl : X.length = 24 := by rw [← hX, bytesH_len]
  rw [hX] at HB HC
  have HV1 := Lib.hid (fun (w' : World) (g : Nat) (h : RdB w' g X) => by have h2 := conv_rd h.rd 24; rw [hXl] at h2; exact h2)
  have HV2 := Lib.hid (fun (w' : World) (A : Option Addr) (c : Nat) (h : Rd w' A X) => by have h2 := conv_rd h c; rw [hXl] at h2; exact h2)
  generalize den nan = D at *
  obtain ⟨ml, hml⟩ : ∃ x, mLit (magN b) = x := ⟨_, rfl⟩
  obtain ⟨mn, hmn⟩ : ∃ x, mNan (magN b) = x := ⟨_, rfl⟩
  obtain ⟨mi, hmi⟩ : ∃ x, mIs (magN b) = x := ⟨_, rfl⟩
  have HMA := Lib.hid (show b.length < 4 → mi = false ∧ ml = false ∧ mn = false from fun h => by
    have h1 := is_short h
    have h2 := mag_none h1
    exact ⟨hmi ▸ h1, hml ▸ h2.1, hmn ▸ h2.2⟩)
  have HMB := Lib.hid (show 4 ≤ b.length → begF b = true → mi = true ∧ b.take 4 = mg ml mn from fun h h2 => by
    have h1 := is_beg h
    rw [h2] at h1
    obtain ⟨x, y, hxy⟩ := (mag_is b).1 h1
    have h3 := mag_of hxy
    exact ⟨hmi ▸ h1, by rw [← hml, ← hmn, h3.1, h3.2.1]; exact hxy⟩)
  have HMC := Lib.hid (show 4 ≤ b.length → begF b = false → mi = false ∧ ml = false ∧ mn = false from fun h h2 => by
    have h1 := is_beg h
    rw [h2] at h1
    have h2 := mag_none h1
    exact ⟨hmi ▸ h1, hml ▸ h2.1, hmn ▸ h2.2⟩)
  rw [hml, hmn, hmi] at HM
  have HPB := Lib.hid (openF_err (padded b))
  have HPL := Lib.hid (show 4 ≤ b.length → begF (padded b) = begF b from padded_beg)
  have HBM := Lib.hid (fun w => bytes_any ml mn 0 0 (by decide) (by decide) w)
  have HV4 := Lib.hid (fun (w' : World) (g : Nat) (h : RdB w' g (bytesH ml mn 0 0)) => by
    have h2 := conv_rd (rd_take h.rd 4) 24
    rw [bytesH_take, mg_len] at h2
    exact h2)
  clear hml hmn hmi
  unfold openV at HO HR
  generalize openF b = r at *
  obtain ⟨r0, r1, r2, r3, re⟩ := r
  obtain ⟨E, hE⟩ : ∃ E, (b.take 4).length = E := ⟨_, rfl⟩
  have hE2 : E = min 4 b.length := by rw [← hE, List.length_take]
  obtain ⟨A0, hrun, hrd⟩ := upto_cut A b cap E (by omega) hcap
  have hle : b.take E = b.take 4 := by rw [hE2, List.take_eq_take_iff]; omega
  rw [hle] at hrd
  have HRD := Lib.hid (fun w' hb => hrd w' (hr.below (w' := w') hb))
  have HP := Lib.hid (fun (A : Option Addr) (c : Nat) (w' : World) (hc : (padded b).length ≤ c) (h : Rd w' A (padded b)) => by
    have h2 := refOpen_any A (padded b) c hc (by rw [padded_len]; omega) w' h
    exact h2)
  unfold openV at HP
  generalize openF (padded b) = rp at *
  obtain ⟨p0, p1, p2, p3, pe⟩ := rp
  dsimp only at HP HPB
  have HMS := Lib.hid hT
  obtain ⟨len, hll⟩ : ∃ len, b.length = len := ⟨_, rfl⟩
  have HLN := Lib.hid hll
  have hmin : min (b.length : Int) 4 = (E : Int) := by omega
  rw [hll] at HO HR HM hrun hbI hmin ⊢
  have HMIN := Lib.hid hmin; have HRUN := Lib.hid hrun; have HE5 := Lib.hid hE; have HE2 := Lib.hid hE2
  clear hT hk hs hr hcap hsm hX hXl hE2 hle hrd hll hmin hrun hE
  have hHB := Lib.hid ((Below.refl _ w).alloc (Nat.le_refl _) (.cells #[.bool lit, .bool nan, .int .u16 (link : Int), .int .u32 (snap : Int)] 26))
  have b1 : Blk (w.alloc (.cells #[.bool lit, .bool nan, .int .u16 (link : Int), .int .u32 (snap : Int)] 26)) w.heap.size #[.bool lit, .bool nan, .int .u16 (link : Int), .int .u32 (snap : Int)] 26 := Blk.new rfl
  go_enter Tryd.func3, Tryd.ntmps3
  go_upto_region 1 with fail
  generalize World.alloc _ _ = W0 at hHB b1 ⊢
  go_upto_region 7 with (first
    | (go_at_call 7; refine (HK.out _ hHB.out).mono ?_; rintro e w1 ⟨rfl, hb1⟩; have HB1 := Lib.hid (keepW hHB.out hb1); have k1 := Blk.keep hb1 b1; clear hb1 b1)
    | (go_at_call 8; refine (HO.out _ HB1.out).mono ?_; rintro e w2 ⟨rfl, hb2⟩; have HB2 := Lib.hid (keepW HB1.out hb2); have l1 := Blk.keep hb2 k1; clear hb2 k1)
    | (go_at_call 9; refine (HR.out _ (keepR HB2.out)).mono ?_; rintro e w3 ⟨rfl, hb3⟩; have HB3 := Lib.hid (keepW (keepR HB2.out) hb3); have m1 := Blk.keep hb3 (l1.old _); have m2 : Blk w3 w2.heap.size _ 26 := Blk.keep hb3 (Blk.new (b := w2.heap.size) rfl); clear hb3 l1))
  go_cut [53] (fun s53 wx => s53 = .bool false ∧ Blk wx w.heap.size #[.bool lit, .bool nan, .int .u16 (link : Int), .int .u32 (snap : Int)] 26 ∧ Below w.heap.size w wx)
  case first =>
    refine wp_region_held_drew (S := (fun w' => Blk w' w2.heap.size #[.bool r0, .bool r1, .int .u16 (r2 : Int), .int .u32 (r3 : Int)] 26 ∧ Blk w' w3.heap.size #[.bool r0, .bool r1, .int .u16 (r2 : Int), .int .u32 (r3 : Int)] 31 ∧ Blk w' w.heap.size #[.bool lit, .bool nan, .int .u16 (link : Int), .int .u32 (snap : Int)] 26 ∧ Below w.heap.size w w')) (by kernel_rfl) ?_ (fun hHeld => ?_)
    · exact ⟨(m2.old _).drew, (Blk.new (b := w3.heap.size) rfl).drew, (m1.old _).drew, drewB (keepR HB3.out)⟩
    generalize World.drew _ = wz at hHeld  ⊢
    refine H.take 0 (v := ?_) rfl (by kernel_rfl) (fun _ _ _ h => h) (by rfl) ?_ (by assumption) ?_
    rotate_left
    · (intro wz hSw; (try dsimp only at hSw); have x1 := hSw.1.four; have x2 := hSw.2.1.four; have x3 := hSw.2.2.1.four;go_simp <;> with_reducible rfl)
    try simp only [Act.put, List.setIfInBounds_toArray, List.set_cons_zero, List.set_cons_succ]
    refine H.take 1 (v := ?_) rfl (by kernel_rfl) (fun _ _ _ h => h) (by rfl) ?_ (by assumption) ?_
    rotate_left
    · (intro wz hSw; (try dsimp only at hSw); have x1 := hSw.1.four; have x2 := hSw.2.1.four; have x3 := hSw.2.2.1.four;go_simp <;> with_reducible rfl)
    try simp only [Act.put, List.setIfInBounds_toArray, List.set_cons_zero, List.set_cons_succ]
    refine H.take 2 (v := ?_) rfl (by kernel_rfl) (fun _ _ _ h => h) (by rfl) ?_ (by assumption) ?_
    rotate_left
    · (intro wz hSw; (try dsimp only at hSw); have x1 := hSw.1.four; have x2 := hSw.2.1.four; have x3 := hSw.2.2.1.four;go_simp <;> with_reducible rfl)
    try simp only [Act.put, List.setIfInBounds_toArray, List.set_cons_zero, List.set_cons_succ]
    refine H.take 3 (v := ?_) rfl (by kernel_rfl) (fun _ _ _ h => h) (by rfl) ?_ (by assumption) ?_
    rotate_left
    · (intro wz hSw; (try dsimp only at hSw); have x1 := hSw.1.four; have x2 := hSw.2.1.four; have x3 := hSw.2.2.1.four;go_simp <;> with_reducible rfl)
    try simp only [Act.put, List.setIfInBounds_toArray, List.set_cons_zero, List.set_cons_succ]
    refine H.take 4 (v := ?_) rfl (by kernel_rfl) (fun _ _ _ h => h) (by rfl) ?_ (by assumption) ?_
    rotate_left
    · (intro wz hSw; (try dsimp only at hSw); have x1 := hSw.1.four; have x2 := hSw.2.1.four; have x3 := hSw.2.2.1.four;go_simp <;> with_reducible rfl)
    try simp only [Act.put, List.setIfInBounds_toArray, List.set_cons_zero, List.set_cons_succ]
    refine H.take 5 (v := ?_) rfl (by kernel_rfl) (fun _ _ _ h => h) (by rfl) ?_ (by assumption) ?_
    rotate_left
    · (intro wz hSw; (try dsimp only at hSw); have x1 := hSw.1.four; have x2 := hSw.2.1.four; have x3 := hSw.2.2.1.four;go_simp <;> with_reducible rfl)
    try simp only [Act.put, List.setIfInBounds_toArray, List.set_cons_zero, List.set_cons_succ]
    refine H.take 6 (v := ?_) rfl (by kernel_rfl) (fun _ _ _ h => h) (by rfl) ?_ (by assumption) ?_
    rotate_left
    · (intro wz hSw; (try dsimp only at hSw); have x1 := hSw.1.four; have x2 := hSw.2.1.four; have x3 := hSw.2.2.1.four;go_simp <;> with_reducible rfl)
    try simp only [Act.put, List.setIfInBounds_toArray, List.set_cons_zero, List.set_cons_succ]
    refine H.take 7 (v := ?_) rfl (by kernel_rfl) (fun _ _ _ h => h) (by rfl) ?_ (by assumption) ?_
    rotate_left
    · (intro wz hSw; (try dsimp only at hSw); have x1 := hSw.1.four; have x2 := hSw.2.1.four; have x3 := hSw.2.2.1.four;go_simp <;> with_reducible rfl)
    try simp only [Act.put, List.setIfInBounds_toArray, List.set_cons_zero, List.set_cons_succ]
    refine H.take 8 (v := ?_) rfl (by kernel_rfl) (fun _ _ _ h => h) (by rfl) ?_ (by assumption) ?_
    rotate_left
    · (intro wz hSw; (try dsimp only at hSw); have x1 := hSw.1.four; have x2 := hSw.2.1.four; have x3 := hSw.2.2.1.four;go_simp <;> with_reducible rfl)
    try simp only [Act.put, List.setIfInBounds_toArray, List.set_cons_zero, List.set_cons_succ]
    refine H.take 9 (v := ?_) rfl (by kernel_rfl) (fun _ _ _ h => h) (by rfl) ?_ (by assumption) ?_
    rotate_left
    · (intro wz hSw; (try dsimp only at hSw); have x1 := hSw.1.four; have x2 := hSw.2.1.four; have x3 := hSw.2.2.1.four;go_simp <;> with_reducible rfl)
    try simp only [Act.put, List.setIfInBounds_toArray, List.set_cons_zero, List.set_cons_succ]
    refine H.take 12 (v := ?_) rfl (by kernel_rfl) (fun _ _ _ h => h) (by rfl) ?_ (by assumption) ?_
    rotate_left
    · (intro wz hSw; (try dsimp only at hSw); have x1 := hSw.1.four; have x2 := hSw.2.1.four; have x3 := hSw.2.2.1.four;go_simp <;> with_reducible rfl)
    try simp only [Act.put, List.setIfInBounds_toArray, List.set_cons_zero, List.set_cons_succ]
    refine H.ready [10] (by kernel_rfl) (by simp) ?_
    refine H.one rfl (by rfl) (fun K hK => ?_) AllReadyH.nil
    go_simp
    go_at_call 10
    refine (HB.out _).mono ?_
    rintro e wk ⟨g39, rfl, r39, h39, hb⟩
    refine hK.out _ _ ?_ (fun hHeld2 => ?_)
    · exact ⟨hHeld.1.keep hb, hHeld.2.1.keep hb, hHeld.2.2.1.keep hb, hHeld.2.2.2.trans (hb.mono hHeld.2.2.2.size)⟩
    clear hHeld hK K; have hHeld := hHeld2; clear hHeld2
    clear hb
    try simp only [Act.put, List.setIfInBounds_toArray, List.set_cons_zero, List.set_cons_succ]
    refine H.ready [11, 13] (by kernel_rfl) (by simp) ?_
    refine H.one rfl (by rfl) (fun K hK => ?_) ?_
    · skip
      have hcv := HV1.out _ _ r39
      go_simp
      refine hK.out _ _ hHeld (fun hHeld2 => ?_)
      clear hHeld hK K; have hHeld := hHeld2; clear hHeld2
      try simp only [Act.put, List.setIfInBounds_toArray, List.set_cons_zero, List.set_cons_succ]
      refine H.ready [13] (by kernel_rfl) (by simp) ?_
      refine H.one rfl (by rfl) (fun K hK => ?_) AllReadyH.nil
      go_simp
      go_at_call 11
      refine (HC.out _).mono ?_
      rintro e wk ⟨A42, c42, rfl, q42, hb⟩
      refine hK.out _ _ ?_ (fun hHeld2 => ?_)
      · exact ⟨hHeld.1.keep hb, hHeld.2.1.keep hb, hHeld.2.2.1.keep hb, hHeld.2.2.2.trans (hb.mono hHeld.2.2.2.size)⟩
      clear hHeld hK K; have hHeld := hHeld2; clear hHeld2
      replace r39 := r39.keep hb
      clear hb
      try simp only [Act.put, List.setIfInBounds_toArray, List.set_cons_zero, List.set_cons_succ]
      refine H.ready [14] (by kernel_rfl) (by simp) ?_
      refine H.one rfl (by rfl) (fun K hK => ?_) AllReadyH.nil
      have hcv2 := HV2.out _ _ c42 q42
      go_simp
      refine hK.out _ _ hHeld (fun hHeld2 => ?_)
      clear hHeld hK K; have hHeld := hHeld2; clear hHeld2
      try simp only [Act.put, List.setIfInBounds_toArray, List.set_cons_zero, List.set_cons_succ]
      refine H.take 15 (v := ?_) rfl (by kernel_rfl) (fun _ _ _ h => h) (by rfl) ?_ (by assumption) ?_
      rotate_left
      · (intro wz hSw; (try dsimp only at hSw); have x1 := hSw.1.four; have x2 := hSw.2.1.four; have x3 := hSw.2.2.1.four;go_simp <;> with_reducible rfl)
      try simp only [Act.put, List.setIfInBounds_toArray, List.set_cons_zero, List.set_cons_succ]
      refine H.take 16 (v := ?_) rfl (by kernel_rfl) (fun _ _ _ h => h) (by rfl) ?_ (by assumption) ?_
      rotate_left
      · (intro wz hSw; (try dsimp only at hSw); have x1 := hSw.1.four; have x2 := hSw.2.1.four; have x3 := hSw.2.2.1.four;go_simp <;> with_reducible rfl)
      try simp only [Act.put, List.setIfInBounds_toArray, List.set_cons_zero, List.set_cons_succ]
      refine H.take 17 (v := ?_) rfl (by kernel_rfl) (fun _ _ _ h => h) (by rfl) ?_ (by assumption) ?_
      rotate_left
      · (intro wz hSw; (try dsimp only at hSw); have x1 := hSw.1.four; have x2 := hSw.2.1.four; have x3 := hSw.2.2.1.four;go_simp <;> with_reducible rfl)
      try simp only [Act.put, List.setIfInBounds_toArray, List.set_cons_zero, List.set_cons_succ]
      refine H.take 18 (v := ?_) rfl (by kernel_rfl) (fun _ _ _ h => h) (by rfl) ?_ (by assumption) ?_
      rotate_left
      · (intro wz hSw; (try dsimp only at hSw); have x1 := hSw.1.four; have x2 := hSw.2.1.four; have x3 := hSw.2.2.1.four;go_simp <;> with_reducible rfl)
      try simp only [Act.put, List.setIfInBounds_toArray, List.set_cons_zero, List.set_cons_succ]
      refine H.take 20 (v := ?_) rfl (by kernel_rfl) (fun _ _ _ h => h) (by rfl) ?_ (by assumption) ?_
      rotate_left
      · (intro wz hSw; (try dsimp only at hSw); have x1 := hSw.1.four; have x2 := hSw.2.1.four; have x3 := hSw.2.2.1.four;go_simp <;> with_reducible rfl)
      try simp only [Act.put, List.setIfInBounds_toArray, List.set_cons_zero, List.set_cons_succ]
      refine H.take 21 (v := ?_) rfl (by kernel_rfl) (fun _ _ _ h => h) (by rfl) ?_ (by assumption) ?_
      rotate_left
      · (intro wz hSw; (try dsimp only at hSw); have x1 := hSw.1.four; have x2 := hSw.2.1.four; have x3 := hSw.2.2.1.four;go_simp <;> with_reducible rfl)
      try simp only [Act.put, List.setIfInBounds_toArray, List.set_cons_zero, List.set_cons_succ]
      refine H.ready [19] (by kernel_rfl) (by simp) ?_
      refine H.one rfl (by rfl) (fun K hK => ?_) AllReadyH.nil
      go_simp
      go_at_call 12
      refine (HD.out _).mono ?_
      rintro e wk ⟨rfl, hb⟩
      refine hK.out _ _ ?_ (fun hHeld2 => ?_)
      · exact ⟨hHeld.1.keep hb, hHeld.2.1.keep hb, hHeld.2.2.1.keep hb, hHeld.2.2.2.trans (hb.mono hHeld.2.2.2.size)⟩
      clear hHeld hK K; have hHeld := hHeld2; clear hHeld2
      replace r39 := r39.keep hb
      clear hb
      try simp only [Act.put, List.setIfInBounds_toArray, List.set_cons_zero, List.set_cons_succ]
      refine H.ready [22] (by kernel_rfl) (by simp) ?_
      refine H.one rfl (by rfl) (fun K hK => ?_) AllReadyH.nil
      go_simp
      go_at_call 13
      refine (HE.out _).mono ?_
      rintro e wk ⟨rfl, hb⟩
      refine hK.out _ _ ?_ (fun hHeld2 => ?_)
      · exact ⟨hHeld.1.keep hb, hHeld.2.1.keep hb, hHeld.2.2.1.keep hb, hHeld.2.2.2.trans (hb.mono hHeld.2.2.2.size)⟩
      clear hHeld hK K; have hHeld := hHeld2; clear hHeld2
      replace r39 := r39.keep hb
      clear hb
      try simp only [Act.put, List.setIfInBounds_toArray, List.set_cons_zero, List.set_cons_succ]
      refine H.take 23 (v := ?_) rfl (by kernel_rfl) (fun _ _ _ h => h) (by rfl) ?_ (by assumption) ?_
      rotate_left
      · (intro wz hSw; (try dsimp only at hSw); have x1 := hSw.1.four; have x2 := hSw.2.1.four; have x3 := hSw.2.2.1.four;go_simp <;> with_reducible rfl)
      try simp only [Act.put, List.setIfInBounds_toArray, List.set_cons_zero, List.set_cons_succ]
      refine H.take 24 (v := ?_) rfl (by kernel_rfl) (fun _ _ _ h => h) (by rfl) ?_ (by assumption) ?_
      rotate_left
      · (intro wz hSw; (try dsimp only at hSw); have x1 := hSw.1.four; have x2 := hSw.2.1.four; have x3 := hSw.2.2.1.four;go_simp <;> with_reducible rfl)
      try simp only [Act.put, List.setIfInBounds_toArray, List.set_cons_zero, List.set_cons_succ]
      refine H.done (by kernel_rfl) ?_ _
      (go_wp2_with fail; go_meet; exact ⟨rfl, hHeld.2.2.1, hHeld.2.2.2⟩)
    refine H.one rfl (by rfl) (fun K hK => ?_) ?_
    · skip
      go_simp
      go_at_call 11
      refine (HC.out _).mono ?_
      rintro e wk ⟨A42, c42, rfl, q42, hb⟩
      refine hK.out _ _ ?_ (fun hHeld2 => ?_)
      · exact ⟨hHeld.1.keep hb, hHeld.2.1.keep hb, hHeld.2.2.1.keep hb, hHeld.2.2.2.trans (hb.mono hHeld.2.2.2.size)⟩
      clear hHeld hK K; have hHeld := hHeld2; clear hHeld2
      replace r39 := r39.keep hb
      clear hb
      try simp only [Act.put, List.setIfInBounds_toArray, List.set_cons_zero, List.set_cons_succ]
      refine H.ready [11, 14] (by kernel_rfl) (by simp) ?_
      refine H.one rfl (by rfl) (fun K hK => ?_) ?_
      · skip
        have hcv := HV1.out _ _ r39
        go_simp
        refine hK.out _ _ hHeld (fun hHeld2 => ?_)
        clear hHeld hK K; have hHeld := hHeld2; clear hHeld2
        try simp only [Act.put, List.setIfInBounds_toArray, List.set_cons_zero, List.set_cons_succ]
        refine H.ready [14] (by kernel_rfl) (by simp) ?_
        refine H.one rfl (by rfl) (fun K hK => ?_) AllReadyH.nil
        have hcv2 := HV2.out _ _ c42 q42
        go_simp
        refine hK.out _ _ hHeld (fun hHeld2 => ?_)
        clear hHeld hK K; have hHeld := hHeld2; clear hHeld2
        try simp only [Act.put, List.setIfInBounds_toArray, List.set_cons_zero, List.set_cons_succ]
        refine H.take 15 (v := ?_) rfl (by kernel_rfl) (fun _ _ _ h => h) (by rfl) ?_ (by assumption) ?_
        rotate_left
        · (intro wz hSw; (try dsimp only at hSw); have x1 := hSw.1.four; have x2 := hSw.2.1.four; have x3 := hSw.2.2.1.four;go_simp <;> with_reducible rfl)
        try simp only [Act.put, List.setIfInBounds_toArray, List.set_cons_zero, List.set_cons_succ]
        refine H.take 16 (v := ?_) rfl (by kernel_rfl) (fun _ _ _ h => h) (by rfl) ?_ (by assumption) ?_
        rotate_left
        · (intro wz hSw; (try dsimp only at hSw); have x1 := hSw.1.four; have x2 := hSw.2.1.four; have x3 := hSw.2.2.1.four;go_simp <;> with_reducible rfl)
        try simp only [Act.put, List.setIfInBounds_toArray, List.set_cons_zero, List.set_cons_succ]
        refine H.take 17 (v := ?_) rfl (by kernel_rfl) (fun _ _ _ h => h) (by rfl) ?_ (by assumption) ?_
        rotate_left
        · (intro wz hSw; (try dsimp only at hSw); have x1 := hSw.1.four; have x2 := hSw.2.1.four; have x3 := hSw.2.2.1.four;go_simp <;> with_reducible rfl)
        try simp only [Act.put, List.setIfInBounds_toArray, List.set_cons_zero, List.set_cons_succ]
        refine H.take 18 (v := ?_) rfl (by kernel_rfl) (fun _ _ _ h => h) (by rfl) ?_ (by assumption) ?_
        rotate_left
        · (intro wz hSw; (try dsimp only at hSw); have x1 := hSw.1.four; have x2 := hSw.2.1.four; have x3 := hSw.2.2.1.four;go_simp <;> with_reducible rfl)
        try simp only [Act.put, List.setIfInBounds_toArray, List.set_cons_zero, List.set_cons_succ]
        refine H.take 20 (v := ?_) rfl (by kernel_rfl) (fun _ _ _ h => h) (by rfl) ?_ (by assumption) ?_
        rotate_left
        · (intro wz hSw; (try dsimp only at hSw); have x1 := hSw.1.four; have x2 := hSw.2.1.four; have x3 := hSw.2.2.1.four;go_simp <;> with_reducible rfl)
        try simp only [Act.put, List.setIfInBounds_toArray, List.set_cons_zero, List.set_cons_succ]
        refine H.take 21 (v := ?_) rfl (by kernel_rfl) (fun _ _ _ h => h) (by rfl) ?_ (by assumption) ?_
        rotate_left
        · (intro wz hSw; (try dsimp only at hSw); have x1 := hSw.1.four; have x2 := hSw.2.1.four; have x3 := hSw.2.2.1.four;go_simp <;> with_reducible rfl)
        try simp only [Act.put, List.setIfInBounds_toArray, List.set_cons_zero, List.set_cons_succ]
        refine H.ready [19] (by kernel_rfl) (by simp) ?_
        refine H.one rfl (by rfl) (fun K hK => ?_) AllReadyH.nil
        go_simp
        go_at_call 12
        refine (HD.out _).mono ?_
        rintro e wk ⟨rfl, hb⟩
        refine hK.out _ _ ?_ (fun hHeld2 => ?_)
        · exact ⟨hHeld.1.keep hb, hHeld.2.1.keep hb, hHeld.2.2.1.keep hb, hHeld.2.2.2.trans (hb.mono hHeld.2.2.2.size)⟩
        clear hHeld hK K; have hHeld := hHeld2; clear hHeld2
        replace r39 := r39.keep hb
        clear hb
        try simp only [Act.put, List.setIfInBounds_toArray, List.set_cons_zero, List.set_cons_succ]
        refine H.ready [22] (by kernel_rfl) (by simp) ?_
        refine H.one rfl (by rfl) (fun K hK => ?_) AllReadyH.nil
        go_simp
        go_at_call 13
        refine (HE.out _).mono ?_
        rintro e wk ⟨rfl, hb⟩
        refine hK.out _ _ ?_ (fun hHeld2 => ?_)
        · exact ⟨hHeld.1.keep hb, hHeld.2.1.keep hb, hHeld.2.2.1.keep hb, hHeld.2.2.2.trans (hb.mono hHeld.2.2.2.size)⟩
        clear hHeld hK K; have hHeld := hHeld2; clear hHeld2
        replace r39 := r39.keep hb
        clear hb
        try simp only [Act.put, List.setIfInBounds_toArray, List.set_cons_zero, List.set_cons_succ]
        refine H.take 23 (v := ?_) rfl (by kernel_rfl) (fun _ _ _ h => h) (by rfl) ?_ (by assumption) ?_
        rotate_left
        · (intro wz hSw; (try dsimp only at hSw); have x1 := hSw.1.four; have x2 := hSw.2.1.four; have x3 := hSw.2.2.1.four;go_simp <;> with_reducible rfl)
        try simp only [Act.put, List.setIfInBounds_toArray, List.set_cons_zero, List.set_cons_succ]
        refine H.take 24 (v := ?_) rfl (by kernel_rfl) (fun _ _ _ h => h) (by rfl) ?_ (by assumption) ?_
        rotate_left
        · (intro wz hSw; (try dsimp only at hSw); have x1 := hSw.1.four; have x2 := hSw.2.1.four; have x3 := hSw.2.2.1.four;go_simp <;> with_reducible rfl)
        try simp only [Act.put, List.setIfInBounds_toArray, List.set_cons_zero, List.set_cons_succ]
        refine H.done (by kernel_rfl) ?_ _
        (go_wp2_with fail; go_meet; exact ⟨rfl, hHeld.2.2.1, hHeld.2.2.2⟩)
      refine H.one rfl (by rfl) (fun K hK => ?_) ?_
      · skip
        have hcv2 := HV2.out _ _ c42 q42
        go_simp
        refine hK.out _ _ hHeld (fun hHeld2 => ?_)
        clear hHeld hK K; have hHeld := hHeld2; clear hHeld2
        try simp only [Act.put, List.setIfInBounds_toArray, List.set_cons_zero, List.set_cons_succ]
        refine H.ready [11] (by kernel_rfl) (by simp) ?_
        refine H.one rfl (by rfl) (fun K hK => ?_) AllReadyH.nil
        have hcv := HV1.out _ _ r39
        go_simp
        refine hK.out _ _ hHeld (fun hHeld2 => ?_)
        clear hHeld hK K; have hHeld := hHeld2; clear hHeld2
        try simp only [Act.put, List.setIfInBounds_toArray, List.set_cons_zero, List.set_cons_succ]
        refine H.take 15 (v := ?_) rfl (by kernel_rfl) (fun _ _ _ h => h) (by rfl) ?_ (by assumption) ?_
        rotate_left
        · (intro wz hSw; (try dsimp only at hSw); have x1 := hSw.1.four; have x2 := hSw.2.1.four; have x3 := hSw.2.2.1.four;go_simp <;> with_reducible rfl)
        try simp only [Act.put, List.setIfInBounds_toArray, List.set_cons_zero, List.set_cons_succ]
        refine H.take 16 (v := ?_) rfl (by kernel_rfl) (fun _ _ _ h => h) (by rfl) ?_ (by assumption) ?_
        rotate_left
        · (intro wz hSw; (try dsimp only at hSw); have x1 := hSw.1.four; have x2 := hSw.2.1.four; have x3 := hSw.2.2.1.four;go_simp <;> with_reducible rfl)
        try simp only [Act.put, List.setIfInBounds_toArray, List.set_cons_zero, List.set_cons_succ]
        refine H.take 17 (v := ?_) rfl (by kernel_rfl) (fun _ _ _ h => h) (by rfl) ?_ (by assumption) ?_
        rotate_left
        · (intro wz hSw; (try dsimp only at hSw); have x1 := hSw.1.four; have x2 := hSw.2.1.four; have x3 := hSw.2.2.1.four;go_simp <;> with_reducible rfl)
        try simp only [Act.put, List.setIfInBounds_toArray, List.set_cons_zero, List.set_cons_succ]
        refine H.take 18 (v := ?_) rfl (by kernel_rfl) (fun _ _ _ h => h) (by rfl) ?_ (by assumption) ?_
        rotate_left
        · (intro wz hSw; (try dsimp only at hSw); have x1 := hSw.1.four; have x2 := hSw.2.1.four; have x3 := hSw.2.2.1.four;go_simp <;> with_reducible rfl)
        try simp only [Act.put, List.setIfInBounds_toArray, List.set_cons_zero, List.set_cons_succ]
        refine H.take 20 (v := ?_) rfl (by kernel_rfl) (fun _ _ _ h => h) (by rfl) ?_ (by assumption) ?_
        rotate_left
        · (intro wz hSw; (try dsimp only at hSw); have x1 := hSw.1.four; have x2 := hSw.2.1.four; have x3 := hSw.2.2.1.four;go_simp <;> with_reducible rfl)
        try simp only [Act.put, List.setIfInBounds_toArray, List.set_cons_zero, List.set_cons_succ]
        refine H.take 21 (v := ?_) rfl (by kernel_rfl) (fun _ _ _ h => h) (by rfl) ?_ (by assumption) ?_
        rotate_left
        · (intro wz hSw; (try dsimp only at hSw); have x1 := hSw.1.four; have x2 := hSw.2.1.four; have x3 := hSw.2.2.1.four;go_simp <;> with_reducible rfl)
        try simp only [Act.put, List.setIfInBounds_toArray, List.set_cons_zero, List.set_cons_succ]
        refine H.ready [19] (by kernel_rfl) (by simp) ?_
        refine H.one rfl (by rfl) (fun K hK => ?_) AllReadyH.nil
        go_simp
        go_at_call 12
        refine (HD.out _).mono ?_
        rintro e wk ⟨rfl, hb⟩
        refine hK.out _ _ ?_ (fun hHeld2 => ?_)
        · exact ⟨hHeld.1.keep hb, hHeld.2.1.keep hb, hHeld.2.2.1.keep hb, hHeld.2.2.2.trans (hb.mono hHeld.2.2.2.size)⟩
        clear hHeld hK K; have hHeld := hHeld2; clear hHeld2
        replace r39 := r39.keep hb
        clear hb
        try simp only [Act.put, List.setIfInBounds_toArray, List.set_cons_zero, List.set_cons_succ]
        refine H.ready [22] (by kernel_rfl) (by simp) ?_
        refine H.one rfl (by rfl) (fun K hK => ?_) AllReadyH.nil
        go_simp
        go_at_call 13
        refine (HE.out _).mono ?_
        rintro e wk ⟨rfl, hb⟩
        refine hK.out _ _ ?_ (fun hHeld2 => ?_)
        · exact ⟨hHeld.1.keep hb, hHeld.2.1.keep hb, hHeld.2.2.1.keep hb, hHeld.2.2.2.trans (hb.mono hHeld.2.2.2.size)⟩
        clear hHeld hK K; have hHeld := hHeld2; clear hHeld2
        replace r39 := r39.keep hb
        clear hb
        try simp only [Act.put, List.setIfInBounds_toArray, List.set_cons_zero, List.set_cons_succ]
        refine H.take 23 (v := ?_) rfl (by kernel_rfl) (fun _ _ _ h => h) (by rfl) ?_ (by assumption) ?_
        rotate_left
        · (intro wz hSw; (try dsimp only at hSw); have x1 := hSw.1.four; have x2 := hSw.2.1.four; have x3 := hSw.2.2.1.four;go_simp <;> with_reducible rfl)
        try simp only [Act.put, List.setIfInBounds_toArray, List.set_cons_zero, List.set_cons_succ]
        refine H.take 24 (v := ?_) rfl (by kernel_rfl) (fun _ _ _ h => h) (by rfl) ?_ (by assumption) ?_
        rotate_left
        · (intro wz hSw; (try dsimp only at hSw); have x1 := hSw.1.four; have x2 := hSw.2.1.four; have x3 := hSw.2.2.1.four;go_simp <;> with_reducible rfl)
        try simp only [Act.put, List.setIfInBounds_toArray, List.set_cons_zero, List.set_cons_succ]
        refine H.done (by kernel_rfl) ?_ _
        (go_wp2_with fail; go_meet; exact ⟨rfl, hHeld.2.2.1, hHeld.2.2.2⟩)
      exact AllReadyH.nil
    exact AllReadyH.nil
  case rest =>
    obtain ⟨rfl, hfile, hbe⟩ := hcut
    clear HK HO HR HC HE HV1 HV2 HD HMS HB
    go_upto_region 10 with (go_at_call 14; refine (HM.out _ hbe).mono ?_; rintro e w2 ⟨rfl, hb2⟩; have HB2 := Lib.hid (keepW hbe hb2); clear hb2)
    have k9 : Blk (w2.alloc (.cells #[.bool ml, .bool mn, .int .u16 0, .int .u32 0] 26)) w2.heap.size #[.bool ml, .bool mn, .int .u16 0, .int .u32 0] 26 := Blk.new rfl
    have HB3 := Lib.hid (keepR HB2.out (o := .cells #[.bool ml, .bool mn, .int .u16 0, .int .u32 0] 26))
    generalize World.alloc w2 _ = W3 at k9 HB3 ⊢
    have hmin := HMIN.out; have hrun := HRUN.out
    clear hfile hbe HM
    go_upto_region 11 with (first
      | (at_builtin; refine at_app2 rfl _ _ rfl W3.heap.size _ [] rfl (Owns.of_blk (l := []) (n := 0) (Blk.new rfl) (Nat.le_refl _) rfl (by decide)) A0 E cap (b.take 4) rfl (HRD.out _ (keepR HB3.out)) HE5.out (by have := HE2.out; simp; omega) W3 ((Below.refl _ _).alloc (Nat.le_refl _) _) (Nat.le_refl _) ?_; intro v4 w4 ow4 hb4; have HB4 := Lib.hid hb4; clear hb4)
      | (at_builtin; refine at_appz rfl _ _ rfl W3.heap.size _ _ rfl ow4 20 rfl (by decide) (by have := HE2.out; simp; omega) W3 HB4.out (Nat.le_refl _) ?_; intro v5 w5 ow5 hb5; have ow6 : Owns w5 W3.heap.size v5 (padded b) := ow5; obtain ⟨A5, c5, rfl, hc5, hr5⟩ := ow6.rd; have HB5 := Lib.hid hb5; clear hb5 ow5 ow6 ow4)
      | (go_at_call 9; refine (HP.out A5 c5 _ hc5 hr5).mono ?_; rintro e w6 ⟨rfl, hb6⟩; have HB6 := Lib.hid (keepW HB5.out hb6); have k96 := Blk.keep HB6.out k9; clear hb6 hc5 hr5))
    have k11 : Blk (w6.alloc (.cells #[.bool p0, .bool p1, .int .u16 (p2 : Int), .int .u32 (p3 : Int)] 31)) w2.heap.size #[.bool ml, .bool mn, .int .u16 0, .int .u32 0] 26 := k96.old _
    have hB7 : Below w.heap.size w (w6.alloc (.cells #[.bool p0, .bool p1, .int .u16 (p2 : Int), .int .u32 (p3 : Int)] 31)) := keepR (HB3.out.trans (HB6.out.mono HB3.out.size))
    generalize World.alloc w6 _ = W7 at k11 hB7 ⊢
    have HB7 := Lib.hid hB7
    clear hB7 k96 hmin hrun
    have hc9 := k11.four
    by_cases h4 : len < 4
    · obtain ⟨rfl, rfl, rfl⟩ := HMA.out (by rw [HLN.out]; exact h4)
      have h4I : ¬ (4 : Int) ≤ (len : Int) := by omega
      clear HMB HMC
      go_wp2_with fail
      refine wp_region_held_drew (S := (fun w' => Below w.heap.size w w')) (by kernel_rfl) ?_ (fun hHeld => ?_)
      · exact drewB HB7.out
      generalize World.drew _ = wz at hHeld  ⊢
      refine H.take 0 (v := ?_) rfl (by kernel_rfl) (fun _ _ _ h => h) (by rfl) ?_ (by assumption) ?_
      rotate_left
      · (intro wz hSw; (try dsimp only at hSw); go_simp <;> with_reducible rfl)
      try simp only [Act.put, List.setIfInBounds_toArray, List.set_cons_zero, List.set_cons_succ]
      refine H.take 1 (v := ?_) rfl (by kernel_rfl) (fun _ _ _ h => h) (by rfl) ?_ (by assumption) ?_
      rotate_left
      · (intro wz hSw; (try dsimp only at hSw); go_simp <;> with_reducible rfl)
      try simp only [Act.put, List.setIfInBounds_toArray, List.set_cons_zero, List.set_cons_succ]
      refine H.take 2 (v := ?_) rfl (by kernel_rfl) (fun _ _ _ h => h) (by rfl) ?_ (by assumption) ?_
      rotate_left
      · (intro wz hSw; (try dsimp only at hSw); go_simp <;> with_reducible rfl)
      try simp only [Act.put, List.setIfInBounds_toArray, List.set_cons_zero, List.set_cons_succ]
      refine H.skip 3 rfl (by kernel_rfl) (fun _ _ _ h => h) (by rfl) (by assumption) ?_
      try simp only [Act.put, List.setIfInBounds_toArray, List.set_cons_zero, List.set_cons_succ]
      refine H.skip 4 rfl (by kernel_rfl) (fun _ _ _ h => h) (by rfl) (by assumption) ?_
      try simp only [Act.put, List.setIfInBounds_toArray, List.set_cons_zero, List.set_cons_succ]
      refine H.skip 5 rfl (by kernel_rfl) (fun _ _ _ h => h) (by rfl) (by assumption) ?_
      try simp only [Act.put, List.setIfInBounds_toArray, List.set_cons_zero, List.set_cons_succ]
      refine H.skip 6 rfl (by kernel_rfl) (fun _ _ _ h => h) (by rfl) (by assumption) ?_
      try simp only [Act.put, List.setIfInBounds_toArray, List.set_cons_zero, List.set_cons_succ]
      refine H.skip 7 rfl (by kernel_rfl) (fun _ _ _ h => h) (by rfl) (by assumption) ?_
      try simp only [Act.put, List.setIfInBounds_toArray, List.set_cons_zero, List.set_cons_succ]
      refine H.skip 8 rfl (by kernel_rfl) (fun _ _ _ h => h) (by rfl) (by assumption) ?_
      try simp only [Act.put, List.setIfInBounds_toArray, List.set_cons_zero, List.set_cons_succ]
      refine H.skip 9 rfl (by kernel_rfl) (fun _ _ _ h => h) (by rfl) (by assumption) ?_
      try simp only [Act.put, List.setIfInBounds_toArray, List.set_cons_zero, List.set_cons_succ]
      refine H.skip 10 rfl (by kernel_rfl) (fun _ _ _ h => h) (by rfl) (by assumption) ?_
      try simp only [Act.put, List.setIfInBounds_toArray, List.set_cons_zero, List.set_cons_succ]
      refine H.skip 11 rfl (by kernel_rfl) (fun _ _ _ h => h) (by rfl) (by assumption) ?_
      try simp only [Act.put, List.setIfInBounds_toArray, List.set_cons_zero, List.set_cons_succ]
      refine H.skip 12 rfl (by kernel_rfl) (fun _ _ _ h => h) (by rfl) (by assumption) ?_
      try simp only [Act.put, List.setIfInBounds_toArray, List.set_cons_zero, List.set_cons_succ]
      refine H.skip 13 rfl (by kernel_rfl) (fun _ _ _ h => h) (by rfl) (by assumption) ?_
      try simp only [Act.put, List.setIfInBounds_toArray, List.set_cons_zero, List.set_cons_succ]
      refine H.skip 14 rfl (by kernel_rfl) (fun _ _ _ h => h) (by rfl) (by assumption) ?_
      try simp only [Act.put, List.setIfInBounds_toArray, List.set_cons_zero, List.set_cons_succ]
      refine H.skip 15 rfl (by kernel_rfl) (fun _ _ _ h => h) (by rfl) (by assumption) ?_
      try simp only [Act.put, List.setIfInBounds_toArray, List.set_cons_zero, List.set_cons_succ]
      refine H.skip 16 rfl (by kernel_rfl) (fun _ _ _ h => h) (by rfl) (by assumption) ?_
      try simp only [Act.put, List.setIfInBounds_toArray, List.set_cons_zero, List.set_cons_succ]
      refine H.skip 17 rfl (by kernel_rfl) (fun _ _ _ h => h) (by rfl) (by assumption) ?_
      try simp only [Act.put, List.setIfInBounds_toArray, List.set_cons_zero, List.set_cons_succ]
      refine H.skip 18 rfl (by kernel_rfl) (fun _ _ _ h => h) (by rfl) (by assumption) ?_
      try simp only [Act.put, List.setIfInBounds_toArray, List.set_cons_zero, List.set_cons_succ]
      refine H.skip 19 rfl (by kernel_rfl) (fun _ _ _ h => h) (by rfl) (by assumption) ?_
      try simp only [Act.put, List.setIfInBounds_toArray, List.set_cons_zero, List.set_cons_succ]
      refine H.skip 20 rfl (by kernel_rfl) (fun _ _ _ h => h) (by rfl) (by assumption) ?_
      try simp only [Act.put, List.setIfInBounds_toArray, List.set_cons_zero, List.set_cons_succ]
      refine H.take 21 (v := ?_) rfl (by kernel_rfl) (fun _ _ _ h => h) (by rfl) ?_ (by assumption) ?_
      rotate_left
      · (intro wz hSw; (try dsimp only at hSw); go_simp <;> with_reducible rfl)
      try simp only [Act.put, List.setIfInBounds_toArray, List.set_cons_zero, List.set_cons_succ]
      refine H.take 22 (v := ?_) rfl (by kernel_rfl) (fun _ _ _ h => h) (by rfl) ?_ (by assumption) ?_
      rotate_left
      · (intro wz hSw; (try dsimp only at hSw); go_simp <;> with_reducible rfl)
      try simp only [Act.put, List.setIfInBounds_toArray, List.set_cons_zero, List.set_cons_succ]
      refine H.done (by kernel_rfl) ?_ _
      go_wp2_with fail
      go_ret
      exact ⟨rfl, hHeld⟩
    · have h4I : (4 : Int) ≤ (len : Int) := by omega
      have hl4 : 4 ≤ b.length := by rw [HLN.out]; omega
      cases hbeg : begF b
      · obtain ⟨rfl, rfl, rfl⟩ := HMC.out hl4 hbeg
        have hpe : pe = 120 := HPB.out.2 (by rw [HPL.out hl4]; exact hbeg)
        subst hpe
        clear HMB HMA h4 hl4
        go_wp2_with fail
        refine wp_region_held_drew (S := (fun w' => Below w.heap.size w w')) (by kernel_rfl) ?_ (fun hHeld => ?_)
        · exact drewB HB7.out
        generalize World.drew _ = wz at hHeld  ⊢
        refine H.take 0 (v := ?_) rfl (by kernel_rfl) (fun _ _ _ h => h) (by rfl) ?_ (by assumption) ?_
        rotate_left
        · (intro wz hSw; (try dsimp only at hSw); go_simp <;> with_reducible rfl)
        try simp only [Act.put, List.setIfInBounds_toArray, List.set_cons_zero, List.set_cons_succ]
        refine H.take 1 (v := ?_) rfl (by kernel_rfl) (fun _ _ _ h => h) (by rfl) ?_ (by assumption) ?_
        rotate_left
        · (intro wz hSw; (try dsimp only at hSw); go_simp <;> with_reducible rfl)
        try simp only [Act.put, List.setIfInBounds_toArray, List.set_cons_zero, List.set_cons_succ]
        refine H.take 2 (v := ?_) rfl (by kernel_rfl) (fun _ _ _ h => h) (by rfl) ?_ (by assumption) ?_
        rotate_left
        · (intro wz hSw; (try dsimp only at hSw); go_simp <;> with_reducible rfl)
        try simp only [Act.put, List.setIfInBounds_toArray, List.set_cons_zero, List.set_cons_succ]
        refine H.skip 3 rfl (by kernel_rfl) (fun _ _ _ h => h) (by rfl) (by assumption) ?_
        try simp only [Act.put, List.setIfInBounds_toArray, List.set_cons_zero, List.set_cons_succ]
        refine H.skip 4 rfl (by kernel_rfl) (fun _ _ _ h => h) (by rfl) (by assumption) ?_
        try simp only [Act.put, List.setIfInBounds_toArray, List.set_cons_zero, List.set_cons_succ]
        refine H.skip 5 rfl (by kernel_rfl) (fun _ _ _ h => h) (by rfl) (by assumption) ?_
        try simp only [Act.put, List.setIfInBounds_toArray, List.set_cons_zero, List.set_cons_succ]
        refine H.skip 6 rfl (by kernel_rfl) (fun _ _ _ h => h) (by rfl) (by assumption) ?_
        try simp only [Act.put, List.setIfInBounds_toArray, List.set_cons_zero, List.set_cons_succ]
        refine H.skip 7 rfl (by kernel_rfl) (fun _ _ _ h => h) (by rfl) (by assumption) ?_
        try simp only [Act.put, List.setIfInBounds_toArray, List.set_cons_zero, List.set_cons_succ]
        refine H.skip 8 rfl (by kernel_rfl) (fun _ _ _ h => h) (by rfl) (by assumption) ?_
        try simp only [Act.put, List.setIfInBounds_toArray, List.set_cons_zero, List.set_cons_succ]
        refine H.skip 9 rfl (by kernel_rfl) (fun _ _ _ h => h) (by rfl) (by assumption) ?_
        try simp only [Act.put, List.setIfInBounds_toArray, List.set_cons_zero, List.set_cons_succ]
        refine H.skip 10 rfl (by kernel_rfl) (fun _ _ _ h => h) (by rfl) (by assumption) ?_
        try simp only [Act.put, List.setIfInBounds_toArray, List.set_cons_zero, List.set_cons_succ]
        refine H.skip 11 rfl (by kernel_rfl) (fun _ _ _ h => h) (by rfl) (by assumption) ?_
        try simp only [Act.put, List.setIfInBounds_toArray, List.set_cons_zero, List.set_cons_succ]
        refine H.skip 12 rfl (by kernel_rfl) (fun _ _ _ h => h) (by rfl) (by assumption) ?_
        try simp only [Act.put, List.setIfInBounds_toArray, List.set_cons_zero, List.set_cons_succ]
        refine H.skip 13 rfl (by kernel_rfl) (fun _ _ _ h => h) (by rfl) (by assumption) ?_
        try simp only [Act.put, List.setIfInBounds_toArray, List.set_cons_zero, List.set_cons_succ]
        refine H.skip 14 rfl (by kernel_rfl) (fun _ _ _ h => h) (by rfl) (by assumption) ?_
        try simp only [Act.put, List.setIfInBounds_toArray, List.set_cons_zero, List.set_cons_succ]
        refine H.skip 15 rfl (by kernel_rfl) (fun _ _ _ h => h) (by rfl) (by assumption) ?_
        try simp only [Act.put, List.setIfInBounds_toArray, List.set_cons_zero, List.set_cons_succ]
        refine H.skip 16 rfl (by kernel_rfl) (fun _ _ _ h => h) (by rfl) (by assumption) ?_
        try simp only [Act.put, List.setIfInBounds_toArray, List.set_cons_zero, List.set_cons_succ]
        refine H.skip 17 rfl (by kernel_rfl) (fun _ _ _ h => h) (by rfl) (by assumption) ?_
        try simp only [Act.put, List.setIfInBounds_toArray, List.set_cons_zero, List.set_cons_succ]
        refine H.skip 18 rfl (by kernel_rfl) (fun _ _ _ h => h) (by rfl) (by assumption) ?_
        try simp only [Act.put, List.setIfInBounds_toArray, List.set_cons_zero, List.set_cons_succ]
        refine H.skip 19 rfl (by kernel_rfl) (fun _ _ _ h => h) (by rfl) (by assumption) ?_
        try simp only [Act.put, List.setIfInBounds_toArray, List.set_cons_zero, List.set_cons_succ]
        refine H.skip 20 rfl (by kernel_rfl) (fun _ _ _ h => h) (by rfl) (by assumption) ?_
        try simp only [Act.put, List.setIfInBounds_toArray, List.set_cons_zero, List.set_cons_succ]
        refine H.take 21 (v := ?_) rfl (by kernel_rfl) (fun _ _ _ h => h) (by rfl) ?_ (by assumption) ?_
        rotate_left
        · (intro wz hSw; (try dsimp only at hSw); go_simp <;> with_reducible rfl)
        try simp only [Act.put, List.setIfInBounds_toArray, List.set_cons_zero, List.set_cons_succ]
        refine H.take 22 (v := ?_) rfl (by kernel_rfl) (fun _ _ _ h => h) (by rfl) ?_ (by assumption) ?_
        rotate_left
        · (intro wz hSw; (try dsimp only at hSw); go_simp <;> with_reducible rfl)
        try simp only [Act.put, List.setIfInBounds_toArray, List.set_cons_zero, List.set_cons_succ]
        refine H.done (by kernel_rfl) ?_ _
        go_wp2_with fail
        go_ret
        exact ⟨rfl, hHeld⟩
      · obtain ⟨rfl, htk⟩ := HMB.out hl4 hbeg
        have hpe : ¬ pe = 120 := fun h => by
          have h2 := HPB.out.1 h
          rw [HPL.out hl4, hbeg] at h2; cases h2
        clear HMC HMA
        have hE4 : E = 4 := by have := HE2.out; omega
        subst hE4
        have HTK := Lib.hid htk
        clear htk h4 hl4 hbeg
        have hpe2 : (pe != 120) = true := by simp [hpe]
        have hpe3 : (pe == 120) = false := by simp [hpe]
        have hpe4 : decide (pe = 120) = false := by simp [hpe]
        go_wp2_with fail
        have hsl : ∀ g w, (Instr.slice 22 (.slice (some ⟨g, 0, none⟩) 24 24) none (some (.int .i64 4)) none).run Tryd.prog w = .ok (.slice (some ⟨g, 0, none⟩) 4 24) w := fun g w => slice_all g 4 24 (by decide) (by decide) w
        have hrun4 : ∀ w, (Instr.slice 22 (.slice A len cap) none (some (.int .i64 4)) none).run Tryd.prog w = .ok (.slice A0 4 cap) w := HRUN.out
        have hcb : ∀ w', Below w.heap.size w w' → (convert 22 9 (.slice A0 4 cap)).run Tryd.prog w' = .ok (.string ⟨(mg ml mn).toArray⟩) w' := fun w' hb => by
          have h := conv_rd (HRD.out w' hb) cap
          rw [HE5.out, HTK.out] at h
          exact h
        generalize mg ml mn = tb at *
        refine wp_region_held_drew (S := (fun w' => Blk w' w2.heap.size #[.bool ml, .bool mn, .int .u16 0, .int .u32 0] 26 ∧ Below w.heap.size w w')) (by kernel_rfl) ?_ (fun hHeld => ?_)
        · exact ⟨k11.drew, drewB HB7.out⟩
        generalize World.drew _ = wz at hHeld  ⊢
        refine H.take 0 (v := ?_) rfl (by kernel_rfl) (fun _ _ _ h => h) (by rfl) ?_ (by assumption) ?_
        rotate_left
        · (intro wz hSw; (try dsimp only at hSw); have x1 := hSw.1.four; have x2 := hcb wz hSw.2;go_simp <;> with_reducible rfl)
        try simp only [Act.put, List.setIfInBounds_toArray, List.set_cons_zero, List.set_cons_succ]
        refine H.take 1 (v := ?_) rfl (by kernel_rfl) (fun _ _ _ h => h) (by rfl) ?_ (by assumption) ?_
        rotate_left
        · (intro wz hSw; (try dsimp only at hSw); have x1 := hSw.1.four; have x2 := hcb wz hSw.2;go_simp <;> with_reducible rfl)
        try simp only [Act.put, List.setIfInBounds_toArray, List.set_cons_zero, List.set_cons_succ]
        refine H.take 2 (v := ?_) rfl (by kernel_rfl) (fun _ _ _ h => h) (by rfl) ?_ (by assumption) ?_
        rotate_left
        · (intro wz hSw; (try dsimp only at hSw); have x1 := hSw.1.four; have x2 := hcb wz hSw.2;go_simp <;> with_reducible rfl)
        try simp only [Act.put, List.setIfInBounds_toArray, List.set_cons_zero, List.set_cons_succ]
        refine H.take 3 (v := ?_) rfl (by kernel_rfl) (fun _ _ _ h => h) (by rfl) ?_ (by assumption) ?_
        rotate_left
        · (intro wz hSw; (try dsimp only at hSw); have x1 := hSw.1.four; have x2 := hcb wz hSw.2;go_simp <;> with_reducible rfl)
        try simp only [Act.put, List.setIfInBounds_toArray, List.set_cons_zero, List.set_cons_succ]
        refine H.take 4 (v := ?_) rfl (by kernel_rfl) (fun _ _ _ h => h) (by rfl) ?_ (by assumption) ?_
        rotate_left
        · (intro wz hSw; (try dsimp only at hSw); have x1 := hSw.1.four; have x2 := hcb wz hSw.2;go_simp <;> with_reducible rfl)
        try simp only [Act.put, List.setIfInBounds_toArray, List.set_cons_zero, List.set_cons_succ]
        refine H.take 5 (v := ?_) rfl (by kernel_rfl) (fun _ _ _ h => h) (by rfl) ?_ (by assumption) ?_
        rotate_left
        · (intro wz hSw; (try dsimp only at hSw); have x1 := hSw.1.four; have x2 := hcb wz hSw.2;go_simp <;> with_reducible rfl)
        try simp only [Act.put, List.setIfInBounds_toArray, List.set_cons_zero, List.set_cons_succ]
        refine H.take 6 (v := ?_) rfl (by kernel_rfl) (fun _ _ _ h => h) (by rfl) ?_ (by assumption) ?_
        rotate_left
        · (intro wz hSw; (try dsimp only at hSw); have x1 := hSw.1.four; have x2 := hcb wz hSw.2;go_simp <;> with_reducible rfl)
        try simp only [Act.put, List.setIfInBounds_toArray, List.set_cons_zero, List.set_cons_succ]
        refine H.take 7 (v := ?_) rfl (by kernel_rfl) (fun _ _ _ h => h) (by rfl) ?_ (by assumption) ?_
        rotate_left
        · (intro wz hSw; (try dsimp only at hSw); have x1 := hSw.1.four; have x2 := hcb wz hSw.2;go_simp <;> with_reducible rfl)
        try simp only [Act.put, List.setIfInBounds_toArray, List.set_cons_zero, List.set_cons_succ]
        refine H.take 8 (v := ?_) rfl (by kernel_rfl) (fun _ _ _ h => h) (by rfl) ?_ (by assumption) ?_
        rotate_left
        · (intro wz hSw; (try dsimp only at hSw); have x1 := hSw.1.four; have x2 := hcb wz hSw.2;go_simp <;> with_reducible rfl)
        try simp only [Act.put, List.setIfInBounds_toArray, List.set_cons_zero, List.set_cons_succ]
        refine H.take 9 (v := ?_) rfl (by kernel_rfl) (fun _ _ _ h => h) (by rfl) ?_ (by assumption) ?_
        rotate_left
        · (intro wz hSw; (try dsimp only at hSw); have x1 := hSw.1.four; have x2 := hcb wz hSw.2;go_simp <;> with_reducible rfl)
        try simp only [Act.put, List.setIfInBounds_toArray, List.set_cons_zero, List.set_cons_succ]
        refine H.take 10 (v := ?_) rfl (by kernel_rfl) (fun _ _ _ h => h) (by rfl) ?_ (by assumption) ?_
        rotate_left
        · (intro wz hSw; (try dsimp only at hSw); have x1 := hSw.1.four; have x2 := hcb wz hSw.2;go_simp <;> with_reducible rfl)
        try simp only [Act.put, List.setIfInBounds_toArray, List.set_cons_zero, List.set_cons_succ]
        refine H.take 11 (v := ?_) rfl (by kernel_rfl) (fun _ _ _ h => h) (by rfl) ?_ (by assumption) ?_
        rotate_left
        · (intro wz hSw; (try dsimp only at hSw); have x1 := hSw.1.four; have x2 := hcb wz hSw.2;go_simp <;> with_reducible rfl)
        try simp only [Act.put, List.setIfInBounds_toArray, List.set_cons_zero, List.set_cons_succ]
        refine H.take 12 (v := ?_) rfl (by kernel_rfl) (fun _ _ _ h => h) (by rfl) ?_ (by assumption) ?_
        rotate_left
        · (intro wz hSw; (try dsimp only at hSw); have x1 := hSw.1.four; have x2 := hcb wz hSw.2;go_simp <;> with_reducible rfl)
        try simp only [Act.put, List.setIfInBounds_toArray, List.set_cons_zero, List.set_cons_succ]
        refine H.take 16 (v := ?_) rfl (by kernel_rfl) (fun _ _ _ h => h) (by rfl) ?_ (by assumption) ?_
        rotate_left
        · (intro wz hSw; (try dsimp only at hSw); have x1 := hSw.1.four; have x2 := hcb wz hSw.2;go_simp <;> with_reducible rfl)
        try simp only [Act.put, List.setIfInBounds_toArray, List.set_cons_zero, List.set_cons_succ]
        refine H.take 17 (v := ?_) rfl (by kernel_rfl) (fun _ _ _ h => h) (by rfl) ?_ (by assumption) ?_
        rotate_left
        · (intro wz hSw; (try dsimp only at hSw); have x1 := hSw.1.four; have x2 := hcb wz hSw.2;go_simp <;> with_reducible rfl)
        try simp only [Act.put, List.setIfInBounds_toArray, List.set_cons_zero, List.set_cons_succ]
        refine H.take 18 (v := ?_) rfl (by kernel_rfl) (fun _ _ _ h => h) (by rfl) ?_ (by assumption) ?_
        rotate_left
        · (intro wz hSw; (try dsimp only at hSw); have x1 := hSw.1.four; have x2 := hcb wz hSw.2;go_simp <;> with_reducible rfl)
        try simp only [Act.put, List.setIfInBounds_toArray, List.set_cons_zero, List.set_cons_succ]
        refine H.ready [13] (by kernel_rfl) (by simp) ?_
        refine H.one rfl (by rfl) (fun K hK => ?_) AllReadyH.nil
        go_simp
        go_at_call 10
        refine (HBM.out _).mono ?_
        rintro e wk ⟨g103, rfl, r103, h103, hb⟩
        refine hK.out _ _ ?_ (fun hHeld2 => ?_)
        · exact ⟨hHeld.1.keep hb, hHeld.2.trans (hb.mono hHeld.2.size)⟩
        clear hHeld hK K; have hHeld := hHeld2; clear hHeld2
        clear hb
        try simp only [Act.put, List.setIfInBounds_toArray, List.set_cons_zero, List.set_cons_succ]
        refine H.take 14 (v := ?_) rfl (by kernel_rfl) (fun _ _ _ h => h) (by rfl) ?_ (by assumption) ?_
        rotate_left
        · (intro wz hSw; (try dsimp only at hSw); have x1 := hSw.1.four; have x2 := hcb wz hSw.2;go_simp <;> with_reducible rfl)
        try simp only [Act.put, List.setIfInBounds_toArray, List.set_cons_zero, List.set_cons_succ]
        refine H.ready [15] (by kernel_rfl) (by simp) ?_
        refine H.one rfl (by rfl) (fun K hK => ?_) AllReadyH.nil
        have hcv := HV4.out _ _ r103
        go_simp
        refine hK.out _ _ hHeld (fun hHeld2 => ?_)
        clear hHeld hK K; have hHeld := hHeld2; clear hHeld2
        try simp only [Act.put, List.setIfInBounds_toArray, List.set_cons_zero, List.set_cons_succ]
        refine H.take 19 (v := ?_) rfl (by kernel_rfl) (fun _ _ _ h => h) (by rfl) ?_ (by assumption) ?_
        rotate_left
        · (intro wz hSw; (try dsimp only at hSw); have x1 := hSw.1.four; have x2 := hcb wz hSw.2;go_simp <;> with_reducible rfl)
        try simp only [Act.put, List.setIfInBounds_toArray, List.set_cons_zero, List.set_cons_succ]
        refine H.take 20 (v := ?_) rfl (by kernel_rfl) (fun _ _ _ h => h) (by rfl) ?_ (by assumption) ?_
        rotate_left
        · (intro wz hSw; (try dsimp only at hSw); have x1 := hSw.1.four; have x2 := hcb wz hSw.2;go_simp <;> with_reducible rfl)
        try simp only [Act.put, List.setIfInBounds_toArray, List.set_cons_zero, List.set_cons_succ]
        refine H.take 21 (v := ?_) rfl (by kernel_rfl) (fun _ _ _ h => h) (by rfl) ?_ (by assumption) ?_
        rotate_left
        · (intro wz hSw; (try dsimp only at hSw); have x1 := hSw.1.four; have x2 := hcb wz hSw.2;go_simp <;> with_reducible rfl)
        try simp only [Act.put, List.setIfInBounds_toArray, List.set_cons_zero, List.set_cons_succ]
        refine H.take 22 (v := ?_) rfl (by kernel_rfl) (fun _ _ _ h => h) (by rfl) ?_ (by assumption) ?_
        rotate_left
        · (intro wz hSw; (try dsimp only at hSw); have x1 := hSw.1.four; have x2 := hcb wz hSw.2;go_simp <;> with_reducible rfl)
        try simp only [Act.put, List.setIfInBounds_toArray, List.set_cons_zero, List.set_cons_succ]
        refine H.done (by kernel_rfl) ?_ _
        go_wp2_with fail
        go_ret
        exact ⟨rfl, hHeld.2⟩
theorem pcapOpens_walk (v : Value) (b : List UInt8) {w : World} (hb : BArg w v b) (lit nan : Bool) (link snap : Nat) (hk : link ≤ 65535) (hs : snap ≤ 4294967295) (_ : World) (hT : MagT w) :
    Calls Tryd.prog 3 #[v, fileV lit nan link snap] w fun e w' => e = .returned (.bool true) ∧ Below w.heap.size w w' := by
  by_cases h : b.length ≤ 300
  · exact pcapOpens_go v b hb h lit nan link snap hk hs hT
  · exact pcapOpens_big v b hb (by omega) lit nan link snap hT
end Go.Proofs.YtecmhjhjmhliiaaDoor
