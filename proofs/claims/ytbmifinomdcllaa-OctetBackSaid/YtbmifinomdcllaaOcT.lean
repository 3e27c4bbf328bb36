
/-
  OctetBack: the law's walk, the loop.
-/
import Derived.Test.YtbmifinomdcllaaOcS

import Derived.Deep.RegionHeld3

namespace Go.Proofs.Ytbmifinomdcllaa

open Go.RowKit Go.Lib

set_option maxRecDepth 100000

theorem even_cut (A : Option Addr) (l : List UInt8) (cap E : Nat) (hE : E ≤ l.length) (hc : l.length ≤ cap) : ∃ A0, (∀ w : World, (Instr.slice 22 (.slice A l.length cap) none (some (.int .i64 E)) none).run Try.prog w = .ok (.slice A0 E cap) w) ∧ ∀ w', Rd w' A l → Rd w' A0 (l.take E) := by
  have hel : Try.prog.elem 22 = 5 := by kernel_rfl
  have hz : ∀ w : World, (sizeOf 5).run Try.prog w = .ok 1 w := fun w => by
    obtain ⟨i0, hi, _, hz1, _⟩ := info_parts info_u8b
    simp [sizeOf, typeInfo, Sem.run_bind, hi, hz1]
  refine ⟨if cap = 0 then A else A.map (·.add 0), fun w => ?_, fun w' hr hl => ?_⟩
  · rw [run_slice_h (w := w) (t := 22) (ht := by rw [hel]; exact Try.underlying22) (kh := .i64) (h := (E : Int)) (h0 := by omega) (h2 := by omega), hel, hz]
    simp only [Result.andThen, sliced]
    rw [Int.toNat_natCast, Nat.zero_mul, Nat.sub_zero, Nat.sub_zero]
  · have hl0 : l ≠ [] := by rintro rfl; simp at hl
    obtain ⟨b, o, rfl, hcc⟩ := hr hl0
    have hc0 : cap ≠ 0 := by rintro rfl; exact hl0 (List.eq_nil_of_length_eq_zero (by omega))
    refine ⟨b, o, by rw [if_neg hc0]; exact congrArg some (plain_add _ _ _), fun j x hx => ?_⟩
    rw [List.getElem?_take] at hx
    split at hx
    · exact hcc j x hx
    · cases hx
theorem flatP_one (p : Part) : flatP [p] = p.2.1 := by simp [flatP]
theorem flatP_two (p q : Part) : flatP [p, q] = p.2.1 ++ q.2.1 := by simp [flatP]
theorem flipN_even (E : Nat) (h : E % 2 = 0) : flipN true E = true := by unfold flipN; rw [if_pos h]
theorem sum_own (le : List UInt8) (hE : le.length % 2 = 0) (S : Nat) (hS : ck (sumP true le) = S) : ck (sumP true (le ++ [(S / 256).toUInt8, (S % 256).toUInt8])) = 0 := by
  have hlt := ck_lt (sumP true le)
  have h1 : (S / 256).toUInt8.toNat = S / 256 := by
    have := toUInt8_mod (S / 256); rwa [Nat.mod_eq_of_lt (by omega)] at this
  have h2 : (S % 256).toUInt8.toNat = S % 256 := toUInt8_mod S
  rw [sumP_app, flipN_even _ hE]
  simp only [sumP, h1, h2]
  rw [show sumP true le + (S / 256 * 256 + (S % 256 + 0)) = sumP true le + ck (sumP true le) by omega]
  exact ck_own _
theorem rows_two {w : World} {g : Nat} {p q : Part} {T : TypeId} (h : Blk w g #[partV p, partV q] T) (hp : Rd w p.1 p.2.1) (hq : Rd w q.1 q.2.1) : Rows2 w (some ⟨g, 0, none⟩) [p, q] := fun _ => by
  refine ⟨g, 0, rfl, fun j x hx => ?_⟩
  match j with
  | 0 => cases hx; exact ⟨h.two.1, hp⟩
  | 1 => cases hx; exact ⟨h.two.2, hq⟩
  | j + 2 => simp at hx
theorem sum_back1 {w' : World} {A0 : Option Addr} {le : List UInt8} {E cap S : Nat} (hlel : le.length = E) (hE : E ≤ 300) (hS : ck (sumP true le) = S) (hr : Rd w' A0 le) :
    Calls Try.prog 17 #[.slice (some ⟨w'.heap.size, 0, none⟩) 1 1] (w'.alloc (.cells #[.slice A0 E cap] 22)) fun e w2 => e = .returned (.int .u16 S) ∧ (w'.alloc (.cells #[.slice A0 E cap] 22)) = w2 := by
  have h0 : Blk (w'.alloc (.cells #[.slice A0 E cap] 22)) w'.heap.size #[partV (A0, le, cap)] 22 := by rw [show partV (A0, le, cap) = .slice A0 E cap by unfold partV; rw [hlel]]; exact Blk.new rfl
  have h := sum_any (some ⟨w'.heap.size, 0, none⟩) [(A0, le, cap)] 1 (by rw [flatP_one]; show le.length ≤ _; omega) (by simp) (by intro p hp; rw [List.mem_singleton] at hp; subst hp; show le.length ≤ _; omega) _ (rows_one h0 (hr.below ((Below.refl _ _).alloc (Nat.le_refl _) _)))
  rw [flatP_one, hS] at h
  exact h
theorem sum_back2 {w' : World} {A0 : Option Addr} {le : List UInt8} {E cap S : Nat} (hlel : le.length = E) (hE : E ≤ 300) (hE2 : E % 2 = 0) (hS : ck (sumP true le) = S) (hr : Rd w' A0 le) (q : Nat) (hq : w'.heap.size = q) :
    Calls Try.prog 17 #[.slice (some ⟨q + 1, 0, none⟩) 2 2] ((w'.alloc (.cells #[.int .u8 ((S : Int) / 256), .int .u8 ((S : Int) % 256)] 5)).alloc (.cells #[.slice A0 E cap, .slice (some ⟨q, 0, none⟩) 2 2] 22)) fun e w2 => e = .returned (.int .u16 0) ∧ ((w'.alloc (.cells #[.int .u8 ((S : Int) / 256), .int .u8 ((S : Int) % 256)] 5)).alloc (.cells #[.slice A0 E cap, .slice (some ⟨q, 0, none⟩) 2 2] 22)) = w2 := by
  subst hq
  have hS16 : S ≤ 65535 := by rw [← hS]; exact ck_lt _
  have hv1 : u8 (S / 256).toUInt8 = .int .u8 ((S : Int) / 256) := by
    show Value.int .u8 (((S / 256).toUInt8.toNat : Nat) : Int) = _
    have h := toUInt8_mod (S / 256); rw [Nat.mod_eq_of_lt (by omega)] at h; rw [h]; rfl
  have hv2 : u8 (S % 256).toUInt8 = .int .u8 ((S : Int) % 256) := by
    show Value.int .u8 (((S % 256).toUInt8.toNat : Nat) : Int) = _
    rw [toUInt8_mod]; rfl
  have hb1 : Blk (w'.alloc (.cells #[.int .u8 ((S : Int) / 256), .int .u8 ((S : Int) % 256)] 5)) w'.heap.size (([(S / 256).toUInt8, (S % 256).toUInt8] : List UInt8).map u8).toArray 5 := by
    show Blk _ _ #[u8 (S / 256).toUInt8, u8 (S % 256).toUInt8] _
    rw [hv1, hv2]; exact Blk.new rfl
  have hr1 := rd_of_blk hb1
  have h0 : Blk ((w'.alloc (.cells #[.int .u8 ((S : Int) / 256), .int .u8 ((S : Int) % 256)] 5)).alloc (.cells #[.slice A0 E cap, .slice (some ⟨w'.heap.size, 0, none⟩) 2 2] 22)) (w'.heap.size + 1) #[partV (A0, le, cap), partV (some ⟨w'.heap.size, 0, none⟩, [(S / 256).toUInt8, (S % 256).toUInt8], 2)] 22 := by
    rw [show partV (A0, le, cap) = .slice A0 E cap by unfold partV; rw [hlel], show partV (some ⟨w'.heap.size, 0, none⟩, [(S / 256).toUInt8, (S % 256).toUInt8], 2) = .slice (some ⟨w'.heap.size, 0, none⟩) 2 2 from rfl]
    exact Blk.new (by simp)
  have h := sum_any (some ⟨w'.heap.size + 1, 0, none⟩) [(A0, le, cap), (some ⟨w'.heap.size, 0, none⟩, [(S / 256).toUInt8, (S % 256).toUInt8], 2)] 2 (by rw [flatP_two]; show (le ++ _).length ≤ _; rw [List.length_append]; simp; omega) (by simp) (fun p hp => (List.mem_cons.1 hp).elim (fun h => by subst h; show le.length ≤ _; omega) (fun h => by rw [List.mem_singleton] at h; subst h; simp)) _
    (rows_two h0 ((hr.below ((Below.refl _ _).alloc (Nat.le_refl _) _)).below ((Below.refl _ _).alloc (Nat.le_refl _) _)) (hr1.below ((Below.refl _ _).alloc (Nat.le_refl _) _)))
  rw [flatP_two, sum_own le (by rw [hlel]; exact hE2) S hS] at h
  exact h
theorem sum_back3 {wx : World} {g n3 c3 n4 c4 S : Nat} {A3 A4 : Option Addr} {l3 l4 : List UInt8} (h3 : l3.length = n3) (h4 : l4.length = n4) (hs : n3 + n4 ≤ 300) (hS : ck (sumP true (l3 ++ l4)) = S)
    (hb : Blk wx g #[.slice A3 n3 c3, .slice A4 n4 c4] 22) (hr3 : Rd wx A3 l3) (hr4 : Rd wx A4 l4) :
    Calls Try.prog 17 #[.slice (some ⟨g, 0, none⟩) 2 2] wx fun e w2 => e = .returned (.int .u16 S) ∧ wx = w2 := by
  have h0 : Blk wx g #[partV (A3, l3, c3), partV (A4, l4, c4)] 22 := by
    rw [show partV (A3, l3, c3) = .slice A3 n3 c3 by unfold partV; rw [h3], show partV (A4, l4, c4) = .slice A4 n4 c4 by unfold partV; rw [h4]]
    exact hb
  have h := sum_any (some ⟨g, 0, none⟩) [(A3, l3, c3), (A4, l4, c4)] 2 (by rw [flatP_two]; show (l3 ++ l4).length ≤ _; rw [List.length_append]; omega) (by simp) (fun p hp => (List.mem_cons.1 hp).elim (fun h => by subst h; show l3.length ≤ _; omega) (fun h => by rw [List.mem_singleton] at h; subst h; show l4.length ≤ _; omega)) _
    (rows_two h0 hr3 hr4)
  rw [flatP_two, hS] at h
  exact h
theorem sum_turn (le : List UInt8) (a : Nat) (hE : le.length % 2 = 0) (ha : a ≤ le.length) (ha2 : a % 2 = 0) : sumP true (le.drop a ++ le.take a) = sumP true le := by
  conv => rhs; rw [← List.take_append_drop a le]
  rw [sumP_app, sumP_app, flipN_even _ (by rw [List.length_drop]; omega), flipN_even _ (by rw [List.length_take]; omega), Nat.add_comm]
theorem from_cut (A : Option Addr) (l : List UInt8) (cap a : Nat) (ha : a ≤ l.length) (hc : l.length ≤ cap) : ∃ A3 c3, (∀ w : World, (Instr.slice 22 (.slice A l.length cap) (some (.int .i64 a)) none none).run Try.prog w = .ok (.slice A3 (l.length - a) c3) w) ∧ ∀ w', Rd w' A l → Rd w' A3 (l.drop a) := by
  have hel : Try.prog.elem 22 = 5 := by kernel_rfl
  have hz : ∀ w : World, (sizeOf 5).run Try.prog w = .ok 1 w := fun w => by
    obtain ⟨i0, hi, _, hz1, _⟩ := info_parts info_u8b
    simp [sizeOf, typeInfo, Sem.run_bind, hi, hz1]
  refine ⟨if cap = a then A else A.map (·.add a), cap - a, fun w => ?_, fun w' hr hl => ?_⟩
  · rw [run_slice_l (w := w) (t := 22) (ht := by rw [hel]; exact Try.underlying22) (kl := .i64) (l := (a : Int)) (h0 := by omega) (h1 := by omega), hel, hz]
    simp only [Result.andThen, sliced]
    rw [Int.toNat_natCast, Nat.mul_one]
  · have hlt : a < l.length := by
      rcases Nat.lt_or_ge a l.length with h | h
      · exact h
      · exact absurd (List.drop_eq_nil_of_le h) hl
    obtain ⟨b, o, rfl, hcc⟩ := hr (by rintro rfl; simp at hlt)
    refine ⟨b, o + a, by rw [if_neg (by omega)]; exact congrArg some (plain_add _ _ _), fun j x hx => ?_⟩
    rw [List.getElem?_drop] at hx
    rw [Nat.add_assoc]; exact hcc _ _ hx
theorem drewB {W w : World} (h : Below W.heap.size W w) : Below W.heap.size W w.drew := h.trans ⟨rfl, rfl, rfl, Nat.le_refl _, fun _ _ => rfl⟩
theorem padI_lo (n : Int) : 0 ≤ padI n ∧ padI n ≤ 3 := by unfold padI; split <;> omega
/-- Behind a slice that is laid in a region that draws its order: the new block. -/
theorem H.freshD {P : Program} {Q : Exit → Act → World → Prop} {md : Region.Mode} {S : World → Prop} {fuel : Nat} {ops : Array Oper} {listed : Array Bool} {a : Act} {w : World} {cs : Array Value} {T : TypeId}
    (h : Blk (w.alloc (.cells cs T)).drew w.heap.size cs T → wpAnyH P md ops Q S fuel listed a (w.alloc (.cells cs T)).drew) : wpAnyH P md ops Q S fuel listed a (w.alloc (.cells cs T)).drew := h (Blk.drew (Blk.new rfl))
def ints5 : Array Value := #[.int .i64 0, .int .i64 1, .int .i64 2, .int .i64 4, .int .i64 8]
def BackR (g : Nat) (w : World) (i : Value) (wr : World) : Prop := ∃ k : Nat, k ≤ 5 ∧ i = .int .i64 k ∧ Blk wr g ints5 3 ∧ Below w.heap.size w wr
theorem back_big (v : Value) (l : List UInt8) (hl : 300 < l.length) (little : Bool) (n t : Int) (w : World) (hb : BArg w v l) :
    Calls Try.prog 6 #[v, .bool little, .int .u64 n, .int .u16 t] w fun e w' => e = .returned (.bool true) ∧ Below w.heap.size w w' := by
  obtain ⟨A, cap, rfl, _, _⟩ := hb
  generalize l.length = len at *
  have hl2 : (300 : Int) < (len : Int) := by omega
  have HK := Lib.hid (known_any w)
  go_enter Try.func6, Try.ntmps6
  go_wp2_with (go_at_call 7; refine HK.out.mono ?_; rintro e w1 ⟨rfl, hb1⟩; have HB1 := Lib.hid hb1; clear hb1)
  go_ret
  exact ⟨rfl, HB1.out⟩
set_option maxHeartbeats 4000000 in
theorem back_go (v : Value) (l : List UInt8) (hl : l.length ≤ 300) (little : Bool) (n : Nat) (hn : n < 18446744073709551616) (t : Nat) (ht : t < 65536) (w : World) (hb : BArg w v l) :
    Calls Try.prog 6 #[v, .bool little, .int .u64 n, .int .u16 t] w fun e w' => e = .returned (.bool true) ∧ Below w.heap.size w w' := by
  obtain ⟨A, cap, rfl, hcap, hr⟩ := hb
  have HK := Lib.hid (known_any w)
  have HRD := Lib.hid hr; have HCAP := Lib.hid hcap; have HL := Lib.hid hl
  have HN : BdN n := ⟨hn⟩
  have HTT := Lib.hid ht
  have HPUT := Lib.hid (fun (m : Nat) (hm : m ≤ 8) w' (hb : Below w.heap.size w w') => put_in A l cap little n hn m hm (by omega) w' (hr.below hb))
  have hln : ¬ (300 : Int) < (l.length : Int) := by omega
  clear hr hcap hn hl ht
  obtain ⟨len, hlen⟩ : ∃ len, l.length = len := ⟨_, rfl⟩
  have HLEN := Lib.hid hlen
  rw [hlen] at HPUT hln ⊢
  clear hlen
  go_enter Try.func6, Try.ntmps6
  go_wp2_with (first
    | (go_at_call 7; refine HK.out.mono ?_; rintro e w1 ⟨rfl, hb1⟩; have HB1 := Lib.hid hb1; clear hb1))
  go_loopw [30] (fun i wr => BackR w1.heap.size w i wr) (fun i _ => 5 - (RowKit.intOf i).toNat)
  case atStart => exact ⟨0, by omega, rfl, Blk.new rfl, keepR HB1.out⟩
  case round =>
    obtain ⟨wo, rfl⟩ : ∃ wo : World, wo = wr := ⟨_, rfl⟩
    obtain ⟨k, hk, rfl, hblk, hbe⟩ := hrel
    rcases (by omega : k = 0 ∨ k = 1 ∨ k = 2 ∨ k = 3 ∨ k = 4 ∨ k = 5) with rfl | rfl | rfl | rfl | rfl | rfl
    · rw [show ((0 : Nat) : Int) = 0 from rfl]
      have hcell : wo.cell? ⟨w1.heap.size, 0, none⟩ = some (.int .i64 0) := hblk.cell 0
      have HBL := Lib.hid hblk; have HBE := Lib.hid hbe
      obtain ⟨bs, hbs⟩ : ∃ bs, bytesF little 0 n = bs := ⟨_, rfl⟩
      have hbl : bs.length = 0 := by rw [← hbs, bytesF_len]
      obtain ⟨G, hG⟩ : ∃ G, n % 256 ^ 0 = G := ⟨_, rfl⟩
      have hge : getN little (l ++ bs) l.length 0 = G ∧ getB (l ++ bs) l.length 0 = true := by have h := got_eq l little 0 n (by decide); rw [hbs, hG] at h; exact h
      have hae : getN (!little) bs.reverse 0 0 = G ∧ getB bs.reverse 0 0 = true := by have h := again_eq little 0 n (by decide); rw [hbs, hG] at h; exact h
      have hl3 := HL.out
      have HPUT2 := Lib.hid (fun w' hb => HPUT.out 0 (by decide) w' hb)
      rw [hbs] at HPUT2
      have HGET := Lib.hid (fun (w' : World) (g : Nat) (h : Rd w' (some ⟨g, 0, none⟩) (l ++ bs)) => by
        have h2 := get_any (some ⟨g, 0, none⟩) (l ++ bs) (len + 0) little l.length 0 (by omega) (by rw [List.length_append, hbl, HLEN.out]; exact Nat.le_refl _) (by rw [List.length_append, hbl]; omega) w' h
        rw [hge.1, hge.2, List.length_append, hbl, HLEN.out] at h2
        exact h2)
      have HCUT := Lib.hid (fun (w' : World) (g : Nat) => cut_in g len (len + 0) 0 little (Nat.le_refl _) (by have := HLEN.out; omega) w')
      have HOWN := Lib.hid (show ∀ (w' : World) (g : Nat), Rd w' (some ⟨g, 0, none⟩) (l ++ bs) → Rd w' (some ⟨g, if 0 = 0 then 0 else len, none⟩) bs from fun w' g h => by
        have h2 := rd_own (w := w') (g := g) (l := l) (little := little) (m := 0) (n := n) (by rw [hbs]; exact h)
        rw [hbs, HLEN.out] at h2
        exact h2)
      have HCLO := Lib.hid (fun (w' : World) (a : Addr) (h : Rd w' (some a) bs) => by have h2 := clone_any2 a bs 0 (by omega) w' h; rw [hbl] at h2; exact h2)
      have HREV := Lib.hid (fun (w' : World) (A2 : Option Addr) (c2 B : Nat) (h : Own w' B A2 bs) => by have h2 := reverse_any A2 bs c2 B (by omega) w' h; rw [hbl] at h2; exact h2)
      have HAGN := Lib.hid (fun (w' : World) (A2 : Option Addr) (c2 : Nat) (hc : 0 ≤ c2) (h : Rd w' A2 bs.reverse) => by
        have h2 := get_any A2 bs.reverse c2 (!little) 0 0 (by decide) (by rw [List.length_reverse, hbl]; exact hc) (by rw [List.length_reverse]; omega) w' h
        rw [hae.1, hae.2, List.length_reverse, hbl] at h2
        exact h2)
      have hand : bits .and .u64 (n : Int) 0 = (G : Int) := by have h : bits .and .u64 (n : Int) ((0 : Nat) : Int) = _ := and64 n 0 HN.lt (by decide); rw [show n &&& 0 = G from (Nat.and_two_pow_sub_one_eq_mod n 0).trans hG] at h; exact h
      have HG := Lib.hid hG
      clear hblk hbe hbs hbl hG hge hae hl3
      go_wp2_with (first
        | (go_at_call 15; refine (HPUT2.out _ HBE.out).mono ?_; rintro e w2 ⟨rfl, hr2, hb2⟩; have HR2 := Lib.hid hr2; have HB2 := Lib.hid (keepW HBE.out hb2); have HK2 := Lib.hid (Blk.keep hb2 HBL.out); clear hr2 hb2)
        | (go_at_call 8; refine (HGET.out _ _ (HR2.out.below ((Below.refl _ _).alloc (Nat.le_refl _) _))).mono ?_; rintro e w3 ⟨rfl, hb3⟩; have HR3 := Lib.hid ((HR2.out.below ((Below.refl _ _).alloc (Nat.le_refl _) _)).below hb3); have HB3 := Lib.hid (keepW (keepR HB2.out) hb3); have HK3 := Lib.hid (Blk.keep hb3 (HK2.out.old _)); have hrow3 := (Blk.keep hb3 (Blk.new rfl)).two; clear hb3 HR2)
        | (go_at_call 10; refine (HCUT.out _ _).mono ?_; rintro e w4 ⟨rfl, hb4⟩; have HR4 := Lib.hid (HOWN.out _ _ (HR3.out.below hb4)); have HB4 := Lib.hid (keepW HB3.out hb4); have HK4 := Lib.hid (Blk.keep hb4 HK3.out); clear hb4)
        | (go_at_call 19; refine (HCLO.out _ _ HR4.out).mono ?_; rintro e w5 ⟨A2, c2, rfl, hc2, ho5, hb5⟩; have HO5 := Lib.hid ho5; have HC2 := Lib.hid hc2; have HB5 := Lib.hid hb5; clear ho5 hb5 hc2)
        | (go_at_call 20; refine (HREV.out _ _ _ _ HO5.out).mono ?_; rintro e w6 ⟨rfl, ho6, hb6⟩; have HO6 := Lib.hid ho6; have HB6 := Lib.hid (HB5.out.trans hb6); have HB7 := Lib.hid (keepW HB4.out HB6.out); have HK6 := Lib.hid (Blk.keep HB6.out HK4.out); clear ho6 hb6)
        | (go_at_call 8; refine (HAGN.out _ _ _ HC2.out HO6.out.rd).mono ?_; rintro e w7 ⟨rfl, hb7⟩; have HB8 := Lib.hid (keepW HB7.out hb7); have HK7 := Lib.hid (Blk.keep hb7 HK6.out); clear hb7))
      go_roundw
      case rel => exact ⟨0 + 1, by omega, rfl, HK7.out, HB8.out⟩
      case measure => decide
    · rw [show ((1 : Nat) : Int) = 1 from rfl]
      have hcell : wo.cell? ⟨w1.heap.size, 1, none⟩ = some (.int .i64 1) := hblk.cell 1
      have HBL := Lib.hid hblk; have HBE := Lib.hid hbe
      obtain ⟨bs, hbs⟩ : ∃ bs, bytesF little 1 n = bs := ⟨_, rfl⟩
      have hbl : bs.length = 1 := by rw [← hbs, bytesF_len]
      obtain ⟨G, hG⟩ : ∃ G, n % 256 ^ 1 = G := ⟨_, rfl⟩
      have hge : getN little (l ++ bs) l.length 1 = G ∧ getB (l ++ bs) l.length 1 = true := by have h := got_eq l little 1 n (by decide); rw [hbs, hG] at h; exact h
      have hae : getN (!little) bs.reverse 0 1 = G ∧ getB bs.reverse 0 1 = true := by have h := again_eq little 1 n (by decide); rw [hbs, hG] at h; exact h
      have hl3 := HL.out
      have HPUT2 := Lib.hid (fun w' hb => HPUT.out 1 (by decide) w' hb)
      rw [hbs] at HPUT2
      have HGET := Lib.hid (fun (w' : World) (g : Nat) (h : Rd w' (some ⟨g, 0, none⟩) (l ++ bs)) => by
        have h2 := get_any (some ⟨g, 0, none⟩) (l ++ bs) (len + 1) little l.length 1 (by omega) (by rw [List.length_append, hbl, HLEN.out]; exact Nat.le_refl _) (by rw [List.length_append, hbl]; omega) w' h
        rw [hge.1, hge.2, List.length_append, hbl, HLEN.out] at h2
        exact h2)
      have HCUT := Lib.hid (fun (w' : World) (g : Nat) => cut_in g len (len + 1) 1 little (Nat.le_refl _) (by have := HLEN.out; omega) w')
      have HOWN := Lib.hid (show ∀ (w' : World) (g : Nat), Rd w' (some ⟨g, 0, none⟩) (l ++ bs) → Rd w' (some ⟨g, if 1 = 0 then 0 else len, none⟩) bs from fun w' g h => by
        have h2 := rd_own (w := w') (g := g) (l := l) (little := little) (m := 1) (n := n) (by rw [hbs]; exact h)
        rw [hbs, HLEN.out] at h2
        exact h2)
      have HCLO := Lib.hid (fun (w' : World) (a : Addr) (h : Rd w' (some a) bs) => by have h2 := clone_any2 a bs 1 (by omega) w' h; rw [hbl] at h2; exact h2)
      have HREV := Lib.hid (fun (w' : World) (A2 : Option Addr) (c2 B : Nat) (h : Own w' B A2 bs) => by have h2 := reverse_any A2 bs c2 B (by omega) w' h; rw [hbl] at h2; exact h2)
      have HAGN := Lib.hid (fun (w' : World) (A2 : Option Addr) (c2 : Nat) (hc : 1 ≤ c2) (h : Rd w' A2 bs.reverse) => by
        have h2 := get_any A2 bs.reverse c2 (!little) 0 1 (by decide) (by rw [List.length_reverse, hbl]; exact hc) (by rw [List.length_reverse]; omega) w' h
        rw [hae.1, hae.2, List.length_reverse, hbl] at h2
        exact h2)
      have hand : bits .and .u64 (n : Int) 255 = (G : Int) := by have h : bits .and .u64 (n : Int) ((255 : Nat) : Int) = _ := and64 n 255 HN.lt (by decide); rw [show n &&& 255 = G from (Nat.and_two_pow_sub_one_eq_mod n 8).trans hG] at h; exact h
      have HG := Lib.hid hG
      clear hblk hbe hbs hbl hG hge hae hl3
      go_wp2_with (first
        | (go_at_call 15; refine (HPUT2.out _ HBE.out).mono ?_; rintro e w2 ⟨rfl, hr2, hb2⟩; have HR2 := Lib.hid hr2; have HB2 := Lib.hid (keepW HBE.out hb2); have HK2 := Lib.hid (Blk.keep hb2 HBL.out); clear hr2 hb2)
        | (go_at_call 8; refine (HGET.out _ _ (HR2.out.below ((Below.refl _ _).alloc (Nat.le_refl _) _))).mono ?_; rintro e w3 ⟨rfl, hb3⟩; have HR3 := Lib.hid ((HR2.out.below ((Below.refl _ _).alloc (Nat.le_refl _) _)).below hb3); have HB3 := Lib.hid (keepW (keepR HB2.out) hb3); have HK3 := Lib.hid (Blk.keep hb3 (HK2.out.old _)); have hrow3 := (Blk.keep hb3 (Blk.new rfl)).two; clear hb3 HR2)
        | (go_at_call 10; refine (HCUT.out _ _).mono ?_; rintro e w4 ⟨rfl, hb4⟩; have HR4 := Lib.hid (HOWN.out _ _ (HR3.out.below hb4)); have HB4 := Lib.hid (keepW HB3.out hb4); have HK4 := Lib.hid (Blk.keep hb4 HK3.out); clear hb4)
        | (go_at_call 19; refine (HCLO.out _ _ HR4.out).mono ?_; rintro e w5 ⟨A2, c2, rfl, hc2, ho5, hb5⟩; have HO5 := Lib.hid ho5; have HC2 := Lib.hid hc2; have HB5 := Lib.hid hb5; clear ho5 hb5 hc2)
        | (go_at_call 20; refine (HREV.out _ _ _ _ HO5.out).mono ?_; rintro e w6 ⟨rfl, ho6, hb6⟩; have HO6 := Lib.hid ho6; have HB6 := Lib.hid (HB5.out.trans hb6); have HB7 := Lib.hid (keepW HB4.out HB6.out); have HK6 := Lib.hid (Blk.keep HB6.out HK4.out); clear ho6 hb6)
        | (go_at_call 8; refine (HAGN.out _ _ _ HC2.out HO6.out.rd).mono ?_; rintro e w7 ⟨rfl, hb7⟩; have HB8 := Lib.hid (keepW HB7.out hb7); have HK7 := Lib.hid (Blk.keep hb7 HK6.out); clear hb7))
      go_roundw
      case rel => exact ⟨1 + 1, by omega, rfl, HK7.out, HB8.out⟩
      case measure => decide
    · rw [show ((2 : Nat) : Int) = 2 from rfl]
      have hcell : wo.cell? ⟨w1.heap.size, 2, none⟩ = some (.int .i64 2) := hblk.cell 2
      have HBL := Lib.hid hblk; have HBE := Lib.hid hbe
      obtain ⟨bs, hbs⟩ : ∃ bs, bytesF little 2 n = bs := ⟨_, rfl⟩
      have hbl : bs.length = 2 := by rw [← hbs, bytesF_len]
      obtain ⟨G, hG⟩ : ∃ G, n % 256 ^ 2 = G := ⟨_, rfl⟩
      have hge : getN little (l ++ bs) l.length 2 = G ∧ getB (l ++ bs) l.length 2 = true := by have h := got_eq l little 2 n (by decide); rw [hbs, hG] at h; exact h
      have hae : getN (!little) bs.reverse 0 2 = G ∧ getB bs.reverse 0 2 = true := by have h := again_eq little 2 n (by decide); rw [hbs, hG] at h; exact h
      have hl3 := HL.out
      have HPUT2 := Lib.hid (fun w' hb => HPUT.out 2 (by decide) w' hb)
      rw [hbs] at HPUT2
      have HGET := Lib.hid (fun (w' : World) (g : Nat) (h : Rd w' (some ⟨g, 0, none⟩) (l ++ bs)) => by
        have h2 := get_any (some ⟨g, 0, none⟩) (l ++ bs) (len + 2) little l.length 2 (by omega) (by rw [List.length_append, hbl, HLEN.out]; exact Nat.le_refl _) (by rw [List.length_append, hbl]; omega) w' h
        rw [hge.1, hge.2, List.length_append, hbl, HLEN.out] at h2
        exact h2)
      have HCUT := Lib.hid (fun (w' : World) (g : Nat) => cut_in g len (len + 2) 2 little (Nat.le_refl _) (by have := HLEN.out; omega) w')
      have HOWN := Lib.hid (show ∀ (w' : World) (g : Nat), Rd w' (some ⟨g, 0, none⟩) (l ++ bs) → Rd w' (some ⟨g, if 2 = 0 then 0 else len, none⟩) bs from fun w' g h => by
        have h2 := rd_own (w := w') (g := g) (l := l) (little := little) (m := 2) (n := n) (by rw [hbs]; exact h)
        rw [hbs, HLEN.out] at h2
        exact h2)
      have HCLO := Lib.hid (fun (w' : World) (a : Addr) (h : Rd w' (some a) bs) => by have h2 := clone_any2 a bs 2 (by omega) w' h; rw [hbl] at h2; exact h2)
      have HREV := Lib.hid (fun (w' : World) (A2 : Option Addr) (c2 B : Nat) (h : Own w' B A2 bs) => by have h2 := reverse_any A2 bs c2 B (by omega) w' h; rw [hbl] at h2; exact h2)
      have HAGN := Lib.hid (fun (w' : World) (A2 : Option Addr) (c2 : Nat) (hc : 2 ≤ c2) (h : Rd w' A2 bs.reverse) => by
        have h2 := get_any A2 bs.reverse c2 (!little) 0 2 (by decide) (by rw [List.length_reverse, hbl]; exact hc) (by rw [List.length_reverse]; omega) w' h
        rw [hae.1, hae.2, List.length_reverse, hbl] at h2
        exact h2)
      have hand : bits .and .u64 (n : Int) 65535 = (G : Int) := by have h : bits .and .u64 (n : Int) ((65535 : Nat) : Int) = _ := and64 n 65535 HN.lt (by decide); rw [show n &&& 65535 = G from (Nat.and_two_pow_sub_one_eq_mod n 16).trans hG] at h; exact h
      have HG := Lib.hid hG
      clear hblk hbe hbs hbl hG hge hae hl3
      go_wp2_with (first
        | (go_at_call 15; refine (HPUT2.out _ HBE.out).mono ?_; rintro e w2 ⟨rfl, hr2, hb2⟩; have HR2 := Lib.hid hr2; have HB2 := Lib.hid (keepW HBE.out hb2); have HK2 := Lib.hid (Blk.keep hb2 HBL.out); clear hr2 hb2)
        | (go_at_call 8; refine (HGET.out _ _ (HR2.out.below ((Below.refl _ _).alloc (Nat.le_refl _) _))).mono ?_; rintro e w3 ⟨rfl, hb3⟩; have HR3 := Lib.hid ((HR2.out.below ((Below.refl _ _).alloc (Nat.le_refl _) _)).below hb3); have HB3 := Lib.hid (keepW (keepR HB2.out) hb3); have HK3 := Lib.hid (Blk.keep hb3 (HK2.out.old _)); have hrow3 := (Blk.keep hb3 (Blk.new rfl)).two; clear hb3 HR2)
        | (go_at_call 10; refine (HCUT.out _ _).mono ?_; rintro e w4 ⟨rfl, hb4⟩; have HR4 := Lib.hid (HOWN.out _ _ (HR3.out.below hb4)); have HB4 := Lib.hid (keepW HB3.out hb4); have HK4 := Lib.hid (Blk.keep hb4 HK3.out); clear hb4)
        | (go_at_call 19; refine (HCLO.out _ _ HR4.out).mono ?_; rintro e w5 ⟨A2, c2, rfl, hc2, ho5, hb5⟩; have HO5 := Lib.hid ho5; have HC2 := Lib.hid hc2; have HB5 := Lib.hid hb5; clear ho5 hb5 hc2)
        | (go_at_call 20; refine (HREV.out _ _ _ _ HO5.out).mono ?_; rintro e w6 ⟨rfl, ho6, hb6⟩; have HO6 := Lib.hid ho6; have HB6 := Lib.hid (HB5.out.trans hb6); have HB7 := Lib.hid (keepW HB4.out HB6.out); have HK6 := Lib.hid (Blk.keep HB6.out HK4.out); clear ho6 hb6)
        | (go_at_call 8; refine (HAGN.out _ _ _ HC2.out HO6.out.rd).mono ?_; rintro e w7 ⟨rfl, hb7⟩; have HB8 := Lib.hid (keepW HB7.out hb7); have HK7 := Lib.hid (Blk.keep hb7 HK6.out); clear hb7))
      go_roundw
      case rel => exact ⟨2 + 1, by omega, rfl, HK7.out, HB8.out⟩
      case measure => decide
    · rw [show ((3 : Nat) : Int) = 3 from rfl]
      have hcell : wo.cell? ⟨w1.heap.size, 3, none⟩ = some (.int .i64 4) := hblk.cell 3
      have HBL := Lib.hid hblk; have HBE := Lib.hid hbe
      obtain ⟨bs, hbs⟩ : ∃ bs, bytesF little 4 n = bs := ⟨_, rfl⟩
      have hbl : bs.length = 4 := by rw [← hbs, bytesF_len]
      obtain ⟨G, hG⟩ : ∃ G, n % 256 ^ 4 = G := ⟨_, rfl⟩
      have hge : getN little (l ++ bs) l.length 4 = G ∧ getB (l ++ bs) l.length 4 = true := by have h := got_eq l little 4 n (by decide); rw [hbs, hG] at h; exact h
      have hae : getN (!little) bs.reverse 0 4 = G ∧ getB bs.reverse 0 4 = true := by have h := again_eq little 4 n (by decide); rw [hbs, hG] at h; exact h
      have hl3 := HL.out
      have HPUT2 := Lib.hid (fun w' hb => HPUT.out 4 (by decide) w' hb)
      rw [hbs] at HPUT2
      have HGET := Lib.hid (fun (w' : World) (g : Nat) (h : Rd w' (some ⟨g, 0, none⟩) (l ++ bs)) => by
        have h2 := get_any (some ⟨g, 0, none⟩) (l ++ bs) (len + 4) little l.length 4 (by omega) (by rw [List.length_append, hbl, HLEN.out]; exact Nat.le_refl _) (by rw [List.length_append, hbl]; omega) w' h
        rw [hge.1, hge.2, List.length_append, hbl, HLEN.out] at h2
        exact h2)
      have HCUT := Lib.hid (fun (w' : World) (g : Nat) => cut_in g len (len + 4) 4 little (Nat.le_refl _) (by have := HLEN.out; omega) w')
      have HOWN := Lib.hid (show ∀ (w' : World) (g : Nat), Rd w' (some ⟨g, 0, none⟩) (l ++ bs) → Rd w' (some ⟨g, if 4 = 0 then 0 else len, none⟩) bs from fun w' g h => by
        have h2 := rd_own (w := w') (g := g) (l := l) (little := little) (m := 4) (n := n) (by rw [hbs]; exact h)
        rw [hbs, HLEN.out] at h2
        exact h2)
      have HCLO := Lib.hid (fun (w' : World) (a : Addr) (h : Rd w' (some a) bs) => by have h2 := clone_any2 a bs 4 (by omega) w' h; rw [hbl] at h2; exact h2)
      have HREV := Lib.hid (fun (w' : World) (A2 : Option Addr) (c2 B : Nat) (h : Own w' B A2 bs) => by have h2 := reverse_any A2 bs c2 B (by omega) w' h; rw [hbl] at h2; exact h2)
      have HAGN := Lib.hid (fun (w' : World) (A2 : Option Addr) (c2 : Nat) (hc : 4 ≤ c2) (h : Rd w' A2 bs.reverse) => by
        have h2 := get_any A2 bs.reverse c2 (!little) 0 4 (by decide) (by rw [List.length_reverse, hbl]; exact hc) (by rw [List.length_reverse]; omega) w' h
        rw [hae.1, hae.2, List.length_reverse, hbl] at h2
        exact h2)
      have hand : bits .and .u64 (n : Int) 4294967295 = (G : Int) := by have h : bits .and .u64 (n : Int) ((4294967295 : Nat) : Int) = _ := and64 n 4294967295 HN.lt (by decide); rw [show n &&& 4294967295 = G from (Nat.and_two_pow_sub_one_eq_mod n 32).trans hG] at h; exact h
      have HG := Lib.hid hG
      clear hblk hbe hbs hbl hG hge hae hl3
      go_wp2_with (first
        | (go_at_call 15; refine (HPUT2.out _ HBE.out).mono ?_; rintro e w2 ⟨rfl, hr2, hb2⟩; have HR2 := Lib.hid hr2; have HB2 := Lib.hid (keepW HBE.out hb2); have HK2 := Lib.hid (Blk.keep hb2 HBL.out); clear hr2 hb2)
        | (go_at_call 8; refine (HGET.out _ _ (HR2.out.below ((Below.refl _ _).alloc (Nat.le_refl _) _))).mono ?_; rintro e w3 ⟨rfl, hb3⟩; have HR3 := Lib.hid ((HR2.out.below ((Below.refl _ _).alloc (Nat.le_refl _) _)).below hb3); have HB3 := Lib.hid (keepW (keepR HB2.out) hb3); have HK3 := Lib.hid (Blk.keep hb3 (HK2.out.old _)); have hrow3 := (Blk.keep hb3 (Blk.new rfl)).two; clear hb3 HR2)
        | (go_at_call 10; refine (HCUT.out _ _).mono ?_; rintro e w4 ⟨rfl, hb4⟩; have HR4 := Lib.hid (HOWN.out _ _ (HR3.out.below hb4)); have HB4 := Lib.hid (keepW HB3.out hb4); have HK4 := Lib.hid (Blk.keep hb4 HK3.out); clear hb4)
        | (go_at_call 19; refine (HCLO.out _ _ HR4.out).mono ?_; rintro e w5 ⟨A2, c2, rfl, hc2, ho5, hb5⟩; have HO5 := Lib.hid ho5; have HC2 := Lib.hid hc2; have HB5 := Lib.hid hb5; clear ho5 hb5 hc2)
        | (go_at_call 20; refine (HREV.out _ _ _ _ HO5.out).mono ?_; rintro e w6 ⟨rfl, ho6, hb6⟩; have HO6 := Lib.hid ho6; have HB6 := Lib.hid (HB5.out.trans hb6); have HB7 := Lib.hid (keepW HB4.out HB6.out); have HK6 := Lib.hid (Blk.keep HB6.out HK4.out); clear ho6 hb6)
        | (go_at_call 8; refine (HAGN.out _ _ _ HC2.out HO6.out.rd).mono ?_; rintro e w7 ⟨rfl, hb7⟩; have HB8 := Lib.hid (keepW HB7.out hb7); have HK7 := Lib.hid (Blk.keep hb7 HK6.out); clear hb7))
      go_roundw
      case rel => exact ⟨3 + 1, by omega, rfl, HK7.out, HB8.out⟩
      case measure => decide
    · rw [show ((4 : Nat) : Int) = 4 from rfl]
      have hcell : wo.cell? ⟨w1.heap.size, 4, none⟩ = some (.int .i64 8) := hblk.cell 4
      have HBL := Lib.hid hblk; have HBE := Lib.hid hbe
      obtain ⟨bs, hbs⟩ : ∃ bs, bytesF little 8 n = bs := ⟨_, rfl⟩
      have hbl : bs.length = 8 := by rw [← hbs, bytesF_len]
      obtain ⟨G, hG⟩ : ∃ G, n % 256 ^ 8 = G := ⟨_, rfl⟩
      have hge : getN little (l ++ bs) l.length 8 = G ∧ getB (l ++ bs) l.length 8 = true := by have h := got_eq l little 8 n (by decide); rw [hbs, hG] at h; exact h
      have hae : getN (!little) bs.reverse 0 8 = G ∧ getB bs.reverse 0 8 = true := by have h := again_eq little 8 n (by decide); rw [hbs, hG] at h; exact h
      have hl3 := HL.out
      have HPUT2 := Lib.hid (fun w' hb => HPUT.out 8 (by decide) w' hb)
      rw [hbs] at HPUT2
      have HGET := Lib.hid (fun (w' : World) (g : Nat) (h : Rd w' (some ⟨g, 0, none⟩) (l ++ bs)) => by
        have h2 := get_any (some ⟨g, 0, none⟩) (l ++ bs) (len + 8) little l.length 8 (by omega) (by rw [List.length_append, hbl, HLEN.out]; exact Nat.le_refl _) (by rw [List.length_append, hbl]; omega) w' h
        rw [hge.1, hge.2, List.length_append, hbl, HLEN.out] at h2
        exact h2)
      have HCUT := Lib.hid (fun (w' : World) (g : Nat) => cut_in g len (len + 8) 8 little (Nat.le_refl _) (by have := HLEN.out; omega) w')
      have HOWN := Lib.hid (show ∀ (w' : World) (g : Nat), Rd w' (some ⟨g, 0, none⟩) (l ++ bs) → Rd w' (some ⟨g, if 8 = 0 then 0 else len, none⟩) bs from fun w' g h => by
        have h2 := rd_own (w := w') (g := g) (l := l) (little := little) (m := 8) (n := n) (by rw [hbs]; exact h)
        rw [hbs, HLEN.out] at h2
        exact h2)
      have HCLO := Lib.hid (fun (w' : World) (a : Addr) (h : Rd w' (some a) bs) => by have h2 := clone_any2 a bs 8 (by omega) w' h; rw [hbl] at h2; exact h2)
      have HREV := Lib.hid (fun (w' : World) (A2 : Option Addr) (c2 B : Nat) (h : Own w' B A2 bs) => by have h2 := reverse_any A2 bs c2 B (by omega) w' h; rw [hbl] at h2; exact h2)
      have HAGN := Lib.hid (fun (w' : World) (A2 : Option Addr) (c2 : Nat) (hc : 8 ≤ c2) (h : Rd w' A2 bs.reverse) => by
        have h2 := get_any A2 bs.reverse c2 (!little) 0 8 (by decide) (by rw [List.length_reverse, hbl]; exact hc) (by rw [List.length_reverse]; omega) w' h
        rw [hae.1, hae.2, List.length_reverse, hbl] at h2
        exact h2)
      have hne : ((G : Int) != (n : Int)) = false := by have h2 := HN.lt; rw [← hG, Nat.mod_eq_of_lt (by omega)]; simp
      have HG := Lib.hid hG
      clear hblk hbe hbs hbl hG hge hae hl3
      go_wp2_with (first
        | (go_at_call 15; refine (HPUT2.out _ HBE.out).mono ?_; rintro e w2 ⟨rfl, hr2, hb2⟩; have HR2 := Lib.hid hr2; have HB2 := Lib.hid (keepW HBE.out hb2); have HK2 := Lib.hid (Blk.keep hb2 HBL.out); clear hr2 hb2)
        | (go_at_call 8; refine (HGET.out _ _ (HR2.out.below ((Below.refl _ _).alloc (Nat.le_refl _) _))).mono ?_; rintro e w3 ⟨rfl, hb3⟩; have HR3 := Lib.hid ((HR2.out.below ((Below.refl _ _).alloc (Nat.le_refl _) _)).below hb3); have HB3 := Lib.hid (keepW (keepR HB2.out) hb3); have HK3 := Lib.hid (Blk.keep hb3 (HK2.out.old _)); have hrow3 := (Blk.keep hb3 (Blk.new rfl)).two; clear hb3 HR2)
        | (go_at_call 10; refine (HCUT.out _ _).mono ?_; rintro e w4 ⟨rfl, hb4⟩; have HR4 := Lib.hid (HOWN.out _ _ (HR3.out.below hb4)); have HB4 := Lib.hid (keepW HB3.out hb4); have HK4 := Lib.hid (Blk.keep hb4 HK3.out); clear hb4)
        | (go_at_call 19; refine (HCLO.out _ _ HR4.out).mono ?_; rintro e w5 ⟨A2, c2, rfl, hc2, ho5, hb5⟩; have HO5 := Lib.hid ho5; have HC2 := Lib.hid hc2; have HB5 := Lib.hid hb5; clear ho5 hb5 hc2)
        | (go_at_call 20; refine (HREV.out _ _ _ _ HO5.out).mono ?_; rintro e w6 ⟨rfl, ho6, hb6⟩; have HO6 := Lib.hid ho6; have HB6 := Lib.hid (HB5.out.trans hb6); have HB7 := Lib.hid (keepW HB4.out HB6.out); have HK6 := Lib.hid (Blk.keep HB6.out HK4.out); clear ho6 hb6)
        | (go_at_call 8; refine (HAGN.out _ _ _ HC2.out HO6.out.rd).mono ?_; rintro e w7 ⟨rfl, hb7⟩; have HB8 := Lib.hid (keepW HB7.out hb7); have HK7 := Lib.hid (Blk.keep hb7 HK6.out); clear hb7))
      go_roundw
      case rel => exact ⟨4 + 1, by omega, rfl, HK7.out, HB8.out⟩
      case measure => decide
    · rw [show ((5 : Nat) : Int) = 5 from rfl]
      have HBE := Lib.hid hbe
      clear hblk hbe
      have HT := Lib.hid HTT.out
      by_cases hlen2 : len < 2
      · have hE : (len : Int) - (len : Int) % 2 = 0 := by omega
        obtain ⟨S, hS⟩ : ∃ S, ck (sumP true []) = S := ⟨_, rfl⟩
        have hS16 : S ≤ 65535 := by rw [← hS]; exact ck_lt _
        have HS1 := Lib.hid (fun w' (hb : Below w.heap.size w w') => sum_back1 (w' := w') (A0 := A) (le := []) (E := 0) (cap := cap) rfl (by decide) hS (Rd.nil _ _))
        have HS2 := Lib.hid (fun w' (q : Nat) (hq : w'.heap.size = q) (hb : Below w.heap.size w w') => sum_back2 (w' := w') (A0 := A) (le := []) (E := 0) (cap := cap) rfl (by decide) (by decide) hS (Rd.nil _ _) q hq)
        have HSS := Lib.hid hS
        have hSI : (S : Int) < 65536 := by omega
        clear hS hS16 hlen2
        have HS3 := Lib.hid (fun (wx : World) (g : Nat) hb (_h : Below w.heap.size w wx) => sum_back3 (wx := wx) (g := g) (A3 := A) (A4 := A) (l3 := []) (l4 := []) (n3 := 0) (n4 := 0) (c3 := cap) (c4 := cap) rfl rfl (by decide) HSS.out hb (Rd.nil _ _) (Rd.nil _ _))
        go_upto_region 27 with (first
          | (go_at_call_of 17 (Value.slice (some ⟨wo.heap.size, 0, none⟩) 1 1); refine (HS1.out _ HBE.out).mono ?_; rintro e w' ⟨rfl, rfl⟩)
          | (go_at_call 17; refine (HS2.out (wo.alloc (.cells #[.slice A 0 cap] 22)) (wo.heap.size + 1) (by simp) (keepR HBE.out)).mono ?_; rintro e w' ⟨rfl, rfl⟩))
        have HB22 := Lib.hid (keepR (keepR (keepR HBE.out (o := .cells #[.slice A 0 cap] 22)) (o := .cells #[.int .u8 ((S : Int) / 256), .int .u8 ((S : Int) % 256)] 5)) (o := .cells #[.slice A 0 cap, .slice (some ⟨wo.heap.size + 1, 0, none⟩) 2 2] 22))
        generalize (((wo.alloc (.cells #[.slice A 0 cap] 22)).alloc (.cells #[.int .u8 ((S : Int) / 256), .int .u8 ((S : Int) % 256)] 5)).alloc (.cells #[.slice A 0 cap, .slice (some ⟨wo.heap.size + 1, 0, none⟩) 2 2] 22)) = wt at *
        obtain ⟨P, hP1, hP2, hP3⟩ : ∃ P : Nat, padI (len : Int) = (P : Int) ∧ padI ((len : Int) + (P : Int)) = 0 ∧ P ≤ 3 := by
          refine ⟨(padI (len : Int)).toNat, by have := padI_lo (len : Int); omega, ?_, by have := padI_lo (len : Int); omega⟩
          have h := padI_lo (len : Int)
          rw [show ((padI (len : Int)).toNat : Int) = padI (len : Int) by omega]
          unfold padI
          rw [if_neg (by omega : ¬ (len : Int) < 0), if_neg (by omega)]
          omega
        have hP3I : (P : Int) ≤ 3 := by omega
        have hw1 : IntKind.i64.wrap ((len : Int) + (P : Int)) = (len : Int) + (P : Int) := IntWalk.i64_in _ (by omega)
        have HP1 := Lib.hid hP1; have HP2 := Lib.hid hP2
        clear hP1 hP2 hP3
        skip
        refine wp_region_held_drew (S := (fun w' => Below w.heap.size w w')) (by kernel_rfl) ?_ (fun hHeld => ?_)
        · exact drewB HB22.out
        refine H.take 0 (v := ?_) rfl (by kernel_rfl) (fun _ _ _ h => h) (by rfl) ?_ (by assumption) ?_
        rotate_left
        · (intro wz hSw; (try dsimp only at hSw); go_simp <;> with_reducible rfl)
        try simp only [Act.put, List.setIfInBounds_toArray, List.set_cons_zero, List.set_cons_succ]
        refine H.take 1 (v := ?_) rfl (by kernel_rfl) (fun _ _ _ h => h) (by rfl) ?_ (by assumption) ?_
        rotate_left
        · (intro wz hSw; (try dsimp only at hSw); go_simp <;> with_reducible rfl)
        try simp only [Act.put, List.setIfInBounds_toArray, List.set_cons_zero, List.set_cons_succ]
        refine H.take 2 (v := ?_) rfl (by kernel_rfl) (fun _ _ _ h => h) (by rfl) ?_ (by assumption) ?_
        rotate_left
        · (intro wz hSw; (try dsimp only at hSw); go_simp <;> with_reducible rfl)
        try simp only [Act.put, List.setIfInBounds_toArray, List.set_cons_zero, List.set_cons_succ]
        refine H.take 3 (v := ?_) rfl (by kernel_rfl) (fun _ _ _ h => h) (by rfl) ?_ (by assumption) ?_
        rotate_left
        · (intro wz hSw; (try dsimp only at hSw); go_simp <;> with_reducible rfl)
        try simp only [Act.put, List.setIfInBounds_toArray, List.set_cons_zero, List.set_cons_succ]
        refine H.take 4 (v := ?_) rfl (by kernel_rfl) (fun _ _ _ h => h) (by rfl) ?_ (by assumption) ?_
        rotate_left
        · (intro wz hSw; (try dsimp only at hSw); go_simp <;> with_reducible rfl)
        try simp only [Act.put, List.setIfInBounds_toArray, List.set_cons_zero, List.set_cons_succ]
        refine H.take 5 (v := ?_) rfl (by kernel_rfl) (fun _ _ _ h => h) (by rfl) ?_ (by assumption) ?_
        rotate_left
        · (intro wz hSw; (try dsimp only at hSw); go_simp <;> with_reducible rfl)
        try simp only [Act.put, List.setIfInBounds_toArray, List.set_cons_zero, List.set_cons_succ]
        refine H.take 8 (v := ?_) rfl (by kernel_rfl) (fun _ _ _ h => h) (by rfl) ?_ (by assumption) ?_
        rotate_left
        · (intro wz hSw; (try dsimp only at hSw); go_simp <;> with_reducible rfl)
        try simp only [Act.put, List.setIfInBounds_toArray, List.set_cons_zero, List.set_cons_succ]
        refine H.ready [6] (by kernel_rfl) (by simp) ?_
        refine H.one rfl (by rfl) (fun K hK => ?_) AllReadyH.nil
        go_simp
        refine hK.out _ _ ?_ (fun hHeld2 => ?_)
        · exact hHeld.alloc hHeld.size _
        clear hHeld hK K; have hHeld := hHeld2; clear hHeld2
        try simp only [Act.put, List.setIfInBounds_toArray, List.set_cons_zero, List.set_cons_succ]
        refine H.freshD (fun n140 => ?_)
        refine H.ready [7] (by kernel_rfl) (by simp) ?_
        refine H.one rfl (by rfl) (fun K hK => ?_) AllReadyH.nil
        go_simp
        go_at_call 17
        refine (HS3.out _ _ n140 hHeld).mono ?_
        rintro e w' ⟨rfl, rfl⟩
        refine hK.out _ _ ?_ (fun hHeld2 => ?_)
        · exact hHeld
        clear hHeld hK K; have hHeld := hHeld2; clear hHeld2
        try simp only [Act.put, List.setIfInBounds_toArray, List.set_cons_zero, List.set_cons_succ]
        refine H.take 9 (v := ?_) rfl (by kernel_rfl) (fun _ _ _ h => h) (by rfl) ?_ (by assumption) ?_
        rotate_left
        · (intro wz hSw; (try dsimp only at hSw); go_simp <;> with_reducible rfl)
        try simp only [Act.put, List.setIfInBounds_toArray, List.set_cons_zero, List.set_cons_succ]
        refine H.take 10 (v := ?_) rfl (by kernel_rfl) (fun _ _ _ h => h) (by rfl) ?_ (by assumption) ?_
        rotate_left
        · (intro wz hSw; (try dsimp only at hSw); go_simp <;> with_reducible rfl)
        try simp only [Act.put, List.setIfInBounds_toArray, List.set_cons_zero, List.set_cons_succ]
        refine H.take 11 (v := ?_) rfl (by kernel_rfl) (fun _ _ _ h => h) (by rfl) ?_ (by assumption) ?_
        rotate_left
        · (intro wz hSw; (try dsimp only at hSw); go_simp <;> with_reducible rfl)
        try simp only [Act.put, List.setIfInBounds_toArray, List.set_cons_zero, List.set_cons_succ]
        refine H.take 12 (v := ?_) rfl (by kernel_rfl) (fun _ _ _ h => h) (by rfl) ?_ (by assumption) ?_
        rotate_left
        · (intro wz hSw; (try dsimp only at hSw); go_simp <;> with_reducible rfl)
        try simp only [Act.put, List.setIfInBounds_toArray, List.set_cons_zero, List.set_cons_succ]
        refine H.take 13 (v := ?_) rfl (by kernel_rfl) (fun _ _ _ h => h) (by rfl) ?_ (by assumption) ?_
        rotate_left
        · (intro wz hSw; (try dsimp only at hSw); go_simp <;> with_reducible rfl)
        try simp only [Act.put, List.setIfInBounds_toArray, List.set_cons_zero, List.set_cons_succ]
        refine H.take 14 (v := ?_) rfl (by kernel_rfl) (fun _ _ _ h => h) (by rfl) ?_ (by assumption) ?_
        rotate_left
        · (intro wz hSw; (try dsimp only at hSw); go_simp <;> with_reducible rfl)
        try simp only [Act.put, List.setIfInBounds_toArray, List.set_cons_zero, List.set_cons_succ]
        refine H.ready [15] (by kernel_rfl) (by simp) ?_
        refine H.one rfl (by rfl) (fun K hK => ?_) AllReadyH.nil
        go_simp
        go_at_call 14
        refine (pad_any (len : Int) _).mono ?_
        rintro e w' ⟨rfl, rfl⟩
        rw [HP1.out]
        refine hK.out _ _ ?_ (fun hHeld2 => ?_)
        · exact hHeld
        clear hHeld hK K; have hHeld := hHeld2; clear hHeld2
        try simp only [Act.put, List.setIfInBounds_toArray, List.set_cons_zero, List.set_cons_succ]
        refine H.take 16 (v := ?_) rfl (by kernel_rfl) (fun _ _ _ h => h) (by rfl) ?_ (by assumption) ?_
        rotate_left
        · (intro wz hSw; (try dsimp only at hSw); go_simp <;> with_reducible rfl)
        try simp only [Act.put, List.setIfInBounds_toArray, List.set_cons_zero, List.set_cons_succ]
        refine H.ready [17] (by kernel_rfl) (by simp) ?_
        refine H.one rfl (by rfl) (fun K hK => ?_) AllReadyH.nil
        go_simp
        go_at_call 14
        refine (pad_any ((len : Int) + (P : Int)) _).mono ?_
        rintro e w' ⟨rfl, rfl⟩
        rw [HP2.out]
        refine hK.out _ _ ?_ (fun hHeld2 => ?_)
        · exact hHeld
        clear hHeld hK K; have hHeld := hHeld2; clear hHeld2
        try simp only [Act.put, List.setIfInBounds_toArray, List.set_cons_zero, List.set_cons_succ]
        refine H.take 18 (v := ?_) rfl (by kernel_rfl) (fun _ _ _ h => h) (by rfl) ?_ (by assumption) ?_
        rotate_left
        · (intro wz hSw; (try dsimp only at hSw); go_simp <;> with_reducible rfl)
        try simp only [Act.put, List.setIfInBounds_toArray, List.set_cons_zero, List.set_cons_succ]
        refine H.take 19 (v := ?_) rfl (by kernel_rfl) (fun _ _ _ h => h) (by rfl) ?_ (by assumption) ?_
        rotate_left
        · (intro wz hSw; (try dsimp only at hSw); go_simp <;> with_reducible rfl)
        try simp only [Act.put, List.setIfInBounds_toArray, List.set_cons_zero, List.set_cons_succ]
        refine H.take 20 (v := ?_) rfl (by kernel_rfl) (fun _ _ _ h => h) (by rfl) ?_ (by assumption) ?_
        rotate_left
        · (intro wz hSw; (try dsimp only at hSw); go_simp <;> with_reducible rfl)
        try simp only [Act.put, List.setIfInBounds_toArray, List.set_cons_zero, List.set_cons_succ]
        refine H.done (by kernel_rfl) ?_ _
        go_wp2
        go_ret
        exact ⟨rfl, hHeld⟩
      · obtain ⟨E, hE, hE2, hEl, hE0⟩ : ∃ E : Nat, (len : Int) - (len : Int) % 2 = (E : Int) ∧ E % 2 = 0 ∧ E ≤ len ∧ 0 < E := ⟨len - len % 2, by omega, by omega, by omega, by omega⟩
        obtain ⟨A0, hrunE, hrdE⟩ := even_cut A l cap E (by rw [HLEN.out]; exact hEl) HCAP.out
        rw [HLEN.out] at hrunE
        obtain ⟨le, hle⟩ : ∃ le, l.take E = le := ⟨_, rfl⟩
        have hlel : le.length = E := by rw [← hle, List.length_take, HLEN.out]; omega
        rw [hle] at hrdE
        have HRE := Lib.hid (fun w' (hb : Below w.heap.size w w') => hrdE w' (HRD.out.below hb))
        obtain ⟨S, hS⟩ : ∃ S, ck (sumP true le) = S := ⟨_, rfl⟩
        have hS16 : S ≤ 65535 := by rw [← hS]; exact ck_lt _
        have hE300 : E ≤ 300 := by have := HL.out; have := HLEN.out; omega
        have HS1 := Lib.hid (fun w' (hb : Below w.heap.size w w') => sum_back1 (cap := cap) hlel hE300 hS (HRE.out w' hb))
        have HS2 := Lib.hid (fun w' (q : Nat) (hq : w'.heap.size = q) (hb : Below w.heap.size w w') => sum_back2 (cap := cap) hlel hE300 hE2 hS (HRE.out w' hb) q hq)
        have HLE := Lib.hid hlel; have HSS := Lib.hid hS; have HE2 := Lib.hid hE2; have HEL := Lib.hid hEl
        have hSI : (S : Int) < 65536 := by omega
        obtain ⟨q, hq, hqE⟩ : ∃ q : Nat, (t : Int) % (E : Int) = (q : Int) ∧ q < E := ⟨t % E, by rw [Int.natCast_emod], Nat.mod_lt _ hE0⟩
        obtain ⟨a, haE, ha2, hat⟩ : ∃ a : Nat, a ≤ E ∧ a % 2 = 0 ∧ (q : Int) / 2 * 2 = (a : Int) := ⟨q / 2 * 2, by omega, by omega, by omega⟩
        have HAE := Lib.hid haE; have HA2 := Lib.hid ha2
        have hq300 : (q : Int) < 300 := by omega
        have htI : (t : Int) < 65536 := by have := HT.out; omega
        have hE0I : (0 : Int) < (E : Int) := by omega
        obtain ⟨A3, c3, hrun3, hrd3⟩ := from_cut A0 le cap a (by omega) (by have := HCAP.out; have := HLEN.out; omega)
        obtain ⟨A4, hrun4, hrd4⟩ := even_cut A0 le cap a (by omega) (by have := HCAP.out; have := HLEN.out; omega)
        rw [hlel] at hrun3 hrun4
        have HS3 := Lib.hid (fun (wx : World) (g : Nat) hb (h : Below w.heap.size w wx) => sum_back3 (wx := wx) (g := g) (A3 := A3) (A4 := A4) (l3 := le.drop a) (l4 := le.take a) (n3 := E - a) (n4 := a) (c3 := c3) (c4 := cap) (S := S) (by rw [List.length_drop, hlel]) (by rw [List.length_take, hlel]; omega) (by omega) (by rw [sum_turn le a (by rw [hlel]; exact hE2) (by omega) ha2]; exact hS) hb (hrd3 _ (HRE.out wx h)) (hrd4 _ (HRE.out wx h)))
        clear hle hlel hrdE hS hS16 hE2 hEl haE ha2 hlen2 hrd3 hrd4
        have HR3 := Lib.hid hrun3; have HR4 := Lib.hid hrun4
        clear hrun3 hrun4
        go_upto_region 27 with (first
          | (go_at_call_of 17 (Value.slice (some ⟨wo.heap.size, 0, none⟩) 1 1); refine (HS1.out _ HBE.out).mono ?_; rintro e w' ⟨rfl, rfl⟩)
          | (go_at_call 17; refine (HS2.out (wo.alloc (.cells #[.slice A0 E cap] 22)) (wo.heap.size + 1) (by simp) (keepR HBE.out)).mono ?_; rintro e w' ⟨rfl, rfl⟩))
        have HB22 := Lib.hid (keepR (keepR (keepR HBE.out (o := .cells #[.slice A0 E cap] 22)) (o := .cells #[.int .u8 ((S : Int) / 256), .int .u8 ((S : Int) % 256)] 5)) (o := .cells #[.slice A0 E cap, .slice (some ⟨wo.heap.size + 1, 0, none⟩) 2 2] 22))
        generalize (((wo.alloc (.cells #[.slice A0 E cap] 22)).alloc (.cells #[.int .u8 ((S : Int) / 256), .int .u8 ((S : Int) % 256)] 5)).alloc (.cells #[.slice A0 E cap, .slice (some ⟨wo.heap.size + 1, 0, none⟩) 2 2] 22)) = wt at *
        obtain ⟨P, hP1, hP2, hP3⟩ : ∃ P : Nat, padI (len : Int) = (P : Int) ∧ padI ((len : Int) + (P : Int)) = 0 ∧ P ≤ 3 := by
          refine ⟨(padI (len : Int)).toNat, by have := padI_lo (len : Int); omega, ?_, by have := padI_lo (len : Int); omega⟩
          have h := padI_lo (len : Int)
          rw [show ((padI (len : Int)).toNat : Int) = padI (len : Int) by omega]
          unfold padI
          rw [if_neg (by omega : ¬ (len : Int) < 0), if_neg (by omega)]
          omega
        have hP3I : (P : Int) ≤ 3 := by omega
        have hw1 : IntKind.i64.wrap ((len : Int) + (P : Int)) = (len : Int) + (P : Int) := IntWalk.i64_in _ (by omega)
        have HP1 := Lib.hid hP1; have HP2 := Lib.hid hP2
        clear hP1 hP2 hP3
        have hrun3 := HR3.out; have hrun4 := HR4.out
        refine wp_region_held_drew (S := (fun w' => Below w.heap.size w w')) (by kernel_rfl) ?_ (fun hHeld => ?_)
        · exact drewB HB22.out
        refine H.take 0 (v := ?_) rfl (by kernel_rfl) (fun _ _ _ h => h) (by rfl) ?_ (by assumption) ?_
        rotate_left
        · (intro wz hSw; (try dsimp only at hSw); go_simp <;> with_reducible rfl)
        try simp only [Act.put, List.setIfInBounds_toArray, List.set_cons_zero, List.set_cons_succ]
        refine H.take 1 (v := ?_) rfl (by kernel_rfl) (fun _ _ _ h => h) (by rfl) ?_ (by assumption) ?_
        rotate_left
        · (intro wz hSw; (try dsimp only at hSw); go_simp <;> with_reducible rfl)
        try simp only [Act.put, List.setIfInBounds_toArray, List.set_cons_zero, List.set_cons_succ]
        refine H.take 2 (v := ?_) rfl (by kernel_rfl) (fun _ _ _ h => h) (by rfl) ?_ (by assumption) ?_
        rotate_left
        · (intro wz hSw; (try dsimp only at hSw); go_simp <;> with_reducible rfl)
        try simp only [Act.put, List.setIfInBounds_toArray, List.set_cons_zero, List.set_cons_succ]
        refine H.take 3 (v := ?_) rfl (by kernel_rfl) (fun _ _ _ h => h) (by rfl) ?_ (by assumption) ?_
        rotate_left
        · (intro wz hSw; (try dsimp only at hSw); go_simp <;> with_reducible rfl)
        try simp only [Act.put, List.setIfInBounds_toArray, List.set_cons_zero, List.set_cons_succ]
        refine H.take 4 (v := ?_) rfl (by kernel_rfl) (fun _ _ _ h => h) (by rfl) ?_ (by assumption) ?_
        rotate_left
        · (intro wz hSw; (try dsimp only at hSw); go_simp <;> with_reducible rfl)
        try simp only [Act.put, List.setIfInBounds_toArray, List.set_cons_zero, List.set_cons_succ]
        refine H.take 5 (v := ?_) rfl (by kernel_rfl) (fun _ _ _ h => h) (by rfl) ?_ (by assumption) ?_
        rotate_left
        · (intro wz hSw; (try dsimp only at hSw); go_simp <;> with_reducible rfl)
        try simp only [Act.put, List.setIfInBounds_toArray, List.set_cons_zero, List.set_cons_succ]
        refine H.take 8 (v := ?_) rfl (by kernel_rfl) (fun _ _ _ h => h) (by rfl) ?_ (by assumption) ?_
        rotate_left
        · (intro wz hSw; (try dsimp only at hSw); go_simp <;> with_reducible rfl)
        try simp only [Act.put, List.setIfInBounds_toArray, List.set_cons_zero, List.set_cons_succ]
        refine H.ready [6] (by kernel_rfl) (by simp) ?_
        refine H.one rfl (by rfl) (fun K hK => ?_) AllReadyH.nil
        go_simp
        refine hK.out _ _ ?_ (fun hHeld2 => ?_)
        · exact hHeld.alloc hHeld.size _
        clear hHeld hK K; have hHeld := hHeld2; clear hHeld2
        try simp only [Act.put, List.setIfInBounds_toArray, List.set_cons_zero, List.set_cons_succ]
        refine H.freshD (fun n140 => ?_)
        refine H.ready [7] (by kernel_rfl) (by simp) ?_
        refine H.one rfl (by rfl) (fun K hK => ?_) AllReadyH.nil
        go_simp
        go_at_call 17
        refine (HS3.out _ _ n140 hHeld).mono ?_
        rintro e w' ⟨rfl, rfl⟩
        refine hK.out _ _ ?_ (fun hHeld2 => ?_)
        · exact hHeld
        clear hHeld hK K; have hHeld := hHeld2; clear hHeld2
        try simp only [Act.put, List.setIfInBounds_toArray, List.set_cons_zero, List.set_cons_succ]
        refine H.take 9 (v := ?_) rfl (by kernel_rfl) (fun _ _ _ h => h) (by rfl) ?_ (by assumption) ?_
        rotate_left
        · (intro wz hSw; (try dsimp only at hSw); go_simp <;> with_reducible rfl)
        try simp only [Act.put, List.setIfInBounds_toArray, List.set_cons_zero, List.set_cons_succ]
        refine H.take 10 (v := ?_) rfl (by kernel_rfl) (fun _ _ _ h => h) (by rfl) ?_ (by assumption) ?_
        rotate_left
        · (intro wz hSw; (try dsimp only at hSw); go_simp <;> with_reducible rfl)
        try simp only [Act.put, List.setIfInBounds_toArray, List.set_cons_zero, List.set_cons_succ]
        refine H.take 11 (v := ?_) rfl (by kernel_rfl) (fun _ _ _ h => h) (by rfl) ?_ (by assumption) ?_
        rotate_left
        · (intro wz hSw; (try dsimp only at hSw); go_simp <;> with_reducible rfl)
        try simp only [Act.put, List.setIfInBounds_toArray, List.set_cons_zero, List.set_cons_succ]
        refine H.take 12 (v := ?_) rfl (by kernel_rfl) (fun _ _ _ h => h) (by rfl) ?_ (by assumption) ?_
        rotate_left
        · (intro wz hSw; (try dsimp only at hSw); go_simp <;> with_reducible rfl)
        try simp only [Act.put, List.setIfInBounds_toArray, List.set_cons_zero, List.set_cons_succ]
        refine H.take 13 (v := ?_) rfl (by kernel_rfl) (fun _ _ _ h => h) (by rfl) ?_ (by assumption) ?_
        rotate_left
        · (intro wz hSw; (try dsimp only at hSw); go_simp <;> with_reducible rfl)
        try simp only [Act.put, List.setIfInBounds_toArray, List.set_cons_zero, List.set_cons_succ]
        refine H.take 14 (v := ?_) rfl (by kernel_rfl) (fun _ _ _ h => h) (by rfl) ?_ (by assumption) ?_
        rotate_left
        · (intro wz hSw; (try dsimp only at hSw); go_simp <;> with_reducible rfl)
        try simp only [Act.put, List.setIfInBounds_toArray, List.set_cons_zero, List.set_cons_succ]
        refine H.ready [15] (by kernel_rfl) (by simp) ?_
        refine H.one rfl (by rfl) (fun K hK => ?_) AllReadyH.nil
        go_simp
        go_at_call 14
        refine (pad_any (len : Int) _).mono ?_
        rintro e w' ⟨rfl, rfl⟩
        rw [HP1.out]
        refine hK.out _ _ ?_ (fun hHeld2 => ?_)
        · exact hHeld
        clear hHeld hK K; have hHeld := hHeld2; clear hHeld2
        try simp only [Act.put, List.setIfInBounds_toArray, List.set_cons_zero, List.set_cons_succ]
        refine H.take 16 (v := ?_) rfl (by kernel_rfl) (fun _ _ _ h => h) (by rfl) ?_ (by assumption) ?_
        rotate_left
        · (intro wz hSw; (try dsimp only at hSw); go_simp <;> with_reducible rfl)
        try simp only [Act.put, List.setIfInBounds_toArray, List.set_cons_zero, List.set_cons_succ]
        refine H.ready [17] (by kernel_rfl) (by simp) ?_
        refine H.one rfl (by rfl) (fun K hK => ?_) AllReadyH.nil
        go_simp
        go_at_call 14
        refine (pad_any ((len : Int) + (P : Int)) _).mono ?_
        rintro e w' ⟨rfl, rfl⟩
        rw [HP2.out]
        refine hK.out _ _ ?_ (fun hHeld2 => ?_)
        · exact hHeld
        clear hHeld hK K; have hHeld := hHeld2; clear hHeld2
        try simp only [Act.put, List.setIfInBounds_toArray, List.set_cons_zero, List.set_cons_succ]
        refine H.take 18 (v := ?_) rfl (by kernel_rfl) (fun _ _ _ h => h) (by rfl) ?_ (by assumption) ?_
        rotate_left
        · (intro wz hSw; (try dsimp only at hSw); go_simp <;> with_reducible rfl)
        try simp only [Act.put, List.setIfInBounds_toArray, List.set_cons_zero, List.set_cons_succ]
        refine H.take 19 (v := ?_) rfl (by kernel_rfl) (fun _ _ _ h => h) (by rfl) ?_ (by assumption) ?_
        rotate_left
        · (intro wz hSw; (try dsimp only at hSw); go_simp <;> with_reducible rfl)
        try simp only [Act.put, List.setIfInBounds_toArray, List.set_cons_zero, List.set_cons_succ]
        refine H.take 20 (v := ?_) rfl (by kernel_rfl) (fun _ _ _ h => h) (by rfl) ?_ (by assumption) ?_
        rotate_left
        · (intro wz hSw; (try dsimp only at hSw); go_simp <;> with_reducible rfl)
        try simp only [Act.put, List.setIfInBounds_toArray, List.set_cons_zero, List.set_cons_succ]
        refine H.done (by kernel_rfl) ?_ _
        go_wp2
        go_ret
        exact ⟨rfl, hHeld⟩
end Go.Proofs.Ytbmifinomdcllaa
