
/-
  Octet: Get. (Written by tools/gen_ocD.py.)
-/
import Derived.Test.YtbmifinomdcllaaOcC

namespace Go.Proofs.Ytbmifinomdcllaa

open Go.RowKit Go.Lib

set_option maxRecDepth 100000

def ordF (little : Bool) (n m : Nat) : Nat := if little then n else revN n / 256 ^ (8 - m)
theorem order_any (A : Option Addr) (len cap : Nat) (little : Bool) (x : Int) (n : Nat) (hx : x = (n : Int)) (hn : n < 18446744073709551616) (m : Nat) (hm : m ≤ 8) (w : World) :
    Calls Try.prog 22 #[.agg #[.slice A len cap, .bool little], .int .u64 x, .int .i64 m] w fun e w' => e = .returned (.int .u64 (ordF little n m : Nat)) ∧ Below w.heap.size w w' := by
  subst hx
  cases little
  · exact order_big A len cap n hn m hm w
  · exact order_lit A len cap n m w
/-- The number that bytes are. -/
def valF (little : Bool) (l : List UInt8) : Nat := leNat (if little then l else l.reverse)
theorem leNat_lt (l : List UInt8) : leNat l < 256 ^ l.length := by
  induction l with
  | nil => decide
  | cons x l ih => have := x.toNat_lt; simp only [leNat, List.length_cons, Nat.pow_succ]; omega
theorem leNat_lt8 (l : List UInt8) (h : l.length ≤ 8) : leNat l < 18446744073709551616 :=
  Nat.lt_of_lt_of_le (leNat_lt l) (Nat.le_trans (Nat.pow_le_pow_right (by decide) h) (by decide))
theorem leNat_app (a b : List UInt8) : leNat (a ++ b) = leNat a + 256 ^ a.length * leNat b := by
  induction a with
  | nil => simp [leNat]
  | cons x a ih => simp only [List.cons_append, leNat, ih, List.length_cons, Nat.pow_succ]; rw [Nat.mul_add, ← Nat.mul_assoc, Nat.mul_comm (256 ^ a.length) 256, Nat.add_assoc]
theorem toNat_mod8 (x : UInt8) (n : Nat) : ((x.toNat + 256 * n) % 256).toUInt8 = x := by
  apply UInt8.toNat.inj
  rw [toUInt8_mod]; have := x.toNat_lt; omega
theorem leBytes_leNat (l : List UInt8) (k : Nat) (hk : l.length ≤ k) : Lib.leBytes k (leNat l) = l ++ List.replicate (k - l.length) 0 := by
  induction l generalizing k with
  | nil =>
    simp only [leNat, List.nil_append, List.length_nil, Nat.sub_zero]
    induction k with
    | zero => rfl
    | succ k ih => simp only [Lib.leBytes, List.replicate_succ]; rw [show (0 / 256 : Nat) = 0 from rfl, ih (Nat.zero_le _)]; rfl
  | cons x l ih =>
    cases k with
    | zero => simp at hk
    | succ k =>
      have hd : (x.toNat + 256 * leNat l) / 256 = leNat l := by have := x.toNat_lt; omega
      simp only [Lib.leBytes, leNat, toNat_mod8, hd, List.cons_append, List.length_cons]
      rw [ih k (by simpa using hk), Nat.add_sub_add_right]
theorem leNat_zeros (k : Nat) : leNat (List.replicate k 0) = 0 := by
  induction k with
  | zero => rfl
  | succ k ih => simp [List.replicate_succ, leNat, ih]
theorem ordF_val (little : Bool) (l : List UInt8) (h : l.length ≤ 8) : ordF little (leNat l) l.length = valF little l := by
  cases little
  · show revN (leNat l) / 256 ^ (8 - l.length) = leNat l.reverse
    unfold revN
    rw [leBytes_leNat l 8 h, List.reverse_append, List.reverse_replicate, leNat_app, leNat_zeros, List.length_replicate, Nat.zero_add, Nat.mul_div_cancel_left _ (Nat.pow_pos (by decide))]
  · rfl
theorem valF_lt (little : Bool) (l : List UInt8) (h : l.length ≤ 8) : valF little l < 18446744073709551616 := by
  unfold valF; split
  · exact leNat_lt8 l h
  · exact leNat_lt8 _ (by simpa using h)
theorem oj (i : Nat) (x y : Int) (hx : 0 ≤ x) (hd : x % 2 ^ i = 0) (hx1 : x < 18446744073709551616) (hy : 0 ≤ y) (hy1 : y < 2 ^ i) (hi : y < 18446744073709551616) : bits .or .u64 x y = x + y :=
  bits_join .u64 64 (by decide) wraps_u64 i x y hx hd hx1 hy hy1 hi
theorem oj0 (y : Int) (h0 : 0 ≤ y) (h1 : y < 18446744073709551616) : bits .or .u64 0 y = y := by
  have := bits_join .u64 64 (by decide) wraps_u64 64 0 y (by decide) (by decide) (by decide) h0 h1 h1
  rw [this]; omega
/-- The row's own block: what Get and the like read again. -/
theorem two_after {w w1 : World} {v u : Value} {T : TypeId} (hb : Below (w.alloc (.cells #[v, u] T)).heap.size (w.alloc (.cells #[v, u] T)) w1) :
    w1.cell? ⟨w.heap.size, 0, none⟩ = some v ∧ w1.cell? ⟨w.heap.size, 1, none⟩ = some u := (Blk.keep hb (Blk.new rfl)).two
theorem cell_after {w w1 : World} {o : Obj} {b i : Nat} {x : Value} (hb : Below (w.alloc o).heap.size (w.alloc o) w1) (h : w.cell? ⟨b, i, none⟩ = some x) : w1.cell? ⟨b, i, none⟩ = some x := by
  have hbk : b < w.heap.size := World.block_lt_of_cell? _ _ h
  exact (hb.cell (p := ⟨b, i, none⟩) (by simp; omega)).trans ((World.cell?_alloc_lt _ _ _ hbk).trans h)
theorem keepA {w w1 w2 : World} {o : Obj} (h1 : Below (w.alloc o).heap.size (w.alloc o) w1) (h2 : Below w1.heap.size w1 w2) : Below w.heap.size w w2 :=
  ((Below.refl _ w).alloc (Nat.le_refl _) o).trans ((h1.trans (h2.mono h1.size)).mono (by simp))
set_option maxHeartbeats 1000000 in
theorem get0 (A : Option Addr) (len cap : Nat) (little : Bool) (a : Nat) (h : a ≤ len) (hc : len ≤ cap) (hlen : len ≤ 4611686018427387904) (w : World) :
    Calls Try.prog 8 #[.agg #[.slice A len cap, .bool little], .int .i64 a, .int .i64 0] w fun e w' => e = .returned (.tuple #[.int .u64 (valF little [] : Nat), .bool true]) ∧ Below w.heap.size w w' := by
  have HC := Lib.hid (cut_ok A len cap little a 0 h hc hlen)
  have HV := Lib.hid (ordF_val little [] (by decide))
  go_enter Try.func8, Try.ntmps8
  go_wp2_with (first
    | (go_at_call 10; refine (HC.out _).mono ?_; rintro e w1 ⟨rfl, hb1⟩; have hr1 := two_after hb1; have hz1 := hb1.size; have HB1 := Lib.hid hb1; clear hb1)
    | (go_at_call 21; refine (fits_any _ _).mono ?_; rintro e w' ⟨rfl, rfl⟩)
    | (go_at_call 22; refine (order_any A len cap little _ 0 rfl (by decide) 0 (by decide) _).mono ?_; rintro e w2 ⟨rfl, hb2⟩; have HB2 := Lib.hid (keepA HB1.out hb2); clear hb2))
  go_ret2
  exact ⟨by rw [← HV.out]; rfl, HB2.out⟩
theorem get_no (A : Option Addr) (len cap : Nat) (little : Bool) (a m : Int) (h : ¬ (0 ≤ a ∧ 0 ≤ m ∧ a ≤ len ∧ m ≤ len - a)) (hlen : len ≤ 4611686018427387904) (ha : a ≤ 9223372036854775807) (w : World) :
    Calls Try.prog 8 #[.agg #[.slice A len cap, .bool little], .int .i64 a, .int .i64 m] w fun e w' => e = .returned (.tuple #[.int .u64 0, .bool false]) ∧ Below w.heap.size w w' := by
  have HC := Lib.hid (cut_no A len cap little a m h hlen ha)
  clear h
  go_enter Try.func8, Try.ntmps8
  go_wp2_with (first
    | (go_at_call 10; refine (HC.out _).mono ?_; rintro e w1 ⟨rfl, hb1⟩; have HB1 := Lib.hid hb1; clear hb1)
    | (go_at_call 21; refine (fits_any _ _).mono ?_; rintro e w' ⟨rfl, rfl⟩))
  go_ret2
  exact ⟨rfl, keepA HB1.out (Below.refl _ _)⟩
theorem get_big (A : Option Addr) (len cap : Nat) (little : Bool) (a m : Nat) (h : a + m ≤ len) (hc : len ≤ cap) (hm : 8 < m) (hlen : len ≤ 4611686018427387904) (w : World) :
    Calls Try.prog 8 #[.agg #[.slice A len cap, .bool little], .int .i64 a, .int .i64 m] w fun e w' => e = .returned (.tuple #[.int .u64 0, .bool false]) ∧ Below w.heap.size w w' := by
  have HC := Lib.hid (cut_ok A len cap little a m h hc hlen)
  have hd : decide (0 ≤ (m : Int) ∧ (m : Int) ≤ 8) = false := by simp; omega
  have HF := Lib.hid (fun w => by have := fits_any (m : Int) w; rwa [hd] at this)
  clear h hd hm hc
  go_enter Try.func8, Try.ntmps8
  go_wp2_with (first
    | (go_at_call 10; refine (HC.out _).mono ?_; rintro e w1 ⟨rfl, hb1⟩; have HB1 := Lib.hid hb1; clear hb1)
    | (go_at_call 21; refine (HF.out _).mono ?_; rintro e w' ⟨rfl, rfl⟩))
  go_ret2
  exact ⟨rfl, keepA HB1.out (Below.refl _ _)⟩
theorem chain1 (b0 : UInt8) : bits .or .u64 0 (b0.toNat : Int) = ((leNat [b0] : Nat) : Int) := by
  have hb0 : b0.toNat < 256 := b0.toNat_lt
  rw [oj0 ((b0.toNat : Int)) (by omega) (by omega)]
  simp only [leNat]
  omega
set_option maxHeartbeats 1000000 in
theorem get1 (blk off len cap : Nat) (little : Bool) (a : Nat) (b0 : UInt8) (h : a + 1 ≤ len) (hc : len ≤ cap) (hlen : len ≤ 4611686018427387904) (w : World)
    (c0 : w.cell? ⟨blk, off + a, none⟩ = some (u8 b0)) :
    Calls Try.prog 8 #[.agg #[.slice (some ⟨blk, off, none⟩) len cap, .bool little], .int .i64 a, .int .i64 1] w fun e w' => e = .returned (.tuple #[.int .u64 (valF little [b0] : Nat), .bool true]) ∧ Below w.heap.size w w' := by
  have hb0 : b0.toNat < 256 := b0.toNat_lt
  have HA := Lib.hid (show cutA (some ⟨blk, off, none⟩) a 1 = some ⟨blk, off + a, none⟩ by unfold cutA; rw [if_neg (by decide)]; exact congrArg some (plain_add _ _ _))
  have HC := Lib.hid (cut_ok (some ⟨blk, off, none⟩) len cap little a 1 h hc hlen)
  have HV := Lib.hid (ordF_val little [b0] (by simp))
  have HH := Lib.hid (chain1 b0)
  go_enter Try.func8, Try.ntmps8
  go_wp2_with (first
    | (go_at_call 10; refine (HC.out _).mono ?_; rintro e w1 ⟨rfl, hb1⟩; rw [HA.out]; have hr1 := two_after hb1; have c0 := cell_after hb1 c0; have hz1 := hb1.size; have HB1 := Lib.hid hb1; clear hb1)
    | (go_at_call 21; refine (fits_any _ _).mono ?_; rintro e w' ⟨rfl, rfl⟩)
    | (go_at_call 22; refine (order_any (some ⟨blk, off, none⟩) len cap little _ _ HH.out (leNat_lt8 _ (by simp)) 1 (by decide) _).mono ?_; rintro e w2 ⟨rfl, hb2⟩; have HB2 := Lib.hid (keepA HB1.out hb2); clear hb2))
  go_ret2
  exact ⟨by rw [← HV.out]; rfl, HB2.out⟩
theorem chain2 (b0 b1 : UInt8) : bits .or .u64 (bits .or .u64 0 ((b1.toNat : Int) * 256)) (b0.toNat : Int) = ((leNat [b0, b1] : Nat) : Int) := by
  have hb0 : b0.toNat < 256 := b0.toNat_lt
  have hb1 : b1.toNat < 256 := b1.toNat_lt
  rw [oj0 ((b1.toNat : Int) * 256) (by omega) (by omega)]
  rw [oj 8 ((b1.toNat : Int) * 256) ((b0.toNat : Int)) (by omega) (by omega) (by omega) (by omega) (by omega) (by omega)]
  simp only [leNat]
  omega
set_option maxHeartbeats 1000000 in
theorem get2 (blk off len cap : Nat) (little : Bool) (a : Nat) (b0 b1 : UInt8) (h : a + 2 ≤ len) (hc : len ≤ cap) (hlen : len ≤ 4611686018427387904) (w : World)
    (c0 : w.cell? ⟨blk, off + a, none⟩ = some (u8 b0)) (c1 : w.cell? ⟨blk, off + a + 1, none⟩ = some (u8 b1)) :
    Calls Try.prog 8 #[.agg #[.slice (some ⟨blk, off, none⟩) len cap, .bool little], .int .i64 a, .int .i64 2] w fun e w' => e = .returned (.tuple #[.int .u64 (valF little [b0, b1] : Nat), .bool true]) ∧ Below w.heap.size w w' := by
  have hb0 : b0.toNat < 256 := b0.toNat_lt
  have hb1 : b1.toNat < 256 := b1.toNat_lt
  have HA := Lib.hid (show cutA (some ⟨blk, off, none⟩) a 2 = some ⟨blk, off + a, none⟩ by unfold cutA; rw [if_neg (by decide)]; exact congrArg some (plain_add _ _ _))
  have HC := Lib.hid (cut_ok (some ⟨blk, off, none⟩) len cap little a 2 h hc hlen)
  have HV := Lib.hid (ordF_val little [b0, b1] (by simp))
  have HH := Lib.hid (chain2 b0 b1)
  go_enter Try.func8, Try.ntmps8
  go_wp2_with (first
    | (go_at_call 10; refine (HC.out _).mono ?_; rintro e w1 ⟨rfl, hb1⟩; rw [HA.out]; have hr1 := two_after hb1; have c0 := cell_after hb1 c0; have c1 := cell_after hb1 c1; have hz1 := hb1.size; have HB1 := Lib.hid hb1; clear hb1)
    | (go_at_call 21; refine (fits_any _ _).mono ?_; rintro e w' ⟨rfl, rfl⟩)
    | (go_at_call 22; refine (order_any (some ⟨blk, off, none⟩) len cap little _ _ HH.out (leNat_lt8 _ (by simp)) 2 (by decide) _).mono ?_; rintro e w2 ⟨rfl, hb2⟩; have HB2 := Lib.hid (keepA HB1.out hb2); clear hb2))
  go_ret2
  exact ⟨by rw [← HV.out]; rfl, HB2.out⟩
theorem chain3 (b0 b1 b2 : UInt8) : bits .or .u64 (bits .or .u64 (bits .or .u64 0 ((b2.toNat : Int) * 65536)) ((b1.toNat : Int) * 256)) (b0.toNat : Int) = ((leNat [b0, b1, b2] : Nat) : Int) := by
  have hb0 : b0.toNat < 256 := b0.toNat_lt
  have hb1 : b1.toNat < 256 := b1.toNat_lt
  have hb2 : b2.toNat < 256 := b2.toNat_lt
  rw [oj0 ((b2.toNat : Int) * 65536) (by omega) (by omega)]
  rw [oj 16 ((b2.toNat : Int) * 65536) ((b1.toNat : Int) * 256) (by omega) (by omega) (by omega) (by omega) (by omega) (by omega)]
  rw [oj 8 ((b2.toNat : Int) * 65536 + (b1.toNat : Int) * 256) ((b0.toNat : Int)) (by omega) (by omega) (by omega) (by omega) (by omega) (by omega)]
  simp only [leNat]
  omega
set_option maxHeartbeats 1000000 in
theorem get3 (blk off len cap : Nat) (little : Bool) (a : Nat) (b0 b1 b2 : UInt8) (h : a + 3 ≤ len) (hc : len ≤ cap) (hlen : len ≤ 4611686018427387904) (w : World)
    (c0 : w.cell? ⟨blk, off + a, none⟩ = some (u8 b0)) (c1 : w.cell? ⟨blk, off + a + 1, none⟩ = some (u8 b1)) (c2 : w.cell? ⟨blk, off + a + 2, none⟩ = some (u8 b2)) :
    Calls Try.prog 8 #[.agg #[.slice (some ⟨blk, off, none⟩) len cap, .bool little], .int .i64 a, .int .i64 3] w fun e w' => e = .returned (.tuple #[.int .u64 (valF little [b0, b1, b2] : Nat), .bool true]) ∧ Below w.heap.size w w' := by
  have hb0 : b0.toNat < 256 := b0.toNat_lt
  have hb1 : b1.toNat < 256 := b1.toNat_lt
  have hb2 : b2.toNat < 256 := b2.toNat_lt
  have HA := Lib.hid (show cutA (some ⟨blk, off, none⟩) a 3 = some ⟨blk, off + a, none⟩ by unfold cutA; rw [if_neg (by decide)]; exact congrArg some (plain_add _ _ _))
  have HC := Lib.hid (cut_ok (some ⟨blk, off, none⟩) len cap little a 3 h hc hlen)
  have HV := Lib.hid (ordF_val little [b0, b1, b2] (by simp))
  have HH := Lib.hid (chain3 b0 b1 b2)
  go_enter Try.func8, Try.ntmps8
  go_wp2_with (first
    | (go_at_call 10; refine (HC.out _).mono ?_; rintro e w1 ⟨rfl, hb1⟩; rw [HA.out]; have hr1 := two_after hb1; have c0 := cell_after hb1 c0; have c1 := cell_after hb1 c1; have c2 := cell_after hb1 c2; have hz1 := hb1.size; have HB1 := Lib.hid hb1; clear hb1)
    | (go_at_call 21; refine (fits_any _ _).mono ?_; rintro e w' ⟨rfl, rfl⟩)
    | (go_at_call 22; refine (order_any (some ⟨blk, off, none⟩) len cap little _ _ HH.out (leNat_lt8 _ (by simp)) 3 (by decide) _).mono ?_; rintro e w2 ⟨rfl, hb2⟩; have HB2 := Lib.hid (keepA HB1.out hb2); clear hb2))
  go_ret2
  exact ⟨by rw [← HV.out]; rfl, HB2.out⟩
theorem chain4 (b0 b1 b2 b3 : UInt8) : bits .or .u64 (bits .or .u64 (bits .or .u64 (bits .or .u64 0 ((b3.toNat : Int) * 16777216)) ((b2.toNat : Int) * 65536)) ((b1.toNat : Int) * 256)) (b0.toNat : Int) = ((leNat [b0, b1, b2, b3] : Nat) : Int) := by
  have hb0 : b0.toNat < 256 := b0.toNat_lt
  have hb1 : b1.toNat < 256 := b1.toNat_lt
  have hb2 : b2.toNat < 256 := b2.toNat_lt
  have hb3 : b3.toNat < 256 := b3.toNat_lt
  rw [oj0 ((b3.toNat : Int) * 16777216) (by omega) (by omega)]
  rw [oj 24 ((b3.toNat : Int) * 16777216) ((b2.toNat : Int) * 65536) (by omega) (by omega) (by omega) (by omega) (by omega) (by omega)]
  rw [oj 16 ((b3.toNat : Int) * 16777216 + (b2.toNat : Int) * 65536) ((b1.toNat : Int) * 256) (by omega) (by omega) (by omega) (by omega) (by omega) (by omega)]
  rw [oj 8 ((b3.toNat : Int) * 16777216 + (b2.toNat : Int) * 65536 + (b1.toNat : Int) * 256) ((b0.toNat : Int)) (by omega) (by omega) (by omega) (by omega) (by omega) (by omega)]
  simp only [leNat]
  omega
set_option maxHeartbeats 1000000 in
theorem get4 (blk off len cap : Nat) (little : Bool) (a : Nat) (b0 b1 b2 b3 : UInt8) (h : a + 4 ≤ len) (hc : len ≤ cap) (hlen : len ≤ 4611686018427387904) (w : World)
    (c0 : w.cell? ⟨blk, off + a, none⟩ = some (u8 b0)) (c1 : w.cell? ⟨blk, off + a + 1, none⟩ = some (u8 b1)) (c2 : w.cell? ⟨blk, off + a + 2, none⟩ = some (u8 b2)) (c3 : w.cell? ⟨blk, off + a + 3, none⟩ = some (u8 b3)) :
    Calls Try.prog 8 #[.agg #[.slice (some ⟨blk, off, none⟩) len cap, .bool little], .int .i64 a, .int .i64 4] w fun e w' => e = .returned (.tuple #[.int .u64 (valF little [b0, b1, b2, b3] : Nat), .bool true]) ∧ Below w.heap.size w w' := by
  have hb0 : b0.toNat < 256 := b0.toNat_lt
  have hb1 : b1.toNat < 256 := b1.toNat_lt
  have hb2 : b2.toNat < 256 := b2.toNat_lt
  have hb3 : b3.toNat < 256 := b3.toNat_lt
  have HA := Lib.hid (show cutA (some ⟨blk, off, none⟩) a 4 = some ⟨blk, off + a, none⟩ by unfold cutA; rw [if_neg (by decide)]; exact congrArg some (plain_add _ _ _))
  have HC := Lib.hid (cut_ok (some ⟨blk, off, none⟩) len cap little a 4 h hc hlen)
  have HV := Lib.hid (ordF_val little [b0, b1, b2, b3] (by simp))
  have HH := Lib.hid (chain4 b0 b1 b2 b3)
  go_enter Try.func8, Try.ntmps8
  go_wp2_with (first
    | (go_at_call 10; refine (HC.out _).mono ?_; rintro e w1 ⟨rfl, hb1⟩; rw [HA.out]; have hr1 := two_after hb1; have c0 := cell_after hb1 c0; have c1 := cell_after hb1 c1; have c2 := cell_after hb1 c2; have c3 := cell_after hb1 c3; have hz1 := hb1.size; have HB1 := Lib.hid hb1; clear hb1)
    | (go_at_call 21; refine (fits_any _ _).mono ?_; rintro e w' ⟨rfl, rfl⟩)
    | (go_at_call 22; refine (order_any (some ⟨blk, off, none⟩) len cap little _ _ HH.out (leNat_lt8 _ (by simp)) 4 (by decide) _).mono ?_; rintro e w2 ⟨rfl, hb2⟩; have HB2 := Lib.hid (keepA HB1.out hb2); clear hb2))
  go_ret2
  exact ⟨by rw [← HV.out]; rfl, HB2.out⟩
theorem chain5 (b0 b1 b2 b3 b4 : UInt8) : bits .or .u64 (bits .or .u64 (bits .or .u64 (bits .or .u64 (bits .or .u64 0 ((b4.toNat : Int) * 4294967296)) ((b3.toNat : Int) * 16777216)) ((b2.toNat : Int) * 65536)) ((b1.toNat : Int) * 256)) (b0.toNat : Int) = ((leNat [b0, b1, b2, b3, b4] : Nat) : Int) := by
  have hb0 : b0.toNat < 256 := b0.toNat_lt
  have hb1 : b1.toNat < 256 := b1.toNat_lt
  have hb2 : b2.toNat < 256 := b2.toNat_lt
  have hb3 : b3.toNat < 256 := b3.toNat_lt
  have hb4 : b4.toNat < 256 := b4.toNat_lt
  rw [oj0 ((b4.toNat : Int) * 4294967296) (by omega) (by omega)]
  rw [oj 32 ((b4.toNat : Int) * 4294967296) ((b3.toNat : Int) * 16777216) (by omega) (by omega) (by omega) (by omega) (by omega) (by omega)]
  rw [oj 24 ((b4.toNat : Int) * 4294967296 + (b3.toNat : Int) * 16777216) ((b2.toNat : Int) * 65536) (by omega) (by omega) (by omega) (by omega) (by omega) (by omega)]
  rw [oj 16 ((b4.toNat : Int) * 4294967296 + (b3.toNat : Int) * 16777216 + (b2.toNat : Int) * 65536) ((b1.toNat : Int) * 256) (by omega) (by omega) (by omega) (by omega) (by omega) (by omega)]
  rw [oj 8 ((b4.toNat : Int) * 4294967296 + (b3.toNat : Int) * 16777216 + (b2.toNat : Int) * 65536 + (b1.toNat : Int) * 256) ((b0.toNat : Int)) (by omega) (by omega) (by omega) (by omega) (by omega) (by omega)]
  simp only [leNat]
  omega
set_option maxHeartbeats 1000000 in
theorem get5 (blk off len cap : Nat) (little : Bool) (a : Nat) (b0 b1 b2 b3 b4 : UInt8) (h : a + 5 ≤ len) (hc : len ≤ cap) (hlen : len ≤ 4611686018427387904) (w : World)
    (c0 : w.cell? ⟨blk, off + a, none⟩ = some (u8 b0)) (c1 : w.cell? ⟨blk, off + a + 1, none⟩ = some (u8 b1)) (c2 : w.cell? ⟨blk, off + a + 2, none⟩ = some (u8 b2)) (c3 : w.cell? ⟨blk, off + a + 3, none⟩ = some (u8 b3)) (c4 : w.cell? ⟨blk, off + a + 4, none⟩ = some (u8 b4)) :
    Calls Try.prog 8 #[.agg #[.slice (some ⟨blk, off, none⟩) len cap, .bool little], .int .i64 a, .int .i64 5] w fun e w' => e = .returned (.tuple #[.int .u64 (valF little [b0, b1, b2, b3, b4] : Nat), .bool true]) ∧ Below w.heap.size w w' := by
  have hb0 : b0.toNat < 256 := b0.toNat_lt
  have hb1 : b1.toNat < 256 := b1.toNat_lt
  have hb2 : b2.toNat < 256 := b2.toNat_lt
  have hb3 : b3.toNat < 256 := b3.toNat_lt
  have hb4 : b4.toNat < 256 := b4.toNat_lt
  have HA := Lib.hid (show cutA (some ⟨blk, off, none⟩) a 5 = some ⟨blk, off + a, none⟩ by unfold cutA; rw [if_neg (by decide)]; exact congrArg some (plain_add _ _ _))
  have HC := Lib.hid (cut_ok (some ⟨blk, off, none⟩) len cap little a 5 h hc hlen)
  have HV := Lib.hid (ordF_val little [b0, b1, b2, b3, b4] (by simp))
  have HH := Lib.hid (chain5 b0 b1 b2 b3 b4)
  go_enter Try.func8, Try.ntmps8
  go_wp2_with (first
    | (go_at_call 10; refine (HC.out _).mono ?_; rintro e w1 ⟨rfl, hb1⟩; rw [HA.out]; have hr1 := two_after hb1; have c0 := cell_after hb1 c0; have c1 := cell_after hb1 c1; have c2 := cell_after hb1 c2; have c3 := cell_after hb1 c3; have c4 := cell_after hb1 c4; have hz1 := hb1.size; have HB1 := Lib.hid hb1; clear hb1)
    | (go_at_call 21; refine (fits_any _ _).mono ?_; rintro e w' ⟨rfl, rfl⟩)
    | (go_at_call 22; refine (order_any (some ⟨blk, off, none⟩) len cap little _ _ HH.out (leNat_lt8 _ (by simp)) 5 (by decide) _).mono ?_; rintro e w2 ⟨rfl, hb2⟩; have HB2 := Lib.hid (keepA HB1.out hb2); clear hb2))
  go_ret2
  exact ⟨by rw [← HV.out]; rfl, HB2.out⟩
theorem chain6 (b0 b1 b2 b3 b4 b5 : UInt8) : bits .or .u64 (bits .or .u64 (bits .or .u64 (bits .or .u64 (bits .or .u64 (bits .or .u64 0 ((b5.toNat : Int) * 1099511627776)) ((b4.toNat : Int) * 4294967296)) ((b3.toNat : Int) * 16777216)) ((b2.toNat : Int) * 65536)) ((b1.toNat : Int) * 256)) (b0.toNat : Int) = ((leNat [b0, b1, b2, b3, b4, b5] : Nat) : Int) := by
  have hb0 : b0.toNat < 256 := b0.toNat_lt
  have hb1 : b1.toNat < 256 := b1.toNat_lt
  have hb2 : b2.toNat < 256 := b2.toNat_lt
  have hb3 : b3.toNat < 256 := b3.toNat_lt
  have hb4 : b4.toNat < 256 := b4.toNat_lt
  have hb5 : b5.toNat < 256 := b5.toNat_lt
  rw [oj0 ((b5.toNat : Int) * 1099511627776) (by omega) (by omega)]
  rw [oj 40 ((b5.toNat : Int) * 1099511627776) ((b4.toNat : Int) * 4294967296) (by omega) (by omega) (by omega) (by omega) (by omega) (by omega)]
  rw [oj 32 ((b5.toNat : Int) * 1099511627776 + (b4.toNat : Int) * 4294967296) ((b3.toNat : Int) * 16777216) (by omega) (by omega) (by omega) (by omega) (by omega) (by omega)]
  rw [oj 24 ((b5.toNat : Int) * 1099511627776 + (b4.toNat : Int) * 4294967296 + (b3.toNat : Int) * 16777216) ((b2.toNat : Int) * 65536) (by omega) (by omega) (by omega) (by omega) (by omega) (by omega)]
  rw [oj 16 ((b5.toNat : Int) * 1099511627776 + (b4.toNat : Int) * 4294967296 + (b3.toNat : Int) * 16777216 + (b2.toNat : Int) * 65536) ((b1.toNat : Int) * 256) (by omega) (by omega) (by omega) (by omega) (by omega) (by omega)]
  rw [oj 8 ((b5.toNat : Int) * 1099511627776 + (b4.toNat : Int) * 4294967296 + (b3.toNat : Int) * 16777216 + (b2.toNat : Int) * 65536 + (b1.toNat : Int) * 256) ((b0.toNat : Int)) (by omega) (by omega) (by omega) (by omega) (by omega) (by omega)]
  simp only [leNat]
  omega
set_option maxHeartbeats 1000000 in
theorem get6 (blk off len cap : Nat) (little : Bool) (a : Nat) (b0 b1 b2 b3 b4 b5 : UInt8) (h : a + 6 ≤ len) (hc : len ≤ cap) (hlen : len ≤ 4611686018427387904) (w : World)
    (c0 : w.cell? ⟨blk, off + a, none⟩ = some (u8 b0)) (c1 : w.cell? ⟨blk, off + a + 1, none⟩ = some (u8 b1)) (c2 : w.cell? ⟨blk, off + a + 2, none⟩ = some (u8 b2)) (c3 : w.cell? ⟨blk, off + a + 3, none⟩ = some (u8 b3)) (c4 : w.cell? ⟨blk, off + a + 4, none⟩ = some (u8 b4)) (c5 : w.cell? ⟨blk, off + a + 5, none⟩ = some (u8 b5)) :
    Calls Try.prog 8 #[.agg #[.slice (some ⟨blk, off, none⟩) len cap, .bool little], .int .i64 a, .int .i64 6] w fun e w' => e = .returned (.tuple #[.int .u64 (valF little [b0, b1, b2, b3, b4, b5] : Nat), .bool true]) ∧ Below w.heap.size w w' := by
  have hb0 : b0.toNat < 256 := b0.toNat_lt
  have hb1 : b1.toNat < 256 := b1.toNat_lt
  have hb2 : b2.toNat < 256 := b2.toNat_lt
  have hb3 : b3.toNat < 256 := b3.toNat_lt
  have hb4 : b4.toNat < 256 := b4.toNat_lt
  have hb5 : b5.toNat < 256 := b5.toNat_lt
  have HA := Lib.hid (show cutA (some ⟨blk, off, none⟩) a 6 = some ⟨blk, off + a, none⟩ by unfold cutA; rw [if_neg (by decide)]; exact congrArg some (plain_add _ _ _))
  have HC := Lib.hid (cut_ok (some ⟨blk, off, none⟩) len cap little a 6 h hc hlen)
  have HV := Lib.hid (ordF_val little [b0, b1, b2, b3, b4, b5] (by simp))
  have HH := Lib.hid (chain6 b0 b1 b2 b3 b4 b5)
  go_enter Try.func8, Try.ntmps8
  go_wp2_with (first
    | (go_at_call 10; refine (HC.out _).mono ?_; rintro e w1 ⟨rfl, hb1⟩; rw [HA.out]; have hr1 := two_after hb1; have c0 := cell_after hb1 c0; have c1 := cell_after hb1 c1; have c2 := cell_after hb1 c2; have c3 := cell_after hb1 c3; have c4 := cell_after hb1 c4; have c5 := cell_after hb1 c5; have hz1 := hb1.size; have HB1 := Lib.hid hb1; clear hb1)
    | (go_at_call 21; refine (fits_any _ _).mono ?_; rintro e w' ⟨rfl, rfl⟩)
    | (go_at_call 22; refine (order_any (some ⟨blk, off, none⟩) len cap little _ _ HH.out (leNat_lt8 _ (by simp)) 6 (by decide) _).mono ?_; rintro e w2 ⟨rfl, hb2⟩; have HB2 := Lib.hid (keepA HB1.out hb2); clear hb2))
  go_ret2
  exact ⟨by rw [← HV.out]; rfl, HB2.out⟩
theorem chain7 (b0 b1 b2 b3 b4 b5 b6 : UInt8) : bits .or .u64 (bits .or .u64 (bits .or .u64 (bits .or .u64 (bits .or .u64 (bits .or .u64 (bits .or .u64 0 ((b6.toNat : Int) * 281474976710656)) ((b5.toNat : Int) * 1099511627776)) ((b4.toNat : Int) * 4294967296)) ((b3.toNat : Int) * 16777216)) ((b2.toNat : Int) * 65536)) ((b1.toNat : Int) * 256)) (b0.toNat : Int) = ((leNat [b0, b1, b2, b3, b4, b5, b6] : Nat) : Int) := by
  have hb0 : b0.toNat < 256 := b0.toNat_lt
  have hb1 : b1.toNat < 256 := b1.toNat_lt
  have hb2 : b2.toNat < 256 := b2.toNat_lt
  have hb3 : b3.toNat < 256 := b3.toNat_lt
  have hb4 : b4.toNat < 256 := b4.toNat_lt
  have hb5 : b5.toNat < 256 := b5.toNat_lt
  have hb6 : b6.toNat < 256 := b6.toNat_lt
  rw [oj0 ((b6.toNat : Int) * 281474976710656) (by omega) (by omega)]
  rw [oj 48 ((b6.toNat : Int) * 281474976710656) ((b5.toNat : Int) * 1099511627776) (by omega) (by omega) (by omega) (by omega) (by omega) (by omega)]
  rw [oj 40 ((b6.toNat : Int) * 281474976710656 + (b5.toNat : Int) * 1099511627776) ((b4.toNat : Int) * 4294967296) (by omega) (by omega) (by omega) (by omega) (by omega) (by omega)]
  rw [oj 32 ((b6.toNat : Int) * 281474976710656 + (b5.toNat : Int) * 1099511627776 + (b4.toNat : Int) * 4294967296) ((b3.toNat : Int) * 16777216) (by omega) (by omega) (by omega) (by omega) (by omega) (by omega)]
  rw [oj 24 ((b6.toNat : Int) * 281474976710656 + (b5.toNat : Int) * 1099511627776 + (b4.toNat : Int) * 4294967296 + (b3.toNat : Int) * 16777216) ((b2.toNat : Int) * 65536) (by omega) (by omega) (by omega) (by omega) (by omega) (by omega)]
  rw [oj 16 ((b6.toNat : Int) * 281474976710656 + (b5.toNat : Int) * 1099511627776 + (b4.toNat : Int) * 4294967296 + (b3.toNat : Int) * 16777216 + (b2.toNat : Int) * 65536) ((b1.toNat : Int) * 256) (by omega) (by omega) (by omega) (by omega) (by omega) (by omega)]
  rw [oj 8 ((b6.toNat : Int) * 281474976710656 + (b5.toNat : Int) * 1099511627776 + (b4.toNat : Int) * 4294967296 + (b3.toNat : Int) * 16777216 + (b2.toNat : Int) * 65536 + (b1.toNat : Int) * 256) ((b0.toNat : Int)) (by omega) (by omega) (by omega) (by omega) (by omega) (by omega)]
  simp only [leNat]
  omega
set_option maxHeartbeats 1000000 in
theorem get7 (blk off len cap : Nat) (little : Bool) (a : Nat) (b0 b1 b2 b3 b4 b5 b6 : UInt8) (h : a + 7 ≤ len) (hc : len ≤ cap) (hlen : len ≤ 4611686018427387904) (w : World)
    (c0 : w.cell? ⟨blk, off + a, none⟩ = some (u8 b0)) (c1 : w.cell? ⟨blk, off + a + 1, none⟩ = some (u8 b1)) (c2 : w.cell? ⟨blk, off + a + 2, none⟩ = some (u8 b2)) (c3 : w.cell? ⟨blk, off + a + 3, none⟩ = some (u8 b3)) (c4 : w.cell? ⟨blk, off + a + 4, none⟩ = some (u8 b4)) (c5 : w.cell? ⟨blk, off + a + 5, none⟩ = some (u8 b5)) (c6 : w.cell? ⟨blk, off + a + 6, none⟩ = some (u8 b6)) :
    Calls Try.prog 8 #[.agg #[.slice (some ⟨blk, off, none⟩) len cap, .bool little], .int .i64 a, .int .i64 7] w fun e w' => e = .returned (.tuple #[.int .u64 (valF little [b0, b1, b2, b3, b4, b5, b6] : Nat), .bool true]) ∧ Below w.heap.size w w' := by
  have hb0 : b0.toNat < 256 := b0.toNat_lt
  have hb1 : b1.toNat < 256 := b1.toNat_lt
  have hb2 : b2.toNat < 256 := b2.toNat_lt
  have hb3 : b3.toNat < 256 := b3.toNat_lt
  have hb4 : b4.toNat < 256 := b4.toNat_lt
  have hb5 : b5.toNat < 256 := b5.toNat_lt
  have hb6 : b6.toNat < 256 := b6.toNat_lt
  have HA := Lib.hid (show cutA (some ⟨blk, off, none⟩) a 7 = some ⟨blk, off + a, none⟩ by unfold cutA; rw [if_neg (by decide)]; exact congrArg some (plain_add _ _ _))
  have HC := Lib.hid (cut_ok (some ⟨blk, off, none⟩) len cap little a 7 h hc hlen)
  have HV := Lib.hid (ordF_val little [b0, b1, b2, b3, b4, b5, b6] (by simp))
  have HH := Lib.hid (chain7 b0 b1 b2 b3 b4 b5 b6)
  go_enter Try.func8, Try.ntmps8
  go_wp2_with (first
    | (go_at_call 10; refine (HC.out _).mono ?_; rintro e w1 ⟨rfl, hb1⟩; rw [HA.out]; have hr1 := two_after hb1; have c0 := cell_after hb1 c0; have c1 := cell_after hb1 c1; have c2 := cell_after hb1 c2; have c3 := cell_after hb1 c3; have c4 := cell_after hb1 c4; have c5 := cell_after hb1 c5; have c6 := cell_after hb1 c6; have hz1 := hb1.size; have HB1 := Lib.hid hb1; clear hb1)
    | (go_at_call 21; refine (fits_any _ _).mono ?_; rintro e w' ⟨rfl, rfl⟩)
    | (go_at_call 22; refine (order_any (some ⟨blk, off, none⟩) len cap little _ _ HH.out (leNat_lt8 _ (by simp)) 7 (by decide) _).mono ?_; rintro e w2 ⟨rfl, hb2⟩; have HB2 := Lib.hid (keepA HB1.out hb2); clear hb2))
  go_ret2
  exact ⟨by rw [← HV.out]; rfl, HB2.out⟩
theorem chain8 (b0 b1 b2 b3 b4 b5 b6 b7 : UInt8) : bits .or .u64 (bits .or .u64 (bits .or .u64 (bits .or .u64 (bits .or .u64 (bits .or .u64 (bits .or .u64 (bits .or .u64 0 ((b7.toNat : Int) * 72057594037927936)) ((b6.toNat : Int) * 281474976710656)) ((b5.toNat : Int) * 1099511627776)) ((b4.toNat : Int) * 4294967296)) ((b3.toNat : Int) * 16777216)) ((b2.toNat : Int) * 65536)) ((b1.toNat : Int) * 256)) (b0.toNat : Int) = ((leNat [b0, b1, b2, b3, b4, b5, b6, b7] : Nat) : Int) := by
  have hb0 : b0.toNat < 256 := b0.toNat_lt
  have hb1 : b1.toNat < 256 := b1.toNat_lt
  have hb2 : b2.toNat < 256 := b2.toNat_lt
  have hb3 : b3.toNat < 256 := b3.toNat_lt
  have hb4 : b4.toNat < 256 := b4.toNat_lt
  have hb5 : b5.toNat < 256 := b5.toNat_lt
  have hb6 : b6.toNat < 256 := b6.toNat_lt
  have hb7 : b7.toNat < 256 := b7.toNat_lt
  rw [oj0 ((b7.toNat : Int) * 72057594037927936) (by omega) (by omega)]
  rw [oj 56 ((b7.toNat : Int) * 72057594037927936) ((b6.toNat : Int) * 281474976710656) (by omega) (by omega) (by omega) (by omega) (by omega) (by omega)]
  rw [oj 48 ((b7.toNat : Int) * 72057594037927936 + (b6.toNat : Int) * 281474976710656) ((b5.toNat : Int) * 1099511627776) (by omega) (by omega) (by omega) (by omega) (by omega) (by omega)]
  rw [oj 40 ((b7.toNat : Int) * 72057594037927936 + (b6.toNat : Int) * 281474976710656 + (b5.toNat : Int) * 1099511627776) ((b4.toNat : Int) * 4294967296) (by omega) (by omega) (by omega) (by omega) (by omega) (by omega)]
  rw [oj 32 ((b7.toNat : Int) * 72057594037927936 + (b6.toNat : Int) * 281474976710656 + (b5.toNat : Int) * 1099511627776 + (b4.toNat : Int) * 4294967296) ((b3.toNat : Int) * 16777216) (by omega) (by omega) (by omega) (by omega) (by omega) (by omega)]
  rw [oj 24 ((b7.toNat : Int) * 72057594037927936 + (b6.toNat : Int) * 281474976710656 + (b5.toNat : Int) * 1099511627776 + (b4.toNat : Int) * 4294967296 + (b3.toNat : Int) * 16777216) ((b2.toNat : Int) * 65536) (by omega) (by omega) (by omega) (by omega) (by omega) (by omega)]
  rw [oj 16 ((b7.toNat : Int) * 72057594037927936 + (b6.toNat : Int) * 281474976710656 + (b5.toNat : Int) * 1099511627776 + (b4.toNat : Int) * 4294967296 + (b3.toNat : Int) * 16777216 + (b2.toNat : Int) * 65536) ((b1.toNat : Int) * 256) (by omega) (by omega) (by omega) (by omega) (by omega) (by omega)]
  rw [oj 8 ((b7.toNat : Int) * 72057594037927936 + (b6.toNat : Int) * 281474976710656 + (b5.toNat : Int) * 1099511627776 + (b4.toNat : Int) * 4294967296 + (b3.toNat : Int) * 16777216 + (b2.toNat : Int) * 65536 + (b1.toNat : Int) * 256) ((b0.toNat : Int)) (by omega) (by omega) (by omega) (by omega) (by omega) (by omega)]
  simp only [leNat]
  omega
set_option maxHeartbeats 1000000 in
theorem get8 (blk off len cap : Nat) (little : Bool) (a : Nat) (b0 b1 b2 b3 b4 b5 b6 b7 : UInt8) (h : a + 8 ≤ len) (hc : len ≤ cap) (hlen : len ≤ 4611686018427387904) (w : World)
    (c0 : w.cell? ⟨blk, off + a, none⟩ = some (u8 b0)) (c1 : w.cell? ⟨blk, off + a + 1, none⟩ = some (u8 b1)) (c2 : w.cell? ⟨blk, off + a + 2, none⟩ = some (u8 b2)) (c3 : w.cell? ⟨blk, off + a + 3, none⟩ = some (u8 b3)) (c4 : w.cell? ⟨blk, off + a + 4, none⟩ = some (u8 b4)) (c5 : w.cell? ⟨blk, off + a + 5, none⟩ = some (u8 b5)) (c6 : w.cell? ⟨blk, off + a + 6, none⟩ = some (u8 b6)) (c7 : w.cell? ⟨blk, off + a + 7, none⟩ = some (u8 b7)) :
    Calls Try.prog 8 #[.agg #[.slice (some ⟨blk, off, none⟩) len cap, .bool little], .int .i64 a, .int .i64 8] w fun e w' => e = .returned (.tuple #[.int .u64 (valF little [b0, b1, b2, b3, b4, b5, b6, b7] : Nat), .bool true]) ∧ Below w.heap.size w w' := by
  have hb0 : b0.toNat < 256 := b0.toNat_lt
  have hb1 : b1.toNat < 256 := b1.toNat_lt
  have hb2 : b2.toNat < 256 := b2.toNat_lt
  have hb3 : b3.toNat < 256 := b3.toNat_lt
  have hb4 : b4.toNat < 256 := b4.toNat_lt
  have hb5 : b5.toNat < 256 := b5.toNat_lt
  have hb6 : b6.toNat < 256 := b6.toNat_lt
  have hb7 : b7.toNat < 256 := b7.toNat_lt
  have HA := Lib.hid (show cutA (some ⟨blk, off, none⟩) a 8 = some ⟨blk, off + a, none⟩ by unfold cutA; rw [if_neg (by decide)]; exact congrArg some (plain_add _ _ _))
  have HC := Lib.hid (cut_ok (some ⟨blk, off, none⟩) len cap little a 8 h hc hlen)
  have HV := Lib.hid (ordF_val little [b0, b1, b2, b3, b4, b5, b6, b7] (by simp))
  have HH := Lib.hid (chain8 b0 b1 b2 b3 b4 b5 b6 b7)
  go_enter Try.func8, Try.ntmps8
  go_wp2_with (first
    | (go_at_call 10; refine (HC.out _).mono ?_; rintro e w1 ⟨rfl, hb1⟩; rw [HA.out]; have hr1 := two_after hb1; have c0 := cell_after hb1 c0; have c1 := cell_after hb1 c1; have c2 := cell_after hb1 c2; have c3 := cell_after hb1 c3; have c4 := cell_after hb1 c4; have c5 := cell_after hb1 c5; have c6 := cell_after hb1 c6; have c7 := cell_after hb1 c7; have hz1 := hb1.size; have HB1 := Lib.hid hb1; clear hb1)
    | (go_at_call 21; refine (fits_any _ _).mono ?_; rintro e w' ⟨rfl, rfl⟩)
    | (go_at_call 22; refine (order_any (some ⟨blk, off, none⟩) len cap little _ _ HH.out (leNat_lt8 _ (by simp)) 8 (by decide) _).mono ?_; rintro e w2 ⟨rfl, hb2⟩; have HB2 := Lib.hid (keepA HB1.out hb2); clear hb2))
  go_ret2
  exact ⟨by rw [← HV.out]; rfl, HB2.out⟩
end Go.Proofs.Ytbmifinomdcllaa
