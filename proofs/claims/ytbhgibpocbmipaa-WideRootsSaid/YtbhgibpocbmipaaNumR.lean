
/-
  The document's numbers: Of, Num64, Neg, Zero, Size, read, and their contracts.
-/
import Derived.Test.YtbhgibpocbmipaaNumL
import Derived.Test.YtbhgibpocbmipaaFixK
namespace Go.Proofs.Ytbhgibpocbmipaa
open Go.Den Go.RowKit
noncomputable section
set_option maxRecDepth 100000
theorem rof_vc (n : Int) (Q : Value → Prop) (x1 : Int) (e_x1 : x1 = IntKind.wrap IntKind.u64 (0 - IntKind.wrap IntKind.u64 n)) (x2 : Int) (e_x2 : x2 = IntKind.wrap IntKind.u64 (Int.tdiv x1 65536)) (x3 : Int) (e_x3 : x3 = IntKind.wrap IntKind.u64 (Int.tdiv x2 65536)) (x4 : Int) (e_x4 : x4 = IntKind.wrap IntKind.u64 (Int.tdiv (IntKind.wrap IntKind.u64 n) 65536)) (x5 : Int) (e_x5 : x5 = IntKind.wrap IntKind.u64 (Int.tdiv x4 65536)) : ((ev envS 300).call [] 17 #[.int .i64 n] [] B0).holds (fun r => Q r.v) = (bcase (decide (n < 0))
  (bcase (decide (n < 0))
    (Q
      (Value.agg
        {
          toList :=
            [Value.bool true, Value.int IntKind.u64 (Int.tmod x1 65536), Value.int IntKind.u64 (Int.tmod x2 65536),
              Value.int IntKind.u64 (Int.tmod x3 65536),
              Value.int IntKind.u64 (Int.tmod (IntKind.wrap IntKind.u64 (Int.tdiv x3 65536)) 65536),
              Value.int IntKind.u64 0, Value.int IntKind.u64 0, Value.int IntKind.u64 0, Value.int IntKind.u64 0,
              Value.int IntKind.u64 0, Value.int IntKind.u64 0, Value.int IntKind.u64 0, Value.int IntKind.u64 0,
              Value.int IntKind.u64 0, Value.int IntKind.u64 0, Value.int IntKind.u64 0, Value.int IntKind.u64 0,
              Value.int IntKind.u64 0, Value.int IntKind.u64 0, Value.int IntKind.u64 0, Value.int IntKind.u64 0] }))
    (Q
      (Value.agg
        {
          toList :=
            [Value.bool true, Value.int IntKind.u64 (Int.tmod (IntKind.wrap IntKind.u64 n) 65536),
              Value.int IntKind.u64 (Int.tmod x4 65536), Value.int IntKind.u64 (Int.tmod x5 65536),
              Value.int IntKind.u64 (Int.tmod (IntKind.wrap IntKind.u64 (Int.tdiv x5 65536)) 65536),
              Value.int IntKind.u64 0, Value.int IntKind.u64 0, Value.int IntKind.u64 0, Value.int IntKind.u64 0,
              Value.int IntKind.u64 0, Value.int IntKind.u64 0, Value.int IntKind.u64 0, Value.int IntKind.u64 0,
              Value.int IntKind.u64 0, Value.int IntKind.u64 0, Value.int IntKind.u64 0, Value.int IntKind.u64 0,
              Value.int IntKind.u64 0, Value.int IntKind.u64 0, Value.int IntKind.u64 0, Value.int IntKind.u64 0] })))
  (bcase (decide (n < 0))
    (Q
      (Value.agg
        {
          toList :=
            [Value.bool false, Value.int IntKind.u64 (Int.tmod x1 65536), Value.int IntKind.u64 (Int.tmod x2 65536),
              Value.int IntKind.u64 (Int.tmod x3 65536),
              Value.int IntKind.u64 (Int.tmod (IntKind.wrap IntKind.u64 (Int.tdiv x3 65536)) 65536),
              Value.int IntKind.u64 0, Value.int IntKind.u64 0, Value.int IntKind.u64 0, Value.int IntKind.u64 0,
              Value.int IntKind.u64 0, Value.int IntKind.u64 0, Value.int IntKind.u64 0, Value.int IntKind.u64 0,
              Value.int IntKind.u64 0, Value.int IntKind.u64 0, Value.int IntKind.u64 0, Value.int IntKind.u64 0,
              Value.int IntKind.u64 0, Value.int IntKind.u64 0, Value.int IntKind.u64 0, Value.int IntKind.u64 0] }))
    (Q
      (Value.agg
        {
          toList :=
            [Value.bool false, Value.int IntKind.u64 (Int.tmod (IntKind.wrap IntKind.u64 n) 65536),
              Value.int IntKind.u64 (Int.tmod x4 65536), Value.int IntKind.u64 (Int.tmod x5 65536),
              Value.int IntKind.u64 (Int.tmod (IntKind.wrap IntKind.u64 (Int.tdiv x5 65536)) 65536),
              Value.int IntKind.u64 0, Value.int IntKind.u64 0, Value.int IntKind.u64 0, Value.int IntKind.u64 0,
              Value.int IntKind.u64 0, Value.int IntKind.u64 0, Value.int IntKind.u64 0, Value.int IntKind.u64 0,
              Value.int IntKind.u64 0, Value.int IntKind.u64 0, Value.int IntKind.u64 0, Value.int IntKind.u64 0,
              Value.int IntKind.u64 0, Value.int IntKind.u64 0, Value.int IntKind.u64 0, Value.int IntKind.u64 0] })))) := by
  subst e_x5 e_x4 e_x3 e_x2 e_x1
  kernel_rfl
theorem rnum64_vc (u : Int) (Q : Value → Prop) (x1 : Int) (e_x1 : x1 = IntKind.wrap IntKind.u64 (Int.tdiv u 65536)) (x2 : Int) (e_x2 : x2 = IntKind.wrap IntKind.u64 (Int.tdiv x1 65536)) : ((ev envS 300).call [] 29 #[.int .u64 u] [] B0).holds (fun r => Q r.v) = (Q
  (Value.agg
    {
      toList :=
        [Value.bool false, Value.int IntKind.u64 (Int.tmod u 65536), Value.int IntKind.u64 (Int.tmod x1 65536),
          Value.int IntKind.u64 (Int.tmod x2 65536),
          Value.int IntKind.u64 (Int.tmod (IntKind.wrap IntKind.u64 (Int.tdiv x2 65536)) 65536),
          Value.int IntKind.u64 0, Value.int IntKind.u64 0, Value.int IntKind.u64 0, Value.int IntKind.u64 0,
          Value.int IntKind.u64 0, Value.int IntKind.u64 0, Value.int IntKind.u64 0, Value.int IntKind.u64 0,
          Value.int IntKind.u64 0, Value.int IntKind.u64 0, Value.int IntKind.u64 0, Value.int IntKind.u64 0,
          Value.int IntKind.u64 0, Value.int IntKind.u64 0, Value.int IntKind.u64 0, Value.int IntKind.u64 0] })) := by
  subst e_x2 e_x1
  kernel_rfl
theorem rneg_vc (s : Bool) (a0 a1 a2 a3 a4 a5 a6 a7 a8 a9 a10 a11 a12 a13 a14 a15 a16 a17 a18 a19 : Int) (Q : Value → Prop) : ((ev envS 300).call [] 21 #[.agg #[.bool s, .int .u64 a0, .int .u64 a1, .int .u64 a2, .int .u64 a3, .int .u64 a4, .int .u64 a5, .int .u64 a6, .int .u64 a7, .int .u64 a8, .int .u64 a9, .int .u64 a10, .int .u64 a11, .int .u64 a12, .int .u64 a13, .int .u64 a14, .int .u64 a15, .int .u64 a16, .int .u64 a17, .int .u64 a18, .int .u64 a19]] [] B0).holds (fun r => Q r.v) = (bcase s
  (Q
    (Value.agg
      {
        toList :=
          [Value.bool false, Value.int IntKind.u64 a0, Value.int IntKind.u64 a1, Value.int IntKind.u64 a2,
            Value.int IntKind.u64 a3, Value.int IntKind.u64 a4, Value.int IntKind.u64 a5, Value.int IntKind.u64 a6,
            Value.int IntKind.u64 a7, Value.int IntKind.u64 a8, Value.int IntKind.u64 a9, Value.int IntKind.u64 a10,
            Value.int IntKind.u64 a11, Value.int IntKind.u64 a12, Value.int IntKind.u64 a13, Value.int IntKind.u64 a14,
            Value.int IntKind.u64 a15, Value.int IntKind.u64 a16, Value.int IntKind.u64 a17, Value.int IntKind.u64 a18,
            Value.int IntKind.u64 a19] }))
  (Q
    (Value.agg
      {
        toList :=
          [Value.bool true, Value.int IntKind.u64 a0, Value.int IntKind.u64 a1, Value.int IntKind.u64 a2,
            Value.int IntKind.u64 a3, Value.int IntKind.u64 a4, Value.int IntKind.u64 a5, Value.int IntKind.u64 a6,
            Value.int IntKind.u64 a7, Value.int IntKind.u64 a8, Value.int IntKind.u64 a9, Value.int IntKind.u64 a10,
            Value.int IntKind.u64 a11, Value.int IntKind.u64 a12, Value.int IntKind.u64 a13, Value.int IntKind.u64 a14,
            Value.int IntKind.u64 a15, Value.int IntKind.u64 a16, Value.int IntKind.u64 a17, Value.int IntKind.u64 a18,
            Value.int IntKind.u64 a19] }))) := by kernel_rfl

theorem size_read (sa sb : Bool) (a0 a1 a2 a3 a4 a5 a6 a7 a8 a9 a10 a11 a12 a13 a14 a15 a16 a17 a18 a19 : Int) (b0 b1 b2 b3 b4 b5 b6 b7 b8 b9 b10 b11 b12 b13 b14 b15 b16 b17 b18 b19 : Int) (Q : Value → Prop) : ((ev envS 300).call [] 60 #[.agg #[.bool sa, .int .u64 a0, .int .u64 a1, .int .u64 a2, .int .u64 a3, .int .u64 a4, .int .u64 a5, .int .u64 a6, .int .u64 a7, .int .u64 a8, .int .u64 a9, .int .u64 a10, .int .u64 a11, .int .u64 a12, .int .u64 a13, .int .u64 a14, .int .u64 a15, .int .u64 a16, .int .u64 a17, .int .u64 a18, .int .u64 a19], .agg #[.bool sb, .int .u64 b0, .int .u64 b1, .int .u64 b2, .int .u64 b3, .int .u64 b4, .int .u64 b5, .int .u64 b6, .int .u64 b7, .int .u64 b8, .int .u64 b9, .int .u64 b10, .int .u64 b11, .int .u64 b12, .int .u64 b13, .int .u64 b14, .int .u64 b15, .int .u64 b16, .int .u64 b17, .int .u64 b18, .int .u64 b19]] [] B0).holds (fun r => Q r.v) =
  sizeP [a19, a18, a17, a16, a15, a14, a13, a12, a11, a10, a9, a8, a7, a6, a5, a4, a3, a2, a1, a0] [b19, b18, b17, b16, b15, b14, b13, b12, b11, b10, b9, b8, b7, b6, b5, b4, b3, b2, b1, b0] (fun i => Q (.int .i64 i)) := by kernel_rfl
theorem zero_read (sa : Bool) (a0 a1 a2 a3 a4 a5 a6 a7 a8 a9 a10 a11 a12 a13 a14 a15 a16 a17 a18 a19 : Int) (Q : Value → Prop) : ((ev envS 300).call [] 62 #[.agg #[.bool sa, .int .u64 a0, .int .u64 a1, .int .u64 a2, .int .u64 a3, .int .u64 a4, .int .u64 a5, .int .u64 a6, .int .u64 a7, .int .u64 a8, .int .u64 a9, .int .u64 a10, .int .u64 a11, .int .u64 a12, .int .u64 a13, .int .u64 a14, .int .u64 a15, .int .u64 a16, .int .u64 a17, .int .u64 a18, .int .u64 a19]] [] B0).holds (fun r => Q r.v) =
  zeroP [a0, a1, a2, a3, a4, a5, a6, a7, a8, a9, a10, a11, a12, a13, a14, a15, a16, a17, a18, a19] (fun b => Q (.bool b)) := by kernel_rfl
theorem cons_of {l : List Int} {n : Nat} (h : l.length = n + 1) : ∃ x r, l = x :: r ∧ r.length = n := by
  cases l with
  | nil => simp at h
  | cons x r => exact ⟨x, r, rfl, by simpa using h⟩
theorem list20 {l : List Int} (h : l.length = 20) : ∃ x0 x1 x2 x3 x4 x5 x6 x7 x8 x9 x10 x11 x12 x13 x14 x15 x16 x17 x18 x19 : Int, l = [x0, x1, x2, x3, x4, x5, x6, x7, x8, x9, x10, x11, x12, x13, x14, x15, x16, x17, x18, x19] := by
  obtain ⟨x0, l0, e0, h0⟩ := cons_of h
  obtain ⟨x1, l1, e1, h1⟩ := cons_of h0
  obtain ⟨x2, l2, e2, h2⟩ := cons_of h1
  obtain ⟨x3, l3, e3, h3⟩ := cons_of h2
  obtain ⟨x4, l4, e4, h4⟩ := cons_of h3
  obtain ⟨x5, l5, e5, h5⟩ := cons_of h4
  obtain ⟨x6, l6, e6, h6⟩ := cons_of h5
  obtain ⟨x7, l7, e7, h7⟩ := cons_of h6
  obtain ⟨x8, l8, e8, h8⟩ := cons_of h7
  obtain ⟨x9, l9, e9, h9⟩ := cons_of h8
  obtain ⟨x10, l10, e10, h10⟩ := cons_of h9
  obtain ⟨x11, l11, e11, h11⟩ := cons_of h10
  obtain ⟨x12, l12, e12, h12⟩ := cons_of h11
  obtain ⟨x13, l13, e13, h13⟩ := cons_of h12
  obtain ⟨x14, l14, e14, h14⟩ := cons_of h13
  obtain ⟨x15, l15, e15, h15⟩ := cons_of h14
  obtain ⟨x16, l16, e16, h16⟩ := cons_of h15
  obtain ⟨x17, l17, e17, h17⟩ := cons_of h16
  obtain ⟨x18, l18, e18, h18⟩ := cons_of h17
  obtain ⟨x19, l19, e19, h19⟩ := cons_of h18
  have e20 : l19 = [] := List.length_eq_zero_iff.1 h19
  subst e20
  subst e19
  subst e18
  subst e17
  subst e16
  subst e15
  subst e14
  subst e13
  subst e12
  subst e11
  subst e10
  subst e9
  subst e8
  subst e7
  subst e6
  subst e5
  subst e4
  subst e3
  subst e2
  subst e1
  subst e0
  exact ⟨_, _, _, _, _, _, _, _, _, _, _, _, _, _, _, _, _, _, _, _, rfl⟩
theorem val_snoc : ∀ (l : List Int) (x : Int), val (l ++ [x]) = val l + B16 l.length * x
  | [], x => by rw [List.nil_append, val_one, val, List.length_nil, B16_0]; omega
  | y :: r, x => by
    rw [List.cons_append, val, val, val_snoc r x, List.length_cons, B16_s, Int.mul_add, Int.mul_assoc]; omega
/-- The rows, from the top: what they say of which is greater. -/
theorem sizeP_ok (Q : Int → Prop) : ∀ (xs ys : List Int), xs.length = ys.length → Pcs xs → Pcs ys → Q (cmpI (val xs.reverse) (val ys.reverse)) → sizeP xs ys Q
  | [], [], _, _, _, h => h
  | [], y :: ys, hl, _, _, _ => by simp at hl
  | x :: xs, [], hl, _, _, _ => by simp at hl
  | x :: xs, y :: ys, hl, px, py, h => by
    rw [List.reverse_cons, List.reverse_cons, val_snoc, val_snoc, List.length_reverse, List.length_reverse] at h
    simp only [List.length_cons] at hl
    have hl' : xs.length = ys.length := by omega
    have b1 := val_bd (l := xs.reverse) fun z hz => px.tail z (List.mem_reverse.1 hz)
    have b2 := val_bd (l := ys.reverse) fun z hz => py.tail z (List.mem_reverse.1 hz)
    rw [List.length_reverse] at b1 b2
    rw [← hl'] at h b2
    have bp := B16_pos xs.length
    show bcase (decide (x < y)) (Q (-1)) (bcase (decide (x > y)) (Q 1) (sizeP xs ys Q))
    refine bcase_in (fun q => ?_) fun q => bcase_in (fun q2 => ?_) fun q2 => ?_
    · rw [decide_eq_true_eq] at q
      have h1 : B16 xs.length * x + B16 xs.length * 1 ≤ B16 xs.length * y := by rw [← Int.mul_add]; exact Int.mul_le_mul_of_nonneg_left (by omega) (Int.le_of_lt bp)
      have e : cmpI (val xs.reverse + B16 xs.length * x) (val ys.reverse + B16 xs.length * y) = -1 := by
        unfold cmpI; split
        · omega
        · split <;> omega
      rwa [e] at h
    · rw [decide_eq_true_eq] at q2
      have h1 : B16 xs.length * y + B16 xs.length * 1 ≤ B16 xs.length * x := by rw [← Int.mul_add]; exact Int.mul_le_mul_of_nonneg_left (by omega) (Int.le_of_lt bp)
      have e : cmpI (val xs.reverse + B16 xs.length * x) (val ys.reverse + B16 xs.length * y) = 1 := by
        unfold cmpI; split
        · omega
        · split <;> omega
      rwa [e] at h
    · rw [decide_eq_false_iff_not] at q q2
      obtain rfl : x = y := by omega
      refine sizeP_ok Q xs ys hl' px.tail py.tail ?_
      have e : cmpI (val xs.reverse + B16 xs.length * x) (val ys.reverse + B16 xs.length * x) = cmpI (val xs.reverse) (val ys.reverse) := by
        unfold cmpI; (repeat' split) <;> omega
      rwa [e] at h
theorem zeroP_ok (Q : Bool → Prop) : ∀ (xs : List Int), Pcs xs → Q (val xs == 0) → zeroP xs Q
  | [], _, h => h
  | x :: xs, px, h => by
    have hx := px.head
    have b := val_bd px.tail
    show bcase (decide (x > 0)) (Q false) (zeroP xs Q)
    rw [val] at h
    refine bcase_in (fun q => ?_) fun q => zeroP_ok Q xs px.tail ?_
    · rw [decide_eq_true_eq] at q
      rwa [beq_eq_false_iff_ne.2 (show x + 65536 * val xs ≠ 0 by omega)] at h
    · rw [decide_eq_false_iff_not] at q
      have e : (x + 65536 * val xs == 0) = (val xs == 0) := by rw [Bool.eq_iff_iff, beq_iff_eq, beq_iff_eq]; omega
      rwa [e] at h
theorem belL_mapU (l : List Int) : belL B0 (mapU l) = true := by
  induction l with
  | nil => rfl
  | cons x r ih => exact ih
theorem bel_num (s : Bool) (l : List Int) : bel B0 (.agg ⟨.bool s :: mapU l⟩) = true := belL_mapU l
theorem bel_nv (s : Bool) (n : Int) : bel B0 (nv s n) = true := bel_num s _
/-- A row of 20 pieces, told one by one. -/
theorem num_out {r : List Value} (h : okNum r = true) : ∃ l, r = mapU l ∧ l.length = 20 ∧ Pcs l ∧ mag r = val l := by
  obtain ⟨l, rfl, hl, hp⟩ := okNum_out h
  exact ⟨l, rfl, hl, hp, mag_mapU l⟩
def rofS : Array Value → Option (Bool × Value)
  | ⟨[.int .i64 n]⟩ => some (okI n, nv (decide (n < 0)) (sz n))
  | _ => none
def rnumS : Array Value → Option (Bool × Value)
  | ⟨[.int .u64 n]⟩ => some (okU n, nv false n)
  | _ => none
def rnegS : Array Value → Option (Bool × Value)
  | ⟨[.agg ⟨.bool s :: r⟩]⟩ => some (okNum r, nv (!s) (mag r))
  | _ => none
def rzeroS : Array Value → Option (Bool × Value)
  | ⟨[.agg ⟨.bool _ :: r⟩]⟩ => some (okNum r, .bool (mag r == 0))
  | _ => none
def rsizeS : Array Value → Option (Bool × Value)
  | ⟨[.agg ⟨.bool _ :: r1⟩, .agg ⟨.bool _ :: r2⟩]⟩ => some (okNum r1 && okNum r2, .int .i64 (cmpI (mag r1) (mag r2)))
  | _ => none
theorem bcase_n {p q : Prop} : bcase false p q = q := rfl
def zs16 : List Int := [0, 0, 0, 0, 0, 0, 0, 0, 0, 0, 0, 0, 0, 0, 0, 0]
theorem four {s : Bool} {u d0 d1 d2 d3 : Int} (h0 : 0 ≤ u) (h1 : u ≤ 18446744073709551615) (e0 : d0 = u % 65536) (e1 : d1 = u / 65536 % 65536) (e2 : d2 = u / 65536 / 65536 % 65536) (e3 : d3 = u / 65536 / 65536 / 65536 % 65536) :
    Value.agg ⟨.bool s :: mapU (d0 :: d1 :: d2 :: d3 :: zs16)⟩ = nv s u := by
  refine nv_of rfl ?_ ?_
  · refine .cons (by omega) (.cons (by omega) (.cons (by omega) (.cons (by omega) ?_)))
    intro x hx
    simp only [zs16, List.mem_cons, List.not_mem_nil, or_false, or_self] at hx; omega
  · simp only [val, zs16]; omega
theorem wt {u : Int} (h0 : 0 ≤ u) (h1 : u ≤ 18446744073709551615) : IntKind.u64.wrap (Int.tdiv u 65536) = u / 65536 := by rw [td h0]; exact w64 (by omega) (by omega)
theorem four' {s : Bool} {u : Int} (h0 : 0 ≤ u) (h1 : u ≤ 18446744073709551615) :
    Value.agg ⟨.bool s :: mapU (Int.tmod u 65536 :: Int.tmod (IntKind.u64.wrap (Int.tdiv u 65536)) 65536 :: Int.tmod (IntKind.u64.wrap (Int.tdiv (IntKind.u64.wrap (Int.tdiv u 65536)) 65536)) 65536 ::
      Int.tmod (IntKind.u64.wrap (Int.tdiv (IntKind.u64.wrap (Int.tdiv (IntKind.u64.wrap (Int.tdiv u 65536)) 65536)) 65536)) 65536 :: zs16)⟩ = nv s u := by
  have w1 : IntKind.u64.wrap (Int.tdiv u 65536) = u / 65536 := wt (by omega) (by omega)
  have w2 : IntKind.u64.wrap (Int.tdiv (u / 65536) 65536) = u / 65536 / 65536 := wt (by omega) (by omega)
  have w3 : IntKind.u64.wrap (Int.tdiv (u / 65536 / 65536) 65536) = u / 65536 / 65536 / 65536 := wt (by omega) (by omega)
  rw [w1, w2, w3, tm h0, tm (show 0 ≤ u / 65536 by omega), tm (show 0 ≤ u / 65536 / 65536 by omega), tm (show 0 ≤ u / 65536 / 65536 / 65536 by omega)]
  exact four h0 h1 rfl rfl rfl rfl
def pcROf : PC Try.prog where
  f := 17
  spec := rofS
  body := by kernel_rfl
  ok := fun args r hr hok => by
    unfold rofS at hr
    split at hr
    · rename_i n
      cases hr
      have b := okI_iff.1 hok
      refine ⟨all_bel rfl, bel_nv _ _, fun w => calls_spec envS hcokP 300 ?_ (all_bel rfl) (bel_nv _ _) w⟩
      rw [rof_vc n (fun v => v = nv (decide (n < 0)) (sz n)) _ rfl _ rfl _ rfl _ rfl _ rfl]
      cases hd : decide (n < 0)
      · rw [decide_eq_false_iff_not] at hd
        have e1 : IntKind.u64.wrap n = n := w64 (by omega) (by omega)
        have e2 : sz n = n := by unfold sz; omega
        simp only [bcase_n, e1, e2]
        exact four' (by omega) (by omega)
      · rw [decide_eq_true_eq] at hd
        have e1 : IntKind.u64.wrap (0 - IntKind.u64.wrap n) = -n := by rw [IntKind.wrap_u64, IntKind.wrap_u64]; omega
        have e2 : sz n = -n := by unfold sz; omega
        simp only [bcase_t, e1, e2]
        exact four' (by omega) (by omega)
    · cases hr
def pcRNum : PC Try.prog where
  f := 29
  spec := rnumS
  body := by kernel_rfl
  ok := fun args r hr hok => by
    unfold rnumS at hr
    split at hr
    · rename_i n
      cases hr
      have b := okU_iff.1 hok
      refine ⟨all_bel rfl, bel_nv _ _, fun w => calls_spec envS hcokP 300 ?_ (all_bel rfl) (bel_nv _ _) w⟩
      rw [rnum64_vc n (fun v => v = nv false n) _ rfl _ rfl]
      exact four' (by omega) (by omega)
    · cases hr
def pcRNeg : PC Try.prog where
  f := 21
  spec := rnegS
  body := by kernel_rfl
  ok := fun args r hr hok => by
    unfold rnegS at hr
    split at hr
    · rename_i s r
      cases hr
      obtain ⟨l, rfl, hl, hp, hm⟩ := num_out hok
      have hb : (#[Value.agg ⟨.bool s :: mapU l⟩] : Array Value).all (bel B0) = true := all_bel (by rw [belL, bel_num]; rfl)
      refine ⟨hb, bel_nv _ _, fun w => calls_spec envS hcokP 300 ?_ hb (bel_nv _ _) w⟩
      rw [hm]
      have key : ∀ s', Value.agg ⟨.bool s' :: mapU l⟩ = nv s' (val l) := fun s' => nv_of hl hp rfl
      obtain ⟨a0, a1, a2, a3, a4, a5, a6, a7, a8, a9, a10, a11, a12, a13, a14, a15, a16, a17, a18, a19, rfl⟩ := list20 hl
      refine (rneg_vc s a0 a1 a2 a3 a4 a5 a6 a7 a8 a9 a10 a11 a12 a13 a14 a15 a16 a17 a18 a19 (fun v => v = nv (!s) (val [a0, a1, a2, a3, a4, a5, a6, a7, a8, a9, a10, a11, a12, a13, a14, a15, a16, a17, a18, a19]))).mpr ?_
      cases s
      · exact key true
      · exact key false
    · cases hr
def pcRZero : PC Try.prog where
  f := 62
  spec := rzeroS
  body := by kernel_rfl
  ok := fun args r hr hok => by
    unfold rzeroS at hr
    split at hr
    · rename_i s r
      cases hr
      obtain ⟨l, rfl, hl, hp, hm⟩ := num_out hok
      have hb : (#[Value.agg ⟨.bool s :: mapU l⟩] : Array Value).all (bel B0) = true := all_bel (by rw [belL, bel_num]; rfl)
      refine ⟨hb, rfl, fun w => calls_spec envS hcokP 300 ?_ hb rfl w⟩
      rw [hm]
      obtain ⟨a0, a1, a2, a3, a4, a5, a6, a7, a8, a9, a10, a11, a12, a13, a14, a15, a16, a17, a18, a19, rfl⟩ := list20 hl
      exact (zero_read s a0 a1 a2 a3 a4 a5 a6 a7 a8 a9 a10 a11 a12 a13 a14 a15 a16 a17 a18 a19 (fun v => v = .bool (val [a0, a1, a2, a3, a4, a5, a6, a7, a8, a9, a10, a11, a12, a13, a14, a15, a16, a17, a18, a19] == 0))).mpr (zeroP_ok _ _ hp rfl)
    · cases hr
def pcRSize : PC Try.prog where
  f := 60
  spec := rsizeS
  body := by kernel_rfl
  ok := fun args r hr hok => by
    unfold rsizeS at hr
    split at hr
    · rename_i s1 r1 s2 r2
      cases hr
      have hok' : okNum r1 = true ∧ okNum r2 = true := by simpa using hok
      obtain ⟨l1, rfl, hl1, hp1, hm1⟩ := num_out hok'.1
      obtain ⟨l2, rfl, hl2, hp2, hm2⟩ := num_out hok'.2
      have hb : (#[Value.agg ⟨.bool s1 :: mapU l1⟩, Value.agg ⟨.bool s2 :: mapU l2⟩] : Array Value).all (bel B0) = true := all_bel (by rw [belL, bel_num, belL, bel_num]; rfl)
      refine ⟨hb, rfl, fun w => calls_spec envS hcokP 300 ?_ hb rfl w⟩
      rw [hm1, hm2]
      have key := sizeP_ok (fun i => Value.int .i64 i = .int .i64 (cmpI (val l1) (val l2))) l1.reverse l2.reverse (by rw [List.length_reverse, List.length_reverse, hl1, hl2]) (fun z hz => hp1 z (List.mem_reverse.1 hz)) (fun z hz => hp2 z (List.mem_reverse.1 hz)) (by rw [List.reverse_reverse, List.reverse_reverse])
      obtain ⟨a0, a1, a2, a3, a4, a5, a6, a7, a8, a9, a10, a11, a12, a13, a14, a15, a16, a17, a18, a19, rfl⟩ := list20 hl1
      obtain ⟨b0, b1, b2, b3, b4, b5, b6, b7, b8, b9, b10, b11, b12, b13, b14, b15, b16, b17, b18, b19, rfl⟩ := list20 hl2
      exact (size_read s1 s2 a0 a1 a2 a3 a4 a5 a6 a7 a8 a9 a10 a11 a12 a13 a14 a15 a16 a17 a18 a19 b0 b1 b2 b3 b4 b5 b6 b7 b8 b9 b10 b11 b12 b13 b14 b15 b16 b17 b18 b19 (fun v => v = .int .i64 (cmpI (val [a0, a1, a2, a3, a4, a5, a6, a7, a8, a9, a10, a11, a12, a13, a14, a15, a16, a17, a18, a19]) (val [b0, b1, b2, b3, b4, b5, b6, b7, b8, b9, b10, b11, b12, b13, b14, b15, b16, b17, b18, b19])))).mpr key
    · cases hr
def envR1 : Env Try.prog := envS.with false [pcROf, pcRNum, pcRNeg, pcRZero, pcRSize]
end
end Go.Proofs.Ytbhgibpocbmipaa
