/-
  Own texts, merged: NumL NumR NumT NumMA NumMB NumMC NumMD NumP NumQ NumW NumG NumI NumFA NumFB NumFC NumFD NumFE NumFF
-/
import Derived.Test.YtecmhjhjmhliiaaDoorQ3
import Derived.Test.YtecmhjhjmhliiaaDoorQ5

/-
  Rows of pieces of 16 bits, the lowest first: what they stand for; sums, products. No program is named here.
-/

namespace Go.Proofs.YtecmhjhjmhliiaaDoor

open Go.Den
noncomputable section

def val : List Int → Int
  | [] => 0
  | x :: r => x + 65536 * val r
def Pcs (l : List Int) : Prop := ∀ x ∈ l, 0 ≤ x ∧ x ≤ 65535
theorem Pcs.head {x : Int} {l : List Int} (h : Pcs (x :: l)) : 0 ≤ x ∧ x ≤ 65535 := h x (by simp)
theorem Pcs.tail {x : Int} {l : List Int} (h : Pcs (x :: l)) : Pcs l := fun y hy => h y (by simp [hy])
theorem Pcs.cons {x : Int} {l : List Int} (h : 0 ≤ x ∧ x ≤ 65535) (t : Pcs l) : Pcs (x :: l) := fun y hy => by
  rcases List.mem_cons.1 hy with rfl | hy
  · exact h
  · exact t y hy
theorem Pcs.nil : Pcs [] := fun _ h => by cases h
/-- The pieces of a number. -/
def digsN (k : Nat) : Int → List Int := Nat.rec (motive := fun _ => Int → List Int) (fun _ => []) (fun _ ih n => n % 65536 :: ih (n / 65536)) k
theorem digsN_s (k : Nat) (n : Int) : digsN (k + 1) n = n % 65536 :: digsN k (n / 65536) := rfl
def B16 (k : Nat) : Int := 65536 ^ k
theorem B16_s (k : Nat) : B16 (k + 1) = 65536 * B16 k := by unfold B16; rw [Int.pow_succ, Int.mul_comm]
theorem B16_0 : B16 0 = 1 := rfl
theorem B16_pos : ∀ k, 0 < B16 k
  | 0 => by rw [B16_0]; omega
  | k + 1 => by have := B16_pos k; rw [B16_s]; omega
theorem val_bd : ∀ {l : List Int}, Pcs l → 0 ≤ val l ∧ val l < B16 l.length
  | [], _ => by simp [val, B16]
  | x :: r, h => by
    have h1 := val_bd h.tail
    have h2 := h.head
    simp only [val, List.length_cons, B16_s]; omega
theorem digsN_len : ∀ (k : Nat) (n : Int), (digsN k n).length = k
  | 0, _ => rfl
  | k + 1, n => by rw [digsN_s, List.length_cons, digsN_len k]
theorem digsN_pcs : ∀ (k : Nat) (n : Int), Pcs (digsN k n)
  | 0, _ => .nil
  | k + 1, n => by rw [digsN_s]; exact .cons (by omega) (digsN_pcs k _)
theorem val_digsN : ∀ (k : Nat) (n : Int), 0 ≤ n → n < B16 k → val (digsN k n) = n
  | 0, n, h0, h1 => by rw [B16_0] at h1; show (0 : Int) = n; omega
  | k + 1, n, h0, h1 => by
    rw [B16_s] at h1
    rw [digsN_s, val, val_digsN k (n / 65536) (by omega) (by omega)]; omega
theorem digsN_val : ∀ {l : List Int}, Pcs l → digsN l.length (val l) = l
  | [], _ => rfl
  | x :: r, h => by
    have h2 := h.head
    rw [List.length_cons, digsN_s, val, show (x + 65536 * val r) % 65536 = x by omega, show (x + 65536 * val r) / 65536 = val r by omega, digsN_val h.tail]
def mapU (l : List Int) : List Value := List.rec (motive := fun _ => List Value) [] (fun x _ ih => Value.int .u64 x :: ih) l
def intV (v : Value) : Int :=
  match v with
  | .int _ n => n
  | _ => 0
def ints (r : List Value) : List Int := List.rec (motive := fun _ => List Int) [] (fun v _ ih => intV v :: ih) r
theorem ints_mapU : ∀ l : List Int, ints (mapU l) = l
  | [] => rfl
  | x :: r => by show x :: ints (mapU r) = x :: r; rw [ints_mapU r]
def okD (v : Value) : Bool :=
  match v with
  | .int .u64 n => decide (0 ≤ n) && decide (n ≤ 65535)
  | _ => false
def okNum (r : List Value) : Bool := Nat.beq r.length 20 && r.all okD
theorem okNum_out {r : List Value} (h : okNum r = true) : ∃ l, r = mapU l ∧ l.length = 20 ∧ Pcs l := by
  have key : ∀ r : List Value, r.all okD = true → ∃ l, r = mapU l ∧ l.length = r.length ∧ Pcs l := by
    intro r
    induction r with
    | nil => intro _; exact ⟨[], rfl, rfl, .nil⟩
    | cons v r ih =>
      intro h
      rw [List.all_cons, Bool.and_eq_true] at h
      obtain ⟨l, rfl, hl, hp⟩ := ih h.2
      have hv := h.1
      unfold okD at hv
      split at hv
      · rename_i n
        rw [Bool.and_eq_true, decide_eq_true_eq, decide_eq_true_eq] at hv
        exact ⟨n :: l, rfl, by rw [List.length_cons, List.length_cons, hl], .cons hv hp⟩
      · cases hv
  unfold okNum at h
  rw [Bool.and_eq_true, Nat.beq_eq] at h
  obtain ⟨l, e, hl, hp⟩ := key r h.2
  exact ⟨l, e, by omega, hp⟩
theorem mapU_len : ∀ l : List Int, (mapU l).length = l.length
  | [] => rfl
  | x :: r => by show (mapU r).length + 1 = r.length + 1; rw [mapU_len r]
theorem okNum_in {l : List Int} (h : l.length = 20) (p : Pcs l) : okNum (mapU l) = true := by
  unfold okNum
  rw [mapU_len, h, Bool.and_eq_true]
  refine ⟨rfl, ?_⟩
  clear h
  induction l with
  | nil => rfl
  | cons x r ih =>
    show (okD (.int .u64 x) && (mapU r).all okD) = true
    rw [ih p.tail, Bool.and_true]
    have := p.head
    simp only [okD, Bool.and_eq_true, decide_eq_true_eq]; exact this
def mag (r : List Value) : Int := val (ints r)
theorem mag_mapU (l : List Int) : mag (mapU l) = val l := by unfold mag; rw [ints_mapU]
/-- A number of the document: a sign, a size. -/
def nv (s : Bool) (n : Int) : Value := .agg ⟨.bool s :: mapU (digsN 20 n)⟩
def T320 : Int := 2135987035920910082395021706169552114602704522356652769947041607822219725780640550022962086936576
theorem T320_eq : B16 20 = T320 := by unfold T320 B16; rfl
theorem mag_nv {n : Int} (h0 : 0 ≤ n) (h1 : n < T320) : mag (mapU (digsN 20 n)) = n := by
  rw [mag_mapU]; exact val_digsN 20 n h0 (by rw [T320_eq]; exact h1)
theorem ok_nv (n : Int) : okNum (mapU (digsN 20 n)) = true := okNum_in (digsN_len _ _) (digsN_pcs _ _)
theorem nv_of {s : Bool} {l : List Int} {n : Int} (h : l.length = 20) (p : Pcs l) (e : val l = n) : Value.agg ⟨.bool s :: mapU l⟩ = nv s n := by
  unfold nv; rw [← e, ← h, digsN_val p]
theorem mag_bd {r : List Value} (h : okNum r = true) : 0 ≤ mag r ∧ mag r < T320 := by
  obtain ⟨l, rfl, hl, hp⟩ := okNum_out h
  rw [mag_mapU, ← T320_eq, ← hl]; exact val_bd hp
theorem w64 {n : Int} (h0 : 0 ≤ n) (h1 : n ≤ 18446744073709551615) : IntKind.wrap .u64 n = n := by rw [IntKind.wrap_u64]; omega
theorem td {o : Int} (h0 : 0 ≤ o) : Int.tdiv o 65536 = o / 65536 := Int.tdiv_eq_ediv_of_nonneg h0
theorem tm {o : Int} (h0 : 0 ≤ o) : Int.tmod o 65536 = o % 65536 := Int.tmod_eq_emod_of_nonneg h0
/-- A sum of two sizes, the last piece of the second left out. -/
def addGo (xs : List Int) : Int → List Int → List Int :=
  List.rec (motive := fun _ => Int → List Int → List Int) (fun o _ => [o]) (fun x _ ih o ys => List.casesOn (motive := fun _ => List Int) ys [o] (fun y ys =>
    Int.tmod (IntKind.wrap .u64 (o + y)) 65536 :: ih (IntKind.wrap .u64 (x + IntKind.wrap .u64 (Int.tdiv (IntKind.wrap .u64 (o + y)) 65536))) ys)) xs
theorem addGo_nil (o : Int) (ys : List Int) : addGo [] o ys = [o] := rfl
theorem addGo_cons (x : Int) (xs : List Int) (o y : Int) (ys : List Int) : addGo (x :: xs) o (y :: ys) =
    Int.tmod (IntKind.wrap .u64 (o + y)) 65536 :: addGo xs (IntKind.wrap .u64 (x + IntKind.wrap .u64 (Int.tdiv (IntKind.wrap .u64 (o + y)) 65536))) ys := rfl
theorem one_pcs {o : Int} (h : 0 ≤ o ∧ o ≤ 65535) : Pcs [o] := Pcs.cons h Pcs.nil
theorem val_one (o : Int) : val [o] = o := by rw [val, val]; omega
theorem B16_1 : B16 1 = 65536 := by rw [B16_s, B16_0, Int.mul_one]
theorem addGo_ok (xs : List Int) : ∀ (o : Int) (ys : List Int), Pcs xs → Pcs ys → xs.length ≤ ys.length → 0 ≤ o → o ≤ 65536 → o + 65536 * val xs + val (ys.take xs.length) < B16 (xs.length + 1) →
    Pcs (addGo xs o ys) ∧ (addGo xs o ys).length = xs.length + 1 ∧ val (addGo xs o ys) = o + 65536 * val xs + val (ys.take xs.length) := by
  induction xs with
  | nil =>
    intro o ys _ _ _ h0 _ h2
    rw [List.length_nil, Nat.zero_add, B16_1, List.take_zero, val] at h2
    rw [addGo_nil, List.length_nil, List.take_zero, val, val_one]
    exact ⟨one_pcs (by omega), rfl, by omega⟩
  | cons x xs ih =>
    intro o ys px py hl h0 h1 h2
    cases ys with
    | nil => simp at hl
    | cons y ys =>
      have hx := px.head; have hy := py.head
      have e1 : IntKind.wrap .u64 (o + y) = o + y := w64 (by omega) (by omega)
      have e2 : IntKind.wrap .u64 (Int.tdiv (o + y) 65536) = (o + y) / 65536 := by rw [td (by omega)]; exact w64 (by omega) (by omega)
      have e3 : IntKind.wrap .u64 (x + (o + y) / 65536) = x + (o + y) / 65536 := w64 (by omega) (by omega)
      rw [List.length_cons, List.take_succ_cons, val, val, B16_s] at h2
      rw [List.length_cons, List.length_cons] at hl
      obtain ⟨i1, i2, i3⟩ := ih (x + (o + y) / 65536) ys px.tail py.tail (by omega) (by omega) (by omega) (by omega)
      rw [addGo_cons, e1, e2, e3, tm (by omega)]
      refine ⟨.cons (by omega) i1, by rw [List.length_cons, i2, List.length_cons], ?_⟩
      rw [val, i3, List.length_cons, List.take_succ_cons, val, val]; omega
/-- A difference of two sizes, the first not the less. -/
def subGo (xs : List Int) : List Int → Int → List Int :=
  List.rec (motive := fun _ => List Int → Int → List Int) (fun _ _ => []) (fun x _ ih ys b => List.casesOn (motive := fun _ => List Int) ys [] (fun y ys =>
    Int.tmod (IntKind.wrap .u64 (IntKind.wrap .u64 (IntKind.wrap .u64 (x + 65536) - y) - b)) 65536 ::
      ih ys (IntKind.wrap .u64 (1 - IntKind.wrap .u64 (Int.tdiv (IntKind.wrap .u64 (IntKind.wrap .u64 (IntKind.wrap .u64 (x + 65536) - y) - b)) 65536))))) xs
theorem subGo_ok : ∀ (xs ys : List Int) (b : Int), Pcs xs → Pcs ys → xs.length = ys.length → 0 ≤ b → b ≤ 1 → 0 ≤ val xs - val ys - b →
    Pcs (subGo xs ys b) ∧ (subGo xs ys b).length = xs.length ∧ val (subGo xs ys b) = val xs - val ys - b
  | [], [], b, _, _, _, h0, h1, h2 => by
    simp only [val] at h2
    show Pcs [] ∧ 0 = 0 ∧ val [] = _
    refine ⟨.nil, rfl, ?_⟩
    simp only [val]; omega
  | [], y :: ys, b, _, _, hl, _, _, _ => by simp at hl
  | x :: xs, [], b, _, _, hl, _, _, _ => by simp at hl
  | x :: xs, y :: ys, b, px, py, hl, h0, h1, h2 => by
    have hx := px.head; have hy := py.head
    have e1 : IntKind.wrap .u64 (IntKind.wrap .u64 (IntKind.wrap .u64 (x + 65536) - y) - b) = x + 65536 - y - b := by
      rw [w64 (n := x + 65536) (by omega) (by omega), w64 (n := x + 65536 - y) (by omega) (by omega)]; exact w64 (by omega) (by omega)
    have e2 : IntKind.wrap .u64 (1 - IntKind.wrap .u64 (Int.tdiv (x + 65536 - y - b) 65536)) = 1 - (x + 65536 - y - b) / 65536 := by
      rw [td (by omega), w64 (n := (x + 65536 - y - b) / 65536) (by omega) (by omega)]; exact w64 (by omega) (by omega)
    have eq : subGo (x :: xs) (y :: ys) b = (x + 65536 - y - b) % 65536 :: subGo xs ys (1 - (x + 65536 - y - b) / 65536) := by
      show Int.tmod (IntKind.wrap .u64 (IntKind.wrap .u64 (IntKind.wrap .u64 (x + 65536) - y) - b)) 65536 ::
        subGo xs ys (IntKind.wrap .u64 (1 - IntKind.wrap .u64 (Int.tdiv (IntKind.wrap .u64 (IntKind.wrap .u64 (IntKind.wrap .u64 (x + 65536) - y) - b)) 65536))) = _
      rw [e1, e2, tm (by omega)]
    simp only [List.length_cons, val] at h2 hl ⊢
    obtain ⟨i1, i2, i3⟩ := subGo_ok xs ys (1 - (x + 65536 - y - b) / 65536) px.tail py.tail (by omega) (by omega) (by omega) (by omega)
    rw [eq]
    refine ⟨.cons (by omega) i1, by rw [List.length_cons, i2], ?_⟩
    rw [val, i3]; omega
/-- A row, and a piece's products with another row on it. -/
def addRow (x : Int) (os : List Int) : List Int → List Int :=
  List.rec (motive := fun _ => List Int → List Int) (fun _ => []) (fun o os ih ys => List.casesOn (motive := fun _ => List Int) ys (o :: os) (fun y ys => IntKind.wrap .u64 (o + IntKind.wrap .u64 (x * y)) :: ih ys)) os
def mrow (x : Int) (i : Nat) : List Int → List Int → List Int :=
  Nat.rec (motive := fun _ => List Int → List Int → List Int) (fun os ys => addRow x os ys) (fun _ ih os ys => List.casesOn (motive := fun _ => List Int) os [] fun o os => o :: ih os ys) i
def carryGo (r : List Int) : Int → List Int :=
  List.rec (motive := fun _ => Int → List Int) (fun o => [o]) (fun p _ ih o => Int.tmod o 65536 :: ih (IntKind.wrap .u64 (p + IntKind.wrap .u64 (Int.tdiv o 65536)))) r
def carry (os : List Int) : List Int := List.casesOn (motive := fun _ => List Int) os [] fun o r => carryGo r o
def mulGo (b : List Int) (xs : List Int) : Nat → List Int → List Int :=
  List.rec (motive := fun _ => Nat → List Int → List Int) (fun _ os => os) (fun x _ ih i os => ih (i + 1) (carry (mrow x i os b))) xs
/-- Pieces on the way: not above 2^33. -/
def Big (l : List Int) : Prop := ∀ x ∈ l, 0 ≤ x ∧ x ≤ 8589934592
theorem Big.head {x : Int} {l : List Int} (h : Big (x :: l)) : 0 ≤ x ∧ x ≤ 8589934592 := h x (by simp)
theorem Big.tail {x : Int} {l : List Int} (h : Big (x :: l)) : Big l := fun y hy => h y (by simp [hy])
theorem Big.cons {x : Int} {l : List Int} (h : 0 ≤ x ∧ x ≤ 8589934592) (t : Big l) : Big (x :: l) := fun y hy => by
  rcases List.mem_cons.1 hy with rfl | hy
  · exact h
  · exact t y hy
theorem addRow_ok {x : Int} (hx : 0 ≤ x ∧ x ≤ 65535) : ∀ (os ys : List Int), Pcs os → Pcs ys → os.length ≤ ys.length →
    Big (addRow x os ys) ∧ (addRow x os ys).length = os.length ∧ val (addRow x os ys) = val os + x * val (ys.take os.length)
  | [], ys, _, _, _ => by
    refine ⟨fun _ h => (by cases h), rfl, ?_⟩
    rw [List.length_nil, List.take_zero]
    show (0 : Int) = 0 + x * 0
    omega
  | o :: os, [], _, _, hl => by simp at hl
  | o :: os, y :: ys, po, py, hl => by
    have ho := po.head; have hy := py.head
    have p0 : 0 ≤ x * y := Int.mul_nonneg hx.1 hy.1
    have p1 : x * y ≤ 65535 * 65535 := Int.mul_le_mul hx.2 hy.2 hy.1 (by omega)
    have e : IntKind.wrap .u64 (o + IntKind.wrap .u64 (x * y)) = o + x * y := by
      rw [w64 (n := x * y) p0 (by omega)]; exact w64 (by omega) (by omega)
    have eq : addRow x (o :: os) (y :: ys) = (o + x * y) :: addRow x os ys := by
      show IntKind.wrap .u64 (o + IntKind.wrap .u64 (x * y)) :: addRow x os ys = _
      rw [e]
    simp only [List.length_cons] at hl
    obtain ⟨i1, i2, i3⟩ := addRow_ok hx os ys po.tail py.tail (by omega)
    rw [eq]
    refine ⟨.cons (by omega) i1, by rw [List.length_cons, i2, List.length_cons], ?_⟩
    rw [val, i3, List.length_cons, List.take_succ_cons, val, val, Int.mul_add x y, Int.mul_left_comm x 65536]; omega
theorem mrow_ok {x : Int} (hx : 0 ≤ x ∧ x ≤ 65535) : ∀ (i : Nat) (os ys : List Int), Pcs os → Pcs ys → os.length ≤ ys.length + i → i ≤ os.length →
    Big (mrow x i os ys) ∧ (mrow x i os ys).length = os.length ∧ val (mrow x i os ys) = val os + B16 i * (x * val (ys.take (os.length - i)))
  | 0, os, ys, po, py, hl, _ => by
    obtain ⟨i1, i2, i3⟩ := addRow_ok hx os ys po py (by omega)
    refine ⟨i1, i2, ?_⟩
    show val (addRow x os ys) = _
    rw [i3, B16_0, Int.one_mul, Nat.sub_zero]
  | i + 1, [], ys, _, _, _, hi => by simp at hi
  | i + 1, o :: os, ys, po, py, hl, hi => by
    simp only [List.length_cons] at hl hi
    obtain ⟨i1, i2, i3⟩ := mrow_ok hx i os ys po.tail py (by omega) (by omega)
    have ho := po.head
    show Big (o :: mrow x i os ys) ∧ (o :: mrow x i os ys).length = _ ∧ val (o :: mrow x i os ys) = _
    refine ⟨.cons (by omega) i1, by rw [List.length_cons, i2, List.length_cons], ?_⟩
    rw [val, i3, List.length_cons, val, B16_s, Nat.add_sub_add_right, Int.mul_add, Int.mul_assoc]; omega
theorem carryGo_nil (o : Int) : carryGo [] o = [o] := rfl
theorem carryGo_cons (p : Int) (r : List Int) (o : Int) : carryGo (p :: r) o = Int.tmod o 65536 :: carryGo r (IntKind.wrap .u64 (p + IntKind.wrap .u64 (Int.tdiv o 65536))) := rfl
theorem carryGo_ok (r : List Int) : ∀ (o : Int), Big r → 0 ≤ o → o ≤ 8590196736 → o + 65536 * val r < B16 (r.length + 1) →
    Pcs (carryGo r o) ∧ (carryGo r o).length = r.length + 1 ∧ val (carryGo r o) = o + 65536 * val r := by
  induction r with
  | nil =>
    intro o _ h0 _ h2
    rw [List.length_nil, Nat.zero_add, B16_1, val] at h2
    rw [carryGo_nil, List.length_nil, val, val_one]
    exact ⟨one_pcs (by omega), rfl, by omega⟩
  | cons p r ih =>
    intro o hb h0 h1 h2
    have hp := hb.head
    have e1 : IntKind.wrap .u64 (p + IntKind.wrap .u64 (Int.tdiv o 65536)) = p + o / 65536 := by
      rw [td h0, w64 (n := o / 65536) (by omega) (by omega)]; exact w64 (by omega) (by omega)
    rw [List.length_cons, val, B16_s] at h2
    obtain ⟨i1, i2, i3⟩ := ih (p + o / 65536) hb.tail (by omega) (by omega) (by omega)
    rw [carryGo_cons, e1, tm h0]
    refine ⟨.cons (by omega) i1, by rw [List.length_cons, i2, List.length_cons], ?_⟩
    rw [val, i3, val]; omega
theorem carry_ok {os : List Int} (hb : Big os) (hl : os.length = 20) (h : val os < T320) : Pcs (carry os) ∧ (carry os).length = 20 ∧ val (carry os) = val os := by
  cases os with
  | nil => simp at hl
  | cons o r =>
    simp only [List.length_cons] at hl
    have ho := hb.head
    have hr : r.length + 1 = 20 := hl
    rw [← T320_eq, ← hr] at h
    obtain ⟨i1, i2, i3⟩ := carryGo_ok r o hb.tail ho.1 (by omega) h
    exact ⟨i1, by rw [← hr]; exact i2, i3⟩
theorem val_take : ∀ (l : List Int) (k : Nat), Pcs l → val l < B16 k → val (l.take k) = val l
  | [], k, _, _ => by rw [List.take_nil]
  | x :: r, 0, h, h1 => by
    rw [B16_0] at h1
    have := (val_bd h).1
    rw [List.take_zero]; show (0 : Int) = _; omega
  | x :: r, k + 1, h, h1 => by
    have hx := h.head
    rw [val, B16_s] at h1
    rw [List.take_succ_cons, val, val, val_take r k h.tail (by omega)]
theorem mul_gap {x v : Int} {i : Nat} (hi : i ≤ 20) (hx : 0 ≤ x) (hv : 0 ≤ v) (h : B16 i * (x * v) < B16 20) (h0 : x ≠ 0) : v < B16 (20 - i) := by
  have e : B16 20 = B16 i * B16 (20 - i) := by unfold B16; rw [← Int.pow_add]; congr 1; omega
  rw [e] at h
  have h2 := Int.lt_of_mul_lt_mul_left h (Int.le_of_lt (B16_pos i))
  have h3 : 1 * v ≤ x * v := Int.mul_le_mul_of_nonneg_right (by omega) hv
  omega
theorem mulGo_ok {ys : List Int} (py : Pcs ys) (ly : ys.length = 20) : ∀ (xs : List Int) (i : Nat) (os : List Int), Pcs xs → Pcs os → os.length = 20 → xs.length + i = 20 → val os + B16 i * (val xs * val ys) < T320 →
    Pcs (mulGo ys xs i os) ∧ (mulGo ys xs i os).length = 20 ∧ val (mulGo ys xs i os) = val os + B16 i * (val xs * val ys)
  | [], i, os, _, po, lo, _, _ => by
    refine ⟨po, lo, ?_⟩
    show val os = val os + B16 i * (0 * val ys)
    rw [Int.zero_mul, Int.mul_zero, Int.add_zero]
  | x :: xs, i, os, px, po, lo, li, hb => by
    have hx := px.head
    have hy := (val_bd py).1
    have hxs := (val_bd px.tail).1
    have hos := (val_bd po).1
    simp only [List.length_cons] at li
    have e0 : B16 i * (val (x :: xs) * val ys) = B16 i * (x * val ys) + B16 (i + 1) * (val xs * val ys) := by
      rw [val, B16_s, Int.add_mul, Int.mul_add, Int.mul_assoc 65536 (val xs), Int.mul_left_comm (B16 i) 65536, Int.mul_assoc 65536 (B16 i)]
    have n1 : 0 ≤ B16 i * (x * val ys) := Int.mul_nonneg (Int.le_of_lt (B16_pos i)) (Int.mul_nonneg hx.1 hy)
    have n2 : 0 ≤ B16 (i + 1) * (val xs * val ys) := Int.mul_nonneg (Int.le_of_lt (B16_pos _)) (Int.mul_nonneg hxs hy)
    rw [e0] at hb ⊢
    obtain ⟨i1, i2, i3⟩ := mrow_ok hx i os ys po py (by omega) (by omega)
    have e1 : x * val (ys.take (os.length - i)) = x * val ys := by
      by_cases hz : x = 0
      · rw [hz, Int.zero_mul, Int.zero_mul]
      · rw [lo, val_take ys (20 - i) py (mul_gap (by omega) hx.1 hy (by rw [T320_eq]; omega) hz)]
    rw [e1] at i3
    obtain ⟨j1, j2, j3⟩ := carry_ok i1 (by rw [i2, lo]) (by rw [i3]; omega)
    obtain ⟨k1, k2, k3⟩ := mulGo_ok py ly xs (i + 1) (carry (mrow x i os ys)) px.tail j1 j2 (by omega) (by rw [j3, i3]; omega)
    refine ⟨k1, k2, ?_⟩
    show val (mulGo ys xs (i + 1) (carry (mrow x i os ys))) = _
    rw [k3, j3, i3]; omega
/-- The rows from the top: which is the greater one. -/
def sizeP (xs : List Int) : List Int → (Int → Prop) → Prop :=
  List.rec (motive := fun _ => List Int → (Int → Prop) → Prop) (fun _ Q => Q 0) (fun x _ ih ys Q => List.casesOn (motive := fun _ => Prop) ys (Q 0) fun y ys => bcase (decide (x < y)) (Q (-1)) (bcase (decide (x > y)) (Q 1) (ih ys Q))) xs
def zeroP (xs : List Int) : (Bool → Prop) → Prop :=
  List.rec (motive := fun _ => (Bool → Prop) → Prop) (fun Q => Q true) (fun x _ ih Q => bcase (decide (x > 0)) (Q false) (ih Q)) xs
end

end Go.Proofs.YtecmhjhjmhliiaaDoor


/-
  The document's numbers: Of, Num64, Neg, Zero, Size, read, and their contracts.
-/


namespace Go.Proofs.YtecmhjhjmhliiaaDoor

open Go.Den Go.RowKit
noncomputable section
set_option maxRecDepth 100000

theorem rof_vc (n : Int) (Q : Value → Prop) (x1 : Int) (e_x1 : x1 = IntKind.wrap IntKind.u64 (0 - IntKind.wrap IntKind.u64 n)) (x2 : Int) (e_x2 : x2 = IntKind.wrap IntKind.u64 (Int.tdiv x1 65536)) (x3 : Int) (e_x3 : x3 = IntKind.wrap IntKind.u64 (Int.tdiv x2 65536)) (x4 : Int) (e_x4 : x4 = IntKind.wrap IntKind.u64 (Int.tdiv (IntKind.wrap IntKind.u64 n) 65536)) (x5 : Int) (e_x5 : x5 = IntKind.wrap IntKind.u64 (Int.tdiv x4 65536)) : ((ev envS 300).call [] 74 #[.int .i64 n] [] B0).holds (fun r => Q r.v) = (bcase (decide (n < 0))
  (bcase (decide (n < 0))
    (Q
      (Value.agg
        {
          toList :=
            [Value.bool true, Value.int IntKind.u64 (Int.tmod x1 65536), Value.int IntKind.u64 (Int.tmod x2 65536),
              Value.int IntKind.u64 (Int.tmod x3 65536),
              Value.int IntKind.u64 (Int.tmod (IntKind.wrap IntKind.u64 (Int.tdiv x3 65536)) 65536),
              Value.int IntKind.u64 0, Value.int IntKind.u64 0, Value.int IntKind.u64 0, Value.int IntKind.u64 0,
              Value.int IntKind.u64 0, Value.int IntKind.u64 0, Value.int IntKind.u64 0, Value.int IntKind.u64 0,
              Value.int IntKind.u64 0, Value.int IntKind.u64 0, Value.int IntKind.u64 0, Value.int IntKind.u64 0,
              Value.int IntKind.u64 0, Value.int IntKind.u64 0, Value.int IntKind.u64 0, Value.int IntKind.u64 0] }))
    (Q
      (Value.agg
        {
          toList :=
            [Value.bool true, Value.int IntKind.u64 (Int.tmod (IntKind.wrap IntKind.u64 n) 65536),
              Value.int IntKind.u64 (Int.tmod x4 65536), Value.int IntKind.u64 (Int.tmod x5 65536),
              Value.int IntKind.u64 (Int.tmod (IntKind.wrap IntKind.u64 (Int.tdiv x5 65536)) 65536),
              Value.int IntKind.u64 0, Value.int IntKind.u64 0, Value.int IntKind.u64 0, Value.int IntKind.u64 0,
              Value.int IntKind.u64 0, Value.int IntKind.u64 0, Value.int IntKind.u64 0, Value.int IntKind.u64 0,
              Value.int IntKind.u64 0, Value.int IntKind.u64 0, Value.int IntKind.u64 0, Value.int IntKind.u64 0,
              Value.int IntKind.u64 0, Value.int IntKind.u64 0, Value.int IntKind.u64 0, Value.int IntKind.u64 0] })))
  (bcase (decide (n < 0))
    (Q
      (Value.agg
        {
          toList :=
            [Value.bool false, Value.int IntKind.u64 (Int.tmod x1 65536), Value.int IntKind.u64 (Int.tmod x2 65536),
              Value.int IntKind.u64 (Int.tmod x3 65536),
              Value.int IntKind.u64 (Int.tmod (IntKind.wrap IntKind.u64 (Int.tdiv x3 65536)) 65536),
              Value.int IntKind.u64 0, Value.int IntKind.u64 0, Value.int IntKind.u64 0, Value.int IntKind.u64 0,
              Value.int IntKind.u64 0, Value.int IntKind.u64 0, Value.int IntKind.u64 0, Value.int IntKind.u64 0,
              Value.int IntKind.u64 0, Value.int IntKind.u64 0, Value.int IntKind.u64 0, Value.int IntKind.u64 0,
              Value.int IntKind.u64 0, Value.int IntKind.u64 0, Value.int IntKind.u64 0, Value.int IntKind.u64 0] }))
    (Q
      (Value.agg
        {
          toList :=
            [Value.bool false, Value.int IntKind.u64 (Int.tmod (IntKind.wrap IntKind.u64 n) 65536),
              Value.int IntKind.u64 (Int.tmod x4 65536), Value.int IntKind.u64 (Int.tmod x5 65536),
              Value.int IntKind.u64 (Int.tmod (IntKind.wrap IntKind.u64 (Int.tdiv x5 65536)) 65536),
              Value.int IntKind.u64 0, Value.int IntKind.u64 0, Value.int IntKind.u64 0, Value.int IntKind.u64 0,
              Value.int IntKind.u64 0, Value.int IntKind.u64 0, Value.int IntKind.u64 0, Value.int IntKind.u64 0,
              Value.int IntKind.u64 0, Value.int IntKind.u64 0, Value.int IntKind.u64 0, Value.int IntKind.u64 0,
              Value.int IntKind.u64 0, Value.int IntKind.u64 0, Value.int IntKind.u64 0, Value.int IntKind.u64 0] })))) := by
  subst e_x5 e_x4 e_x3 e_x2 e_x1
  kernel_rfl
theorem rnum64_vc (u : Int) (Q : Value → Prop) (x1 : Int) (e_x1 : x1 = IntKind.wrap IntKind.u64 (Int.tdiv u 65536)) (x2 : Int) (e_x2 : x2 = IntKind.wrap IntKind.u64 (Int.tdiv x1 65536)) : ((ev envS 300).call [] 54 #[.int .u64 u] [] B0).holds (fun r => Q r.v) = (Q
  (Value.agg
    {
      toList :=
        [Value.bool false, Value.int IntKind.u64 (Int.tmod u 65536), Value.int IntKind.u64 (Int.tmod x1 65536),
          Value.int IntKind.u64 (Int.tmod x2 65536),
          Value.int IntKind.u64 (Int.tmod (IntKind.wrap IntKind.u64 (Int.tdiv x2 65536)) 65536),
          Value.int IntKind.u64 0, Value.int IntKind.u64 0, Value.int IntKind.u64 0, Value.int IntKind.u64 0,
          Value.int IntKind.u64 0, Value.int IntKind.u64 0, Value.int IntKind.u64 0, Value.int IntKind.u64 0,
          Value.int IntKind.u64 0, Value.int IntKind.u64 0, Value.int IntKind.u64 0, Value.int IntKind.u64 0,
          Value.int IntKind.u64 0, Value.int IntKind.u64 0, Value.int IntKind.u64 0, Value.int IntKind.u64 0] })) := by
  subst e_x2 e_x1
  kernel_rfl
theorem rneg_vc (s : Bool) (a0 a1 a2 a3 a4 a5 a6 a7 a8 a9 a10 a11 a12 a13 a14 a15 a16 a17 a18 a19 : Int) (Q : Value → Prop) : ((ev envS 300).call [] 52 #[.agg #[.bool s, .int .u64 a0, .int .u64 a1, .int .u64 a2, .int .u64 a3, .int .u64 a4, .int .u64 a5, .int .u64 a6, .int .u64 a7, .int .u64 a8, .int .u64 a9, .int .u64 a10, .int .u64 a11, .int .u64 a12, .int .u64 a13, .int .u64 a14, .int .u64 a15, .int .u64 a16, .int .u64 a17, .int .u64 a18, .int .u64 a19]] [] B0).holds (fun r => Q r.v) = (bcase s
  (Q
    (Value.agg
      {
        toList :=
          [Value.bool false, Value.int IntKind.u64 a0, Value.int IntKind.u64 a1, Value.int IntKind.u64 a2,
            Value.int IntKind.u64 a3, Value.int IntKind.u64 a4, Value.int IntKind.u64 a5, Value.int IntKind.u64 a6,
            Value.int IntKind.u64 a7, Value.int IntKind.u64 a8, Value.int IntKind.u64 a9, Value.int IntKind.u64 a10,
            Value.int IntKind.u64 a11, Value.int IntKind.u64 a12, Value.int IntKind.u64 a13, Value.int IntKind.u64 a14,
            Value.int IntKind.u64 a15, Value.int IntKind.u64 a16, Value.int IntKind.u64 a17, Value.int IntKind.u64 a18,
            Value.int IntKind.u64 a19] }))
  (Q
    (Value.agg
      {
        toList :=
          [Value.bool true, Value.int IntKind.u64 a0, Value.int IntKind.u64 a1, Value.int IntKind.u64 a2,
            Value.int IntKind.u64 a3, Value.int IntKind.u64 a4, Value.int IntKind.u64 a5, Value.int IntKind.u64 a6,
            Value.int IntKind.u64 a7, Value.int IntKind.u64 a8, Value.int IntKind.u64 a9, Value.int IntKind.u64 a10,
            Value.int IntKind.u64 a11, Value.int IntKind.u64 a12, Value.int IntKind.u64 a13, Value.int IntKind.u64 a14,
            Value.int IntKind.u64 a15, Value.int IntKind.u64 a16, Value.int IntKind.u64 a17, Value.int IntKind.u64 a18,
            Value.int IntKind.u64 a19] }))) := by kernel_rfl

theorem size_read (sa sb : Bool) (a0 a1 a2 a3 a4 a5 a6 a7 a8 a9 a10 a11 a12 a13 a14 a15 a16 a17 a18 a19 : Int) (b0 b1 b2 b3 b4 b5 b6 b7 b8 b9 b10 b11 b12 b13 b14 b15 b16 b17 b18 b19 : Int) (Q : Value → Prop) : ((ev envS 300).call [] 60 #[.agg #[.bool sa, .int .u64 a0, .int .u64 a1, .int .u64 a2, .int .u64 a3, .int .u64 a4, .int .u64 a5, .int .u64 a6, .int .u64 a7, .int .u64 a8, .int .u64 a9, .int .u64 a10, .int .u64 a11, .int .u64 a12, .int .u64 a13, .int .u64 a14, .int .u64 a15, .int .u64 a16, .int .u64 a17, .int .u64 a18, .int .u64 a19], .agg #[.bool sb, .int .u64 b0, .int .u64 b1, .int .u64 b2, .int .u64 b3, .int .u64 b4, .int .u64 b5, .int .u64 b6, .int .u64 b7, .int .u64 b8, .int .u64 b9, .int .u64 b10, .int .u64 b11, .int .u64 b12, .int .u64 b13, .int .u64 b14, .int .u64 b15, .int .u64 b16, .int .u64 b17, .int .u64 b18, .int .u64 b19]] [] B0).holds (fun r => Q r.v) =
  sizeP [a19, a18, a17, a16, a15, a14, a13, a12, a11, a10, a9, a8, a7, a6, a5, a4, a3, a2, a1, a0] [b19, b18, b17, b16, b15, b14, b13, b12, b11, b10, b9, b8, b7, b6, b5, b4, b3, b2, b1, b0] (fun i => Q (.int .i64 i)) := by kernel_rfl
theorem zero_read (sa : Bool) (a0 a1 a2 a3 a4 a5 a6 a7 a8 a9 a10 a11 a12 a13 a14 a15 a16 a17 a18 a19 : Int) (Q : Value → Prop) : ((ev envS 300).call [] 55 #[.agg #[.bool sa, .int .u64 a0, .int .u64 a1, .int .u64 a2, .int .u64 a3, .int .u64 a4, .int .u64 a5, .int .u64 a6, .int .u64 a7, .int .u64 a8, .int .u64 a9, .int .u64 a10, .int .u64 a11, .int .u64 a12, .int .u64 a13, .int .u64 a14, .int .u64 a15, .int .u64 a16, .int .u64 a17, .int .u64 a18, .int .u64 a19]] [] B0).holds (fun r => Q r.v) =
  zeroP [a0, a1, a2, a3, a4, a5, a6, a7, a8, a9, a10, a11, a12, a13, a14, a15, a16, a17, a18, a19] (fun b => Q (.bool b)) := by kernel_rfl
theorem cons_of {l : List Int} {n : Nat} (h : l.length = n + 1) : ∃ x r, l = x :: r ∧ r.length = n := by
  cases l with
  | nil => simp at h
  | cons x r => exact ⟨x, r, rfl, by simpa using h⟩
theorem list20 {l : List Int} (h : l.length = 20) : ∃ x0 x1 x2 x3 x4 x5 x6 x7 x8 x9 x10 x11 x12 x13 x14 x15 x16 x17 x18 x19 : Int, l = [x0, x1, x2, x3, x4, x5, x6, x7, x8, x9, x10, x11, x12, x13, x14, x15, x16, x17, x18, x19] := by
  obtain ⟨x0, l0, e0, h0⟩ := cons_of h
  obtain ⟨x1, l1, e1, h1⟩ := cons_of h0
  obtain ⟨x2, l2, e2, h2⟩ := cons_of h1
  obtain ⟨x3, l3, e3, h3⟩ := cons_of h2
  obtain ⟨x4, l4, e4, h4⟩ := cons_of h3
  obtain ⟨x5, l5, e5, h5⟩ := cons_of h4
  obtain ⟨x6, l6, e6, h6⟩ := cons_of h5
  obtain ⟨x7, l7, e7, h7⟩ := cons_of h6
  obtain ⟨x8, l8, e8, h8⟩ := cons_of h7
  obtain ⟨x9, l9, e9, h9⟩ := cons_of h8
  obtain ⟨x10, l10, e10, h10⟩ := cons_of h9
  obtain ⟨x11, l11, e11, h11⟩ := cons_of h10
  obtain ⟨x12, l12, e12, h12⟩ := cons_of h11
  obtain ⟨x13, l13, e13, h13⟩ := cons_of h12
  obtain ⟨x14, l14, e14, h14⟩ := cons_of h13
  obtain ⟨x15, l15, e15, h15⟩ := cons_of h14
  obtain ⟨x16, l16, e16, h16⟩ := cons_of h15
  obtain ⟨x17, l17, e17, h17⟩ := cons_of h16
  obtain ⟨x18, l18, e18, h18⟩ := cons_of h17
  obtain ⟨x19, l19, e19, h19⟩ := cons_of h18
  have e20 : l19 = [] := List.length_eq_zero_iff.1 h19
  subst e20
  subst e19
  subst e18
  subst e17
  subst e16
  subst e15
  subst e14
  subst e13
  subst e12
  subst e11
  subst e10
  subst e9
  subst e8
  subst e7
  subst e6
  subst e5
  subst e4
  subst e3
  subst e2
  subst e1
  subst e0
  exact ⟨_, _, _, _, _, _, _, _, _, _, _, _, _, _, _, _, _, _, _, _, rfl⟩
theorem val_snoc : ∀ (l : List Int) (x : Int), val (l ++ [x]) = val l + B16 l.length * x
  | [], x => by rw [List.nil_append, val_one, val, List.length_nil, B16_0]; omega
  | y :: r, x => by
    rw [List.cons_append, val, val, val_snoc r x, List.length_cons, B16_s, Int.mul_add, Int.mul_assoc]; omega
/-- The rows, from the top: what they say of which is greater. -/
theorem sizeP_ok (Q : Int → Prop) : ∀ (xs ys : List Int), xs.length = ys.length → Pcs xs → Pcs ys → Q (cmpI (val xs.reverse) (val ys.reverse)) → sizeP xs ys Q
  | [], [], _, _, _, h => h
  | [], y :: ys, hl, _, _, _ => by simp at hl
  | x :: xs, [], hl, _, _, _ => by simp at hl
  | x :: xs, y :: ys, hl, px, py, h => by
    rw [List.reverse_cons, List.reverse_cons, val_snoc, val_snoc, List.length_reverse, List.length_reverse] at h
    simp only [List.length_cons] at hl
    have hl' : xs.length = ys.length := by omega
    have b1 := val_bd (l := xs.reverse) fun z hz => px.tail z (List.mem_reverse.1 hz)
    have b2 := val_bd (l := ys.reverse) fun z hz => py.tail z (List.mem_reverse.1 hz)
    rw [List.length_reverse] at b1 b2
    rw [← hl'] at h b2
    have bp := B16_pos xs.length
    show bcase (decide (x < y)) (Q (-1)) (bcase (decide (x > y)) (Q 1) (sizeP xs ys Q))
    refine bcase_in (fun q => ?_) fun q => bcase_in (fun q2 => ?_) fun q2 => ?_
    · rw [decide_eq_true_eq] at q
      have h1 : B16 xs.length * x + B16 xs.length * 1 ≤ B16 xs.length * y := by rw [← Int.mul_add]; exact Int.mul_le_mul_of_nonneg_left (by omega) (Int.le_of_lt bp)
      have e : cmpI (val xs.reverse + B16 xs.length * x) (val ys.reverse + B16 xs.length * y) = -1 := by
        unfold cmpI; split
        · omega
        · split <;> omega
      rwa [e] at h
    · rw [decide_eq_true_eq] at q2
      have h1 : B16 xs.length * y + B16 xs.length * 1 ≤ B16 xs.length * x := by rw [← Int.mul_add]; exact Int.mul_le_mul_of_nonneg_left (by omega) (Int.le_of_lt bp)
      have e : cmpI (val xs.reverse + B16 xs.length * x) (val ys.reverse + B16 xs.length * y) = 1 := by
        unfold cmpI; split
        · omega
        · split <;> omega
      rwa [e] at h
    · rw [decide_eq_false_iff_not] at q q2
      obtain rfl : x = y := by omega
      refine sizeP_ok Q xs ys hl' px.tail py.tail ?_
      have e : cmpI (val xs.reverse + B16 xs.length * x) (val ys.reverse + B16 xs.length * x) = cmpI (val xs.reverse) (val ys.reverse) := by
        unfold cmpI; (repeat' split) <;> omega
      rwa [e] at h
theorem zeroP_ok (Q : Bool → Prop) : ∀ (xs : List Int), Pcs xs → Q (val xs == 0) → zeroP xs Q
  | [], _, h => h
  | x :: xs, px, h => by
    have hx := px.head
    have b := val_bd px.tail
    show bcase (decide (x > 0)) (Q false) (zeroP xs Q)
    rw [val] at h
    refine bcase_in (fun q => ?_) fun q => zeroP_ok Q xs px.tail ?_
    · rw [decide_eq_true_eq] at q
      rwa [beq_eq_false_iff_ne.2 (show x + 65536 * val xs ≠ 0 by omega)] at h
    · rw [decide_eq_false_iff_not] at q
      have e : (x + 65536 * val xs == 0) = (val xs == 0) := by rw [Bool.eq_iff_iff, beq_iff_eq, beq_iff_eq]; omega
      rwa [e] at h
theorem belL_mapU (l : List Int) : belL B0 (mapU l) = true := by
  induction l with
  | nil => rfl
  | cons x r ih => exact ih
theorem bel_num (s : Bool) (l : List Int) : bel B0 (.agg ⟨.bool s :: mapU l⟩) = true := belL_mapU l
theorem bel_nv (s : Bool) (n : Int) : bel B0 (nv s n) = true := bel_num s _
/-- A row of 20 pieces, told one by one. -/
theorem num_out {r : List Value} (h : okNum r = true) : ∃ l, r = mapU l ∧ l.length = 20 ∧ Pcs l ∧ mag r = val l := by
  obtain ⟨l, rfl, hl, hp⟩ := okNum_out h
  exact ⟨l, rfl, hl, hp, mag_mapU l⟩
def rofS : Array Value → Option (Bool × Value)
  | ⟨[.int .i64 n]⟩ => some (okI n, nv (decide (n < 0)) (sz n))
  | _ => none
def rnumS : Array Value → Option (Bool × Value)
  | ⟨[.int .u64 n]⟩ => some (okU n, nv false n)
  | _ => none
def rnegS : Array Value → Option (Bool × Value)
  | ⟨[.agg ⟨.bool s :: r⟩]⟩ => some (okNum r, nv (!s) (mag r))
  | _ => none
def rzeroS : Array Value → Option (Bool × Value)
  | ⟨[.agg ⟨.bool _ :: r⟩]⟩ => some (okNum r, .bool (mag r == 0))
  | _ => none
def rsizeS : Array Value → Option (Bool × Value)
  | ⟨[.agg ⟨.bool _ :: r1⟩, .agg ⟨.bool _ :: r2⟩]⟩ => some (okNum r1 && okNum r2, .int .i64 (cmpI (mag r1) (mag r2)))
  | _ => none
theorem bcase_n {p q : Prop} : bcase false p q = q := rfl
def zs16 : List Int := [0, 0, 0, 0, 0, 0, 0, 0, 0, 0, 0, 0, 0, 0, 0, 0]
theorem four {s : Bool} {u d0 d1 d2 d3 : Int} (h0 : 0 ≤ u) (h1 : u ≤ 18446744073709551615) (e0 : d0 = u % 65536) (e1 : d1 = u / 65536 % 65536) (e2 : d2 = u / 65536 / 65536 % 65536) (e3 : d3 = u / 65536 / 65536 / 65536 % 65536) :
    Value.agg ⟨.bool s :: mapU (d0 :: d1 :: d2 :: d3 :: zs16)⟩ = nv s u := by
  refine nv_of rfl ?_ ?_
  · refine .cons (by omega) (.cons (by omega) (.cons (by omega) (.cons (by omega) ?_)))
    intro x hx
    simp only [zs16, List.mem_cons, List.not_mem_nil, or_false, or_self] at hx; omega
  · simp only [val, zs16]; omega
theorem wt {u : Int} (h0 : 0 ≤ u) (h1 : u ≤ 18446744073709551615) : IntKind.u64.wrap (Int.tdiv u 65536) = u / 65536 := by rw [td h0]; exact w64 (by omega) (by omega)
theorem four' {s : Bool} {u : Int} (h0 : 0 ≤ u) (h1 : u ≤ 18446744073709551615) :
    Value.agg ⟨.bool s :: mapU (Int.tmod u 65536 :: Int.tmod (IntKind.u64.wrap (Int.tdiv u 65536)) 65536 :: Int.tmod (IntKind.u64.wrap (Int.tdiv (IntKind.u64.wrap (Int.tdiv u 65536)) 65536)) 65536 ::
      Int.tmod (IntKind.u64.wrap (Int.tdiv (IntKind.u64.wrap (Int.tdiv (IntKind.u64.wrap (Int.tdiv u 65536)) 65536)) 65536)) 65536 :: zs16)⟩ = nv s u := by
  have w1 : IntKind.u64.wrap (Int.tdiv u 65536) = u / 65536 := wt (by omega) (by omega)
  have w2 : IntKind.u64.wrap (Int.tdiv (u / 65536) 65536) = u / 65536 / 65536 := wt (by omega) (by omega)
  have w3 : IntKind.u64.wrap (Int.tdiv (u / 65536 / 65536) 65536) = u / 65536 / 65536 / 65536 := wt (by omega) (by omega)
  rw [w1, w2, w3, tm h0, tm (show 0 ≤ u / 65536 by omega), tm (show 0 ≤ u / 65536 / 65536 by omega), tm (show 0 ≤ u / 65536 / 65536 / 65536 by omega)]
  exact four h0 h1 rfl rfl rfl rfl
def pcROf : PC Tryd.prog where
  f := 74
  spec := rofS
  body := by kernel_rfl
  ok := fun args r hr hok => by
    unfold rofS at hr
    split at hr
    · rename_i n
      cases hr
      have b := okI_iff.1 hok
      refine ⟨all_bel rfl, bel_nv _ _, fun w => calls_spec envS hcokP 300 ?_ (all_bel rfl) (bel_nv _ _) w⟩
      rw [rof_vc n (fun v => v = nv (decide (n < 0)) (sz n)) _ rfl _ rfl _ rfl _ rfl _ rfl]
      cases hd : decide (n < 0)
      · rw [decide_eq_false_iff_not] at hd
        have e1 : IntKind.u64.wrap n = n := w64 (by omega) (by omega)
        have e2 : sz n = n := by unfold sz; omega
        simp only [bcase_n, e1, e2]
        exact four' (by omega) (by omega)
      · rw [decide_eq_true_eq] at hd
        have e1 : IntKind.u64.wrap (0 - IntKind.u64.wrap n) = -n := by rw [IntKind.wrap_u64, IntKind.wrap_u64]; omega
        have e2 : sz n = -n := by unfold sz; omega
        simp only [bcase_t, e1, e2]
        exact four' (by omega) (by omega)
    · cases hr
def pcRNum : PC Tryd.prog where
  f := 54
  spec := rnumS
  body := by kernel_rfl
  ok := fun args r hr hok => by
    unfold rnumS at hr
    split at hr
    · rename_i n
      cases hr
      have b := okU_iff.1 hok
      refine ⟨all_bel rfl, bel_nv _ _, fun w => calls_spec envS hcokP 300 ?_ (all_bel rfl) (bel_nv _ _) w⟩
      rw [rnum64_vc n (fun v => v = nv false n) _ rfl _ rfl]
      exact four' (by omega) (by omega)
    · cases hr
def pcRNeg : PC Tryd.prog where
  f := 52
  spec := rnegS
  body := by kernel_rfl
  ok := fun args r hr hok => by
    unfold rnegS at hr
    split at hr
    · rename_i s r
      cases hr
      obtain ⟨l, rfl, hl, hp, hm⟩ := num_out hok
      have hb : (#[Value.agg ⟨.bool s :: mapU l⟩] : Array Value).all (bel B0) = true := all_bel (by rw [belL, bel_num]; rfl)
      refine ⟨hb, bel_nv _ _, fun w => calls_spec envS hcokP 300 ?_ hb (bel_nv _ _) w⟩
      rw [hm]
      have key : ∀ s', Value.agg ⟨.bool s' :: mapU l⟩ = nv s' (val l) := fun s' => nv_of hl hp rfl
      obtain ⟨a0, a1, a2, a3, a4, a5, a6, a7, a8, a9, a10, a11, a12, a13, a14, a15, a16, a17, a18, a19, rfl⟩ := list20 hl
      refine (rneg_vc s a0 a1 a2 a3 a4 a5 a6 a7 a8 a9 a10 a11 a12 a13 a14 a15 a16 a17 a18 a19 (fun v => v = nv (!s) (val [a0, a1, a2, a3, a4, a5, a6, a7, a8, a9, a10, a11, a12, a13, a14, a15, a16, a17, a18, a19]))).mpr ?_
      cases s
      · exact key true
      · exact key false
    · cases hr
def pcRZero : PC Tryd.prog where
  f := 55
  spec := rzeroS
  body := by kernel_rfl
  ok := fun args r hr hok => by
    unfold rzeroS at hr
    split at hr
    · rename_i s r
      cases hr
      obtain ⟨l, rfl, hl, hp, hm⟩ := num_out hok
      have hb : (#[Value.agg ⟨.bool s :: mapU l⟩] : Array Value).all (bel B0) = true := all_bel (by rw [belL, bel_num]; rfl)
      refine ⟨hb, rfl, fun w => calls_spec envS hcokP 300 ?_ hb rfl w⟩
      rw [hm]
      obtain ⟨a0, a1, a2, a3, a4, a5, a6, a7, a8, a9, a10, a11, a12, a13, a14, a15, a16, a17, a18, a19, rfl⟩ := list20 hl
      exact (zero_read s a0 a1 a2 a3 a4 a5 a6 a7 a8 a9 a10 a11 a12 a13 a14 a15 a16 a17 a18 a19 (fun v => v = .bool (val [a0, a1, a2, a3, a4, a5, a6, a7, a8, a9, a10, a11, a12, a13, a14, a15, a16, a17, a18, a19] == 0))).mpr (zeroP_ok _ _ hp rfl)
    · cases hr
def pcRSize : PC Tryd.prog where
  f := 60
  spec := rsizeS
  body := by kernel_rfl
  ok := fun args r hr hok => by
    unfold rsizeS at hr
    split at hr
    · rename_i s1 r1 s2 r2
      cases hr
      have hok' : okNum r1 = true ∧ okNum r2 = true := by simpa using hok
      obtain ⟨l1, rfl, hl1, hp1, hm1⟩ := num_out hok'.1
      obtain ⟨l2, rfl, hl2, hp2, hm2⟩ := num_out hok'.2
      have hb : (#[Value.agg ⟨.bool s1 :: mapU l1⟩, Value.agg ⟨.bool s2 :: mapU l2⟩] : Array Value).all (bel B0) = true := all_bel (by rw [belL, bel_num, belL, bel_num]; rfl)
      refine ⟨hb, rfl, fun w => calls_spec envS hcokP 300 ?_ hb rfl w⟩
      rw [hm1, hm2]
      have key := sizeP_ok (fun i => Value.int .i64 i = .int .i64 (cmpI (val l1) (val l2))) l1.reverse l2.reverse (by rw [List.length_reverse, List.length_reverse, hl1, hl2]) (fun z hz => hp1 z (List.mem_reverse.1 hz)) (fun z hz => hp2 z (List.mem_reverse.1 hz)) (by rw [List.reverse_reverse, List.reverse_reverse])
      obtain ⟨a0, a1, a2, a3, a4, a5, a6, a7, a8, a9, a10, a11, a12, a13, a14, a15, a16, a17, a18, a19, rfl⟩ := list20 hl1
      obtain ⟨b0, b1, b2, b3, b4, b5, b6, b7, b8, b9, b10, b11, b12, b13, b14, b15, b16, b17, b18, b19, rfl⟩ := list20 hl2
      exact (size_read s1 s2 a0 a1 a2 a3 a4 a5 a6 a7 a8 a9 a10 a11 a12 a13 a14 a15 a16 a17 a18 a19 b0 b1 b2 b3 b4 b5 b6 b7 b8 b9 b10 b11 b12 b13 b14 b15 b16 b17 b18 b19 (fun v => v = .int .i64 (cmpI (val [a0, a1, a2, a3, a4, a5, a6, a7, a8, a9, a10, a11, a12, a13, a14, a15, a16, a17, a18, a19]) (val [b0, b1, b2, b3, b4, b5, b6, b7, b8, b9, b10, b11, b12, b13, b14, b15, b16, b17, b18, b19])))).mpr key
    · cases hr
def envR1 : Env Tryd.prog := envS.with false [pcROf, pcRNum, pcRNeg, pcRZero, pcRSize]
end

end Go.Proofs.YtecmhjhjmhliiaaDoor


/-
  The document's product: its code in pieces, and what stands at the head of its loop.
-/

namespace Go.Proofs.YtecmhjhjmhliiaaDoor

open Go.Den Go.RowKit
noncomputable section
set_option maxRecDepth 100000

noncomputable def codeOf (f : Nat) : Code := ((Tryd.prog.funcs[f]?).bind (·.body)).getD .skip
noncomputable def getZ (zs : List Value) : Nat → Value := List.rec (motive := fun _ => Nat → Value) (fun _ => undef) (fun z _ ih k => Nat.casesOn (motive := fun _ => Value) k z fun m => ih m) zs
noncomputable def mulC : Code := codeOf 58
noncomputable def mulL : Code := cL (cR (cL (cR (cR mulC))))
noncomputable def mulB : Code := cL mulL
noncomputable def zeroN : Value := .agg ⟨.bool false :: mapU [0, 0, 0, 0, 0, 0, 0, 0, 0, 0, 0, 0, 0, 0, 0, 0, 0, 0, 0, 0]⟩
noncomputable def blkN (s : Bool) (l : List Int) : ABlk := ⟨⟨.bool s :: mapU l⟩, 92, none⟩
noncomputable def mulT (i : Int) (zs : List Value) (sa sb so : Bool) (a b o : List Int) : St :=
  ⟨FT.ins [getZ zs 0, getZ zs 1, ptr B0, ptr (B0 + 1), ptr (B0 + 2), ptr (B0 + 3), .int .i64 i, getZ zs 7, getZ zs 8, getZ zs 9, getZ zs 10, getZ zs 11, getZ zs 12, getZ zs 13, getZ zs 14, getZ zs 15, getZ zs 16, getZ zs 17, getZ zs 18, getZ zs 19, getZ zs 20, getZ zs 21, getZ zs 22, getZ zs 23, getZ zs 24, getZ zs 25, getZ zs 26, getZ zs 27, getZ zs 28, getZ zs 29, getZ zs 30, getZ zs 31, getZ zs 32, getZ zs 33, getZ zs 34, getZ zs 35, getZ zs 36, getZ zs 37, getZ zs 38, getZ zs 39, getZ zs 40, getZ zs 41, getZ zs 42, getZ zs 43, getZ zs 44, getZ zs 45, getZ zs 46, getZ zs 47, getZ zs 48, getZ zs 49, getZ zs 50, getZ zs 51, getZ zs 52, getZ zs 53, getZ zs 54, getZ zs 55, getZ zs 56, getZ zs 57, getZ zs 58, getZ zs 59, getZ zs 60, getZ zs 61, getZ zs 62, getZ zs 63, getZ zs 64, getZ zs 65, getZ zs 66, getZ zs 67, getZ zs 68, getZ zs 69, getZ zs 70, getZ zs 71, getZ zs 72, getZ zs 73] 0 ⟨74, .nil⟩,
    [(B0, blkN sa a), (B0 + 1, blkN sb b), (B0 + 2, blkN false [0, 0, 0, 0, 0, 0, 0, 0, 0, 0, 0, 0, 0, 0, 0, 0, 0, 0, 0, 0]), (B0 + 3, blkN so o)], B0 + 4⟩
end

end Go.Proofs.YtecmhjhjmhliiaaDoor


/-
  The rounds of the document's product, read one by one (0 to 4).
-/

namespace Go.Proofs.YtecmhjhjmhliiaaDoor

open Go.Den Go.RowKit
noncomputable section
set_option maxRecDepth 100000

theorem mul_r0 (zs : List Value) (sa sb so : Bool) (a0 a1 a2 a3 a4 a5 a6 a7 a8 a9 a10 a11 a12 a13 a14 a15 a16 a17 a18 a19 b0 b1 b2 b3 b4 b5 b6 b7 b8 b9 b10 b11 b12 b13 b14 b15 b16 b17 b18 b19 o0 o1 o2 o3 o4 o5 o6 o7 o8 o9 o10 o11 o12 o13 o14 o15 o16 o17 o18 o19 : Int) : ((ev envS 100).code [] mulB (mulT 0 zs sa sb so [a0, a1, a2, a3, a4, a5, a6, a7, a8, a9, a10, a11, a12, a13, a14, a15, a16, a17, a18, a19] [b0, b1, b2, b3, b4, b5, b6, b7, b8, b9, b10, b11, b12, b13, b14, b15, b16, b17, b18, b19] [o0, o1, o2, o3, o4, o5, o6, o7, o8, o9, o10, o11, o12, o13, o14, o15, o16, o17, o18, o19])).run =
    some (.normal, mulT 1 (tlOf (outOf ((ev envS 100).code [] mulB (mulT 0 zs sa sb so [a0, a1, a2, a3, a4, a5, a6, a7, a8, a9, a10, a11, a12, a13, a14, a15, a16, a17, a18, a19] [b0, b1, b2, b3, b4, b5, b6, b7, b8, b9, b10, b11, b12, b13, b14, b15, b16, b17, b18, b19] [o0, o1, o2, o3, o4, o5, o6, o7, o8, o9, o10, o11, o12, o13, o14, o15, o16, o17, o18, o19]))).2) sa sb so [a0, a1, a2, a3, a4, a5, a6, a7, a8, a9, a10, a11, a12, a13, a14, a15, a16, a17, a18, a19] [b0, b1, b2, b3, b4, b5, b6, b7, b8, b9, b10, b11, b12, b13, b14, b15, b16, b17, b18, b19] (carry (mrow a0 0 [o0, o1, o2, o3, o4, o5, o6, o7, o8, o9, o10, o11, o12, o13, o14, o15, o16, o17, o18, o19] [b0, b1, b2, b3, b4, b5, b6, b7, b8, b9, b10, b11, b12, b13, b14, b15, b16, b17, b18, b19]))) := by kernel_rfl
theorem mul_r1 (zs : List Value) (sa sb so : Bool) (a0 a1 a2 a3 a4 a5 a6 a7 a8 a9 a10 a11 a12 a13 a14 a15 a16 a17 a18 a19 b0 b1 b2 b3 b4 b5 b6 b7 b8 b9 b10 b11 b12 b13 b14 b15 b16 b17 b18 b19 o0 o1 o2 o3 o4 o5 o6 o7 o8 o9 o10 o11 o12 o13 o14 o15 o16 o17 o18 o19 : Int) : ((ev envS 100).code [] mulB (mulT 1 zs sa sb so [a0, a1, a2, a3, a4, a5, a6, a7, a8, a9, a10, a11, a12, a13, a14, a15, a16, a17, a18, a19] [b0, b1, b2, b3, b4, b5, b6, b7, b8, b9, b10, b11, b12, b13, b14, b15, b16, b17, b18, b19] [o0, o1, o2, o3, o4, o5, o6, o7, o8, o9, o10, o11, o12, o13, o14, o15, o16, o17, o18, o19])).run =
    some (.normal, mulT 2 (tlOf (outOf ((ev envS 100).code [] mulB (mulT 1 zs sa sb so [a0, a1, a2, a3, a4, a5, a6, a7, a8, a9, a10, a11, a12, a13, a14, a15, a16, a17, a18, a19] [b0, b1, b2, b3, b4, b5, b6, b7, b8, b9, b10, b11, b12, b13, b14, b15, b16, b17, b18, b19] [o0, o1, o2, o3, o4, o5, o6, o7, o8, o9, o10, o11, o12, o13, o14, o15, o16, o17, o18, o19]))).2) sa sb so [a0, a1, a2, a3, a4, a5, a6, a7, a8, a9, a10, a11, a12, a13, a14, a15, a16, a17, a18, a19] [b0, b1, b2, b3, b4, b5, b6, b7, b8, b9, b10, b11, b12, b13, b14, b15, b16, b17, b18, b19] (carry (mrow a1 1 [o0, o1, o2, o3, o4, o5, o6, o7, o8, o9, o10, o11, o12, o13, o14, o15, o16, o17, o18, o19] [b0, b1, b2, b3, b4, b5, b6, b7, b8, b9, b10, b11, b12, b13, b14, b15, b16, b17, b18, b19]))) := by kernel_rfl
theorem mul_r2 (zs : List Value) (sa sb so : Bool) (a0 a1 a2 a3 a4 a5 a6 a7 a8 a9 a10 a11 a12 a13 a14 a15 a16 a17 a18 a19 b0 b1 b2 b3 b4 b5 b6 b7 b8 b9 b10 b11 b12 b13 b14 b15 b16 b17 b18 b19 o0 o1 o2 o3 o4 o5 o6 o7 o8 o9 o10 o11 o12 o13 o14 o15 o16 o17 o18 o19 : Int) : ((ev envS 100).code [] mulB (mulT 2 zs sa sb so [a0, a1, a2, a3, a4, a5, a6, a7, a8, a9, a10, a11, a12, a13, a14, a15, a16, a17, a18, a19] [b0, b1, b2, b3, b4, b5, b6, b7, b8, b9, b10, b11, b12, b13, b14, b15, b16, b17, b18, b19] [o0, o1, o2, o3, o4, o5, o6, o7, o8, o9, o10, o11, o12, o13, o14, o15, o16, o17, o18, o19])).run =
    some (.normal, mulT 3 (tlOf (outOf ((ev envS 100).code [] mulB (mulT 2 zs sa sb so [a0, a1, a2, a3, a4, a5, a6, a7, a8, a9, a10, a11, a12, a13, a14, a15, a16, a17, a18, a19] [b0, b1, b2, b3, b4, b5, b6, b7, b8, b9, b10, b11, b12, b13, b14, b15, b16, b17, b18, b19] [o0, o1, o2, o3, o4, o5, o6, o7, o8, o9, o10, o11, o12, o13, o14, o15, o16, o17, o18, o19]))).2) sa sb so [a0, a1, a2, a3, a4, a5, a6, a7, a8, a9, a10, a11, a12, a13, a14, a15, a16, a17, a18, a19] [b0, b1, b2, b3, b4, b5, b6, b7, b8, b9, b10, b11, b12, b13, b14, b15, b16, b17, b18, b19] (carry (mrow a2 2 [o0, o1, o2, o3, o4, o5, o6, o7, o8, o9, o10, o11, o12, o13, o14, o15, o16, o17, o18, o19] [b0, b1, b2, b3, b4, b5, b6, b7, b8, b9, b10, b11, b12, b13, b14, b15, b16, b17, b18, b19]))) := by kernel_rfl
theorem mul_r3 (zs : List Value) (sa sb so : Bool) (a0 a1 a2 a3 a4 a5 a6 a7 a8 a9 a10 a11 a12 a13 a14 a15 a16 a17 a18 a19 b0 b1 b2 b3 b4 b5 b6 b7 b8 b9 b10 b11 b12 b13 b14 b15 b16 b17 b18 b19 o0 o1 o2 o3 o4 o5 o6 o7 o8 o9 o10 o11 o12 o13 o14 o15 o16 o17 o18 o19 : Int) : ((ev envS 100).code [] mulB (mulT 3 zs sa sb so [a0, a1, a2, a3, a4, a5, a6, a7, a8, a9, a10, a11, a12, a13, a14, a15, a16, a17, a18, a19] [b0, b1, b2, b3, b4, b5, b6, b7, b8, b9, b10, b11, b12, b13, b14, b15, b16, b17, b18, b19] [o0, o1, o2, o3, o4, o5, o6, o7, o8, o9, o10, o11, o12, o13, o14, o15, o16, o17, o18, o19])).run =
    some (.normal, mulT 4 (tlOf (outOf ((ev envS 100).code [] mulB (mulT 3 zs sa sb so [a0, a1, a2, a3, a4, a5, a6, a7, a8, a9, a10, a11, a12, a13, a14, a15, a16, a17, a18, a19] [b0, b1, b2, b3, b4, b5, b6, b7, b8, b9, b10, b11, b12, b13, b14, b15, b16, b17, b18, b19] [o0, o1, o2, o3, o4, o5, o6, o7, o8, o9, o10, o11, o12, o13, o14, o15, o16, o17, o18, o19]))).2) sa sb so [a0, a1, a2, a3, a4, a5, a6, a7, a8, a9, a10, a11, a12, a13, a14, a15, a16, a17, a18, a19] [b0, b1, b2, b3, b4, b5, b6, b7, b8, b9, b10, b11, b12, b13, b14, b15, b16, b17, b18, b19] (carry (mrow a3 3 [o0, o1, o2, o3, o4, o5, o6, o7, o8, o9, o10, o11, o12, o13, o14, o15, o16, o17, o18, o19] [b0, b1, b2, b3, b4, b5, b6, b7, b8, b9, b10, b11, b12, b13, b14, b15, b16, b17, b18, b19]))) := by kernel_rfl
theorem mul_r4 (zs : List Value) (sa sb so : Bool) (a0 a1 a2 a3 a4 a5 a6 a7 a8 a9 a10 a11 a12 a13 a14 a15 a16 a17 a18 a19 b0 b1 b2 b3 b4 b5 b6 b7 b8 b9 b10 b11 b12 b13 b14 b15 b16 b17 b18 b19 o0 o1 o2 o3 o4 o5 o6 o7 o8 o9 o10 o11 o12 o13 o14 o15 o16 o17 o18 o19 : Int) : ((ev envS 100).code [] mulB (mulT 4 zs sa sb so [a0, a1, a2, a3, a4, a5, a6, a7, a8, a9, a10, a11, a12, a13, a14, a15, a16, a17, a18, a19] [b0, b1, b2, b3, b4, b5, b6, b7, b8, b9, b10, b11, b12, b13, b14, b15, b16, b17, b18, b19] [o0, o1, o2, o3, o4, o5, o6, o7, o8, o9, o10, o11, o12, o13, o14, o15, o16, o17, o18, o19])).run =
    some (.normal, mulT 5 (tlOf (outOf ((ev envS 100).code [] mulB (mulT 4 zs sa sb so [a0, a1, a2, a3, a4, a5, a6, a7, a8, a9, a10, a11, a12, a13, a14, a15, a16, a17, a18, a19] [b0, b1, b2, b3, b4, b5, b6, b7, b8, b9, b10, b11, b12, b13, b14, b15, b16, b17, b18, b19] [o0, o1, o2, o3, o4, o5, o6, o7, o8, o9, o10, o11, o12, o13, o14, o15, o16, o17, o18, o19]))).2) sa sb so [a0, a1, a2, a3, a4, a5, a6, a7, a8, a9, a10, a11, a12, a13, a14, a15, a16, a17, a18, a19] [b0, b1, b2, b3, b4, b5, b6, b7, b8, b9, b10, b11, b12, b13, b14, b15, b16, b17, b18, b19] (carry (mrow a4 4 [o0, o1, o2, o3, o4, o5, o6, o7, o8, o9, o10, o11, o12, o13, o14, o15, o16, o17, o18, o19] [b0, b1, b2, b3, b4, b5, b6, b7, b8, b9, b10, b11, b12, b13, b14, b15, b16, b17, b18, b19]))) := by kernel_rfl
end

end Go.Proofs.YtecmhjhjmhliiaaDoor


/-
  The rounds of the document's product, read one by one (5 to 9).
-/

namespace Go.Proofs.YtecmhjhjmhliiaaDoor

open Go.Den Go.RowKit
noncomputable section
set_option maxRecDepth 100000

theorem mul_r5 (zs : List Value) (sa sb so : Bool) (a0 a1 a2 a3 a4 a5 a6 a7 a8 a9 a10 a11 a12 a13 a14 a15 a16 a17 a18 a19 b0 b1 b2 b3 b4 b5 b6 b7 b8 b9 b10 b11 b12 b13 b14 b15 b16 b17 b18 b19 o0 o1 o2 o3 o4 o5 o6 o7 o8 o9 o10 o11 o12 o13 o14 o15 o16 o17 o18 o19 : Int) : ((ev envS 100).code [] mulB (mulT 5 zs sa sb so [a0, a1, a2, a3, a4, a5, a6, a7, a8, a9, a10, a11, a12, a13, a14, a15, a16, a17, a18, a19] [b0, b1, b2, b3, b4, b5, b6, b7, b8, b9, b10, b11, b12, b13, b14, b15, b16, b17, b18, b19] [o0, o1, o2, o3, o4, o5, o6, o7, o8, o9, o10, o11, o12, o13, o14, o15, o16, o17, o18, o19])).run =
    some (.normal, mulT 6 (tlOf (outOf ((ev envS 100).code [] mulB (mulT 5 zs sa sb so [a0, a1, a2, a3, a4, a5, a6, a7, a8, a9, a10, a11, a12, a13, a14, a15, a16, a17, a18, a19] [b0, b1, b2, b3, b4, b5, b6, b7, b8, b9, b10, b11, b12, b13, b14, b15, b16, b17, b18, b19] [o0, o1, o2, o3, o4, o5, o6, o7, o8, o9, o10, o11, o12, o13, o14, o15, o16, o17, o18, o19]))).2) sa sb so [a0, a1, a2, a3, a4, a5, a6, a7, a8, a9, a10, a11, a12, a13, a14, a15, a16, a17, a18, a19] [b0, b1, b2, b3, b4, b5, b6, b7, b8, b9, b10, b11, b12, b13, b14, b15, b16, b17, b18, b19] (carry (mrow a5 5 [o0, o1, o2, o3, o4, o5, o6, o7, o8, o9, o10, o11, o12, o13, o14, o15, o16, o17, o18, o19] [b0, b1, b2, b3, b4, b5, b6, b7, b8, b9, b10, b11, b12, b13, b14, b15, b16, b17, b18, b19]))) := by kernel_rfl
theorem mul_r6 (zs : List Value) (sa sb so : Bool) (a0 a1 a2 a3 a4 a5 a6 a7 a8 a9 a10 a11 a12 a13 a14 a15 a16 a17 a18 a19 b0 b1 b2 b3 b4 b5 b6 b7 b8 b9 b10 b11 b12 b13 b14 b15 b16 b17 b18 b19 o0 o1 o2 o3 o4 o5 o6 o7 o8 o9 o10 o11 o12 o13 o14 o15 o16 o17 o18 o19 : Int) : ((ev envS 100).code [] mulB (mulT 6 zs sa sb so [a0, a1, a2, a3, a4, a5, a6, a7, a8, a9, a10, a11, a12, a13, a14, a15, a16, a17, a18, a19] [b0, b1, b2, b3, b4, b5, b6, b7, b8, b9, b10, b11, b12, b13, b14, b15, b16, b17, b18, b19] [o0, o1, o2, o3, o4, o5, o6, o7, o8, o9, o10, o11, o12, o13, o14, o15, o16, o17, o18, o19])).run =
    some (.normal, mulT 7 (tlOf (outOf ((ev envS 100).code [] mulB (mulT 6 zs sa sb so [a0, a1, a2, a3, a4, a5, a6, a7, a8, a9, a10, a11, a12, a13, a14, a15, a16, a17, a18, a19] [b0, b1, b2, b3, b4, b5, b6, b7, b8, b9, b10, b11, b12, b13, b14, b15, b16, b17, b18, b19] [o0, o1, o2, o3, o4, o5, o6, o7, o8, o9, o10, o11, o12, o13, o14, o15, o16, o17, o18, o19]))).2) sa sb so [a0, a1, a2, a3, a4, a5, a6, a7, a8, a9, a10, a11, a12, a13, a14, a15, a16, a17, a18, a19] [b0, b1, b2, b3, b4, b5, b6, b7, b8, b9, b10, b11, b12, b13, b14, b15, b16, b17, b18, b19] (carry (mrow a6 6 [o0, o1, o2, o3, o4, o5, o6, o7, o8, o9, o10, o11, o12, o13, o14, o15, o16, o17, o18, o19] [b0, b1, b2, b3, b4, b5, b6, b7, b8, b9, b10, b11, b12, b13, b14, b15, b16, b17, b18, b19]))) := by kernel_rfl
theorem mul_r7 (zs : List Value) (sa sb so : Bool) (a0 a1 a2 a3 a4 a5 a6 a7 a8 a9 a10 a11 a12 a13 a14 a15 a16 a17 a18 a19 b0 b1 b2 b3 b4 b5 b6 b7 b8 b9 b10 b11 b12 b13 b14 b15 b16 b17 b18 b19 o0 o1 o2 o3 o4 o5 o6 o7 o8 o9 o10 o11 o12 o13 o14 o15 o16 o17 o18 o19 : Int) : ((ev envS 100).code [] mulB (mulT 7 zs sa sb so [a0, a1, a2, a3, a4, a5, a6, a7, a8, a9, a10, a11, a12, a13, a14, a15, a16, a17, a18, a19] [b0, b1, b2, b3, b4, b5, b6, b7, b8, b9, b10, b11, b12, b13, b14, b15, b16, b17, b18, b19] [o0, o1, o2, o3, o4, o5, o6, o7, o8, o9, o10, o11, o12, o13, o14, o15, o16, o17, o18, o19])).run =
    some (.normal, mulT 8 (tlOf (outOf ((ev envS 100).code [] mulB (mulT 7 zs sa sb so [a0, a1, a2, a3, a4, a5, a6, a7, a8, a9, a10, a11, a12, a13, a14, a15, a16, a17, a18, a19] [b0, b1, b2, b3, b4, b5, b6, b7, b8, b9, b10, b11, b12, b13, b14, b15, b16, b17, b18, b19] [o0, o1, o2, o3, o4, o5, o6, o7, o8, o9, o10, o11, o12, o13, o14, o15, o16, o17, o18, o19]))).2) sa sb so [a0, a1, a2, a3, a4, a5, a6, a7, a8, a9, a10, a11, a12, a13, a14, a15, a16, a17, a18, a19] [b0, b1, b2, b3, b4, b5, b6, b7, b8, b9, b10, b11, b12, b13, b14, b15, b16, b17, b18, b19] (carry (mrow a7 7 [o0, o1, o2, o3, o4, o5, o6, o7, o8, o9, o10, o11, o12, o13, o14, o15, o16, o17, o18, o19] [b0, b1, b2, b3, b4, b5, b6, b7, b8, b9, b10, b11, b12, b13, b14, b15, b16, b17, b18, b19]))) := by kernel_rfl
theorem mul_r8 (zs : List Value) (sa sb so : Bool) (a0 a1 a2 a3 a4 a5 a6 a7 a8 a9 a10 a11 a12 a13 a14 a15 a16 a17 a18 a19 b0 b1 b2 b3 b4 b5 b6 b7 b8 b9 b10 b11 b12 b13 b14 b15 b16 b17 b18 b19 o0 o1 o2 o3 o4 o5 o6 o7 o8 o9 o10 o11 o12 o13 o14 o15 o16 o17 o18 o19 : Int) : ((ev envS 100).code [] mulB (mulT 8 zs sa sb so [a0, a1, a2, a3, a4, a5, a6, a7, a8, a9, a10, a11, a12, a13, a14, a15, a16, a17, a18, a19] [b0, b1, b2, b3, b4, b5, b6, b7, b8, b9, b10, b11, b12, b13, b14, b15, b16, b17, b18, b19] [o0, o1, o2, o3, o4, o5, o6, o7, o8, o9, o10, o11, o12, o13, o14, o15, o16, o17, o18, o19])).run =
    some (.normal, mulT 9 (tlOf (outOf ((ev envS 100).code [] mulB (mulT 8 zs sa sb so [a0, a1, a2, a3, a4, a5, a6, a7, a8, a9, a10, a11, a12, a13, a14, a15, a16, a17, a18, a19] [b0, b1, b2, b3, b4, b5, b6, b7, b8, b9, b10, b11, b12, b13, b14, b15, b16, b17, b18, b19] [o0, o1, o2, o3, o4, o5, o6, o7, o8, o9, o10, o11, o12, o13, o14, o15, o16, o17, o18, o19]))).2) sa sb so [a0, a1, a2, a3, a4, a5, a6, a7, a8, a9, a10, a11, a12, a13, a14, a15, a16, a17, a18, a19] [b0, b1, b2, b3, b4, b5, b6, b7, b8, b9, b10, b11, b12, b13, b14, b15, b16, b17, b18, b19] (carry (mrow a8 8 [o0, o1, o2, o3, o4, o5, o6, o7, o8, o9, o10, o11, o12, o13, o14, o15, o16, o17, o18, o19] [b0, b1, b2, b3, b4, b5, b6, b7, b8, b9, b10, b11, b12, b13, b14, b15, b16, b17, b18, b19]))) := by kernel_rfl
theorem mul_r9 (zs : List Value) (sa sb so : Bool) (a0 a1 a2 a3 a4 a5 a6 a7 a8 a9 a10 a11 a12 a13 a14 a15 a16 a17 a18 a19 b0 b1 b2 b3 b4 b5 b6 b7 b8 b9 b10 b11 b12 b13 b14 b15 b16 b17 b18 b19 o0 o1 o2 o3 o4 o5 o6 o7 o8 o9 o10 o11 o12 o13 o14 o15 o16 o17 o18 o19 : Int) : ((ev envS 100).code [] mulB (mulT 9 zs sa sb so [a0, a1, a2, a3, a4, a5, a6, a7, a8, a9, a10, a11, a12, a13, a14, a15, a16, a17, a18, a19] [b0, b1, b2, b3, b4, b5, b6, b7, b8, b9, b10, b11, b12, b13, b14, b15, b16, b17, b18, b19] [o0, o1, o2, o3, o4, o5, o6, o7, o8, o9, o10, o11, o12, o13, o14, o15, o16, o17, o18, o19])).run =
    some (.normal, mulT 10 (tlOf (outOf ((ev envS 100).code [] mulB (mulT 9 zs sa sb so [a0, a1, a2, a3, a4, a5, a6, a7, a8, a9, a10, a11, a12, a13, a14, a15, a16, a17, a18, a19] [b0, b1, b2, b3, b4, b5, b6, b7, b8, b9, b10, b11, b12, b13, b14, b15, b16, b17, b18, b19] [o0, o1, o2, o3, o4, o5, o6, o7, o8, o9, o10, o11, o12, o13, o14, o15, o16, o17, o18, o19]))).2) sa sb so [a0, a1, a2, a3, a4, a5, a6, a7, a8, a9, a10, a11, a12, a13, a14, a15, a16, a17, a18, a19] [b0, b1, b2, b3, b4, b5, b6, b7, b8, b9, b10, b11, b12, b13, b14, b15, b16, b17, b18, b19] (carry (mrow a9 9 [o0, o1, o2, o3, o4, o5, o6, o7, o8, o9, o10, o11, o12, o13, o14, o15, o16, o17, o18, o19] [b0, b1, b2, b3, b4, b5, b6, b7, b8, b9, b10, b11, b12, b13, b14, b15, b16, b17, b18, b19]))) := by kernel_rfl
end

end Go.Proofs.YtecmhjhjmhliiaaDoor


/-
  The rounds of the document's product, read one by one (10 to 14).
-/

namespace Go.Proofs.YtecmhjhjmhliiaaDoor

open Go.Den Go.RowKit
noncomputable section
set_option maxRecDepth 100000

theorem mul_r10 (zs : List Value) (sa sb so : Bool) (a0 a1 a2 a3 a4 a5 a6 a7 a8 a9 a10 a11 a12 a13 a14 a15 a16 a17 a18 a19 b0 b1 b2 b3 b4 b5 b6 b7 b8 b9 b10 b11 b12 b13 b14 b15 b16 b17 b18 b19 o0 o1 o2 o3 o4 o5 o6 o7 o8 o9 o10 o11 o12 o13 o14 o15 o16 o17 o18 o19 : Int) : ((ev envS 100).code [] mulB (mulT 10 zs sa sb so [a0, a1, a2, a3, a4, a5, a6, a7, a8, a9, a10, a11, a12, a13, a14, a15, a16, a17, a18, a19] [b0, b1, b2, b3, b4, b5, b6, b7, b8, b9, b10, b11, b12, b13, b14, b15, b16, b17, b18, b19] [o0, o1, o2, o3, o4, o5, o6, o7, o8, o9, o10, o11, o12, o13, o14, o15, o16, o17, o18, o19])).run =
    some (.normal, mulT 11 (tlOf (outOf ((ev envS 100).code [] mulB (mulT 10 zs sa sb so [a0, a1, a2, a3, a4, a5, a6, a7, a8, a9, a10, a11, a12, a13, a14, a15, a16, a17, a18, a19] [b0, b1, b2, b3, b4, b5, b6, b7, b8, b9, b10, b11, b12, b13, b14, b15, b16, b17, b18, b19] [o0, o1, o2, o3, o4, o5, o6, o7, o8, o9, o10, o11, o12, o13, o14, o15, o16, o17, o18, o19]))).2) sa sb so [a0, a1, a2, a3, a4, a5, a6, a7, a8, a9, a10, a11, a12, a13, a14, a15, a16, a17, a18, a19] [b0, b1, b2, b3, b4, b5, b6, b7, b8, b9, b10, b11, b12, b13, b14, b15, b16, b17, b18, b19] (carry (mrow a10 10 [o0, o1, o2, o3, o4, o5, o6, o7, o8, o9, o10, o11, o12, o13, o14, o15, o16, o17, o18, o19] [b0, b1, b2, b3, b4, b5, b6, b7, b8, b9, b10, b11, b12, b13, b14, b15, b16, b17, b18, b19]))) := by kernel_rfl
theorem mul_r11 (zs : List Value) (sa sb so : Bool) (a0 a1 a2 a3 a4 a5 a6 a7 a8 a9 a10 a11 a12 a13 a14 a15 a16 a17 a18 a19 b0 b1 b2 b3 b4 b5 b6 b7 b8 b9 b10 b11 b12 b13 b14 b15 b16 b17 b18 b19 o0 o1 o2 o3 o4 o5 o6 o7 o8 o9 o10 o11 o12 o13 o14 o15 o16 o17 o18 o19 : Int) : ((ev envS 100).code [] mulB (mulT 11 zs sa sb so [a0, a1, a2, a3, a4, a5, a6, a7, a8, a9, a10, a11, a12, a13, a14, a15, a16, a17, a18, a19] [b0, b1, b2, b3, b4, b5, b6, b7, b8, b9, b10, b11, b12, b13, b14, b15, b16, b17, b18, b19] [o0, o1, o2, o3, o4, o5, o6, o7, o8, o9, o10, o11, o12, o13, o14, o15, o16, o17, o18, o19])).run =
    some (.normal, mulT 12 (tlOf (outOf ((ev envS 100).code [] mulB (mulT 11 zs sa sb so [a0, a1, a2, a3, a4, a5, a6, a7, a8, a9, a10, a11, a12, a13, a14, a15, a16, a17, a18, a19] [b0, b1, b2, b3, b4, b5, b6, b7, b8, b9, b10, b11, b12, b13, b14, b15, b16, b17, b18, b19] [o0, o1, o2, o3, o4, o5, o6, o7, o8, o9, o10, o11, o12, o13, o14, o15, o16, o17, o18, o19]))).2) sa sb so [a0, a1, a2, a3, a4, a5, a6, a7, a8, a9, a10, a11, a12, a13, a14, a15, a16, a17, a18, a19] [b0, b1, b2, b3, b4, b5, b6, b7, b8, b9, b10, b11, b12, b13, b14, b15, b16, b17, b18, b19] (carry (mrow a11 11 [o0, o1, o2, o3, o4, o5, o6, o7, o8, o9, o10, o11, o12, o13, o14, o15, o16, o17, o18, o19] [b0, b1, b2, b3, b4, b5, b6, b7, b8, b9, b10, b11, b12, b13, b14, b15, b16, b17, b18, b19]))) := by kernel_rfl
theorem mul_r12 (zs : List Value) (sa sb so : Bool) (a0 a1 a2 a3 a4 a5 a6 a7 a8 a9 a10 a11 a12 a13 a14 a15 a16 a17 a18 a19 b0 b1 b2 b3 b4 b5 b6 b7 b8 b9 b10 b11 b12 b13 b14 b15 b16 b17 b18 b19 o0 o1 o2 o3 o4 o5 o6 o7 o8 o9 o10 o11 o12 o13 o14 o15 o16 o17 o18 o19 : Int) : ((ev envS 100).code [] mulB (mulT 12 zs sa sb so [a0, a1, a2, a3, a4, a5, a6, a7, a8, a9, a10, a11, a12, a13, a14, a15, a16, a17, a18, a19] [b0, b1, b2, b3, b4, b5, b6, b7, b8, b9, b10, b11, b12, b13, b14, b15, b16, b17, b18, b19] [o0, o1, o2, o3, o4, o5, o6, o7, o8, o9, o10, o11, o12, o13, o14, o15, o16, o17, o18, o19])).run =
    some (.normal, mulT 13 (tlOf (outOf ((ev envS 100).code [] mulB (mulT 12 zs sa sb so [a0, a1, a2, a3, a4, a5, a6, a7, a8, a9, a10, a11, a12, a13, a14, a15, a16, a17, a18, a19] [b0, b1, b2, b3, b4, b5, b6, b7, b8, b9, b10, b11, b12, b13, b14, b15, b16, b17, b18, b19] [o0, o1, o2, o3, o4, o5, o6, o7, o8, o9, o10, o11, o12, o13, o14, o15, o16, o17, o18, o19]))).2) sa sb so [a0, a1, a2, a3, a4, a5, a6, a7, a8, a9, a10, a11, a12, a13, a14, a15, a16, a17, a18, a19] [b0, b1, b2, b3, b4, b5, b6, b7, b8, b9, b10, b11, b12, b13, b14, b15, b16, b17, b18, b19] (carry (mrow a12 12 [o0, o1, o2, o3, o4, o5, o6, o7, o8, o9, o10, o11, o12, o13, o14, o15, o16, o17, o18, o19] [b0, b1, b2, b3, b4, b5, b6, b7, b8, b9, b10, b11, b12, b13, b14, b15, b16, b17, b18, b19]))) := by kernel_rfl
theorem mul_r13 (zs : List Value) (sa sb so : Bool) (a0 a1 a2 a3 a4 a5 a6 a7 a8 a9 a10 a11 a12 a13 a14 a15 a16 a17 a18 a19 b0 b1 b2 b3 b4 b5 b6 b7 b8 b9 b10 b11 b12 b13 b14 b15 b16 b17 b18 b19 o0 o1 o2 o3 o4 o5 o6 o7 o8 o9 o10 o11 o12 o13 o14 o15 o16 o17 o18 o19 : Int) : ((ev envS 100).code [] mulB (mulT 13 zs sa sb so [a0, a1, a2, a3, a4, a5, a6, a7, a8, a9, a10, a11, a12, a13, a14, a15, a16, a17, a18, a19] [b0, b1, b2, b3, b4, b5, b6, b7, b8, b9, b10, b11, b12, b13, b14, b15, b16, b17, b18, b19] [o0, o1, o2, o3, o4, o5, o6, o7, o8, o9, o10, o11, o12, o13, o14, o15, o16, o17, o18, o19])).run =
    some (.normal, mulT 14 (tlOf (outOf ((ev envS 100).code [] mulB (mulT 13 zs sa sb so [a0, a1, a2, a3, a4, a5, a6, a7, a8, a9, a10, a11, a12, a13, a14, a15, a16, a17, a18, a19] [b0, b1, b2, b3, b4, b5, b6, b7, b8, b9, b10, b11, b12, b13, b14, b15, b16, b17, b18, b19] [o0, o1, o2, o3, o4, o5, o6, o7, o8, o9, o10, o11, o12, o13, o14, o15, o16, o17, o18, o19]))).2) sa sb so [a0, a1, a2, a3, a4, a5, a6, a7, a8, a9, a10, a11, a12, a13, a14, a15, a16, a17, a18, a19] [b0, b1, b2, b3, b4, b5, b6, b7, b8, b9, b10, b11, b12, b13, b14, b15, b16, b17, b18, b19] (carry (mrow a13 13 [o0, o1, o2, o3, o4, o5, o6, o7, o8, o9, o10, o11, o12, o13, o14, o15, o16, o17, o18, o19] [b0, b1, b2, b3, b4, b5, b6, b7, b8, b9, b10, b11, b12, b13, b14, b15, b16, b17, b18, b19]))) := by kernel_rfl
theorem mul_r14 (zs : List Value) (sa sb so : Bool) (a0 a1 a2 a3 a4 a5 a6 a7 a8 a9 a10 a11 a12 a13 a14 a15 a16 a17 a18 a19 b0 b1 b2 b3 b4 b5 b6 b7 b8 b9 b10 b11 b12 b13 b14 b15 b16 b17 b18 b19 o0 o1 o2 o3 o4 o5 o6 o7 o8 o9 o10 o11 o12 o13 o14 o15 o16 o17 o18 o19 : Int) : ((ev envS 100).code [] mulB (mulT 14 zs sa sb so [a0, a1, a2, a3, a4, a5, a6, a7, a8, a9, a10, a11, a12, a13, a14, a15, a16, a17, a18, a19] [b0, b1, b2, b3, b4, b5, b6, b7, b8, b9, b10, b11, b12, b13, b14, b15, b16, b17, b18, b19] [o0, o1, o2, o3, o4, o5, o6, o7, o8, o9, o10, o11, o12, o13, o14, o15, o16, o17, o18, o19])).run =
    some (.normal, mulT 15 (tlOf (outOf ((ev envS 100).code [] mulB (mulT 14 zs sa sb so [a0, a1, a2, a3, a4, a5, a6, a7, a8, a9, a10, a11, a12, a13, a14, a15, a16, a17, a18, a19] [b0, b1, b2, b3, b4, b5, b6, b7, b8, b9, b10, b11, b12, b13, b14, b15, b16, b17, b18, b19] [o0, o1, o2, o3, o4, o5, o6, o7, o8, o9, o10, o11, o12, o13, o14, o15, o16, o17, o18, o19]))).2) sa sb so [a0, a1, a2, a3, a4, a5, a6, a7, a8, a9, a10, a11, a12, a13, a14, a15, a16, a17, a18, a19] [b0, b1, b2, b3, b4, b5, b6, b7, b8, b9, b10, b11, b12, b13, b14, b15, b16, b17, b18, b19] (carry (mrow a14 14 [o0, o1, o2, o3, o4, o5, o6, o7, o8, o9, o10, o11, o12, o13, o14, o15, o16, o17, o18, o19] [b0, b1, b2, b3, b4, b5, b6, b7, b8, b9, b10, b11, b12, b13, b14, b15, b16, b17, b18, b19]))) := by kernel_rfl
end

end Go.Proofs.YtecmhjhjmhliiaaDoor


/-
  The rounds of the document's product, read one by one (15 to 19).
-/

namespace Go.Proofs.YtecmhjhjmhliiaaDoor

open Go.Den Go.RowKit
noncomputable section
set_option maxRecDepth 100000

theorem mul_r15 (zs : List Value) (sa sb so : Bool) (a0 a1 a2 a3 a4 a5 a6 a7 a8 a9 a10 a11 a12 a13 a14 a15 a16 a17 a18 a19 b0 b1 b2 b3 b4 b5 b6 b7 b8 b9 b10 b11 b12 b13 b14 b15 b16 b17 b18 b19 o0 o1 o2 o3 o4 o5 o6 o7 o8 o9 o10 o11 o12 o13 o14 o15 o16 o17 o18 o19 : Int) : ((ev envS 100).code [] mulB (mulT 15 zs sa sb so [a0, a1, a2, a3, a4, a5, a6, a7, a8, a9, a10, a11, a12, a13, a14, a15, a16, a17, a18, a19] [b0, b1, b2, b3, b4, b5, b6, b7, b8, b9, b10, b11, b12, b13, b14, b15, b16, b17, b18, b19] [o0, o1, o2, o3, o4, o5, o6, o7, o8, o9, o10, o11, o12, o13, o14, o15, o16, o17, o18, o19])).run =
    some (.normal, mulT 16 (tlOf (outOf ((ev envS 100).code [] mulB (mulT 15 zs sa sb so [a0, a1, a2, a3, a4, a5, a6, a7, a8, a9, a10, a11, a12, a13, a14, a15, a16, a17, a18, a19] [b0, b1, b2, b3, b4, b5, b6, b7, b8, b9, b10, b11, b12, b13, b14, b15, b16, b17, b18, b19] [o0, o1, o2, o3, o4, o5, o6, o7, o8, o9, o10, o11, o12, o13, o14, o15, o16, o17, o18, o19]))).2) sa sb so [a0, a1, a2, a3, a4, a5, a6, a7, a8, a9, a10, a11, a12, a13, a14, a15, a16, a17, a18, a19] [b0, b1, b2, b3, b4, b5, b6, b7, b8, b9, b10, b11, b12, b13, b14, b15, b16, b17, b18, b19] (carry (mrow a15 15 [o0, o1, o2, o3, o4, o5, o6, o7, o8, o9, o10, o11, o12, o13, o14, o15, o16, o17, o18, o19] [b0, b1, b2, b3, b4, b5, b6, b7, b8, b9, b10, b11, b12, b13, b14, b15, b16, b17, b18, b19]))) := by kernel_rfl
theorem mul_r16 (zs : List Value) (sa sb so : Bool) (a0 a1 a2 a3 a4 a5 a6 a7 a8 a9 a10 a11 a12 a13 a14 a15 a16 a17 a18 a19 b0 b1 b2 b3 b4 b5 b6 b7 b8 b9 b10 b11 b12 b13 b14 b15 b16 b17 b18 b19 o0 o1 o2 o3 o4 o5 o6 o7 o8 o9 o10 o11 o12 o13 o14 o15 o16 o17 o18 o19 : Int) : ((ev envS 100).code [] mulB (mulT 16 zs sa sb so [a0, a1, a2, a3, a4, a5, a6, a7, a8, a9, a10, a11, a12, a13, a14, a15, a16, a17, a18, a19] [b0, b1, b2, b3, b4, b5, b6, b7, b8, b9, b10, b11, b12, b13, b14, b15, b16, b17, b18, b19] [o0, o1, o2, o3, o4, o5, o6, o7, o8, o9, o10, o11, o12, o13, o14, o15, o16, o17, o18, o19])).run =
    some (.normal, mulT 17 (tlOf (outOf ((ev envS 100).code [] mulB (mulT 16 zs sa sb so [a0, a1, a2, a3, a4, a5, a6, a7, a8, a9, a10, a11, a12, a13, a14, a15, a16, a17, a18, a19] [b0, b1, b2, b3, b4, b5, b6, b7, b8, b9, b10, b11, b12, b13, b14, b15, b16, b17, b18, b19] [o0, o1, o2, o3, o4, o5, o6, o7, o8, o9, o10, o11, o12, o13, o14, o15, o16, o17, o18, o19]))).2) sa sb so [a0, a1, a2, a3, a4, a5, a6, a7, a8, a9, a10, a11, a12, a13, a14, a15, a16, a17, a18, a19] [b0, b1, b2, b3, b4, b5, b6, b7, b8, b9, b10, b11, b12, b13, b14, b15, b16, b17, b18, b19] (carry (mrow a16 16 [o0, o1, o2, o3, o4, o5, o6, o7, o8, o9, o10, o11, o12, o13, o14, o15, o16, o17, o18, o19] [b0, b1, b2, b3, b4, b5, b6, b7, b8, b9, b10, b11, b12, b13, b14, b15, b16, b17, b18, b19]))) := by kernel_rfl
theorem mul_r17 (zs : List Value) (sa sb so : Bool) (a0 a1 a2 a3 a4 a5 a6 a7 a8 a9 a10 a11 a12 a13 a14 a15 a16 a17 a18 a19 b0 b1 b2 b3 b4 b5 b6 b7 b8 b9 b10 b11 b12 b13 b14 b15 b16 b17 b18 b19 o0 o1 o2 o3 o4 o5 o6 o7 o8 o9 o10 o11 o12 o13 o14 o15 o16 o17 o18 o19 : Int) : ((ev envS 100).code [] mulB (mulT 17 zs sa sb so [a0, a1, a2, a3, a4, a5, a6, a7, a8, a9, a10, a11, a12, a13, a14, a15, a16, a17, a18, a19] [b0, b1, b2, b3, b4, b5, b6, b7, b8, b9, b10, b11, b12, b13, b14, b15, b16, b17, b18, b19] [o0, o1, o2, o3, o4, o5, o6, o7, o8, o9, o10, o11, o12, o13, o14, o15, o16, o17, o18, o19])).run =
    some (.normal, mulT 18 (tlOf (outOf ((ev envS 100).code [] mulB (mulT 17 zs sa sb so [a0, a1, a2, a3, a4, a5, a6, a7, a8, a9, a10, a11, a12, a13, a14, a15, a16, a17, a18, a19] [b0, b1, b2, b3, b4, b5, b6, b7, b8, b9, b10, b11, b12, b13, b14, b15, b16, b17, b18, b19] [o0, o1, o2, o3, o4, o5, o6, o7, o8, o9, o10, o11, o12, o13, o14, o15, o16, o17, o18, o19]))).2) sa sb so [a0, a1, a2, a3, a4, a5, a6, a7, a8, a9, a10, a11, a12, a13, a14, a15, a16, a17, a18, a19] [b0, b1, b2, b3, b4, b5, b6, b7, b8, b9, b10, b11, b12, b13, b14, b15, b16, b17, b18, b19] (carry (mrow a17 17 [o0, o1, o2, o3, o4, o5, o6, o7, o8, o9, o10, o11, o12, o13, o14, o15, o16, o17, o18, o19] [b0, b1, b2, b3, b4, b5, b6, b7, b8, b9, b10, b11, b12, b13, b14, b15, b16, b17, b18, b19]))) := by kernel_rfl
theorem mul_r18 (zs : List Value) (sa sb so : Bool) (a0 a1 a2 a3 a4 a5 a6 a7 a8 a9 a10 a11 a12 a13 a14 a15 a16 a17 a18 a19 b0 b1 b2 b3 b4 b5 b6 b7 b8 b9 b10 b11 b12 b13 b14 b15 b16 b17 b18 b19 o0 o1 o2 o3 o4 o5 o6 o7 o8 o9 o10 o11 o12 o13 o14 o15 o16 o17 o18 o19 : Int) : ((ev envS 100).code [] mulB (mulT 18 zs sa sb so [a0, a1, a2, a3, a4, a5, a6, a7, a8, a9, a10, a11, a12, a13, a14, a15, a16, a17, a18, a19] [b0, b1, b2, b3, b4, b5, b6, b7, b8, b9, b10, b11, b12, b13, b14, b15, b16, b17, b18, b19] [o0, o1, o2, o3, o4, o5, o6, o7, o8, o9, o10, o11, o12, o13, o14, o15, o16, o17, o18, o19])).run =
    some (.normal, mulT 19 (tlOf (outOf ((ev envS 100).code [] mulB (mulT 18 zs sa sb so [a0, a1, a2, a3, a4, a5, a6, a7, a8, a9, a10, a11, a12, a13, a14, a15, a16, a17, a18, a19] [b0, b1, b2, b3, b4, b5, b6, b7, b8, b9, b10, b11, b12, b13, b14, b15, b16, b17, b18, b19] [o0, o1, o2, o3, o4, o5, o6, o7, o8, o9, o10, o11, o12, o13, o14, o15, o16, o17, o18, o19]))).2) sa sb so [a0, a1, a2, a3, a4, a5, a6, a7, a8, a9, a10, a11, a12, a13, a14, a15, a16, a17, a18, a19] [b0, b1, b2, b3, b4, b5, b6, b7, b8, b9, b10, b11, b12, b13, b14, b15, b16, b17, b18, b19] (carry (mrow a18 18 [o0, o1, o2, o3, o4, o5, o6, o7, o8, o9, o10, o11, o12, o13, o14, o15, o16, o17, o18, o19] [b0, b1, b2, b3, b4, b5, b6, b7, b8, b9, b10, b11, b12, b13, b14, b15, b16, b17, b18, b19]))) := by kernel_rfl
theorem mul_r19 (zs : List Value) (sa sb so : Bool) (a0 a1 a2 a3 a4 a5 a6 a7 a8 a9 a10 a11 a12 a13 a14 a15 a16 a17 a18 a19 b0 b1 b2 b3 b4 b5 b6 b7 b8 b9 b10 b11 b12 b13 b14 b15 b16 b17 b18 b19 o0 o1 o2 o3 o4 o5 o6 o7 o8 o9 o10 o11 o12 o13 o14 o15 o16 o17 o18 o19 : Int) : ((ev envS 100).code [] mulB (mulT 19 zs sa sb so [a0, a1, a2, a3, a4, a5, a6, a7, a8, a9, a10, a11, a12, a13, a14, a15, a16, a17, a18, a19] [b0, b1, b2, b3, b4, b5, b6, b7, b8, b9, b10, b11, b12, b13, b14, b15, b16, b17, b18, b19] [o0, o1, o2, o3, o4, o5, o6, o7, o8, o9, o10, o11, o12, o13, o14, o15, o16, o17, o18, o19])).run =
    some (.normal, mulT 20 (tlOf (outOf ((ev envS 100).code [] mulB (mulT 19 zs sa sb so [a0, a1, a2, a3, a4, a5, a6, a7, a8, a9, a10, a11, a12, a13, a14, a15, a16, a17, a18, a19] [b0, b1, b2, b3, b4, b5, b6, b7, b8, b9, b10, b11, b12, b13, b14, b15, b16, b17, b18, b19] [o0, o1, o2, o3, o4, o5, o6, o7, o8, o9, o10, o11, o12, o13, o14, o15, o16, o17, o18, o19]))).2) sa sb so [a0, a1, a2, a3, a4, a5, a6, a7, a8, a9, a10, a11, a12, a13, a14, a15, a16, a17, a18, a19] [b0, b1, b2, b3, b4, b5, b6, b7, b8, b9, b10, b11, b12, b13, b14, b15, b16, b17, b18, b19] (carry (mrow a19 19 [o0, o1, o2, o3, o4, o5, o6, o7, o8, o9, o10, o11, o12, o13, o14, o15, o16, o17, o18, o19] [b0, b1, b2, b3, b4, b5, b6, b7, b8, b9, b10, b11, b12, b13, b14, b15, b16, b17, b18, b19]))) := by kernel_rfl
end

end Go.Proofs.YtecmhjhjmhliiaaDoor


/-
  The document's product, put together of its rounds.
-/




namespace Go.Proofs.YtecmhjhjmhliiaaDoor

open Go.Den Go.RowKit
noncomputable section
set_option maxRecDepth 100000

theorem mulB_ok : cok mulB = true := by kernel_rfl
theorem mulL_eq : mulL = .loop mulB := by kernel_rfl
theorem addRow_len (x : Int) : ∀ os ys : List Int, (addRow x os ys).length = os.length
  | [], _ => rfl
  | o :: os, [] => rfl
  | o :: os, y :: ys => by show (addRow x os ys).length + 1 = _; rw [addRow_len x os ys, List.length_cons]
theorem mrow_len (x : Int) : ∀ (i : Nat) (os ys : List Int), (mrow x i os ys).length = os.length
  | 0, os, ys => addRow_len x os ys
  | i + 1, [], ys => rfl
  | i + 1, o :: os, ys => by show (mrow x i os ys).length + 1 = _; rw [mrow_len x i os ys, List.length_cons]
theorem carryGo_len : ∀ (r : List Int) (o : Int), (carryGo r o).length = r.length + 1
  | [], _ => rfl
  | p :: r, o => by show (carryGo r _).length + 1 = _; rw [carryGo_len r, List.length_cons]
theorem carry_len (os : List Int) : (carry os).length = os.length := by
  cases os with
  | nil => rfl
  | cons o r => exact carryGo_len r o
theorem mul_end (zs : List Value) (sa sb so : Bool) (a b o : List Int) : ((ev envS 100).code [] mulB (mulT 20 zs sa sb so a b o)).run =
    some (.exit 0, mulT 20 (tlOf (outOf ((ev envS 100).code [] mulB (mulT 20 zs sa sb so a b o))).2) sa sb so a b o) := by kernel_rfl
section

variable (sa sb so : Bool) (a0 a1 a2 a3 a4 a5 a6 a7 a8 a9 a10 a11 a12 a13 a14 a15 a16 a17 a18 a19 b0 b1 b2 b3 b4 b5 b6 b7 b8 b9 b10 b11 b12 b13 b14 b15 b16 b17 b18 b19 : Int)

theorem mul_f20 (zs : List Value) (o : List Int) (_ : o.length = 20) : ∃ zs', SatCode Tryd.prog [] mulL (mulT 20 zs sa sb so [a0, a1, a2, a3, a4, a5, a6, a7, a8, a9, a10, a11, a12, a13, a14, a15, a16, a17, a18, a19] [b0, b1, b2, b3, b4, b5, b6, b7, b8, b9, b10, b11, b12, b13, b14, b15, b16, b17, b18, b19] o) (.exit 0) (mulT 20 zs' sa sb so [a0, a1, a2, a3, a4, a5, a6, a7, a8, a9, a10, a11, a12, a13, a14, a15, a16, a17, a18, a19] [b0, b1, b2, b3, b4, b5, b6, b7, b8, b9, b10, b11, b12, b13, b14, b15, b16, b17, b18, b19] (mulGo [b0, b1, b2, b3, b4, b5, b6, b7, b8, b9, b10, b11, b12, b13, b14, b15, b16, b17, b18, b19] [] 20 o)) :=
  ⟨_, sat_loop_exit mulL_eq (sat_read envS hcokP 100 mulB_ok (mul_end zs sa sb so [a0, a1, a2, a3, a4, a5, a6, a7, a8, a9, a10, a11, a12, a13, a14, a15, a16, a17, a18, a19] [b0, b1, b2, b3, b4, b5, b6, b7, b8, b9, b10, b11, b12, b13, b14, b15, b16, b17, b18, b19] o))⟩
theorem mul_f19 (zs : List Value) (o : List Int) (ho : o.length = 20) : ∃ zs', SatCode Tryd.prog [] mulL (mulT 19 zs sa sb so [a0, a1, a2, a3, a4, a5, a6, a7, a8, a9, a10, a11, a12, a13, a14, a15, a16, a17, a18, a19] [b0, b1, b2, b3, b4, b5, b6, b7, b8, b9, b10, b11, b12, b13, b14, b15, b16, b17, b18, b19] o) (.exit 0) (mulT 20 zs' sa sb so [a0, a1, a2, a3, a4, a5, a6, a7, a8, a9, a10, a11, a12, a13, a14, a15, a16, a17, a18, a19] [b0, b1, b2, b3, b4, b5, b6, b7, b8, b9, b10, b11, b12, b13, b14, b15, b16, b17, b18, b19] (mulGo [b0, b1, b2, b3, b4, b5, b6, b7, b8, b9, b10, b11, b12, b13, b14, b15, b16, b17, b18, b19] [a19] 19 o)) := by
  obtain ⟨z, h⟩ := mul_f20 sa sb so a0 a1 a2 a3 a4 a5 a6 a7 a8 a9 a10 a11 a12 a13 a14 a15 a16 a17 a18 a19 b0 b1 b2 b3 b4 b5 b6 b7 b8 b9 b10 b11 b12 b13 b14 b15 b16 b17 b18 b19 (tlOf (outOf ((ev envS 100).code [] mulB (mulT 19 zs sa sb so [a0, a1, a2, a3, a4, a5, a6, a7, a8, a9, a10, a11, a12, a13, a14, a15, a16, a17, a18, a19] [b0, b1, b2, b3, b4, b5, b6, b7, b8, b9, b10, b11, b12, b13, b14, b15, b16, b17, b18, b19] o))).2) (carry (mrow a19 19 o [b0, b1, b2, b3, b4, b5, b6, b7, b8, b9, b10, b11, b12, b13, b14, b15, b16, b17, b18, b19])) (by rw [carry_len, mrow_len, ho])
  refine ⟨z, sat_loop mulL_eq ?_ h⟩
  obtain ⟨o0, o1, o2, o3, o4, o5, o6, o7, o8, o9, o10, o11, o12, o13, o14, o15, o16, o17, o18, o19, rfl⟩ := list20 ho
  exact sat_read envS hcokP 100 mulB_ok (mul_r19 zs sa sb so a0 a1 a2 a3 a4 a5 a6 a7 a8 a9 a10 a11 a12 a13 a14 a15 a16 a17 a18 a19 b0 b1 b2 b3 b4 b5 b6 b7 b8 b9 b10 b11 b12 b13 b14 b15 b16 b17 b18 b19 o0 o1 o2 o3 o4 o5 o6 o7 o8 o9 o10 o11 o12 o13 o14 o15 o16 o17 o18 o19)
theorem mul_f18 (zs : List Value) (o : List Int) (ho : o.length = 20) : ∃ zs', SatCode Tryd.prog [] mulL (mulT 18 zs sa sb so [a0, a1, a2, a3, a4, a5, a6, a7, a8, a9, a10, a11, a12, a13, a14, a15, a16, a17, a18, a19] [b0, b1, b2, b3, b4, b5, b6, b7, b8, b9, b10, b11, b12, b13, b14, b15, b16, b17, b18, b19] o) (.exit 0) (mulT 20 zs' sa sb so [a0, a1, a2, a3, a4, a5, a6, a7, a8, a9, a10, a11, a12, a13, a14, a15, a16, a17, a18, a19] [b0, b1, b2, b3, b4, b5, b6, b7, b8, b9, b10, b11, b12, b13, b14, b15, b16, b17, b18, b19] (mulGo [b0, b1, b2, b3, b4, b5, b6, b7, b8, b9, b10, b11, b12, b13, b14, b15, b16, b17, b18, b19] [a18, a19] 18 o)) := by
  obtain ⟨z, h⟩ := mul_f19 sa sb so a0 a1 a2 a3 a4 a5 a6 a7 a8 a9 a10 a11 a12 a13 a14 a15 a16 a17 a18 a19 b0 b1 b2 b3 b4 b5 b6 b7 b8 b9 b10 b11 b12 b13 b14 b15 b16 b17 b18 b19 (tlOf (outOf ((ev envS 100).code [] mulB (mulT 18 zs sa sb so [a0, a1, a2, a3, a4, a5, a6, a7, a8, a9, a10, a11, a12, a13, a14, a15, a16, a17, a18, a19] [b0, b1, b2, b3, b4, b5, b6, b7, b8, b9, b10, b11, b12, b13, b14, b15, b16, b17, b18, b19] o))).2) (carry (mrow a18 18 o [b0, b1, b2, b3, b4, b5, b6, b7, b8, b9, b10, b11, b12, b13, b14, b15, b16, b17, b18, b19])) (by rw [carry_len, mrow_len, ho])
  refine ⟨z, sat_loop mulL_eq ?_ h⟩
  obtain ⟨o0, o1, o2, o3, o4, o5, o6, o7, o8, o9, o10, o11, o12, o13, o14, o15, o16, o17, o18, o19, rfl⟩ := list20 ho
  exact sat_read envS hcokP 100 mulB_ok (mul_r18 zs sa sb so a0 a1 a2 a3 a4 a5 a6 a7 a8 a9 a10 a11 a12 a13 a14 a15 a16 a17 a18 a19 b0 b1 b2 b3 b4 b5 b6 b7 b8 b9 b10 b11 b12 b13 b14 b15 b16 b17 b18 b19 o0 o1 o2 o3 o4 o5 o6 o7 o8 o9 o10 o11 o12 o13 o14 o15 o16 o17 o18 o19)
theorem mul_f17 (zs : List Value) (o : List Int) (ho : o.length = 20) : ∃ zs', SatCode Tryd.prog [] mulL (mulT 17 zs sa sb so [a0, a1, a2, a3, a4, a5, a6, a7, a8, a9, a10, a11, a12, a13, a14, a15, a16, a17, a18, a19] [b0, b1, b2, b3, b4, b5, b6, b7, b8, b9, b10, b11, b12, b13, b14, b15, b16, b17, b18, b19] o) (.exit 0) (mulT 20 zs' sa sb so [a0, a1, a2, a3, a4, a5, a6, a7, a8, a9, a10, a11, a12, a13, a14, a15, a16, a17, a18, a19] [b0, b1, b2, b3, b4, b5, b6, b7, b8, b9, b10, b11, b12, b13, b14, b15, b16, b17, b18, b19] (mulGo [b0, b1, b2, b3, b4, b5, b6, b7, b8, b9, b10, b11, b12, b13, b14, b15, b16, b17, b18, b19] [a17, a18, a19] 17 o)) := by
  obtain ⟨z, h⟩ := mul_f18 sa sb so a0 a1 a2 a3 a4 a5 a6 a7 a8 a9 a10 a11 a12 a13 a14 a15 a16 a17 a18 a19 b0 b1 b2 b3 b4 b5 b6 b7 b8 b9 b10 b11 b12 b13 b14 b15 b16 b17 b18 b19 (tlOf (outOf ((ev envS 100).code [] mulB (mulT 17 zs sa sb so [a0, a1, a2, a3, a4, a5, a6, a7, a8, a9, a10, a11, a12, a13, a14, a15, a16, a17, a18, a19] [b0, b1, b2, b3, b4, b5, b6, b7, b8, b9, b10, b11, b12, b13, b14, b15, b16, b17, b18, b19] o))).2) (carry (mrow a17 17 o [b0, b1, b2, b3, b4, b5, b6, b7, b8, b9, b10, b11, b12, b13, b14, b15, b16, b17, b18, b19])) (by rw [carry_len, mrow_len, ho])
  refine ⟨z, sat_loop mulL_eq ?_ h⟩
  obtain ⟨o0, o1, o2, o3, o4, o5, o6, o7, o8, o9, o10, o11, o12, o13, o14, o15, o16, o17, o18, o19, rfl⟩ := list20 ho
  exact sat_read envS hcokP 100 mulB_ok (mul_r17 zs sa sb so a0 a1 a2 a3 a4 a5 a6 a7 a8 a9 a10 a11 a12 a13 a14 a15 a16 a17 a18 a19 b0 b1 b2 b3 b4 b5 b6 b7 b8 b9 b10 b11 b12 b13 b14 b15 b16 b17 b18 b19 o0 o1 o2 o3 o4 o5 o6 o7 o8 o9 o10 o11 o12 o13 o14 o15 o16 o17 o18 o19)
theorem mul_f16 (zs : List Value) (o : List Int) (ho : o.length = 20) : ∃ zs', SatCode Tryd.prog [] mulL (mulT 16 zs sa sb so [a0, a1, a2, a3, a4, a5, a6, a7, a8, a9, a10, a11, a12, a13, a14, a15, a16, a17, a18, a19] [b0, b1, b2, b3, b4, b5, b6, b7, b8, b9, b10, b11, b12, b13, b14, b15, b16, b17, b18, b19] o) (.exit 0) (mulT 20 zs' sa sb so [a0, a1, a2, a3, a4, a5, a6, a7, a8, a9, a10, a11, a12, a13, a14, a15, a16, a17, a18, a19] [b0, b1, b2, b3, b4, b5, b6, b7, b8, b9, b10, b11, b12, b13, b14, b15, b16, b17, b18, b19] (mulGo [b0, b1, b2, b3, b4, b5, b6, b7, b8, b9, b10, b11, b12, b13, b14, b15, b16, b17, b18, b19] [a16, a17, a18, a19] 16 o)) := by
  obtain ⟨z, h⟩ := mul_f17 sa sb so a0 a1 a2 a3 a4 a5 a6 a7 a8 a9 a10 a11 a12 a13 a14 a15 a16 a17 a18 a19 b0 b1 b2 b3 b4 b5 b6 b7 b8 b9 b10 b11 b12 b13 b14 b15 b16 b17 b18 b19 (tlOf (outOf ((ev envS 100).code [] mulB (mulT 16 zs sa sb so [a0, a1, a2, a3, a4, a5, a6, a7, a8, a9, a10, a11, a12, a13, a14, a15, a16, a17, a18, a19] [b0, b1, b2, b3, b4, b5, b6, b7, b8, b9, b10, b11, b12, b13, b14, b15, b16, b17, b18, b19] o))).2) (carry (mrow a16 16 o [b0, b1, b2, b3, b4, b5, b6, b7, b8, b9, b10, b11, b12, b13, b14, b15, b16, b17, b18, b19])) (by rw [carry_len, mrow_len, ho])
  refine ⟨z, sat_loop mulL_eq ?_ h⟩
  obtain ⟨o0, o1, o2, o3, o4, o5, o6, o7, o8, o9, o10, o11, o12, o13, o14, o15, o16, o17, o18, o19, rfl⟩ := list20 ho
  exact sat_read envS hcokP 100 mulB_ok (mul_r16 zs sa sb so a0 a1 a2 a3 a4 a5 a6 a7 a8 a9 a10 a11 a12 a13 a14 a15 a16 a17 a18 a19 b0 b1 b2 b3 b4 b5 b6 b7 b8 b9 b10 b11 b12 b13 b14 b15 b16 b17 b18 b19 o0 o1 o2 o3 o4 o5 o6 o7 o8 o9 o10 o11 o12 o13 o14 o15 o16 o17 o18 o19)
theorem mul_f15 (zs : List Value) (o : List Int) (ho : o.length = 20) : ∃ zs', SatCode Tryd.prog [] mulL (mulT 15 zs sa sb so [a0, a1, a2, a3, a4, a5, a6, a7, a8, a9, a10, a11, a12, a13, a14, a15, a16, a17, a18, a19] [b0, b1, b2, b3, b4, b5, b6, b7, b8, b9, b10, b11, b12, b13, b14, b15, b16, b17, b18, b19] o) (.exit 0) (mulT 20 zs' sa sb so [a0, a1, a2, a3, a4, a5, a6, a7, a8, a9, a10, a11, a12, a13, a14, a15, a16, a17, a18, a19] [b0, b1, b2, b3, b4, b5, b6, b7, b8, b9, b10, b11, b12, b13, b14, b15, b16, b17, b18, b19] (mulGo [b0, b1, b2, b3, b4, b5, b6, b7, b8, b9, b10, b11, b12, b13, b14, b15, b16, b17, b18, b19] [a15, a16, a17, a18, a19] 15 o)) := by
  obtain ⟨z, h⟩ := mul_f16 sa sb so a0 a1 a2 a3 a4 a5 a6 a7 a8 a9 a10 a11 a12 a13 a14 a15 a16 a17 a18 a19 b0 b1 b2 b3 b4 b5 b6 b7 b8 b9 b10 b11 b12 b13 b14 b15 b16 b17 b18 b19 (tlOf (outOf ((ev envS 100).code [] mulB (mulT 15 zs sa sb so [a0, a1, a2, a3, a4, a5, a6, a7, a8, a9, a10, a11, a12, a13, a14, a15, a16, a17, a18, a19] [b0, b1, b2, b3, b4, b5, b6, b7, b8, b9, b10, b11, b12, b13, b14, b15, b16, b17, b18, b19] o))).2) (carry (mrow a15 15 o [b0, b1, b2, b3, b4, b5, b6, b7, b8, b9, b10, b11, b12, b13, b14, b15, b16, b17, b18, b19])) (by rw [carry_len, mrow_len, ho])
  refine ⟨z, sat_loop mulL_eq ?_ h⟩
  obtain ⟨o0, o1, o2, o3, o4, o5, o6, o7, o8, o9, o10, o11, o12, o13, o14, o15, o16, o17, o18, o19, rfl⟩ := list20 ho
  exact sat_read envS hcokP 100 mulB_ok (mul_r15 zs sa sb so a0 a1 a2 a3 a4 a5 a6 a7 a8 a9 a10 a11 a12 a13 a14 a15 a16 a17 a18 a19 b0 b1 b2 b3 b4 b5 b6 b7 b8 b9 b10 b11 b12 b13 b14 b15 b16 b17 b18 b19 o0 o1 o2 o3 o4 o5 o6 o7 o8 o9 o10 o11 o12 o13 o14 o15 o16 o17 o18 o19)
theorem mul_f14 (zs : List Value) (o : List Int) (ho : o.length = 20) : ∃ zs', SatCode Tryd.prog [] mulL (mulT 14 zs sa sb so [a0, a1, a2, a3, a4, a5, a6, a7, a8, a9, a10, a11, a12, a13, a14, a15, a16, a17, a18, a19] [b0, b1, b2, b3, b4, b5, b6, b7, b8, b9, b10, b11, b12, b13, b14, b15, b16, b17, b18, b19] o) (.exit 0) (mulT 20 zs' sa sb so [a0, a1, a2, a3, a4, a5, a6, a7, a8, a9, a10, a11, a12, a13, a14, a15, a16, a17, a18, a19] [b0, b1, b2, b3, b4, b5, b6, b7, b8, b9, b10, b11, b12, b13, b14, b15, b16, b17, b18, b19] (mulGo [b0, b1, b2, b3, b4, b5, b6, b7, b8, b9, b10, b11, b12, b13, b14, b15, b16, b17, b18, b19] [a14, a15, a16, a17, a18, a19] 14 o)) := by
  obtain ⟨z, h⟩ := mul_f15 sa sb so a0 a1 a2 a3 a4 a5 a6 a7 a8 a9 a10 a11 a12 a13 a14 a15 a16 a17 a18 a19 b0 b1 b2 b3 b4 b5 b6 b7 b8 b9 b10 b11 b12 b13 b14 b15 b16 b17 b18 b19 (tlOf (outOf ((ev envS 100).code [] mulB (mulT 14 zs sa sb so [a0, a1, a2, a3, a4, a5, a6, a7, a8, a9, a10, a11, a12, a13, a14, a15, a16, a17, a18, a19] [b0, b1, b2, b3, b4, b5, b6, b7, b8, b9, b10, b11, b12, b13, b14, b15, b16, b17, b18, b19] o))).2) (carry (mrow a14 14 o [b0, b1, b2, b3, b4, b5, b6, b7, b8, b9, b10, b11, b12, b13, b14, b15, b16, b17, b18, b19])) (by rw [carry_len, mrow_len, ho])
  refine ⟨z, sat_loop mulL_eq ?_ h⟩
  obtain ⟨o0, o1, o2, o3, o4, o5, o6, o7, o8, o9, o10, o11, o12, o13, o14, o15, o16, o17, o18, o19, rfl⟩ := list20 ho
  exact sat_read envS hcokP 100 mulB_ok (mul_r14 zs sa sb so a0 a1 a2 a3 a4 a5 a6 a7 a8 a9 a10 a11 a12 a13 a14 a15 a16 a17 a18 a19 b0 b1 b2 b3 b4 b5 b6 b7 b8 b9 b10 b11 b12 b13 b14 b15 b16 b17 b18 b19 o0 o1 o2 o3 o4 o5 o6 o7 o8 o9 o10 o11 o12 o13 o14 o15 o16 o17 o18 o19)
theorem mul_f13 (zs : List Value) (o : List Int) (ho : o.length = 20) : ∃ zs', SatCode Tryd.prog [] mulL (mulT 13 zs sa sb so [a0, a1, a2, a3, a4, a5, a6, a7, a8, a9, a10, a11, a12, a13, a14, a15, a16, a17, a18, a19] [b0, b1, b2, b3, b4, b5, b6, b7, b8, b9, b10, b11, b12, b13, b14, b15, b16, b17, b18, b19] o) (.exit 0) (mulT 20 zs' sa sb so [a0, a1, a2, a3, a4, a5, a6, a7, a8, a9, a10, a11, a12, a13, a14, a15, a16, a17, a18, a19] [b0, b1, b2, b3, b4, b5, b6, b7, b8, b9, b10, b11, b12, b13, b14, b15, b16, b17, b18, b19] (mulGo [b0, b1, b2, b3, b4, b5, b6, b7, b8, b9, b10, b11, b12, b13, b14, b15, b16, b17, b18, b19] [a13, a14, a15, a16, a17, a18, a19] 13 o)) := by
  obtain ⟨z, h⟩ := mul_f14 sa sb so a0 a1 a2 a3 a4 a5 a6 a7 a8 a9 a10 a11 a12 a13 a14 a15 a16 a17 a18 a19 b0 b1 b2 b3 b4 b5 b6 b7 b8 b9 b10 b11 b12 b13 b14 b15 b16 b17 b18 b19 (tlOf (outOf ((ev envS 100).code [] mulB (mulT 13 zs sa sb so [a0, a1, a2, a3, a4, a5, a6, a7, a8, a9, a10, a11, a12, a13, a14, a15, a16, a17, a18, a19] [b0, b1, b2, b3, b4, b5, b6, b7, b8, b9, b10, b11, b12, b13, b14, b15, b16, b17, b18, b19] o))).2) (carry (mrow a13 13 o [b0, b1, b2, b3, b4, b5, b6, b7, b8, b9, b10, b11, b12, b13, b14, b15, b16, b17, b18, b19])) (by rw [carry_len, mrow_len, ho])
  refine ⟨z, sat_loop mulL_eq ?_ h⟩
  obtain ⟨o0, o1, o2, o3, o4, o5, o6, o7, o8, o9, o10, o11, o12, o13, o14, o15, o16, o17, o18, o19, rfl⟩ := list20 ho
  exact sat_read envS hcokP 100 mulB_ok (mul_r13 zs sa sb so a0 a1 a2 a3 a4 a5 a6 a7 a8 a9 a10 a11 a12 a13 a14 a15 a16 a17 a18 a19 b0 b1 b2 b3 b4 b5 b6 b7 b8 b9 b10 b11 b12 b13 b14 b15 b16 b17 b18 b19 o0 o1 o2 o3 o4 o5 o6 o7 o8 o9 o10 o11 o12 o13 o14 o15 o16 o17 o18 o19)
theorem mul_f12 (zs : List Value) (o : List Int) (ho : o.length = 20) : ∃ zs', SatCode Tryd.prog [] mulL (mulT 12 zs sa sb so [a0, a1, a2, a3, a4, a5, a6, a7, a8, a9, a10, a11, a12, a13, a14, a15, a16, a17, a18, a19] [b0, b1, b2, b3, b4, b5, b6, b7, b8, b9, b10, b11, b12, b13, b14, b15, b16, b17, b18, b19] o) (.exit 0) (mulT 20 zs' sa sb so [a0, a1, a2, a3, a4, a5, a6, a7, a8, a9, a10, a11, a12, a13, a14, a15, a16, a17, a18, a19] [b0, b1, b2, b3, b4, b5, b6, b7, b8, b9, b10, b11, b12, b13, b14, b15, b16, b17, b18, b19] (mulGo [b0, b1, b2, b3, b4, b5, b6, b7, b8, b9, b10, b11, b12, b13, b14, b15, b16, b17, b18, b19] [a12, a13, a14, a15, a16, a17, a18, a19] 12 o)) := by
  obtain ⟨z, h⟩ := mul_f13 sa sb so a0 a1 a2 a3 a4 a5 a6 a7 a8 a9 a10 a11 a12 a13 a14 a15 a16 a17 a18 a19 b0 b1 b2 b3 b4 b5 b6 b7 b8 b9 b10 b11 b12 b13 b14 b15 b16 b17 b18 b19 (tlOf (outOf ((ev envS 100).code [] mulB (mulT 12 zs sa sb so [a0, a1, a2, a3, a4, a5, a6, a7, a8, a9, a10, a11, a12, a13, a14, a15, a16, a17, a18, a19] [b0, b1, b2, b3, b4, b5, b6, b7, b8, b9, b10, b11, b12, b13, b14, b15, b16, b17, b18, b19] o))).2) (carry (mrow a12 12 o [b0, b1, b2, b3, b4, b5, b6, b7, b8, b9, b10, b11, b12, b13, b14, b15, b16, b17, b18, b19])) (by rw [carry_len, mrow_len, ho])
  refine ⟨z, sat_loop mulL_eq ?_ h⟩
  obtain ⟨o0, o1, o2, o3, o4, o5, o6, o7, o8, o9, o10, o11, o12, o13, o14, o15, o16, o17, o18, o19, rfl⟩ := list20 ho
  exact sat_read envS hcokP 100 mulB_ok (mul_r12 zs sa sb so a0 a1 a2 a3 a4 a5 a6 a7 a8 a9 a10 a11 a12 a13 a14 a15 a16 a17 a18 a19 b0 b1 b2 b3 b4 b5 b6 b7 b8 b9 b10 b11 b12 b13 b14 b15 b16 b17 b18 b19 o0 o1 o2 o3 o4 o5 o6 o7 o8 o9 o10 o11 o12 o13 o14 o15 o16 o17 o18 o19)
theorem mul_f11 (zs : List Value) (o : List Int) (ho : o.length = 20) : ∃ zs', SatCode Tryd.prog [] mulL (mulT 11 zs sa sb so [a0, a1, a2, a3, a4, a5, a6, a7, a8, a9, a10, a11, a12, a13, a14, a15, a16, a17, a18, a19] [b0, b1, b2, b3, b4, b5, b6, b7, b8, b9, b10, b11, b12, b13, b14, b15, b16, b17, b18, b19] o) (.exit 0) (mulT 20 zs' sa sb so [a0, a1, a2, a3, a4, a5, a6, a7, a8, a9, a10, a11, a12, a13, a14, a15, a16, a17, a18, a19] [b0, b1, b2, b3, b4, b5, b6, b7, b8, b9, b10, b11, b12, b13, b14, b15, b16, b17, b18, b19] (mulGo [b0, b1, b2, b3, b4, b5, b6, b7, b8, b9, b10, b11, b12, b13, b14, b15, b16, b17, b18, b19] [a11, a12, a13, a14, a15, a16, a17, a18, a19] 11 o)) := by
  obtain ⟨z, h⟩ := mul_f12 sa sb so a0 a1 a2 a3 a4 a5 a6 a7 a8 a9 a10 a11 a12 a13 a14 a15 a16 a17 a18 a19 b0 b1 b2 b3 b4 b5 b6 b7 b8 b9 b10 b11 b12 b13 b14 b15 b16 b17 b18 b19 (tlOf (outOf ((ev envS 100).code [] mulB (mulT 11 zs sa sb so [a0, a1, a2, a3, a4, a5, a6, a7, a8, a9, a10, a11, a12, a13, a14, a15, a16, a17, a18, a19] [b0, b1, b2, b3, b4, b5, b6, b7, b8, b9, b10, b11, b12, b13, b14, b15, b16, b17, b18, b19] o))).2) (carry (mrow a11 11 o [b0, b1, b2, b3, b4, b5, b6, b7, b8, b9, b10, b11, b12, b13, b14, b15, b16, b17, b18, b19])) (by rw [carry_len, mrow_len, ho])
  refine ⟨z, sat_loop mulL_eq ?_ h⟩
  obtain ⟨o0, o1, o2, o3, o4, o5, o6, o7, o8, o9, o10, o11, o12, o13, o14, o15, o16, o17, o18, o19, rfl⟩ := list20 ho
  exact sat_read envS hcokP 100 mulB_ok (mul_r11 zs sa sb so a0 a1 a2 a3 a4 a5 a6 a7 a8 a9 a10 a11 a12 a13 a14 a15 a16 a17 a18 a19 b0 b1 b2 b3 b4 b5 b6 b7 b8 b9 b10 b11 b12 b13 b14 b15 b16 b17 b18 b19 o0 o1 o2 o3 o4 o5 o6 o7 o8 o9 o10 o11 o12 o13 o14 o15 o16 o17 o18 o19)
theorem mul_f10 (zs : List Value) (o : List Int) (ho : o.length = 20) : ∃ zs', SatCode Tryd.prog [] mulL (mulT 10 zs sa sb so [a0, a1, a2, a3, a4, a5, a6, a7, a8, a9, a10, a11, a12, a13, a14, a15, a16, a17, a18, a19] [b0, b1, b2, b3, b4, b5, b6, b7, b8, b9, b10, b11, b12, b13, b14, b15, b16, b17, b18, b19] o) (.exit 0) (mulT 20 zs' sa sb so [a0, a1, a2, a3, a4, a5, a6, a7, a8, a9, a10, a11, a12, a13, a14, a15, a16, a17, a18, a19] [b0, b1, b2, b3, b4, b5, b6, b7, b8, b9, b10, b11, b12, b13, b14, b15, b16, b17, b18, b19] (mulGo [b0, b1, b2, b3, b4, b5, b6, b7, b8, b9, b10, b11, b12, b13, b14, b15, b16, b17, b18, b19] [a10, a11, a12, a13, a14, a15, a16, a17, a18, a19] 10 o)) := by
  obtain ⟨z, h⟩ := mul_f11 sa sb so a0 a1 a2 a3 a4 a5 a6 a7 a8 a9 a10 a11 a12 a13 a14 a15 a16 a17 a18 a19 b0 b1 b2 b3 b4 b5 b6 b7 b8 b9 b10 b11 b12 b13 b14 b15 b16 b17 b18 b19 (tlOf (outOf ((ev envS 100).code [] mulB (mulT 10 zs sa sb so [a0, a1, a2, a3, a4, a5, a6, a7, a8, a9, a10, a11, a12, a13, a14, a15, a16, a17, a18, a19] [b0, b1, b2, b3, b4, b5, b6, b7, b8, b9, b10, b11, b12, b13, b14, b15, b16, b17, b18, b19] o))).2) (carry (mrow a10 10 o [b0, b1, b2, b3, b4, b5, b6, b7, b8, b9, b10, b11, b12, b13, b14, b15, b16, b17, b18, b19])) (by rw [carry_len, mrow_len, ho])
  refine ⟨z, sat_loop mulL_eq ?_ h⟩
  obtain ⟨o0, o1, o2, o3, o4, o5, o6, o7, o8, o9, o10, o11, o12, o13, o14, o15, o16, o17, o18, o19, rfl⟩ := list20 ho
  exact sat_read envS hcokP 100 mulB_ok (mul_r10 zs sa sb so a0 a1 a2 a3 a4 a5 a6 a7 a8 a9 a10 a11 a12 a13 a14 a15 a16 a17 a18 a19 b0 b1 b2 b3 b4 b5 b6 b7 b8 b9 b10 b11 b12 b13 b14 b15 b16 b17 b18 b19 o0 o1 o2 o3 o4 o5 o6 o7 o8 o9 o10 o11 o12 o13 o14 o15 o16 o17 o18 o19)
theorem mul_f9 (zs : List Value) (o : List Int) (ho : o.length = 20) : ∃ zs', SatCode Tryd.prog [] mulL (mulT 9 zs sa sb so [a0, a1, a2, a3, a4, a5, a6, a7, a8, a9, a10, a11, a12, a13, a14, a15, a16, a17, a18, a19] [b0, b1, b2, b3, b4, b5, b6, b7, b8, b9, b10, b11, b12, b13, b14, b15, b16, b17, b18, b19] o) (.exit 0) (mulT 20 zs' sa sb so [a0, a1, a2, a3, a4, a5, a6, a7, a8, a9, a10, a11, a12, a13, a14, a15, a16, a17, a18, a19] [b0, b1, b2, b3, b4, b5, b6, b7, b8, b9, b10, b11, b12, b13, b14, b15, b16, b17, b18, b19] (mulGo [b0, b1, b2, b3, b4, b5, b6, b7, b8, b9, b10, b11, b12, b13, b14, b15, b16, b17, b18, b19] [a9, a10, a11, a12, a13, a14, a15, a16, a17, a18, a19] 9 o)) := by
  obtain ⟨z, h⟩ := mul_f10 sa sb so a0 a1 a2 a3 a4 a5 a6 a7 a8 a9 a10 a11 a12 a13 a14 a15 a16 a17 a18 a19 b0 b1 b2 b3 b4 b5 b6 b7 b8 b9 b10 b11 b12 b13 b14 b15 b16 b17 b18 b19 (tlOf (outOf ((ev envS 100).code [] mulB (mulT 9 zs sa sb so [a0, a1, a2, a3, a4, a5, a6, a7, a8, a9, a10, a11, a12, a13, a14, a15, a16, a17, a18, a19] [b0, b1, b2, b3, b4, b5, b6, b7, b8, b9, b10, b11, b12, b13, b14, b15, b16, b17, b18, b19] o))).2) (carry (mrow a9 9 o [b0, b1, b2, b3, b4, b5, b6, b7, b8, b9, b10, b11, b12, b13, b14, b15, b16, b17, b18, b19])) (by rw [carry_len, mrow_len, ho])
  refine ⟨z, sat_loop mulL_eq ?_ h⟩
  obtain ⟨o0, o1, o2, o3, o4, o5, o6, o7, o8, o9, o10, o11, o12, o13, o14, o15, o16, o17, o18, o19, rfl⟩ := list20 ho
  exact sat_read envS hcokP 100 mulB_ok (mul_r9 zs sa sb so a0 a1 a2 a3 a4 a5 a6 a7 a8 a9 a10 a11 a12 a13 a14 a15 a16 a17 a18 a19 b0 b1 b2 b3 b4 b5 b6 b7 b8 b9 b10 b11 b12 b13 b14 b15 b16 b17 b18 b19 o0 o1 o2 o3 o4 o5 o6 o7 o8 o9 o10 o11 o12 o13 o14 o15 o16 o17 o18 o19)
theorem mul_f8 (zs : List Value) (o : List Int) (ho : o.length = 20) : ∃ zs', SatCode Tryd.prog [] mulL (mulT 8 zs sa sb so [a0, a1, a2, a3, a4, a5, a6, a7, a8, a9, a10, a11, a12, a13, a14, a15, a16, a17, a18, a19] [b0, b1, b2, b3, b4, b5, b6, b7, b8, b9, b10, b11, b12, b13, b14, b15, b16, b17, b18, b19] o) (.exit 0) (mulT 20 zs' sa sb so [a0, a1, a2, a3, a4, a5, a6, a7, a8, a9, a10, a11, a12, a13, a14, a15, a16, a17, a18, a19] [b0, b1, b2, b3, b4, b5, b6, b7, b8, b9, b10, b11, b12, b13, b14, b15, b16, b17, b18, b19] (mulGo [b0, b1, b2, b3, b4, b5, b6, b7, b8, b9, b10, b11, b12, b13, b14, b15, b16, b17, b18, b19] [a8, a9, a10, a11, a12, a13, a14, a15, a16, a17, a18, a19] 8 o)) := by
  obtain ⟨z, h⟩ := mul_f9 sa sb so a0 a1 a2 a3 a4 a5 a6 a7 a8 a9 a10 a11 a12 a13 a14 a15 a16 a17 a18 a19 b0 b1 b2 b3 b4 b5 b6 b7 b8 b9 b10 b11 b12 b13 b14 b15 b16 b17 b18 b19 (tlOf (outOf ((ev envS 100).code [] mulB (mulT 8 zs sa sb so [a0, a1, a2, a3, a4, a5, a6, a7, a8, a9, a10, a11, a12, a13, a14, a15, a16, a17, a18, a19] [b0, b1, b2, b3, b4, b5, b6, b7, b8, b9, b10, b11, b12, b13, b14, b15, b16, b17, b18, b19] o))).2) (carry (mrow a8 8 o [b0, b1, b2, b3, b4, b5, b6, b7, b8, b9, b10, b11, b12, b13, b14, b15, b16, b17, b18, b19])) (by rw [carry_len, mrow_len, ho])
  refine ⟨z, sat_loop mulL_eq ?_ h⟩
  obtain ⟨o0, o1, o2, o3, o4, o5, o6, o7, o8, o9, o10, o11, o12, o13, o14, o15, o16, o17, o18, o19, rfl⟩ := list20 ho
  exact sat_read envS hcokP 100 mulB_ok (mul_r8 zs sa sb so a0 a1 a2 a3 a4 a5 a6 a7 a8 a9 a10 a11 a12 a13 a14 a15 a16 a17 a18 a19 b0 b1 b2 b3 b4 b5 b6 b7 b8 b9 b10 b11 b12 b13 b14 b15 b16 b17 b18 b19 o0 o1 o2 o3 o4 o5 o6 o7 o8 o9 o10 o11 o12 o13 o14 o15 o16 o17 o18 o19)
theorem mul_f7 (zs : List Value) (o : List Int) (ho : o.length = 20) : ∃ zs', SatCode Tryd.prog [] mulL (mulT 7 zs sa sb so [a0, a1, a2, a3, a4, a5, a6, a7, a8, a9, a10, a11, a12, a13, a14, a15, a16, a17, a18, a19] [b0, b1, b2, b3, b4, b5, b6, b7, b8, b9, b10, b11, b12, b13, b14, b15, b16, b17, b18, b19] o) (.exit 0) (mulT 20 zs' sa sb so [a0, a1, a2, a3, a4, a5, a6, a7, a8, a9, a10, a11, a12, a13, a14, a15, a16, a17, a18, a19] [b0, b1, b2, b3, b4, b5, b6, b7, b8, b9, b10, b11, b12, b13, b14, b15, b16, b17, b18, b19] (mulGo [b0, b1, b2, b3, b4, b5, b6, b7, b8, b9, b10, b11, b12, b13, b14, b15, b16, b17, b18, b19] [a7, a8, a9, a10, a11, a12, a13, a14, a15, a16, a17, a18, a19] 7 o)) := by
  obtain ⟨z, h⟩ := mul_f8 sa sb so a0 a1 a2 a3 a4 a5 a6 a7 a8 a9 a10 a11 a12 a13 a14 a15 a16 a17 a18 a19 b0 b1 b2 b3 b4 b5 b6 b7 b8 b9 b10 b11 b12 b13 b14 b15 b16 b17 b18 b19 (tlOf (outOf ((ev envS 100).code [] mulB (mulT 7 zs sa sb so [a0, a1, a2, a3, a4, a5, a6, a7, a8, a9, a10, a11, a12, a13, a14, a15, a16, a17, a18, a19] [b0, b1, b2, b3, b4, b5, b6, b7, b8, b9, b10, b11, b12, b13, b14, b15, b16, b17, b18, b19] o))).2) (carry (mrow a7 7 o [b0, b1, b2, b3, b4, b5, b6, b7, b8, b9, b10, b11, b12, b13, b14, b15, b16, b17, b18, b19])) (by rw [carry_len, mrow_len, ho])
  refine ⟨z, sat_loop mulL_eq ?_ h⟩
  obtain ⟨o0, o1, o2, o3, o4, o5, o6, o7, o8, o9, o10, o11, o12, o13, o14, o15, o16, o17, o18, o19, rfl⟩ := list20 ho
  exact sat_read envS hcokP 100 mulB_ok (mul_r7 zs sa sb so a0 a1 a2 a3 a4 a5 a6 a7 a8 a9 a10 a11 a12 a13 a14 a15 a16 a17 a18 a19 b0 b1 b2 b3 b4 b5 b6 b7 b8 b9 b10 b11 b12 b13 b14 b15 b16 b17 b18 b19 o0 o1 o2 o3 o4 o5 o6 o7 o8 o9 o10 o11 o12 o13 o14 o15 o16 o17 o18 o19)
theorem mul_f6 (zs : List Value) (o : List Int) (ho : o.length = 20) : ∃ zs', SatCode Tryd.prog [] mulL (mulT 6 zs sa sb so [a0, a1, a2, a3, a4, a5, a6, a7, a8, a9, a10, a11, a12, a13, a14, a15, a16, a17, a18, a19] [b0, b1, b2, b3, b4, b5, b6, b7, b8, b9, b10, b11, b12, b13, b14, b15, b16, b17, b18, b19] o) (.exit 0) (mulT 20 zs' sa sb so [a0, a1, a2, a3, a4, a5, a6, a7, a8, a9, a10, a11, a12, a13, a14, a15, a16, a17, a18, a19] [b0, b1, b2, b3, b4, b5, b6, b7, b8, b9, b10, b11, b12, b13, b14, b15, b16, b17, b18, b19] (mulGo [b0, b1, b2, b3, b4, b5, b6, b7, b8, b9, b10, b11, b12, b13, b14, b15, b16, b17, b18, b19] [a6, a7, a8, a9, a10, a11, a12, a13, a14, a15, a16, a17, a18, a19] 6 o)) := by
  obtain ⟨z, h⟩ := mul_f7 sa sb so a0 a1 a2 a3 a4 a5 a6 a7 a8 a9 a10 a11 a12 a13 a14 a15 a16 a17 a18 a19 b0 b1 b2 b3 b4 b5 b6 b7 b8 b9 b10 b11 b12 b13 b14 b15 b16 b17 b18 b19 (tlOf (outOf ((ev envS 100).code [] mulB (mulT 6 zs sa sb so [a0, a1, a2, a3, a4, a5, a6, a7, a8, a9, a10, a11, a12, a13, a14, a15, a16, a17, a18, a19] [b0, b1, b2, b3, b4, b5, b6, b7, b8, b9, b10, b11, b12, b13, b14, b15, b16, b17, b18, b19] o))).2) (carry (mrow a6 6 o [b0, b1, b2, b3, b4, b5, b6, b7, b8, b9, b10, b11, b12, b13, b14, b15, b16, b17, b18, b19])) (by rw [carry_len, mrow_len, ho])
  refine ⟨z, sat_loop mulL_eq ?_ h⟩
  obtain ⟨o0, o1, o2, o3, o4, o5, o6, o7, o8, o9, o10, o11, o12, o13, o14, o15, o16, o17, o18, o19, rfl⟩ := list20 ho
  exact sat_read envS hcokP 100 mulB_ok (mul_r6 zs sa sb so a0 a1 a2 a3 a4 a5 a6 a7 a8 a9 a10 a11 a12 a13 a14 a15 a16 a17 a18 a19 b0 b1 b2 b3 b4 b5 b6 b7 b8 b9 b10 b11 b12 b13 b14 b15 b16 b17 b18 b19 o0 o1 o2 o3 o4 o5 o6 o7 o8 o9 o10 o11 o12 o13 o14 o15 o16 o17 o18 o19)
theorem mul_f5 (zs : List Value) (o : List Int) (ho : o.length = 20) : ∃ zs', SatCode Tryd.prog [] mulL (mulT 5 zs sa sb so [a0, a1, a2, a3, a4, a5, a6, a7, a8, a9, a10, a11, a12, a13, a14, a15, a16, a17, a18, a19] [b0, b1, b2, b3, b4, b5, b6, b7, b8, b9, b10, b11, b12, b13, b14, b15, b16, b17, b18, b19] o) (.exit 0) (mulT 20 zs' sa sb so [a0, a1, a2, a3, a4, a5, a6, a7, a8, a9, a10, a11, a12, a13, a14, a15, a16, a17, a18, a19] [b0, b1, b2, b3, b4, b5, b6, b7, b8, b9, b10, b11, b12, b13, b14, b15, b16, b17, b18, b19] (mulGo [b0, b1, b2, b3, b4, b5, b6, b7, b8, b9, b10, b11, b12, b13, b14, b15, b16, b17, b18, b19] [a5, a6, a7, a8, a9, a10, a11, a12, a13, a14, a15, a16, a17, a18, a19] 5 o)) := by
  obtain ⟨z, h⟩ := mul_f6 sa sb so a0 a1 a2 a3 a4 a5 a6 a7 a8 a9 a10 a11 a12 a13 a14 a15 a16 a17 a18 a19 b0 b1 b2 b3 b4 b5 b6 b7 b8 b9 b10 b11 b12 b13 b14 b15 b16 b17 b18 b19 (tlOf (outOf ((ev envS 100).code [] mulB (mulT 5 zs sa sb so [a0, a1, a2, a3, a4, a5, a6, a7, a8, a9, a10, a11, a12, a13, a14, a15, a16, a17, a18, a19] [b0, b1, b2, b3, b4, b5, b6, b7, b8, b9, b10, b11, b12, b13, b14, b15, b16, b17, b18, b19] o))).2) (carry (mrow a5 5 o [b0, b1, b2, b3, b4, b5, b6, b7, b8, b9, b10, b11, b12, b13, b14, b15, b16, b17, b18, b19])) (by rw [carry_len, mrow_len, ho])
  refine ⟨z, sat_loop mulL_eq ?_ h⟩
  obtain ⟨o0, o1, o2, o3, o4, o5, o6, o7, o8, o9, o10, o11, o12, o13, o14, o15, o16, o17, o18, o19, rfl⟩ := list20 ho
  exact sat_read envS hcokP 100 mulB_ok (mul_r5 zs sa sb so a0 a1 a2 a3 a4 a5 a6 a7 a8 a9 a10 a11 a12 a13 a14 a15 a16 a17 a18 a19 b0 b1 b2 b3 b4 b5 b6 b7 b8 b9 b10 b11 b12 b13 b14 b15 b16 b17 b18 b19 o0 o1 o2 o3 o4 o5 o6 o7 o8 o9 o10 o11 o12 o13 o14 o15 o16 o17 o18 o19)
theorem mul_f4 (zs : List Value) (o : List Int) (ho : o.length = 20) : ∃ zs', SatCode Tryd.prog [] mulL (mulT 4 zs sa sb so [a0, a1, a2, a3, a4, a5, a6, a7, a8, a9, a10, a11, a12, a13, a14, a15, a16, a17, a18, a19] [b0, b1, b2, b3, b4, b5, b6, b7, b8, b9, b10, b11, b12, b13, b14, b15, b16, b17, b18, b19] o) (.exit 0) (mulT 20 zs' sa sb so [a0, a1, a2, a3, a4, a5, a6, a7, a8, a9, a10, a11, a12, a13, a14, a15, a16, a17, a18, a19] [b0, b1, b2, b3, b4, b5, b6, b7, b8, b9, b10, b11, b12, b13, b14, b15, b16, b17, b18, b19] (mulGo [b0, b1, b2, b3, b4, b5, b6, b7, b8, b9, b10, b11, b12, b13, b14, b15, b16, b17, b18, b19] [a4, a5, a6, a7, a8, a9, a10, a11, a12, a13, a14, a15, a16, a17, a18, a19] 4 o)) := by
  obtain ⟨z, h⟩ := mul_f5 sa sb so a0 a1 a2 a3 a4 a5 a6 a7 a8 a9 a10 a11 a12 a13 a14 a15 a16 a17 a18 a19 b0 b1 b2 b3 b4 b5 b6 b7 b8 b9 b10 b11 b12 b13 b14 b15 b16 b17 b18 b19 (tlOf (outOf ((ev envS 100).code [] mulB (mulT 4 zs sa sb so [a0, a1, a2, a3, a4, a5, a6, a7, a8, a9, a10, a11, a12, a13, a14, a15, a16, a17, a18, a19] [b0, b1, b2, b3, b4, b5, b6, b7, b8, b9, b10, b11, b12, b13, b14, b15, b16, b17, b18, b19] o))).2) (carry (mrow a4 4 o [b0, b1, b2, b3, b4, b5, b6, b7, b8, b9, b10, b11, b12, b13, b14, b15, b16, b17, b18, b19])) (by rw [carry_len, mrow_len, ho])
  refine ⟨z, sat_loop mulL_eq ?_ h⟩
  obtain ⟨o0, o1, o2, o3, o4, o5, o6, o7, o8, o9, o10, o11, o12, o13, o14, o15, o16, o17, o18, o19, rfl⟩ := list20 ho
  exact sat_read envS hcokP 100 mulB_ok (mul_r4 zs sa sb so a0 a1 a2 a3 a4 a5 a6 a7 a8 a9 a10 a11 a12 a13 a14 a15 a16 a17 a18 a19 b0 b1 b2 b3 b4 b5 b6 b7 b8 b9 b10 b11 b12 b13 b14 b15 b16 b17 b18 b19 o0 o1 o2 o3 o4 o5 o6 o7 o8 o9 o10 o11 o12 o13 o14 o15 o16 o17 o18 o19)
theorem mul_f3 (zs : List Value) (o : List Int) (ho : o.length = 20) : ∃ zs', SatCode Tryd.prog [] mulL (mulT 3 zs sa sb so [a0, a1, a2, a3, a4, a5, a6, a7, a8, a9, a10, a11, a12, a13, a14, a15, a16, a17, a18, a19] [b0, b1, b2, b3, b4, b5, b6, b7, b8, b9, b10, b11, b12, b13, b14, b15, b16, b17, b18, b19] o) (.exit 0) (mulT 20 zs' sa sb so [a0, a1, a2, a3, a4, a5, a6, a7, a8, a9, a10, a11, a12, a13, a14, a15, a16, a17, a18, a19] [b0, b1, b2, b3, b4, b5, b6, b7, b8, b9, b10, b11, b12, b13, b14, b15, b16, b17, b18, b19] (mulGo [b0, b1, b2, b3, b4, b5, b6, b7, b8, b9, b10, b11, b12, b13, b14, b15, b16, b17, b18, b19] [a3, a4, a5, a6, a7, a8, a9, a10, a11, a12, a13, a14, a15, a16, a17, a18, a19] 3 o)) := by
  obtain ⟨z, h⟩ := mul_f4 sa sb so a0 a1 a2 a3 a4 a5 a6 a7 a8 a9 a10 a11 a12 a13 a14 a15 a16 a17 a18 a19 b0 b1 b2 b3 b4 b5 b6 b7 b8 b9 b10 b11 b12 b13 b14 b15 b16 b17 b18 b19 (tlOf (outOf ((ev envS 100).code [] mulB (mulT 3 zs sa sb so [a0, a1, a2, a3, a4, a5, a6, a7, a8, a9, a10, a11, a12, a13, a14, a15, a16, a17, a18, a19] [b0, b1, b2, b3, b4, b5, b6, b7, b8, b9, b10, b11, b12, b13, b14, b15, b16, b17, b18, b19] o))).2) (carry (mrow a3 3 o [b0, b1, b2, b3, b4, b5, b6, b7, b8, b9, b10, b11, b12, b13, b14, b15, b16, b17, b18, b19])) (by rw [carry_len, mrow_len, ho])
  refine ⟨z, sat_loop mulL_eq ?_ h⟩
  obtain ⟨o0, o1, o2, o3, o4, o5, o6, o7, o8, o9, o10, o11, o12, o13, o14, o15, o16, o17, o18, o19, rfl⟩ := list20 ho
  exact sat_read envS hcokP 100 mulB_ok (mul_r3 zs sa sb so a0 a1 a2 a3 a4 a5 a6 a7 a8 a9 a10 a11 a12 a13 a14 a15 a16 a17 a18 a19 b0 b1 b2 b3 b4 b5 b6 b7 b8 b9 b10 b11 b12 b13 b14 b15 b16 b17 b18 b19 o0 o1 o2 o3 o4 o5 o6 o7 o8 o9 o10 o11 o12 o13 o14 o15 o16 o17 o18 o19)
theorem mul_f2 (zs : List Value) (o : List Int) (ho : o.length = 20) : ∃ zs', SatCode Tryd.prog [] mulL (mulT 2 zs sa sb so [a0, a1, a2, a3, a4, a5, a6, a7, a8, a9, a10, a11, a12, a13, a14, a15, a16, a17, a18, a19] [b0, b1, b2, b3, b4, b5, b6, b7, b8, b9, b10, b11, b12, b13, b14, b15, b16, b17, b18, b19] o) (.exit 0) (mulT 20 zs' sa sb so [a0, a1, a2, a3, a4, a5, a6, a7, a8, a9, a10, a11, a12, a13, a14, a15, a16, a17, a18, a19] [b0, b1, b2, b3, b4, b5, b6, b7, b8, b9, b10, b11, b12, b13, b14, b15, b16, b17, b18, b19] (mulGo [b0, b1, b2, b3, b4, b5, b6, b7, b8, b9, b10, b11, b12, b13, b14, b15, b16, b17, b18, b19] [a2, a3, a4, a5, a6, a7, a8, a9, a10, a11, a12, a13, a14, a15, a16, a17, a18, a19] 2 o)) := by
  obtain ⟨z, h⟩ := mul_f3 sa sb so a0 a1 a2 a3 a4 a5 a6 a7 a8 a9 a10 a11 a12 a13 a14 a15 a16 a17 a18 a19 b0 b1 b2 b3 b4 b5 b6 b7 b8 b9 b10 b11 b12 b13 b14 b15 b16 b17 b18 b19 (tlOf (outOf ((ev envS 100).code [] mulB (mulT 2 zs sa sb so [a0, a1, a2, a3, a4, a5, a6, a7, a8, a9, a10, a11, a12, a13, a14, a15, a16, a17, a18, a19] [b0, b1, b2, b3, b4, b5, b6, b7, b8, b9, b10, b11, b12, b13, b14, b15, b16, b17, b18, b19] o))).2) (carry (mrow a2 2 o [b0, b1, b2, b3, b4, b5, b6, b7, b8, b9, b10, b11, b12, b13, b14, b15, b16, b17, b18, b19])) (by rw [carry_len, mrow_len, ho])
  refine ⟨z, sat_loop mulL_eq ?_ h⟩
  obtain ⟨o0, o1, o2, o3, o4, o5, o6, o7, o8, o9, o10, o11, o12, o13, o14, o15, o16, o17, o18, o19, rfl⟩ := list20 ho
  exact sat_read envS hcokP 100 mulB_ok (mul_r2 zs sa sb so a0 a1 a2 a3 a4 a5 a6 a7 a8 a9 a10 a11 a12 a13 a14 a15 a16 a17 a18 a19 b0 b1 b2 b3 b4 b5 b6 b7 b8 b9 b10 b11 b12 b13 b14 b15 b16 b17 b18 b19 o0 o1 o2 o3 o4 o5 o6 o7 o8 o9 o10 o11 o12 o13 o14 o15 o16 o17 o18 o19)
theorem mul_f1 (zs : List Value) (o : List Int) (ho : o.length = 20) : ∃ zs', SatCode Tryd.prog [] mulL (mulT 1 zs sa sb so [a0, a1, a2, a3, a4, a5, a6, a7, a8, a9, a10, a11, a12, a13, a14, a15, a16, a17, a18, a19] [b0, b1, b2, b3, b4, b5, b6, b7, b8, b9, b10, b11, b12, b13, b14, b15, b16, b17, b18, b19] o) (.exit 0) (mulT 20 zs' sa sb so [a0, a1, a2, a3, a4, a5, a6, a7, a8, a9, a10, a11, a12, a13, a14, a15, a16, a17, a18, a19] [b0, b1, b2, b3, b4, b5, b6, b7, b8, b9, b10, b11, b12, b13, b14, b15, b16, b17, b18, b19] (mulGo [b0, b1, b2, b3, b4, b5, b6, b7, b8, b9, b10, b11, b12, b13, b14, b15, b16, b17, b18, b19] [a1, a2, a3, a4, a5, a6, a7, a8, a9, a10, a11, a12, a13, a14, a15, a16, a17, a18, a19] 1 o)) := by
  obtain ⟨z, h⟩ := mul_f2 sa sb so a0 a1 a2 a3 a4 a5 a6 a7 a8 a9 a10 a11 a12 a13 a14 a15 a16 a17 a18 a19 b0 b1 b2 b3 b4 b5 b6 b7 b8 b9 b10 b11 b12 b13 b14 b15 b16 b17 b18 b19 (tlOf (outOf ((ev envS 100).code [] mulB (mulT 1 zs sa sb so [a0, a1, a2, a3, a4, a5, a6, a7, a8, a9, a10, a11, a12, a13, a14, a15, a16, a17, a18, a19] [b0, b1, b2, b3, b4, b5, b6, b7, b8, b9, b10, b11, b12, b13, b14, b15, b16, b17, b18, b19] o))).2) (carry (mrow a1 1 o [b0, b1, b2, b3, b4, b5, b6, b7, b8, b9, b10, b11, b12, b13, b14, b15, b16, b17, b18, b19])) (by rw [carry_len, mrow_len, ho])
  refine ⟨z, sat_loop mulL_eq ?_ h⟩
  obtain ⟨o0, o1, o2, o3, o4, o5, o6, o7, o8, o9, o10, o11, o12, o13, o14, o15, o16, o17, o18, o19, rfl⟩ := list20 ho
  exact sat_read envS hcokP 100 mulB_ok (mul_r1 zs sa sb so a0 a1 a2 a3 a4 a5 a6 a7 a8 a9 a10 a11 a12 a13 a14 a15 a16 a17 a18 a19 b0 b1 b2 b3 b4 b5 b6 b7 b8 b9 b10 b11 b12 b13 b14 b15 b16 b17 b18 b19 o0 o1 o2 o3 o4 o5 o6 o7 o8 o9 o10 o11 o12 o13 o14 o15 o16 o17 o18 o19)
theorem mul_f0 (zs : List Value) (o : List Int) (ho : o.length = 20) : ∃ zs', SatCode Tryd.prog [] mulL (mulT 0 zs sa sb so [a0, a1, a2, a3, a4, a5, a6, a7, a8, a9, a10, a11, a12, a13, a14, a15, a16, a17, a18, a19] [b0, b1, b2, b3, b4, b5, b6, b7, b8, b9, b10, b11, b12, b13, b14, b15, b16, b17, b18, b19] o) (.exit 0) (mulT 20 zs' sa sb so [a0, a1, a2, a3, a4, a5, a6, a7, a8, a9, a10, a11, a12, a13, a14, a15, a16, a17, a18, a19] [b0, b1, b2, b3, b4, b5, b6, b7, b8, b9, b10, b11, b12, b13, b14, b15, b16, b17, b18, b19] (mulGo [b0, b1, b2, b3, b4, b5, b6, b7, b8, b9, b10, b11, b12, b13, b14, b15, b16, b17, b18, b19] [a0, a1, a2, a3, a4, a5, a6, a7, a8, a9, a10, a11, a12, a13, a14, a15, a16, a17, a18, a19] 0 o)) := by
  obtain ⟨z, h⟩ := mul_f1 sa sb so a0 a1 a2 a3 a4 a5 a6 a7 a8 a9 a10 a11 a12 a13 a14 a15 a16 a17 a18 a19 b0 b1 b2 b3 b4 b5 b6 b7 b8 b9 b10 b11 b12 b13 b14 b15 b16 b17 b18 b19 (tlOf (outOf ((ev envS 100).code [] mulB (mulT 0 zs sa sb so [a0, a1, a2, a3, a4, a5, a6, a7, a8, a9, a10, a11, a12, a13, a14, a15, a16, a17, a18, a19] [b0, b1, b2, b3, b4, b5, b6, b7, b8, b9, b10, b11, b12, b13, b14, b15, b16, b17, b18, b19] o))).2) (carry (mrow a0 0 o [b0, b1, b2, b3, b4, b5, b6, b7, b8, b9, b10, b11, b12, b13, b14, b15, b16, b17, b18, b19])) (by rw [carry_len, mrow_len, ho])
  refine ⟨z, sat_loop mulL_eq ?_ h⟩
  obtain ⟨o0, o1, o2, o3, o4, o5, o6, o7, o8, o9, o10, o11, o12, o13, o14, o15, o16, o17, o18, o19, rfl⟩ := list20 ho
  exact sat_read envS hcokP 100 mulB_ok (mul_r0 zs sa sb so a0 a1 a2 a3 a4 a5 a6 a7 a8 a9 a10 a11 a12 a13 a14 a15 a16 a17 a18 a19 b0 b1 b2 b3 b4 b5 b6 b7 b8 b9 b10 b11 b12 b13 b14 b15 b16 b17 b18 b19 o0 o1 o2 o3 o4 o5 o6 o7 o8 o9 o10 o11 o12 o13 o14 o15 o16 o17 o18 o19)
end

noncomputable def mulA (sa sb : Bool) (a b : List Int) : Array Value := #[.agg ⟨.bool sa :: mapU a⟩, .agg ⟨.bool sb :: mapU b⟩]
noncomputable def mulS0 (sa sb : Bool) (a b : List Int) : St := ⟨Go.Den.start (mulA sa sb a b).toList Tryd.f58.ntmps, [], B0⟩
noncomputable def mulS1 (sa sb : Bool) (a b : List Int) : St := (outOf ((ev envS 100).code [] (cL mulC) (mulS0 sa sb a b))).2
noncomputable def mulS2 (sa sb : Bool) (a b : List Int) : St := (outOf ((ev envS 100).code [] (cL (cR mulC)) (mulS1 sa sb a b))).2
noncomputable def mulS3 (sa sb : Bool) (a b : List Int) : St := (outOf ((ev envS 100).code [] (cL (cL (cR (cR mulC)))) (mulS2 sa sb a b))).2
theorem mul_p1 (sa sb : Bool) (a0 a1 a2 a3 a4 a5 a6 a7 a8 a9 a10 a11 a12 a13 a14 a15 a16 a17 a18 a19 b0 b1 b2 b3 b4 b5 b6 b7 b8 b9 b10 b11 b12 b13 b14 b15 b16 b17 b18 b19 : Int) : ((ev envS 100).code [] (cL mulC) (mulS0 sa sb [a0, a1, a2, a3, a4, a5, a6, a7, a8, a9, a10, a11, a12, a13, a14, a15, a16, a17, a18, a19] [b0, b1, b2, b3, b4, b5, b6, b7, b8, b9, b10, b11, b12, b13, b14, b15, b16, b17, b18, b19])).run = some (.normal, mulS1 sa sb [a0, a1, a2, a3, a4, a5, a6, a7, a8, a9, a10, a11, a12, a13, a14, a15, a16, a17, a18, a19] [b0, b1, b2, b3, b4, b5, b6, b7, b8, b9, b10, b11, b12, b13, b14, b15, b16, b17, b18, b19]) := by
  cases sa <;> cases sb <;> kernel_rfl
theorem mul_p2 (sa sb : Bool) (a0 a1 a2 a3 a4 a5 a6 a7 a8 a9 a10 a11 a12 a13 a14 a15 a16 a17 a18 a19 b0 b1 b2 b3 b4 b5 b6 b7 b8 b9 b10 b11 b12 b13 b14 b15 b16 b17 b18 b19 : Int) : ((ev envS 100).code [] (cL (cR mulC)) (mulS1 sa sb [a0, a1, a2, a3, a4, a5, a6, a7, a8, a9, a10, a11, a12, a13, a14, a15, a16, a17, a18, a19] [b0, b1, b2, b3, b4, b5, b6, b7, b8, b9, b10, b11, b12, b13, b14, b15, b16, b17, b18, b19])).run = some (.normal, mulS2 sa sb [a0, a1, a2, a3, a4, a5, a6, a7, a8, a9, a10, a11, a12, a13, a14, a15, a16, a17, a18, a19] [b0, b1, b2, b3, b4, b5, b6, b7, b8, b9, b10, b11, b12, b13, b14, b15, b16, b17, b18, b19]) := by
  cases sa <;> cases sb <;> kernel_rfl
theorem mul_p3 (sa sb : Bool) (a0 a1 a2 a3 a4 a5 a6 a7 a8 a9 a10 a11 a12 a13 a14 a15 a16 a17 a18 a19 b0 b1 b2 b3 b4 b5 b6 b7 b8 b9 b10 b11 b12 b13 b14 b15 b16 b17 b18 b19 : Int) : ((ev envS 100).code [] (cL (cL (cR (cR mulC)))) (mulS2 sa sb [a0, a1, a2, a3, a4, a5, a6, a7, a8, a9, a10, a11, a12, a13, a14, a15, a16, a17, a18, a19] [b0, b1, b2, b3, b4, b5, b6, b7, b8, b9, b10, b11, b12, b13, b14, b15, b16, b17, b18, b19])).run = some (.normal, mulS3 sa sb [a0, a1, a2, a3, a4, a5, a6, a7, a8, a9, a10, a11, a12, a13, a14, a15, a16, a17, a18, a19] [b0, b1, b2, b3, b4, b5, b6, b7, b8, b9, b10, b11, b12, b13, b14, b15, b16, b17, b18, b19]) := by
  cases sa <;> cases sb <;> kernel_rfl
theorem mul_a3 (sa sb : Bool) (a0 a1 a2 a3 a4 a5 a6 a7 a8 a9 a10 a11 a12 a13 a14 a15 a16 a17 a18 a19 b0 b1 b2 b3 b4 b5 b6 b7 b8 b9 b10 b11 b12 b13 b14 b15 b16 b17 b18 b19 : Int) : (mulT 0 (tlOf (mulS3 sa sb [a0, a1, a2, a3, a4, a5, a6, a7, a8, a9, a10, a11, a12, a13, a14, a15, a16, a17, a18, a19] [b0, b1, b2, b3, b4, b5, b6, b7, b8, b9, b10, b11, b12, b13, b14, b15, b16, b17, b18, b19])) sa sb (sa != sb) [a0, a1, a2, a3, a4, a5, a6, a7, a8, a9, a10, a11, a12, a13, a14, a15, a16, a17, a18, a19] [b0, b1, b2, b3, b4, b5, b6, b7, b8, b9, b10, b11, b12, b13, b14, b15, b16, b17, b18, b19] [0, 0, 0, 0, 0, 0, 0, 0, 0, 0, 0, 0, 0, 0, 0, 0, 0, 0, 0, 0]).tmps.arr = (mulS3 sa sb [a0, a1, a2, a3, a4, a5, a6, a7, a8, a9, a10, a11, a12, a13, a14, a15, a16, a17, a18, a19] [b0, b1, b2, b3, b4, b5, b6, b7, b8, b9, b10, b11, b12, b13, b14, b15, b16, b17, b18, b19]).tmps.arr := by
  cases sa <;> cases sb <;> kernel_rfl
theorem mul_h3 (sa sb : Bool) (a0 a1 a2 a3 a4 a5 a6 a7 a8 a9 a10 a11 a12 a13 a14 a15 a16 a17 a18 a19 b0 b1 b2 b3 b4 b5 b6 b7 b8 b9 b10 b11 b12 b13 b14 b15 b16 b17 b18 b19 : Int) : (mulT 0 (tlOf (mulS3 sa sb [a0, a1, a2, a3, a4, a5, a6, a7, a8, a9, a10, a11, a12, a13, a14, a15, a16, a17, a18, a19] [b0, b1, b2, b3, b4, b5, b6, b7, b8, b9, b10, b11, b12, b13, b14, b15, b16, b17, b18, b19])) sa sb (sa != sb) [a0, a1, a2, a3, a4, a5, a6, a7, a8, a9, a10, a11, a12, a13, a14, a15, a16, a17, a18, a19] [b0, b1, b2, b3, b4, b5, b6, b7, b8, b9, b10, b11, b12, b13, b14, b15, b16, b17, b18, b19] [0, 0, 0, 0, 0, 0, 0, 0, 0, 0, 0, 0, 0, 0, 0, 0, 0, 0, 0, 0]).h = (mulS3 sa sb [a0, a1, a2, a3, a4, a5, a6, a7, a8, a9, a10, a11, a12, a13, a14, a15, a16, a17, a18, a19] [b0, b1, b2, b3, b4, b5, b6, b7, b8, b9, b10, b11, b12, b13, b14, b15, b16, b17, b18, b19]).h := by
  cases sa <;> cases sb <;> kernel_rfl
theorem mul_n3 (sa sb : Bool) (a0 a1 a2 a3 a4 a5 a6 a7 a8 a9 a10 a11 a12 a13 a14 a15 a16 a17 a18 a19 b0 b1 b2 b3 b4 b5 b6 b7 b8 b9 b10 b11 b12 b13 b14 b15 b16 b17 b18 b19 : Int) : (mulT 0 (tlOf (mulS3 sa sb [a0, a1, a2, a3, a4, a5, a6, a7, a8, a9, a10, a11, a12, a13, a14, a15, a16, a17, a18, a19] [b0, b1, b2, b3, b4, b5, b6, b7, b8, b9, b10, b11, b12, b13, b14, b15, b16, b17, b18, b19])) sa sb (sa != sb) [a0, a1, a2, a3, a4, a5, a6, a7, a8, a9, a10, a11, a12, a13, a14, a15, a16, a17, a18, a19] [b0, b1, b2, b3, b4, b5, b6, b7, b8, b9, b10, b11, b12, b13, b14, b15, b16, b17, b18, b19] [0, 0, 0, 0, 0, 0, 0, 0, 0, 0, 0, 0, 0, 0, 0, 0, 0, 0, 0, 0]).nx = (mulS3 sa sb [a0, a1, a2, a3, a4, a5, a6, a7, a8, a9, a10, a11, a12, a13, a14, a15, a16, a17, a18, a19] [b0, b1, b2, b3, b4, b5, b6, b7, b8, b9, b10, b11, b12, b13, b14, b15, b16, b17, b18, b19]).nx := by
  cases sa <;> cases sb <;> kernel_rfl
noncomputable def mulS5 (zs : List Value) (sa sb so : Bool) (a b o : List Int) : St := (outOf ((ev envS 100).code [] (cR (cR (cR mulC))) (mulT 20 zs sa sb so a b o))).2
theorem mul_p5 (zs : List Value) (sa sb so : Bool) (a b : List Int) (o0 o1 o2 o3 o4 o5 o6 o7 o8 o9 o10 o11 o12 o13 o14 o15 o16 o17 o18 o19 : Int) : ((ev envS 100).code [] (cR (cR (cR mulC))) (mulT 20 zs sa sb so a b [o0, o1, o2, o3, o4, o5, o6, o7, o8, o9, o10, o11, o12, o13, o14, o15, o16, o17, o18, o19])).run = some (.ret, mulS5 zs sa sb so a b [o0, o1, o2, o3, o4, o5, o6, o7, o8, o9, o10, o11, o12, o13, o14, o15, o16, o17, o18, o19]) := by
  kernel_rfl
theorem mul_res (zs : List Value) (sa sb so : Bool) (a b : List Int) (o0 o1 o2 o3 o4 o5 o6 o7 o8 o9 o10 o11 o12 o13 o14 o15 o16 o17 o18 o19 : Int) : resultsA Tryd.prog [] Tryd.f58 (mulS5 zs sa sb so a b [o0, o1, o2, o3, o4, o5, o6, o7, o8, o9, o10, o11, o12, o13, o14, o15, o16, o17, o18, o19]).tmps (mulS5 zs sa sb so a b [o0, o1, o2, o3, o4, o5, o6, o7, o8, o9, o10, o11, o12, o13, o14, o15, o16, o17, o18, o19]).h = some (.agg ⟨.bool so :: mapU [o0, o1, o2, o3, o4, o5, o6, o7, o8, o9, o10, o11, o12, o13, o14, o15, o16, o17, o18, o19]⟩) := by
  kernel_rfl
theorem sat_of {c : Code} {st s : St} {x : Exit} (hok : cok c = true) (h : ((ev envS 100).code [] c st).run = some (x, s)) : SatCode Tryd.prog [] c st x s := sat_read envS hcokP 100 (r := (x, s)) hok h
theorem mul_k1 : cok (cL mulC) = true := by kernel_rfl
theorem mul_k2 : cok (cL (cR mulC)) = true := by kernel_rfl
theorem mul_k3 : cok (cL (cL (cR (cR mulC)))) = true := by kernel_rfl
theorem mul_k5 : cok (cR (cR (cR mulC))) = true := by kernel_rfl
theorem mul_q1 : mulC = .seq (cL mulC) (cR mulC) := by kernel_rfl
theorem mul_q2 : cR mulC = .seq (cL (cR mulC)) (cR (cR mulC)) := by kernel_rfl
theorem mul_q3 : cR (cR mulC) = .seq (cL (cR (cR mulC))) (cR (cR (cR mulC))) := by kernel_rfl
theorem mul_q4 : cL (cR (cR mulC)) = .seq (cL (cL (cR (cR mulC)))) (cR (cL (cR (cR mulC)))) := by kernel_rfl
theorem mul_q5 : cR (cL (cR (cR mulC))) = .block 0 mulL := by kernel_rfl
theorem mul_z1 (sa sb : Bool) (a0 a1 a2 a3 a4 a5 a6 a7 a8 a9 a10 a11 a12 a13 a14 a15 a16 a17 a18 a19 b0 b1 b2 b3 b4 b5 b6 b7 b8 b9 b10 b11 b12 b13 b14 b15 b16 b17 b18 b19 : Int) : SatCode Tryd.prog [] (cL mulC) (mulS0 sa sb [a0, a1, a2, a3, a4, a5, a6, a7, a8, a9, a10, a11, a12, a13, a14, a15, a16, a17, a18, a19] [b0, b1, b2, b3, b4, b5, b6, b7, b8, b9, b10, b11, b12, b13, b14, b15, b16, b17, b18, b19]) .normal (mulS1 sa sb [a0, a1, a2, a3, a4, a5, a6, a7, a8, a9, a10, a11, a12, a13, a14, a15, a16, a17, a18, a19] [b0, b1, b2, b3, b4, b5, b6, b7, b8, b9, b10, b11, b12, b13, b14, b15, b16, b17, b18, b19]) := sat_of mul_k1 (mul_p1 sa sb a0 a1 a2 a3 a4 a5 a6 a7 a8 a9 a10 a11 a12 a13 a14 a15 a16 a17 a18 a19 b0 b1 b2 b3 b4 b5 b6 b7 b8 b9 b10 b11 b12 b13 b14 b15 b16 b17 b18 b19)
theorem mul_z2 (sa sb : Bool) (a0 a1 a2 a3 a4 a5 a6 a7 a8 a9 a10 a11 a12 a13 a14 a15 a16 a17 a18 a19 b0 b1 b2 b3 b4 b5 b6 b7 b8 b9 b10 b11 b12 b13 b14 b15 b16 b17 b18 b19 : Int) : SatCode Tryd.prog [] (cL (cR mulC)) (mulS1 sa sb [a0, a1, a2, a3, a4, a5, a6, a7, a8, a9, a10, a11, a12, a13, a14, a15, a16, a17, a18, a19] [b0, b1, b2, b3, b4, b5, b6, b7, b8, b9, b10, b11, b12, b13, b14, b15, b16, b17, b18, b19]) .normal (mulS2 sa sb [a0, a1, a2, a3, a4, a5, a6, a7, a8, a9, a10, a11, a12, a13, a14, a15, a16, a17, a18, a19] [b0, b1, b2, b3, b4, b5, b6, b7, b8, b9, b10, b11, b12, b13, b14, b15, b16, b17, b18, b19]) := sat_of mul_k2 (mul_p2 sa sb a0 a1 a2 a3 a4 a5 a6 a7 a8 a9 a10 a11 a12 a13 a14 a15 a16 a17 a18 a19 b0 b1 b2 b3 b4 b5 b6 b7 b8 b9 b10 b11 b12 b13 b14 b15 b16 b17 b18 b19)
theorem mul_z3 (sa sb : Bool) (a0 a1 a2 a3 a4 a5 a6 a7 a8 a9 a10 a11 a12 a13 a14 a15 a16 a17 a18 a19 b0 b1 b2 b3 b4 b5 b6 b7 b8 b9 b10 b11 b12 b13 b14 b15 b16 b17 b18 b19 : Int) : SatCode Tryd.prog [] (cL (cL (cR (cR mulC)))) (mulS2 sa sb [a0, a1, a2, a3, a4, a5, a6, a7, a8, a9, a10, a11, a12, a13, a14, a15, a16, a17, a18, a19] [b0, b1, b2, b3, b4, b5, b6, b7, b8, b9, b10, b11, b12, b13, b14, b15, b16, b17, b18, b19]) .normal (mulS3 sa sb [a0, a1, a2, a3, a4, a5, a6, a7, a8, a9, a10, a11, a12, a13, a14, a15, a16, a17, a18, a19] [b0, b1, b2, b3, b4, b5, b6, b7, b8, b9, b10, b11, b12, b13, b14, b15, b16, b17, b18, b19]) := sat_of mul_k3 (mul_p3 sa sb a0 a1 a2 a3 a4 a5 a6 a7 a8 a9 a10 a11 a12 a13 a14 a15 a16 a17 a18 a19 b0 b1 b2 b3 b4 b5 b6 b7 b8 b9 b10 b11 b12 b13 b14 b15 b16 b17 b18 b19)
theorem mul_z5 (zs : List Value) (sa sb so : Bool) (a b : List Int) (o0 o1 o2 o3 o4 o5 o6 o7 o8 o9 o10 o11 o12 o13 o14 o15 o16 o17 o18 o19 : Int) : SatCode Tryd.prog [] (cR (cR (cR mulC))) (mulT 20 zs sa sb so a b [o0, o1, o2, o3, o4, o5, o6, o7, o8, o9, o10, o11, o12, o13, o14, o15, o16, o17, o18, o19]) .ret (mulS5 zs sa sb so a b [o0, o1, o2, o3, o4, o5, o6, o7, o8, o9, o10, o11, o12, o13, o14, o15, o16, o17, o18, o19]) := sat_of mul_k5 (mul_p5 zs sa sb so a b o0 o1 o2 o3 o4 o5 o6 o7 o8 o9 o10 o11 o12 o13 o14 o15 o16 o17 o18 o19)
theorem mul_sat (sa sb : Bool) (a0 a1 a2 a3 a4 a5 a6 a7 a8 a9 a10 a11 a12 a13 a14 a15 a16 a17 a18 a19 b0 b1 b2 b3 b4 b5 b6 b7 b8 b9 b10 b11 b12 b13 b14 b15 b16 b17 b18 b19 : Int) (zs : List Value) {o : List Int} (ho : o.length = 20)
    (h : SatCode Tryd.prog [] mulL (mulT 0 (tlOf (mulS3 sa sb [a0, a1, a2, a3, a4, a5, a6, a7, a8, a9, a10, a11, a12, a13, a14, a15, a16, a17, a18, a19] [b0, b1, b2, b3, b4, b5, b6, b7, b8, b9, b10, b11, b12, b13, b14, b15, b16, b17, b18, b19])) sa sb (sa != sb) [a0, a1, a2, a3, a4, a5, a6, a7, a8, a9, a10, a11, a12, a13, a14, a15, a16, a17, a18, a19] [b0, b1, b2, b3, b4, b5, b6, b7, b8, b9, b10, b11, b12, b13, b14, b15, b16, b17, b18, b19] [0, 0, 0, 0, 0, 0, 0, 0, 0, 0, 0, 0, 0, 0, 0, 0, 0, 0, 0, 0]) (.exit 0) (mulT 20 zs sa sb (sa != sb) [a0, a1, a2, a3, a4, a5, a6, a7, a8, a9, a10, a11, a12, a13, a14, a15, a16, a17, a18, a19] [b0, b1, b2, b3, b4, b5, b6, b7, b8, b9, b10, b11, b12, b13, b14, b15, b16, b17, b18, b19] o)) : SatCode Tryd.prog [] mulC (mulS0 sa sb [a0, a1, a2, a3, a4, a5, a6, a7, a8, a9, a10, a11, a12, a13, a14, a15, a16, a17, a18, a19] [b0, b1, b2, b3, b4, b5, b6, b7, b8, b9, b10, b11, b12, b13, b14, b15, b16, b17, b18, b19]) .ret (mulS5 zs sa sb (sa != sb) [a0, a1, a2, a3, a4, a5, a6, a7, a8, a9, a10, a11, a12, a13, a14, a15, a16, a17, a18, a19] [b0, b1, b2, b3, b4, b5, b6, b7, b8, b9, b10, b11, b12, b13, b14, b15, b16, b17, b18, b19] o) := by
  have h1 := sat_arr (mul_a3 sa sb a0 a1 a2 a3 a4 a5 a6 a7 a8 a9 a10 a11 a12 a13 a14 a15 a16 a17 a18 a19 b0 b1 b2 b3 b4 b5 b6 b7 b8 b9 b10 b11 b12 b13 b14 b15 b16 b17 b18 b19) (mul_h3 sa sb a0 a1 a2 a3 a4 a5 a6 a7 a8 a9 a10 a11 a12 a13 a14 a15 a16 a17 a18 a19 b0 b1 b2 b3 b4 b5 b6 b7 b8 b9 b10 b11 b12 b13 b14 b15 b16 b17 b18 b19) (mul_n3 sa sb a0 a1 a2 a3 a4 a5 a6 a7 a8 a9 a10 a11 a12 a13 a14 a15 a16 a17 a18 a19 b0 b1 b2 b3 b4 b5 b6 b7 b8 b9 b10 b11 b12 b13 b14 b15 b16 b17 b18 b19) (sat_block mul_q5 h)
  have h2 := sat_seq mul_q4 (mul_z3 sa sb a0 a1 a2 a3 a4 a5 a6 a7 a8 a9 a10 a11 a12 a13 a14 a15 a16 a17 a18 a19 b0 b1 b2 b3 b4 b5 b6 b7 b8 b9 b10 b11 b12 b13 b14 b15 b16 b17 b18 b19) h1
  obtain ⟨o0, o1, o2, o3, o4, o5, o6, o7, o8, o9, o10, o11, o12, o13, o14, o15, o16, o17, o18, o19, rfl⟩ := list20 ho
  exact sat_seq mul_q1 (mul_z1 sa sb a0 a1 a2 a3 a4 a5 a6 a7 a8 a9 a10 a11 a12 a13 a14 a15 a16 a17 a18 a19 b0 b1 b2 b3 b4 b5 b6 b7 b8 b9 b10 b11 b12 b13 b14 b15 b16 b17 b18 b19) (sat_seq mul_q2 (mul_z2 sa sb a0 a1 a2 a3 a4 a5 a6 a7 a8 a9 a10 a11 a12 a13 a14 a15 a16 a17 a18 a19 b0 b1 b2 b3 b4 b5 b6 b7 b8 b9 b10 b11 b12 b13 b14 b15 b16 b17 b18 b19) (sat_seq mul_q3 h2 (mul_z5 zs sa sb (sa != sb) [a0, a1, a2, a3, a4, a5, a6, a7, a8, a9, a10, a11, a12, a13, a14, a15, a16, a17, a18, a19] [b0, b1, b2, b3, b4, b5, b6, b7, b8, b9, b10, b11, b12, b13, b14, b15, b16, b17, b18, b19] o0 o1 o2 o3 o4 o5 o6 o7 o8 o9 o10 o11 o12 o13 o14 o15 o16 o17 o18 o19)))
theorem mul_call (sa sb : Bool) (a0 a1 a2 a3 a4 a5 a6 a7 a8 a9 a10 a11 a12 a13 a14 a15 a16 a17 a18 a19 b0 b1 b2 b3 b4 b5 b6 b7 b8 b9 b10 b11 b12 b13 b14 b15 b16 b17 b18 b19 : Int) (zs : List Value) {o : List Int} (ho : o.length = 20)
    (h : SatCode Tryd.prog [] mulC ⟨Go.Den.start (mulA sa sb [a0, a1, a2, a3, a4, a5, a6, a7, a8, a9, a10, a11, a12, a13, a14, a15, a16, a17, a18, a19] [b0, b1, b2, b3, b4, b5, b6, b7, b8, b9, b10, b11, b12, b13, b14, b15, b16, b17, b18, b19]).toList Tryd.f58.ntmps, [], B0⟩ .ret (mulS5 zs sa sb (sa != sb) [a0, a1, a2, a3, a4, a5, a6, a7, a8, a9, a10, a11, a12, a13, a14, a15, a16, a17, a18, a19] [b0, b1, b2, b3, b4, b5, b6, b7, b8, b9, b10, b11, b12, b13, b14, b15, b16, b17, b18, b19] o)) (w : World) :
    Calls Tryd.prog 58 (mulA sa sb [a0, a1, a2, a3, a4, a5, a6, a7, a8, a9, a10, a11, a12, a13, a14, a15, a16, a17, a18, a19] [b0, b1, b2, b3, b4, b5, b6, b7, b8, b9, b10, b11, b12, b13, b14, b15, b16, b17, b18, b19]) w fun e w' => e = .returned (.agg ⟨.bool (sa != sb) :: mapU o⟩) ∧ Below w.heap.size w w' := by
  obtain ⟨o0, o1, o2, o3, o4, o5, o6, o7, o8, o9, o10, o11, o12, o13, o14, o15, o16, o17, o18, o19, rfl⟩ := list20 ho
  have hb : Tryd.f58.body = some mulC := by kernel_rfl
  have c := sat_call Tryd.func58 hb (by kernel_rfl) h (.inr rfl) (mul_res zs sa sb (sa != sb) [a0, a1, a2, a3, a4, a5, a6, a7, a8, a9, a10, a11, a12, a13, a14, a15, a16, a17, a18, a19] [b0, b1, b2, b3, b4, b5, b6, b7, b8, b9, b10, b11, b12, b13, b14, b15, b16, b17, b18, b19] o0 o1 o2 o3 o4 o5 o6 o7 o8 o9 o10 o11 o12 o13 o14 o15 o16 o17 o18 o19)
  exact calls_sat c (all_bel (by rw [belL, bel_num, belL, bel_num]; rfl)) (bel_num _ _) w
theorem mul_len (a b : List Int) : ∀ (i : Nat) (o : List Int), o.length = 20 → (mulGo b a i o).length = 20 := by
  induction a with
  | nil => exact fun _ _ h => h
  | cons x a ih => exact fun i o h => ih (i + 1) _ (by rw [carry_len, mrow_len, h])
theorem mul_calls {sa sb : Bool} {a b : List Int} (ha : a.length = 20) (hb : b.length = 20) (w : World) : Calls Tryd.prog 58 (mulA sa sb a b) w fun e w' => e = .returned (.agg ⟨.bool (sa != sb) :: mapU (mulGo b a 0 [0, 0, 0, 0, 0, 0, 0, 0, 0, 0, 0, 0, 0, 0, 0, 0, 0, 0, 0, 0])⟩) ∧ Below w.heap.size w w' := by
  have hlen := mul_len a b 0 [0, 0, 0, 0, 0, 0, 0, 0, 0, 0, 0, 0, 0, 0, 0, 0, 0, 0, 0, 0] rfl
  obtain ⟨a0, a1, a2, a3, a4, a5, a6, a7, a8, a9, a10, a11, a12, a13, a14, a15, a16, a17, a18, a19, rfl⟩ := list20 ha
  obtain ⟨b0, b1, b2, b3, b4, b5, b6, b7, b8, b9, b10, b11, b12, b13, b14, b15, b16, b17, b18, b19, rfl⟩ := list20 hb
  obtain ⟨zs, h⟩ := mul_f0 sa sb (sa != sb) a0 a1 a2 a3 a4 a5 a6 a7 a8 a9 a10 a11 a12 a13 a14 a15 a16 a17 a18 a19 b0 b1 b2 b3 b4 b5 b6 b7 b8 b9 b10 b11 b12 b13 b14 b15 b16 b17 b18 b19 (tlOf (mulS3 sa sb [a0, a1, a2, a3, a4, a5, a6, a7, a8, a9, a10, a11, a12, a13, a14, a15, a16, a17, a18, a19] [b0, b1, b2, b3, b4, b5, b6, b7, b8, b9, b10, b11, b12, b13, b14, b15, b16, b17, b18, b19])) [0, 0, 0, 0, 0, 0, 0, 0, 0, 0, 0, 0, 0, 0, 0, 0, 0, 0, 0, 0] rfl
  generalize mulGo [b0, b1, b2, b3, b4, b5, b6, b7, b8, b9, b10, b11, b12, b13, b14, b15, b16, b17, b18, b19] [a0, a1, a2, a3, a4, a5, a6, a7, a8, a9, a10, a11, a12, a13, a14, a15, a16, a17, a18, a19] 0 [0, 0, 0, 0, 0, 0, 0, 0, 0, 0, 0, 0, 0, 0, 0, 0, 0, 0, 0, 0] = o at *
  exact mul_call sa sb a0 a1 a2 a3 a4 a5 a6 a7 a8 a9 a10 a11 a12 a13 a14 a15 a16 a17 a18 a19 b0 b1 b2 b3 b4 b5 b6 b7 b8 b9 b10 b11 b12 b13 b14 b15 b16 b17 b18 b19 zs hlen (mul_sat sa sb a0 a1 a2 a3 a4 a5 a6 a7 a8 a9 a10 a11 a12 a13 a14 a15 a16 a17 a18 a19 b0 b1 b2 b3 b4 b5 b6 b7 b8 b9 b10 b11 b12 b13 b14 b15 b16 b17 b18 b19 zs hlen h) w
def rmulS : Array Value → Option (Bool × Value)
  | ⟨[.agg ⟨.bool s1 :: r1⟩, .agg ⟨.bool s2 :: r2⟩]⟩ => some (okNum r1 && (okNum r2 && decide (mag r1 * mag r2 < T320)), nv (s1 != s2) (mag r1 * mag r2))
  | _ => none
def pcRMul : PC Tryd.prog where
  f := 58
  spec := rmulS
  body := by kernel_rfl
  ok := fun args r hr hok => by
    unfold rmulS at hr
    split at hr
    · rename_i s1 r1 s2 r2
      cases hr
      simp only [Bool.and_eq_true, decide_eq_true_eq] at hok
      obtain ⟨k1, k2, k3⟩ := hok
      obtain ⟨a, rfl, hl1, hp1, hm1⟩ := num_out k1
      obtain ⟨b, rfl, hl2, hp2, hm2⟩ := num_out k2
      have hb : (#[Value.agg ⟨.bool s1 :: mapU a⟩, Value.agg ⟨.bool s2 :: mapU b⟩] : Array Value).all (bel B0) = true := all_bel (by rw [belL, bel_num, belL, bel_num]; rfl)
      refine ⟨hb, bel_nv _ _, fun w => (mul_calls hl1 hl2 w).mono ?_⟩
      rintro e w' ⟨rfl, hB⟩
      refine ⟨?_, hB⟩
      rw [hm1, hm2] at k3 ⊢
      have z0 : Pcs [0, 0, 0, 0, 0, 0, 0, 0, 0, 0, 0, 0, 0, 0, 0, 0, 0, 0, 0, 0] := by intro x hx; simp only [List.mem_cons, List.not_mem_nil, or_false, or_self] at hx; omega
      have v0 : val [0, 0, 0, 0, 0, 0, 0, 0, 0, 0, 0, 0, 0, 0, 0, 0, 0, 0, 0, 0] = 0 := by simp [val]
      obtain ⟨g1, g2, g3⟩ := mulGo_ok hp2 hl2 a 0 [0, 0, 0, 0, 0, 0, 0, 0, 0, 0, 0, 0, 0, 0, 0, 0, 0, 0, 0, 0] hp1 z0 rfl (by omega) (by rw [v0, B16_0]; omega)
      rw [v0, B16_0, Int.one_mul, Int.zero_add] at g3
      exact congrArg Ending.returned (nv_of g2 g1 g3)
    · cases hr
end

end Go.Proofs.YtecmhjhjmhliiaaDoor


/-
  The document's sums, and which of two numbers is greater.
-/

namespace Go.Proofs.YtecmhjhjmhliiaaDoor

open Go.Den Go.RowKit
noncomputable section
set_option maxRecDepth 100000

def sv (s : Bool) (n : Int) : Int := bif s then -n else n
theorem add_ff (a0 a1 a2 a3 a4 a5 a6 a7 a8 a9 a10 a11 a12 a13 a14 a15 a16 a17 a18 a19 b0 b1 b2 b3 b4 b5 b6 b7 b8 b9 b10 b11 b12 b13 b14 b15 b16 b17 b18 b19 : Int) (Q : Value → Prop) : ((ev envR1 300).call [] 50 #[.agg ⟨.bool false :: mapU [a0, a1, a2, a3, a4, a5, a6, a7, a8, a9, a10, a11, a12, a13, a14, a15, a16, a17, a18, a19]⟩, .agg ⟨.bool false :: mapU [b0, b1, b2, b3, b4, b5, b6, b7, b8, b9, b10, b11, b12, b13, b14, b15, b16, b17, b18, b19]⟩] [] B0).holds (fun r => Q r.v) =
  Q (.agg ⟨.bool false :: mapU (addGo [a1, a2, a3, a4, a5, a6, a7, a8, a9, a10, a11, a12, a13, a14, a15, a16, a17, a18, a19] a0 [b0, b1, b2, b3, b4, b5, b6, b7, b8, b9, b10, b11, b12, b13, b14, b15, b16, b17, b18, b19])⟩) := by kernel_rfl
theorem add_tt (a0 a1 a2 a3 a4 a5 a6 a7 a8 a9 a10 a11 a12 a13 a14 a15 a16 a17 a18 a19 b0 b1 b2 b3 b4 b5 b6 b7 b8 b9 b10 b11 b12 b13 b14 b15 b16 b17 b18 b19 : Int) (Q : Value → Prop) : ((ev envR1 300).call [] 50 #[.agg ⟨.bool true :: mapU [a0, a1, a2, a3, a4, a5, a6, a7, a8, a9, a10, a11, a12, a13, a14, a15, a16, a17, a18, a19]⟩, .agg ⟨.bool true :: mapU [b0, b1, b2, b3, b4, b5, b6, b7, b8, b9, b10, b11, b12, b13, b14, b15, b16, b17, b18, b19]⟩] [] B0).holds (fun r => Q r.v) =
  Q (.agg ⟨.bool true :: mapU (addGo [a1, a2, a3, a4, a5, a6, a7, a8, a9, a10, a11, a12, a13, a14, a15, a16, a17, a18, a19] a0 [b0, b1, b2, b3, b4, b5, b6, b7, b8, b9, b10, b11, b12, b13, b14, b15, b16, b17, b18, b19])⟩) := by kernel_rfl
theorem add_ft (a0 a1 a2 a3 a4 a5 a6 a7 a8 a9 a10 a11 a12 a13 a14 a15 a16 a17 a18 a19 b0 b1 b2 b3 b4 b5 b6 b7 b8 b9 b10 b11 b12 b13 b14 b15 b16 b17 b18 b19 : Int) (Q : Value → Prop) : ((ev envR1 300).call [] 50 #[.agg ⟨.bool false :: mapU [a0, a1, a2, a3, a4, a5, a6, a7, a8, a9, a10, a11, a12, a13, a14, a15, a16, a17, a18, a19]⟩, .agg ⟨.bool true :: mapU [b0, b1, b2, b3, b4, b5, b6, b7, b8, b9, b10, b11, b12, b13, b14, b15, b16, b17, b18, b19]⟩] [] B0).holds (fun r => Q r.v) =
  bcase (okNum (mapU [a0, a1, a2, a3, a4, a5, a6, a7, a8, a9, a10, a11, a12, a13, a14, a15, a16, a17, a18, a19]) && okNum (mapU [b0, b1, b2, b3, b4, b5, b6, b7, b8, b9, b10, b11, b12, b13, b14, b15, b16, b17, b18, b19])) (bcase (decide (cmpI (mag (mapU [a0, a1, a2, a3, a4, a5, a6, a7, a8, a9, a10, a11, a12, a13, a14, a15, a16, a17, a18, a19])) (mag (mapU [b0, b1, b2, b3, b4, b5, b6, b7, b8, b9, b10, b11, b12, b13, b14, b15, b16, b17, b18, b19])) < 0)) (Q (.agg ⟨.bool true :: mapU (subGo [b0, b1, b2, b3, b4, b5, b6, b7, b8, b9, b10, b11, b12, b13, b14, b15, b16, b17, b18, b19] [a0, a1, a2, a3, a4, a5, a6, a7, a8, a9, a10, a11, a12, a13, a14, a15, a16, a17, a18, a19] 0)⟩)) (Q (.agg ⟨.bool false :: mapU (subGo [a0, a1, a2, a3, a4, a5, a6, a7, a8, a9, a10, a11, a12, a13, a14, a15, a16, a17, a18, a19] [b0, b1, b2, b3, b4, b5, b6, b7, b8, b9, b10, b11, b12, b13, b14, b15, b16, b17, b18, b19] 0)⟩))) False := by kernel_rfl
theorem add_tf (a0 a1 a2 a3 a4 a5 a6 a7 a8 a9 a10 a11 a12 a13 a14 a15 a16 a17 a18 a19 b0 b1 b2 b3 b4 b5 b6 b7 b8 b9 b10 b11 b12 b13 b14 b15 b16 b17 b18 b19 : Int) (Q : Value → Prop) : ((ev envR1 300).call [] 50 #[.agg ⟨.bool true :: mapU [a0, a1, a2, a3, a4, a5, a6, a7, a8, a9, a10, a11, a12, a13, a14, a15, a16, a17, a18, a19]⟩, .agg ⟨.bool false :: mapU [b0, b1, b2, b3, b4, b5, b6, b7, b8, b9, b10, b11, b12, b13, b14, b15, b16, b17, b18, b19]⟩] [] B0).holds (fun r => Q r.v) =
  bcase (okNum (mapU [a0, a1, a2, a3, a4, a5, a6, a7, a8, a9, a10, a11, a12, a13, a14, a15, a16, a17, a18, a19]) && okNum (mapU [b0, b1, b2, b3, b4, b5, b6, b7, b8, b9, b10, b11, b12, b13, b14, b15, b16, b17, b18, b19])) (bcase (decide (cmpI (mag (mapU [a0, a1, a2, a3, a4, a5, a6, a7, a8, a9, a10, a11, a12, a13, a14, a15, a16, a17, a18, a19])) (mag (mapU [b0, b1, b2, b3, b4, b5, b6, b7, b8, b9, b10, b11, b12, b13, b14, b15, b16, b17, b18, b19])) < 0)) (Q (.agg ⟨.bool false :: mapU (subGo [b0, b1, b2, b3, b4, b5, b6, b7, b8, b9, b10, b11, b12, b13, b14, b15, b16, b17, b18, b19] [a0, a1, a2, a3, a4, a5, a6, a7, a8, a9, a10, a11, a12, a13, a14, a15, a16, a17, a18, a19] 0)⟩)) (Q (.agg ⟨.bool true :: mapU (subGo [a0, a1, a2, a3, a4, a5, a6, a7, a8, a9, a10, a11, a12, a13, a14, a15, a16, a17, a18, a19] [b0, b1, b2, b3, b4, b5, b6, b7, b8, b9, b10, b11, b12, b13, b14, b15, b16, b17, b18, b19] 0)⟩))) False := by kernel_rfl
theorem cmp_read (s1 s2 : Bool) (a0 a1 a2 a3 a4 a5 a6 a7 a8 a9 a10 a11 a12 a13 a14 a15 a16 a17 a18 a19 b0 b1 b2 b3 b4 b5 b6 b7 b8 b9 b10 b11 b12 b13 b14 b15 b16 b17 b18 b19 : Int) (Q : Value → Prop) (oa : Bool) (e_oa : oa = okNum (mapU [a0, a1, a2, a3, a4, a5, a6, a7, a8, a9, a10, a11, a12, a13, a14, a15, a16, a17, a18, a19])) (ob : Bool) (e_ob : ob = okNum (mapU [b0, b1, b2, b3, b4, b5, b6, b7, b8, b9, b10, b11, b12, b13, b14, b15, b16, b17, b18, b19])) (x1 : Int) (e_1 : x1 = mag (mapU [a0, a1, a2, a3, a4, a5, a6, a7, a8, a9, a10, a11, a12, a13, a14, a15, a16, a17, a18, a19])) (x2 : Int) (e_2 : x2 = mag (mapU [b0, b1, b2, b3, b4, b5, b6, b7, b8, b9, b10, b11, b12, b13, b14, b15, b16, b17, b18, b19])) :
    ((ev envR1 300).call [] 76 #[.agg ⟨.bool s1 :: mapU [a0, a1, a2, a3, a4, a5, a6, a7, a8, a9, a10, a11, a12, a13, a14, a15, a16, a17, a18, a19]⟩, .agg ⟨.bool s2 :: mapU [b0, b1, b2, b3, b4, b5, b6, b7, b8, b9, b10, b11, b12, b13, b14, b15, b16, b17, b18, b19]⟩] [] B0).holds (fun r => Q r.v) =
    bcase s1 (bcase oa (bcase (!(x1 == 0)) (bcase s2 (bcase ob (bcase (!(x2 == 0)) (bcase (ob && oa) (Q (.int .i64 (cmpI x2 x1))) False) (Q (.int .i64 (-1)))) False) (Q (.int .i64 (-1)))) (bcase s2 (bcase ob (bcase (!(x2 == 0)) (Q (.int .i64 1)) (bcase (oa && ob) (Q (.int .i64 (cmpI x1 x2))) False)) False) (bcase (oa && ob) (Q (.int .i64 (cmpI x1 x2))) False))) False) (bcase s2 (bcase ob (bcase (!(x2 == 0)) (Q (.int .i64 1)) (bcase (oa && ob) (Q (.int .i64 (cmpI x1 x2))) False)) False) (bcase (oa && ob) (Q (.int .i64 (cmpI x1 x2))) False)) := by
  subst e_oa e_ob e_1 e_2
  kernel_rfl
/-- The sign of a sum, as the document's sum has it. -/
def addSg (s1 : Bool) (a : Int) (s2 : Bool) (b : Int) : Bool := bif s1 == s2 then s1 else bif decide (a < b) then s2 else s1
def T304 : Int := 32592575621351777380295131014550050576823494298654980010178247189670100796213387298934358016
theorem T304_eq : B16 19 = T304 := by unfold T304 B16; rfl
def raddS : Array Value → Option (Bool × Value)
  | ⟨[.agg ⟨.bool s1 :: r1⟩, .agg ⟨.bool s2 :: r2⟩]⟩ => some (okNum r1 && (okNum r2 && (decide (mag r2 < T304) && decide (mag r1 + mag r2 < T320))), nv (addSg s1 (mag r1) s2 (mag r2)) (sz (sv s1 (mag r1) + sv s2 (mag r2))))
  | _ => none
def rcmpS : Array Value → Option (Bool × Value)
  | ⟨[.agg ⟨.bool s1 :: r1⟩, .agg ⟨.bool s2 :: r2⟩]⟩ => some (okNum r1 && okNum r2, .int .i64 (cmpI (sv s1 (mag r1)) (sv s2 (mag r2))))
  | _ => none
theorem cmp_lt (a b : Int) : decide (cmpI a b < 0) = decide (a < b) := by
  unfold cmpI; split
  · rename_i h; rw [decide_eq_decide]; omega
  · split
    · rename_i h; rw [decide_eq_decide]; omega
    · rw [decide_eq_decide]; omega
theorem add_same (s : Bool) {a b : List Int} (ha : a.length = 20) (hb : b.length = 20) (pa : Pcs a) (pb : Pcs b) (h : val b < T304) (h2 : val a + val b < T320) :
    ∃ a0 r, a = a0 :: r ∧ Value.agg ⟨.bool s :: mapU (addGo r a0 b)⟩ = nv s (val a + val b) := by
  obtain ⟨a0, r, rfl, hr⟩ := cons_of ha
  refine ⟨a0, r, rfl, ?_⟩
  have hv := pa.head
  have ht : val (b.take r.length) = val b := val_take b r.length pb (by rw [hr, T304_eq]; exact h)
  rw [val] at h2
  obtain ⟨g1, g2, g3⟩ := addGo_ok r a0 b pa.tail pb (by omega) hv.1 (by omega) (by rw [ht, hr]; exact (by rw [T320_eq]; exact h2))
  exact nv_of (by rw [g2, hr]) g1 (by rw [g3, ht, val])
theorem sub_that (s : Bool) {a b : List Int} (ha : a.length = 20) (hb : b.length = 20) (pa : Pcs a) (pb : Pcs b) (h : val b ≤ val a) : Value.agg ⟨.bool s :: mapU (subGo a b 0)⟩ = nv s (val a - val b) := by
  obtain ⟨g1, g2, g3⟩ := subGo_ok a b 0 pa pb (by omega) (by omega) (by omega) (by omega)
  exact nv_of (by rw [g2, ha]) g1 (by rw [g3]; omega)
set_option maxHeartbeats 1000000 in
def pcRAdd : PC Tryd.prog where
  f := 50
  spec := raddS
  body := by kernel_rfl
  ok := fun args r hr hok => by
    unfold raddS at hr
    split at hr
    · rename_i s1 r1 s2 r2
      cases hr
      simp only [Bool.and_eq_true, decide_eq_true_eq] at hok
      obtain ⟨k1, k2, k3, k4⟩ := hok
      obtain ⟨a, rfl, hl1, hp1, hm1⟩ := num_out k1
      obtain ⟨b, rfl, hl2, hp2, hm2⟩ := num_out k2
      have hb : (#[Value.agg ⟨.bool s1 :: mapU a⟩, Value.agg ⟨.bool s2 :: mapU b⟩] : Array Value).all (bel B0) = true := all_bel (by rw [belL, bel_num, belL, bel_num]; rfl)
      refine ⟨hb, bel_nv _ _, fun w => calls_spec envR1 hcokP 300 ?_ hb (bel_nv _ _) w⟩
      have na := (val_bd hp1).1
      have nb := (val_bd hp2).1
      rw [hm1, hm2] at k4
      rw [hm2] at k3
      have same : ∀ s, ∃ a0 r, a = a0 :: r ∧ Value.agg ⟨.bool s :: mapU (addGo r a0 b)⟩ = nv s (val a + val b) := fun s => add_same s hl1 hl2 hp1 hp2 k3 k4
      have lt : ∀ s, val b ≤ val a → Value.agg ⟨.bool s :: mapU (subGo a b 0)⟩ = nv s (val a - val b) := fun s => sub_that s hl1 hl2 hp1 hp2
      have gt : ∀ s, val a ≤ val b → Value.agg ⟨.bool s :: mapU (subGo b a 0)⟩ = nv s (val b - val a) := fun s => sub_that s hl2 hl1 hp2 hp1
      clear hp1 hp2 hb k3 k4
      show Tree.holds (fun r : VR => r.v = nv (addSg s1 (mag (mapU a)) s2 (mag (mapU b))) (sz (sv s1 (mag (mapU a)) + sv s2 (mag (mapU b))))) _
      generalize hx : mag (mapU a) = x at *
      generalize hy : mag (mapU b) = y at *
      simp only [← hm1, ← hm2] at same lt gt na nb
      clear hm1 hm2
      obtain ⟨a0, a1, a2, a3, a4, a5, a6, a7, a8, a9, a10, a11, a12, a13, a14, a15, a16, a17, a18, a19, rfl⟩ := list20 hl1
      obtain ⟨b0, b1, b2, b3, b4, b5, b6, b7, b8, b9, b10, b11, b12, b13, b14, b15, b16, b17, b18, b19, rfl⟩ := list20 hl2
      cases s1 <;> cases s2
      · refine (add_ff a0 a1 a2 a3 a4 a5 a6 a7 a8 a9 a10 a11 a12 a13 a14 a15 a16 a17 a18 a19 b0 b1 b2 b3 b4 b5 b6 b7 b8 b9 b10 b11 b12 b13 b14 b15 b16 b17 b18 b19 (fun v => v = nv (addSg false x false y) (sz (sv false x + sv false y)))).mpr ?_
        obtain ⟨c, r, e, h⟩ := same false
        cases e
        rw [h]
        have e : sz (sv false x + sv false y) = x + y := by unfold sz sv; simp only [cond_false]; omega
        rw [e]; rfl
      · refine (add_ft a0 a1 a2 a3 a4 a5 a6 a7 a8 a9 a10 a11 a12 a13 a14 a15 a16 a17 a18 a19 b0 b1 b2 b3 b4 b5 b6 b7 b8 b9 b10 b11 b12 b13 b14 b15 b16 b17 b18 b19 (fun v => v = nv (addSg false x true y) (sz (sv false x + sv true y)))).mpr ?_
        rw [k1, k2, Bool.and_self, bcase_t, hx, hy, cmp_lt]
        refine bcase_in (fun q => ?_) fun q => ?_
        · rw [decide_eq_true_eq] at q
          rw [gt true (by omega)]
          have e : sz (sv false x + sv true y) = y - x := by unfold sz sv; simp only [cond_false, cond_true]; omega
          have e2 : addSg false x true y = true := by unfold addSg; rw [decide_eq_true q]; rfl
          rw [e, e2]
        · rw [decide_eq_false_iff_not] at q
          rw [lt false (by omega)]
          have e : sz (sv false x + sv true y) = x - y := by unfold sz sv; simp only [cond_false, cond_true]; omega
          have e2 : addSg false x true y = false := by unfold addSg; rw [decide_eq_false q]; rfl
          rw [e, e2]
      · refine (add_tf a0 a1 a2 a3 a4 a5 a6 a7 a8 a9 a10 a11 a12 a13 a14 a15 a16 a17 a18 a19 b0 b1 b2 b3 b4 b5 b6 b7 b8 b9 b10 b11 b12 b13 b14 b15 b16 b17 b18 b19 (fun v => v = nv (addSg true x false y) (sz (sv true x + sv false y)))).mpr ?_
        rw [k1, k2, Bool.and_self, bcase_t, hx, hy, cmp_lt]
        refine bcase_in (fun q => ?_) fun q => ?_
        · rw [decide_eq_true_eq] at q
          rw [gt false (by omega)]
          have e : sz (sv true x + sv false y) = y - x := by unfold sz sv; simp only [cond_false, cond_true]; omega
          have e2 : addSg true x false y = false := by unfold addSg; rw [decide_eq_true q]; rfl
          rw [e, e2]
        · rw [decide_eq_false_iff_not] at q
          rw [lt true (by omega)]
          have e : sz (sv true x + sv false y) = x - y := by unfold sz sv; simp only [cond_false, cond_true]; omega
          have e2 : addSg true x false y = true := by unfold addSg; rw [decide_eq_false q]; rfl
          rw [e, e2]
      · refine (add_tt a0 a1 a2 a3 a4 a5 a6 a7 a8 a9 a10 a11 a12 a13 a14 a15 a16 a17 a18 a19 b0 b1 b2 b3 b4 b5 b6 b7 b8 b9 b10 b11 b12 b13 b14 b15 b16 b17 b18 b19 (fun v => v = nv (addSg true x true y) (sz (sv true x + sv true y)))).mpr ?_
        obtain ⟨c, r, e, h⟩ := same true
        cases e
        rw [h]
        have e : sz (sv true x + sv true y) = x + y := by unfold sz sv; simp only [cond_true]; omega
        rw [e]; rfl
    · cases hr
theorem intE {a b : Int} (h : a = b) : Value.int .i64 a = .int .i64 b := by rw [h]
set_option maxHeartbeats 1000000 in
def pcRCmp : PC Tryd.prog where
  f := 76
  spec := rcmpS
  body := by kernel_rfl
  ok := fun args r hr hok => by
    unfold rcmpS at hr
    split at hr
    · rename_i s1 r1 s2 r2
      cases hr
      simp only [Bool.and_eq_true] at hok
      obtain ⟨k1, k2⟩ := hok
      have na := (mag_bd k1).1
      have nb := (mag_bd k2).1
      obtain ⟨a, rfl, hl1, hp1, hm1⟩ := num_out k1
      obtain ⟨b, rfl, hl2, hp2, hm2⟩ := num_out k2
      have hb : (#[Value.agg ⟨.bool s1 :: mapU a⟩, Value.agg ⟨.bool s2 :: mapU b⟩] : Array Value).all (bel B0) = true := all_bel (by rw [belL, bel_num, belL, bel_num]; rfl)
      refine ⟨hb, rfl, fun w => calls_spec envR1 hcokP 300 ?_ hb rfl w⟩
      obtain ⟨a0, a1, a2, a3, a4, a5, a6, a7, a8, a9, a10, a11, a12, a13, a14, a15, a16, a17, a18, a19, rfl⟩ := list20 hl1
      obtain ⟨b0, b1, b2, b3, b4, b5, b6, b7, b8, b9, b10, b11, b12, b13, b14, b15, b16, b17, b18, b19, rfl⟩ := list20 hl2
      refine (cmp_read s1 s2 a0 a1 a2 a3 a4 a5 a6 a7 a8 a9 a10 a11 a12 a13 a14 a15 a16 a17 a18 a19 b0 b1 b2 b3 b4 b5 b6 b7 b8 b9 b10 b11 b12 b13 b14 b15 b16 b17 b18 b19 (fun v => v = .int .i64 (cmpI (sv s1 (mag (mapU [a0, a1, a2, a3, a4, a5, a6, a7, a8, a9, a10, a11, a12, a13, a14, a15, a16, a17, a18, a19]))) (sv s2 (mag (mapU [b0, b1, b2, b3, b4, b5, b6, b7, b8, b9, b10, b11, b12, b13, b14, b15, b16, b17, b18, b19]))))) _ rfl _ rfl _ rfl _ rfl).mpr ?_
      rw [k1, k2]
      simp only [Bool.and_self, bcase_t]
      clear k1 k2 hm1 hm2 hp1 hp2 hb hl1 hl2
      generalize mag (mapU [a0, a1, a2, a3, a4, a5, a6, a7, a8, a9, a10, a11, a12, a13, a14, a15, a16, a17, a18, a19]) = x at *
      generalize mag (mapU [b0, b1, b2, b3, b4, b5, b6, b7, b8, b9, b10, b11, b12, b13, b14, b15, b16, b17, b18, b19]) = y at *
      cases s1 <;> cases s2 <;> simp only [sv, cond_true, cond_false, bcase_t, bcase_n]
      · refine bcase_in (fun q => intE ?_) fun q => intE ?_
        · have q' : y ≠ 0 := by simpa using q
          unfold cmpI; (repeat' split) <;> omega
        · have q' : y = 0 := by simpa using q
          unfold cmpI; (repeat' split) <;> omega
      · refine bcase_in (fun q => intE ?_) fun q => intE ?_
        · have q' : x ≠ 0 := by simpa using q
          unfold cmpI; (repeat' split) <;> omega
        · have q' : x = 0 := by simpa using q
          unfold cmpI; (repeat' split) <;> omega
      · refine bcase_in (fun q => ?_) fun q => ?_
        · have q' : x ≠ 0 := by simpa using q
          refine bcase_in (fun p => intE ?_) fun p => intE ?_
          · have p' : y ≠ 0 := by simpa using p
            unfold cmpI; (repeat' split) <;> omega
          · have p' : y = 0 := by simpa using p
            unfold cmpI; (repeat' split) <;> omega
        · have q' : x = 0 := by simpa using q
          refine bcase_in (fun p => intE ?_) fun p => intE ?_
          · have p' : y ≠ 0 := by simpa using p
            unfold cmpI; (repeat' split) <;> omega
          · have p' : y = 0 := by simpa using p
            unfold cmpI; (repeat' split) <;> omega
    · cases hr
def envR2 : Env Tryd.prog := envS.with false [pcROf, pcRNum, pcRNeg, pcRZero, pcRSize, pcRMul, pcRAdd, pcRCmp]
end

end Go.Proofs.YtecmhjhjmhliiaaDoor


/-
  The document's numbers from wide ones, and as such.
-/

namespace Go.Proofs.YtecmhjhjmhliiaaDoor

open Go.Den Go.RowKit
noncomputable section
set_option maxRecDepth 100000

def mostL : List Int := [65535, 65535, 65535, 65535, 65535, 65535, 65535, 32767, 0, 0, 0, 0, 0, 0, 0, 0, 0, 0, 0, 0]
def leastL : List Int := [0, 0, 0, 0, 0, 0, 0, 32768, 0, 0, 0, 0, 0, 0, 0, 0, 0, 0, 0, 0]
def topL : List Int := [0, 0, 0, 0, 1, 0, 0, 0, 0, 0, 0, 0, 0, 0, 0, 0, 0, 0, 0, 0]
def stp (h p : Int) : Int := IntKind.wrap .u64 (IntKind.wrap .u64 (65536 * h) + p)
def st4 (a b c d : Int) : Int := stp (stp (stp (stp 0 d) c) b) a
theorem wide_read (s1 : Bool) (a0 a1 a2 a3 a4 a5 a6 a7 a8 a9 a10 a11 a12 a13 a14 a15 a16 a17 a18 a19 : Int) (Q : Value → Prop) (oa : Bool) (e_oa : oa = okNum (mapU [a0, a1, a2, a3, a4, a5, a6, a7, a8, a9, a10, a11, a12, a13, a14, a15, a16, a17, a18, a19])) (x : Int) (e_x : x = sv s1 (mag (mapU [a0, a1, a2, a3, a4, a5, a6, a7, a8, a9, a10, a11, a12, a13, a14, a15, a16, a17, a18, a19]))) (u : Int) (e_u : u = st4 a4 a5 a6 a7) (v : Int) (e_v : v = st4 a0 a1 a2 a3) :
    ((ev envR2 300).call [] 56 #[.agg ⟨.bool s1 :: mapU [a0, a1, a2, a3, a4, a5, a6, a7, a8, a9, a10, a11, a12, a13, a14, a15, a16, a17, a18, a19]⟩] [] B0).holds (fun r => Q r.v) =
    bcase (oa && okNum (mapU mostL)) (bcase (decide (cmpI x (sv false (mag (mapU mostL))) > 0)) (Q (.agg ⟨[.int .i64 9223372036854775807, .int .u64 18446744073709551615]⟩))
      (bcase (oa && okNum (mapU leastL)) (bcase (decide (cmpI x (sv true (mag (mapU leastL))) < 0)) (Q (.agg ⟨[.int .i64 (-9223372036854775808), .int .u64 0]⟩))
        (bcase s1 (bcase (decide (v > 0)) (Q (.agg ⟨[.int .i64 (IntKind.wrap .i64 (IntKind.wrap .u64 (IntKind.wrap .u64 (0 - u) - 1))), .int .u64 (IntKind.wrap .u64 (0 - v))]⟩)) (Q (.agg ⟨[.int .i64 (IntKind.wrap .i64 (IntKind.wrap .u64 (0 - u))), .int .u64 (IntKind.wrap .u64 (0 - v))]⟩)))
          (Q (.agg ⟨[.int .i64 (IntKind.wrap .i64 u), .int .u64 v]⟩)))) False)) False := by
  subst e_oa e_x e_u e_v
  kernel_rfl
theorem from_read (h l : Int) (Q : Value → Prop) (z : Int) (e_z : z = mag (mapU (digsN 20 (sz h)))) (m : Int) (e_m : m = mag (mapU (digsN 20 (z * mag (mapU topL))))) (y : Int) (e_y : y = mag (mapU (digsN 20 l))) :
    ((ev envR2 300).call [] 51 #[.agg #[.int .i64 h, .int .u64 l]] [] B0).holds (fun r => Q r.v) =
    bcase (okI h) (bcase (okNum (mapU (digsN 20 (sz h))) && (okNum (mapU topL) && decide (z * mag (mapU topL) < T320)))
      (bcase (okU l) (bcase (okNum (mapU (digsN 20 (z * mag (mapU topL)))) && (okNum (mapU (digsN 20 l)) && (decide (y < T304) && decide (m + y < T320))))
        (Q (nv (addSg (decide (h < 0) != false) m false y) (sz (sv (decide (h < 0) != false) m + sv false y)))) False) False) False) False := by
  subst e_m e_y e_z
  kernel_rfl
theorem ok_most : okNum (mapU mostL) = true := by kernel_rfl
theorem ok_least : okNum (mapU leastL) = true := by kernel_rfl
theorem ok_top : okNum (mapU topL) = true := by kernel_rfl
theorem mag_most : sv false (mag (mapU mostL)) = 170141183460469231731687303715884105727 := by kernel_rfl
theorem mag_least : sv true (mag (mapU leastL)) = -170141183460469231731687303715884105728 := by kernel_rfl
theorem mag_top : mag (mapU topL) = 18446744073709551616 := by kernel_rfl
theorem cmp_gt (a b : Int) : decide (cmpI a b > 0) = decide (b < a) := by
  unfold cmpI; split
  · rename_i h; rw [decide_eq_decide]; omega
  · split
    · rename_i h; rw [decide_eq_decide]; omega
    · rw [decide_eq_decide]; omega
theorem st4_eq {a b c d : Int} (ha : 0 ≤ a ∧ a ≤ 65535) (hb : 0 ≤ b ∧ b ≤ 65535) (hc : 0 ≤ c ∧ c ≤ 65535) (hd : 0 ≤ d ∧ d ≤ 65535) : st4 a b c d = a + 65536 * b + 4294967296 * c + 281474976710656 * d := by
  have s1 : ∀ h p : Int, 0 ≤ h → h ≤ 281474976710655 → 0 ≤ p → p ≤ 65535 → stp h p = 65536 * h + p := fun h p h0 h1 p0 p1 => by
    unfold stp; rw [w64 (n := 65536 * h) (by omega) (by omega)]; exact w64 (by omega) (by omega)
  unfold st4
  rw [s1 0 d (by omega) (by omega) hd.1 hd.2, s1 _ c (by omega) (by omega) hc.1 hc.2, s1 _ b (by omega) (by omega) hb.1 hb.2, s1 _ a (by omega) (by omega) ha.1 ha.2]
  omega
def rwideS : Array Value → Option (Bool × Value)
  | ⟨[.agg ⟨.bool s :: r⟩]⟩ => some (okNum r, wv (clamp (sv s (mag r))))
  | _ => none
def rfromS : Array Value → Option (Bool × Value)
  | ⟨[.agg ⟨[.int .i64 h, .int .u64 l]⟩]⟩ => some (okW h l, nv (decide (W2 h l < 0)) (sz (W2 h l)))
  | _ => none
theorem wideE {a b n : Int} (h0 : 0 ≤ b) (h1 : b ≤ 18446744073709551615) (e : a * 18446744073709551616 + b = n) : Value.agg ⟨[.int .i64 a, .int .u64 b]⟩ = wv n := by
  unfold wv; rw [hi_of h0 h1 e, lo_of h0 h1 e]
set_option maxHeartbeats 2000000 in
def pcRWide : PC Tryd.prog where
  f := 56
  spec := rwideS
  body := by kernel_rfl
  ok := fun args r hr hok => by
    unfold rwideS at hr
    split at hr
    · rename_i s r
      cases hr
      have hok' : okNum r = true := hok
      obtain ⟨l, rfl, hl, hp, hm⟩ := num_out hok'
      have hb : (#[Value.agg ⟨.bool s :: mapU l⟩] : Array Value).all (bel B0) = true := all_bel (by rw [belL, bel_num]; rfl)
      refine ⟨hb, rfl, fun w => calls_spec envR2 hcokP 300 ?_ hb rfl w⟩
      obtain ⟨a0, a1, a2, a3, a4, a5, a6, a7, a8, a9, a10, a11, a12, a13, a14, a15, a16, a17, a18, a19, rfl⟩ := list20 hl
      refine (wide_read s a0 a1 a2 a3 a4 a5 a6 a7 a8 a9 a10 a11 a12 a13 a14 a15 a16 a17 a18 a19 (fun v => v = wv (clamp (sv s (mag (mapU [a0, a1, a2, a3, a4, a5, a6, a7, a8, a9, a10, a11, a12, a13, a14, a15, a16, a17, a18, a19]))))) _ rfl _ rfl _ rfl _ rfl).mpr ?_
      have hok2 : okNum (mapU [a0, a1, a2, a3, a4, a5, a6, a7, a8, a9, a10, a11, a12, a13, a14, a15, a16, a17, a18, a19]) = true := hok
      rw [hok2, ok_most, ok_least, mag_most, mag_least, Bool.and_self, bcase_t, bcase_t, cmp_gt, cmp_lt, hm]
      have pt := hp.tail.tail.tail.tail.tail.tail.tail.tail
      have hv := (val_bd pt).1
      have b0 := hp.head; have b1 := hp.tail.head; have b2 := hp.tail.tail.head; have b3 := hp.tail.tail.tail.head
      have b4 := hp.tail.tail.tail.tail.head; have b5 := hp.tail.tail.tail.tail.tail.head; have b6 := hp.tail.tail.tail.tail.tail.tail.head; have b7 := hp.tail.tail.tail.tail.tail.tail.tail.head
      have ev8 : val [a0, a1, a2, a3, a4, a5, a6, a7, a8, a9, a10, a11, a12, a13, a14, a15, a16, a17, a18, a19] = a0 + 65536 * (a1 + 65536 * (a2 + 65536 * (a3 + 65536 * (a4 + 65536 * (a5 + 65536 * (a6 + 65536 * (a7 + 65536 * val [a8, a9, a10, a11, a12, a13, a14, a15, a16, a17, a18, a19]))))))) := rfl
      rw [st4_eq b0 b1 b2 b3, st4_eq b4 b5 b6 b7]
      generalize val [a0, a1, a2, a3, a4, a5, a6, a7, a8, a9, a10, a11, a12, a13, a14, a15, a16, a17, a18, a19] = N at *
      generalize val [a8, a9, a10, a11, a12, a13, a14, a15, a16, a17, a18, a19] = V at *
      clear hok hok2 hok' hb hp pt hl hm
      obtain ⟨lo8, hlo⟩ : ∃ x, x = a0 + 65536 * a1 + 4294967296 * a2 + 281474976710656 * a3 := ⟨_, rfl⟩
      obtain ⟨hi8, hhi⟩ : ∃ x, x = a4 + 65536 * a5 + 4294967296 * a6 + 281474976710656 * a7 := ⟨_, rfl⟩
      rw [← hlo, ← hhi]
      have l0 : 0 ≤ lo8 ∧ lo8 ≤ 18446744073709551615 := by omega
      have h0 : 0 ≤ hi8 ∧ hi8 ≤ 18446744073709551615 := by omega
      have eN : N = lo8 + 18446744073709551616 * hi8 + 340282366920938463463374607431768211456 * V := by omega
      clear ev8 hlo hhi b0 b1 b2 b3 b4 b5 b6 b7
      refine bcase_in (fun q => ?_) fun q => bcase_in (fun q2 => ?_) fun q2 => ?_
      · rw [decide_eq_true_eq] at q
        refine wideE (by omega) (by omega) ?_
        unfold clamp; omega
      · rw [decide_eq_true_eq] at q2
        refine wideE (by omega) (by omega) ?_
        unfold clamp; omega
      · rw [decide_eq_false_iff_not] at q q2
        rw [clamp_of (by unfold InR; omega)]
        cases s
        · simp only [bcase_n, sv, cond_false] at *
          refine wideE l0.1 l0.2 ?_
          rw [IntKind.wrap_i64]; omega
        · simp only [bcase_t, sv, cond_true] at *
          have wv0 : IntKind.u64.wrap (0 - lo8) = if lo8 = 0 then 0 else 18446744073709551616 - lo8 := by rw [IntKind.wrap_u64]; split <;> omega
          have wh0 : IntKind.u64.wrap (0 - hi8) = if hi8 = 0 then 0 else 18446744073709551616 - hi8 := by rw [IntKind.wrap_u64]; split <;> omega
          rw [wv0, wh0]
          refine bcase_in (fun q3 => ?_) fun q3 => ?_
          · rw [decide_eq_true_eq] at q3
            refine wideE (by split <;> omega) (by split <;> omega) ?_
            rw [IntKind.wrap_u64, IntKind.wrap_i64]
            split <;> split <;> omega
          · rw [decide_eq_false_iff_not] at q3
            refine wideE (by split <;> omega) (by split <;> omega) ?_
            rw [IntKind.wrap_i64]
            split <;> split <;> omega
    · cases hr
theorem nvE {s s' : Bool} {n n' : Int} (h : s = s') (h2 : n = n') : nv s n = nv s' n' := by rw [h, h2]
def pcRFrom : PC Tryd.prog where
  f := 51
  spec := rfromS
  body := by kernel_rfl
  ok := fun args r hr hok => by
    unfold rfromS at hr
    split at hr
    · rename_i h l
      cases hr
      have hok' : okW h l = true := hok
      have b := okW_iff.1 hok'
      have kI : okI h = true := okI_iff.2 b.1
      have kU : okU l = true := okU_iff.2 b.2
      refine ⟨all_bel rfl, bel_nv _ _, fun w => calls_spec envR2 hcokP 300 ?_ (all_bel rfl) (bel_nv _ _) w⟩
      have z0 : 0 ≤ sz h ∧ sz h ≤ 9223372036854775808 := by unfold sz; omega
      have e1 : mag (mapU (digsN 20 (sz h))) = sz h := mag_nv z0.1 (by unfold T320; omega)
      have e2 : mag (mapU (digsN 20 (sz h * 18446744073709551616))) = sz h * 18446744073709551616 := mag_nv (by omega) (by unfold T320; omega)
      have e3 : mag (mapU (digsN 20 l)) = l := mag_nv (by omega) (by unfold T320; omega)
      refine (from_read h l (fun v => v = nv (decide (W2 h l < 0)) (sz (W2 h l))) _ rfl _ rfl _ rfl).mpr ?_
      rw [mag_top, e1, e2, e3, kI, kU, ok_nv, ok_nv, ok_nv, ok_top, decide_eq_true (show sz h * 18446744073709551616 < T320 by unfold T320; omega), decide_eq_true (show l < T304 by unfold T304; omega),
        decide_eq_true (show sz h * 18446744073709551616 + l < T320 by unfold T320; omega)]
      simp only [Bool.and_self, bcase_t]
      have ew : W2 h l = h * 18446744073709551616 + l := rfl
      rw [ew]
      cases hd : decide (h < 0)
      · rw [decide_eq_false_iff_not] at hd
        refine nvE ?_ ?_
        · rw [decide_eq_false (by omega)]; rfl
        · have e : sz h = h := by unfold sz; omega
          rw [e]; rfl
      · rw [decide_eq_true_eq] at hd
        have e : sz h = -h := by unfold sz; omega
        refine nvE ?_ ?_
        · rw [decide_eq_true (by omega)]
          have : addSg true (sz h * 18446744073709551616) false l = true := by
            unfold addSg; rw [decide_eq_false (show ¬ sz h * 18446744073709551616 < l by omega)]; rfl
          exact this
        · have : sv (true != false) (sz h * 18446744073709551616) + sv false l = h * 18446744073709551616 + l := by
            rw [e]; show -(-h * 18446744073709551616) + l = _; omega
          rw [this]
    · cases hr
def pcsR : List (PC Tryd.prog) := [pcRWide, pcRFrom, pcROf, pcRNum, pcRNeg, pcRZero, pcRSize, pcRMul, pcRAdd, pcRCmp]
def envR3 : Env Tryd.prog := envS.with false pcsR
end

end Go.Proofs.YtecmhjhjmhliiaaDoor


/-
  The document's quotient: its code in pieces, what stands at the heads of its loops; a power of two.
-/


namespace Go.Proofs.YtecmhjhjmhliiaaDoor

open Go.Den Go.RowKit
noncomputable section
set_option maxRecDepth 100000

def powS : Array Value → Option (Bool × Value)
  | ⟨[.int .i64 n]⟩ => some (decide (0 ≤ n) && decide (n ≤ 15), .int .u64 (2 ^ n.toNat))
  | _ => none
theorem pow_0 : (((ev envT 200).call [] 75 #[.int .i64 0] [] B0).run.map (·.v)) = some (.int .u64 (2 ^ ((0 : Int)).toNat)) := by kernel_rfl
theorem pow_1 : (((ev envT 200).call [] 75 #[.int .i64 1] [] B0).run.map (·.v)) = some (.int .u64 (2 ^ ((1 : Int)).toNat)) := by kernel_rfl
theorem pow_2 : (((ev envT 200).call [] 75 #[.int .i64 2] [] B0).run.map (·.v)) = some (.int .u64 (2 ^ ((2 : Int)).toNat)) := by kernel_rfl
theorem pow_3 : (((ev envT 200).call [] 75 #[.int .i64 3] [] B0).run.map (·.v)) = some (.int .u64 (2 ^ ((3 : Int)).toNat)) := by kernel_rfl
theorem pow_4 : (((ev envT 200).call [] 75 #[.int .i64 4] [] B0).run.map (·.v)) = some (.int .u64 (2 ^ ((4 : Int)).toNat)) := by kernel_rfl
theorem pow_5 : (((ev envT 200).call [] 75 #[.int .i64 5] [] B0).run.map (·.v)) = some (.int .u64 (2 ^ ((5 : Int)).toNat)) := by kernel_rfl
theorem pow_6 : (((ev envT 200).call [] 75 #[.int .i64 6] [] B0).run.map (·.v)) = some (.int .u64 (2 ^ ((6 : Int)).toNat)) := by kernel_rfl
theorem pow_7 : (((ev envT 200).call [] 75 #[.int .i64 7] [] B0).run.map (·.v)) = some (.int .u64 (2 ^ ((7 : Int)).toNat)) := by kernel_rfl
theorem pow_8 : (((ev envT 200).call [] 75 #[.int .i64 8] [] B0).run.map (·.v)) = some (.int .u64 (2 ^ ((8 : Int)).toNat)) := by kernel_rfl
theorem pow_9 : (((ev envT 200).call [] 75 #[.int .i64 9] [] B0).run.map (·.v)) = some (.int .u64 (2 ^ ((9 : Int)).toNat)) := by kernel_rfl
theorem pow_10 : (((ev envT 200).call [] 75 #[.int .i64 10] [] B0).run.map (·.v)) = some (.int .u64 (2 ^ ((10 : Int)).toNat)) := by kernel_rfl
theorem pow_11 : (((ev envT 200).call [] 75 #[.int .i64 11] [] B0).run.map (·.v)) = some (.int .u64 (2 ^ ((11 : Int)).toNat)) := by kernel_rfl
theorem pow_12 : (((ev envT 200).call [] 75 #[.int .i64 12] [] B0).run.map (·.v)) = some (.int .u64 (2 ^ ((12 : Int)).toNat)) := by kernel_rfl
theorem pow_13 : (((ev envT 200).call [] 75 #[.int .i64 13] [] B0).run.map (·.v)) = some (.int .u64 (2 ^ ((13 : Int)).toNat)) := by kernel_rfl
theorem pow_14 : (((ev envT 200).call [] 75 #[.int .i64 14] [] B0).run.map (·.v)) = some (.int .u64 (2 ^ ((14 : Int)).toNat)) := by kernel_rfl
theorem pow_15 : (((ev envT 200).call [] 75 #[.int .i64 15] [] B0).run.map (·.v)) = some (.int .u64 (2 ^ ((15 : Int)).toNat)) := by kernel_rfl
def pcPow : PC Tryd.prog where
  f := 75
  spec := powS
  body := by kernel_rfl
  ok := fun args r hr hok => by
    unfold powS at hr
    split at hr
    · rename_i n
      cases hr
      simp only [Bool.and_eq_true, decide_eq_true_eq] at hok
      refine ⟨all_bel rfl, rfl, fun w => calls_read envT hcokP 200 ?_ (all_bel rfl) rfl w⟩
      obtain ⟨h0, h1⟩ := hok
      have hn : n = 0 ∨ n = 1 ∨ n = 2 ∨ n = 3 ∨ n = 4 ∨ n = 5 ∨ n = 6 ∨ n = 7 ∨ n = 8 ∨ n = 9 ∨ n = 10 ∨ n = 11 ∨ n = 12 ∨ n = 13 ∨ n = 14 ∨ n = 15 := by omega
      rcases hn with rfl | rfl | rfl | rfl | rfl | rfl | rfl | rfl | rfl | rfl | rfl | rfl | rfl | rfl | rfl | rfl
      · exact pow_0
      · exact pow_1
      · exact pow_2
      · exact pow_3
      · exact pow_4
      · exact pow_5
      · exact pow_6
      · exact pow_7
      · exact pow_8
      · exact pow_9
      · exact pow_10
      · exact pow_11
      · exact pow_12
      · exact pow_13
      · exact pow_14
      · exact pow_15
    · cases hr
noncomputable def envF1 : Env Tryd.prog := envS.with false (pcPow :: pcsR)
noncomputable def floC : Code := codeOf 53
/-- From the quotient's signs on. -/
noncomputable def floM : Code := cR (cR (cR floC))
noncomputable def floNeg : Code := cL (cR (cL floM))
noncomputable def floPos : Code := cR floM
noncomputable def flpL : Code := cL (cR (cL floPos))
noncomputable def flpB : Code := cL flpL
noncomputable def flnL : Code := cL (cR (cL (cR floNeg)))
noncomputable def flnB : Code := cL flnL
noncomputable def flH (sa sn sq : Bool) (a n q : List Int) : AHeap := [(B0, blkN sa a), (B0 + 1, blkN sn n), (B0 + 2, blkN false [0, 0, 0, 0, 0, 0, 0, 0, 0, 0, 0, 0, 0, 0, 0, 0, 0, 0, 0, 0]), (B0 + 3, blkN sq q)]
noncomputable def flP (m nx : Nat) (zs : List Value) (sa sn sq : Bool) (a n q : List Int) : St :=
  ⟨FT.ins [getZ zs 0, getZ zs 1, ptr B0, ptr (B0 + 1), ptr (B0 + 2), ptr (B0 + 3), getZ zs 6, getZ zs 7, getZ zs 8, .int .i64 ((m : Int) - 1), getZ zs 10, getZ zs 11, getZ zs 12, getZ zs 13, getZ zs 14, getZ zs 15, getZ zs 16, getZ zs 17, getZ zs 18, getZ zs 19, getZ zs 20, getZ zs 21, getZ zs 22, getZ zs 23, getZ zs 24, getZ zs 25, getZ zs 26, getZ zs 27, getZ zs 28, getZ zs 29, getZ zs 30, getZ zs 31, getZ zs 32, getZ zs 33, getZ zs 34, getZ zs 35, getZ zs 36, getZ zs 37, getZ zs 38, getZ zs 39, getZ zs 40, getZ zs 41, getZ zs 42, getZ zs 43, getZ zs 44, getZ zs 45, getZ zs 46, getZ zs 47, getZ zs 48, getZ zs 49, getZ zs 50, getZ zs 51, getZ zs 52, getZ zs 53, getZ zs 54, getZ zs 55, getZ zs 56, getZ zs 57, getZ zs 58, getZ zs 59, getZ zs 60, getZ zs 61, getZ zs 62, getZ zs 63, getZ zs 64, getZ zs 65, getZ zs 66, getZ zs 67, getZ zs 68, getZ zs 69, getZ zs 70, getZ zs 71, getZ zs 72, getZ zs 73, getZ zs 74, getZ zs 75, getZ zs 76, getZ zs 77, getZ zs 78, getZ zs 79, getZ zs 80, getZ zs 81, getZ zs 82, getZ zs 83, getZ zs 84, getZ zs 85] 0 ⟨86, .nil⟩, flH sa sn sq a n q, nx⟩
noncomputable def flN (m nx : Nat) (zs : List Value) (sa sn sq : Bool) (a n q : List Int) : St :=
  ⟨FT.ins [getZ zs 0, getZ zs 1, ptr B0, ptr (B0 + 1), ptr (B0 + 2), ptr (B0 + 3), getZ zs 6, .int .i64 ((m : Int) - 1), getZ zs 8, getZ zs 9, getZ zs 10, getZ zs 11, getZ zs 12, getZ zs 13, getZ zs 14, getZ zs 15, getZ zs 16, getZ zs 17, getZ zs 18, getZ zs 19, getZ zs 20, getZ zs 21, getZ zs 22, getZ zs 23, getZ zs 24, getZ zs 25, getZ zs 26, getZ zs 27, getZ zs 28, getZ zs 29, getZ zs 30, getZ zs 31, getZ zs 32, getZ zs 33, getZ zs 34, getZ zs 35, getZ zs 36, getZ zs 37, getZ zs 38, getZ zs 39, getZ zs 40, getZ zs 41, getZ zs 42, getZ zs 43, getZ zs 44, getZ zs 45, getZ zs 46, getZ zs 47, getZ zs 48, getZ zs 49, getZ zs 50, getZ zs 51, getZ zs 52, getZ zs 53, getZ zs 54, getZ zs 55, getZ zs 56, getZ zs 57, getZ zs 58, getZ zs 59, getZ zs 60, getZ zs 61, getZ zs 62, getZ zs 63, getZ zs 64, getZ zs 65, getZ zs 66, getZ zs 67, getZ zs 68, getZ zs 69, getZ zs 70, getZ zs 71, getZ zs 72, getZ zs 73, getZ zs 74, getZ zs 75, getZ zs 76, getZ zs 77, getZ zs 78, getZ zs 79, getZ zs 80, getZ zs 81, getZ zs 82, getZ zs 83, getZ zs 84, getZ zs 85] 0 ⟨86, .nil⟩, flH sa sn sq a n q, nx⟩
noncomputable def brT (t : Tree (Exit × St)) : Tree (Exit × St) := Tree.rec (motive := fun _ => Tree (Exit × St)) (fun a => .leaf a) (fun _ t _ _ _ => t) .fail t
noncomputable def brF' (t : Tree (Exit × St)) : Tree (Exit × St) := Tree.rec (motive := fun _ => Tree (Exit × St)) (fun a => .leaf a) (fun _ _ f _ _ => f) .fail t
noncomputable def goT (n : Nat) (t : Tree (Exit × St)) : Tree (Exit × St) := Nat.rec (motive := fun _ => Tree (Exit × St) → Tree (Exit × St)) (fun t => t) (fun _ ih t => ih (brT t)) n t
noncomputable def setI (l : List Int) : Nat → Int → List Int := List.rec (motive := fun _ => Nat → Int → List Int) (fun _ _ => []) (fun x r ih i v => Nat.casesOn (motive := fun _ => List Int) i (v :: r) fun j => x :: ih j v) l
noncomputable def getI (l : List Int) : Nat → Int := List.rec (motive := fun _ => Nat → Int) (fun _ => 0) (fun x _ ih i => Nat.casesOn (motive := fun _ => Int) i x fun j => ih j) l
noncomputable def addP (q : List Int) (k : Nat) : List Int := setI q (k / 16) (IntKind.wrap .u64 (getI q (k / 16) + 2 ^ (k % 16)))
noncomputable def subP (q : List Int) (k : Nat) : List Int := setI q (k / 16) (IntKind.wrap .u64 (getI q (k / 16) - 2 ^ (k % 16)))
noncomputable def flpT (k : Nat) (zs : List Value) (sa sn sq : Bool) (a n q : List Int) : Tree (Exit × St) := (ev envF1 100).code [] flpB (flP (k + 1) (B0 + (133 - k)) zs sa sn sq a n q)
noncomputable def flpX (k : Nat) (zs : List Value) (sa sn sq : Bool) (a n q q' : List Int) : St := ⟨(flP k 0 zs sa sn sq a n q).tmps, flH sa sn sq a n q ++ [(B0 + (133 - k), blkN sq q')], B0 + (134 - k)⟩
def flpG (k : Nat) : Prop := ∀ (zs : List Value) (sa sn sq : Bool) (a0 a1 a2 a3 a4 a5 a6 a7 a8 a9 a10 a11 a12 a13 a14 a15 a16 a17 a18 a19 n0 n1 n2 n3 n4 n5 n6 n7 n8 n9 n10 n11 n12 n13 n14 n15 n16 n17 n18 n19 q0 q1 q2 q3 q4 q5 q6 q7 q8 q9 q10 q11 q12 q13 q14 q15 q16 q17 q18 q19 : Int), (flpT k zs sa sn sq [a0, a1, a2, a3, a4, a5, a6, a7, a8, a9, a10, a11, a12, a13, a14, a15, a16, a17, a18, a19] [n0, n1, n2, n3, n4, n5, n6, n7, n8, n9, n10, n11, n12, n13, n14, n15, n16, n17, n18, n19] [q0, q1, q2, q3, q4, q5, q6, q7, q8, q9, q10, q11, q12, q13, q14, q15, q16, q17, q18, q19]).run =
  bif okNum (mapU (addP [q0, q1, q2, q3, q4, q5, q6, q7, q8, q9, q10, q11, q12, q13, q14, q15, q16, q17, q18, q19] k)) && (okNum (mapU [n0, n1, n2, n3, n4, n5, n6, n7, n8, n9, n10, n11, n12, n13, n14, n15, n16, n17, n18, n19]) && decide (mag (mapU (addP [q0, q1, q2, q3, q4, q5, q6, q7, q8, q9, q10, q11, q12, q13, q14, q15, q16, q17, q18, q19] k)) * mag (mapU [n0, n1, n2, n3, n4, n5, n6, n7, n8, n9, n10, n11, n12, n13, n14, n15, n16, n17, n18, n19]) < T320)) then
    bif okNum (mapU (digsN 20 (mag (mapU (addP [q0, q1, q2, q3, q4, q5, q6, q7, q8, q9, q10, q11, q12, q13, q14, q15, q16, q17, q18, q19] k)) * mag (mapU [n0, n1, n2, n3, n4, n5, n6, n7, n8, n9, n10, n11, n12, n13, n14, n15, n16, n17, n18, n19])))) && okNum (mapU [a0, a1, a2, a3, a4, a5, a6, a7, a8, a9, a10, a11, a12, a13, a14, a15, a16, a17, a18, a19]) then
      bif decide (cmpI (sv (sq != sn) (mag (mapU (digsN 20 (mag (mapU (addP [q0, q1, q2, q3, q4, q5, q6, q7, q8, q9, q10, q11, q12, q13, q14, q15, q16, q17, q18, q19] k)) * mag (mapU [n0, n1, n2, n3, n4, n5, n6, n7, n8, n9, n10, n11, n12, n13, n14, n15, n16, n17, n18, n19])))))) (sv sa (mag (mapU [a0, a1, a2, a3, a4, a5, a6, a7, a8, a9, a10, a11, a12, a13, a14, a15, a16, a17, a18, a19]))) ≤ 0) then
        some (.normal, flpX k (tlOf (outOf (goT 46 (flpT k zs sa sn sq [a0, a1, a2, a3, a4, a5, a6, a7, a8, a9, a10, a11, a12, a13, a14, a15, a16, a17, a18, a19] [n0, n1, n2, n3, n4, n5, n6, n7, n8, n9, n10, n11, n12, n13, n14, n15, n16, n17, n18, n19] [q0, q1, q2, q3, q4, q5, q6, q7, q8, q9, q10, q11, q12, q13, q14, q15, q16, q17, q18, q19]))).2) sa sn sq [a0, a1, a2, a3, a4, a5, a6, a7, a8, a9, a10, a11, a12, a13, a14, a15, a16, a17, a18, a19] [n0, n1, n2, n3, n4, n5, n6, n7, n8, n9, n10, n11, n12, n13, n14, n15, n16, n17, n18, n19] (addP [q0, q1, q2, q3, q4, q5, q6, q7, q8, q9, q10, q11, q12, q13, q14, q15, q16, q17, q18, q19] k) (addP [q0, q1, q2, q3, q4, q5, q6, q7, q8, q9, q10, q11, q12, q13, q14, q15, q16, q17, q18, q19] k))
      else some (.normal, flpX k (tlOf (outOf (brF' (goT 45 (flpT k zs sa sn sq [a0, a1, a2, a3, a4, a5, a6, a7, a8, a9, a10, a11, a12, a13, a14, a15, a16, a17, a18, a19] [n0, n1, n2, n3, n4, n5, n6, n7, n8, n9, n10, n11, n12, n13, n14, n15, n16, n17, n18, n19] [q0, q1, q2, q3, q4, q5, q6, q7, q8, q9, q10, q11, q12, q13, q14, q15, q16, q17, q18, q19])))).2) sa sn sq [a0, a1, a2, a3, a4, a5, a6, a7, a8, a9, a10, a11, a12, a13, a14, a15, a16, a17, a18, a19] [n0, n1, n2, n3, n4, n5, n6, n7, n8, n9, n10, n11, n12, n13, n14, n15, n16, n17, n18, n19] [q0, q1, q2, q3, q4, q5, q6, q7, q8, q9, q10, q11, q12, q13, q14, q15, q16, q17, q18, q19] (addP [q0, q1, q2, q3, q4, q5, q6, q7, q8, q9, q10, q11, q12, q13, q14, q15, q16, q17, q18, q19] k))
    else none
  else none
noncomputable def flnT (k : Nat) (zs : List Value) (sa sn sq : Bool) (a n q : List Int) : Tree (Exit × St) := (ev envF1 100).code [] flnB (flN (k + 1) (B0 + (133 - k)) zs sa sn sq a n q)
noncomputable def flnX (k : Nat) (zs : List Value) (sa sn sq : Bool) (a n q q' : List Int) : St := ⟨(flN k 0 zs sa sn sq a n q).tmps, flH sa sn sq a n q ++ [(B0 + (133 - k), blkN sq q')], B0 + (134 - k)⟩
def flnG (k : Nat) : Prop := ∀ (zs : List Value) (sa sn sq : Bool) (a0 a1 a2 a3 a4 a5 a6 a7 a8 a9 a10 a11 a12 a13 a14 a15 a16 a17 a18 a19 n0 n1 n2 n3 n4 n5 n6 n7 n8 n9 n10 n11 n12 n13 n14 n15 n16 n17 n18 n19 q0 q1 q2 q3 q4 q5 q6 q7 q8 q9 q10 q11 q12 q13 q14 q15 q16 q17 q18 q19 : Int), (flnT k zs sa sn sq [a0, a1, a2, a3, a4, a5, a6, a7, a8, a9, a10, a11, a12, a13, a14, a15, a16, a17, a18, a19] [n0, n1, n2, n3, n4, n5, n6, n7, n8, n9, n10, n11, n12, n13, n14, n15, n16, n17, n18, n19] [q0, q1, q2, q3, q4, q5, q6, q7, q8, q9, q10, q11, q12, q13, q14, q15, q16, q17, q18, q19]).run =
  bif okNum (mapU (subP [q0, q1, q2, q3, q4, q5, q6, q7, q8, q9, q10, q11, q12, q13, q14, q15, q16, q17, q18, q19] k)) && (okNum (mapU [n0, n1, n2, n3, n4, n5, n6, n7, n8, n9, n10, n11, n12, n13, n14, n15, n16, n17, n18, n19]) && decide (mag (mapU (subP [q0, q1, q2, q3, q4, q5, q6, q7, q8, q9, q10, q11, q12, q13, q14, q15, q16, q17, q18, q19] k)) * mag (mapU [n0, n1, n2, n3, n4, n5, n6, n7, n8, n9, n10, n11, n12, n13, n14, n15, n16, n17, n18, n19]) < T320)) then
    bif okNum (mapU (digsN 20 (mag (mapU (subP [q0, q1, q2, q3, q4, q5, q6, q7, q8, q9, q10, q11, q12, q13, q14, q15, q16, q17, q18, q19] k)) * mag (mapU [n0, n1, n2, n3, n4, n5, n6, n7, n8, n9, n10, n11, n12, n13, n14, n15, n16, n17, n18, n19])))) && okNum (mapU [a0, a1, a2, a3, a4, a5, a6, a7, a8, a9, a10, a11, a12, a13, a14, a15, a16, a17, a18, a19]) then
      bif decide (cmpI (sv (sq != sn) (mag (mapU (digsN 20 (mag (mapU (subP [q0, q1, q2, q3, q4, q5, q6, q7, q8, q9, q10, q11, q12, q13, q14, q15, q16, q17, q18, q19] k)) * mag (mapU [n0, n1, n2, n3, n4, n5, n6, n7, n8, n9, n10, n11, n12, n13, n14, n15, n16, n17, n18, n19])))))) (sv sa (mag (mapU [a0, a1, a2, a3, a4, a5, a6, a7, a8, a9, a10, a11, a12, a13, a14, a15, a16, a17, a18, a19]))) ≤ 0) then
        some (.normal, flnX k (tlOf (outOf (goT 46 (flnT k zs sa sn sq [a0, a1, a2, a3, a4, a5, a6, a7, a8, a9, a10, a11, a12, a13, a14, a15, a16, a17, a18, a19] [n0, n1, n2, n3, n4, n5, n6, n7, n8, n9, n10, n11, n12, n13, n14, n15, n16, n17, n18, n19] [q0, q1, q2, q3, q4, q5, q6, q7, q8, q9, q10, q11, q12, q13, q14, q15, q16, q17, q18, q19]))).2) sa sn sq [a0, a1, a2, a3, a4, a5, a6, a7, a8, a9, a10, a11, a12, a13, a14, a15, a16, a17, a18, a19] [n0, n1, n2, n3, n4, n5, n6, n7, n8, n9, n10, n11, n12, n13, n14, n15, n16, n17, n18, n19] (subP [q0, q1, q2, q3, q4, q5, q6, q7, q8, q9, q10, q11, q12, q13, q14, q15, q16, q17, q18, q19] k) (subP [q0, q1, q2, q3, q4, q5, q6, q7, q8, q9, q10, q11, q12, q13, q14, q15, q16, q17, q18, q19] k))
      else some (.normal, flnX k (tlOf (outOf (brF' (goT 45 (flnT k zs sa sn sq [a0, a1, a2, a3, a4, a5, a6, a7, a8, a9, a10, a11, a12, a13, a14, a15, a16, a17, a18, a19] [n0, n1, n2, n3, n4, n5, n6, n7, n8, n9, n10, n11, n12, n13, n14, n15, n16, n17, n18, n19] [q0, q1, q2, q3, q4, q5, q6, q7, q8, q9, q10, q11, q12, q13, q14, q15, q16, q17, q18, q19])))).2) sa sn sq [a0, a1, a2, a3, a4, a5, a6, a7, a8, a9, a10, a11, a12, a13, a14, a15, a16, a17, a18, a19] [n0, n1, n2, n3, n4, n5, n6, n7, n8, n9, n10, n11, n12, n13, n14, n15, n16, n17, n18, n19] [q0, q1, q2, q3, q4, q5, q6, q7, q8, q9, q10, q11, q12, q13, q14, q15, q16, q17, q18, q19] (subP [q0, q1, q2, q3, q4, q5, q6, q7, q8, q9, q10, q11, q12, q13, q14, q15, q16, q17, q18, q19] k))
    else none
  else none
end

end Go.Proofs.YtecmhjhjmhliiaaDoor


/-
  The arithmetic of the document's quotient, bit by bit. No program is named here.
-/

namespace Go.Proofs.YtecmhjhjmhliiaaDoor

open Go.Den
noncomputable section
theorem setI_len : ∀ (l : List Int) (i : Nat) (v : Int), (setI l i v).length = l.length
  | [], _, _ => rfl
  | _ :: _, 0, _ => rfl
  | _ :: r, i + 1, v => by show (setI r i v).length + 1 = _; rw [setI_len r, List.length_cons]
theorem setI_pcs : ∀ (l : List Int) (i : Nat) (v : Int), Pcs l → 0 ≤ v ∧ v ≤ 65535 → Pcs (setI l i v)
  | [], _, _, h, _ => h
  | _ :: _, 0, _, h, hv => .cons hv h.tail
  | _ :: r, i + 1, v, h, hv => .cons h.head (setI_pcs r i v h.tail hv)
theorem val_setI : ∀ (l : List Int) (i : Nat) (d : Int), i < l.length → val (setI l i (getI l i + d)) = val l + B16 i * d
  | [], i, d, h => by simp at h
  | x :: r, 0, d, _ => by show val ((x + d) :: r) = _; rw [val, val, B16_0]; omega
  | x :: r, i + 1, d, h => by
    show val (x :: setI r i (getI r i + d)) = _
    rw [val, val_setI r i d (by simpa using h), val, B16_s, Int.mul_add, Int.mul_assoc]; omega
theorem getI_digit : ∀ (l : List Int) (i : Nat), Pcs l → i < l.length → getI l i = val l / B16 i % 65536
  | [], i, _, h => by simp at h
  | x :: r, 0, hp, _ => by
    have := hp.head
    show x = _
    rw [val, B16_0, Int.ediv_one]; omega
  | x :: r, i + 1, hp, h => by
    have := hp.head
    show getI r i = _
    rw [getI_digit r i hp.tail (by simpa using h), val, B16_s, ← Int.ediv_ediv_of_nonneg (by omega), show (x + 65536 * val r) / 65536 = val r by omega]
theorem two_pow (k : Nat) : (2 : Int) ^ k = B16 (k / 16) * 2 ^ (k % 16) := by
  unfold B16
  have e : (65536 : Int) = 2 ^ 16 := by rfl
  rw [e, ← Int.pow_mul, ← Int.pow_add, Nat.div_add_mod]
theorem p2_pos (k : Nat) : (1 : Int) ≤ 2 ^ k := by
  have : (0 : Int) < 2 ^ k := Int.pow_pos (by omega)
  omega
theorem p2_s (k : Nat) : (2 : Int) ^ (k + 1) = 2 * 2 ^ k := by rw [Int.pow_succ]; omega
theorem gap_up : ∀ (r : Nat) (X m : Int), r < 16 → X = 2 ^ (r + 1) * m → 0 ≤ X % 65536 + 2 ^ r ∧ X % 65536 + 2 ^ r ≤ 65535
  | 0, X, m, _, h => by simp only [Nat.reduceAdd, Int.reducePow] at h ⊢; omega
  | 1, X, m, _, h => by simp only [Nat.reduceAdd, Int.reducePow] at h ⊢; omega
  | 2, X, m, _, h => by simp only [Nat.reduceAdd, Int.reducePow] at h ⊢; omega
  | 3, X, m, _, h => by simp only [Nat.reduceAdd, Int.reducePow] at h ⊢; omega
  | 4, X, m, _, h => by simp only [Nat.reduceAdd, Int.reducePow] at h ⊢; omega
  | 5, X, m, _, h => by simp only [Nat.reduceAdd, Int.reducePow] at h ⊢; omega
  | 6, X, m, _, h => by simp only [Nat.reduceAdd, Int.reducePow] at h ⊢; omega
  | 7, X, m, _, h => by simp only [Nat.reduceAdd, Int.reducePow] at h ⊢; omega
  | 8, X, m, _, h => by simp only [Nat.reduceAdd, Int.reducePow] at h ⊢; omega
  | 9, X, m, _, h => by simp only [Nat.reduceAdd, Int.reducePow] at h ⊢; omega
  | 10, X, m, _, h => by simp only [Nat.reduceAdd, Int.reducePow] at h ⊢; omega
  | 11, X, m, _, h => by simp only [Nat.reduceAdd, Int.reducePow] at h ⊢; omega
  | 12, X, m, _, h => by simp only [Nat.reduceAdd, Int.reducePow] at h ⊢; omega
  | 13, X, m, _, h => by simp only [Nat.reduceAdd, Int.reducePow] at h ⊢; omega
  | 14, X, m, _, h => by simp only [Nat.reduceAdd, Int.reducePow] at h ⊢; omega
  | 15, X, m, _, h => by simp only [Nat.reduceAdd, Int.reducePow] at h ⊢; omega
  | r + 16, X, m, hr, h => by omega
theorem gap_down : ∀ (r : Nat) (X m : Int), r < 16 → X = 2 ^ (r + 1) * m - 1 → 0 ≤ X % 65536 - 2 ^ r ∧ X % 65536 - 2 ^ r ≤ 65535
  | 0, X, m, _, h => by simp only [Nat.reduceAdd, Int.reducePow] at h ⊢; omega
  | 1, X, m, _, h => by simp only [Nat.reduceAdd, Int.reducePow] at h ⊢; omega
  | 2, X, m, _, h => by simp only [Nat.reduceAdd, Int.reducePow] at h ⊢; omega
  | 3, X, m, _, h => by simp only [Nat.reduceAdd, Int.reducePow] at h ⊢; omega
  | 4, X, m, _, h => by simp only [Nat.reduceAdd, Int.reducePow] at h ⊢; omega
  | 5, X, m, _, h => by simp only [Nat.reduceAdd, Int.reducePow] at h ⊢; omega
  | 6, X, m, _, h => by simp only [Nat.reduceAdd, Int.reducePow] at h ⊢; omega
  | 7, X, m, _, h => by simp only [Nat.reduceAdd, Int.reducePow] at h ⊢; omega
  | 8, X, m, _, h => by simp only [Nat.reduceAdd, Int.reducePow] at h ⊢; omega
  | 9, X, m, _, h => by simp only [Nat.reduceAdd, Int.reducePow] at h ⊢; omega
  | 10, X, m, _, h => by simp only [Nat.reduceAdd, Int.reducePow] at h ⊢; omega
  | 11, X, m, _, h => by simp only [Nat.reduceAdd, Int.reducePow] at h ⊢; omega
  | 12, X, m, _, h => by simp only [Nat.reduceAdd, Int.reducePow] at h ⊢; omega
  | 13, X, m, _, h => by simp only [Nat.reduceAdd, Int.reducePow] at h ⊢; omega
  | 14, X, m, _, h => by simp only [Nat.reduceAdd, Int.reducePow] at h ⊢; omega
  | 15, X, m, _, h => by simp only [Nat.reduceAdd, Int.reducePow] at h ⊢; omega
  | r + 16, X, m, hr, h => by omega
theorem addP_ok {q : List Int} {k : Nat} {c : Int} (hl : q.length = 20) (hp : Pcs q) (hk : k < 130) (hc : val q = 2 ^ (k + 1) * c) : Pcs (addP q k) ∧ (addP q k).length = 20 ∧ val (addP q k) = val q + 2 ^ k := by
  have hi : k / 16 < q.length := by rw [hl]; omega
  have bp := B16_pos (k / 16)
  have e1 : val q / B16 (k / 16) = 2 ^ (k % 16 + 1) * c := by
    rw [hc, p2_s, two_pow k, p2_s, show 2 * (B16 (k / 16) * 2 ^ (k % 16)) * c = B16 (k / 16) * (2 * 2 ^ (k % 16) * c) by rw [Int.mul_left_comm 2, Int.mul_assoc (B16 _)], Int.mul_ediv_cancel_left _ (by omega)]
  have g := gap_up (k % 16) _ c (by omega) e1
  have gd := getI_digit q (k / 16) hp hi
  rw [← gd] at g
  have ew : IntKind.wrap .u64 (getI q (k / 16) + 2 ^ (k % 16)) = getI q (k / 16) + 2 ^ (k % 16) := w64 (by omega) (by omega)
  unfold addP
  rw [ew]
  exact ⟨setI_pcs _ _ _ hp (by omega), by rw [setI_len, hl], by rw [val_setI _ _ _ hi, ← two_pow]⟩
theorem subP_ok {q : List Int} {k : Nat} {c : Int} (hl : q.length = 20) (hp : Pcs q) (hk : k < 130) (hc : val q + 1 = 2 ^ (k + 1) * c) : Pcs (subP q k) ∧ (subP q k).length = 20 ∧ val (subP q k) = val q - 2 ^ k := by
  have hi : k / 16 < q.length := by rw [hl]; omega
  have bp := B16_pos (k / 16)
  have e1 : val q / B16 (k / 16) = 2 ^ (k % 16 + 1) * c - 1 := by
    have e2 : val q = (B16 (k / 16) - 1) + B16 (k / 16) * (2 ^ (k % 16 + 1) * c - 1) := by
      rw [Int.mul_sub, Int.mul_one, p2_s, show B16 (k / 16) * (2 * 2 ^ (k % 16) * c) = 2 * (B16 (k / 16) * 2 ^ (k % 16)) * c by rw [Int.mul_left_comm 2, Int.mul_assoc (B16 _)], ← two_pow, ← p2_s]; omega
    rw [e2, Int.add_mul_ediv_left _ _ (by omega), Int.ediv_eq_zero_of_lt (by omega) (by omega)]; omega
  have g := gap_down (k % 16) _ c (by omega) e1
  have gd := getI_digit q (k / 16) hp hi
  rw [← gd] at g
  have pp := p2_pos (k % 16)
  have ew : IntKind.wrap .u64 (getI q (k / 16) - 2 ^ (k % 16)) = getI q (k / 16) + -2 ^ (k % 16) := by rw [w64 (by omega) (by omega)]; omega
  unfold subP
  rw [ew]
  refine ⟨setI_pcs _ _ _ hp (by omega), by rw [setI_len, hl], ?_⟩
  rw [val_setI _ _ _ hi, Int.mul_neg, ← two_pow]; omega
/-- What holds where m bits are to be told, from above and from below. -/
structure UpTo (a n : Int) (m : Nat) (q : List Int) : Prop where
  len : q.length = 20
  pcs : Pcs q
  low : ∃ c, val q = 2 ^ m * c
  top : val q + 2 ^ m ≤ 1361129467683753853853498429727072845824
  le : val q * n ≤ a
  lt : a < (val q + 2 ^ m) * n
structure DownTo (a n : Int) (m : Nat) (q : List Int) : Prop where
  len : q.length = 20
  pcs : Pcs q
  low : ∃ c, val q + 1 = 2 ^ m * c
  top : val q + 1 ≤ 1361129467683753853853498429727072845824
  bot : 2 ^ m ≤ val q + 1
  le : a ≤ val q * n
  lt : (val q - 2 ^ m) * n < a
theorem UpTo.step {a n : Int} {k : Nat} {q : List Int} (h : UpTo a n (k + 1) q) (hk : k < 130) :
    (Pcs (addP q k) ∧ (addP q k).length = 20 ∧ val (addP q k) = val q + 2 ^ k) ∧ ((val q + 2 ^ k) * n ≤ a → UpTo a n k (addP q k)) ∧ (a < (val q + 2 ^ k) * n → UpTo a n k q) := by
  obtain ⟨c, hc⟩ := h.low
  have g := addP_ok h.len h.pcs hk hc
  have pp := p2_pos k
  have top := h.top
  have lt := h.lt
  rw [p2_s] at top lt hc
  refine ⟨g, fun hle => ⟨g.2.1, g.1, ⟨2 * c + 1, ?_⟩, by rw [g.2.2]; omega, by rw [g.2.2]; exact hle, ?_⟩, fun hlt => ⟨h.len, h.pcs, ⟨2 * c, ?_⟩, by omega, h.le, hlt⟩⟩
  · rw [g.2.2, hc, Int.mul_add, Int.mul_left_comm, Int.mul_assoc]; omega
  · rw [g.2.2, show val q + 2 ^ k + 2 ^ k = val q + 2 * 2 ^ k by omega]; exact lt
  · rw [hc, Int.mul_left_comm, Int.mul_assoc]
theorem DownTo.step {a n : Int} {k : Nat} {q : List Int} (h : DownTo a n (k + 1) q) (hk : k < 130) :
    (Pcs (subP q k) ∧ (subP q k).length = 20 ∧ val (subP q k) = val q - 2 ^ k) ∧ (a ≤ (val q - 2 ^ k) * n → DownTo a n k (subP q k)) ∧ ((val q - 2 ^ k) * n < a → DownTo a n k q) := by
  obtain ⟨c, hc⟩ := h.low
  have g := subP_ok h.len h.pcs hk hc
  have pp := p2_pos k
  have top := h.top
  have lt := h.lt
  have bot := h.bot
  rw [p2_s] at bot lt hc
  refine ⟨g, fun hle => ⟨g.2.1, g.1, ⟨2 * c - 1, ?_⟩, by rw [g.2.2]; omega, by rw [g.2.2]; omega, by rw [g.2.2]; exact hle, ?_⟩, fun hlt => ⟨h.len, h.pcs, ⟨2 * c, ?_⟩, by omega, by omega, h.le, hlt⟩⟩
  · rw [g.2.2, show val q - 2 ^ k + 1 = val q + 1 - 2 ^ k by omega, hc, Int.mul_sub, Int.mul_left_comm, Int.mul_assoc]; omega
  · rw [g.2.2, show val q - 2 ^ k - 2 ^ k = val q - 2 * 2 ^ k by omega]; exact lt
  · rw [hc, Int.mul_left_comm, Int.mul_assoc]
/-- A product on the way is small. -/
theorem way {x n : Int} (h0 : 0 ≤ x) (h1 : x ≤ 1361129467683753853853498429727072845824) (n0 : 0 ≤ n) (n1 : n ≤ 18446744073709551616) : 0 ≤ x * n ∧ x * n < T320 := by
  have := Int.mul_le_mul h1 n1 n0 (by omega)
  have := Int.mul_nonneg h0 n0
  unfold T320; omega
theorem cmp_le (a b : Int) : decide (cmpI a b ≤ 0) = decide (a ≤ b) := by
  unfold cmpI; split
  · rename_i h; rw [decide_eq_decide]; omega
  · split
    · rename_i h; rw [decide_eq_decide]; omega
    · rw [decide_eq_decide]; omega
end

end Go.Proofs.YtecmhjhjmhliiaaDoor


/-
  The rounds of the document's quotient, read one by one (flp 0 to 32).
-/

namespace Go.Proofs.YtecmhjhjmhliiaaDoor

open Go.Den Go.RowKit
noncomputable section
set_option maxRecDepth 100000

theorem flp_0 : flpG 0 := by
  intro zs sa sn sq a0 a1 a2 a3 a4 a5 a6 a7 a8 a9 a10 a11 a12 a13 a14 a15 a16 a17 a18 a19 n0 n1 n2 n3 n4 n5 n6 n7 n8 n9 n10 n11 n12 n13 n14 n15 n16 n17 n18 n19 q0 q1 q2 q3 q4 q5 q6 q7 q8 q9 q10 q11 q12 q13 q14 q15 q16 q17 q18 q19
  kernel_rfl
theorem flp_1 : flpG 1 := by
  intro zs sa sn sq a0 a1 a2 a3 a4 a5 a6 a7 a8 a9 a10 a11 a12 a13 a14 a15 a16 a17 a18 a19 n0 n1 n2 n3 n4 n5 n6 n7 n8 n9 n10 n11 n12 n13 n14 n15 n16 n17 n18 n19 q0 q1 q2 q3 q4 q5 q6 q7 q8 q9 q10 q11 q12 q13 q14 q15 q16 q17 q18 q19
  kernel_rfl
theorem flp_2 : flpG 2 := by
  intro zs sa sn sq a0 a1 a2 a3 a4 a5 a6 a7 a8 a9 a10 a11 a12 a13 a14 a15 a16 a17 a18 a19 n0 n1 n2 n3 n4 n5 n6 n7 n8 n9 n10 n11 n12 n13 n14 n15 n16 n17 n18 n19 q0 q1 q2 q3 q4 q5 q6 q7 q8 q9 q10 q11 q12 q13 q14 q15 q16 q17 q18 q19
  kernel_rfl
theorem flp_3 : flpG 3 := by
  intro zs sa sn sq a0 a1 a2 a3 a4 a5 a6 a7 a8 a9 a10 a11 a12 a13 a14 a15 a16 a17 a18 a19 n0 n1 n2 n3 n4 n5 n6 n7 n8 n9 n10 n11 n12 n13 n14 n15 n16 n17 n18 n19 q0 q1 q2 q3 q4 q5 q6 q7 q8 q9 q10 q11 q12 q13 q14 q15 q16 q17 q18 q19
  kernel_rfl
theorem flp_4 : flpG 4 := by
  intro zs sa sn sq a0 a1 a2 a3 a4 a5 a6 a7 a8 a9 a10 a11 a12 a13 a14 a15 a16 a17 a18 a19 n0 n1 n2 n3 n4 n5 n6 n7 n8 n9 n10 n11 n12 n13 n14 n15 n16 n17 n18 n19 q0 q1 q2 q3 q4 q5 q6 q7 q8 q9 q10 q11 q12 q13 q14 q15 q16 q17 q18 q19
  kernel_rfl
theorem flp_5 : flpG 5 := by
  intro zs sa sn sq a0 a1 a2 a3 a4 a5 a6 a7 a8 a9 a10 a11 a12 a13 a14 a15 a16 a17 a18 a19 n0 n1 n2 n3 n4 n5 n6 n7 n8 n9 n10 n11 n12 n13 n14 n15 n16 n17 n18 n19 q0 q1 q2 q3 q4 q5 q6 q7 q8 q9 q10 q11 q12 q13 q14 q15 q16 q17 q18 q19
  kernel_rfl
theorem flp_6 : flpG 6 := by
  intro zs sa sn sq a0 a1 a2 a3 a4 a5 a6 a7 a8 a9 a10 a11 a12 a13 a14 a15 a16 a17 a18 a19 n0 n1 n2 n3 n4 n5 n6 n7 n8 n9 n10 n11 n12 n13 n14 n15 n16 n17 n18 n19 q0 q1 q2 q3 q4 q5 q6 q7 q8 q9 q10 q11 q12 q13 q14 q15 q16 q17 q18 q19
  kernel_rfl
theorem flp_7 : flpG 7 := by
  intro zs sa sn sq a0 a1 a2 a3 a4 a5 a6 a7 a8 a9 a10 a11 a12 a13 a14 a15 a16 a17 a18 a19 n0 n1 n2 n3 n4 n5 n6 n7 n8 n9 n10 n11 n12 n13 n14 n15 n16 n17 n18 n19 q0 q1 q2 q3 q4 q5 q6 q7 q8 q9 q10 q11 q12 q13 q14 q15 q16 q17 q18 q19
  kernel_rfl
theorem flp_8 : flpG 8 := by
  intro zs sa sn sq a0 a1 a2 a3 a4 a5 a6 a7 a8 a9 a10 a11 a12 a13 a14 a15 a16 a17 a18 a19 n0 n1 n2 n3 n4 n5 n6 n7 n8 n9 n10 n11 n12 n13 n14 n15 n16 n17 n18 n19 q0 q1 q2 q3 q4 q5 q6 q7 q8 q9 q10 q11 q12 q13 q14 q15 q16 q17 q18 q19
  kernel_rfl
theorem flp_9 : flpG 9 := by
  intro zs sa sn sq a0 a1 a2 a3 a4 a5 a6 a7 a8 a9 a10 a11 a12 a13 a14 a15 a16 a17 a18 a19 n0 n1 n2 n3 n4 n5 n6 n7 n8 n9 n10 n11 n12 n13 n14 n15 n16 n17 n18 n19 q0 q1 q2 q3 q4 q5 q6 q7 q8 q9 q10 q11 q12 q13 q14 q15 q16 q17 q18 q19
  kernel_rfl
theorem flp_10 : flpG 10 := by
  intro zs sa sn sq a0 a1 a2 a3 a4 a5 a6 a7 a8 a9 a10 a11 a12 a13 a14 a15 a16 a17 a18 a19 n0 n1 n2 n3 n4 n5 n6 n7 n8 n9 n10 n11 n12 n13 n14 n15 n16 n17 n18 n19 q0 q1 q2 q3 q4 q5 q6 q7 q8 q9 q10 q11 q12 q13 q14 q15 q16 q17 q18 q19
  kernel_rfl
theorem flp_11 : flpG 11 := by
  intro zs sa sn sq a0 a1 a2 a3 a4 a5 a6 a7 a8 a9 a10 a11 a12 a13 a14 a15 a16 a17 a18 a19 n0 n1 n2 n3 n4 n5 n6 n7 n8 n9 n10 n11 n12 n13 n14 n15 n16 n17 n18 n19 q0 q1 q2 q3 q4 q5 q6 q7 q8 q9 q10 q11 q12 q13 q14 q15 q16 q17 q18 q19
  kernel_rfl
theorem flp_12 : flpG 12 := by
  intro zs sa sn sq a0 a1 a2 a3 a4 a5 a6 a7 a8 a9 a10 a11 a12 a13 a14 a15 a16 a17 a18 a19 n0 n1 n2 n3 n4 n5 n6 n7 n8 n9 n10 n11 n12 n13 n14 n15 n16 n17 n18 n19 q0 q1 q2 q3 q4 q5 q6 q7 q8 q9 q10 q11 q12 q13 q14 q15 q16 q17 q18 q19
  kernel_rfl
theorem flp_13 : flpG 13 := by
  intro zs sa sn sq a0 a1 a2 a3 a4 a5 a6 a7 a8 a9 a10 a11 a12 a13 a14 a15 a16 a17 a18 a19 n0 n1 n2 n3 n4 n5 n6 n7 n8 n9 n10 n11 n12 n13 n14 n15 n16 n17 n18 n19 q0 q1 q2 q3 q4 q5 q6 q7 q8 q9 q10 q11 q12 q13 q14 q15 q16 q17 q18 q19
  kernel_rfl
theorem flp_14 : flpG 14 := by
  intro zs sa sn sq a0 a1 a2 a3 a4 a5 a6 a7 a8 a9 a10 a11 a12 a13 a14 a15 a16 a17 a18 a19 n0 n1 n2 n3 n4 n5 n6 n7 n8 n9 n10 n11 n12 n13 n14 n15 n16 n17 n18 n19 q0 q1 q2 q3 q4 q5 q6 q7 q8 q9 q10 q11 q12 q13 q14 q15 q16 q17 q18 q19
  kernel_rfl
theorem flp_15 : flpG 15 := by
  intro zs sa sn sq a0 a1 a2 a3 a4 a5 a6 a7 a8 a9 a10 a11 a12 a13 a14 a15 a16 a17 a18 a19 n0 n1 n2 n3 n4 n5 n6 n7 n8 n9 n10 n11 n12 n13 n14 n15 n16 n17 n18 n19 q0 q1 q2 q3 q4 q5 q6 q7 q8 q9 q10 q11 q12 q13 q14 q15 q16 q17 q18 q19
  kernel_rfl
theorem flp_16 : flpG 16 := by
  intro zs sa sn sq a0 a1 a2 a3 a4 a5 a6 a7 a8 a9 a10 a11 a12 a13 a14 a15 a16 a17 a18 a19 n0 n1 n2 n3 n4 n5 n6 n7 n8 n9 n10 n11 n12 n13 n14 n15 n16 n17 n18 n19 q0 q1 q2 q3 q4 q5 q6 q7 q8 q9 q10 q11 q12 q13 q14 q15 q16 q17 q18 q19
  kernel_rfl
theorem flp_17 : flpG 17 := by
  intro zs sa sn sq a0 a1 a2 a3 a4 a5 a6 a7 a8 a9 a10 a11 a12 a13 a14 a15 a16 a17 a18 a19 n0 n1 n2 n3 n4 n5 n6 n7 n8 n9 n10 n11 n12 n13 n14 n15 n16 n17 n18 n19 q0 q1 q2 q3 q4 q5 q6 q7 q8 q9 q10 q11 q12 q13 q14 q15 q16 q17 q18 q19
  kernel_rfl
theorem flp_18 : flpG 18 := by
  intro zs sa sn sq a0 a1 a2 a3 a4 a5 a6 a7 a8 a9 a10 a11 a12 a13 a14 a15 a16 a17 a18 a19 n0 n1 n2 n3 n4 n5 n6 n7 n8 n9 n10 n11 n12 n13 n14 n15 n16 n17 n18 n19 q0 q1 q2 q3 q4 q5 q6 q7 q8 q9 q10 q11 q12 q13 q14 q15 q16 q17 q18 q19
  kernel_rfl
theorem flp_19 : flpG 19 := by
  intro zs sa sn sq a0 a1 a2 a3 a4 a5 a6 a7 a8 a9 a10 a11 a12 a13 a14 a15 a16 a17 a18 a19 n0 n1 n2 n3 n4 n5 n6 n7 n8 n9 n10 n11 n12 n13 n14 n15 n16 n17 n18 n19 q0 q1 q2 q3 q4 q5 q6 q7 q8 q9 q10 q11 q12 q13 q14 q15 q16 q17 q18 q19
  kernel_rfl
theorem flp_20 : flpG 20 := by
  intro zs sa sn sq a0 a1 a2 a3 a4 a5 a6 a7 a8 a9 a10 a11 a12 a13 a14 a15 a16 a17 a18 a19 n0 n1 n2 n3 n4 n5 n6 n7 n8 n9 n10 n11 n12 n13 n14 n15 n16 n17 n18 n19 q0 q1 q2 q3 q4 q5 q6 q7 q8 q9 q10 q11 q12 q13 q14 q15 q16 q17 q18 q19
  kernel_rfl
theorem flp_21 : flpG 21 := by
  intro zs sa sn sq a0 a1 a2 a3 a4 a5 a6 a7 a8 a9 a10 a11 a12 a13 a14 a15 a16 a17 a18 a19 n0 n1 n2 n3 n4 n5 n6 n7 n8 n9 n10 n11 n12 n13 n14 n15 n16 n17 n18 n19 q0 q1 q2 q3 q4 q5 q6 q7 q8 q9 q10 q11 q12 q13 q14 q15 q16 q17 q18 q19
  kernel_rfl
theorem flp_22 : flpG 22 := by
  intro zs sa sn sq a0 a1 a2 a3 a4 a5 a6 a7 a8 a9 a10 a11 a12 a13 a14 a15 a16 a17 a18 a19 n0 n1 n2 n3 n4 n5 n6 n7 n8 n9 n10 n11 n12 n13 n14 n15 n16 n17 n18 n19 q0 q1 q2 q3 q4 q5 q6 q7 q8 q9 q10 q11 q12 q13 q14 q15 q16 q17 q18 q19
  kernel_rfl
theorem flp_23 : flpG 23 := by
  intro zs sa sn sq a0 a1 a2 a3 a4 a5 a6 a7 a8 a9 a10 a11 a12 a13 a14 a15 a16 a17 a18 a19 n0 n1 n2 n3 n4 n5 n6 n7 n8 n9 n10 n11 n12 n13 n14 n15 n16 n17 n18 n19 q0 q1 q2 q3 q4 q5 q6 q7 q8 q9 q10 q11 q12 q13 q14 q15 q16 q17 q18 q19
  kernel_rfl
theorem flp_24 : flpG 24 := by
  intro zs sa sn sq a0 a1 a2 a3 a4 a5 a6 a7 a8 a9 a10 a11 a12 a13 a14 a15 a16 a17 a18 a19 n0 n1 n2 n3 n4 n5 n6 n7 n8 n9 n10 n11 n12 n13 n14 n15 n16 n17 n18 n19 q0 q1 q2 q3 q4 q5 q6 q7 q8 q9 q10 q11 q12 q13 q14 q15 q16 q17 q18 q19
  kernel_rfl
theorem flp_25 : flpG 25 := by
  intro zs sa sn sq a0 a1 a2 a3 a4 a5 a6 a7 a8 a9 a10 a11 a12 a13 a14 a15 a16 a17 a18 a19 n0 n1 n2 n3 n4 n5 n6 n7 n8 n9 n10 n11 n12 n13 n14 n15 n16 n17 n18 n19 q0 q1 q2 q3 q4 q5 q6 q7 q8 q9 q10 q11 q12 q13 q14 q15 q16 q17 q18 q19
  kernel_rfl
theorem flp_26 : flpG 26 := by
  intro zs sa sn sq a0 a1 a2 a3 a4 a5 a6 a7 a8 a9 a10 a11 a12 a13 a14 a15 a16 a17 a18 a19 n0 n1 n2 n3 n4 n5 n6 n7 n8 n9 n10 n11 n12 n13 n14 n15 n16 n17 n18 n19 q0 q1 q2 q3 q4 q5 q6 q7 q8 q9 q10 q11 q12 q13 q14 q15 q16 q17 q18 q19
  kernel_rfl
theorem flp_27 : flpG 27 := by
  intro zs sa sn sq a0 a1 a2 a3 a4 a5 a6 a7 a8 a9 a10 a11 a12 a13 a14 a15 a16 a17 a18 a19 n0 n1 n2 n3 n4 n5 n6 n7 n8 n9 n10 n11 n12 n13 n14 n15 n16 n17 n18 n19 q0 q1 q2 q3 q4 q5 q6 q7 q8 q9 q10 q11 q12 q13 q14 q15 q16 q17 q18 q19
  kernel_rfl
theorem flp_28 : flpG 28 := by
  intro zs sa sn sq a0 a1 a2 a3 a4 a5 a6 a7 a8 a9 a10 a11 a12 a13 a14 a15 a16 a17 a18 a19 n0 n1 n2 n3 n4 n5 n6 n7 n8 n9 n10 n11 n12 n13 n14 n15 n16 n17 n18 n19 q0 q1 q2 q3 q4 q5 q6 q7 q8 q9 q10 q11 q12 q13 q14 q15 q16 q17 q18 q19
  kernel_rfl
theorem flp_29 : flpG 29 := by
  intro zs sa sn sq a0 a1 a2 a3 a4 a5 a6 a7 a8 a9 a10 a11 a12 a13 a14 a15 a16 a17 a18 a19 n0 n1 n2 n3 n4 n5 n6 n7 n8 n9 n10 n11 n12 n13 n14 n15 n16 n17 n18 n19 q0 q1 q2 q3 q4 q5 q6 q7 q8 q9 q10 q11 q12 q13 q14 q15 q16 q17 q18 q19
  kernel_rfl
theorem flp_30 : flpG 30 := by
  intro zs sa sn sq a0 a1 a2 a3 a4 a5 a6 a7 a8 a9 a10 a11 a12 a13 a14 a15 a16 a17 a18 a19 n0 n1 n2 n3 n4 n5 n6 n7 n8 n9 n10 n11 n12 n13 n14 n15 n16 n17 n18 n19 q0 q1 q2 q3 q4 q5 q6 q7 q8 q9 q10 q11 q12 q13 q14 q15 q16 q17 q18 q19
  kernel_rfl
theorem flp_31 : flpG 31 := by
  intro zs sa sn sq a0 a1 a2 a3 a4 a5 a6 a7 a8 a9 a10 a11 a12 a13 a14 a15 a16 a17 a18 a19 n0 n1 n2 n3 n4 n5 n6 n7 n8 n9 n10 n11 n12 n13 n14 n15 n16 n17 n18 n19 q0 q1 q2 q3 q4 q5 q6 q7 q8 q9 q10 q11 q12 q13 q14 q15 q16 q17 q18 q19
  kernel_rfl
theorem flp_32 : flpG 32 := by
  intro zs sa sn sq a0 a1 a2 a3 a4 a5 a6 a7 a8 a9 a10 a11 a12 a13 a14 a15 a16 a17 a18 a19 n0 n1 n2 n3 n4 n5 n6 n7 n8 n9 n10 n11 n12 n13 n14 n15 n16 n17 n18 n19 q0 q1 q2 q3 q4 q5 q6 q7 q8 q9 q10 q11 q12 q13 q14 q15 q16 q17 q18 q19
  kernel_rfl
end

end Go.Proofs.YtecmhjhjmhliiaaDoor


/-
  The rounds of the document's quotient, read one by one (flp 33 to 65).
-/

namespace Go.Proofs.YtecmhjhjmhliiaaDoor

open Go.Den Go.RowKit
noncomputable section
set_option maxRecDepth 100000

theorem flp_33 : flpG 33 := by
  intro zs sa sn sq a0 a1 a2 a3 a4 a5 a6 a7 a8 a9 a10 a11 a12 a13 a14 a15 a16 a17 a18 a19 n0 n1 n2 n3 n4 n5 n6 n7 n8 n9 n10 n11 n12 n13 n14 n15 n16 n17 n18 n19 q0 q1 q2 q3 q4 q5 q6 q7 q8 q9 q10 q11 q12 q13 q14 q15 q16 q17 q18 q19
  kernel_rfl
theorem flp_34 : flpG 34 := by
  intro zs sa sn sq a0 a1 a2 a3 a4 a5 a6 a7 a8 a9 a10 a11 a12 a13 a14 a15 a16 a17 a18 a19 n0 n1 n2 n3 n4 n5 n6 n7 n8 n9 n10 n11 n12 n13 n14 n15 n16 n17 n18 n19 q0 q1 q2 q3 q4 q5 q6 q7 q8 q9 q10 q11 q12 q13 q14 q15 q16 q17 q18 q19
  kernel_rfl
theorem flp_35 : flpG 35 := by
  intro zs sa sn sq a0 a1 a2 a3 a4 a5 a6 a7 a8 a9 a10 a11 a12 a13 a14 a15 a16 a17 a18 a19 n0 n1 n2 n3 n4 n5 n6 n7 n8 n9 n10 n11 n12 n13 n14 n15 n16 n17 n18 n19 q0 q1 q2 q3 q4 q5 q6 q7 q8 q9 q10 q11 q12 q13 q14 q15 q16 q17 q18 q19
  kernel_rfl
theorem flp_36 : flpG 36 := by
  intro zs sa sn sq a0 a1 a2 a3 a4 a5 a6 a7 a8 a9 a10 a11 a12 a13 a14 a15 a16 a17 a18 a19 n0 n1 n2 n3 n4 n5 n6 n7 n8 n9 n10 n11 n12 n13 n14 n15 n16 n17 n18 n19 q0 q1 q2 q3 q4 q5 q6 q7 q8 q9 q10 q11 q12 q13 q14 q15 q16 q17 q18 q19
  kernel_rfl
theorem flp_37 : flpG 37 := by
  intro zs sa sn sq a0 a1 a2 a3 a4 a5 a6 a7 a8 a9 a10 a11 a12 a13 a14 a15 a16 a17 a18 a19 n0 n1 n2 n3 n4 n5 n6 n7 n8 n9 n10 n11 n12 n13 n14 n15 n16 n17 n18 n19 q0 q1 q2 q3 q4 q5 q6 q7 q8 q9 q10 q11 q12 q13 q14 q15 q16 q17 q18 q19
  kernel_rfl
theorem flp_38 : flpG 38 := by
  intro zs sa sn sq a0 a1 a2 a3 a4 a5 a6 a7 a8 a9 a10 a11 a12 a13 a14 a15 a16 a17 a18 a19 n0 n1 n2 n3 n4 n5 n6 n7 n8 n9 n10 n11 n12 n13 n14 n15 n16 n17 n18 n19 q0 q1 q2 q3 q4 q5 q6 q7 q8 q9 q10 q11 q12 q13 q14 q15 q16 q17 q18 q19
  kernel_rfl
theorem flp_39 : flpG 39 := by
  intro zs sa sn sq a0 a1 a2 a3 a4 a5 a6 a7 a8 a9 a10 a11 a12 a13 a14 a15 a16 a17 a18 a19 n0 n1 n2 n3 n4 n5 n6 n7 n8 n9 n10 n11 n12 n13 n14 n15 n16 n17 n18 n19 q0 q1 q2 q3 q4 q5 q6 q7 q8 q9 q10 q11 q12 q13 q14 q15 q16 q17 q18 q19
  kernel_rfl
theorem flp_40 : flpG 40 := by
  intro zs sa sn sq a0 a1 a2 a3 a4 a5 a6 a7 a8 a9 a10 a11 a12 a13 a14 a15 a16 a17 a18 a19 n0 n1 n2 n3 n4 n5 n6 n7 n8 n9 n10 n11 n12 n13 n14 n15 n16 n17 n18 n19 q0 q1 q2 q3 q4 q5 q6 q7 q8 q9 q10 q11 q12 q13 q14 q15 q16 q17 q18 q19
  kernel_rfl
theorem flp_41 : flpG 41 := by
  intro zs sa sn sq a0 a1 a2 a3 a4 a5 a6 a7 a8 a9 a10 a11 a12 a13 a14 a15 a16 a17 a18 a19 n0 n1 n2 n3 n4 n5 n6 n7 n8 n9 n10 n11 n12 n13 n14 n15 n16 n17 n18 n19 q0 q1 q2 q3 q4 q5 q6 q7 q8 q9 q10 q11 q12 q13 q14 q15 q16 q17 q18 q19
  kernel_rfl
theorem flp_42 : flpG 42 := by
  intro zs sa sn sq a0 a1 a2 a3 a4 a5 a6 a7 a8 a9 a10 a11 a12 a13 a14 a15 a16 a17 a18 a19 n0 n1 n2 n3 n4 n5 n6 n7 n8 n9 n10 n11 n12 n13 n14 n15 n16 n17 n18 n19 q0 q1 q2 q3 q4 q5 q6 q7 q8 q9 q10 q11 q12 q13 q14 q15 q16 q17 q18 q19
  kernel_rfl
theorem flp_43 : flpG 43 := by
  intro zs sa sn sq a0 a1 a2 a3 a4 a5 a6 a7 a8 a9 a10 a11 a12 a13 a14 a15 a16 a17 a18 a19 n0 n1 n2 n3 n4 n5 n6 n7 n8 n9 n10 n11 n12 n13 n14 n15 n16 n17 n18 n19 q0 q1 q2 q3 q4 q5 q6 q7 q8 q9 q10 q11 q12 q13 q14 q15 q16 q17 q18 q19
  kernel_rfl
theorem flp_44 : flpG 44 := by
  intro zs sa sn sq a0 a1 a2 a3 a4 a5 a6 a7 a8 a9 a10 a11 a12 a13 a14 a15 a16 a17 a18 a19 n0 n1 n2 n3 n4 n5 n6 n7 n8 n9 n10 n11 n12 n13 n14 n15 n16 n17 n18 n19 q0 q1 q2 q3 q4 q5 q6 q7 q8 q9 q10 q11 q12 q13 q14 q15 q16 q17 q18 q19
  kernel_rfl
theorem flp_45 : flpG 45 := by
  intro zs sa sn sq a0 a1 a2 a3 a4 a5 a6 a7 a8 a9 a10 a11 a12 a13 a14 a15 a16 a17 a18 a19 n0 n1 n2 n3 n4 n5 n6 n7 n8 n9 n10 n11 n12 n13 n14 n15 n16 n17 n18 n19 q0 q1 q2 q3 q4 q5 q6 q7 q8 q9 q10 q11 q12 q13 q14 q15 q16 q17 q18 q19
  kernel_rfl
theorem flp_46 : flpG 46 := by
  intro zs sa sn sq a0 a1 a2 a3 a4 a5 a6 a7 a8 a9 a10 a11 a12 a13 a14 a15 a16 a17 a18 a19 n0 n1 n2 n3 n4 n5 n6 n7 n8 n9 n10 n11 n12 n13 n14 n15 n16 n17 n18 n19 q0 q1 q2 q3 q4 q5 q6 q7 q8 q9 q10 q11 q12 q13 q14 q15 q16 q17 q18 q19
  kernel_rfl
theorem flp_47 : flpG 47 := by
  intro zs sa sn sq a0 a1 a2 a3 a4 a5 a6 a7 a8 a9 a10 a11 a12 a13 a14 a15 a16 a17 a18 a19 n0 n1 n2 n3 n4 n5 n6 n7 n8 n9 n10 n11 n12 n13 n14 n15 n16 n17 n18 n19 q0 q1 q2 q3 q4 q5 q6 q7 q8 q9 q10 q11 q12 q13 q14 q15 q16 q17 q18 q19
  kernel_rfl
theorem flp_48 : flpG 48 := by
  intro zs sa sn sq a0 a1 a2 a3 a4 a5 a6 a7 a8 a9 a10 a11 a12 a13 a14 a15 a16 a17 a18 a19 n0 n1 n2 n3 n4 n5 n6 n7 n8 n9 n10 n11 n12 n13 n14 n15 n16 n17 n18 n19 q0 q1 q2 q3 q4 q5 q6 q7 q8 q9 q10 q11 q12 q13 q14 q15 q16 q17 q18 q19
  kernel_rfl
theorem flp_49 : flpG 49 := by
  intro zs sa sn sq a0 a1 a2 a3 a4 a5 a6 a7 a8 a9 a10 a11 a12 a13 a14 a15 a16 a17 a18 a19 n0 n1 n2 n3 n4 n5 n6 n7 n8 n9 n10 n11 n12 n13 n14 n15 n16 n17 n18 n19 q0 q1 q2 q3 q4 q5 q6 q7 q8 q9 q10 q11 q12 q13 q14 q15 q16 q17 q18 q19
  kernel_rfl
theorem flp_50 : flpG 50 := by
  intro zs sa sn sq a0 a1 a2 a3 a4 a5 a6 a7 a8 a9 a10 a11 a12 a13 a14 a15 a16 a17 a18 a19 n0 n1 n2 n3 n4 n5 n6 n7 n8 n9 n10 n11 n12 n13 n14 n15 n16 n17 n18 n19 q0 q1 q2 q3 q4 q5 q6 q7 q8 q9 q10 q11 q12 q13 q14 q15 q16 q17 q18 q19
  kernel_rfl
theorem flp_51 : flpG 51 := by
  intro zs sa sn sq a0 a1 a2 a3 a4 a5 a6 a7 a8 a9 a10 a11 a12 a13 a14 a15 a16 a17 a18 a19 n0 n1 n2 n3 n4 n5 n6 n7 n8 n9 n10 n11 n12 n13 n14 n15 n16 n17 n18 n19 q0 q1 q2 q3 q4 q5 q6 q7 q8 q9 q10 q11 q12 q13 q14 q15 q16 q17 q18 q19
  kernel_rfl
theorem flp_52 : flpG 52 := by
  intro zs sa sn sq a0 a1 a2 a3 a4 a5 a6 a7 a8 a9 a10 a11 a12 a13 a14 a15 a16 a17 a18 a19 n0 n1 n2 n3 n4 n5 n6 n7 n8 n9 n10 n11 n12 n13 n14 n15 n16 n17 n18 n19 q0 q1 q2 q3 q4 q5 q6 q7 q8 q9 q10 q11 q12 q13 q14 q15 q16 q17 q18 q19
  kernel_rfl
theorem flp_53 : flpG 53 := by
  intro zs sa sn sq a0 a1 a2 a3 a4 a5 a6 a7 a8 a9 a10 a11 a12 a13 a14 a15 a16 a17 a18 a19 n0 n1 n2 n3 n4 n5 n6 n7 n8 n9 n10 n11 n12 n13 n14 n15 n16 n17 n18 n19 q0 q1 q2 q3 q4 q5 q6 q7 q8 q9 q10 q11 q12 q13 q14 q15 q16 q17 q18 q19
  kernel_rfl
theorem flp_54 : flpG 54 := by
  intro zs sa sn sq a0 a1 a2 a3 a4 a5 a6 a7 a8 a9 a10 a11 a12 a13 a14 a15 a16 a17 a18 a19 n0 n1 n2 n3 n4 n5 n6 n7 n8 n9 n10 n11 n12 n13 n14 n15 n16 n17 n18 n19 q0 q1 q2 q3 q4 q5 q6 q7 q8 q9 q10 q11 q12 q13 q14 q15 q16 q17 q18 q19
  kernel_rfl
theorem flp_55 : flpG 55 := by
  intro zs sa sn sq a0 a1 a2 a3 a4 a5 a6 a7 a8 a9 a10 a11 a12 a13 a14 a15 a16 a17 a18 a19 n0 n1 n2 n3 n4 n5 n6 n7 n8 n9 n10 n11 n12 n13 n14 n15 n16 n17 n18 n19 q0 q1 q2 q3 q4 q5 q6 q7 q8 q9 q10 q11 q12 q13 q14 q15 q16 q17 q18 q19
  kernel_rfl
theorem flp_56 : flpG 56 := by
  intro zs sa sn sq a0 a1 a2 a3 a4 a5 a6 a7 a8 a9 a10 a11 a12 a13 a14 a15 a16 a17 a18 a19 n0 n1 n2 n3 n4 n5 n6 n7 n8 n9 n10 n11 n12 n13 n14 n15 n16 n17 n18 n19 q0 q1 q2 q3 q4 q5 q6 q7 q8 q9 q10 q11 q12 q13 q14 q15 q16 q17 q18 q19
  kernel_rfl
theorem flp_57 : flpG 57 := by
  intro zs sa sn sq a0 a1 a2 a3 a4 a5 a6 a7 a8 a9 a10 a11 a12 a13 a14 a15 a16 a17 a18 a19 n0 n1 n2 n3 n4 n5 n6 n7 n8 n9 n10 n11 n12 n13 n14 n15 n16 n17 n18 n19 q0 q1 q2 q3 q4 q5 q6 q7 q8 q9 q10 q11 q12 q13 q14 q15 q16 q17 q18 q19
  kernel_rfl
theorem flp_58 : flpG 58 := by
  intro zs sa sn sq a0 a1 a2 a3 a4 a5 a6 a7 a8 a9 a10 a11 a12 a13 a14 a15 a16 a17 a18 a19 n0 n1 n2 n3 n4 n5 n6 n7 n8 n9 n10 n11 n12 n13 n14 n15 n16 n17 n18 n19 q0 q1 q2 q3 q4 q5 q6 q7 q8 q9 q10 q11 q12 q13 q14 q15 q16 q17 q18 q19
  kernel_rfl
theorem flp_59 : flpG 59 := by
  intro zs sa sn sq a0 a1 a2 a3 a4 a5 a6 a7 a8 a9 a10 a11 a12 a13 a14 a15 a16 a17 a18 a19 n0 n1 n2 n3 n4 n5 n6 n7 n8 n9 n10 n11 n12 n13 n14 n15 n16 n17 n18 n19 q0 q1 q2 q3 q4 q5 q6 q7 q8 q9 q10 q11 q12 q13 q14 q15 q16 q17 q18 q19
  kernel_rfl
theorem flp_60 : flpG 60 := by
  intro zs sa sn sq a0 a1 a2 a3 a4 a5 a6 a7 a8 a9 a10 a11 a12 a13 a14 a15 a16 a17 a18 a19 n0 n1 n2 n3 n4 n5 n6 n7 n8 n9 n10 n11 n12 n13 n14 n15 n16 n17 n18 n19 q0 q1 q2 q3 q4 q5 q6 q7 q8 q9 q10 q11 q12 q13 q14 q15 q16 q17 q18 q19
  kernel_rfl
theorem flp_61 : flpG 61 := by
  intro zs sa sn sq a0 a1 a2 a3 a4 a5 a6 a7 a8 a9 a10 a11 a12 a13 a14 a15 a16 a17 a18 a19 n0 n1 n2 n3 n4 n5 n6 n7 n8 n9 n10 n11 n12 n13 n14 n15 n16 n17 n18 n19 q0 q1 q2 q3 q4 q5 q6 q7 q8 q9 q10 q11 q12 q13 q14 q15 q16 q17 q18 q19
  kernel_rfl
theorem flp_62 : flpG 62 := by
  intro zs sa sn sq a0 a1 a2 a3 a4 a5 a6 a7 a8 a9 a10 a11 a12 a13 a14 a15 a16 a17 a18 a19 n0 n1 n2 n3 n4 n5 n6 n7 n8 n9 n10 n11 n12 n13 n14 n15 n16 n17 n18 n19 q0 q1 q2 q3 q4 q5 q6 q7 q8 q9 q10 q11 q12 q13 q14 q15 q16 q17 q18 q19
  kernel_rfl
theorem flp_63 : flpG 63 := by
  intro zs sa sn sq a0 a1 a2 a3 a4 a5 a6 a7 a8 a9 a10 a11 a12 a13 a14 a15 a16 a17 a18 a19 n0 n1 n2 n3 n4 n5 n6 n7 n8 n9 n10 n11 n12 n13 n14 n15 n16 n17 n18 n19 q0 q1 q2 q3 q4 q5 q6 q7 q8 q9 q10 q11 q12 q13 q14 q15 q16 q17 q18 q19
  kernel_rfl
theorem flp_64 : flpG 64 := by
  intro zs sa sn sq a0 a1 a2 a3 a4 a5 a6 a7 a8 a9 a10 a11 a12 a13 a14 a15 a16 a17 a18 a19 n0 n1 n2 n3 n4 n5 n6 n7 n8 n9 n10 n11 n12 n13 n14 n15 n16 n17 n18 n19 q0 q1 q2 q3 q4 q5 q6 q7 q8 q9 q10 q11 q12 q13 q14 q15 q16 q17 q18 q19
  kernel_rfl
theorem flp_65 : flpG 65 := by
  intro zs sa sn sq a0 a1 a2 a3 a4 a5 a6 a7 a8 a9 a10 a11 a12 a13 a14 a15 a16 a17 a18 a19 n0 n1 n2 n3 n4 n5 n6 n7 n8 n9 n10 n11 n12 n13 n14 n15 n16 n17 n18 n19 q0 q1 q2 q3 q4 q5 q6 q7 q8 q9 q10 q11 q12 q13 q14 q15 q16 q17 q18 q19
  kernel_rfl
end

end Go.Proofs.YtecmhjhjmhliiaaDoor


/-
  The rounds of the document's quotient, read one by one (flp 66 to 97).
-/

namespace Go.Proofs.YtecmhjhjmhliiaaDoor

open Go.Den Go.RowKit
noncomputable section
set_option maxRecDepth 100000

theorem flp_66 : flpG 66 := by
  intro zs sa sn sq a0 a1 a2 a3 a4 a5 a6 a7 a8 a9 a10 a11 a12 a13 a14 a15 a16 a17 a18 a19 n0 n1 n2 n3 n4 n5 n6 n7 n8 n9 n10 n11 n12 n13 n14 n15 n16 n17 n18 n19 q0 q1 q2 q3 q4 q5 q6 q7 q8 q9 q10 q11 q12 q13 q14 q15 q16 q17 q18 q19
  kernel_rfl
theorem flp_67 : flpG 67 := by
  intro zs sa sn sq a0 a1 a2 a3 a4 a5 a6 a7 a8 a9 a10 a11 a12 a13 a14 a15 a16 a17 a18 a19 n0 n1 n2 n3 n4 n5 n6 n7 n8 n9 n10 n11 n12 n13 n14 n15 n16 n17 n18 n19 q0 q1 q2 q3 q4 q5 q6 q7 q8 q9 q10 q11 q12 q13 q14 q15 q16 q17 q18 q19
  kernel_rfl
theorem flp_68 : flpG 68 := by
  intro zs sa sn sq a0 a1 a2 a3 a4 a5 a6 a7 a8 a9 a10 a11 a12 a13 a14 a15 a16 a17 a18 a19 n0 n1 n2 n3 n4 n5 n6 n7 n8 n9 n10 n11 n12 n13 n14 n15 n16 n17 n18 n19 q0 q1 q2 q3 q4 q5 q6 q7 q8 q9 q10 q11 q12 q13 q14 q15 q16 q17 q18 q19
  kernel_rfl
theorem flp_69 : flpG 69 := by
  intro zs sa sn sq a0 a1 a2 a3 a4 a5 a6 a7 a8 a9 a10 a11 a12 a13 a14 a15 a16 a17 a18 a19 n0 n1 n2 n3 n4 n5 n6 n7 n8 n9 n10 n11 n12 n13 n14 n15 n16 n17 n18 n19 q0 q1 q2 q3 q4 q5 q6 q7 q8 q9 q10 q11 q12 q13 q14 q15 q16 q17 q18 q19
  kernel_rfl
theorem flp_70 : flpG 70 := by
  intro zs sa sn sq a0 a1 a2 a3 a4 a5 a6 a7 a8 a9 a10 a11 a12 a13 a14 a15 a16 a17 a18 a19 n0 n1 n2 n3 n4 n5 n6 n7 n8 n9 n10 n11 n12 n13 n14 n15 n16 n17 n18 n19 q0 q1 q2 q3 q4 q5 q6 q7 q8 q9 q10 q11 q12 q13 q14 q15 q16 q17 q18 q19
  kernel_rfl
theorem flp_71 : flpG 71 := by
  intro zs sa sn sq a0 a1 a2 a3 a4 a5 a6 a7 a8 a9 a10 a11 a12 a13 a14 a15 a16 a17 a18 a19 n0 n1 n2 n3 n4 n5 n6 n7 n8 n9 n10 n11 n12 n13 n14 n15 n16 n17 n18 n19 q0 q1 q2 q3 q4 q5 q6 q7 q8 q9 q10 q11 q12 q13 q14 q15 q16 q17 q18 q19
  kernel_rfl
theorem flp_72 : flpG 72 := by
  intro zs sa sn sq a0 a1 a2 a3 a4 a5 a6 a7 a8 a9 a10 a11 a12 a13 a14 a15 a16 a17 a18 a19 n0 n1 n2 n3 n4 n5 n6 n7 n8 n9 n10 n11 n12 n13 n14 n15 n16 n17 n18 n19 q0 q1 q2 q3 q4 q5 q6 q7 q8 q9 q10 q11 q12 q13 q14 q15 q16 q17 q18 q19
  kernel_rfl
theorem flp_73 : flpG 73 := by
  intro zs sa sn sq a0 a1 a2 a3 a4 a5 a6 a7 a8 a9 a10 a11 a12 a13 a14 a15 a16 a17 a18 a19 n0 n1 n2 n3 n4 n5 n6 n7 n8 n9 n10 n11 n12 n13 n14 n15 n16 n17 n18 n19 q0 q1 q2 q3 q4 q5 q6 q7 q8 q9 q10 q11 q12 q13 q14 q15 q16 q17 q18 q19
  kernel_rfl
theorem flp_74 : flpG 74 := by
  intro zs sa sn sq a0 a1 a2 a3 a4 a5 a6 a7 a8 a9 a10 a11 a12 a13 a14 a15 a16 a17 a18 a19 n0 n1 n2 n3 n4 n5 n6 n7 n8 n9 n10 n11 n12 n13 n14 n15 n16 n17 n18 n19 q0 q1 q2 q3 q4 q5 q6 q7 q8 q9 q10 q11 q12 q13 q14 q15 q16 q17 q18 q19
  kernel_rfl
theorem flp_75 : flpG 75 := by
  intro zs sa sn sq a0 a1 a2 a3 a4 a5 a6 a7 a8 a9 a10 a11 a12 a13 a14 a15 a16 a17 a18 a19 n0 n1 n2 n3 n4 n5 n6 n7 n8 n9 n10 n11 n12 n13 n14 n15 n16 n17 n18 n19 q0 q1 q2 q3 q4 q5 q6 q7 q8 q9 q10 q11 q12 q13 q14 q15 q16 q17 q18 q19
  kernel_rfl
theorem flp_76 : flpG 76 := by
  intro zs sa sn sq a0 a1 a2 a3 a4 a5 a6 a7 a8 a9 a10 a11 a12 a13 a14 a15 a16 a17 a18 a19 n0 n1 n2 n3 n4 n5 n6 n7 n8 n9 n10 n11 n12 n13 n14 n15 n16 n17 n18 n19 q0 q1 q2 q3 q4 q5 q6 q7 q8 q9 q10 q11 q12 q13 q14 q15 q16 q17 q18 q19
  kernel_rfl
theorem flp_77 : flpG 77 := by
  intro zs sa sn sq a0 a1 a2 a3 a4 a5 a6 a7 a8 a9 a10 a11 a12 a13 a14 a15 a16 a17 a18 a19 n0 n1 n2 n3 n4 n5 n6 n7 n8 n9 n10 n11 n12 n13 n14 n15 n16 n17 n18 n19 q0 q1 q2 q3 q4 q5 q6 q7 q8 q9 q10 q11 q12 q13 q14 q15 q16 q17 q18 q19
  kernel_rfl
theorem flp_78 : flpG 78 := by
  intro zs sa sn sq a0 a1 a2 a3 a4 a5 a6 a7 a8 a9 a10 a11 a12 a13 a14 a15 a16 a17 a18 a19 n0 n1 n2 n3 n4 n5 n6 n7 n8 n9 n10 n11 n12 n13 n14 n15 n16 n17 n18 n19 q0 q1 q2 q3 q4 q5 q6 q7 q8 q9 q10 q11 q12 q13 q14 q15 q16 q17 q18 q19
  kernel_rfl
theorem flp_79 : flpG 79 := by
  intro zs sa sn sq a0 a1 a2 a3 a4 a5 a6 a7 a8 a9 a10 a11 a12 a13 a14 a15 a16 a17 a18 a19 n0 n1 n2 n3 n4 n5 n6 n7 n8 n9 n10 n11 n12 n13 n14 n15 n16 n17 n18 n19 q0 q1 q2 q3 q4 q5 q6 q7 q8 q9 q10 q11 q12 q13 q14 q15 q16 q17 q18 q19
  kernel_rfl
theorem flp_80 : flpG 80 := by
  intro zs sa sn sq a0 a1 a2 a3 a4 a5 a6 a7 a8 a9 a10 a11 a12 a13 a14 a15 a16 a17 a18 a19 n0 n1 n2 n3 n4 n5 n6 n7 n8 n9 n10 n11 n12 n13 n14 n15 n16 n17 n18 n19 q0 q1 q2 q3 q4 q5 q6 q7 q8 q9 q10 q11 q12 q13 q14 q15 q16 q17 q18 q19
  kernel_rfl
theorem flp_81 : flpG 81 := by
  intro zs sa sn sq a0 a1 a2 a3 a4 a5 a6 a7 a8 a9 a10 a11 a12 a13 a14 a15 a16 a17 a18 a19 n0 n1 n2 n3 n4 n5 n6 n7 n8 n9 n10 n11 n12 n13 n14 n15 n16 n17 n18 n19 q0 q1 q2 q3 q4 q5 q6 q7 q8 q9 q10 q11 q12 q13 q14 q15 q16 q17 q18 q19
  kernel_rfl
theorem flp_82 : flpG 82 := by
  intro zs sa sn sq a0 a1 a2 a3 a4 a5 a6 a7 a8 a9 a10 a11 a12 a13 a14 a15 a16 a17 a18 a19 n0 n1 n2 n3 n4 n5 n6 n7 n8 n9 n10 n11 n12 n13 n14 n15 n16 n17 n18 n19 q0 q1 q2 q3 q4 q5 q6 q7 q8 q9 q10 q11 q12 q13 q14 q15 q16 q17 q18 q19
  kernel_rfl
theorem flp_83 : flpG 83 := by
  intro zs sa sn sq a0 a1 a2 a3 a4 a5 a6 a7 a8 a9 a10 a11 a12 a13 a14 a15 a16 a17 a18 a19 n0 n1 n2 n3 n4 n5 n6 n7 n8 n9 n10 n11 n12 n13 n14 n15 n16 n17 n18 n19 q0 q1 q2 q3 q4 q5 q6 q7 q8 q9 q10 q11 q12 q13 q14 q15 q16 q17 q18 q19
  kernel_rfl
theorem flp_84 : flpG 84 := by
  intro zs sa sn sq a0 a1 a2 a3 a4 a5 a6 a7 a8 a9 a10 a11 a12 a13 a14 a15 a16 a17 a18 a19 n0 n1 n2 n3 n4 n5 n6 n7 n8 n9 n10 n11 n12 n13 n14 n15 n16 n17 n18 n19 q0 q1 q2 q3 q4 q5 q6 q7 q8 q9 q10 q11 q12 q13 q14 q15 q16 q17 q18 q19
  kernel_rfl
theorem flp_85 : flpG 85 := by
  intro zs sa sn sq a0 a1 a2 a3 a4 a5 a6 a7 a8 a9 a10 a11 a12 a13 a14 a15 a16 a17 a18 a19 n0 n1 n2 n3 n4 n5 n6 n7 n8 n9 n10 n11 n12 n13 n14 n15 n16 n17 n18 n19 q0 q1 q2 q3 q4 q5 q6 q7 q8 q9 q10 q11 q12 q13 q14 q15 q16 q17 q18 q19
  kernel_rfl
theorem flp_86 : flpG 86 := by
  intro zs sa sn sq a0 a1 a2 a3 a4 a5 a6 a7 a8 a9 a10 a11 a12 a13 a14 a15 a16 a17 a18 a19 n0 n1 n2 n3 n4 n5 n6 n7 n8 n9 n10 n11 n12 n13 n14 n15 n16 n17 n18 n19 q0 q1 q2 q3 q4 q5 q6 q7 q8 q9 q10 q11 q12 q13 q14 q15 q16 q17 q18 q19
  kernel_rfl
theorem flp_87 : flpG 87 := by
  intro zs sa sn sq a0 a1 a2 a3 a4 a5 a6 a7 a8 a9 a10 a11 a12 a13 a14 a15 a16 a17 a18 a19 n0 n1 n2 n3 n4 n5 n6 n7 n8 n9 n10 n11 n12 n13 n14 n15 n16 n17 n18 n19 q0 q1 q2 q3 q4 q5 q6 q7 q8 q9 q10 q11 q12 q13 q14 q15 q16 q17 q18 q19
  kernel_rfl
theorem flp_88 : flpG 88 := by
  intro zs sa sn sq a0 a1 a2 a3 a4 a5 a6 a7 a8 a9 a10 a11 a12 a13 a14 a15 a16 a17 a18 a19 n0 n1 n2 n3 n4 n5 n6 n7 n8 n9 n10 n11 n12 n13 n14 n15 n16 n17 n18 n19 q0 q1 q2 q3 q4 q5 q6 q7 q8 q9 q10 q11 q12 q13 q14 q15 q16 q17 q18 q19
  kernel_rfl
theorem flp_89 : flpG 89 := by
  intro zs sa sn sq a0 a1 a2 a3 a4 a5 a6 a7 a8 a9 a10 a11 a12 a13 a14 a15 a16 a17 a18 a19 n0 n1 n2 n3 n4 n5 n6 n7 n8 n9 n10 n11 n12 n13 n14 n15 n16 n17 n18 n19 q0 q1 q2 q3 q4 q5 q6 q7 q8 q9 q10 q11 q12 q13 q14 q15 q16 q17 q18 q19
  kernel_rfl
theorem flp_90 : flpG 90 := by
  intro zs sa sn sq a0 a1 a2 a3 a4 a5 a6 a7 a8 a9 a10 a11 a12 a13 a14 a15 a16 a17 a18 a19 n0 n1 n2 n3 n4 n5 n6 n7 n8 n9 n10 n11 n12 n13 n14 n15 n16 n17 n18 n19 q0 q1 q2 q3 q4 q5 q6 q7 q8 q9 q10 q11 q12 q13 q14 q15 q16 q17 q18 q19
  kernel_rfl
theorem flp_91 : flpG 91 := by
  intro zs sa sn sq a0 a1 a2 a3 a4 a5 a6 a7 a8 a9 a10 a11 a12 a13 a14 a15 a16 a17 a18 a19 n0 n1 n2 n3 n4 n5 n6 n7 n8 n9 n10 n11 n12 n13 n14 n15 n16 n17 n18 n19 q0 q1 q2 q3 q4 q5 q6 q7 q8 q9 q10 q11 q12 q13 q14 q15 q16 q17 q18 q19
  kernel_rfl
theorem flp_92 : flpG 92 := by
  intro zs sa sn sq a0 a1 a2 a3 a4 a5 a6 a7 a8 a9 a10 a11 a12 a13 a14 a15 a16 a17 a18 a19 n0 n1 n2 n3 n4 n5 n6 n7 n8 n9 n10 n11 n12 n13 n14 n15 n16 n17 n18 n19 q0 q1 q2 q3 q4 q5 q6 q7 q8 q9 q10 q11 q12 q13 q14 q15 q16 q17 q18 q19
  kernel_rfl
theorem flp_93 : flpG 93 := by
  intro zs sa sn sq a0 a1 a2 a3 a4 a5 a6 a7 a8 a9 a10 a11 a12 a13 a14 a15 a16 a17 a18 a19 n0 n1 n2 n3 n4 n5 n6 n7 n8 n9 n10 n11 n12 n13 n14 n15 n16 n17 n18 n19 q0 q1 q2 q3 q4 q5 q6 q7 q8 q9 q10 q11 q12 q13 q14 q15 q16 q17 q18 q19
  kernel_rfl
theorem flp_94 : flpG 94 := by
  intro zs sa sn sq a0 a1 a2 a3 a4 a5 a6 a7 a8 a9 a10 a11 a12 a13 a14 a15 a16 a17 a18 a19 n0 n1 n2 n3 n4 n5 n6 n7 n8 n9 n10 n11 n12 n13 n14 n15 n16 n17 n18 n19 q0 q1 q2 q3 q4 q5 q6 q7 q8 q9 q10 q11 q12 q13 q14 q15 q16 q17 q18 q19
  kernel_rfl
theorem flp_95 : flpG 95 := by
  intro zs sa sn sq a0 a1 a2 a3 a4 a5 a6 a7 a8 a9 a10 a11 a12 a13 a14 a15 a16 a17 a18 a19 n0 n1 n2 n3 n4 n5 n6 n7 n8 n9 n10 n11 n12 n13 n14 n15 n16 n17 n18 n19 q0 q1 q2 q3 q4 q5 q6 q7 q8 q9 q10 q11 q12 q13 q14 q15 q16 q17 q18 q19
  kernel_rfl
theorem flp_96 : flpG 96 := by
  intro zs sa sn sq a0 a1 a2 a3 a4 a5 a6 a7 a8 a9 a10 a11 a12 a13 a14 a15 a16 a17 a18 a19 n0 n1 n2 n3 n4 n5 n6 n7 n8 n9 n10 n11 n12 n13 n14 n15 n16 n17 n18 n19 q0 q1 q2 q3 q4 q5 q6 q7 q8 q9 q10 q11 q12 q13 q14 q15 q16 q17 q18 q19
  kernel_rfl
theorem flp_97 : flpG 97 := by
  intro zs sa sn sq a0 a1 a2 a3 a4 a5 a6 a7 a8 a9 a10 a11 a12 a13 a14 a15 a16 a17 a18 a19 n0 n1 n2 n3 n4 n5 n6 n7 n8 n9 n10 n11 n12 n13 n14 n15 n16 n17 n18 n19 q0 q1 q2 q3 q4 q5 q6 q7 q8 q9 q10 q11 q12 q13 q14 q15 q16 q17 q18 q19
  kernel_rfl
end

end Go.Proofs.YtecmhjhjmhliiaaDoor


/-
  The rounds of the document's quotient, read one by one (flp 98 to 129).
-/

namespace Go.Proofs.YtecmhjhjmhliiaaDoor

open Go.Den Go.RowKit
noncomputable section
set_option maxRecDepth 100000

theorem flp_98 : flpG 98 := by
  intro zs sa sn sq a0 a1 a2 a3 a4 a5 a6 a7 a8 a9 a10 a11 a12 a13 a14 a15 a16 a17 a18 a19 n0 n1 n2 n3 n4 n5 n6 n7 n8 n9 n10 n11 n12 n13 n14 n15 n16 n17 n18 n19 q0 q1 q2 q3 q4 q5 q6 q7 q8 q9 q10 q11 q12 q13 q14 q15 q16 q17 q18 q19
  kernel_rfl
theorem flp_99 : flpG 99 := by
  intro zs sa sn sq a0 a1 a2 a3 a4 a5 a6 a7 a8 a9 a10 a11 a12 a13 a14 a15 a16 a17 a18 a19 n0 n1 n2 n3 n4 n5 n6 n7 n8 n9 n10 n11 n12 n13 n14 n15 n16 n17 n18 n19 q0 q1 q2 q3 q4 q5 q6 q7 q8 q9 q10 q11 q12 q13 q14 q15 q16 q17 q18 q19
  kernel_rfl
theorem flp_100 : flpG 100 := by
  intro zs sa sn sq a0 a1 a2 a3 a4 a5 a6 a7 a8 a9 a10 a11 a12 a13 a14 a15 a16 a17 a18 a19 n0 n1 n2 n3 n4 n5 n6 n7 n8 n9 n10 n11 n12 n13 n14 n15 n16 n17 n18 n19 q0 q1 q2 q3 q4 q5 q6 q7 q8 q9 q10 q11 q12 q13 q14 q15 q16 q17 q18 q19
  kernel_rfl
theorem flp_101 : flpG 101 := by
  intro zs sa sn sq a0 a1 a2 a3 a4 a5 a6 a7 a8 a9 a10 a11 a12 a13 a14 a15 a16 a17 a18 a19 n0 n1 n2 n3 n4 n5 n6 n7 n8 n9 n10 n11 n12 n13 n14 n15 n16 n17 n18 n19 q0 q1 q2 q3 q4 q5 q6 q7 q8 q9 q10 q11 q12 q13 q14 q15 q16 q17 q18 q19
  kernel_rfl
theorem flp_102 : flpG 102 := by
  intro zs sa sn sq a0 a1 a2 a3 a4 a5 a6 a7 a8 a9 a10 a11 a12 a13 a14 a15 a16 a17 a18 a19 n0 n1 n2 n3 n4 n5 n6 n7 n8 n9 n10 n11 n12 n13 n14 n15 n16 n17 n18 n19 q0 q1 q2 q3 q4 q5 q6 q7 q8 q9 q10 q11 q12 q13 q14 q15 q16 q17 q18 q19
  kernel_rfl
theorem flp_103 : flpG 103 := by
  intro zs sa sn sq a0 a1 a2 a3 a4 a5 a6 a7 a8 a9 a10 a11 a12 a13 a14 a15 a16 a17 a18 a19 n0 n1 n2 n3 n4 n5 n6 n7 n8 n9 n10 n11 n12 n13 n14 n15 n16 n17 n18 n19 q0 q1 q2 q3 q4 q5 q6 q7 q8 q9 q10 q11 q12 q13 q14 q15 q16 q17 q18 q19
  kernel_rfl
theorem flp_104 : flpG 104 := by
  intro zs sa sn sq a0 a1 a2 a3 a4 a5 a6 a7 a8 a9 a10 a11 a12 a13 a14 a15 a16 a17 a18 a19 n0 n1 n2 n3 n4 n5 n6 n7 n8 n9 n10 n11 n12 n13 n14 n15 n16 n17 n18 n19 q0 q1 q2 q3 q4 q5 q6 q7 q8 q9 q10 q11 q12 q13 q14 q15 q16 q17 q18 q19
  kernel_rfl
theorem flp_105 : flpG 105 := by
  intro zs sa sn sq a0 a1 a2 a3 a4 a5 a6 a7 a8 a9 a10 a11 a12 a13 a14 a15 a16 a17 a18 a19 n0 n1 n2 n3 n4 n5 n6 n7 n8 n9 n10 n11 n12 n13 n14 n15 n16 n17 n18 n19 q0 q1 q2 q3 q4 q5 q6 q7 q8 q9 q10 q11 q12 q13 q14 q15 q16 q17 q18 q19
  kernel_rfl
theorem flp_106 : flpG 106 := by
  intro zs sa sn sq a0 a1 a2 a3 a4 a5 a6 a7 a8 a9 a10 a11 a12 a13 a14 a15 a16 a17 a18 a19 n0 n1 n2 n3 n4 n5 n6 n7 n8 n9 n10 n11 n12 n13 n14 n15 n16 n17 n18 n19 q0 q1 q2 q3 q4 q5 q6 q7 q8 q9 q10 q11 q12 q13 q14 q15 q16 q17 q18 q19
  kernel_rfl
theorem flp_107 : flpG 107 := by
  intro zs sa sn sq a0 a1 a2 a3 a4 a5 a6 a7 a8 a9 a10 a11 a12 a13 a14 a15 a16 a17 a18 a19 n0 n1 n2 n3 n4 n5 n6 n7 n8 n9 n10 n11 n12 n13 n14 n15 n16 n17 n18 n19 q0 q1 q2 q3 q4 q5 q6 q7 q8 q9 q10 q11 q12 q13 q14 q15 q16 q17 q18 q19
  kernel_rfl
theorem flp_108 : flpG 108 := by
  intro zs sa sn sq a0 a1 a2 a3 a4 a5 a6 a7 a8 a9 a10 a11 a12 a13 a14 a15 a16 a17 a18 a19 n0 n1 n2 n3 n4 n5 n6 n7 n8 n9 n10 n11 n12 n13 n14 n15 n16 n17 n18 n19 q0 q1 q2 q3 q4 q5 q6 q7 q8 q9 q10 q11 q12 q13 q14 q15 q16 q17 q18 q19
  kernel_rfl
theorem flp_109 : flpG 109 := by
  intro zs sa sn sq a0 a1 a2 a3 a4 a5 a6 a7 a8 a9 a10 a11 a12 a13 a14 a15 a16 a17 a18 a19 n0 n1 n2 n3 n4 n5 n6 n7 n8 n9 n10 n11 n12 n13 n14 n15 n16 n17 n18 n19 q0 q1 q2 q3 q4 q5 q6 q7 q8 q9 q10 q11 q12 q13 q14 q15 q16 q17 q18 q19
  kernel_rfl
theorem flp_110 : flpG 110 := by
  intro zs sa sn sq a0 a1 a2 a3 a4 a5 a6 a7 a8 a9 a10 a11 a12 a13 a14 a15 a16 a17 a18 a19 n0 n1 n2 n3 n4 n5 n6 n7 n8 n9 n10 n11 n12 n13 n14 n15 n16 n17 n18 n19 q0 q1 q2 q3 q4 q5 q6 q7 q8 q9 q10 q11 q12 q13 q14 q15 q16 q17 q18 q19
  kernel_rfl
theorem flp_111 : flpG 111 := by
  intro zs sa sn sq a0 a1 a2 a3 a4 a5 a6 a7 a8 a9 a10 a11 a12 a13 a14 a15 a16 a17 a18 a19 n0 n1 n2 n3 n4 n5 n6 n7 n8 n9 n10 n11 n12 n13 n14 n15 n16 n17 n18 n19 q0 q1 q2 q3 q4 q5 q6 q7 q8 q9 q10 q11 q12 q13 q14 q15 q16 q17 q18 q19
  kernel_rfl
theorem flp_112 : flpG 112 := by
  intro zs sa sn sq a0 a1 a2 a3 a4 a5 a6 a7 a8 a9 a10 a11 a12 a13 a14 a15 a16 a17 a18 a19 n0 n1 n2 n3 n4 n5 n6 n7 n8 n9 n10 n11 n12 n13 n14 n15 n16 n17 n18 n19 q0 q1 q2 q3 q4 q5 q6 q7 q8 q9 q10 q11 q12 q13 q14 q15 q16 q17 q18 q19
  kernel_rfl
theorem flp_113 : flpG 113 := by
  intro zs sa sn sq a0 a1 a2 a3 a4 a5 a6 a7 a8 a9 a10 a11 a12 a13 a14 a15 a16 a17 a18 a19 n0 n1 n2 n3 n4 n5 n6 n7 n8 n9 n10 n11 n12 n13 n14 n15 n16 n17 n18 n19 q0 q1 q2 q3 q4 q5 q6 q7 q8 q9 q10 q11 q12 q13 q14 q15 q16 q17 q18 q19
  kernel_rfl
theorem flp_114 : flpG 114 := by
  intro zs sa sn sq a0 a1 a2 a3 a4 a5 a6 a7 a8 a9 a10 a11 a12 a13 a14 a15 a16 a17 a18 a19 n0 n1 n2 n3 n4 n5 n6 n7 n8 n9 n10 n11 n12 n13 n14 n15 n16 n17 n18 n19 q0 q1 q2 q3 q4 q5 q6 q7 q8 q9 q10 q11 q12 q13 q14 q15 q16 q17 q18 q19
  kernel_rfl
theorem flp_115 : flpG 115 := by
  intro zs sa sn sq a0 a1 a2 a3 a4 a5 a6 a7 a8 a9 a10 a11 a12 a13 a14 a15 a16 a17 a18 a19 n0 n1 n2 n3 n4 n5 n6 n7 n8 n9 n10 n11 n12 n13 n14 n15 n16 n17 n18 n19 q0 q1 q2 q3 q4 q5 q6 q7 q8 q9 q10 q11 q12 q13 q14 q15 q16 q17 q18 q19
  kernel_rfl
theorem flp_116 : flpG 116 := by
  intro zs sa sn sq a0 a1 a2 a3 a4 a5 a6 a7 a8 a9 a10 a11 a12 a13 a14 a15 a16 a17 a18 a19 n0 n1 n2 n3 n4 n5 n6 n7 n8 n9 n10 n11 n12 n13 n14 n15 n16 n17 n18 n19 q0 q1 q2 q3 q4 q5 q6 q7 q8 q9 q10 q11 q12 q13 q14 q15 q16 q17 q18 q19
  kernel_rfl
theorem flp_117 : flpG 117 := by
  intro zs sa sn sq a0 a1 a2 a3 a4 a5 a6 a7 a8 a9 a10 a11 a12 a13 a14 a15 a16 a17 a18 a19 n0 n1 n2 n3 n4 n5 n6 n7 n8 n9 n10 n11 n12 n13 n14 n15 n16 n17 n18 n19 q0 q1 q2 q3 q4 q5 q6 q7 q8 q9 q10 q11 q12 q13 q14 q15 q16 q17 q18 q19
  kernel_rfl
theorem flp_118 : flpG 118 := by
  intro zs sa sn sq a0 a1 a2 a3 a4 a5 a6 a7 a8 a9 a10 a11 a12 a13 a14 a15 a16 a17 a18 a19 n0 n1 n2 n3 n4 n5 n6 n7 n8 n9 n10 n11 n12 n13 n14 n15 n16 n17 n18 n19 q0 q1 q2 q3 q4 q5 q6 q7 q8 q9 q10 q11 q12 q13 q14 q15 q16 q17 q18 q19
  kernel_rfl
theorem flp_119 : flpG 119 := by
  intro zs sa sn sq a0 a1 a2 a3 a4 a5 a6 a7 a8 a9 a10 a11 a12 a13 a14 a15 a16 a17 a18 a19 n0 n1 n2 n3 n4 n5 n6 n7 n8 n9 n10 n11 n12 n13 n14 n15 n16 n17 n18 n19 q0 q1 q2 q3 q4 q5 q6 q7 q8 q9 q10 q11 q12 q13 q14 q15 q16 q17 q18 q19
  kernel_rfl
theorem flp_120 : flpG 120 := by
  intro zs sa sn sq a0 a1 a2 a3 a4 a5 a6 a7 a8 a9 a10 a11 a12 a13 a14 a15 a16 a17 a18 a19 n0 n1 n2 n3 n4 n5 n6 n7 n8 n9 n10 n11 n12 n13 n14 n15 n16 n17 n18 n19 q0 q1 q2 q3 q4 q5 q6 q7 q8 q9 q10 q11 q12 q13 q14 q15 q16 q17 q18 q19
  kernel_rfl
theorem flp_121 : flpG 121 := by
  intro zs sa sn sq a0 a1 a2 a3 a4 a5 a6 a7 a8 a9 a10 a11 a12 a13 a14 a15 a16 a17 a18 a19 n0 n1 n2 n3 n4 n5 n6 n7 n8 n9 n10 n11 n12 n13 n14 n15 n16 n17 n18 n19 q0 q1 q2 q3 q4 q5 q6 q7 q8 q9 q10 q11 q12 q13 q14 q15 q16 q17 q18 q19
  kernel_rfl
theorem flp_122 : flpG 122 := by
  intro zs sa sn sq a0 a1 a2 a3 a4 a5 a6 a7 a8 a9 a10 a11 a12 a13 a14 a15 a16 a17 a18 a19 n0 n1 n2 n3 n4 n5 n6 n7 n8 n9 n10 n11 n12 n13 n14 n15 n16 n17 n18 n19 q0 q1 q2 q3 q4 q5 q6 q7 q8 q9 q10 q11 q12 q13 q14 q15 q16 q17 q18 q19
  kernel_rfl
theorem flp_123 : flpG 123 := by
  intro zs sa sn sq a0 a1 a2 a3 a4 a5 a6 a7 a8 a9 a10 a11 a12 a13 a14 a15 a16 a17 a18 a19 n0 n1 n2 n3 n4 n5 n6 n7 n8 n9 n10 n11 n12 n13 n14 n15 n16 n17 n18 n19 q0 q1 q2 q3 q4 q5 q6 q7 q8 q9 q10 q11 q12 q13 q14 q15 q16 q17 q18 q19
  kernel_rfl
theorem flp_124 : flpG 124 := by
  intro zs sa sn sq a0 a1 a2 a3 a4 a5 a6 a7 a8 a9 a10 a11 a12 a13 a14 a15 a16 a17 a18 a19 n0 n1 n2 n3 n4 n5 n6 n7 n8 n9 n10 n11 n12 n13 n14 n15 n16 n17 n18 n19 q0 q1 q2 q3 q4 q5 q6 q7 q8 q9 q10 q11 q12 q13 q14 q15 q16 q17 q18 q19
  kernel_rfl
theorem flp_125 : flpG 125 := by
  intro zs sa sn sq a0 a1 a2 a3 a4 a5 a6 a7 a8 a9 a10 a11 a12 a13 a14 a15 a16 a17 a18 a19 n0 n1 n2 n3 n4 n5 n6 n7 n8 n9 n10 n11 n12 n13 n14 n15 n16 n17 n18 n19 q0 q1 q2 q3 q4 q5 q6 q7 q8 q9 q10 q11 q12 q13 q14 q15 q16 q17 q18 q19
  kernel_rfl
theorem flp_126 : flpG 126 := by
  intro zs sa sn sq a0 a1 a2 a3 a4 a5 a6 a7 a8 a9 a10 a11 a12 a13 a14 a15 a16 a17 a18 a19 n0 n1 n2 n3 n4 n5 n6 n7 n8 n9 n10 n11 n12 n13 n14 n15 n16 n17 n18 n19 q0 q1 q2 q3 q4 q5 q6 q7 q8 q9 q10 q11 q12 q13 q14 q15 q16 q17 q18 q19
  kernel_rfl
theorem flp_127 : flpG 127 := by
  intro zs sa sn sq a0 a1 a2 a3 a4 a5 a6 a7 a8 a9 a10 a11 a12 a13 a14 a15 a16 a17 a18 a19 n0 n1 n2 n3 n4 n5 n6 n7 n8 n9 n10 n11 n12 n13 n14 n15 n16 n17 n18 n19 q0 q1 q2 q3 q4 q5 q6 q7 q8 q9 q10 q11 q12 q13 q14 q15 q16 q17 q18 q19
  kernel_rfl
theorem flp_128 : flpG 128 := by
  intro zs sa sn sq a0 a1 a2 a3 a4 a5 a6 a7 a8 a9 a10 a11 a12 a13 a14 a15 a16 a17 a18 a19 n0 n1 n2 n3 n4 n5 n6 n7 n8 n9 n10 n11 n12 n13 n14 n15 n16 n17 n18 n19 q0 q1 q2 q3 q4 q5 q6 q7 q8 q9 q10 q11 q12 q13 q14 q15 q16 q17 q18 q19
  kernel_rfl
theorem flp_129 : flpG 129 := by
  intro zs sa sn sq a0 a1 a2 a3 a4 a5 a6 a7 a8 a9 a10 a11 a12 a13 a14 a15 a16 a17 a18 a19 n0 n1 n2 n3 n4 n5 n6 n7 n8 n9 n10 n11 n12 n13 n14 n15 n16 n17 n18 n19 q0 q1 q2 q3 q4 q5 q6 q7 q8 q9 q10 q11 q12 q13 q14 q15 q16 q17 q18 q19
  kernel_rfl
end

end Go.Proofs.YtecmhjhjmhliiaaDoor


/-
  The rounds of the document's quotient, read one by one (fln 0 to 32).
-/

namespace Go.Proofs.YtecmhjhjmhliiaaDoor

open Go.Den Go.RowKit
noncomputable section
set_option maxRecDepth 100000

theorem fln_0 : flnG 0 := by
  intro zs sa sn sq a0 a1 a2 a3 a4 a5 a6 a7 a8 a9 a10 a11 a12 a13 a14 a15 a16 a17 a18 a19 n0 n1 n2 n3 n4 n5 n6 n7 n8 n9 n10 n11 n12 n13 n14 n15 n16 n17 n18 n19 q0 q1 q2 q3 q4 q5 q6 q7 q8 q9 q10 q11 q12 q13 q14 q15 q16 q17 q18 q19
  kernel_rfl
theorem fln_1 : flnG 1 := by
  intro zs sa sn sq a0 a1 a2 a3 a4 a5 a6 a7 a8 a9 a10 a11 a12 a13 a14 a15 a16 a17 a18 a19 n0 n1 n2 n3 n4 n5 n6 n7 n8 n9 n10 n11 n12 n13 n14 n15 n16 n17 n18 n19 q0 q1 q2 q3 q4 q5 q6 q7 q8 q9 q10 q11 q12 q13 q14 q15 q16 q17 q18 q19
  kernel_rfl
theorem fln_2 : flnG 2 := by
  intro zs sa sn sq a0 a1 a2 a3 a4 a5 a6 a7 a8 a9 a10 a11 a12 a13 a14 a15 a16 a17 a18 a19 n0 n1 n2 n3 n4 n5 n6 n7 n8 n9 n10 n11 n12 n13 n14 n15 n16 n17 n18 n19 q0 q1 q2 q3 q4 q5 q6 q7 q8 q9 q10 q11 q12 q13 q14 q15 q16 q17 q18 q19
  kernel_rfl
theorem fln_3 : flnG 3 := by
  intro zs sa sn sq a0 a1 a2 a3 a4 a5 a6 a7 a8 a9 a10 a11 a12 a13 a14 a15 a16 a17 a18 a19 n0 n1 n2 n3 n4 n5 n6 n7 n8 n9 n10 n11 n12 n13 n14 n15 n16 n17 n18 n19 q0 q1 q2 q3 q4 q5 q6 q7 q8 q9 q10 q11 q12 q13 q14 q15 q16 q17 q18 q19
  kernel_rfl
theorem fln_4 : flnG 4 := by
  intro zs sa sn sq a0 a1 a2 a3 a4 a5 a6 a7 a8 a9 a10 a11 a12 a13 a14 a15 a16 a17 a18 a19 n0 n1 n2 n3 n4 n5 n6 n7 n8 n9 n10 n11 n12 n13 n14 n15 n16 n17 n18 n19 q0 q1 q2 q3 q4 q5 q6 q7 q8 q9 q10 q11 q12 q13 q14 q15 q16 q17 q18 q19
  kernel_rfl
theorem fln_5 : flnG 5 := by
  intro zs sa sn sq a0 a1 a2 a3 a4 a5 a6 a7 a8 a9 a10 a11 a12 a13 a14 a15 a16 a17 a18 a19 n0 n1 n2 n3 n4 n5 n6 n7 n8 n9 n10 n11 n12 n13 n14 n15 n16 n17 n18 n19 q0 q1 q2 q3 q4 q5 q6 q7 q8 q9 q10 q11 q12 q13 q14 q15 q16 q17 q18 q19
  kernel_rfl
theorem fln_6 : flnG 6 := by
  intro zs sa sn sq a0 a1 a2 a3 a4 a5 a6 a7 a8 a9 a10 a11 a12 a13 a14 a15 a16 a17 a18 a19 n0 n1 n2 n3 n4 n5 n6 n7 n8 n9 n10 n11 n12 n13 n14 n15 n16 n17 n18 n19 q0 q1 q2 q3 q4 q5 q6 q7 q8 q9 q10 q11 q12 q13 q14 q15 q16 q17 q18 q19
  kernel_rfl
theorem fln_7 : flnG 7 := by
  intro zs sa sn sq a0 a1 a2 a3 a4 a5 a6 a7 a8 a9 a10 a11 a12 a13 a14 a15 a16 a17 a18 a19 n0 n1 n2 n3 n4 n5 n6 n7 n8 n9 n10 n11 n12 n13 n14 n15 n16 n17 n18 n19 q0 q1 q2 q3 q4 q5 q6 q7 q8 q9 q10 q11 q12 q13 q14 q15 q16 q17 q18 q19
  kernel_rfl
theorem fln_8 : flnG 8 := by
  intro zs sa sn sq a0 a1 a2 a3 a4 a5 a6 a7 a8 a9 a10 a11 a12 a13 a14 a15 a16 a17 a18 a19 n0 n1 n2 n3 n4 n5 n6 n7 n8 n9 n10 n11 n12 n13 n14 n15 n16 n17 n18 n19 q0 q1 q2 q3 q4 q5 q6 q7 q8 q9 q10 q11 q12 q13 q14 q15 q16 q17 q18 q19
  kernel_rfl
theorem fln_9 : flnG 9 := by
  intro zs sa sn sq a0 a1 a2 a3 a4 a5 a6 a7 a8 a9 a10 a11 a12 a13 a14 a15 a16 a17 a18 a19 n0 n1 n2 n3 n4 n5 n6 n7 n8 n9 n10 n11 n12 n13 n14 n15 n16 n17 n18 n19 q0 q1 q2 q3 q4 q5 q6 q7 q8 q9 q10 q11 q12 q13 q14 q15 q16 q17 q18 q19
  kernel_rfl
theorem fln_10 : flnG 10 := by
  intro zs sa sn sq a0 a1 a2 a3 a4 a5 a6 a7 a8 a9 a10 a11 a12 a13 a14 a15 a16 a17 a18 a19 n0 n1 n2 n3 n4 n5 n6 n7 n8 n9 n10 n11 n12 n13 n14 n15 n16 n17 n18 n19 q0 q1 q2 q3 q4 q5 q6 q7 q8 q9 q10 q11 q12 q13 q14 q15 q16 q17 q18 q19
  kernel_rfl
theorem fln_11 : flnG 11 := by
  intro zs sa sn sq a0 a1 a2 a3 a4 a5 a6 a7 a8 a9 a10 a11 a12 a13 a14 a15 a16 a17 a18 a19 n0 n1 n2 n3 n4 n5 n6 n7 n8 n9 n10 n11 n12 n13 n14 n15 n16 n17 n18 n19 q0 q1 q2 q3 q4 q5 q6 q7 q8 q9 q10 q11 q12 q13 q14 q15 q16 q17 q18 q19
  kernel_rfl
theorem fln_12 : flnG 12 := by
  intro zs sa sn sq a0 a1 a2 a3 a4 a5 a6 a7 a8 a9 a10 a11 a12 a13 a14 a15 a16 a17 a18 a19 n0 n1 n2 n3 n4 n5 n6 n7 n8 n9 n10 n11 n12 n13 n14 n15 n16 n17 n18 n19 q0 q1 q2 q3 q4 q5 q6 q7 q8 q9 q10 q11 q12 q13 q14 q15 q16 q17 q18 q19
  kernel_rfl
theorem fln_13 : flnG 13 := by
  intro zs sa sn sq a0 a1 a2 a3 a4 a5 a6 a7 a8 a9 a10 a11 a12 a13 a14 a15 a16 a17 a18 a19 n0 n1 n2 n3 n4 n5 n6 n7 n8 n9 n10 n11 n12 n13 n14 n15 n16 n17 n18 n19 q0 q1 q2 q3 q4 q5 q6 q7 q8 q9 q10 q11 q12 q13 q14 q15 q16 q17 q18 q19
  kernel_rfl
theorem fln_14 : flnG 14 := by
  intro zs sa sn sq a0 a1 a2 a3 a4 a5 a6 a7 a8 a9 a10 a11 a12 a13 a14 a15 a16 a17 a18 a19 n0 n1 n2 n3 n4 n5 n6 n7 n8 n9 n10 n11 n12 n13 n14 n15 n16 n17 n18 n19 q0 q1 q2 q3 q4 q5 q6 q7 q8 q9 q10 q11 q12 q13 q14 q15 q16 q17 q18 q19
  kernel_rfl
theorem fln_15 : flnG 15 := by
  intro zs sa sn sq a0 a1 a2 a3 a4 a5 a6 a7 a8 a9 a10 a11 a12 a13 a14 a15 a16 a17 a18 a19 n0 n1 n2 n3 n4 n5 n6 n7 n8 n9 n10 n11 n12 n13 n14 n15 n16 n17 n18 n19 q0 q1 q2 q3 q4 q5 q6 q7 q8 q9 q10 q11 q12 q13 q14 q15 q16 q17 q18 q19
  kernel_rfl
theorem fln_16 : flnG 16 := by
  intro zs sa sn sq a0 a1 a2 a3 a4 a5 a6 a7 a8 a9 a10 a11 a12 a13 a14 a15 a16 a17 a18 a19 n0 n1 n2 n3 n4 n5 n6 n7 n8 n9 n10 n11 n12 n13 n14 n15 n16 n17 n18 n19 q0 q1 q2 q3 q4 q5 q6 q7 q8 q9 q10 q11 q12 q13 q14 q15 q16 q17 q18 q19
  kernel_rfl
theorem fln_17 : flnG 17 := by
  intro zs sa sn sq a0 a1 a2 a3 a4 a5 a6 a7 a8 a9 a10 a11 a12 a13 a14 a15 a16 a17 a18 a19 n0 n1 n2 n3 n4 n5 n6 n7 n8 n9 n10 n11 n12 n13 n14 n15 n16 n17 n18 n19 q0 q1 q2 q3 q4 q5 q6 q7 q8 q9 q10 q11 q12 q13 q14 q15 q16 q17 q18 q19
  kernel_rfl
theorem fln_18 : flnG 18 := by
  intro zs sa sn sq a0 a1 a2 a3 a4 a5 a6 a7 a8 a9 a10 a11 a12 a13 a14 a15 a16 a17 a18 a19 n0 n1 n2 n3 n4 n5 n6 n7 n8 n9 n10 n11 n12 n13 n14 n15 n16 n17 n18 n19 q0 q1 q2 q3 q4 q5 q6 q7 q8 q9 q10 q11 q12 q13 q14 q15 q16 q17 q18 q19
  kernel_rfl
theorem fln_19 : flnG 19 := by
  intro zs sa sn sq a0 a1 a2 a3 a4 a5 a6 a7 a8 a9 a10 a11 a12 a13 a14 a15 a16 a17 a18 a19 n0 n1 n2 n3 n4 n5 n6 n7 n8 n9 n10 n11 n12 n13 n14 n15 n16 n17 n18 n19 q0 q1 q2 q3 q4 q5 q6 q7 q8 q9 q10 q11 q12 q13 q14 q15 q16 q17 q18 q19
  kernel_rfl
theorem fln_20 : flnG 20 := by
  intro zs sa sn sq a0 a1 a2 a3 a4 a5 a6 a7 a8 a9 a10 a11 a12 a13 a14 a15 a16 a17 a18 a19 n0 n1 n2 n3 n4 n5 n6 n7 n8 n9 n10 n11 n12 n13 n14 n15 n16 n17 n18 n19 q0 q1 q2 q3 q4 q5 q6 q7 q8 q9 q10 q11 q12 q13 q14 q15 q16 q17 q18 q19
  kernel_rfl
theorem fln_21 : flnG 21 := by
  intro zs sa sn sq a0 a1 a2 a3 a4 a5 a6 a7 a8 a9 a10 a11 a12 a13 a14 a15 a16 a17 a18 a19 n0 n1 n2 n3 n4 n5 n6 n7 n8 n9 n10 n11 n12 n13 n14 n15 n16 n17 n18 n19 q0 q1 q2 q3 q4 q5 q6 q7 q8 q9 q10 q11 q12 q13 q14 q15 q16 q17 q18 q19
  kernel_rfl
theorem fln_22 : flnG 22 := by
  intro zs sa sn sq a0 a1 a2 a3 a4 a5 a6 a7 a8 a9 a10 a11 a12 a13 a14 a15 a16 a17 a18 a19 n0 n1 n2 n3 n4 n5 n6 n7 n8 n9 n10 n11 n12 n13 n14 n15 n16 n17 n18 n19 q0 q1 q2 q3 q4 q5 q6 q7 q8 q9 q10 q11 q12 q13 q14 q15 q16 q17 q18 q19
  kernel_rfl
theorem fln_23 : flnG 23 := by
  intro zs sa sn sq a0 a1 a2 a3 a4 a5 a6 a7 a8 a9 a10 a11 a12 a13 a14 a15 a16 a17 a18 a19 n0 n1 n2 n3 n4 n5 n6 n7 n8 n9 n10 n11 n12 n13 n14 n15 n16 n17 n18 n19 q0 q1 q2 q3 q4 q5 q6 q7 q8 q9 q10 q11 q12 q13 q14 q15 q16 q17 q18 q19
  kernel_rfl
theorem fln_24 : flnG 24 := by
  intro zs sa sn sq a0 a1 a2 a3 a4 a5 a6 a7 a8 a9 a10 a11 a12 a13 a14 a15 a16 a17 a18 a19 n0 n1 n2 n3 n4 n5 n6 n7 n8 n9 n10 n11 n12 n13 n14 n15 n16 n17 n18 n19 q0 q1 q2 q3 q4 q5 q6 q7 q8 q9 q10 q11 q12 q13 q14 q15 q16 q17 q18 q19
  kernel_rfl
theorem fln_25 : flnG 25 := by
  intro zs sa sn sq a0 a1 a2 a3 a4 a5 a6 a7 a8 a9 a10 a11 a12 a13 a14 a15 a16 a17 a18 a19 n0 n1 n2 n3 n4 n5 n6 n7 n8 n9 n10 n11 n12 n13 n14 n15 n16 n17 n18 n19 q0 q1 q2 q3 q4 q5 q6 q7 q8 q9 q10 q11 q12 q13 q14 q15 q16 q17 q18 q19
  kernel_rfl
theorem fln_26 : flnG 26 := by
  intro zs sa sn sq a0 a1 a2 a3 a4 a5 a6 a7 a8 a9 a10 a11 a12 a13 a14 a15 a16 a17 a18 a19 n0 n1 n2 n3 n4 n5 n6 n7 n8 n9 n10 n11 n12 n13 n14 n15 n16 n17 n18 n19 q0 q1 q2 q3 q4 q5 q6 q7 q8 q9 q10 q11 q12 q13 q14 q15 q16 q17 q18 q19
  kernel_rfl
theorem fln_27 : flnG 27 := by
  intro zs sa sn sq a0 a1 a2 a3 a4 a5 a6 a7 a8 a9 a10 a11 a12 a13 a14 a15 a16 a17 a18 a19 n0 n1 n2 n3 n4 n5 n6 n7 n8 n9 n10 n11 n12 n13 n14 n15 n16 n17 n18 n19 q0 q1 q2 q3 q4 q5 q6 q7 q8 q9 q10 q11 q12 q13 q14 q15 q16 q17 q18 q19
  kernel_rfl
theorem fln_28 : flnG 28 := by
  intro zs sa sn sq a0 a1 a2 a3 a4 a5 a6 a7 a8 a9 a10 a11 a12 a13 a14 a15 a16 a17 a18 a19 n0 n1 n2 n3 n4 n5 n6 n7 n8 n9 n10 n11 n12 n13 n14 n15 n16 n17 n18 n19 q0 q1 q2 q3 q4 q5 q6 q7 q8 q9 q10 q11 q12 q13 q14 q15 q16 q17 q18 q19
  kernel_rfl
theorem fln_29 : flnG 29 := by
  intro zs sa sn sq a0 a1 a2 a3 a4 a5 a6 a7 a8 a9 a10 a11 a12 a13 a14 a15 a16 a17 a18 a19 n0 n1 n2 n3 n4 n5 n6 n7 n8 n9 n10 n11 n12 n13 n14 n15 n16 n17 n18 n19 q0 q1 q2 q3 q4 q5 q6 q7 q8 q9 q10 q11 q12 q13 q14 q15 q16 q17 q18 q19
  kernel_rfl
theorem fln_30 : flnG 30 := by
  intro zs sa sn sq a0 a1 a2 a3 a4 a5 a6 a7 a8 a9 a10 a11 a12 a13 a14 a15 a16 a17 a18 a19 n0 n1 n2 n3 n4 n5 n6 n7 n8 n9 n10 n11 n12 n13 n14 n15 n16 n17 n18 n19 q0 q1 q2 q3 q4 q5 q6 q7 q8 q9 q10 q11 q12 q13 q14 q15 q16 q17 q18 q19
  kernel_rfl
theorem fln_31 : flnG 31 := by
  intro zs sa sn sq a0 a1 a2 a3 a4 a5 a6 a7 a8 a9 a10 a11 a12 a13 a14 a15 a16 a17 a18 a19 n0 n1 n2 n3 n4 n5 n6 n7 n8 n9 n10 n11 n12 n13 n14 n15 n16 n17 n18 n19 q0 q1 q2 q3 q4 q5 q6 q7 q8 q9 q10 q11 q12 q13 q14 q15 q16 q17 q18 q19
  kernel_rfl
theorem fln_32 : flnG 32 := by
  intro zs sa sn sq a0 a1 a2 a3 a4 a5 a6 a7 a8 a9 a10 a11 a12 a13 a14 a15 a16 a17 a18 a19 n0 n1 n2 n3 n4 n5 n6 n7 n8 n9 n10 n11 n12 n13 n14 n15 n16 n17 n18 n19 q0 q1 q2 q3 q4 q5 q6 q7 q8 q9 q10 q11 q12 q13 q14 q15 q16 q17 q18 q19
  kernel_rfl
end

end Go.Proofs.YtecmhjhjmhliiaaDoor


/-
  The rounds of the document's quotient, read one by one (fln 33 to 65).
-/

namespace Go.Proofs.YtecmhjhjmhliiaaDoor

open Go.Den Go.RowKit
noncomputable section
set_option maxRecDepth 100000

theorem fln_33 : flnG 33 := by
  intro zs sa sn sq a0 a1 a2 a3 a4 a5 a6 a7 a8 a9 a10 a11 a12 a13 a14 a15 a16 a17 a18 a19 n0 n1 n2 n3 n4 n5 n6 n7 n8 n9 n10 n11 n12 n13 n14 n15 n16 n17 n18 n19 q0 q1 q2 q3 q4 q5 q6 q7 q8 q9 q10 q11 q12 q13 q14 q15 q16 q17 q18 q19
  kernel_rfl
theorem fln_34 : flnG 34 := by
  intro zs sa sn sq a0 a1 a2 a3 a4 a5 a6 a7 a8 a9 a10 a11 a12 a13 a14 a15 a16 a17 a18 a19 n0 n1 n2 n3 n4 n5 n6 n7 n8 n9 n10 n11 n12 n13 n14 n15 n16 n17 n18 n19 q0 q1 q2 q3 q4 q5 q6 q7 q8 q9 q10 q11 q12 q13 q14 q15 q16 q17 q18 q19
  kernel_rfl
theorem fln_35 : flnG 35 := by
  intro zs sa sn sq a0 a1 a2 a3 a4 a5 a6 a7 a8 a9 a10 a11 a12 a13 a14 a15 a16 a17 a18 a19 n0 n1 n2 n3 n4 n5 n6 n7 n8 n9 n10 n11 n12 n13 n14 n15 n16 n17 n18 n19 q0 q1 q2 q3 q4 q5 q6 q7 q8 q9 q10 q11 q12 q13 q14 q15 q16 q17 q18 q19
  kernel_rfl
theorem fln_36 : flnG 36 := by
  intro zs sa sn sq a0 a1 a2 a3 a4 a5 a6 a7 a8 a9 a10 a11 a12 a13 a14 a15 a16 a17 a18 a19 n0 n1 n2 n3 n4 n5 n6 n7 n8 n9 n10 n11 n12 n13 n14 n15 n16 n17 n18 n19 q0 q1 q2 q3 q4 q5 q6 q7 q8 q9 q10 q11 q12 q13 q14 q15 q16 q17 q18 q19
  kernel_rfl
theorem fln_37 : flnG 37 := by
  intro zs sa sn sq a0 a1 a2 a3 a4 a5 a6 a7 a8 a9 a10 a11 a12 a13 a14 a15 a16 a17 a18 a19 n0 n1 n2 n3 n4 n5 n6 n7 n8 n9 n10 n11 n12 n13 n14 n15 n16 n17 n18 n19 q0 q1 q2 q3 q4 q5 q6 q7 q8 q9 q10 q11 q12 q13 q14 q15 q16 q17 q18 q19
  kernel_rfl
theorem fln_38 : flnG 38 := by
  intro zs sa sn sq a0 a1 a2 a3 a4 a5 a6 a7 a8 a9 a10 a11 a12 a13 a14 a15 a16 a17 a18 a19 n0 n1 n2 n3 n4 n5 n6 n7 n8 n9 n10 n11 n12 n13 n14 n15 n16 n17 n18 n19 q0 q1 q2 q3 q4 q5 q6 q7 q8 q9 q10 q11 q12 q13 q14 q15 q16 q17 q18 q19
  kernel_rfl
theorem fln_39 : flnG 39 := by
  intro zs sa sn sq a0 a1 a2 a3 a4 a5 a6 a7 a8 a9 a10 a11 a12 a13 a14 a15 a16 a17 a18 a19 n0 n1 n2 n3 n4 n5 n6 n7 n8 n9 n10 n11 n12 n13 n14 n15 n16 n17 n18 n19 q0 q1 q2 q3 q4 q5 q6 q7 q8 q9 q10 q11 q12 q13 q14 q15 q16 q17 q18 q19
  kernel_rfl
theorem fln_40 : flnG 40 := by
  intro zs sa sn sq a0 a1 a2 a3 a4 a5 a6 a7 a8 a9 a10 a11 a12 a13 a14 a15 a16 a17 a18 a19 n0 n1 n2 n3 n4 n5 n6 n7 n8 n9 n10 n11 n12 n13 n14 n15 n16 n17 n18 n19 q0 q1 q2 q3 q4 q5 q6 q7 q8 q9 q10 q11 q12 q13 q14 q15 q16 q17 q18 q19
  kernel_rfl
theorem fln_41 : flnG 41 := by
  intro zs sa sn sq a0 a1 a2 a3 a4 a5 a6 a7 a8 a9 a10 a11 a12 a13 a14 a15 a16 a17 a18 a19 n0 n1 n2 n3 n4 n5 n6 n7 n8 n9 n10 n11 n12 n13 n14 n15 n16 n17 n18 n19 q0 q1 q2 q3 q4 q5 q6 q7 q8 q9 q10 q11 q12 q13 q14 q15 q16 q17 q18 q19
  kernel_rfl
theorem fln_42 : flnG 42 := by
  intro zs sa sn sq a0 a1 a2 a3 a4 a5 a6 a7 a8 a9 a10 a11 a12 a13 a14 a15 a16 a17 a18 a19 n0 n1 n2 n3 n4 n5 n6 n7 n8 n9 n10 n11 n12 n13 n14 n15 n16 n17 n18 n19 q0 q1 q2 q3 q4 q5 q6 q7 q8 q9 q10 q11 q12 q13 q14 q15 q16 q17 q18 q19
  kernel_rfl
theorem fln_43 : flnG 43 := by
  intro zs sa sn sq a0 a1 a2 a3 a4 a5 a6 a7 a8 a9 a10 a11 a12 a13 a14 a15 a16 a17 a18 a19 n0 n1 n2 n3 n4 n5 n6 n7 n8 n9 n10 n11 n12 n13 n14 n15 n16 n17 n18 n19 q0 q1 q2 q3 q4 q5 q6 q7 q8 q9 q10 q11 q12 q13 q14 q15 q16 q17 q18 q19
  kernel_rfl
theorem fln_44 : flnG 44 := by
  intro zs sa sn sq a0 a1 a2 a3 a4 a5 a6 a7 a8 a9 a10 a11 a12 a13 a14 a15 a16 a17 a18 a19 n0 n1 n2 n3 n4 n5 n6 n7 n8 n9 n10 n11 n12 n13 n14 n15 n16 n17 n18 n19 q0 q1 q2 q3 q4 q5 q6 q7 q8 q9 q10 q11 q12 q13 q14 q15 q16 q17 q18 q19
  kernel_rfl
theorem fln_45 : flnG 45 := by
  intro zs sa sn sq a0 a1 a2 a3 a4 a5 a6 a7 a8 a9 a10 a11 a12 a13 a14 a15 a16 a17 a18 a19 n0 n1 n2 n3 n4 n5 n6 n7 n8 n9 n10 n11 n12 n13 n14 n15 n16 n17 n18 n19 q0 q1 q2 q3 q4 q5 q6 q7 q8 q9 q10 q11 q12 q13 q14 q15 q16 q17 q18 q19
  kernel_rfl
theorem fln_46 : flnG 46 := by
  intro zs sa sn sq a0 a1 a2 a3 a4 a5 a6 a7 a8 a9 a10 a11 a12 a13 a14 a15 a16 a17 a18 a19 n0 n1 n2 n3 n4 n5 n6 n7 n8 n9 n10 n11 n12 n13 n14 n15 n16 n17 n18 n19 q0 q1 q2 q3 q4 q5 q6 q7 q8 q9 q10 q11 q12 q13 q14 q15 q16 q17 q18 q19
  kernel_rfl
theorem fln_47 : flnG 47 := by
  intro zs sa sn sq a0 a1 a2 a3 a4 a5 a6 a7 a8 a9 a10 a11 a12 a13 a14 a15 a16 a17 a18 a19 n0 n1 n2 n3 n4 n5 n6 n7 n8 n9 n10 n11 n12 n13 n14 n15 n16 n17 n18 n19 q0 q1 q2 q3 q4 q5 q6 q7 q8 q9 q10 q11 q12 q13 q14 q15 q16 q17 q18 q19
  kernel_rfl
theorem fln_48 : flnG 48 := by
  intro zs sa sn sq a0 a1 a2 a3 a4 a5 a6 a7 a8 a9 a10 a11 a12 a13 a14 a15 a16 a17 a18 a19 n0 n1 n2 n3 n4 n5 n6 n7 n8 n9 n10 n11 n12 n13 n14 n15 n16 n17 n18 n19 q0 q1 q2 q3 q4 q5 q6 q7 q8 q9 q10 q11 q12 q13 q14 q15 q16 q17 q18 q19
  kernel_rfl
theorem fln_49 : flnG 49 := by
  intro zs sa sn sq a0 a1 a2 a3 a4 a5 a6 a7 a8 a9 a10 a11 a12 a13 a14 a15 a16 a17 a18 a19 n0 n1 n2 n3 n4 n5 n6 n7 n8 n9 n10 n11 n12 n13 n14 n15 n16 n17 n18 n19 q0 q1 q2 q3 q4 q5 q6 q7 q8 q9 q10 q11 q12 q13 q14 q15 q16 q17 q18 q19
  kernel_rfl
theorem fln_50 : flnG 50 := by
  intro zs sa sn sq a0 a1 a2 a3 a4 a5 a6 a7 a8 a9 a10 a11 a12 a13 a14 a15 a16 a17 a18 a19 n0 n1 n2 n3 n4 n5 n6 n7 n8 n9 n10 n11 n12 n13 n14 n15 n16 n17 n18 n19 q0 q1 q2 q3 q4 q5 q6 q7 q8 q9 q10 q11 q12 q13 q14 q15 q16 q17 q18 q19
  kernel_rfl
theorem fln_51 : flnG 51 := by
  intro zs sa sn sq a0 a1 a2 a3 a4 a5 a6 a7 a8 a9 a10 a11 a12 a13 a14 a15 a16 a17 a18 a19 n0 n1 n2 n3 n4 n5 n6 n7 n8 n9 n10 n11 n12 n13 n14 n15 n16 n17 n18 n19 q0 q1 q2 q3 q4 q5 q6 q7 q8 q9 q10 q11 q12 q13 q14 q15 q16 q17 q18 q19
  kernel_rfl
theorem fln_52 : flnG 52 := by
  intro zs sa sn sq a0 a1 a2 a3 a4 a5 a6 a7 a8 a9 a10 a11 a12 a13 a14 a15 a16 a17 a18 a19 n0 n1 n2 n3 n4 n5 n6 n7 n8 n9 n10 n11 n12 n13 n14 n15 n16 n17 n18 n19 q0 q1 q2 q3 q4 q5 q6 q7 q8 q9 q10 q11 q12 q13 q14 q15 q16 q17 q18 q19
  kernel_rfl
theorem fln_53 : flnG 53 := by
  intro zs sa sn sq a0 a1 a2 a3 a4 a5 a6 a7 a8 a9 a10 a11 a12 a13 a14 a15 a16 a17 a18 a19 n0 n1 n2 n3 n4 n5 n6 n7 n8 n9 n10 n11 n12 n13 n14 n15 n16 n17 n18 n19 q0 q1 q2 q3 q4 q5 q6 q7 q8 q9 q10 q11 q12 q13 q14 q15 q16 q17 q18 q19
  kernel_rfl
theorem fln_54 : flnG 54 := by
  intro zs sa sn sq a0 a1 a2 a3 a4 a5 a6 a7 a8 a9 a10 a11 a12 a13 a14 a15 a16 a17 a18 a19 n0 n1 n2 n3 n4 n5 n6 n7 n8 n9 n10 n11 n12 n13 n14 n15 n16 n17 n18 n19 q0 q1 q2 q3 q4 q5 q6 q7 q8 q9 q10 q11 q12 q13 q14 q15 q16 q17 q18 q19
  kernel_rfl
theorem fln_55 : flnG 55 := by
  intro zs sa sn sq a0 a1 a2 a3 a4 a5 a6 a7 a8 a9 a10 a11 a12 a13 a14 a15 a16 a17 a18 a19 n0 n1 n2 n3 n4 n5 n6 n7 n8 n9 n10 n11 n12 n13 n14 n15 n16 n17 n18 n19 q0 q1 q2 q3 q4 q5 q6 q7 q8 q9 q10 q11 q12 q13 q14 q15 q16 q17 q18 q19
  kernel_rfl
theorem fln_56 : flnG 56 := by
  intro zs sa sn sq a0 a1 a2 a3 a4 a5 a6 a7 a8 a9 a10 a11 a12 a13 a14 a15 a16 a17 a18 a19 n0 n1 n2 n3 n4 n5 n6 n7 n8 n9 n10 n11 n12 n13 n14 n15 n16 n17 n18 n19 q0 q1 q2 q3 q4 q5 q6 q7 q8 q9 q10 q11 q12 q13 q14 q15 q16 q17 q18 q19
  kernel_rfl
theorem fln_57 : flnG 57 := by
  intro zs sa sn sq a0 a1 a2 a3 a4 a5 a6 a7 a8 a9 a10 a11 a12 a13 a14 a15 a16 a17 a18 a19 n0 n1 n2 n3 n4 n5 n6 n7 n8 n9 n10 n11 n12 n13 n14 n15 n16 n17 n18 n19 q0 q1 q2 q3 q4 q5 q6 q7 q8 q9 q10 q11 q12 q13 q14 q15 q16 q17 q18 q19
  kernel_rfl
theorem fln_58 : flnG 58 := by
  intro zs sa sn sq a0 a1 a2 a3 a4 a5 a6 a7 a8 a9 a10 a11 a12 a13 a14 a15 a16 a17 a18 a19 n0 n1 n2 n3 n4 n5 n6 n7 n8 n9 n10 n11 n12 n13 n14 n15 n16 n17 n18 n19 q0 q1 q2 q3 q4 q5 q6 q7 q8 q9 q10 q11 q12 q13 q14 q15 q16 q17 q18 q19
  kernel_rfl
theorem fln_59 : flnG 59 := by
  intro zs sa sn sq a0 a1 a2 a3 a4 a5 a6 a7 a8 a9 a10 a11 a12 a13 a14 a15 a16 a17 a18 a19 n0 n1 n2 n3 n4 n5 n6 n7 n8 n9 n10 n11 n12 n13 n14 n15 n16 n17 n18 n19 q0 q1 q2 q3 q4 q5 q6 q7 q8 q9 q10 q11 q12 q13 q14 q15 q16 q17 q18 q19
  kernel_rfl
theorem fln_60 : flnG 60 := by
  intro zs sa sn sq a0 a1 a2 a3 a4 a5 a6 a7 a8 a9 a10 a11 a12 a13 a14 a15 a16 a17 a18 a19 n0 n1 n2 n3 n4 n5 n6 n7 n8 n9 n10 n11 n12 n13 n14 n15 n16 n17 n18 n19 q0 q1 q2 q3 q4 q5 q6 q7 q8 q9 q10 q11 q12 q13 q14 q15 q16 q17 q18 q19
  kernel_rfl
theorem fln_61 : flnG 61 := by
  intro zs sa sn sq a0 a1 a2 a3 a4 a5 a6 a7 a8 a9 a10 a11 a12 a13 a14 a15 a16 a17 a18 a19 n0 n1 n2 n3 n4 n5 n6 n7 n8 n9 n10 n11 n12 n13 n14 n15 n16 n17 n18 n19 q0 q1 q2 q3 q4 q5 q6 q7 q8 q9 q10 q11 q12 q13 q14 q15 q16 q17 q18 q19
  kernel_rfl
theorem fln_62 : flnG 62 := by
  intro zs sa sn sq a0 a1 a2 a3 a4 a5 a6 a7 a8 a9 a10 a11 a12 a13 a14 a15 a16 a17 a18 a19 n0 n1 n2 n3 n4 n5 n6 n7 n8 n9 n10 n11 n12 n13 n14 n15 n16 n17 n18 n19 q0 q1 q2 q3 q4 q5 q6 q7 q8 q9 q10 q11 q12 q13 q14 q15 q16 q17 q18 q19
  kernel_rfl
theorem fln_63 : flnG 63 := by
  intro zs sa sn sq a0 a1 a2 a3 a4 a5 a6 a7 a8 a9 a10 a11 a12 a13 a14 a15 a16 a17 a18 a19 n0 n1 n2 n3 n4 n5 n6 n7 n8 n9 n10 n11 n12 n13 n14 n15 n16 n17 n18 n19 q0 q1 q2 q3 q4 q5 q6 q7 q8 q9 q10 q11 q12 q13 q14 q15 q16 q17 q18 q19
  kernel_rfl
theorem fln_64 : flnG 64 := by
  intro zs sa sn sq a0 a1 a2 a3 a4 a5 a6 a7 a8 a9 a10 a11 a12 a13 a14 a15 a16 a17 a18 a19 n0 n1 n2 n3 n4 n5 n6 n7 n8 n9 n10 n11 n12 n13 n14 n15 n16 n17 n18 n19 q0 q1 q2 q3 q4 q5 q6 q7 q8 q9 q10 q11 q12 q13 q14 q15 q16 q17 q18 q19
  kernel_rfl
theorem fln_65 : flnG 65 := by
  intro zs sa sn sq a0 a1 a2 a3 a4 a5 a6 a7 a8 a9 a10 a11 a12 a13 a14 a15 a16 a17 a18 a19 n0 n1 n2 n3 n4 n5 n6 n7 n8 n9 n10 n11 n12 n13 n14 n15 n16 n17 n18 n19 q0 q1 q2 q3 q4 q5 q6 q7 q8 q9 q10 q11 q12 q13 q14 q15 q16 q17 q18 q19
  kernel_rfl
end

end Go.Proofs.YtecmhjhjmhliiaaDoor
