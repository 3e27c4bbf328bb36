
/-
  Rows of pieces of 16 bits, the lowest first: what they stand for; sums, products. No program is named here.
-/
import Derived.Test.YtbhgibpocbmipaaDenS
namespace Go.Proofs.Ytbhgibpocbmipaa
open Go.Den
noncomputable section

def val : List Int → Int
  | [] => 0
  | x :: r => x + 65536 * val r
def Pcs (l : List Int) : Prop := ∀ x ∈ l, 0 ≤ x ∧ x ≤ 65535
theorem Pcs.head {x : Int} {l : List Int} (h : Pcs (x :: l)) : 0 ≤ x ∧ x ≤ 65535 := h x (by simp)
theorem Pcs.tail {x : Int} {l : List Int} (h : Pcs (x :: l)) : Pcs l := fun y hy => h y (by simp [hy])
theorem Pcs.cons {x : Int} {l : List Int} (h : 0 ≤ x ∧ x ≤ 65535) (t : Pcs l) : Pcs (x :: l) := fun y hy => by
  rcases List.mem_cons.1 hy with rfl | hy
  · exact h
  · exact t y hy
theorem Pcs.nil : Pcs [] := fun _ h => by cases h
/-- The pieces of a number. -/
def digsN (k : Nat) : Int → List Int := Nat.rec (motive := fun _ => Int → List Int) (fun _ => []) (fun _ ih n => n % 65536 :: ih (n / 65536)) k
theorem digsN_s (k : Nat) (n : Int) : digsN (k + 1) n = n % 65536 :: digsN k (n / 65536) := rfl
def B16 (k : Nat) : Int := 65536 ^ k
theorem B16_s (k : Nat) : B16 (k + 1) = 65536 * B16 k := by unfold B16; rw [Int.pow_succ, Int.mul_comm]
theorem B16_0 : B16 0 = 1 := rfl
theorem B16_pos : ∀ k, 0 < B16 k
  | 0 => by rw [B16_0]; omega
  | k + 1 => by have := B16_pos k; rw [B16_s]; omega
theorem val_bd : ∀ {l : List Int}, Pcs l → 0 ≤ val l ∧ val l < B16 l.length
  | [], _ => by simp [val, B16]
  | x :: r, h => by
    have h1 := val_bd h.tail
    have h2 := h.head
    simp only [val, List.length_cons, B16_s]; omega
theorem digsN_len : ∀ (k : Nat) (n : Int), (digsN k n).length = k
  | 0, _ => rfl
  | k + 1, n => by rw [digsN_s, List.length_cons, digsN_len k]
theorem digsN_pcs : ∀ (k : Nat) (n : Int), Pcs (digsN k n)
  | 0, _ => .nil
  | k + 1, n => by rw [digsN_s]; exact .cons (by omega) (digsN_pcs k _)
theorem val_digsN : ∀ (k : Nat) (n : Int), 0 ≤ n → n < B16 k → val (digsN k n) = n
  | 0, n, h0, h1 => by rw [B16_0] at h1; show (0 : Int) = n; omega
  | k + 1, n, h0, h1 => by
    rw [B16_s] at h1
    rw [digsN_s, val, val_digsN k (n / 65536) (by omega) (by omega)]; omega
theorem digsN_val : ∀ {l : List Int}, Pcs l → digsN l.length (val l) = l
  | [], _ => rfl
  | x :: r, h => by
    have h2 := h.head
    rw [List.length_cons, digsN_s, val, show (x + 65536 * val r) % 65536 = x by omega, show (x + 65536 * val r) / 65536 = val r by omega, digsN_val h.tail]
def mapU (l : List Int) : List Value := List.rec (motive := fun _ => List Value) [] (fun x _ ih => Value.int .u64 x :: ih) l
def intV (v : Value) : Int :=
  match v with
  | .int _ n => n
  | _ => 0
def ints (r : List Value) : List Int := List.rec (motive := fun _ => List Int) [] (fun v _ ih => intV v :: ih) r
theorem ints_mapU : ∀ l : List Int, ints (mapU l) = l
  | [] => rfl
  | x :: r => by show x :: ints (mapU r) = x :: r; rw [ints_mapU r]
def okD (v : Value) : Bool :=
  match v with
  | .int .u64 n => decide (0 ≤ n) && decide (n ≤ 65535)
  | _ => false
def okNum (r : List Value) : Bool := Nat.beq r.length 20 && r.all okD
theorem okNum_out {r : List Value} (h : okNum r = true) : ∃ l, r = mapU l ∧ l.length = 20 ∧ Pcs l := by
  have key : ∀ r : List Value, r.all okD = true → ∃ l, r = mapU l ∧ l.length = r.length ∧ Pcs l := by
    intro r
    induction r with
    | nil => intro _; exact ⟨[], rfl, rfl, .nil⟩
    | cons v r ih =>
      intro h
      rw [List.all_cons, Bool.and_eq_true] at h
      obtain ⟨l, rfl, hl, hp⟩ := ih h.2
      have hv := h.1
      unfold okD at hv
      split at hv
      · rename_i n
        rw [Bool.and_eq_true, decide_eq_true_eq, decide_eq_true_eq] at hv
        exact ⟨n :: l, rfl, by rw [List.length_cons, List.length_cons, hl], .cons hv hp⟩
      · cases hv
  unfold okNum at h
  rw [Bool.and_eq_true, Nat.beq_eq] at h
  obtain ⟨l, e, hl, hp⟩ := key r h.2
  exact ⟨l, e, by omega, hp⟩
theorem mapU_len : ∀ l : List Int, (mapU l).length = l.length
  | [] => rfl
  | x :: r => by show (mapU r).length + 1 = r.length + 1; rw [mapU_len r]
theorem okNum_in {l : List Int} (h : l.length = 20) (p : Pcs l) : okNum (mapU l) = true := by
  unfold okNum
  rw [mapU_len, h, Bool.and_eq_true]
  refine ⟨rfl, ?_⟩
  clear h
  induction l with
  | nil => rfl
  | cons x r ih =>
    show (okD (.int .u64 x) && (mapU r).all okD) = true
    rw [ih p.tail, Bool.and_true]
    have := p.head
    simp only [okD, Bool.and_eq_true, decide_eq_true_eq]; exact this
def mag (r : List Value) : Int := val (ints r)
theorem mag_mapU (l : List Int) : mag (mapU l) = val l := by unfold mag; rw [ints_mapU]
/-- A number of the document: a sign, a size. -/
def nv (s : Bool) (n : Int) : Value := .agg ⟨.bool s :: mapU (digsN 20 n)⟩
def T320 : Int := 2135987035920910082395021706169552114602704522356652769947041607822219725780640550022962086936576
theorem T320_eq : B16 20 = T320 := by unfold T320 B16; rfl
theorem mag_nv {n : Int} (h0 : 0 ≤ n) (h1 : n < T320) : mag (mapU (digsN 20 n)) = n := by
  rw [mag_mapU]; exact val_digsN 20 n h0 (by rw [T320_eq]; exact h1)
theorem ok_nv (n : Int) : okNum (mapU (digsN 20 n)) = true := okNum_in (digsN_len _ _) (digsN_pcs _ _)
theorem nv_of {s : Bool} {l : List Int} {n : Int} (h : l.length = 20) (p : Pcs l) (e : val l = n) : Value.agg ⟨.bool s :: mapU l⟩ = nv s n := by
  unfold nv; rw [← e, ← h, digsN_val p]
theorem mag_bd {r : List Value} (h : okNum r = true) : 0 ≤ mag r ∧ mag r < T320 := by
  obtain ⟨l, rfl, hl, hp⟩ := okNum_out h
  rw [mag_mapU, ← T320_eq, ← hl]; exact val_bd hp
theorem nv_mag {s : Bool} {r : List Value} (h : okNum r = true) : Value.agg ⟨.bool s :: r⟩ = nv s (mag r) := by
  obtain ⟨l, rfl, hl, hp⟩ := okNum_out h
  rw [mag_mapU]; exact nv_of hl hp rfl

theorem w64 {n : Int} (h0 : 0 ≤ n) (h1 : n ≤ 18446744073709551615) : IntKind.wrap .u64 n = n := by rw [IntKind.wrap_u64]; omega
theorem td {o : Int} (h0 : 0 ≤ o) : Int.tdiv o 65536 = o / 65536 := Int.tdiv_eq_ediv_of_nonneg h0
theorem tm {o : Int} (h0 : 0 ≤ o) : Int.tmod o 65536 = o % 65536 := Int.tmod_eq_emod_of_nonneg h0
/-- A sum of two sizes, the last piece of the second left out. -/
def addGo (xs : List Int) : Int → List Int → List Int :=
  List.rec (motive := fun _ => Int → List Int → List Int) (fun o _ => [o]) (fun x _ ih o ys => List.casesOn (motive := fun _ => List Int) ys [o] (fun y ys =>
    Int.tmod (IntKind.wrap .u64 (o + y)) 65536 :: ih (IntKind.wrap .u64 (x + IntKind.wrap .u64 (Int.tdiv (IntKind.wrap .u64 (o + y)) 65536))) ys)) xs
theorem addGo_nil (o : Int) (ys : List Int) : addGo [] o ys = [o] := rfl
theorem addGo_cons (x : Int) (xs : List Int) (o y : Int) (ys : List Int) : addGo (x :: xs) o (y :: ys) =
    Int.tmod (IntKind.wrap .u64 (o + y)) 65536 :: addGo xs (IntKind.wrap .u64 (x + IntKind.wrap .u64 (Int.tdiv (IntKind.wrap .u64 (o + y)) 65536))) ys := rfl
theorem one_pcs {o : Int} (h : 0 ≤ o ∧ o ≤ 65535) : Pcs [o] := Pcs.cons h Pcs.nil
theorem val_one (o : Int) : val [o] = o := by rw [val, val]; omega
theorem B16_1 : B16 1 = 65536 := by rw [B16_s, B16_0, Int.mul_one]
theorem addGo_ok (xs : List Int) : ∀ (o : Int) (ys : List Int), Pcs xs → Pcs ys → xs.length ≤ ys.length → 0 ≤ o → o ≤ 65536 → o + 65536 * val xs + val (ys.take xs.length) < B16 (xs.length + 1) →
    Pcs (addGo xs o ys) ∧ (addGo xs o ys).length = xs.length + 1 ∧ val (addGo xs o ys) = o + 65536 * val xs + val (ys.take xs.length) := by
  induction xs with
  | nil =>
    intro o ys _ _ _ h0 _ h2
    rw [List.length_nil, Nat.zero_add, B16_1, List.take_zero, val] at h2
    rw [addGo_nil, List.length_nil, List.take_zero, val, val_one]
    exact ⟨one_pcs (by omega), rfl, by omega⟩
  | cons x xs ih =>
    intro o ys px py hl h0 h1 h2
    cases ys with
    | nil => simp at hl
    | cons y ys =>
      have hx := px.head; have hy := py.head
      have e1 : IntKind.wrap .u64 (o + y) = o + y := w64 (by omega) (by omega)
      have e2 : IntKind.wrap .u64 (Int.tdiv (o + y) 65536) = (o + y) / 65536 := by rw [td (by omega)]; exact w64 (by omega) (by omega)
      have e3 : IntKind.wrap .u64 (x + (o + y) / 65536) = x + (o + y) / 65536 := w64 (by omega) (by omega)
      rw [List.length_cons, List.take_succ_cons, val, val, B16_s] at h2
      rw [List.length_cons, List.length_cons] at hl
      obtain ⟨i1, i2, i3⟩ := ih (x + (o + y) / 65536) ys px.tail py.tail (by omega) (by omega) (by omega) (by omega)
      rw [addGo_cons, e1, e2, e3, tm (by omega)]
      refine ⟨.cons (by omega) i1, by rw [List.length_cons, i2, List.length_cons], ?_⟩
      rw [val, i3, List.length_cons, List.take_succ_cons, val, val]; omega
/-- A difference of two sizes, the first not the less. -/
def subGo (xs : List Int) : List Int → Int → List Int :=
  List.rec (motive := fun _ => List Int → Int → List Int) (fun _ _ => []) (fun x _ ih ys b => List.casesOn (motive := fun _ => List Int) ys [] (fun y ys =>
    Int.tmod (IntKind.wrap .u64 (IntKind.wrap .u64 (IntKind.wrap .u64 (x + 65536) - y) - b)) 65536 ::
      ih ys (IntKind.wrap .u64 (1 - IntKind.wrap .u64 (Int.tdiv (IntKind.wrap .u64 (IntKind.wrap .u64 (IntKind.wrap .u64 (x + 65536) - y) - b)) 65536))))) xs
theorem subGo_ok : ∀ (xs ys : List Int) (b : Int), Pcs xs → Pcs ys → xs.length = ys.length → 0 ≤ b → b ≤ 1 → 0 ≤ val xs - val ys - b →
    Pcs (subGo xs ys b) ∧ (subGo xs ys b).length = xs.length ∧ val (subGo xs ys b) = val xs - val ys - b
  | [], [], b, _, _, _, h0, h1, h2 => by
    simp only [val] at h2
    show Pcs [] ∧ 0 = 0 ∧ val [] = _
    refine ⟨.nil, rfl, ?_⟩
    simp only [val]; omega
  | [], y :: ys, b, _, _, hl, _, _, _ => by simp at hl
  | x :: xs, [], b, _, _, hl, _, _, _ => by simp at hl
  | x :: xs, y :: ys, b, px, py, hl, h0, h1, h2 => by
    have hx := px.head; have hy := py.head
    have e1 : IntKind.wrap .u64 (IntKind.wrap .u64 (IntKind.wrap .u64 (x + 65536) - y) - b) = x + 65536 - y - b := by
      rw [w64 (n := x + 65536) (by omega) (by omega), w64 (n := x + 65536 - y) (by omega) (by omega)]; exact w64 (by omega) (by omega)
    have e2 : IntKind.wrap .u64 (1 - IntKind.wrap .u64 (Int.tdiv (x + 65536 - y - b) 65536)) = 1 - (x + 65536 - y - b) / 65536 := by
      rw [td (by omega), w64 (n := (x + 65536 - y - b) / 65536) (by omega) (by omega)]; exact w64 (by omega) (by omega)
    have eq : subGo (x :: xs) (y :: ys) b = (x + 65536 - y - b) % 65536 :: subGo xs ys (1 - (x + 65536 - y - b) / 65536) := by
      show Int.tmod (IntKind.wrap .u64 (IntKind.wrap .u64 (IntKind.wrap .u64 (x + 65536) - y) - b)) 65536 ::
        subGo xs ys (IntKind.wrap .u64 (1 - IntKind.wrap .u64 (Int.tdiv (IntKind.wrap .u64 (IntKind.wrap .u64 (IntKind.wrap .u64 (x + 65536) - y) - b)) 65536))) = _
      rw [e1, e2, tm (by omega)]
    simp only [List.length_cons, val] at h2 hl ⊢
    obtain ⟨i1, i2, i3⟩ := subGo_ok xs ys (1 - (x + 65536 - y - b) / 65536) px.tail py.tail (by omega) (by omega) (by omega) (by omega)
    rw [eq]
    refine ⟨.cons (by omega) i1, by rw [List.length_cons, i2], ?_⟩
    rw [val, i3]; omega
/-- A row, and a piece's products with another row on it. -/
def addRow (x : Int) (os : List Int) : List Int → List Int :=
  List.rec (motive := fun _ => List Int → List Int) (fun _ => []) (fun o os ih ys => List.casesOn (motive := fun _ => List Int) ys (o :: os) (fun y ys => IntKind.wrap .u64 (o + IntKind.wrap .u64 (x * y)) :: ih ys)) os
def mrow (x : Int) (i : Nat) : List Int → List Int → List Int :=
  Nat.rec (motive := fun _ => List Int → List Int → List Int) (fun os ys => addRow x os ys) (fun _ ih os ys => List.casesOn (motive := fun _ => List Int) os [] fun o os => o :: ih os ys) i
def carryGo (r : List Int) : Int → List Int :=
  List.rec (motive := fun _ => Int → List Int) (fun o => [o]) (fun p _ ih o => Int.tmod o 65536 :: ih (IntKind.wrap .u64 (p + IntKind.wrap .u64 (Int.tdiv o 65536)))) r
def carry (os : List Int) : List Int := List.casesOn (motive := fun _ => List Int) os [] fun o r => carryGo r o
def mulGo (b : List Int) (xs : List Int) : Nat → List Int → List Int :=
  List.rec (motive := fun _ => Nat → List Int → List Int) (fun _ os => os) (fun x _ ih i os => ih (i + 1) (carry (mrow x i os b))) xs
/-- Pieces on the way: not above 2^33. -/
def Big (l : List Int) : Prop := ∀ x ∈ l, 0 ≤ x ∧ x ≤ 8589934592
theorem Big.head {x : Int} {l : List Int} (h : Big (x :: l)) : 0 ≤ x ∧ x ≤ 8589934592 := h x (by simp)
theorem Big.tail {x : Int} {l : List Int} (h : Big (x :: l)) : Big l := fun y hy => h y (by simp [hy])
theorem Big.cons {x : Int} {l : List Int} (h : 0 ≤ x ∧ x ≤ 8589934592) (t : Big l) : Big (x :: l) := fun y hy => by
  rcases List.mem_cons.1 hy with rfl | hy
  · exact h
  · exact t y hy
theorem Pcs.big {l : List Int} (h : Pcs l) : Big l := fun x hx => by have := h x hx; omega
theorem addRow_ok {x : Int} (hx : 0 ≤ x ∧ x ≤ 65535) : ∀ (os ys : List Int), Pcs os → Pcs ys → os.length ≤ ys.length →
    Big (addRow x os ys) ∧ (addRow x os ys).length = os.length ∧ val (addRow x os ys) = val os + x * val (ys.take os.length)
  | [], ys, _, _, _ => by
    refine ⟨fun _ h => (by cases h), rfl, ?_⟩
    rw [List.length_nil, List.take_zero]
    show (0 : Int) = 0 + x * 0
    omega
  | o :: os, [], _, _, hl => by simp at hl
  | o :: os, y :: ys, po, py, hl => by
    have ho := po.head; have hy := py.head
    have p0 : 0 ≤ x * y := Int.mul_nonneg hx.1 hy.1
    have p1 : x * y ≤ 65535 * 65535 := Int.mul_le_mul hx.2 hy.2 hy.1 (by omega)
    have e : IntKind.wrap .u64 (o + IntKind.wrap .u64 (x * y)) = o + x * y := by
      rw [w64 (n := x * y) p0 (by omega)]; exact w64 (by omega) (by omega)
    have eq : addRow x (o :: os) (y :: ys) = (o + x * y) :: addRow x os ys := by
      show IntKind.wrap .u64 (o + IntKind.wrap .u64 (x * y)) :: addRow x os ys = _
      rw [e]
    simp only [List.length_cons] at hl
    obtain ⟨i1, i2, i3⟩ := addRow_ok hx os ys po.tail py.tail (by omega)
    rw [eq]
    refine ⟨.cons (by omega) i1, by rw [List.length_cons, i2, List.length_cons], ?_⟩
    rw [val, i3, List.length_cons, List.take_succ_cons, val, val, Int.mul_add x y, Int.mul_left_comm x 65536]; omega
theorem mrow_ok {x : Int} (hx : 0 ≤ x ∧ x ≤ 65535) : ∀ (i : Nat) (os ys : List Int), Pcs os → Pcs ys → os.length ≤ ys.length + i → i ≤ os.length →
    Big (mrow x i os ys) ∧ (mrow x i os ys).length = os.length ∧ val (mrow x i os ys) = val os + B16 i * (x * val (ys.take (os.length - i)))
  | 0, os, ys, po, py, hl, _ => by
    obtain ⟨i1, i2, i3⟩ := addRow_ok hx os ys po py (by omega)
    refine ⟨i1, i2, ?_⟩
    show val (addRow x os ys) = _
    rw [i3, B16_0, Int.one_mul, Nat.sub_zero]
  | i + 1, [], ys, _, _, _, hi => by simp at hi
  | i + 1, o :: os, ys, po, py, hl, hi => by
    simp only [List.length_cons] at hl hi
    obtain ⟨i1, i2, i3⟩ := mrow_ok hx i os ys po.tail py (by omega) (by omega)
    have ho := po.head
    show Big (o :: mrow x i os ys) ∧ (o :: mrow x i os ys).length = _ ∧ val (o :: mrow x i os ys) = _
    refine ⟨.cons (by omega) i1, by rw [List.length_cons, i2, List.length_cons], ?_⟩
    rw [val, i3, List.length_cons, val, B16_s, Nat.add_sub_add_right, Int.mul_add, Int.mul_assoc]; omega
theorem carryGo_nil (o : Int) : carryGo [] o = [o] := rfl
theorem carryGo_cons (p : Int) (r : List Int) (o : Int) : carryGo (p :: r) o = Int.tmod o 65536 :: carryGo r (IntKind.wrap .u64 (p + IntKind.wrap .u64 (Int.tdiv o 65536))) := rfl
theorem carryGo_ok (r : List Int) : ∀ (o : Int), Big r → 0 ≤ o → o ≤ 8590196736 → o + 65536 * val r < B16 (r.length + 1) →
    Pcs (carryGo r o) ∧ (carryGo r o).length = r.length + 1 ∧ val (carryGo r o) = o + 65536 * val r := by
  induction r with
  | nil =>
    intro o _ h0 _ h2
    rw [List.length_nil, Nat.zero_add, B16_1, val] at h2
    rw [carryGo_nil, List.length_nil, val, val_one]
    exact ⟨one_pcs (by omega), rfl, by omega⟩
  | cons p r ih =>
    intro o hb h0 h1 h2
    have hp := hb.head
    have e1 : IntKind.wrap .u64 (p + IntKind.wrap .u64 (Int.tdiv o 65536)) = p + o / 65536 := by
      rw [td h0, w64 (n := o / 65536) (by omega) (by omega)]; exact w64 (by omega) (by omega)
    rw [List.length_cons, val, B16_s] at h2
    obtain ⟨i1, i2, i3⟩ := ih (p + o / 65536) hb.tail (by omega) (by omega) (by omega)
    rw [carryGo_cons, e1, tm h0]
    refine ⟨.cons (by omega) i1, by rw [List.length_cons, i2, List.length_cons], ?_⟩
    rw [val, i3, val]; omega
theorem carry_ok {os : List Int} (hb : Big os) (hl : os.length = 20) (h : val os < T320) : Pcs (carry os) ∧ (carry os).length = 20 ∧ val (carry os) = val os := by
  cases os with
  | nil => simp at hl
  | cons o r =>
    simp only [List.length_cons] at hl
    have ho := hb.head
    have hr : r.length + 1 = 20 := hl
    rw [← T320_eq, ← hr] at h
    obtain ⟨i1, i2, i3⟩ := carryGo_ok r o hb.tail ho.1 (by omega) h
    exact ⟨i1, by rw [← hr]; exact i2, i3⟩
theorem val_take : ∀ (l : List Int) (k : Nat), Pcs l → val l < B16 k → val (l.take k) = val l
  | [], k, _, _ => by rw [List.take_nil]
  | x :: r, 0, h, h1 => by
    rw [B16_0] at h1
    have := (val_bd h).1
    rw [List.take_zero]; show (0 : Int) = _; omega
  | x :: r, k + 1, h, h1 => by
    have hx := h.head
    rw [val, B16_s] at h1
    rw [List.take_succ_cons, val, val, val_take r k h.tail (by omega)]
theorem mul_gap {x v : Int} {i : Nat} (hi : i ≤ 20) (hx : 0 ≤ x) (hv : 0 ≤ v) (h : B16 i * (x * v) < B16 20) (h0 : x ≠ 0) : v < B16 (20 - i) := by
  have e : B16 20 = B16 i * B16 (20 - i) := by unfold B16; rw [← Int.pow_add]; congr 1; omega
  rw [e] at h
  have h2 := Int.lt_of_mul_lt_mul_left h (Int.le_of_lt (B16_pos i))
  have h3 : 1 * v ≤ x * v := Int.mul_le_mul_of_nonneg_right (by omega) hv
  omega
theorem mulGo_ok {ys : List Int} (py : Pcs ys) (ly : ys.length = 20) : ∀ (xs : List Int) (i : Nat) (os : List Int), Pcs xs → Pcs os → os.length = 20 → xs.length + i = 20 → val os + B16 i * (val xs * val ys) < T320 →
    Pcs (mulGo ys xs i os) ∧ (mulGo ys xs i os).length = 20 ∧ val (mulGo ys xs i os) = val os + B16 i * (val xs * val ys)
  | [], i, os, _, po, lo, _, _ => by
    refine ⟨po, lo, ?_⟩
    show val os = val os + B16 i * (0 * val ys)
    rw [Int.zero_mul, Int.mul_zero, Int.add_zero]
  | x :: xs, i, os, px, po, lo, li, hb => by
    have hx := px.head
    have hy := (val_bd py).1
    have hxs := (val_bd px.tail).1
    have hos := (val_bd po).1
    simp only [List.length_cons] at li
    have e0 : B16 i * (val (x :: xs) * val ys) = B16 i * (x * val ys) + B16 (i + 1) * (val xs * val ys) := by
      rw [val, B16_s, Int.add_mul, Int.mul_add, Int.mul_assoc 65536 (val xs), Int.mul_left_comm (B16 i) 65536, Int.mul_assoc 65536 (B16 i)]
    have n1 : 0 ≤ B16 i * (x * val ys) := Int.mul_nonneg (Int.le_of_lt (B16_pos i)) (Int.mul_nonneg hx.1 hy)
    have n2 : 0 ≤ B16 (i + 1) * (val xs * val ys) := Int.mul_nonneg (Int.le_of_lt (B16_pos _)) (Int.mul_nonneg hxs hy)
    rw [e0] at hb ⊢
    obtain ⟨i1, i2, i3⟩ := mrow_ok hx i os ys po py (by omega) (by omega)
    have e1 : x * val (ys.take (os.length - i)) = x * val ys := by
      by_cases hz : x = 0
      · rw [hz, Int.zero_mul, Int.zero_mul]
      · rw [lo, val_take ys (20 - i) py (mul_gap (by omega) hx.1 hy (by rw [T320_eq]; omega) hz)]
    rw [e1] at i3
    obtain ⟨j1, j2, j3⟩ := carry_ok i1 (by rw [i2, lo]) (by rw [i3]; omega)
    obtain ⟨k1, k2, k3⟩ := mulGo_ok py ly xs (i + 1) (carry (mrow x i os ys)) px.tail j1 j2 (by omega) (by rw [j3, i3]; omega)
    refine ⟨k1, k2, ?_⟩
    show val (mulGo ys xs (i + 1) (carry (mrow x i os ys))) = _
    rw [k3, j3, i3]; omega
/-- The rows from the top: which is the greater one. -/
def sizeP (xs : List Int) : List Int → (Int → Prop) → Prop :=
  List.rec (motive := fun _ => List Int → (Int → Prop) → Prop) (fun _ Q => Q 0) (fun x _ ih ys Q => List.casesOn (motive := fun _ => Prop) ys (Q 0) fun y ys => bcase (decide (x < y)) (Q (-1)) (bcase (decide (x > y)) (Q 1) (ih ys Q))) xs
def zeroP (xs : List Int) : (Bool → Prop) → Prop :=
  List.rec (motive := fun _ => (Bool → Prop) → Prop) (fun Q => Q true) (fun x _ ih Q => bcase (decide (x > 0)) (Q false) (ih Q)) xs
end
end Go.Proofs.Ytbhgibpocbmipaa
